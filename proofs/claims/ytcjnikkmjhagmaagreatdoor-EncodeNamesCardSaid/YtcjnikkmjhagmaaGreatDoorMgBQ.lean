import Derived.Test.YtcjnikkmjhagmaaGreatDoorMgBM
import Derived.Test.YtcjnikkmjhagmaaGreatDoorMgAS
import Derived.Test.YtcjnikkmjhagmaaGreatDoorMgBO
import Derived.Test.YtcjnikkmjhagmaaGreatDoorMgBP
namespace Go.Proofs.YtcjnikkmjhagmaaGreatDoor
open Go.RowKit
set_option linter.unusedVariables false
set_option linter.unusedSimpArgs false
theorem Snap.two {H : AHeap} {x y x' y' : AV} (h : Snap H x x') (k : Snap H y y') : Snap H (.tup [x, y]) (.tup [x', y']) := .tup _ _ rfl fun i a b e1 e2 => by
  match i with
  | 0 => simp at e1 e2; subst e1 e2; exact h
  | 1 => simp at e1 e2; subst e1 e2; exact k
  | i + 2 => simp at e1
theorem Wa961a {A B : Prop} (h9 : B) (w : B → A := by (intro h9; (repeat intro K hK); refine ⟨?_⟩; (repeat (first | (first | (with_reducible first | refine AX_block ?_ | refine AX_skip ?_ | refine AX_exit ?_ | refine AX_ret ?_ | refine AX_ift ?_ | refine AX_iff ?_ | refine AX_seq_k (fun K hK => ?_) | refine ContX.use (by assumption) ?_) | simp only [thenX, inBlockX, if_true, if_false, reduceCtorEq]) | (first | ((with_reducible refine XOP tyOK ?_); simp (disch := omega) only [go_sem , iOps, iFlat, iInts, iBools, hs1, hs2, hs3, flatO_p, flatO_k, flatO_s, flatO_e, flatO_r, List.length_nil]; (with_reducible refine XRes_id ?_)) | (with_reducible refine XSK ?_)) | ((with_reducible refine XRes_nil ?_); refine hK _ ?_; clear hK K) | ((with_reducible refine AX_reg0 fun K hK => ?_); simp only [go_sem]) | (first | (first | refine XTL (by rfl) hZ ?_ | refine XTL (by rfl) hCk ?_ | refine XTL (by rfl) hAll ?_ | refine XTL (by rfl) (pf_pending _) ?_) | ((refine XRes_slot (by rfl) rfl (PF.tells (idsA rfl) (fun _ => rfl) hMay) ?_); (rintro r H' ⟨rfl, rfl⟩); (simp only [putL, List.set_cons_succ, List.set_cons_zero]))))); refine Wk.o ?_; (repeat revert hK K); exact h9)) : A := w h9
set_option maxRecDepth 100000 in
set_option maxHeartbeats 8000000 in
theorem pf_Play (o : Ob) (l : List Op5) (ord : List Int) (inn : List Bool) (hr : o.R.length ≤ 100000) (ho : o.Ok) (hl : l.length ≤ 100000) (hs : okS l) (hol : ord.length ≤ 1000000) (hil : inn.length ≤ 1000000) : PF Tryz.prog 41 [obA o, .iv (iOps l), .iv (iInts ord), .iv (iBools inn)] fun r H' => r = .tup [.iv (iInts (plXs o l ord inn)), lt (.bool (plB o l ord inn))] ∧ H' = [] := by
  refine SF.frozen ?_
  have hs1 := trivial; have hs2 := trivial; have hs3 := trivial; have hMay := trivial
  have hZ := pf_mSize o l hr ho hl hs
  have hCk := pf_nCheck (mN o l) (mS o l)
  have hAll := pf_mAll (l.length) ord hol
  by_cases hok : nOk (mN o l) (mS o l)
  · by_cases hal : mAll l.length ord = true
    · by_cases hin : inn.length = l.length
      · obtain ⟨hm, hln, hS1, hS2⟩ := m_nOk hok
        rw [nCheck_yes hok] at hCk
        have hok' := hok
        rw [(m_yes hm).1, (m_yes hm).2] at hZ hCk hok
        have hob := hm.1
        have hat := fun k hk => mAll_at (k := k) hal hk
        have hall := hal
        rw [hal] at hAll
        clear hm
        have hyes := fun (h1 : ∀ i, i < l.length → plIn l inn i) (h2 : ∀ k, k < l.length → plGo o l ord inn k = true) => pl_yes (o := o) (l := l) (ord := ord) (inn := inn) ⟨hok', hall, hin, h1, h2⟩
        have hnoI := fun (i : Nat) (hi : i < l.length) (h : ¬ plIn l inn i) => pl_no (o := o) (l := l) (ord := ord) (inn := inn) fun hh => h (hh.2.2.2.1 i hi)
        have hnoG := fun (i : Nat) (hi : i < l.length) (h : ¬ plGo o l ord inn i = true) => pl_no (o := o) (l := l) (ord := ord) (inn := inn) fun hh => h (hh.2.2.2.2 i hi)
        obtain ⟨S0, K0, I0, R0⟩ := o
        simp only at hS1 hS2 hok hZ hCk
        obtain ⟨m, rfl⟩ : ∃ m : Nat, S0 = m := ⟨S0.toNat, by omega⟩
        have hordl := (mAll_iff.1 hall).1
        clear hok' hall hal
        (refine SF_of_bodyX (aload tt) (aload_ok tyOK) Tryz.func41 rfl (by kernel_rfl) ?_; simp only [Tryz.ntmps41, List.length_cons, List.length_nil, Nat.reduceAdd, Nat.reduceSub, List.replicate_succ, List.replicate_zero, List.cons_append, List.nil_append])
        unfold iOps iFlat iInts iBools
        (refine Wk.o ?_; (repeat revert hK K); refine Wa961a ?_; (repeat intro K hK); refine ⟨?_⟩)
        (refine AWH (σ := Nat) [41, 42, 43, 44, 11, 10, 45, 46, 47, 48, 49, 50, 51, 52, 53, 54, 8, 9, 55] (fun i => [(40, lint i)]) (fun i => [some ⟨24, [lt (.int .i64 m), lt (.int .i64 K0), lt (.int .i64 I0), .iv (iRws R0)]⟩]) (fun i => []) (fun i => i ≤ l.length ∧ ∀ j, j < i → plIn l inn j) (fun i => l.length - i) 0 (by first | exact ⟨Nat.zero_le _, fun j h => absurd h (by omega)⟩) ?_; rintro i d fr hfr ⟨hi, hj⟩; simp only [updS, deadS, List.set_cons_succ, List.set_cons_zero, lint] at hfr; subst hfr; (try dsimp only))
        by_cases hlt : i < l.length
        · by_cases hp : plIn l inn i
          · have hj' : ∀ j, j < i + 1 → plIn l inn j := fun j h => by
              rcases Nat.lt_or_ge j i with h1 | h1
              · exact hj j h1
              · rw [show j = i by omega]; exact hp
            by_cases he : (oAt l i).e = -1
            · (refine Wk.o ?_; (repeat revert hK K); refine Wa961a ?_; (repeat intro K hK); refine ⟨?_⟩)
              exact WRN [0] (i + 1) ⟨by omega, hj'⟩ (by (first | omega | (dsimp only; omega) | (simp only; omega)))
            · have hs1 : inn.getD i false = true := hp.resolve_left he
              (refine Wk.o ?_; (repeat revert hK K); refine Wa961a ?_; (repeat intro K hK); refine ⟨?_⟩)
              exact WRN [0] (i + 1) ⟨by omega, hj'⟩ (by (first | omega | (dsimp only; omega) | (simp only; omega)))
          · have he : (oAt l i).e ≠ -1 := fun h => hp (.inl h)
            have hs1 : inn.getD i false = false := by
              cases h : inn.getD i false with
              | false => rfl
              | true => exact absurd (Or.inr h) hp
            obtain ⟨e1, e2⟩ := hnoI i hlt hp
            (refine Wk.o ?_; (repeat revert hK K); refine Wa961a ?_; (repeat intro K hK); refine ⟨?_⟩)
            (simp only [bodyX]; refine ⟨_, by simp only [aresults, aresult, XS.as, Tryz.results41, aload, go_sem, Option.bind_some]; rfl, ?_⟩)
            exact ⟨_, Snap.two (.iv _ _ (.nil _ _)) (.same _ (.iv _)), by rw [e1, e2]; rfl, trivial⟩
        · obtain rfl : i = l.length := by omega
          (refine Wk.o ?_; (repeat revert hK K); refine Wa961a ?_; (repeat intro K hK); refine ⟨?_⟩)
          refine AX_ren [0, 1] [61] ?fr2 [some ⟨24, [lt (.int .i64 m), lt (.int .i64 K0), lt (.int .i64 I0), .iv (iRws R0)]⟩, some ⟨3, [lint I0]⟩] (by decide) (by decide) (by (simp (disch := omega) only [go_sem, lint])) (by (simp (disch := omega) only [go_sem, lint])) (by (simp (disch := omega) only [go_sem, lint])) ?hfr (fun d2 => ?_)
          case hfr =>
            (simp (disch := omega) only [go_sem, lint])
            rfl
          simp only [deadS, List.set_cons_succ, List.set_cons_zero]
          (refine AWH (σ := Nat × List Int) [65, 66, 67, 16, 68, 69, 70, 71, 73, 74, 75, 76, 77, 78, 79, 72, 80, 81, 17, 18, 82, 83, 8, 9, 84, 85, 86, 87, 88, 89] (fun (k, xs) => [(64, lint k), (13, lint (plSt ⟨↑m, K0, I0, R0⟩ l ord inn k)), (14, .osl 1 0 (k + 1) 1)]) (fun (k, xs) => [some ⟨24, [lt (.int .i64 m), lt (.int .i64 K0), lt (.int .i64 I0), .iv (iRws R0)]⟩, some ⟨3, xs.map lint⟩]) (fun (k, xs) => []) (fun (k, xs) => k ≤ l.length ∧ xs = plRow ⟨↑m, K0, I0, R0⟩ l ord inn k ∧ ∀ j, j < k → plGo ⟨↑m, K0, I0, R0⟩ l ord inn j = true) (fun (k, xs) => l.length - k) (0, [I0]) (by first | exact ⟨Nat.zero_le _, rfl, fun j h => absurd h (by omega)⟩) ?_; rintro ⟨k, xs⟩ d fr hfr ⟨hk, hx, hg⟩; simp only [updS, deadS, List.set_cons_succ, List.set_cons_zero, lint] at hfr; subst hfr; (try dsimp only))
          have hxl : xs.length = k + 1 := by rw [hx, plRow_len]
          have hidl : idL (named 7 []) (xs.map lint) = true := idL_lint _ _
          have hrnl : rnL (newNo 7 []) (xs.map lint) = xs.map lint := rnL_lint _ _
          by_cases hlt : k < l.length
          · obtain ⟨q, hq, hqe⟩ := hat k hlt
            have hop : plOp ord k = q := by unfold plOp; rw [hqe]; rfl
            have hs1 := hqe
            by_cases hv : inn.getD q false = true
            · have hs2 := hv
              have hMay := pf_tmay ⟨↑m, K0, I0, R0⟩ (oAt l q) (plSt ⟨↑m, K0, I0, R0⟩ l ord inn k) hr
              unfold mayA at hMay
              cases hm : mvMay ⟨↑m, K0, I0, R0⟩ (oAt l q) (plSt ⟨↑m, K0, I0, R0⟩ l ord inn k) with
              | true =>
                rw [hm] at hMay
                have hst : plSt ⟨↑m, K0, I0, R0⟩ l ord inn (k + 1) = mvTo ⟨↑m, K0, I0, R0⟩ (oAt l q) (plSt ⟨↑m, K0, I0, R0⟩ l ord inn k) := by show (if _ then _ else _) = _; rw [hop, if_pos hv]
                rw [← hst] at hMay
                (refine Wk.o ?_; (repeat revert hK K); refine Wa961a ?_; (repeat intro K hK); refine ⟨?_⟩)
                refine WRN [0, 3] (k + 1, xs ++ [plSt ⟨↑m, K0, I0, R0⟩ l ord inn (k + 1)]) ⟨by omega, by rw [plRow_succ, hx], fun j hj => ?_⟩ (by (first | omega | (dsimp only; omega) | (simp only; omega)))
                rcases Nat.lt_or_ge j k with h | h
                · exact hg j h
                · rw [show j = k by omega]; unfold plGo; rw [hop, hm, Bool.or_true]
              | false =>
                rw [hm] at hMay
                obtain ⟨e1, e2⟩ := hnoG k hlt (by unfold plGo; rw [hop, hm, hv]; decide)
                (refine Wk.o ?_; (repeat revert hK K); refine Wa961a ?_; (repeat intro K hK); refine ⟨?_⟩)
                (simp only [bodyX]; refine ⟨_, by simp only [aresults, aresult, XS.as, Tryz.results41, aload, go_sem, Option.bind_some]; rfl, ?_⟩)
                exact ⟨_, Snap.two (.iv _ _ (.nil _ _)) (.same _ (.iv _)), by rw [e1, e2]; rfl, trivial⟩
            · have hv : inn.getD q false = false := by simpa using hv
              have hs2 := hv
              have hst : plSt ⟨↑m, K0, I0, R0⟩ l ord inn (k + 1) = plSt ⟨↑m, K0, I0, R0⟩ l ord inn k := by show (if _ then _ else _) = _; rw [hop, if_neg (by rw [hv]; decide)]
              (refine Wk.o ?_; (repeat revert hK K); refine Wa961a ?_; (repeat intro K hK); refine ⟨?_⟩)
              refine whx_ren [0, 3] (k + 1, xs ++ [plSt ⟨↑m, K0, I0, R0⟩ l ord inn (k + 1)]) ⟨by omega, by rw [plRow_succ, hx], fun j hj => ?_⟩ (by (first | omega | (dsimp only; omega) | (simp only; omega))) rfl (by decide) (by decide) (by (simp (disch := omega) only [go_sem, lint])) (by (simp (disch := omega) only [go_sem, lint])) (by rw [hst]; (simp (disch := omega) only [go_sem, lint])) (fun d => by rw [hst]; (simp (disch := omega) only [go_sem, lint]))
              rcases Nat.lt_or_ge j k with h | h
              · exact hg j h
              · rw [show j = k by omega]; unfold plGo; rw [hop, hv]; rfl
          · obtain rfl : k = l.length := by omega
            obtain ⟨e1, e2⟩ := hyes hj hg
            (refine Wk.o ?_; (repeat revert hK K); refine Wa961a ?_; (repeat intro K hK); refine ⟨?_⟩)
            (simp only [bodyX]; refine ⟨_, by simp only [aresults, aresult, XS.as, Tryz.results41, aload, go_sem, Option.bind_some]; rfl, ?_⟩)
            exact ⟨_, Snap.two (snap_ints rfl hxl.symm) (.same _ (.iv _)), by rw [e1, e2, hx]; rfl, trivial⟩
      · have hno : ¬ plOk o l ord inn := fun h => hin h.2.2.1
        rw [nCheck_yes hok] at hCk
        rw [hal] at hAll
        (refine SF_of_bodyX (aload tt) (aload_ok tyOK) Tryz.func41 rfl (by kernel_rfl) ?_; simp only [Tryz.ntmps41, List.length_cons, List.length_nil, Nat.reduceAdd, Nat.reduceSub, List.replicate_succ, List.replicate_zero, List.cons_append, List.nil_append])
        unfold iOps iFlat iInts iBools
        (refine Wk.o ?_; (repeat revert hK K); refine Wa961a ?_; (repeat intro K hK); refine ⟨?_⟩)
        ((simp only [bodyX]; refine ⟨_, by simp only [aresults, aresult, XS.as, Tryz.results41, aload, go_sem, Option.bind_some]; rfl, ?_⟩); exact ⟨_, Snap.two (.iv _ _ (.nil _ _)) (.same _ (.iv _)), by rw [(pl_no hno).1, (pl_no hno).2]; rfl, trivial⟩)
    · have hno : ¬ plOk o l ord inn := fun h => hal h.2.1
      have hal : mAll l.length ord = false := by simpa using hal
      rw [nCheck_yes hok] at hCk
      rw [hal] at hAll
      (refine SF_of_bodyX (aload tt) (aload_ok tyOK) Tryz.func41 rfl (by kernel_rfl) ?_; simp only [Tryz.ntmps41, List.length_cons, List.length_nil, Nat.reduceAdd, Nat.reduceSub, List.replicate_succ, List.replicate_zero, List.cons_append, List.nil_append])
      unfold iOps iFlat iInts iBools
      (refine Wk.o ?_; (repeat revert hK K); refine Wa961a ?_; (repeat intro K hK); refine ⟨?_⟩)
      ((simp only [bodyX]; refine ⟨_, by simp only [aresults, aresult, XS.as, Tryz.results41, aload, go_sem, Option.bind_some]; rfl, ?_⟩); exact ⟨_, Snap.two (.iv _ _ (.nil _ _)) (.same _ (.iv _)), by rw [(pl_no hno).1, (pl_no hno).2]; rfl, trivial⟩)
  · have hno : ¬ plOk o l ord inn := fun h => hok h.1
    rw [nCheck_no hok] at hCk
    (refine SF_of_bodyX (aload tt) (aload_ok tyOK) Tryz.func41 rfl (by kernel_rfl) ?_; simp only [Tryz.ntmps41, List.length_cons, List.length_nil, Nat.reduceAdd, Nat.reduceSub, List.replicate_succ, List.replicate_zero, List.cons_append, List.nil_append])
    unfold iOps iFlat iInts iBools
    (refine Wk.o ?_; (repeat revert hK K); refine Wa961a ?_; (repeat intro K hK); refine ⟨?_⟩)
    ((simp only [bodyX]; refine ⟨_, by simp only [aresults, aresult, XS.as, Tryz.results41, aload, go_sem, Option.bind_some]; rfl, ?_⟩); exact ⟨_, Snap.two (.iv _ _ (.nil _ _)) (.same _ (.iv _)), by rw [(pl_no hno).1, (pl_no hno).2]; rfl, trivial⟩)
end Go.Proofs.YtcjnikkmjhagmaaGreatDoor
namespace Go.Proofs.YtcjnikkmjhagmaaGreatDoor
open Go.RowKit
section
variable {M : List Bool}
end
section
variable {n : Nat} {m : Int} {M : List Bool}
end
end Go.Proofs.YtcjnikkmjhagmaaGreatDoor
namespace Go.Proofs.YtcjnikkmjhagmaaGreatDoor
open Go.RowKit
set_option linter.unusedVariables false
set_option linter.unusedSimpArgs false
theorem frz_lb {HD : AHeap} {o : Nat} {t : TypeId} {xs : List Bool} {n : Nat} (h : HD[o]? = some (some ⟨t, xs.map lb⟩)) (hn : n = xs.length) : FrzV HD (.osl o 0 n 1) (.iv (iBools xs)) := by
  subst hn
  exact .iv _ _ (SnapC.lits (fun j => .bool (xs.getD j false)) h fun j hj => by rw [Nat.zero_add]; exact lb_at hj)
def inF (n m : Int) (M : List Bool) (i : Nat) : Bool := tAt M (nVar n m 2 i 0)
def ibU (N : Nat) (n m : Int) (M : List Bool) : Nat → List Bool
  | 0 => List.replicate N false
  | k + 1 => (ibU N n m M k).set k (inF n m M k)
theorem ibU_len (N : Nat) (n m : Int) (M : List Bool) : ∀ k, (ibU N n m M k).length = N
  | 0 => by simp [ibU]
  | k + 1 => by unfold ibU; rw [List.length_set]; exact ibU_len N n m M k
def inT (l : List Op5) (n m : Int) (M : List Bool) : List Bool := ibU l.length n m M l.length
def sayP (o : Ob) (l : List Op5) (M : List Bool) : Prop := eE o l = 0 ∧ ooOk (mN o l) (mS o l) M ∧ fb (agE (ooX (mN o l) (mS o l) M) (oPairL l l.length)) (prN l) = prN l ∧ sxOk (mN o l) (mS o l) M ∧ plB o l (ooX (mN o l) (mS o l) M) (inT l (mN o l) (mS o l) M) = true ∧ sxX (mN o l) (mS o l) M = plXs o l (ooX (mN o l) (mS o l) M) (inT l (mN o l) (mS o l) M)
instance (o : Ob) (l : List Op5) (M : List Bool) : Decidable (sayP o l M) := by unfold sayP; infer_instance
theorem pair_bd {o : Ob} {l : List Op5} (h : eE o l = 0) (k : Nat) : -9223372036854775808 ≤ (oPairL l l.length).getD k 0 ∧ (oPairL l l.length).getD k 0 ≤ 9223372036854775807 := by
  obtain ⟨hm, hl, _⟩ := eE_ok h
  obtain ⟨z, h1, h2⟩ := pg_pairs (oGood_of hm.2) l.length (Nat.le_refl _)
  rcases Nat.lt_or_ge k (oPairL l l.length).length with hk | hk
  · have := h2 (k / 2) (by omega)
    unfold tmG at this
    rcases Nat.mod_two_eq_zero_or_one k with e | e
    · rw [show k / 2 * 2 = k by omega] at this; omega
    · rw [show k / 2 * 2 + 1 = k by omega] at this; omega
  · rw [List.getD_eq_getElem?_getD, List.getElem?_eq_none hk]; decide
theorem ooX_bd {n m : Int} {M : List Bool} (h : ooOk n m M) : (ooX n m M).length = n.toNat ∧ ∀ k, 0 ≤ (ooX n m M).getD k 0 ∧ (ooX n m M).getD k 0 ≤ 64 := by
  obtain ⟨hok, hl, hg⟩ := h
  rw [(oo_yes ⟨hok, hl, hg⟩).1]
  obtain ⟨N, S, rfl, rfl, hN, hS⟩ := nOk_nat hok
  rw [Int.toNat_natCast] at hg ⊢
  have ho := oo_ord hg
  refine ⟨ooU_len _ _ _ _, fun k => ?_⟩
  rcases Nat.lt_or_ge k N with hk | hk
  · obtain ⟨a, ha, e, _⟩ := ho.2.1 k hk
    rw [e]; omega
  · rw [List.getD_eq_getElem?_getD, List.getElem?_eq_none (by rw [ooU_len]; exact hk)]; decide
theorem Wa123a {A B : Prop} (h9 : B) (w : B → A := by (intro h9; (repeat intro K hK); refine ⟨?_⟩; (repeat (first | (first | (with_reducible first | refine AX_block ?_ | refine AX_skip ?_ | refine AX_exit ?_ | refine AX_ret ?_ | refine AX_ift ?_ | refine AX_iff ?_ | refine AX_seq_k (fun K hK => ?_) | refine ContX.use (by assumption) ?_) | simp only [thenX, inBlockX, if_true, if_false, reduceCtorEq]) | (first | ((with_reducible refine XOP tyOK ?_); simp (disch := omega) only [go_sem , szA, iBools, hs1, hs2, hs3, hs4, Int.add_sub_cancel, rep_lb, Int.toNat_zero, Int.toNat_one, List.length_nil]; (with_reducible refine XRes_id ?_)) | (with_reducible refine XSK ?_)) | ((with_reducible refine XRes_nil ?_); refine hK _ ?_; clear hK K) | ((with_reducible refine AX_reg0 fun K hK => ?_); simp only [go_sem]) | (first | (first | refine XTL (by rfl) hF ?_ | refine XTL (by rfl) hO ?_ | refine XTL (by rfl) hPr ?_ | refine XTL (by rfl) hA ?_ | refine XTL (by rfl) hR ?_ | refine XTL (by rfl) hV ?_ | refine XTL (by rfl) hP ?_ | refine XTL (by rfl) hE ?_)))); refine Wk.o ?_; (repeat revert hK K); exact h9)) : A := w h9
set_option maxRecDepth 100000 in
set_option maxHeartbeats 8000000 in
theorem pf_Says (o : Ob) (l : List Op5) (M : List Bool) (hr : o.R.length ≤ 100000) (ho : o.Ok) (hl : l.length ≤ 100000) (hs : okS l) (hM : M.length ≤ 1000000) : PF Tryz.prog 12 [obA o, .iv (iOps l), .iv (iBools M)] fun r H' => r = lt (.bool (decide (sayP o l M))) ∧ H' = [] := by
  refine SF.forgetAll ?_
  have hs1 := trivial; have hs2 := trivial; have hs3 := trivial; have hs4 := trivial
  have hO := trivial; have hPr := trivial; have hA := trivial; have hR := trivial; have hV := trivial; have hP := trivial; have hE := trivial
  have hF := pf_eFits o l hr ho hl hs
  by_cases he : eE o l = 0
  · obtain ⟨hm, hln, hok, _, _, hv9⟩ := eE_ok he
    have hO := pf_Order (mN o l) (mS o l) M hM
    have hR := pf_Row (mN o l) (mS o l) M hM
    have hPr := pf_PairsN l (by omega)
    rw [he] at hF
    by_cases ho1 : ooOk (mN o l) (mS o l) M
    · obtain ⟨hxl, hxb⟩ := ooX_bd ho1
      rw [decide_eq_true ho1] at hO
      have hpl := pairs_le l l.length
      have hll2 : l.length * l.length ≤ 64 * 64 := Nat.mul_le_mul hln hln
      obtain ⟨z, hz⟩ := pairs_even l l.length
      have hnl := (m_yes hm).1
      have hA := pf_Against (ooX (mN o l) (mS o l) M) (oPairL l l.length) (prN l) (by rw [hxl, hnl]; omega) (by unfold prN; omega) (by unfold prN; omega) (fun k => by have := hxb k; omega) (pair_bd he)
      by_cases ha1 : fb (agE (ooX (mN o l) (mS o l) M) (oPairL l l.length)) (prN l) = prN l
      · rw [decide_eq_true ha1] at hA
        by_cases hs5 : sxOk (mN o l) (mS o l) M
        · rw [decide_eq_true hs5] at hR
          have hfin : (decide (sayP o l M)) = (plB o l (ooX (mN o l) (mS o l) M) (inT l (mN o l) (mS o l) M) && decide (sxX (mN o l) (mS o l) M = plXs o l (ooX (mN o l) (mS o l) M) (inT l (mN o l) (mS o l) M))) := by
            rw [Bool.eq_iff_iff, decide_eq_true_iff, Bool.and_eq_true, decide_eq_true_iff]
            unfold sayP
            exact ⟨fun h => ⟨h.2.2.2.2.1, h.2.2.2.2.2⟩, fun h => ⟨he, ho1, ha1, hs5, h.1, h.2⟩⟩
          rw [hfin]
          clear hfin
          have hMl := ho1.2.1
          have hvb : ∀ i : Nat, i < l.length → 1 ≤ nVar (mN o l) (mS o l) 2 i 0 ∧ nVar (mN o l) (mS o l) 2 i 0 ≤ M.length := fun i hi => by
            rw [hMl]; exact nVar_pos (nName_2 hok (by omega) (by rw [hnl]; omega))
          have hV := fun i => pf_nVar (mN o l) (mS o l) 2 i 0
          have hP := pf_Play o l (ooX (mN o l) (mS o l) M) (inT l (mN o l) (mS o l) M) hr ho hl hs (by rw [hxl, hnl]; omega) (by unfold inT; rw [ibU_len]; omega)
          have hXl : (sxX (mN o l) (mS o l) M).length ≤ 100000 := by rw [(sx_yes hs5).1, sxR_len, hnl]; omega
          have hYl : (plXs o l (ooX (mN o l) (mS o l) M) (inT l (mN o l) (mS o l) M)).length ≤ 100000 := by
            unfold plXs; split
            · rw [plRow_len]; omega
            · simp
          have hE := pf_eqInts (sxX (mN o l) (mS o l) M) (plXs o l (ooX (mN o l) (mS o l) M) (inT l (mN o l) (mS o l) M)) (by omega) (by omega)
          unfold inT at hP hE hYl ⊢
          clear hpl hll2 hz hv9
          generalize plB o l (ooX (mN o l) (mS o l) M) (ibU l.length (mN o l) (mS o l) M l.length) = B at *
          generalize plXs o l (ooX (mN o l) (mS o l) M) (ibU l.length (mN o l) (mS o l) M l.length) = Y at *
          have hsb : (decide (sxX (mN o l) (mS o l) M = Y)) = (decide (sxX (mN o l) (mS o l) M = Y)) := rfl
          generalize decide (sxX (mN o l) (mS o l) M = Y) = D at *
          generalize sxX (mN o l) (mS o l) M = X at *
          generalize ooX (mN o l) (mS o l) M = R at *
          have hlen := ibU_len l.length (mN o l) (mS o l) M
          cases B with
          | true =>
            (refine SF_of_bodyX (aload tt) (aload_ok tyOK) Tryz.func12 rfl (by kernel_rfl) ?_; simp only [Tryz.ntmps12, List.length_cons, List.length_nil, Nat.reduceAdd, Nat.reduceSub, List.replicate_succ, List.replicate_zero, List.cons_append, List.nil_append])
            unfold iBools iOps iFlat
            have hV0 := hV
            have hV := trivial
            (refine Wk.o ?_; (repeat revert hK K); refine Wa123a ?_; (repeat intro K hK); refine ⟨?_⟩)
            rw [show List.replicate l.length false = ibU l.length (mN o l) (mS o l) M 0 from rfl]
            (refine AWH (σ := Nat) [56, 57, 15, 58, 59, 60, 61, 62, 63, 64, 65, 66, 67, 68, 69] (fun k => [(55, lint k)]) (fun k => [some ⟨24, [lt (.int .i64 o.S), lt (.int .i64 o.K), lt (.int .i64 o.I), .iv (iRws o.R)]⟩, some ⟨51, [lt (.int .i64 (mN o l)), lt (.int .i64 (mS o l))]⟩, some ⟨4, (ibU l.length (mN o l) (mS o l) M k).map lb⟩]) (fun k => []) (fun k => k ≤ l.length) (fun k => l.length - k) 0 (by first | exact Nat.zero_le _) ?_; rintro k d fr hfr hk; simp only [updS, deadS, List.set_cons_succ, List.set_cons_zero, lint] at hfr; subst hfr; (try dsimp only))
            have hlk := hlen k
            by_cases hlt : k < l.length
            · have hV := hV0 k
              have hb := hvb k hlt
              have e1 : ibU l.length (mN o l) (mS o l) M (k + 1) = (ibU l.length (mN o l) (mS o l) M k).set k (M.getD (nVar (mN o l) (mS o l) 2 k 0 - 1).toNat false) := rfl
              generalize nVar (mN o l) (mS o l) 2 k 0 = v at *
              (refine Wk.o ?_; (repeat revert hK K); refine Wa123a ?_; (repeat intro K hK); refine ⟨?_⟩)
              exact whx_ren [0, 1, 2] (k + 1) (by omega) (by (first | omega | (dsimp only; omega) | (simp only; omega))) rfl (by decide) (by decide) (by (simp (disch := omega) only [go_sem, lint])) (by (simp (disch := omega) only [go_sem, lint])) (by rw [e1]; (simp (disch := omega) only [go_sem, lint])) (fun d => by (simp (disch := omega) only [go_sem, lint]))
            · obtain rfl : k = l.length := by omega
              (refine Wk.o ?_; (repeat revert hK K); refine Wa123a ?_; (repeat intro K hK); refine ⟨?_⟩)
              refine XRes_freeze [2] [(74, .iv (iBools (ibU l.length (mN o l) (mS o l) M l.length)))] (fun p hp => ?_) ?_
              · rw [List.mem_singleton.1 hp]; exact frz_lb (only_mk (by decide) rfl) hlk.symm
              simp only [setN, updS, List.set_cons_succ, List.set_cons_zero]
              (refine Wk.o ?_; (repeat revert hK K); refine Wa123a ?_; (repeat intro K hK); refine ⟨?_⟩)
              (simp only [bodyX]; refine ⟨_, by simp only [aresults, aresult, XS.as, Tryz.results12, aload, go_sem, Option.bind_some]; rfl, ?_⟩)
              exact ⟨ids_idB rfl, rfl, trivial⟩
          | false =>
            have hE := trivial
            (refine SF_of_bodyX (aload tt) (aload_ok tyOK) Tryz.func12 rfl (by kernel_rfl) ?_; simp only [Tryz.ntmps12, List.length_cons, List.length_nil, Nat.reduceAdd, Nat.reduceSub, List.replicate_succ, List.replicate_zero, List.cons_append, List.nil_append])
            unfold iBools iOps iFlat
            have hV0 := hV
            have hV := trivial
            (refine Wk.o ?_; (repeat revert hK K); refine Wa123a ?_; (repeat intro K hK); refine ⟨?_⟩)
            rw [show List.replicate l.length false = ibU l.length (mN o l) (mS o l) M 0 from rfl]
            (refine AWH (σ := Nat) [56, 57, 15, 58, 59, 60, 61, 62, 63, 64, 65, 66, 67, 68, 69] (fun k => [(55, lint k)]) (fun k => [some ⟨24, [lt (.int .i64 o.S), lt (.int .i64 o.K), lt (.int .i64 o.I), .iv (iRws o.R)]⟩, some ⟨51, [lt (.int .i64 (mN o l)), lt (.int .i64 (mS o l))]⟩, some ⟨4, (ibU l.length (mN o l) (mS o l) M k).map lb⟩]) (fun k => []) (fun k => k ≤ l.length) (fun k => l.length - k) 0 (by first | exact Nat.zero_le _) ?_; rintro k d fr hfr hk; simp only [updS, deadS, List.set_cons_succ, List.set_cons_zero, lint] at hfr; subst hfr; (try dsimp only))
            have hlk := hlen k
            by_cases hlt : k < l.length
            · have hV := hV0 k
              have hb := hvb k hlt
              have e1 : ibU l.length (mN o l) (mS o l) M (k + 1) = (ibU l.length (mN o l) (mS o l) M k).set k (M.getD (nVar (mN o l) (mS o l) 2 k 0 - 1).toNat false) := rfl
              generalize nVar (mN o l) (mS o l) 2 k 0 = v at *
              (refine Wk.o ?_; (repeat revert hK K); refine Wa123a ?_; (repeat intro K hK); refine ⟨?_⟩)
              exact whx_ren [0, 1, 2] (k + 1) (by omega) (by (first | omega | (dsimp only; omega) | (simp only; omega))) rfl (by decide) (by decide) (by (simp (disch := omega) only [go_sem, lint])) (by (simp (disch := omega) only [go_sem, lint])) (by rw [e1]; (simp (disch := omega) only [go_sem, lint])) (fun d => by (simp (disch := omega) only [go_sem, lint]))
            · obtain rfl : k = l.length := by omega
              (refine Wk.o ?_; (repeat revert hK K); refine Wa123a ?_; (repeat intro K hK); refine ⟨?_⟩)
              refine XRes_freeze [2] [(74, .iv (iBools (ibU l.length (mN o l) (mS o l) M l.length)))] (fun p hp => ?_) ?_
              · rw [List.mem_singleton.1 hp]; exact frz_lb (only_mk (by decide) rfl) hlk.symm
              simp only [setN, updS, List.set_cons_succ, List.set_cons_zero]
              (refine Wk.o ?_; (repeat revert hK K); refine Wa123a ?_; (repeat intro K hK); refine ⟨?_⟩)
              (simp only [bodyX]; refine ⟨_, by simp only [aresults, aresult, XS.as, Tryz.results12, aload, go_sem, Option.bind_some]; rfl, ?_⟩)
              exact ⟨ids_idB rfl, rfl, trivial⟩
        · have hno : ¬ sayP o l M := fun h => hs5 h.2.2.2.1
          rw [decide_eq_false hs5] at hR
          (refine SF_of_bodyX (aload tt) (aload_ok tyOK) Tryz.func12 rfl (by kernel_rfl) ?_; simp only [Tryz.ntmps12, List.length_cons, List.length_nil, Nat.reduceAdd, Nat.reduceSub, List.replicate_succ, List.replicate_zero, List.cons_append, List.nil_append])
          unfold iBools
          (refine Wk.o ?_; (repeat revert hK K); refine Wa123a ?_; (repeat intro K hK); refine ⟨?_⟩)
          ((simp only [bodyX]; refine ⟨_, by simp only [aresults, aresult, XS.as, Tryz.results12, aload, go_sem, Option.bind_some]; rfl, ?_⟩); exact ⟨ids_idB rfl, by rw [decide_eq_false hno], trivial⟩)
      · have hno : ¬ sayP o l M := fun h => ha1 h.2.2.1
        rw [decide_eq_false ha1] at hA
        have hR := trivial
        (refine SF_of_bodyX (aload tt) (aload_ok tyOK) Tryz.func12 rfl (by kernel_rfl) ?_; simp only [Tryz.ntmps12, List.length_cons, List.length_nil, Nat.reduceAdd, Nat.reduceSub, List.replicate_succ, List.replicate_zero, List.cons_append, List.nil_append])
        unfold iBools
        (refine Wk.o ?_; (repeat revert hK K); refine Wa123a ?_; (repeat intro K hK); refine ⟨?_⟩)
        ((simp only [bodyX]; refine ⟨_, by simp only [aresults, aresult, XS.as, Tryz.results12, aload, go_sem, Option.bind_some]; rfl, ?_⟩); exact ⟨ids_idB rfl, by rw [decide_eq_false hno], trivial⟩)
    · have hno : ¬ sayP o l M := fun h => ho1 h.2.1
      rw [decide_eq_false ho1] at hO
      have hR := trivial
      (refine SF_of_bodyX (aload tt) (aload_ok tyOK) Tryz.func12 rfl (by kernel_rfl) ?_; simp only [Tryz.ntmps12, List.length_cons, List.length_nil, Nat.reduceAdd, Nat.reduceSub, List.replicate_succ, List.replicate_zero, List.cons_append, List.nil_append])
      unfold iBools
      (refine Wk.o ?_; (repeat revert hK K); refine Wa123a ?_; (repeat intro K hK); refine ⟨?_⟩)
      ((simp only [bodyX]; refine ⟨_, by simp only [aresults, aresult, XS.as, Tryz.results12, aload, go_sem, Option.bind_some]; rfl, ?_⟩); exact ⟨ids_idB rfl, by rw [decide_eq_false hno], trivial⟩)
  · have hno : ¬ sayP o l M := fun h => he h.1
    generalize eE o l = E at *
    (refine SF_of_bodyX (aload tt) (aload_ok tyOK) Tryz.func12 rfl (by kernel_rfl) ?_; simp only [Tryz.ntmps12, List.length_cons, List.length_nil, Nat.reduceAdd, Nat.reduceSub, List.replicate_succ, List.replicate_zero, List.cons_append, List.nil_append])
    unfold iBools
    (refine Wk.o ?_; (repeat revert hK K); refine Wa123a ?_; (repeat intro K hK); refine ⟨?_⟩)
    ((simp only [bodyX]; refine ⟨_, by simp only [aresults, aresult, XS.as, Tryz.results12, aload, go_sem, Option.bind_some]; rfl, ?_⟩); exact ⟨ids_idB rfl, by rw [decide_eq_false hno], trivial⟩)
end Go.Proofs.YtcjnikkmjhagmaaGreatDoor
