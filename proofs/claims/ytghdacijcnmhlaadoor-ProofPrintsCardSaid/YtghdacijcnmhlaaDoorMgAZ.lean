import Derived.Test.YtghdacijcnmhlaaDoorMgAY
import Derived.ScopeJumps
import Derived.Test.YtghdacijcnmhlaaDoorMgAJ
import Derived.Test.YtghdacijcnmhlaaDoorMgAH
import Derived.Test.YtghdacijcnmhlaaDoorMgAK
import Derived.Shelf.Small.Strs
namespace Go.Proofs.YtghdacijcnmhlaaDoor
open Go.RowKit
set_option linter.unusedVariables false
def jumpX (R : Nat → XS → Prop) (Q : Exit → XS → Prop) : Exit → XS → Prop
  | .goto l, s => R l s
  | e, s => Q e s
section
variable {P : Program} {m : Nat} {Q : Exit → XS → Prop} {s : XS}
theorem AX_jumps {c : Code} (J : Nat → Nat → XS → Prop) (first : AX P m c (jumpX (fun l s' => LeadX m s' fun s1 => ∃ n, J l n s1) Q) s)
    (pass : ∀ l n s, J l n s → ∃ rest, findLabel c l = some rest ∧ AX P m rest (jumpX (fun l' s' => LeadX m s' fun s1 => ∃ k, k < n ∧ J l' k s1) Q) s) : AX P m (.scope c) Q s := fun G0 G a w hm hl hM hr b k cs => by
  have hg : ∀ l rest, findLabel c l = some rest → gotoIn l (.inScope c :: k) = some (.code rest :: .inScope c :: k) := fun l rest hf => by simp [gotoIn, hf]
  have key : ∀ n l s, J l n s → ∀ G a w, m ≤ s.H.length → Gh.leb m G0 G → MOK G0.kp G s.M → Rst G s.as a w → ∀ rest, findLabel c l = some rest → ∃ e a' w', PostX m G0 Q e a' w' ∧ Arrives P (lone (b.at a (.code rest :: .inScope c :: k)) cs w) b k cs e a' w' := by
    intro n
    induction n using Nat.strongRecOn with
    | _ n ih =>
      intro l s hJ G a w hm hl hM hr rest hf
      obtain ⟨rest', hf', hp⟩ := pass l n s hJ
      obtain rfl : rest' = rest := Option.some.inj (hf'.symm.trans hf)
      obtain ⟨e, a1, w1, ⟨G', s', h1, h2, h3, h4, h5⟩, harr⟩ := hp G0 G a w hm hl hM hr b (.inScope c :: k) cs
      cases e with
      | normal => exact ⟨.normal, a1, w1, ⟨G', s', h1, h2, h3, h4, h5⟩, Steps.trans harr (.one step_inScope)⟩
      | exit id => exact ⟨.exit id, a1, w1, ⟨G', s', h1, h2, h3, h4, h5⟩, fun k' hk => harr k' (by simp [exitTo, hk])⟩
      | goto l' =>
        obtain ⟨G1, s1, g1, g2, g3, g4, k', hlt, hJ1⟩ := (show LeadX m s' _ from h5) G0 G' a1 w1 h3 h1 h2 h4
        obtain ⟨rest2, hf2, _⟩ := pass l' k' s1 hJ1
        obtain ⟨e2, a2, w2, hq2, harr2⟩ := ih k' hlt l' s1 hJ1 G1 a1 w1 g3 g1 g2 g4 rest2 hf2
        exact ⟨e2, a2, w2, hq2, .of_steps (harr _ (hg _ _ hf2)) harr2⟩
      | ret => exact ⟨_, a1, w1, ⟨G', s', h1, h2, h3, h4, h5⟩, harr⟩
      | panic ch => exact ⟨_, a1, w1, ⟨G', s', h1, h2, h3, h4, h5⟩, harr⟩
      | outgrown => exact ⟨_, a1, w1, ⟨G', s', h1, h2, h3, h4, h5⟩, harr⟩
  obtain ⟨e, a1, w1, ⟨G', s', h1, h2, h3, h4, h5⟩, harr⟩ := first G0 G a w hm hl hM hr b (.inScope c :: k) cs
  cases e with
  | normal => exact ⟨.normal, a1, w1, ⟨G', s', h1, h2, h3, h4, h5⟩, .head step_scope (Steps.trans harr (.one step_inScope))⟩
  | exit id => exact ⟨.exit id, a1, w1, ⟨G', s', h1, h2, h3, h4, h5⟩, fun k' hk => .head step_scope (harr k' (by simp [exitTo, hk]))⟩
  | goto l' =>
    obtain ⟨G1, s1, g1, g2, g3, g4, k', hJ1⟩ := (show LeadX m s' _ from h5) G0 G' a1 w1 h3 h1 h2 h4
    obtain ⟨rest2, hf2, _⟩ := pass l' k' s1 hJ1
    obtain ⟨e2, a2, w2, hq2, harr2⟩ := key k' l' s1 hJ1 G1 a1 w1 g3 g1 g2 g4 rest2 hf2
    exact ⟨e2, a2, w2, hq2, .of_steps (.head step_scope (harr _ (hg _ _ hf2))) harr2⟩
  | ret => exact ⟨_, a1, w1, ⟨G', s', h1, h2, h3, h4, h5⟩, .of_steps (.one step_scope) harr⟩
  | panic ch => exact ⟨_, a1, w1, ⟨G', s', h1, h2, h3, h4, h5⟩, .of_steps (.one step_scope) harr⟩
  | outgrown => exact ⟨_, a1, w1, ⟨G', s', h1, h2, h3, h4, h5⟩, .of_steps (.one step_scope) harr⟩
def JwX {σ : Type} (m : Nat) (ds : List Nat) (f : σ → List (Nat × AV)) (hp : σ → AHeap) (mp : σ → MS) (I : Nat → σ → Prop) (mm : Nat → σ → Nat) (fr0 : List AV) (n l : Nat) (s' : XS) : Prop :=
  LeadX m s' fun s1 => ∃ (st : σ) (d : Nat → Value), s1 = ⟨updS (deadS fr0 (fun i => lt (d i)) ds) (f st), hp st, mp st⟩ ∧ I l st ∧ mm l st < n
theorem AX_jw {σ : Type} {fr : List AV} {H : AHeap} {M : MS} {c : Code} (ds : List Nat) (f : σ → List (Nat × AV)) (hp : σ → AHeap) (mp : σ → MS) (I : Nat → σ → Prop) (mm : Nat → σ → Nat) (N : Nat) (first : AX P m c (jumpX (JwX m ds f hp mp I mm fr N) Q) ⟨fr, H, M⟩)
    (pass : ∀ (l : Nat) (st : σ) (d : Nat → Value) (fr1 : List AV), fr1 = updS (deadS fr (fun i => lt (d i)) ds) (f st) → I l st → ∃ rest, findLabel c l = some rest ∧ AX P m rest (jumpX (JwX m ds f hp mp I mm fr (mm l st)) Q) ⟨fr1, hp st, mp st⟩) : AX P m (.scope c) Q ⟨fr, H, M⟩ := by
  refine AX_jumps (fun l n s1 => ∃ (st : σ) (d : Nat → Value), s1 = ⟨updS (deadS fr (fun i => lt (d i)) ds) (f st), hp st, mp st⟩ ∧ I l st ∧ mm l st = n) (first.mono fun e s h => ?_) ?_
  · cases e with
    | goto l => exact LeadX.mono h fun s' ⟨st', d', h1, h2, h3⟩ => ⟨_, st', d', h1, h2, rfl⟩
    | _ => exact h
  · rintro l n s1 ⟨st, d, rfl, hst, rfl⟩
    obtain ⟨rest, hf, hp⟩ := pass l st d _ rfl hst
    refine ⟨rest, hf, hp.mono fun e s h => ?_⟩
    cases e with
    | goto l => exact LeadX.mono h fun s' ⟨st', d', h1, h2, h3⟩ => ⟨_, h3, st', d', h1, h2, rfl⟩
    | _ => exact h
end
theorem jw_end {σ : Type} {m : Nat} {ds : List Nat} {f : σ → List (Nat × AV)} {hp : σ → AHeap} {mp : σ → MS} {I : Nat → σ → Prop} {mm : Nat → σ → Nat} {fr0 : List AV} {n l : Nat} {fr : List AV} {H : AHeap} {M : MS} (st' : σ) (hI : I l st') (hm : mm l st' < n) (hM : M = mp st') (hh : H = hp st')
    (h : ∀ d : Nat → AV, deadS fr d ds = updS (deadS fr0 d ds) (f st')) : JwX m ds f hp mp I mm fr0 n l ⟨fr, H, M⟩ :=
  LeadX.of (Leads.dead ds fun d => ⟨st', d, by rw [h, hh, hM], hI, hm⟩)
theorem jw_ren {σ : Type} {m : Nat} {ds : List Nat} {f : σ → List (Nat × AV)} {hp : σ → AHeap} {mp : σ → MS} {I : Nat → σ → Prop} {mm : Nat → σ → Nat} {fr0 : List AV} {n l : Nat} {fr : List AV} {H : AHeap} {M : MS} (sel : List Nat) (st' : σ) (hI : I l st') (hm : mm l st' < n) (hM : M = mp st') (hs1 : sel.Nodup) (hs2 : sel.all (fun p => decide (m ≤ p)) = true)
    (hH : okH (named m sel) (H.take m ++ sel.map (atH H)) = true) (hF : okF (named m sel) ds 0 fr = true) (hh : selH m sel H = hp st')
    (h : ∀ d : Nat → AV, deadS (fr.map (AV.rn (newNo m sel))) d ds = updS (deadS fr0 d ds) (f st')) : JwX m ds f hp mp I mm fr0 n l ⟨fr, H, M⟩ :=
  LeadX.of (Leads.ren sel ds hs1 hs2 hH hF fun d => ⟨st', d, by rw [h, hh, hM], hI, hm⟩)
theorem jw_nil {σ : Type} {m : Nat} {ds : List Nat} {f : σ → List (Nat × AV)} {hp : σ → AHeap} {mp : σ → MS} {I : Nat → σ → Prop} {mm : Nat → σ → Nat} {fr0 : List AV} {n l : Nat} {fr : List AV} {H : AHeap} {M : MS} (i t sz : Nat) (hi : fr[i]? = some (lt (.slice none 0 0)))
    (h : JwX m ds f hp mp I mm fr0 n l ⟨fr.set i (.osl H.length 0 0 sz), H ++ [some ⟨t, []⟩], M⟩) : JwX m ds f hp mp I mm fr0 n l ⟨fr, H, M⟩ :=
  LeadX.trans (S := fun s1 => s1 = ⟨fr.set i (.osl H.length 0 0 sz), H ++ [some ⟨t, []⟩], M⟩) (.of (.nil i t sz hi rfl)) fun s' e => by rw [e]; exact h
end Go.Proofs.YtghdacijcnmhlaaDoor
namespace Go.Proofs.YtghdacijcnmhlaaDoor
open Go.RowKit Go.Shelf Go.Lib Go.Sort
set_option linter.unusedVariables false
set_option linter.unusedSimpArgs false
def prefL_ren : Go.Shelf.Ren := ⟨fun | 99 => 58 | 206 => 69 | n => n, fun | 9 => 9 | 4 => 4 | 3 => 3 | n => n, fun | n => n⟩
theorem prefL : Go.Proofs.Lays.n99 Tryd.prog prefL_ren := {
  mixed := by kernel_rfl
  f99 := Tryd.func58.trans (congrArg some (by kernel_rfl))
  f206 := Tryd.func69.trans (congrArg some (by kernel_rfl))
  t3 := Tryd.underlying3
  a3 := Tryd.isAgg3
  z3 := Tryd.sizeOf3
  v3 := Tryd.zeroValue3
  t4 := Tryd.underlying4
  a4 := Tryd.isAgg4
  z4 := Tryd.sizeOf4
  v4 := Tryd.zeroValue4
  t9 := Tryd.underlying9
  a9 := Tryd.isAgg9
  z9 := Tryd.sizeOf9
  v9 := Tryd.zeroValue9 }
theorem pf_Pref (l p : List UInt8) : PF Tryd.prog 58 [lt (.string (ba l)), lt (.string (ba p))] fun r H' => r = lt (.bool (hasPrefix l p)) ∧ H' = [] :=
  PF_of_walk ⟨_, Tryd.func58, by kernel_rfl, rfl⟩ fun G w vs hi hr => by
    obtain ⟨v1, us, rfl, r1, hr⟩ := hr.uncons
    obtain ⟨v2, us, rfl, r2, hr⟩ := hr.uncons
    rw [hr.unnil, r1.lit_inv, r2.lit_inv]
    have h := Any.strings_HasPrefix prefL (ba l) (ba p) w
    refine (show Calls Tryd.prog 58 #[.string (ba l), .string (ba p)] w _ from h).mono ?_
    rintro e w' ⟨rfl, rfl⟩
    exact ⟨rfl, Below.refl _ _⟩
theorem u8_int (c : UInt8) (n : Nat) (h : n < 256) : ((c.toNat : Int) = n) ↔ c = UInt8.ofNat n := by
  constructor
  · intro h1
    apply UInt8.toNat_inj.1
    rw [UInt8.toNat_ofNat']; omega
  · rintro rfl; rw [UInt8.toNat_ofNat']; omega
theorem isSp_int (c : UInt8) : isSp c = (decide ((c.toNat : Int) = 32) || decide ((c.toNat : Int) = 9) || decide ((c.toNat : Int) = 13)) := by
  unfold isSp
  have e1 : (c == 32) = decide ((c.toNat : Int) = 32) := by rw [Bool.eq_iff_iff]; simp only [beq_iff_eq, decide_eq_true_eq]; exact (u8_int c 32 (by omega)).symm
  have e2 : (c == 9) = decide ((c.toNat : Int) = 9) := by rw [Bool.eq_iff_iff]; simp only [beq_iff_eq, decide_eq_true_eq]; exact (u8_int c 9 (by omega)).symm
  have e3 : (c == 13) = decide ((c.toNat : Int) = 13) := by rw [Bool.eq_iff_iff]; simp only [beq_iff_eq, decide_eq_true_eq]; exact (u8_int c 13 (by omega)).symm
  rw [e1, e2, e3]
theorem W7c64a {A B : Prop} (h9 : B) (w : B → A := by (intro h9; (repeat intro K hK); refine ⟨?_⟩; (repeat (first | (first | (with_reducible first | refine AX_block ?_ | refine AX_skip ?_ | refine AX_exit ?_ | refine AX_ret ?_ | refine AX_ift ?_ | refine AX_iff ?_ | refine AX_seq_k (fun K hK => ?_) | refine ContX.use (by assumption) ?_) | simp only [thenX, inBlockX, if_true, if_false, reduceCtorEq]) | (first | ((with_reducible refine XOP tyOK ?_); simp (disch := omega) only [go_sem , hs1, hs2, hs3, hs4, hs5, ba_toList, ba_size, byteAt_ba, Int.toNat_zero, Int.toNat_natCast]; (with_reducible refine XRes_id ?_)) | (with_reducible refine XSK ?_)) | ((with_reducible refine XRes_nil ?_); refine hK _ ?_; clear hK K) | ((with_reducible refine AX_reg0 fun K hK => ?_); simp only [go_sem]) | (first | (first | refine XTL (by rfl) hC ?_ | refine XTL (by rfl) hI ?_)))); refine Wk.o ?_; (repeat revert hK K); exact h9)) : A := w h9
set_option maxRecDepth 100000 in
set_option maxHeartbeats 4000000 in
theorem pf_parts (c : UInt8) : PF Tryd.prog 59 [lt (.int .u8 (c.toNat : Int))] fun r H' => r = lt (.bool (isSp c)) ∧ H' = [] := by
  refine SF.forgetAll ?_
  have hs1 := trivial; have hs2 := trivial; have hs3 := trivial; have hs4 := trivial; have hs5 := trivial; have hC := trivial; have hI := trivial
  rw [isSp_int]
  generalize (c.toNat : Int) = n
  by_cases h1 : n = 32
  · subst h1
    (refine SF_of_bodyX (aload tt) (aload_ok tyOK) Tryd.func59 rfl (by kernel_rfl) ?_; simp only [Tryd.ntmps59, List.length_cons, List.length_nil, Nat.reduceAdd, Nat.reduceSub, List.replicate_succ, List.replicate_zero, List.cons_append, List.nil_append])
    (refine Wk.o ?_; (repeat revert hK K); refine W7c64a ?_; (repeat intro K hK); refine ⟨?_⟩)
    (simp only [bodyX]; refine ⟨_, by simp only [aresults, aresult, XS.as, Tryd.results59, aload, go_sem, Option.bind_some]; rfl, ?_⟩)
    exact ⟨.iv _, rfl, trivial⟩
  · by_cases h2 : n = 9
    · subst h2
      (refine SF_of_bodyX (aload tt) (aload_ok tyOK) Tryd.func59 rfl (by kernel_rfl) ?_; simp only [Tryd.ntmps59, List.length_cons, List.length_nil, Nat.reduceAdd, Nat.reduceSub, List.replicate_succ, List.replicate_zero, List.cons_append, List.nil_append])
      (refine Wk.o ?_; (repeat revert hK K); refine W7c64a ?_; (repeat intro K hK); refine ⟨?_⟩)
      (simp only [bodyX]; refine ⟨_, by simp only [aresults, aresult, XS.as, Tryd.results59, aload, go_sem, Option.bind_some]; rfl, ?_⟩)
      exact ⟨.iv _, rfl, trivial⟩
    · by_cases h3 : n = 13
      · subst h3
        (refine SF_of_bodyX (aload tt) (aload_ok tyOK) Tryd.func59 rfl (by kernel_rfl) ?_; simp only [Tryd.ntmps59, List.length_cons, List.length_nil, Nat.reduceAdd, Nat.reduceSub, List.replicate_succ, List.replicate_zero, List.cons_append, List.nil_append])
        (refine Wk.o ?_; (repeat revert hK K); refine W7c64a ?_; (repeat intro K hK); refine ⟨?_⟩)
        (simp only [bodyX]; refine ⟨_, by simp only [aresults, aresult, XS.as, Tryd.results59, aload, go_sem, Option.bind_some]; rfl, ?_⟩)
        exact ⟨.iv _, rfl, trivial⟩
      · (refine SF_of_bodyX (aload tt) (aload_ok tyOK) Tryd.func59 rfl (by kernel_rfl) ?_; simp only [Tryd.ntmps59, List.length_cons, List.length_nil, Nat.reduceAdd, Nat.reduceSub, List.replicate_succ, List.replicate_zero, List.cons_append, List.nil_append])
        (refine Wk.o ?_; (repeat revert hK K); refine W7c64a ?_; (repeat intro K hK); refine ⟨?_⟩)
        (simp only [bodyX]; refine ⟨_, by simp only [aresults, aresult, XS.as, Tryd.results59, aload, go_sem, Option.bind_some]; rfl, ?_⟩)
        exact ⟨.iv _, by simp [h1, h2, h3], trivial⟩
def tkL (ln st : Int) (ts : List (Nat × List UInt8)) : List Value := ts.flatMap fun t => [.int .i64 ln, .int .i64 (st + t.1), .string (ba t.2)]
def tkC (ln st : Int) (ts : List (Nat × List UInt8)) : List AV := (tkL ln st ts).map lt
def iTk (ln st : Int) (ts : List (Nat × List UInt8)) : IV := .sl (fun j => .lit ((tkL ln st ts).getD j undef)) ts.length 3
theorem tkL_len (ln st : Int) (ts : List (Nat × List UInt8)) : (tkL ln st ts).length = ts.length * 3 := by
  induction ts with
  | nil => rfl
  | cons t ts ih => rw [tkL, List.flatMap_cons, List.length_append, ← tkL, ih]; simp; omega
theorem tkC_nil (ln st : Int) : tkC ln st [] = [] := rfl
theorem tkC_len (ln st : Int) (ts : List (Nat × List UInt8)) : (tkC ln st ts).length = ts.length * 3 := by rw [tkC, List.length_map, tkL_len]
theorem tkC_snoc (ln st : Int) (ts : List (Nat × List UInt8)) (a : Nat) (x : List UInt8) : tkC ln st ts ++ [lt (.int .i64 ln), lt (.int .i64 (st + (a : Int))), lt (.string (ba x))] = tkC ln st (ts ++ [(a, x)]) := by
  unfold tkC tkL
  rw [List.flatMap_append, List.map_append]; rfl
theorem rnL_tkC (r : Nat → Nat) (ln st : Int) (ts : List (Nat × List UInt8)) : rnL r (tkC ln st ts) = tkC ln st ts := by unfold tkC; rw [rnL_map, List.map_map]; rfl
theorem idL_tkC (p : Nat → Bool) (ln st : Int) (ts : List (Nat × List UInt8)) : idL p (tkC ln st ts) = true := by unfold tkC; rw [idL_all, List.all_map, List.all_eq_true]; exact fun _ _ => rfl
theorem tkC_one (ln st : Int) (ts : List (Nat × List UInt8)) : (tkC ln st ts).all AV.one = true := by
  unfold tkC
  rw [List.all_map, List.all_eq_true]
  intro v hv
  unfold tkL at hv
  rw [List.mem_flatMap] at hv
  obtain ⟨t, _, h⟩ := hv
  simp only [List.mem_cons, List.not_mem_nil, or_false] at h
  rcases h with rfl | rfl | rfl <;> rfl
theorem tkC_take {ln st : Int} {ts : List (Nat × List UInt8)} {n : Nat} (h : ts.length * 3 ≤ n) : (tkC ln st ts).take n = tkC ln st ts := List.take_of_length_le (by rw [tkC_len]; exact h)
theorem tkC_take3 (ln st : Int) (ts : List (Nat × List UInt8)) : (tkC ln st ts).take (ts.length * 3) = tkC ln st ts := tkC_take (Nat.le_refl _)
theorem snap_tk {H : AHeap} {o n : Nat} {t : TypeId} {ln st : Int} {ts : List (Nat × List UInt8)} (h : H[o]? = some (some ⟨t, tkC ln st ts⟩)) (hn : n = ts.length) : Snap H (.osl o 0 n 3) (.iv (iTk ln st ts)) := by
  subst hn
  exact .iv _ _ (.osl _ 0 _ 3 _ ⟨t, tkC ln st ts⟩ (fun j => lt ((tkL ln st ts).getD j undef)) (by decide) h (fun j hj => by
    have hj' : j < (tkL ln st ts).length := by rw [tkL_len]; exact hj
    rw [Nat.zero_add]
    show ((tkL ln st ts).map lt)[j]? = _
    rw [List.getElem?_map, List.getElem?_eq_getElem hj']
    simp [List.getD_eq_getElem?_getD, List.getElem?_eq_getElem hj']) fun j _ => .iv _)
theorem ba_extract (l : List UInt8) (a b : Nat) : (ba l).extract a b = ba ((l.drop a).take (b - a)) := by
  apply ByteArray.ext
  show ((ba l).extract a b).data = _
  rw [ByteArray.data_extract]
  show (l.toArray).extract a b = ((l.drop a).take (b - a)).toArray
  simp
end Go.Proofs.YtghdacijcnmhlaaDoor
namespace Go.Proofs.YtghdacijcnmhlaaDoor
open Go.RowKit Go.Lib
set_option linter.unusedVariables false
set_option linter.unusedSimpArgs false
attribute [go_sem] rnL_tkC idL_tkC tkC_one tkC_snoc tkC_nil tkC_len tkC_take3
theorem Wb442a {A B : Prop} (h9 : B) (w : B → A := by (intro h9; (repeat intro K hK); refine ⟨?_⟩; (repeat (first | (first | (with_reducible first | refine AX_block ?_ | refine AX_skip ?_ | refine AX_exit ?_ | refine AX_ret ?_ | refine AX_ift ?_ | refine AX_iff ?_ | refine AX_seq_k (fun K hK => ?_) | refine ContX.use (by assumption) ?_) | simp only [thenX, inBlockX, if_true, if_false, reduceCtorEq]) | (first | ((with_reducible refine XOP tyOK ?_); simp (disch := omega) only [go_sem , hs1, hs2, hs3, hs4, hs5, ba_toList, ba_size, byteAt_ba, Int.toNat_zero, Int.toNat_natCast, tkC_nil, tkC_snoc, tkC_len, tkC_take3, ba_extract]; (with_reducible refine XRes_id ?_)) | (with_reducible refine XSK ?_)) | ((with_reducible refine XRes_nil ?_); refine hK _ ?_; clear hK K) | ((with_reducible refine AX_reg0 fun K hK => ?_); simp only [go_sem]) | (first | (first | refine XTL (by rfl) hC ?_ | refine XTL (by rfl) hI ?_)) | (first | (with_reducible first | refine AX_goto ?_ | refine AX_label ?_) | (simp only [jumpX])))); refine Wk.o ?_; (repeat revert hK K); exact h9)) : A := w h9
set_option maxRecDepth 100000 in
set_option maxHeartbeats 4000000 in
theorem pf_tokens (l : List UInt8) (ln st0 : Int) (hl : l.length ≤ 1000000) (h1 : 0 ≤ st0) (h2 : st0 ≤ 1000000000) : PF Tryd.prog 40 [lt (.string (ba l)), lt (.int .i64 ln), lt (.int .i64 st0)] fun r H' => r = .iv (iTk ln st0 (lineTk l)) ∧ H' = [] := by
  refine SF.frozen ?_
  have hs1 := trivial; have hs2 := trivial; have hs3 := trivial; have hs4 := trivial; have hs5 := trivial; have hC := trivial; have hI := trivial
  have hI : PF Tryd.prog 58 [lt (.string (ba l)), lt (.string ⟨#[99, 32]⟩)] fun r H' => r = lt (.bool (hasPrefix l [99, 32])) ∧ H' = [] := pf_Pref l [99, 32]
  have hs1 : (⟨#[99]⟩ : ByteArray).toList = [99] := ba_toList [99]
  have hz : lineTk l = if (l == [99] || hasPrefix l [99, 32]) = true then [] else tk 0 l := rfl
  generalize hb1 : (l == ([99] : List UInt8)) = b1 at *
  generalize hb2 : hasPrefix l [99, 32] = b2 at *
  (refine SF_of_bodyX (aload tt) (aload_ok tyOK) Tryd.func40 rfl (by kernel_rfl) ?_; simp only [Tryd.ntmps40, List.length_cons, List.length_nil, Nat.reduceAdd, Nat.reduceSub, List.replicate_succ, List.replicate_zero, List.cons_append, List.nil_append])
  ((repeat (first | (first | (with_reducible first | refine AX_block ?_ | refine AX_skip ?_ | refine AX_exit ?_ | refine AX_ret ?_ | refine AX_ift ?_ | refine AX_iff ?_ | refine AX_seq_k (fun K hK => ?_) | refine ContX.use (by assumption) ?_) | simp only [thenX, inBlockX, if_true, if_false, reduceCtorEq]) | (first | ((with_reducible refine XOP tyOK ?_); simp (disch := omega) only [go_sem , hs1, hs2, hs3, hs4, hs5, ba_toList, ba_size, byteAt_ba, Int.toNat_zero, Int.toNat_natCast, tkC_nil, tkC_snoc, tkC_len, tkC_take3, ba_extract]; (with_reducible refine XRes_id ?_)) | (with_reducible refine XSK ?_)) | ((with_reducible refine XRes_nil ?_); refine hK _ ?_; clear hK K) | ((with_reducible refine AX_reg0 fun K hK => ?_); simp only [go_sem]))))
  refine AX_jw (σ := Nat × Nat × List (Nat × List UInt8)) (3 :: 4 :: 5 :: 10 :: 11 :: 12 :: 13 :: 14 :: 15 :: 16 :: 17 :: 18 :: 19 :: 20 :: 21 :: 22 :: 23 :: 24 :: 25 :: 26 :: 27 :: 28 :: 29 :: 30 :: 31 :: 32 :: 33 :: 34 :: 35 :: 36 :: 37 :: 38 :: 39 :: 40 :: 41 :: 42 :: 43 :: 44 :: 45 :: 46 :: 47 :: 48 :: 49 :: 50 :: 51 :: 52 :: []) (fun st => [(7, .osl 0 0 st.2.2.length 3), (8, lint st.1), (9, lint st.2.1)]) (fun st => [some ⟨58, tkC ln st0 st.2.2⟩]) (fun _ => [])
    (fun lb st => (lb = 0 ∧ lineTk l = st.2.2) ∨ (lb = 1 ∧ st.1 ≤ l.length ∧ lineTk l = st.2.2 ++ tk st.1 (l.drop st.1) ∧ st.2.2.length ≤ st.1) ∨ (lb = 2 ∧ st.1 ≤ l.length ∧ st.2.1 < st.1 ∧ (∀ j, st.2.1 ≤ j → j < st.1 → isSp (l.getD j 0) = false) ∧ lineTk l = st.2.2 ++ tk st.2.1 (l.drop st.2.1) ∧ st.2.2.length ≤ st.2.1))
    (fun lb st => if lb = 0 then 0 else 2 * (l.length - st.1) + lb) (2 * l.length + 5) ?_ ?_
  · cases b1 with
    | true =>
      have hs2 := hb1
      have hd : lineTk l = [] := by rw [hz]; rfl
      (refine Wk.o ?_; (repeat revert hK K); refine Wb442a ?_; (repeat intro K hK); refine ⟨?_⟩)
      refine jw_nil 7 58 3 rfl ?_
      exact jw_end (0, 0, []) (.inl ⟨rfl, hd⟩) (by dsimp only; (repeat' split) <;> omega) rfl rfl (fun d => by first | ((simp (disch := omega) only [go_sem, lint , hs1, hs2, hs3, hs4, hs5, ba_toList, ba_size, byteAt_ba, Int.toNat_zero, Int.toNat_natCast, tkC_nil, tkC_snoc, tkC_len, tkC_take3, ba_extract]); done) | ((simp (disch := omega) only [go_sem, lint , hs1, hs2, hs3, hs4, hs5, ba_toList, ba_size, byteAt_ba, Int.toNat_zero, Int.toNat_natCast, tkC_nil, tkC_snoc, tkC_len, tkC_take3, ba_extract]); rfl))
    | false =>
      have hs2 := hb1
      cases b2 with
      | true =>
        have hd : lineTk l = [] := by rw [hz]; rfl
        (refine Wk.o ?_; (repeat revert hK K); refine Wb442a ?_; (repeat intro K hK); refine ⟨?_⟩)
        refine jw_nil 7 58 3 rfl ?_
        exact jw_end (0, 0, []) (.inl ⟨rfl, hd⟩) (by dsimp only; (repeat' split) <;> omega) rfl rfl (fun d => by first | ((simp (disch := omega) only [go_sem, lint , hs1, hs2, hs3, hs4, hs5, ba_toList, ba_size, byteAt_ba, Int.toNat_zero, Int.toNat_natCast, tkC_nil, tkC_snoc, tkC_len, tkC_take3, ba_extract]); done) | ((simp (disch := omega) only [go_sem, lint , hs1, hs2, hs3, hs4, hs5, ba_toList, ba_size, byteAt_ba, Int.toNat_zero, Int.toNat_natCast, tkC_nil, tkC_snoc, tkC_len, tkC_take3, ba_extract]); rfl))
      | false =>
        have hd : lineTk l = tk 0 (l.drop 0) := by rw [hz]; rfl
        by_cases hk : 0 < l.length
        · have hC := pf_parts (l.getD 0 0)
          cases hsp : isSp (l.getD 0 0) with
          | true =>
            rw [hsp] at hC
            (refine Wk.o ?_; (repeat revert hK K); refine Wb442a ?_; (repeat intro K hK); refine ⟨?_⟩)
            refine jw_nil 7 58 3 rfl ?_
            exact jw_end (1, 0, []) (.inr (.inl ⟨rfl, by (first | omega | (dsimp only; omega) | (simp only; omega)), by rw [hd, tk_at_sp hk hsp]; rfl, Nat.zero_le _⟩)) (by dsimp only; (repeat' split) <;> omega) rfl rfl (fun d => by first | ((simp (disch := omega) only [go_sem, lint , hs1, hs2, hs3, hs4, hs5, ba_toList, ba_size, byteAt_ba, Int.toNat_zero, Int.toNat_natCast, tkC_nil, tkC_snoc, tkC_len, tkC_take3, ba_extract]); done) | ((simp (disch := omega) only [go_sem, lint , hs1, hs2, hs3, hs4, hs5, ba_toList, ba_size, byteAt_ba, Int.toNat_zero, Int.toNat_natCast, tkC_nil, tkC_snoc, tkC_len, tkC_take3, ba_extract]); rfl))
          | false =>
            rw [hsp] at hC
            (refine Wk.o ?_; (repeat revert hK K); refine Wb442a ?_; (repeat intro K hK); refine ⟨?_⟩)
            refine jw_nil 7 58 3 rfl ?_
            exact jw_end (1, 0, []) (.inr (.inr ⟨rfl, by (first | omega | (dsimp only; omega) | (simp only; omega)), by (first | omega | (dsimp only; omega) | (simp only; omega)), fun j _ hj => by have hj' : j < 1 := hj; rw [show j = 0 by omega]; exact hsp, hd, Nat.zero_le _⟩)) (by dsimp only; (repeat' split) <;> omega) rfl rfl (fun d => by first | ((simp (disch := omega) only [go_sem, lint , hs1, hs2, hs3, hs4, hs5, ba_toList, ba_size, byteAt_ba, Int.toNat_zero, Int.toNat_natCast, tkC_nil, tkC_snoc, tkC_len, tkC_take3, ba_extract]); done) | ((simp (disch := omega) only [go_sem, lint , hs1, hs2, hs3, hs4, hs5, ba_toList, ba_size, byteAt_ba, Int.toNat_zero, Int.toNat_natCast, tkC_nil, tkC_snoc, tkC_len, tkC_take3, ba_extract]); rfl))
        · have hl0 : l = [] := List.length_eq_zero_iff.1 (by omega)
          have hd0 : lineTk l = [] := by rw [hd, hl0]; exact tk_nil 0
          (refine Wk.o ?_; (repeat revert hK K); refine Wb442a ?_; (repeat intro K hK); refine ⟨?_⟩)
          refine jw_nil 7 58 3 rfl ?_
          exact jw_end (0, 0, []) (.inl ⟨rfl, hd0⟩) (by dsimp only; (repeat' split) <;> omega) rfl rfl (fun d => by first | ((simp (disch := omega) only [go_sem, lint , hs1, hs2, hs3, hs4, hs5, ba_toList, ba_size, byteAt_ba, Int.toNat_zero, Int.toNat_natCast, tkC_nil, tkC_snoc, tkC_len, tkC_take3, ba_extract]); done) | ((simp (disch := omega) only [go_sem, lint , hs1, hs2, hs3, hs4, hs5, ba_toList, ba_size, byteAt_ba, Int.toNat_zero, Int.toNat_natCast, tkC_nil, tkC_snoc, tkC_len, tkC_take3, ba_extract]); rfl))
  · skip
    rintro lb ⟨k, f, ts⟩ d fr1 hfr hJ
    dsimp only at hJ
    rcases hJ with ⟨rfl, h3⟩ | ⟨rfl, h3, h4, h5⟩ | ⟨rfl, h3, h4, h5, h6, h7⟩
    · refine ⟨_, rfl, ?_⟩
      (simp only [updS, deadS, List.set_cons_succ, List.set_cons_zero, lint] at hfr; subst hfr; (try dsimp only))
      (refine Wk.o ?_; (repeat revert hK K); refine Wb442a ?_; (repeat intro K hK); refine ⟨?_⟩)
      (simp only [bodyX]; refine ⟨_, by simp only [aresults, aresult, XS.as, Tryd.results40, aload, go_sem, Option.bind_some]; rfl, ?_⟩)
      exact ⟨_, snap_tk rfl rfl, by rw [h3], trivial⟩
    · refine ⟨_, rfl, ?_⟩
      (simp only [updS, deadS, List.set_cons_succ, List.set_cons_zero, lint] at hfr; subst hfr; (try dsimp only))
      by_cases hk : k < l.length
      · have hC := pf_parts (l.getD k 0)
        cases hsp : isSp (l.getD k 0) with
        | true =>
          rw [hsp] at hC
          (refine Wk.o ?_; (repeat revert hK K); refine Wb442a ?_; (repeat intro K hK); refine ⟨?_⟩)
          exact jw_end (k + 1, f, ts) (.inr (.inl ⟨rfl, by (first | omega | (dsimp only; omega) | (simp only; omega)), by rw [h4, tk_at_sp hk hsp], by (first | omega | (dsimp only; omega) | (simp only; omega))⟩)) (by dsimp only; (repeat' split) <;> omega) rfl rfl (fun d => by first | ((simp (disch := omega) only [go_sem, lint , hs1, hs2, hs3, hs4, hs5, ba_toList, ba_size, byteAt_ba, Int.toNat_zero, Int.toNat_natCast, tkC_nil, tkC_snoc, tkC_len, tkC_take3, ba_extract]); done) | ((simp (disch := omega) only [go_sem, lint , hs1, hs2, hs3, hs4, hs5, ba_toList, ba_size, byteAt_ba, Int.toNat_zero, Int.toNat_natCast, tkC_nil, tkC_snoc, tkC_len, tkC_take3, ba_extract]); rfl))
        | false =>
          rw [hsp] at hC
          (refine Wk.o ?_; (repeat revert hK K); refine Wb442a ?_; (repeat intro K hK); refine ⟨?_⟩)
          exact jw_end (k + 1, k, ts) (.inr (.inr ⟨rfl, by (first | omega | (dsimp only; omega) | (simp only; omega)), by (first | omega | (dsimp only; omega) | (simp only; omega)), fun j hi hj => by have hj' : j < k + 1 := hj; have hi' : k ≤ j := hi; rw [show j = k by omega]; exact hsp, h4, h5⟩)) (by dsimp only; (repeat' split) <;> omega) rfl rfl (fun d => by first | ((simp (disch := omega) only [go_sem, lint , hs1, hs2, hs3, hs4, hs5, ba_toList, ba_size, byteAt_ba, Int.toNat_zero, Int.toNat_natCast, tkC_nil, tkC_snoc, tkC_len, tkC_take3, ba_extract]); done) | ((simp (disch := omega) only [go_sem, lint , hs1, hs2, hs3, hs4, hs5, ba_toList, ba_size, byteAt_ba, Int.toNat_zero, Int.toNat_natCast, tkC_nil, tkC_snoc, tkC_len, tkC_take3, ba_extract]); rfl))
      · obtain rfl : k = l.length := by omega
        have hd : lineTk l = ts := by rw [h4, List.drop_length, tk_nil, List.append_nil]
        (refine Wk.o ?_; (repeat revert hK K); refine Wb442a ?_; (repeat intro K hK); refine ⟨?_⟩)
        exact jw_end (l.length, f, ts) (.inl ⟨rfl, hd⟩) (by dsimp only; (repeat' split) <;> omega) rfl rfl (fun d => by first | ((simp (disch := omega) only [go_sem, lint , hs1, hs2, hs3, hs4, hs5, ba_toList, ba_size, byteAt_ba, Int.toNat_zero, Int.toNat_natCast, tkC_nil, tkC_snoc, tkC_len, tkC_take3, ba_extract]); done) | ((simp (disch := omega) only [go_sem, lint , hs1, hs2, hs3, hs4, hs5, ba_toList, ba_size, byteAt_ba, Int.toNat_zero, Int.toNat_natCast, tkC_nil, tkC_snoc, tkC_len, tkC_take3, ba_extract]); rfl))
    · refine ⟨_, rfl, ?_⟩
      (simp only [updS, deadS, List.set_cons_succ, List.set_cons_zero, lint] at hfr; subst hfr; (try dsimp only))
      by_cases hk : k < l.length
      · have hC := pf_parts (l.getD k 0)
        cases hsp : isSp (l.getD k 0) with
        | true =>
          rw [hsp] at hC
          have hd : lineTk l = (ts ++ [(f, (l.drop f).take (k - f))]) ++ tk k (l.drop k) := by rw [h6, tk_at_word h4 h3 h5 (fun _ => hsp), List.append_assoc]; rfl
          (refine Wk.o ?_; (repeat revert hK K); refine Wb442a ?_; (repeat intro K hK); refine ⟨?_⟩)
          exact jw_ren [2] (k, f, ts ++ [(f, (l.drop f).take (k - f))]) (.inr (.inl ⟨rfl, h3, hd, by rw [List.length_append]; show _ + 1 ≤ k; omega⟩)) (by dsimp only; (repeat' split) <;> omega) rfl (by decide) (by decide) (by (simp (disch := omega) only [go_sem, lint , hs1, hs2, hs3, hs4, hs5, ba_toList, ba_size, byteAt_ba, Int.toNat_zero, Int.toNat_natCast, tkC_nil, tkC_snoc, tkC_len, tkC_take3, ba_extract])) (by (simp (disch := omega) only [go_sem, lint , hs1, hs2, hs3, hs4, hs5, ba_toList, ba_size, byteAt_ba, Int.toNat_zero, Int.toNat_natCast, tkC_nil, tkC_snoc, tkC_len, tkC_take3, ba_extract])) (by (simp (disch := omega) only [go_sem, lint , hs1, hs2, hs3, hs4, hs5, ba_toList, ba_size, byteAt_ba, Int.toNat_zero, Int.toNat_natCast, tkC_nil, tkC_snoc, tkC_len, tkC_take3, ba_extract])) (fun d => by (simp (disch := omega) only [go_sem, lint , hs1, hs2, hs3, hs4, hs5, ba_toList, ba_size, byteAt_ba, Int.toNat_zero, Int.toNat_natCast, tkC_nil, tkC_snoc, tkC_len, tkC_take3, ba_extract]))
        | false =>
          rw [hsp] at hC
          (refine Wk.o ?_; (repeat revert hK K); refine Wb442a ?_; (repeat intro K hK); refine ⟨?_⟩)
          exact jw_end (k + 1, f, ts) (.inr (.inr ⟨rfl, by (first | omega | (dsimp only; omega) | (simp only; omega)), by (first | omega | (dsimp only; omega) | (simp only; omega)), fun j h8 h9 => by have h9' : j < k + 1 := h9; rcases Nat.lt_or_ge j k with h10 | h10; exact h5 j h8 h10; rw [show j = k by omega]; exact hsp, h6, h7⟩)) (by dsimp only; (repeat' split) <;> omega) rfl rfl (fun d => by first | ((simp (disch := omega) only [go_sem, lint , hs1, hs2, hs3, hs4, hs5, ba_toList, ba_size, byteAt_ba, Int.toNat_zero, Int.toNat_natCast, tkC_nil, tkC_snoc, tkC_len, tkC_take3, ba_extract]); done) | ((simp (disch := omega) only [go_sem, lint , hs1, hs2, hs3, hs4, hs5, ba_toList, ba_size, byteAt_ba, Int.toNat_zero, Int.toNat_natCast, tkC_nil, tkC_snoc, tkC_len, tkC_take3, ba_extract]); rfl))
      · obtain rfl : k = l.length := by omega
        have hd : lineTk l = (ts ++ [(f, (l.drop f).take (l.length - f))]) ++ tk l.length (l.drop l.length) := by rw [h6, tk_at_word h4 h3 h5 (fun h => absurd h (by omega)), List.append_assoc]; rfl
        (refine Wk.o ?_; (repeat revert hK K); refine Wb442a ?_; (repeat intro K hK); refine ⟨?_⟩)
        exact jw_ren [2] (l.length, f, ts ++ [(f, (l.drop f).take (l.length - f))]) (.inr (.inl ⟨rfl, h3, hd, by rw [List.length_append]; show _ + 1 ≤ _; omega⟩)) (by dsimp only; (repeat' split) <;> omega) rfl (by decide) (by decide) (by (simp (disch := omega) only [go_sem, lint , hs1, hs2, hs3, hs4, hs5, ba_toList, ba_size, byteAt_ba, Int.toNat_zero, Int.toNat_natCast, tkC_nil, tkC_snoc, tkC_len, tkC_take3, ba_extract])) (by (simp (disch := omega) only [go_sem, lint , hs1, hs2, hs3, hs4, hs5, ba_toList, ba_size, byteAt_ba, Int.toNat_zero, Int.toNat_natCast, tkC_nil, tkC_snoc, tkC_len, tkC_take3, ba_extract])) (by (simp (disch := omega) only [go_sem, lint , hs1, hs2, hs3, hs4, hs5, ba_toList, ba_size, byteAt_ba, Int.toNat_zero, Int.toNat_natCast, tkC_nil, tkC_snoc, tkC_len, tkC_take3, ba_extract])) (fun d => by (simp (disch := omega) only [go_sem, lint , hs1, hs2, hs3, hs4, hs5, ba_toList, ba_size, byteAt_ba, Int.toNat_zero, Int.toNat_natCast, tkC_nil, tkC_snoc, tkC_len, tkC_take3, ba_extract]))
end Go.Proofs.YtghdacijcnmhlaaDoor
namespace Go.Proofs.YtghdacijcnmhlaaDoor
open Go.RowKit Go.Shelf Go.Lib Go.Sort
set_option linter.unusedVariables false
set_option linter.unusedSimpArgs false
def ixbL_ren : Go.Shelf.Ren := ⟨fun | 137 => 39 | 217 => 57 | 266 => 68 | n => n, fun | 9 => 9 | 5 => 5 | 3 => 3 | n => n, fun | n => n⟩
theorem ixbL : Go.Proofs.Lays.n137 Tryd.prog ixbL_ren := {
  mixed := by kernel_rfl
  f137 := Tryd.func39.trans (congrArg some (by kernel_rfl))
  f217 := Tryd.func57.trans (congrArg some (by kernel_rfl))
  f266 := Tryd.func68.trans (congrArg some (by kernel_rfl))
  t3 := Tryd.underlying3
  a3 := Tryd.isAgg3
  z3 := Tryd.sizeOf3
  v3 := Tryd.zeroValue3
  t5 := Tryd.underlying5
  a5 := Tryd.isAgg5
  z5 := Tryd.sizeOf5
  v5 := Tryd.zeroValue5
  t9 := Tryd.underlying9
  a9 := Tryd.isAgg9
  z9 := Tryd.sizeOf9
  v9 := Tryd.zeroValue9 }
theorem pf_IxB (l : List UInt8) : PF Tryd.prog 39 [lt (.string (ba l)), lt (.int .u8 10)] fun r H' => r = lt (.int .i64 (indexByte l 10)) ∧ H' = [] :=
  PF_of_walk ⟨_, Tryd.func39, by kernel_rfl, rfl⟩ fun G w vs hi hr => by
    obtain ⟨v1, us, rfl, r1, hr⟩ := hr.uncons
    obtain ⟨v2, us, rfl, r2, hr⟩ := hr.uncons
    rw [hr.unnil, r1.lit_inv, r2.lit_inv]
    have h := Any.strings_IndexByte ixbL (ba l) 10 w
    refine (show Calls Tryd.prog 39 #[.string (ba l), .int .u8 10] w _ from h).mono ?_
    rintro e w' ⟨rfl, rfl⟩
    exact ⟨rfl, Below.refl _ _⟩
theorem iTk_one (a b : Int) (ts : List (Nat × List UInt8)) : AV.one (.iv (iTk a b ts)) = true := rfl
def rowIV (r : Nat × Nat × List (Nat × List UInt8)) : IV := iTk r.1 r.2.1 r.2.2
def lnC (rs : List (Nat × Nat × List (Nat × List UInt8))) : List AV := rs.map fun r => .iv (rowIV r)
def iLn (rs : List (Nat × Nat × List (Nat × List UInt8))) : IV := .sl (fun j => rowIV (rs.getD j (0, 0, []))) rs.length 1
theorem lnC_nil : lnC [] = [] := rfl
theorem lnC_len (rs : List (Nat × Nat × List (Nat × List UInt8))) : (lnC rs).length = rs.length := by unfold lnC; simp
theorem lnC_snoc (rs : List (Nat × Nat × List (Nat × List UInt8))) (a b : Nat) (x : List (Nat × List UInt8)) : lnC rs ++ [.iv (iTk a b x)] = lnC (rs ++ [(a, b, x)]) := by unfold lnC; rw [List.map_append]; rfl
theorem lnC_snocU (rs : List (Nat × Nat × List (Nat × List UInt8))) (a b : Nat) (x : List (Nat × List UInt8)) : lnC rs ++ [.iv (.sl (fun j => .lit ((tkL a b x).getD j undef)) x.length 3)] = lnC (rs ++ [(a, b, x)]) := lnC_snoc rs a b x
theorem rnL_lnC (r : Nat → Nat) (rs : List (Nat × Nat × List (Nat × List UInt8))) : rnL r (lnC rs) = lnC rs := by unfold lnC; rw [rnL_map, List.map_map]; rfl
theorem idL_lnC (p : Nat → Bool) (rs : List (Nat × Nat × List (Nat × List UInt8))) : idL p (lnC rs) = true := by unfold lnC; rw [idL_all, List.all_map, List.all_eq_true]; exact fun _ _ => rfl
theorem lnC_one (rs : List (Nat × Nat × List (Nat × List UInt8))) : (lnC rs).all AV.one = true := by unfold lnC; rw [List.all_map, List.all_eq_true]; exact fun _ _ => rfl
theorem lnC_take (rs : List (Nat × Nat × List (Nat × List UInt8))) : (lnC rs).take rs.length = lnC rs := List.take_of_length_le (by rw [lnC_len]; exact Nat.le_refl _)
theorem snap_ln {H : AHeap} {o n : Nat} {t : TypeId} {rs : List (Nat × Nat × List (Nat × List UInt8))} (h : H[o]? = some (some ⟨t, lnC rs⟩)) (hn : n = rs.length) : Snap H (.osl o 0 n 1) (.iv (iLn rs)) := by
  subst hn
  exact .iv _ _ (.osl _ 0 _ 1 _ ⟨t, lnC rs⟩ (fun j => .iv (rowIV (rs.getD j (0, 0, [])))) (by decide) h (fun j hj => by
    have hj' : j < rs.length := by omega
    rw [Nat.zero_add]
    show (rs.map fun r => AV.iv (rowIV r))[j]? = _
    rw [List.getElem?_map, List.getElem?_eq_getElem hj']
    simp [List.getD_eq_getElem?_getD, List.getElem?_eq_getElem hj']) fun j _ => .iv _)
attribute [go_sem] iTk_one rnL_lnC idL_lnC lnC_one lnC_snocU lnC_nil lnC_len lnC_take
theorem Wcf97a {A B : Prop} (h9 : B) (w : B → A := by (intro h9; (repeat intro K hK); refine ⟨?_⟩; (repeat (first | (first | (with_reducible first | refine AX_block ?_ | refine AX_skip ?_ | refine AX_exit ?_ | refine AX_ret ?_ | refine AX_ift ?_ | refine AX_iff ?_ | refine AX_seq_k (fun K hK => ?_) | refine ContX.use (by assumption) ?_) | simp only [thenX, inBlockX, if_true, if_false, reduceCtorEq]) | (first | ((with_reducible refine XOP tyOK ?_); simp (disch := omega) only [go_sem , hs1, hs2, hs3, hs4, hs5, ba_toList, ba_size, ba_extract, Int.toNat_zero, Int.toNat_natCast, lnC_nil, lnC_len, lnC_take, lnC_snocU]; (with_reducible refine XRes_id ?_)) | (with_reducible refine XSK ?_)) | ((with_reducible refine XRes_nil ?_); refine hK _ ?_; clear hK K) | ((with_reducible refine AX_reg0 fun K hK => ?_); simp only [go_sem]) | (first | (first | refine XTL (by rfl) hC ?_ | refine XTL (by rfl) hI ?_)))); refine Wk.o ?_; (repeat revert hK K); exact h9)) : A := w h9
set_option maxRecDepth 100000 in
set_option maxHeartbeats 4000000 in
theorem pf_Lines (l : List UInt8) (hl : l.length ≤ 1000000) : PF Tryd.prog 21 [lt (.string (ba l))] fun r H' => r = .iv (iLn (lns 1 0 l)) ∧ H' = [] := by
  refine SF.frozen ?_
  have hs1 := trivial; have hs2 := trivial; have hs3 := trivial; have hs4 := trivial; have hs5 := trivial; have hC := trivial; have hI := trivial
  (refine SF_of_bodyX (aload tt) (aload_ok tyOK) Tryd.func21 rfl (by kernel_rfl) ?_; simp only [Tryd.ntmps21, List.length_cons, List.length_nil, Nat.reduceAdd, Nat.reduceSub, List.replicate_succ, List.replicate_zero, List.cons_append, List.nil_append])
  (refine Wk.o ?_; (repeat revert hK K); refine Wcf97a ?_; (repeat intro K hK); refine ⟨?_⟩)
  refine AX_nil 3 53 1 rfl ?_
  (refine AWH (σ := Nat × List (Nat × Nat × List (Nat × List UInt8))) [6, 7, 8, 9, 10, 11, 12, 13, 5, 14, 15, 16, 17, 18, 19, 20, 21, 22, 23, 24, 25, 26, 27, 28, 29, 30, 31, 32, 33, 34, 35, 36, 37] (fun (k, rs) => [(4, lint k), (3, .osl 0 0 rs.length 1)]) (fun (k, rs) => [some ⟨53, lnC rs⟩]) (fun (k, rs) => []) (fun (k, rs) => k ≤ l.length + 1 ∧ rs.length ≤ k ∧ lns 1 0 l = rs ++ lns (rs.length + 1) k (l.drop k)) (fun (k, rs) => l.length + 1 - k) (0, []) (by first | exact ⟨Nat.zero_le _, Nat.zero_le _, rfl⟩) ?_; rintro ⟨k, rs⟩ d fr hfr ⟨hk, hr, hz⟩; simp only [updS, deadS, List.set_cons_succ, List.set_cons_zero, lint] at hfr; subst hfr; (try dsimp only))
  by_cases hlt : k < l.length
  · have hs1 : (l.drop k).take (l.length - k) = l.drop k := List.take_of_length_le (by simp)
    have hC := pf_IxB (l.drop k)
    have hle := lnLen_le (l.drop k)
    rw [List.length_drop] at hle
    have hix := lnLen_ix (l.drop k)
    have hat := lns_at (ln := rs.length + 1) hlt
    have hI := pf_tokens ((l.drop k).take (lnLen (l.drop k))) ((rs.length + 1 : Nat) : Int) (k : Int) (by rw [List.length_take, List.length_drop]; omega) (by omega) (by omega)
    rw [List.length_drop] at hix
    unfold iTk at hI
    generalize hn : lnLen (l.drop k) = n at *
    have hs2 : ((k : Int) + (n : Int)).toNat = k + n := by omega
    have hs3 : k + n - k = n := by omega
    have hI2 : k + (n + 1) ≤ l.length + 1 ∧ (rs ++ [(rs.length + 1, k, lineTk ((l.drop k).take n))]).length ≤ k + (n + 1) ∧ lns 1 0 l = (rs ++ [(rs.length + 1, k, lineTk ((l.drop k).take n))]) ++ lns ((rs ++ [(rs.length + 1, k, lineTk ((l.drop k).take n))]).length + 1) (k + (n + 1)) (l.drop (k + (n + 1))) :=
      ⟨by omega, by rw [List.length_append]; show _ + 1 ≤ _; omega, by rw [hz, hat, List.append_assoc, List.length_append]; rfl⟩
    rcases hix with ⟨h1, h2⟩ | ⟨h1, h2⟩
    · rw [h1] at hC
      have hs4 : (l.length : Int) - (k : Int) = (n : Int) := by omega
      (refine Wk.o ?_; (repeat revert hK K); refine Wcf97a ?_; (repeat intro K hK); refine ⟨?_⟩)
      exact whx_ren [2] (k + (n + 1), rs ++ [(rs.length + 1, k, lineTk ((l.drop k).take n))]) hI2 (by (first | omega | (dsimp only; omega) | (simp only; omega))) rfl (by decide) (by decide) (by (simp (disch := omega) only [go_sem, lint , hs1, hs2, hs3, hs4, hs5, ba_toList, ba_size, ba_extract, Int.toNat_zero, Int.toNat_natCast, lnC_nil, lnC_len, lnC_take, lnC_snocU])) (by (simp (disch := omega) only [go_sem, lint , hs1, hs2, hs3, hs4, hs5, ba_toList, ba_size, ba_extract, Int.toNat_zero, Int.toNat_natCast, lnC_nil, lnC_len, lnC_take, lnC_snocU])) (by (simp (disch := omega) only [go_sem, lint , hs1, hs2, hs3, hs4, hs5, ba_toList, ba_size, ba_extract, Int.toNat_zero, Int.toNat_natCast, lnC_nil, lnC_len, lnC_take, lnC_snocU])) (fun d => by first | ((simp (disch := omega) only [go_sem, lint , hs1, hs2, hs3, hs4, hs5, ba_toList, ba_size, ba_extract, Int.toNat_zero, Int.toNat_natCast, lnC_nil, lnC_len, lnC_take, lnC_snocU]); done) | ((simp (disch := omega) only [go_sem, lint , hs1, hs2, hs3, hs4, hs5, ba_toList, ba_size, ba_extract, Int.toNat_zero, Int.toNat_natCast, lnC_nil, lnC_len, lnC_take, lnC_snocU]); rfl))
    · rw [h1] at hC
      (refine Wk.o ?_; (repeat revert hK K); refine Wcf97a ?_; (repeat intro K hK); refine ⟨?_⟩)
      exact whx_ren [2] (k + (n + 1), rs ++ [(rs.length + 1, k, lineTk ((l.drop k).take n))]) hI2 (by (first | omega | (dsimp only; omega) | (simp only; omega))) rfl (by decide) (by decide) (by (simp (disch := omega) only [go_sem, lint , hs1, hs2, hs3, hs4, hs5, ba_toList, ba_size, ba_extract, Int.toNat_zero, Int.toNat_natCast, lnC_nil, lnC_len, lnC_take, lnC_snocU])) (by (simp (disch := omega) only [go_sem, lint , hs1, hs2, hs3, hs4, hs5, ba_toList, ba_size, ba_extract, Int.toNat_zero, Int.toNat_natCast, lnC_nil, lnC_len, lnC_take, lnC_snocU])) (by (simp (disch := omega) only [go_sem, lint , hs1, hs2, hs3, hs4, hs5, ba_toList, ba_size, ba_extract, Int.toNat_zero, Int.toNat_natCast, lnC_nil, lnC_len, lnC_take, lnC_snocU])) (fun d => by first | ((simp (disch := omega) only [go_sem, lint , hs1, hs2, hs3, hs4, hs5, ba_toList, ba_size, ba_extract, Int.toNat_zero, Int.toNat_natCast, lnC_nil, lnC_len, lnC_take, lnC_snocU]); done) | ((simp (disch := omega) only [go_sem, lint , hs1, hs2, hs3, hs4, hs5, ba_toList, ba_size, ba_extract, Int.toNat_zero, Int.toNat_natCast, lnC_nil, lnC_len, lnC_take, lnC_snocU]); rfl))
  · have hd : lns 1 0 l = rs := by rw [hz, List.drop_of_length_le (by omega), lns_nil, List.append_nil]
    (refine Wk.o ?_; (repeat revert hK K); refine Wcf97a ?_; (repeat intro K hK); refine ⟨?_⟩)
    (simp only [bodyX]; refine ⟨_, by simp only [aresults, aresult, XS.as, Tryd.results21, aload, go_sem, Option.bind_some]; rfl, ?_⟩)
    exact ⟨_, snap_ln rfl rfl, by rw [hd], trivial⟩
end Go.Proofs.YtghdacijcnmhlaaDoor
