import Derived.Test.YtdaenbgjafalcaaDoorMgBE
import Derived.Test.YtdaenbgjafalcaaDoorMgAT
import Derived.Test.YtdaenbgjafalcaaDoorMgBC
import Derived.Test.YtdaenbgjafalcaaDoorMgBP
import Derived.Test.YtdaenbgjafalcaaDoorMgBJ
import Derived.Test.YtdaenbgjafalcaaDoorMgAP
import Derived.Test.YtdaenbgjafalcaaDoorMgBD
namespace Go.Proofs.YtdaenbgjafalcaaDoor
open Go.RowKit
set_option linter.unusedVariables false
theorem ADL_lit {P : Program} {tt : TT} {m : Nat} {S : AHeap → Prop} {H0 H : AHeap} {M : MS} {K : List AV → AHeap → MS → Prop} {fr : List AV} {o : Oper} {l : List Oper} {al : List Kd} {fl : List Bool} (hT : TyOK P tt) (y : IV) (hw : wantedS fr o = some true)
    (ha : ∀ H1, ∃ x obj, aop tt ⟨fr, H1⟩ o = some (x, H1 ++ [some obj]) ∧ SnapC (onlyH [H1.length] (H1 ++ [some obj])) x y) (h : ADL P m S H0 K (l, al, fl, putL fr o.dst (.iv y), H, M)) : ADL P m S H0 K (o :: l, .free :: al, false :: fl, fr, H, M) :=
  fun n hn G0 => ⟨.iv y, H, M, .free _ rfl rfl (wanted_iff hn hw) fun H1 => by
    obtain ⟨x, obj, h1, h2⟩ := ha H1
    exact does_lit hT h1 h2, h n (by show (putL _ _ _).length ≤ n; rw [putL_len]; exact hn) G0⟩
end Go.Proofs.YtdaenbgjafalcaaDoor
namespace Go.Proofs.YtdaenbgjafalcaaDoor
open Go.RowKit Go.Lib
set_option linter.unusedVariables false
set_option linter.unusedSimpArgs false
theorem ADL_litT {P : Program} {tt : TT} {m : Nat} {S : AHeap → Prop} {H0 H : AHeap} {M : MS} {K : List AV → AHeap → MS → Prop} {fr : List AV} {l : List Oper} {al : List Kd} {fl : List Bool} (hT : TyOK P tt) (xs : List (List UInt8)) {d : Option Tmp} {t n : Nat} {ps : Array (Nat × Operand)} {ty : TypeId} {pos : String} {after : Array Edge} {g : Option (Nat × Bool)} (hw : wantedS fr ⟨d, .buildSlice t n ps, ty, pos, after, g⟩ = some true)
    {e : TypeId} (ha : abuildSlice tt [] t n (ps.toList.map fun p => (p.1, AS.ev ⟨fr, H⟩ p.2)) = some (.osl 0 0 xs.length 1, [some ⟨e, xs.map fun x => lt (.string (ba x))⟩]))
    (h : ADL P m S H0 K (l, al, fl, putL fr d (.iv (iTxs xs)), H, M)) : ADL P m S H0 K (⟨d, .buildSlice t n ps, ty, pos, after, g⟩ :: l, .free :: al, false :: fl, fr, H, M) := by
  obtain ⟨len', sz', e1, e2⟩ := abuildSlice_at ha
  cases e1
  refine ADL_lit hT (iTxs xs) hw (fun H1 => ⟨.osl H1.length 0 xs.length 1, ⟨e, xs.map fun x => lt (.string (ba x))⟩, ?_, SnapC.lits (obj := ⟨e, xs.map fun x => lt (.string (ba x))⟩) (fun j => .string (ba (xs.getD j []))) (only_mk (by simp) (by simp)) fun j hj => ?_⟩) h
  · have e : (ps.toList.map fun p => (p.1, AS.ev ⟨fr, H1⟩ p.2)) = ps.toList.map fun p => (p.1, AS.ev ⟨fr, H⟩ p.2) := List.map_congr_left fun y _ => by obtain ⟨a, b⟩ := y; cases b <;> rfl
    simp only [aop]
    rw [e]; exact e2 H1
  · rw [Nat.zero_add, List.getElem?_map, List.getD_eq_getElem?_getD, List.getElem?_eq_getElem hj]; rfl
theorem evB_join (w : List UInt8) (p n : Int) : Lib.join [w, itoa p, itoa n] [32] ++ [10] = lineB w [p, n] := by
  unfold lineB
  simp [Lib.join, List.intercalate, numB]
attribute [go_sem] rnL_u8C idL_u8C
theorem W7bfba {A B : Prop} (h9 : B) (w : B → A := by (intro h9; (repeat intro K hK); refine ⟨?_⟩; (repeat (first | (first | (with_reducible first | refine AX_block ?_ | refine AX_skip ?_ | refine AX_exit ?_ | refine AX_ret ?_ | refine AX_ift ?_ | refine AX_iff ?_ | refine AX_seq_k (fun K hK => ?_) | refine ContX.use (by assumption) ?_) | simp only [thenX, inBlockX, if_true, if_false, reduceCtorEq]) | ((refine XRes_allocX tyOK (e := bT) (by rfl) (by rfl) (by rfl) ?_); (simp only [putL, List.set_cons_succ, List.set_cons_zero])) | (first | ((with_reducible refine XOP tyOK ?_); simp (disch := omega) only [go_sem , hs1, hs2, hs3, hs4, hs5, hs6, hs7, hs8, hs9, Int.toNat_zero, Int.toNat_one, Int.toNat_natCast, ba_size, ba_app, List.length_append, List.length_nil, List.length_cons, Nat.reduceAdd, u8C_len, List.length_set, flatE_w, flatE_p, flatE_n, Nat.zero_add]; (with_reducible refine XRes_id ?_)) | (with_reducible refine XSK ?_)) | ((with_reducible refine XRes_nil ?_); refine hK _ ?_; clear hK K) | (first | (first | refine XTL (by rfl) hJ ?_ | refine XTL (by rfl) hk ?_ | refine XTL (by rfl) hO ?_ | refine XTL (by rfl) hD1 ?_ | refine XTL (by rfl) hD2 ?_ | refine XTL (by rfl) hW2 ?_)) | ((with_reducible refine AX_reg0 fun K hK => ?_); simp only [go_sem]))); refine Wk.o ?_; (repeat revert hK K); exact h9)) : A := w h9
set_option maxRecDepth 100000 in
set_option maxHeartbeats 4000000 in
theorem pf_hline (w : List UInt8) (p n : Int) (hw : w.length ≤ 100) (hp : Fit p) (hn : Fit n) : PF Tryd.prog 27 [.iv (iTxs [w, itoa p, itoa n])] fun r H' => r = lt (.string (ba (lineB w [p, n]))) ∧ H' = [] := by
  refine SF.forgetAll ?_
  have hs1 := trivial; have hs2 := trivial; have hs3 := trivial; have hs4 := trivial; have hs5 := trivial; have hs6 := trivial; have hs7 := trivial; have hs8 := trivial; have hs9 := trivial; have hk := trivial; have hJ := trivial; have hO := trivial; have hD1 := trivial; have hD2 := trivial; have hW2 := trivial
  have hB := evB_join w p n
  have hl := lineB_len (ns := [p, n]) hw (fun x hx => by
    simp only [List.mem_cons, List.not_mem_nil, or_false] at hx
    rcases hx with rfl | rfl <;> assumption) (by decide : 2 ≤ 4)
  rw [← hB] at hl ⊢
  rw [List.length_append] at hl
  have hJ := pf_Join [w, itoa p, itoa n] [32] (by simp) (by omega)
  have hs5 : (⟨#[32]⟩ : ByteArray) = ba [32] := rfl
  have hs6 : (⟨#[10]⟩ : ByteArray) = ba [10] := rfl
  generalize Lib.join [w, itoa p, itoa n] [32] = j at *
  (refine SF_of_bodyX (aload tt) (aload_ok tyOK) Tryd.func27 rfl (by kernel_rfl) ?_; simp only [Tryd.ntmps27, List.length_cons, List.length_nil, Nat.reduceAdd, Nat.reduceSub, List.replicate_succ, List.replicate_zero, List.cons_append, List.nil_append])
  (repeat (first | (first | (with_reducible first | refine AX_block ?_ | refine AX_skip ?_ | refine AX_exit ?_ | refine AX_ret ?_ | refine AX_ift ?_ | refine AX_iff ?_ | refine AX_seq_k (fun K hK => ?_) | refine ContX.use (by assumption) ?_) | simp only [thenX, inBlockX, if_true, if_false, reduceCtorEq]) | (first | ((with_reducible refine XOP tyOK ?_); simp (disch := omega) only [go_sem , hs1, hs2, hs3, hs4, hs5, hs6, hs7, hs8, hs9, Int.toNat_zero, Int.toNat_one, Int.toNat_natCast, ba_size, ba_app, List.length_append, List.length_nil, List.length_cons, Nat.reduceAdd, u8C_len, List.length_set, flatE_w, flatE_p, flatE_n, Nat.zero_add]; (with_reducible refine XRes_id ?_)) | (with_reducible refine XSK ?_)) | ((with_reducible refine XRes_nil ?_); refine hK _ ?_; clear hK K) | (first | (first | refine XTL (by rfl) hJ ?_ | refine XTL (by rfl) hk ?_ | refine XTL (by rfl) hO ?_ | refine XTL (by rfl) hD1 ?_ | refine XTL (by rfl) hD2 ?_ | refine XTL (by rfl) hW2 ?_)) | ((with_reducible refine AX_reg0 fun K hK => ?_); simp only [go_sem])))
  (simp only [bodyX]; refine ⟨_, by simp only [aresults, aresult, XS.as, Tryd.results27, aload, go_sem, Option.bind_some]; rfl, ?_⟩)
  exact ⟨ids_idB rfl, rfl, trivial⟩
set_option maxRecDepth 100000 in
set_option maxHeartbeats 8000000 in
theorem pf_hPrint (o : Ob) (es : List Ev3) (h : CsSm o es) (hk : PF Tryd.prog 14 [csA o es] fun r H' => r = lt (.int .i64 (hChk o es)) ∧ H' = []) (hO0 : PF Tryd.prog 25 [obA o] fun r H' => r = .tup [lt (.string (ba (obB o))), lt (.int .i64 0)] ∧ H' = []) : PF Tryd.prog 12 [csA o es] fun r H' => r = .tup [lt (.string (ba (caseB o es))), lt (.int .i64 0)] ∧ H' = [] := by
  refine SF.forgetAll ?_
  have hk0 := hk
  have hs1 := trivial; have hs2 := trivial; have hs3 := trivial; have hs4 := trivial; have hs5 := trivial; have hs6 := trivial; have hs7 := trivial; have hs8 := trivial; have hs9 := trivial; have hk := trivial; have hJ := trivial; have hO := trivial; have hD1 := trivial; have hD2 := trivial; have hW2 := trivial
  have hk := hk0
  have hO := hO0
  rw [h.chk] at hk
  have htot := h.tot
  have hlen := h.len
  have hkin := h.kin
  have hone := fun k (hk : k < es.length) => h.evs.one h.kin.2 hk
  have hbl := fun x hx => evB_len h.kin.2 h.evs (x := x) hx
  have htx := evs_txt h.kin.2 h.evs
  have hbne : obB o ≠ [] := by unfold obB headB4 lineB wObj; simp
  have hcb : caseB o es = obB o ++ es.flatMap evB := rfl
  rw [hcb]
  clear h hk0 hO0 hcb
  have hs5 : (⟨#[99, 97, 108, 108]⟩ : ByteArray) = ba wCall := rfl
  have hs6 : (⟨#[114, 101, 116]⟩ : ByteArray) = ba wRet := rfl
  generalize obB o = hb at *
  obtain ⟨S, Kn, I, R⟩ := o
  unfold csA iEvs iFlat at *
  unfold obA at hO
  dsimp only at *
  have hhb : hb.length ≤ 1000000 := by omega
  (refine SF_of_bodyX (aload tt) (aload_ok tyOK) Tryd.func12 rfl (by kernel_rfl) ?_; simp only [Tryd.ntmps12, List.length_cons, List.length_nil, Nat.reduceAdd, Nat.reduceSub, List.replicate_succ, List.replicate_zero, List.cons_append, List.nil_append])
  (refine Wk.o ?_; (repeat revert hK K); refine W7bfba ?_; (repeat intro K hK); refine ⟨?_⟩)
  refine XRes_cellNewO 1 5 1 1 _ rfl rfl ?_
  simp only [List.length_cons, List.length_nil, List.cons_append, List.nil_append, Nat.zero_add, Nat.reduceAdd, List.set_cons_succ, List.set_cons_zero]
  refine XRes_fn (by rfl) (sf_bws (o := 1) (q := 2) (l := []) (by rfl) (.inl rfl) (by rfl) (by decide) (by decide) hb (by omega)) ?_
  rintro r H1 ⟨rfl, rfl⟩
  (simp only [putL, List.set_cons_succ, List.set_cons_zero])
  (refine Wk.o ?_; (repeat revert hK K); refine W7bfba ?_; (repeat intro K hK); refine ⟨?_⟩)
  refine AX_ren [0, 1, 3] [] ?fr2 [some ⟨28, [lt (.int .i64 S), lt (.int .i64 Kn), lt (.int .i64 I), .iv (iRws R), .iv (.sl (fun j => .lit (.int .i64 ((flatE es).getD j 0))) es.length 3)]⟩, some ⟨bT, [.xptr 1 2, .osl 2 0 hb.length 1]⟩, some ⟨5, u8C hb⟩] (by decide) (by decide) (by (simp (disch := omega) only [go_sem, lint , hs1, hs2, hs3, hs4, hs5, hs6, hs7, hs8, hs9, Int.toNat_zero, Int.toNat_one, Int.toNat_natCast, ba_size, ba_app, List.length_append, List.length_nil, List.length_cons, Nat.reduceAdd, u8C_len, List.length_set, flatE_w, flatE_p, flatE_n, Nat.zero_add])) (by (simp (disch := omega) only [go_sem, lint , hs1, hs2, hs3, hs4, hs5, hs6, hs7, hs8, hs9, Int.toNat_zero, Int.toNat_one, Int.toNat_natCast, ba_size, ba_app, List.length_append, List.length_nil, List.length_cons, Nat.reduceAdd, u8C_len, List.length_set, flatE_w, flatE_p, flatE_n, Nat.zero_add])) (by (simp (disch := omega) only [go_sem, lint , hs1, hs2, hs3, hs4, hs5, hs6, hs7, hs8, hs9, Int.toNat_zero, Int.toNat_one, Int.toNat_natCast, ba_size, ba_app, List.length_append, List.length_nil, List.length_cons, Nat.reduceAdd, u8C_len, List.length_set, flatE_w, flatE_p, flatE_n, Nat.zero_add])) ?hfr (fun d2 => ?_)
  case hfr =>
    (simp (disch := omega) only [go_sem, lint , hs1, hs2, hs3, hs4, hs5, hs6, hs7, hs8, hs9, Int.toNat_zero, Int.toNat_one, Int.toNat_natCast, ba_size, ba_app, List.length_append, List.length_nil, List.length_cons, Nat.reduceAdd, u8C_len, List.length_set, flatE_w, flatE_p, flatE_n, Nat.zero_add])
    rfl
  simp only [deadS, List.set_cons_succ, List.set_cons_zero]
  (refine AWH (σ := Nat × List UInt8) [31, 32, 33, 9, 10, 34, 35, 36, 37, 38, 39, 40, 41, 42, 43, 44, 45, 46, 47] (fun (k, x) => [(30, lint k)]) (fun (k, x) => [some ⟨28, [lt (.int .i64 S), lt (.int .i64 Kn), lt (.int .i64 I), .iv (iRws R), .iv (.sl (fun j => .lit (.int .i64 ((flatE es).getD j 0))) es.length 3)]⟩, some ⟨bT, [.xptr 1 2, .osl 2 0 x.length 1]⟩, some ⟨5, u8C x⟩]) (fun (k, x) => []) (fun (k, x) => k ≤ es.length ∧ x = hb ++ (es.take k).flatMap evB) (fun (k, x) => es.length - k) (0, hb) (by first | exact ⟨Nat.zero_le _, by simp⟩) ?_; rintro ⟨k, x⟩ d fr hfr ⟨hk2, hx0⟩; simp only [updS, deadS, List.set_cons_succ, List.set_cons_zero, lint] at hfr; subst hfr; (try dsimp only))
  have hxl : x.length ≤ hb.length + k * 200 := by rw [hx0, List.length_append]; have := htx k hk2; omega
  by_cases hlt : k < es.length
  · have hst := flat_step evB ev0 hlt
    obtain ⟨r1, r2, r3, r4, _⟩ := hone k hlt
    have hfp : Fit (evAt es k).p := ⟨by omega, by omega⟩
    have hfn : Fit (evAt es k).n := by
      rcases r1 with r1 | r1
      · have := r3 r1; exact ⟨by omega, by omega⟩
      · have := r4 r1; exact ⟨by omega, by omega⟩
    have hD1 := pf_Digits (evAt es k).p hfp.1 hfp.2
    have hD2 := pf_Digits (evAt es k).n hfn.1 hfn.2
    have hwd := (evWd_ok (evAt es k)).2.2.2
    have hLn := pf_hline (evWd (evAt es k)) (evAt es k).p (evAt es k).n hwd hfp hfn
    have hnew : x ++ lineB (evWd (evAt es k)) [(evAt es k).p, (evAt es k).n] = hb ++ (es.take (k + 1)).flatMap evB := by rw [hst, hx0, List.append_assoc]; rfl
    have hll := hbl (evAt es k) (by unfold evAt; rw [List.getD_eq_getElem?_getD, List.getElem?_eq_getElem hlt]; exact List.getElem_mem hlt)
    have hll : (lineB (evWd (evAt es k)) [(evAt es k).p, (evAt es k).n]).length ≤ 200 := hll
    generalize lineB (evWd (evAt es k)) [(evAt es k).p, (evAt es k).n] = y at *
    have hWS := SX.of (M := []) (sf_bws (H := [some ⟨28, [lt (.int .i64 S), lt (.int .i64 Kn), lt (.int .i64 I), .iv (iRws R), .iv (.sl (fun j => .lit (.int .i64 ((flatE es).getD j 0))) es.length 3)]⟩, some ⟨bT, [.xptr 1 2, .osl 2 0 x.length 1]⟩, some ⟨5, u8C x⟩, some ⟨51, [lt (.int .i64 (evAt es k).w), lt (.int .i64 (evAt es k).p), lt (.int .i64 (evAt es k).n)]⟩]) (o := 1) (q := 2) (l := x) (by rfl) (.inr rfl) (by rfl) (by decide) (by omega) y (by omega))
    replace hWS := hWS.mono (Q' := fun r H' M' => r = .tup [lt (.int .i64 (y.length : Int)), lt .nilIface] ∧ H' = [some ⟨28, [lt (.int .i64 S), lt (.int .i64 Kn), lt (.int .i64 I), .iv (iRws R), .iv (.sl (fun j => .lit (.int .i64 ((flatE es).getD j 0))) es.length 3)]⟩, some ⟨bT, [.xptr 1 2, .osl 4 0 (x.length + y.length) 1]⟩, none, some ⟨51, [lt (.int .i64 (evAt es k).w), lt (.int .i64 (evAt es k).p), lt (.int .i64 (evAt es k).n)]⟩, some ⟨5, u8C (x ++ y)⟩] ∧ M' = []) fun r H' M' h => ⟨h.1.1, h.1.2.trans rfl, h.2⟩
    by_cases hw : (evAt es k).w = 2
    · have hs7 : ((evAt es k).w == 2) = true := by simp [hw]
      rw [show evWd (evAt es k) = wRet by unfold evWd; rw [if_pos hw]] at hLn
      (refine Wk.o ?_; (repeat revert hK K); refine W7bfba ?_; (repeat intro K hK); refine ⟨?_⟩)
      refine AX_drawLk (fun H => H[3]? = some (some ⟨51, [lt (.int .i64 (evAt es k).w), lt (.int .i64 (evAt es k).p), lt (.int .i64 (evAt es k).n)]⟩)) 9 [.free, .free, .free, .free, .free, .free, .free, .free, .free, .chg] [false, false, true, false, false, true, false, false, false, false] (by kernel_rfl) (by decide +kernel) (by decide +kernel) rfl fun K hK => ?_
      simp only [go_sem]
      repeat (first | (first | ((refine ADL_tellF (by rfl) hD1 (by exact idsA (by rfl)) (fun _ => rfl) ?_); (simp only [putL, List.set_cons_succ, List.set_cons_zero])) | ((refine ADL_tellF (by rfl) hD2 (by exact idsA (by rfl)) (fun _ => rfl) ?_); (simp only [putL, List.set_cons_succ, List.set_cons_zero])) | ((refine ADL_tellF (by rfl) hLn (by exact idsA (by rfl)) (fun _ => rfl) ?_); (simp only [putL, List.set_cons_succ, List.set_cons_zero])) | ((refine ADL_litT tyOK [wRet, itoa (evAt es k).p, itoa (evAt es k).n] (by rfl) (by rfl) ?_); (simp only [putL, List.set_cons_succ, List.set_cons_zero])) | ((refine ADL_litT tyOK [wCall, itoa (evAt es k).p, itoa (evAt es k).n] (by rfl) (by rfl) ?_); (simp only [putL, List.set_cons_succ, List.set_cons_zero])) | ((with_reducible refine ADL_free tyOK ?_ ?_ ?_); (focus rfl); (focus (first | (with_reducible rfl) | ((simp (disch := omega) only [go_sem]); done))); simp (disch := omega) only [go_sem , hs1, hs2, hs3, hs4, hs5, hs6, hs7, hs8, hs9, Int.toNat_zero, Int.toNat_one, Int.toNat_natCast, ba_size, ba_app, List.length_append, List.length_nil, List.length_cons, Nat.reduceAdd, u8C_len, List.length_set, flatE_w, flatE_p, flatE_n, Nat.zero_add]; (with_reducible refine ADL_id ?_)) | ((refine ADL_look tyOK (by rfl) (by rfl) (fun H hS => by first | (simp only [go_sem, hS , hs1, hs2, hs3, hs4, hs5, hs6, hs7, hs8, hs9, Int.toNat_zero, Int.toNat_one, Int.toNat_natCast, ba_size, ba_app, List.length_append, List.length_nil, List.length_cons, Nat.reduceAdd, u8C_len, List.length_set, flatE_w, flatE_p, flatE_n, Nat.zero_add]; rfl) | (simp (disch := omega) only [go_sem , hs1, hs2, hs3, hs4, hs5, hs6, hs7, hs8, hs9, Int.toNat_zero, Int.toNat_one, Int.toNat_natCast, ba_size, ba_app, List.length_append, List.length_nil, List.length_cons, Nat.reduceAdd, u8C_len, List.length_set, flatE_w, flatE_p, flatE_n, Nat.zero_add]; rfl)) ?_); (simp only [putL, List.set_cons_succ, List.set_cons_zero])) | ((refine ADL_callX (by simp only [List.length_cons]; omega) (by rfl) (by rfl) hWS (by simp only [List.length_cons]; omega) (fun hh => by cases hh) ?_); (simp only [putL, List.set_cons_succ, List.set_cons_zero]))) | ((refine ADL_nil ?_); (refine hK _ _ _ (by simp only [List.length_cons]; omega) ?_); clear hK K))
      (refine Wk.o ?_; (repeat revert hK K); refine W7bfba ?_; (repeat intro K hK); refine ⟨?_⟩)
      exact whx_ren [0, 1, 4] (k + 1, x ++ y) ⟨by dsimp only; omega, hnew⟩ (by dsimp only; omega) rfl (by decide) (by decide) (by (simp (disch := omega) only [go_sem, lint , hs1, hs2, hs3, hs4, hs5, hs6, hs7, hs8, hs9, Int.toNat_zero, Int.toNat_one, Int.toNat_natCast, ba_size, ba_app, List.length_append, List.length_nil, List.length_cons, Nat.reduceAdd, u8C_len, List.length_set, flatE_w, flatE_p, flatE_n, Nat.zero_add])) (by (simp (disch := omega) only [go_sem, lint , hs1, hs2, hs3, hs4, hs5, hs6, hs7, hs8, hs9, Int.toNat_zero, Int.toNat_one, Int.toNat_natCast, ba_size, ba_app, List.length_append, List.length_nil, List.length_cons, Nat.reduceAdd, u8C_len, List.length_set, flatE_w, flatE_p, flatE_n, Nat.zero_add])) (by (simp (disch := omega) only [go_sem, lint , hs1, hs2, hs3, hs4, hs5, hs6, hs7, hs8, hs9, Int.toNat_zero, Int.toNat_one, Int.toNat_natCast, ba_size, ba_app, List.length_append, List.length_nil, List.length_cons, Nat.reduceAdd, u8C_len, List.length_set, flatE_w, flatE_p, flatE_n, Nat.zero_add])) (fun d => by first | ((simp (disch := omega) only [go_sem, lint , hs1, hs2, hs3, hs4, hs5, hs6, hs7, hs8, hs9, Int.toNat_zero, Int.toNat_one, Int.toNat_natCast, ba_size, ba_app, List.length_append, List.length_nil, List.length_cons, Nat.reduceAdd, u8C_len, List.length_set, flatE_w, flatE_p, flatE_n, Nat.zero_add]); done) | ((simp (disch := omega) only [go_sem, lint , hs1, hs2, hs3, hs4, hs5, hs6, hs7, hs8, hs9, Int.toNat_zero, Int.toNat_one, Int.toNat_natCast, ba_size, ba_app, List.length_append, List.length_nil, List.length_cons, Nat.reduceAdd, u8C_len, List.length_set, flatE_w, flatE_p, flatE_n, Nat.zero_add]); rfl))
    · have hs7 : ((evAt es k).w == 2) = false := by simp [hw]
      rw [show evWd (evAt es k) = wCall by unfold evWd; rw [if_neg hw]] at hLn
      (refine Wk.o ?_; (repeat revert hK K); refine W7bfba ?_; (repeat intro K hK); refine ⟨?_⟩)
      refine AX_drawLk (fun H => H[3]? = some (some ⟨51, [lt (.int .i64 (evAt es k).w), lt (.int .i64 (evAt es k).p), lt (.int .i64 (evAt es k).n)]⟩)) 9 [.free, .free, .free, .free, .free, .free, .free, .free, .free, .chg] [false, false, true, false, false, true, false, false, false, false] (by kernel_rfl) (by decide +kernel) (by decide +kernel) rfl fun K hK => ?_
      simp only [go_sem]
      repeat (first | (first | ((refine ADL_tellF (by rfl) hD1 (by exact idsA (by rfl)) (fun _ => rfl) ?_); (simp only [putL, List.set_cons_succ, List.set_cons_zero])) | ((refine ADL_tellF (by rfl) hD2 (by exact idsA (by rfl)) (fun _ => rfl) ?_); (simp only [putL, List.set_cons_succ, List.set_cons_zero])) | ((refine ADL_tellF (by rfl) hLn (by exact idsA (by rfl)) (fun _ => rfl) ?_); (simp only [putL, List.set_cons_succ, List.set_cons_zero])) | ((refine ADL_litT tyOK [wRet, itoa (evAt es k).p, itoa (evAt es k).n] (by rfl) (by rfl) ?_); (simp only [putL, List.set_cons_succ, List.set_cons_zero])) | ((refine ADL_litT tyOK [wCall, itoa (evAt es k).p, itoa (evAt es k).n] (by rfl) (by rfl) ?_); (simp only [putL, List.set_cons_succ, List.set_cons_zero])) | ((with_reducible refine ADL_free tyOK ?_ ?_ ?_); (focus rfl); (focus (first | (with_reducible rfl) | ((simp (disch := omega) only [go_sem]); done))); simp (disch := omega) only [go_sem , hs1, hs2, hs3, hs4, hs5, hs6, hs7, hs8, hs9, Int.toNat_zero, Int.toNat_one, Int.toNat_natCast, ba_size, ba_app, List.length_append, List.length_nil, List.length_cons, Nat.reduceAdd, u8C_len, List.length_set, flatE_w, flatE_p, flatE_n, Nat.zero_add]; (with_reducible refine ADL_id ?_)) | ((refine ADL_look tyOK (by rfl) (by rfl) (fun H hS => by first | (simp only [go_sem, hS , hs1, hs2, hs3, hs4, hs5, hs6, hs7, hs8, hs9, Int.toNat_zero, Int.toNat_one, Int.toNat_natCast, ba_size, ba_app, List.length_append, List.length_nil, List.length_cons, Nat.reduceAdd, u8C_len, List.length_set, flatE_w, flatE_p, flatE_n, Nat.zero_add]; rfl) | (simp (disch := omega) only [go_sem , hs1, hs2, hs3, hs4, hs5, hs6, hs7, hs8, hs9, Int.toNat_zero, Int.toNat_one, Int.toNat_natCast, ba_size, ba_app, List.length_append, List.length_nil, List.length_cons, Nat.reduceAdd, u8C_len, List.length_set, flatE_w, flatE_p, flatE_n, Nat.zero_add]; rfl)) ?_); (simp only [putL, List.set_cons_succ, List.set_cons_zero])) | ((refine ADL_callX (by simp only [List.length_cons]; omega) (by rfl) (by rfl) hWS (by simp only [List.length_cons]; omega) (fun hh => by cases hh) ?_); (simp only [putL, List.set_cons_succ, List.set_cons_zero]))) | ((refine ADL_nil ?_); (refine hK _ _ _ (by simp only [List.length_cons]; omega) ?_); clear hK K))
      (refine Wk.o ?_; (repeat revert hK K); refine W7bfba ?_; (repeat intro K hK); refine ⟨?_⟩)
      exact whx_ren [0, 1, 4] (k + 1, x ++ y) ⟨by dsimp only; omega, hnew⟩ (by dsimp only; omega) rfl (by decide) (by decide) (by (simp (disch := omega) only [go_sem, lint , hs1, hs2, hs3, hs4, hs5, hs6, hs7, hs8, hs9, Int.toNat_zero, Int.toNat_one, Int.toNat_natCast, ba_size, ba_app, List.length_append, List.length_nil, List.length_cons, Nat.reduceAdd, u8C_len, List.length_set, flatE_w, flatE_p, flatE_n, Nat.zero_add])) (by (simp (disch := omega) only [go_sem, lint , hs1, hs2, hs3, hs4, hs5, hs6, hs7, hs8, hs9, Int.toNat_zero, Int.toNat_one, Int.toNat_natCast, ba_size, ba_app, List.length_append, List.length_nil, List.length_cons, Nat.reduceAdd, u8C_len, List.length_set, flatE_w, flatE_p, flatE_n, Nat.zero_add])) (by (simp (disch := omega) only [go_sem, lint , hs1, hs2, hs3, hs4, hs5, hs6, hs7, hs8, hs9, Int.toNat_zero, Int.toNat_one, Int.toNat_natCast, ba_size, ba_app, List.length_append, List.length_nil, List.length_cons, Nat.reduceAdd, u8C_len, List.length_set, flatE_w, flatE_p, flatE_n, Nat.zero_add])) (fun d => by first | ((simp (disch := omega) only [go_sem, lint , hs1, hs2, hs3, hs4, hs5, hs6, hs7, hs8, hs9, Int.toNat_zero, Int.toNat_one, Int.toNat_natCast, ba_size, ba_app, List.length_append, List.length_nil, List.length_cons, Nat.reduceAdd, u8C_len, List.length_set, flatE_w, flatE_p, flatE_n, Nat.zero_add]); done) | ((simp (disch := omega) only [go_sem, lint , hs1, hs2, hs3, hs4, hs5, hs6, hs7, hs8, hs9, Int.toNat_zero, Int.toNat_one, Int.toNat_natCast, ba_size, ba_app, List.length_append, List.length_nil, List.length_cons, Nat.reduceAdd, u8C_len, List.length_set, flatE_w, flatE_p, flatE_n, Nat.zero_add]); rfl))
  · obtain rfl : k = es.length := by omega
    rw [List.take_length] at hx0
    have h1 := htx es.length (Nat.le_refl _)
    rw [List.take_length] at h1
    (refine Wk.o ?_; (repeat revert hK K); refine W7bfba ?_; (repeat intro K hK); refine ⟨?_⟩)
    refine XRes_fn (by rfl) (sf_bstr (o := 1) (q := 2) (l := x) (by rfl) (by rfl) (by intro e; rw [hx0] at e; exact hbne (List.append_eq_nil_iff.1 e).1) (by omega)) ?_
    rintro r H1 ⟨rfl, rfl⟩
    (simp only [putL, List.set_cons_succ, List.set_cons_zero])
    (refine Wk.o ?_; (repeat revert hK K); refine W7bfba ?_; (repeat intro K hK); refine ⟨?_⟩)
    (simp only [bodyX]; refine ⟨_, by simp only [aresults, aresult, XS.as, Tryd.results12, aload, go_sem, Option.bind_some]; rfl, ?_⟩)
    exact ⟨ids_idB rfl, by rw [← hx0]; rfl, trivial⟩
end Go.Proofs.YtdaenbgjafalcaaDoor
namespace Go.Proofs.YtdaenbgjafalcaaDoor
open Go.RowKit Go.Lib
set_option linter.unusedVariables false
set_option linter.unusedSimpArgs false
theorem W88b8a {A B : Prop} (h9 : B) (w : B → A := by (intro h9; (repeat intro K hK); refine ⟨?_⟩; (repeat (first | (first | (with_reducible first | refine AX_block ?_ | refine AX_skip ?_ | refine AX_exit ?_ | refine AX_ret ?_ | refine AX_ift ?_ | refine AX_iff ?_ | refine AX_seq_k (fun K hK => ?_) | refine ContX.use (by assumption) ?_) | simp only [thenX, inBlockX, if_true, if_false, reduceCtorEq]) | ((first | (refine XRes_litF tyOK (by rfl) rfl (by decide) rfl rfl ?_) | (refine ADF_litF tyOK (by rfl) rfl (by decide) rfl rfl ?_)); (simp only [List.map_cons, List.map_nil, intOf, putL, List.set_cons_succ, List.set_cons_zero])) | (first | ((with_reducible refine XOP tyOK ?_); simp (disch := omega) only [go_sem , hs1, hs2, hs3, hs4, hs5, hs6, hs7, hs8, hs9, hsa, hsb, hsc, hW1, hW2, beq_self_eq_true, bne_self_eq_false, eOpn_get, Int.toNat_zero, Int.toNat_one, Int.reduceToNat, Nat.reduceMul, Nat.reduceAdd, Nat.zero_add, Int.toNat_natCast, List.length_nil, List.length_cons, ba_size, ba_toList, List.getD_cons_zero, List.getD_cons_succ]; (with_reducible refine XRes_id ?_)) | (with_reducible refine XSK ?_)) | ((with_reducible refine XRes_nil ?_); refine hK _ ?_; clear hK K) | (first | (first | refine XTL (by rfl) hN ?_ | refine ATL tyOK (by rfl) hN ?_) | ((refine XRes_mget (i := 0) rfl Tryd.underlying99 int_zero (by decide) rfl rfl rfl hpb ?_); (simp only [putL, List.set_cons_succ, List.set_cons_zero, mInt_upd, mInt_del, mInt_get, mInt_is, mSet_upd, mSet_get, mSet_is, List.nil_append, List.cons_append])) | ((refine XRes_mput (i := 0) rfl Tryd.underlying99 rfl rfl rfl hpb rfl (int_plain (by decide)) hnb ?_); (simp only [putL, List.set_cons_succ, List.set_cons_zero, mInt_upd, mInt_del, mInt_get, mInt_is, mSet_upd, mSet_get, mSet_is, List.nil_append, List.cons_append]))) | ((with_reducible refine AX_reg0 fun K hK => ?_); simp only [go_sem]))); refine Wk.o ?_; (repeat revert hK K); exact h9)) : A := w h9
theorem W88b8b {A B : Prop} (h9 : B) (w : B → A := by (intro h9; (repeat intro K hK); refine ⟨?_⟩; (repeat (first | (first | ((with_reducible refine ADL_free tyOK ?_ ?_ ?_); (focus rfl); (focus (first | (with_reducible rfl) | ((simp (disch := omega) only [go_sem]); done))); simp (disch := omega) only [go_sem , hs1, hs2, hs3, hs4, hs5, hs6, hs7, hs8, hs9, hsa, hsb, hsc, hW1, hW2, beq_self_eq_true, bne_self_eq_false, eOpn_get, Int.toNat_zero, Int.toNat_one, Int.reduceToNat, Nat.reduceMul, Nat.reduceAdd, Nat.zero_add, Int.toNat_natCast, List.length_nil, List.length_cons, ba_size, ba_toList, List.getD_cons_zero, List.getD_cons_succ]; (with_reducible refine ADL_id ?_)) | ((refine ADL_look tyOK (by rfl) (by rfl) (fun H hS => by first | (simp only [go_sem, hS , hs1, hs2, hs3, hs4, hs5, hs6, hs7, hs8, hs9, hsa, hsb, hsc, hW1, hW2, beq_self_eq_true, bne_self_eq_false, eOpn_get, Int.toNat_zero, Int.toNat_one, Int.reduceToNat, Nat.reduceMul, Nat.reduceAdd, Nat.zero_add, Int.toNat_natCast, List.length_nil, List.length_cons, ba_size, ba_toList, List.getD_cons_zero, List.getD_cons_succ]; rfl) | (simp (disch := omega) only [go_sem , hs1, hs2, hs3, hs4, hs5, hs6, hs7, hs8, hs9, hsa, hsb, hsc, hW1, hW2, beq_self_eq_true, bne_self_eq_false, eOpn_get, Int.toNat_zero, Int.toNat_one, Int.reduceToNat, Nat.reduceMul, Nat.reduceAdd, Nat.zero_add, Int.toNat_natCast, List.length_nil, List.length_cons, ba_size, ba_toList, List.getD_cons_zero, List.getD_cons_succ]; rfl)) ?_); (simp only [putL, List.set_cons_succ, List.set_cons_zero])) | ((with_reducible refine ADL_chg tyOK ?_ ?_ ?_); (exact Nat.le_of_ble_eq_true rfl); (focus (first | (with_reducible rfl) | ((simp (disch := omega) only [go_sem]); done))); simp (disch := omega) only [go_sem , hs1, hs2, hs3, hs4, hs5, hs6, hs7, hs8, hs9, hsa, hsb, hsc, hW1, hW2, beq_self_eq_true, bne_self_eq_false, eOpn_get, Int.toNat_zero, Int.toNat_one, Int.reduceToNat, Nat.reduceMul, Nat.reduceAdd, Nat.zero_add, Int.toNat_natCast, List.length_nil, List.length_cons, ba_size, ba_toList, List.getD_cons_zero, List.getD_cons_succ]; (first | (refine ⟨(by decide), (fun hh => by first | trivial | rfl | cases hh), ?_⟩) | (refine ⟨(by decide), ?_⟩) | (refine ⟨(fun hh => by first | trivial | rfl | cases hh), ?_⟩) | skip); (with_reducible refine ADL_id ?_))) | ((refine ADL_nil ?_); (refine hK _ _ _ (Nat.le_of_ble_eq_true rfl) ?_); clear hK K))); refine Wk.o ?_; (repeat revert hK K); exact h9)) : A := w h9
set_option maxRecDepth 100000 in
set_option maxHeartbeats 4000000 in
theorem sx_events (Kd z : Int) (X : Option AObj) : SX Tryd.prog 18 [lt (.int .i64 Kd), lt (.int .i64 z)] [X] [] fun r H' M' => ∃ b, r = .fn 43 [] [.optr 1 0, .optr 2 0, .optr 3 0, .optr 4 0] ∧ H' = [X, some ⟨3, [lt (.int .i64 Kd)]⟩, some ⟨3, [lt (.int .i64 z)]⟩, some ⟨99, [lt (.map (some b))]⟩, some ⟨3, [lt (.int .i64 0)]⟩] ∧ M' = [(b, 0, mInt fun _ => none)] := by
  have hs1 := trivial; have hs2 := trivial; have hs3 := trivial; have hs4 := trivial; have hs5 := trivial; have hs6 := trivial; have hs7 := trivial; have hs8 := trivial; have hs9 := trivial; have hsa := trivial; have hsb := trivial; have hsc := trivial; have hN := trivial; have hW1 := trivial; have hW2 := trivial
  (refine SX_of_bodyL (aload tt) (aload_ok tyOK) Tryd.func18 rfl (by kernel_rfl) ?_; simp only [Tryd.ntmps18, List.length_cons, List.length_nil, Nat.reduceAdd, Nat.reduceSub, List.replicate_succ, List.replicate_zero, List.cons_append, List.nil_append])
  (repeat (first | (first | (with_reducible first | refine AX_block ?_ | refine AX_skip ?_ | refine AX_exit ?_ | refine AX_ret ?_ | refine AX_ift ?_ | refine AX_iff ?_ | refine AX_seq_k (fun K hK => ?_) | refine ContX.use (by assumption) ?_) | simp only [thenX, inBlockX, if_true, if_false, reduceCtorEq]) | (first | ((with_reducible refine XOP tyOK ?_); simp (disch := omega) only [go_sem , hs1, hs2, hs3, hs4, hs5, hs6, hs7, hs8, hs9, hsa, hsb, hsc, hW1, hW2, beq_self_eq_true, bne_self_eq_false, eOpn_get, Int.toNat_zero, Int.toNat_one, Int.reduceToNat, Nat.reduceMul, Nat.reduceAdd, Nat.zero_add, Int.toNat_natCast, List.length_nil, List.length_cons, ba_size, ba_toList, List.getD_cons_zero, List.getD_cons_succ]; (with_reducible refine XRes_id ?_)) | (with_reducible refine XSK ?_)) | ((with_reducible refine XRes_nil ?_); refine hK _ ?_; clear hK K) | ((refine XRes_makeMap rfl (fun b => ?_)); (simp only [putL, List.set_cons_succ, List.set_cons_zero, mInt_upd, mInt_del, mInt_get, mInt_is, mSet_upd, mSet_get, mSet_is, List.nil_append, List.cons_append])) | ((with_reducible refine AX_reg0 fun K hK => ?_); simp only [go_sem])))
  refine LeadX.now ?_
  (simp only [bodyXM]; refine ⟨_, by simp only [aresults, aresult, XS.as, Tryd.results18, aload, go_sem, Option.bind_some]; rfl, ?_⟩)
  exact ⟨b, by first | trivial | rfl, by first | trivial | rfl, by first | trivial | rfl⟩
theorem nums_at {T : List Tok3} {w : List UInt8} {lo hi : List Int} {z : Int} (h : (nums T w lo hi z).2.2 = 0) : (nums T w lo hi z).2.1 = z := by
  unfold nums at h ⊢
  split at h
  · cases h
  · rename_i h0
    rw [if_neg h0]
    split at h
    · cases h
    · rename_i h1
      rw [if_neg h1]
      exact (nGo_len h).2
set_option maxRecDepth 100000 in
set_option maxHeartbeats 4000000 in
theorem sx_evNo (Kd z : Int) (es : List Ev3) (T : List Tok3) (b n : Nat) (X Y : Option AObj) (hT : TokOK T) (hT0 : T.length ≠ 0) (hKd : 1 ≤ Kd ∧ Kd ≤ 64) (c1 : (T.getD 0 tok0).2.2 ≠ wCall) (c2 : (T.getD 0 tok0).2.2 ≠ wRet) :
    SX Tryd.prog 43 [.iv (iTokL T), .optr 1 0, .optr 2 0, .optr 3 0, .optr 4 0] [X, some ⟨3, [lt (.int .i64 Kd)]⟩, some ⟨3, [lt (.int .i64 z)]⟩, some ⟨99, [lt (.map (some b))]⟩, some ⟨3, [lt (.int .i64 (es.length : Int))]⟩, Y] [(b, n, mInt (eOpn es es.length))] fun r H' M' => r = .tup [evA (evOne Kd z es T).1, lt (.int .i64 (evOne Kd z es T).2.1), lt (.int .i64 (evOne Kd z es T).2.2)] ∧ (∃ A B, H' = [X, some ⟨3, [lt (.int .i64 Kd)]⟩, some ⟨3, [lt (.int .i64 z)]⟩, some ⟨99, [lt (.map (some b))]⟩, some ⟨3, [lt (.int .i64 (es.length : Int))]⟩, Y, A, B]) ∧ M' = [(b, n, mInt (eOpn es es.length))] := by
  have hs1 := trivial; have hs2 := trivial; have hs3 := trivial; have hs4 := trivial; have hs5 := trivial; have hs6 := trivial; have hs7 := trivial; have hs8 := trivial; have hs9 := trivial; have hsa := trivial; have hsb := trivial; have hsc := trivial; have hN := trivial; have hW1 := trivial; have hW2 := trivial
  have hq : evOne Kd z es T = (ev0, (T.getD 0 tok0).2.1, 8) := if_pos ⟨c1, c2⟩
  rw [hq]
  obtain ⟨e1, e2, e3⟩ := tokL_atL (T := T) (k := 0) (by omega)
  have hs1 : (tokL T).getD 0 undef = _ := e1
  have hs2 : (tokL T).getD 1 undef = _ := e2
  have hs3 : (tokL T).getD 2 undef = _ := e3
  have hs4 : (⟨#[99, 97, 108, 108]⟩ : ByteArray) = ba wCall := rfl
  have hs5 : (⟨#[114, 101, 116]⟩ : ByteArray) = ba wRet := rfl
  have hs6 : ((T.getD 0 tok0).2.2 == wCall) = false := by simpa using c1
  have hs7 : ((T.getD 0 tok0).2.2 == wRet) = false := by simpa using c2
  have hln := hT.len
  generalize (T.getD 0 tok0).1 = tl at *
  generalize (T.getD 0 tok0).2.1 = tp at *
  generalize (T.getD 0 tok0).2.2 = tx at *
  unfold iTokL
  (refine SX_of_bodyL (aload tt) (aload_ok tyOK) Tryd.func43 rfl (by kernel_rfl) ?_; simp only [Tryd.ntmps43, List.length_cons, List.length_nil, Nat.reduceAdd, Nat.reduceSub, List.replicate_succ, List.replicate_zero, List.cons_append, List.nil_append])
  (refine Wk.o ?_; (repeat revert hK K); refine W88b8a ?_; (repeat intro K hK); refine ⟨?_⟩)
  ((refine AX_drawLk (fun H => H[7]? = some (some ⟨49, [lt (.int .i64 tl), lt (.int .i64 tp), lt (.string (ba tx))]⟩)) 6 [.free, .free, .free, .chg, .free, .free] [false, false, true, true, false, false] (by kernel_rfl) (by decide +kernel) (by decide +kernel) rfl fun K hK => ?_); (simp only [go_sem]); (refine Wk.o ?_; (repeat revert hK K); refine W88b8b ?_; (repeat intro K hK); refine ⟨?_⟩))
  (refine Wk.o ?_; (repeat revert hK K); refine W88b8a ?_; (repeat intro K hK); refine ⟨?_⟩)
  refine LeadX.now ?_
  (simp only [bodyXM]; refine ⟨_, by simp only [aresults, aresult, XS.as, Tryd.results43, aload, go_sem, Option.bind_some]; rfl, ?_⟩)
  exact ⟨by first | trivial | rfl, ⟨_, _, by first | trivial | rfl⟩, by first | trivial | rfl⟩
set_option maxRecDepth 100000 in
set_option maxHeartbeats 8000000 in
theorem sx_evCE (Kd z : Int) (es : List Ev3) (T : List Tok3) (b n0 : Nat) (X Y : Option AObj) (hT : TokOK T) (hT0 : T.length ≠ 0) (hKd : 1 ≤ Kd ∧ Kd ≤ 64) (hes : es.length ≤ 100000) (hn0 : n0 ≤ 1000000) (c1 : (T.getD 0 tok0).2.2 = wCall) (hE : (evOne Kd z es T).2.2 ≠ 0) :
    SX Tryd.prog 43 [.iv (iTokL T), .optr 1 0, .optr 2 0, .optr 3 0, .optr 4 0] [X, some ⟨3, [lt (.int .i64 Kd)]⟩, some ⟨3, [lt (.int .i64 z)]⟩, some ⟨99, [lt (.map (some b))]⟩, some ⟨3, [lt (.int .i64 (es.length : Int))]⟩, Y] [(b, n0, mInt (eOpn es es.length))] fun r H' M' => r = .tup [evA (evOne Kd z es T).1, lt (.int .i64 (evOne Kd z es T).2.1), lt (.int .i64 (evOne Kd z es T).2.2)] ∧ (∃ A B, H' = [X, some ⟨3, [lt (.int .i64 Kd)]⟩, some ⟨3, [lt (.int .i64 z)]⟩, some ⟨99, [lt (.map (some b))]⟩, some ⟨3, [lt (.int .i64 (es.length : Int))]⟩, Y, A, B]) ∧ M' = [(b, n0, mInt (eOpn es es.length))] := by
  have hs1 := trivial; have hs2 := trivial; have hs3 := trivial; have hs4 := trivial; have hs5 := trivial; have hs6 := trivial; have hs7 := trivial; have hs8 := trivial; have hs9 := trivial; have hsa := trivial; have hsb := trivial; have hsc := trivial; have hN := trivial; have hW1 := trivial; have hW2 := trivial
  have hne : ¬ wRet = wCall := by decide
  have hW : evW T = 1 := by unfold evW; rw [c1, if_pos rfl]
  have hEv : evN Kd z T = nums T wCall [1, 0] [1000, Kd - 1] z := by unfold evN evHi; rw [c1, if_pos rfl]
  have hN := pf_nums T wCall [1, 0] [1000, Kd - 1] z hT (by simp) (by simp)
  rw [← hEv] at hN
  have hq0 : evOne Kd z es T = if (evN Kd z T).2.2 ≠ 0 then (ev0, (evN Kd z T).2.1, (evN Kd z T).2.2) else if (eLast es es.length ((evN Kd z T).1.getD 0 0) = 1) ↔ (1 : Int) = 1 then (ev0, (T.getD 0 tok0).2.1, 33) else if es.length = 10000 then (ev0, (T.getD 0 tok0).2.1, 3) else (⟨1, (evN Kd z T).1.getD 0 0, (evN Kd z T).1.getD 1 0⟩, z, 0) := by
    unfold evOne; rw [if_neg (by rw [c1]; simp), hW]
  have hok := fun h => nums2_ok (T := T) (w := wCall) (a := 1) (b := 0) (c := 1000) (d := Kd - 1) (z := z) h
  rw [← hEv] at hok
  obtain ⟨e1, e2, e3⟩ := tokL_atL (T := T) (k := 0) (by omega)
  have hs1 : (tokL T).getD 0 undef = _ := e1
  have hs2 : (tokL T).getD 1 undef = _ := e2
  have hs3 : (tokL T).getD 2 undef = .string (ba wCall) := by rw [← c1]; exact e3
  have hs4 : (⟨#[99, 97, 108, 108]⟩ : ByteArray) = ba wCall := rfl
  have hs5 : (⟨#[114, 101, 116]⟩ : ByteArray) = ba wRet := rfl
  have hs6 : (wRet == wCall) = false := by decide
  have hs7 : ((1 : Int) == 2) = false := by decide
  have hW1 : (true != false) = true := rfl
  have hW2 : (false != true) = true := rfl
  have hln := hT.len
  rw [hq0] at hE ⊢
  clear hq0 hEv c1 hW e1 e2 e3
  generalize (T.getD 0 tok0).1 = tl at *
  generalize (T.getD 0 tok0).2.1 = tp at *
  generalize evN Kd z T = Q at *
  obtain ⟨ns, a, e⟩ := Q
  dsimp only at *
  by_cases he : e = 0
  · subst he
    rw [if_neg (by simp)] at hE ⊢
    obtain ⟨_, g1, g2, g3⟩ := hok rfl
    obtain ⟨p, n, rfl⟩ : ∃ p n, ns = [p, n] := by
      match ns, g1 with
      | [p, n], _ => exact ⟨p, n, rfl⟩
    simp only [List.getD_cons_zero, List.getD_cons_succ] at g2 g3 hE ⊢
    have hpb : -9223372036854775808 ≤ p ∧ p ≤ 9223372036854775807 := by omega
    have hnb : n0 < maxLen := by unfold maxLen; omega
    unfold iInts at hN
    have hl2 : ([p, n] : List Int).length = 2 := rfl
    rw [hl2] at hN
    by_cases hop : eLast es es.length p = 1
    · have hsb : (eLast es es.length p == 1) = true := by simp [hop]
      rw [if_pos (by simp [hop])]
      unfold iTokL at *
      (refine SX_of_bodyL (aload tt) (aload_ok tyOK) Tryd.func43 rfl (by kernel_rfl) ?_; simp only [Tryd.ntmps43, List.length_cons, List.length_nil, Nat.reduceAdd, Nat.reduceSub, List.replicate_succ, List.replicate_zero, List.cons_append, List.nil_append])
      (refine Wk.o ?_; (repeat revert hK K); refine W88b8a ?_; (repeat intro K hK); refine ⟨?_⟩)
      ((refine AX_drawLk (fun _ => True) 10 [.free, .free, .free, .free, .free, .free, .free, .chg, .free, .chg] [false, false, true, false, false, true, false, true, false, true] (by kernel_rfl) (by decide +kernel) (by decide +kernel) trivial fun K hK => ?_); (simp only [go_sem]); (refine Wk.o ?_; (repeat revert hK K); refine W88b8b ?_; (repeat intro K hK); refine ⟨?_⟩))
      (refine Wk.o ?_; (repeat revert hK K); refine W88b8a ?_; (repeat intro K hK); refine ⟨?_⟩)
      ((refine AX_drawLk (fun H => H[7]? = some (some ⟨49, [lt (.int .i64 tl), lt (.int .i64 tp), lt (.string (ba wCall))]⟩)) 6 [.free, .free, .free, .chg, .free, .free] [false, false, true, true, false, false] (by kernel_rfl) (by decide +kernel) (by decide +kernel) rfl fun K hK => ?_); (simp only [go_sem]); (refine Wk.o ?_; (repeat revert hK K); refine W88b8b ?_; (repeat intro K hK); refine ⟨?_⟩))
      (refine Wk.o ?_; (repeat revert hK K); refine W88b8a ?_; (repeat intro K hK); refine ⟨?_⟩)
      refine LeadX.now ?_
      (simp only [bodyXM]; refine ⟨_, by simp only [aresults, aresult, XS.as, Tryd.results43, aload, go_sem, Option.bind_some]; rfl, ?_⟩)
      exact ⟨by first | trivial | rfl, ⟨_, _, by first | trivial | rfl⟩, by first | trivial | rfl⟩
    · have hsb : (eLast es es.length p == 1) = false := by simp [hop]
      rw [if_neg (by simp [hop])] at hE ⊢
      by_cases hl : es.length = 10000
      · rw [if_pos hl]
        have hs9 : ((es.length : Int) == 10000) = true := by simp [hl]
        unfold iTokL at *
        (refine SX_of_bodyL (aload tt) (aload_ok tyOK) Tryd.func43 rfl (by kernel_rfl) ?_; simp only [Tryd.ntmps43, List.length_cons, List.length_nil, Nat.reduceAdd, Nat.reduceSub, List.replicate_succ, List.replicate_zero, List.cons_append, List.nil_append])
        (refine Wk.o ?_; (repeat revert hK K); refine W88b8a ?_; (repeat intro K hK); refine ⟨?_⟩)
        ((refine AX_drawLk (fun _ => True) 10 [.free, .free, .free, .free, .free, .free, .free, .chg, .free, .chg] [false, false, true, false, false, true, false, true, false, true] (by kernel_rfl) (by decide +kernel) (by decide +kernel) trivial fun K hK => ?_); (simp only [go_sem]); (refine Wk.o ?_; (repeat revert hK K); refine W88b8b ?_; (repeat intro K hK); refine ⟨?_⟩))
        (refine Wk.o ?_; (repeat revert hK K); refine W88b8a ?_; (repeat intro K hK); refine ⟨?_⟩)
        ((refine AX_drawLk (fun H => H[7]? = some (some ⟨49, [lt (.int .i64 tl), lt (.int .i64 tp), lt (.string (ba wCall))]⟩)) 6 [.free, .free, .free, .chg, .free, .free] [false, false, true, true, false, false] (by kernel_rfl) (by decide +kernel) (by decide +kernel) rfl fun K hK => ?_); (simp only [go_sem]); (refine Wk.o ?_; (repeat revert hK K); refine W88b8b ?_; (repeat intro K hK); refine ⟨?_⟩))
        (refine Wk.o ?_; (repeat revert hK K); refine W88b8a ?_; (repeat intro K hK); refine ⟨?_⟩)
        refine LeadX.now ?_
        (simp only [bodyXM]; refine ⟨_, by simp only [aresults, aresult, XS.as, Tryd.results43, aload, go_sem, Option.bind_some]; rfl, ?_⟩)
        exact ⟨by first | trivial | rfl, ⟨_, _, by first | trivial | rfl⟩, by first | trivial | rfl⟩
      · rw [if_neg hl] at hE; exact absurd rfl hE
  · rw [if_pos he]
    have hsa : (e != 0) = true := by simpa using he
    unfold iTokL at *
    (refine SX_of_bodyL (aload tt) (aload_ok tyOK) Tryd.func43 rfl (by kernel_rfl) ?_; simp only [Tryd.ntmps43, List.length_cons, List.length_nil, Nat.reduceAdd, Nat.reduceSub, List.replicate_succ, List.replicate_zero, List.cons_append, List.nil_append])
    (refine Wk.o ?_; (repeat revert hK K); refine W88b8a ?_; (repeat intro K hK); refine ⟨?_⟩)
    refine LeadX.now ?_
    (simp only [bodyXM]; refine ⟨_, by simp only [aresults, aresult, XS.as, Tryd.results43, aload, go_sem, Option.bind_some]; rfl, ?_⟩)
    exact ⟨by first | trivial | rfl, ⟨_, _, by first | trivial | rfl⟩, by first | trivial | rfl⟩
set_option maxRecDepth 100000 in
set_option maxHeartbeats 8000000 in
theorem sx_evCO (Kd z : Int) (es : List Ev3) (T : List Tok3) (b n0 : Nat) (X Y : Option AObj) (hT : TokOK T) (hT0 : T.length ≠ 0) (hKd : 1 ≤ Kd ∧ Kd ≤ 64) (hes : es.length ≤ 100000) (hn0 : n0 ≤ 1000000) (c1 : (T.getD 0 tok0).2.2 = wCall) (hE : (evOne Kd z es T).2.2 = 0) :
    SX Tryd.prog 43 [.iv (iTokL T), .optr 1 0, .optr 2 0, .optr 3 0, .optr 4 0] [X, some ⟨3, [lt (.int .i64 Kd)]⟩, some ⟨3, [lt (.int .i64 z)]⟩, some ⟨99, [lt (.map (some b))]⟩, some ⟨3, [lt (.int .i64 (es.length : Int))]⟩, Y] [(b, n0, mInt (eOpn es es.length))] fun r H' M' => r = .tup [evA (evOne Kd z es T).1, lt (.int .i64 (evOne Kd z es T).2.1), lt (.int .i64 (evOne Kd z es T).2.2)] ∧ (∃ A B, H' = [X, some ⟨3, [lt (.int .i64 Kd)]⟩, some ⟨3, [lt (.int .i64 z)]⟩, some ⟨99, [lt (.map (some b))]⟩, some ⟨3, [lt (.int .i64 ((es.length : Int) + 1))]⟩, Y, A, B]) ∧ M' = [(b, n0 + 1, mInt (updF (eOpn es es.length) (evOne Kd z es T).1.p (evOne Kd z es T).1.w))] := by
  have hs1 := trivial; have hs2 := trivial; have hs3 := trivial; have hs4 := trivial; have hs5 := trivial; have hs6 := trivial; have hs7 := trivial; have hs8 := trivial; have hs9 := trivial; have hsa := trivial; have hsb := trivial; have hsc := trivial; have hN := trivial; have hW1 := trivial; have hW2 := trivial
  have hne : ¬ wRet = wCall := by decide
  have hW : evW T = 1 := by unfold evW; rw [c1, if_pos rfl]
  have hEv : evN Kd z T = nums T wCall [1, 0] [1000, Kd - 1] z := by unfold evN evHi; rw [c1, if_pos rfl]
  have hN := pf_nums T wCall [1, 0] [1000, Kd - 1] z hT (by simp) (by simp)
  rw [← hEv] at hN
  have hq0 : evOne Kd z es T = if (evN Kd z T).2.2 ≠ 0 then (ev0, (evN Kd z T).2.1, (evN Kd z T).2.2) else if (eLast es es.length ((evN Kd z T).1.getD 0 0) = 1) ↔ (1 : Int) = 1 then (ev0, (T.getD 0 tok0).2.1, 33) else if es.length = 10000 then (ev0, (T.getD 0 tok0).2.1, 3) else (⟨1, (evN Kd z T).1.getD 0 0, (evN Kd z T).1.getD 1 0⟩, z, 0) := by
    unfold evOne; rw [if_neg (by rw [c1]; simp), hW]
  have hok := fun h => nums2_ok (T := T) (w := wCall) (a := 1) (b := 0) (c := 1000) (d := Kd - 1) (z := z) h
  rw [← hEv] at hok
  obtain ⟨e1, e2, e3⟩ := tokL_atL (T := T) (k := 0) (by omega)
  have hs1 : (tokL T).getD 0 undef = _ := e1
  have hs2 : (tokL T).getD 1 undef = _ := e2
  have hs3 : (tokL T).getD 2 undef = .string (ba wCall) := by rw [← c1]; exact e3
  have hs4 : (⟨#[99, 97, 108, 108]⟩ : ByteArray) = ba wCall := rfl
  have hs5 : (⟨#[114, 101, 116]⟩ : ByteArray) = ba wRet := rfl
  have hs6 : (wRet == wCall) = false := by decide
  have hs7 : ((1 : Int) == 2) = false := by decide
  have hW1 : (true != false) = true := rfl
  have hW2 : (false != true) = true := rfl
  have hln := hT.len
  obtain ⟨_, o1, o2, o3, _⟩ := evOne_ok hE
  have hza : (evN Kd z T).2.1 = z := nums_at o1
  rw [hW] at o2
  rw [hq0]
  clear hq0 hEv c1 hW e1 e2 e3
  generalize (T.getD 0 tok0).1 = tl at *
  generalize (T.getD 0 tok0).2.1 = tp at *
  generalize evN Kd z T = Q at *
  obtain ⟨ns, a, e⟩ := Q
  dsimp only at *
  subst o1
  subst hza
  rw [if_neg (by simp)]
  obtain ⟨_, g1, g2, g3⟩ := hok rfl
  obtain ⟨p, n, rfl⟩ : ∃ p n, ns = [p, n] := by
    match ns, g1 with
    | [p, n], _ => exact ⟨p, n, rfl⟩
  simp only [List.getD_cons_zero, List.getD_cons_succ] at g2 g3 o2 ⊢
  have hpb : -9223372036854775808 ≤ p ∧ p ≤ 9223372036854775807 := by omega
  have hnb : n0 < maxLen := by unfold maxLen; omega
  unfold iInts at hN
  have hl2 : ([p, n] : List Int).length = 2 := rfl
  rw [hl2] at hN
  rw [if_neg o2, if_neg o3]
  have hop : eLast es es.length p = 1 ↔ ¬ (1 : Int) = 1 := by
    revert o2
    by_cases hx : eLast es es.length p = 1 <;> simp [hx]
  have hsb : (eLast es es.length p == 1) = false := by simp [hop]
  have hs9 : ((es.length : Int) == 10000) = false := by simp; omega
  unfold iTokL at *
  (refine SX_of_bodyL (aload tt) (aload_ok tyOK) Tryd.func43 rfl (by kernel_rfl) ?_; simp only [Tryd.ntmps43, List.length_cons, List.length_nil, Nat.reduceAdd, Nat.reduceSub, List.replicate_succ, List.replicate_zero, List.cons_append, List.nil_append])
  (refine Wk.o ?_; (repeat revert hK K); refine W88b8a ?_; (repeat intro K hK); refine ⟨?_⟩)
  ((refine AX_drawLk (fun _ => True) 10 [.free, .free, .free, .free, .free, .free, .free, .chg, .free, .chg] [false, false, true, false, false, true, false, true, false, true] (by kernel_rfl) (by decide +kernel) (by decide +kernel) trivial fun K hK => ?_); (simp only [go_sem]); (refine Wk.o ?_; (repeat revert hK K); refine W88b8b ?_; (repeat intro K hK); refine ⟨?_⟩))
  (refine Wk.o ?_; (repeat revert hK K); refine W88b8a ?_; (repeat intro K hK); refine ⟨?_⟩)
  refine LeadX.now ?_
  (simp only [bodyXM]; refine ⟨_, by simp only [aresults, aresult, XS.as, Tryd.results43, aload, go_sem, Option.bind_some]; rfl, ?_⟩)
  exact ⟨by first | trivial | rfl, ⟨_, _, by first | trivial | rfl⟩, by first | trivial | rfl⟩
set_option maxRecDepth 100000 in
set_option maxHeartbeats 8000000 in
theorem sx_evRE (Kd z : Int) (es : List Ev3) (T : List Tok3) (b n0 : Nat) (X Y : Option AObj) (hT : TokOK T) (hT0 : T.length ≠ 0) (hKd : 1 ≤ Kd ∧ Kd ≤ 64) (hes : es.length ≤ 100000) (hn0 : n0 ≤ 1000000) (c1 : (T.getD 0 tok0).2.2 = wRet) (hE : (evOne Kd z es T).2.2 ≠ 0) :
    SX Tryd.prog 43 [.iv (iTokL T), .optr 1 0, .optr 2 0, .optr 3 0, .optr 4 0] [X, some ⟨3, [lt (.int .i64 Kd)]⟩, some ⟨3, [lt (.int .i64 z)]⟩, some ⟨99, [lt (.map (some b))]⟩, some ⟨3, [lt (.int .i64 (es.length : Int))]⟩, Y] [(b, n0, mInt (eOpn es es.length))] fun r H' M' => r = .tup [evA (evOne Kd z es T).1, lt (.int .i64 (evOne Kd z es T).2.1), lt (.int .i64 (evOne Kd z es T).2.2)] ∧ (∃ A B, H' = [X, some ⟨3, [lt (.int .i64 Kd)]⟩, some ⟨3, [lt (.int .i64 z)]⟩, some ⟨99, [lt (.map (some b))]⟩, some ⟨3, [lt (.int .i64 (es.length : Int))]⟩, Y, A, B]) ∧ M' = [(b, n0, mInt (eOpn es es.length))] := by
  have hs1 := trivial; have hs2 := trivial; have hs3 := trivial; have hs4 := trivial; have hs5 := trivial; have hs6 := trivial; have hs7 := trivial; have hs8 := trivial; have hs9 := trivial; have hsa := trivial; have hsb := trivial; have hsc := trivial; have hN := trivial; have hW1 := trivial; have hW2 := trivial
  have hne : ¬ wRet = wCall := by decide
  have hW : evW T = 2 := by unfold evW; rw [c1, if_neg hne]
  have hEv : evN Kd z T = nums T wRet [1, 0] [1000, 1000000] z := by unfold evN evHi; rw [c1, if_neg hne]
  have hN := pf_nums T wRet [1, 0] [1000, 1000000] z hT (by simp) (by simp)
  rw [← hEv] at hN
  have hq0 : evOne Kd z es T = if (evN Kd z T).2.2 ≠ 0 then (ev0, (evN Kd z T).2.1, (evN Kd z T).2.2) else if (eLast es es.length ((evN Kd z T).1.getD 0 0) = 1) ↔ (2 : Int) = 1 then (ev0, (T.getD 0 tok0).2.1, 33) else if es.length = 10000 then (ev0, (T.getD 0 tok0).2.1, 3) else (⟨2, (evN Kd z T).1.getD 0 0, (evN Kd z T).1.getD 1 0⟩, z, 0) := by
    unfold evOne; rw [if_neg (by rw [c1]; simp), hW]
  have hok := fun h => nums2_ok (T := T) (w := wRet) (a := 1) (b := 0) (c := 1000) (d := 1000000) (z := z) h
  rw [← hEv] at hok
  obtain ⟨e1, e2, e3⟩ := tokL_atL (T := T) (k := 0) (by omega)
  have hs1 : (tokL T).getD 0 undef = _ := e1
  have hs2 : (tokL T).getD 1 undef = _ := e2
  have hs3 : (tokL T).getD 2 undef = .string (ba wRet) := by rw [← c1]; exact e3
  have hs4 : (⟨#[99, 97, 108, 108]⟩ : ByteArray) = ba wCall := rfl
  have hs5 : (⟨#[114, 101, 116]⟩ : ByteArray) = ba wRet := rfl
  have hs6 : (wRet == wCall) = false := by decide
  have hs7 : ((1 : Int) == 2) = false := by decide
  have hW1 : (true != false) = true := rfl
  have hW2 : (false != true) = true := rfl
  have hln := hT.len
  rw [hq0] at hE ⊢
  clear hq0 hEv c1 hW e1 e2 e3
  generalize (T.getD 0 tok0).1 = tl at *
  generalize (T.getD 0 tok0).2.1 = tp at *
  generalize evN Kd z T = Q at *
  obtain ⟨ns, a, e⟩ := Q
  dsimp only at *
  by_cases he : e = 0
  · subst he
    rw [if_neg (by simp)] at hE ⊢
    obtain ⟨_, g1, g2, g3⟩ := hok rfl
    obtain ⟨p, n, rfl⟩ : ∃ p n, ns = [p, n] := by
      match ns, g1 with
      | [p, n], _ => exact ⟨p, n, rfl⟩
    simp only [List.getD_cons_zero, List.getD_cons_succ] at g2 g3 hE ⊢
    have hpb : -9223372036854775808 ≤ p ∧ p ≤ 9223372036854775807 := by omega
    have hnb : n0 < maxLen := by unfold maxLen; omega
    unfold iInts at hN
    have hl2 : ([p, n] : List Int).length = 2 := rfl
    rw [hl2] at hN
    by_cases hop : eLast es es.length p = 1
    · have hsb : (eLast es es.length p == 1) = true := by simp [hop]
      rw [if_neg (by simp [hop])] at hE ⊢
      by_cases hl : es.length = 10000
      · rw [if_pos hl]
        have hs9 : ((es.length : Int) == 10000) = true := by simp [hl]
        unfold iTokL at *
        (refine SX_of_bodyL (aload tt) (aload_ok tyOK) Tryd.func43 rfl (by kernel_rfl) ?_; simp only [Tryd.ntmps43, List.length_cons, List.length_nil, Nat.reduceAdd, Nat.reduceSub, List.replicate_succ, List.replicate_zero, List.cons_append, List.nil_append])
        (refine Wk.o ?_; (repeat revert hK K); refine W88b8a ?_; (repeat intro K hK); refine ⟨?_⟩)
        ((refine AX_drawLk (fun _ => True) 10 [.free, .free, .free, .free, .free, .free, .free, .chg, .free, .chg] [false, false, true, false, false, true, false, true, false, true] (by kernel_rfl) (by decide +kernel) (by decide +kernel) trivial fun K hK => ?_); (simp only [go_sem]); (refine Wk.o ?_; (repeat revert hK K); refine W88b8b ?_; (repeat intro K hK); refine ⟨?_⟩))
        (refine Wk.o ?_; (repeat revert hK K); refine W88b8a ?_; (repeat intro K hK); refine ⟨?_⟩)
        ((refine AX_drawLk (fun H => H[7]? = some (some ⟨49, [lt (.int .i64 tl), lt (.int .i64 tp), lt (.string (ba wRet))]⟩)) 6 [.free, .free, .free, .chg, .free, .free] [false, false, true, true, false, false] (by kernel_rfl) (by decide +kernel) (by decide +kernel) rfl fun K hK => ?_); (simp only [go_sem]); (refine Wk.o ?_; (repeat revert hK K); refine W88b8b ?_; (repeat intro K hK); refine ⟨?_⟩))
        (refine Wk.o ?_; (repeat revert hK K); refine W88b8a ?_; (repeat intro K hK); refine ⟨?_⟩)
        refine LeadX.now ?_
        (simp only [bodyXM]; refine ⟨_, by simp only [aresults, aresult, XS.as, Tryd.results43, aload, go_sem, Option.bind_some]; rfl, ?_⟩)
        exact ⟨by first | trivial | rfl, ⟨_, _, by first | trivial | rfl⟩, by first | trivial | rfl⟩
      · rw [if_neg hl] at hE; exact absurd rfl hE
    · have hsb : (eLast es es.length p == 1) = false := by simp [hop]
      rw [if_pos (by simp [hop])]
      unfold iTokL at *
      (refine SX_of_bodyL (aload tt) (aload_ok tyOK) Tryd.func43 rfl (by kernel_rfl) ?_; simp only [Tryd.ntmps43, List.length_cons, List.length_nil, Nat.reduceAdd, Nat.reduceSub, List.replicate_succ, List.replicate_zero, List.cons_append, List.nil_append])
      (refine Wk.o ?_; (repeat revert hK K); refine W88b8a ?_; (repeat intro K hK); refine ⟨?_⟩)
      ((refine AX_drawLk (fun _ => True) 10 [.free, .free, .free, .free, .free, .free, .free, .chg, .free, .chg] [false, false, true, false, false, true, false, true, false, true] (by kernel_rfl) (by decide +kernel) (by decide +kernel) trivial fun K hK => ?_); (simp only [go_sem]); (refine Wk.o ?_; (repeat revert hK K); refine W88b8b ?_; (repeat intro K hK); refine ⟨?_⟩))
      (refine Wk.o ?_; (repeat revert hK K); refine W88b8a ?_; (repeat intro K hK); refine ⟨?_⟩)
      ((refine AX_drawLk (fun H => H[7]? = some (some ⟨49, [lt (.int .i64 tl), lt (.int .i64 tp), lt (.string (ba wRet))]⟩)) 6 [.free, .free, .free, .chg, .free, .free] [false, false, true, true, false, false] (by kernel_rfl) (by decide +kernel) (by decide +kernel) rfl fun K hK => ?_); (simp only [go_sem]); (refine Wk.o ?_; (repeat revert hK K); refine W88b8b ?_; (repeat intro K hK); refine ⟨?_⟩))
      (refine Wk.o ?_; (repeat revert hK K); refine W88b8a ?_; (repeat intro K hK); refine ⟨?_⟩)
      refine LeadX.now ?_
      (simp only [bodyXM]; refine ⟨_, by simp only [aresults, aresult, XS.as, Tryd.results43, aload, go_sem, Option.bind_some]; rfl, ?_⟩)
      exact ⟨by first | trivial | rfl, ⟨_, _, by first | trivial | rfl⟩, by first | trivial | rfl⟩
  · rw [if_pos he]
    have hsa : (e != 0) = true := by simpa using he
    unfold iTokL at *
    (refine SX_of_bodyL (aload tt) (aload_ok tyOK) Tryd.func43 rfl (by kernel_rfl) ?_; simp only [Tryd.ntmps43, List.length_cons, List.length_nil, Nat.reduceAdd, Nat.reduceSub, List.replicate_succ, List.replicate_zero, List.cons_append, List.nil_append])
    (refine Wk.o ?_; (repeat revert hK K); refine W88b8a ?_; (repeat intro K hK); refine ⟨?_⟩)
    refine LeadX.now ?_
    (simp only [bodyXM]; refine ⟨_, by simp only [aresults, aresult, XS.as, Tryd.results43, aload, go_sem, Option.bind_some]; rfl, ?_⟩)
    exact ⟨by first | trivial | rfl, ⟨_, _, by first | trivial | rfl⟩, by first | trivial | rfl⟩
set_option maxRecDepth 100000 in
set_option maxHeartbeats 8000000 in
theorem sx_evRO (Kd z : Int) (es : List Ev3) (T : List Tok3) (b n0 : Nat) (X Y : Option AObj) (hT : TokOK T) (hT0 : T.length ≠ 0) (hKd : 1 ≤ Kd ∧ Kd ≤ 64) (hes : es.length ≤ 100000) (hn0 : n0 ≤ 1000000) (c1 : (T.getD 0 tok0).2.2 = wRet) (hE : (evOne Kd z es T).2.2 = 0) :
    SX Tryd.prog 43 [.iv (iTokL T), .optr 1 0, .optr 2 0, .optr 3 0, .optr 4 0] [X, some ⟨3, [lt (.int .i64 Kd)]⟩, some ⟨3, [lt (.int .i64 z)]⟩, some ⟨99, [lt (.map (some b))]⟩, some ⟨3, [lt (.int .i64 (es.length : Int))]⟩, Y] [(b, n0, mInt (eOpn es es.length))] fun r H' M' => r = .tup [evA (evOne Kd z es T).1, lt (.int .i64 (evOne Kd z es T).2.1), lt (.int .i64 (evOne Kd z es T).2.2)] ∧ (∃ A B, H' = [X, some ⟨3, [lt (.int .i64 Kd)]⟩, some ⟨3, [lt (.int .i64 z)]⟩, some ⟨99, [lt (.map (some b))]⟩, some ⟨3, [lt (.int .i64 ((es.length : Int) + 1))]⟩, Y, A, B]) ∧ M' = [(b, n0 + 1, mInt (updF (eOpn es es.length) (evOne Kd z es T).1.p (evOne Kd z es T).1.w))] := by
  have hs1 := trivial; have hs2 := trivial; have hs3 := trivial; have hs4 := trivial; have hs5 := trivial; have hs6 := trivial; have hs7 := trivial; have hs8 := trivial; have hs9 := trivial; have hsa := trivial; have hsb := trivial; have hsc := trivial; have hN := trivial; have hW1 := trivial; have hW2 := trivial
  have hne : ¬ wRet = wCall := by decide
  have hW : evW T = 2 := by unfold evW; rw [c1, if_neg hne]
  have hEv : evN Kd z T = nums T wRet [1, 0] [1000, 1000000] z := by unfold evN evHi; rw [c1, if_neg hne]
  have hN := pf_nums T wRet [1, 0] [1000, 1000000] z hT (by simp) (by simp)
  rw [← hEv] at hN
  have hq0 : evOne Kd z es T = if (evN Kd z T).2.2 ≠ 0 then (ev0, (evN Kd z T).2.1, (evN Kd z T).2.2) else if (eLast es es.length ((evN Kd z T).1.getD 0 0) = 1) ↔ (2 : Int) = 1 then (ev0, (T.getD 0 tok0).2.1, 33) else if es.length = 10000 then (ev0, (T.getD 0 tok0).2.1, 3) else (⟨2, (evN Kd z T).1.getD 0 0, (evN Kd z T).1.getD 1 0⟩, z, 0) := by
    unfold evOne; rw [if_neg (by rw [c1]; simp), hW]
  have hok := fun h => nums2_ok (T := T) (w := wRet) (a := 1) (b := 0) (c := 1000) (d := 1000000) (z := z) h
  rw [← hEv] at hok
  obtain ⟨e1, e2, e3⟩ := tokL_atL (T := T) (k := 0) (by omega)
  have hs1 : (tokL T).getD 0 undef = _ := e1
  have hs2 : (tokL T).getD 1 undef = _ := e2
  have hs3 : (tokL T).getD 2 undef = .string (ba wRet) := by rw [← c1]; exact e3
  have hs4 : (⟨#[99, 97, 108, 108]⟩ : ByteArray) = ba wCall := rfl
  have hs5 : (⟨#[114, 101, 116]⟩ : ByteArray) = ba wRet := rfl
  have hs6 : (wRet == wCall) = false := by decide
  have hs7 : ((1 : Int) == 2) = false := by decide
  have hW1 : (true != false) = true := rfl
  have hW2 : (false != true) = true := rfl
  have hln := hT.len
  obtain ⟨_, o1, o2, o3, _⟩ := evOne_ok hE
  have hza : (evN Kd z T).2.1 = z := nums_at o1
  rw [hW] at o2
  rw [hq0]
  clear hq0 hEv c1 hW e1 e2 e3
  generalize (T.getD 0 tok0).1 = tl at *
  generalize (T.getD 0 tok0).2.1 = tp at *
  generalize evN Kd z T = Q at *
  obtain ⟨ns, a, e⟩ := Q
  dsimp only at *
  subst o1
  subst hza
  rw [if_neg (by simp)]
  obtain ⟨_, g1, g2, g3⟩ := hok rfl
  obtain ⟨p, n, rfl⟩ : ∃ p n, ns = [p, n] := by
    match ns, g1 with
    | [p, n], _ => exact ⟨p, n, rfl⟩
  simp only [List.getD_cons_zero, List.getD_cons_succ] at g2 g3 o2 ⊢
  have hpb : -9223372036854775808 ≤ p ∧ p ≤ 9223372036854775807 := by omega
  have hnb : n0 < maxLen := by unfold maxLen; omega
  unfold iInts at hN
  have hl2 : ([p, n] : List Int).length = 2 := rfl
  rw [hl2] at hN
  rw [if_neg o2, if_neg o3]
  have hop : eLast es es.length p = 1 ↔ ¬ (2 : Int) = 1 := by
    revert o2
    by_cases hx : eLast es es.length p = 1 <;> simp [hx]
  have hsb : (eLast es es.length p == 1) = true := by simp [hop]
  have hs9 : ((es.length : Int) == 10000) = false := by simp; omega
  unfold iTokL at *
  (refine SX_of_bodyL (aload tt) (aload_ok tyOK) Tryd.func43 rfl (by kernel_rfl) ?_; simp only [Tryd.ntmps43, List.length_cons, List.length_nil, Nat.reduceAdd, Nat.reduceSub, List.replicate_succ, List.replicate_zero, List.cons_append, List.nil_append])
  (refine Wk.o ?_; (repeat revert hK K); refine W88b8a ?_; (repeat intro K hK); refine ⟨?_⟩)
  ((refine AX_drawLk (fun _ => True) 10 [.free, .free, .free, .free, .free, .free, .free, .chg, .free, .chg] [false, false, true, false, false, true, false, true, false, true] (by kernel_rfl) (by decide +kernel) (by decide +kernel) trivial fun K hK => ?_); (simp only [go_sem]); (refine Wk.o ?_; (repeat revert hK K); refine W88b8b ?_; (repeat intro K hK); refine ⟨?_⟩))
  (refine Wk.o ?_; (repeat revert hK K); refine W88b8a ?_; (repeat intro K hK); refine ⟨?_⟩)
  refine LeadX.now ?_
  (simp only [bodyXM]; refine ⟨_, by simp only [aresults, aresult, XS.as, Tryd.results43, aload, go_sem, Option.bind_some]; rfl, ?_⟩)
  exact ⟨by first | trivial | rfl, ⟨_, _, by first | trivial | rfl⟩, by first | trivial | rfl⟩
end Go.Proofs.YtdaenbgjafalcaaDoor
