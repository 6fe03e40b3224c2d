import Derived.Scope
import Derived.Test.YteldioinhbpfhaaMgAU
import Derived.Test.YteldioinhbpfhaaMgAT
import Derived.Test.YteldioinhbpfhaaMgAN
import Derived.Test.YteldioinhbpfhaaMgAO
import Derived.Shelf.SlSortCmp.NoneTotal
import Derived.Test.YteldioinhbpfhaaMgAR
namespace Go.Proofs.Yteldioinhbpfhaa
open Go.RowKit
set_option linter.unusedVariables false
variable {P : Program} {m : Nat} {Q : Exit → XS → Prop}
theorem SF.lit {f : FuncId} {args : List AV} {H : AHeap} {x : AV} {obj : AObj} {y : IV} (h : SF P f args H fun r H' => r = x ∧ H' = H ++ [some obj]) (hs : SnapC (onlyH [H.length] (H ++ [some obj])) x y) : SF P f args H fun r H' => r = .iv y ∧ H' = H :=
  ⟨h.callable, fun G w vs hi hr => (h.calls G w vs hi hr).mono fun e w' ⟨v, r, G', H', h1, h2, h3, h4, h5, e1, e2⟩ => by
    subst e1 e2
    obtain ⟨G2, k1, k2, k3⟩ := lit_step hi h2 h4 h5 hs
    exact ⟨v, .iv y, G2, H, h1, k1, Nat.le_refl _, k2, k3, rfl, rfl⟩⟩
def noGotoX (Q : Exit → XS → Prop) : Exit → XS → Prop
  | .goto _, _ => False
  | e, s => Q e s
theorem AX_scope {c : Code} {s : XS} (h : AX P m c (noGotoX Q) s) : AX P m (.scope c) Q s := fun G0 G a w hm hl hM hr =>
  wp_scope_straight (wp_mono (h G0 G a w hm hl hM hr) fun e a w ⟨G', s', h1, h2, h3, h4, h5⟩ => by
    cases e with
    | goto l => exact h5.elim
    | normal => exact ⟨G', s', h1, h2, h3, h4, h5⟩
    | exit id => exact ⟨G', s', h1, h2, h3, h4, h5⟩
    | ret => exact ⟨G', s', h1, h2, h3, h4, h5⟩
    | panic ch => exact ⟨G', s', h1, h2, h3, h4, h5⟩
    | outgrown => exact ⟨G', s', h1, h2, h3, h4, h5⟩)
end Go.Proofs.Yteldioinhbpfhaa
namespace Go.Proofs.Yteldioinhbpfhaa
open Go.RowKit
set_option linter.unusedVariables false
set_option linter.unusedSimpArgs false
def wEs (E : List Int) (d : Nat) : AV := .osl 3 d (E.length - d) 1
def lateR (l : List Op5) (D : List Bool) (E : List Int) (d : Nat) (x : Op5) : Prop := d < E.length ∧ D.getD (E.getD d 0).toNat false = false ∧ oAhead (oAt l (E.getD d 0).toNat) x = true
instance (l : List Op5) (D : List Bool) (E : List Int) (d : Nat) (x : Op5) : Decidable (lateR l D E d x) := by unfold lateR; infer_instance
theorem W5e53a {A B : Prop} (h9 : B) (w : B → A := by (intro h9; (repeat intro K hK); refine ⟨?_⟩; (repeat (first | (first | (with_reducible first | refine AX_block ?_ | refine AX_skip ?_ | refine AX_exit ?_ | refine AX_ret ?_ | refine AX_ift ?_ | refine AX_iff ?_ | refine AX_seq_k (fun K hK => ?_) | refine ContX.use (by assumption) ?_) | simp only [thenX, inBlockX, if_true, if_false, reduceCtorEq]) | (first | ((first | (with_reducible refine XRes_op tyOK ?_ ?_) | ((with_reducible first | refine ADF_op tyOK ?_ ?_ ?_ | refine ADX_op tyOK ?_ ?_ ?_); (focus rfl)) | (with_reducible refine ADR_alloc1 tyOK ?_ ?_) | ((with_reducible refine ADR_free1 tyOK ?_ ?_ ?_); (focus rfl)) | ((with_reducible refine ADR_free0 tyOK ?_ ?_ ?_); (focus rfl)) | ((with_reducible refine ADR_read1 tyOK ?_ ?_ ?_); (focus rfl)) | (with_reducible refine ADR_chg1 tyOK ?_ ?_)); (focus (first | (with_reducible rfl) | ((simp (disch := omega) only [go_sem]); done))); simp (disch := omega) only [go_sem , flatO_p, flatO_k, flatO_s, flatO_e, flatO_r, hs1, hs2, hs3, hs4, hs5, hs6, rep_lb, List.length_nil, List.length_set, Nat.reduceLeDiff, Int.toNat_zero, Int.toNat_one]; (first | (with_reducible refine XRes_id ?_) | (with_reducible refine ADF_id ?_) | (with_reducible refine ADR_id1 ?_) | (with_reducible refine ADX_id ?_))) | ((first | (with_reducible refine XRes_skip ?_ ?_) | (with_reducible refine ADF_skip (b := true) ?_ ?_) | (with_reducible refine ADX_skip ?_ ?_) | ((with_reducible refine ADR_skip1 ?_ ?_ ?_); (focus rfl))); (focus (first | rfl | ((simp (disch := omega) only [go_sem]); done))); (simp only [putL, List.set_cons_succ, List.set_cons_zero]))) | ((first | (with_reducible refine XRes_nil ?_) | (with_reducible refine ADF_nil ?_) | (with_reducible refine ADR_nil ?_) | (with_reducible refine ADX_nil ?_)); (first | refine hK _ ?_ | refine hK _ _ ?_); clear hK K) | ((first | (with_reducible refine AX_reg0 fun K hK => ?_) | (refine AX_drawG1 tyOK (by kernel_rfl) (by rfl) (by kernel_rfl) fun K hK => ?_) | (refine AX_drawT tyOK (by kernel_rfl) (by decide +kernel) fun K hK => ?_) | (refine AX_drawM1 (by kernel_rfl) (by rfl) (by decide +kernel) fun K hK => ?_) | (refine AX_drawA tyOK (by kernel_rfl) (by decide +kernel) fun K hK => ?_)); (first | simp only [go_sem, preN, effOp, runF, alM, mapOp, alD2, kdOf2, Bool.not_false, Bool.not_true, reduceCtorEq] | simp only [go_sem, preN, effOp, runF, alM, mapOp, Bool.not_false, Bool.not_true, reduceCtorEq] | simp only [go_sem, preN, effOp, runF, alD2, kdOf2, Bool.not_false, Bool.not_true, reduceCtorEq] | simp only [go_sem, alD2, kdOf2, Bool.not_false, Bool.not_true, reduceCtorEq] | simp only [go_sem, preN, effOp, runF, Bool.not_false, Bool.not_true, reduceCtorEq] | simp only [go_sem])) | (first | (first | refine XTL (by rfl) hC ?_ | refine ATL tyOK (by rfl) hC ?_)))); refine Wk.o ?_; (repeat revert hK K); exact h9)) : A := w h9
set_option maxRecDepth 100000 in
set_option maxHeartbeats 4000000 in
theorem pf_late (l : List Op5) (hl : l.length ≤ 100000) (D : List Bool) (hDl : D.length = l.length) (E : List Int) (hE : EndS l E) (d : Nat) (hd : d ≤ E.length) (hdd : ∀ j, j < d → D.getD (E.getD j 0).toNat false = true) (x : Op5) :
    SF Try.prog 25 [opA x, .optr 2 0, .optr 1 0, .iv (.ptr (fun _ => iOps l) 1)] [some ⟨4, D.map lb⟩, some ⟨48, [.osl 0 0 D.length 1]⟩, some ⟨30, [wEs E d]⟩, some ⟨3, E.map lint⟩] fun r H' => ∃ d1, d ≤ d1 ∧ d1 ≤ E.length ∧ (∀ j, j < d1 → D.getD (E.getD j 0).toNat false = true) ∧ (d1 = E.length ∨ D.getD (E.getD d1 0).toNat false = false) ∧ r = lt (.bool (decide (lateR l D E d1 x))) ∧ H' = (fun d => [some ⟨4, D.map lb⟩, some ⟨48, [.osl 0 0 D.length 1]⟩, some ⟨30, [wEs E d]⟩, some ⟨3, E.map lint⟩]) d1 ++ [some ⟨46, [lt (.int .i64 x.p), lt (.int .i64 x.k), lt (.int .i64 x.s), lt (.int .i64 x.e), lt (.int .i64 x.r)]⟩] := by
  have hs1 := trivial; have hs2 := trivial; have hs3 := trivial; have hs4 := trivial; have hs5 := trivial; have hs6 := trivial; have hC := trivial
  have hEl := hE.len
  (refine SF_of_bodyX (aload tt) (aload_ok tyOK) Try.func25 rfl (by kernel_rfl) ?_; simp only [Try.ntmps25, List.length_cons, List.length_nil, Nat.reduceAdd, Nat.reduceSub, List.replicate_succ, List.replicate_zero, List.cons_append, List.nil_append])
  unfold wEs iOps iFlat opA
  (refine Wk.o ?_; (repeat revert hK K); refine W5e53a ?_; (repeat intro K hK); refine ⟨?_⟩)
  refine AX_wh (σ := Nat) [6, 7, 8, 9, 10, 11, 12, 13, 14, 15, 16, 17, 18] (fun _ => []) (fun d => [some ⟨4, D.map lb⟩, some ⟨48, [.osl 0 0 D.length 1]⟩, some ⟨30, [wEs E d]⟩, some ⟨3, E.map lint⟩, some ⟨46, [lt (.int .i64 x.p), lt (.int .i64 x.k), lt (.int .i64 x.s), lt (.int .i64 x.e), lt (.int .i64 x.r)]⟩]) (fun _ => []) (fun d1 => d ≤ d1 ∧ d1 ≤ E.length ∧ ∀ j, j < d1 → D.getD (E.getD j 0).toNat false = true) (fun d1 => E.length - d1) d (fun d => by first | ((simp only [deadS, updS, List.set_cons_succ, List.set_cons_zero, lint, List.length_nil, List.length_cons]); done) | ((simp only [deadS, updS, List.set_cons_succ, List.set_cons_zero, lint, List.length_nil, List.length_cons]); rfl) | rfl) rfl rfl ⟨Nat.le_refl _, hd, hdd⟩ ?_
  rintro d1 df fr hfr ⟨h1, h2, h3⟩
  simp only [updS, deadS, List.set_cons_succ, List.set_cons_zero, lint] at hfr
  subst hfr
  (try dsimp only)
  unfold wEs
  rcases Nat.lt_or_ge d1 E.length with hlt | hge
  · have hr := hE.rng d1 hlt
    by_cases hdn : D.getD (E.getD d1 0).toNat false = true
    · have hs1 := hdn
      have hs2 : E.length - d1 - 1 = E.length - (d1 + 1) := by omega
      (refine Wk.o ?_; (repeat revert hK K); refine W5e53a ?_; (repeat intro K hK); refine ⟨?_⟩)
      exact whx_end (d1 + 1) ⟨by omega, by omega, fun j hj => by
        rcases Nat.lt_or_ge j d1 with h | h
        · exact h3 j h
        · rw [show j = d1 by omega]; exact hdn⟩ (by (first | omega | (dsimp only; omega) | (simp only; omega))) rfl (by first | rfl | (simp (disch := omega) only [go_sem, lint])) (fun d => by first | ((simp only [deadS, updS, List.set_cons_succ, List.set_cons_zero, lint, List.length_nil, List.length_cons]); done) | ((simp only [deadS, updS, List.set_cons_succ, List.set_cons_zero, lint, List.length_nil, List.length_cons]); rfl) | rfl)
    · have hs1 : D.getD (E.getD d1 0).toNat false = false := by simpa using hdn
      have hC := pf_Ahead (oAt l (E.getD d1 0).toNat) x
      have hres : lateR l D E d1 x ↔ oAhead (oAt l (E.getD d1 0).toNat) x = true := ⟨fun h => h.2.2, fun h => ⟨hlt, hs1, h⟩⟩
      have hres2 : decide (lateR l D E d1 x) = oAhead (oAt l (E.getD d1 0).toNat) x := by rw [Bool.eq_iff_iff, decide_eq_true_iff]; exact hres
      rw [← hres2] at hC
      (refine Wk.o ?_; (repeat revert hK K); refine W5e53a ?_; (repeat intro K hK); refine ⟨?_⟩)
      (simp only [bodyX]; refine ⟨_, by simp only [aresults, aresult, XS.as, Try.results25, aload, go_sem, Option.bind_some]; rfl, ?_⟩)
      exact ⟨d1, h1, h2, h3, .inr hs1, rfl, by first | rfl | trivial⟩
  · obtain rfl : d1 = E.length := by omega
    have hres : decide (lateR l D E E.length x) = false := decide_eq_false fun h => absurd h.1 (Nat.lt_irrefl _)
    (refine Wk.o ?_; (repeat revert hK K); refine W5e53a ?_; (repeat intro K hK); refine ⟨?_⟩)
    (simp only [bodyX]; refine ⟨_, by simp only [aresults, aresult, XS.as, Try.results25, aload, go_sem, Option.bind_some]; rfl, ?_⟩)
    exact ⟨E.length, h1, Nat.le_refl _, h3, .inl rfl, by rw [hres], by first | rfl | trivial⟩
theorem pf_lateX (l : List Op5) (hl : l.length ≤ 100000) (D : List Bool) (hDl : D.length = l.length) (E : List Int) (hE : EndS l E) (d : Nat) (hd : d ≤ E.length) (hdd : ∀ j, j < d → D.getD (E.getD j 0).toNat false = true) (x : Op5) (y : Option AObj) :
    SF Try.prog 25 [opA x, .optr 2 0, .optr 1 0, .iv (.ptr (fun _ => iOps l) 1)] [some ⟨4, D.map lb⟩, some ⟨48, [.osl 0 0 D.length 1]⟩, some ⟨30, [wEs E d]⟩, some ⟨3, E.map lint⟩, y] fun r H' => ∃ d1, d ≤ d1 ∧ d1 ≤ E.length ∧ (∀ j, j < d1 → D.getD (E.getD j 0).toNat false = true) ∧ (d1 = E.length ∨ D.getD (E.getD d1 0).toNat false = false) ∧ r = lt (.bool (decide (lateR l D E d1 x))) ∧ H' = (fun d => [some ⟨4, D.map lb⟩, some ⟨48, [.osl 0 0 D.length 1]⟩, some ⟨30, [wEs E d]⟩, some ⟨3, E.map lint⟩]) d1 ++ [y, some ⟨46, [lt (.int .i64 x.p), lt (.int .i64 x.k), lt (.int .i64 x.s), lt (.int .i64 x.e), lt (.int .i64 x.r)]⟩] := by
  refine SF.mono ((pf_late l hl D hDl E hE d hd hdd x).frame [y] (by rfl) (by unfold wEs; (simp (disch := omega) only [go_sem, lint]))) ?_
  rintro r H' ⟨r1, H1, hl1, ⟨d1, h1, h2, h3, h4, rfl, rfl⟩, rfl, rfl⟩
  refine ⟨d1, h1, h2, h3, h4, rfl, ?_⟩
  unfold frH wEs
  simp only [List.take_succ_cons, List.take_zero, List.drop_succ_cons, List.drop_zero, List.map_cons, List.map_nil, Option.map_some, Option.map_none, AObj.rn, List.cons_append, List.nil_append, List.append_nil, List.length_cons, List.length_nil, rnL_lint, rnL_lb, rnL, AV.rn, shN]
  rfl
end Go.Proofs.Yteldioinhbpfhaa
namespace Go.Proofs.Yteldioinhbpfhaa
open Go.RowKit Go.Shelf Go.Lib Go.Sort
set_option linter.unusedVariables false
def sortFI_ren : Go.Shelf.Ren := ⟨fun | 6 => 22 | 15 => 34 | 14 => 33 | 28 => 48 | 29 => 49 | 20 => 40 | 21 => 41 | 22 => 42 | 23 => 43 | 24 => 44 | 25 => 45 | 26 => 46 | 27 => 47 | 46 => 52 | 47 => 53 | 48 => 54 | 49 => 55 | 50 => 56 | 57 => 58 | n => n, fun | 22 => 30 | 24 => 3 | 25 => 50 | 3 => 3 | 39 => 68 | 0 => 0 | 53 => 83 | 55 => 85 | 4 => 4 | 46 => 76 | 45 => 75 | 50 => 80 | 5 => 5 | 9 => 9 | 66 => 90 | 70 => 94 | 76 => 98 | 77 => 70 | n => n, fun | n => n⟩
theorem sortFI : Go.Proofs.SlLaysF.n6 Try.prog sortFI_ren := {
  mixed := by kernel_rfl
  f6 := ⟨Try.f22.name, by decide, Try.func22.trans (congrArg some (by kernel_rfl))⟩
  f14 := ⟨Try.f33.name, by decide, Try.func33.trans (congrArg some (by kernel_rfl))⟩
  f15 := Try.func34.trans (congrArg some (by kernel_rfl))
  f20 := ⟨Try.f40.name, by decide, Try.func40.trans (congrArg some (by kernel_rfl))⟩
  f21 := ⟨Try.f41.name, by decide, Try.func41.trans (congrArg some (by kernel_rfl))⟩
  f22 := ⟨Try.f42.name, by decide, Try.func42.trans (congrArg some (by kernel_rfl))⟩
  f23 := ⟨Try.f43.name, by decide, Try.func43.trans (congrArg some (by kernel_rfl))⟩
  f24 := ⟨Try.f44.name, by decide, Try.func44.trans (congrArg some (by kernel_rfl))⟩
  f25 := ⟨Try.f45.name, by decide, Try.func45.trans (congrArg some (by kernel_rfl))⟩
  f26 := ⟨Try.f46.name, by decide, Try.func46.trans (congrArg some (by kernel_rfl))⟩
  f27 := ⟨Try.f47.name, by decide, Try.func47.trans (congrArg some (by kernel_rfl))⟩
  f28 := Try.func48.trans (congrArg some (by kernel_rfl))
  f29 := Try.func49.trans (congrArg some (by kernel_rfl))
  f46 := ⟨Try.f52.name, by decide, Try.func52.trans (congrArg some (by kernel_rfl))⟩
  f47 := Try.func53.trans (congrArg some (by kernel_rfl))
  f48 := Try.func54.trans (congrArg some (by kernel_rfl))
  f49 := ⟨Try.f55.name, by decide, Try.func55.trans (congrArg some (by kernel_rfl))⟩
  f50 := ⟨Try.f56.name, by decide, Try.func56.trans (congrArg some (by kernel_rfl))⟩
  f57 := ⟨Try.f58.name, by decide, Try.func58.trans (congrArg some (by kernel_rfl))⟩
  t0 := Try.underlying0
  a0 := Try.isAgg0
  z0 := Try.sizeOf0
  v0 := Try.zeroValue0
  t3 := Try.underlying3
  a3 := Try.isAgg3
  z3 := Try.sizeOf3
  v3 := Try.zeroValue3
  t4 := Try.underlying4
  a4 := Try.isAgg4
  z4 := Try.sizeOf4
  v4 := Try.zeroValue4
  t5 := Try.underlying5
  a5 := Try.isAgg5
  z5 := Try.sizeOf5
  v5 := Try.zeroValue5
  t9 := Try.underlying9
  a9 := Try.isAgg9
  z9 := Try.sizeOf9
  v9 := Try.zeroValue9
  t22 := Try.underlying30
  a22 := Try.isAgg30
  z22 := Try.sizeOf30
  v22 := Try.zeroValue30
  a24 := Try.isAgg3
  z24 := Try.sizeOf3
  t25 := Try.underlying50
  a25 := Try.isAgg50
  z25 := Try.sizeOf50
  v25 := Try.zeroValue50
  t39 := Try.underlying68
  a39 := Try.isAgg68
  z39 := Try.sizeOf68
  v39 := Try.zeroValue68
  t45 := Try.underlying75
  a45 := Try.isAgg75
  z45 := Try.sizeOf75
  v45 := Try.zeroValue75
  t46 := Try.underlying76
  a46 := Try.isAgg76
  z46 := Try.sizeOf76
  v46 := Try.zeroValue76
  t50 := Try.underlying80
  a50 := Try.isAgg80
  z50 := Try.sizeOf80
  v50 := Try.zeroValue80
  t53 := Try.underlying83
  a53 := Try.isAgg83
  z53 := Try.sizeOf83
  v53 := Try.zeroValue83
  t55 := Try.underlying85
  a55 := Try.isAgg85
  z55 := Try.sizeOf85
  v55 := Try.zeroValue85
  t66 := Try.underlying90
  a66 := Try.isAgg90
  z66 := Try.sizeOf90
  v66 := Try.zeroValue90
  t70 := Try.underlying94
  a70 := Try.isAgg94
  z70 := Try.sizeOf94
  v70 := Try.zeroValue94
  t76 := Try.underlying98
  a76 := Try.isAgg98
  z76 := Try.sizeOf98
  v76 := Try.zeroValue98
  t77 := Try.underlying70
  a77 := Try.isAgg70
  z77 := Try.sizeOf70
  v77 := Try.zeroValue70 }
theorem Inv.same2 {G : Gh} {H : AHeap} {w w' : World} (h : Inv G H w) (ho : w'.os = w.os) (ht : w'.tape = w.tape) (hp : w'.output = w.output) (hh : ∀ (b : Nat) (x : Obj), w.heap[b]? = some x → w'.heap[b]? = some x) : Inv G H w' :=
  ⟨ho.trans h.os, ht.trans h.tape, hp.trans h.output, fun b x e => hh b x (h.fz b x e), fun b x e => hh b x (h.kp b x e), h.dom, h.live, fun o x e => (h.obj o x e).imp id fun ⟨k0, cs, k1, k2, k3, k4, k5, k6⟩ => ⟨k0, cs, hh _ _ k1, k2, k3, k4, k5, k6⟩, h.inj⟩
theorem ra_unit2 (n : Nat) (G : Gh) : RA n G (.tup []) (.tuple #[]) := .tup [] [] rfl (fun i x v h => by simp at h)
theorem SF_sort0 {H : AHeap} {o : Nat} {t : TypeId} {g : FuncId} {caps : List AV} (ho : H[o]? = some (some ⟨t, []⟩)) : SF Try.prog 22 [.osl o 0 0 1, .fn g [] caps] H fun r H' => r = .tup [] ∧ H' = H.set o (some ⟨t, []⟩) := by
  refine ⟨⟨_, Try.func22, by kernel_rfl, rfl⟩, fun G w vs hi hr => ?_⟩
  obtain ⟨v, us, rfl, h1, hr⟩ := hr.uncons
  obtain ⟨fv, us2, rfl, hf, hr⟩ := hr.uncons
  rw [hr.unnil]
  have hz : H.set o (some ⟨t, []⟩) = H := by
    apply List.ext_getElem?
    intro i
    rw [List.getElem?_set]
    split
    · rename_i hi; subst hi
      rw [if_pos (List.getElem?_eq_some_iff.1 ho).1, ho]
    · rfl
  have none' : ∀ (p : Option Addr) (cap : Nat), Calls Try.prog 22 #[.slice p 0 cap, fv] w fun e w' => ∃ v r G' H', e = .returned v ∧ Gh.le H.length G G' ∧ H.length ≤ H'.length ∧ Inv G' H' w' ∧ RA H'.length G' r v ∧ r = .tup [] ∧ H' = H.set o (some ⟨t, []⟩) := fun p cap => by
    refine (show Calls Try.prog 22 #[.slice p 0 cap, fv] w _ from AnyF.slices_SortFunc_none { sortFI with } p cap fv w).mono ?_
    rintro e w' ⟨rfl, rfl⟩
    rw [hz]
    exact ⟨_, .tup [], G, H, rfl, Gh.le.refl _ _, Nat.le_refl _, hi, ra_unit2 _ _, rfl, rfl⟩
  cases h1 with
  | onil => exact none' none 0
  | osl => exact none' _ _
theorem SF_sortF {α : Type} [Inhabited α] (enc : α → Int) (cf : α → α → Int) (hO : SWO (ltOf cf)) (hT : ∀ x y, (ltOf cf) x y = false → (ltOf cf) y x = false → x = y) {H : AHeap} {o n : Nat} {t : TypeId} {xs : List α} {g : FuncId} {caps : List AV} (ho : H[o]? = some (some ⟨t, (xs.map enc).map lint⟩)) (hn : n = xs.length) (hl : xs.length ≤ 1000000000)
    (eg : ∀ args w, (callFunc g args).run Try.prog w = .ok (.enter g args) w)
    (hcmp : ∀ (G : Gh) (W : World) (us : List Value), RL H.length G caps us → (∀ b x, G.fz b = some x → W.heap[b]? = some x) → ∀ x y : α, Calls Try.prog g (#[.int .i64 (enc x), .int .i64 (enc y)] ++ us.toArray) W fun e w' => e = .returned (.int .i64 (cf x y)) ∧ ∃ q os', w' = grow (W.drewN q) os') :
    SF Try.prog 22 [.osl o 0 n 1, .fn g [] caps] H fun r H' => r = .tup [] ∧ H' = H.set o (some ⟨t, ((xs.mergeSort fun x y => !(ltOf cf) y x).map enc).map lint⟩) := by
  subst hn
  refine ⟨⟨_, Try.func22, by kernel_rfl, rfl⟩, fun G w vs hi hr => ?_⟩
  obtain ⟨v, us, rfl, h1, hr⟩ := hr.uncons
  obtain ⟨fv, us2, rfl, hf, hr⟩ := hr.uncons
  rw [hr.unnil]
  cases hf with
  | fn _ _ _ vs0 cs0 f1 f2 f3 f4 =>
  have hvs0 : vs0 = [] := List.length_eq_zero_iff.1 f1.symm
  subst hvs0
  have hcaps : RL H.length G caps cs0 := ⟨f2, f4⟩
  generalize hS : (xs.mergeSort fun x y => !(ltOf cf) y x) = S at *
  have hSl : S.length = xs.length := by rw [← hS]; exact List.length_mergeSort xs
  have hz : xs.length = 0 → H.set o (some ⟨t, (S.map enc).map lint⟩) = H := fun h0 => by
    have hS0 : S = [] := List.length_eq_zero_iff.1 (by omega)
    have hx0 : xs = [] := List.length_eq_zero_iff.1 h0
    apply List.ext_getElem?
    intro i
    rw [List.getElem?_set]
    split
    · rename_i hi; subst hi
      rw [if_pos (List.getElem?_eq_some_iff.1 ho).1, ho, hS0, hx0]
    · rfl
  have none' : ∀ (p : Option Addr) (cap : Nat), xs.length = 0 → Calls Try.prog 22 #[.slice p 0 cap, .func (.func g) #[] cs0.toArray] w fun e w' => ∃ v r G' H', e = .returned v ∧ Gh.le H.length G G' ∧ H.length ≤ H'.length ∧ Inv G' H' w' ∧ RA H'.length G' r v ∧ r = .tup [] ∧ H' = H.set o (some ⟨t, (S.map enc).map lint⟩) := fun p cap h0 => by
    refine (show Calls Try.prog 22 #[.slice p 0 cap, .func (.func g) #[] cs0.toArray] w _ from AnyF.slices_SortFunc_none { sortFI with } p cap (.func (.func g) #[] cs0.toArray) w).mono ?_
    rintro e w' ⟨rfl, rfl⟩
    rw [hz h0]
    exact ⟨_, .tup [], G, H, rfl, Gh.le.refl _ _, Nat.le_refl _, hi, ra_unit2 _ _, rfl, rfl⟩
  generalize hlen : xs.length = n at *
  cases h1 with
  | onil => exact none' none 0 rfl
  | osl _ _ _ _ b a cap k1 k2 k3 k4 k5 k6 =>
    by_cases h0 : n = 0
    · subst h0; exact none' _ _ rfl
    · have hml : (xs.map enc).length = n := by rw [List.length_map]; exact hlen
      have h2 : ((xs.map enc).map lint) ≠ [] := by intro e; rw [List.map_eq_nil_iff, List.map_eq_nil_iff] at e; subst e; exact h0 hlen.symm
      obtain ⟨m0, cs, m1, m2, m3, m4, m5, m6⟩ := hi.real ho h2
      have ha := k3 (by omega)
      rw [Nat.add_zero] at ha
      subst ha k2
      have hcell : ∀ j, j < n → cs[(G.mu o).2 + j]? = some (.int .i64 ((xs.map enc).getD j 0)) := fun j hj => by
        obtain ⟨u, hu, hr⟩ := m3.cell (lint_at (by omega : j < (xs.map enc).length))
        rw [← Array.getElem?_toList, hu, hr.lit_inv]
      have hd : ∀ j, j < n → enc (xs.toArray[j]!) = (xs.map enc).getD j 0 := fun j hj => by
        rw [getElem!_pos _ _ (by simpa [hlen] using hj), List.getD_eq_getElem?_getD, List.getElem?_eq_getElem (by omega)]; simp
      have hH : Holds (fun x : α => Value.int .i64 (enc x)) w (G.mu o).1 (G.mu o).2 xs.toArray := fun j hj => by
        have hj' : j < n := by simpa [hlen] using hj
        refine ⟨?_, by simp [World.frozen?, m1]⟩
        rw [cell_of_heap m1, hcell j hj', ← hd j hj']
      have hlt := lt_of_heap m1
      have hlay : CmpLays1 Try.prog g cs0.toArray (fun x : α => Value.int .i64 (enc x)) cf (G.mu o).1 (G.mu o).2 xs.toArray.size w := fun m os dk hdk x y => by
        refine hcmp G _ cs0 hcaps (fun b x e0 => ?_) x y
        have e := hi.fz b x e0
        have hb : b ≠ (G.mu o).1 := fun hb => by rw [hb, m5] at e0; cases e0
        have hbl : b < w.heap.size := lt_of_heap e
        show ((w.heap.modify (G.mu o).1 (onCells (putCells (fun x : α => Value.int .i64 (enc x)) (G.mu o).2 dk))) ++ os)[b]? = some x
        rw [Array.getElem?_append, if_pos (by rw [Array.size_modify]; exact hbl), Array.getElem?_modify, if_neg (Ne.symm hb)]
        exact e
      have h := Any.slices_SortFunc_total sortFI (fun x : α => Value.int .i64 (enc x)) (fun _ => rfl) cf hO g cs0.toArray (G.mu o).1 (G.mu o).2 cap xs.toArray w eg hlay hH hlt (by simp [hlen]; omega) hT
      simp only [List.size_toArray, hlen] at h
      refine (show Calls Try.prog 22 #[.slice (some ⟨(G.mu o).1, (G.mu o).2, none⟩) n cap, .func (.func g) #[] cs0.toArray] w _ from h).mono ?_
      rintro e w' ⟨rfl, q, os, rfl⟩
      rw [hS]
      have hs : (S.map enc).length = n := by rw [List.length_map, hSl]
      have hcs : n + (G.mu o).2 ≤ cs.size := by
        have := hcell (n - 1) (by omega)
        have := (Array.getElem?_eq_some_iff.1 this).1
        omega
      have hi2 := hi.row ho m0 ((S.map enc).map lint) (putCells (fun x : α => Value.int .i64 (enc x)) (G.mu o).2 S.toArray cs) (by unfold putCells; rw [Array.size_mapIdx]; exact m2) ⟨by unfold putCells; simp [hSl]; omega, fun i x v e1 e2 => by
        have hi3 : i < n := by have := (List.getElem?_eq_some_iff.1 e1).1; simpa [hSl] using this
        rw [lint_at (by omega)] at e1
        cases e1
        rw [List.getElem?_take, if_pos (by simpa [hSl] using hi3), List.getElem?_drop, Array.getElem?_toList] at e2
        have hc : (G.mu o).2 + i < cs.size := by omega
        unfold putCells at e2
        rw [Array.getElem?_mapIdx, Array.getElem?_eq_getElem hc] at e2
        simp only [Option.map_some, List.size_toArray, hSl, Nat.le_add_right, true_and, Nat.add_lt_add_iff_left, hi3, if_true, Nat.add_sub_cancel_left, Option.some.injEq] at e2
        subst e2
        rw [getElem!_pos _ _ (by simpa [hSl] using hi3), List.getD_eq_getElem?_getD, List.getElem?_eq_getElem (by omega)]
        exact .iv _ _ (by simp; exact .lit _)⟩ (lint_one _)
      refine ⟨_, .tup [], G, _, rfl, Gh.le.refl _ _, by rw [List.length_set]; exact Nat.le_refl _, hi2.same2 rfl rfl rfl fun k x e => ?_, ra_unit2 _ _, rfl, rfl⟩
      simp only [World.setRow, Array.getElem?_modify] at e
      show ((w.heap.modify (G.mu o).1 (onCells (putCells (fun x : α => Value.int .i64 (enc x)) (G.mu o).2 S.toArray))) ++ os)[k]? = some x
      have hk : k < w.heap.size := by
        split at e
        · rename_i hk; omega
        · exact lt_of_heap e
      rw [Array.getElem?_append, if_pos (by rw [Array.size_modify]; exact hk), Array.getElem?_modify]
      split
      · rename_i hk; subst hk
        rw [if_pos rfl, m1] at e
        rw [m1]
        simpa [onCells] using e
      · rename_i hk
        rwa [if_neg hk] at e
end Go.Proofs.Yteldioinhbpfhaa
