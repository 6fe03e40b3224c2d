import Derived.Test.YtfpmfjmjnmjcdaaMgAY
import Derived.Test.YtfpmfjmjnmjcdaaMgAX
namespace Go.Proofs.Ytfpmfjmjnmjcdaa
open Go.RowKit
set_option linter.unusedVariables false
set_option linter.unusedSimpArgs false
theorem Wc0fda {A B : Prop} (h9 : B) (w : B → A := by (intro h9; (repeat intro K hK); refine ⟨?_⟩; (repeat (first | (first | (with_reducible first | refine AX_block ?_ | refine AX_skip ?_ | refine AX_exit ?_ | refine AX_ret ?_ | refine AX_ift ?_ | refine AX_iff ?_ | refine AX_seq_k (fun K hK => ?_) | refine ContX.use (by assumption) ?_) | simp only [thenX, inBlockX, if_true, if_false, reduceCtorEq]) | (first | ((first | (with_reducible refine XRes_op tyOK ?_ ?_) | ((with_reducible first | refine ADF_op tyOK ?_ ?_ ?_ | refine ADX_op tyOK ?_ ?_ ?_); (focus rfl)) | (with_reducible refine ADR_alloc1 tyOK ?_ ?_) | ((with_reducible refine ADR_free1 tyOK ?_ ?_ ?_); (focus rfl)) | ((with_reducible refine ADR_free0 tyOK ?_ ?_ ?_); (focus rfl)) | ((with_reducible refine ADR_read1 tyOK ?_ ?_ ?_); (focus rfl)) | (with_reducible refine ADR_chg1 tyOK ?_ ?_)); (focus (first | (with_reducible rfl) | ((simp (disch := omega) only [go_sem]); done))); simp (disch := omega) only [go_sem , hs1, hs2, hs3, hs4, hs5, hs6, hs7, hs8, hs9, Nat.reduceLeDiff, List.length_set, Int.toNat_zero, Int.toNat_one, List.length_nil]; (first | (with_reducible refine XRes_id ?_) | (with_reducible refine ADF_id ?_) | (with_reducible refine ADR_id1 ?_) | (with_reducible refine ADX_id ?_))) | ((first | (with_reducible refine XRes_skip ?_ ?_) | (with_reducible refine ADF_skip (b := true) ?_ ?_) | (with_reducible refine ADX_skip ?_ ?_) | ((with_reducible refine ADR_skip1 ?_ ?_ ?_); (focus rfl))); (focus (first | rfl | ((simp (disch := omega) only [go_sem]); done))); (simp only [putL, List.set_cons_succ, List.set_cons_zero]))) | ((first | (with_reducible refine XRes_nil ?_) | (with_reducible refine ADF_nil ?_) | (with_reducible refine ADR_nil ?_) | (with_reducible refine ADX_nil ?_)); (first | refine hK _ ?_ | refine hK _ _ ?_); clear hK K) | ((first | (with_reducible refine AX_reg0 fun K hK => ?_) | (refine AX_drawG1 tyOK (by kernel_rfl) (by rfl) (by kernel_rfl) fun K hK => ?_) | (refine AX_drawT tyOK (by kernel_rfl) (by decide +kernel) fun K hK => ?_) | (refine AX_drawM1 (by kernel_rfl) (by rfl) (by decide +kernel) fun K hK => ?_) | (refine AX_drawA tyOK (by kernel_rfl) (by decide +kernel) fun K hK => ?_)); (first | simp only [go_sem, preN, effOp, runF, alM, mapOp, alD2, kdOf2, Bool.not_false, Bool.not_true, reduceCtorEq] | simp only [go_sem, preN, effOp, runF, alM, mapOp, Bool.not_false, Bool.not_true, reduceCtorEq] | simp only [go_sem, preN, effOp, runF, alD2, kdOf2, Bool.not_false, Bool.not_true, reduceCtorEq] | simp only [go_sem, alD2, kdOf2, Bool.not_false, Bool.not_true, reduceCtorEq] | simp only [go_sem, preN, effOp, runF, Bool.not_false, Bool.not_true, reduceCtorEq] | simp only [go_sem])) | (first | (first | refine XTL (by rfl) hI ?_ | refine ATL tyOK (by rfl) hI ?_) | ((refine XRes_fn (by rfl) hC ?_); (rintro r H' ⟨rfl, rfl⟩); (simp only [putL, List.set_cons_succ, List.set_cons_zero])) | ((refine XRes_slot (by rfl) (by rfl) hS ?_); (rintro r H' ⟨rfl, rfl⟩); (simp only [putL, List.set_cons_succ, List.set_cons_zero]))) | (simp only [preN, effOp, runF, freeOp, roOp, alD, kdOf, isApp, List.any_cons, List.any_nil, List.take_succ_cons, List.take_zero, List.drop_succ_cons, List.drop_zero, Nat.reduceAdd, Bool.not_true, Bool.not_false, Bool.and_true, Bool.true_and, Bool.false_and, Bool.and_false, Bool.or_true, Bool.true_or, Bool.or_false, Bool.false_or, if_true, if_false, Bool.false_eq_true, reduceCtorEq, dsts, lapp_cons, lapp_nil, List.map_cons, List.map_nil, strip_mk, strip_gd, gix_some, List.getElem?_cons_succ, List.getElem?_cons_zero]) | (with_reducible refine XRes_nil ?_))); refine Wk.o ?_; (repeat revert hK K); exact h9)) : A := w h9
set_option maxRecDepth 100000 in
set_option maxHeartbeats 2000000 in
theorem pf_last {n : Nat} {L St Of Vl : List Int} {k : Nat} {X : AHeap} (hn : n ≤ 100000) (hk : k < L.length) (hLl : L.length ≤ 100000) (hvl : Vl.length = 2 * n) (x : Int) (hx : L.getD k 0 = x) (h1 : lvar x ≠ 0) (h2 : lvar x ≤ n) : SF Try.prog 37 [.optr 5 0] (some ⟨73, Of.map lint⟩ :: some ⟨70, Vl.map l8⟩ :: some ⟨57, [.osl 3 0 (k + 1) 1, .osl 4 0 St.length 1, .osl 0 0 (n + 1) 3, .osl 1 0 Vl.length 1, lt (.bool true)]⟩ :: some ⟨3, L.map lint⟩ :: some ⟨3, St.map lint⟩ :: some ⟨24, [.optr 2 0]⟩ :: X) fun y H' => y = lt (.int .i64 x) ∧ H' = some ⟨73, Of.map lint⟩ :: some ⟨70, ((Vl.set (vix x) 0).set (vix (-x)) 0).map l8⟩ :: some ⟨57, [.osl 3 0 k 1, .osl 4 0 St.length 1, .osl 0 0 (n + 1) 3, .osl 1 0 Vl.length 1, lt (.bool true)]⟩ :: some ⟨3, L.map lint⟩ :: some ⟨3, St.map lint⟩ :: some ⟨24, [.optr 2 0]⟩ :: X := by
  have hs1 := trivial; have hs2 := trivial; have hs3 := trivial; have hs4 := trivial; have hs5 := trivial; have hs6 := trivial; have hs7 := trivial; have hs8 := trivial; have hs9 := trivial
  have hC := trivial; have hS := trivial; have hV := trivial; have hI := trivial
  have hI := pf_LIndex x
  obtain ⟨e1, e2⟩ := lix h1 h2
  have e3 := (lix (x := -x) (n := n) (by rw [lvar_neg]; exact h1) (by rw [lvar_neg]; exact h2)).2
  have hx1 := xor_one (vix x) (by omega)
  rw [vix_neg h1] at hx1
  have hs2 : ((k + 1 : Nat) : Int) - 1 = k := by omega
  have hs3 := hx
  rw [e1] at hI
  generalize vix x = i at *
  generalize vix (-x) = j at *
  (refine SF_of_bodyX (aload tt) (aload_ok tyOK) Try.func37 rfl (by kernel_rfl) ?_; simp only [Try.ntmps37, List.length_cons, List.length_nil, Nat.reduceAdd, Nat.reduceSub, List.replicate_succ, List.replicate_zero, List.cons_append, List.nil_append])
  (refine Wk.o ?_; (repeat revert hK K); refine Wc0fda ?_; (repeat intro K hK); refine ⟨?_⟩)
  erw [hx1]
  (refine Wk.o ?_; (repeat revert hK K); refine Wc0fda ?_; (repeat intro K hK); refine ⟨?_⟩)
  (simp only [bodyX]; refine ⟨_, by simp only [aresults, aresult, XS.as, Try.results37, aload, go_sem, Option.bind_some]; rfl, ?_⟩)
  exact ⟨rfl, by first | rfl | trivial⟩
end Go.Proofs.Ytfpmfjmjnmjcdaa
namespace Go.Proofs.Ytfpmfjmjnmjcdaa
open Go.RowKit
set_option linter.unusedVariables false
set_option linter.unusedSimpArgs false
theorem AX_cut2 {P : Program} {m : Nat} {Q : Exit → XS → Prop} {fr : List AV} {H : AHeap} {M : MS} {c : Code} (o k : Nat) (y : AObj) (ho : H[o]? = some (some y)) (h : AX P m c Q ⟨fr, H.set o (some ⟨y.t, y.cells.take k⟩), M⟩) : AX P m c Q ⟨fr, H, M⟩ := by
  by_cases hne : y.cells = []
  · have : H.set o (some ⟨y.t, y.cells.take k⟩) = H := by
      apply List.ext_getElem?
      intro i
      by_cases e : o = i
      · subst e
        rw [List.getElem?_set_self (List.getElem?_eq_some_iff.1 ho).1, ho, hne, List.take_nil]
        cases y; simp at hne; rw [hne]
      · rw [List.getElem?_set_ne e]
    rw [this] at h; exact h
  · exact AX_cut o k y ho hne h
theorem take_next {L : List Int} {k : Nat} (h : k < L.length) : L.take (k + 1) = L.take k ++ [L.getD k 0] := by
  rw [List.take_add_one, List.getD_eq_getElem?_getD, List.getElem?_eq_getElem h]; rfl
theorem drop_next {L : List Int} {k : Nat} (h : k < L.length) : (L.drop k).reverse = (L.drop (k + 1)).reverse ++ [L.getD k 0] := by
  rw [List.drop_eq_getElem_cons h, List.reverse_cons, List.getD_eq_getElem?_getD, List.getElem?_eq_getElem h]; rfl
theorem take_at {L : List Int} {k i : Nat} (h : i < k) : (L.take k).getD i 0 = L.getD i 0 := by
  rw [List.getD_eq_getElem?_getD, List.getElem?_take_of_lt h, List.getD_eq_getElem?_getD]
theorem tr_pop {n : Nat} {L St Of Vl lv rs V : List Int} (h : TrS n L St Of Vl lv rs) {k : Nat} (hk : k < L.length) (hV : V.length = 2 * n) (hva : ∀ x, lvar x ≠ 0 → lvar x ≤ n → V.getD (vix x) 0 = tv (L.take (k + 1)) x) : ∀ y, lvar y ≠ 0 → lvar y ≤ n → ((V.set (vix (L.getD k 0)) 0).set (vix (-(L.getD k 0))) 0).getD (vix y) 0 = tv (L.take k) y := by
  have hr := h.rng k hk
  have hno : ∀ z, z ∈ L.take k → lvar z ≠ lvar (L.getD k 0) := fun z hz e => by
    obtain ⟨i, hi, ei⟩ := mem_getD.1 hz
    rw [List.length_take] at hi
    rw [take_at (by omega)] at ei
    have := h.inj i k (by omega) hk (by rw [ei, e])
    omega
  have hxl := (lix hr.1 hr.2).2
  have hnl := (lix (x := -(L.getD k 0)) (n := n) (by rw [lvar_neg]; exact hr.1) (by rw [lvar_neg]; exact hr.2)).2
  intro y hy hyn
  rw [getD_setI, getD_setI, List.length_set, hV]
  have tz : ∀ z, lvar z = lvar (L.getD k 0) → tv (L.take k) z = 0 := fun z hz => by
    unfold tv
    rw [if_neg (fun hh => hno z hh hz), if_neg (fun hh => hno (-z) hh (by rw [lvar_neg]; exact hz))]
  by_cases e1 : y = -(L.getD k 0)
  · rw [if_pos ⟨by rw [e1], by omega⟩, tz y (by rw [e1, lvar_neg])]
  · rw [if_neg (fun hh => e1 (vix_inj hy (by rw [lvar_neg]; exact hr.1) hh.1.symm))]
    by_cases e2 : y = L.getD k 0
    · rw [if_pos ⟨by rw [e2], by omega⟩, tz y (by rw [e2])]
    · rw [if_neg (fun hh => e2 (vix_inj hy hr.1 hh.1.symm)), hva y hy hyn, take_next hk]
      unfold tv
      have m1 : y ∈ L.take k ++ [L.getD k 0] ↔ y ∈ L.take k := by rw [List.mem_append, List.mem_singleton]; exact ⟨fun hh => hh.resolve_right e2, .inl⟩
      have m2 : -y ∈ L.take k ++ [L.getD k 0] ↔ -y ∈ L.take k := by rw [List.mem_append, List.mem_singleton]; exact ⟨fun hh => hh.resolve_right (fun h9 => e1 (by omega)), .inl⟩
      simp only [m1, m2]
theorem tr_back {n : Nat} {L St Of Vl lv rs V : List Int} (h : TrS n L St Of Vl lv rs) {l k : Nat} (hl : l < St.length) (hk : St.getD l 0 = k) (hV : V.length = 2 * n) (hva : ∀ x, lvar x ≠ 0 → lvar x ≤ n → V.getD (vix x) 0 = tv (L.take k) x) : TrS n (L.take k) (St.take l) Of V (lv.take k) (rs.take k) := by
  have hkb := h.stb l hl
  have l1 := h.l1; have l2 := h.l2
  have hkl : k ≤ L.length := by omega
  have eL : (L.take k).length = k := by rw [List.length_take]; omega
  have eS : (St.take l).length = l := by rw [List.length_take]; omega
  refine ⟨h.n1, by rw [List.length_take, eL]; omega, by rw [List.length_take, eL]; omega, fun i hi => ?_, fun i j hi hj e => ?_, hV, hva, h.ofl, fun i hi => ?_, fun j hj => ?_, fun i hi => ?_⟩
  · rw [eL] at hi; rw [take_at hi]; exact h.rng i (by omega)
  · rw [eL] at hi hj; rw [take_at hi, take_at hj] at e; exact h.inj i j (by omega) (by omega) e
  · rw [eL] at hi; rw [take_at hi, take_at hi, take_at hi]; exact h.of i (by omega)
  · rw [eS] at hj; rw [take_at hj, eL]
    have h1 := h.stb j (by omega)
    refine ⟨h1.1, ?_⟩
    by_cases hk0 : k = L.length
    · omega
    · have h2 := h.lvb k (by omega)
      have h3 := (h2.2.2 l hl).1 (by omega)
      exact (h2.2.2 j (by omega)).2 (by omega)
  · rw [eL] at hi
    have h2 := h.lvb i (by omega)
    rw [eS, take_at hi]
    refine ⟨h2.1, ?_, fun j hj => ?_⟩
    · have h3 := h2.2.2 l hl
      omega
    · rw [take_at hj]; exact h2.2.2 j (by omega)
end Go.Proofs.Ytfpmfjmjnmjcdaa
namespace Go.Proofs.Ytfpmfjmjnmjcdaa
theorem bk_head {E L lv rs : List Int} (h : EnS E L lv rs) {l : Int} {k0 : Nat} (hk : k0 ≤ L.length) (hc : ∀ i, i < L.length → (lv.getD i 0 ≤ l ↔ i < k0)) : ∀ i, i ≤ L.length → bkN E l i = min i k0 ∧ bkK E l i = E.take (min i k0 * 3) ∧ bkO E l i = ((L.take i).drop k0).reverse
  | 0, _ => ⟨by show 0 = _; omega, by rw [show min 0 k0 * 3 = 0 by omega]; rfl, by rw [List.take_zero, List.drop_nil]; rfl⟩
  | i + 1, hi => by
    obtain ⟨h1, h2, h3⟩ := bk_head h hk hc i (by omega)
    have hlt : i < L.length := by omega
    have hE := h.len
    have hcc := hc i hlt
    rw [← h.at1 i hlt] at hcc
    have htk : (L.take i).length = i := by rw [List.length_take]; omega
    have hnx := take_next (L := L) (k := i) hlt
    unfold bkN bkK bkO
    by_cases hik : i < k0
    · have hle := hcc.2 hik
      rw [if_pos hle, if_pos hle, if_pos hle, h1, h2, h3, show min i k0 = i by omega, show min (i + 1) k0 = i + 1 by omega]
      refine ⟨rfl, ?_, ?_⟩
      · rw [show (i + 1) * 3 = i * 3 + 1 + 1 + 1 by omega, take_next (by omega : i * 3 + 1 + 1 < E.length), take_next (by omega : i * 3 + 1 < E.length), take_next (by omega : i * 3 < E.length), List.append_assoc, List.append_assoc]; rfl
      · rw [List.drop_of_length_le (by rw [htk]; omega), List.drop_of_length_le (by rw [List.length_take]; omega)]
    · have hle : ¬ E.getD (i * 3 + 1) 0 ≤ l := fun h => hik (hcc.1 h)
      rw [if_neg hle, if_neg hle, if_neg hle, h1, h2, h3, show min i k0 = k0 by omega, show min (i + 1) k0 = k0 by omega]
      refine ⟨rfl, rfl, ?_⟩
      rw [hnx, List.drop_append_of_le_length (by rw [htk]; omega), List.reverse_append, show E.getD (i * 3 + 0) 0 = L.getD i 0 from h.at0 i hlt]; rfl
theorem en_take {E L lv rs : List Int} (h : EnS E L lv rs) {k : Nat} (hk : k ≤ L.length) : EnS (E.take (k * 3)) (L.take k) (lv.take k) (rs.take k) := by
  have hE := h.len
  have hl : (L.take k).length = k := by rw [List.length_take]; omega
  refine ⟨by rw [List.length_take, hl]; omega, fun i hi => ?_, fun i hi => ?_, fun i hi => ?_⟩ <;> rw [hl] at hi <;> rw [take_at (by omega), take_at hi]
  · exact h.at0 i (by omega)
  · exact h.at1 i (by omega)
  · exact h.at2 i (by omega)
theorem bk_yes {E L lv rs St Of Vl : List Int} {n : Nat} (h : EnS E L lv rs) (hT : TrS n L St Of Vl lv rs) {l k0 : Nat} (hl : l < St.length) (hk : St.getD l 0 = k0) : bkN E l L.length = k0 ∧ bkK E l L.length = E.take (k0 * 3) ∧ bkO E l L.length = (L.drop k0).reverse ∧ bkD St.length l = l := by
  have hb := hT.stb l hl
  have hkl : k0 ≤ L.length := by omega
  obtain ⟨h1, h2, h3⟩ := bk_head h (l := (l : Int)) hkl (fun i hi => by
    have := (hT.lvb i hi).2.2 l hl
    rw [hk] at this
    omega) L.length (Nat.le_refl _)
  rw [show min L.length k0 = k0 by omega] at h1 h2
  rw [List.take_length] at h3
  exact ⟨h1, h2, h3, by unfold bkD; rw [if_pos (by omega)]⟩
theorem bk_no {E L lv rs St Of Vl : List Int} {n : Nat} (h : EnS E L lv rs) (hT : TrS n L St Of Vl lv rs) {l : Int} (hl : (St.length : Int) ≤ l) : bkN E l L.length = L.length ∧ bkK E l L.length = E ∧ bkO E l L.length = [] ∧ bkD St.length l = St.length := by
  obtain ⟨h1, h2, h3⟩ := bk_head h (l := l) (Nat.le_refl L.length) (fun i hi => by
    have := (hT.lvb i hi).2.1
    constructor
    · exact fun _ => hi
    · exact fun _ => by omega) L.length (Nat.le_refl _)
  rw [Nat.min_self] at h1 h2
  rw [← h.len, List.take_length] at h2
  rw [List.take_length, List.drop_length] at h3
  exact ⟨h1, h2, h3, by unfold bkD; rw [if_neg (by omega)]⟩
end Go.Proofs.Ytfpmfjmjnmjcdaa
