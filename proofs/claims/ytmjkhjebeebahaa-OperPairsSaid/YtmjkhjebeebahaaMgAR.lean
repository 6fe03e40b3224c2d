import Derived.Shelf.Sort.Plain
import Derived.Shelf.Slices.In.SortNone
import Derived.Test.YtmjkhjebeebahaaMgAM
import Derived.Test.YtmjkhjebeebahaaMgAN
import Derived.Test.YtmjkhjebeebahaaMgAQ
namespace Go.Proofs.Ytmjkhjebeebahaa
open Go.RowKit Go.Shelf Go.Lib Go.Sort
set_option linter.unusedVariables false

def sortI_ren : Go.Shelf.Ren := ⟨fun | 189 => 33 | 125 => 38 | 257 => 37 | 128 => 50 | 129 => 51 | 294 => 41 | 295 => 42 | 296 => 43 | 297 => 44 | 298 => 45 | 299 => 46 | 216 => 47 | 300 => 48 | 301 => 49 | 328 => 52 | 329 => 53 | 330 => 54 | 331 => 55 | 332 => 56 | 215 => 57 | 343 => 58 | n => n, fun | 28 => 41 | 3 => 3 | 46 => 71 | 0 => 0 | 51 => 83 | 53 => 85 | 4 => 4 | 183 => 75 | 182 => 74 | 131 => 80 | 5 => 5 | 9 => 9 | 218 => 86 | 222 => 90 | 228 => 92 | 229 => 32 | n => n, fun | n => n⟩
theorem sortI : Go.Proofs.Lays.n189 Try.prog sortI_ren := {
  mixed := by kernel_rfl
  f125 := Try.func38.trans (congrArg some (by kernel_rfl))
  f128 := Try.func50.trans (congrArg some (by kernel_rfl))
  f129 := Try.func51.trans (congrArg some (by kernel_rfl))
  f189 := Try.func33.trans (congrArg some (by kernel_rfl))
  f215 := Try.func57.trans (congrArg some (by kernel_rfl))
  f216 := Try.func47.trans (congrArg some (by kernel_rfl))
  f257 := Try.func37.trans (congrArg some (by kernel_rfl))
  f294 := Try.func41.trans (congrArg some (by kernel_rfl))
  f295 := Try.func42.trans (congrArg some (by kernel_rfl))
  f296 := Try.func43.trans (congrArg some (by kernel_rfl))
  f297 := Try.func44.trans (congrArg some (by kernel_rfl))
  f298 := Try.func45.trans (congrArg some (by kernel_rfl))
  f299 := Try.func46.trans (congrArg some (by kernel_rfl))
  f300 := Try.func48.trans (congrArg some (by kernel_rfl))
  f301 := Try.func49.trans (congrArg some (by kernel_rfl))
  f328 := Try.func52.trans (congrArg some (by kernel_rfl))
  f329 := Try.func53.trans (congrArg some (by kernel_rfl))
  f330 := Try.func54.trans (congrArg some (by kernel_rfl))
  f331 := Try.func55.trans (congrArg some (by kernel_rfl))
  f332 := Try.func56.trans (congrArg some (by kernel_rfl))
  f343 := Try.func58.trans (congrArg some (by kernel_rfl))
  t0 := Try.underlying0
  a0 := Try.isAgg0
  z0 := Try.sizeOf0
  v0 := Try.zeroValue0
  t3 := Try.underlying3
  a3 := Try.isAgg3
  z3 := Try.sizeOf3
  v3 := Try.zeroValue3
  t4 := Try.underlying4
  a4 := Try.isAgg4
  z4 := Try.sizeOf4
  v4 := Try.zeroValue4
  t5 := Try.underlying5
  a5 := Try.isAgg5
  z5 := Try.sizeOf5
  v5 := Try.zeroValue5
  t9 := Try.underlying9
  a9 := Try.isAgg9
  z9 := Try.sizeOf9
  v9 := Try.zeroValue9
  t28 := Try.underlying41
  a28 := Try.isAgg41
  z28 := Try.sizeOf41
  v28 := Try.zeroValue41
  t46 := Try.underlying71
  a46 := Try.isAgg71
  z46 := Try.sizeOf71
  v46 := Try.zeroValue71
  t51 := Try.underlying83
  a51 := Try.isAgg83
  z51 := Try.sizeOf83
  v51 := Try.zeroValue83
  t53 := Try.underlying85
  a53 := Try.isAgg85
  z53 := Try.sizeOf85
  v53 := Try.zeroValue85
  t131 := Try.underlying80
  a131 := Try.isAgg80
  z131 := Try.sizeOf80
  v131 := Try.zeroValue80
  t182 := Try.underlying74
  a182 := Try.isAgg74
  z182 := Try.sizeOf74
  v182 := Try.zeroValue74
  t183 := Try.underlying75
  a183 := Try.isAgg75
  z183 := Try.sizeOf75
  v183 := Try.zeroValue75
  t218 := Try.underlying86
  a218 := Try.isAgg86
  z218 := Try.sizeOf86
  v218 := Try.zeroValue86
  t222 := Try.underlying90
  a222 := Try.isAgg90
  z222 := Try.sizeOf90
  v222 := Try.zeroValue90
  t228 := Try.underlying92
  a228 := Try.isAgg92
  z228 := Try.sizeOf92
  v228 := Try.zeroValue92
  t229 := Try.underlying32
  a229 := Try.isAgg32
  z229 := Try.sizeOf32
  v229 := Try.zeroValue32 }



theorem Inv.same {G : Gh} {H : AHeap} {w w' : World} (h : Inv G H w) (ho : w'.os = w.os) (ht : w'.tape = w.tape) (hp : w'.output = w.output) (hh : ∀ (b : Nat) (x : Obj), w.heap[b]? = some x → w'.heap[b]? = some x) : Inv G H w' :=
  ⟨ho.trans h.os, ht.trans h.tape, hp.trans h.output, fun b x e => hh b x (h.fz b x e), fun b x e => hh b x (h.kp b x e), h.dom, h.live, fun o x e => (h.obj o x e).imp id fun ⟨k0, cs, k1, k2, k3, k4, k5, k6⟩ => ⟨k0, cs, hh _ _ k1, k2, k3, k4, k5, k6⟩, h.inj⟩
/-- Numbers in order. -/
def isort (xs : List Int) : List Int := xs.mergeSort fun x y => decide (x ≤ y)
theorem isort_len (xs : List Int) : (isort xs).length = xs.length := List.length_mergeSort xs
theorem isort_nil : isort [] = [] := List.length_eq_zero_iff.1 (isort_len [])
theorem isort_perm (xs : List Int) : (isort xs).Perm xs := List.mergeSort_perm xs _
theorem isort_sorted (xs : List Int) : (isort xs).Pairwise fun x y => x ≤ y := by
  have h := List.pairwise_mergeSort (le := fun x y : Int => decide (x ≤ y)) (fun a b c h1 h2 => by simp at h1 h2 ⊢; omega) (fun a b => by simp; omega) xs
  exact h.imp fun h => by simpa using h
theorem ra_unit (n : Nat) (G : Gh) : RA n G (.tup []) (.tuple #[]) := .tup [] [] rfl (fun i x v h => by simp at h)
theorem SF_sortI {H : AHeap} {o n : Nat} {t : TypeId} {xs : List Int} (ho : H[o]? = some (some ⟨t, xs.map lint⟩)) (hn : n = xs.length) (hl : xs.length ≤ 1000000000) :
    SF Try.prog 33 [.osl o 0 n 1] H fun r H' => r = .tup [] ∧ H' = H.set o (some ⟨t, (isort xs).map lint⟩) := by
  subst hn
  refine ⟨⟨_, rfl, by kernel_rfl, rfl⟩, fun G w vs hi hr => ?_⟩
  obtain ⟨v, us, rfl, h1, hr⟩ := hr.uncons
  rw [hr.unnil]
  have hz : xs.length = 0 → H.set o (some ⟨t, (isort xs).map lint⟩) = H := fun h0 => by
    obtain rfl : xs = [] := List.length_eq_zero_iff.1 h0
    apply List.ext_getElem?
    intro i
    rw [List.getElem?_set]
    split
    · rename_i hi; subst hi
      rw [if_pos (List.getElem?_eq_some_iff.1 ho).1, ho, isort_nil]
    · rfl
  have none' : ∀ (p : Option Addr) (cap : Nat), xs.length = 0 → Calls Try.prog 33 #[.slice p 0 cap] w fun e w' => ∃ v r G' H', e = .returned v ∧ Gh.le H.length G G' ∧ H.length ≤ H'.length ∧ Inv G' H' w' ∧ RA H'.length G' r v ∧ r = .tup [] ∧ H' = H.set o (some ⟨t, (isort xs).map lint⟩) := fun p cap h0 => by
    refine (show Calls Try.prog 33 #[.slice p 0 cap] w _ from Any.slices_Sort_int_none sortI p cap w).mono ?_
    rintro e w' ⟨rfl, rfl⟩
    rw [hz h0]
    exact ⟨_, .tup [], G, H, rfl, Gh.le.refl _ _, Nat.le_refl _, hi, ra_unit _ _, rfl, rfl⟩
  generalize hlen : xs.length = n at *
  cases h1 with
  | onil => exact none' none 0 rfl
  | osl _ _ _ _ b a cap k1 k2 k3 k4 k5 k6 =>
    by_cases h0 : n = 0
    · subst h0; exact none' _ _ rfl
    · have h2 : (xs.map lint) ≠ [] := by intro e; rw [List.map_eq_nil_iff] at e; subst e; exact h0 hlen.symm
      obtain ⟨m0, cs, m1, m2, m3, m4, m5, m6⟩ := hi.real ho h2
      have ha := k3 (by omega)
      rw [Nat.add_zero] at ha
      subst ha k2
      have hcell : ∀ j, j < n → cs[(G.mu o).2 + j]? = some (.int .i64 (xs.getD j 0)) := fun j hj => by
        obtain ⟨u, hu, hr⟩ := m3.cell (lint_at (by omega : j < xs.length))
        rw [← Array.getElem?_toList, hu, hr.lit_inv]
      have hd : ∀ j, j < n → xs.toArray[j]! = xs.getD j 0 := fun j hj => by
        rw [getElem!_pos _ _ (by simpa [hlen] using hj), List.getD_eq_getElem?_getD, List.getElem?_eq_getElem (by omega)]; simp
      have hH : Holds (Value.int .i64) w (G.mu o).1 (G.mu o).2 xs.toArray := fun j hj => by
        have hj' : j < n := by simpa [hlen] using hj
        refine ⟨?_, by simp [World.frozen?, m1]⟩
        rw [cell_of_heap m1, hcell j hj', hd j hj']
      have h := Any.slices_Sort_int sortI (G.mu o).1 (G.mu o).2 cap xs w hH (lt_of_heap m1) (by omega)
      rw [hlen] at h
      refine (show Calls Try.prog 33 #[.slice (some ⟨(G.mu o).1, (G.mu o).2, none⟩) n cap] w _ from h).mono ?_
      rintro e w' ⟨rfl, q, os, rfl⟩
      have hs : (isort xs).length = n := by rw [isort_len, hlen]
      have hlt := lt_of_heap m1
      have hcs : n + (G.mu o).2 ≤ cs.size := by
        have := hcell (n - 1) (by omega)
        have := (Array.getElem?_eq_some_iff.1 this).1
        omega
      have hi2 := hi.row ho m0 ((isort xs).map lint) (putCells (Value.int .i64) (G.mu o).2 (isort xs).toArray cs) (by unfold putCells; rw [Array.size_mapIdx]; exact m2) ⟨by unfold putCells; simp [hs]; omega, fun i x v e1 e2 => by
        have hi3 : i < n := by have := (List.getElem?_eq_some_iff.1 e1).1; simpa [hs] using this
        rw [lint_at (by omega)] at e1
        cases e1
        rw [List.getElem?_take, if_pos (by simpa [hs] using hi3), List.getElem?_drop, Array.getElem?_toList] at e2
        have hc : (G.mu o).2 + i < cs.size := by omega
        unfold putCells at e2
        rw [Array.getElem?_mapIdx, Array.getElem?_eq_getElem hc] at e2
        simp only [Option.map_some, List.size_toArray, hs, Nat.le_add_right, true_and, Nat.add_lt_add_iff_left, hi3, if_true, Nat.add_sub_cancel_left, Option.some.injEq] at e2
        subst e2
        rw [getElem!_pos _ _ (by simpa [hs] using hi3), List.getD_eq_getElem?_getD, List.getElem?_eq_getElem (by omega)]
        exact .iv _ _ (by simp; exact .lit _)⟩ (lint_one _)
      refine ⟨_, .tup [], G, _, rfl, Gh.le.refl _ _, by rw [List.length_set]; exact Nat.le_refl _, hi2.same rfl rfl rfl fun k x e => ?_, ra_unit _ _, rfl, rfl⟩
      simp only [World.setRow, Array.getElem?_modify] at e
      show ((w.heap.modify (G.mu o).1 (onCells (putCells (Value.int .i64) (G.mu o).2 (isort xs).toArray))) ++ os)[k]? = some x
      have hk : k < w.heap.size := by
        split at e
        · rename_i hk; omega
        · exact lt_of_heap e
      rw [Array.getElem?_append, if_pos (by rw [Array.size_modify]; exact hk), Array.getElem?_modify]
      split
      · rename_i hk; subst hk
        rw [if_pos rfl, m1] at e
        rw [m1]
        simpa [onCells] using e
      · rename_i hk
        rwa [if_neg hk] at e
end Go.Proofs.Ytmjkhjebeebahaa
namespace Go.Proofs.Ytmjkhjebeebahaa
/-! ### Numbers in order -/
theorem isort_eq {xs ys : List Int} (h : ys.Perm xs) (hs : ys.Pairwise fun x y => x ≤ y) : isort xs = ys :=
  List.Perm.eq_of_pairwise (le := fun x y : Int => x ≤ y) (fun a b _ _ h1 h2 => by omega) (isort_sorted xs) hs ((isort_perm xs).trans h.symm)
theorem isort_congr {xs ys : List Int} (h : xs.Perm ys) : isort xs = isort ys := isort_eq ((isort_perm ys).trans h.symm) (isort_sorted ys)
theorem isort_set {xs ys : List Int} (hx : xs.Nodup) (hy : ys.Nodup) (h : ∀ k, k ∈ xs ↔ k ∈ ys) : isort xs = isort ys := isort_congr ((List.perm_ext_iff_of_nodup hx hy).2 h)
theorem mem_isort {xs : List Int} {x : Int} : x ∈ isort xs ↔ x ∈ xs := (isort_perm xs).mem_iff
/-- A number put in its place. -/
theorem isort_put {xs ys : List Int} {p : Int} {k : Nat} (h : ys = isort xs) (hk : k ≤ ys.length) (h1 : ∀ j, j < k → ys.getD j 0 < p) (h2 : k < ys.length → p ≤ ys.getD k 0) : ys.take k ++ [p] ++ ys.drop k = isort (xs ++ [p]) := by
  symm
  have hs : ys.Pairwise fun x y => x ≤ y := by rw [h]; exact isort_sorted xs
  have hp : ys.Perm xs := by rw [h]; exact isort_perm xs
  have hsp : ∀ i j, i < j → j < ys.length → ys.getD i 0 ≤ ys.getD j 0 := fun i j hij hj => by
    have := List.pairwise_iff_getElem.1 hs i j (by omega) hj hij
    rw [List.getD_eq_getElem?_getD, List.getD_eq_getElem?_getD, List.getElem?_eq_getElem (by omega : i < ys.length), List.getElem?_eq_getElem hj]
    exact this
  have ht : ∀ x, x ∈ ys.take k → ∃ j, j < k ∧ j < ys.length ∧ ys.getD j 0 = x := fun x hx => by
    obtain ⟨j, hj, rfl⟩ := List.mem_iff_getElem.1 hx
    have hj' := hj
    rw [List.length_take] at hj'
    refine ⟨j, by omega, by omega, ?_⟩
    rw [List.getElem_take, List.getD_eq_getElem?_getD, List.getElem?_eq_getElem (by omega : j < ys.length)]; rfl
  have hd : ∀ x, x ∈ ys.drop k → ∃ j, k ≤ j ∧ j < ys.length ∧ ys.getD j 0 = x := fun x hx => by
    obtain ⟨j, hj, rfl⟩ := List.mem_iff_getElem.1 hx
    have hj' := hj
    rw [List.length_drop] at hj'
    refine ⟨k + j, by omega, by omega, ?_⟩
    rw [List.getElem_drop, List.getD_eq_getElem?_getD, List.getElem?_eq_getElem (by omega : k + j < ys.length)]; rfl
  refine isort_eq ?_ ?_
  · have e : (ys.take k ++ [p] ++ ys.drop k).Perm (ys.take k ++ ys.drop k ++ [p]) := by
      rw [List.append_assoc, List.append_assoc]
      exact List.Perm.append_left _ List.perm_append_comm
    rw [List.take_append_drop] at e
    exact e.trans (hp.append_right _)
  · rw [List.pairwise_append, List.pairwise_append]
    refine ⟨⟨hs.sublist (List.take_sublist _ _), List.pairwise_singleton _ _, fun a ha b hb => ?_⟩, hs.sublist (List.drop_sublist _ _), fun a ha b hb => ?_⟩
    · rw [List.mem_singleton.1 hb]
      obtain ⟨j, j1, j2, rfl⟩ := ht a ha
      have := h1 j j1; omega
    · obtain ⟨q, q1, q2, rfl⟩ := hd b hb
      rcases List.mem_append.1 ha with ha | ha
      · obtain ⟨j, j1, j2, rfl⟩ := ht a ha
        exact hsp j q (by omega) q2
      · rw [List.mem_singleton.1 ha]
        have h3 := h2 (by omega)
        rcases Nat.lt_or_ge k q with h4 | h4
        · have := hsp k q h4 q2; omega
        · rw [show q = k by omega]; exact h3
/-! ### Kinds -/
def eKin (xs : List Ev3) : Nat → Int
  | 0 => 0
  | k + 1 => if (evAt xs k).w = 1 then max (eKin xs k) (min (evAt xs k).n 63 + 1) else eKin xs k
theorem eKin_succ (xs : List Ev3) (k : Nat) : eKin xs (k + 1) = if (evAt xs k).w = 1 then max (eKin xs k) (min (evAt xs k).n 63 + 1) else eKin xs k := rfl
theorem eKin_le (xs : List Ev3) : ∀ k, 0 ≤ eKin xs k ∧ eKin xs k ≤ 64
  | 0 => by unfold eKin; omega
  | k + 1 => by
    have := eKin_le xs k
    unfold eKin
    split <;> omega
/-! ### What is open -/
def eLM (xs : List Ev3) : Nat → Int → Option Int
  | 0 => fun _ => none
  | k + 1 => if (evAt xs k).w = 1 then updF (eLM xs k) (evAt xs k).p k else delF (eLM xs k) (evAt xs k).p
theorem eLM_yes {xs : List Ev3} {k : Nat} (h : (evAt xs k).w = 1) : eLM xs (k + 1) = updF (eLM xs k) (evAt xs k).p k := by show (if _ then _ else _) = _; rw [if_pos h]
theorem eLM_no {xs : List Ev3} {k : Nat} (h : ¬ (evAt xs k).w = 1) : eLM xs (k + 1) = delF (eLM xs k) (evAt xs k).p := by show (if _ then _ else _) = _; rw [if_neg h]
theorem eLM_at (xs : List Ev3) : ∀ (k : Nat) (p : Int), eLM xs k p = if eLast xs k p = 1 then some (eWhere xs k p) else none
  | 0, p => by unfold eLM eLast; rfl
  | k + 1, p => by
    unfold eLM eLast eWhere
    by_cases hw : (evAt xs k).w = 1
    · rw [if_pos hw]
      unfold updF
      by_cases hp : p = (evAt xs k).p
      · subst hp; rw [if_pos rfl, if_pos rfl, if_pos rfl, if_pos hw]
      · rw [if_neg hp, if_neg (Ne.symm hp), if_neg (Ne.symm hp), eLM_at xs k p]
    · rw [if_neg hw]
      unfold delF
      by_cases hp : p = (evAt xs k).p
      · subst hp; rw [if_pos rfl, if_pos rfl, if_pos rfl, if_neg hw]
      · rw [if_neg hp, if_neg (Ne.symm hp), if_neg (Ne.symm hp), eLM_at xs k p]
/-- Is the event at i the last one of its process, and a call? -/
def eOp (xs : List Ev3) (i : Nat) : Bool := decide ((evAt xs i).w = 1 ∧ eWhere xs xs.length (evAt xs i).p = i)
def oks (xs : List Ev3) : Nat → List Int
  | 0 => []
  | k + 1 => if eOp xs k = true then oks xs k ++ [(evAt xs k).p] else oks xs k
theorem mem_oks {xs : List Ev3} {p : Int} : ∀ {k : Nat}, p ∈ oks xs k ↔ ∃ i, i < k ∧ eOp xs i = true ∧ (evAt xs i).p = p
  | 0 => ⟨fun h => by simp [oks] at h, fun ⟨i, h, _⟩ => by omega⟩
  | k + 1 => by
    unfold oks
    constructor
    · intro h
      split at h
      · rename_i ho
        rcases List.mem_append.1 h with h | h
        · obtain ⟨i, h1, h2⟩ := mem_oks.1 h; exact ⟨i, by omega, h2⟩
        · exact ⟨k, by omega, ho, (List.mem_singleton.1 h).symm⟩
      · obtain ⟨i, h1, h2⟩ := mem_oks.1 h; exact ⟨i, by omega, h2⟩
    · rintro ⟨i, h1, h2, h3⟩
      rcases Nat.lt_or_ge i k with h4 | h4
      · have : p ∈ oks xs k := mem_oks.2 ⟨i, h4, h2, h3⟩
        split
        · exact List.mem_append_left _ this
        · exact this
      · obtain rfl : i = k := by omega
        rw [if_pos h2]
        exact List.mem_append_right _ (by simp [h3])
theorem eOp_iff {xs : List Ev3} {i : Nat} : eOp xs i = true ↔ (evAt xs i).w = 1 ∧ eWhere xs xs.length (evAt xs i).p = i := by unfold eOp; rw [decide_eq_true_eq]
theorem oks_nodup (xs : List Ev3) : ∀ k, (oks xs k).Nodup
  | 0 => by simp [oks]
  | k + 1 => by
    unfold oks
    split
    · rename_i ho
      refine List.nodup_append.2 ⟨oks_nodup xs k, by simp, fun a ha b hb hab => ?_⟩
      obtain ⟨i, h1, h2, h3⟩ := mem_oks.1 ha
      have e1 := (eOp_iff.1 h2).2
      have e2 := (eOp_iff.1 ho).2
      rw [h3] at e1
      rw [hab, List.mem_singleton.1 hb, e2] at e1
      omega
    · exact oks_nodup xs k
theorem eWhere_at {xs : List Ev3} {p : Int} : ∀ {k : Nat}, 0 ≤ eWhere xs k p → (evAt xs (eWhere xs k p).toNat).p = p
  | 0, h => by unfold eWhere at h; omega
  | k + 1, h => by
    unfold eWhere at h ⊢
    split
    · rename_i hp; simpa using hp
    · rename_i hp; rw [if_neg hp] at h; exact eWhere_at h
theorem mem_open {xs : List Ev3} {p : Int} : p ∈ oks xs xs.length ↔ eLast xs xs.length p = 1 := by
  rw [mem_oks]
  constructor
  · rintro ⟨i, h1, h2, rfl⟩
    obtain ⟨h3, h4⟩ := eOp_iff.1 h2
    rw [eWhere_some (by rw [h4]; omega), h4]
    simpa using h3
  · intro h
    have hw : 0 ≤ eWhere xs xs.length p := by
      rcases Int.lt_or_le (eWhere xs xs.length p) 0 with h1 | h1
      · rw [eWhere_none h1] at h; omega
      · exact h1
    have hlt := (eWhere_lt xs p xs.length).2
    refine ⟨(eWhere xs xs.length p).toNat, by omega, eOp_iff.2 ⟨?_, ?_⟩, eWhere_at hw⟩
    · rw [← eWhere_some hw]; exact h
    · rw [eWhere_at hw]; omega
theorem oks_len (xs : List Ev3) : ∀ k, (oks xs k).length ≤ k
  | 0 => by simp [oks]
  | k + 1 => by
    have := oks_len xs k
    unfold oks
    split
    · rw [List.length_append]; simp; omega
    · omega
theorem keys_perm {xs : List Ev3} {ys : List Int} (hn : ys.Nodup) (h : ∀ k, k ∈ ys ↔ (eLM xs xs.length k).isSome = true) : ys.Perm (oks xs xs.length) := by
  refine (List.perm_ext_iff_of_nodup hn (oks_nodup xs _)).2 fun k => ?_
  rw [h k, mem_open, eLM_at]
  split <;> simp_all
theorem keys_len {xs : List Ev3} {ys : List Int} (hn : ys.Nodup) (h : ∀ k, k ∈ ys ↔ (eLM xs xs.length k).isSome = true) : ys.length ≤ xs.length := by
  rw [(keys_perm hn h).length_eq]; exact oks_len xs _
/-- The processes that are open, in order. -/
def eOps (xs : List Ev3) : List Int := isort (oks xs xs.length)
/-! ### What stays -/
def eSel (xs : List Ev3) (g : Nat → Bool) : Nat → List Ev3
  | 0 => []
  | k + 1 => if g k = true then eSel xs g k ++ [evAt xs k] else eSel xs g k
theorem eSel_len (xs : List Ev3) (g : Nat → Bool) : ∀ k, (eSel xs g k).length ≤ k
  | 0 => by simp [eSel]
  | k + 1 => by
    have := eSel_len xs g k
    unfold eSel
    split
    · rw [List.length_append]; simp; omega
    · omega
theorem eSel_yes {xs : List Ev3} {g : Nat → Bool} {k : Nat} (h : g k = true) : eSel xs g (k + 1) = eSel xs g k ++ [evAt xs k] := by show (if _ then _ else _) = _; rw [if_pos h]
theorem eSel_no {xs : List Ev3} {g : Nat → Bool} {k : Nat} (h : ¬ g k = true) : eSel xs g (k + 1) = eSel xs g k := by show (if _ then _ else _) = _; rw [if_neg h]
theorem eSel_congr {xs : List Ev3} {g g' : Nat → Bool} : ∀ {k : Nat}, (∀ i, i < k → g i = g' i) → eSel xs g k = eSel xs g' k
  | 0, _ => rfl
  | k + 1, h => by
    unfold eSel
    rw [h k (by omega), eSel_congr fun i hi => h i (by omega)]
theorem flatE_app (xs : List Ev3) (x : Ev3) : flatE (xs ++ [x]) = flatE xs ++ [x.w, x.p, x.n] := by unfold flatE; rw [List.flatMap_append]; rfl
def ePg (xs : List Ev3) (p : Int) (i : Nat) : Bool := decide ((evAt xs i).p = p)
def eDg (xs : List Ev3) (i : Nat) : Bool := !eOp xs i
def eOfL (xs : List Ev3) (p : Int) : List Ev3 := eSel xs (ePg xs p) xs.length
def eDoneL (xs : List Ev3) : List Ev3 := eSel xs (eDg xs) xs.length
/-! ### Sameness -/
def eSame (xs ys : List Ev3) : Bool := decide (xs.length = ys.length) && (List.range xs.length).all fun i => eFl (evAt xs i) == eFl (evAt ys i)
theorem eSame_no1 {xs ys : List Ev3} (h : ¬ xs.length = ys.length) : eSame xs ys = false := by unfold eSame; rw [decide_eq_false h]; rfl
theorem eSame_no2 {xs ys : List Ev3} {i : Nat} (hi : i < xs.length) (h : eFl (evAt xs i) ≠ eFl (evAt ys i)) : eSame xs ys = false := by
  unfold eSame
  rw [Bool.and_eq_false_iff]; right
  rw [List.all_eq_false]
  exact ⟨i, List.mem_range.2 hi, by simpa using h⟩
theorem eSame_yes {xs ys : List Ev3} (h : xs.length = ys.length) (h2 : ∀ i, i < xs.length → eFl (evAt xs i) = eFl (evAt ys i)) : eSame xs ys = true := by
  unfold eSame
  rw [decide_eq_true h, Bool.true_and, List.all_eq_true]
  exact fun i hi => by simpa using h2 i (List.mem_range.1 hi)
theorem eSame_refl (xs : List Ev3) : eSame xs xs = true := eSame_yes rfl fun _ _ => rfl
end Go.Proofs.Ytmjkhjebeebahaa
namespace Go.Proofs.Ytmjkhjebeebahaa
theorem eNext_le {xs : List Ev3} {i m : Nat} (h1 : i < m) (hp : (evAt xs m).p = (evAt xs i).p) : ∀ {k : Nat}, m < k → ∃ j, eNext xs i k = some j ∧ j ≤ m
  | 0, h => by omega
  | k + 1, h => by
    unfold eNext
    rcases Nat.lt_or_ge m k with h2 | h2
    · obtain ⟨j, e, h3⟩ := eNext_le h1 hp h2
      rw [e]; exact ⟨j, rfl, h3⟩
    · have : m = k := by omega
      subst this
      cases e : eNext xs i m with
      | some j => exact ⟨j, rfl, by have := eNext_lt e; omega⟩
      | none => simp only; rw [if_pos ⟨h1, hp⟩]; exact ⟨m, rfl, Nat.le_refl _⟩
theorem eNext_last {xs : List Ev3} {i : Nat} : ∀ {k : Nat}, eNext xs i k = none → i < k → eLast xs k (evAt xs i).p = (evAt xs i).w ∧ eWhere xs k (evAt xs i).p = i
  | 0, _, h => by omega
  | k + 1, h, hi => by
    unfold eNext at h
    unfold eLast eWhere
    cases e : eNext xs i k with
    | some j => rw [e] at h; cases h
    | none =>
      rw [e] at h
      simp only at h
      rcases Nat.lt_or_ge i k with h1 | h1
      · split at h
        · cases h
        · rename_i h2
          have h3 : ¬ (evAt xs k).p = (evAt xs i).p := fun h4 => h2 ⟨h1, h4⟩
          rw [if_neg h3, if_neg h3]
          exact eNext_last e h1
      · have : i = k := by omega
        subst this
        rw [if_pos rfl, if_pos rfl]; exact ⟨rfl, rfl⟩
theorem eNext_first {xs : List Ev3} {i j : Nat} : ∀ {k : Nat}, eNext xs i k = some j → eNext xs i j = none
  | 0, h => by cases h
  | k + 1, h => by
    unfold eNext at h
    cases e : eNext xs i k with
    | some q => rw [e] at h; simp at h; subst h; exact eNext_first e
    | none =>
      rw [e] at h
      simp only at h
      split at h
      · cases h; exact e
      · cases h
theorem eNext_where {xs : List Ev3} {i n : Nat} (hi : i < n) : eNext xs i n = none ↔ eWhere xs n (evAt xs i).p = i := by
  constructor
  · exact fun h => (eNext_last h hi).2
  · intro h
    cases e : eNext xs i n with
    | none => rfl
    | some j =>
      obtain ⟨h1, h2, h3⟩ := eNext_lt e
      have h4 : ∀ {m : Nat}, j < m → (j : Int) ≤ eWhere xs m (evAt xs i).p := fun {m} => by
        induction m with
        | zero => intro h; omega
        | succ m ih =>
          intro hm
          unfold eWhere
          split
          · omega
          · rename_i h5
            rcases Nat.lt_or_ge j m with h6 | h6
            · exact ih h6
            · rw [show m = j by omega] at h5; exact absurd h3 h5
      have := h4 h2
      omega
section
variable {xs : List Ev3} (hv : ∀ j, j < xs.length → eErr xs j = 0)
include hv
/-- What comes next behind a call is a return. -/
theorem next_ret {i j : Nat} (hw : (evAt xs i).w = 1) (h : eNext xs i xs.length = some j) : (evAt xs j).w = 2 ∧ j < xs.length := by
  obtain ⟨h1, h2, h3⟩ := eNext_lt h
  obtain ⟨e1, e2⟩ := eErr_zero (hv j h2)
  have h4 := (eNext_last (eNext_first h) h1).1
  rw [h3, h4] at e2
  exact ⟨e2.1 hw, h2⟩
def opP (xs : List Ev3) : Nat → List Int
  | 0 => []
  | k + 1 => if (evAt xs k).w = 1 then opP xs k ++ [(evAt xs k).p] else (opP xs k).erase (evAt xs k).p
theorem opP_is : ∀ k, k ≤ xs.length → (opP xs k).Nodup ∧ (∀ p, p ∈ opP xs k ↔ eLast xs k p = 1) ∧ (opP xs k).length + k = 2 * (oCalls xs k).length
  | 0, _ => ⟨by simp [opP], fun p => by simp [opP, eLast], rfl⟩
  | k + 1, hk => by
    obtain ⟨h1, h2, h3⟩ := opP_is k (by omega)
    obtain ⟨e1, e2⟩ := eErr_zero (hv k (by omega))
    have hw := (eMay_zero e1).1
    have hl : ∀ p, eLast xs (k + 1) p = if (evAt xs k).p = p then (evAt xs k).w else eLast xs k p := fun p => rfl
    have hm := h2 (evAt xs k).p
    rw [oCalls_succ]
    unfold opP
    by_cases h : (evAt xs k).w = 1
    · rw [if_pos h, if_pos h]
      have hn : (evAt xs k).p ∉ opP xs k := fun h4 => by have := e2.1 (hm.1 h4); omega
      refine ⟨List.nodup_append.2 ⟨h1, by simp, fun a ha b hb hab => by rw [hab, List.mem_singleton.1 hb] at ha; exact hn ha⟩, fun p => ?_, by simp only [List.length_append, List.length_cons, List.length_nil]; omega⟩
      rw [List.mem_append, List.mem_singleton, hl]
      by_cases hp : (evAt xs k).p = p
      · subst hp; rw [if_pos rfl]; exact ⟨fun _ => h, fun _ => .inr rfl⟩
      · rw [if_neg hp, h2 p]; exact ⟨fun h4 => h4.resolve_right fun h5 => hp h5.symm, .inl⟩
    · rw [if_neg h, if_neg h]
      have hn : (evAt xs k).p ∈ opP xs k := hm.2 (e2.2 (by omega))
      have hpos := List.length_pos_of_mem hn
      refine ⟨h1.erase _, fun p => ?_, by rw [List.length_erase_of_mem hn]; omega⟩
      rw [h1.mem_erase_iff, hl, h2 p]
      by_cases hp : (evAt xs k).p = p
      · subst hp; rw [if_pos rfl]; exact ⟨fun h4 => absurd rfl h4.1, fun h4 => absurd h4 h⟩
      · rw [if_neg hp]; exact ⟨fun h4 => h4.2, fun h4 => ⟨fun h5 => hp h5.symm, h4⟩⟩
theorem open_len : (oks xs xs.length).length + xs.length = 2 * (oCalls xs xs.length).length := by
  obtain ⟨h1, h2, h3⟩ := opP_is hv xs.length (Nat.le_refl _)
  have : (opP xs xs.length).Perm (oks xs xs.length) := (List.perm_ext_iff_of_nodup h1 (oks_nodup xs _)).2 fun p => by rw [h2 p, mem_open]
  rw [← this.length_eq]; exact h3
end
theorem oks_count (xs : List Ev3) : ∀ k, (oks xs k).length = (List.range k).countP (eOp xs)
  | 0 => rfl
  | k + 1 => by
    rw [List.range_succ, List.countP_append]
    unfold oks
    by_cases h : eOp xs k = true
    · rw [if_pos h, List.length_append, oks_count xs k, List.countP_cons, h]; rfl
    · rw [if_neg h, oks_count xs k, List.countP_cons]; simp [h]
theorem range_at (C : List Nat) : (List.range C.length).map (fun i => C.getD i 0) = C := by
  apply List.ext_getElem?
  intro i
  rw [List.getElem?_map]
  by_cases hi : i < C.length
  · rw [List.getElem?_range hi, Option.map_some, List.getD_eq_getElem?_getD, List.getElem?_eq_getElem hi]; rfl
  · rw [List.getElem?_eq_none (by simpa using hi), List.getElem?_eq_none (by omega)]; rfl
/-- The operations of a history. -/
abbrev hOps (xs : List Ev3) : List Op5 := (oCalls xs xs.length).map (opOf xs xs.length)
abbrev hC (xs : List Ev3) (i : Nat) : Nat := (oCalls xs xs.length).getD i 0
theorem hOps_at {xs : List Ev3} {i : Nat} (h : i < (oCalls xs xs.length).length) : oAt (hOps xs) i = opOf xs xs.length (hC xs i) := by
  unfold oAt hC
  rw [List.getD_eq_getElem?_getD, List.getElem?_map, List.getElem?_eq_getElem h, List.getD_eq_getElem?_getD, List.getElem?_eq_getElem h]; rfl
theorem hC_is {xs : List Ev3} {i : Nat} (h : i < (oCalls xs xs.length).length) : hC xs i < xs.length ∧ (evAt xs (hC xs i)).w = 1 := by
  have : hC xs i ∈ oCalls xs xs.length := by unfold hC; rw [List.getD_eq_getElem?_getD, List.getElem?_eq_getElem h]; exact List.getElem_mem h
  generalize hC xs i = c at this
  unfold oCalls at this
  rw [List.mem_filter, List.mem_range, decide_eq_true_eq] at this
  exact this
theorem hC_lt {xs : List Ev3} {i k : Nat} (hk : k < i) (h : i < (oCalls xs xs.length).length) : hC xs k < hC xs i := by
  have hp : (oCalls xs xs.length).Pairwise (· < ·) := by unfold oCalls; exact List.pairwise_lt_range.sublist List.filter_sublist
  have := List.pairwise_iff_getElem.1 hp k i (by omega) h hk
  unfold hC
  rw [List.getD_eq_getElem?_getD, List.getD_eq_getElem?_getD, List.getElem?_eq_getElem (by omega : k < (oCalls xs xs.length).length), List.getElem?_eq_getElem h]
  exact this
theorem pend_len (xs : List Ev3) : (oPends (hOps xs) (hOps xs).length).length = (oks xs xs.length).length := by
  have e1 : (oPends (hOps xs) (hOps xs).length).length = (List.range (oCalls xs xs.length).length).countP ((fun c => decide (eNext xs c xs.length = none)) ∘ fun i => (oCalls xs xs.length).getD i 0) := by
    unfold oPends
    rw [List.length_map, ← List.countP_eq_length_filter, List.length_map]
    refine List.countP_congr fun i hi => ?_
    have hi := List.mem_range.1 hi
    rw [hOps_at hi]
    simp only [Function.comp, decide_eq_true_eq]
    show (opOf xs xs.length (hC xs i)).e = -1 ↔ eNext xs (hC xs i) xs.length = none
    rw [← opOf_e]
    constructor
    · intro h; omega
    · exact fun h => (opOf_er h).1
  rw [e1, ← List.countP_map, range_at, oks_count]
  unfold oCalls
  rw [List.countP_filter]
  refine List.countP_congr fun i hi => ?_
  have hi := List.mem_range.1 hi
  rw [Bool.and_eq_true, decide_eq_true_eq, decide_eq_true_eq, eOp_iff, eNext_where hi]
  exact ⟨fun h => ⟨h.2, h.1⟩, fun h => ⟨h.2, h.1⟩⟩
section
variable {xs : List Ev3} (hv : ∀ j, j < xs.length → eErr xs j = 0)
include hv
theorem hOps_ev {i : Nat} (h : i < (oCalls xs xs.length).length) : (oAt (hOps xs) i).p = (evAt xs (hC xs i)).p ∧ (oAt (hOps xs) i).k = (evAt xs (hC xs i)).n ∧ (oAt (hOps xs) i).s = hC xs i ∧
    ((eNext xs (hC xs i) xs.length = none ∧ (oAt (hOps xs) i).e = -1 ∧ (oAt (hOps xs) i).r = -1) ∨ ∃ j : Nat, eNext xs (hC xs i) xs.length = some j ∧ hC xs i < j ∧ j < xs.length ∧ (evAt xs j).w = 2 ∧ (evAt xs j).p = (evAt xs (hC xs i)).p ∧ (oAt (hOps xs) i).e = j ∧ (oAt (hOps xs) i).r = (evAt xs j).n) := by
  obtain ⟨h1, h2, h3⟩ := opOf_psk xs xs.length (hC xs i)
  rw [hOps_at h]
  refine ⟨h1, h2, h3, ?_⟩
  unfold opOf
  cases e : eNext xs (hC xs i) xs.length with
  | none => exact .inl ⟨rfl, rfl, rfl⟩
  | some j =>
    obtain ⟨k1, k2, k3⟩ := eNext_lt e
    exact .inr ⟨j, rfl, k1, k2, (next_ret hv (hC_is h).2 e).1, k3, rfl, rfl⟩
variable (hn : xs.length ≤ 10000)
include hn
theorem hOps_good : oGood (hOps xs) (hOps xs).length := fun i hi => by
  have hi' : i < (oCalls xs xs.length).length := by simpa using hi
  obtain ⟨p1, p2, p3, p4⟩ := hOps_ev hv hi'
  obtain ⟨c1, c2⟩ := hC_is hi'
  have hm := (eErr_zero (hv _ c1)).1
  have hmz := eMay_zero hm
  have m0 : oMay (oAt (hOps xs) i) = 0 := by
    unfold oMay
    rcases p4 with ⟨_, q1, q2⟩ | ⟨j, _, q1, q2, q3, q4, q5, q6⟩
    · rw [p1, p2, p3, q1, q2, if_neg (by omega), if_neg (by have := hmz.2.2.2.1 c2; omega), if_pos ⟨rfl, rfl⟩]
    · have hj := eMay_zero (eErr_zero (hv _ q2)).1
      have hj2 := hj.2.2.2.2 q3
      rw [p1, p2, p3, q5, q6, if_neg (by omega), if_neg (by have := hmz.2.2.2.1 c2; omega), if_neg (by omega), if_neg (by omega)]
  have o1 : ∀ k, k < i → hC xs k < hC xs i := fun k hk => hC_lt hk hi'
  have hord : ¬ oOrd (hOps xs) i (oAt (hOps xs) i) := by
    rintro ⟨k, hk, h⟩
    have hk' : k < (oCalls xs xs.length).length := by omega
    obtain ⟨r1, r2, r3, r4⟩ := hOps_ev hv hk'
    obtain ⟨d1, d2⟩ := hC_is hk'
    have hlt := o1 k hk
    rcases h with h | h
    · rw [r3, p3] at h; omega
    · unfold oMeets at h
      rw [r3, p3] at h
      have same : ∀ {a b : Nat}, (evAt xs a).w = 1 → (evAt xs b).w = 2 → a ≠ b := fun {a b} h1 h2 h3 => by subst h3; omega
      rcases r4 with ⟨_, s1, _⟩ | ⟨j, s0, s1, s2, s3, s4, s5, _⟩ <;> rcases p4 with ⟨_, q1, _⟩ | ⟨j', q0, q1, q2, q3, q4, q5, _⟩
      · rw [s1, q1] at h; omega
      · rw [s1, q5] at h
        have := same d2 q3
        omega
      · rw [s5, q1] at h
        have := same c2 s3
        omega
      · rw [s5, q5] at h
        have h1 := same c2 s3
        have h2 := same d2 q3
        rcases h with h | h | h | h
        · omega
        · omega
        · omega
        · have hjj : j = j' := by omega
          subst hjj
          have hp : (evAt xs (hC xs i)).p = (evAt xs (hC xs k)).p := by rw [← q4, s4]
          obtain ⟨j2, e2, h5⟩ := eNext_le hlt hp c1
          rw [s0] at e2; cases e2
          omega
  have hopen : ¬ oOpen (hOps xs) i (oAt (hOps xs) i) := by
    rintro ⟨k, hk, h, ha⟩
    have hk' : k < (oCalls xs xs.length).length := by omega
    obtain ⟨r1, r2, r3, r4⟩ := hOps_ev hv hk'
    have hlt := o1 k hk
    rw [r1, p1] at h
    obtain ⟨j2, e2, h5⟩ := eNext_le hlt h.symm c1
    rcases r4 with ⟨s0, _⟩ | ⟨j, s0, s1, s2, s3, s4, s5, _⟩
    · rw [s0] at e2; cases e2
    · have hjj : j = j2 := Option.some.inj (s0.symm.trans e2)
      subst hjj
      have hne : j ≠ hC xs i := fun e => by rw [e] at s3; omega
      unfold oAhead at ha
      rw [s5, p3, decide_eq_false_iff_not] at ha
      omega
  unfold oErr
  rw [if_neg (by omega), if_neg hord, if_neg hopen]
theorem hOps_chk (hl : (hOps xs).length ≤ 5000) {a c : Int} (h : OChk (hOps xs) a c) : a = (hOps xs).length ∧ c = 0 :=
  h.uniq (.inr (.inr ⟨hl, hOps_good hv hn, rfl, rfl⟩))
end
end Go.Proofs.Ytmjkhjebeebahaa
