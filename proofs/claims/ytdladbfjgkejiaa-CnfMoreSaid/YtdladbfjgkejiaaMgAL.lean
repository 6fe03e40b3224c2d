import Derived.Test.YtdladbfjgkejiaaMgAJ
import Derived.Test.YtdladbfjgkejiaaMgAK
import Derived.Test.YtdladbfjgkejiaaRows
import Derived.Test.YtdladbfjgkejiaaMgAA
import Derived.Deep.OwnRows
namespace Go.Proofs.Ytdladbfjgkejiaa
set_option linter.unusedVariables false

theorem holds_iff (m : List Bool) (c : List Int) : holdsC m c = true ↔ ∃ x ∈ c, lvar x ≠ 0 ∧ litT m x = true := by
  unfold holdsC
  rw [List.any_eq_true]
  constructor
  · rintro ⟨x, h1, h2⟩
    have h3 := h2
    unfold litT at h3
    rw [Bool.and_eq_true, decide_eq_true_eq] at h3
    exact ⟨x, h1, h3.1, h2⟩
  · rintro ⟨x, h1, _, h2⟩; exact ⟨x, h1, h2⟩
theorem litT_neg_iff (m : List Bool) {x : Int} (h : lvar x ≠ 0) : litT m (-x) = !litT m x := by
  have hs : lside (-x) = !lside x := by
    unfold lside; rw [lvar_neg]
    have := lvar_range h
    by_cases hp : 0 < x
    · rw [decide_eq_false (by omega), decide_eq_true (by omega)]; rfl
    · rw [decide_eq_true (by omega), decide_eq_false (by omega)]; rfl
  unfold litT
  rw [lvar_neg, hs, decide_eq_true h]
  cases (decide (lvar x ≤ m.length) && m.getD ((lvar x).toNat - 1) false) <;> cases lside x <;> rfl
theorem sub_holds {a b : List Int} {m : List Bool} (hs : cSub a b = true) (h : holdsC m a = true) : holdsC m b = true := by
  rw [holds_iff] at h ⊢
  obtain ⟨x, h1, h2, h3⟩ := h
  exact ⟨x, (sub_iff a b).1 hs x h1 h2, h2, h3⟩
theorem taut_holds {a : List Int} {m : List Bool} (ht : cTaut a = true) : holdsC m a = true := by
  obtain ⟨x, h1, h2, h3⟩ := (taut_iff a).1 ht
  rw [holds_iff]
  cases h : litT m x
  · exact ⟨-x, h3, by rw [lvar_neg]; exact h1, by rw [litT_neg_iff m h1, h]; rfl⟩
  · exact ⟨x, h2, h1, h⟩
theorem res_holds {a b : List Int} {l : Int} {m : List Bool} (he : cResE a b l = 0) (ha : holdsC m a = true) (hb : holdsC m b = true) : holdsC m (cRes a b l) = true := by
  have hr : cRes a b l = cNorm (cWithout a l ++ cWithout b (-l)) := by unfold cRes; rw [if_pos he]
  have hl : lvar l ≠ 0 := by
    intro h0
    unfold cResE at he
    rw [if_pos h0] at he
    omega
  rw [holds_iff] at ha hb ⊢
  obtain ⟨x, hx1, hx2, hx3⟩ := ha
  obtain ⟨y, hy1, hy2, hy3⟩ := hb
  rw [hr]
  by_cases hxl : x = l
  · subst hxl
    refine ⟨y, (cNorm_mem _ _).2 ⟨hy2, List.mem_append_right _ ((without_mem _ _ _).2 ⟨hy2, hy1, fun h => ?_⟩)⟩, hy2, hy3⟩
    subst h
    rw [litT_neg_iff m hl, hx3] at hy3
    cases hy3
  · exact ⟨x, (cNorm_mem _ _).2 ⟨hx2, List.mem_append_left _ ((without_mem _ _ _).2 ⟨hx2, hx1, hxl⟩)⟩, hx2, hx3⟩
/-- The one form is a clause over all variables. -/
theorem norm_check {c : List Int} (h : c.length ≤ 1000) : cCheck (cNorm c) 100000 = 0 := by
  have hlen : ∀ c : List Int, (cNorm c).length ≤ c.length := fun c => by
    induction c using snoc_induct with
    | h0 => simp [cNorm]
    | hs c x ih =>
      rw [cNorm_snoc, List.length_append]
      unfold cStep
      split
      · omega
      · have h2 : (cPut (cNorm c) x).length = (cNorm c).length + 1 := by
          have h := congrArg List.length (List.takeWhile_append_dropWhile (p := fun y => decide (lindex y < lindex x)) (l := cNorm c))
          rw [List.length_append] at h
          unfold cPut
          rw [List.length_append, List.length_cons]
          omega
        rw [h2]; simp; omega
  have h1 := hlen c
  unfold cCheck
  rw [if_neg (by omega), if_neg (by omega), if_neg, if_pos (norm_nodup c)]
  rw [Bool.not_eq_false, List.all_eq_true]
  intro x hx
  rw [beq_iff_eq, lcheck_max]
  exact ((cNorm_mem c x).1 hx).1
theorem norm_has (c : List Int) (l : Int) : cHas (cNorm c) l = cHas c l := by
  rw [Bool.eq_iff_iff, has_iff, has_iff, cNorm_mem]
  exact ⟨fun ⟨h1, h2⟩ => h2, fun h => ⟨h.1, h⟩⟩
theorem norm_same_clause (a : List Int) : (cSub a (cNorm a) && cSub (cNorm a) a) = true := by rw [same_iff, norm_norm]; simp
end Go.Proofs.Ytdladbfjgkejiaa
namespace Go.Proofs.Ytdladbfjgkejiaa
set_option linter.unusedVariables false

/-- The place of the first that p tells of; -1 if there is none. -/
def fFind {α : Type} (p : α → Bool) (xs : List α) : Int := if xs.any p then (xs.findIdx p : Int) else -1
theorem fFind_at {α : Type} {p : α → Bool} {xs : List α} {d : α} {k : Nat} (hk : k < xs.length) (hb : ∀ j, j < k → p (xs.getD j d) = false) (h : p (xs.getD k d) = true) : fFind p xs = (k : Int) := by
  have hx : xs.getD k d = xs[k] := by simp [List.getD, hk]
  rw [hx] at h
  have hany : xs.any p = true := List.any_eq_true.2 ⟨_, List.getElem_mem hk, h⟩
  have hi : xs.findIdx p = k := (List.findIdx_eq hk).2 ⟨h, fun j hj => by
    have := hb j hj
    rw [show xs.getD j d = xs[j]'(by omega) by simp [List.getD, show j < xs.length by omega]] at this
    exact this⟩
  unfold fFind
  rw [if_pos hany, hi]
theorem fFind_no {α : Type} {p : α → Bool} {xs : List α} {d : α} (hb : ∀ j, j < xs.length → p (xs.getD j d) = false) : xs.any p = false := by
  rw [List.any_eq_false]
  intro x hx
  obtain ⟨j, hj, rfl⟩ := List.mem_iff_getElem.1 hx
  have := hb j hj
  rw [show xs.getD j d = xs[j] by simp [List.getD, hj]] at this
  simp [this]
theorem fFind_none {α : Type} {p : α → Bool} {xs : List α} (h : xs.any p = false) : fFind p xs = -1 := by unfold fFind; rw [h]; rfl
theorem fFind_ge {α : Type} {p : α → Bool} {xs : List α} : 0 ≤ fFind p xs ↔ xs.any p = true := by
  unfold fFind
  by_cases h : xs.any p = true
  · rw [if_pos h]; exact ⟨fun _ => h, fun _ => by omega⟩
  · rw [if_neg h]; exact ⟨fun h2 => by omega, fun h2 => absurd h2 h⟩
theorem fFind_neg {α : Type} {p : α → Bool} {xs : List α} : fFind p xs = -1 ↔ xs.any p = false := by
  constructor
  · intro h
    cases h2 : xs.any p
    · rfl
    · have := fFind_ge.2 h2; omega
  · exact fFind_none
theorem fFind_bd {α : Type} (p : α → Bool) (xs : List α) : -1 ≤ fFind p xs ∧ fFind p xs < xs.length ∨ fFind p xs = -1 := by
  by_cases h : xs.any p = true
  · left
    unfold fFind
    rw [if_pos h]
    obtain ⟨x, hx, hp⟩ := List.any_eq_true.1 h
    have := List.findIdx_lt_length_of_exists ⟨x, hx, hp⟩
    omega
  · right; exact fFind_none (by simpa using h)
/-- The first clause that does not hold. -/
def fFirst (m : List Bool) (xss : List (List Int)) : Int := fFind (fun c => !holdsC m c) xss
def fHolds (vars : Int) (m : List Bool) (xss : List (List Int)) : Bool := decide ((m.length : Int) = vars) && decide (fFirst m xss = -1)
/-- The value of a formula, told clause by clause. -/
def fStat (l : List Int) (xss : List (List Int)) : Int := if xss.any (fun c => decide (aCl l c = -1)) then -1 else if xss.all (fun c => decide (aCl l c = 1)) then 1 else 0
theorem fFirst_iff (m : List Bool) (xss : List (List Int)) : fFirst m xss = -1 ↔ ∀ c ∈ xss, holdsC m c = true := by
  unfold fFirst
  rw [fFind_neg, List.any_eq_false]
  exact forall_congr' fun c => forall_congr' fun _ => by simp
end Go.Proofs.Ytdladbfjgkejiaa
namespace Go.Proofs.Ytdladbfjgkejiaa
open Go.RowKit
set_option linter.unusedVariables false

/-- Behind k rounds of storing f into n places. -/
def upTo {α : Type} (f : Nat → α) (z : α) (n k : Nat) : List α := (List.range n).map fun i => if i < k then f i else z
theorem upTo_length {α : Type} (f : Nat → α) (z : α) (n k : Nat) : (upTo f z n k).length = n := by simp [upTo]
theorem upTo_set {α : Type} (f : Nat → α) (z : α) (n k : Nat) : (upTo f z n k).set k (f k) = upTo f z n (k + 1) := by
  apply List.ext_getElem?
  intro i
  by_cases hi : i < n
  · by_cases hk : i = k
    · subst hk; simp [upTo, hi]
    · have h1 : i < k + 1 ↔ i < k := by omega
      rw [List.getElem?_set_ne (by omega)]; simp [upTo, hi, h1]
  · rw [List.getElem?_eq_none (by simp [upTo]; omega), List.getElem?_eq_none (by simp [upTo]; omega)]
theorem upTo_zero {α : Type} (f : Nat → α) (z : α) (n : Nat) : upTo f z n 0 = List.replicate n z := by
  apply List.ext_getElem?; intro i
  by_cases hi : i < n <;> simp [upTo, hi]
theorem upTo_full {α : Type} (f : Nat → α) (z : α) (n : Nat) : upTo f z n n = (List.range n).map f := by
  apply List.map_congr_left; intro i hi; rw [if_pos (List.mem_range.1 hi)]

theorem info_ints : (Try.prog.info? 26).map (fun i => (i.zero, i.size, i.bytes)) = some (some (.slice none 0 0), 1, 24) := by kernel_rfl
theorem info_int : (Try.prog.info? 3).map (fun i => (i.zero, i.size, i.bytes)) = some (some (.int .i64 0), 1, 8) := by kernel_rfl
theorem info_bool : (Try.prog.info? 4).map (fun i => (i.zero, i.size, i.bytes)) = some (some (.bool false), 1, 1) := by kernel_rfl

/-- The numbers xs lie in a block of their own. -/
theorem iblk_cell {w : World} {b : Nat} {xs : List Int} {t : TypeId} (h : Blk w b (xs.map (Value.int .i64)).toArray t) {k : Nat} (hk : k < xs.length) : w.cell? ⟨b, k, none⟩ = some (.int .i64 (xs.getD k 0)) := by
  rw [h.cell k]; simp [hk, List.getD]
theorem iblk_set {w : World} {b : Nat} {xs : List Int} {t : TypeId} (h : Blk w b (xs.map (Value.int .i64)).toArray t) (k : Nat) (y : Int) : Blk (w.setCell ⟨b, k, none⟩ (.int .i64 y)) b ((xs.set k y).map (Value.int .i64)).toArray t := by
  have := h.set k (.int .i64 y)
  rwa [show (xs.map (Value.int .i64)).toArray.setIfInBounds k (.int .i64 y) = ((xs.set k y).map (Value.int .i64)).toArray by simp [List.map_set]] at this
theorem iblk_own {w : World} {b B : Nat} {xs : List Int} (h : Blk w b (xs.map (Value.int .i64)).toArray 3) (hB : B ≤ b) (hm : xs.length ≤ maxLen) : OwnInts w B (.slice (some ⟨b, 0, none⟩) xs.length xs.length) xs :=
  ⟨by simp, Or.inr ⟨b, xs.length, _, rfl, hB, h, Nat.le_refl _, hm, by simp, by simp [List.take_of_length_le]⟩⟩
theorem madeInts (n : Nat) : madeCells #[Value.int .i64 0] n = ((List.replicate n (0 : Int)).map (Value.int .i64)).toArray := by
  apply Array.ext_getElem?; intro i
  by_cases hi : i < n <;> simp [madeCells, hi, Nat.mod_one]

theorem bblk_cell {w : World} {b : Nat} {xs : List Bool} {t : TypeId} (h : Blk w b (xs.map Value.bool).toArray t) {k : Nat} (hk : k < xs.length) : w.cell? ⟨b, k, none⟩ = some (.bool (xs.getD k false)) := by
  rw [h.cell k]; simp [hk, List.getD]
theorem bblk_set {w : World} {b : Nat} {xs : List Bool} {t : TypeId} (h : Blk w b (xs.map Value.bool).toArray t) (k : Nat) (y : Bool) : Blk (w.setCell ⟨b, k, none⟩ (.bool y)) b ((xs.set k y).map Value.bool).toArray t := by
  have := h.set k (.bool y)
  rwa [show (xs.map Value.bool).toArray.setIfInBounds k (.bool y) = ((xs.set k y).map Value.bool).toArray by simp [List.map_set]] at this
theorem bblk_own {w : World} {b B : Nat} {xs : List Bool} (h : Blk w b (xs.map Value.bool).toArray 4) (hB : B ≤ b) (hm : xs.length ≤ maxLen) : OwnBools w B (.slice (some ⟨b, 0, none⟩) xs.length xs.length) xs :=
  ⟨by simp, Or.inr ⟨b, xs.length, _, rfl, hB, h, Nat.le_refl _, hm, by simp, by simp [List.take_of_length_le]⟩⟩
theorem madeBools (n : Nat) : madeCells #[Value.bool false] n = ((List.replicate n false).map Value.bool).toArray := by
  apply Array.ext_getElem?; intro i
  by_cases hi : i < n <;> simp [madeCells, hi, Nat.mod_one]
end Go.Proofs.Ytdladbfjgkejiaa
