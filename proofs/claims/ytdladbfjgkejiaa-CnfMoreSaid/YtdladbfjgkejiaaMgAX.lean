import Derived.Test.YtdladbfjgkejiaaMgAV
import Derived.Test.YtdladbfjgkejiaaMgAN
import Derived.Test.YtdladbfjgkejiaaMgAS
namespace Go.Proofs.Ytdladbfjgkejiaa
set_option linter.unusedVariables false

theorem ccheck_in {c : List Int} {vars : Int} (h : cCheck c vars = 0) : ∀ x ∈ c, lcheck x vars = 0 := by
  unfold cCheck at h
  split at h
  · omega
  · split at h
    · omega
    · split at h
      · omega
      · next h3 =>
        intro x hx
        have h4 : (c.all fun x => lcheck x vars == 0) = true := by
          cases h5 : (c.all fun x => lcheck x vars == 0)
          · exact absurd h5 h3
          · rfl
        have := List.all_eq_true.1 h4 x hx
        simpa using this
/-- A whole assignment tells each formula: true or false. -/
theorem fStat_from {vars : Int} {xss : List (List Int)} {m : List Bool} (he : fErr vars xss = 0) (hm : (m.length : Int) = vars) : fStat (aFrom m) xss = if fFirst m xss = -1 then 1 else -1 := by
  obtain ⟨h0, h1, _, h3⟩ := fErr_ok he
  have hl : m.length ≤ 100000 := by omega
  have hc : ∀ c ∈ xss, aCl (aFrom m) c = if holdsC m c then 1 else -1 := fun c hcx => aFrom_clause hl (by rw [hm]; exact ccheck_in (h3 c hcx).1)
  by_cases hf : fFirst m xss = -1
  · rw [if_pos hf]
    have ha := (fFirst_iff m xss).1 hf
    have e1 : xss.any (fun c => decide (aCl (aFrom m) c = -1)) = false := by
      rw [List.any_eq_false]
      intro c hcx
      rw [hc c hcx, ha c hcx]
      simp
    have e2 : xss.all (fun c => decide (aCl (aFrom m) c = 1)) = true := by
      rw [List.all_eq_true]
      intro c hcx
      rw [hc c hcx, ha c hcx]
      simp
    unfold fStat
    rw [e1, e2]
    rfl
  · rw [if_neg hf]
    have e1 : xss.any (fun c => decide (aCl (aFrom m) c = -1)) = true := by
      rw [List.any_eq_true]
      apply Classical.byContradiction
      intro hno
      apply hf
      rw [fFirst_iff]
      intro c hcx
      cases hh : holdsC m c
      · exfalso
        apply hno
        refine ⟨c, hcx, ?_⟩
        rw [hc c hcx, hh]
        simp
      · rfl
    unfold fStat
    rw [e1]
    rfl
theorem fFirst_app {m : List Bool} {xss yss : List (List Int)} (h : fFirst m (xss ++ yss) = -1) : fFirst m xss = -1 := by
  rw [fFirst_iff] at h ⊢
  exact fun c hc => h c (List.mem_append_left _ hc)
theorem fFirst_lt {m : List Bool} {xss : List (List Int)} : fFirst m xss < 0 ↔ fFirst m xss = -1 := by
  unfold fFirst
  constructor
  · intro h
    rw [fFind_neg]
    cases h2 : xss.any _
    · rfl
    · have := fFind_ge.2 h2; omega
  · intro h; rw [h]; decide
end Go.Proofs.Ytdladbfjgkejiaa
namespace Go.Proofs.Ytdladbfjgkejiaa
set_option linter.unusedVariables false

def pSet1 (n : List Bool) (l : Int) : List Bool := if 1 ≤ max l (-l) ∧ max l (-l) ≤ n.length then n.set ((max l (-l)).toNat - 1) (decide (0 < l)) else n
def pSet (n : List Bool) (p : List Int) : List Bool := p.foldl pSet1 n
theorem pSet1_len (n : List Bool) (l : Int) : (pSet1 n l).length = n.length := by unfold pSet1; split <;> simp
theorem pSet_len (n : List Bool) (p : List Int) : (pSet n p).length = n.length := by
  unfold pSet
  induction p generalizing n with
  | nil => rfl
  | cons l p ih => rw [List.foldl_cons, ih, pSet1_len]
theorem pSet_snoc (n : List Bool) (p q : List Int) : pSet n (p ++ q) = pSet (pSet n p) q := by unfold pSet; rw [List.foldl_append]
def pureX (xss : List (List Int)) (v : Nat) : Bool := decide (0 < cYs v xss) != decide (0 < cNs v xss)
theorem pSet_up (m : List Bool) (xss : List (List Int)) (hm : m.length ≤ 100000) : ∀ k, k ≤ m.length → ∀ i, (pSet m (pureUp xss k)).getD i false = if i < k ∧ pureX xss (i + 1) = true then decide (0 < cYs (i + 1) xss) else m.getD i false := by
  intro k
  induction k with
  | zero => intro _ i; rw [if_neg (by omega)]; rfl
  | succ k ih =>
    intro hk i
    have hl := pSet_len m (pureUp xss k)
    have ih2 := ih (by omega) i
    show (pSet m (pureUp xss k ++ pureAt xss (k + 1))).getD i false = _
    rw [pSet_snoc]
    generalize pSet m (pureUp xss k) = n at *
    by_cases hx : pureX xss (k + 1) = true
    · have hp : pureAt xss (k + 1) = [lmake ((k + 1 : Nat) : Int) (decide (0 < cYs (k + 1) xss))] := by unfold pureAt; exact if_pos hx
      rw [hp]
      have hmk : lmake ((k + 1 : Nat) : Int) (decide (0 < cYs (k + 1) xss)) = if 0 < cYs (k + 1) xss then ((k + 1 : Nat) : Int) else -((k + 1 : Nat) : Int) := by
        unfold lmake
        rw [if_neg (by omega)]
        by_cases h : 0 < cYs (k + 1) xss <;> simp [h]
      have hs : pSet n [lmake ((k + 1 : Nat) : Int) (decide (0 < cYs (k + 1) xss))] = n.set k (decide (0 < cYs (k + 1) xss)) := by
        show pSet1 n _ = _
        rw [hmk]
        unfold pSet1
        by_cases h : 0 < cYs (k + 1) xss
        · rw [if_pos h, if_pos (by omega), show (max ((k + 1 : Nat) : Int) (-((k + 1 : Nat) : Int))).toNat - 1 = k by omega, decide_eq_true h, decide_eq_true (by omega)]
        · rw [if_neg h, if_pos (by omega), show (max (-((k + 1 : Nat) : Int)) (- -((k + 1 : Nat) : Int))).toNat - 1 = k by omega, decide_eq_false h, decide_eq_false (by omega)]
      rw [hs]
      by_cases hik : i = k
      · subst hik
        rw [if_pos ⟨by omega, hx⟩]
        simp [List.getD, show i < n.length by omega]
      · rw [show (n.set k (decide (0 < cYs (k + 1) xss))).getD i false = n.getD i false by simp [List.getD, Ne.symm hik]]
        rw [ih2]
        by_cases hx2 : pureX xss (i + 1) = true
        · by_cases hlt : i < k
          · rw [if_pos ⟨hlt, hx2⟩, if_pos ⟨by omega, hx2⟩]
          · rw [if_neg (by omega), if_neg (by omega)]
        · rw [if_neg (fun h => hx2 h.2), if_neg (fun h => hx2 h.2)]
    · have hp : pureAt xss (k + 1) = [] := by unfold pureAt; exact if_neg hx
      rw [hp]
      show n.getD i false = _
      rw [ih2]
      by_cases hik : i = k
      · subst hik
        rw [if_neg (by omega), if_neg (fun h => hx h.2)]
      · by_cases hx2 : pureX xss (i + 1) = true
        · by_cases hlt : i < k
          · rw [if_pos ⟨hlt, hx2⟩, if_pos ⟨by omega, hx2⟩]
          · rw [if_neg (by omega), if_neg (by omega)]
        · rw [if_neg (fun h => hx2 h.2), if_neg (fun h => hx2 h.2)]
theorem sum_pos {α : Type} {f : α → Nat} {xs : List α} {x : α} (hx : x ∈ xs) (h : 0 < f x) : 0 < (xs.map f).sum := by
  induction xs with
  | nil => cases hx
  | cons y ys ih =>
    simp only [List.map_cons, List.sum_cons]
    rcases List.mem_cons.1 hx with rfl | h2
    · omega
    · have := ih h2; omega
theorem cYs_pos {xss : List (List Int)} {c : List Int} {x : Int} {v : Nat} (hc : c ∈ xss) (hx : x ∈ c) (hv : lvar x = (v : Int)) (h : 0 < x) : 0 < cYs v xss := by
  refine sum_pos hc (sum_pos hx ?_)
  rw [if_pos hv]
  unfold pos1; rw [if_pos h]; decide
theorem cNs_pos {xss : List (List Int)} {c : List Int} {x : Int} {v : Nat} (hc : c ∈ xss) (hx : x ∈ c) (hv : lvar x = (v : Int)) (h : ¬ 0 < x) : 0 < cNs v xss := by
  refine sum_pos hc (sum_pos hx ?_)
  rw [if_pos hv]
  unfold neg1; rw [if_neg h]; decide
/-- Each pure literal may be made true. -/
theorem pure_holds {m : List Bool} {xss : List (List Int)} (hm : m.length ≤ 100000) (h : fFirst m xss = -1) : fFirst (pSet m (pureUp xss m.length)) xss = -1 := by
  rw [fFirst_iff] at h ⊢
  intro c hc
  have h1 := h c hc
  unfold holdsC at h1 ⊢
  obtain ⟨x, hx, ht⟩ := List.any_eq_true.1 h1
  refine List.any_eq_true.2 ⟨x, hx, ?_⟩
  have hb := lvar_bd x
  unfold litT at ht ⊢
  rw [pSet_len]
  simp only [Bool.and_eq_true, decide_eq_true_eq] at ht
  obtain ⟨h0, h2⟩ := ht
  rw [decide_eq_true h0, Bool.true_and]
  by_cases hle : lvar x ≤ m.length
  · obtain ⟨i, hi⟩ : ∃ i : Nat, lvar x = ((i + 1 : Nat) : Int) := ⟨(lvar x).toNat - 1, by omega⟩
    have e1 : (lvar x).toNat - 1 = i := by omega
    rw [e1] at h2 ⊢
    rw [decide_eq_true hle, Bool.true_and] at h2 ⊢
    rw [pSet_up m xss hm m.length (Nat.le_refl _) i]
    by_cases hp : pureX xss (i + 1) = true
    · rw [if_pos ⟨by omega, hp⟩]
      unfold pureX at hp
      by_cases hs : 0 < x
      · have h3 := cYs_pos hc hx hi hs
        rw [decide_eq_true h3]
        unfold lside; rw [decide_eq_true ⟨h0, hs⟩]; rfl
      · have h3 := cNs_pos hc hx hi hs
        rw [decide_eq_true h3] at hp
        have h4 : decide (0 < cYs (i + 1) xss) = false := by
          cases h5 : decide (0 < cYs (i + 1) xss)
          · rfl
          · rw [h5] at hp; cases hp
        rw [h4]
        unfold lside; rw [decide_eq_false (fun h => hs h.2)]; rfl
    · rw [if_neg (fun h => hp h.2)]
      exact h2
  · rw [decide_eq_false hle] at h2 ⊢
    exact h2
end Go.Proofs.Ytdladbfjgkejiaa
namespace Go.Proofs.Ytdladbfjgkejiaa
open Go.RowKit
set_option linter.unusedVariables false
set_option linter.unusedSimpArgs false

def twoL : List (List Int) := [[1, 2], [-1, 2]]
theorem two_made (w : World) (o : Obj) :
    Rows2 ((((w.alloc o).alloc (.cells #[.int .i64 1, .int .i64 2] 3)).alloc (.cells #[.int .i64 (-1), .int .i64 2] 3)).alloc (.cells #[.slice (some ⟨w.heap.size + 1, 0, none⟩) 2 2, .slice (some ⟨w.heap.size + 1 + 1, 0, none⟩) 2 2] 26)) (some ⟨w.heap.size + 1 + 1 + 1, 0, none⟩) 2 twoL := by
  have z1 : (w.alloc o).heap.size = w.heap.size + 1 := by simp
  generalize w.alloc o = w1 at *
  have r1 := IntRow.made w1 3 [1, 2] (by simp [maxLen])
  have z2 : (w1.alloc (.cells #[.int .i64 1, .int .i64 2] 3)).heap.size = w.heap.size + 1 + 1 := by simp [z1]
  rw [z1] at r1
  change IntRow (w1.alloc (.cells #[.int .i64 1, .int .i64 2] 3)) _ _ _ at r1
  generalize w1.alloc (.cells #[.int .i64 1, .int .i64 2] 3) = w2 at *
  have r2 := IntRow.made w2 3 [-1, 2] (by simp [maxLen])
  have z3 : (w2.alloc (.cells #[.int .i64 (-1), .int .i64 2] 3)).heap.size = w.heap.size + 1 + 1 + 1 := by simp [z2]
  rw [z2] at r2
  have r1b := r1.later (below_alloc (Below.refl _ _) (.cells #[.int .i64 (-1), .int .i64 2] 3))
  change IntRow (w2.alloc (.cells #[.int .i64 (-1), .int .i64 2] 3)) _ _ _ at r2
  generalize w2.alloc (.cells #[.int .i64 (-1), .int .i64 2] 3) = w3 at *
  have hb := Blk.made w3 #[.slice (some ⟨w.heap.size + 1, 0, none⟩) 2 2, .slice (some ⟨w.heap.size + 1 + 1, 0, none⟩) 2 2] 26
  rw [z3] at hb
  refine ⟨rfl, by simp [maxLen], fun i hi => ?_⟩
  have hi2 : i = 0 ∨ i = 1 := by omega
  rcases hi2 with rfl | rfl
  · exact ⟨_, 0, _, rfl, by rw [hb.cell (0 + 0)]; rfl, ⟨_, _, _, rfl, Nat.le_refl _, by simp [maxLen], r1b.later (below_alloc (Below.refl _ _) _)⟩⟩
  · exact ⟨_, 0, _, rfl, by rw [hb.cell (0 + 1)]; rfl, ⟨_, _, _, rfl, Nat.le_refl _, by simp [maxLen], r2.later (below_alloc (Below.refl _ _) _)⟩⟩
set_option maxRecDepth 100000 in
theorem law_two (w : World) : Calls Try.prog 18 #[] w fun e w' => ∃ a, e = .returned (.agg #[.int .i64 2, .slice a 2 2]) ∧ Rows2 w' a 2 twoL ∧ Below w.heap.size w w' := by
  have hR := Blk.made w #[.int .i64 0, .slice none 0 0] 24
  have hb0 : Below w.heap.size w (w.alloc (.cells #[.int .i64 0, .slice none 0 0] 24)) := below_alloc (Below.refl _ _) _
  have hz0 : (w.alloc (.cells #[.int .i64 0, .slice none 0 0] 24)).heap.size = w.heap.size + 1 := by simp
  have c0 := hR.cell 0; have c1 := hR.cell 1; have f0 := hR.free 0; have f1 := hR.free 1
  simp only [List.getElem?_toArray, List.getElem?_cons_zero, List.getElem?_cons_succ] at c0 c1
  go_enter Try.func18, Try.ntmps18
  go_wp2_with fail
  refine bodyPost_ret (v := .agg #[.int .i64 2, .slice (some ⟨w.heap.size + 1 + 1 + 1, 0, none⟩) 2 2]) (by simp [results, Try.results18, go_sem]) rfl ⟨_, rfl, two_made w _, ?_⟩
  exact below_alloc (below_alloc (below_alloc (below_alloc (Below.refl _ _) _) _) _) _
end Go.Proofs.Ytdladbfjgkejiaa
