import Derived.Test.YtdladbfjgkejiaaMgAT
import Derived.Test.YtdladbfjgkejiaaMgAW
import Derived.Test.YtdladbfjgkejiaaMgAU
namespace Go.Proofs.Ytdladbfjgkejiaa
open Go.RowKit
set_option linter.unusedVariables false
set_option linter.unusedSimpArgs false

theorem own_setB {w : World} {B : Nat} {e t : TypeId} {k n : Nat} {v : Value} {xs : List Value} {b : Nat} {vs : Array Value} (h : w.ownsRow B e k v n xs) (hb : Blk w b vs t) (ht : t ≠ e) (i : Nat) (u : Value) : (w.setCell ⟨b, i, none⟩ u).ownsRow B e k v n xs := by
  obtain ⟨h1, h2⟩ := h
  refine ⟨h1, ?_⟩
  rcases h2 with h2 | ⟨g, cap, cur, hv, hg, hh, r⟩
  · exact Or.inl h2
  · refine Or.inr ⟨g, cap, cur, hv, hg, ?_, r⟩
    refine (Below.heap_setCell w ⟨b, i, none⟩ u g (fun e' => ?_)).trans hh
    have e2 : g = b := e'
    subst e2
    have h3 : w.heap[g]? = some (.cells vs t (0, 0)) := hb
    rw [hh] at h3
    simp only [Option.some.injEq, Obj.cells.injEq] at h3
    exact ht h3.2.1.symm
theorem rowOf_setB {w : World} {C : Nat} {v : Value} {xs : List Int} {b : Nat} {vs : Array Value} {t : TypeId} (h : RowOf w C v xs) (hb : Blk w b vs t) (ht : t ≠ 3) (hC : C ≤ b) (i : Nat) (u : Value) : RowOf (w.setCell ⟨b, i, none⟩ u) C v xs := by
  obtain ⟨a, len, cap, hv, h1, h2, hn, h3, h4⟩ := h
  refine ⟨a, len, cap, hv, h1, h2, hn, h3, fun hp => ?_⟩
  obtain ⟨b', off, cs, t', fr, ha, hh, ht', hc⟩ := h4 hp
  refine ⟨b', off, cs, t', fr, ha, (Below.heap_setCell w ⟨b, i, none⟩ u b' (fun e' => ?_)).trans hh, ht', hc⟩
  have e2 : b' = b := e'
  subst e2
  have h5 : w.heap[b']? = some (.cells vs t (0, 0)) := hb
  rw [hh] at h5
  simp only [Option.some.injEq, Obj.cells.injEq] at h5
  rcases ht' with ht' | ht'
  · exact ht (h5.2.1.symm.trans ht')
  · omega
theorem OwnRows.setB {w : World} {B C : Nat} {v : Value} {xss : List (List Int)} {b : Nat} {vs : Array Value} {t : TypeId} (h : OwnRows w B C v xss) (hb : Blk w b vs t) (ht : t ≠ 3) (ht2 : t ≠ 26) (hC : C ≤ b) (i : Nat) (u : Value) : OwnRows (w.setCell ⟨b, i, none⟩ u) B C v xss := by
  obtain ⟨us, h1, h2, h3⟩ := h
  exact ⟨us, h1, own_setB h2 hb ht2 i u, fun i' u' hi => rowOf_setB (h3 i' u' hi) hb ht hC i u⟩
theorem size_madeCells1 (z : Value) (n : Nat) : (madeCells #[z] n).size = n := by unfold madeCells; simp
/-- A formula that is being made: F its block. -/
def WithAt (w wr : World) (F : Nat) (vars : Int) (yss : List (List Int)) : Prop := ∃ v, Blk wr F #[.int .i64 vars, v] 24 ∧ OwnRows wr w.heap.size w.heap.size v yss ∧ w.heap.size ≤ F ∧ Below w.heap.size w wr
theorem with_start {w wk : World} {F G n : Nat} {vars : Int} (hF : Blk wk F #[.int .i64 0, .slice none 0 0] 24) (hG : Blk wk G (madeCells #[.slice none 0 0] n) 26) (hFB : w.heap.size ≤ F) (hGB : w.heap.size ≤ G) (hb : Below w.heap.size w wk) (hn : n ≤ 2000000) :
    WithAt w ((wk.setCell ⟨F, 0, none⟩ (.int .i64 vars)).setCell ⟨F, 1, none⟩ (.slice (some ⟨G, 0, none⟩) 0 n)) F vars [] := by
  have hF1 := hF.set 0 (.int .i64 vars)
  have hF2 := hF1.set 1 (.slice (some ⟨G, 0, none⟩) 0 n)
  have how : wk.ownsRow w.heap.size 26 1 (.slice (some ⟨G, 0, none⟩) 0 n) 0 [] := ⟨rfl, Or.inr ⟨G, n, _, rfl, hGB, hG, Nat.zero_le _, by unfold maxLen; omega, by rw [size_madeCells1, Nat.mul_one], by simp⟩⟩
  refine ⟨_, by simpa using hF2, ⟨[], rfl, own_setB (own_setB how hF (by decide) 0 _) hF1 (by decide) 1 _, fun i u hi => by simp at hi⟩, hFB, below_set (below_set hb hFB 0 _) hFB 1 _⟩
theorem with_push {w wr w2 w4 : World} {F N : Nat} {vars : Int} {v v' u : Value} {yss : List (List Int)} {vs : List Value} {xs : List Int} (hF : Blk wr F #[.int .i64 vars, v] 24) (hFB : w.heap.size ≤ F) (hN : yss.length = N) (hb : Below w.heap.size w wr)
    (h1 : vs.length = N) (h2 : wr.ownsRow w.heap.size 26 1 v N vs) (h3 : ∀ i u, vs[i]? = some u → RowOf wr w.heap.size u (yss.getD i [])) (hb2 : Below wr.heap.size wr w2) (hu : RowOf w2 w.heap.size u xs) (o : Obj)
    (hown : w4.ownsRow w.heap.size 26 1 v' (N + 1) (vs ++ [u])) (hg : (w2.alloc o).grownBy w4 v.ownBlock) : WithAt w (w4.setCell ⟨F, 1, none⟩ v') F vars (yss ++ [xs]) ∧ Blk w4 F #[.int .i64 vars, v] 24 ∧ Below w.heap.size w w4 := by
  have hbw2 := below_step hb hb2
  obtain ⟨k1, k2⟩ := OwnRows.pushv (Nat.le_refl _) hN hbw2 h1 (own_later h2 hb2) (fun i y hi => (h3 i y hi).later hb2) hu o hown hg
  have hF2 : Blk (w2.alloc o) F #[.int .i64 vars, v] 24 := (hF.later hb2).later (below_alloc (Below.refl _ _) o)
  have hF4 := hF2.grownT (by decide) (GrownT.of_own (own_later (own_later h2 hb2) (below_alloc (Below.refl _ _) o)) hg)
  refine ⟨⟨v', ?_, k1.setB hF4 (by decide) (by decide) hFB 1 v', hFB, below_set k2 hFB 1 v'⟩, hF4, k2⟩
  have := hF4.set 1 v'
  simpa using this
/-- The same, whatever world the append began in. -/
theorem with_push2 {w wr w3 w4 : World} {F N : Nat} {vars : Int} {v v' u : Value} {yss : List (List Int)} {vs : List Value} {xs : List Int} (hF : Blk wr F #[.int .i64 vars, v] 24) (hFB : w.heap.size ≤ F) (hN : yss.length = N) (hb : Below w.heap.size w wr)
    (h1 : vs.length = N) (h2 : wr.ownsRow w.heap.size 26 1 v N vs) (h3 : ∀ i u, vs[i]? = some u → RowOf wr w.heap.size u (yss.getD i [])) (hb3 : Below wr.heap.size wr w3) (hu : RowOf w3 w.heap.size u xs)
    (hown : w4.ownsRow w.heap.size 26 1 v' (N + 1) (vs ++ [u])) (hg : w3.grownBy w4 v.ownBlock) : WithAt w (w4.setCell ⟨F, 1, none⟩ v') F vars (yss ++ [xs]) ∧ Blk w4 F #[.int .i64 vars, v] 24 := by
  have ho3 := own_later h2 hb3
  have hF4 := (hF.later hb3).grownT (by decide) (GrownT.of_own ho3 hg)
  have k1 : OwnRows w4 w.heap.size w.heap.size v' (yss ++ [xs]) := OwnRows.app (w := w3) (us := [u]) (yss := [xs]) (Nat.le_refl _) (h1.trans hN.symm) (by rw [hN]; exact ho3) (fun i y hi => (h3 i y hi).later hb3) rfl (fun i y hi => by
    have h0 : i = 0 := by
      rcases Nat.eq_zero_or_pos i with h | h
      · exact h
      · rw [List.getElem?_eq_none (by simp; omega)] at hi; cases hi
    subst h0
    simp at hi; subst hi
    exact hu) (by rw [hN]; exact hown) hg
  have k2 : Below w.heap.size w w4 := own_bel (below_step hb hb3) ho3 hg
  refine ⟨⟨v', ?_, k1.setB hF4 (by decide) (by decide) hFB 1 v', hFB, below_set k2 hFB 1 v'⟩, hF4⟩
  have := hF4.set 1 v'
  simpa using this
theorem blk_grown3 {w3 w4 : World} {B b n : Nat} {v : Value} {vs : List Value} {cs : Array Value} {t : TypeId} (h : Blk w3 b cs t) (ht : t ≠ 26) (ho : w3.ownsRow B 26 1 v n vs) (hg : w3.grownBy w4 v.ownBlock) : Blk w4 b cs t := h.grownT ht (GrownT.of_own ho hg)
end Go.Proofs.Ytdladbfjgkejiaa
namespace Go.Proofs.Ytdladbfjgkejiaa
open Go.RowKit
set_option linter.unusedVariables false
set_option linter.unusedSimpArgs false

def withVars (vars : Int) (more : List (List Int)) : Int := max vars (more.foldl (fun m c => max m (lmost c)) 0)
def WithPost (vars : Int) (yss : List (List Int)) (w : World) (e : Ending) (w' : World) : Prop := ∃ a cap, e = .returned (.agg #[.int .i64 vars, .slice a yss.length cap]) ∧ Rows2 w' a yss.length yss ∧ Below w.heap.size w w'
theorem with_end {w wr : World} {F : Nat} {vars : Int} {v : Value} {yss : List (List Int)} (hF : Blk wr F #[.int .i64 vars, v] 24) (hor : OwnRows wr w.heap.size w.heap.size v yss) (hFB : w.heap.size + 2 ≤ F) (hb : Below w.heap.size w wr) (hR : Blk wr (w.heap.size + 1) #[.int .i64 0, .slice none 0 0] 24) (X : Int) :
    (wr.setCell ⟨F, 0, none⟩ (.int .i64 X)).cell? ⟨F, 0, none⟩ = some (.int .i64 X) ∧ (wr.setCell ⟨F, 0, none⟩ (.int .i64 X)).cell? ⟨F, 1, none⟩ = some v ∧
    (wr.setCell ⟨F, 0, none⟩ (.int .i64 X)).cell? ⟨w.heap.size + 1, 0, none⟩ = some (.int .i64 0) ∧ ((wr.setCell ⟨F, 0, none⟩ (.int .i64 X)).setCell ⟨w.heap.size + 1, 0, none⟩ (.int .i64 X)).cell? ⟨w.heap.size + 1, 1, none⟩ = some (.slice none 0 0) ∧
    (wr.setCell ⟨F, 0, none⟩ (.int .i64 X)).frozen? ⟨w.heap.size + 1, 0, none⟩ = false ∧ ((wr.setCell ⟨F, 0, none⟩ (.int .i64 X)).setCell ⟨w.heap.size + 1, 0, none⟩ (.int .i64 X)).frozen? ⟨w.heap.size + 1, 1, none⟩ = false ∧
    (((wr.setCell ⟨F, 0, none⟩ (.int .i64 X)).setCell ⟨w.heap.size + 1, 0, none⟩ (.int .i64 X)).setCell ⟨w.heap.size + 1, 1, none⟩ v).cell? ⟨w.heap.size + 1, 0, none⟩ = some (.int .i64 X) ∧
    (((wr.setCell ⟨F, 0, none⟩ (.int .i64 X)).setCell ⟨w.heap.size + 1, 0, none⟩ (.int .i64 X)).setCell ⟨w.heap.size + 1, 1, none⟩ v).cell? ⟨w.heap.size + 1, 1, none⟩ = some v ∧
    WithPost X yss w (.returned (.agg #[.int .i64 X, v])) (((wr.setCell ⟨F, 0, none⟩ (.int .i64 X)).setCell ⟨w.heap.size + 1, 0, none⟩ (.int .i64 X)).setCell ⟨w.heap.size + 1, 1, none⟩ v) := by
  have a1 := hF.set 0 (.int .i64 X)
  have b1 := hR.other (a := ⟨F, 0, none⟩) (by show F ≠ w.heap.size + 1; omega) (.int .i64 X)
  have b2 := b1.set 0 (.int .i64 X)
  have b3 := b2.set 1 v
  have o1 := hor.setB hF (by decide) (by decide) (by omega) 0 (.int .i64 X)
  have o2 := o1.setB b1 (by decide) (by decide) (by omega) 0 (.int .i64 X)
  have o3 := o2.setB b2 (by decide) (by decide) (by omega) 1 v
  have d1 := below_set (below_set (below_set hb (by omega : w.heap.size ≤ F) 0 (.int .i64 X)) (by omega : w.heap.size ≤ w.heap.size + 1) 0 (.int .i64 X)) (by omega : w.heap.size ≤ w.heap.size + 1) 1 v
  refine ⟨?_, ?_, ?_, ?_, b1.free 0, b2.free 1, ?_, ?_, ?_⟩
  · rw [a1.cell 0]; rfl
  · rw [a1.cell 1]; rfl
  · rw [b1.cell 0]; rfl
  · rw [b2.cell 1]; rfl
  · rw [b3.cell 0]; rfl
  · rw [b3.cell 1]; rfl
  · obtain ⟨a, len, cap, hv, _, _, hr⟩ := o3.rows
    have hl := hr.1
    refine ⟨a, cap, ?_, ?_, d1⟩
    · rw [hv, hl]
    · rw [hl]; exact hr
end Go.Proofs.Ytdladbfjgkejiaa
