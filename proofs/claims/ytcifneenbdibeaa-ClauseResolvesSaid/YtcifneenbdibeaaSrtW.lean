/- The contracts of slices.SortFunc, by a number told of each, and of slices.Compact, at a list of the caller's own. -/
import Derived.Test.YtcifneenbdibeaaSrt
import Derived.Test.YtcifneenbdibeaaBlk
namespace Go.Proofs.Ytcifneenbdibeaa
open Go.RowKit Go.Shelf Go.Lib Go.Sort
set_option linter.unusedVariables false

/-- The list v is turned into another order: the one that f rises in. -/
def SortPost (f : Int → Int) (B : Nat) (v : Value) (xs : List Int) (w : World) (e : Ending) (w' : World) : Prop :=
  ∃ d : Array Int, e = .returned (.tuple #[]) ∧ PermIn 0 xs.toArray.size xs.toArray d ∧ SortedIn (ltOf fun x y => Lib.compareInt (f x) (f y)) 0 xs.toArray.size d ∧
    w'.ownsRow B 3 1 v xs.length (d.toList.map (Value.int .i64)) ∧ w.heap.size ≤ w'.heap.size ∧ ∀ W : World, Below W.heap.size W w → W.heap.size ≤ B → Below W.heap.size W w'
theorem srt_sort (N : Nat) (cb : Array Value) (f : Int → Int) {B : Nat} {v : Value} {xs : List Int} (w : World) (hown : OwnInts w B v xs) (hB : B ≤ w.heap.size) (hlen : xs.length < 4611686018427387904)
    (eg : ∀ args w, (callFunc N args).run Try.prog w = .ok (.enter N args) w)
    (hcmp : ∀ (x y : Int) (W : World), w.heap.size ≤ W.heap.size → (∀ k, k < B → W.heap[k]? = w.heap[k]?) → Calls Try.prog N (#[.int .i64 x, .int .i64 y] ++ cb) W fun e w' => e = .returned (.int .i64 (Lib.compareInt (f x) (f y))) ∧ ∃ q, w' = W.drewN q) :
    Calls Try.prog 36 #[v, .func (.func N) #[] cb] w (SortPost f B v xs w) := by
  rcases own_form hown with ⟨hv, hn⟩ | ⟨g, cap, hv, hg, h1, h2, h3⟩
  · obtain rfl : xs = [] := List.length_eq_zero_iff.1 hn
    subst hv
    refine (AnyF.slices_SortFunc_none { sortF with } none 0 (.func (.func N) #[] cb) w).mono ?_
    rintro e w' ⟨rfl, rfl⟩
    exact ⟨#[], rfl, ⟨rfl, fun _ _ => rfl, by simp⟩, fun i j _ _ hj => by simp at hj, hown, Nat.le_refl _, fun W h _ => h⟩
  · unfold OwnInts at hown
    rw [hv] at hown
    obtain ⟨hH, hlt, hl⟩ := own_holds hown
    rw [hv]
    have hc : CmpLays1 Try.prog N cb (Value.int .i64) (fun x y => Lib.compareInt (f x) (f y)) g 0 xs.toArray.size w := CmpReads.lays (fun m os dk hdk x y => hcmp x y _ (size_put _ w g m dk os) (fun k hk => heap_put_ne _ (by omega) (by omega)))
    have h := Any.slices_SortFunc sortF (Value.int .i64) (fun _ => rfl) (fun x y => Lib.compareInt (f x) (f y)) (swo_key f) N cb g 0 cap xs.toArray w eg hc hH hlt (by simpa using hlen)
    refine (show Calls Try.prog _ #[.slice (some ⟨g, 0, none⟩) xs.length cap, _] w _ from h).mono ?_
    rintro e w' ⟨rfl, d, n, os, hp, hs, rfl⟩
    exact ⟨d, rfl, hp, hs, own_put hown (by simpa using hp.1), size_put _ w g n d os, fun W hW hWB => below_put _ hW hW.size (by omega)⟩

def CompPost (B : Nat) (zs : List Int) (w : World) (e : Ending) (w' : World) : Prop :=
  ∃ v, e = .returned v ∧ OwnInts w' B v zs ∧ w.heap.size ≤ w'.heap.size ∧ ∀ W : World, Below W.heap.size W w → W.heap.size ≤ B → Below W.heap.size W w'
theorem srt_compact {B n : Nat} {v : Value} {d : Array Int} (w : World) (hown : w.ownsRow B 3 1 v n (d.toList.map (Value.int .i64))) (hlen : n < 4611686018427387904) :
    Calls Try.prog 40 #[v] w (CompPost B (compactUpTo d d.size) w) := by
  have hd : d.size = n := by have := hown.1; simpa using this
  rcases own_form hown with ⟨rfl, hn⟩ | ⟨g, cap, rfl, hg, h1, h2, h3⟩
  · subst hn
    refine (Any.slices_Compact_int_empty compactL none 0 w).mono ?_
    rintro e w' ⟨rfl, rfl⟩
    have h0 : compactUpTo d d.size = [] := by rw [hd]; rfl
    rw [h0]
    exact ⟨_, rfl, OwnInts.nil _ _, Nat.le_refl _, fun W h _ => h⟩
  · obtain ⟨hH, hlt, hl⟩ := own_holds hown
    have h := Any.slices_Compact_int_arr compactL g 0 cap d w (by simpa using hH) (by omega) (by omega)
    rw [hd] at h
    refine (show Calls Try.prog _ #[.slice (some ⟨g, 0, none⟩) n cap] w _ from h).mono ?_
    rintro e w' ⟨rfl, q, rfl⟩
    rw [hd]
    have hle : (compactUpTo d n).length ≤ n := by
      unfold compactUpTo
      rw [List.length_map]
      exact Nat.le_trans (List.length_filter_le _ _) (by simp)
    generalize hZ : compactUpTo d n = Z at *
    have e1 : ∀ D : Array Int, putRow encI (Sort.ahead w q) g 0 D = sortWorld (Value.int .i64) w g 0 q D #[] := fun D => by unfold sortWorld; rw [grow_empty]
    rw [e1]
    have hp := own_put (m := q) (enc := Value.int .i64) (d := (Z ++ List.replicate (n - Z.length) 0).toArray) (os := #[]) hown (by simp <;> omega)
    have hk := own_cut hp hle
    refine ⟨_, rfl, ?_, size_put _ w g q _ #[], fun W hW hWB => below_put _ hW hW.size (by omega)⟩
    unfold OwnInts
    have e2 : List.take Z.length (List.map (Value.int .i64) (Z ++ List.replicate (n - Z.length) 0).toArray.toList) = Z.map (Value.int .i64) := by
      rw [← List.map_take]; simp
    rw [e2] at hk
    exact hk
theorem cmp_ints (x y : Int) (w : World) : Calls Try.prog 38 #[.int .i64 x, .int .i64 y] w fun e w' => e = .returned (.int .i64 (Lib.compareInt x y)) ∧ w' = w := Any.cmp_Compare_int compareL x y w
end Go.Proofs.Ytcifneenbdibeaa
