/- The contract of states' gather of numbers: any function value that answers. -/
import Derived.Test.YthfcbjfeepindaaLaw32c
namespace Go.Proofs.Ythfcbjfeepindaa
open Go.RowKit
set_option linter.unusedVariables false
set_option linter.unusedSimpArgs false

def GatPost (g : Nat → Int × Bool) (n : Nat) (w : World) (e : Ending) (w' : World) : Prop :=
  ((∀ i, i < n → (g i).2 = true) ∧ ∃ v, e = .returned (.tuple #[v, .bool true]) ∧ OwnInts w' w.heap.size v ((List.range n).map fun i => (g i).1) ∧ Below w.heap.size w w') ∨ ((∃ i, i < n ∧ (g i).2 = false) ∧ e = .returned (.tuple #[.slice none 0 0, .bool false]) ∧ Below w.heap.size w w')
def GatAt (g : Nat → Int × Bool) (k : Nat) (w wr : World) (v : Value) : Prop := (∀ i, i < k → (g i).2 = true) ∧ OwnInts wr w.heap.size v ((List.range k).map fun i => (g i).1) ∧ Below w.heap.size w wr

set_option maxHeartbeats 1000000 in
theorem sta_gather_at (cap : Array Value) (n : Nat) (g : Nat → Int × Bool) (w : World) (hn : n ≤ 100)
    (hcall : ∀ i wr, i < n → Below w.heap.size w wr → Calls Try.prog 112 (#[.int .i64 i] ++ cap) wr fun e w' => e = .returned (.tuple #[.int .i64 (g i).1, .bool (g i).2]) ∧ Below wr.heap.size wr w') :
    Calls Try.prog 89 #[.int .i64 n, .func (.func 112) #[] cap] w (GatPost g n w) := by
  have HCALL := Lib.hid hcall; clear hcall
  go_enter Try.func89, Try.ntmps89
  go_wp2_with fail
  go_loopw [6, 7, 8, 9, 11] (fun v a b c i wr => ∃ k : Nat, k ≤ n ∧ i = .int .i64 k ∧ GatAt g k w wr v) (fun _ _ _ _ i _ => n - (intOf i).toNat)
  case atStart => exact ⟨0, Nat.zero_le _, rfl, fun i hi => by omega, OwnInts.nil _ _, Below.refl _ _⟩
  case round =>
    obtain ⟨k, hkn, rfl, hat⟩ := hrel
    have HAT := Lib.hid hat; clear hat
    by_cases hlt : k < n
    · go_wp2_with fail
      refine (HCALL.out k _ hlt HAT.out.2.2).mono ?_
      rintro e w2 ⟨rfl, hb2⟩
      have hbo : Below w.heap.size w w2 := by
        have h0 := HAT.out.2.2
        (repeat (first | (with_reducible exact Below.refl _ _) | (with_reducible assumption) | (with_reducible refine below_alloc ?_ _) | (with_reducible refine below_drew ?_) | (with_reducible refine below_drewN ?_ _) | (with_reducible refine below_step ?_ (by with_reducible assumption))))
      cases hg : (g k).2
      · have HG := Lib.hid hg; clear hg
        go_wp2_with fail
        go_ret2
        exact Or.inr ⟨⟨k, hlt, HG.out⟩, rfl, hbo⟩
      · have HG := Lib.hid hg; clear hg
        have hl := HAT.out.2.1.later hb2
        have HLN := Lib.hid (show ((List.range k).map fun i => (g i).1).length = k by simp)
        generalize hxs : ((List.range k).map fun i => (g i).1) = xs at *
        unfold OwnInts at hl
        rw [HLN.out] at hl
        have hsz := hbo.size
        go_wp2_with (at_builtin; refine wpList_app rfl _ _ 41 rfl w.heap.size 3 (.int .i64 0) 1 8 Try.underlying41 info_int rfl (by decide) _ _ _ rfl (hl.alloc _) (some ⟨w2.heap.size, 0, none⟩) 1 1 [.int .i64 (g k).1] rfl ?c0 rfl ?c1 ?c2 ?c3 ?c4 ?c5 ?_)
        case c0 => exact fun h => by cases h
        case c1 => exact CellRow.made w2 _ _
        case c2 => intro u hu; simp at hu; subst hu; rfl
        case c3 => unfold maxLen; omega
        case c4 => omega
        case c5 => simp; omega
        intro v' w1 hown1 hgr
        obtain ⟨hnew, hbw⟩ := OwnInts.push HLN.out hbo hl _ hown1 hgr
        have hall : ∀ i, i < k + 1 → (g i).2 = true := by
          intro i hi
          rcases Nat.lt_or_ge i k with h | h
          · exact HAT.out.1 i h
          · obtain rfl : i = k := by omega
            exact HG.out
        have hnew2 : OwnInts w1 w.heap.size v' ((List.range (k + 1)).map fun i => (g i).1) := by
          rw [List.range_succ, List.map_append, hxs]; exact hnew
        have HN2 := Lib.hid (show GatAt g (k + 1) w w1 v' from ⟨hall, hnew2, hbw⟩)
        clear hall hnew hnew2 hown1 hgr hl
        go_wp2_with fail
        go_roundw
        case rel => exact ⟨k + 1, by omega, by go_num, HN2.out⟩
        case measure => simp [intOf]; omega
    · have hkc : k = n := by omega
      subst hkc
      go_wp2_with fail
      go_ret2
      exact Or.inl ⟨HAT.out.1, _, rfl, HAT.out.2.1, HAT.out.2.2⟩
set_option maxHeartbeats 1000000 in
theorem sta_gather_row (cap : Array Value) (n : Nat) (g : Nat → Int × Bool) (w : World) (hn : n ≤ 100)
    (hcall : ∀ i wr, i < n → Below w.heap.size w wr → Calls Try.prog 90 (#[.int .i64 i] ++ cap) wr fun e w' => e = .returned (.tuple #[.int .i64 (g i).1, .bool (g i).2]) ∧ Below wr.heap.size wr w') :
    Calls Try.prog 89 #[.int .i64 n, .func (.func 90) #[] cap] w (GatPost g n w) := by
  have HCALL := Lib.hid hcall; clear hcall
  go_enter Try.func89, Try.ntmps89
  go_wp2_with fail
  go_loopw [6, 7, 8, 9, 11] (fun v a b c i wr => ∃ k : Nat, k ≤ n ∧ i = .int .i64 k ∧ GatAt g k w wr v) (fun _ _ _ _ i _ => n - (intOf i).toNat)
  case atStart => exact ⟨0, Nat.zero_le _, rfl, fun i hi => by omega, OwnInts.nil _ _, Below.refl _ _⟩
  case round =>
    obtain ⟨k, hkn, rfl, hat⟩ := hrel
    have HAT := Lib.hid hat; clear hat
    by_cases hlt : k < n
    · go_wp2_with fail
      refine (HCALL.out k _ hlt HAT.out.2.2).mono ?_
      rintro e w2 ⟨rfl, hb2⟩
      have hbo : Below w.heap.size w w2 := by
        have h0 := HAT.out.2.2
        (repeat (first | (with_reducible exact Below.refl _ _) | (with_reducible assumption) | (with_reducible refine below_alloc ?_ _) | (with_reducible refine below_drew ?_) | (with_reducible refine below_drewN ?_ _) | (with_reducible refine below_step ?_ (by with_reducible assumption))))
      cases hg : (g k).2
      · have HG := Lib.hid hg; clear hg
        go_wp2_with fail
        go_ret2
        exact Or.inr ⟨⟨k, hlt, HG.out⟩, rfl, hbo⟩
      · have HG := Lib.hid hg; clear hg
        have hl := HAT.out.2.1.later hb2
        have HLN := Lib.hid (show ((List.range k).map fun i => (g i).1).length = k by simp)
        generalize hxs : ((List.range k).map fun i => (g i).1) = xs at *
        unfold OwnInts at hl
        rw [HLN.out] at hl
        have hsz := hbo.size
        go_wp2_with (at_builtin; refine wpList_app rfl _ _ 41 rfl w.heap.size 3 (.int .i64 0) 1 8 Try.underlying41 info_int rfl (by decide) _ _ _ rfl (hl.alloc _) (some ⟨w2.heap.size, 0, none⟩) 1 1 [.int .i64 (g k).1] rfl ?c0 rfl ?c1 ?c2 ?c3 ?c4 ?c5 ?_)
        case c0 => exact fun h => by cases h
        case c1 => exact CellRow.made w2 _ _
        case c2 => intro u hu; simp at hu; subst hu; rfl
        case c3 => unfold maxLen; omega
        case c4 => omega
        case c5 => simp; omega
        intro v' w1 hown1 hgr
        obtain ⟨hnew, hbw⟩ := OwnInts.push HLN.out hbo hl _ hown1 hgr
        have hall : ∀ i, i < k + 1 → (g i).2 = true := by
          intro i hi
          rcases Nat.lt_or_ge i k with h | h
          · exact HAT.out.1 i h
          · obtain rfl : i = k := by omega
            exact HG.out
        have hnew2 : OwnInts w1 w.heap.size v' ((List.range (k + 1)).map fun i => (g i).1) := by
          rw [List.range_succ, List.map_append, hxs]; exact hnew
        have HN2 := Lib.hid (show GatAt g (k + 1) w w1 v' from ⟨hall, hnew2, hbw⟩)
        clear hall hnew hnew2 hown1 hgr hl
        go_wp2_with fail
        go_roundw
        case rel => exact ⟨k + 1, by omega, by go_num, HN2.out⟩
        case measure => simp [intOf]; omega
    · have hkc : k = n := by omega
      subst hkc
      go_wp2_with fail
      go_ret2
      exact Or.inl ⟨HAT.out.1, _, rfl, HAT.out.2.1, HAT.out.2.2⟩
set_option maxHeartbeats 1000000 in
theorem sta_gather_tru (cap : Array Value) (n : Nat) (g : Nat → Int × Bool) (w : World) (hn : n ≤ 100)
    (hcall : ∀ i wr, i < n → Below w.heap.size w wr → Calls Try.prog 93 (#[.int .i64 i] ++ cap) wr fun e w' => e = .returned (.tuple #[.int .i64 (g i).1, .bool (g i).2]) ∧ Below wr.heap.size wr w') :
    Calls Try.prog 89 #[.int .i64 n, .func (.func 93) #[] cap] w (GatPost g n w) := by
  have HCALL := Lib.hid hcall; clear hcall
  go_enter Try.func89, Try.ntmps89
  go_wp2_with fail
  go_loopw [6, 7, 8, 9, 11] (fun v a b c i wr => ∃ k : Nat, k ≤ n ∧ i = .int .i64 k ∧ GatAt g k w wr v) (fun _ _ _ _ i _ => n - (intOf i).toNat)
  case atStart => exact ⟨0, Nat.zero_le _, rfl, fun i hi => by omega, OwnInts.nil _ _, Below.refl _ _⟩
  case round =>
    obtain ⟨k, hkn, rfl, hat⟩ := hrel
    have HAT := Lib.hid hat; clear hat
    by_cases hlt : k < n
    · go_wp2_with fail
      refine (HCALL.out k _ hlt HAT.out.2.2).mono ?_
      rintro e w2 ⟨rfl, hb2⟩
      have hbo : Below w.heap.size w w2 := by
        have h0 := HAT.out.2.2
        (repeat (first | (with_reducible exact Below.refl _ _) | (with_reducible assumption) | (with_reducible refine below_alloc ?_ _) | (with_reducible refine below_drew ?_) | (with_reducible refine below_drewN ?_ _) | (with_reducible refine below_step ?_ (by with_reducible assumption))))
      cases hg : (g k).2
      · have HG := Lib.hid hg; clear hg
        go_wp2_with fail
        go_ret2
        exact Or.inr ⟨⟨k, hlt, HG.out⟩, rfl, hbo⟩
      · have HG := Lib.hid hg; clear hg
        have hl := HAT.out.2.1.later hb2
        have HLN := Lib.hid (show ((List.range k).map fun i => (g i).1).length = k by simp)
        generalize hxs : ((List.range k).map fun i => (g i).1) = xs at *
        unfold OwnInts at hl
        rw [HLN.out] at hl
        have hsz := hbo.size
        go_wp2_with (at_builtin; refine wpList_app rfl _ _ 41 rfl w.heap.size 3 (.int .i64 0) 1 8 Try.underlying41 info_int rfl (by decide) _ _ _ rfl (hl.alloc _) (some ⟨w2.heap.size, 0, none⟩) 1 1 [.int .i64 (g k).1] rfl ?c0 rfl ?c1 ?c2 ?c3 ?c4 ?c5 ?_)
        case c0 => exact fun h => by cases h
        case c1 => exact CellRow.made w2 _ _
        case c2 => intro u hu; simp at hu; subst hu; rfl
        case c3 => unfold maxLen; omega
        case c4 => omega
        case c5 => simp; omega
        intro v' w1 hown1 hgr
        obtain ⟨hnew, hbw⟩ := OwnInts.push HLN.out hbo hl _ hown1 hgr
        have hall : ∀ i, i < k + 1 → (g i).2 = true := by
          intro i hi
          rcases Nat.lt_or_ge i k with h | h
          · exact HAT.out.1 i h
          · obtain rfl : i = k := by omega
            exact HG.out
        have hnew2 : OwnInts w1 w.heap.size v' ((List.range (k + 1)).map fun i => (g i).1) := by
          rw [List.range_succ, List.map_append, hxs]; exact hnew
        have HN2 := Lib.hid (show GatAt g (k + 1) w w1 v' from ⟨hall, hnew2, hbw⟩)
        clear hall hnew hnew2 hown1 hgr hl
        go_wp2_with fail
        go_roundw
        case rel => exact ⟨k + 1, by omega, by go_num, HN2.out⟩
        case measure => simp [intOf]; omega
    · have hkc : k = n := by omega
      subst hkc
      go_wp2_with fail
      go_ret2
      exact Or.inl ⟨HAT.out.1, _, rfl, HAT.out.2.1, HAT.out.2.2⟩
end Go.Proofs.Ythfcbjfeepindaa
