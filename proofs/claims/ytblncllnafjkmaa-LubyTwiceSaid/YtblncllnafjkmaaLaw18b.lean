/- Layer 18: LubyTwice. -/
import Derived.Test.YtblncllnafjkmaaLaw18
import Derived.Test.YtblncllnafjkmaaLubT
import Derived.Test.YtblncllnafjkmaaApp
namespace Go.Proofs.Ytblncllnafjkmaa
open Go.RowKit
set_option linter.unusedVariables false
set_option linter.unusedSimpArgs false
theorem one_int' (xs : List Int) : ∀ u ∈ xs.map (Value.int .i64), u.oneCell' = true := fun u h => one_int u xs h
set_option maxRecDepth 100000 in
set_option maxHeartbeats 4000000 in
theorem lubyTwice_walk (w : World) (k : Int) (wk : (Lit.int .i64 k).wf = true) : Calls Try.prog 4 #[.int .i64 k] w fun e w' => e = .returned (.bool true) ∧ Below w.heap.size w w' := by
  clear wk
  by_cases hg : k < 1 ∨ 11 < k
  · rcases hg with hg | hg
    · go_enter Try.func4, Try.ntmps4
      go_wp2_with (go_at_call 6; refine (law18_awake _).mono ?_; rintro e w' ⟨rfl, hbAw⟩)
      all_goals (go_returns; exact ⟨rfl, by (repeat (first | (with_reducible exact Below.refl _ _) | (with_reducible assumption) | (with_reducible refine below_alloc ?_ _) | (with_reducible refine below_drew ?_) | (with_reducible refine below_drewN ?_ _) | (with_reducible refine below_step ?_ (by with_reducible assumption))))⟩)
    · have d0 : decide (k < 1) = false := decide_eq_false (by omega)
      go_enter Try.func4, Try.ntmps4
      go_wp2_with (go_at_call 6; refine (law18_awake _).mono ?_; rintro e w' ⟨rfl, hbAw⟩)
      all_goals (go_returns; exact ⟨rfl, by (repeat (first | (with_reducible exact Below.refl _ _) | (with_reducible assumption) | (with_reducible refine below_alloc ?_ _) | (with_reducible refine below_drew ?_) | (with_reducible refine below_drewN ?_ _) | (with_reducible refine below_step ?_ (by with_reducible assumption))))⟩)
  · have b1 : 1 ≤ k := by omega
    have b2 : k ≤ 11 := by omega
    have d0 : decide (k < 1) = false := decide_eq_false (by omega)
    have d1 : decide (11 < k) = false := decide_eq_false (by omega)
    clear hg
    go_enter Try.func4, Try.ntmps4
    go_wp2_with fail
    obtain ⟨m, hm⟩ : ∃ m : Nat, k.toNat = m + 1 := ⟨k.toNat - 1, by omega⟩
    have hp := Nat.two_pow_pos m
    have hm10 : m ≤ 10 := by omega
    have e1 : 2 ^ (m + 1) = 2 * 2 ^ m := by rw [Nat.pow_succ]; omega
    have hb : 2 ^ m ≤ 2 ^ 10 := Nat.pow_le_pow_right (by decide) hm10
    obtain ⟨n, hn⟩ : ∃ n, n + 1 = 2 ^ (m + 1) := ⟨2 ^ (m + 1) - 1, by omega⟩
    obtain ⟨t1, t2, t3⟩ := lub_twice m (by omega) n hn
    have hn2 : n ≤ 5000 := by omega
    have hn0 : 1 ≤ n := by omega
    have ep : (2 : Int) ^ k.toNat = ((n + 1 : Nat) : Int) := by rw [hm, hn]; push_cast; rfl
    rw [ep]
    clear ep hn hp e1 hb hm b1 b2 d0 d1 hm10
    have w1 : wrap64 ((n + 1 : Nat) : Int) = ((n + 1 : Nat) : Int) := IntWalk.wrap64_in _ ⟨by omega, by omega⟩
    rw [w1]
    have w2 : wrap64 (((n + 1 : Nat) : Int) - 1) = (n : Int) := by rw [IntWalk.wrap64_in _ ⟨by omega, by omega⟩]; omega
    rw [w2]
    clear w1 w2
    have t4 : lAt (2 * (n : Int) + 1) = (n : Int) + 1 := by
      unfold lAt; rw [if_neg (by omega)]
      rw [show (2 * (n : Int) + 1).toNat = 2 * n + 1 by omega, t3]; rfl
    have T1 := Lib.hid t1; have T2 := Lib.hid t2; have T4 := Lib.hid t4
    clear t1 t2 t3 t4
    refine (lub_First _ _).mono ?_
    rintro e w1 ⟨v1, rfl, hown1, hb1⟩
    unfold OwnInts at hown1
    rw [T2.out] at hown1
    obtain ⟨a1, cap1, rfl, hlc1, hm1, hn1, hc1⟩ := own_cells hown1
    have HN1 := Lib.hid hn1
    clear hn1
    go_wp2_with fail
    refine (lub_First _ _).mono ?_
    rintro e w2 ⟨v2, rfl, hown2, hb2⟩
    have hw2 : Below w.heap.size w w2 := below_step hb1 hb2
    have hc2 := hc1.later hb2
    clear hown1 hc1
    have hone : ∀ u ∈ (lFirst (n : Int)).map (Value.int .i64), u.oneCell' = true := one_int' _
    have hln : ((lFirst (n : Int)).map (Value.int .i64)).length = n * 1 := by rw [List.length_map, T2.out, Nat.mul_one]
    have hE := own_built w2 w2.heap.size 3 [] (Nat.le_refl _) (Nat.zero_le _)
    go_wp2_with (at_builtin; refine wpList_app rfl _ _ 26 rfl w2.heap.size 3 (.int .i64 0) 1 8 Try.underlying26 info_int rfl (by decide) _ _ _ rfl hE a1 n cap1 ((lFirst (n : Int)).map (Value.int .i64)) rfl ?c0 ?c1 ?c2 ?c3 ?c4 ?c5 ?c6 ?_)
    case c0 => exact HN1.out
    case c1 => exact hln
    case c2 => exact hc2.later (below_alloc (Below.refl _ _) _)
    case c3 => exact hone
    case c4 => unfold maxLen; first | omega | (simp; omega)
    case c5 => first | omega | (simp; omega)
    case c6 => simp
    intro v3 w3 hown3 hgr3
    have hw3 : Below w2.heap.size w2 w3 := own_bel (below_alloc (Below.refl _ _) _) hE hgr3
    have hc3 := hc2.later hw3
    have hsz3 := hw3.size
    clear hgr3 hE
    go_wp2_with (at_builtin; refine wpList_app rfl _ _ 26 rfl w2.heap.size 3 (.int .i64 0) 1 8 Try.underlying26 info_int rfl (by decide) _ _ _ rfl hown3 a1 n cap1 ((lFirst (n : Int)).map (Value.int .i64)) rfl ?c0 ?c1 ?c2 ?c3 ?c4 ?c5 ?c6 ?_)
    case c0 => exact HN1.out
    case c1 => exact hln
    case c2 => exact hc3
    case c3 => exact hone
    case c4 => unfold maxLen; first | omega | (simp; omega)
    case c5 => first | omega | (simp; omega)
    case c6 => exact hsz3
    intro v4 w4 hown4 hgr4
    have hw4 : Below w2.heap.size w2 w4 := own_bel hw3 hown3 hgr4
    have hsz4 := hw4.size
    have ho2 := hown2.later hw4
    clear hgr4 hown3 hc3 hc2
    go_wp2_with (at_builtin; refine wpList_app rfl _ _ 26 rfl w2.heap.size 3 (.int .i64 0) 1 8 Try.underlying26 info_int rfl (by decide) _ _ _ rfl (hown4.alloc _) (some ⟨w4.heap.size, 0, none⟩) 1 1 [.int .i64 ((n : Int) + 1)] rfl ?c0 rfl ?c1 ?c2 ?c3 ?c4 ?c5 ?_)
    (case c0 => exact fun h => by cases h); (case c1 => exact CellRow.made w4 _ _); (case c2 => intro u hu; simp at hu; subst hu; rfl); (case c3 => unfold maxLen; omega); (case c4 => omega); (case c5 => simp; omega)
    intro v5 w5 hown5 hgr5
    have hB5 : Below w2.heap.size w2 w5 := own_bel (below_alloc hw4 _) (hown4.alloc _) hgr5
    have ho5 := hown2.later hB5
    have hr5 : OwnInts w5 w2.heap.size v5 (lFirst (2 * (n : Int) + 1)) := by
      have e2 : lFirst (2 * (n : Int) + 1) = lFirst n ++ lFirst n ++ [(n : Int) + 1] := T1.out
      unfold OwnInts
      rw [e2]
      have e3 : (lFirst (n : Int) ++ lFirst (n : Int) ++ [(n : Int) + 1]).length = n + n + 1 := by rw [List.length_append, List.length_append, T2.out]; rfl
      rw [e3]
      simpa using hown5
    clear hown5 hgr5 hown4 ho2
    have t4 := T4.out
    go_wp2_with (first | (go_at_call 9; refine (same_IntsV _ _ _ _ _ ho5.ints hr5.ints).mono ?_; rintro e w' ⟨rfl, hbE⟩; simp only [decide_true]) | (go_at_call 7; refine (lub_At _ _).mono ?_; rintro e w' ⟨rfl, rfl⟩; rw [t4]) | (go_at_call 6; refine (law18_awake _).mono ?_; rintro e w' ⟨rfl, hbAw⟩))
    go_returns
    exact ⟨rfl, by (repeat (first | (with_reducible exact Below.refl _ _) | (with_reducible assumption) | (with_reducible refine below_alloc ?_ _) | (with_reducible refine below_drew ?_) | (with_reducible refine below_drewN ?_ _) | (with_reducible refine below_step ?_ (by with_reducible assumption))))⟩
end Go.Proofs.Ytblncllnafjkmaa
