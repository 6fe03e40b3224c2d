/- The contract of clause.Resolve. -/
import Derived.Test.YtcifneenbdibeaaClaL
import Derived.Test.YtcifneenbdibeaaClaN
import Derived.Test.YtcifneenbdibeaaStp
namespace Go.Proofs.Ytcifneenbdibeaa
open Go.RowKit
set_option linter.unusedVariables false
set_option linter.unusedSimpArgs false

theorem cWithout_len (c : List Int) (l : Int) : (cWithout c l).length ≤ c.length := by
  unfold cWithout
  refine Nat.le_trans (List.length_filter_le _ _) ?_
  induction c using snoc_induct with
  | h0 => simp [cNorm]
  | hs c x ih =>
    rw [cNorm_snoc, List.length_append]
    unfold cStep
    split
    · omega
    · have h := congrArg List.length (List.takeWhile_append_dropWhile (p := fun y => decide (lindex y < lindex x)) (l := cNorm c))
      rw [List.length_append] at h
      unfold cPut
      rw [List.length_append, List.length_cons]
      simp; omega
def ResPost (a b : List Int) (l : Int) (w : World) (e : Ending) (w' : World) : Prop := ∃ v, e = .returned (.tuple #[v, .int .i64 (cResE a b l)]) ∧ OwnInts w' w.heap.size v (cRes a b l) ∧ Below w.heap.size w w'
theorem res_none {a b : List Int} {l : Int} (h : cResE a b l ≠ 0) : cRes a b l = [] := by unfold cRes; rw [if_neg h]
theorem ret_v_int {v : Value} {k : IntKind} {a b : Int} (h : a = b) : Ending.returned (.tuple #[v, .int k a]) = .returned (.tuple #[v, .int k b]) := by rw [h]
set_option maxRecDepth 100000 in
set_option maxHeartbeats 1000000 in
theorem cla_Resolve (a : Option Addr) (len cap : Nat) (xs : List Int) (a2 : Option Addr) (len2 cap2 : Nat) (ys : List Int) (l : Int) (w : World) (hr : IntRow w a len xs) (hr2 : IntRow w a2 len2 ys) (hlen : len ≤ 1000) (hlen2 : len2 ≤ 1000) :
    Calls Try.prog 22 #[.slice a len cap, .slice a2 len2 cap2, .int .i64 l] w (ResPost xs ys l w) := by
  have HR := Lib.hid hr
  have HR2 := Lib.hid hr2
  by_cases hz : lvar l = 0
  · have HE : Hid (cResE xs ys l = 10) := Lib.hid (by unfold cResE; rw [if_pos hz])
    have HN : Hid (cRes xs ys l = []) := Lib.hid (res_none (by rw [HE.out]; decide))
    have d1 : (lvar l == 0) = true := by simpa using hz
    clear hz hr hr2
    go_enter Try.func22, Try.ntmps22
    go_wp2_with (go_at_call 31; refine (lit_Var _ _).mono ?_; rintro e wq ⟨rfl, hq⟩; obtain rfl := hq.symm)
    go_ret2
    exact ⟨_, ret_v_int HE.out.symm, by rw [HN.out]; exact OwnInts.nil _ _, Below.refl _ _⟩
  · have d1 : (lvar l == 0) = false := by simpa using hz
    have e1 := neg_lit2 hz
    have HZ := Lib.hid hz
    cases h1 : cHas xs l
    · have HE : Hid (cResE xs ys l = 11) := Lib.hid (by unfold cResE; rw [if_neg hz, h1]; rfl)
      have HN : Hid (cRes xs ys l = []) := Lib.hid (res_none (by rw [HE.out]; decide))
      have H1 := Lib.hid h1
      clear hz hr hr2 h1
      go_enter Try.func22, Try.ntmps22
      go_wp2_with (first | (go_at_call 31; refine (lit_Var _ _).mono ?_; rintro e wq ⟨rfl, hq⟩; obtain rfl := hq.symm) | (go_at_call 13; refine (cla_Has _ _ _ xs _ _ HR.out).mono ?_; rintro e wq ⟨rfl, hq⟩; obtain rfl := hq; rw [H1.out]))
      go_ret2
      exact ⟨_, ret_v_int HE.out.symm, by rw [HN.out]; exact OwnInts.nil _ _, Below.refl _ _⟩
    · cases h2 : cHas ys (-l)
      · have HE : Hid (cResE xs ys l = 11) := Lib.hid (by unfold cResE; rw [if_neg hz, h1, h2]; rfl)
        have HN : Hid (cRes xs ys l = []) := Lib.hid (res_none (by rw [HE.out]; decide))
        have H1 := Lib.hid h1
        have H2 := Lib.hid h2
        clear hz hr hr2 h1 h2
        go_enter Try.func22, Try.ntmps22
        go_wp2_with (go_at_call 31; refine (lit_Var _ _).mono ?_; rintro e wq ⟨rfl, hq⟩; obtain rfl := hq.symm)
        refine (cla_Has _ _ _ xs _ _ HR.out).mono ?_
        rintro e wq ⟨rfl, hq⟩
        obtain rfl := hq
        rw [H1.out]
        go_wp2_with fail
        refine (cla_Has _ _ _ ys _ _ HR2.out).mono ?_
        rintro e wq ⟨rfl, hq⟩
        obtain rfl := hq
        rw [H2.out]
        go_wp2_with fail
        go_ret2
        exact ⟨_, ret_v_int HE.out.symm, by rw [HN.out]; exact OwnInts.nil _ _, Below.refl _ _⟩
      · have HE : Hid (cResE xs ys l = 0) := Lib.hid (by unfold cResE; rw [if_neg hz, h1, h2]; rfl)
        have HN : Hid (cRes xs ys l = cNorm (cWithout xs l ++ cWithout ys (-l))) := Lib.hid (by unfold cRes; rw [if_pos HE.out])
        have H1 := Lib.hid h1
        have H2 := Lib.hid h2
        have hl1 := cWithout_len xs l
        have hl2 := cWithout_len ys (-l)
        rw [hr.1] at hl1
        rw [hr2.1] at hl2
        clear hz hr hr2 h1 h2
        have HL1 := Lib.hid hl1
        have HL2 := Lib.hid hl2
        clear hl1 hl2
        go_enter Try.func22, Try.ntmps22
        go_wp2_with (go_at_call 31; refine (lit_Var _ _).mono ?_; rintro e wq ⟨rfl, hq⟩; obtain rfl := hq.symm)
        refine (cla_Has _ _ _ xs _ _ HR.out).mono ?_
        rintro e wq ⟨rfl, hq⟩
        obtain rfl := hq
        rw [H1.out]
        go_wp2_with fail
        refine (cla_Has _ _ _ ys _ _ HR2.out).mono ?_
        rintro e wq ⟨rfl, hq⟩
        obtain rfl := hq
        rw [H2.out]
        go_wp2_with fail
        refine (cla_Without _ _ _ xs _ _ HR.out (by omega)).mono ?_
        rintro e w1 ⟨v1, rfl, hown1, hb1⟩
        have HO1 := Lib.hid hown1
        clear hown1
        go_wp2_with fail
        refine (cla_Without _ _ _ ys _ _ (HR2.out.later hb1) (by omega)).mono ?_
        rintro e w2 ⟨v2, rfl, hown2, hb2⟩
        have hb12 := below_step hb1 hb2
        have hs1 := hb1.size
        have hs2 := hb2.size
        obtain ⟨a3, c3, rfl, h31, h32, h33, h34⟩ := own_cells (show World.ownsRow _ _ _ _ _ _ _ from hown2)
        have ho1 : World.ownsRow w2 w.heap.size 3 1 v1 _ _ := own_later HO1.out hb2
        generalize hX : cWithout xs l = X at *
        generalize hY : cWithout ys (-l) = Y at *
        have hx1 := HL1.out
        have hy1 := HL2.out
        have HY1 : Hid (∀ u ∈ Y.map (Value.int .i64), u.oneCell' = true) := Lib.hid (fun u hu => one_int u _ hu)
        have HX := Lib.hid hX
        have HY := Lib.hid hY
        generalize hNX : X.length = NX at *
        generalize hNY : Y.length = NY at *
        have HNX := Lib.hid hNX
        have HNY := Lib.hid hNY
        clear hX hY hown2 hNX hNY
        go_wp2_with (at_builtin; refine wpList_app rfl _ _ 22 rfl w.heap.size 3 (.int .i64 0) 1 8 Try.underlying22 info_int rfl (by decide) v1 NX (X.map (Value.int .i64)) rfl ho1 a3 NY c3 (Y.map (Value.int .i64)) rfl h33 ?c1 h34 HY1.out ?c3 ?c4 ?c5 ?_)
        case c1 => rw [List.length_map, HNY.out]; omega
        case c3 => unfold maxLen; omega
        case c4 => omega
        case c5 => omega
        intro v' w3 hown3 hgr3
        have hb3 : Below w.heap.size w w3 := own_bel hb12 ho1 hgr3
        have hown : OwnInts w3 w.heap.size v' (X ++ Y) := by
          unfold OwnInts
          rw [List.length_append, List.map_append, HNX.out, HNY.out]
          exact hown3
        obtain ⟨a4, l4, c4, rfl, h41, h42, hr4⟩ := hown.ints
        have hl4 : l4 ≤ 2000 := by rw [← hr4.1, List.length_append, HNX.out, HNY.out]; omega
        have hcon := cla_Norm a4 l4 c4 (X ++ Y) w3 hr4 (by omega)
        have HCON := Lib.hid hcon
        have hs3 := hb3.size
        clear hcon hown hown3 hgr3 ho1 hr4
        go_wp2_with fail
        refine HCON.out.mono ?_
        rintro e w4 ⟨v4, rfl, hown4, hb4⟩
        go_wp2_with fail
        go_ret2
        exact ⟨_, ret_v_int HE.out.symm, by rw [HN.out]; exact hown4.mono hs3, below_step hb3 hb4⟩
end Go.Proofs.Ytcifneenbdibeaa
