/- The contract of the reference's Norm. -/
import Derived.Test.YtcifneenbdibeaaClaR
import Derived.Test.YtcifneenbdibeaaStp
import Derived.Test.YtcifneenbdibeaaBlk
import Derived.Deep.RegionHeld3
import Derived.StillTactics
import Derived.OwnWalk
namespace Go.Proofs.Ytcifneenbdibeaa
open Go.RowKit
set_option linter.unusedVariables false
set_option linter.unusedSimpArgs false

theorem while_at {x : Int} : ∀ {out : List Int} {k : Nat}, k ≤ out.length → (∀ j, j < k → lindex (out.getD j 0) < x) → (k = out.length ∨ ¬ lindex (out.getD k 0) < x) →
    out.takeWhile (fun y => decide (lindex y < x)) = out.take k ∧ out.dropWhile (fun y => decide (lindex y < x)) = out.drop k
  | [], k, hk, _, _ => by simp
  | o :: os, 0, hk, hb, he => by
    have h : ¬ lindex o < x := by
      rcases he with h | h
      · simp at h
      · simpa using h
    simp [h]
  | o :: os, k + 1, hk, hb, he => by
    have h0 : lindex o < x := by simpa using hb 0 (by omega)
    have := while_at (x := x) (out := os) (k := k) (by simpa using hk) (fun j hj => by simpa using hb (j + 1) (by omega)) (by
      rcases he with h | h
      · exact Or.inl (by simpa using h)
      · exact Or.inr (by simpa using h))
    simp [h0, this.1, this.2]
theorem cNorm_len (c : List Int) : (cNorm c).length ≤ c.length := by
  induction c using snoc_induct with
  | h0 => simp [cNorm]
  | hs c x ih =>
    rw [cNorm_snoc, List.length_append]
    unfold cStep
    split
    · omega
    · have h := congrArg List.length (List.takeWhile_append_dropWhile (p := fun y => decide (lindex y < lindex x)) (l := cNorm c))
      rw [List.length_append] at h
      unfold cPut
      rw [List.length_append, List.length_cons]
      simp; omega
theorem cPut_at {out : List Int} {x : Int} {k : Nat} (hk : k ≤ out.length) (hb : ∀ j, j < k → lindex (out.getD j 0) < lindex x) (he : k = out.length ∨ ¬ lindex (out.getD k 0) < lindex x) : cPut out x = out.take k ++ [x] ++ out.drop k := by
  obtain ⟨h1, h2⟩ := while_at hk hb he
  unfold cPut
  rw [h1, h2]; simp
theorem step_norm (xs : List Int) {k : Nat} (h : k < xs.length) : cNorm (xs.take (k + 1)) = cStep (cNorm (xs.take k)) (xs.getD k 0) := by rw [take_snoc xs k h, cNorm_snoc]

set_option maxHeartbeats 1000000 in
set_option maxRecDepth 100000 in
theorem ref_Norm02 (a : Option Addr) (len cap : Nat) (xs : List Int) (w : World) (hr : IntRow w a len xs) (hlen : len ≤ 100000) :
    Calls Try.prog 12 #[.slice a len cap] w fun e w' => ∃ v, e = .returned v ∧ OwnInts w' w.heap.size v (cNorm xs) ∧ Below w.heap.size w w' := by
  have HR := Lib.hid hr
  have HL := Lib.hid hr.1
  have HT : Hid (cNorm (xs.take len) = cNorm xs) := Lib.hid (by rw [List.take_of_length_le (by rw [hr.1]; exact Nat.le_refl _)])
  clear hr
  go_enter Try.func12, Try.ntmps12
  go_wp2_with fail
  go_loopw [3, 4] (fun v i wr => ∃ k : Nat, k ≤ len ∧ i = .int .i64 k ∧ OwnInts wr w.heap.size v (cNorm (xs.take k)) ∧ Below w.heap.size w wr) (fun _ i _ => len - (intOf i).toNat)
  case atStart => exact ⟨0, Nat.zero_le _, rfl, OwnInts.nil _ _, Below.refl _ _⟩
  case round =>
    obtain ⟨k, hk, rfl, hl, hbr⟩ := hrel
    have t1 : (0 : Int) ≤ (k : Int) := by omega
    by_cases hlt : k < len
    · have hra := HR.out.later hbr
      have HRA := Lib.hid hra
      obtain ⟨b, off, rfl, hc⟩ := hra.2.2 (by omega)
      have hck := hc k hlt
      have t2 : (k : Int) < (len : Int) := by omega
      have HS := Lib.hid (step_norm xs (k := k) (by rw [HL.out]; exact hlt))
      have hX1 : (cNorm (xs.take k)).length ≤ k := Nat.le_trans (cNorm_len _) (List.length_take_le _ _)
      clear hc hra
      generalize xs.getD k 0 = z at *
      generalize cNorm (xs.take k) = X at *
      obtain ⟨ao, lo, co, rfl, hlo1, hlo2, hro⟩ := hl.ints
      have hlx := hro.1
      have HRO := Lib.hid hro
      have HO := Lib.hid hl
      have HLX := Lib.hid hlx
      rw [hlx] at hX1
      clear hlx hl hro
      by_cases hz : lvar z = 0
      · have HE : Hid (cNorm (xs.take (k + 1)) = X) := Lib.hid (by rw [HS.out]; unfold cStep; rw [if_pos (Or.inl hz)])
        have d1 : decide (lindex z < 0) = true := by unfold lindex; rw [if_pos hz]; rfl
        clear hz
        go_wp2_with (go_at_call 30; refine (ref_Index _ _).mono ?_; rintro e wq ⟨rfl, hq⟩; obtain rfl := hq.symm)
        go_roundw
        case rel => exact ⟨k + 1, by omega, by go_num, by rw [HE.out]; exact HO.out, hbr⟩
        case measure => simp [intOf]; omega
      · have d1 : decide (lindex z < 0) = false := by have := lvar_bd z; rw [lvar_pos hz]; split <;> simp <;> omega
        cases hh : lhas X z
        · have HP : Hid (cNorm (xs.take (k + 1)) = cPut X z) := Lib.hid (by rw [HS.out]; unfold cStep; rw [if_neg (by rw [hh]; simp [hz])])
          have HH := Lib.hid hh
          clear hz hh
          go_wp2_with (first | (go_at_call 30; refine (ref_Index _ _).mono ?_; rintro e wq ⟨rfl, hq⟩; obtain rfl := hq.symm) | (go_at_call 27; refine (ref_HasB _ _ _ X _ _ _ HRO.out HH.out).mono ?_; rintro e wq ⟨rfl, hq⟩; obtain rfl := hq.symm))
          generalize hI : lindex z = I at *
          have HI := Lib.hid hI
          clear hI
          go_loop [6] (fun y => ∃ j : Nat, j ≤ lo ∧ y = .int .i64 j ∧ ∀ q, q < j → lindex (X.getD q 0) < I) (fun y => lo - (intOf y).toNat)
          case atStart => exact ⟨0, Nat.zero_le _, rfl, fun q hq => by omega⟩
          case round =>
            obtain ⟨j, hj, rfl, hbel⟩ := hrel
            have HB := Lib.hid hbel
            clear hbel
            have s1 : (0 : Int) ≤ (j : Int) := by omega
            by_cases hjl : j < lo ∧ lindex (X.getD j 0) < I
            · obtain ⟨hjl, hjb⟩ := hjl
              have HJ : Hid (∀ q, q < j + 1 → lindex (X.getD q 0) < I) := Lib.hid (fun q hq => by
                rcases Nat.lt_or_ge q j with h1 | h1
                · exact HB.out q h1
                · rw [show q = j by omega]; exact hjb)
              obtain ⟨bo, oo, rfl, hco⟩ := HRO.out.2.2 (by omega)
              have hcj := hco j hjl
              have s2 : (j : Int) < (lo : Int) := by omega
              clear hco
              generalize X.getD j 0 = y at *
              have d2 : decide (lindex y < I) = true := by simpa using hjb
              clear hjb
              go_wp2_with (go_at_call 30; refine (ref_Index _ _).mono ?_; rintro e wq ⟨rfl, hq⟩; obtain rfl := hq.symm)
              go_round
              case rel => exact ⟨j + 1, by omega, by go_num, HJ.out⟩
              case measure => simp [intOf]; omega
            · have HQ : Hid (cPut X z = X.take j ++ [z] ++ X.drop j) := Lib.hid (cPut_at (by rw [HLX.out]; exact hj) (by rw [HI.out]; exact HB.out) (by
                rw [HI.out, HLX.out]
                rcases Nat.lt_or_ge j lo with h1 | h1
                · exact Or.inr (fun h => hjl ⟨h1, h⟩)
                · exact Or.inl (by omega)))
              by_cases hjl2 : j < lo
              · obtain ⟨bo, oo, rfl, hco⟩ := HRO.out.2.2 (by omega)
                have hcj := hco j hjl2
                have s2 : (j : Int) < (lo : Int) := by omega
                have hjb : ¬ lindex (X.getD j 0) < I := fun h => hjl ⟨hjl2, h⟩
                have hcr : CellRow wr (some ⟨bo, oo, none⟩) (X.map (Value.int .i64)) := HRO.out.cells
                have hct : CellRow wr (some ⟨bo, oo, none⟩) ((X.take j).map (Value.int .i64)) := by have := hcr.part 0 j; rw [List.map_take]; exact this
                have hcd : CellRow wr (if co = j then some ⟨bo, oo, none⟩ else some ⟨bo, oo + j, none⟩) (((X.drop j).take (lo - j)).map (Value.int .i64)) := by
                  rw [if_neg (by omega)]
                  have := hcr.part j (lo - j); rw [List.map_take, List.map_drop]; exact this
                clear hco hjl hcr
                generalize X.getD j 0 = y at *
                have d2 : decide (lindex y < I) = false := by simpa using hjb
                clear hjb
                have HCT := Lib.hid hct
                have HCD := Lib.hid hcd
                have s3 : (j : Int) ≤ (co : Int) := by omega
                have s4 : (lo : Int) ≤ (co : Int) := by omega
                have s5 : (j : Int) ≤ (lo : Int) := by omega
                have hwz := hbr.size
                have HQ2 : Hid (cPut X z = X.take j ++ [z] ++ (X.drop j).take (lo - j)) := Lib.hid (by rw [HQ.out, List.take_of_length_le (i := lo - j) (l := X.drop j) (by rw [List.length_drop, HLX.out]; omega)])
                have HLT : Hid (((X.take j).map (Value.int .i64)).length = j * 1) := Lib.hid (by rw [List.length_map, List.length_take, HLX.out]; omega)
                have HLD : Hid ((((X.drop j).take (lo - j)).map (Value.int .i64)).length = (lo - j) * 1) := Lib.hid (by rw [List.length_map, List.length_take, List.length_drop, HLX.out]; omega)
                have HT1 : Hid (∀ u ∈ (X.take j).map (Value.int .i64), u.oneCell' = true) := Lib.hid (fun u hu => one_int u _ hu)
                have HZ1 : Hid (∀ u ∈ [Value.int .i64 z], u.oneCell' = true) := Lib.hid (fun u hu => one_int u [z] hu)
                have HD1 : Hid (∀ u ∈ ((X.drop j).take (lo - j)).map (Value.int .i64), u.oneCell' = true) := Lib.hid (fun u hu => one_int u _ hu)
                have HPN : Hid ((cPut X z).length = 0 + j + 1 + (lo - j)) := Lib.hid (by rw [HQ.out, List.length_append, List.length_append, List.length_take, List.length_drop, HLX.out]; simp; omega)
                have HPV : Hid ([] ++ (X.take j).map (Value.int .i64) ++ [Value.int .i64 z] ++ ((X.drop j).take (lo - j)).map (Value.int .i64) = (cPut X z).map (Value.int .i64)) := Lib.hid (by rw [HQ2.out]; simp)
                clear hct hcd HQ HQ2 HRO HO HB
                generalize ((X.drop j).take (lo - j)).map (Value.int .i64) = D at *
                generalize (X.take j).map (Value.int .i64) = T at *
                go_wp2_with (go_at_call 30; refine (ref_Index _ _).mono ?_; rintro e wq ⟨rfl, hq⟩; obtain rfl := hq.symm)
                go_region_held3 (fun wx => Below wr.heap.size wr wx ∧ wx.cell? ⟨b, off + k, none⟩ = some (.int .i64 z)) ((refine ⟨?_, ?_⟩; (repeat (first | (with_reducible exact Below.refl _ _) | (with_reducible assumption) | (with_reducible refine below_alloc ?_ _) | (with_reducible refine below_drew ?_) | (with_reducible refine below_drewN ?_ _) | (with_reducible refine below_step ?_ (by with_reducible assumption)))); all_goals (refine cell_later (w := wr) ?_ ?_ <;> (repeat (first | (with_reducible exact Below.refl _ _) | (with_reducible assumption) | (with_reducible refine below_alloc ?_ _) | (with_reducible refine below_drew ?_) | (with_reducible refine below_drewN ?_ _) | (with_reducible refine below_step ?_ (by with_reducible assumption))))))) (first | (refine step_if (.tmp 43) (.tmp 46) 22 ?_ ?_; (focus rfl); refine step_app (by rfl) (.tmp 43) (.tmp 46) 22 (by rfl) wr.heap.size 3 (.int .i64 0) 1 8 Try.underlying22 info_int rfl (by decide) _ 0 [] (by rfl) (by (first | (refine own_built_at (w := wr) _ _ [] ?_ ?_ ?_ <;> (first | omega | (simp; done) | ((repeat (first | (with_reducible exact Below.refl _ _) | (with_reducible assumption) | (with_reducible refine below_alloc ?_ _) | (with_reducible refine below_drew ?_) | (with_reducible refine below_drewN ?_ _) | (with_reducible refine below_step ?_ (by with_reducible assumption)))); done))) | (refine own_later (w := wr.alloc (.cells #[] 3)) (own_built_at (w := wr) _ _ [] ?_ ?_ ?_) ?_ <;> (first | omega | (simp; done) | ((repeat (first | (with_reducible exact Below.refl _ _) | (with_reducible assumption) | (with_reducible refine below_alloc ?_ _) | (with_reducible refine below_drew ?_) | (with_reducible refine below_drewN ?_ _) | (with_reducible refine below_step ?_ (by with_reducible assumption)))); done))) | (refine own_built_at (w := wr.alloc _) _ _ [] ?_ ?_ ?_ <;> (first | omega | (simp; done) | ((repeat (first | (with_reducible exact Below.refl _ _) | (with_reducible assumption) | (with_reducible refine below_alloc ?_ _) | (with_reducible refine below_drew ?_) | (with_reducible refine below_drewN ?_ _) | (with_reducible refine below_step ?_ (by with_reducible assumption)))); done))))) _ j co T (by rfl) (by intro h; first | (cases h; done) | (have := HCO.out; omega)) HLT.out (HCT.out.later (by ((repeat (first | (with_reducible exact Below.refl _ _) | (with_reducible assumption) | (with_reducible refine below_alloc ?_ _) | (with_reducible refine below_drew ?_) | (with_reducible refine below_drewN ?_ _) | (with_reducible refine below_step ?_ (by with_reducible assumption)))); done))) HT1.out (by unfold maxLen; omega) (by omega) (by first | (simp; done) | (simp; omega)) ?_; intro v1 w1 hown1 hgr1; have hb1 : Below wr.heap.size wr w1 := own_bel (by ((repeat (first | (with_reducible exact Below.refl _ _) | (with_reducible assumption) | (with_reducible refine below_alloc ?_ _) | (with_reducible refine below_drew ?_) | (with_reducible refine below_drewN ?_ _) | (with_reducible refine below_step ?_ (by with_reducible assumption)))); done)) (by (first | (refine own_built_at (w := wr) _ _ [] ?_ ?_ ?_ <;> (first | omega | (simp; done) | ((repeat (first | (with_reducible exact Below.refl _ _) | (with_reducible assumption) | (with_reducible refine below_alloc ?_ _) | (with_reducible refine below_drew ?_) | (with_reducible refine below_drewN ?_ _) | (with_reducible refine below_step ?_ (by with_reducible assumption)))); done))) | (refine own_later (w := wr.alloc (.cells #[] 3)) (own_built_at (w := wr) _ _ [] ?_ ?_ ?_) ?_ <;> (first | omega | (simp; done) | ((repeat (first | (with_reducible exact Below.refl _ _) | (with_reducible assumption) | (with_reducible refine below_alloc ?_ _) | (with_reducible refine below_drew ?_) | (with_reducible refine below_drewN ?_ _) | (with_reducible refine below_step ?_ (by with_reducible assumption)))); done))) | (refine own_built_at (w := wr.alloc _) _ _ [] ?_ ?_ ?_ <;> (first | omega | (simp; done) | ((repeat (first | (with_reducible exact Below.refl _ _) | (with_reducible assumption) | (with_reducible refine below_alloc ?_ _) | (with_reducible refine below_drew ?_) | (with_reducible refine below_drewN ?_ _) | (with_reducible refine below_step ?_ (by with_reducible assumption)))); done)))) : World.ownsRow _ _ 3 1 _ 0 []) hgr1; (first | (refine with_fact (T := CellRow w1 (some ⟨wr.heap.size + 1, 0, none⟩) [.int .i64 z]) (CellRow.grown hgr1 (CellRow.later (w := (wr.alloc (.cells #[] 3)).alloc (.cells #[.int .i64 z] 3)) (CellRow.at (w := wr.alloc (.cells #[] 3)) [.int .i64 z] _ ?_) ?_) ?_) (fun hq1 => ?_); (focus (simp; done)); (focus ((repeat (first | (with_reducible exact Below.refl _ _) | (with_reducible assumption) | (with_reducible refine below_alloc ?_ _) | (with_reducible refine below_drew ?_) | (with_reducible refine below_drewN ?_ _) | (with_reducible refine below_step ?_ (by with_reducible assumption)))); done)); (focus (change some (wr.heap.size + 1) ≠ (Value.slice (some ⟨wr.heap.size, 0, none⟩) 0 0).ownBlock; simp [Value.ownBlock]; done))) | (refine with_fact (T := CellRow w1 (some ⟨wr.heap.size, 0, none⟩) [.int .i64 z]) (CellRow.grown hgr1 (CellRow.later (w := wr.alloc (.cells #[.int .i64 z] 3)) (CellRow.at (w := wr) [.int .i64 z] _ rfl) ?_) ?_) (fun hq1 => ?_); (focus ((repeat (first | (with_reducible exact Below.refl _ _) | (with_reducible assumption) | (with_reducible refine below_alloc ?_ _) | (with_reducible refine below_drew ?_) | (with_reducible refine below_drewN ?_ _) | (with_reducible refine below_step ?_ (by with_reducible assumption)))); done)); (focus (change some wr.heap.size ≠ (Value.slice (some ⟨wr.heap.size + 1, 0, none⟩) 0 0).ownBlock; simp [Value.ownBlock]; done))) | skip)) | (refine step_if (.tmp 47) (.tmp 52) 22 ?_ ?_; (focus rfl); refine step_app (by rfl) (.tmp 47) (.tmp 52) 22 (by rfl) wr.heap.size 3 (.int .i64 0) 1 8 Try.underlying22 info_int rfl (by decide) _ (0 + j) ([] ++ T) (by rfl) (own_later hown1 (by first | exact Below.refl _ _ | exact below_alloc (Below.refl _ _) _)) _ 1 _ [.int .i64 z] (by rfl) (fun h => by cases h) rfl (by first | exact hq1 | exact CellRow.at (w := w1) _ _ rfl) HZ1.out (by unfold maxLen; omega) (by omega) (by first | exact hb1.size | exact (below_alloc hb1 _).size) ?_; intro v2 w2 hown2 hgr2; have hb2 : Below wr.heap.size wr w2 := own_bel (by ((repeat (first | (with_reducible exact Below.refl _ _) | (with_reducible assumption) | (with_reducible refine below_alloc ?_ _) | (with_reducible refine below_drew ?_) | (with_reducible refine below_drewN ?_ _) | (with_reducible refine below_step ?_ (by with_reducible assumption)))); done)) (own_later hown1 (by first | exact Below.refl _ _ | exact below_alloc (Below.refl _ _) _)) hgr2) | (refine step_if (.tmp 53) (.tmp 56) 22 ?_ ?_; (focus rfl); refine step_app (by rfl) (.tmp 53) (.tmp 56) 22 (by rfl) wr.heap.size 3 (.int .i64 0) 1 8 Try.underlying22 info_int rfl (by decide) _ (0 + j + 1) ([] ++ T ++ [.int .i64 z]) (by rfl) hown2 _ (lo - j) (co - j) D (by rfl) (by intro h; first | (split at h <;> cases h) | (have := HCO.out; omega)) HLD.out (HCD.out.later hb2) HD1.out (by unfold maxLen; omega) (by omega) hb2.size ?_; intro v3 w3 hown3 hgr3; have hb3 : Below wr.heap.size wr w3 := own_bel hb2 hown2 hgr3))
                all_goals
                  go_wp2_with fail
                  go_roundw
                  case rel =>
                    refine ⟨k + 1, by omega, by go_num, ?_, below_step hbr hb3⟩
                    rw [HP.out]
                    unfold OwnInts
                    rw [HPN.out, ← HPV.out]
                    exact own_mono hown3 hwz
                  case measure => simp [intOf]; omega
              · have hjo : lo ≤ j := by omega
                clear hjl
                have hnil : ((X.drop j).take (lo - j)).map (Value.int .i64) = [] := by rw [show lo - j = 0 by omega]; simp
                rcases own_form (show World.ownsRow _ _ _ _ _ _ _ from HO.out) with ⟨hv, hn⟩ | ⟨g, c9, hv, h91, h92, h93, h94⟩
                · have hlo0 : lo ≤ 0 := by rw [HLX.out] at hn; omega
                  obtain ⟨rfl, -, hco⟩ : ao = none ∧ lo = 0 ∧ co = 0 := by simpa using hv
                  have hco0 : co ≤ 0 := by omega
                  have hct : CellRow wr none ((X.take j).map (Value.int .i64)) := by rw [show j = 0 by omega]; exact CellRow.nil _ _
                  have hcd : CellRow wr none (((X.drop j).take (lo - j)).map (Value.int .i64)) := by rw [hnil]; exact CellRow.nil _ _
                  have HCO := Lib.hid hco0
                  have HLO := Lib.hid hlo0
                  have d2 : decide (j < lo) = false := by simpa using hjo
                  clear hv hco hn hnil hco0 hlo0 hjo
                  have HCT := Lib.hid hct
                  have HCD := Lib.hid hcd
                  have s3 : (j : Int) ≤ (co : Int) := by omega
                  have s4 : (lo : Int) ≤ (co : Int) := by omega
                  have s5 : (j : Int) ≤ (lo : Int) := by omega
                  have hwz := hbr.size
                  have HQ2 : Hid (cPut X z = X.take j ++ [z] ++ (X.drop j).take (lo - j)) := Lib.hid (by rw [HQ.out, List.take_of_length_le (i := lo - j) (l := X.drop j) (by rw [List.length_drop, HLX.out]; omega)])
                  have HLT : Hid (((X.take j).map (Value.int .i64)).length = j * 1) := Lib.hid (by rw [List.length_map, List.length_take, HLX.out]; omega)
                  have HLD : Hid ((((X.drop j).take (lo - j)).map (Value.int .i64)).length = (lo - j) * 1) := Lib.hid (by rw [List.length_map, List.length_take, List.length_drop, HLX.out]; omega)
                  have HT1 : Hid (∀ u ∈ (X.take j).map (Value.int .i64), u.oneCell' = true) := Lib.hid (fun u hu => one_int u _ hu)
                  have HZ1 : Hid (∀ u ∈ [Value.int .i64 z], u.oneCell' = true) := Lib.hid (fun u hu => one_int u [z] hu)
                  have HD1 : Hid (∀ u ∈ ((X.drop j).take (lo - j)).map (Value.int .i64), u.oneCell' = true) := Lib.hid (fun u hu => one_int u _ hu)
                  have HPN : Hid ((cPut X z).length = 0 + j + 1 + (lo - j)) := Lib.hid (by rw [HQ.out, List.length_append, List.length_append, List.length_take, List.length_drop, HLX.out]; simp; omega)
                  have HPV : Hid ([] ++ (X.take j).map (Value.int .i64) ++ [Value.int .i64 z] ++ ((X.drop j).take (lo - j)).map (Value.int .i64) = (cPut X z).map (Value.int .i64)) := Lib.hid (by rw [HQ2.out]; simp)
                  clear hct hcd HQ HQ2 HRO HO HB
                  generalize ((X.drop j).take (lo - j)).map (Value.int .i64) = D at *
                  generalize (X.take j).map (Value.int .i64) = T at *
                  go_wp2_with (go_at_call 30; refine (ref_Index _ _).mono ?_; rintro e wq ⟨rfl, hq⟩; obtain rfl := hq.symm)
                  go_region_held3 (fun wx => Below wr.heap.size wr wx ∧ wx.cell? ⟨b, off + k, none⟩ = some (.int .i64 z)) ((refine ⟨?_, ?_⟩; (repeat (first | (with_reducible exact Below.refl _ _) | (with_reducible assumption) | (with_reducible refine below_alloc ?_ _) | (with_reducible refine below_drew ?_) | (with_reducible refine below_drewN ?_ _) | (with_reducible refine below_step ?_ (by with_reducible assumption)))); all_goals (refine cell_later (w := wr) ?_ ?_ <;> (repeat (first | (with_reducible exact Below.refl _ _) | (with_reducible assumption) | (with_reducible refine below_alloc ?_ _) | (with_reducible refine below_drew ?_) | (with_reducible refine below_drewN ?_ _) | (with_reducible refine below_step ?_ (by with_reducible assumption))))))) (first | (refine step_if (.tmp 43) (.tmp 46) 22 ?_ ?_; (focus rfl); refine step_app (by rfl) (.tmp 43) (.tmp 46) 22 (by rfl) wr.heap.size 3 (.int .i64 0) 1 8 Try.underlying22 info_int rfl (by decide) _ 0 [] (by rfl) (by (first | (refine own_built_at (w := wr) _ _ [] ?_ ?_ ?_ <;> (first | omega | (simp; done) | ((repeat (first | (with_reducible exact Below.refl _ _) | (with_reducible assumption) | (with_reducible refine below_alloc ?_ _) | (with_reducible refine below_drew ?_) | (with_reducible refine below_drewN ?_ _) | (with_reducible refine below_step ?_ (by with_reducible assumption)))); done))) | (refine own_later (w := wr.alloc (.cells #[] 3)) (own_built_at (w := wr) _ _ [] ?_ ?_ ?_) ?_ <;> (first | omega | (simp; done) | ((repeat (first | (with_reducible exact Below.refl _ _) | (with_reducible assumption) | (with_reducible refine below_alloc ?_ _) | (with_reducible refine below_drew ?_) | (with_reducible refine below_drewN ?_ _) | (with_reducible refine below_step ?_ (by with_reducible assumption)))); done))) | (refine own_built_at (w := wr.alloc _) _ _ [] ?_ ?_ ?_ <;> (first | omega | (simp; done) | ((repeat (first | (with_reducible exact Below.refl _ _) | (with_reducible assumption) | (with_reducible refine below_alloc ?_ _) | (with_reducible refine below_drew ?_) | (with_reducible refine below_drewN ?_ _) | (with_reducible refine below_step ?_ (by with_reducible assumption)))); done))))) _ j co T (by rfl) (by intro h; first | (cases h; done) | (have := HCO.out; omega)) HLT.out (HCT.out.later (by ((repeat (first | (with_reducible exact Below.refl _ _) | (with_reducible assumption) | (with_reducible refine below_alloc ?_ _) | (with_reducible refine below_drew ?_) | (with_reducible refine below_drewN ?_ _) | (with_reducible refine below_step ?_ (by with_reducible assumption)))); done))) HT1.out (by unfold maxLen; omega) (by omega) (by first | (simp; done) | (simp; omega)) ?_; intro v1 w1 hown1 hgr1; have hb1 : Below wr.heap.size wr w1 := own_bel (by ((repeat (first | (with_reducible exact Below.refl _ _) | (with_reducible assumption) | (with_reducible refine below_alloc ?_ _) | (with_reducible refine below_drew ?_) | (with_reducible refine below_drewN ?_ _) | (with_reducible refine below_step ?_ (by with_reducible assumption)))); done)) (by (first | (refine own_built_at (w := wr) _ _ [] ?_ ?_ ?_ <;> (first | omega | (simp; done) | ((repeat (first | (with_reducible exact Below.refl _ _) | (with_reducible assumption) | (with_reducible refine below_alloc ?_ _) | (with_reducible refine below_drew ?_) | (with_reducible refine below_drewN ?_ _) | (with_reducible refine below_step ?_ (by with_reducible assumption)))); done))) | (refine own_later (w := wr.alloc (.cells #[] 3)) (own_built_at (w := wr) _ _ [] ?_ ?_ ?_) ?_ <;> (first | omega | (simp; done) | ((repeat (first | (with_reducible exact Below.refl _ _) | (with_reducible assumption) | (with_reducible refine below_alloc ?_ _) | (with_reducible refine below_drew ?_) | (with_reducible refine below_drewN ?_ _) | (with_reducible refine below_step ?_ (by with_reducible assumption)))); done))) | (refine own_built_at (w := wr.alloc _) _ _ [] ?_ ?_ ?_ <;> (first | omega | (simp; done) | ((repeat (first | (with_reducible exact Below.refl _ _) | (with_reducible assumption) | (with_reducible refine below_alloc ?_ _) | (with_reducible refine below_drew ?_) | (with_reducible refine below_drewN ?_ _) | (with_reducible refine below_step ?_ (by with_reducible assumption)))); done)))) : World.ownsRow _ _ 3 1 _ 0 []) hgr1; (first | (refine with_fact (T := CellRow w1 (some ⟨wr.heap.size + 1, 0, none⟩) [.int .i64 z]) (CellRow.grown hgr1 (CellRow.later (w := (wr.alloc (.cells #[] 3)).alloc (.cells #[.int .i64 z] 3)) (CellRow.at (w := wr.alloc (.cells #[] 3)) [.int .i64 z] _ ?_) ?_) ?_) (fun hq1 => ?_); (focus (simp; done)); (focus ((repeat (first | (with_reducible exact Below.refl _ _) | (with_reducible assumption) | (with_reducible refine below_alloc ?_ _) | (with_reducible refine below_drew ?_) | (with_reducible refine below_drewN ?_ _) | (with_reducible refine below_step ?_ (by with_reducible assumption)))); done)); (focus (change some (wr.heap.size + 1) ≠ (Value.slice (some ⟨wr.heap.size, 0, none⟩) 0 0).ownBlock; simp [Value.ownBlock]; done))) | (refine with_fact (T := CellRow w1 (some ⟨wr.heap.size, 0, none⟩) [.int .i64 z]) (CellRow.grown hgr1 (CellRow.later (w := wr.alloc (.cells #[.int .i64 z] 3)) (CellRow.at (w := wr) [.int .i64 z] _ rfl) ?_) ?_) (fun hq1 => ?_); (focus ((repeat (first | (with_reducible exact Below.refl _ _) | (with_reducible assumption) | (with_reducible refine below_alloc ?_ _) | (with_reducible refine below_drew ?_) | (with_reducible refine below_drewN ?_ _) | (with_reducible refine below_step ?_ (by with_reducible assumption)))); done)); (focus (change some wr.heap.size ≠ (Value.slice (some ⟨wr.heap.size + 1, 0, none⟩) 0 0).ownBlock; simp [Value.ownBlock]; done))) | skip)) | (refine step_if (.tmp 47) (.tmp 52) 22 ?_ ?_; (focus rfl); refine step_app (by rfl) (.tmp 47) (.tmp 52) 22 (by rfl) wr.heap.size 3 (.int .i64 0) 1 8 Try.underlying22 info_int rfl (by decide) _ (0 + j) ([] ++ T) (by rfl) (own_later hown1 (by first | exact Below.refl _ _ | exact below_alloc (Below.refl _ _) _)) _ 1 _ [.int .i64 z] (by rfl) (fun h => by cases h) rfl (by first | exact hq1 | exact CellRow.at (w := w1) _ _ rfl) HZ1.out (by unfold maxLen; omega) (by omega) (by first | exact hb1.size | exact (below_alloc hb1 _).size) ?_; intro v2 w2 hown2 hgr2; have hb2 : Below wr.heap.size wr w2 := own_bel (by ((repeat (first | (with_reducible exact Below.refl _ _) | (with_reducible assumption) | (with_reducible refine below_alloc ?_ _) | (with_reducible refine below_drew ?_) | (with_reducible refine below_drewN ?_ _) | (with_reducible refine below_step ?_ (by with_reducible assumption)))); done)) (own_later hown1 (by first | exact Below.refl _ _ | exact below_alloc (Below.refl _ _) _)) hgr2) | (refine step_if (.tmp 53) (.tmp 56) 22 ?_ ?_; (focus rfl); refine step_app (by rfl) (.tmp 53) (.tmp 56) 22 (by rfl) wr.heap.size 3 (.int .i64 0) 1 8 Try.underlying22 info_int rfl (by decide) _ (0 + j + 1) ([] ++ T ++ [.int .i64 z]) (by rfl) hown2 _ (lo - j) (co - j) D (by rfl) (by intro h; first | (split at h <;> cases h) | (have := HCO.out; omega)) HLD.out (HCD.out.later hb2) HD1.out (by unfold maxLen; omega) (by omega) hb2.size ?_; intro v3 w3 hown3 hgr3; have hb3 : Below wr.heap.size wr w3 := own_bel hb2 hown2 hgr3))
                  all_goals
                    go_wp2_with fail
                    go_roundw
                    case rel =>
                      refine ⟨k + 1, by omega, by go_num, ?_, below_step hbr hb3⟩
                      rw [HP.out]
                      unfold OwnInts
                      rw [HPN.out, ← HPV.out]
                      exact own_mono hown3 hwz
                    case measure => simp [intOf]; omega
                · obtain ⟨rfl, -, -⟩ : ao = some ⟨g, 0, none⟩ ∧ lo = X.length ∧ co = c9 := by simpa using hv
                  have hct : CellRow wr (some ⟨g, 0, none⟩) ((X.take j).map (Value.int .i64)) := by have := h94.part 0 j; rw [List.map_take]; exact this
                  have hcd : CellRow wr (if co = j then some ⟨g, 0, none⟩ else some ⟨g, j, none⟩) (((X.drop j).take (lo - j)).map (Value.int .i64)) := by rw [hnil]; exact CellRow.nil _ _
                  have d2 : decide (j < lo) = false := by simpa using hjo
                  clear hv h91 h92 h93 h94 hnil hjo
                  have HCT := Lib.hid hct
                  have HCD := Lib.hid hcd
                  have s3 : (j : Int) ≤ (co : Int) := by omega
                  have s4 : (lo : Int) ≤ (co : Int) := by omega
                  have s5 : (j : Int) ≤ (lo : Int) := by omega
                  have hwz := hbr.size
                  have HQ2 : Hid (cPut X z = X.take j ++ [z] ++ (X.drop j).take (lo - j)) := Lib.hid (by rw [HQ.out, List.take_of_length_le (i := lo - j) (l := X.drop j) (by rw [List.length_drop, HLX.out]; omega)])
                  have HLT : Hid (((X.take j).map (Value.int .i64)).length = j * 1) := Lib.hid (by rw [List.length_map, List.length_take, HLX.out]; omega)
                  have HLD : Hid ((((X.drop j).take (lo - j)).map (Value.int .i64)).length = (lo - j) * 1) := Lib.hid (by rw [List.length_map, List.length_take, List.length_drop, HLX.out]; omega)
                  have HT1 : Hid (∀ u ∈ (X.take j).map (Value.int .i64), u.oneCell' = true) := Lib.hid (fun u hu => one_int u _ hu)
                  have HZ1 : Hid (∀ u ∈ [Value.int .i64 z], u.oneCell' = true) := Lib.hid (fun u hu => one_int u [z] hu)
                  have HD1 : Hid (∀ u ∈ ((X.drop j).take (lo - j)).map (Value.int .i64), u.oneCell' = true) := Lib.hid (fun u hu => one_int u _ hu)
                  have HPN : Hid ((cPut X z).length = 0 + j + 1 + (lo - j)) := Lib.hid (by rw [HQ.out, List.length_append, List.length_append, List.length_take, List.length_drop, HLX.out]; simp; omega)
                  have HPV : Hid ([] ++ (X.take j).map (Value.int .i64) ++ [Value.int .i64 z] ++ ((X.drop j).take (lo - j)).map (Value.int .i64) = (cPut X z).map (Value.int .i64)) := Lib.hid (by rw [HQ2.out]; simp)
                  clear hct hcd HQ HQ2 HRO HO HB
                  generalize ((X.drop j).take (lo - j)).map (Value.int .i64) = D at *
                  generalize (X.take j).map (Value.int .i64) = T at *
                  go_wp2_with (go_at_call 30; refine (ref_Index _ _).mono ?_; rintro e wq ⟨rfl, hq⟩; obtain rfl := hq.symm)
                  go_region_held3 (fun wx => Below wr.heap.size wr wx ∧ wx.cell? ⟨b, off + k, none⟩ = some (.int .i64 z)) ((refine ⟨?_, ?_⟩; (repeat (first | (with_reducible exact Below.refl _ _) | (with_reducible assumption) | (with_reducible refine below_alloc ?_ _) | (with_reducible refine below_drew ?_) | (with_reducible refine below_drewN ?_ _) | (with_reducible refine below_step ?_ (by with_reducible assumption)))); all_goals (refine cell_later (w := wr) ?_ ?_ <;> (repeat (first | (with_reducible exact Below.refl _ _) | (with_reducible assumption) | (with_reducible refine below_alloc ?_ _) | (with_reducible refine below_drew ?_) | (with_reducible refine below_drewN ?_ _) | (with_reducible refine below_step ?_ (by with_reducible assumption))))))) (first | (refine step_if (.tmp 43) (.tmp 46) 22 ?_ ?_; (focus rfl); refine step_app (by rfl) (.tmp 43) (.tmp 46) 22 (by rfl) wr.heap.size 3 (.int .i64 0) 1 8 Try.underlying22 info_int rfl (by decide) _ 0 [] (by rfl) (by (first | (refine own_built_at (w := wr) _ _ [] ?_ ?_ ?_ <;> (first | omega | (simp; done) | ((repeat (first | (with_reducible exact Below.refl _ _) | (with_reducible assumption) | (with_reducible refine below_alloc ?_ _) | (with_reducible refine below_drew ?_) | (with_reducible refine below_drewN ?_ _) | (with_reducible refine below_step ?_ (by with_reducible assumption)))); done))) | (refine own_later (w := wr.alloc (.cells #[] 3)) (own_built_at (w := wr) _ _ [] ?_ ?_ ?_) ?_ <;> (first | omega | (simp; done) | ((repeat (first | (with_reducible exact Below.refl _ _) | (with_reducible assumption) | (with_reducible refine below_alloc ?_ _) | (with_reducible refine below_drew ?_) | (with_reducible refine below_drewN ?_ _) | (with_reducible refine below_step ?_ (by with_reducible assumption)))); done))) | (refine own_built_at (w := wr.alloc _) _ _ [] ?_ ?_ ?_ <;> (first | omega | (simp; done) | ((repeat (first | (with_reducible exact Below.refl _ _) | (with_reducible assumption) | (with_reducible refine below_alloc ?_ _) | (with_reducible refine below_drew ?_) | (with_reducible refine below_drewN ?_ _) | (with_reducible refine below_step ?_ (by with_reducible assumption)))); done))))) _ j co T (by rfl) (by intro h; first | (cases h; done) | (have := HCO.out; omega)) HLT.out (HCT.out.later (by ((repeat (first | (with_reducible exact Below.refl _ _) | (with_reducible assumption) | (with_reducible refine below_alloc ?_ _) | (with_reducible refine below_drew ?_) | (with_reducible refine below_drewN ?_ _) | (with_reducible refine below_step ?_ (by with_reducible assumption)))); done))) HT1.out (by unfold maxLen; omega) (by omega) (by first | (simp; done) | (simp; omega)) ?_; intro v1 w1 hown1 hgr1; have hb1 : Below wr.heap.size wr w1 := own_bel (by ((repeat (first | (with_reducible exact Below.refl _ _) | (with_reducible assumption) | (with_reducible refine below_alloc ?_ _) | (with_reducible refine below_drew ?_) | (with_reducible refine below_drewN ?_ _) | (with_reducible refine below_step ?_ (by with_reducible assumption)))); done)) (by (first | (refine own_built_at (w := wr) _ _ [] ?_ ?_ ?_ <;> (first | omega | (simp; done) | ((repeat (first | (with_reducible exact Below.refl _ _) | (with_reducible assumption) | (with_reducible refine below_alloc ?_ _) | (with_reducible refine below_drew ?_) | (with_reducible refine below_drewN ?_ _) | (with_reducible refine below_step ?_ (by with_reducible assumption)))); done))) | (refine own_later (w := wr.alloc (.cells #[] 3)) (own_built_at (w := wr) _ _ [] ?_ ?_ ?_) ?_ <;> (first | omega | (simp; done) | ((repeat (first | (with_reducible exact Below.refl _ _) | (with_reducible assumption) | (with_reducible refine below_alloc ?_ _) | (with_reducible refine below_drew ?_) | (with_reducible refine below_drewN ?_ _) | (with_reducible refine below_step ?_ (by with_reducible assumption)))); done))) | (refine own_built_at (w := wr.alloc _) _ _ [] ?_ ?_ ?_ <;> (first | omega | (simp; done) | ((repeat (first | (with_reducible exact Below.refl _ _) | (with_reducible assumption) | (with_reducible refine below_alloc ?_ _) | (with_reducible refine below_drew ?_) | (with_reducible refine below_drewN ?_ _) | (with_reducible refine below_step ?_ (by with_reducible assumption)))); done)))) : World.ownsRow _ _ 3 1 _ 0 []) hgr1; (first | (refine with_fact (T := CellRow w1 (some ⟨wr.heap.size + 1, 0, none⟩) [.int .i64 z]) (CellRow.grown hgr1 (CellRow.later (w := (wr.alloc (.cells #[] 3)).alloc (.cells #[.int .i64 z] 3)) (CellRow.at (w := wr.alloc (.cells #[] 3)) [.int .i64 z] _ ?_) ?_) ?_) (fun hq1 => ?_); (focus (simp; done)); (focus ((repeat (first | (with_reducible exact Below.refl _ _) | (with_reducible assumption) | (with_reducible refine below_alloc ?_ _) | (with_reducible refine below_drew ?_) | (with_reducible refine below_drewN ?_ _) | (with_reducible refine below_step ?_ (by with_reducible assumption)))); done)); (focus (change some (wr.heap.size + 1) ≠ (Value.slice (some ⟨wr.heap.size, 0, none⟩) 0 0).ownBlock; simp [Value.ownBlock]; done))) | (refine with_fact (T := CellRow w1 (some ⟨wr.heap.size, 0, none⟩) [.int .i64 z]) (CellRow.grown hgr1 (CellRow.later (w := wr.alloc (.cells #[.int .i64 z] 3)) (CellRow.at (w := wr) [.int .i64 z] _ rfl) ?_) ?_) (fun hq1 => ?_); (focus ((repeat (first | (with_reducible exact Below.refl _ _) | (with_reducible assumption) | (with_reducible refine below_alloc ?_ _) | (with_reducible refine below_drew ?_) | (with_reducible refine below_drewN ?_ _) | (with_reducible refine below_step ?_ (by with_reducible assumption)))); done)); (focus (change some wr.heap.size ≠ (Value.slice (some ⟨wr.heap.size + 1, 0, none⟩) 0 0).ownBlock; simp [Value.ownBlock]; done))) | skip)) | (refine step_if (.tmp 47) (.tmp 52) 22 ?_ ?_; (focus rfl); refine step_app (by rfl) (.tmp 47) (.tmp 52) 22 (by rfl) wr.heap.size 3 (.int .i64 0) 1 8 Try.underlying22 info_int rfl (by decide) _ (0 + j) ([] ++ T) (by rfl) (own_later hown1 (by first | exact Below.refl _ _ | exact below_alloc (Below.refl _ _) _)) _ 1 _ [.int .i64 z] (by rfl) (fun h => by cases h) rfl (by first | exact hq1 | exact CellRow.at (w := w1) _ _ rfl) HZ1.out (by unfold maxLen; omega) (by omega) (by first | exact hb1.size | exact (below_alloc hb1 _).size) ?_; intro v2 w2 hown2 hgr2; have hb2 : Below wr.heap.size wr w2 := own_bel (by ((repeat (first | (with_reducible exact Below.refl _ _) | (with_reducible assumption) | (with_reducible refine below_alloc ?_ _) | (with_reducible refine below_drew ?_) | (with_reducible refine below_drewN ?_ _) | (with_reducible refine below_step ?_ (by with_reducible assumption)))); done)) (own_later hown1 (by first | exact Below.refl _ _ | exact below_alloc (Below.refl _ _) _)) hgr2) | (refine step_if (.tmp 53) (.tmp 56) 22 ?_ ?_; (focus rfl); refine step_app (by rfl) (.tmp 53) (.tmp 56) 22 (by rfl) wr.heap.size 3 (.int .i64 0) 1 8 Try.underlying22 info_int rfl (by decide) _ (0 + j + 1) ([] ++ T ++ [.int .i64 z]) (by rfl) hown2 _ (lo - j) (co - j) D (by rfl) (by intro h; first | (split at h <;> cases h) | (have := HCO.out; omega)) HLD.out (HCD.out.later hb2) HD1.out (by unfold maxLen; omega) (by omega) hb2.size ?_; intro v3 w3 hown3 hgr3; have hb3 : Below wr.heap.size wr w3 := own_bel hb2 hown2 hgr3))
                  all_goals
                    go_wp2_with fail
                    go_roundw
                    case rel =>
                      refine ⟨k + 1, by omega, by go_num, ?_, below_step hbr hb3⟩
                      rw [HP.out]
                      unfold OwnInts
                      rw [HPN.out, ← HPV.out]
                      exact own_mono hown3 hwz
                    case measure => simp [intOf]; omega
        · have HE : Hid (cNorm (xs.take (k + 1)) = X) := Lib.hid (by rw [HS.out]; unfold cStep; rw [if_pos (Or.inr hh)])
          have HH := Lib.hid hh
          clear hz hh
          go_wp2_with (first | (go_at_call 30; refine (ref_Index _ _).mono ?_; rintro e wq ⟨rfl, hq⟩; obtain rfl := hq.symm) | (go_at_call 27; refine (ref_HasB _ _ _ X _ _ _ HRO.out HH.out).mono ?_; rintro e wq ⟨rfl, hq⟩; obtain rfl := hq.symm))
          go_roundw
          case rel => exact ⟨k + 1, by omega, by go_num, by rw [HE.out]; exact HO.out, hbr⟩
          case measure => simp [intOf]; omega
    · have hkn : k = len := by omega
      subst hkn
      have HO := Lib.hid hl
      clear hl
      go_wp2_with fail
      go_ret
      exact ⟨_, rfl, by rw [← HT.out]; exact HO.out, hbr⟩
end Go.Proofs.Ytcifneenbdibeaa
