/- The contracts of the reference's Without, Resolve and Check. -/
import Derived.Test.YtcifneenbdibeaaClaS
import Derived.Test.YtcifneenbdibeaaClaO
import Derived.Deep.RegionHeld3
namespace Go.Proofs.Ytcifneenbdibeaa
open Go.RowKit
set_option linter.unusedVariables false
set_option linter.unusedSimpArgs false

theorem without_snoc (n : List Int) (k : Nat) (l : Int) (h : k < n.length) : (n.take (k + 1)).filter (· != l) = (n.take k).filter (· != l) ++ if n.getD k 0 = l then [] else [n.getD k 0] := by
  rw [take_snoc n k h, List.filter_append, List.filter_cons, List.filter_nil]
  by_cases h : n.getD k 0 = l <;> simp [h]
set_option maxRecDepth 100000 in
set_option maxHeartbeats 1000000 in
theorem ref_Without02 (a : Option Addr) (len cap : Nat) (xs : List Int) (l : Int) (w : World) (hr : IntRow w a len xs) (hlen : len ≤ 100000) :
    Calls Try.prog 21 #[.slice a len cap, .int .i64 l] w fun e w' => ∃ v, e = .returned v ∧ OwnInts w' w.heap.size v (cWithout xs l) ∧ Below w.heap.size w w' := by
  have HL := Lib.hid hr.1
  have hcon := ref_Norm02 a len cap xs w hr hlen
  have HCON := Lib.hid hcon
  have HW : Hid (cWithout xs l = (cNorm xs).filter (· != l)) := Lib.hid rfl
  have HCL : Hid ((cNorm xs).length ≤ len) := Lib.hid (by have := cNorm_len xs; rw [hr.1] at this; exact this)
  clear hcon hr
  go_enter Try.func21, Try.ntmps21
  go_wp2_with fail
  refine HCON.out.mono ?_
  rintro e w1 ⟨v1, rfl, hown, hb1⟩
  have hcl := HCL.out
  generalize cNorm xs = X at *
  obtain ⟨an, ln, cn, rfl, hn1, hn2, hrn⟩ := hown.ints
  have HRN := Lib.hid hrn
  have HLN := Lib.hid hrn.1
  rw [hrn.1] at hcl
  have hs1 := hb1.size
  clear hown hrn
  go_wp2_with fail
  go_loopw [6, 7] (fun v i wr => ∃ k : Nat, k ≤ ln ∧ i = .int .i64 k ∧ OwnInts wr w1.heap.size v ((X.take k).filter (· != l)) ∧ Below w1.heap.size w1 wr) (fun _ i _ => ln - (intOf i).toNat)
  case atStart => exact ⟨0, Nat.zero_le _, rfl, OwnInts.nil _ _, Below.refl _ _⟩
  case round =>
    obtain ⟨k, hk, rfl, hl, hbr⟩ := hrel
    have t1 : (0 : Int) ≤ (k : Int) := by omega
    by_cases hlt : k < ln
    · have hra := HRN.out.later hbr
      obtain ⟨b, off, rfl, hc⟩ := hra.2.2 (by omega)
      have hck := hc k hlt
      have t2 : (k : Int) < (ln : Int) := by omega
      have HS := Lib.hid (without_snoc X k l (by rw [HLN.out]; exact hlt))
      have hxl : ((X.take k).filter (· != l)).length ≤ k := Nat.le_trans (List.length_filter_le _ _) (List.length_take_le _ _)
      clear hc hra
      generalize X.getD k 0 = z at *
      by_cases he : z = l
      · have d1 : (z != l) = false := by simpa using he
        have HE : Hid ((X.take (k + 1)).filter (· != l) = (X.take k).filter (· != l)) := Lib.hid (by rw [HS.out, if_pos he, List.append_nil])
        have HO := Lib.hid hl
        clear hl he HS
        go_wp2_with fail
        go_roundw
        case rel => exact ⟨k + 1, by omega, by go_num, by rw [HE.out]; exact HO.out, hbr⟩
        case measure => simp [intOf]; omega
      · have d1 : (z != l) = true := by simpa using he
        have HE : Hid ((X.take (k + 1)).filter (· != l) = (X.take k).filter (· != l) ++ [z]) := Lib.hid (by rw [HS.out, if_neg he])
        clear he HS
        generalize hXX : (X.take k).filter (· != l) = XX at *
        have HX := Lib.hid hXX
        generalize hN : XX.length = N at *
        have HN := Lib.hid hN
        unfold OwnInts at hl
        rw [hN] at hl
        have hsz := hbr.size
        clear hXX hN
        go_wp2_with (at_builtin; refine wpList_app rfl _ _ 22 rfl w1.heap.size 3 (.int .i64 0) 1 8 Try.underlying22 info_int rfl (by decide) _ _ _ rfl (hl.alloc _) (some ⟨wr.heap.size, 0, none⟩) 1 1 [.int .i64 (z)] rfl ?c0 rfl ?c1 ?c2 ?c3 ?c4 ?c5 ?_)
        (case c0 => exact fun h => by cases h); (case c1 => exact CellRow.made wr _ _); (case c2 => intro u hu; simp at hu; subst hu; rfl); (case c3 => unfold maxLen; omega); (case c4 => omega); (case c5 => simp; omega)
        intro v' w2 hown1 hgr
        obtain ⟨hnew, hbw⟩ := OwnInts.push (w := w1) (wr := wr) HN.out hbr hl _ hown1 hgr
        clear hown1 hgr hl
        go_wp2_with fail
        go_roundw
        case rel => exact ⟨k + 1, by omega, by go_num, by rw [HE.out]; exact hnew, hbw⟩
        case measure => simp [intOf]; omega
    · have hkn : k = ln := by omega
      subst hkn
      rw [List.take_of_length_le (by rw [HLN.out]; exact Nat.le_refl _), ← HW.out] at hl
      have HO := Lib.hid hl
      clear hl
      go_wp2_with fail
      go_ret
      exact ⟨_, rfl, HO.out.mono hs1, below_step hb1 hbr⟩
set_option maxRecDepth 100000 in
set_option maxHeartbeats 1000000 in
theorem ref_Resolve02 (a : Option Addr) (len cap : Nat) (xs : List Int) (a2 : Option Addr) (len2 cap2 : Nat) (ys : List Int) (l : Int) (w : World) (hr : IntRow w a len xs) (hr2 : IntRow w a2 len2 ys) (hlen : len ≤ 1000) (hlen2 : len2 ≤ 1000) :
    Calls Try.prog 23 #[.slice a len cap, .slice a2 len2 cap2, .int .i64 l] w (ResPost xs ys l w) := by
  have HR := Lib.hid hr
  have HR2 := Lib.hid hr2
  by_cases hz : lvar l = 0
  · have HE : Hid (cResE xs ys l = 10) := Lib.hid (by unfold cResE; rw [if_pos hz])
    have HN : Hid (cRes xs ys l = []) := Lib.hid (res_none (by rw [HE.out]; decide))
    have d1 : decide (lindex l < 0) = true := by unfold lindex; rw [if_pos hz]; rfl
    clear hz hr hr2
    go_enter Try.func23, Try.ntmps23
    go_wp2_with (go_at_call 30; refine (ref_Index _ _).mono ?_; rintro e wq ⟨rfl, hq⟩; obtain rfl := hq.symm)
    go_ret2
    exact ⟨_, ret_v_int HE.out.symm, by rw [HN.out]; exact OwnInts.nil _ _, Below.refl _ _⟩
  · have d1 : decide (lindex l < 0) = false := by have := lvar_bd l; rw [lvar_pos hz]; split <;> simp <;> omega
    have e1 := neg_lit2 hz
    have HZ := Lib.hid hz
    cases h1 : cHas xs l
    · have HE : Hid (cResE xs ys l = 11) := Lib.hid (by unfold cResE; rw [if_neg hz, h1]; rfl)
      have HN : Hid (cRes xs ys l = []) := Lib.hid (res_none (by rw [HE.out]; decide))
      have H1 := Lib.hid h1
      clear hz hr hr2 h1
      go_enter Try.func23, Try.ntmps23
      go_wp2_with (first | (go_at_call 30; refine (ref_Index _ _).mono ?_; rintro e wq ⟨rfl, hq⟩; obtain rfl := hq.symm) | (go_at_call 14; refine (ref_Has02 _ _ _ xs _ _ HR.out).mono ?_; rintro e wq ⟨rfl, hq⟩; obtain rfl := hq.symm; rw [H1.out]))
      go_ret2
      exact ⟨_, ret_v_int HE.out.symm, by rw [HN.out]; exact OwnInts.nil _ _, Below.refl _ _⟩
    · cases h2 : cHas ys (-l)
      · have HE : Hid (cResE xs ys l = 11) := Lib.hid (by unfold cResE; rw [if_neg hz, h1, h2]; rfl)
        have HN : Hid (cRes xs ys l = []) := Lib.hid (res_none (by rw [HE.out]; decide))
        have H1 := Lib.hid h1
        have H2 := Lib.hid h2
        clear hz hr hr2 h1 h2
        go_enter Try.func23, Try.ntmps23
        go_wp2_with (go_at_call 30; refine (ref_Index _ _).mono ?_; rintro e wq ⟨rfl, hq⟩; obtain rfl := hq.symm)
        refine (ref_Has02 _ _ _ xs _ _ HR.out).mono ?_
        rintro e wq ⟨rfl, hq⟩
        obtain rfl := hq.symm
        rw [H1.out]
        go_wp2_with fail
        refine (ref_Has02 _ _ _ ys _ _ HR2.out).mono ?_
        rintro e wq ⟨rfl, hq⟩
        obtain rfl := hq.symm
        rw [H2.out]
        go_wp2_with fail
        go_ret2
        exact ⟨_, ret_v_int HE.out.symm, by rw [HN.out]; exact OwnInts.nil _ _, Below.refl _ _⟩
      · have HE : Hid (cResE xs ys l = 0) := Lib.hid (by unfold cResE; rw [if_neg hz, h1, h2]; rfl)
        have HN : Hid (cRes xs ys l = cNorm (cWithout xs l ++ cWithout ys (-l))) := Lib.hid (by unfold cRes; rw [if_pos HE.out])
        have H1 := Lib.hid h1
        have H2 := Lib.hid h2
        have hl1 := cWithout_len xs l
        have hl2 := cWithout_len ys (-l)
        rw [hr.1] at hl1
        rw [hr2.1] at hl2
        clear hz hr hr2 h1 h2
        have HL1 := Lib.hid hl1
        have HL2 := Lib.hid hl2
        clear hl1 hl2
        go_enter Try.func23, Try.ntmps23
        go_wp2_with (go_at_call 30; refine (ref_Index _ _).mono ?_; rintro e wq ⟨rfl, hq⟩; obtain rfl := hq.symm)
        refine (ref_Has02 _ _ _ xs _ _ HR.out).mono ?_
        rintro e wq ⟨rfl, hq⟩
        obtain rfl := hq.symm
        rw [H1.out]
        go_wp2_with fail
        refine (ref_Has02 _ _ _ ys _ _ HR2.out).mono ?_
        rintro e wq ⟨rfl, hq⟩
        obtain rfl := hq.symm
        rw [H2.out]
        go_wp2_with fail
        refine (ref_Without02 _ _ _ xs _ _ HR.out (by omega)).mono ?_
        rintro e w1 ⟨v1, rfl, hown1, hb1⟩
        have HO1 := Lib.hid hown1
        clear hown1
        go_wp2_with fail
        refine (ref_Without02 _ _ _ ys _ _ (HR2.out.later hb1) (by omega)).mono ?_
        rintro e w2 ⟨v2, rfl, hown2, hb2⟩
        have hb12 := below_step hb1 hb2
        have hs1 := hb1.size
        have hs2 := hb2.size
        obtain ⟨a3, c3, rfl, h31, h32, h33, h34⟩ := own_cells (show World.ownsRow _ _ _ _ _ _ _ from hown2)
        have ho1 : World.ownsRow w2 w.heap.size 3 1 v1 _ _ := own_later HO1.out hb2
        generalize hX : cWithout xs l = X at *
        generalize hY : cWithout ys (-l) = Y at *
        have hx1 := HL1.out
        have hy1 := HL2.out
        have HY1 : Hid (∀ u ∈ Y.map (Value.int .i64), u.oneCell' = true) := Lib.hid (fun u hu => one_int u _ hu)
        have HX := Lib.hid hX
        have HY := Lib.hid hY
        generalize hNX : X.length = NX at *
        generalize hNY : Y.length = NY at *
        have HNX := Lib.hid hNX
        have HNY := Lib.hid hNY
        clear hX hY hown2 hNX hNY
        go_wp2_with (at_builtin; refine wpList_app rfl _ _ 22 rfl w.heap.size 3 (.int .i64 0) 1 8 Try.underlying22 info_int rfl (by decide) v1 NX (X.map (Value.int .i64)) rfl ho1 a3 NY c3 (Y.map (Value.int .i64)) rfl h33 ?c1 h34 HY1.out ?c3 ?c4 ?c5 ?_)
        case c1 => rw [List.length_map, HNY.out]; omega
        case c3 => unfold maxLen; omega
        case c4 => omega
        case c5 => omega
        intro v' w3 hown3 hgr3
        have hb3 : Below w.heap.size w w3 := own_bel hb12 ho1 hgr3
        have hown : OwnInts w3 w.heap.size v' (X ++ Y) := by
          unfold OwnInts
          rw [List.length_append, List.map_append, HNX.out, HNY.out]
          exact hown3
        obtain ⟨a4, l4, c4, rfl, h41, h42, hr4⟩ := hown.ints
        have hl4 : l4 ≤ 2000 := by rw [← hr4.1, List.length_append, HNX.out, HNY.out]; omega
        have hcon := ref_Norm02 a4 l4 c4 (X ++ Y) w3 hr4 (by omega)
        have HCON := Lib.hid hcon
        have hs3 := hb3.size
        clear hcon hown hown3 hgr3 ho1 hr4
        go_wp2_with fail
        refine HCON.out.mono ?_
        rintro e w4 ⟨v4, rfl, hown4, hb4⟩
        go_wp2_with fail
        go_ret2
        exact ⟨_, ret_v_int HE.out.symm, by rw [HN.out]; exact hown4.mono hs3, below_step hb3 hb4⟩

theorem nodup_step {xs : List Int} {k : Nat} (h : k < xs.length) (hn : (xs.take k).Nodup) (hh : lhas (xs.take k) (xs.getD k 0) = false) : (xs.take (k + 1)).Nodup := by
  rw [take_snoc xs k h, List.nodup_append]
  refine ⟨hn, by simp, fun a ha b hb => ?_⟩
  rw [List.mem_singleton] at hb
  subst hb
  intro e
  subst e
  rw [(lhas_mem _ _).2 ha] at hh; cases hh
theorem nodup_no {xs : List Int} {k : Nat} (h : k < xs.length) (hh : lhas (xs.take k) (xs.getD k 0) = true) : ¬ xs.Nodup := fun hn => by
  have h2 : (xs.take (k + 1)).Nodup := hn.sublist (List.take_sublist _ _)
  rw [take_snoc xs k h, List.nodup_append] at h2
  exact h2.2.2 _ ((lhas_mem _ _).1 hh) _ (List.mem_singleton.2 rfl) rfl
set_option maxRecDepth 100000 in
set_option maxHeartbeats 1000000 in
theorem ref_Check02 (a : Option Addr) (len cap : Nat) (xs : List Int) (vars : Int) (w : World) (hr : IntRow w a len xs) (hcap : len ≤ cap) : Calls Try.prog 9 #[.slice a len cap, .int .i64 vars] w fun e w' => e = .returned (.int .i64 (cCheck xs vars)) ∧ Below w.heap.size w w' := by
  by_cases hv : vars < 0 ∨ 100000 < vars
  · have HA : Hid (cCheck xs vars = 2) := Lib.hid (by unfold cCheck; rw [if_pos hv])
    rcases hv with hv | hv
    · go_enter Try.func9, Try.ntmps9
      go_wp2_with fail
      go_ret
      exact ⟨ret_int HA.out.symm, Below.refl _ _⟩
    · have h2 : ¬ vars < 0 := by omega
      go_enter Try.func9, Try.ntmps9
      go_wp2_with fail
      go_ret
      exact ⟨ret_int HA.out.symm, Below.refl _ _⟩
  · have v1 : 0 ≤ vars := by omega
    have v2 : vars ≤ 100000 := by omega
    have d1 : decide (vars < 0) = false := decide_eq_false (by omega)
    have d2 : decide (100000 < vars) = false := decide_eq_false (by omega)
    obtain ⟨hl, hm, hc⟩ := hr
    have HR : Hid (IntRow w a len xs) := Lib.hid ⟨hl, hm, hc⟩
    unfold maxLen at hm
    have HL := Lib.hid hl
    have HV := Lib.hid hv
    clear hl hc hv
    by_cases hlong : 1000 < len
    · have HA : Hid (cCheck xs vars = 3) := Lib.hid (by unfold cCheck; rw [if_neg HV.out, HL.out, if_pos hlong])
      have d3 : decide (1000 < (len : Int)) = true := by simp; omega
      have d4 : decide (1000 < len) = true := by simpa using hlong
      clear hlong
      go_enter Try.func9, Try.ntmps9
      go_wp2_with fail
      go_ret
      exact ⟨ret_int HA.out.symm, Below.refl _ _⟩
    · have hlen : len ≤ 1000 := by omega
      have d3 : decide (1000 < (len : Int)) = false := by simp; omega
      have d4 : decide (1000 < len) = false := by simpa using hlong
      clear hlong
      go_enter Try.func9, Try.ntmps9
      go_wp2_with fail
      clear d1 d2 d3 d4
      go_loop [5] (fun i => ∃ k : Nat, k ≤ len ∧ i = .int .i64 k ∧ ∀ j, j < k → lcheck (xs.getD j 0) vars = 0) (fun i => len - (intOf i).toNat)
      case atStart => exact ⟨0, Nat.zero_le _, rfl, fun j hj => by omega⟩
      case round =>
        obtain ⟨k, hk, rfl, hall⟩ := hrel
        have HALL := Lib.hid hall; clear hall
        have t1 : (0 : Int) ≤ (k : Int) := by omega
        by_cases hlt : k < len
        · obtain ⟨b, off, rfl, hcell⟩ := HR.out.2.2 (by omega)
          have hck := hcell k hlt
          have t2 : (k : Int) < (len : Int) := by omega
          have HM := Lib.hid (at_mem2 HL.out hlt)
          clear hcell
          by_cases he : lcheck (xs.getD k 0) vars = 0
          · have d3 : (lcheck (xs.getD k 0) vars != 0) = false := by simpa using he
            have HE : Hid (∀ j, j < k + 1 → lcheck (xs.getD j 0) vars = 0) := Lib.hid (fun j hj => by
              rcases Nat.lt_or_ge j k with h | h
              · exact HALL.out j h
              · rw [show j = k by omega]; exact he)
            clear he
            generalize hz : xs.getD k 0 = z at *
            clear hz
            go_wp2_with (go_at_call 26; refine (ref_Check _ _ _).mono ?_; rintro e w' ⟨rfl, rfl⟩)
            go_round
            case rel => exact ⟨k + 1, by omega, by go_num, HE.out⟩
            case measure => simp [intOf]; omega
          · have d3 : (lcheck (xs.getD k 0) vars != 0) = true := by simpa using he
            have HE : Hid (10 = cCheck xs vars) := Lib.hid (by
              rw [cCheck_bad v1 v2 (by rw [HL.out]; exact hlen) HM.out he])
            clear he
            generalize xs.getD k 0 = z at *
            go_wp2_with (go_at_call 26; refine (ref_Check _ _ _).mono ?_; rintro e w' ⟨rfl, rfl⟩)
            go_ret
            exact ⟨ret_int HE.out, Below.refl _ _⟩
        · have hkn : k = len := by omega
          subst hkn
          have HG : Hid (cCheck xs vars = if xs.Nodup then 0 else 21) := Lib.hid (cCheck_good v1 v2 (by rw [HL.out]; exact hlen) (all_at2 (p := fun x => lcheck x vars = 0) HL.out HALL.out))
          have HVV : Hid (∀ j, j < k → lvar (xs.getD j 0) ≠ 0) := Lib.hid (fun j hj => ((lcheck_ok _ _).1 (HALL.out j hj)).2.2.1)
          clear HALL hlt hk
          go_wp2_with fail
          go_loopw [6] (fun i wr => ∃ j : Nat, j ≤ k ∧ i = .int .i64 j ∧ (xs.take j).Nodup ∧ Below w.heap.size w wr) (fun i _ => k - (intOf i).toNat)
          case atStart => exact ⟨0, Nat.zero_le _, rfl, by simp, Below.refl _ _⟩
          case round =>
            obtain ⟨j, hj, rfl, hno, hb⟩ := hrel
            have HNO := Lib.hid hno
            clear hno
            have t3 : (0 : Int) ≤ (j : Int) := by omega
            by_cases hlt2 : j < k
            · have hra := HR.out.later hb
              obtain ⟨b, off, rfl, hc⟩ := hra.2.2 (by omega)
              have hck := hc j hlt2
              have t4 : (j : Int) < (k : Int) := by omega
              have hjc : j ≤ cap := by omega
              have hjc2 : (j : Int) ≤ (cap : Int) := by omega
              have HSub : Hid (∀ W, IntRow W (some ⟨b, off, none⟩) k xs → IntRow W (some ⟨b, off, none⟩) j (xs.take j)) := Lib.hid (fun W hW => by
                refine ⟨by rw [List.length_take, HL.out]; omega, by unfold maxLen; omega, fun hp => ?_⟩
                obtain ⟨b', o', e', c'⟩ := hW.2.2 (by omega)
                exact ⟨b', o', e', fun i hi => by rw [show (xs.take j).getD i 0 = xs.getD i 0 by simp [List.getD, hi]]; exact c' i (by omega)⟩)
              have HRA := Lib.hid hra
              have HY := Lib.hid (nodup_step (xs := xs) (k := j) (by rw [HL.out]; exact hlt2) HNO.out)
              have HNN := Lib.hid (nodup_no (xs := xs) (k := j) (by rw [HL.out]; exact hlt2))
              clear hra hc
              generalize xs.getD j 0 = z at *
              have hlb := World.block_lt_of_cell? wr _ hck
              dsimp only at hlb
              cases g1 : lhas (xs.take j) z
              all_goals
                have HD1 := Lib.hid g1
                clear g1
                generalize hT : xs.take j = T at *
                have HTT := Lib.hid hT
                clear hT
                go_wp2_with fail
                go_region_held3 (fun wx => Below wr.heap.size wr wx ∧ wx.cell? ⟨b, off + j, none⟩ = some (.int .i64 z)) ((refine ⟨?_, ?_⟩; (repeat (first | (with_reducible exact Below.refl _ _) | (with_reducible assumption) | (with_reducible refine below_alloc ?_ _) | (with_reducible refine below_drew ?_) | (with_reducible refine below_drewN ?_ _) | (with_reducible refine below_step ?_ (by with_reducible assumption)))); all_goals (refine cell_later (w := wr) ?_ ?_ <;> (repeat (first | (with_reducible exact Below.refl _ _) | (with_reducible assumption) | (with_reducible refine below_alloc ?_ _) | (with_reducible refine below_drew ?_) | (with_reducible refine below_drewN ?_ _) | (with_reducible refine below_step ?_ (by with_reducible assumption))))))) (first | (go_at_call 27; refine (ref_Has _ _ _ T _ _ (HSub.out _ (HRA.out.later (by (repeat (first | (with_reducible exact Below.refl _ _) | (with_reducible assumption) | (with_reducible refine below_alloc ?_ _) | (with_reducible refine below_drew ?_) | (with_reducible refine below_drewN ?_ _) | (with_reducible refine below_step ?_ (by with_reducible assumption)))))))).mono ?_; rintro e w' ⟨rfl, rfl⟩; rw [HD1.out]))
                all_goals
                  rename_i hHeld
                  have hB3 := hHeld.1
                  clear hHeld
                  go_wp2_with fail
                  first
                  | go_roundw
                    case rel => exact ⟨j + 1, by omega, by go_num, HY.out HD1.out, by (repeat (first | (with_reducible exact Below.refl _ _) | (with_reducible assumption) | (with_reducible refine below_alloc ?_ _) | (with_reducible refine below_drew ?_) | (with_reducible refine below_drewN ?_ _) | (with_reducible refine below_step ?_ (by with_reducible assumption))))⟩
                    case measure => simp [intOf]; omega
                  | (go_ret
                     exact ⟨ret_int (by rw [HG.out, if_neg (HNN.out HD1.out)]), by (repeat (first | (with_reducible exact Below.refl _ _) | (with_reducible assumption) | (with_reducible refine below_alloc ?_ _) | (with_reducible refine below_drew ?_) | (with_reducible refine below_drewN ?_ _) | (with_reducible refine below_step ?_ (by with_reducible assumption))))⟩)
            · have hjk : j = k := by omega
              subst hjk
              have HE : Hid (0 = cCheck xs vars) := Lib.hid (by
                have h := HNO.out
                rw [List.take_of_length_le (by rw [HL.out]; exact Nat.le_refl _)] at h
                rw [HG.out, if_pos h])
              go_wp2_with fail
              go_ret
              exact ⟨ret_int HE.out, hb⟩
end Go.Proofs.Ytcifneenbdibeaa
