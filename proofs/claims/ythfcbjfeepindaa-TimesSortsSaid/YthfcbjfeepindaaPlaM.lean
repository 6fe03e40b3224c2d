/- The contract of places.Most. -/
import Derived.Test.YthfcbjfeepindaaRows
import Derived.WalkKit
import Derived.WalkSpells
import Derived.WalkLawsBesides
import Derived.BigGuardPart
import Derived.Handy
import Derived.Lib.Hide
import Derived.Deep.RegionHeld3
import Derived.Deep.AppendLies
import Derived.StillTactics
import Derived.OwnWalk
import Derived.Laws.Pointers
import Derived.Test.YthfcbjfeepindaaBlk
import Derived.Test.YthfcbjfeepindaaPlaP
namespace Go.Proofs.Ythfcbjfeepindaa
open Go.RowKit
set_option linter.unusedVariables false

/-- Go's '-x' on an int. -/
def wneg (x : Int) : Int := wrap64 (-x)
theorem wneg_eq (x : Int) : IntKind.i64.wrap (-x) = wneg x := by rw [IntKind.wrap_i64]; unfold wneg wrap64; rfl

set_option maxHeartbeats 2000000 in
theorem pla_Most (a : Option Addr) (len cap : Nat) (xs : List Int) (w : World) (hr : IntRow w a len xs) (hcap : len ≤ cap) (hlen : len ≤ 1000) :
    Calls Try.prog 34 #[.slice a len cap] w fun e w' => ∃ v, e = .returned v ∧ OwnRows w' w.heap.size 0 v (most wneg xs) ∧ Below w.heap.size w w' := by
  have HR := Lib.hid hr; clear hr
  go_enter Try.func34, Try.ntmps34
  go_wp2_with fail
  go_loopw [3, 10] (fun v i wr => ∃ k : Nat, k ≤ len ∧ i = .int .i64 k ∧ OwnRows wr w.heap.size 0 v (mostUp wneg xs k) ∧ Below w.heap.size w wr) (fun _ i _ => len - (intOf i).toNat)
  case atStart => exact ⟨0, Nat.zero_le _, rfl, OwnRows.nil _ _ _, Below.refl _ _⟩
  case round =>
    obtain ⟨k, hk, rfl, hown, hb⟩ := hrel
    obtain ⟨wo, rfl⟩ : ∃ wo : World, wo = wr := ⟨_, rfl⟩
    have HL := Lib.hid HR.out.1
    by_cases hlt : k < len
    · have hr2 := HR.out.later hb
      obtain ⟨b, off, rfl, hcell⟩ := hr2.2.2 (by omega)
      have hc := hcell k hlt
      have HC := Lib.hid hcell; clear hcell hr2
      by_cases hkc : k + 1 = cap
      · have hend := mostRow_end wneg xs k (by rw [HL.out]; omega)
        have HE := Lib.hid (mostUp_succ wneg xs k)
        have HF := Lib.hid hend; clear hend
        go_wp2_with fail
        refine wp_loop_rounds 1 ?_
        rw [rounds_succ]
        go_wp2_with fail
        go_roundw
        case rel => exact ⟨k + 1, by omega, by go_num, by rw [HE.out, HF.out, List.append_nil]; exact hown, hb⟩
        case measure => simp [intOf]; omega
      · have HT := Lib.hid (mostRow_take wneg xs k)
        have HE := Lib.hid (mostUp_succ wneg xs k)
        have HM := Lib.hid (mostUp_length wneg xs k)
        have HML := Lib.hid (mostRow_length wneg xs k)
        go_wp2_with fail
        go_loopw [3, 20] (fun v i wr => ∃ j : Nat, j ≤ len - (k + 1) ∧ i = .int .i64 j ∧ OwnRows wr w.heap.size 0 v (mostUp wneg xs k ++ (mostRow wneg xs k).take j) ∧ Below w.heap.size w wr) (fun _ i _ => len - (intOf i).toNat)
        case atStart => exact ⟨0, Nat.zero_le _, rfl, by simpa using hown, hb⟩
        case round =>
          obtain ⟨j, hj, rfl, hown, hb⟩ := hrel
          by_cases hltj : j < len - (k + 1)
          · have hr3 := HR.out.later hb
            obtain ⟨_, _, e1, hcell⟩ := hr3.2.2 (by omega)
            cases e1
            have hcj := hcell (k + 1 + j) (by omega)
            rw [show off + (k + 1 + j) = off + (k + 1) + j by omega] at hcj
            clear hcell hr3
            have HT2 := Lib.hid (HT.out j (by rw [HL.out]; omega))
            obtain ⟨vs, hv1, hv2, hv3⟩ := hown
            have hm : (mostUp wneg xs k ++ (mostRow wneg xs k).take j).length ≤ 1000000 := by
              have h1 := HM.out; have h2 := HML.out; have h3 := HL.out
              rw [h3] at h1 h2
              have h4 : k * len ≤ (len - 1) * 1000 := Nat.mul_le_mul (by omega) hlen
              rw [List.length_append, List.length_take]; omega
            have hbs := hb.size
            generalize hN : (mostUp wneg xs k ++ (mostRow wneg xs k).take j).length = N at *
            have HN := Lib.hid hN; clear hN
            have HV1 := Lib.hid hv1; clear hv1
            have HV3 := Lib.hid hv3; clear hv3
            go_wp2_with (at_builtin; refine wpList_app rfl _ _ 43 rfl w.heap.size 41 (.slice none 0 0) 1 24 Try.underlying43 info_ints rfl (by decide) _ _ _ rfl ((hv2.alloc _).alloc _) (some ⟨wr.heap.size + 1, 0, none⟩) 1 1 [.slice (some ⟨wr.heap.size, 0, none⟩) 2 2] rfl ?c0 rfl ?c1 ?c2 ?c3 ?c4 ?c5 ?_)
            case c0 => exact fun h => by cases h
            case c1 => exact CellRow.made2 wr _ _ _
            case c2 => intro u hu; simp at hu; subst hu; rfl
            case c3 => unfold maxLen; omega
            case c4 => omega
            case c5 => simp; omega
            intro v' w1 hown1 hgr
            obtain ⟨hnew, hbw⟩ := OwnRows.push (xs := [wneg (xs.getD k 0), wneg (xs.getD (k + 1 + j) 0)]) (Nat.zero_le _) HN.out hb HV1.out hv2 HV3.out (by simp [maxLen]) _ hown1 hgr
            rw [List.append_assoc, ← HT2.out] at hnew
            clear hown1 hgr hv2 hb
            go_wp2_with fail
            go_roundw
            case rel => exact ⟨j + 1, by omega, by go_num, hnew, hbw⟩
            case measure => simp [intOf]; omega
          · have hjj : j = len - (k + 1) := by omega
            have HJ := Lib.hid hjj; clear hjj
            go_wp2_with fail
            go_roundw
            case rel => exact ⟨k + 1, by omega, by go_num, by rw [HE.out]; rwa [List.take_of_length_le (by rw [HML.out, HL.out, HJ.out]; omega)] at hown, hb⟩
            case measure => simp [intOf]; omega
    · have hkk : k = len := by omega
      have HK := Lib.hid hkk; clear hkk
      go_wp2_with fail
      go_ret
      refine ⟨_, rfl, ?_, hb⟩
      unfold most; rw [HL.out, ← HK.out]; exact hown

theorem mostRow_at (neg : Int → Int) (xs : List Int) (k j : Nat) (h1 : k < j) (h : j < xs.length) : (mostRow neg xs k).take (j + 1 - (k + 1)) = (mostRow neg xs k).take (j - (k + 1)) ++ [[neg (xs.getD k 0), neg (xs.getD j 0)]] := by
  have := mostRow_take neg xs k (j - (k + 1)) (by omega)
  rw [show j - (k + 1) + 1 = j + 1 - (k + 1) by omega, show k + 1 + (j - (k + 1)) = j by omega] at this
  exact this

set_option maxRecDepth 100000 in
set_option maxHeartbeats 2000000 in
theorem ref_Most32 (a : Option Addr) (len cap : Nat) (xs : List Int) (w : World) (hr : IntRow w a len xs) (hlen : len ≤ 1000) :
    Calls Try.prog 35 #[.slice a len cap] w fun e w' => ∃ v, e = .returned v ∧ OwnRows w' w.heap.size 0 v (most wneg xs) ∧ Below w.heap.size w w' := by
  have HR := Lib.hid hr; clear hr
  go_enter Try.func35, Try.ntmps35
  go_wp2_with fail
  go_loopw [3, 4] (fun v i wr => ∃ k : Nat, k ≤ len ∧ i = .int .i64 k ∧ OwnRows wr w.heap.size 0 v (mostUp wneg xs k) ∧ Below w.heap.size w wr) (fun _ i _ => len - (intOf i).toNat)
  case atStart => exact ⟨0, Nat.zero_le _, rfl, OwnRows.nil _ _ _, Below.refl _ _⟩
  case round =>
    obtain ⟨k, hk, rfl, hown, hb⟩ := hrel
    obtain ⟨wo, rfl⟩ : ∃ wo : World, wo = wr := ⟨_, rfl⟩
    have HL := Lib.hid HR.out.1
    by_cases hlt : k < len
    · have HT := Lib.hid (mostRow_at wneg xs k)
      have HE := Lib.hid (mostUp_succ wneg xs k)
      have HM := Lib.hid (mostUp_length wneg xs k)
      have HML := Lib.hid (mostRow_length wneg xs k)
      go_wp2_with fail
      go_loopw [3, 5] (fun v i wr => ∃ j : Nat, k + 1 ≤ j ∧ j ≤ len ∧ i = .int .i64 j ∧ OwnRows wr w.heap.size 0 v (mostUp wneg xs k ++ (mostRow wneg xs k).take (j - (k + 1))) ∧ Below w.heap.size w wr) (fun _ i _ => len - (intOf i).toNat)
      case atStart => exact ⟨k + 1, Nat.le_refl _, hlt, by go_num, by simpa using hown, hb⟩
      case round =>
        obtain ⟨j, hj1, hj, rfl, hown, hb⟩ := hrel
        by_cases hltj : j < len
        · have hr3 := HR.out.later hb
          obtain ⟨b, off, rfl, hcell⟩ := hr3.2.2 (by omega)
          have HB : Hid (b < w.heap.size) := by
            obtain ⟨b', off', e1, h1⟩ := HR.out.2.2 (by omega)
            cases e1
            exact World.block_lt_of_cell? w _ (h1 0 (by omega))
          have hck := hcell k hlt
          have hcj := hcell j hltj
          clear hcell hr3
          have HT2 := Lib.hid (HT.out j (by omega) (by rw [HL.out]; exact hltj))
          obtain ⟨vs, hv1, hv2, hv3⟩ := hown
          have hm : (mostUp wneg xs k ++ (mostRow wneg xs k).take (j - (k + 1))).length ≤ 1000000 := by
            have h1 := HM.out; have h2 := HML.out; have h3 := HL.out
            rw [h3] at h1 h2
            have h4 : k * len ≤ (len - 1) * 1000 := Nat.mul_le_mul (by omega) hlen
            rw [List.length_append, List.length_take]; omega
          have hbs := hb.size
          generalize hN : (mostUp wneg xs k ++ (mostRow wneg xs k).take (j - (k + 1))).length = N at *
          have HN := Lib.hid hN; clear hN
          have HV1 := Lib.hid hv1; clear hv1
          have HV3 := Lib.hid hv3; clear hv3
          go_wp2_with fail
          have t1 : (0 : Int) ≤ (k : Int) := by omega
          have t2 : (k : Int) < (len : Int) := by omega
          have t3 : (0 : Int) ≤ (j : Int) := by omega
          have t4 : (j : Int) < (len : Int) := by omega
          obtain ⟨i0, hi0, hz0, hz1, hz2⟩ := info_parts info_ints
          have hlb := World.block_lt_of_cell? wr _ hck
          dsimp only at hlb
          have ag : u3.ownBlock ≠ some b := own_ne_old hv2 (HB.out)
          go_region_held3 (fun wx => wx.cell? ⟨b, off + k, none⟩ = some (.int .i64 (xs.getD k 0)) ∧ wx.cell? ⟨b, off + j, none⟩ = some (.int .i64 (xs.getD j 0)))
            (first | (refine ⟨keep_grown hgr ?_ (Ne.symm ag), keep_grown hgr ?_ (Ne.symm ag)⟩ <;> (first | assumption | (go_keep; done))) | go_keep)
            ((refine step_append_lies _ (by rfl) _ _ _ (by rfl) w.heap.size 41 i0 _ 1 24 Try.underlying43 hi0 hz0 hz1 hz2 rfl (by omega) u3 N vs (by rfl) (((hv2.alloc _).alloc _).drew) ⟨wr.heap.size + 1, 0, none⟩ 1 1 [.slice (some ⟨wr.heap.size, 0, none⟩) 2 2] (by rfl) (by rfl) (World.news_of_block (cs := #[.slice (some ⟨wr.heap.size, 0, none⟩) 2 2]) (t := 41) (fr := (0, 0)) (Blk.at (wr.alloc _) _ _ (by simp))) (by simp [Value.oneCell']) (by omega) (by unfold maxLen; omega) (by omega) (by simp; omega) (wr.heap.size + 1 + 1) (by simp) ?_; intro gg gcap w1 hown1 hgr hat hglt))
          obtain ⟨hnew, hbw⟩ := OwnRows.push (xs := [wneg (xs.getD k 0), wneg (xs.getD j 0)]) (Nat.zero_le _) HN.out hb HV1.out hv2 HV3.out (by simp [maxLen]) _ hown1 (grown_drew (by rw [wneg_eq, wneg_eq] at hgr; exact hgr))
          rw [List.append_assoc, ← HT2.out] at hnew
          clear hown1 hgr hv2 hb
          go_wp2_with fail
          go_roundw
          case rel => exact ⟨j + 1, by omega, by omega, by go_num, hnew, hbw⟩
          case measure => simp [intOf]; omega
        · have hjj : j = len := by omega
          have HJ := Lib.hid hjj; clear hjj
          go_wp2_with fail
          go_roundw
          case rel => exact ⟨k + 1, by omega, by go_num, by rw [HE.out]; rwa [List.take_of_length_le (by rw [HML.out, HL.out, HJ.out]; omega)] at hown, hb⟩
          case measure => simp [intOf]; omega
    · have hkk : k = len := by omega
      have HK := Lib.hid hkk; clear hkk
      go_wp2_with fail
      go_ret
      refine ⟨_, rfl, ?_, hb⟩
      unfold most; rw [HL.out, ← HK.out]; exact hown
end Go.Proofs.Ythfcbjfeepindaa
