/- The contracts of states.Row and of its reference. -/
import Derived.Test.YthfcbjfeepindaaStaR
import Derived.Deep.RegionWith
namespace Go.Proofs.Ythfcbjfeepindaa
open Go.RowKit
set_option linter.unusedVariables false
set_option linter.unusedSimpArgs false

def StRowPost (o s : Int) (ml : Nat) (bs : List Bool) (w : World) (e : Ending) (w' : World) : Prop := ∃ v, e = .returned (.tuple #[v, .bool (stOk o s ml bs)]) ∧ OwnInts w' w.heap.size v (stRow o s ml bs) ∧ Below w.heap.size w w'
theorem StRowPost.no {o s : Int} {ml : Nat} {bs : List Bool} {w w' : World} {e : Ending} (h : ¬ (nOk o s ∧ (ml : Int) = nVars o s ∧ ∀ a, a < o.toNat + 1 → cntT (stB o s bs a) s.toNat = 1)) (he : e = .returned (.tuple #[.slice none 0 0, .bool false])) (hb : Below w.heap.size w w') : StRowPost o s ml bs w e w' := by
  have h1 : stOk o s ml bs = false := by unfold stOk; rw [decide_eq_false h]
  refine ⟨_, by rw [he, h1], ?_, hb⟩
  unfold stRow; rw [h1, if_neg (by decide)]; exact OwnInts.nil _ _
theorem StRowPost.yes {n m : Nat} {ml : Nat} {bs : List Bool} {w w' : World} {e : Ending} {v : Value} (hok : nOk n m) (hml : (ml : Int) = nVars n m) (hall : ∀ a, a < n + 1 → cntT (stB n m bs a) m = 1) (he : e = .returned (.tuple #[v, .bool true])) (hv : OwnInts w' w.heap.size v (stRows n m bs (n + 1))) (hb : Below w.heap.size w w') : StRowPost n m ml bs w e w' := by
  have h1 : stOk n m ml bs = true := by unfold stOk; rw [decide_eq_true]; exact ⟨hok, hml, by simpa using hall⟩
  refine ⟨_, by rw [he, h1], ?_, hb⟩
  unfold stRow; rw [h1, if_pos rfl]; simpa using hv

theorem ref_State (n m a b : Nat) (w : World) (hok : nOk n m) (h1 : a < n + 1) (h2 : b < m) : Calls Try.prog 92 #[.int .i64 n, .int .i64 m, .int .i64 a, .int .i64 b] w fun e w' => e = .returned (.int .i64 (nVar n m 3 a b)) ∧ w = w' := by
  have e := stVar hok h1 h2
  have hn : n ≤ 64 ∧ m ≤ 32 := by unfold nOk at hok; omega
  have b1 := mul_bd (x := n) (y := n) (a := 64) (b := 64) (by omega) (by omega) (by omega) (by omega)
  have b2 := mul_bd (x := a) (y := m) (a := 64) (b := 32) (by omega) (by omega) (by omega) (by omega)
  have h3 : b < 32 := by omega
  rw [e]; clear e hok h1 h2
  go_enter Try.func92, Try.ntmps92
  go_wp2
  go_ret
  exact ⟨ret_int (by push_cast; rfl), rfl⟩

set_option maxHeartbeats 1000000 in
theorem ref_Row34 (o s : Int) (ma : Option Addr) (ml mc : Nat) (bs : List Bool) (w : World) (hm : BoolRow w ma ml bs) :
    Calls Try.prog 55 #[.int .i64 o, .int .i64 s, .slice ma ml mc] w (StRowPost o s ml bs w) := by
  by_cases hok : nOk o s
  · obtain ⟨n, rfl⟩ : ∃ n : Nat, o = n := ⟨o.toNat, by have := hok.1; omega⟩
    obtain ⟨m, rfl⟩ : ∃ m : Nat, s = m := ⟨s.toNat, by have := hok.2.2.1; omega⟩
    have hk : (nCheck n m != 0) = false := by rw [nCheck_yes hok]; rfl
    have hvs := stVars hok
    have hb6 := stVars_le hok
    have q1 := nOk_sq hok
    have q2 := nOk_st hok
    have hn64 : n ≤ 64 ∧ 1 ≤ m ∧ m ≤ 32 := by unfold nOk at hok; omega
    have HOK := Lib.hid hok
    by_cases hml : (ml : Int) = nVars n m
    · have hv : ((ml : Int) != (n : Int) * n + n + (n + 1) * m) = false := by rw [hml, hvs]; push_cast; simp
      have hmlN : ml = n * n + n + (n + 1) * m := by omega
      have hml6 : ml ≤ 6240 := by omega
      have HML := Lib.hid hml; have HMLN := Lib.hid hmlN
      have HM := Lib.hid hm
      clear hok hml hm hvs hmlN hb6
      go_enter Try.func55, Try.ntmps55
      go_wp2_with (go_at_call 26; refine (ref_Check31 _ _ _).mono ?_; rintro e w' ⟨rfl, rfl⟩)
      clear q1 q2 hv
      go_loopw [8, 9] (fun v i wr => ∃ k : Nat, k ≤ n + 1 ∧ i = .int .i64 k ∧ (∀ a, a < k → cntT (stB n m bs a) m = 1) ∧ OwnInts wr w.heap.size v (stRows n m bs k) ∧ Below w.heap.size w wr) (fun _ i _ => n + 1 - (intOf i).toNat)
      case atStart => exact ⟨0, Nat.zero_le _, rfl, fun a ha => by omega, OwnInts.nil _ _, Below.refl _ _⟩
      case round =>
        obtain ⟨k, hk, rfl, hall, hl, hbr⟩ := hrel
        obtain ⟨wo, rfl⟩ : ∃ wo : World, wo = wr := ⟨_, rfl⟩
        have HALL := Lib.hid hall; clear hall
        by_cases hlt : k < n + 1
        · have hle : (k : Int) ≤ n := by omega
          have hleN : k ≤ n := by omega
          have HLL := Lib.hid (stRows_length n m bs k)
          have HSUC := Lib.hid (show stRows n m bs (k + 1) = stRows n m bs k ++ [(lastT (stB n m bs k) m : Int)] by rw [stRows_succ, Int.toNat_natCast])
          obtain ⟨la, lc, rfl, _, _, _, _⟩ := own_cells hl
          rw [HLL.out]
          rw [HLL.out] at hl
          go_wp2_with fail
          go_loopw [8, 11] (fun v i wr => ∃ j : Nat, j ≤ m ∧ i = .int .i64 j ∧ OwnInts wr w.heap.size v (stRows n m bs k ++ truesI (stB n m bs k) j) ∧ Below w.heap.size w wr) (fun _ i _ => m - (intOf i).toNat)
          case atStart => exact ⟨0, Nat.zero_le _, rfl, by simpa [truesI] using hl, hbr⟩
          case round =>
            obtain ⟨j, hj, rfl, hl, hbx⟩ := hrel
            by_cases hltj : j < m
            · have hq := stVar HOK.out hlt hltj
              have hql : n * n + n + k * m + j < ml := by rw [HMLN.out]; exact stAt_lt hlt hltj
              have hB : stB n m bs k j = bs.getD (n * n + n + k * m + j) false := by unfold stB; rw [hq]; congr 1
              obtain ⟨mb, mo, rfl, hmc⟩ := (HM.out.later hbx).2.2 (by omega)
              have hmk := hmc _ hql
              clear hmc
              rw [← hB] at hmk
              have HT := Lib.hid (truesI_succ (stB n m bs k) j)
              have HLN : Hid ((stRows n m bs k ++ truesI (stB n m bs k) j).length = k + cntT (stB n m bs k) j) := Lib.hid (by rw [List.length_append, HLL.out, truesI_length])
              have hcl := cntT_le (stB n m bs k) j
              have HQ := Lib.hid hq
              generalize n * n + n + k * m + j = q at *
              generalize cntT (stB n m bs k) j = c at *
              clear hB hq
              cases hBk : stB n m bs k j
              · rw [hBk] at hmk
                have HBK := Lib.hid hBk; clear hBk
                go_wp2_with (go_at_call 92; refine (ref_State n m k j _ HOK.out hlt hltj).mono ?_; rintro e w' ⟨rfl, rfl⟩; rw [HQ.out])
                go_roundw
                case rel => exact ⟨j + 1, by omega, by go_num, by rw [HT.out, HBK.out]; exact hl, hbx⟩
                case measure => simp [intOf]; omega
              · rw [hBk] at hmk
                have HBK := Lib.hid hBk; clear hBk
                unfold OwnInts at hl
                rw [HLN.out] at hl
                have hsz := hbx.size
                go_wp2_with (first | (go_at_call 92; refine (ref_State n m k j _ HOK.out hlt hltj).mono ?_; rintro e w' ⟨rfl, rfl⟩; rw [HQ.out]) | (at_builtin; refine wpList_app rfl _ _ 41 rfl w.heap.size 3 (.int .i64 0) 1 8 Try.underlying41 info_int rfl (by decide) _ _ _ rfl (hl.alloc _) (some ⟨wr.heap.size, 0, none⟩) 1 1 [.int .i64 (j)] rfl ?c0 rfl ?c1 ?c2 ?c3 ?c4 ?c5 ?_))
                (case c0 => exact fun h => by cases h); (case c1 => exact CellRow.made wr _ _); (case c2 => intro u hu; simp at hu; subst hu; rfl); (case c3 => unfold maxLen; omega); (case c4 => omega); (case c5 => simp; omega)
                intro v' w1 hown1 hgr
                rw [← List.append_assoc, ← List.map_append] at hown1
                obtain ⟨hnew, hbw⟩ := OwnInts.push HLN.out hbx hl _ hown1 hgr
                clear hown1 hgr hl
                go_wp2_with fail
                go_roundw
                case rel => exact ⟨j + 1, by omega, by go_num, by rw [HT.out, HBK.out, if_pos rfl, ← List.append_assoc]; exact hnew, hbw⟩
                case measure => simp [intOf]; omega
            · have hjm : j = m := by omega
              have HJM := Lib.hid hjm; clear hjm
              rw [HJM.out] at hl
              obtain ⟨la, lc, rfl, _, _, _, _⟩ := own_cells hl
              have HLN : Hid ((stRows n m bs k ++ truesI (stB n m bs k) m).length = k + cntT (stB n m bs k) m) := Lib.hid (by rw [List.length_append, HLL.out, truesI_length])
              have HT1 := Lib.hid (truesI_one (stB n m bs k) m)
              have hcl := cntT_le (stB n m bs k) m
              rw [HLN.out]
              rw [HLN.out] at hl
              by_cases hc1 : cntT (stB n m bs k) m = 1
              · have HC1 := Lib.hid hc1
                rw [hc1] at hl ⊢
                clear hc1 hcl
                go_wp2_with fail
                go_roundw
                case rel =>
                  have hall' : ∀ a, a < k + 1 → cntT (stB n m bs a) m = 1 := by
                    intro a ha
                    rcases Nat.lt_or_ge a k with h | h
                    · exact HALL.out a h
                    · obtain rfl : a = k := by omega
                      exact HC1.out
                  exact ⟨k + 1, by omega, by go_num, hall', by rw [HSUC.out, ← HT1.out HC1.out]; exact hl, hbx⟩
                case measure => simp [intOf]; omega
              · have HC1 := Lib.hid hc1
                generalize hce : cntT (stB n m bs k) m = c at *
                have HCE := Lib.hid hce
                clear hce
                have hg : (((k + c : Nat) : Int) != (k : Int) + 1) = true := by simp; omega
                clear hc1
                go_wp2_with fail
                go_ret2
                exact StRowPost.no (fun h => HC1.out (by rw [← HCE.out]; have := h.2.2 k (by simpa using hlt); simpa using this)) rfl hbx
        · have hkn : k = n + 1 := by omega
          have HKN := Lib.hid hkn; clear hkn
          go_wp2_with fail
          go_ret2
          exact StRowPost.yes HOK.out HML.out (by rw [← HKN.out]; exact HALL.out) rfl (by rw [← HKN.out]; exact hl) hbr
    · have hv : ((ml : Int) != (n : Int) * n + n + (n + 1) * m) = true := by
        have : (ml : Int) ≠ (n : Int) * n + n + (n + 1) * m := fun h => hml (by rw [h, hvs]; push_cast; rfl)
        simpa using this
      have HNO := Lib.hid hml
      clear hok hml hm hvs hb6
      go_enter Try.func55, Try.ntmps55
      go_wp2_with (go_at_call 26; refine (ref_Check31 _ _ _).mono ?_; rintro e w' ⟨rfl, rfl⟩)
      go_ret2
      exact StRowPost.no (fun h => HNO.out h.2.1) rfl (Below.refl _ _)
  · have hk : (nCheck o s != 0) = true := by rw [nCheck_no hok]; rfl
    have HNO := Lib.hid hok
    clear hok
    go_enter Try.func55, Try.ntmps55
    go_wp2_with (go_at_call 26; refine (ref_Check31 _ _ _).mono ?_; rintro e w' ⟨rfl, rfl⟩)
    go_ret2
    exact StRowPost.no (fun h => HNO.out h.1) rfl (Below.refl _ _)

set_option maxHeartbeats 1000000 in
theorem sta_Row (o s : Int) (ma : Option Addr) (ml mc : Nat) (bs : List Bool) (w : World) (hm : BoolRow w ma ml bs) :
    Calls Try.prog 54 #[.agg #[.int .i64 o, .int .i64 s], .slice ma ml mc] w (StRowPost o s ml bs w) := by
  have hb1 : Below w.heap.size w ((w.alloc (.cells #[.int .i64 o, .int .i64 s] 23)).alloc (.cells #[.slice ma ml mc] 49)) := by (repeat (first | (with_reducible exact Below.refl _ _) | (with_reducible assumption) | (with_reducible refine below_alloc ?_ _) | (with_reducible refine below_drew ?_) | (with_reducible refine below_drewN ?_ _) | (with_reducible refine below_step ?_ (by with_reducible assumption))))
  have c0 : ((w.alloc (.cells #[.int .i64 o, .int .i64 s] 23)).alloc (.cells #[.slice ma ml mc] 49)).cell? ⟨w.heap.size, 0, none⟩ = some (.int .i64 o) := by simp [go_sem]
  have c1 : ((w.alloc (.cells #[.int .i64 o, .int .i64 s] 23)).alloc (.cells #[.slice ma ml mc] 49)).cell? ⟨w.heap.size, 1, none⟩ = some (.int .i64 s) := by simp [go_sem]
  have c2 : ((w.alloc (.cells #[.int .i64 o, .int .i64 s] 23)).alloc (.cells #[.slice ma ml mc] 49)).cell? ⟨w.heap.size + 1, 0, none⟩ = some (.slice ma ml mc) := by simp [go_sem]
  generalize hw1 : (w.alloc (.cells #[.int .i64 o, .int .i64 s] 23)).alloc (.cells #[.slice ma ml mc] 49) = W1 at *
  have HW1 := Lib.hid hw1; clear hw1
  have HM := Lib.hid (hm.later hb1)
  clear hm
  by_cases hok : nOk o s
  · obtain ⟨n, rfl⟩ : ∃ n : Nat, o = n := ⟨o.toNat, by have := hok.1; omega⟩
    obtain ⟨m, rfl⟩ : ∃ m : Nat, s = m := ⟨s.toNat, by have := hok.2.2.1; omega⟩
    have hk : (nCheck n m != 0) = false := by rw [nCheck_yes hok]; rfl
    have hn64 : n ≤ 64 := by unfold nOk at hok; omega
    have HOK := Lib.hid hok
    by_cases hml : (ml : Int) = nVars n m
    · have hv : ((ml : Int) != nVars n m) = false := by simp [hml]
      have HML := Lib.hid hml
      clear hok hml
      go_enter Try.func54, Try.ntmps54
      go_wp2_with fail
      rw [HW1.out]
      go_region_held3 (fun wx => Below W1.heap.size W1 wx ∧ wx.cell? ⟨w.heap.size, 0, none⟩ = some (.int .i64 n) ∧ wx.cell? ⟨w.heap.size, 1, none⟩ = some (.int .i64 m) ∧ wx.cell? ⟨w.heap.size + 1, 0, none⟩ = some (.slice ma ml mc)) ((refine ⟨?_, ?_, ?_, ?_⟩; (repeat (first | (with_reducible exact Below.refl _ _) | (with_reducible assumption) | (with_reducible refine below_alloc ?_ _) | (with_reducible refine below_drew ?_) | (with_reducible refine below_drewN ?_ _) | (with_reducible refine below_step ?_ (by with_reducible assumption)))); all_goals (refine cell_later (w := W1) ?_ ?_ <;> (repeat (first | (with_reducible exact Below.refl _ _) | (with_reducible assumption) | (with_reducible refine below_alloc ?_ _) | (with_reducible refine below_drew ?_) | (with_reducible refine below_drewN ?_ _) | (with_reducible refine below_step ?_ (by with_reducible assumption)))))))
        (first | (go_at_call 25; refine (num_Check _ _ _).mono ?_; rintro e w' ⟨rfl, hbC⟩) | (go_at_call 27; refine (num_Vars _ _ _).mono ?_; rintro e w' ⟨rfl, hbV⟩))
      all_goals
        rename_i hHeld
        obtain ⟨hB, d0, d1, d2⟩ := hHeld
        have hcall := fun (i : Nat) (wr : World) (hi : i < n + 1) (hb : Below w'.heap.size w' wr) => sta_row1 n m i HOK.out hi w.heap.size (w.heap.size + 1) ma ml mc bs wr HML.out (cell_later hb d0) (cell_later hb d1) (cell_later hb d2) (HM.out.later (below_step hB hb))
        have G := sta_gather_row #[.pointer (some ⟨w.heap.size, 0, none⟩), .pointer (some ⟨w.heap.size + 1, 0, none⟩)] (n + 1) (fun i : Nat => ((lastT (stB n m bs i) m : Int), (((cntT (stB n m bs i) m : Nat) : Int) == 1))) w' (by omega) hcall
        rw [show (((n + 1 : Nat)) : Int) = (n : Int) + 1 from by omega] at G
        have HG := Lib.hid G
        clear hcall G
        go_wp2_with fail
        refine HG.out.mono ?_
        have hz : w.heap.size ≤ w'.heap.size := Nat.le_trans hb1.size hB.size
        rintro e w5 (⟨hall, v, rfl, hv, hb5⟩ | ⟨⟨i, hi, hno⟩, rfl, hb5⟩)
        · have HALL := Lib.hid hall; clear hall
          have HV := Lib.hid hv; clear hv
          go_wp2_with fail
          go_ret2
          refine StRowPost.yes HOK.out HML.out (fun a ha => by have h2 := HALL.out a ha; simp at h2; omega) rfl (HV.out.mono hz) (by (repeat (first | (with_reducible exact Below.refl _ _) | (with_reducible assumption) | (with_reducible refine below_alloc ?_ _) | (with_reducible refine below_drew ?_) | (with_reducible refine below_drewN ?_ _) | (with_reducible refine below_step ?_ (by with_reducible assumption)))))
        · have HNO := Lib.hid hno; clear hno
          go_wp2_with fail
          go_ret2
          exact StRowPost.no (fun h => by have := h.2.2 i (by simpa using hi); have h2 := HNO.out; simp at h2; simp at this; omega) rfl (by (repeat (first | (with_reducible exact Below.refl _ _) | (with_reducible assumption) | (with_reducible refine below_alloc ?_ _) | (with_reducible refine below_drew ?_) | (with_reducible refine below_drewN ?_ _) | (with_reducible refine below_step ?_ (by with_reducible assumption)))))
    · have hv : ((ml : Int) != nVars n m) = true := by simpa using hml
      have HNO := Lib.hid hml
      clear hok hml
      go_enter Try.func54, Try.ntmps54
      go_wp2_with fail
      rw [HW1.out]
      go_region_held3 (fun wx => Below W1.heap.size W1 wx ∧ wx.cell? ⟨w.heap.size, 0, none⟩ = some (.int .i64 n) ∧ wx.cell? ⟨w.heap.size, 1, none⟩ = some (.int .i64 m) ∧ wx.cell? ⟨w.heap.size + 1, 0, none⟩ = some (.slice ma ml mc)) ((refine ⟨?_, ?_, ?_, ?_⟩; (repeat (first | (with_reducible exact Below.refl _ _) | (with_reducible assumption) | (with_reducible refine below_alloc ?_ _) | (with_reducible refine below_drew ?_) | (with_reducible refine below_drewN ?_ _) | (with_reducible refine below_step ?_ (by with_reducible assumption)))); all_goals (refine cell_later (w := W1) ?_ ?_ <;> (repeat (first | (with_reducible exact Below.refl _ _) | (with_reducible assumption) | (with_reducible refine below_alloc ?_ _) | (with_reducible refine below_drew ?_) | (with_reducible refine below_drewN ?_ _) | (with_reducible refine below_step ?_ (by with_reducible assumption)))))))
        (first | (go_at_call 25; refine (num_Check _ _ _).mono ?_; rintro e w' ⟨rfl, hbC⟩) | (go_at_call 27; refine (num_Vars _ _ _).mono ?_; rintro e w' ⟨rfl, hbV⟩))
      all_goals
        rename_i hHeld
        have hB := hHeld.1
        clear hHeld
        go_wp2_with fail
        go_ret2
        exact StRowPost.no (fun h => HNO.out h.2.1) rfl (by (repeat (first | (with_reducible exact Below.refl _ _) | (with_reducible assumption) | (with_reducible refine below_alloc ?_ _) | (with_reducible refine below_drew ?_) | (with_reducible refine below_drewN ?_ _) | (with_reducible refine below_step ?_ (by with_reducible assumption)))))
  · have hk : (nCheck o s != 0) = true := by rw [nCheck_no hok]; rfl
    have HNO := Lib.hid hok
    clear hok
    go_enter Try.func54, Try.ntmps54
    go_wp2_with fail
    rw [HW1.out]
    go_region_with ((go_at_call 25; refine (num_Check _ _ _).mono ?_; rintro e w' ⟨rfl, hbC⟩))
    all_goals
      go_wp2_with fail
      go_ret2
      exact StRowPost.no (fun h => HNO.out h.1) rfl (by (repeat (first | (with_reducible exact Below.refl _ _) | (with_reducible assumption) | (with_reducible refine below_alloc ?_ _) | (with_reducible refine below_drew ?_) | (with_reducible refine below_drewN ?_ _) | (with_reducible refine below_step ?_ (by with_reducible assumption)))))
end Go.Proofs.Ythfcbjfeepindaa
