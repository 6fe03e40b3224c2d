/- The contract of the reference's order. -/
import Derived.Test.YthfcbjfeepindaaPlaU
namespace Go.Proofs.Ythfcbjfeepindaa
open Go.RowKit
set_option linter.unusedVariables false

/-- What is known of the order behind its first k places. -/
def ColsAt (n : Nat) (M : Nat → Nat → Bool) (k : Nat) (l : List Int) : Prop :=
  l.length = k ∧ (∀ j, j < k → ∃ a : Nat, a < n ∧ l.getD j 0 = a ∧ ∀ b, b < n → (M b j = true ↔ b = a)) ∧ (∀ i j, i < k → j < k → l.getD i 0 = l.getD j 0 → i = j)
theorem getD_app {α : Type} (l : List α) (x d : α) (j : Nat) : (l ++ [x]).getD j d = if j < l.length then l.getD j d else if j = l.length then x else d := by
  by_cases h : j < l.length
  · simp [List.getD, h, List.getElem?_append_left h]
  · by_cases h2 : j = l.length
    · subst h2; simp [List.getD]
    · simp only [if_neg h, if_neg h2, List.getD]; rw [List.getElem?_eq_none (by simp; omega)]; rfl
theorem ColsAt.step {n k a : Nat} {M : Nat → Nat → Bool} {l : List Int} (h : ColsAt n M k l) (ha : a < n) (hc : ∀ b, b < n → (M b k = true ↔ b = a)) (hnew : ∀ j, j < k → l.getD j 0 ≠ a) : ColsAt n M (k + 1) (l ++ [(a : Int)]) := by
  obtain ⟨h1, h2, h3⟩ := h
  have e : ∀ j, j < k + 1 → (l ++ [(a : Int)]).getD j 0 = if j < k then l.getD j 0 else (a : Int) := by
    intro j hj; rw [getD_app, h1]
    by_cases hjk : j < k
    · simp [hjk]
    · rw [if_neg hjk, if_pos (by omega), if_neg hjk]
  refine ⟨by simp [h1], fun j hj => ?_, fun i j hi hj he => ?_⟩
  · rw [e j hj]
    by_cases hjk : j < k
    · rw [if_pos hjk]; exact h2 j hjk
    · obtain rfl : j = k := by omega
      rw [if_neg hjk]; exact ⟨a, ha, rfl, hc⟩
  · rw [e i hi, e j hj] at he
    by_cases hik : i < k <;> by_cases hjk : j < k
    · rw [if_pos hik, if_pos hjk] at he; exact h3 i j hik hjk he
    · rw [if_pos hik, if_neg hjk] at he; exact absurd he (hnew i hik)
    · rw [if_neg hik, if_pos hjk] at he; exact absurd he.symm (hnew j hjk)
    · omega

set_option maxHeartbeats 4000000 in
theorem ref_Order (n : Nat) (s : Int) (ma : Option Addr) (ml mc : Nat) (bs : List Bool) (w : World) (hok : nOk n s) (hml : (ml : Int) = nVars n s) (hm : BoolRow w ma ml bs) :
    Calls Try.prog 37 #[.int .i64 n, .int .i64 s, .slice ma ml mc] w (OrdPost n bs w) := by
  have HOK := Lib.hid hok
  have hn : n ≤ 64 := by have := hok.2.1; omega
  have hk : (nCheck n s != 0) = false := by rw [nCheck_yes hok]; rfl
  have hnv : nVars n s = n * n + n + (n + 1) * s := by unfold nVars; rw [if_pos hok]; simp [nAhead]
  have hsq := vars_sq hok
  have q1 := nOk_sq hok
  have q2 := nOk_st hok
  have hv : ((ml : Int) != (n : Int) * n + n + (n + 1) * s) = false := by simp; omega
  have hsq : n * n ≤ ml := by omega
  have HM := Lib.hid hm
  have s1 := hok.2.2.1; have s2 := hok.2.2.2
  clear hok hml hm hnv
  go_enter Try.func37, Try.ntmps37
  go_wp2_with (go_at_call 26; refine (ref_Check31 _ _ _).mono ?_; rintro e w' ⟨rfl, rfl⟩)
  go_loopw [8, 9] (fun v i wr => ∃ (k : Nat) (l : List Int), k ≤ n ∧ i = .int .i64 k ∧ Below w.heap.size w wr ∧ OwnInts wr w.heap.size v l ∧ ColsAt n (Mx n bs) k l) (fun _ i _ => n - (intOf i).toNat)
  case atStart => exact ⟨0, [], Nat.zero_le _, rfl, Below.refl _ _, OwnInts.nil _ _, rfl, fun j hj => by omega, fun i j hi => by omega⟩
  case round =>
    obtain ⟨k, l, hk, rfl, hbr, hl, hcols⟩ := hrel
    obtain ⟨wo, rfl⟩ : ∃ wo : World, wo = wr := ⟨_, rfl⟩
    have HCOLS := Lib.hid hcols; clear hcols
    by_cases hlt : k < n
    · have hmw := HM.out.later hbr
      obtain ⟨b, off, rfl, hcell⟩ := hmw.2.2 (by have := at_lt hlt hlt; omega)
      have HCELL := Lib.hid hcell; clear hcell hmw
      go_wp2_with fail
      go_loopw [10, 11, 12] (fun wh c i wx => ∃ (a cc pp : Nat) (who : Int), a ≤ n ∧ i = .int .i64 a ∧ c = .int .i64 cc ∧ cc ≤ a ∧ wh = .int .i64 who ∧ (0 < cc → who = pp) ∧ Cnt (fun a => Mx n bs a k) a cc pp ∧ wo = wx) (fun _ _ i _ => n - (intOf i).toNat)
      case atStart => exact ⟨0, 0, 0, -1, Nat.zero_le _, rfl, rfl, Nat.le_refl _, rfl, fun h => by omega, .inl ⟨rfl, fun j hj => by omega⟩, rfl⟩
      case round =>
        obtain ⟨a, cc, pp, who, ha, rfl, rfl, hcc, rfl, hwho, hcnt, rfl⟩ := hrel
        have HWHO := Lib.hid hwho; have HCNT := Lib.hid hcnt
        clear hwho hcnt
        by_cases hlta : a < n
        · have hnva := nVar_at HOK.out hlta hlt
          have hqlt := at_lt hlta hlt
          have hce := HCELL.out (a * n + k) (by omega)
          have hMx : bs.getD (a * n + k) false = Mx n bs a k := rfl
          rw [hMx] at hce
          generalize a * n + k = q at *
          have HNV := Lib.hid hnva; clear hnva hMx
          cases hb : Mx n bs a k
          · rw [hb] at hce
            have HB := Lib.hid (HCNT.out.no (k := a) hb); clear hb
            go_wp2_with (go_at_call 81; refine (ref_At n s a k _ HOK.out (by omega) (by omega) (by omega) (by omega)).mono ?_; rintro e w' ⟨rfl, rfl⟩; rw [HNV.out])
            go_roundw
            case rel => exact ⟨a + 1, cc, pp, who, by omega, by go_num, rfl, by omega, rfl, HWHO.out, HB.out, by trivial⟩
            case measure => simp [intOf]; omega
          · rw [hb] at hce
            have HB := Lib.hid (HCNT.out.yes (k := a) hb); clear hb
            go_wp2_with (go_at_call 81; refine (ref_At n s a k _ HOK.out (by omega) (by omega) (by omega) (by omega)).mono ?_; rintro e w' ⟨rfl, rfl⟩; rw [HNV.out])
            go_roundw
            case rel => exact ⟨a + 1, cc + 1, a, a, by omega, by go_num, by go_num, by omega, rfl, fun _ => rfl, HB.out, by trivial⟩
            case measure => simp [intOf]; omega
        · have han : a = n := by omega
          have hone := HCNT.out.one
          rw [han] at hone
          have HO := Lib.hid hone; clear hone
          have HAN := Lib.hid han; clear han
          by_cases hc : cc = 1
          · have hc1 : ((cc : Int) != 1) = false := by simp; omega
            have HW1 := Lib.hid (HWHO.out (by omega))
            have HP := Lib.hid (HO.out.1 hc)
            have HCC := Lib.hid hc; clear hc
            obtain ⟨la, lcap, hlv, hl1, hl2, hlr⟩ : ∃ la lcap, u8 = .slice la l.length lcap ∧ l.length ≤ lcap ∧ lcap ≤ maxLen ∧ IntRow wo la l.length l := by
              obtain ⟨la, ll, lcap, e1, e2, e3, e4⟩ := hl.ints
              have := e4.1; subst this
              exact ⟨la, lcap, e1, e2, e3, e4⟩
            rw [HCOLS.out.1] at hlv hl1 hlr
            subst hlv
            have HLR := Lib.hid hlr; clear hlr
            go_wp2_with fail
            go_loopw [13] (fun i wx => ∃ j : Nat, j ≤ k ∧ i = .int .i64 j ∧ (∀ i, i < j → l.getD i 0 ≠ who) ∧ wo = wx) (fun i _ => n - (intOf i).toNat)
            case atStart => exact ⟨0, Nat.zero_le _, rfl, fun i hi => by omega, rfl⟩
            case round =>
              obtain ⟨j, hj, rfl, hno, rfl⟩ := hrel
              have HNO := Lib.hid hno; clear hno
              by_cases hltj : j < k
              · obtain ⟨lb, lo, rfl, hlc⟩ := HLR.out.2.2 (by omega)
                have hcj := hlc j hltj
                clear hlc
                by_cases he : l.getD j 0 = who
                · have HE := Lib.hid he
                  rw [he] at hcj; clear he
                  go_wp2_with fail
                  go_ret2
                  refine Or.inr ⟨fun l' hl' => ?_, rfl, hbr⟩
                  obtain ⟨c, hc, e1, m1⟩ := hl'.2.1 k hlt
                  obtain ⟨d, hd, e2, m2⟩ := hl'.2.1 j (by omega)
                  obtain ⟨d', hd', e3, m3⟩ := HCOLS.out.2.1 j hltj
                  have hw := HW1.out
                  have hp := HP.out
                  have x1 := (hp.2 c hc).1 ((m1 c hc).2 rfl)
                  have x2 := (m3 d hd).1 ((m2 d hd).2 rfl)
                  have x3 := HE.out
                  have : j = k := hl'.2.2 j k (by omega) hlt (by rw [e1, e2]; omega)
                  omega
                · have he2 : (l.getD j 0 == who) = false := by simpa using he
                  simp only [List.getD_eq_getElem?_getD] at he2
                  have hno' : ∀ i, i < j + 1 → l.getD i 0 ≠ who := by
                    intro i hi
                    rcases Nat.lt_or_ge i j with h | h
                    · exact HNO.out i h
                    · obtain rfl : i = j := by omega
                      exact he
                  have HNO2 := Lib.hid hno'; clear hno' he
                  go_wp2_with fail
                  go_roundw
                  case rel => exact ⟨j + 1, by omega, by go_num, HNO2.out, by trivial⟩
                  case measure => simp [intOf]; omega
              · have hjk : j = k := by omega
                have HJK := Lib.hid hjk; clear hjk
                unfold OwnInts at hl
                rw [HCOLS.out.1] at hl
                have hsz := hbr.size
                go_wp2_with (at_builtin; refine wpList_app rfl _ _ 41 rfl w.heap.size 3 (.int .i64 0) 1 8 Try.underlying41 info_int rfl (by decide) _ _ _ rfl (hl.alloc _) (some ⟨wo.heap.size, 0, none⟩) 1 1 [.int .i64 who] rfl ?c0 rfl ?c1 ?c2 ?c3 ?c4 ?c5 ?_)
                case c0 => exact fun h => by cases h
                case c1 => exact CellRow.made wo _ _
                case c2 => intro u hu; simp at hu; subst hu; rfl
                case c3 => unfold maxLen; omega
                case c4 => omega
                case c5 => simp; omega
                intro v' w1 hown1 hgr
                obtain ⟨hnew, hbw⟩ := OwnInts.push HCOLS.out.1 hbr hl _ hown1 hgr
                have hcols : ColsAt n (Mx n bs) (k + 1) (l ++ [who]) := by
                  have hw := HW1.out
                  rw [hw]
                  exact HCOLS.out.step HP.out.1 HP.out.2 (fun i hi => by rw [← hw]; exact HNO.out i (by rw [HJK.out]; exact hi))
                have HC2 := Lib.hid hcols; clear hcols hown1 hgr hl
                go_wp2_with fail
                go_roundw
                case rel => exact ⟨k + 1, l ++ [who], by omega, by go_num, hbw, hnew, HC2.out⟩
                case measure => simp [intOf]; omega
          · have hc1 : ((cc : Int) != 1) = true := by simp; omega
            have HN := Lib.hid (HO.out.2 hc)
            clear hc
            go_wp2_with fail
            go_ret2
            refine Or.inr ⟨fun l hl => ?_, rfl, hbr⟩
            obtain ⟨x, hx, _, hxm⟩ := hl.2.1 k hlt
            exact HN.out x ⟨hx, hxm⟩
    · have hkn : k = n := by omega
      have HKN := Lib.hid hkn; clear hkn
      go_wp2_with fail
      go_ret2
      have hc := HCOLS.out
      rw [HKN.out] at hc
      exact Or.inl ⟨l, _, rfl, hc, hl, hbr⟩
end Go.Proofs.Ythfcbjfeepindaa
