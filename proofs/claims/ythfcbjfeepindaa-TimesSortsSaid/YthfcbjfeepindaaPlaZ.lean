/- The contract of the reference's truths of an order. -/
import Derived.Test.YthfcbjfeepindaaPlaY
namespace Go.Proofs.Ythfcbjfeepindaa
open Go.RowKit
set_option linter.unusedVariables false

/-- What is known of the truths behind the first a operations. -/
def TruRows (n a : Nat) (l : List Int) (bs : List Bool) : Prop := bs.length = a * n ∧ ∀ b, b < a → ∃ t, t < n ∧ l.getD t 0 = (b : Int) ∧ ∀ k, k < n → (bs.getD (b * n + k) false = true ↔ k = t)
theorem getD_left {α : Type} (l r : List α) (j : Nat) (d : α) (h : j < l.length) : (l ++ r).getD j d = l.getD j d := by simp [List.getD, List.getElem?_append_left h]
theorem getD_right {α : Type} (l r : List α) (j : Nat) (d : α) (h : l.length ≤ j) : (l ++ r).getD j d = r.getD (j - l.length) d := by simp [List.getD, List.getElem?_append_right h]
theorem TruRows.step {n a t : Nat} {l : List Int} {bs : List Bool} (h : TruRows n a l bs) (ht : t < n) (hl : l.getD t 0 = (a : Int)) : TruRows n (a + 1) l (bs ++ (List.range n).map fun k => decide (k = t)) := by
  refine ⟨by rw [List.length_append, h.1, Nat.add_mul]; simp, fun b hb => ?_⟩
  by_cases hba : b < a
  · obtain ⟨t', ht', e, m⟩ := h.2 b hba
    refine ⟨t', ht', e, fun k hk => ?_⟩
    have h1 := Nat.mul_le_mul_right n (show b + 1 ≤ a by omega)
    rw [Nat.add_mul, Nat.one_mul] at h1
    rw [getD_left _ _ _ _ (by rw [h.1]; omega)]; exact m k hk
  · obtain rfl : b = a := by omega
    refine ⟨t, ht, hl, fun k hk => ?_⟩
    rw [getD_right _ _ _ _ (by rw [h.1]; omega), h.1, show b * n + k - b * n = k by omega]
    simp [List.getD, hk]
theorem TruRows.tru {n r V : Nat} {l : List Int} {bs : List Bool} (h : TruRows n n l bs) (hV : n * n + r = V) : Pm n n l ∧ IsTru n n V l (bs ++ List.replicate r false) := by
  have hp : Pm n n l := Pm.of_hits fun a ha => by obtain ⟨t, ht, e, _⟩ := h.2 a ha; exact ⟨t, ht, e⟩
  refine ⟨hp, by rw [List.length_append, h.1]; simpa using hV, fun i hi => ?_⟩
  by_cases hin : i < n * n
  · have hn : 0 < n := by rcases Nat.eq_zero_or_pos n with h0 | h0; subst h0; omega; exact h0
    have ha : i / n < n := Nat.div_lt_of_lt_mul hin
    have hk := Nat.mod_lt i hn
    have hi2 : i / n * n + i % n = i := by rw [Nat.mul_comm]; exact Nat.div_add_mod i n
    obtain ⟨t, ht, e, m⟩ := h.2 (i / n) ha
    rw [getD_left _ _ _ _ (by rw [h.1]; exact hin)]
    have hm := m (i % n) hk
    rw [hi2] at hm
    rw [hm]
    constructor
    · intro hkt
      refine ⟨t, ht, ?_⟩
      rw [e, ← hkt]; exact_mod_cast hi2
    · rintro ⟨j, hj, hji⟩
      obtain ⟨c, hc, ec⟩ := hp.1 j hj
      rw [ec] at hji
      have hji2 : c * n + j = i := by exact_mod_cast hji
      have hjm : i % n = j := by rw [← hji2, Nat.add_comm, Nat.add_mul_mod_self_right, Nat.mod_eq_of_lt hj]
      have hcd : i / n = c := by rw [← hji2, Nat.add_comm, Nat.add_mul_div_right _ _ hn, Nat.div_eq_of_lt hj]; omega
      rw [hjm]
      exact hp.2 j t hj ht (by rw [ec, e, hcd])
  · rw [getD_right _ _ _ _ (by rw [h.1]; omega)]
    constructor
    · intro hf; simp only [List.getD] at hf; rw [List.getElem?_replicate] at hf; split at hf <;> simp at hf
    · rintro ⟨j, hj, hji⟩
      obtain ⟨c, hc, ec⟩ := hp.1 j hj
      rw [ec] at hji
      have hji2 : c * n + j = i := by exact_mod_cast hji
      have := at_lt hc hj; omega

set_option maxHeartbeats 4000000 in
theorem ref_Truths (n : Nat) (s : Int) (oa : Option Addr) (oc : Nat) (l : List Int) (w : World) (hok : nOk n s) (hl : IntRow w oa n l) :
    Calls Try.prog 39 #[.int .i64 n, .int .i64 s, .slice oa n oc] w (TruPost n (nVars n s).toNat l w) := by
  have HOK := Lib.hid hok
  have hn : n ≤ 64 := by have := hok.2.1; omega
  have hk : (nCheck n s != 0) = false := by rw [nCheck_yes hok]; rfl
  have q1 := nOk_sq hok
  have q2 := nOk_st hok
  obtain ⟨r, hr⟩ : ∃ r : Nat, (n : Int) + (n + 1) * s = r := ⟨((n : Int) + (n + 1) * s).toNat, by omega⟩
  have hV : n * n + r = (nVars n s).toNat := by
    have h1 : ((n * n : Nat) : Int) = (n : Int) * n := by simp
    unfold nVars; rw [if_pos hok]; simp [nAhead]; omega
  have hsq := vars_sq hok
  have hr6 : r ≤ 2144 := by omega
  have hnn : n * n ≤ 4096 := by have := Nat.mul_le_mul hn hn; omega
  have HV := Lib.hid hV
  have HL := Lib.hid hl
  have s1 := hok.2.2.1; have s2 := hok.2.2.2
  have HR : Hid ((n : Int) + (n + 1) * s = r) := Lib.hid hr
  clear hok hl hV hsq
  generalize (nVars n s).toNat = V at *
  go_enter Try.func39, Try.ntmps39
  go_wp2_with (go_at_call 26; refine (ref_Check31 _ _ _).mono ?_; rintro e w' ⟨rfl, rfl⟩)
  go_loopw [8, 9] (fun v i wr => ∃ (a : Nat) (bs : List Bool), a ≤ n ∧ i = .int .i64 a ∧ Below w.heap.size w wr ∧ OwnBools wr w.heap.size v bs ∧ TruRows n a l bs) (fun _ i _ => n - (intOf i).toNat)
  case atStart => exact ⟨0, [], Nat.zero_le _, rfl, Below.refl _ _, OwnBools.nil _ _, by simp, fun j hj => by omega⟩
  case round =>
    obtain ⟨a, bs, ha, rfl, hbr, hown, hrows⟩ := hrel
    obtain ⟨wo, rfl⟩ : ∃ wo : World, wo = wr := ⟨_, rfl⟩
    have HROWS := Lib.hid hrows; clear hrows
    by_cases hlt : a < n
    · obtain ⟨b, off, rfl, hcell⟩ := (HL.out.later hbr).2.2 (by omega)
      have HCELL := Lib.hid hcell; clear hcell
      go_wp2_with fail
      go_loopw [10, 11] (fun t i wx => ∃ (k : Nat) (tt : Int), k ≤ n ∧ i = .int .i64 k ∧ t = .int .i64 tt ∧ ((tt = -1 ∧ ∀ j, j < k → l.getD j 0 ≠ (a : Int)) ∨ (∃ q : Nat, q < k ∧ tt = q ∧ l.getD q 0 = (a : Int))) ∧ wo = wx) (fun _ i _ => n - (intOf i).toNat)
      case atStart => exact ⟨0, -1, Nat.zero_le _, rfl, rfl, .inl ⟨rfl, fun j hj => by omega⟩, rfl⟩
      case round =>
        obtain ⟨k, tt, hk, rfl, rfl, hst, rfl⟩ := hrel
        have HST := Lib.hid hst; clear hst
        by_cases hltk : k < n
        · have hck := HCELL.out k hltk
          by_cases he : l.getD k 0 = (a : Int)
          · rw [he] at hck
            have HE := Lib.hid he; clear he
            by_cases htt : tt < 0
            · go_wp2_with fail
              go_roundw
              case rel => exact ⟨k + 1, k, by omega, by go_num, rfl, .inr ⟨k, by omega, rfl, HE.out⟩, by trivial⟩
              case measure => simp [intOf]; omega
            · have hst2 : ∃ q : Nat, q < k + 1 ∧ tt = q ∧ l.getD q 0 = (a : Int) := by
                rcases HST.out with ⟨h, _⟩ | ⟨q, h1, h2, h3⟩
                · omega
                · exact ⟨q, by omega, h2, h3⟩
              have HST2 := Lib.hid hst2; clear hst2
              go_wp2_with fail
              go_roundw
              case rel => exact ⟨k + 1, tt, by omega, by go_num, rfl, .inr HST2.out, by trivial⟩
              case measure => simp [intOf]; omega
          · have he2 : (l.getD k 0 == (a : Int)) = false := by simpa using he
            simp only [List.getD_eq_getElem?_getD] at he2
            have hst2 : (tt = -1 ∧ ∀ j, j < k + 1 → l.getD j 0 ≠ (a : Int)) ∨ (∃ q : Nat, q < k + 1 ∧ tt = q ∧ l.getD q 0 = (a : Int)) := by
              rcases HST.out with ⟨h, h2⟩ | ⟨q, h1, h2, h3⟩
              · refine .inl ⟨h, fun j hj => ?_⟩
                rcases Nat.lt_or_ge j k with h4 | h4
                · exact h2 j h4
                · obtain rfl : j = k := by omega
                  exact he
              · exact .inr ⟨q, by omega, h2, h3⟩
            have HST2 := Lib.hid hst2; clear hst2 he
            go_wp2_with fail
            go_roundw
            case rel => exact ⟨k + 1, tt, by omega, by go_num, rfl, HST2.out, by trivial⟩
            case measure => simp [intOf]; omega
        · have hkn : k = n := by omega
          have HKN := Lib.hid hkn; clear hkn
          by_cases htt : tt < 0
          · have hno : ¬ Pm n n l := fun hp => by
              obtain ⟨j, hj, e⟩ := hp.hits hlt
              rcases HST.out with ⟨_, h2⟩ | ⟨q, h1, h2, h3⟩
              · exact h2 j (by rw [HKN.out]; exact hj) e
              · omega
            have HNO := Lib.hid hno; clear hno
            go_wp2_with fail
            go_ret2
            exact Or.inr ⟨HNO.out, rfl, hbr⟩
          · obtain ⟨q, hq1, rfl, hq3⟩ : ∃ q : Nat, q < n ∧ tt = q ∧ l.getD q 0 = (a : Int) := by
              rcases HST.out with ⟨h, h2⟩ | ⟨q, h1, h2, h3⟩
              · omega
              · exact ⟨q, by have := HKN.out; omega, h2, h3⟩
            have HQ := Lib.hid hq3; clear hq3
            have HLEN := Lib.hid HROWS.out.1
            have han : a * n ≤ 4096 := by have := Nat.mul_le_mul (show a ≤ 64 by omega) hn; omega
            go_wp2_with fail
            go_loopw [8, 12] (fun v i wr => ∃ k : Nat, k ≤ n ∧ i = .int .i64 k ∧ Below w.heap.size w wr ∧ OwnBools wr w.heap.size v (bs ++ (List.range k).map fun k => decide (k = q))) (fun _ i _ => n - (intOf i).toNat)
            case atStart => exact ⟨0, Nat.zero_le _, rfl, hbr, by simpa using hown⟩
            case round =>
              obtain ⟨k, hk, rfl, hbr, hl⟩ := hrel
              by_cases hltk : k < n
              · have hlen : (bs ++ (List.range k).map fun k => decide (k = q)).length = a * n + k := by rw [List.length_append, HLEN.out]; simp
                unfold OwnBools at hl
                rw [hlen] at hl
                have hsz := hbr.size
                generalize a * n = an at *
                generalize hcs : (bs ++ (List.range k).map fun k => decide (k = q)) = cs at *
                have HCS := Lib.hid hcs; clear hcs
                have HN := Lib.hid hlen; clear hlen
                by_cases hkq : k = q
                · have hkq2 : ((k : Int) == (q : Int)) = true := by simp; omega
                  have HKQ := Lib.hid hkq; clear hkq
                  go_wp2_with (at_builtin; refine wpList_app rfl _ _ 49 rfl w.heap.size 4 (.bool false) 1 1 Try.underlying49 info_bool rfl (by decide) _ _ _ rfl (hl.alloc _) (some ⟨wr.heap.size, 0, none⟩) 1 1 [.bool true] rfl ?c0 rfl ?c1 ?c2 ?c3 ?c4 ?c5 ?_)
                  case c0 => exact fun h => by cases h
                  case c1 => exact CellRow.made wr _ _
                  case c2 => intro u hu; simp at hu; subst hu; rfl
                  case c3 => unfold maxLen; omega
                  case c4 => omega
                  case c5 => simp; omega
                  intro v' w1 hown1 hgr
                  obtain ⟨hnew, hbw⟩ := OwnBools.push HN.out hbr hl _ hown1 hgr
                  have hnew2 : OwnBools w1 w.heap.size v' (bs ++ (List.range (k + 1)).map fun k => decide (k = q)) := by
                    rw [List.range_succ, List.map_append, ← List.append_assoc, HCS.out]; simpa [HKQ.out] using hnew
                  clear hnew hown1 hgr hl
                  go_wp2_with fail
                  go_roundw
                  case rel => exact ⟨k + 1, by omega, by go_num, hbw, hnew2⟩
                  case measure => simp [intOf]; omega
                · have hkq2 : ((k : Int) == (q : Int)) = false := by simp; omega
                  have HKQ := Lib.hid hkq; clear hkq
                  go_wp2_with (at_builtin; refine wpList_app rfl _ _ 49 rfl w.heap.size 4 (.bool false) 1 1 Try.underlying49 info_bool rfl (by decide) _ _ _ rfl (hl.alloc _) (some ⟨wr.heap.size, 0, none⟩) 1 1 [.bool false] rfl ?c0 rfl ?c1 ?c2 ?c3 ?c4 ?c5 ?_)
                  case c0 => exact fun h => by cases h
                  case c1 => exact CellRow.made wr _ _
                  case c2 => intro u hu; simp at hu; subst hu; rfl
                  case c3 => unfold maxLen; omega
                  case c4 => omega
                  case c5 => simp; omega
                  intro v' w1 hown1 hgr
                  obtain ⟨hnew, hbw⟩ := OwnBools.push HN.out hbr hl _ hown1 hgr
                  have hnew2 : OwnBools w1 w.heap.size v' (bs ++ (List.range (k + 1)).map fun k => decide (k = q)) := by
                    rw [List.range_succ, List.map_append, ← List.append_assoc, HCS.out]; simpa [HKQ.out] using hnew
                  clear hnew hown1 hgr hl
                  go_wp2_with fail
                  go_roundw
                  case rel => exact ⟨k + 1, by omega, by go_num, hbw, hnew2⟩
                  case measure => simp [intOf]; omega
              · have hkn : k = n := by omega
                have HKN2 := Lib.hid hkn; clear hkn
                have HR2 := Lib.hid (HROWS.out.step hq1 HQ.out)
                rw [HKN2.out] at hl
                go_wp2_with fail
                go_roundw
                case rel => exact ⟨a + 1, _, by omega, by go_num, hbr, hl, HR2.out⟩
                case measure => simp [intOf]; omega
    · have han : a = n := by omega
      have HAN := Lib.hid han; clear han
      have HLEN := Lib.hid HROWS.out.1
      go_wp2_with fail
      go_loopw [8, 13] (fun v i wr => ∃ k : Nat, k ≤ r ∧ i = .int .i64 k ∧ Below w.heap.size w wr ∧ OwnBools wr w.heap.size v (bs ++ List.replicate k false)) (fun _ i _ => r - (intOf i).toNat)
      case atStart => exact ⟨0, Nat.zero_le _, rfl, hbr, by simpa using hown⟩
      case round =>
        obtain ⟨k, hk, rfl, hbr, hl⟩ := hrel
        by_cases hltk : k < r
        · have hlen : (bs ++ List.replicate k false).length = n * n + k := by rw [List.length_append, HLEN.out, HAN.out]; simp
          unfold OwnBools at hl
          rw [hlen] at hl
          have hsz := hbr.size
          generalize n * n = nn at *
          generalize hcs : bs ++ List.replicate k false = cs at *
          have HCS := Lib.hid hcs; clear hcs
          have HN := Lib.hid hlen; clear hlen
          have hlr : (k : Int) < (n : Int) + (n + 1) * s := by rw [HR.out]; omega
          go_wp2_with (at_builtin; refine wpList_app rfl _ _ 49 rfl w.heap.size 4 (.bool false) 1 1 Try.underlying49 info_bool rfl (by decide) _ _ _ rfl (hl.alloc _) (some ⟨wr.heap.size, 0, none⟩) 1 1 [.bool false] rfl ?c0 rfl ?c1 ?c2 ?c3 ?c4 ?c5 ?_)
          case c0 => exact fun h => by cases h
          case c1 => exact CellRow.made wr _ _
          case c2 => intro u hu; simp at hu; subst hu; rfl
          case c3 => unfold maxLen; omega
          case c4 => omega
          case c5 => simp; omega
          intro v' w1 hown1 hgr
          obtain ⟨hnew, hbw⟩ := OwnBools.push HN.out hbr hl _ hown1 hgr
          have hnew2 : OwnBools w1 w.heap.size v' (bs ++ List.replicate (k + 1) false) := by
            rw [List.replicate_succ', ← List.append_assoc, HCS.out]; exact hnew
          clear hnew hown1 hgr hl
          go_wp2_with fail
          go_roundw
          case rel => exact ⟨k + 1, by omega, by go_num, hbw, hnew2⟩
          case measure => simp [intOf]; omega
        · have hkr : k = r := by omega
          have HKR := Lib.hid hkr; clear hkr
          have hlr : ¬ (k : Int) < (n : Int) + (n + 1) * s := by rw [HR.out]; omega
          go_wp2_with fail
          go_ret2
          have h1 := HROWS.out
          rw [HAN.out] at h1
          have h2 := h1.tru HV.out
          rw [HKR.out] at hl
          exact Or.inl ⟨h2.1, _, _, rfl, h2.2, hl, hbr⟩
end Go.Proofs.Ythfcbjfeepindaa
