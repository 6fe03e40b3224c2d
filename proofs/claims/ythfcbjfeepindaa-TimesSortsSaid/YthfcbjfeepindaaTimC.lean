/- The contract of times.Clauses. -/
import Derived.Test.YthfcbjfeepindaaTimP
import Derived.Test.YthfcbjfeepindaaPlaM
import Derived.Test.YthfcbjfeepindaaNumW
namespace Go.Proofs.Ythfcbjfeepindaa
open Go.RowKit
set_option linter.unusedVariables false
set_option linter.unusedSimpArgs false

def tRow (n s : Int) (p : Int × Int) (a b : Nat) : List Int := [wneg (nVar n s 1 p.1 a), wneg (nVar n s 1 p.2 b)]
def tRowA (n s : Int) (p : Int × Int) (a k : Nat) : List (List Int) := (List.range k).map (tRow n s p a)
def tRowP (n s : Int) (p : Int × Int) (k : Nat) : List (List Int) := (List.range k).flatMap fun a => tRowA n s p a a
def tPart (n s : Int) (p : Int × Int) : List (List Int) := if tCounts n p.1 p.2 = true then tRowP n s p n.toNat else []
def tUp (n s : Int) (ps : List (Int × Int)) (k : Nat) : List (List Int) := (List.range k).flatMap fun i => tPart n s (prAt ps i)
/-- The clauses of the pairs. -/
def tC (n s : Int) (ps : List (Int × Int)) : List (List Int) := if nOk n s then tUp n s ps ps.length else []
theorem tRowA_succ (n s : Int) (p : Int × Int) (a k : Nat) : tRowA n s p a (k + 1) = tRowA n s p a k ++ [tRow n s p a k] := by unfold tRowA; rw [List.range_succ, List.map_append]; rfl
theorem tRowP_succ (n s : Int) (p : Int × Int) (k : Nat) : tRowP n s p (k + 1) = tRowP n s p k ++ tRowA n s p k k := by unfold tRowP; rw [List.range_succ, List.flatMap_append]; simp
theorem tUp_succ (n s : Int) (ps : List (Int × Int)) (k : Nat) : tUp n s ps (k + 1) = tUp n s ps k ++ tPart n s (prAt ps k) := by unfold tUp; rw [List.range_succ, List.flatMap_append]; simp
theorem tRowA_len (n s : Int) (p : Int × Int) (a k : Nat) : (tRowA n s p a k).length = k := by simp [tRowA]
theorem tRowP_len (n s : Int) (p : Int × Int) (k m : Nat) (h : k ≤ m) : (tRowP n s p k).length ≤ k * m := by
  induction k with
  | zero => simp [tRowP]
  | succ k ih => have := ih (by omega); rw [tRowP_succ, List.length_append, tRowA_len, Nat.add_mul]; omega
theorem tPart_len (n s : Int) (p : Int × Int) (h : n ≤ 64) : (tPart n s p).length ≤ 4096 := by
  unfold tPart
  split
  · have := tRowP_len n s p n.toNat 64 (by omega)
    have h4 : n.toNat * 64 ≤ 64 * 64 := Nat.mul_le_mul_right _ (by omega)
    omega
  · simp
theorem tUp_len (n s : Int) (ps : List (Int × Int)) (k : Nat) (h : n ≤ 64) : (tUp n s ps k).length ≤ k * 4096 := by
  induction k with
  | zero => simp [tUp]
  | succ k ih => have := tPart_len n s (prAt ps k) h; rw [tUp_succ, List.length_append, Nat.add_mul]; omega

theorem own_ne_blk {w : World} {B : Nat} {e : TypeId} {k : Nat} {v : Value} {n : Nat} {xs : List Value} (h : w.ownsRow B e k v n xs) {b : Nat} {vs : Array Value} {t : TypeId} (hb : Blk w b vs t) (hne : e ≠ t) : v.ownBlock ≠ some b := by
  intro hv
  obtain ⟨_, h2⟩ := h
  rcases h2 with ⟨hv2, _⟩ | ⟨g, cap, cur, hv2, hg', hgh, _⟩
  · subst hv2; simp [Value.ownBlock] at hv
  · subst hv2
    simp [Value.ownBlock] at hv; subst hv
    have h7 : w.heap[g]? = some (.cells vs t (0, 0)) := hb
    rw [h7] at hgh
    simp only [Option.some.injEq, Obj.cells.injEq] at hgh
    exact hne hgh.2.1.symm

theorem tim_not (o s op place : Int) (b1 : Nat) (w : World) (c0 : w.cell? ⟨b1, 0, none⟩ = some (.int .i64 o)) (c1 : w.cell? ⟨b1, 1, none⟩ = some (.int .i64 s)) :
    Calls Try.prog 86 #[.int .i64 op, .int .i64 place, .pointer (some ⟨b1, 0, none⟩)] w fun e w' => e = .returned (.int .i64 (wneg (nVar o s 1 op place))) ∧ Below w.heap.size w w' := by
  go_enter Try.func86, Try.ntmps86
  go_wp2_with (go_at_call 28; refine (num_Var o s 1 op place _).mono ?_; rintro e w' ⟨rfl, hb⟩)
  go_ret
  exact ⟨rfl, by (repeat (first | (with_reducible exact Below.refl _ _) | (with_reducible assumption) | (with_reducible refine below_alloc ?_ _) | (with_reducible refine below_drew ?_) | (with_reducible refine below_drewN ?_ _) | (with_reducible refine below_step ?_ (by with_reducible assumption))))⟩

set_option maxRecDepth 100000 in
set_option maxHeartbeats 4000000 in
theorem tim_Clauses (o s : Int) (a : Option Addr) (m cap : Nat) (ps : List (Int × Int)) (w : World) (hr : PairRow w a m ps) (hm : m ≤ 100000) :
    Calls Try.prog 48 #[.agg #[.int .i64 o, .int .i64 s], .slice a m cap] w fun e w' => ∃ v, e = .returned v ∧ OwnRows w' w.heap.size 0 v (tC o s ps) ∧ Below w.heap.size w w' := by
  by_cases hok : nOk o s
  rotate_left
  · have HC := Lib.hid (nCheck_no hok)
    have HT : Hid (tC o s ps = []) := Lib.hid (by unfold tC; rw [if_neg hok])
    clear hok hr
    go_enter Try.func48, Try.ntmps48
    go_wp2_with (go_at_call 25; refine (num_Check _ _ _).mono ?_; rintro e w' ⟨rfl, hb⟩; rw [HC.out])
    go_ret
    exact ⟨_, rfl, by rw [HT.out]; exact OwnRows.nil _ _ _, by (repeat (first | (with_reducible exact Below.refl _ _) | (with_reducible assumption) | (with_reducible refine below_alloc ?_ _) | (with_reducible refine below_drew ?_) | (with_reducible refine below_drewN ?_ _) | (with_reducible refine below_step ?_ (by with_reducible assumption))))⟩
  have HC := Lib.hid (nCheck_yes hok)
  obtain ⟨n, rfl⟩ : ∃ n : Nat, o = n := ⟨o.toNat, by unfold nOk at hok; omega⟩
  have HT : Hid (tC n s ps = tUp n s ps m) := Lib.hid (by unfold tC; rw [if_pos hok, hr.1])
  have hn64 : n ≤ 64 := by unfold nOk at hok; omega
  have HR := Lib.hid hr
  clear hok hr
  have hW1 : Blk (w.alloc (.cells #[.int .i64 n, .int .i64 s] 23)) w.heap.size #[.int .i64 n, .int .i64 s] 23 := Blk.made _ _ _
  have HW1 := Lib.hid hW1
  clear hW1
  go_enter Try.func48, Try.ntmps48
  go_wp2_with fail
  refine (num_Check _ _ _).mono ?_
  rintro e w1 ⟨rfl, hb1⟩
  rw [HC.out]
  have hs1 := HW1.out.later hb1
  have hb01 : Below w.heap.size w w1 := by (repeat (first | (with_reducible exact Below.refl _ _) | (with_reducible assumption) | (with_reducible refine below_alloc ?_ _) | (with_reducible refine below_drew ?_) | (with_reducible refine below_drewN ?_ _) | (with_reducible refine below_step ?_ (by with_reducible assumption))))
  have HS1 := Lib.hid hs1
  clear hs1
  go_wp2_with fail
  go_loopw [6, 17] (fun v i wr => ∃ k : Nat, k ≤ m ∧ i = .int .i64 k ∧ OwnRows wr w1.heap.size 0 v (tUp n s ps k) ∧ Below w1.heap.size w1 wr) (fun _ i _ => m - (intOf i).toNat)
  case atStart => exact ⟨0, Nat.zero_le _, rfl, OwnRows.nil _ _ _, Below.refl _ _⟩
  case round =>
    obtain ⟨k, hk, rfl, hown, hb⟩ := hrel
    obtain ⟨wo, rfl⟩ : ∃ wo : World, wo = wr := ⟨_, rfl⟩
    have HO := Lib.hid hown
    clear hown
    have hbw : Below w.heap.size w wo := by (repeat (first | (with_reducible exact Below.refl _ _) | (with_reducible assumption) | (with_reducible refine below_alloc ?_ _) | (with_reducible refine below_drew ?_) | (with_reducible refine below_drewN ?_ _) | (with_reducible refine below_step ?_ (by with_reducible assumption))))
    have hs2 := HS1.out.later hb
    have c0 := hs2.cell 0; have c1 := hs2.cell 1
    simp at c0 c1
    have t1 : (0 : Int) ≤ (k : Int) := by omega
    by_cases hlt : k < m
    · have hra := HR.out.later hbw
      obtain ⟨b, off, rfl, hc⟩ := hra.2.2 (by omega)
      obtain ⟨q0, q1⟩ := hc k hlt
      have t2 : (k : Int) < (m : Int) := by omega
      have HUS := Lib.hid (tUp_succ n s ps k)
      have HUL := Lib.hid (tUp_len n s ps k (by omega))
      clear hc hra hs2
      generalize prAt ps k = p at *
      obtain ⟨x, y⟩ := p
      dsimp only at q0 q1
      have hwx : Below wo.heap.size wo (wo.alloc (.cells #[.int .i64 x, .int .i64 y] 70)) := by (repeat (first | (with_reducible exact Below.refl _ _) | (with_reducible assumption) | (with_reducible refine below_alloc ?_ _) | (with_reducible refine below_drew ?_) | (with_reducible refine below_drewN ?_ _) | (with_reducible refine below_step ?_ (by with_reducible assumption))))
      have hx : Blk (wo.alloc (.cells #[.int .i64 x, .int .i64 y] 70)) wo.heap.size #[.int .i64 x, .int .i64 y] 70 := Blk.made _ _ _
      have c0 := cell_later hwx c0; have c1 := cell_later hwx c1
      have hxl := hx.lt
      have hxw := hb.size; have hxs := HS1.out.lt
      have x0 := hx.cell 0; have x1 := hx.cell 1
      simp at x0 x1
      have HX := Lib.hid hx
      clear hx
      cases hcnt : tCounts n x y
      · have HCN := Lib.hid hcnt
        have HE : Hid (tUp n s ps (k + 1) = tUp n s ps k) := Lib.hid (by rw [HUS.out]; unfold tPart; rw [hcnt, if_neg (by decide), List.append_nil])
        clear hcnt
        go_wp2_with (go_at_call 84; refine (tim_counts n x y _).mono ?_; rintro e w5 ⟨rfl, hb5⟩; rw [HCN.out])
        go_roundw
        case rel => exact ⟨k + 1, by omega, by go_num, by rw [HE.out]; exact HO.out.later (by (repeat (first | (with_reducible exact Below.refl _ _) | (with_reducible assumption) | (with_reducible refine below_alloc ?_ _) | (with_reducible refine below_drew ?_) | (with_reducible refine below_drewN ?_ _) | (with_reducible refine below_step ?_ (by with_reducible assumption))))), by (repeat (first | (with_reducible exact Below.refl _ _) | (with_reducible assumption) | (with_reducible refine below_alloc ?_ _) | (with_reducible refine below_drew ?_) | (with_reducible refine below_drewN ?_ _) | (with_reducible refine below_step ?_ (by with_reducible assumption))))⟩
        case measure => simp [intOf]; omega
      · have HCN := Lib.hid hcnt
        have HE : Hid (tUp n s ps (k + 1) = tUp n s ps k ++ tRowP n s (x, y) n) := Lib.hid (by rw [HUS.out]; unfold tPart; rw [hcnt, if_pos rfl, Int.toNat_natCast])
        clear hcnt
        have HPS := Lib.hid (tRowP_succ n s (x, y))
        have HPL := Lib.hid (fun j hj => tRowP_len n s (x, y) j n hj)
        have HAS := Lib.hid (tRowA_succ n s (x, y))
        have HAL := Lib.hid (tRowA_len n s (x, y))
        go_wp2_with (go_at_call 84; refine (tim_counts n x y _).mono ?_; rintro e w5 ⟨rfl, hb5⟩; rw [HCN.out]; have d0 := cell_later hb5 c0; have d1 := cell_later hb5 c1)
        have HO5 := Lib.hid (HO.out.later (below_step hwx hb5))
        have HX5 := Lib.hid (HX.out.later hb5)
        have hb15 : Below w1.heap.size w1 w5 := by (repeat (first | (with_reducible exact Below.refl _ _) | (with_reducible assumption) | (with_reducible refine below_alloc ?_ _) | (with_reducible refine below_drew ?_) | (with_reducible refine below_drewN ?_ _) | (with_reducible refine below_step ?_ (by with_reducible assumption))))
        clear HX HO x0 x1 q0 q1 c0 c1 d0 d1
        go_loopw [6, 28] (fun v i wx => ∃ j : Nat, j ≤ n ∧ i = .int .i64 j ∧ OwnRows wx w1.heap.size 0 v (tUp n s ps k ++ tRowP n s (x, y) j) ∧ Blk wx wo.heap.size #[.int .i64 x, .int .i64 y] 70 ∧ Below w1.heap.size w1 wx) (fun _ i _ => n - (intOf i).toNat)
        case atStart => exact ⟨0, Nat.zero_le _, rfl, by simpa [tRowP] using HO5.out, HX5.out, hb15⟩
        case round =>
          obtain ⟨j, hj, rfl, hown, hx, hb⟩ := hrel
          have HO := Lib.hid hown; have HX := Lib.hid hx
          clear hown hx
          have hs2 := HS1.out.later hb
          have c0 := hs2.cell 0; have c1 := hs2.cell 1
          simp at c0 c1
          clear hs2
          by_cases hltj : j < n
          · go_wp2_with fail
            go_loopw [6, 32] (fun v i wx => ∃ t : Nat, t ≤ j ∧ i = .int .i64 t ∧ OwnRows wx w1.heap.size 0 v ((tUp n s ps k ++ tRowP n s (x, y) j) ++ tRowA n s (x, y) j t) ∧ Blk wx wo.heap.size #[.int .i64 x, .int .i64 y] 70 ∧ Below w1.heap.size w1 wx) (fun _ i _ => j - (intOf i).toNat)
            case atStart => exact ⟨0, Nat.zero_le _, rfl, by simpa [tRowA] using HO.out, HX.out, hb⟩
            case round =>
              obtain ⟨t, ht, rfl, hown, hx, hb⟩ := hrel
              by_cases hltt : t < j
              · have HO2 := Lib.hid hown
                have hs2 := HS1.out.later hb
                have c0 := hs2.cell 0; have c1 := hs2.cell 1
                simp at c0 c1
                have x0 := hx.cell 0; have x1 := hx.cell 1
                simp at x0 x1
                obtain ⟨vs, hv1, hv2, hv3⟩ := hown
                have hlen : ((tUp n s ps k ++ tRowP n s (x, y) j) ++ tRowA n s (x, y) j t).length ≤ 500000000 := by
                  have h1 := HUL.out; have h2 := HPL.out j hj; have h3 := HAL.out j t
                  have h4 : j * n ≤ 64 * 64 := Nat.mul_le_mul (by omega) hn64
                  rw [List.length_append, List.length_append]; omega
                have HS2 : Hid ((tUp n s ps k ++ tRowP n s (x, y) j) ++ tRowA n s (x, y) j (t + 1) = ((tUp n s ps k ++ tRowP n s (x, y) j) ++ tRowA n s (x, y) j t) ++ [tRow n s (x, y) j t]) := Lib.hid (by rw [HAS.out]; simp only [List.append_assoc])
                generalize ((tUp n s ps k ++ tRowP n s (x, y) j) ++ tRowA n s (x, y) j t) = X at *
                generalize hN : X.length = N at *
                have HN := Lib.hid hN; clear hN
                have HV1 := Lib.hid hv1; clear hv1
                have HV3 := Lib.hid hv3; clear hv3
                have n0 : some w.heap.size ≠ u6.ownBlock := Ne.symm (own_ne_old hv2 HS1.out.lt)
                have n1 : some wo.heap.size ≠ u6.ownBlock := Ne.symm (own_ne_blk hv2 hx (by decide))
                have HX := Lib.hid hx
                have hsz := hb.size
                have hxl := hx.lt
                have HB := Lib.hid hb
                clear hs2 hx
                go_wp2_with fail
                obtain ⟨i0, hi0, hz0, hz1, hz2⟩ := info_parts info_ints
                go_region_held3 (fun wx => wx.cell? ⟨w.heap.size, 0, none⟩ = some (.int .i64 n) ∧ wx.cell? ⟨w.heap.size, 1, none⟩ = some (.int .i64 s) ∧ wx.cell? ⟨wo.heap.size, 0, none⟩ = some (.int .i64 x) ∧ wx.cell? ⟨wo.heap.size, 1, none⟩ = some (.int .i64 y))
                  (first | (refine ⟨keep_grown hgr ?_ n0, keep_grown hgr ?_ n0, keep_grown hgr ?_ n1, keep_grown hgr ?_ n1⟩ <;> (refine cell_later (w := wr) ?_ (by assumption) <;> (repeat (first | (with_reducible exact Below.refl _ _) | (with_reducible assumption) | (with_reducible refine below_alloc ?_ _) | (with_reducible refine below_drew ?_) | (with_reducible refine below_drewN ?_ _) | (with_reducible refine below_step ?_ (by with_reducible assumption)))))) | (refine ⟨?_, ?_, ?_, ?_⟩ <;> (refine cell_later (w := wr) ?_ (by assumption) <;> (repeat (first | (with_reducible exact Below.refl _ _) | (with_reducible assumption) | (with_reducible refine below_alloc ?_ _) | (with_reducible refine below_drew ?_) | (with_reducible refine below_drewN ?_ _) | (with_reducible refine below_step ?_ (by with_reducible assumption)))))) | go_keep)
                  (first | (go_at_call 86; refine (tim_not n s _ _ w.heap.size _ (cell_later (w := wr) (by (repeat (first | (with_reducible exact Below.refl _ _) | (with_reducible assumption) | (with_reducible refine below_alloc ?_ _) | (with_reducible refine below_drew ?_) | (with_reducible refine below_drewN ?_ _) | (with_reducible refine below_step ?_ (by with_reducible assumption))))) c0) (cell_later (w := wr) (by (repeat (first | (with_reducible exact Below.refl _ _) | (with_reducible assumption) | (with_reducible refine below_alloc ?_ _) | (with_reducible refine below_drew ?_) | (with_reducible refine below_drewN ?_ _) | (with_reducible refine below_step ?_ (by with_reducible assumption))))) c1)).mono ?_; rintro e w6 ⟨rfl, hbA⟩; have hsz6 := (show Below w1.heap.size w1 w6 by (repeat (first | (with_reducible exact Below.refl _ _) | (with_reducible assumption) | (with_reducible refine below_alloc ?_ _) | (with_reducible refine below_drew ?_) | (with_reducible refine below_drewN ?_ _) | (with_reducible refine below_step ?_ (by with_reducible assumption))))).size) | (refine step_append_lies _ (by rfl) _ _ _ (by rfl) w1.heap.size 41 i0 _ 1 24 Try.underlying43 hi0 hz0 hz1 hz2 rfl (by omega) u6 N vs (by rfl) (((own_later hv2 (by (repeat (first | (with_reducible exact Below.refl _ _) | (with_reducible assumption) | (with_reducible refine below_alloc ?_ _) | (with_reducible refine below_drew ?_) | (with_reducible refine below_drewN ?_ _) | (with_reducible refine below_step ?_ (by with_reducible assumption)))) : Below wr.heap.size wr w6)).alloc _).alloc _) ⟨w6.heap.size + 1, 0, none⟩ 1 1 [.slice (some ⟨w6.heap.size, 0, none⟩) 2 2] (by rfl) (by rfl) (World.news_of_block (cs := #[.slice (some ⟨w6.heap.size, 0, none⟩) 2 2]) (t := 41) (fr := (0, 0)) (Blk.at (w6.alloc _) _ _ (by simp))) (by simp [Value.oneCell']) (by omega) (by unfold maxLen; omega) (by omega) (by simp; omega) (w6.heap.size + 1 + 1) (by simp) ?_; intro gg gcap w7 hown1 hgr hat hglt))
                have hb6 : Below wr.heap.size wr w6 := by (repeat (first | (with_reducible exact Below.refl _ _) | (with_reducible assumption) | (with_reducible refine below_alloc ?_ _) | (with_reducible refine below_drew ?_) | (with_reducible refine below_drewN ?_ _) | (with_reducible refine below_step ?_ (by with_reducible assumption))))
                have hb16 : Below w1.heap.size w1 w6 := by (repeat (first | (with_reducible exact Below.refl _ _) | (with_reducible assumption) | (with_reducible refine below_alloc ?_ _) | (with_reducible refine below_drew ?_) | (with_reducible refine below_drewN ?_ _) | (with_reducible refine below_step ?_ (by with_reducible assumption))))
                have hv6 := own_later hv2 hb6
                obtain ⟨hnew, hbw7⟩ := OwnRows.push (w := w1) (wr := w6) (xs := tRow n s (x, y) j t) (Nat.zero_le _) HN.out hb16 HV1.out hv6 (fun i u h => (HV3.out i u h).later hb6) (by simp [tRow, maxLen]) _ hown1 hgr
                rw [← HS2.out] at hnew
                have hx7 := (((HX.out.later hb6).later (below_alloc (Below.refl _ _) _)).later (below_alloc (Below.refl _ _) _)).grownT (by decide) (GrownT.of_own ((hv6.alloc _).alloc _) hgr)
                have HNEW := Lib.hid hnew; have HX7 := Lib.hid hx7
                clear hown1 hgr hv2 hv6 hnew hx7
                go_wp2_with fail
                go_roundw
                case rel => exact ⟨t + 1, by omega, by go_num, HNEW.out, HX7.out, hbw7⟩
                case measure => simp [intOf]; omega
              · have HT2 : Hid (t = j) := Lib.hid (by omega)
                have HO2 := Lib.hid hown; have HX2 := Lib.hid hx
                clear hown hx
                go_wp2_with fail
                go_roundw
                case rel => exact ⟨j + 1, by omega, by go_num, by rw [HPS.out, ← List.append_assoc, ← HT2.out]; rw [← HT2.out] at HO2; exact HO2.out, HX2.out, by (repeat (first | (with_reducible exact Below.refl _ _) | (with_reducible assumption) | (with_reducible refine below_alloc ?_ _) | (with_reducible refine below_drew ?_) | (with_reducible refine below_drewN ?_ _) | (with_reducible refine below_step ?_ (by with_reducible assumption))))⟩
                case measure => simp [intOf]; omega
          · have HJ : Hid (j = n) := Lib.hid (by omega)
            go_wp2_with fail
            go_roundw
            case rel => exact ⟨k + 1, by omega, by go_num, by have h := HO.out; rw [HJ.out] at h; rw [HE.out]; exact h, by (repeat (first | (with_reducible exact Below.refl _ _) | (with_reducible assumption) | (with_reducible refine below_alloc ?_ _) | (with_reducible refine below_drew ?_) | (with_reducible refine below_drewN ?_ _) | (with_reducible refine below_step ?_ (by with_reducible assumption))))⟩
            case measure => simp [intOf]; omega
    · have HK : Hid (k = m) := Lib.hid (by omega)
      go_wp2_with fail
      go_ret
      exact ⟨_, rfl, by rw [HT.out, ← HK.out]; exact HO.out.mono hb01.size (Nat.le_refl _), hbw⟩
end Go.Proofs.Ythfcbjfeepindaa
