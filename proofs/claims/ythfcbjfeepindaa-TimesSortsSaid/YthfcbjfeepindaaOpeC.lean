/- The contract of oper.Pairs. -/
import Derived.Test.YthfcbjfeepindaaOpe
import Derived.Test.YthfcbjfeepindaaApp
namespace Go.Proofs.Ythfcbjfeepindaa
open Go.RowKit
set_option linter.unusedVariables false
set_option linter.unusedSimpArgs false

theorem info_pair : (Try.prog.info? 70).map (fun i => (i.zero, i.size, i.bytes)) = some (some (.agg #[.int .i64 0, .int .i64 0]), 2, 16) := by kernel_rfl
def prC (p : Int × Int) : List Value := [.int .i64 p.1, .int .i64 p.2]
/-- A slice of pairs that the call has made. -/
def OwnPairs (w : World) (B : Nat) (v : Value) (ps : List (Int × Int)) : Prop := w.ownsRow B 70 2 v ps.length (ps.flatMap prC)
theorem OwnPairs.later {w w' : World} {B : Nat} {v : Value} {xs : List (Int × Int)} (h : OwnPairs w B v xs) (hb : Below w.heap.size w w') : OwnPairs w' B v xs := own_later h hb
theorem OwnPairs.nil (w : World) (B : Nat) : OwnPairs w B (.slice none 0 0) [] := own_nil _ _ _ _
/-- One pair more, by append. -/
theorem OwnPairs.push {w wr w1 : World} {v v' : Value} {xs : List (Int × Int)} {y : Int × Int} {N : Nat} (hN : xs.length = N) (hb : Below w.heap.size w wr) (h : wr.ownsRow w.heap.size 70 2 v N (xs.flatMap prC)) (o : Obj)
    (hown : w1.ownsRow w.heap.size 70 2 v' (N + 1) (xs.flatMap prC ++ prC y)) (hg : (wr.alloc o).grownBy w1 v.ownBlock) : OwnPairs w1 w.heap.size v' (xs ++ [y]) ∧ Below w.heap.size w w1 := by
  refine ⟨?_, own_bel (below_alloc hb _) (h.alloc _) hg⟩
  unfold OwnPairs
  rw [List.length_append, hN, List.flatMap_append]
  simpa using hown

def oPairUp (xs : List Op5) (n k : Nat) : List (Int × Int) := (List.range k).flatMap fun i => ((List.range n).filter fun j => oAhead (oAt xs i) (oAt xs j)).map fun j : Nat => ((i : Int), (j : Int))
def oPairRow (xs : List Op5) (i k : Nat) : List (Int × Int) := ((List.range k).filter fun j => oAhead (oAt xs i) (oAt xs j)).map fun j : Nat => ((i : Int), (j : Int))
theorem oPairUp_succ (xs : List Op5) (n k : Nat) : oPairUp xs n (k + 1) = oPairUp xs n k ++ oPairRow xs k n := by unfold oPairUp oPairRow; rw [List.range_succ, List.flatMap_append]; simp
theorem oPairRow_succ (xs : List Op5) (i k : Nat) : oPairRow xs i (k + 1) = if oAhead (oAt xs i) (oAt xs k) = true then oPairRow xs i k ++ [((i : Int), (k : Int))] else oPairRow xs i k := by
  unfold oPairRow
  rw [List.range_succ, List.filter_append, List.map_append]
  by_cases h : oAhead (oAt xs i) (oAt xs k) = true <;> simp [h]
theorem oPairRow_len (xs : List Op5) (i k : Nat) : (oPairRow xs i k).length ≤ k := by
  unfold oPairRow; rw [List.length_map]; exact Nat.le_trans (List.length_filter_le _ _) (by simp)
theorem oPairUp_len (xs : List Op5) (n k : Nat) : (oPairUp xs n k).length ≤ k * n := by
  induction k with
  | zero => simp [oPairUp]
  | succ k ih => have := oPairRow_len xs k n; rw [oPairUp_succ, List.length_append, Nat.add_mul, Nat.one_mul]; omega

set_option maxRecDepth 100000 in
set_option maxHeartbeats 2000000 in
theorem ope_Pairs (a : Option Addr) (len cap : Nat) (xs : List Op5) (w : World) (hr : OpRow w a len xs) (hlen : len ≤ 5000) :
    Calls Try.prog 52 #[.slice a len cap] w fun e w' => ∃ v, e = .returned v ∧ OwnPairs w' w.heap.size v (oPairs xs) ∧ Below w.heap.size w w' := by
  have hxl := hr.1
  have HR := Lib.hid hr
  have HXL : Hid (oPairs xs = oPairUp xs len len) := Lib.hid (by unfold oPairs oPairUp; rw [hxl])
  clear hr hxl
  go_enter Try.func52, Try.ntmps52
  go_wp2_with fail
  go_loopw [3, 4, 5, 10] (fun v x y i wr => ∃ k : Nat, k ≤ len ∧ i = .int .i64 k ∧ OwnPairs wr w.heap.size v (oPairUp xs len k) ∧ Below w.heap.size w wr) (fun _ _ _ i _ => len - (intOf i).toNat)
  case atStart => exact ⟨0, Nat.zero_le _, rfl, OwnPairs.nil _ _, Below.refl _ _⟩
  case round =>
    obtain ⟨k, hk, rfl, hl, hbr⟩ := hrel
    obtain ⟨wo, rfl⟩ : ∃ wo : World, wo = wr := ⟨_, rfl⟩
    by_cases hlt : k < len
    · have hra := HR.out.later hbr
      obtain ⟨b, off, rfl, hc⟩ := hra.2.2 (by omega)
      have hck := hc k hlt
      obtain ⟨q0, q1, q2, q3, q4⟩ := id hck
      have HS := Lib.hid (oPairUp_succ xs len k)
      have HPL := Lib.hid (oPairUp_len xs len k)
      have HRL := Lib.hid (oPairRow_len xs k)
      have HRS := Lib.hid (oPairRow_succ xs k)
      have t1 : (0 : Int) ≤ (k : Int) := by omega
      have t2 : (k : Int) < (len : Int) := by omega
      have hw2 : Below wo.heap.size wo (wo.alloc (.cells (opC (oAt xs k)).toArray 111)) := by (repeat (first | (with_reducible exact Below.refl _ _) | (with_reducible assumption) | (with_reducible refine below_alloc ?_ _) | (with_reducible refine below_drew ?_) | (with_reducible refine below_drewN ?_ _) | (with_reducible refine below_step ?_ (by with_reducible assumption))))
      have hx : Blk (wo.alloc (.cells (opC (oAt xs k)).toArray 111)) wo.heap.size (opC (oAt xs k)).toArray 111 := Blk.made _ _ _
      unfold opC at hw2 hx
      have HL := Lib.hid hl
      clear hc hra hck hl
      generalize hW2 : wo.alloc (.cells ([.int .i64 (oAt xs k).p, .int .i64 (oAt xs k).k, .int .i64 (oAt xs k).s, .int .i64 (oAt xs k).e, .int .i64 (oAt xs k).r] : List Value).toArray 111) = W2 at *
      have HW2 := Lib.hid hW2
      clear hW2
      have hbr2 : Below w.heap.size w W2 := by (repeat (first | (with_reducible exact Below.refl _ _) | (with_reducible assumption) | (with_reducible refine below_alloc ?_ _) | (with_reducible refine below_drew ?_) | (with_reducible refine below_drewN ?_ _) | (with_reducible refine below_step ?_ (by with_reducible assumption))))
      go_wp2_with fail
      rw [HW2.out]
      go_loopw [3, 6, 7, 17] (fun v x y i wx => ∃ j : Nat, j ≤ len ∧ i = .int .i64 j ∧ OwnPairs wx w.heap.size v (oPairUp xs len k ++ oPairRow xs k j) ∧ Blk wx wo.heap.size (opC (oAt xs k)).toArray 111 ∧ Below w.heap.size w wx) (fun _ _ _ i _ => len - (intOf i).toNat)
      case atStart => exact ⟨0, Nat.zero_le _, rfl, by simpa [oPairRow] using HL.out.later hw2, hx, hbr2⟩
      case round =>
        obtain ⟨j, hj, rfl, hl, hbx, hbw⟩ := hrel
        by_cases hltj : j < len
        · have hra := HR.out.later hbw
          obtain ⟨_, _, e1, hc⟩ := hra.2.2 (by omega)
          cases e1
          obtain ⟨p0, p1, p2, p3, p4⟩ := hc j hltj
          have x0 := hbx.cell 0; have x1 := hbx.cell 1; have x2 := hbx.cell 2; have x3 := hbx.cell 3; have x4 := hbx.cell 4
          simp [opC] at x0 x1 x2 x3 x4
          have hzl := hbx.lt
          have HBX := Lib.hid hbx
          clear hbx
          have hrs := HRS.out j
          have hrl := HRL.out j
          have hpl := HPL.out
          have hkl : k * len ≤ 5000 * 5000 := Nat.mul_le_mul (by omega) hlen
          have u1 : (0 : Int) ≤ (j : Int) := by omega
          have u2 : (j : Int) < (len : Int) := by omega
          clear hc hra q0 q1 q2 q3 q4
          cases hA : oAhead (oAt xs k) (oAt xs j)
          · have HA := Lib.hid hA
            have HS2 : Hid (oPairRow xs k (j + 1) = oPairRow xs k j) := Lib.hid (by rw [hrs, hA, if_neg (by decide)])
            have HL := Lib.hid hl
            clear hrs hA hl hpl hrl hkl
            go_wp2_with (go_at_call 88; refine (ope_Ahead (oAt xs k) (oAt xs j) _).mono ?_; rintro e w' ⟨rfl, hbA⟩; rw [HA.out])
            go_roundw
            case rel => exact ⟨j + 1, by omega, by go_num, by rw [HS2.out]; exact HL.out.later (by (repeat (first | (with_reducible exact Below.refl _ _) | (with_reducible assumption) | (with_reducible refine below_alloc ?_ _) | (with_reducible refine below_drew ?_) | (with_reducible refine below_drewN ?_ _) | (with_reducible refine below_step ?_ (by with_reducible assumption))))), HBX.out.later (by (repeat (first | (with_reducible exact Below.refl _ _) | (with_reducible assumption) | (with_reducible refine below_alloc ?_ _) | (with_reducible refine below_drew ?_) | (with_reducible refine below_drewN ?_ _) | (with_reducible refine below_step ?_ (by with_reducible assumption))))), by (repeat (first | (with_reducible exact Below.refl _ _) | (with_reducible assumption) | (with_reducible refine below_alloc ?_ _) | (with_reducible refine below_drew ?_) | (with_reducible refine below_drewN ?_ _) | (with_reducible refine below_step ?_ (by with_reducible assumption))))⟩
            case measure => simp [intOf]; omega
          · have HA := Lib.hid hA
            have HS2 : Hid (oPairUp xs len k ++ oPairRow xs k (j + 1) = (oPairUp xs len k ++ oPairRow xs k j) ++ [((k : Int), (j : Int))]) := Lib.hid (by rw [hrs, hA, if_pos rfl, List.append_assoc])
            have hlen2 : (oPairUp xs len k ++ oPairRow xs k j).length ≤ 26000000 := by rw [List.length_append]; omega
            generalize hX : oPairUp xs len k ++ oPairRow xs k j = X at *
            generalize hN : X.length = N at *
            have HN := Lib.hid hN
            unfold OwnPairs at hl
            rw [hN] at hl
            clear hX hN hrs hA hpl hrl hkl
            go_wp2_with fail
            refine (ope_Ahead (oAt xs k) (oAt xs j) _).mono ?_
            rintro e w5 ⟨rfl, hbA⟩
            rw [HA.out]
            have hb5 : Below wr.heap.size wr w5 := by (repeat (first | (with_reducible exact Below.refl _ _) | (with_reducible assumption) | (with_reducible refine below_alloc ?_ _) | (with_reducible refine below_drew ?_) | (with_reducible refine below_drewN ?_ _) | (with_reducible refine below_step ?_ (by with_reducible assumption))))
            have hl5 := own_later hl hb5
            have hbw5 : Below w.heap.size w w5 := by (repeat (first | (with_reducible exact Below.refl _ _) | (with_reducible assumption) | (with_reducible refine below_alloc ?_ _) | (with_reducible refine below_drew ?_) | (with_reducible refine below_drewN ?_ _) | (with_reducible refine below_step ?_ (by with_reducible assumption))))
            have hx5 := HBX.out.later hb5
            have HX5 := Lib.hid (hx5.later (below_alloc (Below.refl _ _) (.cells #[.int .i64 k, .int .i64 j] 70)))
            clear hx5
            have hsz := hbw5.size
            clear hl x0 x1 x2 x3 x4 p0 p1 p2 p3 p4 hzl
            go_wp2_with (at_builtin; refine wpList_app rfl _ _ 63 rfl w.heap.size 70 (.agg #[.int .i64 0, .int .i64 0]) 2 16 Try.underlying63 info_pair rfl (by decide) _ _ _ rfl (hl5.alloc _) (some ⟨w5.heap.size, 0, none⟩) 1 1 [.int .i64 k, .int .i64 j] rfl ?c0 rfl ?c1 ?c2 ?c3 ?c4 ?c5 ?_)
            case c0 => exact fun h => by cases h
            case c1 => exact CellRow.made w5 _ _
            case c2 => intro u hu; simp at hu; rcases hu with rfl | rfl <;> rfl
            case c3 => unfold maxLen; omega
            case c4 => omega
            case c5 => simp; omega
            intro v' w1 hown1 hgr
            obtain ⟨hnew, hbw1⟩ := OwnPairs.push (y := ((k : Int), (j : Int))) HN.out hbw5 hl5 _ hown1 hgr
            have hx1 := HX5.out.grownT (by decide) (GrownT.of_own (hl5.alloc _) hgr)
            rw [← HS2.out] at hnew
            clear hown1 hgr hl5
            go_wp2_with fail
            go_roundw
            case rel => exact ⟨j + 1, by omega, by go_num, hnew, hx1, hbw1⟩
            case measure => simp [intOf]; omega
        · have hjn : j = len := by omega
          have HJN := Lib.hid hjn; clear hjn
          rw [HJN.out, ← HS.out] at hl
          go_wp2_with fail
          go_roundw
          case rel => exact ⟨k + 1, by omega, by go_num, hl, hbw⟩
          case measure => simp [intOf]; omega
    · have hkn : k = len := by omega
      have HKN := Lib.hid hkn; clear hkn
      rw [HKN.out] at hl
      have HL := Lib.hid hl
      clear hl
      go_wp2_with fail
      go_ret
      exact ⟨_, rfl, by rw [HXL.out]; exact HL.out, hbr⟩
end Go.Proofs.Ythfcbjfeepindaa
