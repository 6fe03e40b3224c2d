import Derived.Test.YtdladbfjgkejiaaMgAR
import Derived.Deep.RegionLaw
import Derived.Test.YtdladbfjgkejiaaRows
import Derived.WalkKit
import Derived.WalkSpells
import Derived.WalkLawsBesides
import Derived.BigGuardPart
import Derived.Handy
import Derived.Deep.QuietTactic
import Derived.BigQuiet
import Derived.Deep.RegionHeld3
import Derived.Lib.Hide
import Derived.Test.YtdladbfjgkejiaaMgAA
import Derived.Test.YtdladbfjgkejiaaMgAQ
namespace Go.Proofs.Ytdladbfjgkejiaa
open Go.RowKit
open Ieee
set_option linter.unusedVariables false
set_option linter.unusedSimpArgs false

@[local go_sem] theorem run_store_complex {P : Program} (w : World) (a : Addr) (m : Mode) (k : FloatKind) (x y : Nat) : (store a (.complex k x y) m).run P w = stored P w a (.complex k x y) m := run_store P w a _ m rfl
def pureAt (xss : List (List Int)) (v : Nat) : List Int := if (decide (0 < cYs v xss) != decide (0 < cNs v xss)) = true then [lmake v (decide (0 < cYs v xss))] else []
def pureUp (xss : List (List Int)) : Nat → List Int
  | 0 => []
  | n + 1 => pureUp xss n ++ pureAt xss (n + 1)
theorem pureAt_le (xss : List (List Int)) (v : Nat) : (pureAt xss v).length ≤ 1 := by unfold pureAt; split <;> simp
theorem pureUp_le (xss : List (List Int)) (n : Nat) : (pureUp xss n).length ≤ n := by
  induction n with
  | zero => simp [pureUp]
  | succ n ih =>
    have := pureAt_le xss (n + 1)
    simp only [pureUp, List.length_append]
    omega
def pureV (vars : Int) : Nat := (max 0 (min vars 100000)).toNat
theorem run_makeC (n : Nat) (h : n ≤ 2000000) (w : World) : (Instr.makeSlice 58 (.int .i64 (n : Int)) (.int .i64 (n : Int))).run Try.prog w = .ok (.slice (some ⟨w.heap.size, 0, none⟩) n n) (w.alloc (.cells (madeCells #[.complex .f64 0 0] n) 59)) := by
  obtain ⟨i, hi, hzz⟩ := Option.map_eq_some_iff.1 info_cplx
  simp only [Prod.mk.injEq] at hzz
  obtain ⟨hz, hs, hb⟩ := hzz
  have hr := run_make (P := Try.prog) w 58 59 i (.complex .f64 0 0) Try.underlying58 hi hz .i64 .i64 n n (by omega) (by omega) (by rw [hb]; omega) (by omega)
  simp only [Int.toNat_natCast, hs, Nat.mul_one] at hr
  exact hr
set_option maxRecDepth 100000 in
set_option maxHeartbeats 2000000 in
theorem cnf_Pure (vars : Int) (a : Option Addr) (len cap : Nat) (xss : List (List Int)) (w : World) (hr : Rows2 w a len xss) (hlen : len ≤ 1000000) (hs : ShortR xss 100000) :
    Calls Try.prog 17 #[.agg #[.int .i64 vars, .slice a len cap]] w fun e w' => ∃ v, e = .returned v ∧ OwnInts w' w.heap.size v (pureUp xss (pureV vars)) ∧ Below w.heap.size w w' := by
  have HL := Lib.hid hr.1
  have HS := Lib.hid hs
  have hb1 : Below w.heap.size w (w.alloc (.cells #[.int .i64 vars, .slice a len cap] 24)) := below_alloc (Below.refl _ _) _
  have hc1 := Blk.made w #[.int .i64 vars, .slice a len cap] 24
  have hz1 : (w.alloc (.cells #[.int .i64 vars, .slice a len cap] 24)).heap.size = w.heap.size + 1 := by simp
  generalize hw1 : w.alloc (.cells #[.int .i64 vars, .slice a len cap] 24) = w1 at *
  have hb2 : Below w1.heap.size w1 (w1.alloc (.cells (madeCells #[.complex .f64 0 0] (pureV vars + 1)) 59)) := below_alloc (Below.refl _ _) _
  have hc2 := Blk.made w1 (madeCells #[.complex .f64 0 0] (pureV vars + 1)) 59
  rw [hz1] at hc2
  obtain ⟨m0, hm0, hm1, hV⟩ : ∃ m0 : Int, (if (100000 : Int) < vars then (100000 : Int) else vars) = m0 ∧ (if (0 : Int) < m0 then m0 else 0) = (pureV vars : Int) ∧ pureV vars ≤ 100000 := by
    refine ⟨_, rfl, ?_, ?_⟩
    · unfold pureV; split <;> split <;> omega
    · unfold pureV; omega
  generalize pureV vars = V at *
  generalize hw2 : w1.alloc (.cells (madeCells #[.complex .f64 0 0] (V + 1)) 59) = W1 at *
  have HW1 := Lib.hid hw1; have HW2 := Lib.hid hw2
  have hB2 := below_step hb1 hb2
  have e0 := hc1.cell 0; have e1 := hc1.cell 1
  have E1 := Lib.hid ((hc1.later hb2).cell 1)
  simp only [List.getElem?_toArray, List.getElem?_cons_zero, List.getElem?_cons_succ] at e0 e1 E1
  have HR0 := Lib.hid hr
  have HCB : Hid (CBlk W1 (w.heap.size + 1) (V + 1) (fun v => cYs v (xss.take 0)) (fun v => cNs v (xss.take 0))) := Lib.hid (by rw [List.take_zero]; rw [madeCplx] at hc2; exact hc2)
  have hmk := run_makeC (V + 1) (by omega) w1
  rw [hw2, hz1] at hmk
  rw [Int.natCast_add, show ((1 : Nat) : Int) = 1 from rfl, ← hw1] at hmk
  have HBW := Lib.hid hB2
  clear hr hs hb2 hc2 hB2 hw1 hw2 hc1 hb1 hz1
  have e3 := E1.out
  go_enter Try.func17, Try.ntmps17
  go_wp2_with fail
  clear hmk hm0 hm1 e0 e1 e3
  go_loopw [6, 8, 9, 26] (fun _ _ _ i wr => ∃ k : Nat, k ≤ len ∧ i = .int .i64 k ∧ CBlk wr (w.heap.size + 1) (V + 1) (fun v => cYs v (xss.take k)) (fun v => cNs v (xss.take k)) ∧ Below w.heap.size w wr) (fun _ _ _ i _ => len - (intOf i).toNat)
  case atStart => exact ⟨0, Nat.zero_le _, rfl, HCB.out, HBW.out⟩
  case round =>
    clear HCB HBW E1
    obtain ⟨k, hk, rfl, hCB, hbw⟩ := hrel
    have t1 : (0 : Int) ≤ (k : Int) := by omega
    by_cases hlt : k < len
    · obtain ⟨b, off, u0, rfl, hck0, ac, lc, cc, rfl, _, _, hrc⟩ := HR0.out.2.2 k hlt
      have hck := cell_later hbw hck0
      have t2 : (k : Int) < (len : Int) := by omega
      have HT := Lib.hid (take_snocR xss k (by rw [HL.out]; exact hlt))
      have hlc : lc ≤ 100000 := by rw [← hrc.1]; exact HS.out _ (at_memR HL.out hlt)
      have HRC := Lib.hid hrc; have HLC := Lib.hid hrc.1
      have hmc := hrc.2.1; unfold maxLen at hmc
      have HY1 : Hid (∀ v, cYs v (xss.take k) ≤ 100000000000) := Lib.hid fun v => Nat.le_trans (cYs_le (B := 100000) v _ (fun c hc => HS.out c (List.mem_of_mem_take hc))) (by rw [List.length_take]; omega)
      have HY2 : Hid (∀ v, cNs v (xss.take k) ≤ 100000000000) := Lib.hid fun v => Nat.le_trans (cNs_le (B := 100000) v _ (fun c hc => HS.out c (List.mem_of_mem_take hc))) (by rw [List.length_take]; omega)
      clear hrc hck0
      generalize xss.getD k [] = z at *
      generalize xss.take k = Y at *
      have HCB0 : Hid (CBlk wr (w.heap.size + 1) (V + 1) (fun v => cYs v Y + cY v (z.take 0)) (fun v => cNs v Y + cN v (z.take 0))) := Lib.hid (by rw [List.take_zero]; exact hCB)
      have HBW := Lib.hid hbw
      clear hCB hbw
      go_wp2_with fail
      clear hck
      go_loopw [8, 9, 32] (fun _ _ i wz => ∃ j : Nat, j ≤ lc ∧ i = .int .i64 j ∧ CBlk wz (w.heap.size + 1) (V + 1) (fun v => cYs v Y + cY v (z.take j)) (fun v => cNs v Y + cN v (z.take j)) ∧ Below w.heap.size w wz) (fun _ _ i _ => lc - (intOf i).toNat)
      case atStart => exact ⟨0, Nat.zero_le _, rfl, HCB0.out, HBW.out⟩
      case round =>
        clear HCB0 HBW
        obtain ⟨j, hj, rfl, hC2, hbz⟩ := hrel
        have t3 : (0 : Int) ≤ (j : Int) := by omega
        by_cases hlt2 : j < lc
        · obtain ⟨b2, off2, rfl, hcells⟩ := (HRC.out.later hbz).2.2 (by omega)
          have hcj := hcells j hlt2
          have t4 : (j : Int) < (lc : Int) := by omega
          have HZ := Lib.hid (take_snocI z HLC.out hlt2)
          have hb1 := cY_le
          clear hcells
          generalize z.getD j 0 = x at *
          have hlv := lvar_bd x
          obtain ⟨p, hp⟩ : ∃ p : Nat, lvar x = (p : Int) := ⟨(lvar x).toNat, by omega⟩
          have HP := Lib.hid hp
          by_cases hv : p ≤ V
          · have d1 : (p : Int) ≤ (V : Int) := by omega
            have d2 : (0 : Int) ≤ (p : Int) := by omega
            have d3 : (p : Int) < (V : Int) + 1 := by omega
            have hcl := hC2.cell (v := p) (by omega)
            have hfr := Blk.free hC2 p
            have hN := hC2.set (f' := fun v => cYs v Y + cY v (z.take (j + 1))) (g' := fun v => cNs v Y + cN v (z.take (j + 1))) p (fun u hu => by simp only [HZ.out, cY_snoc, hp]; rw [if_neg (by omega)]; rfl) (fun u hu => by simp only [HZ.out, cN_snoc, hp]; rw [if_neg (by omega)]; rfl)
            have hadd := run_cplx_add (P := Try.prog) 59 (cYs p Y + cY p (z.take j)) (cNs p Y + cN p (z.take j)) (pos1 x) (neg1 x) (by have := HY1.out p; have := cY_le p (z.take j); have := pos1_le x; rw [List.length_take] at *; omega) (by have := HY2.out p; have := cN_le p (z.take j); have := neg1_le x; rw [List.length_take] at *; omega)
            have HE1 : Hid (cYs p Y + cY p (z.take j) + pos1 x = cYs p Y + cY p (z.take (j + 1))) := Lib.hid (by rw [HZ.out, cY_snoc, hp, if_pos rfl]; omega)
            have HE2 : Hid (cNs p Y + cN p (z.take j) + neg1 x = cNs p Y + cN p (z.take (j + 1))) := Lib.hid (by rw [HZ.out, cN_snoc, hp, if_pos rfl]; omega)
            rw [HE1.out, HE2.out] at hadd
            unfold cplx at hadd hcl
            have HN := Lib.hid hN; have HBZ := Lib.hid hbz
            clear hN hp hlv hC2 hb1
            go_wp2_with (go_at_call 24; refine (lit_Var _ _).mono ?_; rintro e wq ⟨rfl, hq⟩; obtain rfl := hq.symm; rw [HP.out])
            go_region_law (go_simp; refine (cnf_sides _ _).mono ?_; rintro e wq ⟨rfl, hq⟩; obtain rfl := hq; unfold cplx)
            all_goals
              go_wp2_with fail
              go_roundw
              case rel => exact ⟨j + 1, by omega, by go_num, HN.out, (below_set HBZ.out (Nat.le_succ _) _ _).drew⟩
              case measure => simp [intOf]; omega
          · have d1 : ¬ (p : Int) ≤ (V : Int) := by omega
            have d0 : decide ((p : Int) ≤ (V : Int)) = false := decide_eq_false d1
            have HN : Hid (CBlk wr (w.heap.size + 1) (V + 1) (fun v => cYs v Y + cY v (z.take (j + 1))) (fun v => cNs v Y + cN v (z.take (j + 1)))) := Lib.hid (by
              refine Eq.trans hC2 (congrArg (fun l : List Value => some (Obj.cells l.toArray 59 (0, 0))) (List.map_congr_left fun u hu => ?_))
              have hu2 := List.mem_range.1 hu
              simp only [HZ.out, cY_snoc, cN_snoc, hp]
              rw [if_neg (by omega), if_neg (by omega)]; rfl)
            have HBZ := Lib.hid hbz
            clear hp hlv hC2 hb1
            go_wp2_with (go_at_call 24; refine (lit_Var _ _).mono ?_; rintro e wq ⟨rfl, hq⟩; obtain rfl := hq.symm; rw [HP.out])
            go_roundw
            case rel => exact ⟨j + 1, by omega, by go_num, HN.out, HBZ.out⟩
            case measure => simp [intOf]; omega
        · have hjl : j = lc := by omega
          have hTZ : z.take j = z := List.take_of_length_le (by rw [HLC.out]; omega)
          have HN : Hid (CBlk wr (w.heap.size + 1) (V + 1) (fun v => cYs v (xss.take (k + 1))) (fun v => cNs v (xss.take (k + 1)))) := Lib.hid (by
            rw [HT.out]
            simp only [cYs_snoc, cNs_snoc]
            rw [hTZ] at hC2
            exact hC2)
          have HBZ := Lib.hid hbz
          clear hC2 hbz hTZ
          go_wp2_with fail
          go_roundw
          case rel => exact ⟨k + 1, by omega, by go_num, HN.out, HBZ.out⟩
          case measure => simp [intOf]; omega
    · have hTK : xss.take k = xss := List.take_of_length_le (by rw [HL.out]; omega)
      rw [hTK] at hCB
      have HCB := Lib.hid hCB; have HBW := Lib.hid hbw
      have HY1 : Hid (∀ v, cYs v xss ≤ 100000000000) := Lib.hid fun v => Nat.le_trans (cYs_le (B := 100000) v _ (fun c hc => HS.out c hc)) (by rw [HL.out]; omega)
      have HY2 : Hid (∀ v, cNs v xss ≤ 100000000000) := Lib.hid fun v => Nat.le_trans (cNs_le (B := 100000) v _ (fun c hc => HS.out c hc)) (by rw [HL.out]; omega)
      clear hCB hbw hTK
      go_wp2_with fail
      go_loopw [10, 11, 12, 13, 14, 15] (fun pv i _ _ _ _ wz => ∃ j : Nat, j ≤ V ∧ i = .int .i64 ((j : Int) + 1) ∧ OwnInts wz w.heap.size pv (pureUp xss j) ∧ CBlk wz (w.heap.size + 1) (V + 1) (fun v => cYs v xss) (fun v => cNs v xss) ∧ Below w.heap.size w wz) (fun _ i _ _ _ _ _ => V + 1 - (intOf i).toNat)
      case atStart => exact ⟨0, Nat.zero_le _, rfl, own_nil _ _ _ _, HCB.out, HBW.out⟩
      case round =>
        clear HCB HBW
        obtain ⟨j, hj, rfl, hl, hC, hbr⟩ := hrel
        by_cases hlt2 : j < V
        · have d0 : (j : Int) + 1 ≤ (V : Int) := by omega
          have d1 : (0 : Int) ≤ (j : Int) + 1 := by omega
          have d2 : (j : Int) + 1 < (V : Int) + 1 := by omega
          have hcl := hC.cell (v := j + 1) (by omega)
          have hT : ((j : Int) + 1).toNat = j + 1 := by omega
          have HU : Hid (pureUp xss (j + 1) = pureUp xss j ++ pureAt xss (j + 1)) := Lib.hid rfl
          have hP : pureAt xss (j + 1) = if (decide (0 < cYs (j + 1) xss) != decide (0 < cNs (j + 1) xss)) = true then [lmake ((j + 1 : Nat) : Int) (decide (0 < cYs (j + 1) xss))] else [] := rfl
          have h1 := HY1.out (j + 1); have h2 := HY2.out (j + 1)
          generalize cYs (j + 1) xss = n at *
          generalize cNs (j + 1) xss = m at *
          have o1 := fb_order n 0 (by omega) (by omega)
          have o2 := fb_order m 0 (by omega) (by omega)
          rw [fb_zero] at o1 o2
          have q1 : ∀ z : Nat, (compare (z : Int) ((0 : Nat) : Int) == Ordering.gt) = decide (0 < z) := by
            intro z
            rcases Nat.eq_zero_or_pos z with h | h
            · subst h; rfl
            · rw [show compare (z : Int) ((0 : Nat) : Int) = Ordering.gt from Int.compare_eq_gt.2 (by omega)]; simp [h]
          have o3 : (FloatKind.f64.format.order (fb n) 0 == some .gt) = decide (0 < n) := by
            show (double.order (fb n) 0 == some .gt) = _
            rw [o1, ← q1 n]; rfl
          have o4 : (FloatKind.f64.format.order (fb m) 0 == some .gt) = decide (0 < m) := by
            show (double.order (fb m) 0 == some .gt) = _
            rw [o2, ← q1 m]; rfl
          have o5 : (double.order (fb n) 0 == some .gt) = decide (0 < n) := o3
          have o6 : (double.order (fb m) 0 == some .gt) = decide (0 < m) := o4
          clear o1 o2 q1 h1 h2
          generalize decide (0 < n) = yes at *
          generalize decide (0 < m) = no at *
          unfold cplx at hcl
          have HC := Lib.hid hC
          clear hC
          by_cases hx : (yes != no) = true
          · have hx3 : (!yes == no) = true := by cases yes <;> cases no <;> simp at hx ⊢
            rw [hx, if_pos rfl] at hP
            have HP := Lib.hid hP
            have hNB : (pureUp xss j).length ≤ 1000000 := Nat.le_trans (pureUp_le xss j) (by omega)
            generalize hX : pureUp xss j = X at *
            generalize hN : X.length = N at *
            have HN := Lib.hid hN
            unfold OwnInts at hl
            rw [hN] at hl
            have hsz := hbr.size
            clear hX hN hP
            go_wp2_with fail
            go_quiet (fail)
            go_wp2_with (first | (go_at_call 33; refine (lit_Make _ _ _).mono ?_; rintro e wq ⟨rfl, hq⟩; obtain rfl := hq.symm) | (at_builtin; refine wpList_app rfl _ _ 26 rfl w.heap.size 3 (.int .i64 0) 1 8 Try.underlying26 info_int rfl (by decide) _ _ _ rfl (hl.alloc _) (some ⟨wr.heap.size, 0, none⟩) 1 1 [.int .i64 (lmake ((j : Int) + 1) yes)] rfl ?c0 rfl ?c1 ?c2 ?c3 ?c4 ?c5 ?_))
            (case c0 => exact fun h => by cases h); (case c1 => exact CellRow.made (wr.drewN nq) _ _); (case c2 => intro u hu; simp at hu; subst hu; rfl); (case c3 => unfold maxLen; omega); (case c4 => omega); (case c5 => simp; omega)
            intro v' w7 hown1 hgr
            have hbq : Below w.heap.size w (wr.drewN nq) := below_drewN hbr _
            obtain ⟨hnew, hbw⟩ := OwnInts.push (w := w) (wr := wr.drewN nq) HN.out hbq hl _ hown1 hgr
            have HC7 : Hid (CBlk w7 (w.heap.size + 1) (V + 1) (fun v => cYs v xss) (fun v => cNs v xss)) := Lib.hid (Blk.grownT (Blk.later (w := wr.drewN nq) (w' := (wr.drewN nq).alloc _) HC.out (below_alloc (Below.refl _ _) _)) (by decide) (GrownT.of_own (World.ownsRow.alloc (w := wr.drewN nq) hl _) hgr))
            clear hown1 hgr hl
            go_wp2_with fail
            go_roundw
            case rel => exact ⟨j + 1, by omega, by go_num, by rw [HU.out, HP.out]; exact hnew, HC7.out, hbw⟩
            case measure => simp [intOf]; omega
            all_goals (rename_i hh; exfalso; clear o3 o4 o5 o6 hl; revert hx hh; clear HP; cases yes <;> cases no <;> simp)
          · have hx3 : (!yes == no) = false := by cases yes <;> cases no <;> simp at hx ⊢
            rw [if_neg hx] at hP
            have HE : Hid (pureUp xss (j + 1) = pureUp xss j) := Lib.hid (by rw [HU.out, hP, List.append_nil])
            have HO := Lib.hid hl
            clear hP hl hx
            go_wp2_with fail
            go_quiet (fail)
            go_wp2_with fail
            go_roundw
            case rel => exact ⟨j + 1, by omega, by go_num, by rw [HE.out]; exact HO.out, HC.out, by (repeat (first | (with_reducible exact Below.refl _ _) | (with_reducible assumption) | (with_reducible refine below_alloc ?_ _) | (with_reducible refine below_drew ?_) | (with_reducible refine below_drewN ?_ _) | (with_reducible refine below_step ?_ (by with_reducible assumption))))⟩
            case measure => simp [intOf]; omega
        · have hjV : j = V := by omega
          subst hjV
          have HO := Lib.hid hl
          clear hl hC
          go_wp2_with fail
          go_ret
          exact ⟨_, rfl, HO.out, hbr⟩
end Go.Proofs.Ytdladbfjgkejiaa
namespace Go.Proofs.Ytdladbfjgkejiaa
open Go.RowKit
set_option linter.unusedVariables false

theorem eq_of_getD {α : Type} (z : α) {xs ys : List α} (hl : xs.length = ys.length) (h : ∀ i, i < xs.length → xs.getD i z = ys.getD i z) : xs = ys := by
  apply List.ext_getElem hl
  intro i h1 h2
  have := h i h1
  simpa [List.getD, h1, h2] using this

set_option maxHeartbeats 1000000 in
theorem same_Ints (a b : Option Addr) (la ca lb cb : Nat) (xs ys : List Int) (w : World) (ha : IntRow w a la xs) (hb : IntRow w b lb ys) :
    Calls Try.prog 20 #[.slice a la ca, .slice b lb cb] w fun e w' => e = .returned (.bool (decide (xs = ys))) ∧ Below w.heap.size w w' := by
  have ma := ha.2.1; have mb := hb.2.1
  unfold maxLen at ma mb
  by_cases hl : la = lb
  · subst hl
    have HA := Lib.hid ha; have HB := Lib.hid hb
    have HL := Lib.hid (ha.1.trans hb.1.symm)
    have HLA := Lib.hid ha.1
    clear ha hb
    by_cases heq : xs = ys
    all_goals
      have HEQ := Lib.hid heq
      first | rw [decide_eq_true heq] | rw [decide_eq_false heq]
      clear heq
      go_enter Try.func20, Try.ntmps20
      go_wp2_with fail
      go_loopw [5] (fun i wr => ∃ k : Nat, k ≤ la ∧ i = .int .i64 k ∧ (∀ j, j < k → xs.getD j 0 = ys.getD j 0) ∧ Below w.heap.size w wr) (fun i _ => la - (intOf i).toNat)
      case atStart => exact ⟨0, Nat.zero_le _, rfl, fun j hj => by omega, Below.refl _ _⟩
      case round =>
        obtain ⟨k, hk, rfl, hall, hbw⟩ := hrel
        have HALL := Lib.hid hall; clear hall
        by_cases hlt : k < la
        · have ra := HA.out.later hbw
          have rb := HB.out.later hbw
          obtain ⟨ba, oa, rfl, ca'⟩ := ra.2.2 (by omega)
          obtain ⟨bb, ob, rfl, cb'⟩ := rb.2.2 (by omega)
          have c1 := ca' k hlt
          have c2 := cb' k hlt
          clear ca' cb' ra rb
          have t1 : (0 : Int) ≤ (k : Int) := by omega
          have t2 : (k : Int) < (la : Int) := by omega
          by_cases hk2 : xs.getD k 0 = ys.getD k 0
          · have hall' : ∀ j, j < k + 1 → xs.getD j 0 = ys.getD j 0 := by
              intro j hj
              rcases Nat.lt_or_ge j k with h | h
              · exact HALL.out j h
              · obtain rfl : j = k := by omega
                exact hk2
            have HALL' := Lib.hid hall'; clear hall'
            rw [hk2] at c1
            clear hk2
            go_wp2_with fail
            go_quiet (fail)
            go_wp2_with fail
            go_roundw
            case rel => exact ⟨k + 1, by omega, by go_num, HALL'.out, by (repeat (first | (with_reducible exact Below.refl _ _) | (with_reducible assumption) | (with_reducible refine below_alloc ?_ _) | (with_reducible refine below_drew ?_) | (with_reducible refine below_drewN ?_ _) | (with_reducible refine below_step ?_ (by with_reducible assumption))))⟩
            case measure => simp [intOf]; omega
          · have hk3 : (xs.getD k 0 != ys.getD k 0) = true := by simpa using hk2
            simp only [List.getD_eq_getElem?_getD] at hk3
            have HK2 := Lib.hid hk2; clear hk2
            go_wp2_with fail
            go_quiet (fail)
            go_wp2_with fail
            first
              | (go_ret; exact ⟨rfl, by (repeat (first | (with_reducible exact Below.refl _ _) | (with_reducible assumption) | (with_reducible refine below_alloc ?_ _) | (with_reducible refine below_drew ?_) | (with_reducible refine below_drewN ?_ _) | (with_reducible refine below_step ?_ (by with_reducible assumption))))⟩)
              | (exfalso; exact HK2.out (by rw [HEQ.out]))
        · have hka : k = la := by omega
          have HKA := Lib.hid hka; clear hka
          go_wp2_with fail
          first
            | (go_ret; exact ⟨rfl, by (repeat (first | (with_reducible exact Below.refl _ _) | (with_reducible assumption) | (with_reducible refine below_alloc ?_ _) | (with_reducible refine below_drew ?_) | (with_reducible refine below_drewN ?_ _) | (with_reducible refine below_step ?_ (by with_reducible assumption))))⟩)
            | (exfalso; exact HEQ.out (eq_of_getD 0 HL.out (fun i hi => HALL.out i (by rw [HKA.out, ← HLA.out]; exact hi))))
  · have hne : ¬ xs = ys := fun h => hl (by rw [← ha.1, ← hb.1, h])
    rw [decide_eq_false hne]
    clear hne ha hb
    have hl2 : ((la : Int) != (lb : Int)) = true := by simp; omega
    go_enter Try.func20, Try.ntmps20
    go_wp2_with fail
    go_ret
    exact ⟨rfl, Below.refl _ _⟩

theorem same_IntsV (u v : Value) (xs ys : List Int) (w : World) (ha : Ints w u xs) (hb : Ints w v ys) :
    Calls Try.prog 20 #[u, v] w fun e w' => e = .returned (.bool (decide (xs = ys))) ∧ Below w.heap.size w w' := by
  obtain ⟨a, la, ca, rfl, _, _, ra⟩ := ha
  obtain ⟨b, lb, cb, rfl, _, _, rb⟩ := hb
  exact same_Ints a b la ca lb cb xs ys w ra rb

end Go.Proofs.Ytdladbfjgkejiaa
namespace Go.Proofs.Ytdladbfjgkejiaa
open Go.RowKit
set_option linter.unusedVariables false
set_option linter.unusedSimpArgs false

set_option maxRecDepth 100000 in
set_option maxHeartbeats 1000000 in
theorem sl_Equal (a b : Option Addr) (la ca lb cb : Nat) (xs ys : List Int) (w : World) (ha : IntRow w a la xs) (hb : IntRow w b lb ys) :
    Calls Try.prog 38 #[.slice a la ca, .slice b lb cb] w fun e w' => e = .returned (.bool (decide (xs = ys))) ∧ Below w.heap.size w w' := by
  have ma := ha.2.1; have mb := hb.2.1
  unfold maxLen at ma mb
  by_cases hl : la = lb
  · subst hl
    have HA := Lib.hid ha; have HB := Lib.hid hb
    have HL := Lib.hid (ha.1.trans hb.1.symm)
    have HLA := Lib.hid ha.1
    clear ha hb
    by_cases heq : xs = ys
    all_goals
      have HEQ := Lib.hid heq
      first | rw [decide_eq_true heq] | rw [decide_eq_false heq]
      clear heq
      go_enter Try.func38, Try.ntmps38
      go_wp2_with fail
      go_loopw [5, 13] (fun _ i wr => ∃ k : Nat, k ≤ la ∧ i = .int .i64 k ∧ (∀ j, j < k → xs.getD j 0 = ys.getD j 0) ∧ Below w.heap.size w wr) (fun _ i _ => la - (intOf i).toNat)
      case atStart => exact ⟨0, Nat.zero_le _, rfl, fun j hj => by omega, Below.refl _ _⟩
      case round =>
        obtain ⟨k, hk, rfl, hall, hbw⟩ := hrel
        have HALL := Lib.hid hall; clear hall
        by_cases hlt : k < la
        · have ra := HA.out.later hbw
          have rb := HB.out.later hbw
          obtain ⟨ba, oa, rfl, ca'⟩ := ra.2.2 (by omega)
          obtain ⟨bb, ob, rfl, cb'⟩ := rb.2.2 (by omega)
          have c1 := ca' k hlt
          have c2 := cb' k hlt
          clear ca' cb' ra rb
          have t1 : (0 : Int) ≤ (k : Int) := by omega
          have t2 : (k : Int) < (la : Int) := by omega
          by_cases hk2 : xs.getD k 0 = ys.getD k 0
          · have hall' : ∀ j, j < k + 1 → xs.getD j 0 = ys.getD j 0 := by
              intro j hj
              rcases Nat.lt_or_ge j k with h | h
              · exact HALL.out j h
              · obtain rfl : j = k := by omega
                exact hk2
            have HALL' := Lib.hid hall'; clear hall'
            rw [hk2] at c1
            clear hk2
            go_wp2_with fail
            go_quiet (fail)
            go_wp2_with fail
            go_roundw
            case rel => exact ⟨k + 1, by omega, by go_num, HALL'.out, by (repeat (first | (with_reducible exact Below.refl _ _) | (with_reducible assumption) | (with_reducible refine below_alloc ?_ _) | (with_reducible refine below_drew ?_) | (with_reducible refine below_drewN ?_ _) | (with_reducible refine below_step ?_ (by with_reducible assumption))))⟩
            case measure => simp [intOf]; omega
          · have hk3 : (xs.getD k 0 != ys.getD k 0) = true := by simpa using hk2
            simp only [List.getD_eq_getElem?_getD] at hk3
            have HK2 := Lib.hid hk2; clear hk2
            go_wp2_with fail
            go_quiet (fail)
            go_wp2_with fail
            first
              | (go_ret; exact ⟨rfl, by (repeat (first | (with_reducible exact Below.refl _ _) | (with_reducible assumption) | (with_reducible refine below_alloc ?_ _) | (with_reducible refine below_drew ?_) | (with_reducible refine below_drewN ?_ _) | (with_reducible refine below_step ?_ (by with_reducible assumption))))⟩)
              | (exfalso; exact HK2.out (by rw [HEQ.out]))
        · have hka : k = la := by omega
          have HKA := Lib.hid hka; clear hka
          go_wp2_with fail
          first
            | (go_ret; exact ⟨rfl, by (repeat (first | (with_reducible exact Below.refl _ _) | (with_reducible assumption) | (with_reducible refine below_alloc ?_ _) | (with_reducible refine below_drew ?_) | (with_reducible refine below_drewN ?_ _) | (with_reducible refine below_step ?_ (by with_reducible assumption))))⟩)
            | (exfalso; exact HEQ.out (eq_of_getD 0 HL.out (fun i hi => HALL.out i (by rw [HKA.out, ← HLA.out]; exact hi))))
  · have hne : ¬ xs = ys := fun h => hl (by rw [← ha.1, ← hb.1, h])
    rw [decide_eq_false hne]
    clear hne ha hb
    have hl2 : ((la : Int) != (lb : Int)) = true := by simp; omega
    go_enter Try.func38, Try.ntmps38
    go_wp2_with fail
    go_ret
    exact ⟨rfl, Below.refl _ _⟩


theorem rows_eq {xss yss : List (List Int)} {len : Nat} (h1 : xss.length = len) (h2 : yss.length = len) (h : ∀ j, j < len → xss.getD j [] = yss.getD j []) : xss = yss := by
  apply List.ext_getElem (h1.trans h2.symm)
  intro i hi1 hi2
  have := h i (by omega)
  simpa [List.getD, hi1, hi2] using this
set_option maxRecDepth 100000 in
set_option maxHeartbeats 1000000 in
theorem cnf_Same1 (a b : Option Addr) (la ca lb cb : Nat) (xs ys : List Int) (w : World) (ha : IntRow w a la xs) (hb : IntRow w b lb ys) :
    Calls Try.prog 37 #[.slice a la ca, .slice b lb cb] w fun e w' => e = .returned (.bool (decide (xs = ys))) ∧ Below w.heap.size w w' := by
  have HCON := Lib.hid (sl_Equal a b la ca lb cb xs ys w ha hb)
  clear ha hb
  generalize decide (xs = ys) = D at *
  go_enter Try.func37, Try.ntmps37
  go_wp2_with fail
  refine HCON.out.mono ?_
  rintro e w2 ⟨rfl, hb⟩
  go_wp2_with fail
  go_ret
  exact ⟨rfl, hb⟩
set_option maxRecDepth 100000 in
set_option maxHeartbeats 1000000 in
theorem cnf_EqualRows (a b : Option Addr) (la ca lb cb : Nat) (xss yss : List (List Int)) (w : World) (ha : Rows2 w a la xss) (hb : Rows2 w b lb yss) :
    Calls Try.prog 39 #[.slice a la ca, .slice b lb cb, .func (.func 37) #[] #[]] w fun e w' => e = .returned (.bool (decide (xss = yss))) ∧ Below w.heap.size w w' := by
  have ma := ha.2.1; have mb := hb.2.1
  unfold maxLen at ma mb
  by_cases hl : la = lb
  · subst hl
    have HA := Lib.hid ha; have HB := Lib.hid hb
    have HLA := Lib.hid ha.1; have HLB := Lib.hid hb.1
    clear ha hb
    go_enter Try.func39, Try.ntmps39
    go_wp2_with fail
    go_loopw [7, 8, 9, 17] (fun _ _ _ i wr => ∃ k : Nat, k ≤ la ∧ i = .int .i64 k ∧ (∀ j, j < k → xss.getD j [] = yss.getD j []) ∧ Below w.heap.size w wr) (fun _ _ _ i _ => la - (intOf i).toNat)
    case atStart => exact ⟨0, Nat.zero_le _, rfl, fun j hj => by omega, Below.refl _ _⟩
    case round =>
      obtain ⟨k, hk, rfl, hall, hbw⟩ := hrel
      have HALL := Lib.hid hall; clear hall
      have t1 : (0 : Int) ≤ (k : Int) := by omega
      by_cases hlt : k < la
      · have ra := HA.out.later hbw
        have rb := HB.out.later hbw
        obtain ⟨ba, oa, u1, rfl, ck1, a1, l1, c1, rfl, _, _, hr1⟩ := ra.2.2 k hlt
        obtain ⟨bb, ob, u2, rfl, ck2, a2, l2, c2, rfl, _, _, hr2⟩ := rb.2.2 k hlt
        have t2 : (k : Int) < (la : Int) := by omega
        have HCON := Lib.hid (cnf_Same1 a1 a2 l1 c1 l2 c2 _ _ wr hr1 hr2)
        have HNE : Hid (xss.getD k [] ≠ yss.getD k [] → xss ≠ yss) := Lib.hid (fun h e => h (by rw [e]))
        have HEE : Hid (xss.getD k [] = yss.getD k [] → ∀ j, j < k + 1 → xss.getD j [] = yss.getD j []) := Lib.hid (fun h j hj => by
          rcases Nat.lt_or_ge j k with h1 | h1
          · exact HALL.out j h1
          · rw [show j = k by omega]; exact h)
        clear ra rb hr1 hr2
        generalize xss.getD k [] = z1 at *
        generalize yss.getD k [] = z2 at *
        by_cases he : z1 = z2
        · have HE := Lib.hid (HEE.out he)
          have HD : Hid (decide (z1 = z2) = true) := Lib.hid (decide_eq_true he)
          clear he
          go_wp2_with fail
          refine HCON.out.mono ?_
          rintro e w5 ⟨rfl, hb5⟩
          rw [HD.out]
          go_wp2_with fail
          go_roundw
          case rel => exact ⟨k + 1, by omega, by go_num, HE.out, below_step hbw hb5⟩
          case measure => simp [intOf]; omega
        · have HE : Hid (decide (xss = yss) = false) := Lib.hid (decide_eq_false (HNE.out he))
          have HD : Hid (decide (z1 = z2) = false) := Lib.hid (decide_eq_false he)
          clear he
          go_wp2_with fail
          refine HCON.out.mono ?_
          rintro e w5 ⟨rfl, hb5⟩
          rw [HD.out]
          go_wp2_with fail
          go_ret
          exact ⟨ret_bool HE.out.symm, below_step hbw hb5⟩
      · have hkn : k = la := by omega
        subst hkn
        have HE : Hid (decide (xss = yss) = true) := Lib.hid (decide_eq_true (rows_eq HLA.out HLB.out HALL.out))
        go_wp2_with fail
        go_ret
        exact ⟨ret_bool HE.out.symm, hbw⟩
  · have HE : Hid (decide (xss = yss) = false) := Lib.hid (decide_eq_false (fun h => hl (by rw [← ha.1, ← hb.1, h])))
    clear ha hb
    have hl2 : ((la : Int) != (lb : Int)) = true := by simp; omega
    go_enter Try.func39, Try.ntmps39
    go_wp2_with fail
    go_ret
    exact ⟨ret_bool HE.out.symm, Below.refl _ _⟩
def fSame (v1 v2 : Int) (xss yss : List (List Int)) : Bool := decide (v1 = v2) && decide (xss = yss)
set_option maxRecDepth 100000 in
set_option maxHeartbeats 1000000 in
theorem cnf_Same (v1 v2 : Int) (a b : Option Addr) (la ca lb cb : Nat) (xss yss : List (List Int)) (w : World) (ha : Rows2 w a la xss) (hb : Rows2 w b lb yss) :
    Calls Try.prog 22 #[.agg #[.int .i64 v1, .slice a la ca], .agg #[.int .i64 v2, .slice b lb cb]] w fun e w' => e = .returned (.bool (fSame v1 v2 xss yss)) ∧ Below w.heap.size w w' := by
  have hb1 : Below w.heap.size w (w.alloc (.cells #[.int .i64 v1, .slice a la ca] 24)) := below_alloc (Below.refl _ _) _
  have hc1 := Blk.made w #[.int .i64 v1, .slice a la ca] 24
  have hz1 : (w.alloc (.cells #[.int .i64 v1, .slice a la ca] 24)).heap.size = w.heap.size + 1 := by simp
  generalize hw1 : w.alloc (.cells #[.int .i64 v1, .slice a la ca] 24) = w1 at *
  have hb2 : Below w1.heap.size w1 (w1.alloc (.cells #[.int .i64 v2, .slice b lb cb] 24)) := below_alloc (Below.refl _ _) _
  have hc2 := Blk.made w1 #[.int .i64 v2, .slice b lb cb] 24
  generalize hw2 : w1.alloc (.cells #[.int .i64 v2, .slice b lb cb] 24) = w2 at *
  rw [hz1] at hc2
  have hB2 := below_step hb1 hb2
  have hc1b := hc1.later hb2
  have e0 := hc1b.cell 0; have e1 := hc1b.cell 1; have f0 := hc2.cell 0; have f1 := hc2.cell 1
  simp only [List.getElem?_toArray, List.getElem?_cons_zero, List.getElem?_cons_succ] at e0 e1 f0 f1
  have HCON := Lib.hid (cnf_EqualRows a b la ca lb cb xss yss w2 (ha.later hB2) (hb.later hB2))
  have HW1 := Lib.hid hw1; have HW2 := Lib.hid hw2
  clear ha hb hw1 hw2 hb1 hb2 hc1 hc2 hc1b hz1
  by_cases h : v1 = v2
  · have HV : Hid (fSame v1 v2 xss yss = decide (xss = yss)) := Lib.hid (by unfold fSame; rw [decide_eq_true h, Bool.true_and])
    have d1 : (v1 == v2) = true := by simpa using h
    clear h
    generalize decide (xss = yss) = D at *
    go_enter Try.func22, Try.ntmps22
    go_wp2_with fail
    try rw [HW1.out, HW2.out]
    refine HCON.out.mono ?_
    rintro e w5 ⟨rfl, hb5⟩
    go_wp2_with fail
    go_ret
    exact ⟨ret_bool HV.out.symm, below_step hB2 hb5⟩
  · have HV : Hid (fSame v1 v2 xss yss = false) := Lib.hid (by unfold fSame; rw [decide_eq_false h, Bool.false_and])
    have d1 : (v1 == v2) = false := by simpa using h
    clear h
    go_enter Try.func22, Try.ntmps22
    go_wp2_with fail
    try rw [HW1.out, HW2.out]
    go_ret
    exact ⟨ret_bool HV.out.symm, hB2⟩
end Go.Proofs.Ytdladbfjgkejiaa
