import Derived.Test.YtcjnikkmjhagmaaGreatDoorMgAN
import Derived.Deep.RegionHeld3
import Derived.Test.YtcjnikkmjhagmaaGreatDoorMgAL
import Derived.Test.YtcjnikkmjhagmaaGreatDoorMgAM
namespace Go.Proofs.YtcjnikkmjhagmaaGreatDoor
open Go.RowKit
set_option linter.unusedVariables false
theorem num_Var (o s k a b : Int) (w : World) : Calls Tryz.prog 40 #[.agg #[.int .i64 o, .int .i64 s], .agg #[.int .i64 k, .int .i64 a, .int .i64 b]] w fun e w' => e = .returned (.int .i64 (nVar o s k a b)) ∧ Below w.heap.size w w' := by
  by_cases hok : nOk o s
  · have hk : (nCheck o s != 0) = false := by rw [nCheck_yes hok]; rfl
    have HOK := Lib.hid hok
    by_cases hn : nName o s k a b
    · have HV := Lib.hid (show nVar o s k a b = nAhead o s k + a * nB o s k + b + 1 by unfold nVar; rw [if_pos hn])
      obtain ⟨_, k1, k3, a1, a2, b1, b2⟩ := hn
      have b3 := nAhead_bd hok k
      have b4 := nA_bd hok k
      have b5 := nB_bd hok k
      have b6 := mul_bd (a := 65) (b := 64) a1 (by omega) b5.1 b5.2
      clear hok
      go_enter Tryz.func40, Tryz.ntmps40
      go_wp2_with fail
      refine (num_Check _ _ _).mono ?_
      rintro e w1 ⟨rfl, hb1⟩
      have hs1 : Box2 w1 w.heap.size (.int .i64 o) (.int .i64 s) := Box2.later ⟨by simp, by simp⟩ hb1
      have hn1 : Box3 w1 (w.heap.size + 1) (.int .i64 k) (.int .i64 a) (.int .i64 b) := Box3.later ⟨by simp, by simp, by simp⟩ hb1
      obtain ⟨c0, c1⟩ := id hs1
      obtain ⟨c2, c3, c4⟩ := id hn1
      go_wp2_with fail
      refine (num_kind _ _ _ _ HOK.out).mono ?_
      rintro e w2 ⟨rfl, hb2⟩
      clear c0 c1 c2 c3 c4
      have hs2 := hs1.later hb2
      have hn2 := hn1.later hb2
      obtain ⟨c0, c1⟩ := id hs2
      obtain ⟨c2, c3, c4⟩ := id hn2
      go_wp2_with fail
      go_region_held3 (fun wx => Below w2.heap.size w2 wx ∧ wx.cell? ⟨w.heap.size + 1, 0, none⟩ = some (.int .i64 k) ∧ wx.cell? ⟨w.heap.size + 1, 1, none⟩ = some (.int .i64 a) ∧ wx.cell? ⟨w.heap.size + 1, 2, none⟩ = some (.int .i64 b)) ((refine keep3 c2 c3 c4 ?_; (repeat (first | (with_reducible exact Below.refl _ _) | (with_reducible assumption) | (with_reducible refine below_alloc ?_ _) | (with_reducible refine below_drew ?_) | (with_reducible refine below_drewN ?_ _) | (with_reducible refine below_step ?_ (by with_reducible assumption))))))
        (first | (go_at_call 81; refine (num_ahead _ _ _ _ HOK.out (by omega) (by omega)).mono ?_; rintro e w' ⟨rfl, hb3⟩))
      go_wp2
      go_returns
      exact ⟨ret_int (by rw [HV.out]; go_unwrap), by (repeat (first | (with_reducible exact Below.refl _ _) | (with_reducible assumption) | (with_reducible refine below_alloc ?_ _) | (with_reducible refine below_drew ?_) | (with_reducible refine below_drewN ?_ _) | (with_reducible refine below_step ?_ (by with_reducible assumption))))⟩
    · have e : nVar o s k a b = 0 := by unfold nVar; rw [if_neg hn]
      rw [e]; clear e
      have hno : 1 ≤ k ∧ k ≤ 3 → 0 ≤ a → a < nA o k → 0 ≤ b → ¬ b < nB o s k := fun h1 h2 h3 h4 h5 => hn ⟨hok, h1.1, h1.2, h2, h3, h4, h5⟩
      have hz : ¬ (1 ≤ k ∧ k ≤ 3) → nA o k = 0 := by intro h; unfold nA; rw [if_neg (by omega), if_neg (by omega), if_neg (by omega)]
      have HNO := Lib.hid hno
      have HZ := Lib.hid hz
      clear hno hz hn hok
      go_enter Tryz.func40, Tryz.ntmps40
      go_wp2_with fail
      refine (num_Check _ _ _).mono ?_
      rintro e w1 ⟨rfl, hb1⟩
      have hs1 : Box2 w1 w.heap.size (.int .i64 o) (.int .i64 s) := Box2.later ⟨by simp, by simp⟩ hb1
      have hn1 : Box3 w1 (w.heap.size + 1) (.int .i64 k) (.int .i64 a) (.int .i64 b) := Box3.later ⟨by simp, by simp, by simp⟩ hb1
      obtain ⟨c0, c1⟩ := id hs1
      obtain ⟨c2, c3, c4⟩ := id hn1
      go_wp2_with fail
      refine (num_kind _ _ _ _ HOK.out).mono ?_
      rintro e w2 ⟨rfl, hb2⟩
      clear c0 c1 c2 c3 c4
      have hs2 := hs1.later hb2
      have hn2 := hn1.later hb2
      obtain ⟨c0, c1⟩ := id hs2
      obtain ⟨c2, c3, c4⟩ := id hn2
      go_wp2_with fail
      all_goals first | (go_returns; exact ⟨rfl, by (repeat (first | (with_reducible exact Below.refl _ _) | (with_reducible assumption) | (with_reducible refine below_alloc ?_ _) | (with_reducible refine below_drew ?_) | (with_reducible refine below_drewN ?_ _) | (with_reducible refine below_step ?_ (by with_reducible assumption))))⟩) | (exfalso; have h1 := HNO.out; have h2 := HZ.out; by_cases h3 : 1 ≤ k ∧ k ≤ 3 <;> simp_all <;> omega)
  · have e : nVar o s k a b = 0 := by unfold nVar; rw [if_neg (fun h => hok h.1)]
    have hk : (nCheck o s != 0) = true := by rw [nCheck_no hok]; rfl
    rw [e]; clear e hok
    go_enter Tryz.func40, Tryz.ntmps40
    go_wp2_with (go_at_call 68; refine (num_Check _ _ _).mono ?_; rintro e w' ⟨rfl, hb1⟩)
    go_returns
    exact ⟨rfl, by (repeat (first | (with_reducible exact Below.refl _ _) | (with_reducible assumption) | (with_reducible refine below_alloc ?_ _) | (with_reducible refine below_drew ?_) | (with_reducible refine below_drewN ?_ _) | (with_reducible refine below_step ?_ (by with_reducible assumption))))⟩
def nmV (n : Int × Int × Int) : Value := .agg #[.int .i64 n.1, .int .i64 n.2.1, .int .i64 n.2.2]
set_option maxHeartbeats 1000000 in
theorem num_Of (o s v : Int) (w : World) : Calls Tryz.prog 51 #[.agg #[.int .i64 o, .int .i64 s], .int .i64 v] w fun e w' => e = .returned (.tuple #[nmV (nOf o s v), .bool (nOfOk o s v)]) ∧ Below w.heap.size w w' := by
  by_cases hr : 1 ≤ v ∧ v ≤ nVars o s
  · have hok : nOk o s := by
      by_cases h : nOk o s
      · exact h
      · have := hr.2; unfold nVars at this; rw [if_neg h] at this; omega
    have HOK := Lib.hid hok
    have e1 : nOfOk o s v = true := by unfold nOfOk; simpa using hr
    have HU := Lib.hid (nUp_three hr.1 hr.2)
    have HN := Lib.hid (nAhead_bd hok)
    have HB := Lib.hid (nB_bd hok)
    obtain ⟨v1, v2⟩ := hr
    have v3 : nVars o s ≤ 6240 := by unfold nVars; rw [if_pos hok]; exact (nAhead_bd hok 4).2
    rw [e1]; clear e1 hok
    go_enter Tryz.func51, Tryz.ntmps51
    go_wp2_with fail
    refine (num_Vars _ _ _).mono ?_
    rintro e w1 ⟨rfl, hb1⟩
    have hs1 : Box2 w1 w.heap.size (.int .i64 o) (.int .i64 s) := Box2.later ⟨by simp, by simp⟩ hb1
    obtain ⟨c0, c1⟩ := id hs1
    have hr1 : Blk w1 (w.heap.size + 1) #[.int .i64 0, .int .i64 0, .int .i64 0] 77 := Blk.later (Blk.at _ _ _ (by simp)) hb1
    have hb2 : Below w1.heap.size w1 (w1.alloc (.cells #[.int .i64 0, .int .i64 0, .int .i64 0] 77)) := (Below.refl _ _).alloc (Nat.le_refl _) _
    have hn2 := Blk.made w1 #[.int .i64 0, .int .i64 0, .int .i64 0] 77
    generalize hw2 : w1.alloc (.cells #[.int .i64 0, .int .i64 0, .int .i64 0] 77) = w2 at hb2 hn2
    have HW2 := Lib.hid hw2; clear hw2
    go_wp2_with fail
    rw [HW2.out]
    go_loopw [8] (fun i wr => ∃ j : Nat, j ≤ 3 ∧ i = .int .i64 ((j : Int) + 1) ∧ Below w1.heap.size w1 wr ∧ Blk wr w1.heap.size #[.int .i64 (nUp o s v j).1, .int .i64 (nUp o s v j).2.1, .int .i64 (nUp o s v j).2.2] 77) (fun i _ => (4 - intOf i).toNat)
    case atStart => exact ⟨0, by omega, rfl, hb2, hn2⟩
    case round =>
      obtain ⟨j, hj, rfl, hb3, hn3⟩ := hrel
      have hs3 := hs1.later hb3
      obtain ⟨d0, d1⟩ := id hs3
      by_cases hlt : j < 3
      · have b1 := HN.out ((j : Int) + 1)
        have b2 := HB.out ((j : Int) + 1)
        have HUJ := Lib.hid (show nUp o s v (j + 1) = nStep o s v ((j : Int) + 1) (nUp o s v j) from rfl)
        go_wp2_with fail
        refine (num_kind _ _ _ _ HOK.out).mono ?_
        rintro e w4 ⟨rfl, hb4⟩
        go_wp2_with fail
        refine (num_ahead _ _ _ _ HOK.out (by omega) (by omega)).mono ?_
        rintro e w5 ⟨rfl, hb5⟩
        by_cases c1 : nAhead o s ((j : Int) + 1) < v
        · by_cases c2 : 0 < nB o s ((j : Int) + 1)
          · go_wp2_with fail
            refine (num_ahead _ _ _ _ HOK.out (by omega) (by omega)).mono ?_
            rintro e w6 ⟨rfl, hb6⟩
            have hn6 := ((hn3.later hb4).later hb5).later hb6
            have q0 := hn6.cell 0
            have q1 := hn6.cell 1
            have q2 := hn6.cell 2
            have f0 := hn6.free 0
            have f1 := hn6.free 1
            have f2 := hn6.free 2
            simp at q0 q1 q2
            have x0 : (nB o s ((j : Int) + 1) == 0) = false := by simp; omega
            go_wp2_with fail
            go_region
            go_wp2
            go_roundw
            case rel => 
              refine ⟨j + 1, by omega, by go_num, ?_, ?_⟩
              · refine below_drew (below_setCell (below_setCell (below_setCell ?_ (Nat.le_refl _) _) (Nat.le_refl _) _) (Nat.le_refl _) _)
                exact below_step (below_step (below_step hb3 hb4) hb5) hb6
              · rw [HUJ.out]; unfold nStep; rw [if_pos ⟨c1, c2⟩]
                exact (((hn6.set 0 _).set 1 _).set 2 _).drew
            case measure => simp [intOf]; omega
          · have HJ := Lib.hid (show nUp o s v (j + 1) = nUp o s v j by rw [HUJ.out]; unfold nStep; rw [if_neg (by omega)])
            go_wp2
            all_goals first | (exfalso; omega) | skip
            go_roundw
            case rel => exact ⟨j + 1, by omega, by go_num, below_step (below_step hb3 hb4) hb5, by rw [HJ.out]; exact (hn3.later hb4).later hb5⟩
            case measure => simp [intOf]; omega
        · have HJ := Lib.hid (show nUp o s v (j + 1) = nUp o s v j by rw [HUJ.out]; unfold nStep; rw [if_neg (by omega)])
          go_wp2
          all_goals first | (exfalso; omega) | skip
          go_roundw
          case rel => exact ⟨j + 1, by omega, by go_num, below_step (below_step hb3 hb4) hb5, by rw [HJ.out]; exact (hn3.later hb4).later hb5⟩
          case measure => simp [intOf]; omega
      · obtain rfl : j = 3 := by omega
        have q0 := hn3.cell 0
        have q1 := hn3.cell 1
        have q2 := hn3.cell 2
        simp at q0 q1 q2
        have hr3 := hr1.later hb3
        have f0 := hr3.free 0
        have f1 := hr3.free 1
        have f2 := hr3.free 2
        have r0 := hr3.cell 0
        have r1 := hr3.cell 1
        have r2 := hr3.cell 2
        simp at r0 r1 r2
        have hlt1 : w.heap.size + 1 < w1.heap.size := hr1.lt
        have hnz : ¬ (nUp o s v 3).fst = 0 := by
          rw [HU.out]; have := @nKind_bd o v; unfold nOf; rw [if_pos ⟨v1, v2⟩]; dsimp only; omega
        go_wp2_with fail
        go_region
        go_wp2
        have hb4 := below_step (below_step (below_alloc (below_alloc (Below.refl _ _) _) _) hb1) hb3
        refine bodyPost_ret (v := .tuple #[nmV (nUp o s v 3), .bool true]) (by simp [results, Tryz.results51, go_sem, r0, r1, r2, nmV]) rfl ⟨by rw [HU.out], ?_⟩
        exact below_drew (below_setCell (below_setCell (below_setCell hb4 (by simp) _) (by simp) _) (by simp) _)
  · have e1 : nOfOk o s v = false := by unfold nOfOk; simpa using hr
    have e2 : nOf o s v = (0, 0, 0) := by unfold nOf; rw [if_neg hr]
    rw [e1, e2]; clear e1 e2
    go_enter Tryz.func51, Tryz.ntmps51
    go_wp2_with (fail)
    rotate_left
    refine (num_Vars _ _ _).mono ?_
    rintro e w' ⟨rfl, hb1⟩
    rotate_left
    · go_wp2
      go_returns
      exact ⟨rfl, by (repeat (first | (with_reducible exact Below.refl _ _) | (with_reducible assumption) | (with_reducible refine below_alloc ?_ _) | (with_reducible refine below_drew ?_) | (with_reducible refine below_drewN ?_ _) | (with_reducible refine below_step ?_ (by with_reducible assumption))))⟩
    · have hr1 : Blk w' (w.heap.size + 1) #[.int .i64 0, .int .i64 0, .int .i64 0] 77 := Blk.later (Blk.at _ _ _ (by simp)) hb1
      have f0 := hr1.free 0
      have f1 := hr1.free 1
      have f2 := hr1.free 2
      have r0 := hr1.cell 0
      have r1 := hr1.cell 1
      have r2 := hr1.cell 2
      simp at r0 r1 r2
      go_wp2
      refine bodyPost_ret (v := .tuple #[nmV (0, 0, 0), .bool false]) (by simp [results, Tryz.results51, go_sem, r0, r1, r2, nmV]) rfl ⟨rfl, ?_⟩
      have hb4 := below_step (below_alloc (below_alloc (Below.refl _ _) _) _) hb1
      exact below_setCell (below_setCell (below_setCell hb4 (by simp) _) (by simp) _) (by simp) _
end Go.Proofs.YtcjnikkmjhagmaaGreatDoor
namespace Go.Proofs.YtcjnikkmjhagmaaGreatDoor
open Go.RowKit
set_option linter.unusedVariables false
set_option linter.unusedSimpArgs false
structure SX (P : Program) (f : FuncId) (args : List AV) (H : AHeap) (M : MS) (Q : AV → AHeap → MS → Prop) : Prop where
  callable : Callable P f
  calls : ∀ (K : Nat → Option Obj) (G : Gh) (w : World) (vs : List Value), (∀ b x, K b = some x → G.kp b = some x) → MOK K G M → Inv G H w → RL H.length G args vs → Calls P f vs.toArray w fun e w' => ∃ v r G' H' M', e = .returned v ∧ Gh.leb H.length { G with kp := K } G' ∧ MOK K G' M' ∧ H.length ≤ H'.length ∧ Inv G' H' w' ∧ RA H'.length G' r v ∧ Q r H' M'
theorem SX.mono {P : Program} {f : FuncId} {args : List AV} {H : AHeap} {M : MS} {Q Q' : AV → AHeap → MS → Prop} (h : SX P f args H M Q) (hq : ∀ r H' M', Q r H' M' → Q' r H' M') : SX P f args H M Q' :=
  ⟨h.callable, fun K G w vs hk hm hi hr => (h.calls K G w vs hk hm hi hr).mono fun e w' ⟨v, r, G', H', M', h1, h2, h3, h4, h5, h6, h7⟩ => ⟨v, r, G', H', M', h1, h2, h3, h4, h5, h6, hq _ _ _ h7⟩⟩
section
variable {P : Program} {tt : TT} {m : Nat} {Q : Exit → XS → Prop} {fr : List AV} {H : AHeap} {M : MS} {l : List Oper} {o : Oper}
def bodyXM (P : Program) (fn : Func) (load : AHeap → TypeId → AV → Option AV) (Q : AV → AHeap → MS → Prop) : Exit → XS → Prop
  | .normal, s | .ret, s => ∃ r, aresults P fn s.as (load s.H) = some r ∧ Q r s.H s.M
  | _, _ => False
theorem SX.of {f : FuncId} {args : List AV} {Q : AV → AHeap → Prop} (h : SF P f args H Q) : SX P f args H M fun r H' M' => Q r H' ∧ M' = M :=
  ⟨h.callable, fun K G w vs hk hm hi hr => (h.calls G w vs hi hr).mono fun e w' ⟨v, r, G', H', h1, h2, h3, h4, h5, h6⟩ =>
    ⟨v, r, G', H', M, h1, ⟨fun o ho hd => h2.mu o hd, fun o ho hd => h2.sz o hd, fun o ho hd => h2.dom o hd, h2.back, h2.fz, fun b x e => h2.kp b x (hk b x e), fun b x y e f => h2.new b x y (hk b x e) f, h2.os, h2.tape, h2.output⟩, hm.leb (h2.leb (Nat.le_refl _)), h3, h4, h5, h6, rfl⟩⟩
theorem RL.kpany {n : Nat} {G : Gh} {kp : Nat → Option Obj} {xs : List AV} {vs : List Value} (h : RL n G xs vs) : RL n { G with kp := kp } xs vs := ⟨h.1, fun i x v e e' => (h.2 i x v e e').kpany⟩
theorem Rst.call {G0 G G' : Gh} {s : AS} {H' : AHeap} {a : Act} {w w' : World} {x : AV} {v : Value} {kp : Nat → Option Obj} (hr : Rst G s a w) (h : Gh.leb s.H.length { G with kp := kp } G') (hn : s.H.length ≤ H'.length) (hi : Inv G' H' w') (hx : RA H'.length G' x v) (d : Option Tmp) : Rst G' ⟨putL s.fr d x, H'⟩ (a.put d v) w' := by
  have hle : Gh.le s.H.length { G with kp := kp } G' := h.le hr.inv.dom
  have hfr : RL H'.length G' s.fr a.tmps.toList := (RL.kpany (kp := kp) hr.fr).mono hle hn
  refine ⟨?_, ?_, hi⟩
  · cases d <;> exact hr.defers
  · cases d with
    | none => exact hfr
    | some d =>
      simp only [putL, Act.put, Array.toList_setIfInBounds]
      exact hfr.set d hx
theorem AX_late {c : Code} {s : XS} (h : AX P m c (fun e s => LeadX m s (Q e)) s) : AX P m c Q s := fun G0 G a w hm hl hM hr =>
  wp_mono (h G0 G a w hm hl hM hr) fun e a w ⟨G', s', h1, h2, h3, h4, h5⟩ => h5 G0 G' a w h3 h1 h2 h4
theorem SF_of_bodyL {f : FuncId} {fn : Func} {c : Code} {args : List AV} {H : AHeap} {Q : AV → AHeap → Prop} (load : AHeap → TypeId → AV → Option AV) (hl : ∀ H, LoadOk P H (load H)) (hf : P.funcs[f]? = some fn) (hb : fn.body = some c) (hname : (fn.name == "runtime.NumGoroutine") = false)
    (h : AX P H.length c (fun e s => LeadX H.length s (bodyX P fn load Q e)) ⟨args ++ List.replicate (fn.ntmps - args.length) uD, H, []⟩) : SF P f args H Q := SF_of_bodyX load hl hf hb hname (AX_late h)
theorem lead_drop {fr : List AV} {S : XS → Prop} (sel ds : List Nat) (H1 : AHeap) (hs1 : sel.Nodup) (hs2 : sel.all (fun p => decide (m ≤ p)) = true) (hH : okH (named m sel) (H.take m ++ sel.map (atH H)) = true) (hF : okF (named m sel) ds 0 fr = true)
    (hh : selH m sel H = H1) (h : ∀ d : Nat → AV, S ⟨deadS (fr.map (AV.rn (newNo m sel))) d ds, H1, M⟩) : LeadX m ⟨fr, H, M⟩ S :=
  LeadX.of (.ren sel ds hs1 hs2 hH hF fun d => by rw [hh]; exact h _)
end
end Go.Proofs.YtcjnikkmjhagmaaGreatDoor
namespace Go.Proofs.YtcjnikkmjhagmaaGreatDoor
set_option linter.unusedVariables false
def oLeft (done : List Bool) (i : Nat) : Bool := decide (done.length ≤ i) || !(done.getD i false)
def oFirst (xs : List Op5) (done : List Bool) : Nat → Int
  | 0 => 9223372036854775807
  | k + 1 => if oLeft done k = true ∧ 0 ≤ (oAt xs k).e then min (oFirst xs done k) (oAt xs k).e else oFirst xs done k
def oFreeAt (xs : List Op5) (done : List Bool) (j : Nat) : Bool := oLeft done j && (List.range xs.length).all fun i => !(oAhead (oAt xs i) (oAt xs j) && oLeft done i)
def oFreeUp (xs : List Op5) (done : List Bool) (k : Nat) : List Int := ((List.range k).filter (oFreeAt xs done)).map fun i : Nat => (i : Int)
def oStands (xs : List Op5) (done : List Bool) (j : Nat) : Nat → Bool
  | 0 => oLeft done j
  | i + 1 => if oAhead (oAt xs i) (oAt xs j) = true ∧ oLeft done i = true then false else oStands xs done j i
end Go.Proofs.YtcjnikkmjhagmaaGreatDoor
