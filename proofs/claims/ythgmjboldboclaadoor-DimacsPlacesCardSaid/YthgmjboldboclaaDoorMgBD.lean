import Derived.Test.YthgmjboldboclaaDoorMgAV
import Derived.Test.YthgmjboldboclaaDoorMgAY
import Derived.Test.YthgmjboldboclaaDoorMgAA
import Derived.Test.YthgmjboldboclaaDoorCards
import Derived.Test.YthgmjboldboclaaDoorTie
import Derived.ProofKit
import Derived.LaidMore
import Derived.OpenShut
import Derived.Stop.Joined
import Derived.SevenTiedAt
import Derived.Test.YthgmjboldboclaaDoorMgAB
import Derived.Test.YthgmjboldboclaaDoorRows
import Derived.Lib.LaidTab
namespace Go.Proofs.YthgmjboldboclaaDoor
open Go.RowKit
set_option linter.unusedVariables false
set_option linter.unusedSimpArgs false
theorem lindex_dec (x : Int) : decide (0 ≤ lindex x) = decide (lvar x ≠ 0) := by
  have := lvar_bd x
  unfold lindex
  by_cases h : lvar x = 0
  · simp [h]
  · rw [if_neg h]
    split <;> simp [h] <;> omega
set_option maxRecDepth 100000 in
theorem ref_Has02 (a : Option Addr) (len cap : Nat) (xs : List Int) (l : Int) (w : World) (hr : IntRow w a len xs) : Calls Tryd.prog 65 #[.slice a len cap, .int .i64 l] w fun e w' => e = .returned (.bool (cHas xs l)) ∧ w' = w := by
  have HR := Lib.hid hr
  have hge := lindex_dec l
  clear hr
  by_cases hz : lvar l ≠ 0
  · rw [decide_eq_true hz] at hge
    have HV : Hid (cHas xs l = lhas xs l) := Lib.hid (by unfold cHas; rw [decide_eq_true hz]; rfl)
    clear hz
    go_enter Tryd.func65, Tryd.ntmps65
    go_wp2_with (first | (go_at_call 75; refine (ref_Index _ _).mono ?_; rintro e w' ⟨rfl, rfl⟩) | (go_at_call 25; refine (ref_Has _ _ _ xs _ _ HR.out).mono ?_; rintro e w' ⟨rfl, rfl⟩))
    go_ret
    exact ⟨ret_bool HV.out.symm, rfl⟩
  · rw [decide_eq_false hz] at hge
    have HV : Hid (cHas xs l = false) := Lib.hid (by unfold cHas; rw [decide_eq_false hz]; rfl)
    clear hz
    go_enter Tryd.func65, Tryd.ntmps65
    go_wp2_with (first | (go_at_call 75; refine (ref_Index _ _).mono ?_; rintro e w' ⟨rfl, rfl⟩))
    go_ret
    exact ⟨ret_bool HV.out.symm, rfl⟩
theorem at_in {xs : List Int} {k len : Nat} (h : xs.length = len) (hk : k < len) : xs.getD k 0 ∈ xs := by
  have hk' : k < xs.length := by rw [h]; exact hk
  simp [List.getD, hk']
theorem all_in {xs : List Int} {len : Nat} {p : Int → Prop} (h : xs.length = len) (hp : ∀ i, i < len → p (xs.getD i 0)) : ∀ x ∈ xs, p x := fun x hx => by
  obtain ⟨i, hi, rfl⟩ := List.mem_iff_getElem.1 hx
  have := hp i (by rw [← h]; exact hi)
  simpa [List.getD, hi] using this
set_option maxRecDepth 100000 in
theorem ref_Taut02 (a : Option Addr) (len cap : Nat) (xs : List Int) (w : World) (hr : IntRow w a len xs) : Calls Tryd.prog 53 #[.slice a len cap] w fun e w' => e = .returned (.bool (cTaut xs)) ∧ w = w' := by
  have hm := hr.2.1; unfold maxLen at hm
  have HR := Lib.hid hr
  have HL := Lib.hid hr.1
  clear hr
  go_enter Tryd.func53, Tryd.ntmps53
  go_wp2_with fail
  go_loop [3] (fun i => ∃ k : Nat, k ≤ len ∧ i = .int .i64 k ∧ ∀ j, j < k → (cHas xs (xs.getD j 0) && cHas xs (-xs.getD j 0)) = false) (fun i => len - (intOf i).toNat)
  case atStart => exact ⟨0, Nat.zero_le _, rfl, fun j hj => by omega⟩
  case round =>
    obtain ⟨k, hk, rfl, hall⟩ := hrel
    have HALL := Lib.hid hall; clear hall
    have t1 : (0 : Int) ≤ (k : Int) := by omega
    by_cases hlt : k < len
    · obtain ⟨b, off, rfl, hcells⟩ := HR.out.2.2 (by omega)
      have hck := hcells k hlt
      have t2 : (k : Int) < (len : Int) := by omega
      have HI := Lib.hid (at_in HL.out hlt)
      have HX : Hid ((cHas xs (xs.getD k 0) && cHas xs (-xs.getD k 0)) = false → ∀ j, j < k + 1 → (cHas xs (xs.getD j 0) && cHas xs (-xs.getD j 0)) = false) := Lib.hid (fun h j hj => by
        rcases Nat.lt_or_ge j k with h1 | h1
        · exact HALL.out j h1
        · rw [show j = k by omega]; exact h)
      clear hcells
      generalize hz : xs.getD k 0 = z at *
      clear hz
      cases hp : cHas xs z
      · have HE := Lib.hid (HX.out (by rw [hp]; rfl))
        have HP := Lib.hid hp
        clear hp
        go_wp2_with (go_at_call 65; refine (ref_Has02 _ _ _ xs _ _ HR.out).mono ?_; rintro e w' ⟨rfl, rfl⟩; rw [HP.out])
        go_round
        case rel => exact ⟨k + 1, by omega, by go_num, HE.out⟩
        case measure => simp [intOf]; omega
      · have HP := Lib.hid hp
        have HV := Lib.hid ((has_iff xs z).1 hp).1
        have HN : Hid (lneg z = -z) := Lib.hid (by unfold lneg; rw [if_neg HV.out])
        cases hq : cHas xs (-z)
        · have HE := Lib.hid (HX.out (by rw [hq]; simp))
          have HQ := Lib.hid hq
          clear hq hp
          go_wp2_with fail
          refine (ref_Has02 _ _ _ xs _ _ HR.out).mono ?_
          rintro e w' ⟨rfl, rfl⟩
          rw [HP.out]
          go_wp2_with (go_at_call 66; refine (ref_Neg _ _).mono ?_; rintro e w' ⟨rfl, rfl⟩; rw [HN.out])
          refine (ref_Has02 _ _ _ xs _ _ HR.out).mono ?_
          rintro e w' ⟨rfl, rfl⟩
          rw [HQ.out]
          go_wp2_with fail
          go_round
          case rel => exact ⟨k + 1, by omega, by go_num, HE.out⟩
          case measure => simp [intOf]; omega
        · have HE : Hid (cTaut xs = true) := Lib.hid (by
            unfold cTaut
            rw [List.any_eq_true]
            exact ⟨z, HI.out, by rw [hp, hq]; rfl⟩)
          have HQ := Lib.hid hq
          clear hq hp
          go_wp2_with fail
          refine (ref_Has02 _ _ _ xs _ _ HR.out).mono ?_
          rintro e w' ⟨rfl, rfl⟩
          rw [HP.out]
          go_wp2_with (go_at_call 66; refine (ref_Neg _ _).mono ?_; rintro e w' ⟨rfl, rfl⟩; rw [HN.out])
          refine (ref_Has02 _ _ _ xs _ _ HR.out).mono ?_
          rintro e w' ⟨rfl, rfl⟩
          rw [HQ.out]
          go_wp2_with fail
          go_ret
          exact ⟨ret_bool HE.out.symm, rfl⟩
    · have hkn : k = len := by omega
      subst hkn
      have HE : Hid (cTaut xs = false) := Lib.hid (by
        unfold cTaut
        rw [List.any_eq_false]
        intro x hx
        rw [Bool.not_eq_true]
        exact all_in (p := fun x => (cHas xs x && cHas xs (-x)) = false) HL.out HALL.out x hx)
      go_wp2_with fail
      go_ret
      exact ⟨ret_bool HE.out.symm, rfl⟩
end Go.Proofs.YthgmjboldboclaaDoor
namespace Go.Proofs.YthgmjboldboclaaDoor
open Go.ChangeShapes Go.WideShapes Go.ChangeAt Go.RowKit
end Go.Proofs.YthgmjboldboclaaDoor
namespace Go.Proofs.YthgmjboldboclaaDoor
open Go.RowKit
set_option linter.unusedVariables false
section
variable {P : Program} {w : World}
theorem laidVars_at : ∀ {laid : List (String × DataW Unit)} {ps : List MemPlace}, DataW.LaidVars P w laid ps → ∀ {n : String} {d : DataW Unit}, (n, d) ∈ laid → ∃ g t cs fuel p, P.globalNamed n = some g ∧ (P.globals[g]?).map (·.type) = some t ∧ w.var? P n = some cs ∧ DataW.trod (fun _ => ()) P w 0 (fun _ => true) false fuel t cs.toList = some (d, p)
  | [], ps, h, n, d, hm => by cases hm
  | (n', d') :: r, ps, h, n, d, hm => by
    obtain ⟨g, t, cs, fuel, p, q, h1, h2, h3, h4, h5, _⟩ := h
    rcases List.mem_cons.1 hm with e | hm
    · cases e; exact ⟨g, t, cs, fuel, p, h1, h2, h3, h4⟩
    · exact laidVars_at h5 hm
theorem laidH_at {laid : List (String × DataW Unit)} (h : laidMetH P laid w) {n : String} {d : DataW Unit} (hm : (n, d) ∈ laid) (hn : d.handleName?.isNone = true) : ∃ g t cs fuel p, P.globalNamed n = some g ∧ (P.globals[g]?).map (·.type) = some t ∧ w.var? P n = some cs ∧ DataW.trod (fun _ => ()) P w 0 (fun _ => true) false fuel t cs.toList = some (d, p) := by
  unfold laidMetH at h
  split at h
  · obtain ⟨ps, h, _⟩ := h; exact laidVars_at h hm
  · obtain ⟨⟨ps, h, _⟩, _⟩ := h; exact laidVars_at h (List.mem_filter.2 ⟨hm, hn⟩)
theorem var_heap {n : String} {g : Nat} {cs : Array Value} (hg : P.globalNamed n = some g) (h : w.var? P n = some cs) : ∃ t fr, w.heap[g]? = some (.cells cs t fr) := by
  unfold World.var? at h
  rw [hg] at h
  simp only [Option.bind_some] at h
  split at h
  · rename_i c t fr e; cases h; exact ⟨t, fr, e⟩
  · cases h
theorem tab_at {laid : List (String × DataW Unit)} (h : laidMetH P laid w) {n : String} {k : IntKind} {zs : List Int} (hm : (n, Lib.tabData k zs) ∈ laid) {g : Nat} {t e : TypeId} {m : Nat} (hg : P.globalNamed n = some g) (hty : (P.globals[g]?).map (·.type) = some t) (ht : P.underlying t = some (.array m e)) (he : P.underlying e = some (.int k)) (hce : P.cellsOf e = 1) (hct : P.cellsOf t = m) : ∃ x, w.heap[g]? = some x ∧ tabObj k zs x := by
  obtain ⟨g', t', cs, fuel, p, h1, h2, h3, h4⟩ := laidH_at h hm rfl
  obtain rfl := Option.some.inj (hg.symm.trans h1)
  obtain rfl := Option.some.inj (hty.symm.trans h2)
  obtain ⟨ty, fr, hx⟩ := var_heap hg h3
  have hcs := Lib.cells_of_tab ht he hce hct h4
  refine ⟨_, hx, ty, fr, ?_⟩
  congr 1
  apply Array.toList_inj.1
  rw [hcs]
theorem trod_iface {H : Type} {enc : TypeId × Value → H} {base : Nat} {sp : Nat → Bool} {held : Bool} {fuel : Nat} {t : TypeId} {ms : Array (String × TypeId)} {cs : List Value} {nm : String} {d : DataW H} {p : List MemPlace} (ht : P.underlying t = some (.interface ms)) (h : DataW.trod enc P w base sp held fuel t cs = some (.iface nm d, p)) : ∃ te pe, cs = [.iface te pe] := by
  cases fuel with
  | zero => simp [DataW.trod] at h
  | succ fuel =>
    cases cs with
    | nil => simp [DataW.trod, ht] at h
    | cons c r =>
      cases r with
      | cons c2 r => simp [DataW.trod, ht] at h
      | nil => cases c <;> first | exact ⟨_, _, rfl⟩ | simp [DataW.trod, ht] at h
theorem err_at {laid : List (String × DataW Unit)} (h : laidMetH P laid w) {n nm : String} {d : DataW Unit} (hm : (n, DataW.iface nm d) ∈ laid) (hn : (DataW.iface nm d).handleName?.isNone = true) {g : Nat} {t : TypeId} {ms : Array (String × TypeId)} (hg : P.globalNamed n = some g) (hty : (P.globals[g]?).map (·.type) = some t) (ht : P.underlying t = some (.interface ms)) : ∃ x, w.heap[g]? = some x ∧ errObj x := by
  obtain ⟨g', t', cs, fuel, p, h1, h2, h3, h4⟩ := laidH_at h hm hn
  obtain rfl := Option.some.inj (hg.symm.trans h1)
  obtain rfl := Option.some.inj (hty.symm.trans h2)
  obtain ⟨ty, fr, hx⟩ := var_heap hg h3
  obtain ⟨te, pe, hcs⟩ := trod_iface ht h4
  refine ⟨_, hx, te, pe, ty, fr, ?_⟩
  congr 1
  apply Array.toList_inj.1
  rw [hcs]
end
end Go.Proofs.YthgmjboldboclaaDoor
