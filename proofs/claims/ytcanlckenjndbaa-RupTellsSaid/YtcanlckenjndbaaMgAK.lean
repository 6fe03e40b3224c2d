import Derived.Test.YtcanlckenjndbaaRows
import Derived.WalkKit
import Derived.WalkSpells
import Derived.WalkLawsBesides
import Derived.BigGuardPart
import Derived.Handy
import Derived.Lib.Hide
import Derived.Test.YtcanlckenjndbaaMgAI
import Derived.Test.YtcanlckenjndbaaMgAA
import Derived.Test.YtcanlckenjndbaaMgAJ
import Derived.Maps.OwnSet
import Derived.Maps.OwnOps
import Derived.OwnWalk
namespace Go.Proofs.Ytcanlckenjndbaa
open Go.RowKit
set_option linter.unusedVariables false
theorem lit_variable (l : Int) (w : World) : Calls Try.prog 96 #[.int .i64 l] w fun e w' => e = .returned (.int .i64 (lvar l)) ∧ w' = w := by
  go_enter Try.func96, Try.ntmps96
  go_wp2
  all_goals (go_returns; refine ⟨ret_int ?_, rfl⟩; unfold lvar; split <;> (try split) <;> omega)
theorem lit_Var (l : Int) (w : World) : Calls Try.prog 57 #[.int .i64 l] w fun e w' => e = .returned (.int .i64 (lvar l)) ∧ w' = w := by
  go_enter Try.func57, Try.ntmps57
  go_wp2_with (go_at_call 96; refine (lit_variable _ _).mono ?_; rintro e w' ⟨rfl, rfl⟩)
  go_ret
  exact ⟨rfl, rfl⟩
theorem lit_Index (l : Int) (w : World) : Calls Try.prog 97 #[.int .i64 l] w fun e w' => e = .returned (.int .i64 (lindex l)) ∧ w' = w := by
  have hb := lvar_bd l
  by_cases h : lvar l = 0
  · have h' : (lvar l == 0) = true := by simpa using h
    have h'' : (lvar l != 0) = false := by simpa using h
    have e : lindex l = -1 := by unfold lindex; rw [if_pos h]
    rw [e]; clear e h
    go_enter Try.func97, Try.ntmps97
    go_wp2_with (go_at_call 57; refine (lit_Var _ _).mono ?_; rintro e w' ⟨rfl, rfl⟩)
    all_goals (go_returns; exact ⟨rfl, rfl⟩)
  · have h' : (lvar l == 0) = false := by simpa using h
    have h'' : (lvar l != 0) = true := by simpa using h
    have e : lindex l = if l < 0 then 2 * lvar l - 1 else 2 * lvar l - 2 := by unfold lindex; rw [if_neg h]
    rw [e]; clear e h
    go_enter Try.func97, Try.ntmps97
    go_wp2_with (go_at_call 57; refine (lit_Var _ _).mono ?_; rintro e w' ⟨rfl, rfl⟩)
    all_goals (go_returns; refine ⟨ret_int ?_, rfl⟩; first | omega | (split <;> omega))
theorem ref_Join (v : Int) (t : Bool) (w : World) : Calls Try.prog 119 #[.int .i64 v, .bool t] w fun e w' => e = .returned (.int .i64 (lmake v t)) ∧ w' = w := by
  cases t
  all_goals
    go_enter Try.func119, Try.ntmps119
    go_wp2
    all_goals (go_returns; refine ⟨ret_int ?_, rfl⟩; unfold lmake; split <;> (try split) <;> first | rfl | omega | (simp_all; done) | (simp_all; omega))
theorem ref_Neg (l : Int) (w : World) : Calls Try.prog 99 #[.int .i64 l] w fun e w' => e = .returned (.int .i64 (lneg l)) ∧ w' = w := by
  have e : lneg l = lmake (lvar l) (!lside l) := by
    unfold lneg lmake lside; have hb := lvar_bd l; split
    · rw [if_pos (by omega)]
    · rename_i h; have hr := lvar_range h; rw [if_neg (by omega)]; unfold lvar at h ⊢; split <;> simp <;> (try split) <;> simp_all <;> omega
  rw [e]; clear e
  go_enter Try.func99, Try.ntmps99
  go_wp2_with (first | (go_at_call 69; refine (ref_Split _ _).mono ?_; rintro e w' ⟨rfl, rfl⟩) | (go_at_call 119; refine (ref_Join _ _ _).mono ?_; rintro e w' ⟨rfl, rfl⟩))
  all_goals (go_returns; exact ⟨rfl, rfl⟩)
theorem ref_Index (l : Int) (w : World) : Calls Try.prog 36 #[.int .i64 l] w fun e w' => e = .returned (.int .i64 (lindex l)) ∧ w' = w := by
  have hb := lvar_bd l
  by_cases h : lvar l = 0
  · have h' : (lvar l == 0) = true := by simpa using h
    have hs : lside l = false := by unfold lside; simp [h]
    have e : lindex l = -1 := by unfold lindex; rw [if_pos h]
    rw [e]; clear e h
    go_enter Try.func36, Try.ntmps36
    go_wp2_with (go_at_call 69; refine (ref_Split _ _).mono ?_; rintro e w' ⟨rfl, rfl⟩)
    all_goals (go_returns; exact ⟨rfl, rfl⟩)
  · have h' : (lvar l == 0) = false := by simpa using h
    by_cases hp : l < 0
    · have hs : lside l = false := by unfold lside; simp; omega
      have e : lindex l = 2 * lvar l - 1 := by unfold lindex; rw [if_neg h, if_pos hp]
      rw [e]; clear e h
      go_enter Try.func36, Try.ntmps36
      go_wp2_with (go_at_call 69; refine (ref_Split _ _).mono ?_; rintro e w' ⟨rfl, rfl⟩)
      all_goals (go_returns; exact ⟨rfl, rfl⟩)
    · have hs : lside l = true := by have := lvar_range h; unfold lside; simp; omega
      have e : lindex l = 2 * lvar l - 2 := by unfold lindex; rw [if_neg h, if_neg hp]
      rw [e]; clear e h
      go_enter Try.func36, Try.ntmps36
      go_wp2_with (go_at_call 69; refine (ref_Split _ _).mono ?_; rintro e w' ⟨rfl, rfl⟩)
      all_goals (go_returns; exact ⟨rfl, rfl⟩)
theorem lit_Most (a : Option Addr) (len cap : Nat) (xs : List Int) (w : World) (hr : IntRow w a len xs) : Calls Try.prog 76 #[.slice a len cap] w fun e w' => e = .returned (.int .i64 (lmost xs)) ∧ w' = w := by
  obtain ⟨hl, hm, hc⟩ := hr
  unfold maxLen at hm
  have HC := Lib.hid hc; clear hc
  have HL := Lib.hid hl; clear hl
  go_enter Try.func76, Try.ntmps76
  go_wp2
  go_loop [3, 9] (fun m i => ∃ k : Nat, k ≤ len ∧ i = .int .i64 k ∧ m = .int .i64 (lmost (xs.take k))) (fun _ i => len - (intOf i).toNat)
  case atStart => exact ⟨0, Nat.zero_le _, rfl, rfl⟩
  case round =>
    obtain ⟨k, hk, rfl, rfl⟩ := hrel
    by_cases hlt : k < len
    · obtain ⟨b, off, rfl, hcell⟩ := HC.out (by omega)
      have hc := hcell k hlt
      have HS := Lib.hid (lmost_snoc (xs.take k) (xs.getD k 0))
      have HT := Lib.hid (take_snoc xs k (by rw [HL.out]; exact hlt))
      clear hcell
      go_wp2_with (go_at_call 96; refine (lit_variable _ _).mono ?_; rintro e w' ⟨rfl, rfl⟩)
      all_goals
        go_round
        case rel => exact ⟨k + 1, by omega, by go_num, by rw [HT.out, HS.out]; go_num⟩
        case measure => simp [intOf]; omega
    · go_wp2
      go_ret
      exact ⟨ret_int (by rw [List.take_of_length_le (by rw [HL.out]; omega)]), rfl⟩
theorem sl_Index (a : Option Addr) (len cap : Nat) (xs : List Int) (v : Int) (w : World) (hr : IntRow w a len xs) : Calls Try.prog 124 #[.slice a len cap, .int .i64 v] w fun e w' => ∃ i : Int, e = .returned (.int .i64 i) ∧ (0 ≤ i ↔ lhas xs v = true) ∧ w' = w := by
  obtain ⟨hl, hm, hc⟩ := hr
  unfold maxLen at hm
  have HC := Lib.hid hc; clear hc
  have HL := Lib.hid hl; clear hl
  go_enter Try.func124, Try.ntmps124
  go_wp2
  go_loop [8] (fun i => ∃ k : Nat, k ≤ len ∧ i = .int .i64 k ∧ lhas (xs.take k) v = false) (fun i => len - (intOf i).toNat)
  case atStart => exact ⟨0, Nat.zero_le _, rfl, rfl⟩
  case round =>
    obtain ⟨k, hk, rfl, HN⟩ := hrel
    have HN' := Lib.hid HN; clear HN
    by_cases hlt : k < len
    · obtain ⟨b, off, rfl, hcell⟩ := HC.out (by omega)
      have hc := hcell k hlt
      have HS := Lib.hid (lhas_snoc (xs.take k) (xs.getD k 0) v)
      have HT := Lib.hid (take_snoc xs k (by rw [HL.out]; exact hlt))
      clear hcell
      go_wp2
      · go_ret
        refine ⟨_, rfl, ⟨fun _ => ?_, fun _ => by omega⟩, rfl⟩
        have h1 : xs.getD k 0 ∈ xs := by rw [List.getD_eq_getElem?_getD, List.getElem?_eq_getElem (by rw [HL.out]; exact hlt)]; simp
        unfold lhas; rw [List.contains_iff_mem]
        simp_all
      · go_round
        case rel => exact ⟨k + 1, by omega, by go_num, by rw [HT.out, HS.out, HN'.out]; simp_all⟩
        case measure => simp [intOf]; omega
    · go_wp2
      go_ret
      refine ⟨_, rfl, ⟨fun h => by omega, fun h => ?_⟩, rfl⟩
      have h2 := HN'.out
      rw [List.take_of_length_le (by rw [HL.out]; omega), h] at h2
      cases h2
theorem sl_Contains (a : Option Addr) (len cap : Nat) (xs : List Int) (v : Int) (w : World) (hr : IntRow w a len xs) : Calls Try.prog 110 #[.slice a len cap, .int .i64 v] w fun e w' => e = .returned (.bool (lhas xs v)) ∧ w' = w := by
  cases hb : lhas xs v
  all_goals
    have HB := Lib.hid hb
    clear hb
    go_enter Try.func110, Try.ntmps110
    go_wp2_with (go_at_call 124; refine (sl_Index _ _ _ _ _ _ hr).mono ?_; rintro e w' ⟨i, rfl, hi, rfl⟩; rw [HB.out] at hi; simp at hi)
    all_goals (go_returns; exact ⟨ret_bool (by first | (simp; done) | (simp; omega)), rfl⟩)
end Go.Proofs.Ytcanlckenjndbaa
namespace Go.Proofs.Ytcanlckenjndbaa
open Go.RowKit
open Go.Maps (Keyed)
def litOf : Value → DataW Unit
  | .int k a => .lit (.int k a)
  | _ => .nil
def isNum : Value → Bool
  | .int k a => (Lit.int k a).wf
  | _ => false
def mapR : Value → Option (DataW Unit × List MemPlace)
  | .int k a => if (Lit.int k a).wf = true then some (.lit (.int k a), []) else none
  | .agg cs => if cs.toList.all isNum = true then some (.agg (cs.toList.map litOf), []) else none
  | _ => none
theorem litOf_inj {v v' : Value} (h : isNum v = true) (h' : isNum v' = true) (e : litOf v = litOf v') : v = v' := by
  cases v <;> simp [isNum] at h
  cases v' <;> simp [isNum] at h'
  simp [litOf] at e
  obtain ⟨rfl, rfl⟩ := e; rfl
theorem litOf_list : ∀ {l l' : List Value}, l.all isNum = true → l'.all isNum = true → l.map litOf = l'.map litOf → l = l'
  | [], [], _, _, _ => rfl
  | [], _ :: _, _, _, e => by simp at e
  | _ :: _, [], _, _, e => by simp at e
  | v :: l, v' :: l', h, h', e => by
    simp only [List.all_cons, Bool.and_eq_true] at h h'
    simp only [List.map_cons, List.cons.injEq] at e
    rw [litOf_inj h.1 h'.1 e.1, litOf_list h.2 h'.2 e.2]
theorem mapR_inj {v v' : Value} {d : DataW Unit} {ps ps' : List MemPlace} (h : mapR v = some (d, ps)) (h' : mapR v' = some (d, ps')) : v = v' := by
  unfold mapR at h h'
  cases v <;> simp at h <;> cases v' <;> simp at h'
  · obtain ⟨_, h1, _⟩ := h
    obtain ⟨_, h2, _⟩ := h'
    rw [← h1] at h2; simp at h2; obtain ⟨rfl, rfl⟩ := h2; rfl
  · obtain ⟨_, h1, _⟩ := h
    obtain ⟨_, h2, _⟩ := h'
    rw [← h1] at h2; cases h2
  · obtain ⟨_, h1, _⟩ := h
    obtain ⟨_, h2, _⟩ := h'
    rw [← h1] at h2; cases h2
  · rename_i cs cs'
    obtain ⟨g1, h1, _⟩ := h
    obtain ⟨g2, h2, _⟩ := h'
    rw [← h1] at h2
    simp only [DataW.agg.injEq] at h2
    have := litOf_list (l := cs.toList) (l' := cs'.toList) (by rw [List.all_eq_true]; intro x hx; obtain ⟨i, hi, e⟩ := List.mem_iff_getElem.1 hx; rw [← e]; simpa using g1 i (by simpa using hi)) (by rw [List.all_eq_true]; intro x hx; obtain ⟨i, hi, e⟩ := List.mem_iff_getElem.1 hx; rw [← e]; simpa using g2 i (by simpa using hi)) h2.symm
    rw [Value.agg.injEq]; exact Array.ext' this
theorem wf_int {a : Int} (h1 : -9223372036854775808 ≤ a) (h2 : a ≤ 9223372036854775807) : (Lit.int .i64 a).wf = true := by
  have e1 : IntKind.i64.min = -9223372036854775808 := by decide
  have e2 : IntKind.i64.max = 9223372036854775807 := by decide
  simp [Lit.wf, e1, e2, h1, h2]
theorem law_int : Keyed Try.prog 3 := Maps.int_keyed Try.underlying3
theorem key_int {a : Int} (h1 : -9223372036854775808 ≤ a) (h2 : a ≤ 9223372036854775807) : keyOf Try.prog 3 (.int .i64 a) = some (.int .i64 a) := Maps.keyOf_int_mk Try.underlying3 (wf_int h1 h2)
def IMap (w : World) (b n : Nat) (F : Int → Option Value) : Prop := ∃ D : DataW Unit, w.ownsMap Try.prog 3 mapR b n D ∧
  (∀ k v, F k = some v → ∃ ps, ∀ zd, mapR v = some (D.atKey (.int .i64 k) zd, ps)) ∧ (∀ k, Maps.has D (.int .i64 k) = (F k).isSome) ∧
  ∃ ks : List Int, ks.Nodup ∧ (∀ k, k ∈ ks ↔ (F k).isSome = true) ∧ Maps.size D = ks.length
theorem IMap.lt {w : World} {b n : Nat} {F : Int → Option Value} (h : IMap w b n F) : b < w.heap.size := by
  obtain ⟨D, h1, _⟩ := h; exact h1.lt
theorem IMap.block {w w' : World} {b n : Nat} {F : Int → Option Value} (h : IMap w b n F) (hb : w'.heap[b]? = w.heap[b]?) : IMap w' b n F := by
  obtain ⟨D, ⟨es, clock, h1, h2, h3, h4⟩, r⟩ := h
  exact ⟨D, ⟨es, clock, hb.trans h1, h2, h3, h4⟩, r⟩
theorem IMap.later {w w' : World} {b n : Nat} {F : Int → Option Value} (h : IMap w b n F) (hb : Below w.heap.size w w') : IMap w' b n F := h.block (hb.block b h.lt)
theorem IMap.grown {w w' : World} {b n : Nat} {F : Int → Option Value} {r : Option Nat} (h : IMap w b n F) (hg : w.grownBy w' r) (hr : r ≠ some b) : IMap w' b n F := h.block (hg.block b h.lt (fun e => hr e.symm))
theorem IMap.set {w : World} {b n : Nat} {F : Int → Option Value} (h : IMap w b n F) {a : Addr} (ha : b ≠ a.block) (u : Value) : IMap (w.setCell a u) b n F := h.block (Below.heap_setCell w a u b ha)
theorem IMap.drew {w : World} {b n : Nat} {F : Int → Option Value} (h : IMap w b n F) : IMap w.drew b n F := h
theorem IMap.mono {w : World} {b n m : Nat} {F : Int → Option Value} (h : IMap w b n F) (hn : n ≤ m) : IMap w b m F := by
  obtain ⟨D, h1, r⟩ := h
  exact ⟨D, h1.mono hn, r⟩
theorem IMap.made (w : World) : IMap (w.alloc (.map #[] 0)) w.heap.size 0 (fun _ => none) :=
  ⟨.map [], World.ownsMap_made w _ _ _, (fun k v h => by cases h), fun k => rfl, [], List.nodup_nil, fun k => by simp, rfl⟩
theorem isKey_int {a : Int} (_h1 : -9223372036854775808 ≤ a) (_h2 : a ≤ 9223372036854775807) : WideAt.IsKeyLit (.int .i64 a) := trivial
def upd (F : Int → Option Value) (k : Int) (v : Value) : Int → Option Value := fun j => if j = k then some v else F j
def del (F : Int → Option Value) (k : Int) : Int → Option Value := fun j => if j = k then none else F j
theorem upd_same (F : Int → Option Value) (k : Int) (v : Value) : upd F k v k = some v := by unfold upd; rw [if_pos rfl]
theorem upd_other (F : Int → Option Value) {j k : Int} (h : j ≠ k) (v : Value) : upd F k v j = F j := by unfold upd; rw [if_neg h]
theorem bel_grown {w a w' : World} (h : Below w.heap.size w a) {m : Nat} (hg : a.grownBy w' (some m)) (hm : w.heap.size ≤ m) : Below w.heap.size w w' := h.grown hg h.size (fun j hj => by cases hj; exact hm)
theorem wpList_mlook {w : World} {ops : Array Oper} {rest : List Oper} {o : Oper} {a : Act} {Q : Exit → Act → World → Prop} (hg : o.guard = none) (m x : Operand) (t : TypeId) (hop : o.op = Op.lookup t m x true)
    (e : TypeId) (ht : Try.prog.underlying t = some (.map 3 e)) (z : Value) (hz : (zeroValue e).run Try.prog w = .ok z w) (hzR : (mapR z).isSome = true) (b n : Nat) (F : Int → Option Value) (hm : a.eval m = .map (some b)) (hown : IMap w b n F)
    (k : Int) (hx : a.eval x = .int .i64 k) (k1 : -9223372036854775808 ≤ k) (k2 : k ≤ 9223372036854775807) (v : Value) (c : Bool) (hv : (F k).getD z = v) (hc : (F k).isSome = c)
    (hK : wpList Try.prog ops Q rest (a.put o.dst (.tuple #[v, .bool c])) w) : wpList Try.prog ops Q (o :: rest) a w := by
  obtain ⟨D, hD, hR, hH, _⟩ := hown
  obtain ⟨⟨zd, zp⟩, hzd⟩ := Option.isSome_iff_exists.1 hzR
  refine wpList_lookup_own_ok w hg m x t hop 3 e law_int ht mapR hz zd zp hzd b n D hm hD _ _ hx (key_int k1 k2) (fun v' ps hv' => ?_)
  have e1 : v' = v := by
    rw [← hv]
    cases hF : F k with
    | none =>
      have h2 := hH k
      rw [hF] at h2
      rw [Maps.atKey_of_not_has h2] at hv'
      exact mapR_inj hv' hzd
    | some u =>
      obtain ⟨ps', hu⟩ := hR k u hF
      exact mapR_inj hv' (hu zd)
  rw [e1, hH k, hc]
  exact hK
theorem IMap.store {w : World} {b n : Nat} {F : Int → Option Value} (hown : IMap w b n F) (t : TypeId) (e : TypeId) (ht : Try.prog.underlying t = some (.map 3 e)) (hn : n < maxLen)
    {k : Int} (k1 : -9223372036854775808 ≤ k) (k2 : k ≤ 9223372036854775807) {u : Value} (hu : (mapR u).isSome = true) :
    ∃ w', (Instr.mapUpdate t (.map (some b)) (.int .i64 k) u).run Try.prog w = .ok () w' ∧ IMap w' b (n + 1) (upd F k u) ∧ w.grownBy w' (some b) := by
  obtain ⟨D, hD, hR, hH, ks, hk1, hk2, hk3⟩ := hown
  obtain ⟨⟨d, ps⟩, hud⟩ := Option.isSome_iff_exists.1 hu
  have hT := hD.tidy law_int
  have hM := hD.isMap
  obtain ⟨w', hrun, h1, h2⟩ := hD.update law_int ht hn (key_int k1 k2) hud
  refine ⟨w', hrun, ⟨_, h1, ?_, ?_, ?_⟩, h2⟩
  · intro j y hj
    by_cases hjk : j = k
    · subst hjk
      rw [upd_same] at hj; cases hj
      exact ⟨ps, fun zd => by rw [Maps.atKey_put_same hM (isKey_int k1 k2)]; exact hud⟩
    · rw [upd_other _ hjk] at hj
      obtain ⟨ps', h3⟩ := hR j y hj
      exact ⟨ps', fun zd => by rw [Maps.atKey_put_other (by simpa using hjk)]; exact h3 zd⟩
  · intro j
    by_cases hjk : j = k
    · subst hjk; rw [upd_same, Maps.has_put_same hM (isKey_int k1 k2)]; rfl
    · rw [upd_other _ hjk, Maps.has_put_other (by simpa using hjk)]; exact hH j
  · by_cases hks : k ∈ ks
    · refine ⟨ks, hk1, fun j => ?_, ?_⟩
      · by_cases hjk : j = k
        · subst hjk; simp [upd_same, hks]
        · rw [upd_other _ hjk]; exact hk2 j
      · rw [Maps.size_put hT, hH k, if_pos ((hk2 k).1 hks), hk3]
    · refine ⟨k :: ks, List.nodup_cons.2 ⟨hks, hk1⟩, fun j => ?_, ?_⟩
      · by_cases hjk : j = k
        · subst hjk; simp [upd_same]
        · rw [upd_other _ hjk, List.mem_cons, hk2 j]; simp [hjk]
      · rw [Maps.size_put hT, hH k, if_neg (fun h => hks ((hk2 k).2 h)), hk3]; rfl
theorem wpList_mput {w : World} {ops : Array Oper} {rest : List Oper} {o : Oper} {a : Act} {Q : Exit → Act → World → Prop} (hg : o.guard = none) (m x v : Operand) (t : TypeId) (hop : o.op = Op.mapUpdate t m x v)
    (e : TypeId) (ht : Try.prog.underlying t = some (.map 3 e)) (b n : Nat) (F : Int → Option Value) (hm : a.eval m = .map (some b)) (hown : IMap w b n F) (hn : n < maxLen)
    (k : Int) (hx : a.eval x = .int .i64 k) (k1 : -9223372036854775808 ≤ k) (k2 : k ≤ 9223372036854775807) (u : Value) (hv : a.eval v = u) (hu : (mapR u).isSome = true)
    (hK : ∀ w', IMap w' b (n + 1) (upd F k u) → w.grownBy w' (some b) → wpList Try.prog ops Q rest (a.put o.dst undef) w') : wpList Try.prog ops Q (o :: rest) a w := by
  obtain ⟨w', hrun, h1, h2⟩ := hown.store t e ht hn k1 k2 hu
  refine wpList_plain hg fun K' hK' => ?_
  unfold Oper.wp
  simp [execOp, hop, hm, hx, hv, hrun, Result.andThen]
  exact hK' _ _ (hK w' h1 h2)
end Go.Proofs.Ytcanlckenjndbaa
namespace Go.Proofs.Ytcanlckenjndbaa
open Go.RowKit
set_option linter.unusedVariables false
theorem set_unit : (mapR (.agg #[])).isSome = true := by decide
theorem set_zero (w : World) : (zeroValue 138).run Try.prog w = .ok (.agg #[]) w := by kernel_rfl
def sF (l : List Int) : Int → Option Value := fun x => if x ∈ l then some (.agg #[]) else none
theorem sF_nil : sF [] = fun _ => none := by funext x; unfold sF; simp
theorem sF_push (l : List Int) (x : Int) : upd (sF l) x (.agg #[]) = sF (l ++ [x]) := by
  funext y
  unfold upd sF
  by_cases h : y = x
  · rw [if_pos h, if_pos (by simp [h])]
  · rw [if_neg h]
    by_cases h2 : y ∈ l
    · rw [if_pos h2, if_pos (by simp [h2])]
    · rw [if_neg h2, if_neg (by simp [h, h2])]
theorem sF_get (l : List Int) (x : Int) : (sF l x).getD (.agg #[]) = .agg #[] ∧ (sF l x).isSome = l.contains x := by
  unfold sF
  by_cases h : x ∈ l
  · rw [if_pos h]; exact ⟨rfl, by simp [h]⟩
  · rw [if_neg h]; exact ⟨rfl, by simp [h]⟩
end Go.Proofs.Ytcanlckenjndbaa
