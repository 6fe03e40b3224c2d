import Derived.Test.YthfjnlapelkbnaaDoorMgAP
import Derived.Test.YthfjnlapelkbnaaDoorMgAA
import Derived.Test.YthfjnlapelkbnaaDoorCards
import Derived.Test.YthfjnlapelkbnaaDoorTie
import Derived.ProofKit
import Derived.LaidMore
import Derived.OpenShut
import Derived.Stop.Joined
import Derived.SevenTiedAt
import Derived.Test.YthfjnlapelkbnaaDoorMgAC
import Derived.Test.YthfjnlapelkbnaaDoorRows
import Derived.Lib.LaidTab
namespace Go.Proofs.YthfjnlapelkbnaaDoor
set_option linter.unusedSimpArgs false
open Go.Lib
structure TokIn (m : List UInt8) (t : Nat × List UInt8) : Prop where
  pos : 0 < t.2.length
  fit : t.1 + t.2.length ≤ m.length
  txt : (m.drop t.1).take t.2.length = t.2
  word : t.2.all noSp = true
  next : t.1 + t.2.length < m.length → isSp (m.getD (t.1 + t.2.length) 0) = true
def TkOK (m : List UInt8) : Nat → List (Nat × List UInt8) → Prop
  | _, [] => True
  | p, t :: ts => p ≤ t.1 ∧ TokIn m t ∧ TkOK m (t.1 + t.2.length) ts
theorem TkOK.le {m : List UInt8} {p q : Nat} {ts : List (Nat × List UInt8)} (h : TkOK m q ts) (hp : p ≤ q) : TkOK m p ts := by
  cases ts with
  | nil => trivial
  | cons t ts => exact ⟨Nat.le_trans hp h.1, h.2⟩
theorem tw_take (r : List UInt8) : r.take (r.takeWhile noSp).length = r.takeWhile noSp ∧ r.drop (r.takeWhile noSp).length = r.dropWhile noSp := by
  have h := List.takeWhile_append_dropWhile (p := noSp) (l := r)
  generalize r.takeWhile noSp = a at *
  generalize r.dropWhile noSp = b at *
  subst h
  exact ⟨List.take_left, List.drop_left⟩
theorem dw_head (r : List UInt8) : ∀ c, (r.dropWhile noSp)[0]? = some c → noSp c = false := by
  induction r with
  | nil => intro c h; simp at h
  | cons b r ih =>
    intro c h
    rw [List.dropWhile_cons] at h
    by_cases hb : noSp b = true
    · rw [if_pos hb] at h; exact ih c h
    · rw [if_neg hb] at h
      simp at h; subst h; simpa using hb
theorem tk_ok (m : List UInt8) (f : Nat) : ∀ p, m.length - p ≤ f → TkOK m p (tk p (m.drop p)) := by
  induction f with
  | zero => intro p hp; rw [List.drop_of_length_le (by omega), tk_nil]; trivial
  | succ f ih =>
    intro p hp
    rcases Nat.lt_or_ge p m.length with h | h
    · cases hs : isSp (m.getD p 0) with
      | true => rw [tk_at_sp h hs]; exact (ih (p + 1) (by omega)).le (by omega)
      | false =>
        have hd := drop_at h
        rw [hd, tk_word hs]
        obtain ⟨w1, w2⟩ := tw_take (m.drop (p + 1))
        have hw : ((m.drop (p + 1)).takeWhile noSp).length ≤ (m.drop (p + 1)).length := (List.takeWhile_sublist noSp (l := m.drop (p + 1))).length_le
        have hall : ((m.drop (p + 1)).takeWhile noSp).all noSp = true := by
          exact List.all_takeWhile
        have hhead := dw_head (m.drop (p + 1))
        rw [← w2, List.drop_drop] at hhead ⊢
        rw [List.length_drop] at hw
        generalize hn : ((m.drop (p + 1)).takeWhile noSp).length = n at *
        refine ⟨Nat.le_refl _, ⟨by simp, by simp only [List.length_cons, hn]; omega, ?_, ?_, ?_⟩, ?_⟩
        · simp only [List.length_cons, hn]
          rw [hd, List.take_succ_cons, w1]
        · rw [List.all_cons, hall, Bool.and_true]
          unfold noSp; rw [hs]; rfl
        · simp only [List.length_cons, hn]
          intro hlt
          have e : (m.drop (p + 1 + n))[0]? = some (m.getD (p + (n + 1)) 0) := by
            rw [show p + (n + 1) = p + 1 + n by omega] at hlt ⊢
            rw [List.getElem?_drop, Nat.add_zero, List.getElem?_eq_getElem hlt]
            simp [List.getD, hlt]
          have := hhead _ e
          unfold noSp at this; simpa using this
        · simp only [List.length_cons, hn]
          rw [show p + (n + 1) = p + 1 + n by omega]
          exact ih (p + 1 + n) (by omega)
    · rw [List.drop_of_length_le h, tk_nil]; trivial
theorem line_ok (m : List UInt8) : TkOK m 0 (lineTk m) := by
  have h : lineTk m = if remark m = true then [] else tk 0 m := rfl
  rw [h]
  split
  · trivial
  · exact tk_ok m m.length 0 (by omega)
def nlc (l : List UInt8) (a : Nat) : Nat := (l.take a).count 10
theorem nlc_succ {l : List UInt8} {a : Nat} (h : a < l.length) : nlc l (a + 1) = nlc l a + if l.getD a 0 = 10 then 1 else 0 := by
  unfold nlc
  rw [List.take_add_one, List.getElem?_eq_getElem h, List.count_append]
  have e : l.getD a 0 = l[a] := by simp [List.getD, h]
  rw [e]
  congr 1
  by_cases hx : l[a] = 10
  · rw [if_pos hx, hx]; rfl
  · rw [if_neg hx]
    show ([l[a]] : List UInt8).count 10 = 0
    rw [List.count_cons, List.count_nil, if_neg (by simpa using hx)]
theorem nlc_flat {l : List UInt8} {a : Nat} : ∀ n : Nat, a + n ≤ l.length → (∀ j, j < n → l.getD (a + j) 0 ≠ 10) → nlc l (a + n) = nlc l a
  | 0, _, _ => rfl
  | n + 1, h, hj => by
    rw [← Nat.add_assoc, nlc_succ (by omega), nlc_flat n (by omega) (fun j h1 => hj j (by omega)), if_neg (hj n (by omega))]; rfl
structure LineIn (l : List UInt8) (i st n : Nat) : Prop where
  fit : st + n ≤ l.length
  cnt : nlc l st = i
  flat : ∀ j, j < n → l.getD (st + j) 0 ≠ 10
  stop : st + n < l.length → l.getD (st + n) 0 = 10
def RowsOK (l : List UInt8) : Nat → Nat → List (Nat × Nat × List (Nat × List UInt8)) → Prop
  | _, _, [] => True
  | i, e, r :: rs => r.1 = i + 1 ∧ e ≤ r.2.1 ∧ ∃ n, LineIn l i r.2.1 n ∧ TkOK ((l.drop r.2.1).take n) 0 r.2.2 ∧ RowsOK l (i + 1) (r.2.1 + n) rs
theorem RowsOK.le {l : List UInt8} {i e e' : Nat} {rs : List (Nat × Nat × List (Nat × List UInt8))} (h : RowsOK l i e rs) (he : e' ≤ e) : RowsOK l i e' rs := by
  cases rs with
  | nil => trivial
  | cons r rs => exact ⟨h.1, Nat.le_trans he h.2.1, h.2.2⟩
theorem lns_ok (l : List UInt8) (f : Nat) : ∀ i k, l.length - k ≤ f → k ≤ l.length + 1 → (k ≤ l.length → nlc l k = i) → RowsOK l i k (lns (i + 1) k (l.drop k)) := by
  induction f with
  | zero => intro i k h1 h2 h3; rw [List.drop_of_length_le (by omega), lns_nil]; trivial
  | succ f ih =>
    intro i k h1 h2 h3
    rcases Nat.lt_or_ge k l.length with h | h
    · rw [lns_at h]
      have hle := lnLen_le (l.drop k)
      have hin : ∀ j, j < lnLen (l.drop k) → l.getD (k + j) 0 ≠ 10 := fun j hj => by rw [← dropD]; exact lnLen_in hj
      have hat : k + lnLen (l.drop k) < l.length → l.getD (k + lnLen (l.drop k)) 0 = 10 := fun hl => by rw [← dropD]; exact lnLen_at (by rw [List.length_drop]; omega)
      rw [List.length_drop] at hle
      generalize lnLen (l.drop k) = n at *
      refine ⟨rfl, Nat.le_refl _, n, ⟨by show k + n ≤ _; omega, h3 (by omega), hin, hat⟩, line_ok _, ?_⟩
      refine (ih (i + 1) (k + (n + 1)) (by omega) (by omega) (fun hk => ?_)).le (by dsimp only; omega)
      rw [show k + (n + 1) = k + n + 1 by omega, nlc_succ (by omega), if_pos (hat (by omega)), nlc_flat n (by omega) hin, h3 (by omega)]
    · rw [List.drop_of_length_le h, lns_nil]; trivial
theorem lns_rows (l : List UInt8) : RowsOK l 0 0 (lns 1 0 l) := lns_ok l l.length 0 0 (by omega) (by omega) (fun _ => rfl)
end Go.Proofs.YthfjnlapelkbnaaDoor
namespace Go.Proofs.YthfjnlapelkbnaaDoor
open Go.ChangeShapes Go.WideShapes Go.ChangeAt Go.RowKit
end Go.Proofs.YthfjnlapelkbnaaDoor
namespace Go.Proofs.YthfjnlapelkbnaaDoor
open Go.RowKit
set_option linter.unusedVariables false
section
variable {P : Program} {w : World}
theorem laidVars_at : ∀ {laid : List (String × DataW Unit)} {ps : List MemPlace}, DataW.LaidVars P w laid ps → ∀ {n : String} {d : DataW Unit}, (n, d) ∈ laid → ∃ g t cs fuel p, P.globalNamed n = some g ∧ (P.globals[g]?).map (·.type) = some t ∧ w.var? P n = some cs ∧ DataW.trod (fun _ => ()) P w 0 (fun _ => true) false fuel t cs.toList = some (d, p)
  | [], ps, h, n, d, hm => by cases hm
  | (n', d') :: r, ps, h, n, d, hm => by
    obtain ⟨g, t, cs, fuel, p, q, h1, h2, h3, h4, h5, _⟩ := h
    rcases List.mem_cons.1 hm with e | hm
    · cases e; exact ⟨g, t, cs, fuel, p, h1, h2, h3, h4⟩
    · exact laidVars_at h5 hm
theorem laidH_at {laid : List (String × DataW Unit)} (h : laidMetH P laid w) {n : String} {d : DataW Unit} (hm : (n, d) ∈ laid) (hn : d.handleName?.isNone = true) : ∃ g t cs fuel p, P.globalNamed n = some g ∧ (P.globals[g]?).map (·.type) = some t ∧ w.var? P n = some cs ∧ DataW.trod (fun _ => ()) P w 0 (fun _ => true) false fuel t cs.toList = some (d, p) := by
  unfold laidMetH at h
  split at h
  · obtain ⟨ps, h, _⟩ := h; exact laidVars_at h hm
  · obtain ⟨⟨ps, h, _⟩, _⟩ := h; exact laidVars_at h (List.mem_filter.2 ⟨hm, hn⟩)
theorem var_heap {n : String} {g : Nat} {cs : Array Value} (hg : P.globalNamed n = some g) (h : w.var? P n = some cs) : ∃ t fr, w.heap[g]? = some (.cells cs t fr) := by
  unfold World.var? at h
  rw [hg] at h
  simp only [Option.bind_some] at h
  split at h
  · rename_i c t fr e; cases h; exact ⟨t, fr, e⟩
  · cases h
theorem tab_at {laid : List (String × DataW Unit)} (h : laidMetH P laid w) {n : String} {k : IntKind} {zs : List Int} (hm : (n, Lib.tabData k zs) ∈ laid) {g : Nat} {t e : TypeId} {m : Nat} (hg : P.globalNamed n = some g) (hty : (P.globals[g]?).map (·.type) = some t) (ht : P.underlying t = some (.array m e)) (he : P.underlying e = some (.int k)) (hce : P.cellsOf e = 1) (hct : P.cellsOf t = m) : ∃ x, w.heap[g]? = some x ∧ tabObj k zs x := by
  obtain ⟨g', t', cs, fuel, p, h1, h2, h3, h4⟩ := laidH_at h hm rfl
  obtain rfl := Option.some.inj (hg.symm.trans h1)
  obtain rfl := Option.some.inj (hty.symm.trans h2)
  obtain ⟨ty, fr, hx⟩ := var_heap hg h3
  have hcs := Lib.cells_of_tab ht he hce hct h4
  refine ⟨_, hx, ty, fr, ?_⟩
  congr 1
  apply Array.toList_inj.1
  rw [hcs]
theorem trod_iface {H : Type} {enc : TypeId × Value → H} {base : Nat} {sp : Nat → Bool} {held : Bool} {fuel : Nat} {t : TypeId} {ms : Array (String × TypeId)} {cs : List Value} {nm : String} {d : DataW H} {p : List MemPlace} (ht : P.underlying t = some (.interface ms)) (h : DataW.trod enc P w base sp held fuel t cs = some (.iface nm d, p)) : ∃ te pe, cs = [.iface te pe] := by
  cases fuel with
  | zero => simp [DataW.trod] at h
  | succ fuel =>
    cases cs with
    | nil => simp [DataW.trod, ht] at h
    | cons c r =>
      cases r with
      | cons c2 r => simp [DataW.trod, ht] at h
      | nil => cases c <;> first | exact ⟨_, _, rfl⟩ | simp [DataW.trod, ht] at h
theorem err_at {laid : List (String × DataW Unit)} (h : laidMetH P laid w) {n nm : String} {d : DataW Unit} (hm : (n, DataW.iface nm d) ∈ laid) (hn : (DataW.iface nm d).handleName?.isNone = true) {g : Nat} {t : TypeId} {ms : Array (String × TypeId)} (hg : P.globalNamed n = some g) (hty : (P.globals[g]?).map (·.type) = some t) (ht : P.underlying t = some (.interface ms)) : ∃ x, w.heap[g]? = some x ∧ errObj x := by
  obtain ⟨g', t', cs, fuel, p, h1, h2, h3, h4⟩ := laidH_at h hm hn
  obtain rfl := Option.some.inj (hg.symm.trans h1)
  obtain rfl := Option.some.inj (hty.symm.trans h2)
  obtain ⟨ty, fr, hx⟩ := var_heap hg h3
  obtain ⟨te, pe, hcs⟩ := trod_iface ht h4
  refine ⟨_, hx, te, pe, ty, fr, ?_⟩
  congr 1
  apply Array.toList_inj.1
  rw [hcs]
end
end Go.Proofs.YthfjnlapelkbnaaDoor
