import Derived.Test.YtdaenbgjafalcaaDoorMgAJ
import Derived.Test.YtdaenbgjafalcaaDoorRows
import Derived.Test.YtdaenbgjafalcaaDoorMgAA
import Derived.Maps.OwnSet
import Derived.Maps.OwnOps
import Derived.OwnWalk
namespace Go.Proofs.YtdaenbgjafalcaaDoor
open Go.RowKit
set_option linter.unusedVariables false
set_option linter.unusedSimpArgs false
structure Gh.leb (m : Nat) (G G' : Gh) : Prop where
  mu : ∀ o, o < m → G.dom o → G'.mu o = G.mu o
  sz : ∀ o, o < m → G.dom o → G'.sz o = G.sz o
  dom : ∀ o, o < m → G.dom o → G'.dom o
  back : ∀ o, o < m → G'.dom o → G.dom o
  fz : ∀ b x, G.fz b = some x → G'.fz b = some x
  kp : ∀ b x, G.kp b = some x → G'.kp b = some x
  new : ∀ b x y, G.kp b = some x → G'.fz b = some y → ∃ z, G.fz b = some z
  os : G'.os = G.os
  tape : G'.tape = G.tape
  output : G'.output = G.output
theorem Gh.leb.refl (m : Nat) (G : Gh) : Gh.leb m G G := ⟨fun _ _ _ => rfl, fun _ _ _ => rfl, fun _ _ h => h, fun _ _ h => h, fun _ _ h => h, fun _ _ h => h, fun _ _ y _ h => ⟨y, h⟩, rfl, rfl, rfl⟩
theorem Gh.leb.trans {m : Nat} {a b c : Gh} (h : Gh.leb m a b) (k : Gh.leb m b c) : Gh.leb m a c :=
  ⟨fun o hm ho => (k.mu o hm (h.dom o hm ho)).trans (h.mu o hm ho), fun o hm ho => (k.sz o hm (h.dom o hm ho)).trans (h.sz o hm ho), fun o hm ho => k.dom o hm (h.dom o hm ho), fun o hm hd => h.back o hm (k.back o hm hd), fun b x e => k.fz b x (h.fz b x e), fun b x e => k.kp b x (h.kp b x e), fun b x y e f => (by obtain ⟨z, hz⟩ := k.new b x y (h.kp b x e) f; exact h.new b x z e hz), k.os.trans h.os, k.tape.trans h.tape, k.output.trans h.output⟩
theorem Gh.le.leb {n m : Nat} {G G' : Gh} (h : Gh.le n G G') (hm : m ≤ n) : Gh.leb m G G' :=
  ⟨fun o _ => h.mu o, fun o _ => h.sz o, fun o _ => h.dom o, fun o ho => h.back o (by omega), h.fz, h.kp, h.new, h.os, h.tape, h.output⟩
theorem Gh.leb.le {n : Nat} {G G' : Gh} (h : Gh.leb n G G') (hd : ∀ o, G.dom o → o < n) : Gh.le n G G' :=
  ⟨fun o ho => h.mu o (hd o ho) ho, fun o ho => h.sz o (hd o ho) ho, fun o ho => h.dom o (hd o ho) ho, h.back, h.fz, h.kp, h.new, h.os, h.tape, h.output⟩
def PostM (m : Nat) (G : Gh) (Q : Exit → AS → Prop) : Exit → Act → World → Prop := fun e a w => ∃ G' s', Gh.leb m G G' ∧ m ≤ s'.H.length ∧ Rst G' s' a w ∧ Q e s'
def AM (P : Program) (m : Nat) (c : Code) (Q : Exit → AS → Prop) (s : AS) : Prop := m ≤ s.H.length → ∀ G a w, Rst G s a w → c.wp P (PostM m G Q) a w
theorem PostM.step {m : Nat} {G G' : Gh} {Q : Exit → AS → Prop} {e : Exit} {a : Act} {w : World} (h : Gh.leb m G G') (p : PostM m G' Q e a w) : PostM m G Q e a w := by
  obtain ⟨G2, s2, h1, h2, h3, h4⟩ := p
  exact ⟨G2, s2, h.trans h1, h2, h3, h4⟩
theorem PostM.now {m : Nat} {G : Gh} {s : AS} {Q : Exit → AS → Prop} {e : Exit} {a : Act} {w : World} (hm : m ≤ s.H.length) (h : Rst G s a w) (hq : Q e s) : PostM m G Q e a w := ⟨G, s, Gh.leb.refl _ _, hm, h, hq⟩
def Leads (m : Nat) (s : AS) (S : AS → Prop) : Prop := ∀ G a w, m ≤ s.H.length → Rst G s a w → ∃ G' s', Gh.leb m G G' ∧ m ≤ s'.H.length ∧ Rst G' s' a w ∧ S s'
section
variable {P : Program} {m : Nat} {Q : Exit → AS → Prop} {s : AS}
theorem Leads.now {S : AS → Prop} (h : S s) : Leads m s S := fun G a w hm hr => ⟨G, s, Gh.leb.refl _ _, hm, hr, h⟩
theorem Leads.trans {S T : AS → Prop} (h : Leads m s S) (k : ∀ s', S s' → Leads m s' T) : Leads m s T := fun G a w hm hr => by
  obtain ⟨G1, s1, h1, h2, h3, h4⟩ := h G a w hm hr
  obtain ⟨G2, s2, k1, k2, k3, k4⟩ := k s1 h4 G1 a w h2 h3
  exact ⟨G2, s2, h1.trans k1, k2, k3, k4⟩
theorem Leads.mono {S T : AS → Prop} (h : Leads m s S) (k : ∀ s', S s' → T s') : Leads m s T := h.trans fun s' hs => .now (k s' hs)
theorem AM.mono {c : Code} {Q' : Exit → AS → Prop} (h : AM P m c Q s) (hq : ∀ e s, Q e s → Q' e s) : AM P m c Q' s := fun hm G a w hr =>
  wp_mono (h hm G a w hr) fun e a w ⟨G', s', h1, h2, h3, h4⟩ => ⟨G', s', h1, h2, h3, hq _ _ h4⟩
def WhM {σ : Type} (m : Nat) (ds : List Nat) (f : σ → List (Nat × AV)) (hp : σ → AHeap) (I : σ → Prop) (mm : σ → Nat) (fr0 : List AV) (n : Nat) (s' : AS) : Prop := Leads m s' fun s1 => ∃ st' d', s1 = ⟨updS (deadS fr0 d' ds) (f st'), hp st'⟩ ∧ I st' ∧ mm st' < n
end
end Go.Proofs.YtdaenbgjafalcaaDoor
namespace Go.Proofs.YtdaenbgjafalcaaDoor
open Go.RowKit
set_option linter.unusedVariables false
set_option linter.unusedSimpArgs false
mutual
def AV.rn (r : Nat → Nat) : AV → AV
  | .iv x => .iv x
  | .agg xs => .agg (rnL r xs)
  | .tup xs => .tup (rnL r xs)
  | .osl o off len sz => .osl (r o) off len sz
  | .optr o off => .optr (r o) off
  | .xptr o sz => .xptr (r o) sz
  | .fn f first caps => .fn f (rnL r first) (rnL r caps)
def rnL (r : Nat → Nat) : List AV → List AV
  | [] => []
  | x :: xs => x.rn r :: rnL r xs
end
mutual
def AV.idB (p : Nat → Bool) : AV → Bool
  | .iv x => true
  | .agg xs => idL p xs
  | .tup xs => idL p xs
  | .osl o off len sz => p o
  | .optr o off => p o
  | .xptr o sz => p o
  | .fn f first caps => idL p first && idL p caps
def idL (p : Nat → Bool) : List AV → Bool
  | [] => true
  | x :: xs => x.idB p && idL p xs
end
theorem rnL_map (r : Nat → Nat) (xs : List AV) : rnL r xs = xs.map (AV.rn r) := by
  induction xs with
  | nil => rfl
  | cons x xs ih => unfold rnL; rw [ih]; rfl
theorem idL_all (p : Nat → Bool) (xs : List AV) : idL p xs = xs.all (AV.idB p) := by
  induction xs with
  | nil => rfl
  | cons x xs ih => unfold idL; rw [ih]; rfl
theorem rn_one (r : Nat → Nat) (x : AV) : (x.rn r).one = x.one := by cases x <;> rfl
theorem rnL_one (r : Nat → Nat) (xs : List AV) : (rnL r xs).all AV.one = xs.all AV.one := by
  rw [rnL_map, List.all_map]; congr 1; funext x; exact rn_one r x
theorem RA.rn {n n' : Nat} {G G' : Gh} {r : Nat → Nat} {p : Nat → Bool} (hd : ∀ o, p o = true → G.dom o → G'.dom (r o)) (hmu : ∀ o, p o = true → G'.mu (r o) = G.mu o) (hsz : ∀ o, p o = true → G'.sz (r o) = G.sz o) (hfz : ∀ b x, G.fz b = some x → G'.fz b = some x) {x : AV} {v : Value} (h : RA n G x v) (hi : x.idB p = true) : RA n' G' (x.rn r) v := by
  have lst : ∀ {xs : List AV} {vs : List Value}, (∀ (i : Nat) (x : AV) (v : Value), xs[i]? = some x → vs[i]? = some v → x.idB p = true → RA n' G' (x.rn r) v) → idL p xs = true → ∀ (i : Nat) (x : AV) (v : Value), (rnL r xs)[i]? = some x → vs[i]? = some v → RA n' G' x v := by
    intro xs vs ih hi i x v e1 e2
    rw [rnL_map, List.getElem?_map] at e1
    obtain ⟨y, hy, rfl⟩ := Option.map_eq_some_iff.1 e1
    rw [idL_all, List.all_eq_true] at hi
    exact ih i y v hy e2 (hi y (List.mem_iff_getElem?.2 ⟨i, hy⟩))
  have len : ∀ {xs : List AV} {vs : List Value}, xs.length = vs.length → (rnL r xs).length = vs.length := fun h => by rw [rnL_map, List.length_map]; exact h
  induction h with
  | iv x v h => exact .iv x v (h.mono hfz)
  | agg xs vs h1 h2 h3 ih => exact .agg _ vs (len h1) (lst (fun i x v e1 e2 e3 => ih i x v e1 e2 e3) hi) (by rw [rnL_one]; exact h3)
  | tup xs vs h1 h2 ih => exact .tup _ vs (len h1) (lst (fun i x v e1 e2 e3 => ih i x v e1 e2 e3) hi)
  | osl o off len sz b a cap h1 h2 h3 h4 h5 h6 => exact .osl _ off len sz b a cap (hd o hi h1) (by rw [hmu o hi]; exact h2) (by rw [hmu o hi]; exact h3) h4 h5 (by rw [hsz o hi]; exact h6)
  | onil o off sz h1 => exact .onil _ off sz (hd o hi h1)
  | optr o off h1 => rw [← hmu o hi]; exact .optr _ off (hd o hi h1)
  | xptr o sz h1 h2 h3 => rw [← hmu o hi]; exact .xptr _ sz (hd o hi h1) (by rw [hmu o hi]; exact h2) (by rw [hsz o hi]; exact h3)
  | fn f first caps vs us h1 h2 h3 h4 ih1 ih2 =>
    have hi' : idL p first = true ∧ idL p caps = true := by simpa [AV.idB] using hi
    exact .fn f _ _ vs us (len h1) (len h2) (lst (fun i x v e1 e2 e3 => ih1 i x v e1 e2 e3) hi'.1) (lst (fun i x v e1 e2 e3 => ih2 i x v e1 e2 e3) hi'.2)
def newNo (m : Nat) (sel : List Nat) (o : Nat) : Nat := if o < m then o else m + sel.idxOf o
def oldNo (m : Nat) (sel : List Nat) (o : Nat) : Nat := if o < m then o else sel.getD (o - m) 0
def named (m : Nat) (sel : List Nat) (o : Nat) : Bool := decide (o < m) || sel.contains o
def AObj.rn (r : Nat → Nat) (x : AObj) : AObj := ⟨x.t, rnL r x.cells⟩
def atH (H : AHeap) (o : Nat) : Option AObj := match H[o]? with | some x => x | none => none
def selH (m : Nat) (sel : List Nat) (H : AHeap) : AHeap := (H.take m ++ sel.map (atH H)).map (Option.map (AObj.rn (newNo m sel)))
def okH (p : Nat → Bool) : AHeap → Bool
  | [] => true
  | none :: H => okH p H
  | some x :: H => idL p x.cells && okH p H
theorem okH_at {p : Nat → Bool} : ∀ {H : AHeap} {o : Nat} {x : AObj}, okH p H = true → H[o]? = some (some x) → idL p x.cells = true
  | none :: H, 0, x, h, e => by simp at e
  | none :: H, o + 1, x, h, e => okH_at (H := H) h (by simpa using e)
  | some y :: H, 0, x, h, e => by simp at e; subst e; unfold okH at h; rw [Bool.and_eq_true] at h; exact h.1
  | some y :: H, o + 1, x, h, e => by unfold okH at h; rw [Bool.and_eq_true] at h; exact okH_at (H := H) h.2 (by simpa using e)
def okF (p : Nat → Bool) (ds : List Nat) : Nat → List AV → Bool
  | _, [] => true
  | i, x :: fr => (ds.contains i || x.idB p) && okF p ds (i + 1) fr
theorem okF_at {p : Nat → Bool} {ds : List Nat} : ∀ {fr : List AV} {i j : Nat} {x : AV}, okF p ds i fr = true → fr[j]? = some x → i + j ∉ ds → x.idB p = true
  | y :: fr, i, 0, x, h, e, hn => by
    simp at e; subst e
    unfold okF at h
    simp only [Bool.and_eq_true, Bool.or_eq_true, List.contains_iff_mem] at h
    rcases h.1 with h | h
    · exact absurd h hn
    · exact h
  | y :: fr, i, j + 1, x, h, e, hn => by
    unfold okF at h
    rw [Bool.and_eq_true] at h
    exact okF_at (fr := fr) (i := i + 1) (j := j) h.2 (by simpa using e) (by rw [show i + 1 + j = i + (j + 1) by omega]; exact hn)
theorem deadS_at {d : Nat → AV} : ∀ {ds : List Nat} {fr : List AV} {i : Nat}, i < fr.length → (deadS fr d ds)[i]? = if i ∈ ds then some (d i) else fr[i]?
  | [], fr, i, _ => by simp [deadS]
  | e :: ds, fr, i, hi => by
    show (deadS (fr.set e (d e)) d ds)[i]? = _
    rw [deadS_at (by simpa using hi)]
    by_cases h1 : i ∈ ds
    · rw [if_pos h1, if_pos (List.mem_cons_of_mem _ h1)]
    · rw [if_neg h1]
      by_cases h2 : i = e
      · subst h2; rw [if_pos (List.mem_cons_self ..), List.getElem?_set_self hi]
      · rw [if_neg (by simp [h1, h2]), List.getElem?_set_ne (Ne.symm h2)]
theorem deadS_len {d : Nat → AV} : ∀ {ds : List Nat} {fr : List AV}, (deadS fr d ds).length = fr.length
  | [], fr => rfl
  | e :: ds, fr => by show (deadS (fr.set e (d e)) d ds).length = _; rw [deadS_len, List.length_set]
theorem old_new {m : Nat} {sel : List Nat} {o : Nat} (h : named m sel o = true) : oldNo m sel (newNo m sel o) = o := by
  unfold named at h
  unfold newNo oldNo
  by_cases ho : o < m
  · rw [if_pos ho, if_pos ho]
  · rw [if_neg ho, if_neg (by omega), Nat.add_sub_cancel_left]
    have hs : o ∈ sel := by simpa [ho] using h
    have hl : sel.idxOf o < sel.length := List.idxOf_lt_length_iff.2 hs
    rw [List.getD_eq_getElem?_getD, List.getElem?_eq_getElem hl, Option.getD_some]
    exact List.getElem_idxOf hl
theorem selH_len {m : Nat} {sel : List Nat} {H : AHeap} (hm : m ≤ H.length) : (selH m sel H).length = m + sel.length := by
  unfold selH; simp [Nat.min_eq_left hm]
theorem selH_at {m : Nat} {sel : List Nat} {H : AHeap} (hm : m ≤ H.length) {o : Nat} {x : AObj} (h : (selH m sel H)[o]? = some (some x)) : (o < m ∨ ∃ p, sel[o - m]? = some p ∧ oldNo m sel o = p) ∧ o < m + sel.length ∧ ∃ y, H[oldNo m sel o]? = some (some y) ∧ x = y.rn (newNo m sel) := by
  have hlt : o < m + sel.length := by rw [← selH_len (sel := sel) hm]; exact (List.getElem?_eq_some_iff.1 h).1
  unfold selH at h
  rw [List.getElem?_map] at h
  obtain ⟨z, hz, e⟩ := Option.map_eq_some_iff.1 h
  obtain ⟨y, hy, rfl⟩ := Option.map_eq_some_iff.1 e
  subst hy
  have hl : (H.take m).length = m := by simp [Nat.min_eq_left hm]
  by_cases ho : o < m
  · rw [List.getElem?_append_left (by rw [hl]; exact ho), List.getElem?_take_of_lt ho] at hz
    exact ⟨.inl ho, hlt, y, by unfold oldNo; rw [if_pos ho]; exact hz, rfl⟩
  · rw [List.getElem?_append_right (by rw [hl]; omega), hl, List.getElem?_map] at hz
    obtain ⟨p, hp, e⟩ := Option.map_eq_some_iff.1 hz
    have ho2 : oldNo m sel o = p := by unfold oldNo; rw [if_neg ho, List.getD_eq_getElem?_getD, hp]; rfl
    refine ⟨.inr ⟨p, hp, ho2⟩, hlt, y, ?_, rfl⟩
    rw [ho2]
    unfold atH at e
    split at e
    · rename_i x hx; rw [hx, e]
    · cases e
theorem Leads.ren {m : Nat} {s : AS} {S : AS → Prop} (sel ds : List Nat) (hs1 : sel.Nodup) (hs2 : sel.all (fun p => decide (m ≤ p)) = true) (hH : okH (named m sel) (s.H.take m ++ sel.map (atH s.H)) = true) (hF : okF (named m sel) ds 0 s.fr = true)
    (h : ∀ d : Nat → Value, S ⟨deadS (s.fr.map (AV.rn (newNo m sel))) (fun i => lt (d i)) ds, selH m sel s.H⟩) : Leads m s S := fun G a w hm hr => by
  have hge : ∀ p ∈ sel, m ≤ p := fun p hp => by simpa using List.all_eq_true.1 hs2 p hp
  let G1 : Gh := { G with dom := fun o => o < m + sel.length ∧ G.dom (oldNo m sel o), mu := fun o => G.mu (oldNo m sel o), sz := fun o => G.sz (oldNo m sel o) }
  have low : ∀ {o}, o < m → oldNo m sel o = o := fun {o} ho => by unfold oldNo; rw [if_pos ho]
  have hnew : ∀ {o}, named m sel o = true → newNo m sel o < m + sel.length := fun {o} ho => by
    unfold newNo
    unfold named at ho
    by_cases h1 : o < m
    · rw [if_pos h1]; omega
    · rw [if_neg h1]
      have : sel.idxOf o < sel.length := List.idxOf_lt_length_iff.2 (by simpa [h1] using ho)
      omega
  have ra : ∀ {x : AV} {v : Value}, RA s.H.length G x v → x.idB (named m sel) = true → RA (selH m sel s.H).length G1 (x.rn (newNo m sel)) v := fun hx hi =>
    RA.rn (G' := G1) (r := newNo m sel) (p := named m sel) (fun o ho hd => ⟨hnew ho, by rw [old_new ho]; exact hd⟩) (fun o ho => congrArg G.mu (old_new ho)) (fun o ho => congrArg G.sz (old_new ho)) (fun _ _ e => e) hx hi
  refine ⟨G1, _, ⟨fun o ho _ => congrArg G.mu (low ho), fun o ho _ => congrArg G.sz (low ho), fun o ho hd => ⟨by omega, by rw [low ho]; exact hd⟩, fun o ho hd => by have := hd.2; rw [low ho] at this; exact this, fun _ _ e => e, fun _ _ e => e, fun _ _ y _ e => ⟨y, e⟩, rfl, rfl, rfl⟩, by rw [selH_len hm]; omega, ⟨hr.defers, ?_, ?_⟩, h fun i => a.tmps.toList.getD i undef⟩
  · refine ⟨by rw [deadS_len, List.length_map]; exact hr.fr.1, fun i x v e1 e2 => ?_⟩
    have hi : i < s.fr.length := by rw [hr.fr.1]; exact (List.getElem?_eq_some_iff.1 e2).1
    rw [deadS_at (by simpa using hi)] at e1
    split at e1
    · cases e1
      rw [List.getD_eq_getElem?_getD, e2]
      exact .iv _ _ (.lit _)
    · rename_i hn
      rw [List.getElem?_map] at e1
      obtain ⟨y, hy, rfl⟩ := Option.map_eq_some_iff.1 e1
      exact ra (hr.fr.2 i y v hy e2) (okF_at hF hy (by rw [Nat.zero_add]; exact hn))
  · have hi := hr.inv
    refine ⟨hi.os, hi.tape, hi.output, hi.fz, hi.kp, fun o ho => by rw [selH_len hm]; exact ho.1, fun o x e => ?_, fun o x e => ?_, fun o o' x x' e e' hne z z' => ?_⟩
    · obtain ⟨_, h1, y, hy, _⟩ := selH_at hm e
      exact ⟨h1, hi.live _ _ hy⟩
    · obtain ⟨h0, h1, y, hy, rfl⟩ := selH_at hm e
      have hid : idL (named m sel) y.cells = true := by
        rcases h0 with h0 | ⟨p, h0, h2⟩
        · refine okH_at (o := o) hH ?_
          rw [List.getElem?_append_left (by simp [Nat.min_eq_left hm]; exact h0), List.getElem?_take_of_lt h0]
          rw [low h0] at hy; exact hy
        · by_cases hom : o < m
          · refine okH_at (o := o) hH ?_
            rw [List.getElem?_append_left (by simp [Nat.min_eq_left hm]; exact hom), List.getElem?_take_of_lt hom]
            rw [low hom] at hy; exact hy
          · refine okH_at (o := o) hH ?_
            have hl : (s.H.take m).length = m := by simp [Nat.min_eq_left hm]
            rw [List.getElem?_append_right (by rw [hl]; omega), hl, List.getElem?_map, h0, Option.map_some]
            rw [h2] at hy
            unfold atH; rw [hy]
      rcases hi.obj _ _ hy with ⟨c1, c2⟩ | ⟨c1, cs, k1, k2, k3, k4, k5, k6⟩
      · exact .inl ⟨by show rnL _ y.cells = []; rw [c1]; rfl, c2⟩
      · refine .inr ⟨c1, cs, k1, k2, ⟨?_, fun j x v e1 e2 => ?_⟩, by show (rnL _ y.cells).all AV.one = true; rw [rnL_one]; exact k4, k5, k6⟩
        · show (rnL _ y.cells).length = ((cs.toList.drop (G.mu (oldNo m sel o)).2).take (rnL _ y.cells).length).length
          rw [rnL_map, List.length_map]; exact k3.1
        · have e1' : (rnL (newNo m sel) y.cells)[j]? = some x := e1
          have e2' : ((cs.toList.drop (G.mu (oldNo m sel o)).2).take (rnL (newNo m sel) y.cells).length)[j]? = some v := e2
          rw [rnL_map, List.getElem?_map] at e1'
          rw [rnL_map, List.length_map] at e2'
          obtain ⟨z, hz, rfl⟩ := Option.map_eq_some_iff.1 e1'
          rw [idL_all, List.all_eq_true] at hid
          exact ra (k3.2 j z v hz e2') (hid z (List.mem_iff_getElem?.2 ⟨j, hz⟩))
    · obtain ⟨p0, p1, y, hy, _⟩ := selH_at hm e
      obtain ⟨q0, q1, y', hy', _⟩ := selH_at hm e'
      refine hi.inj _ _ _ _ hy hy' (fun heq => hne ?_) z z'
      have at' : ∀ {o}, ¬ o < m → o < m + sel.length → sel[o - m]? = some (oldNo m sel o) := fun {o} h1 h2 => by
        unfold oldNo
        rw [if_neg h1, List.getD_eq_getElem?_getD, List.getElem?_eq_getElem (by omega)]; rfl
      by_cases a1 : o < m <;> by_cases a2 : o' < m
      · rw [low a1, low a2] at heq; exact heq
      · rw [low a1] at heq
        have := hge _ (List.mem_iff_getElem?.2 ⟨_, at' a2 q1⟩)
        omega
      · rw [low a2] at heq
        have := hge _ (List.mem_iff_getElem?.2 ⟨_, at' a1 p1⟩)
        omega
      · have e1 := at' a1 p1
        have e2 := at' a2 q1
        rw [heq] at e1
        have := (List.getElem?_inj (by omega) hs1).1 (e1.trans e2.symm)
        omega
theorem Leads.dead {m : Nat} {s : AS} {S : AS → Prop} (ds : List Nat) (h : ∀ d : Nat → Value, S ⟨deadS s.fr (fun i => lt (d i)) ds, s.H⟩) : Leads m s S := fun G a w hm hr => by
  refine ⟨G, ⟨deadS s.fr (fun i => lt (a.tmps.toList.getD i undef)) ds, s.H⟩, Gh.leb.refl _ _, hm, ⟨hr.defers, ?_, hr.inv⟩, h fun i => a.tmps.toList.getD i undef⟩
  refine ⟨by rw [deadS_len]; exact hr.fr.1, fun i x v e1 e2 => ?_⟩
  have hi : i < s.fr.length := by rw [hr.fr.1]; exact (List.getElem?_eq_some_iff.1 e2).1
  rw [deadS_at hi] at e1
  split at e1
  · cases e1
    rw [List.getD_eq_getElem?_getD, e2]
    exact .iv _ _ (.lit _)
  · exact hr.fr.2 i x v e1 e2
theorem Leads.nil {m : Nat} {s : AS} {S : AS → Prop} (i : Nat) (t sz : Nat) (hi : s.fr[i]? = some (lt (.slice none 0 0))) (h : S ⟨s.fr.set i (.osl s.H.length 0 0 sz), s.H ++ [some ⟨t, []⟩]⟩) : Leads m s S := fun G a w hm hr => by
  have hd : ¬ G.dom s.H.length := hr.inv.new
  have hle := Gh.more_le G (m := s.H.length) (n := s.H.length) (Nat.le_refl _) hd (0, 0) 0
  refine ⟨G.more s.H.length (0, 0) 0, _, hle.leb hm, by simp; omega, ⟨hr.defers, ?_, ?_⟩, h⟩
  · have hv : ∃ v, a.tmps.toList[i]? = some v ∧ RA s.H.length G (lt (.slice none 0 0)) v := hr.fr.at hi
    obtain ⟨v, hv, hx⟩ := hv
    have := hx.lit_inv; subst this
    have hset : a.tmps.toList = a.tmps.toList.set i (.slice none 0 0) := by
      apply List.ext_getElem?
      intro j
      by_cases hj : i = j
      · subst hj; rw [List.getElem?_set_self (List.getElem?_eq_some_iff.1 hv).1, hv]
      · rw [List.getElem?_set_ne hj]
    rw [hset]
    refine (hr.fr.mono hle (by simp)).set i (.onil _ 0 sz (.inl rfl))
  · have hi0 := hr.inv
    have old : ∀ {o x}, (s.H ++ [some (AObj.mk t [])])[o]? = some (some x) → (o = s.H.length ∧ x = ⟨t, []⟩) ∨ (o < s.H.length ∧ s.H[o]? = some (some x)) := fun {o x} e => by
      rcases Nat.lt_or_ge o s.H.length with h1 | h1
      · rw [List.getElem?_append_left h1] at e; exact .inr ⟨h1, e⟩
      · rw [List.getElem?_append_right h1] at e
        have h2 := (List.getElem?_eq_some_iff.1 e).1
        simp at h2
        have h3 : o = s.H.length := by omega
        subst h3; simp at e; exact .inl ⟨rfl, e.symm⟩
    have mu' : ∀ {o}, o < s.H.length → (G.more s.H.length (0, 0) 0).mu o = G.mu o ∧ (G.more s.H.length (0, 0) 0).sz o = G.sz o := fun {o} ho => ⟨if_neg (by omega), if_neg (by omega)⟩
    refine ⟨hi0.os, hi0.tape, hi0.output, hi0.fz, hi0.kp, fun o ho => ?_, fun o x e => ?_, fun o x e => ?_, fun o o' x x' e e' hne z z' => ?_⟩
    · rcases ho with rfl | ho
      · simp
      · have := hi0.dom o ho; simp; omega
    · rcases old e with ⟨rfl, _⟩ | ⟨_, e⟩
      · exact .inl rfl
      · exact .inr (hi0.live o x e)
    · rcases old e with ⟨rfl, rfl⟩ | ⟨h1, e⟩
      · exact .inl ⟨rfl, if_pos rfl⟩
      · obtain ⟨m1, m2⟩ := mu' h1
        rcases hi0.obj o x e with ⟨c1, c2⟩ | ⟨c1, cs, k1, k2, k3, k4, k5, k6⟩
        · exact .inl ⟨c1, m2.trans c2⟩
        · exact .inr ⟨by rw [m2]; exact c1, cs, by rw [m1]; exact k1, by rw [m2]; exact k2, by rw [m1]; exact k3.mono hle (by simp), k4, by rw [m1]; exact k5, by rw [m1]; exact k6⟩
    · rcases old e with ⟨rfl, rfl⟩ | ⟨h1, e⟩
      · exact absurd (if_pos rfl) z
      · rcases old e' with ⟨rfl, rfl⟩ | ⟨h2, e'⟩
        · exact absurd (if_pos rfl) z'
        · rw [(mu' h1).1, (mu' h2).1]
          exact hi0.inj o o' x x' e e' hne (by rw [← (mu' h1).2]; exact z) (by rw [← (mu' h2).2]; exact z')
end Go.Proofs.YtdaenbgjafalcaaDoor
namespace Go.Proofs.YtdaenbgjafalcaaDoor
open Go.RowKit
open Go.Maps (Keyed)
def litOf : Value → DataW Unit
  | .int k a => .lit (.int k a)
  | _ => .nil
def isNum : Value → Bool
  | .int k a => (Lit.int k a).wf
  | _ => false
def mapR : Value → Option (DataW Unit × List MemPlace)
  | .int k a => if (Lit.int k a).wf = true then some (.lit (.int k a), []) else none
  | .agg cs => if cs.toList.all isNum = true then some (.agg (cs.toList.map litOf), []) else none
  | _ => none
theorem litOf_inj {v v' : Value} (h : isNum v = true) (h' : isNum v' = true) (e : litOf v = litOf v') : v = v' := by
  cases v <;> simp [isNum] at h
  cases v' <;> simp [isNum] at h'
  simp [litOf] at e
  obtain ⟨rfl, rfl⟩ := e; rfl
theorem litOf_list : ∀ {l l' : List Value}, l.all isNum = true → l'.all isNum = true → l.map litOf = l'.map litOf → l = l'
  | [], [], _, _, _ => rfl
  | [], _ :: _, _, _, e => by simp at e
  | _ :: _, [], _, _, e => by simp at e
  | v :: l, v' :: l', h, h', e => by
    simp only [List.all_cons, Bool.and_eq_true] at h h'
    simp only [List.map_cons, List.cons.injEq] at e
    rw [litOf_inj h.1 h'.1 e.1, litOf_list h.2 h'.2 e.2]
theorem mapR_inj {v v' : Value} {d : DataW Unit} {ps ps' : List MemPlace} (h : mapR v = some (d, ps)) (h' : mapR v' = some (d, ps')) : v = v' := by
  unfold mapR at h h'
  cases v <;> simp at h <;> cases v' <;> simp at h'
  · obtain ⟨_, h1, _⟩ := h
    obtain ⟨_, h2, _⟩ := h'
    rw [← h1] at h2; simp at h2; obtain ⟨rfl, rfl⟩ := h2; rfl
  · obtain ⟨_, h1, _⟩ := h
    obtain ⟨_, h2, _⟩ := h'
    rw [← h1] at h2; cases h2
  · obtain ⟨_, h1, _⟩ := h
    obtain ⟨_, h2, _⟩ := h'
    rw [← h1] at h2; cases h2
  · rename_i cs cs'
    obtain ⟨g1, h1, _⟩ := h
    obtain ⟨g2, h2, _⟩ := h'
    rw [← h1] at h2
    simp only [DataW.agg.injEq] at h2
    have := litOf_list (l := cs.toList) (l' := cs'.toList) (by rw [List.all_eq_true]; intro x hx; obtain ⟨i, hi, e⟩ := List.mem_iff_getElem.1 hx; rw [← e]; simpa using g1 i (by simpa using hi)) (by rw [List.all_eq_true]; intro x hx; obtain ⟨i, hi, e⟩ := List.mem_iff_getElem.1 hx; rw [← e]; simpa using g2 i (by simpa using hi)) h2.symm
    rw [Value.agg.injEq]; exact Array.ext' this
theorem wf_int {a : Int} (h1 : -9223372036854775808 ≤ a) (h2 : a ≤ 9223372036854775807) : (Lit.int .i64 a).wf = true := by
  have e1 : IntKind.i64.min = -9223372036854775808 := by decide
  have e2 : IntKind.i64.max = 9223372036854775807 := by decide
  simp [Lit.wf, e1, e2, h1, h2]
theorem law_int : Keyed Tryd.prog 3 := Maps.int_keyed Tryd.underlying3
theorem key_int {a : Int} (h1 : -9223372036854775808 ≤ a) (h2 : a ≤ 9223372036854775807) : keyOf Tryd.prog 3 (.int .i64 a) = some (.int .i64 a) := Maps.keyOf_int_mk Tryd.underlying3 (wf_int h1 h2)
def IMap (w : World) (b n : Nat) (F : Int → Option Value) : Prop := ∃ D : DataW Unit, w.ownsMap Tryd.prog 3 mapR b n D ∧
  (∀ k v, F k = some v → ∃ ps, ∀ zd, mapR v = some (D.atKey (.int .i64 k) zd, ps)) ∧ (∀ k, Maps.has D (.int .i64 k) = (F k).isSome) ∧
  ∃ ks : List Int, ks.Nodup ∧ (∀ k, k ∈ ks ↔ (F k).isSome = true) ∧ Maps.size D = ks.length
theorem IMap.lt {w : World} {b n : Nat} {F : Int → Option Value} (h : IMap w b n F) : b < w.heap.size := by
  obtain ⟨D, h1, _⟩ := h; exact h1.lt
theorem IMap.block {w w' : World} {b n : Nat} {F : Int → Option Value} (h : IMap w b n F) (hb : w'.heap[b]? = w.heap[b]?) : IMap w' b n F := by
  obtain ⟨D, ⟨es, clock, h1, h2, h3, h4⟩, r⟩ := h
  exact ⟨D, ⟨es, clock, hb.trans h1, h2, h3, h4⟩, r⟩
theorem IMap.later {w w' : World} {b n : Nat} {F : Int → Option Value} (h : IMap w b n F) (hb : Below w.heap.size w w') : IMap w' b n F := h.block (hb.block b h.lt)
theorem IMap.grown {w w' : World} {b n : Nat} {F : Int → Option Value} {r : Option Nat} (h : IMap w b n F) (hg : w.grownBy w' r) (hr : r ≠ some b) : IMap w' b n F := h.block (hg.block b h.lt (fun e => hr e.symm))
theorem IMap.set {w : World} {b n : Nat} {F : Int → Option Value} (h : IMap w b n F) {a : Addr} (ha : b ≠ a.block) (u : Value) : IMap (w.setCell a u) b n F := h.block (Below.heap_setCell w a u b ha)
theorem IMap.drew {w : World} {b n : Nat} {F : Int → Option Value} (h : IMap w b n F) : IMap w.drew b n F := h
theorem IMap.mono {w : World} {b n m : Nat} {F : Int → Option Value} (h : IMap w b n F) (hn : n ≤ m) : IMap w b m F := by
  obtain ⟨D, h1, r⟩ := h
  exact ⟨D, h1.mono hn, r⟩
theorem IMap.made (w : World) : IMap (w.alloc (.map #[] 0)) w.heap.size 0 (fun _ => none) :=
  ⟨.map [], World.ownsMap_made w _ _ _, (fun k v h => by cases h), fun k => rfl, [], List.nodup_nil, fun k => by simp, rfl⟩
theorem isKey_int {a : Int} (_h1 : -9223372036854775808 ≤ a) (_h2 : a ≤ 9223372036854775807) : WideAt.IsKeyLit (.int .i64 a) := trivial
def upd (F : Int → Option Value) (k : Int) (v : Value) : Int → Option Value := fun j => if j = k then some v else F j
def del (F : Int → Option Value) (k : Int) : Int → Option Value := fun j => if j = k then none else F j
theorem upd_same (F : Int → Option Value) (k : Int) (v : Value) : upd F k v k = some v := by unfold upd; rw [if_pos rfl]
theorem upd_other (F : Int → Option Value) {j k : Int} (h : j ≠ k) (v : Value) : upd F k v j = F j := by unfold upd; rw [if_neg h]
theorem IMap.store {w : World} {b n : Nat} {F : Int → Option Value} (hown : IMap w b n F) (t : TypeId) (e : TypeId) (ht : Tryd.prog.underlying t = some (.map 3 e)) (hn : n < maxLen)
    {k : Int} (k1 : -9223372036854775808 ≤ k) (k2 : k ≤ 9223372036854775807) {u : Value} (hu : (mapR u).isSome = true) :
    ∃ w', (Instr.mapUpdate t (.map (some b)) (.int .i64 k) u).run Tryd.prog w = .ok () w' ∧ IMap w' b (n + 1) (upd F k u) ∧ w.grownBy w' (some b) := by
  obtain ⟨D, hD, hR, hH, ks, hk1, hk2, hk3⟩ := hown
  obtain ⟨⟨d, ps⟩, hud⟩ := Option.isSome_iff_exists.1 hu
  have hT := hD.tidy law_int
  have hM := hD.isMap
  obtain ⟨w', hrun, h1, h2⟩ := hD.update law_int ht hn (key_int k1 k2) hud
  refine ⟨w', hrun, ⟨_, h1, ?_, ?_, ?_⟩, h2⟩
  · intro j y hj
    by_cases hjk : j = k
    · subst hjk
      rw [upd_same] at hj; cases hj
      exact ⟨ps, fun zd => by rw [Maps.atKey_put_same hM (isKey_int k1 k2)]; exact hud⟩
    · rw [upd_other _ hjk] at hj
      obtain ⟨ps', h3⟩ := hR j y hj
      exact ⟨ps', fun zd => by rw [Maps.atKey_put_other (by simpa using hjk)]; exact h3 zd⟩
  · intro j
    by_cases hjk : j = k
    · subst hjk; rw [upd_same, Maps.has_put_same hM (isKey_int k1 k2)]; rfl
    · rw [upd_other _ hjk, Maps.has_put_other (by simpa using hjk)]; exact hH j
  · by_cases hks : k ∈ ks
    · refine ⟨ks, hk1, fun j => ?_, ?_⟩
      · by_cases hjk : j = k
        · subst hjk; simp [upd_same, hks]
        · rw [upd_other _ hjk]; exact hk2 j
      · rw [Maps.size_put hT, hH k, if_pos ((hk2 k).1 hks), hk3]
    · refine ⟨k :: ks, List.nodup_cons.2 ⟨hks, hk1⟩, fun j => ?_, ?_⟩
      · by_cases hjk : j = k
        · subst hjk; simp [upd_same]
        · rw [upd_other _ hjk, List.mem_cons, hk2 j]; simp [hjk]
      · rw [Maps.size_put hT, hH k, if_neg (fun h => hks ((hk2 k).2 h)), hk3]; rfl
end Go.Proofs.YtdaenbgjafalcaaDoor
