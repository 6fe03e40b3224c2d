import Derived.Test.YtcanlckenjndbaaMgAS
namespace Go.Proofs.Ytcanlckenjndbaa
set_option linter.unusedVariables false
mutual
theorem rn_id : ∀ x : AV, x.rn (fun o => o) = x
  | .iv x => rfl
  | .agg xs => by unfold AV.rn; rw [rnL_id xs]
  | .tup xs => by unfold AV.rn; rw [rnL_id xs]
  | .osl o off len sz => rfl
  | .optr o off => rfl
  | .fn f first caps => by unfold AV.rn; rw [rnL_id first, rnL_id caps]
theorem rnL_id : ∀ xs : List AV, rnL (fun o => o) xs = xs
  | [] => rfl
  | x :: xs => by unfold rnL; rw [rn_id x, rnL_id xs]
end
mutual
theorem idB_true : ∀ x : AV, x.idB (fun _ => true) = true
  | .iv x => rfl
  | .agg xs => by unfold AV.idB; exact idL_true xs
  | .tup xs => by unfold AV.idB; exact idL_true xs
  | .osl o off len sz => rfl
  | .optr o off => rfl
  | .fn f first caps => by unfold AV.idB; rw [idL_true first, idL_true caps]; rfl
theorem idL_true : ∀ xs : List AV, idL (fun _ => true) xs = true
  | [] => rfl
  | x :: xs => by unfold idL; rw [idB_true x, idL_true xs]; rfl
end
def shN (n k o : Nat) : Nat := if o < n then o else o + k
def frH (n : Nat) (X H1 : AHeap) : AHeap := (H1.take n).map (Option.map (AObj.rn (shN n X.length))) ++ X ++ (H1.drop n).map (Option.map (AObj.rn (shN n X.length)))
theorem frH_at {n : Nat} {X H1 : AHeap} (hn : n ≤ H1.length) {o : Nat} {x : AObj} (h : (frH n X H1)[o]? = some (some x)) : (∃ q y, o = shN n X.length q ∧ q < H1.length ∧ H1[q]? = some (some y) ∧ x = y.rn (shN n X.length)) ∨ (∃ j, o = n + j ∧ j < X.length ∧ X[j]? = some (some x)) := by
  have hl : ((H1.take n).map (Option.map (AObj.rn (shN n X.length)))).length = n := by simp [Nat.min_eq_left hn]
  unfold frH at h
  by_cases h1 : o < n
  · rw [List.append_assoc, List.getElem?_append_left (by rw [hl]; exact h1), List.getElem?_map, List.getElem?_take_of_lt h1] at h
    obtain ⟨z, hz, hz2⟩ := Option.map_eq_some_iff.1 h
    obtain ⟨y, rfl, rfl⟩ := Option.map_eq_some_iff.1 hz2
    exact .inl ⟨o, y, by unfold shN; rw [if_pos h1], by omega, hz, rfl⟩
  · rw [List.append_assoc, List.getElem?_append_right (by rw [hl]; omega), hl] at h
    by_cases h2 : o - n < X.length
    · rw [List.getElem?_append_left h2] at h
      exact .inr ⟨o - n, by omega, h2, h⟩
    · rw [List.getElem?_append_right (by omega), List.getElem?_map, List.getElem?_drop] at h
      obtain ⟨z, hz, hz2⟩ := Option.map_eq_some_iff.1 h
      obtain ⟨y, rfl, rfl⟩ := Option.map_eq_some_iff.1 hz2
      have := (List.getElem?_eq_some_iff.1 hz).1
      exact .inl ⟨n + (o - n - X.length), y, by unfold shN; rw [if_neg (by omega)]; omega, this, hz, rfl⟩
theorem frH_len {n : Nat} {X H1 : AHeap} (hn : n ≤ H1.length) : (frH n X H1).length = H1.length + X.length := by unfold frH; simp; omega
variable {P : Program}
open Classical in
theorem SF.frame {f : FuncId} {args : List AV} {H : AHeap} {Q : AV → AHeap → Prop} (X : AHeap) (hargs : idL (fun o => decide (o < H.length)) args = true) (hH : okH (fun o => decide (o < H.length)) H = true) (h : SF P f args H Q) : SF P f args (H ++ X) (fun r H' => ∃ r1 H1, H.length ≤ H1.length ∧ Q r1 H1 ∧ r = r1.rn (shN H.length X.length) ∧ H' = frH H.length X H1) := by
  refine ⟨h.callable, fun G w vs hi hr => ?_⟩
  have hXl : (H ++ X).length = H.length + X.length := List.length_append
  have atX : ∀ {j : Nat} {x : AObj}, X[j]? = some (some x) → (H ++ X)[H.length + j]? = some (some x) := fun {j x} e => by
    rw [List.getElem?_append_right (by omega), Nat.add_sub_cancel_left]; exact e
  have atH' : ∀ {o : Nat} {x : AObj}, H[o]? = some (some x) → (H ++ X)[o]? = some (some x) := fun {o x} e => by
    rw [List.getElem?_append_left (List.getElem?_eq_some_iff.1 e).1]; exact e
  let bX : Nat → Prop := fun b => ∃ j x, X[j]? = some (some x) ∧ G.sz (H.length + j) ≠ 0 ∧ (G.mu (H.length + j)).1 = b
  let G1 : Gh := { G with kp := fun b => if bX b then w.heap[b]? else G.kp b, dom := fun o => o < H.length ∧ G.dom o }
  have kp1 : ∀ {b : Nat} {x : Obj}, G.kp b = some x → G1.kp b = some x := fun {b x} e => by
    show (if bX b then w.heap[b]? else G.kp b) = some x
    split
    · exact hi.kp b x e
    · exact e
  have kpX : ∀ {j : Nat} {x : AObj}, X[j]? = some (some x) → G.sz (H.length + j) ≠ 0 → ∃ z, w.heap[(G.mu (H.length + j)).1]? = some z ∧ G1.kp (G.mu (H.length + j)).1 = some z := fun {j x} e hs => by
    obtain ⟨_, cs, k1, _⟩ := (hi.obj _ x (atX e)).resolve_left fun q => hs q.2
    refine ⟨_, k1, ?_⟩
    show (if bX (G.mu (H.length + j)).1 then w.heap[(G.mu (H.length + j)).1]? else _) = _
    rw [if_pos ⟨j, x, e, hs, rfl⟩]; exact k1
  have ra1 : ∀ {x : AV} {v : Value}, RA (H ++ X).length G x v → x.idB (fun o => decide (o < H.length)) = true → RA H.length G1 x v := fun {x v} hx hid => by
    have := RA.rn (n' := H.length) (G' := G1) (r := fun o => o) (p := fun o => decide (o < H.length)) (fun o ho hd => ⟨by simpa using ho, hd⟩) (fun _ _ => rfl) (fun _ _ => rfl) (fun _ _ e => e) hx hid
    rw [rn_id] at this; exact this
  have hi1 : Inv G1 H w := by
    refine ⟨hi.os, hi.tape, hi.output, hi.fz, fun b x e => ?_, fun o ho => ho.1, fun o x e => ⟨(List.getElem?_eq_some_iff.1 e).1, hi.live o x (atH' e)⟩, fun o x e => ?_, fun o o' x x' e e' hne z z' => hi.inj o o' x x' (atH' e) (atH' e') hne z z'⟩
    · have e' : (if bX b then w.heap[b]? else G.kp b) = some x := e
      split at e'
      · exact e'
      · exact hi.kp b x e'
    · refine (hi.obj o x (atH' e)).imp id fun ⟨c1, cs, k1, k2, k3, k4, k5, k6⟩ => ⟨c1, cs, k1, k2, ⟨k3.1, fun i y u e1 e2 => ra1 (k3.2 i y u e1 e2) ?_⟩, k4, k5, ?_⟩
      · have := okH_at hH e
        rw [idL_all, List.all_eq_true] at this
        exact this y (List.mem_iff_getElem?.2 ⟨i, e1⟩)
      · show (if bX (G.mu o).1 then w.heap[(G.mu o).1]? else G.kp (G.mu o).1) = none
        rw [if_neg]
        · exact k6
        · rintro ⟨j, x', e', hs, hb⟩
          exact hi.inj _ _ _ _ (atX e') (atH' e) (by have := (List.getElem?_eq_some_iff.1 e).1; omega) hs c1 hb
  have hr1 : RL H.length G1 args vs := ⟨hr.1, fun i x v e e' => ra1 (hr.2 i x v e e') (by
    rw [idL_all, List.all_eq_true] at hargs
    exact hargs x (List.mem_iff_getElem?.2 ⟨i, e⟩))⟩
  refine (h.calls G1 w vs hi1 hr1).mono fun e w' ⟨v, r1, G1', H1, e1, hle, hln, hi', hx, hq⟩ => ?_
  let G' : Gh := { G1' with dom := fun o => if o < H.length then G1'.dom o else if o < H.length + X.length then G.dom o else G1'.dom (o - X.length), mu := fun o => if o < H.length then G1'.mu o else if o < H.length + X.length then G.mu o else G1'.mu (o - X.length), sz := fun o => if o < H.length then G1'.sz o else if o < H.length + X.length then G.sz o else G1'.sz (o - X.length), kp := G.kp }
  have dN : ∀ q, G'.dom (shN H.length X.length q) ↔ G1'.dom q := fun q => by
    show (if _ then _ else _) ↔ _
    unfold shN
    by_cases hq : q < H.length
    · rw [if_pos hq, if_pos hq]
    · rw [if_neg hq, if_neg (by omega), if_neg (by omega), Nat.add_sub_cancel]
  have mN : ∀ q, G'.mu (shN H.length X.length q) = G1'.mu q := fun q => by
    show (if _ then _ else _) = _
    unfold shN
    by_cases hq : q < H.length
    · rw [if_pos hq, if_pos hq]
    · rw [if_neg hq, if_neg (by omega), if_neg (by omega), Nat.add_sub_cancel]
  have sN : ∀ q, G'.sz (shN H.length X.length q) = G1'.sz q := fun q => by
    show (if _ then _ else _) = _
    unfold shN
    by_cases hq : q < H.length
    · rw [if_pos hq, if_pos hq]
    · rw [if_neg hq, if_neg (by omega), if_neg (by omega), Nat.add_sub_cancel]
  have dX : ∀ j, j < X.length → (G'.dom (H.length + j) ↔ G.dom (H.length + j)) := fun j hj => by
    show (if _ then _ else _) ↔ _
    rw [if_neg (by omega), if_pos (by omega)]
  have mX : ∀ j, j < X.length → G'.mu (H.length + j) = G.mu (H.length + j) := fun j hj => by
    show (if _ then _ else _) = _
    rw [if_neg (by omega), if_pos (by omega)]
  have sX : ∀ j, j < X.length → G'.sz (H.length + j) = G.sz (H.length + j) := fun j hj => by
    show (if _ then _ else _) = _
    rw [if_neg (by omega), if_pos (by omega)]
  have low : ∀ o, o < H.length → shN H.length X.length o = o := fun o ho => if_pos ho
  have hleG : Gh.le (H ++ X).length G G' := by
    refine ⟨fun o ho => ?_, fun o ho => ?_, fun o ho => ?_, fun o ho hd => ?_, hle.fz, fun b x e => e, fun b x y e f => hle.new b x y (kp1 e) f, hle.os, hle.tape, hle.output⟩
    · have hol := hi.dom o ho; rw [hXl] at hol
      by_cases h1 : o < H.length
      · have := mN o; rw [low o h1] at this; rw [this]; exact hle.mu o ⟨h1, ho⟩
      · have := mX (o - H.length) (by omega); rw [show H.length + (o - H.length) = o by omega] at this; exact this
    · have hol := hi.dom o ho; rw [hXl] at hol
      by_cases h1 : o < H.length
      · have := sN o; rw [low o h1] at this; rw [this]; exact hle.sz o ⟨h1, ho⟩
      · have := sX (o - H.length) (by omega); rw [show H.length + (o - H.length) = o by omega] at this; exact this
    · have hol := hi.dom o ho; rw [hXl] at hol
      by_cases h1 : o < H.length
      · have := dN o; rw [low o h1] at this; exact this.2 (hle.dom o ⟨h1, ho⟩)
      · have := dX (o - H.length) (by omega); rw [show H.length + (o - H.length) = o by omega] at this; exact this.2 ho
    · rw [hXl] at ho
      by_cases h1 : o < H.length
      · have := dN o; rw [low o h1] at this; exact (hle.back o h1 (this.1 hd)).2
      · have := dX (o - H.length) (by omega); rw [show H.length + (o - H.length) = o by omega] at this; exact this.1 hd
  have hold : ∀ {b : Nat} {x : Obj}, G1.kp b = some x → w'.heap[b]? = some x := fun {b x} e => hi'.kp b x (hle.kp b x e)
  have ra2 : ∀ {x : AV} {u : Value} {m : Nat}, RA H1.length G1' x u → RA m G' (x.rn (shN H.length X.length)) u := fun {x u m} hx =>
    RA.rn (G' := G') (r := shN H.length X.length) (p := fun _ => true) (fun o _ hd => (dN o).2 hd) (fun o _ => mN o) (fun o _ => sN o) (fun _ _ e => e) hx (idB_true x)
  have hfl := frH_len (X := X) hln
  refine ⟨v, r1.rn (shN H.length X.length), G', frH H.length X H1, e1, hleG, by rw [hfl, hXl]; omega, ⟨hi'.os, hi'.tape, hi'.output, hi'.fz, fun b x e => hold (kp1 e), fun o ho => ?_, fun o x e => ?_, fun o x e => ?_, fun o o' x x' e e' hne z z' => ?_⟩, ra2 hx, r1, H1, hln, hq, rfl, rfl⟩
  · rw [hfl]
    have ho' : if o < H.length then G1'.dom o else if o < H.length + X.length then G.dom o else G1'.dom (o - X.length) := ho
    by_cases h1 : o < H.length
    · omega
    · rw [if_neg h1] at ho'
      by_cases h2 : o < H.length + X.length
      · omega
      · rw [if_neg h2] at ho'
        have := hi'.dom _ ho'; omega
  · rcases frH_at hln e with ⟨q, y, rfl, _, e2, rfl⟩ | ⟨j, rfl, hj, e2⟩
    · exact (dN q).2 (hi'.live q y e2)
    · exact (dX j hj).2 (hi.live _ x (atX e2))
  · rcases frH_at hln e with ⟨q, y, rfl, _, e2, rfl⟩ | ⟨j, rfl, hj, e2⟩
    · rw [sN]
      refine (hi'.obj q y e2).imp (fun k => ⟨by show rnL _ y.cells = []; rw [k.1]; rfl, k.2⟩) fun ⟨c1, cs, k1, k2, k3, k4, k5, k6⟩ => ⟨c1, cs, ?_⟩
      rw [mN, sN]
      refine ⟨k1, k2, ⟨?_, fun i z u f1 f2 => ?_⟩, by show (rnL _ y.cells).all AV.one = true; rw [rnL_one]; exact k4, k5, ?_⟩
      · show (rnL _ y.cells).length = ((cs.toList.drop _).take (rnL _ y.cells).length).length
        rw [rnL_map, List.length_map]; exact k3.1
      · have f1' : (rnL (shN H.length X.length) y.cells)[i]? = some z := f1
        have f2' : ((cs.toList.drop (G1'.mu q).2).take (rnL (shN H.length X.length) y.cells).length)[i]? = some u := f2
        rw [rnL_map, List.getElem?_map] at f1'
        rw [rnL_map, List.length_map] at f2'
        obtain ⟨z', hz', rfl⟩ := Option.map_eq_some_iff.1 f1'
        exact ra2 (k3.2 i z' u hz' f2')
      · cases hc : G.kp (G1'.mu q).1 with
        | none => rfl
        | some z => rw [hle.kp _ _ (kp1 hc)] at k6; cases k6
    · rw [sX j hj]
      refine (hi.obj _ x (atX e2)).imp id fun ⟨c1, cs, k1, k2, k3, k4, k5, k6⟩ => ⟨c1, cs, ?_⟩
      rw [mX j hj, sX j hj]
      obtain ⟨z, hz1, hz2⟩ := kpX e2 c1
      refine ⟨by rw [hold hz2, ← hz1]; exact k1, k2, k3.mono hleG (by rw [hfl, hXl]; omega), k4, ?_, k6⟩
      cases hc : G1'.fz (G.mu (H.length + j)).1 with
      | none => rfl
      | some y =>
        obtain ⟨z', hz'⟩ := hle.new _ _ y hz2 hc
        rw [show G1.fz = G.fz from rfl, k5] at hz'; cases hz'
  · have sep : ∀ {q j : Nat} {y x : AObj}, H1[q]? = some (some y) → X[j]? = some (some x) → G1'.sz q ≠ 0 → G.sz (H.length + j) ≠ 0 → (G1'.mu q).1 ≠ (G.mu (H.length + j)).1 := fun {q j y x} a1 a2 a3 a4 heq => by
      obtain ⟨_, cs, k1, k2, k3, k4, k5, k6⟩ := (hi'.obj q y a1).resolve_left fun h => a3 h.2
      obtain ⟨z, _, hz2⟩ := kpX a2 a4
      rw [heq, hle.kp _ _ hz2] at k6; cases k6
    rcases frH_at hln e with ⟨q, y, rfl, _, e2, rfl⟩ | ⟨j, rfl, hj, e2⟩ <;> rcases frH_at hln e' with ⟨q', y', rfl, _, e2', rfl⟩ | ⟨j', rfl, hj', e2'⟩
    · rw [sN] at z z'; rw [mN, mN]
      exact hi'.inj q q' y y' e2 e2' (fun h => hne (by rw [h])) z z'
    · rw [sN] at z; rw [sX _ hj'] at z'; rw [mN, mX _ hj']
      exact sep e2 e2' z z'
    · rw [sN] at z'; rw [sX _ hj] at z; rw [mN, mX _ hj]
      exact fun h => sep e2' e2 z' z h.symm
    · rw [sX _ hj] at z; rw [sX _ hj'] at z'; rw [mX _ hj, mX _ hj']
      exact hi.inj _ _ _ _ (atX e2) (atX e2') (by omega) z z'
end Go.Proofs.Ytcanlckenjndbaa
namespace Go.Proofs.Ytcanlckenjndbaa
variable {P : Program} {m : Nat} {Q : Exit → XS → Prop}
theorem Inv.recell {G : Gh} {H : AHeap} {w : World} (h : Inv G H w) {o : Nat} {x : AObj} (ho : H[o]? = some (some x)) (hne : x.cells ≠ []) (xs : List AV) (hl : xs.length = x.cells.length) (h1 : xs.all AV.one = true) (hx : ∀ vs, RL H.length G x.cells vs → RL H.length G xs vs) : Inv G (H.set o (some ⟨x.t, xs⟩)) w := by
  have holt : o < H.length := (List.getElem?_eq_some_iff.1 ho).1
  have hlen : (H.set o (some ⟨x.t, xs⟩)).length = H.length := List.length_set
  have back : ∀ q z, (H.set o (some ⟨x.t, xs⟩))[q]? = some (some z) → ∃ z', H[q]? = some (some z') := fun q z hq => by
    by_cases hq2 : q = o
    · subst hq2; exact ⟨x, ho⟩
    · rw [List.getElem?_set_ne (Ne.symm hq2)] at hq; exact ⟨z, hq⟩
  refine ⟨h.os, h.tape, h.output, h.fz, h.kp, fun q hq => by rw [hlen]; exact h.dom q hq, fun q z e => by obtain ⟨z', hz'⟩ := back q z e; exact h.live q z' hz', fun o' y e => ?_, fun o1 o2 y y' e e' hne' => by
    obtain ⟨z, hz⟩ := back o1 y e
    obtain ⟨z', hz'⟩ := back o2 y' e'
    exact h.inj o1 o2 z z' hz hz' hne'⟩
  rw [hlen]
  by_cases hoo : o' = o
  · subst hoo
    rw [List.getElem?_set_self holt] at e
    simp only [Option.some.injEq] at e; subst e
    obtain ⟨k0, cs, k1, k2, k3, k4, k5, k6⟩ := h.real ho hne
    exact .inr ⟨k0, cs, k1, k2, by rw [hl]; exact hx _ k3, h1, k5, k6⟩
  · rw [List.getElem?_set_ne (Ne.symm hoo)] at e
    exact h.obj o' y e
end Go.Proofs.Ytcanlckenjndbaa
namespace Go.Proofs.Ytcanlckenjndbaa
variable {P : Program} {m : Nat} {Q : Exit → XS → Prop}
end Go.Proofs.Ytcanlckenjndbaa
