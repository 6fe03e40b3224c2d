import Derived.Test.YtghdacijcnmhlaaDoorMgAZ
import Derived.Test.YtghdacijcnmhlaaDoorMgAY
import Derived.Lib.SlBytesRow
import Derived.Lib.BufferRead
import Derived.Test.YtghdacijcnmhlaaDoorMgAK
import Derived.Test.YtghdacijcnmhlaaDoorMgAL
import Derived.Test.YtghdacijcnmhlaaDoorMgAG
namespace Go.Proofs.YtghdacijcnmhlaaDoor
open Go.RowKit Go.Lib
set_option linter.unusedSimpArgs false
abbrev Tok3 := Int × Int × List UInt8
def tokL (T : List Tok3) : List Value := T.flatMap fun t => [.int .i64 t.1, .int .i64 t.2.1, .string (ba t.2.2)]
def tokC (T : List Tok3) : List AV := (tokL T).map lt
def tok0 : Tok3 := (0, 0, [])
theorem tokL_len (T : List Tok3) : (tokL T).length = T.length * 3 := by
  induction T with
  | nil => rfl
  | cons t T ih => rw [tokL, List.flatMap_cons, List.length_append, ← tokL, ih]; simp; omega
theorem tokC_len (T : List Tok3) : (tokC T).length = T.length * 3 := by rw [tokC, List.length_map, tokL_len]
theorem tokC_take (T : List Tok3) {n : Nat} (h : T.length * 3 ≤ n) : (tokC T).take n = tokC T := List.take_of_length_le (by rw [tokC_len]; exact h)
theorem rnL_tokC (r : Nat → Nat) (T : List Tok3) : rnL r (tokC T) = tokC T := by unfold tokC; rw [rnL_map, List.map_map]; rfl
theorem idL_tokC (p : Nat → Bool) (T : List Tok3) : idL p (tokC T) = true := by unfold tokC; rw [idL_all, List.all_map, List.all_eq_true]; exact fun _ _ => rfl
theorem tokC_one (T : List Tok3) : (tokC T).all AV.one = true := by
  unfold tokC
  rw [List.all_map, List.all_eq_true]
  intro v hv
  unfold tokL at hv
  rw [List.mem_flatMap] at hv
  obtain ⟨t, _, h⟩ := hv
  simp only [List.mem_cons, List.not_mem_nil, or_false] at h
  rcases h with rfl | rfl | rfl <;> rfl
theorem tokC_at {T : List Tok3} : ∀ {k : Nat}, k < T.length → (tokC T)[k * 3]? = some (lt (.int .i64 (T.getD k tok0).1)) ∧ (tokC T)[k * 3 + 1]? = some (lt (.int .i64 (T.getD k tok0).2.1)) ∧ (tokC T)[k * 3 + 2]? = some (lt (.string (ba (T.getD k tok0).2.2))) := by
  induction T with
  | nil => intro k h; simp at h
  | cons t T ih =>
    intro k h
    have e : tokC (t :: T) = [lt (.int .i64 t.1), lt (.int .i64 t.2.1), lt (.string (ba t.2.2))] ++ tokC T := by unfold tokC tokL; rw [List.flatMap_cons, List.map_append]; rfl
    rw [e]
    match k with
    | 0 => exact ⟨rfl, rfl, rfl⟩
    | k + 1 =>
      have hk : k < T.length := by simpa using h
      obtain ⟨i1, i2, i3⟩ := ih hk
      have g : ∀ j, ([lt (.int .i64 t.1), lt (.int .i64 t.2.1), lt (.string (ba t.2.2))] ++ tokC T)[(k + 1) * 3 + j]? = (tokC T)[k * 3 + j]? := fun j => by
        rw [List.getElem?_append_right (by simp; omega)]; congr 1; simp; omega
      exact ⟨(g 0).trans i1, (g 1).trans i2, (g 2).trans i3⟩
def rdAt (T : List Tok3) (z : Int) (k : Nat) : Int := if k < T.length then (T.getD k tok0).2.1 else z
abbrev Rd := Nat × Int × Int
def rdTake (T : List Tok3) (z : Int) (e : List UInt8 → Int) (s : Rd) : Rd :=
  if s.2.1 ≠ 0 then s else if s.1 < T.length then (s.1 + 1, e (T.getD s.1 tok0).2.2, rdAt T z s.1) else (s.1, 4, rdAt T z s.1)
def allT (rs : List (Nat × Nat × List (Nat × List UInt8))) : List Tok3 := rs.flatMap fun r => r.2.2.map fun t => ((r.1 : Int), (r.2.1 : Int) + t.1, t.2)
end Go.Proofs.YtghdacijcnmhlaaDoor
namespace Go.Proofs.YtghdacijcnmhlaaDoor
open Go.RowKit
set_option linter.unusedVariables false
def u8C (l : List UInt8) : List AV := l.map fun b => lt (.int .u8 (b.toNat : Int))
section
variable {P : Program}
theorem bs_run {src dst e : TypeId} (hs : P.underlying src = some (.slice e)) (he : P.underlying e = some (.int .u8)) (hd : P.underlying dst = some .string) {G : Gh} {H : AHeap} {w : World} (hi : Inv G H w) {o n : Nat} {t : TypeId} {l : List UInt8} (ho : H[o]? = some (some ⟨t, u8C l⟩)) (hn : n = l.length) {v : Value} (hv : RA H.length G (.osl o 0 n 1) v) :
    (convert src dst v).run P w = .ok (.string ⟨l.toArray⟩) w := by
  have hsz : (⟨l.toArray⟩ : ByteArray).size = n := by rw [hn]; show l.toArray.size = _; simp
  cases hv with
  | osl _ _ _ _ b a cap h1 h2 h3 h4 h5 h6 =>
    have hB : Lib.Bytes w b a ⟨l.toArray⟩ := fun i hlt => by
      rw [hsz] at hlt
      have hil : i < l.length := by omega
      rcases hi.obj o _ ho with ⟨q, _⟩ | ⟨_, cs, m1, m2, m3, m4, m5, m6⟩
      · have hq : (u8C l).length = 0 := by rw [show u8C l = [] from q]; rfl
        unfold u8C at hq; simp at hq; omega
      · have ea : a = (G.mu o).2 + 0 := h3 (by omega)
        have hc : (u8C l)[i]? = some (lt (.int .u8 (l[i].toNat : Int))) := by unfold u8C; rw [List.getElem?_map, List.getElem?_eq_getElem hil]; rfl
        obtain ⟨u, hu, hr⟩ := m3.cell hc
        have := hr.lit_inv; subst this
        rw [h2] at m1
        rw [cell_of_heap m1, ← Array.getElem?_toList, ea, Nat.add_zero, hu]
        show some (Value.int .u8 (l[i].toNat : Int)) = some (Value.int .u8 ((l.toArray[i]'(by simpa using hil)).toNat : Int))
        rw [List.getElem_toArray]
    have h := Lib.run_convert_whole (P := P) w src e dst hs he hd b a ⟨l.toArray⟩ hB cap
    rw [hsz] at h
    exact h
  | onil _ _ _ h1 =>
    have hl : l = [] := List.length_eq_zero_iff.1 hn.symm
    subst hl
    exact Lib.run_convert_nil_bytes w src dst e _ hs he hd
variable {m : Nat} {Q : Exit → XS → Prop} {fr : List AV} {H : AHeap} {M : MS} {l : List Oper} {d : Option Tmp} {ty : TypeId} {pos : String} {after : Array Edge} {g : Option (Nat × Bool)}
theorem XRes_bs {src dst e : TypeId} {x : Operand} {o n : Nat} {t : TypeId} (bs : List UInt8) (hw : wantedS fr ⟨d, .convert src dst x, ty, pos, after, g⟩ = some true) (hx : AS.ev ⟨fr, H⟩ x = .osl o 0 n 1) (ho : H[o]? = some (some ⟨t, u8C bs⟩)) (hn : n = bs.length)
    (hs : P.underlying src = some (.slice e)) (he : P.underlying e = some (.int .u8)) (hd : P.underlying dst = some .string)
    (k : XRes P m Q (l, ⟨putL fr d (lt (.string ⟨bs.toArray⟩)), H, M⟩)) : XRes P m Q (⟨d, .convert src dst x, ty, pos, after, g⟩ :: l, ⟨fr, H, M⟩) :=
  XRes_gives hw (fun G a w hr => ⟨G, _, w, .inl (by
    have hv := hr.ev x
    rw [hx] at hv
    simp only [execOp]
    rw [Sem.run_bind, bs_run hs he hd hr.inv ho hn hv]
    rfl), Gh.le.refl _ _, Nat.le_refl _, hr.inv, .iv _ _ (.lit _)⟩) k
end
end Go.Proofs.YtghdacijcnmhlaaDoor
namespace Go.Proofs.YtghdacijcnmhlaaDoor
open Go.RowKit
set_option linter.unusedVariables false
set_option linter.unusedSimpArgs false
theorem XRes_allocX {P : Program} {tt : TT} {m : Nat} {Q : Exit → XS → Prop} {fr : List AV} {H : AHeap} {M : MS} {l : List Oper} {d : Option Tmp} {ty : TypeId} {pos : String} {after : Array Edge} {g : Option (Nat × Bool)} (hT : TyOK P tt) {e : TypeId} {r : TyRow} (hw : wantedS fr ⟨d, .alloc e, ty, pos, after, g⟩ = some true) (ht : tt e = some r) (h1 : (r.zero.map lt).all AV.one = true)
    (k : XRes P m Q (l, ⟨putL fr d (.xptr H.length r.zero.length), H ++ [some ⟨e, r.zero.map lt⟩], M⟩)) : XRes P m Q (⟨d, .alloc e, ty, pos, after, g⟩ :: l, ⟨fr, H, M⟩) := by
  obtain ⟨i, td, z, hi, hd, hz, rfl⟩ := hT.row ht
  refine XRes_gives hw (fun G a w hr => ?_) k
  refine ⟨_, .pointer (some ⟨w.heap.size, 0, none⟩), _, .inl ?_, G.more_le (Nat.le_refl _) hr.inv.new _ _, by simp, hr.inv.alloc e (z.cells.toList.map lt) z.cells (by rw [take_self _ (by simp)]; exact RL.lits _ _ _) h1, ?_⟩
  · simp [execOp, Instr.alloc, zero_run hi hz, newVar_run]
  · have := RA.xptr (n := (H ++ [some (AObj.mk e (z.cells.toList.map lt))]).length) (G := G.more H.length (w.heap.size, 0) z.cells.size) H.length z.cells.size (.inl rfl) (by simp [Gh.more]) (by simp [Gh.more])
    simpa [Gh.more] using this
theorem setCell_row {w : World} {b : Nat} {cs : Array Value} {t : TypeId} {fr : Nat × Nat} (h : w.heap[b]? = some (.cells cs t fr)) (v : Value) : w.setCell ⟨b, 0, none⟩ v = w.setRow b (cs.setIfInBounds 0 v) := by
  unfold World.setCell World.setRow
  congr 1
  apply Array.ext_getElem?
  intro i
  rw [Array.getElem?_modify, Array.getElem?_modify]
  by_cases hi : b = i
  · subst hi; simp [h]
  · rw [if_neg hi, if_neg hi]
theorem two_cells {G : Gh} {H : AHeap} {w : World} (hi : Inv G H w) {o : Nat} {t : TypeId} {x y : AV} (ho : H[o]? = some (some ⟨t, [x, y]⟩)) (h2 : (G.mu o).2 = 0) (h3 : G.sz o = 2) : ∃ u v, w.heap[(G.mu o).1]? = some (.cells #[u, v] t (0, 0)) ∧ RA H.length G x u ∧ RA H.length G y v := by
  obtain ⟨hreal, cs, k1, k2, k3, k4, k5, k6⟩ := hi.real ho (by simp)
  rw [h3] at k2
  rw [h2] at k3
  obtain ⟨u, e1, q1⟩ := k3.cell (off := 0) rfl
  obtain ⟨v, e2, q2⟩ := k3.cell (off := 1) rfl
  have hcs : cs = #[u, v] := by
    apply Array.ext_getElem?
    intro i
    rw [← Array.getElem?_toList]
    match i with
    | 0 => rw [e1]; rfl
    | 1 => rw [e2]; rfl
    | i + 2 => rw [List.getElem?_eq_none (by rw [Array.length_toList, k2]; omega)]; simp
  subst hcs
  exact ⟨u, v, k1, q1, q2⟩
theorem set_self {H : AHeap} {o : Nat} {x : Option AObj} (h : H[o]? = some x) : H.set o x = H := by
  obtain ⟨hlt, hget⟩ := List.getElem?_eq_some_iff.1 h
  rw [← hget]; exact List.set_getElem_self hlt
abbrev bT : TypeId := 72
theorem sf_bcopy {H : AHeap} {o : Nat} {p buf : AV} (ho : H[o]? = some (some ⟨bT, [p, buf]⟩)) (hp : p = lt (.pointer none) ∨ p = .xptr o 2) : SF Tryd.prog 56 [.xptr o 2] H fun r H' => r = .tup [] ∧ H' = H.set o (some ⟨bT, [.xptr o 2, buf]⟩) :=
  ⟨⟨_, Tryd.func56, by kernel_rfl, rfl⟩, fun G w vs hi hr => by
    obtain ⟨v1, us, rfl, r1, hr⟩ := hr.uncons
    rw [hr.unnil]
    have r1' := r1
    cases r1 with
    | xptr _ _ d1 d2 d3 =>
    obtain ⟨u, v, k1, q1, q2⟩ := two_cells hi ho d2 d3
    have hreal : G.sz o ≠ 0 := by omega
    have rt : RA H.length G (.tup []) (.tuple #[]) := .tup [] [] rfl (fun i x v h => by simp at h)
    rcases hp with rfl | rfl
    · have := q1.lit_inv; subst this
      refine (show Calls Tryd.prog 56 #[.pointer (some ⟨(G.mu o).1, 0, none⟩)] w _ from bl_fresh (G.mu o).1 w (by rw [Lib.cell_of_heap k1]; rfl) (by simp [World.shape?, k1]) (Lib.frozen_of_heap k1 0)).mono ?_
      rintro e w' ⟨rfl, rfl⟩
      have hrow := hi.row ho hreal [.xptr o 2, buf] #[.pointer (some ⟨(G.mu o).1, 0, none⟩), v] (by rw [d3]; rfl) (by rw [d2]; exact RL.cons r1' (RL.cons q2 (RL.nil _ _))) (by
        obtain ⟨_, cs, _, _, _, k4, _⟩ := (hi.real ho (by simp))
        simp only [List.all_cons, List.all_nil, Bool.and_true, Bool.and_eq_true] at k4 ⊢
        exact ⟨rfl, k4.2⟩)
      rw [setCell_row k1]
      exact ⟨_, _, G, _, rfl, Gh.le.refl _ _, by rw [List.length_set]; exact Nat.le_refl _, hrow, by rw [List.length_set]; exact rt, rfl, rfl⟩
    · cases q1 with
      | xptr _ _ c1 c2 c3 =>
      refine (show Calls Tryd.prog 56 #[.pointer (some ⟨(G.mu o).1, 0, none⟩)] w _ from bl_used (G.mu o).1 w (by rw [Lib.cell_of_heap k1]; rfl)).mono ?_
      rintro e w' ⟨rfl, rfl⟩
      exact ⟨_, _, G, H, rfl, Gh.le.refl _ _, Nat.le_refl _, hi, rt, rfl, (set_self ho).symm⟩⟩
theorem Inv.lost {G : Gh} {H : AHeap} {w w' : World} (h : Inv G H w) {q : Nat} {x : AObj} (hq : H[q]? = some (some x)) (hz : G.sz q ≠ 0) (hg : w.grownBy w' (some (G.mu q).1)) : Inv G (H.set q none) w' := by
  obtain ⟨_, cs, k1, k2, k3, k4, k5, k6⟩ := (h.obj q x hq).resolve_left fun c => hz c.2
  have hne : ∀ b y, G.fz b = some y ∨ G.kp b = some y → b ≠ (G.mu q).1 := fun b y e hb => by
    subst hb
    rcases e with e | e
    · rw [k5] at e; cases e
    · rw [k6] at e; cases e
  have same : ∀ b y, w.heap[b]? = some y → b ≠ (G.mu q).1 → w'.heap[b]? = some y := fun b y e hb => by
    rw [hg.block b (lt_of_heap e) (fun c => by cases c; exact hb rfl)]; exact e
  have back : ∀ o z, (H.set q none)[o]? = some (some z) → o ≠ q ∧ H[o]? = some (some z) := fun o z e => by
    by_cases ho : q = o
    · subst ho
      rw [List.getElem?_set_self (List.getElem?_eq_some_iff.1 hq).1] at e; cases e
    · rw [List.getElem?_set_ne ho] at e; exact ⟨Ne.symm ho, e⟩
  refine ⟨hg.os.trans h.os, hg.tape.trans h.tape, hg.output.trans h.output, fun b y e => same b y (h.fz b y e) (hne b y (.inl e)), fun b y e => same b y (h.kp b y e) (hne b y (.inr e)), fun o ho => by rw [List.length_set]; exact h.dom o ho, fun o z e => h.live o z (back o z e).2, fun o z e => ?_, fun o o' z z' e e' => h.inj o o' z z' (back o z e).2 (back o' z' e').2⟩
  obtain ⟨ho, e⟩ := back o z e
  rw [List.length_set]
  exact (h.obj o z e).imp id fun ⟨m0, cs', m1, m2⟩ => ⟨m0, cs', same _ _ m1 (h.inj o q z x e hq ho m0 hz), m2⟩
theorem u8C_at {l : List UInt8} {j : Nat} {b : UInt8} (h : l[j]? = some b) : (u8C l)[j]? = some (lt (.int .u8 (b.toNat : Int))) := by unfold u8C; rw [List.getElem?_map, h]; rfl
theorem sf_bstr {H : AHeap} {o q : Nat} {p : AV} {l : List UInt8} (ho : H[o]? = some (some ⟨bT, [p, .osl q 0 l.length 1]⟩)) (hq : H[q]? = some (some ⟨5, u8C l⟩)) (hl : l ≠ []) (hl2 : l.length ≤ 9223372036854775807) : SF Tryd.prog 33 [.xptr o 2] H fun r H' => r = lt (.string ⟨l.toArray⟩) ∧ H' = H.set q none :=
  ⟨⟨_, Tryd.func33, by kernel_rfl, rfl⟩, fun G w vs hi hr => by
    obtain ⟨v1, us, rfl, r1, hr⟩ := hr.uncons
    rw [hr.unnil]
    have hl0 : l.length ≠ 0 := by simpa using hl
    have hc0 : u8C l ≠ [] := fun e => by have := congrArg List.length e; unfold u8C at this; simp at this; exact hl this
    cases r1 with
    | xptr _ _ d1 d2 d3 =>
    obtain ⟨u, v, k1, q1, q2⟩ := two_cells hi ho d2 d3
    generalize hn : l.length = n at *
    cases q2 with
    | onil => exact absurd rfl hl0
    | osl _ _ _ _ b a cap h1 h2 h3 h4 h5 h6 =>
    obtain ⟨hreal, cs, m1, m2, m3, m4, m5, m6⟩ := hi.real hq hc0
    have ha : a = (G.mu q).2 := h3 (by omega)
    have h6' := h6 (by omega)
    rw [h2] at m1
    subst hn
    have h := bl_string (G.mu o).1 b a cap u cs l w k1 m1 hl (by omega) (by rw [m2]; omega) hl2 (fun j x hx => by
      obtain ⟨y, hy, hr⟩ := m3.cell (u8C_at hx)
      have := hr.lit_inv; subst this
      rw [cell_of_heap m1, ← Array.getElem?_toList, ha]; exact hy)
    refine (show Calls Tryd.prog 33 #[.pointer (some ⟨(G.mu o).1, 0, none⟩)] w _ from h).mono ?_
    rintro e w' ⟨rfl, hg⟩
    rw [← h2] at hg
    exact ⟨_, _, G, _, rfl, Gh.le.refl _ _, by rw [List.length_set]; exact Nat.le_refl _, hi.lost hq hreal hg, .iv _ _ (.lit _), rfl, rfl⟩⟩
theorem sf_bstr0 {H : AHeap} {o : Nat} {p : AV} (ho : H[o]? = some (some ⟨bT, [p, lt (.slice none 0 0)]⟩)) : SF Tryd.prog 33 [.xptr o 2] H fun r H' => r = lt (.string ⟨#[]⟩) ∧ H' = H :=
  ⟨⟨_, Tryd.func33, by kernel_rfl, rfl⟩, fun G w vs hi hr => by
    obtain ⟨v1, us, rfl, r1, hr⟩ := hr.uncons
    rw [hr.unnil]
    cases r1 with
    | xptr _ _ d1 d2 d3 =>
    obtain ⟨u, v, k1, q1, q2⟩ := two_cells hi ho d2 d3
    have := q2.lit_inv; subst this
    refine (show Calls Tryd.prog 33 #[.pointer (some ⟨(G.mu o).1, 0, none⟩)] w _ from bl_stringNil (G.mu o).1 u w k1).mono ?_
    rintro e w' ⟨rfl, rfl⟩
    exact ⟨_, _, G, H, rfl, Gh.le.refl _ _, Nat.le_refl _, hi.drew, .iv _ _ (.lit _), rfl, rfl⟩⟩
end Go.Proofs.YtghdacijcnmhlaaDoor
namespace Go.Proofs.YtghdacijcnmhlaaDoor
open Go.RowKit
set_option linter.unusedVariables false
set_option linter.unusedSimpArgs false
theorem heap_put {H : AHeap} {o q : Nat} (hol : o < H.length) (hql : q < H.length) (hoq : o ≠ q) (A B : Option AObj) (X Y : AHeap) : List.set (List.set (H.set o A ++ X) q none ++ Y) o B = ((H.set o B).set q none) ++ (X ++ Y) := by
  rw [List.set_append_left q _ (by simpa using hql), List.append_assoc, List.set_append_left o _ (by simpa using hol), List.set_comm none B (Ne.symm hoq), List.set_set]
def byteC (c : UInt8) : AV := lt (.int .u8 (c.toNat : Int))
theorem u8C_len (l : List UInt8) : (u8C l).length = l.length := by unfold u8C; simp
theorem u8C_snoc (l : List UInt8) (c : UInt8) : u8C l ++ [lt (.int .u8 (c.toNat : Int))] = u8C (l ++ [c]) := by unfold u8C; rw [List.map_append]; rfl
theorem u8C_app (l r : List UInt8) : u8C l ++ strL (ba r) = u8C (l ++ r) := by unfold u8C strL; rw [List.map_append, ba_list]
theorem u8C_take (l : List UInt8) : (u8C l).take l.length = u8C l := List.take_of_length_le (by rw [u8C_len]; exact Nat.le_refl _)
theorem u8C_one (l : List UInt8) : (u8C l).all AV.one = true := by unfold u8C; rw [List.all_map, List.all_eq_true]; exact fun _ _ => rfl
theorem get_app {α : Type} {H : List α} {o : Nat} {y : α} (h : H[o]? = some y) (X : List α) : (H ++ X)[o]? = some y := by rw [List.getElem?_append_left (List.getElem?_eq_some_iff.1 h).1]; exact h
theorem get_end {α : Type} (H : List α) (x : α) (X : List α) : (H ++ x :: X)[H.length]? = some x := by rw [List.getElem?_append_right (Nat.le_refl _), Nat.sub_self]; rfl
theorem Wf92da {A B : Prop} (h9 : B) (w : B → A := by (intro h9; (repeat intro K hK); refine ⟨?_⟩; (repeat (first | (first | (with_reducible first | refine AX_block ?_ | refine AX_skip ?_ | refine AX_exit ?_ | refine AX_ret ?_ | refine AX_ift ?_ | refine AX_iff ?_ | refine AX_seq_k (fun K hK => ?_) | refine ContX.use (by assumption) ?_) | simp only [thenX, inBlockX, if_true, if_false, reduceCtorEq]) | (first | ((with_reducible refine XOP tyOK ?_); simp (disch := omega) only [go_sem , aappendS, hs1, hs2, hs3, hs4, hs5, hs6, hs7, hs8, u8C_len, u8C_take, u8C_snoc, u8C_one, List.drop_zero, Nat.mul_one, Nat.reduceEqDiff]; (with_reducible refine XRes_id ?_)) | (with_reducible refine XSK ?_)) | ((with_reducible refine XRes_nil ?_); refine hK _ ?_; clear hK K) | ((with_reducible refine AX_reg0 fun K hK => ?_); simp only [go_sem]) | ((refine XRes_fn (by rfl) hC ?_); (rintro r H1 ⟨rfl, rfl⟩); (simp only [putL, List.set_cons_succ, List.set_cons_zero])))); refine Wk.o ?_; (repeat revert hK K); exact h9)) : A := w h9
set_option maxRecDepth 100000 in
set_option maxHeartbeats 4000000 in
theorem sf_bwb {H : AHeap} {o q : Nat} {p : AV} {l : List UInt8} (ho : H[o]? = some (some ⟨bT, [p, .osl q 0 l.length 1]⟩)) (hp : p = lt (.pointer none) ∨ p = .xptr o 2) (hq : H[q]? = some (some ⟨5, u8C l⟩)) (hoq : o ≠ q) (hl : l.length ≤ 1000000000) (c : UInt8) : SF Tryd.prog 66 [.xptr o 2, lt (.int .u8 (c.toNat : Int))] H fun r H' => r = lt .nilIface ∧ H' = (((H.set o (some ⟨bT, [.xptr o 2, .osl (H.length + 1) 0 (l.length + 1) 1]⟩)).set q none) ++ [some ⟨5, [lt (.int .u8 (c.toNat : Int))]⟩, some ⟨5, u8C (l ++ [c])⟩]) := by
  have hs1 := trivial; have hs2 := trivial; have hs3 := trivial; have hs4 := trivial; have hs5 := trivial; have hs6 := trivial; have hs7 := trivial; have hs8 := trivial
  have hC := sf_bcopy ho hp
  have hol := (List.getElem?_eq_some_iff.1 ho).1
  have hql := (List.getElem?_eq_some_iff.1 hq).1
  have k1 : (H.set o (some ⟨bT, [.xptr o 2, .osl q 0 l.length 1]⟩))[o]? = some (some ⟨bT, [.xptr o 2, .osl q 0 l.length 1]⟩) := List.getElem?_set_self hol
  have k2 : (H.set o (some ⟨bT, [.xptr o 2, .osl q 0 l.length 1]⟩))[q]? = some (some ⟨5, u8C l⟩) := by rw [List.getElem?_set_ne hoq]; exact hq
  have k3 : (H.set o (some ⟨bT, [.xptr o 2, .osl q 0 l.length 1]⟩)).length = H.length := List.length_set
  generalize hH : H.set o (some ⟨bT, [.xptr o 2, .osl q 0 l.length 1]⟩) = H1 at *
  have hs1 := k1
  have hs2 : (H1 ++ [some ⟨5, [lt (.int .u8 (c.toNat : Int))]⟩])[q]? = some (some ⟨5, u8C l⟩) := get_app k2 _
  have hs3 : (H1 ++ [some ⟨5, [lt (.int .u8 (c.toNat : Int))]⟩])[H.length]? = some (some ⟨5, [lt (.int .u8 (c.toNat : Int))]⟩) := by rw [← k3]; exact get_end H1 _ []
  have hs4 : ∀ X : AHeap, ((H1 ++ [some (⟨5, [lt (.int .u8 (c.toNat : Int))]⟩ : AObj)]).set q none ++ X)[o]? = some (some ⟨bT, [.xptr o 2, .osl q 0 l.length 1]⟩) := fun X => get_app (by rw [List.getElem?_set_ne (Ne.symm hoq)]; exact get_app k1 _) _
  have hs5 := k3
  (refine SF_of_bodyX (aload tt) (aload_ok tyOK) Tryd.func66 rfl (by kernel_rfl) ?_; simp only [Tryd.ntmps66, List.length_cons, List.length_nil, Nat.reduceAdd, Nat.reduceSub, List.replicate_succ, List.replicate_zero, List.cons_append, List.nil_append])
  (refine Wk.o ?_; (repeat revert hK K); refine Wf92da ?_; (repeat intro K hK); refine ⟨?_⟩)
  (simp only [bodyX]; refine ⟨_, by simp only [aresults, aresult, XS.as, Tryd.results66, aload, go_sem, Option.bind_some]; rfl, ?_⟩)
  exact ⟨rfl, by rw [← hH]; exact heap_put hol hql hoq _ _ _ _⟩
set_option maxRecDepth 100000 in
set_option maxHeartbeats 4000000 in
theorem sf_bws {H : AHeap} {o q : Nat} {p : AV} {l : List UInt8} (ho : H[o]? = some (some ⟨bT, [p, .osl q 0 l.length 1]⟩)) (hp : p = lt (.pointer none) ∨ p = .xptr o 2) (hq : H[q]? = some (some ⟨5, u8C l⟩)) (hoq : o ≠ q) (hl : l.length ≤ 1000000000) (r : List UInt8) (hr : r.length ≤ 1000000000) : SF Tryd.prog 31 [.xptr o 2, lt (.string (ba r))] H fun v H' => v = .tup [lt (.int .i64 (r.length : Int)), lt .nilIface] ∧ H' = (((H.set o (some ⟨bT, [.xptr o 2, .osl H.length 0 (l.length + r.length) 1]⟩)).set q none) ++ [some ⟨5, u8C (l ++ r)⟩]) := by
  have hs1 := trivial; have hs2 := trivial; have hs3 := trivial; have hs4 := trivial; have hs5 := trivial; have hs6 := trivial; have hs7 := trivial; have hs8 := trivial
  have hC := sf_bcopy ho hp
  have hol := (List.getElem?_eq_some_iff.1 ho).1
  have hql := (List.getElem?_eq_some_iff.1 hq).1
  have k1 : (H.set o (some ⟨bT, [.xptr o 2, .osl q 0 l.length 1]⟩))[o]? = some (some ⟨bT, [.xptr o 2, .osl q 0 l.length 1]⟩) := List.getElem?_set_self hol
  have k2 : (H.set o (some ⟨bT, [.xptr o 2, .osl q 0 l.length 1]⟩))[q]? = some (some ⟨5, u8C l⟩) := by rw [List.getElem?_set_ne hoq]; exact hq
  have k3 : (H.set o (some ⟨bT, [.xptr o 2, .osl q 0 l.length 1]⟩)).length = H.length := List.length_set
  generalize hH : H.set o (some ⟨bT, [.xptr o 2, .osl q 0 l.length 1]⟩) = H1 at *
  have hs1 := k1
  have hs2 := k2
  have hs3 : ∀ X : AHeap, (H1.set q none ++ X)[o]? = some (some ⟨bT, [.xptr o 2, .osl q 0 l.length 1]⟩) := fun X => get_app (by rw [List.getElem?_set_ne (Ne.symm hoq)]; exact k1) _
  have hs4 := u8C_app l r
  have hs5 := k3
  have hs6 := ba_size r
  (refine SF_of_bodyX (aload tt) (aload_ok tyOK) Tryd.func31 rfl (by kernel_rfl) ?_; simp only [Tryd.ntmps31, List.length_cons, List.length_nil, Nat.reduceAdd, Nat.reduceSub, List.replicate_succ, List.replicate_zero, List.cons_append, List.nil_append])
  (refine Wk.o ?_; (repeat revert hK K); refine Wf92da ?_; (repeat intro K hK); refine ⟨?_⟩)
  (simp only [bodyX]; refine ⟨_, by simp only [aresults, aresult, XS.as, Tryd.results31, aload, go_sem, Option.bind_some]; rfl, ?_⟩)
  exact ⟨rfl, by rw [← hH]; have := heap_put hol hql hoq (some ⟨bT, [.xptr o 2, .osl q 0 l.length 1]⟩) (some ⟨bT, [.xptr o 2, .osl H.length 0 (l.length + r.length) 1]⟩) [] [some ⟨5, u8C (l ++ r)⟩]; simpa using this⟩
end Go.Proofs.YtghdacijcnmhlaaDoor
