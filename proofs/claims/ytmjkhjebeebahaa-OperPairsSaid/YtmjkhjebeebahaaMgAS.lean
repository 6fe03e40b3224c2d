import Derived.Test.YtmjkhjebeebahaaMgAR
import Derived.Test.YtmjkhjebeebahaaMgAO
import Derived.Maps.RangeWalk
import Derived.OpenShut
import Derived.Test.YtmjkhjebeebahaaMgAM
import Derived.Test.YtmjkhjebeebahaaMgAL
namespace Go.Proofs.Ytmjkhjebeebahaa
open Go.RowKit
set_option linter.unusedVariables false
set_option linter.unusedSimpArgs false


abbrev iEvs (xs : List Ev3) : IV := iFlat (flatE xs) xs.length 3
end Go.Proofs.Ytmjkhjebeebahaa
namespace Go.Proofs.Ytmjkhjebeebahaa
open Go.RowKit Go.Maps
set_option linter.unusedVariables false
set_option linter.unusedSimpArgs false

/-- Block r goes through the map in block b; ks are the keys that are still to come. -/
def IRng (w : World) (b r n : Nat) (F : Int → Option Value) (ks : List Int) : Prop := ∃ (D : DataW Unit) (left : Lit → Bool) (cnt : Nat), w.ranges Try.prog 3 mapR b r n D left cnt ∧
  (∀ k v, F k = some v → ∃ ps, ∀ zd, mapR v = some (D.atKey (.int .i64 k) zd, ps)) ∧ (∀ k, Maps.has D (.int .i64 k) = (F k).isSome) ∧
  (∃ ks0 : List Int, ks0.Nodup ∧ (∀ k, k ∈ ks0 ↔ (F k).isSome = true) ∧ Maps.size D = ks0.length) ∧
  ks.Nodup ∧ (∀ k : Int, k ∈ ks ↔ left (.int .i64 k) = true) ∧ ∀ k ∈ ks, (F k).isSome = true
theorem IRng.map {w : World} {b r n : Nat} {F : Int → Option Value} {ks : List Int} (h : IRng w b r n F ks) : IMap w b n F := by
  obtain ⟨D, left, cnt, h1, h2, h3, h4, _⟩ := h
  exact ⟨D, h1.owns, h2, h3, h4⟩
theorem IRng.block {w w' : World} {b r n : Nat} {F : Int → Option Value} {ks : List Int} (h : IRng w b r n F ks) (hb : w'.heap[b]? = w.heap[b]?) (hr : w'.heap[r]? = w.heap[r]?) : IRng w' b r n F ks := by
  obtain ⟨D, left, cnt, ⟨es, clock, since, seen, c0, g1, g2, g3, g4, g5, g6⟩, h⟩ := h
  exact ⟨D, left, cnt, ⟨es, clock, since, seen, c0, hb.trans g1, g2, g3, g4, hr.trans g5, g6⟩, h⟩
theorem IRng.at {w : World} {b r n : Nat} {F : Int → Option Value} {ks : List Int} (h : IRng w b r n F ks) : ∃ ob orr, w.heap[b]? = some ob ∧ w.heap[r]? = some orr ∧ ∀ w' : World, w'.heap[b]? = some ob → w'.heap[r]? = some orr → IRng w' b r n F ks := by
  obtain ⟨D, left, cnt, ⟨es, clock, since, seen, c0, g1, g2, g3, g4, g5, g6⟩, _⟩ := id h
  exact ⟨_, _, g1, g5, fun w' e1 e2 => h.block (e1.trans g1.symm) (e2.trans g5.symm)⟩
theorem IRng.ne {w : World} {b r n : Nat} {F : Int → Option Value} {ks : List Int} (h : IRng w b r n F ks) : r ≠ b := by
  obtain ⟨D, left, cnt, h1, _⟩ := h
  exact h1.ne
theorem IMap.range {w : World} {b n : Nat} {F : Int → Option Value} (h : IMap w b n F) {t e : TypeId} (ht : Try.prog.underlying t = some (.map 3 e)) :
    ∃ w' ks, (Instr.range t (.map (some b))).run Try.prog w = .ok (.pointer (some ⟨w.heap.size, 0, none⟩)) w' ∧ IRng w' b w.heap.size n F ks ∧ ks.Nodup ∧ (∀ k, k ∈ ks ↔ (F k).isSome = true) ∧ w.grownBy w' none ∧ w'.heap.size = w.heap.size + 1 := by
  obtain ⟨D, hD, hR, hH, ks, k1, k2, k3⟩ := h
  obtain ⟨w', r1, r2, r3, r4⟩ := hD.range law_int ht
  exact ⟨w', ks, r1, ⟨D, _, _, r2, hR, hH, ⟨ks, k1, k2, k3⟩, k1, fun k => by rw [k2 k, hH k], fun k hk => (k2 k).1 hk⟩, k1, k2, r3, r4⟩
theorem same_int (x k : Int) : (Lit.int .i64 x).sameKey (.int .i64 k) = decide (x = k) := by
  unfold Lit.sameKey
  by_cases h : x = k <;> simp [h]
theorem IRng.next {w : World} {b r n : Nat} {F : Int → Option Value} {ks : List Int} (h : IRng w b r n F ks) (ty : TypeId) :
    (ks = [] ∧ (Instr.next (.pointer (some ⟨r, 0, none⟩)) false ty).run Try.prog w = .ok (.tuple #[.bool false]) w) ∨
    ∃ k v w', k ∈ ks ∧ -9223372036854775808 ≤ k ∧ k ≤ 9223372036854775807 ∧ F k = some v ∧ (Instr.next (.pointer (some ⟨r, 0, none⟩)) false ty).run Try.prog w = .ok (.tuple #[.bool true, .int .i64 k, v]) w' ∧
      IRng w' b r n F (ks.erase k) ∧ w.grownBy w' (some r) ∧ (Instr.entry (.pointer (some ⟨r, 0, none⟩))).run Try.prog w' = .ok (.tuple #[.int .i64 k, v]) w' := by
  obtain ⟨D, left, cnt, hr, hR, hH, hk0, hn, hl, hs⟩ := h
  rcases hr.next law_int ty with ⟨_, h2, h3⟩ | ⟨key, v, kl, y, w', cnt', g1, g2, g3, g4, g5, g6, g7, g8, g9, g10⟩
  · refine .inl ⟨List.eq_nil_iff_forall_not_mem.2 fun k hk => ?_, h3⟩
    have := (hl k).1 hk
    rw [h2] at this; cases this
  · obtain ⟨k, rfl, rfl, hw⟩ := Maps.keyOf_int_inv Try.underlying3 g1
    have hb := bounds_i64 hw
    have hk := (hl k).2 g2
    obtain ⟨u, hu⟩ := Option.isSome_iff_exists.1 (hs k hk)
    obtain ⟨ps, hps⟩ := hR k u hu
    have e : v = u := mapR_inj (d := y.1) (ps := y.2) g3 (by rw [← g4 (.lit (.bool false))]; exact hps _)
    subst e
    refine .inr ⟨k, v, w', hk, hb.1, hb.2, hu, g5, ⟨D, _, cnt', g6, hR, hH, hk0, hn.erase k, fun x => ?_, fun x hx => hs x (List.mem_of_mem_erase hx)⟩, g8, g10⟩
    rw [hn.mem_erase_iff, hl x, same_int]
    by_cases hxk : x = k
    · simp [hxk]
    · simp [hxk]
section
variable {P : Program} {tt : TT} {m : Nat}
/-- As AX, behind one beginning. -/
def AXA (P : Program) (m : Nat) (G0 : Gh) (c : Code) (Q : Exit → XS → Prop) (s : XS) : Prop := ∀ G a w, m ≤ s.H.length → Gh.leb m G0 G → MOK G0.kp G s.M → Rst G s.as a w → c.wp P (PostX m G0 Q) a w
/-- At the end of a region whose last operation is 'range': that operation, and the loop. -/
def RngX (P : Program) (m : Nat) (o : Oper) (L : Code) (Q : Exit → XS → Prop) (s : XS) : Prop := ∀ G0 G a w (ops : Array Oper), m ≤ s.H.length → Gh.leb m G0 G → MOK G0.kp G s.M → Rst G s.as a w → wpList P ops (Exit.then (L.wp P (PostX m G0 Q)) (PostX m G0 Q)) [o] a w
theorem wpList_then {ops : Array Oper} {Q1 Q : Exit → Act → World → Prop} {l2 : List Oper} (hn : ∀ a w, Q1 .normal a w → wpList P ops Q l2 a w) (he : ∀ e a w, e ≠ .normal → Q1 e a w → Q e a w) : ∀ (l1 : List Oper) a w, wpList P ops Q1 l1 a w → wpList P ops Q (l1 ++ l2) a w
  | [], a, w, h => hn _ _ h
  | o :: l, a, w, h => by
    rw [List.cons_append]
    unfold wpList at h ⊢
    split
    · rename_i hw
      rw [if_pos hw] at h
      rcases h with h | ⟨h, a0, w0, h2⟩
      · refine .inl ?_
        unfold Oper.wp at *
        generalize (execOp a.eval o).run P w = r at *
        cases r with
        | ok n w' =>
          cases n <;> simp only [Oper.upon] at h ⊢ <;>
            first
              | exact wpList_then hn he l _ _ h
              | exact Calls.mono h (fun e w'' hh => by cases e <;> first | exact wpList_then hn he l _ _ hh | exact he _ _ _ (by simp) hh | (obtain ⟨a0, w0, hh⟩ := hh; exact ⟨a0, w0, he _ _ _ (by simp) hh⟩))
              | exact Rows.mono h (fun _ _ hh => wpList_then hn he l _ _ hh)
        | halt x w' => cases x <;> simp only [Oper.upon] at h ⊢ <;> first | exact he _ _ _ (by simp) h | exact h
      · exact .inr ⟨h, a0, w0, he _ _ _ (by simp) h2⟩
    · rename_i hw
      rw [if_neg hw] at h
      exact wpList_then hn he l _ _ h
/-- A region that ends in 'range', and the loop behind it. -/
theorem AX_rng {id : Nat} {ops : List Oper} {L : Code} {Q : Exit → XS → Prop} {s : XS} {t7 tx : Tmp} {ty ty7 : TypeId} {p7 : String} {a7 : Array Edge} (hk : ops.getLast? = some ⟨some t7, .range ty (.tmp tx), ty7, p7, a7, none⟩) (h : ∀ K : XS → Prop, (∀ s, RngX P m ⟨some t7, .range ty (.tmp tx), ty7, p7, a7, none⟩ L Q s → K s) → XRes P m (thenX K fun _ _ => False) (ops.dropLast.map (strip (dsts ops)), s)) : AX P m (.seq (.region id ops.toArray false) L) Q s := fun G0 G a w hm hl hM hr => by
  refine wp_seq (wp_region_list ?_)
  have hx := h (fun s => RngX P m ⟨some t7, .range ty (.tmp tx), ty7, p7, a7, none⟩ L Q s) (fun _ h => h) (max s.fr.length (topD (dsts ops))) (Nat.le_max_left _ _) G0 G a w hm hl hM hr
  rw [wpList_strip (Nat.le_max_right _ _)] at hx
  show wpList P ops.toArray _ ops.toArray.toList a w
  rw [List.toList_toArray]
  have hk' : ops.dropLast ++ [⟨some t7, .range ty (.tmp tx), ty7, p7, a7, none⟩] = ops := by obtain ⟨ys, e⟩ := List.getLast?_eq_some_iff.1 hk; rw [e, List.dropLast_concat]
  have e : wpList P ops.toArray (Exit.then (L.wp P (PostX m G0 Q)) (PostX m G0 Q)) ops = wpList P ops.toArray (Exit.then (L.wp P (PostX m G0 Q)) (PostX m G0 Q)) (ops.dropLast ++ [⟨some t7, .range ty (.tmp tx), ty7, p7, a7, none⟩]) := by rw [hk']
  rw [e]
  refine wpList_then (fun a w ⟨G', s', h1, h2, h3, h4, h5⟩ => ?_) (fun e a w hne ⟨G', s', h1, h2, h3, h4, h5⟩ => by cases e <;> first | exact absurd rfl hne | exact h5.elim) _ _ _ hx
  exact (show RngX P m _ L Q s' from h5) G0 G' a w _ h3 h1 h2 h4
/-- The ghost state with the map and its iterator put away. -/
def Gh.put2 (G : Gh) (b : Nat) (ob : Obj) (r : Nat) (orr : Obj) : Gh := { G with kp := fun c => if c = b then some ob else if c = r then some orr else G.kp c }
theorem put2_leb {G0 G' : Gh} {b r : Nat} {ob orr : Obj} (h : Gh.leb m (G0.put2 b ob r orr) G') (hb : G0.kp b = none) (hr : G0.kp r = none) : Gh.leb m G0 G' := by
  have hk : ∀ c x, G0.kp c = some x → (G0.put2 b ob r orr).kp c = some x := fun c x e => by
    show (if c = b then some ob else if c = r then some orr else G0.kp c) = some x
    rw [if_neg (fun hc => by rw [hc, hb] at e; cases e), if_neg (fun hc => by rw [hc, hr] at e; cases e)]
    exact e
  exact ⟨h.mu, h.sz, h.dom, h.back, h.fz, fun c x e => h.kp c x (hk c x e), fun c x y e f => h.new c x y (hk c x e) f, h.os, h.tape, h.output⟩
theorem put2_kpb {G : Gh} {b r : Nat} {ob orr : Obj} : (G.put2 b ob r orr).kp b = some ob := if_pos rfl
theorem put2_kpr {G : Gh} {b r : Nat} {ob orr : Obj} (h : r ≠ b) : (G.put2 b ob r orr).kp r = some orr := by show (if r = b then _ else if r = r then _ else _) = _; rw [if_neg h, if_pos rfl]
theorem put2_none {G : Gh} {b r c : Nat} {ob orr : Obj} (h : (G.put2 b ob r orr).kp c = none) : c ≠ b ∧ c ≠ r ∧ G.kp c = none := by
  have e : (if c = b then some ob else if c = r then some orr else G.kp c) = none := h
  split at e
  · cases e
  · split at e
    · cases e
    · rename_i h1 h2; exact ⟨h1, h2, e⟩
theorem put2_some {G : Gh} {b r c : Nat} {ob orr : Obj} (h1 : c ≠ b) (h2 : c ≠ r) (h3 : G.kp c = none) : (G.put2 b ob r orr).kp c = none := by
  show (if c = b then some ob else if c = r then some orr else G.kp c) = none
  rw [if_neg h1, if_neg h2]; exact h3
theorem MOK.out {G0 G : Gh} {b r : Nat} {ob orr : Obj} {M : MS} (h : MOK (G0.put2 b ob r orr).kp G M) : MOK G0.kp G M := ⟨fun e he => by
  obtain ⟨h1, h2⟩ := h.one e he
  exact ⟨(put2_none h1).2.2, h2⟩, h.two⟩
theorem wp_loop_rel {c : Code} {R : Exit → Act → World → Prop} (I : Nat → Act → World → Prop) (n0 : Nat) {a : Act} {w : World} (h0 : I n0 a w) (round : ∀ n a w, I n a w → c.wp P (Exit.then (fun a w => ∃ k, k < n ∧ I k a w) R) a w) : (Code.loop c).wp P R a w := fun b k cs => by
  have key : ∀ n a w, I n a w → ∃ e a' w', R e a' w' ∧ Arrives P (lone (b.at a (.code c :: .inLoop c :: k)) cs w) b k cs e a' w' := by
    intro n
    induction n using Nat.strongRecOn with
    | _ n ih =>
      intro a w hI
      obtain ⟨e, a1, w1, hq, harr⟩ := round n a w hI b (.inLoop c :: k) cs
      cases e with
      | normal =>
        obtain ⟨m', hlt, hI1⟩ := (show ∃ k, k < n ∧ I k a1 w1 from hq)
        obtain ⟨e2, a2, w2, hp, harr2⟩ := ih m' hlt a1 w1 hI1
        exact ⟨e2, a2, w2, hp, .of_steps (Steps.trans harr (.one step_inLoop)) harr2⟩
      | exit id => exact ⟨_, a1, w1, hq, .pass (x := .inLoop c) rfl (fun _ _ => .inl (by simp)) harr⟩
      | goto l => exact ⟨_, a1, w1, hq, .pass (x := .inLoop c) rfl (fun _ _ => .inl (by simp)) harr⟩
      | ret => exact ⟨_, a1, w1, hq, .pass (x := .inLoop c) rfl (fun _ _ => .inl (by simp)) harr⟩
      | panic ch => exact ⟨_, a1, w1, hq, .pass (x := .inLoop c) rfl (fun _ _ => .inl (by simp)) harr⟩
      | outgrown => exact ⟨_, a1, w1, hq, .pass (x := .inLoop c) rfl (fun _ _ => .inl (by simp)) harr⟩
  obtain ⟨e, a', w', hq, harr⟩ := key n0 a w h0
  exact ⟨e, a', w', hq, .of_steps (.one step_loop) harr⟩
theorem set_at {fr : List AV} {i j : Nat} {x y : AV} (h : fr[i]? = some x) (hij : j ≠ i) : (fr.set j y)[i]? = some x := by rw [List.getElem?_set_ne hij]; exact h
theorem ra_lit {n : Nat} {G : Gh} {v : Value} : RA n G (lt v) v := .iv _ _ (.lit _)
theorem ra_tup1 {n : Nat} {G : Gh} {x : Value} : RA n G (.tup [lt x]) (.tuple #[x]) := .tup [lt x] [x] rfl fun i a b e1 e2 => by
  match i with
  | 0 => simp at e1 e2; subst e1 e2; exact ra_lit
  | i + 1 => simp at e1
theorem ra_tup2 {n : Nat} {G : Gh} {x y : Value} : RA n G (.tup [lt x, lt y]) (.tuple #[x, y]) := .tup [lt x, lt y] [x, y] rfl fun i a b e1 e2 => by
  match i with
  | 0 => simp at e1 e2; subst e1 e2; exact ra_lit
  | 1 => simp at e1 e2; subst e1 e2; exact ra_lit
  | i + 2 => simp at e1
theorem ra_tup3 {n : Nat} {G : Gh} {x y z : Value} : RA n G (.tup [lt x, lt y, lt z]) (.tuple #[x, y, z]) := .tup [lt x, lt y, lt z] [x, y, z] rfl fun i a b e1 e2 => by
  match i with
  | 0 => simp at e1 e2; subst e1 e2; exact ra_lit
  | 1 => simp at e1 e2; subst e1 e2; exact ra_lit
  | 2 => simp at e1 e2; subst e1 e2; exact ra_lit
  | i + 3 => simp at e1
theorem wpList_val {ops : Array Oper} {R : Exit → Act → World → Prop} {o : Oper} {l : List Oper} {a : Act} {w w' : World} {v : Value} (hg : o.guard = none) (hrun : (execOp a.eval o).run P w = .ok (.value v) w') (h : wpList P ops R l (a.put o.dst v) w') : wpList P ops R (o :: l) a w := by
  unfold wpList
  rw [if_pos (by unfold Region.wanted; rw [hg])]
  refine .inl ?_
  unfold Oper.wp
  rw [hrun]
  exact h
theorem slot_lit {G : Gh} {fr : List AV} {H : AHeap} {a : Act} {w : World} (hr : Rst G ⟨fr, H⟩ a w) {i : Nat} {v : Value} (h : fr[i]? = some (lt v)) : a.eval (.tmp i) = v := by
  have := hr.ev (.tmp i)
  have e : AS.ev ⟨fr, H⟩ (.tmp i) = lt v := by show fr.getD i uD = _; rw [List.getD_eq_getElem?_getD, h]; rfl
  rw [e] at this
  exact this.lit_inv
theorem ext_run {G : Gh} {fr : List AV} {H : AHeap} {a : Act} {w : World} (hr : Rst G ⟨fr, H⟩ a w) {i j : Nat} {xs : List AV} {v : Value} (h : fr[i]? = some (.tup xs)) (hv : xs[j]? = some (lt v)) (d : Option Tmp) (ty : TypeId) (p : String) (at' : Array Edge) : (execOp a.eval ⟨d, .extract (.tmp i) j, ty, p, at', none⟩).run P w = .ok (.value v) w := by
  have hx := hr.ev (.tmp i)
  have e : AS.ev ⟨fr, H⟩ (.tmp i) = .tup xs := by show fr.getD i uD = _; rw [List.getD_eq_getElem?_getD, h]; rfl
  rw [e] at hx
  generalize hav : a.eval (.tmp i) = xv at hx
  cases hx with
  | tup _ vs h1 h2 =>
    obtain ⟨u, e, hu⟩ := RL.at ⟨h1, h2⟩ hv
    have := hu.lit_inv
    subst this
    simp [execOp, Instr.extract, hav, e]
theorem rng_loop {fr : List AV} {H : AHeap} {M : MS} {Q : Exit → XS → Prop} {σ : Type} {e ty : TypeId} {tx t7 t8 t9 t10 : Tmp} {x0 x1 i3 i4 : Nat} {ty7 ty8 ty9 ty10 : TypeId} {p7 p8 p9 p10 : String} {a7 a8 a9 a10 : Array Edge} {l4 : List Oper} {body : Code}
    (i b n : Nat) (F : Int → Option Value) (ds : List Nat) (f : σ → List (Nat × AV)) (hp : σ → AHeap) (mp : σ → MS) (I : σ → List Int → Prop) (st0 : σ)
    (ht : Try.prog.underlying ty = some (.map 3 e)) (hx : fr[tx]? = some (lt (.map (some b)))) (hi : M[i]? = some (b, n, F))
    (h7 : ∀ (x : AV) (d : Nat → AV) (st : σ), (updS (deadS (fr.set t7 x) d ds) (f st))[t7]? = some x) (h8 : t8 < fr.length) (h9 : t9 < fr.length) (h87 : t8 ≠ t7) (h97 : t9 ≠ t7) (h98 : t9 ≠ t8)
    (h0 : ∀ (x : AV) (d : Nat → AV), deadS (fr.set t7 x) d ds = updS (deadS (fr.set t7 x) d ds) (f st0)) (hh : H = hp st0) (hm : M.eraseIdx i = mp st0) (hI : ∀ ks : List Int, ks.Nodup → (∀ k, k ∈ ks ↔ (F k).isSome = true) → I st0 ks)
    (round : ∀ (st : σ) (ks : List Int) (x : Value) (d : Nat → Value) (fr1 : List AV), fr1 = updS (deadS (fr.set t7 (lt x)) (fun i => lt (d i)) ds) (f st) → ks.Nodup → I st ks → ∀ (k : Int) (v : Value), k ∈ ks → F k = some v → -9223372036854775808 ≤ k ∧ k ≤ 9223372036854775807 →
      ∀ K : XS → Prop, (∀ s, AX Try.prog m body (inBlockX x1 (thenX (WhX m ds f hp mp (fun st' => I st' (ks.erase k)) (fun _ => 0) (fr.set t7 (lt x)) 1) (inBlockX x0 Q))) s → K s) →
        XRes Try.prog m (thenX K fun _ _ => False) (l4.map (strip (dsts (⟨some t10, .entry (.tmp t7), ty10, p10, a10, none⟩ :: l4))), ⟨((fr1.set t8 (.tup [lt (.bool true), lt (.int .i64 k), lt v])).set t9 (lt (.bool true))).set t10 (.tup [lt (.int .i64 k), lt v]), hp st, mp st⟩))
    (done : ∀ (st : σ) (x : Value) (d : Nat → Value) (fr1 : List AV), fr1 = updS (deadS (fr.set t7 (lt x)) (fun i => lt (d i)) ds) (f st) → I st [] → Q .normal ⟨(fr1.set t8 (.tup [lt (.bool false)])).set t9 (lt (.bool false)), hp st, mp st ++ [(b, n, F)]⟩) :
    RngX Try.prog m ⟨some t7, .range ty (.tmp tx), ty7, p7, a7, none⟩ (.block x0 (.loop (.seq (.region i3 #[⟨some t8, .next (.tmp t7) false, ty8, p8, a8, none⟩, ⟨some t9, .extract (.tmp t8) 0, ty9, p9, a9, none⟩] false) (.seq (.cond (.tmp t9) .skip (.exit x0)) (.block x1 (.seq (.region i4 (⟨some t10, .entry (.tmp t7), ty10, p10, a10, none⟩ :: l4).toArray false) body)))))) Q ⟨fr, H, M⟩ := by
  intro G0 G a w ops hmm hl hM hr
  obtain ⟨c1, c2, c3, ob0, c4⟩ := hM.at hr.inv hi
  obtain ⟨w1, ks0, r1, r2, r3, r4, r5, r6⟩ := c3.range ht
  have hev : a.eval (.tmp tx) = .map (some b) := slot_lit hr hx
  refine wpList_val rfl (v := .pointer (some ⟨w.heap.size, 0, none⟩)) (w' := w1) (by simp [execOp, hev, r1]) ?_
  obtain ⟨f1, f2⟩ := hr.inv.fresh
  have hobj : ∀ o x, H[o]? = some (some x) → G.sz o ≠ 0 → (G.mu o).1 ≠ w.heap.size := fun o x e hz heq => by
    obtain ⟨_, cs, k1, _⟩ := (hr.inv.obj o x e).resolve_left fun q => hz q.2
    have := lt_of_heap k1; omega
  generalize w.heap.size = r at *
  have hK0r : G0.kp r = none := by
    cases hk : G0.kp r with
    | none => rfl
    | some x => have := hl.kp _ _ hk; rw [f2] at this; cases this
  have hfz0 : ∀ c, G.fz c = none → G0.fz c = none := fun c h => by
    cases hk : G0.fz c with
    | none => rfl
    | some x => have := hl.fz _ _ hk; rw [h] at this; cases this
  have hf0r := hfz0 r f1
  have hf0b := hfz0 b c2
  obtain ⟨ob, orr0, g1, g2, g3⟩ := r2.at
  have hrb := r2.ne
  have hb1 : w1.heap[b]? = w.heap[b]? := r5.block b c3.lt (by simp)
  have hobb : G.kp b = some ob := by
    have e1 := hr.inv.kp _ _ c4
    rw [← hb1, g1] at e1
    cases e1; exact c4
  have hr1 := hr.block_set f1 hobj g2 (r5.but _) (some t7) (x := lt (.pointer (some ⟨r, 0, none⟩))) (v := .pointer (some ⟨r, 0, none⟩)) ra_lit
  generalize hpt : lt (.pointer (some ⟨r, 0, none⟩)) = ptr at hr1
  have hl1 : Gh.leb m (G0.put2 b ob r orr0) { G with kp := fun c => if c = r then some orr0 else G.kp c } := ⟨hl.mu, hl.sz, hl.dom, hl.back, hl.fz, fun c x e => by
    have e' : (if c = b then some ob else if c = r then some orr0 else G0.kp c) = some x := e
    show (if c = r then some orr0 else G.kp c) = some x
    split at e'
    · rename_i hc; subst hc; rw [if_neg (fun e => hrb e.symm), hobb]; exact e'
    · split at e'
      · rename_i hc; rw [if_pos hc]; exact e'
      · rename_i hc; rw [if_neg hc]; exact hl.kp c x e', fun c x y e f => by
    have e' : (if c = b then some ob else if c = r then some orr0 else G0.kp c) = some x := e
    have f' : G.fz c = some y := f
    split at e'
    · rename_i hc; subst hc; rw [c2] at f'; cases f'
    · split at e'
      · rename_i hc; subst hc; rw [f1] at f'; cases f'
      · exact hl.new c x y e' f', hl.os, hl.tape, hl.output⟩
  have hM1 : MOK (G0.put2 b ob r orr0).kp { G with kp := fun c => if c = r then some orr0 else G.kp c } (M.eraseIdx i) := ⟨fun e he => by
    obtain ⟨h1, h2, o, h3, h4⟩ := hM.one e (List.mem_of_mem_eraseIdx he)
    have hne : e.1 ≠ r := fun heq => by rw [heq, f2] at h3; cases h3
    have hnb : e.1 ≠ b := fun heq => by
      obtain ⟨j, hj, hji, rfl⟩ := List.mem_eraseIdx_iff_getElem.1 he
      obtain ⟨l1, e1⟩ := List.getElem?_eq_some_iff.1 hi
      have hp := List.pairwise_iff_getElem.1 hM.two
      rcases Nat.lt_or_gt_of_ne hji with h5 | h5
      · have := hp j i hj l1 h5; rw [e1] at this; exact this heq
      · have := hp i j l1 hj h5; rw [e1] at this; exact this heq.symm
    exact ⟨put2_some hnb hne h1, h2, o, by show (if e.1 = r then _ else _) = _; rw [if_neg hne]; exact h3, h4⟩, hM.two.sublist (List.eraseIdx_sublist ..)⟩
  rw [hm] at hM1
  obtain ⟨G2, s2, q1, q2, q3, d0, q4⟩ := (Leads.dead (m := m) (s := ⟨putL fr (some t7) ptr, H⟩) (S := fun s' => ∃ d : Nat → Value, s' = ⟨deadS (putL fr (some t7) ptr) (fun i => lt (d i)) ds, H⟩) ds (fun d => ⟨d, rfl⟩)) _ _ _ hmm hr1
  show (Code.block x0 _).wp _ _ _ _
  refine wp_block (wp_loop_rel (fun n' a w => ∃ (st : σ) (ks : List Int) (orr : Obj) (G : Gh) (d : Nat → Value), n' = ks.length ∧ m ≤ (hp st).length ∧ Gh.leb m (G0.put2 b ob r orr) G ∧ MOK (G0.put2 b ob r orr).kp G (mp st) ∧ Rst G ⟨updS (deadS (fr.set t7 ptr) (fun i => lt (d i)) ds) (f st), hp st⟩ a w ∧ (∀ w : World, w.heap[b]? = some ob → w.heap[r]? = some orr → IRng w b r n F ks) ∧ ks.Nodup ∧ I st ks) ks0.length ?_ ?_)
  · refine ⟨st0, ks0, orr0, G2, d0, rfl, by rw [← hh]; exact hmm, hl1.trans q1, ?_, ?_, g3, r3, hI ks0 r3 r4⟩
    · exact hM1.leb q1
    · subst q4
      rw [← hh, ← h0]
      exact q3
  · rintro _ a w ⟨st, ks, orr, G, d, rfl, hmm, hl, hM, hr, hg, hnd, hIs⟩
    generalize hfr1 : updS (deadS (fr.set t7 ptr) (fun i => lt (d i)) ds) (f st) = fr1 at hr
    have hlen : fr1.length = fr.length := by rw [← hfr1, updS_len, deadS_len, List.length_set]
    have h7' : fr1[t7]? = some ptr := by rw [← hfr1]; exact h7 _ _ _
    have hW := hg w (hr.inv.kp b ob (hl.kp b ob put2_kpb)) (hr.inv.kp r orr (hl.kp r orr (put2_kpr hrb)))
    have hev7 : a.eval (.tmp t7) = .pointer (some ⟨r, 0, none⟩) := slot_lit hr (by rw [h7', hpt])
    refine wp_seq (wp_region_list ?_)
    show wpList Try.prog _ _ [_, _] a w
    rcases hW.next ty8 with ⟨rfl, hrun⟩ | ⟨k, v, w2, hk, kb1, kb2, hF, hrun, hW2, hgr, hent⟩
    · refine wpList_val rfl (v := .tuple #[.bool false]) (w' := w) (by simp [execOp, hev7, hrun]) ?_
      have hr8 : Rst G ⟨fr1.set t8 (.tup [lt (.bool false)]), hp st⟩ (a.put (some t8) (.tuple #[.bool false])) w := hr.put (Gh.le.refl _ _) (Nat.le_refl _) hr.inv ra_tup1 (some t8)
      refine wpList_val rfl (v := .bool false) (w' := w) (ext_run hr8 (xs := [lt (.bool false)]) (List.getElem?_set_self (by rw [hlen]; exact h8)) rfl _ _ _ _) ?_
      have hr9 : Rst G ⟨(fr1.set t8 (.tup [lt (.bool false)])).set t9 (lt (.bool false)), hp st⟩ ((a.put (some t8) (.tuple #[.bool false])).put (some t9) (.bool false)) w := hr8.put (Gh.le.refl _ _) (Nat.le_refl _) hr8.inv ra_lit (some t9)
      show (Code.seq _ _).wp _ _ _ _
      refine wp_seq (wp_cond_false (slot_lit hr9 (List.getElem?_set_self (by rw [List.length_set, hlen]; exact h9))) (wp_exit ?_))
      show (if x0 = x0 then PostX m G0 Q .normal _ _ else _)
      rw [if_pos rfl]
      have hobw : w.heap[b]? = some ob := hr.inv.kp b ob (hl.kp b ob put2_kpb)
      refine ⟨G, _, put2_leb hl c1 hK0r, ⟨fun e he => ?_, ?_⟩, hmm, hr9, done st _ d fr1 (by rw [hpt]; exact hfr1.symm) hIs⟩
      · rcases List.mem_append.1 he with he | he
        · exact hM.out.one e he
        · rw [List.mem_singleton.1 he]
          refine ⟨c1, ?_, ob, hl.kp b ob put2_kpb, fun w' e => hW.map.block (e.trans hobw.symm)⟩
          cases hk : G.fz b with
          | none => rfl
          | some y => obtain ⟨z, hz⟩ := hl.new b _ _ put2_kpb hk; rw [show (G0.put2 b ob r orr).fz b = G0.fz b from rfl, hf0b] at hz; cases hz
      · refine List.pairwise_append.2 ⟨hM.two, List.pairwise_singleton _ _, fun e he e' he' => ?_⟩
        rw [List.mem_singleton.1 he']
        exact (put2_none (hM.one e he).1).1
    · refine wpList_val rfl (v := .tuple #[.bool true, .int .i64 k, v]) (w' := w2) (by simp [execOp, hev7, hrun]) ?_
      obtain ⟨ob', orr', e1, e2, hg'⟩ := hW2.at
      have hobw : w.heap[b]? = some ob := hr.inv.kp b ob (hl.kp b ob put2_kpb)
      have hob' : ob' = ob := by
        have := hgr.block b (lt_of_heap hobw) (by intro h; exact hrb (by cases h; rfl))
        rw [e1, hobw] at this; cases this; rfl
      subst hob'
      have hfzr : G.fz r = none := by
        cases hk : G.fz r with
        | none => rfl
        | some y => obtain ⟨z, hz⟩ := hl.new r _ _ (put2_kpr hrb) hk; rw [show (G0.put2 b ob' r orr).fz r = G0.fz r from rfl, hf0r] at hz; cases hz
      have hkr : G.kp r = some orr := hl.kp r orr (put2_kpr hrb)
      have hr8 : Rst { G with kp := fun c => if c = r then some orr' else G.kp c } ⟨fr1.set t8 (.tup [lt (.bool true), lt (.int .i64 k), lt v]), hp st⟩ (a.put (some t8) (.tuple #[.bool true, .int .i64 k, v])) w2 := hr.block_set hfzr (obj_ne hr.inv hkr) e2 hgr (some t8) ra_tup3
      have hl8 : Gh.leb m (G0.put2 b ob' r orr') { G with kp := fun c => if c = r then some orr' else G.kp c } := ⟨hl.mu, hl.sz, hl.dom, hl.back, hl.fz, fun c x e => by
        have e' : (if c = b then some ob' else if c = r then some orr' else G0.kp c) = some x := e
        show (if c = r then some orr' else G.kp c) = some x
        by_cases hcr : c = r
        · subst hcr; rw [if_neg hrb, if_pos rfl] at e'; rw [if_pos rfl]; exact e'
        · rw [if_neg hcr]
          rw [if_neg hcr] at e'
          exact hl.kp c x (by show (if c = b then some ob' else if c = r then some orr else G0.kp c) = some x; rw [if_neg hcr]; exact e'), fun c x y e f => by
        have e' : (if c = b then some ob' else if c = r then some orr' else G0.kp c) = some x := e
        have f' : G.fz c = some y := f
        by_cases hcr : c = r
        · subst hcr; rw [hfzr] at f'; cases f'
        · rw [if_neg hcr] at e'
          exact hl.new c x y (by show (if c = b then some ob' else if c = r then some orr else G0.kp c) = some x; rw [if_neg hcr]; exact e') f', hl.os, hl.tape, hl.output⟩
      have hM8 : MOK (G0.put2 b ob' r orr').kp { G with kp := fun c => if c = r then some orr' else G.kp c } (mp st) := ⟨fun e he => by
        obtain ⟨h1, h2, o, h3, h4⟩ := hM.one e he
        obtain ⟨n1, n2, n3⟩ := put2_none h1
        exact ⟨put2_some n1 n2 n3, h2, o, by show (if e.1 = r then _ else _) = _; rw [if_neg n2]; exact h3, h4⟩, hM.two⟩
      refine wpList_val rfl (v := .bool true) (w' := w2) (ext_run hr8 (xs := [lt (.bool true), lt (.int .i64 k), lt v]) (List.getElem?_set_self (by rw [hlen]; exact h8)) rfl _ _ _ _) ?_
      have hr9 := hr8.put (Gh.le.refl _ _) (Nat.le_refl _) hr8.inv (ra_lit (v := .bool true)) (some t9)
      generalize hG8 : ({ G with kp := fun c => if c = r then some orr' else G.kp c } : Gh) = G8 at *
      show (Code.seq _ _).wp _ _ _ _
      refine wp_seq (wp_cond_true (slot_lit hr9 (List.getElem?_set_self (by rw [List.length_set, hlen]; exact h9))) (wp_skip ?_))
      show (Code.block _ _).wp _ _ _ _
      refine wp_block (wp_seq (wp_region_list ?_))
      rw [List.toList_toArray]
      have hev7' : ((a.put (some t8) (.tuple #[.bool true, .int .i64 k, v])).put (some t9) (.bool true)).eval (.tmp t7) = .pointer (some ⟨r, 0, none⟩) := slot_lit hr9 (set_at (set_at (by rw [h7', hpt]) h87) h97)
      refine wpList_val rfl (v := .tuple #[.int .i64 k, v]) (w' := w2) (by simp [execOp, hev7', hent]) ?_
      have hr10 := hr9.put (Gh.le.refl _ _) (Nat.le_refl _) hr9.inv (ra_tup2 (x := .int .i64 k) (y := v)) (some t10)
      have hx := round st ks (.pointer (some ⟨r, 0, none⟩)) d fr1 (by rw [hpt]; exact hfr1.symm) hnd hIs k v hk hF ⟨kb1, kb2⟩ _ (fun _ h => h) (max fr1.length (topD (dsts (⟨some t10, .entry (.tmp t7), ty10, p10, a10, none⟩ :: l4)))) (by show (((fr1.set _ _).set _ _).set _ _).length ≤ _; simp only [List.length_set]; exact Nat.le_max_left _ _) (G0.put2 b ob' r orr') G8 _ w2 hmm hl8 hM8 hr10
      rw [wpList_strip (Nat.le_max_right _ _)] at hx
      refine wpList_mono (fun e a w ⟨G', s', h1, h2, h3, h4, h5⟩ => ?_) _ _ _ hx
      cases e with
      | normal =>
        show body.wp _ _ _ _
        refine wp_mono ((show AX Try.prog m body _ s' from h5) (G0.put2 b ob' r orr') G' a w h3 h1 h2 h4) fun e a w ⟨G2, s2, k1, k2, k3, k4, k5⟩ => ?_
        have again : WhX m ds f hp mp (fun st' => I st' (ks.erase k)) (fun _ => 0) (fr.set t7 (lt (.pointer (some ⟨r, 0, none⟩)))) 1 s2 → ∃ k_1, k_1 < ks.length ∧ ∃ (st : σ) (ks : List Int) (orr : Obj) (G : Gh) (d : Nat → Value), k_1 = ks.length ∧ m ≤ (hp st).length ∧ Gh.leb m (G0.put2 b ob' r orr) G ∧ MOK (G0.put2 b ob' r orr).kp G (mp st) ∧ Rst G ⟨updS (deadS (fr.set t7 ptr) (fun i => lt (d i)) ds) (f st), hp st⟩ a w ∧ (∀ w : World, w.heap[b]? = some ob' → w.heap[r]? = some orr → IRng w b r n F ks) ∧ ks.Nodup ∧ I st ks := fun hw => by
          rw [hpt] at hw
          obtain ⟨G3, s3, l1, l2, l3, l4, st', d', rfl, hI', _⟩ := (show LeadX m s2 _ from hw) _ G2 a w k3 k1 k2 k4
          exact ⟨(ks.erase k).length, by rw [List.length_erase_of_mem hk]; have := List.length_pos_of_mem hk; omega, st', ks.erase k, orr', G3, d', rfl, l3, l1, l2, l4, hg', hnd.erase k, hI'⟩
        cases e with
        | normal => exact again k5
        | exit id =>
          show (if id = x1 then _ else _)
          have k5' : (if id = x1 then _ else _) := k5
          by_cases h1 : id = x1
          · rw [if_pos h1] at k5' ⊢; exact again k5'
          · rw [if_neg h1] at k5' ⊢
            have k6 : (if id = x0 then Q .normal s2 else Q (.exit id) s2) := k5'
            show (if id = x0 then PostX m G0 Q .normal a w else PostX m G0 Q (.exit id) a w)
            by_cases h0 : id = x0
            · rw [if_pos h0] at k6 ⊢; exact ⟨G2, s2, put2_leb k1 c1 hK0r, k2.out, k3, k4, k6⟩
            · rw [if_neg h0] at k6 ⊢; exact ⟨G2, s2, put2_leb k1 c1 hK0r, k2.out, k3, k4, k6⟩
        | goto l => exact ⟨G2, s2, put2_leb k1 c1 hK0r, k2.out, k3, k4, k5⟩
        | ret => exact ⟨G2, s2, put2_leb k1 c1 hK0r, k2.out, k3, k4, k5⟩
        | panic ch => exact ⟨G2, s2, put2_leb k1 c1 hK0r, k2.out, k3, k4, k5⟩
        | outgrown => exact ⟨G2, s2, put2_leb k1 c1 hK0r, k2.out, k3, k4, k5⟩
      | _ => exact h5.elim
theorem XRes_onil {fr : List AV} {H : AHeap} {M : MS} {l : List Oper} {Q : Exit → XS → Prop} (i t sz : Nat) (hi : fr[i]? = some (lt (.slice none 0 0))) (h : XRes P m Q (l, ⟨fr.set i (.osl H.length 0 0 sz), H ++ [some ⟨t, []⟩], M⟩)) : XRes P m Q (l, ⟨fr, H, M⟩) :=
  XRes_lead (S := fun s1 => s1 = ⟨fr.set i (.osl H.length 0 0 sz), H ++ [some ⟨t, []⟩], M⟩) (.of (.nil i t sz hi rfl)) fun s' e _ => by rw [e]; exact h
theorem rng_step {ys ks : List Int} {k : Int} (hk : k ∈ ks) : (ys ++ [k] ++ ks.erase k).Perm (ys ++ ks) := by
  rw [List.append_assoc]; exact (List.perm_cons_erase hk).symm.append_left ys
end
end Go.Proofs.Ytmjkhjebeebahaa
namespace Go.Proofs.Ytmjkhjebeebahaa
open Go.RowKit
set_option linter.unusedVariables false
set_option linter.unusedSimpArgs false
/-- The contract: K is what stood still ahead of all own maps. -/
structure SX (P : Program) (f : FuncId) (args : List AV) (H : AHeap) (M : MS) (Q : AV → AHeap → MS → Prop) : Prop where
  callable : Callable P f
  calls : ∀ (K : Nat → Option Obj) (G : Gh) (w : World) (vs : List Value), (∀ b x, K b = some x → G.kp b = some x) → MOK K G M → Inv G H w → RL H.length G args vs → Calls P f vs.toArray w fun e w' => ∃ v r G' H' M', e = .returned v ∧ Gh.leb H.length { G with kp := K } G' ∧ MOK K G' M' ∧ H.length ≤ H'.length ∧ Inv G' H' w' ∧ RA H'.length G' r v ∧ Q r H' M'
theorem SX.mono {P : Program} {f : FuncId} {args : List AV} {H : AHeap} {M : MS} {Q Q' : AV → AHeap → MS → Prop} (h : SX P f args H M Q) (hq : ∀ r H' M', Q r H' M' → Q' r H' M') : SX P f args H M Q' :=
  ⟨h.callable, fun K G w vs hk hm hi hr => (h.calls K G w vs hk hm hi hr).mono fun e w' ⟨v, r, G', H', M', h1, h2, h3, h4, h5, h6, h7⟩ => ⟨v, r, G', H', M', h1, h2, h3, h4, h5, h6, hq _ _ _ h7⟩⟩
section
variable {P : Program} {tt : TT} {m : Nat} {Q : Exit → XS → Prop} {fr : List AV} {H : AHeap} {M : MS} {l : List Oper} {o : Oper}
def bodyXM (P : Program) (fn : Func) (load : AHeap → TypeId → AV → Option AV) (Q : AV → AHeap → MS → Prop) : Exit → XS → Prop
  | .normal, s | .ret, s => ∃ r, aresults P fn s.as (load s.H) = some r ∧ Q r s.H s.M
  | _, _ => False
theorem SX_of_body {f : FuncId} {fn : Func} {c : Code} {args : List AV} {H : AHeap} {M : MS} {Q : AV → AHeap → MS → Prop} (load : AHeap → TypeId → AV → Option AV) (hl : ∀ H, LoadOk P H (load H)) (hf : P.funcs[f]? = some fn) (hb : fn.body = some c) (hname : (fn.name == "runtime.NumGoroutine") = false)
    (h : AX P H.length c (bodyXM P fn load Q) ⟨args ++ List.replicate (fn.ntmps - args.length) uD, H, M⟩) : SX P f args H M Q := by
  refine ⟨⟨fn, hf, hname, by rw [hb]; rfl⟩, fun K G w vs hk hm hi hr => ?_⟩
  refine calls_of_wp hf hb ?_
  refine wp_mono (h { G with kp := K } G _ w (Nat.le_refl _) ⟨fun _ _ _ => rfl, fun _ _ _ => rfl, fun _ _ h => h, fun _ _ h => h, fun _ _ h => h, hk, fun b x y _ e => ⟨y, e⟩, rfl, rfl, rfl⟩ hm ⟨rfl, ?_, hi⟩) ?_
  · simp only [Array.toList_append, Array.toList_replicate]
    refine RL.append hr ⟨by simp [hr.1], fun i x v h1 h2 => ?_⟩
    rw [List.getElem?_replicate] at h1 h2
    split at h1 <;> split at h2 <;> simp_all
    subst h1 h2
    exact .iv _ _ (.lit _)
  · rintro e a w' ⟨G', s', hleb, hM', hn, hr', hq⟩
    cases e with
    | normal =>
      obtain ⟨r, h1, h2⟩ := hq
      obtain ⟨v, h3, h4⟩ := aresults_run (hl _) hr' h1
      exact ⟨hr'.defers, v, h3, v, r, G', s'.H, s'.M, rfl, hleb, hM', hn, hr'.inv, h4, h2⟩
    | ret =>
      obtain ⟨r, h1, h2⟩ := hq
      obtain ⟨v, h3, h4⟩ := aresults_run (hl _) hr' h1
      exact ⟨hr'.defers, v, h3, v, r, G', s'.H, s'.M, rfl, hleb, hM', hn, hr'.inv, h4, h2⟩
    | _ => exact hq.elim
/-- What is told without any map. -/
theorem SX.of {f : FuncId} {args : List AV} {Q : AV → AHeap → Prop} (h : SF P f args H Q) : SX P f args H M fun r H' M' => Q r H' ∧ M' = M :=
  ⟨h.callable, fun K G w vs hk hm hi hr => (h.calls G w vs hi hr).mono fun e w' ⟨v, r, G', H', h1, h2, h3, h4, h5, h6⟩ =>
    ⟨v, r, G', H', M, h1, ⟨fun o ho hd => h2.mu o hd, fun o ho hd => h2.sz o hd, fun o ho hd => h2.dom o hd, h2.back, h2.fz, fun b x e => h2.kp b x (hk b x e), fun b x y e f => h2.new b x y (hk b x e) f, h2.os, h2.tape, h2.output⟩, hm.leb (h2.leb (Nat.le_refl _)), h3, h4, h5, h6, rfl⟩⟩
/-- Where no map was handed over: what is handed back needs none. -/
theorem SX.sf {f : FuncId} {args : List AV} {Q : AV → AHeap → MS → Prop} (h : SX P f args H [] Q) : SF P f args H fun r H' => ∃ M', Q r H' M' :=
  ⟨h.callable, fun G w vs hi hr => (h.calls G.kp G w vs (fun _ _ e => e) (.nil _ _) hi hr).mono fun e w' ⟨v, r, G', H', M', h1, h2, h3, h4, h5, h6, h7⟩ =>
    ⟨v, r, G', H', h1, h2.le hi.dom, h4, h5, h6, M', h7⟩⟩
theorem leb_call {G0 G G' : Gh} (hm : m ≤ H.length) (hl : Gh.leb m G0 G) (h : Gh.leb H.length { G with kp := G0.kp } G') : Gh.leb m G0 G' :=
  Gh.leb.trans (b := { G with kp := G0.kp }) ⟨hl.mu, hl.sz, hl.dom, hl.back, hl.fz, fun _ _ e => e, hl.new, hl.os, hl.tape, hl.output⟩
    ⟨fun o ho => h.mu o (Nat.lt_of_lt_of_le ho hm), fun o ho => h.sz o (Nat.lt_of_lt_of_le ho hm), fun o ho => h.dom o (Nat.lt_of_lt_of_le ho hm), fun o ho => h.back o (Nat.lt_of_lt_of_le ho hm), h.fz, h.kp, h.new, h.os, h.tape, h.output⟩
theorem RL.kpany {n : Nat} {G : Gh} {kp : Nat → Option Obj} {xs : List AV} {vs : List Value} (h : RL n G xs vs) : RL n { G with kp := kp } xs vs := ⟨h.1, fun i x v e e' => (h.2 i x v e e').kpany⟩
theorem Rst.call {G0 G G' : Gh} {s : AS} {H' : AHeap} {a : Act} {w w' : World} {x : AV} {v : Value} {kp : Nat → Option Obj} (hr : Rst G s a w) (h : Gh.leb s.H.length { G with kp := kp } G') (hn : s.H.length ≤ H'.length) (hi : Inv G' H' w') (hx : RA H'.length G' x v) (d : Option Tmp) : Rst G' ⟨putL s.fr d x, H'⟩ (a.put d v) w' := by
  have hle : Gh.le s.H.length { G with kp := kp } G' := h.le hr.inv.dom
  have hfr : RL H'.length G' s.fr a.tmps.toList := (RL.kpany (kp := kp) hr.fr).mono hle hn
  refine ⟨?_, ?_, hi⟩
  · cases d <;> exact hr.defers
  · cases d with
    | none => exact hfr
    | some d =>
      simp only [putL, Act.put, Array.toList_setIfInBounds]
      exact hfr.set d hx
/-- What is told of the end may be told behind a change of words. -/
theorem AX_late {c : Code} {s : XS} (h : AX P m c (fun e s => LeadX m s (Q e)) s) : AX P m c Q s := fun G0 G a w hm hl hM hr =>
  wp_mono (h G0 G a w hm hl hM hr) fun e a w ⟨G', s', h1, h2, h3, h4, h5⟩ => h5 G0 G' a w h3 h1 h2 h4
theorem SF_of_bodyL {f : FuncId} {fn : Func} {c : Code} {args : List AV} {H : AHeap} {Q : AV → AHeap → Prop} (load : AHeap → TypeId → AV → Option AV) (hl : ∀ H, LoadOk P H (load H)) (hf : P.funcs[f]? = some fn) (hb : fn.body = some c) (hname : (fn.name == "runtime.NumGoroutine") = false)
    (h : AX P H.length c (fun e s => LeadX H.length s (bodyX P fn load Q e)) ⟨args ++ List.replicate (fn.ntmps - args.length) uD, H, []⟩) : SF P f args H Q := SF_of_bodyX load hl hf hb hname (AX_late h)
theorem SX_of_bodyL {f : FuncId} {fn : Func} {c : Code} {args : List AV} {H : AHeap} {M : MS} {Q : AV → AHeap → MS → Prop} (load : AHeap → TypeId → AV → Option AV) (hl : ∀ H, LoadOk P H (load H)) (hf : P.funcs[f]? = some fn) (hb : fn.body = some c) (hname : (fn.name == "runtime.NumGoroutine") = false)
    (h : AX P H.length c (fun e s => LeadX H.length s (bodyXM P fn load Q e)) ⟨args ++ List.replicate (fn.ntmps - args.length) uD, H, M⟩) : SX P f args H M Q := SX_of_body load hl hf hb hname (AX_late h)
theorem lead_drop {fr : List AV} {S : XS → Prop} (sel ds : List Nat) (H1 : AHeap) (hs1 : sel.Nodup) (hs2 : sel.all (fun p => decide (m ≤ p)) = true) (hH : okH (named m sel) (H.take m ++ sel.map (atH H)) = true) (hF : okF (named m sel) ds 0 fr = true)
    (hh : selH m sel H = H1) (h : ∀ d : Nat → AV, S ⟨deadS (fr.map (AV.rn (newNo m sel))) d ds, H1, M⟩) : LeadX m ⟨fr, H, M⟩ S :=
  LeadX.of (.ren sel ds hs1 hs2 hH hF fun d => by rw [hh]; exact h _)
theorem XRes_callvX {d : Option Tmp} {fo : Operand} {args : Array Operand} {tys : Array TypeId} {ty : TypeId} {pos : String} {after : Array Edge} {g : Option (Nat × Bool)}
    (hw : wantedS fr ⟨d, .call { callee := .value fo, args := args, argTypes := tys }, ty, pos, after, g⟩ = some true)
    {f : FuncId} {first caps : List AV} (hf : AS.ev ⟨fr, H⟩ fo = .fn f first caps) {K : AV → AHeap → MS → Prop} (hc : SX P f (first ++ args.toList.map (AS.ev ⟨fr, H⟩) ++ caps) H M K)
    (h : ∀ r H' M', K r H' M' → XRes P m Q (l, ⟨putL fr d r, H', M'⟩)) : XRes P m Q (⟨d, .call { callee := .value fo, args := args, argTypes := tys }, ty, pos, after, g⟩ :: l, ⟨fr, H, M⟩) := fun n hn G0 G a w hm hl hM hr => by
  unfold wpList
  rw [if_pos (hr.wanted (ops := idB n) (b := true) (by rw [wantedS_ok hn]; exact hw))]
  refine .inl ?_
  have hfe := hr.ev fo
  rw [hf] at hfe
  generalize hfv : a.eval fo = fv at hfe
  cases hfe with
  | fn _ _ _ vs us h1 h2 h3 h4 =>
    have hargs : RL H.length G (first ++ args.toList.map (AS.ev ⟨fr, H⟩) ++ caps) (vs ++ args.toList.map a.eval ++ us) := RL.append (RL.append ⟨h1, h3⟩ (AS.args hr _)) ⟨h2, h4⟩
    have hrun : (execOp a.eval ⟨d, .call { callee := .value fo, args := args, argTypes := tys }, ty, pos, after, g⟩).run P w = .ok (.enter f (vs ++ args.toList.map a.eval ++ us).toArray) w := by
      have e : (vs ++ args.toList.map a.eval ++ us).toArray = vs.toArray ++ args.map a.eval ++ us.toArray := by
        apply Array.toList_inj.1; simp
      rw [e]
      simp [execOp, resolve, hfv, Deferred.ofValue, invoke, run_enter hc.callable]
    unfold Oper.wp
    rw [hrun]
    refine (hc.calls G0.kp G w _ hl.kp hM hr.inv hargs).mono fun e w' hp => ?_
    obtain ⟨v, r, G', H', M', rfl, hle, hM', hn', hi, hx, hk⟩ := hp
    exact h r H' M' hk n (by show (putL _ _ _).length ≤ n; rw [putL_len]; exact hn) G0 G' _ w' (Nat.le_trans hm hn') (leb_call hm hl hle) hM' (hr.call (G0 := G0) hle hn' hi hx d)
theorem XRes_fnX {d : Option Tmp} {f : FuncId} {args : Array Operand} {tys : Array TypeId} {ty : TypeId} {pos : String} {after : Array Edge} {g : Option (Nat × Bool)}
    (hw : wantedS fr ⟨d, .call { callee := .value (.func f), args := args, argTypes := tys }, ty, pos, after, g⟩ = some true) {K : AV → AHeap → MS → Prop} (hc : SX P f (args.toList.map (AS.ev ⟨fr, H⟩)) H M K)
    (h : ∀ r H' M', K r H' M' → XRes P m Q (l, ⟨putL fr d r, H', M'⟩)) : XRes P m Q (⟨d, .call { callee := .value (.func f), args := args, argTypes := tys }, ty, pos, after, g⟩ :: l, ⟨fr, H, M⟩) :=
  XRes_callvX hw rfl (by simpa using hc) h
theorem XRes_slotX {d : Option Tmp} {t : Tmp} {args : Array Operand} {tys : Array TypeId} {ty : TypeId} {pos : String} {after : Array Edge} {g : Option (Nat × Bool)}
    (hw : wantedS fr ⟨d, .call { callee := .value (.tmp t), args := args, argTypes := tys }, ty, pos, after, g⟩ = some true)
    {f : FuncId} {first caps : List AV} (hf : fr[t]? = some (.fn f first caps)) {K : AV → AHeap → MS → Prop} (hc : SX P f (first ++ args.toList.map (AS.ev ⟨fr, H⟩) ++ caps) H M K)
    (h : ∀ r H' M', K r H' M' → XRes P m Q (l, ⟨putL fr d r, H', M'⟩)) : XRes P m Q (⟨d, .call { callee := .value (.tmp t), args := args, argTypes := tys }, ty, pos, after, g⟩ :: l, ⟨fr, H, M⟩) :=
  XRes_callvX hw (by show fr.getD t uD = _; rw [List.getD_eq_getElem?_getD, hf]; rfl) hc h
end
end Go.Proofs.Ytmjkhjebeebahaa
