import Derived.Test.YtghdacijcnmhlaaDoorMgAI
namespace Go.Proofs.YtghdacijcnmhlaaDoor
open Go.RowKit
set_option linter.unusedVariables false
set_option linter.unusedSimpArgs false
section
variable {P : Program} {tt : TT} {m : Nat} {Q : Exit → XS → Prop} {fr : List AV} {H : AHeap} {M : MS} {l : List Oper} {o : Oper} {n0 : Nat} {us : List Nat} {H0 Hc : AHeap} {K : List AV → AHeap → Prop} {al : List Kd}
theorem ADR_id1 {p : List Oper × List Kd × List AV} (h : ADR P n0 us H0 K Hc p) : ADR P n0 us H0 K Hc p := h
theorem ADR_free1 (hT : TyOK P tt) (hr : freeOp o.op = true) (hw : wantedS fr o = some true) (h : match aop tt ⟨fr, H0⟩ o with | some (x, _) => ADR P n0 us H0 K Hc (l, al, putL fr o.dst x) | none => False) : ADR P n0 us H0 K Hc (o :: l, .free :: al, fr) := fun n hn => by
  cases hx : aop tt ⟨fr, H0⟩ o with
  | none => rw [hx] at h; exact h.elim
  | some p =>
    obtain ⟨x, H'⟩ := p
    rw [hx] at h
    have := aop_ro (ro_of_free hr) hx
    subst this
    exact ⟨x, Hc, none, .free x (wanted_iff hn hw) fun H => does_aop hT (aop_free hr hx), h n (by show (putL _ _ _).length ≤ n; rw [putL_len]; exact hn)⟩
theorem ADR_read1 (hT : TyOK P tt) (hr : roOp o.op = true) (hw : wantedS fr o = some true) (h : match aop tt ⟨fr, H0⟩ o with | some (x, _) => ADR P n0 us H0 K Hc (l, al, putL fr o.dst x) | none => False) : ADR P n0 us H0 K Hc (o :: l, .read :: al, fr) := fun n hn => by
  cases hx : aop tt ⟨fr, H0⟩ o with
  | none => rw [hx] at h; exact h.elim
  | some p =>
    obtain ⟨x, H'⟩ := p
    rw [hx] at h
    have := aop_ro hr hx
    subst this
    exact ⟨x, Hc, none, .pure x (wanted_iff hn hw) fun H hs => does_aop hT (aop_mono hs hr hx), h n (by show (putL _ _ _).length ≤ n; rw [putL_len]; exact hn)⟩
theorem ADR_chg1 (hT : TyOK P tt) (hw : wantedS fr o = some true) (h : match aop tt ⟨fr, Hc⟩ o with | some (x, H') => Hc.length ≤ H'.length ∧ ADR P n0 us H0 K H' (l, al, putL fr o.dst x) | none => False) : ADR P n0 us H0 K Hc (o :: l, .chg :: al, fr) := fun n hn => by
  cases hx : aop tt ⟨fr, Hc⟩ o with
  | none => rw [hx] at h; exact h.elim
  | some p =>
    obtain ⟨x, H'⟩ := p
    rw [hx] at h
    exact ⟨x, H', none, .chg x H' (wanted_iff hn hw) h.1 (does_aop hT hx), h.2 n (by show (putL _ _ _).length ≤ n; rw [putL_len]; exact hn)⟩
theorem ADR_skip1 {k : Kd} (hk : k.al = false) (hw : wantedS fr o = some false) (h : ADR P n0 us H0 K Hc (l, al, putL fr o.dst uD)) : ADR P n0 us H0 K Hc (o :: l, k :: al, fr) := fun n hn =>
  ⟨uD, Hc, none, .skip _ hk (wanted_iff hn hw), h n (by show (putL _ _ _).length ≤ n; rw [putL_len]; exact hn)⟩
theorem ADR_grow1 (hT : TyOK P tt) {x : AV} {new : AHeap} (hw : wantedS fr o = some true) (ha : ∀ H : AHeap, H.length = Hc.length → aop tt ⟨fr, H⟩ o = some (x, H ++ new)) (h : ADR P n0 us H0 K (Hc ++ new) (l, al, putL fr o.dst x)) : ADR P n0 us H0 K Hc (o :: l, .grow :: al, fr) := fun n hn =>
  ⟨x, Hc ++ new, none, .grow x new (wanted_iff hn hw) fun H _ hl => does_aop hT (ha H hl), h n (by show (putL _ _ _).length ≤ n; rw [putL_len]; exact hn)⟩
theorem ADR_alloc1 (hT : TyOK P tt) {e : TypeId} {d : Option Tmp} {ty : TypeId} {pos : String} {after : Array Edge} {g : Option (Nat × Bool)} (hw : wantedS fr ⟨d, .alloc e, ty, pos, after, g⟩ = some true)
    (h : match tt e with | some r => (r.zero.map lt).all AV.one = true ∧ ADR P n0 us H0 K (Hc ++ [some ⟨e, r.zero.map lt⟩]) (l, al, putL fr d (.optr Hc.length 0)) | none => False) : ADR P n0 us H0 K Hc (⟨d, .alloc e, ty, pos, after, g⟩ :: l, .grow :: al, fr) := by
  cases hr : tt e with
  | none => rw [hr] at h; exact h.elim
  | some r =>
    rw [hr] at h
    exact ADR_grow1 hT hw (fun H hl => by simp only [aop, hr, abox, if_pos h.1, hl]) h.2
def effOp : Op → Bool
  | .alloc _ | .box _ _ | .buildSlice _ _ _ | .store _ _ _ | .makeSlice _ _ _ | .mapUpdate _ _ _ _ | .makeMap _ _ | .lookup _ _ _ _ => true
  | .call c => match c.callee with
    | .builtin .append | .builtin .delete => true
    | _ => false
  | _ => false
def preN : List Oper → Nat
  | [] => 0
  | o :: l => if effOp o.op = true then 0 else preN l + 1
theorem AX_drawS (hT : TyOK P tt) (hmx : P.follows .mixedOrders = true) {id : Nat} {ops : List Oper} (al : List Kd) (N : Nat) (k : Nat) (hord : ordOK ops.toArray N al = true)
    (h : ∀ (K : List AV → AHeap → Prop), (∀ F H', XRes P m Q ((ops.drop N).map (strip (dsts ops)), ⟨F, H', M⟩) → K F H') → ADR P H.length [] (extH k H) K (extH k H) ((ops.take N).map (strip (dsts ops)), al, fr)) : AX P m (.region id ops.toArray true) Q ⟨fr, H, M⟩ := fun G0 G a w hm hl0 hM hr => by
  have ord := ord_of hord
  have hN : N ≤ ops.length := by simpa using ord.le_size
  obtain ⟨X, F, Hh, Lf, HF, e1, e2, e3, e4, e5, e6, e7, e8⟩ := (ADS_strip (h (fun F H' => XRes P m Q ((ops.drop N).map (strip (dsts ops)), ⟨F, H', M⟩)) fun _ _ h => h)).fns (Nat.le_refl _)
  have hl : (ops.take N).length = N := by simp [hN]
  rw [hl] at e3 e5 e7
  have st : Steps1 P ops.toArray N _ X F Hh Lf := ⟨fun j o hj ho => by
    have : (ops.take N)[j]? = some o := by rw [List.getElem?_take_of_lt hj]; simpa using ho
    have := e4 j o this
    rw [e2]; exact this⟩
  have hlen := extH_len H k
  have hout : ∀ q, H.length ≤ q → ¬ G.dom q := fun q hq hd => by have := hr.inv.dom q hd; simp at this; omega
  refine wp_region_any hmx ?_
  have key := any_mainR (G0 := G) (n0 := H.length) ord st (R := PostX m G0 Q) (by rw [e2]; exact e5) (HF := HF) e7 (fun G' a' w' hle hn0 hr' => by
    have h3 := e3 (max (F N).length (topD (dsts ops))) (Nat.le_max_left _ _) G0 G' a' w' (by show m ≤ HF.length; have : m ≤ H.length := hm; omega) (hl0.trans (hle.leb hm)) (hM.leb (hle.leb hm)) hr'
    have h4 : wpList P (idB (max (F N).length (topD (dsts ops)))) (PostX m G0 Q) ((ops.drop N).map (strip (dsts ops))) a' w' := h3
    rw [wpList_strip (Nat.le_max_right _ _)] at h4
    simpa using h4) ops.toArray.size (Array.replicate ops.toArray.size false) a { w with drawn := w.drawn + 1 } G 0 (extH k H) ?_ (fun j q obj h1 h2 _ => hout q (e5.none j q obj h1 h2).2) ?_ ?_ ?_ hr.defers ?_ (Nat.zero_le _) ?_ ?_ (Gh.le.refl _ _) ?_
  · exact key
  · rw [e2]
    refine ⟨rfl, fun _ _ => rfl, fun j q obj h1 h2 => ?_⟩
    rw [(e5.none j q obj h1 h2).1]; simp [Array.getD]
  · simp [left]
  · refine ⟨by simp, fun j hj => ?_⟩
    simp [Array.getD] at hj
  · intro j hj; simp [Array.getD]
  · refine ⟨by rw [e1]; have := hr.fr.1; simp at this; exact this.symm, fun t j ht hj hl => ?_, fun t ht _ => ?_⟩
    · simp [Array.getD] at hl
    · rw [e1, e2, arr_getD]; exact (hr.fr.getD t).mono (Gh.le.refl 0 G) (by show H.length ≤ (extH k H).length; omega)
  · intro j hj ha
    simp [Array.getD]
  · exact (hr.inv.extends k).drew
  · rw [e2]; omega
theorem AX_drawG1 (hT : TyOK P tt) (hm : P.follows .mixedOrders = true) {id : Nat} {ops : List Oper} (hp : (preN ops == ops.length) = true) (hord : ordOK ops.toArray ops.length (alG ops) = true)
    (h : ∀ (K : List AV → AHeap → Prop), (∀ F H', Q .normal ⟨F, H', M⟩ → K F H') → ADF P H K (ops.map (strip (dsts ops)), fr)) : AX P m (.region id ops.toArray true) Q ⟨fr, H, M⟩ := AX_drawG hT hm hord h
theorem AX_drawT (hT : TyOK P tt) (hmx : P.follows .mixedOrders = true) {id : Nat} {ops : List Oper} (hord : ordOK ops.toArray (preN ops) (alG (ops.take (preN ops))) = true)
    (h : ∀ (K : List AV → AHeap → Prop), (∀ F H', XRes P m Q ((ops.drop (preN ops)).map (strip (dsts ops)), ⟨F, H', M⟩) → K F H') → ADF P H K ((ops.take (preN ops)).map (strip (dsts ops)), fr)) : AX P m (.region id ops.toArray true) Q ⟨fr, H, M⟩ :=
  AX_drawS hT hmx (alG (ops.take (preN ops))) (preN ops) 0 hord fun K hK => by
    have e : alG (ops.take (preN ops)) = alG ((ops.take (preN ops)).map (strip (dsts ops))) := by unfold alG; rw [List.map_map]; rfl
    rw [e]
    exact h K hK
theorem AX_drawA (hT : TyOK P tt) (hmx : P.follows .mixedOrders = true) {id : Nat} {ops : List Oper} (hord : ordOK ops.toArray ops.length (alD ops) = true)
    (h : ∀ (K : List AV → AHeap → Prop), (∀ F H', Q .normal ⟨F, H', M⟩ → K F H') → ADR P H.length [] H K H (ops.map (strip (dsts ops)), alD ops, fr)) : AX P m (.region id ops.toArray true) Q ⟨fr, H, M⟩ :=
  AX_drawS hT hmx (alD ops) ops.length 0 hord fun K hK => by
    rw [List.take_length]
    exact h K fun F H' hq => hK F H' (by rw [List.drop_length]; exact XRes_nil hq)
end
end Go.Proofs.YtghdacijcnmhlaaDoor
namespace Go.Proofs.YtghdacijcnmhlaaDoor
open Go.RowKit
set_option linter.unusedVariables false
set_option linter.unusedSimpArgs false
inductive Op3 (P : Program) (m : Nat) (G0 : Gh) (ops : Array Oper) (H : AHeap) (o : Oper) (fr : List AV) (M M' : MS) : AV → Bool → Prop
  | skip : M' = M → AS.wanted ⟨fr, H⟩ ops o = some false → Op3 P m G0 ops H o fr M M' uD false
  | does (x : AV) : M' = M → AS.wanted ⟨fr, H⟩ ops o = some true → Does P ops o fr H x H → Op3 P m G0 ops H o fr M M' x false
  | turn (x : AV) : AS.wanted ⟨fr, H⟩ ops o = some true → (∀ (Q : Exit → Act → World → Prop) (G : Gh) (a : Act) (w : World) (K : Act → World → Prop), Gh.leb m G0 G → MOK G0.kp G M → Inv G H w → Looks ops o H.length G fr a →
      (∀ kp' v w', Gh.leb m G0 { G with kp := kp' } → MOK G0.kp { G with kp := kp' } M' → Inv { G with kp := kp' } H w' → RA H.length G x v → K (a.put o.dst v) w') → o.wp P a w K Q) → Op3 P m G0 ops H o fr M M' x true
structure Steps3 (P : Program) (m : Nat) (G0 : Gh) (ops : Array Oper) (H : AHeap) (al : List Kd) (X : Nat → AV) (F : Nat → List AV) (Mk : Nat → MS) : Prop where
  ok : ∀ k o, ops[k]? = some o → Op3 P m G0 ops H o (F k) (Mk k) (Mk (k + 1)) (X k) (al.getD k .free).al ∧ F (k + 1) = putL (F k) o.dst (X k)
section
variable {P : Program} {m : Nat} {G0 : Gh} {ops : Array Oper} {H : AHeap} {al : List Kd} {X : Nat → AV} {F : Nat → List AV} {Mk : Nat → MS}
theorem Steps3.len (h : Steps3 P m G0 ops H al X F Mk) : ∀ k, k ≤ ops.size → (F k).length = (F 0).length
  | 0, _ => rfl
  | k + 1, hk => by
    obtain ⟨_, h2⟩ := h.ok k _ (Array.getElem?_eq_getElem (by omega))
    rw [h2, ← h.len k (by omega)]
    unfold putL; split <;> simp
theorem Steps3.same (h : Steps3 P m G0 ops H al X F Mk) {k : Nat} (hk : k < ops.size) (ha : (al.getD k .free).al = false) : Mk (k + 1) = Mk k := by
  obtain ⟨h1, _⟩ := h.ok k _ (Array.getElem?_eq_getElem hk)
  rw [ha] at h1
  generalize X k = x at h1
  cases h1 with
  | skip e => exact e
  | does _ e => exact e
theorem Steps3.flat (h : Steps3 P m G0 ops H al X F Mk) {c : Nat} : ∀ d, c + d ≤ ops.size → (∀ i, c ≤ i → i < c + d → (al.getD i .free).al = false) → Mk (c + d) = Mk c
  | 0, _, _ => rfl
  | d + 1, hd, ha => by
    rw [← h.flat d (by omega) fun i h1 h2 => ha i h1 (by omega)]
    exact h.same (show c + d < ops.size by omega) (ha (c + d) (by omega) (by omega))
theorem Steps3.slot (h : Steps3 P m G0 ops H al X F Mk) {t : Nat} (ht : t < (F 0).length) : ∀ k, k ≤ ops.size →
    (∀ i, i < k → dstAt ops i = some t → (∀ q, i < q → q < k → dstAt ops q ≠ some t) → (F k).getD t uD = X i) ∧ ((∀ i, i < k → dstAt ops i ≠ some t) → (F k).getD t uD = (F 0).getD t uD)
  | 0, _ => ⟨fun i hi => absurd hi (by omega), fun _ => rfl⟩
  | k + 1, hk => by
    have hlt : k < ops.size := by omega
    obtain ⟨ih1, ih2⟩ := h.slot ht k (by omega)
    have hl := h.len k (by omega)
    obtain ⟨_, h2⟩ := h.ok k _ (Array.getElem?_eq_getElem hlt)
    have hd : dstAt ops k = (ops[k]).dst := by unfold dstAt; rw [Array.getElem?_eq_getElem hlt]; rfl
    rw [h2]
    have key : (putL (F k) (ops[k]).dst (X k)).getD t uD = if dstAt ops k = some t then X k else (F k).getD t uD := by
      rw [hd]
      unfold putL
      split
      · rename_i d he
        rw [he]
        by_cases e : d = t
        · subst e
          rw [if_pos rfl, List.getD_eq_getElem?_getD, List.getElem?_set_self (by rw [hl]; exact ht)]; rfl
        · rw [if_neg (by simpa using e), List.getD_eq_getElem?_getD, List.getElem?_set_ne e, List.getD_eq_getElem?_getD]
      · rename_i he; rw [he, if_neg (by simp)]
    rw [key]
    constructor
    · intro i hi he hno
      split
      · rename_i hk2
        rcases Nat.lt_or_ge i k with h3 | h3
        · exact absurd hk2 (hno k h3 (by omega))
        · have : i = k := by omega
          subst this; rfl
      · rename_i hk2
        have hik : i < k := by
          rcases Nat.lt_or_ge i k with h3 | h3
          · exact h3
          · have : i = k := by omega
            subst this; exact absurd he hk2
        exact ih1 i hik he fun q h3 h4 => hno q h3 (by omega)
    · intro hno
      rw [if_neg (hno k (by omega))]
      exact ih2 fun i hi => hno i (by omega)
theorem Sl.at3 (h : Steps3 P m G0 ops H al X F Mk) {n : Nat} {G : Gh} {listed : Array Bool} {a : Act} (hs : Sl ops ops.size X F n G listed a) {k : Nat} (hk : k ≤ ops.size) (t : Nat) (h1 : ∀ i, i < k → dstAt ops i = some t → listed.getD i false = true) (h2 : ∀ i, k ≤ i → i < ops.size → dstAt ops i = some t → listed.getD i false = false) :
    RA n G ((F k).getD t uD) (a.tmps.getD t undef) := by
  by_cases ht : t < (F 0).length
  · obtain ⟨s1, s2⟩ := h.slot ht k hk
    by_cases hex : ∃ i, i < k ∧ dstAt ops i = some t
    · obtain ⟨i, h3, h4, h5⟩ := last_such _ k hex
      rw [s1 i h3 h4 fun q h6 h7 => h5 q h6 h7]
      refine hs.wr t i ht (by omega) (h1 i h3 h4) h4 fun q h6 h7 h8 h9 => ?_
      rcases Nat.lt_or_ge q k with h10 | h10
      · exact h5 q h6 h10 h9
      · rw [h2 q h10 h7 h9] at h8; cases h8
    · have hno : ∀ i, i < k → dstAt ops i ≠ some t := fun i hi e => hex ⟨i, hi, e⟩
      rw [s2 hno]
      refine hs.un t ht fun j hj hl e => ?_
      rcases Nat.lt_or_ge j k with h10 | h10
      · exact hno j h10 e
      · rw [h2 j h10 hj e] at hl; cases hl
  · have e1 : (F k).getD t uD = uD := by rw [List.getD_eq_getElem?_getD, List.getElem?_eq_none (by rw [h.len k hk]; omega)]; rfl
    have e2 : a.tmps.getD t undef = undef := by
      have := hs.size
      simp [Array.getD, show ¬ t < a.tmps.size by omega]
    rw [e1, e2]; exact .iv _ _ (.lit _)
theorem Sl.kp {N n : Nat} {G : Gh} {listed : Array Bool} {a : Act} (h : Sl ops N X F n G listed a) (kp' : Nat → Option Obj) : Sl ops N X F n { G with kp := kp' } listed a :=
  ⟨h.size, fun t j h1 h2 h3 h4 h5 => (h.wr t j h1 h2 h3 h4 h5).kpany, fun t h1 h2 => (h.un t h1 h2).kpany⟩
theorem any3 (ord : Ord ops ops.size al) (h : Steps3 P m G0 ops H al X F Mk) (hm : m ≤ H.length) {R : Exit → Act → World → Prop} (fin : ∀ G a w, Gh.leb m G0 G → MOK G0.kp G (Mk ops.size) → Rst G ⟨F ops.size, H⟩ a w → R .normal a w) : ∀ (fuel : Nat) (listed : Array Bool) (a : Act) (w : World) (G : Gh) (c : Nat),
    fuel = left listed → Closed ops listed → a.defers = [] → Sl ops ops.size X F H.length G listed a → c ≤ ops.size → (∀ j, j < ops.size → (al.getD j .free).al = true → (listed.getD j false = true ↔ j < c)) → Inv G H w → Gh.leb m G0 G → MOK G0.kp G (Mk c) →
    wpAny P .any ops R fuel listed a w := by
  intro fuel
  induction fuel with
  | zero =>
    intro listed a w G c hf hc hd hs hcN hal hi hl hM
    have hall : ∀ j, j < ops.size → listed.getD j false = true := fun j hj => left_zero hf.symm (by rw [hc.1]; exact hj)
    have hready : Region.ready .any ops listed = [] := by
      cases hr : Region.ready .any ops listed with
      | nil => rfl
      | cons j js =>
        obtain ⟨h1, h2, _⟩ := (ready_spec hc.1).1 (hr ▸ List.mem_cons_self : j ∈ Region.ready .any ops listed)
        rw [hall j h1] at h2; cases h2
    refine ⟨hready, ?_⟩
    have hflat : Mk ops.size = Mk c := by
      have := h.flat (c := c) (ops.size - c) (by omega) (fun i h1 h2 => by
        cases hb : (al.getD i .free).al with
        | false => rfl
        | true => exact absurd ((hal i (by omega) hb).1 (hall i (by omega))) (by omega))
      rwa [show c + (ops.size - c) = ops.size by omega] at this
    refine fin G a w hl (by rw [hflat]; exact hM) ⟨hd, ⟨by rw [h.len _ (Nat.le_refl _)]; simp [hs.size], fun i x v e1 e2 => ?_⟩, hi⟩
    have := hs.at3 h (Nat.le_refl _) i (fun q hq _ => hall q hq) (fun q h1 h2 => by omega)
    rw [List.getD_eq_getElem?_getD, e1] at this
    rw [Array.getElem?_toList] at e2
    have e3 : a.tmps.getD i undef = v := by obtain ⟨hlt, rfl⟩ := Array.getElem?_eq_some_iff.1 e2; simp [Array.getD, hlt]
    rw [e3] at this
    exact this
  | succ fuel ih =>
    intro listed a w G c hf hc hd hs hcN hal hi hl hM
    have hne : ∃ j, j < ops.size ∧ listed.getD j false = false := by
      apply Classical.byContradiction
      intro hno
      have hall : ∀ j, j < ops.size → listed.getD j false = true := fun j hj => by
        cases hb : listed.getD j false with
        | true => rfl
        | false => exact absurd ⟨j, hj, hb⟩ hno
      have : left listed = 0 := by
        unfold left
        rw [List.count_eq_zero]
        intro hmem
        obtain ⟨j, hj, e⟩ := List.mem_iff_getElem.1 hmem
        have hj' : j < listed.size := by simpa using hj
        have := hall j (by rw [← hc.1]; exact hj')
        simp [Array.getD, hj'] at this
        simp at e
        rw [this] at e; cases e
      omega
    refine ⟨fun hr => ?_, fun j hj => ?_⟩
    · exfalso
      obtain ⟨q, hq, hq2⟩ := hne
      have : ∀ d q, q = d → q < ops.size → listed.getD q false = false → False := by
        intro d
        induction d using Nat.strongRecOn with
        | _ d ihd =>
          intro q hqd hq hq2
          by_cases hdep : ∀ e ∈ dirs ops q, listed.getD e false = true
          · have := (ready_spec hc.1).2 ⟨hq, hq2, hdep⟩
            rw [hr] at this; cases this
          · rcases Classical.not_forall.1 hdep with ⟨e, he⟩
            obtain ⟨he1, he2⟩ := Classical.not_imp.1 he
            have := ord.low q e he1
            exact ihd e (by omega) e rfl (by omega) (by simpa using he2)
      exact this q q rfl hq hq2
    · obtain ⟨h1, h2, h3⟩ := (ready_spec hc.1).1 hj
      have hoj := Array.getElem?_eq_getElem h1
      obtain ⟨hok, hFs⟩ := h.ok j _ hoj
      have hdj : dstAt ops j = (ops[j]).dst := by unfold dstAt; rw [hoj]; rfl
      have big : ∀ i, j < i → i < ops.size → listed.getD i false = true → ∀ t, dstAt ops i = some t → (t ∈ (ops[j]).looksAt ops ∨ (ops[j]).dst = some t) → False := fun i h4 h5 h6 t h7 h8 => by
        have hoi := Array.getElem?_eq_getElem (show i < ops.size by omega)
        have hdi : (ops[i]'(by omega)).dst = some t := by unfold dstAt at h7; rw [hoi] at h7; exact h7
        have := (ord.names i j _ _ t h5 h1 hoi hoj hdi h8).2 h4
        have := Anc.listed (j := i) (i := j) hc (hc.2 i h6) this
        rw [h2] at this; cases this
      have hlooks : Looks ops (ops[j]) H.length G (F j) a := by
        refine ⟨by rw [h.len j (by omega), hs.size], fun t ht => ?_⟩
        refine hs.at3 h (by omega) t (fun i h4 h5 => ?_) (fun i h4 h5 h6 => ?_)
        · have hoi := Array.getElem?_eq_getElem (show i < ops.size by omega)
          have hdi : (ops[i]'(by omega)).dst = some t := by unfold dstAt at h5; rw [hoi] at h5; exact h5
          exact Anc.listed (j := j) (i := i) hc h3 ((ord.names i j _ _ t (by omega) h1 hoi hoj hdi (.inl ht)).1 h4)
        · rcases Nat.lt_or_ge j i with h7 | h7
          · cases hb : listed.getD i false with
            | false => rfl
            | true => exact (big i h7 h5 hb t h6 (.inl ht)).elim
          · have : i = j := by omega
            subst this; exact h2
      have hbig : ∀ i, j < i → i < ops.size → listed.getD i false = true → dstAt ops i ≠ dstAt ops j ∨ dstAt ops j = none := fun i h4 h5 h6 => by
        cases hd : dstAt ops j with
        | none => exact .inr rfl
        | some t => exact .inl fun e => big i h4 h5 h6 t e (.inr (by rw [← hdj]; exact hd))
      have hleft : fuel = left (listed.setIfInBounds j true) := by
        have := left_set (j := j) (by rw [hc.1]; exact h1) h2; omega
      have hjs : j < listed.size := by rw [hc.1]; exact h1
      have go : ∀ (G' : Gh) (v : Value) (w' : World) (c' : Nat), (∃ lo kp', Gh.le lo { G with kp := kp' } G') → c' ≤ ops.size → (∀ q, q < ops.size → (al.getD q .free).al = true → ((listed.setIfInBounds j true).getD q false = true ↔ q < c')) → Inv G' H w' → Gh.leb m G0 G' → MOK G0.kp G' (Mk c') → RA H.length G' (X j) v →
          wpAny P .any ops R fuel (listed.setIfInBounds j true) (a.put (ops[j]).dst v) w' := fun G' v w' c' ⟨lo, kp', k1⟩ k2 k3 k4 k5 k6 k7 => by
        refine ih _ _ w' G' c' hleft (hc.set hj) (by unfold Act.put; split <;> exact hd) ?_ k2 k3 k4 k5 k6
        rw [← hdj]
        exact (hs.kp kp').put k1 (Nat.le_refl _) h1 hjs k7 hbig
      have same : (al.getD j .free).al = false → ∀ q, q < ops.size → (al.getD q .free).al = true → ((listed.setIfInBounds j true).getD q false = true ↔ q < c) := fun hb q hq ha => by
        rw [getD_set _ _ _ hjs, if_neg (fun e => by subst e; rw [hb] at ha; cases ha)]
        exact hal q hq ha
      unfold wpOp
      rw [hoj]
      simp only
      generalize hX : X j = x at hok go
      generalize hkd : (al.getD j .free).al = kd at hok same
      cases hok with
      | skip _ hw =>
        rw [hlooks.wanted hw]
        exact go G undef w c ⟨0, G.kp, Gh.le.refl _ _⟩ hcN (same rfl) hi hl hM (.iv _ _ (.lit _))
      | does _ _ hw hdoes =>
        rw [if_pos (hlooks.wanted hw)]
        refine .inl ?_
        exact hdoes _ G a w _ hi hlooks fun G' v w' k1 k2 k3 k4 => go G' v w' c ⟨_, G.kp, k1⟩ hcN (same rfl) k3 (hl.trans (k1.leb hm)) (hM.leb (k1.leb hm)) k4
      | turn _ hw hdoes =>
        rw [if_pos (hlooks.wanted hw)]
        refine .inl ?_
        have hcj : ∀ i, i < ops.size → (al.getD i .free).al = true → (listed.getD i false = true ↔ i < j) := fun i h4 h5 => by
          constructor
          · intro h6
            rcases Nat.lt_or_ge i j with h7 | h7
            · exact h7
            · exfalso
              rcases Nat.lt_or_ge j i with h8 | h8
              · have := ord.grows j i h8 h4 h5 hkd
                have := Anc.listed (j := i) (i := j) hc (hc.2 i h6) this
                rw [h2] at this; cases this
              · have : i = j := by omega
                subst this; rw [h2] at h6; cases h6
          · intro h6
            exact Anc.listed (j := j) (i := i) hc h3 (ord.grows i j h6 h1 hkd h5)
        have hMj : Mk j = Mk c := by
          rcases Nat.le_total c j with h4 | h4
          · have := h.flat (c := c) (j - c) (by omega) (fun i h5 h6 => by
              cases hb : (al.getD i .free).al with
              | false => rfl
              | true => have e1 := (hcj i (by omega) hb).2 (by omega); have e2 := (hal i (by omega) hb).1 e1; omega)
            rwa [show c + (j - c) = j by omega] at this
          · have := h.flat (c := j) (c - j) (by omega) (fun i h5 h6 => by
              cases hb : (al.getD i .free).al with
              | false => rfl
              | true => have e1 := (hal i (by omega) hb).2 (by omega); have e2 := (hcj i (by omega) hb).1 e1; omega)
            rw [show j + (c - j) = c by omega] at this
            exact this.symm
        refine hdoes _ G a w _ hl (by rw [hMj]; exact hM) hi hlooks fun kp' v w' k1 k2 k3 k4 => go { G with kp := kp' } v w' (j + 1) ⟨0, kp', Gh.le.refl _ _⟩ (by omega) (fun q hq ha => ?_) k3 k1 k2 k4.kpany
        rw [getD_set _ _ _ hjs]
        split
        · rename_i e; subst e; exact ⟨fun _ => by omega, fun _ => rfl⟩
        · rename_i e
          rw [hcj q hq ha]
          omega
end
end Go.Proofs.YtghdacijcnmhlaaDoor
namespace Go.Proofs.YtghdacijcnmhlaaDoor
open Go.RowKit
set_option linter.unusedVariables false
set_option linter.unusedSimpArgs false
section
variable {P : Program} {m : Nat} {G0 : Gh} {H : AHeap}
def ADM0 (P : Program) (m : Nat) (G0 : Gh) (ops : Array Oper) (H : AHeap) (K : List AV → MS → Prop) : List Oper → List Kd → List AV → MS → Prop
  | [], _, fr, M => K fr M
  | o :: l, al, fr, M => ∃ x M', Op3 P m G0 ops H o fr M M' x (al.headD .free).al ∧ ADM0 P m G0 ops H K l al.tail (putL fr o.dst x) M'
theorem op3_strip {ops : List Oper} {n : Nat} (hn : topD (dsts ops) ≤ n) {o : Oper} {fr : List AV} {M M' : MS} {x : AV} {b : Bool} (h : Op3 P m G0 (idB n) H (strip (dsts ops) o) fr M M' x b) : Op3 P m G0 ops.toArray H o fr M M' x b := by
  cases h with
  | skip e h2 => exact .skip e (by rw [← awanted_strip hn]; exact h2)
  | does x e h1 h2 => exact .does _ e (by rw [← awanted_strip hn]; exact h1) (does_strip hn h2)
  | turn x h1 h2 =>
    refine .turn _ (by rw [← awanted_strip hn]; exact h1) fun Q G a w K hl hM hi hk => ?_
    rw [← wp_strip (dsts ops)]
    exact h2 Q G a w K hl hM hi ⟨hk.1, fun t ht => hk.2 t (by rw [← looks_strip hn]; exact ht)⟩
theorem ADM0_strip {ops : List Oper} {n : Nat} (hn : topD (dsts ops) ≤ n) {K : List AV → MS → Prop} : ∀ {l : List Oper} {al : List Kd} {fr : List AV} {M : MS}, ADM0 P m G0 (idB n) H K (l.map (strip (dsts ops))) al fr M → ADM0 P m G0 ops.toArray H K l al fr M
  | [], al, fr, M, h => h
  | o :: l, al, fr, M, h => by
    obtain ⟨x, M', h1, h2⟩ := h
    exact ⟨x, M', op3_strip hn h1, ADM0_strip hn h2⟩
theorem ADM0.fns {ops : Array Oper} {K : List AV → MS → Prop} : ∀ {l : List Oper} {al : List Kd} {fr : List AV} {M : MS}, ADM0 P m G0 ops H K l al fr M →
    ∃ (X : Nat → AV) (F : Nat → List AV) (Mk : Nat → MS), F 0 = fr ∧ Mk 0 = M ∧ K (F l.length) (Mk l.length) ∧ ∀ j o, l[j]? = some o → Op3 P m G0 ops H o (F j) (Mk j) (Mk (j + 1)) (X j) (al.getD j .free).al ∧ F (j + 1) = putL (F j) o.dst (X j)
  | [], al, fr, M, h => ⟨fun _ => uD, fun _ => fr, fun _ => M, rfl, rfl, h, fun j o e => by simp at e⟩
  | o :: l, al, fr, M, h => by
    obtain ⟨x, M', h1, h2⟩ := h
    obtain ⟨X, F, Mk, e1, e2, e3, e4⟩ := ADM0.fns h2
    refine ⟨consF x X, consF fr F, consF M Mk, rfl, rfl, e3, fun j o' e => ?_⟩
    cases j with
    | zero =>
      simp only [List.getElem?_cons_zero, Option.some.injEq] at e; subst e
      refine ⟨?_, e1⟩
      show Op3 P m G0 ops H o fr M (Mk 0) x (al.getD 0 .free).al
      rw [e2]
      cases al <;> exact h1
    | succ j =>
      simp only [List.getElem?_cons_succ] at e
      have := e4 j o' e
      cases al <;> exact this
def ADX (P : Program) (m : Nat) (H : AHeap) (K : List AV → MS → Prop) (p : List Oper × List Kd × List AV × MS) : Prop := ∀ n, p.2.2.1.length ≤ n → ∀ G0, ADM0 P m G0 (idB n) H K p.1 p.2.1 p.2.2.1 p.2.2.2
def mapOp : Op → Bool
  | .mapUpdate _ _ _ _ | .lookup _ _ _ _ => true
  | .call c => match c.callee with
    | .builtin .delete => true
    | _ => false
  | _ => false
def alM (l : List Oper) : List Kd := l.map fun o => if mapOp o.op = true then .grow else .free
variable {tt : TT} {fr : List AV} {o : Oper} {l : List Oper} {al : List Kd} {K : List AV → MS → Prop} {M : MS}
theorem ADX_nil (h : K fr M) : ADX P m H K ([], al, fr, M) := fun n hn G0 => h
theorem ADX_id {p : List Oper × List Kd × List AV × MS} (h : ADX P m H K p) : ADX P m H K p := h
theorem ADX_op (hT : TyOK P tt) (hr : roOp o.op = true) (hw : wantedS fr o = some true) (h : match aop tt ⟨fr, H⟩ o with | some (x, _) => ADX P m H K (l, al, putL fr o.dst x, M) | none => False) : ADX P m H K (o :: l, .free :: al, fr, M) := fun n hn G0 => by
  cases hx : aop tt ⟨fr, H⟩ o with
  | none => rw [hx] at h; exact h.elim
  | some p =>
    obtain ⟨x, H'⟩ := p
    rw [hx] at h
    have := aop_ro hr hx
    subst this
    exact ⟨x, M, .does x rfl (wanted_iff hn hw) (does_aop hT hx), h n (by show (putL _ _ _).length ≤ n; rw [putL_len]; exact hn) G0⟩
theorem ADX_skip (hw : wantedS fr o = some false) (h : ADX P m H K (l, al, putL fr o.dst uD, M)) : ADX P m H K (o :: l, .free :: al, fr, M) := fun n hn G0 =>
  ⟨uD, M, .skip rfl (wanted_iff hn hw), h n (by show (putL _ _ _).length ≤ n; rw [putL_len]; exact hn) G0⟩
theorem AX_drawM {Q : Exit → XS → Prop} (hmx : P.follows .mixedOrders = true) {id : Nat} {ops : List Oper} (hord : ordOK ops.toArray ops.length (alM ops) = true)
    (h : ∀ (K : List AV → MS → Prop), (∀ F M', Q .normal ⟨F, H, M'⟩ → K F M') → ADX P m H K (ops.map (strip (dsts ops)), alM ops, fr, M)) : AX P m (.region id ops.toArray true) Q ⟨fr, H, M⟩ := fun G0 G a w hm hl0 hM hr => by
  have hsz : ops.toArray.size = ops.length := by simp
  have ord : Ord ops.toArray ops.toArray.size (alM ops) := by rw [hsz]; exact ord_of hord
  obtain ⟨X, F, Mk, e1, e2, e3, e4⟩ := (ADM0_strip (n := max fr.length (topD (dsts ops))) (Nat.le_max_right _ _) (h (fun F M' => Q .normal ⟨F, H, M'⟩) (fun _ _ h => h) (max fr.length (topD (dsts ops))) (Nat.le_max_left _ _) G0)).fns
  refine wp_region_any hmx ?_
  refine any3 (m := m) (G0 := G0) (H := H) (X := X) (F := F) (Mk := Mk) ord ⟨fun k o ho => e4 k o (by simpa using ho)⟩ hm (R := PostX m G0 Q) (fun G' a' w' k1 k2 k3 => ⟨G', ⟨F ops.toArray.size, H, Mk ops.toArray.size⟩, k1, k2, hm, k3, by rw [hsz]; exact e3⟩) ops.toArray.size (Array.replicate ops.toArray.size false) a { w with drawn := w.drawn + 1 } G 0 ?_ ?_ hr.defers ?_ (Nat.zero_le _) ?_ hr.inv.drew hl0 (by rw [e2]; exact hM)
  · simp [left]
  · refine ⟨by simp, fun j hj => ?_⟩
    simp [Array.getD] at hj
  · refine ⟨by rw [e1]; have := hr.fr.1; simp at this; exact this.symm, fun t j ht hj hl => ?_, fun t ht _ => ?_⟩
    · simp [Array.getD] at hl
    · rw [e1, arr_getD]; exact hr.fr.getD t
  · intro j hj ha
    simp [Array.getD]
theorem AX_drawM1 {Q : Exit → XS → Prop} (hmx : P.follows .mixedOrders = true) {id : Nat} {ops : List Oper} (hany : (ops.any fun o => mapOp o.op) = true) (hord : ordOK ops.toArray ops.length (alM ops) = true)
    (h : ∀ (K : List AV → MS → Prop), (∀ F M', Q .normal ⟨F, H, M'⟩ → K F M') → ADX P m H K (ops.map (strip (dsts ops)), alM ops, fr, M)) : AX P m (.region id ops.toArray true) Q ⟨fr, H, M⟩ := AX_drawM hmx hord h
end
section
variable {m : Nat} {H : AHeap} {fr : List AV} {l : List Oper} {al : List Kd} {K : List AV → MS → Prop} {M : MS} {t e : TypeId} {d : Option Tmp} {ty : TypeId} {pos : String} {after : Array Edge} {g : Option (Nat × Bool)}
end
end Go.Proofs.YtghdacijcnmhlaaDoor
namespace Go.Proofs.YtghdacijcnmhlaaDoor
set_option linter.unusedSimpArgs false
def isSp (b : UInt8) : Bool := b == 32 || b == 9 || b == 13
def noSp (b : UInt8) : Bool := !isSp b
def tk (k : Nat) (l : List UInt8) : List (Nat × List UInt8) :=
  match l with
  | [] => []
  | c :: r => if isSp c then tk (k + 1) r else (k, c :: r.takeWhile noSp) :: tk (k + 1 + (r.takeWhile noSp).length) (r.dropWhile noSp)
termination_by l.length
decreasing_by
  · simp
  · have := (List.dropWhile_sublist noSp (l := r)).length_le; simp; omega
theorem tk_nil (k : Nat) : tk k [] = [] := by rw [tk]
theorem tk_sp {k : Nat} {c : UInt8} {r : List UInt8} (h : isSp c = true) : tk k (c :: r) = tk (k + 1) r := by rw [tk, if_pos h]
theorem tk_word {k : Nat} {c : UInt8} {r : List UInt8} (h : isSp c = false) : tk k (c :: r) = (k, c :: r.takeWhile noSp) :: tk (k + 1 + (r.takeWhile noSp).length) (r.dropWhile noSp) := by
  rw [tk, if_neg (by simp [h])]
theorem while_take {p : UInt8 → Bool} : ∀ {xs : List UInt8} {n : Nat}, (xs.take n).all p = true → (∀ c, xs[n]? = some c → p c = false) → xs.takeWhile p = xs.take n ∧ xs.dropWhile p = xs.drop n
  | [], n, _, _ => by simp
  | c :: r, 0, _, h2 => by have := h2 c rfl; simp [List.takeWhile_cons, List.dropWhile_cons, this]
  | c :: r, n + 1, h1, h2 => by
    simp only [List.take_succ_cons, List.all_cons, Bool.and_eq_true] at h1
    obtain ⟨k1, k2⟩ := while_take (n := n) h1.2 (fun d hd => h2 d (by simpa using hd))
    simp [List.takeWhile_cons, List.dropWhile_cons, h1.1, k1, k2]
theorem drop_at {l : List UInt8} {k : Nat} (h : k < l.length) : l.drop k = l.getD k 0 :: l.drop (k + 1) := by
  rw [List.drop_eq_getElem_cons h]; simp [List.getD, h]
theorem tk_at_sp {l : List UInt8} {k : Nat} (h : k < l.length) (hs : isSp (l.getD k 0) = true) : tk k (l.drop k) = tk (k + 1) (l.drop (k + 1)) := by rw [drop_at h, tk_sp hs]
theorem tk_at_word {l : List UInt8} {k n : Nat} (hk : k < n) (hn : n ≤ l.length) (hw : ∀ j, k ≤ j → j < n → isSp (l.getD j 0) = false) (he : n < l.length → isSp (l.getD n 0) = true) : tk k (l.drop k) = (k, (l.drop k).take (n - k)) :: tk n (l.drop n) := by
  have h0 : k < l.length := by omega
  rw [drop_at h0, tk_word (hw k (Nat.le_refl _) hk)]
  have h1 : ((l.drop (k + 1)).take (n - k - 1)).all noSp = true := by
    rw [List.all_eq_true]
    intro x hx
    obtain ⟨j, hj, rfl⟩ := List.mem_iff_getElem.1 hx
    have hj' : j < n - k - 1 := by simp at hj; omega
    have := hw (k + 1 + j) (by omega) (by omega)
    rw [List.getElem_take, List.getElem_drop]
    have e : l.getD (k + 1 + j) 0 = l[k + 1 + j]'(by omega) := by simp [List.getD, show k + 1 + j < l.length by omega]
    rw [e] at this
    simp [noSp, this]
  have h2 : ∀ c, (l.drop (k + 1))[n - k - 1]? = some c → noSp c = false := fun c hc => by
    rw [List.getElem?_drop, show k + 1 + (n - k - 1) = n by omega] at hc
    obtain ⟨h3, h4⟩ := List.getElem?_eq_some_iff.1 hc
    have := he h3
    have e : l.getD n 0 = l[n] := by simp [List.getD, h3]
    rw [e, h4] at this
    simp [noSp, this]
  obtain ⟨e1, e2⟩ := while_take h1 h2
  have h3 : ((l.drop (k + 1)).take (n - k - 1)).length = n - k - 1 := by simp; omega
  rw [e1, e2, h3, List.drop_drop, show k + 1 + (n - k - 1) = n by omega]
  congr 2
  rw [show n - k = (n - k - 1) + 1 by omega, List.take_succ_cons]; rfl
def remark (l : List UInt8) : Bool := l == [99] || [99, 32].isPrefixOf l
def lineTk (l : List UInt8) : List (Nat × List UInt8) := if remark l then [] else tk 0 l
end Go.Proofs.YtghdacijcnmhlaaDoor
