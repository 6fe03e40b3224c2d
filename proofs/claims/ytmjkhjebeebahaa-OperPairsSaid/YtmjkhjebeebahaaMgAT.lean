import Derived.Test.YtmjkhjebeebahaaMgAS
import Derived.Test.YtmjkhjebeebahaaMgAL
import Derived.Test.YtmjkhjebeebahaaMgAQ
namespace Go.Proofs.Ytmjkhjebeebahaa
open Go.RowKit
set_option linter.unusedVariables false
set_option linter.unusedSimpArgs false
section
variable {P : Program} {m : Nat} {G0 : Gh} {ops : Array Oper} {H0 : AHeap} {al : List Kd} {X : Nat → AV} {F : Nat → List AV} {N : Nat}
theorem fr_len (hF : ∀ k, k < N → F (k + 1) = putL (F k) (dstAt ops k) (X k)) : ∀ k, k ≤ N → (F k).length = (F 0).length
  | 0, _ => rfl
  | k + 1, hk => by rw [hF k (by omega), putL_len, fr_len hF k (by omega)]
theorem putL_getD {fr : List AV} {d : Option Tmp} {x : AV} {t : Nat} (ht : t < fr.length) : (putL fr d x).getD t uD = if d = some t then x else fr.getD t uD := by
  unfold putL
  cases d with
  | none => simp
  | some d =>
    by_cases e : d = t
    · subst e
      simp only [if_true]
      rw [List.getD_eq_getElem?_getD, List.getElem?_set_self ht]; rfl
    · simp only [Option.some.injEq, if_neg e]
      rw [List.getD_eq_getElem?_getD, List.getElem?_set_ne e, List.getD_eq_getElem?_getD]
theorem fr_slot (hF : ∀ k, k < N → F (k + 1) = putL (F k) (dstAt ops k) (X k)) {t : Nat} (ht : t < (F 0).length) : ∀ k, k ≤ N →
    (∀ i, i < k → dstAt ops i = some t → (∀ q, i < q → q < k → dstAt ops q ≠ some t) → (F k).getD t uD = X i) ∧ ((∀ i, i < k → dstAt ops i ≠ some t) → (F k).getD t uD = (F 0).getD t uD)
  | 0, _ => ⟨fun i hi => absurd hi (by omega), fun _ => rfl⟩
  | k + 1, hk => by
    obtain ⟨ih1, ih2⟩ := fr_slot hF ht k (by omega)
    have hl := fr_len hF k (by omega)
    rw [hF k (by omega), putL_getD (by rw [hl]; exact ht)]
    constructor
    · intro i hi he hno
      split
      · rename_i hk2
        rcases Nat.lt_or_ge i k with h3 | h3
        · exact absurd hk2 (hno k h3 (by omega))
        · have : i = k := by omega
          subst this; rfl
      · rename_i hk2
        have hik : i < k := by
          rcases Nat.lt_or_ge i k with h3 | h3
          · exact h3
          · have : i = k := by omega
            subst this; exact absurd he hk2
        exact ih1 i hik he fun q h3 h4 => hno q h3 (by omega)
    · intro hno
      rw [if_neg (hno k (by omega))]
      exact ih2 fun i hi => hno i (by omega)
/-- What lies in a slot that the call does not write. -/
theorem Sl.atC {X' : Nat → AV} {cs : List Nat} (hX : ∀ i, i ∉ cs → X' i = X i) (hF : ∀ k, k < N → F (k + 1) = putL (F k) (dstAt ops k) (X k)) {n : Nat} {G : Gh} {listed : Array Bool} {a : Act} (hs : Sl ops N X' F n G listed a) {k : Nat} (hk : k ≤ N) (t : Nat) (hc : ∀ i, i ∈ cs → dstAt ops i ≠ some t) (h1 : ∀ i, i < k → dstAt ops i = some t → listed.getD i false = true) (h2 : ∀ i, k ≤ i → i < N → dstAt ops i = some t → listed.getD i false = false) :
    RA n G ((F k).getD t uD) (a.tmps.getD t undef) := by
  by_cases ht : t < (F 0).length
  · obtain ⟨s1, s2⟩ := fr_slot hF ht k hk
    by_cases hex : ∃ i, i < k ∧ dstAt ops i = some t
    · obtain ⟨i, h3, h4, h5⟩ := last_such _ k hex
      rw [s1 i h3 h4 fun q h6 h7 => h5 q h6 h7, ← hX i (fun e => hc i e h4)]
      refine hs.wr t i ht (by omega) (h1 i h3 h4) h4 fun q h6 h7 h8 h9 => ?_
      rcases Nat.lt_or_ge q k with h10 | h10
      · exact h5 q h6 h10 h9
      · rw [h2 q h10 h7 h9] at h8; cases h8
    · have hno : ∀ i, i < k → dstAt ops i ≠ some t := fun i hi e => hex ⟨i, hi, e⟩
      rw [s2 hno]
      refine hs.un t ht fun j hj hl e => ?_
      rcases Nat.lt_or_ge j k with h10 | h10
      · exact hno j h10 e
      · rw [h2 j h10 hj e] at hl; cases hl
  · have e1 : (F k).getD t uD = uD := by rw [List.getD_eq_getElem?_getD, List.getElem?_eq_none (by rw [fr_len hF k hk]; omega)]; rfl
    have e2 : a.tmps.getD t undef = undef := by
      have := hs.size
      simp [Array.getD, show ¬ t < a.tmps.size by omega]
    rw [e1, e2]; exact .iv _ _ (.lit _)
theorem Sl.kpC {n : Nat} {G : Gh} {listed : Array Bool} {a : Act} (h : Sl ops N X F n G listed a) (kp' : Nat → Option Obj) : Sl ops N X F n { G with kp := kp' } listed a :=
  ⟨h.size, fun t j h1 h2 h3 h4 h5 => (h.wr t j h1 h2 h3 h4 h5).kpany, fun t h1 h2 => (h.un t h1 h2).kpany⟩
/-- The call: done, or not yet. -/
inductive Ph (cs : List Nat) (X : Nat → AV) (H0 : AHeap) (M : MS) (Kc : AV → AHeap → MS → Prop) : Bool → (Nat → AV) → AHeap → MS → Prop
  | no : Ph cs X H0 M Kc false X H0 M
  | yes (r : AV) (H' : AHeap) (M' : MS) : Kc r H' M' → Ph cs X H0 M Kc true (fun j => if j ∈ cs then r else X j) H' M'
theorem putAll_len {ops : Array Oper} {r : AV} : ∀ (cs : List Nat) (fr : List AV), (cs.foldl (fun fr j => putL fr (dstAt ops j) r) fr).length = fr.length
  | [], fr => rfl
  | j :: cs, fr => by rw [List.foldl_cons, putAll_len cs, putL_len]
theorem putAll_getD {ops : Array Oper} {r : AV} {t : Nat} : ∀ (cs : List Nat) (fr : List AV), t < fr.length → ((cs.foldl (fun fr j => putL fr (dstAt ops j) r) fr).getD t uD = r ∧ ∃ i, i ∈ cs ∧ dstAt ops i = some t) ∨ ((cs.foldl (fun fr j => putL fr (dstAt ops j) r) fr).getD t uD = fr.getD t uD ∧ ∀ i, i ∈ cs → dstAt ops i ≠ some t)
  | [], fr, ht => .inr ⟨rfl, fun i h => by cases h⟩
  | j :: cs, fr, ht => by
    rw [List.foldl_cons]
    rcases putAll_getD cs (putL fr (dstAt ops j) r) (by rw [putL_len]; exact ht) with ⟨h1, i, h2, h3⟩ | ⟨h1, h2⟩
    · exact .inl ⟨h1, i, List.mem_cons_of_mem _ h2, h3⟩
    · rw [putL_getD ht] at h1
      by_cases hj : dstAt ops j = some t
      · rw [if_pos hj] at h1
        exact .inl ⟨h1, j, List.mem_cons_self, hj⟩
      · rw [if_neg hj] at h1
        refine .inr ⟨h1, fun i hi => ?_⟩
        rcases List.mem_cons.1 hi with rfl | hi
        · exact hj
        · exact h2 i hi
theorem anyC {tt : TT} (hT : TyOK P tt) {M : MS} {Kc : AV → AHeap → MS → Prop} {c0 : Nat} {cp : List Nat} (ord : Ord ops N al) (hc0 : c0 < N) (hdlt : ∀ d, dstAt ops c0 = some d → ¬ (F 0).length ≤ d) (hcp : ∀ j, j ∈ cp → c0 < j ∧ j < N ∧ ∃ d o, dstAt ops c0 = some d ∧ ops[j]? = some o ∧ o.op = .assign (.tmp d) ∧ o.guard = none) (hm : m ≤ H0.length) {R : Exit → Act → World → Prop} (hF : ∀ k, k < N → F (k + 1) = putL (F k) (dstAt ops k) (X k))
    (one : ∀ i, i ∈ c0 :: cp → ∀ j, j < N → j ≠ i → ∀ d, dstAt ops i = some d → dstAt ops j ≠ some d)
    (free : ∀ j o, j < N → j ∉ c0 :: cp → ops[j]? = some o → (∀ H2, Sub H0 H2 → Does P ops o (F j) H2 (X j) H2) ∧ AS.wanted ⟨F j, H0⟩ ops o = some true ∧ ∀ t, t ∈ o.looksAt ops → ∀ i, i ∈ c0 :: cp → dstAt ops i ≠ some t)
    (call : ∀ o, ops[c0]? = some o → AS.wanted ⟨F c0, H0⟩ ops o = some true ∧ (∀ t, t ∈ o.looksAt ops → ∀ i, i ∈ c0 :: cp → dstAt ops i ≠ some t) ∧ ∀ (Q : Exit → Act → World → Prop) (G : Gh) (a : Act) (w : World) (K : Act → World → Prop), Gh.leb m G0 G → MOK G0.kp G M → Inv G H0 w → Looks ops o H0.length G (F c0) a →
      (∀ r H' M' G' v w', Kc r H' M' → Gh.leb m G0 G' → Gh.leb H0.length { G with kp := G0.kp } G' → MOK G0.kp G' M' → H0.length ≤ H'.length → Inv G' H' w' → RA H'.length G' r v → K (a.put o.dst v) w') → o.wp P a w K Q)
    (sub : ∀ r H' M', Kc r H' M' → Sub H0 H')
    (tail : ∀ r H' M' G a w, Kc r H' M' → Gh.leb m G0 G → MOK G0.kp G M' → Rst G ⟨(c0 :: cp).foldl (fun fr j => putL fr (dstAt ops j) r) (F N), H'⟩ a w → wpList P ops R (ops.toList.drop N) a w) : ∀ (fuel : Nat) (listed : Array Bool) (a : Act) (w : World) (G : Gh) (X' : Nat → AV) (H : AHeap) (Mx : MS),
    fuel = left listed → Closed ops listed → (∀ j, N ≤ j → listed.getD j false = false) → a.defers = [] → Ph (c0 :: cp) X H0 M Kc (listed.getD c0 false) X' H Mx → Sl ops N X' F H.length G listed a → Inv G H w → Gh.leb m G0 G → MOK G0.kp G Mx →
    wpAny P .any ops R fuel listed a w := by
  have hN := ord.le_size
  have hsubH : ∀ {b X' H Mx}, Ph (c0 :: cp) X H0 M Kc b X' H Mx → Sub H0 H := fun h => by
    cases h with
    | no => exact Sub.refl _
    | yes r H' M' hk => exact sub _ _ _ hk
  have hXne : ∀ {b X' H Mx}, Ph (c0 :: cp) X H0 M Kc b X' H Mx → ∀ i, i ∉ c0 :: cp → X' i = X i := fun h i hi => by
    cases h with
    | no => rfl
    | yes r H' M' hk => exact if_neg hi
  have atEnd : ∀ {listed : Array Bool} {a : Act} {w : World} {G : Gh} {X' : Nat → AV} {H : AHeap} {Mx : MS}, (∀ j, j < N → listed.getD j false = true) → a.defers = [] → Ph (c0 :: cp) X H0 M Kc (listed.getD c0 false) X' H Mx → Sl ops N X' F H.length G listed a → Inv G H w → Gh.leb m G0 G → MOK G0.kp G Mx → wpList P ops R (ops.toList.drop N) a w := by
    intro listed a w G X' H Mx hall hd hph hs hi hl hM
    rw [hall c0 hc0] at hph
    cases hph with
    | yes r H' M' hk =>
      refine tail r H Mx G a w hk hl hM ⟨hd, ⟨by rw [putAll_len, fr_len hF N (Nat.le_refl _)]; simp [hs.size], fun i x v e1 e2 => ?_⟩, hi⟩
      rw [Array.getElem?_toList] at e2
      have e3 : a.tmps.getD i undef = v := by obtain ⟨hlt, rfl⟩ := Array.getElem?_eq_some_iff.1 e2; simp [Array.getD, hlt]
      have hil : i < (F 0).length := by rw [← hs.size]; exact (Array.getElem?_eq_some_iff.1 e2).1
      have e4 : ((c0 :: cp).foldl (fun fr j => putL fr (dstAt ops j) r) (F N)).getD i uD = x := by rw [List.getD_eq_getElem?_getD, e1]; rfl
      rw [← e3, ← e4]
      rcases putAll_getD (ops := ops) (r := r) (t := i) (c0 :: cp) (F N) (by rw [fr_len hF N (Nat.le_refl _)]; exact hil) with ⟨h5, q, h6, h7⟩ | ⟨h5, h6⟩
      · rw [h5]
        have hqN : q < N := by
          rcases List.mem_cons.1 h6 with rfl | h6
          · exact hc0
          · exact (hcp q h6).2.1
        have := hs.wr i q hil hqN (hall q hqN) h7 (fun p h1 h2 h3 h4 => one q h6 p h2 (by omega) i h7 h4)
        simp only [if_pos h6] at this
        exact this
      · rw [h5]
        exact Sl.atC (X := X) (cs := c0 :: cp) (fun i hi => if_neg hi) hF hs (Nat.le_refl _) i h6 (fun q hq _ => hall q hq) (fun q h1 h2 => by omega)
  intro fuel
  induction fuel with
  | zero =>
    intro listed a w G X' H Mx hf hc hsuf hd hph hs hi hl hM
    have hall : ∀ j, j < ops.size → listed.getD j false = true := fun j hj => left_zero hf.symm (by rw [hc.1]; exact hj)
    have hNs : N = ops.size := by
      rcases Nat.lt_or_ge N ops.size with h1 | h1
      · have := hall N h1; rw [hsuf N (Nat.le_refl _)] at this; cases this
      · omega
    have hready : Region.ready .any ops listed = [] := by
      cases hr : Region.ready .any ops listed with
      | nil => rfl
      | cons j js =>
        obtain ⟨h1, h2, _⟩ := (ready_spec hc.1).1 (hr ▸ List.mem_cons_self : j ∈ Region.ready .any ops listed)
        rw [hall j h1] at h2; cases h2
    refine ⟨hready, ?_⟩
    have ht := atEnd (fun j hj => hall j (by omega)) hd hph hs hi hl hM
    have hdrop : ops.toList.drop N = [] := List.drop_eq_nil_of_le (by simp; omega)
    rw [hdrop] at ht
    exact ht
  | succ fuel ih =>
    intro listed a w G X' H Mx hf hc hsuf hd hph hs hi hl hM
    by_cases hall : ∀ j, j < N → listed.getD j false = true
    · have ht := atEnd hall hd hph hs hi hl hM
      have hk : ∀ j, j < ops.size → (listed.getD j false = true ↔ j < N) := fun j hj => ⟨fun hl => (by
        rcases Nat.lt_or_ge j N with h1 | h1
        · exact h1
        · rw [hsuf j h1] at hl; cases hl), hall j⟩
      have hfuel : fuel + 1 = (ops.toList.drop N).length := by
        rw [hf]
        unfold left
        have e : listed.toList = List.replicate N true ++ List.replicate (ops.size - N) false := by
          apply List.ext_getElem?
          intro i
          rw [Array.getElem?_toList]
          by_cases h1 : i < ops.size
          · have h2 : i < listed.size := by rw [hc.1]; exact h1
            have h3 : listed[i]? = some (listed.getD i false) := by rw [Array.getElem?_eq_getElem h2]; simp [Array.getD, h2]
            rw [h3]
            by_cases h4 : i < N
            · rw [hall i h4, List.getElem?_append_left (by simpa using h4)]; simp [h4]
            · rw [hsuf i (by omega), List.getElem?_append_right (by simp; omega), List.length_replicate, List.getElem?_replicate, if_pos (by omega)]
          · rw [Array.getElem?_eq_none (by rw [hc.1]; omega), List.getElem?_eq_none (by simp; omega)]
        rw [e]
        simp [List.count_append, List.count_replicate]
      rw [hfuel]
      exact wpAny_seq ord _ N listed a w (Nat.le_refl _) (by simp; omega) (fun j => by rw [List.getElem?_drop, Array.getElem?_toList]) hc hk ht
    · have hne : ∃ j, j < N ∧ listed.getD j false = false := by
        rcases Classical.not_forall.1 hall with ⟨j, hj⟩
        exact ⟨j, (Classical.not_imp.1 hj).1, by simpa using (Classical.not_imp.1 hj).2⟩
      refine ⟨fun hr => ?_, fun j hj => ?_⟩
      · exfalso
        obtain ⟨q, hq, hq2⟩ := hne
        have : ∀ d q, q = d → q < ops.size → listed.getD q false = false → False := by
          intro d
          induction d using Nat.strongRecOn with
          | _ d ihd =>
            intro q hqd hq hq2
            by_cases hdep : ∀ e ∈ dirs ops q, listed.getD e false = true
            · have := (ready_spec hc.1).2 ⟨hq, hq2, hdep⟩
              rw [hr] at this; cases this
            · rcases Classical.not_forall.1 hdep with ⟨e, he⟩
              obtain ⟨he1, he2⟩ := Classical.not_imp.1 he
              have := ord.low q e he1
              exact ihd e (by omega) e rfl (by omega) (by simpa using he2)
        exact this q q rfl (by omega) hq2
      · obtain ⟨h1, h2, h3⟩ := (ready_spec hc.1).1 hj
        have hjN : j < N := by
          rcases Nat.lt_or_ge j N with h4 | h4
          · exact h4
          · obtain ⟨q, hq, hq2⟩ := hne
            have := Anc.listed (j := j) (i := q) hc h3 (ord.tail q j h4 h1 (by omega))
            rw [hq2] at this; cases this
        have hoj := Array.getElem?_eq_getElem h1
        have hdj : dstAt ops j = (ops[j]).dst := by unfold dstAt; rw [hoj]; rfl
        have big : ∀ i, j < i → i < N → listed.getD i false = true → ∀ t, dstAt ops i = some t → (t ∈ (ops[j]).looksAt ops ∨ (ops[j]).dst = some t) → False := fun i h4 h5 h6 t h7 h8 => by
          have hoi := Array.getElem?_eq_getElem (show i < ops.size by omega)
          have hdi : (ops[i]'(by omega)).dst = some t := by unfold dstAt at h7; rw [hoi] at h7; exact h7
          have := (ord.names i j _ _ t h5 hjN hoi hoj hdi h8).2 h4
          have := Anc.listed (j := i) (i := j) hc (hc.2 i h6) this
          rw [h2] at this; cases this
        have hlooks : (∀ t, t ∈ (ops[j]).looksAt ops → ∀ i, i ∈ c0 :: cp → dstAt ops i ≠ some t) → Looks ops (ops[j]) H.length G (F j) a := fun hno => by
          refine ⟨by rw [fr_len hF j (by omega), hs.size], fun t ht => ?_⟩
          refine Sl.atC (hXne hph) hF hs (by omega) t (hno t ht) (fun i h4 h5 => ?_) (fun i h4 h5 h6 => ?_)
          · have hoi := Array.getElem?_eq_getElem (show i < ops.size by omega)
            have hdi : (ops[i]'(by omega)).dst = some t := by unfold dstAt at h5; rw [hoi] at h5; exact h5
            exact Anc.listed (j := j) (i := i) hc h3 ((ord.names i j _ _ t (by omega) hjN hoi hoj hdi (.inl ht)).1 h4)
          · rcases Nat.lt_or_ge j i with h7 | h7
            · cases hb : listed.getD i false with
              | false => rfl
              | true => exact (big i h7 h5 hb t h6 (.inl ht)).elim
            · have : i = j := by omega
              subst this; exact h2
        have hbig : ∀ i, j < i → i < N → listed.getD i false = true → dstAt ops i ≠ dstAt ops j ∨ dstAt ops j = none := fun i h4 h5 h6 => by
          cases hd : dstAt ops j with
          | none => exact .inr rfl
          | some t => exact .inl fun e => big i h4 h5 h6 t e (.inr (by rw [← hdj]; exact hd))
        have hleft : fuel = left (listed.setIfInBounds j true) := by
          have := left_set (j := j) (by rw [hc.1]; exact h1) h2; omega
        have hjs : j < listed.size := by rw [hc.1]; exact h1
        have hsuf' : ∀ q, N ≤ q → (listed.setIfInBounds j true).getD q false = false := fun q hq => by
          rw [getD_set _ _ _ hjs, if_neg (by omega)]; exact hsuf q hq
        unfold wpOp
        rw [hoj]
        simp only
        by_cases hjc : j = c0
        · subst hjc
          obtain ⟨hw, hno, hcall⟩ := call _ hoj
          rw [h2] at hph
          cases hph with
          | no =>
            have hlk := hlooks hno
            rw [if_pos (hlk.wanted hw)]
            refine .inl ?_
            refine hcall _ G a w _ hl hM hi hlk fun r H' M' G' v w' hk k1 k2 k3 k4 k5 k6 => ?_
            refine ih _ _ w' G' (fun q => if q ∈ j :: cp then r else X q) H' M' hleft (hc.set hj) hsuf' (by unfold Act.put; split <;> exact hd) (by rw [getD_set _ _ _ hjs, if_pos rfl]; exact .yes r H' M' hk) ?_ k5 k1 k3
            rw [← hdj]
            have hs' : Sl ops N (fun q => if q ∈ j :: cp then r else X q) F H0.length { G with kp := G0.kp } listed a := (by
              refine Sl.kpC ⟨hs.size, fun t q e1 e2 e3 e4 e5 => ?_, hs.un⟩ _
              have hqj : q ∉ j :: cp := fun e => by
                rcases List.mem_cons.1 e with rfl | e
                · rw [h2] at e3; cases e3
                · obtain ⟨g1, g2, d, o', g3, g4, g5, g6⟩ := hcp q e
                  have hoq : ops[q]? = some (ops[q]'(by omega)) := Array.getElem?_eq_getElem (by omega)
                  rw [hoq] at g4
                  have hlk : d ∈ (ops[q]'(by omega)).looksAt ops := by rw [Option.some.inj g4]; unfold Oper.looksAt; rw [g5]; simp [Op.operands]
                  have := (ord.names j q _ _ d hjN e2 hoj hoq (by rw [← hdj]; exact g3) (.inl hlk)).1 g1
                  have := Anc.listed (j := q) (i := j) hc (hc.2 q e3) this
                  rw [h2] at this; cases this
              show RA _ _ (if q ∈ j :: cp then r else X q) _
              rw [if_neg hqj]
              exact hs.wr t q e1 e2 e3 e4 e5)
            exact hs'.put (k2.le hi.dom) k4 hjN hjs (by rw [if_pos List.mem_cons_self]; exact k6) hbig
        · by_cases hjp : j ∈ cp
          · obtain ⟨g1, g2, d, o', g3, g4, g5, g6⟩ := hcp j hjp
            rw [hoj] at g4
            have g4 := Option.some.inj g4
            have hlk0 : d ∈ (ops[j]).looksAt ops := by rw [g4]; unfold Oper.looksAt; rw [g5]; simp [Op.operands]
            have hoc := Array.getElem?_eq_getElem (show c0 < ops.size by omega)
            have hdc : (ops[c0]'(by omega)).dst = some d := by unfold dstAt at g3; rw [hoc] at g3; exact g3
            have hcl : listed.getD c0 false = true := Anc.listed (j := j) (i := c0) hc h3 ((ord.names c0 j _ _ d hc0 hjN hoc hoj hdc (.inl hlk0)).1 g1)
            rw [hcl] at hph
            cases hph with
            | yes r H' M' hk =>
              have hw : Region.wanted (ops[j]) (yielded ops a.tmps) = true := by unfold Region.wanted; rw [g4, g6]
              rw [if_pos hw]
              refine .inl ?_
              have hdl : d < (F 0).length := by
                have := hs.size
                rcases Nat.lt_or_ge d (F 0).length with h | h
                · exact h
                · exfalso; exact hdlt d g3 h
              have hlk : Looks ops (ops[j]) H.length G (putL (F j) (some d) r) a := by
                refine ⟨by rw [putL_len, fr_len hF j (by omega), hs.size], fun t ht => ?_⟩
                have htd : t = d := by rw [g4] at ht; unfold Oper.looksAt at ht; rw [g5, g6] at ht; simpa [Op.operands] using ht
                subst htd
                rw [putL_getD (by rw [fr_len hF j (by omega)]; exact hdl), if_pos rfl]
                have := hs.wr t c0 hdl hc0 hcl g3 (fun p h5 h6 h7 h8 => one c0 List.mem_cons_self p h6 (by omega) t g3 h8)
                simp only [if_pos (List.mem_cons_self (a := c0) (l := cp))] at this
                exact this
              have hev : AS.ev ⟨putL (F j) (some d) r, H⟩ (.tmp d) = r := by
                show (putL (F j) (some d) r).getD d uD = r
                rw [putL_getD (by rw [fr_len hF j (by omega)]; exact hdl), if_pos rfl]
              have hdo : Does P ops (ops[j]) (putL (F j) (some d) r) H r H := does_aop hT (by
                show aop tt _ (ops[j]) = _
                unfold aop; rw [g4, g5]; simp only; rw [hev])
              have hmH : m ≤ H.length := Nat.le_trans hm (sub _ _ _ hk).1
              refine hdo _ G a w _ hi hlk fun G' v w' k1 k2 k3 k4 => ?_
              refine ih _ _ w' G' _ H Mx hleft (hc.set hj) hsuf' (by unfold Act.put; split <;> exact hd) (by rw [getD_set _ _ _ hjs, if_neg (fun e => hjc e.symm), hcl]; exact .yes r H Mx hk) ?_ k3 (hl.trans (k1.leb hmH)) (hM.leb (k1.leb hmH))
              rw [← hdj]
              exact hs.put k1 (Nat.le_refl _) hjN hjs (by rw [if_pos (List.mem_cons_of_mem _ hjp)]; exact k4) hbig
          have hjm : j ∉ c0 :: cp := fun e => by
            rcases List.mem_cons.1 e with e | e
            · exact hjc e
            · exact hjp e
          obtain ⟨hdoes, hw, hno⟩ := free j _ hjN hjm hoj
          have hlk := hlooks hno
          rw [if_pos (hlk.wanted hw)]
          refine .inl ?_
          have hmH : m ≤ H.length := Nat.le_trans hm (hsubH hph).1
          refine hdoes H (hsubH hph) _ G a w _ hi hlk fun G' v w' k1 k2 k3 k4 => ?_
          refine ih _ _ w' G' X' H Mx hleft (hc.set hj) hsuf' (by unfold Act.put; split <;> exact hd) (by rw [getD_set _ _ _ hjs, if_neg (fun e => hjc e.symm)]; exact hph) ?_ k3 (hl.trans (k1.leb hmH)) (hM.leb (k1.leb hmH))
          rw [← hdj]
          exact hs.put k1 (Nat.le_refl _) hjN hjs (by rw [hXne hph j hjm]; exact k4) hbig
end
/-- Operations that read what was there, one behind the other. -/
def FR (P : Program) (H : AHeap) : List Oper → List AV → (List AV → Prop) → Prop
  | [], fr, K => K fr
  | o :: l, fr, K => ∃ x, (∀ (ops : Array Oper) (H2 : AHeap), Sub H H2 → Does P ops o fr H2 x H2) ∧ FR P H l (putL fr o.dst x) K
/-- The call. -/
def CallC (P : Program) (H : AHeap) (M : MS) (Kc : AV → AHeap → MS → Prop) (o : Oper) (fr : List AV) : Prop := ∃ (fo : Operand) (args : Array Operand) (tys : Array TypeId) (f : FuncId) (first caps : List AV), o.op = .call { callee := .value fo, args := args, argTypes := tys } ∧ AS.ev ⟨fr, H⟩ fo = .fn f first caps ∧ SX P f (first ++ args.toList.map (AS.ev ⟨fr, H⟩) ++ caps) H M Kc
section
variable {P : Program} {tt : TT} {m : Nat} {Q : Exit → XS → Prop} {fr : List AV} {H : AHeap} {M : MS} {l : List Oper} {o : Oper} {K : List AV → Prop}
theorem FR_nil (h : K fr) : FR P H [] fr K := h
theorem FR_id (h : FR P H l fr K) : FR P H l fr K := h
theorem FR_op (hT : TyOK P tt) (hr : roOp o.op = true) (h : match aop tt ⟨fr, H⟩ o with | some (x, _) => FR P H l (putL fr o.dst x) K | none => False) : FR P H (o :: l) fr K := by
  cases hx : aop tt ⟨fr, H⟩ o with
  | none => rw [hx] at h; exact h.elim
  | some p =>
    obtain ⟨x, H'⟩ := p
    rw [hx] at h
    have := aop_ro hr hx
    subst this
    exact ⟨x, fun ops H2 hs => does_aop hT (aop_mono hs hr hx), h⟩
theorem FR.fns : ∀ {l : List Oper} {fr : List AV}, FR P H l fr K → ∃ (X : Nat → AV) (F : Nat → List AV), F 0 = fr ∧ K (F l.length) ∧ ∀ j o, l[j]? = some o → (∀ (ops : Array Oper) (H2 : AHeap), Sub H H2 → Does P ops o (F j) H2 (X j) H2) ∧ F (j + 1) = putL (F j) o.dst (X j)
  | [], fr, h => ⟨fun _ => uD, fun _ => fr, rfl, h, fun j o e => by simp at e⟩
  | o :: l, fr, h => by
    obtain ⟨x, h1, h2⟩ := h
    obtain ⟨X, F, e1, e2, e3⟩ := FR.fns h2
    refine ⟨consF x X, consF fr F, rfl, e2, fun j o' e => ?_⟩
    cases j with
    | zero =>
      simp only [List.getElem?_cons_zero, Option.some.injEq] at e; subst e
      exact ⟨h1, e1⟩
    | succ j =>
      simp only [List.getElem?_cons_succ] at e
      exact e3 j o' e
/-- No guards; nothing looks at the slots of the call and of its copies, or writes them, among the first N. -/
def chkC (ops : List Oper) (N c0 : Nat) (cp : List Nat) : Bool := decide (c0 < N) && decide (N ≤ ops.length) &&
  ((List.range N).all fun j => ((ops[j]?).map (fun o => o.guard.isNone && (c0 :: cp).all fun i => match (ops[i]?).bind (·.dst) with | some d => (decide (j ∈ cp) || !(o.looksAt ops.toArray).contains d) && (decide (j = i) || !(o.dst == some d)) | none => true)).getD false) &&
  (cp.all fun j => decide (c0 < j) && decide (j < N) && (match (ops[c0]?).bind (fun o : Oper => o.dst), (ops[j]?).map (fun o : Oper => o.op) with | some d, some (Op.assign (Operand.tmp e)) => decide (d = e) | _, _ => false))
theorem chkC_ok {ops : List Oper} {N c0 : Nat} {cp : List Nat} (h : chkC ops N c0 cp = true) : c0 < N ∧ N ≤ ops.length ∧ (∀ j o, j < N → ops[j]? = some o → o.guard = none ∧ ∀ i, i ∈ c0 :: cp → ∀ d, dstAt ops.toArray i = some d → (j ∉ cp → d ∉ o.looksAt ops.toArray) ∧ (j ≠ i → o.dst ≠ some d)) ∧
    ∀ j, j ∈ cp → c0 < j ∧ j < N ∧ ∃ d o, dstAt ops.toArray c0 = some d ∧ ops.toArray[j]? = some o ∧ o.op = .assign (.tmp d) := by
  unfold chkC at h
  simp only [Bool.and_eq_true, decide_eq_true_eq] at h
  obtain ⟨⟨⟨h1, h2⟩, h3⟩, h4⟩ := h
  refine ⟨h1, h2, fun j o hj ho => ?_, fun j hj => ?_⟩
  · have := List.all_eq_true.1 h3 j (List.mem_range.2 hj)
    rw [ho] at this
    simp only [Option.map_some, Option.getD_some, Bool.and_eq_true, Option.isNone_iff_eq_none] at this
    refine ⟨this.1, fun i hi d hd => ?_⟩
    have h5 := List.all_eq_true.1 this.2 i hi
    have hd' : (ops[i]?).bind (·.dst) = some d := by unfold dstAt at hd; simpa using hd
    rw [hd'] at h5
    simp only [Bool.and_eq_true, Bool.not_eq_true', Bool.or_eq_true, decide_eq_true_eq, beq_eq_false_iff_ne, List.contains_eq_mem, decide_eq_false_iff_not] at h5
    exact ⟨fun hn => h5.1.resolve_left hn, fun hne => h5.2.resolve_left hne⟩
  · have := List.all_eq_true.1 h4 j hj
    simp only [Bool.and_eq_true, decide_eq_true_eq] at this
    obtain ⟨⟨h5, h6⟩, h7⟩ := this
    refine ⟨h5, h6, ?_⟩
    split at h7
    · rename_i d e hd he
      obtain ⟨o, ho, hoe⟩ := Option.map_eq_some_iff.1 he
      have hde := of_decide_eq_true h7
      subst hde
      exact ⟨d, o, by unfold dstAt; simpa using hd, by simpa using ho, hoe⟩
    · cases h7
theorem call_run {Kc : AV → AHeap → MS → Prop} (hc : CallC P H M Kc o fr) (ops : Array Oper) {G0 : Gh} (Q : Exit → Act → World → Prop) (G : Gh) (a : Act) (w : World) (K : Act → World → Prop) (hm : m ≤ H.length) (hl : Gh.leb m G0 G) (hM : MOK G0.kp G M) (hi : Inv G H w) (hlk : Looks ops o H.length G fr a)
    (hk : ∀ r H' M' G' v w', Kc r H' M' → Gh.leb m G0 G' → Gh.leb H.length { G with kp := G0.kp } G' → MOK G0.kp G' M' → H.length ≤ H'.length → Inv G' H' w' → RA H'.length G' r v → K (a.put o.dst v) w') : o.wp P a w K Q := by
  obtain ⟨dst, op, ty, pos, after, g⟩ := o
  obtain ⟨fo, args, tys, f, first, caps, ho, hf, hc⟩ := hc
  cases ho
  have hfe : RA H.length G (AS.ev ⟨fr, H⟩ fo) (a.eval fo) := hlk.ev (H := H) (by simp [Op.operands, Call.operands])
  rw [hf] at hfe
  generalize hfv : a.eval fo = fv at hfe
  cases hfe with
  | fn _ _ _ vs us h1 h2 h3 h4 =>
    have hra : RL H.length G (args.toList.map (AS.ev ⟨fr, H⟩)) (args.toList.map a.eval) := by
      refine ⟨by simp, fun i x v e1 e2 => ?_⟩
      rw [List.getElem?_map, Option.map_eq_some_iff] at e1 e2
      obtain ⟨y, e3, rfl⟩ := e1
      obtain ⟨y', e4, rfl⟩ := e2
      rw [e3] at e4; cases e4
      exact hlk.ev (H := H) (by have := List.mem_of_getElem? e3; simp [Op.operands, Call.operands]; right; simpa using this)
    have hargs := RL.append (RL.append ⟨h1, h3⟩ hra) ⟨h2, h4⟩
    have hrun : (execOp a.eval ⟨dst, .call { callee := .value fo, args := args, argTypes := tys }, ty, pos, after, g⟩).run P w = .ok (.enter f (vs ++ args.toList.map a.eval ++ us).toArray) w := by
      have e : (vs ++ args.toList.map a.eval ++ us).toArray = vs.toArray ++ args.map a.eval ++ us.toArray := by
        apply Array.toList_inj.1; simp
      rw [e]
      simp [execOp, resolve, hfv, Deferred.ofValue, invoke, run_enter hc.callable]
    unfold Oper.wp
    rw [hrun]
    refine (hc.calls G0.kp G w _ hl.kp hM hi hargs).mono fun e w' hp => ?_
    obtain ⟨v, r, G', H', M', rfl, hle, hM', hn', hi', hx, hkc⟩ := hp
    exact hk r H' M' G' v w' hkc (leb_call hm hl hle) hle hM' hn' hi' hx
theorem AX_drawC (hT : TyOK P tt) (hmx : P.follows .mixedOrders = true) {id : Nat} {ops : List Oper} (N c0 : Nat) (cp : List Nat) (Kc : AV → AHeap → MS → Prop) (hord : ordOK ops.toArray N (List.replicate N .free) = true) (hchk : chkC ops N c0 cp = true) (hdl : (match (ops[c0]?).bind (·.dst) with | some d => decide (d < fr.length) | none => true) = true) (hsub : ∀ r H' M', Kc r H' M' → Sub H H')
    (h : ∀ K : XS → Prop, (∀ s, Q .normal s → K s) → FR P H (ops.take c0) fr fun fr1 => ∀ o, ops[c0]? = some o → CallC P H M Kc o fr1 ∧ FR P H ((ops.drop (c0 + 1)).take (N - (c0 + 1))) (putL fr1 o.dst uD) fun fr2 => ∀ r H' M', Kc r H' M' → XRes P m (thenX K fun _ _ => False) ((ops.drop N).map (strip (dsts ops)), ⟨(c0 :: cp).foldl (fun fr j => putL fr (dstAt ops.toArray j) r) fr2, H', M'⟩)) : AX P m (.region id ops.toArray true) Q ⟨fr, H, M⟩ := fun G0 G a w hm hl0 hM hr => by
  have ord := ord_of hord
  obtain ⟨k1, k2, k3, k4⟩ := chkC_ok hchk
  obtain ⟨X1, F1, e1, e2, e3⟩ := (h (fun s => Q .normal s) fun _ h => h).fns
  have hlt : (ops.take c0).length = c0 := by simp; omega
  rw [hlt] at e2
  have hoc : ops[c0]? = some ops[c0] := List.getElem?_eq_getElem (by omega)
  obtain ⟨hcc, hrest⟩ := e2 _ hoc
  obtain ⟨X2, F2, g1, g2, g3⟩ := hrest.fns
  have hlp : ((ops.drop (c0 + 1)).take (N - (c0 + 1))).length = N - (c0 + 1) := by simp; omega
  rw [hlp] at g2
  let X : Nat → AV := fun j => if j < c0 then X1 j else if j = c0 then uD else X2 (j - (c0 + 1))
  let F : Nat → List AV := fun j => if j ≤ c0 then F1 j else F2 (j - (c0 + 1))
  have hF1 : ∀ j, j ≤ c0 → F j = F1 j := fun j hj => if_pos hj
  have hF2 : ∀ j, c0 < j → F j = F2 (j - (c0 + 1)) := fun j hj => if_neg (by omega)
  have hX1 : ∀ j, j < c0 → X j = X1 j := fun j hj => if_pos hj
  have hX2 : ∀ j, c0 < j → X j = X2 (j - (c0 + 1)) := fun j hj => by show (if _ then _ else _) = _; rw [if_neg (by omega), if_neg (by omega)]
  have hXc : X c0 = uD := by show (if _ then _ else _) = _; rw [if_neg (by omega), if_pos rfl]
  have hdc : dstAt ops.toArray c0 = ops[c0].dst := by unfold dstAt; simp [hoc]
  have hpre : ∀ j o, j < c0 → ops[j]? = some o → (ops.take c0)[j]? = some o := fun j o hj ho => by rw [List.getElem?_take_of_lt hj]; exact ho
  have hpost : ∀ j o, c0 < j → j < N → ops[j]? = some o → ((ops.drop (c0 + 1)).take (N - (c0 + 1)))[j - (c0 + 1)]? = some o := fun j o hj hn ho => by
    rw [List.getElem?_take_of_lt (by omega), List.getElem?_drop, show c0 + 1 + (j - (c0 + 1)) = j by omega]; exact ho
  have hFrec : ∀ k, k < N → F (k + 1) = putL (F k) (dstAt ops.toArray k) (X k) := fun k hk => by
    have hok : ops[k]? = some ops[k] := List.getElem?_eq_getElem (by omega)
    have hdk : dstAt ops.toArray k = ops[k].dst := by unfold dstAt; simp [hok]
    rw [hdk]
    rcases Nat.lt_trichotomy k c0 with hkc | hkc | hkc
    · rw [hF1 _ (by omega), hF1 _ (by omega), hX1 _ hkc]
      exact (e3 k _ (hpre k _ hkc hok)).2
    · subst hkc
      rw [hF2 _ (by omega), hF1 _ (by omega), hXc, show k + 1 - (k + 1) = 0 by omega]
      exact g1
    · rw [hF2 _ (by omega), hF2 _ (by omega), hX2 _ hkc, show k + 1 - (c0 + 1) = k - (c0 + 1) + 1 by omega]
      exact (g3 _ _ (hpost k _ hkc hk hok)).2
  have hwant : ∀ j o fr', j < N → ops[j]? = some o → AS.wanted ⟨fr', H⟩ ops.toArray o = some true := fun j o fr' hj ho => by
    unfold AS.wanted; rw [(k3 j o hj ho).1]
  have hlooks : ∀ j o, j < N → ops[j]? = some o → j ∉ cp → ∀ t, t ∈ o.looksAt ops.toArray → ∀ i, i ∈ c0 :: cp → dstAt ops.toArray i ≠ some t := fun j o hj ho hn t ht i hi hd => ((k3 j o hj ho).2 i hi t hd).1 hn ht
  have hc0p : c0 ∉ cp := fun e => absurd (k4 c0 e).1 (by omega)
  have hFN : F N = F2 (N - (c0 + 1)) := hF2 N k1
  refine wp_region_any hmx ?_
  refine anyC (m := m) (G0 := G0) (H0 := H) (X := X) (F := F) (M := M) (Kc := Kc) (cp := cp) hT ord k1 (fun d hd => ?_) (fun j hj => ?_) hm (R := PostX m G0 Q) hFrec (fun i hi j hj hne d hd => ?_) (fun j o hj hne ho => ?_) (fun o ho => ?_) hsub (fun r H' M' G' a' w' hk hl hM' hr' => ?_) ops.toArray.size (Array.replicate ops.toArray.size false) a { w with drawn := w.drawn + 1 } G X H M ?_ ?_ ?_ hr.defers ?_ ?_ hr.inv.drew hl0 hM
  · have hd' : (ops[c0]?).bind (·.dst) = some d := by unfold dstAt at hd; simpa using hd
    rw [hd'] at hdl
    have hdl := of_decide_eq_true hdl
    rw [hF1 0 (by omega), e1]
    exact Nat.not_le_of_lt hdl
  · obtain ⟨g1, g2, d, o, g3, g4, g5⟩ := k4 j hj
    exact ⟨g1, g2, d, o, g3, g4, g5, (k3 j o g2 (by simpa using g4)).1⟩
  · have hoj : ops[j]? = some ops[j] := List.getElem?_eq_getElem (by omega)
    have := ((k3 j _ hj hoj).2 i hi d hd).2 hne
    unfold dstAt; simpa [hoj] using this
  · have ho' : ops[j]? = some o := by simpa using ho
    have hjc0 : j ≠ c0 := fun e => hne (e ▸ List.mem_cons_self)
    refine ⟨fun H2 hs => ?_, hwant j o _ hj ho', hlooks j o hj ho' (fun e => hne (List.mem_cons_of_mem _ e))⟩
    rcases Nat.lt_or_ge j c0 with hjc | hjc
    · rw [hF1 _ (by omega), hX1 _ hjc]
      exact (e3 j o (hpre j o hjc ho')).1 _ H2 hs
    · rw [hF2 _ (by omega), hX2 _ (by omega)]
      exact (g3 _ o (hpost j o (by omega) hj ho')).1 _ H2 hs
  · have ho' : ops[c0]? = some o := by simpa using ho
    have hoe : o = ops[c0] := by rw [hoc] at ho'; exact (Option.some.inj ho').symm
    refine ⟨hwant c0 o _ k1 ho', hlooks c0 o k1 ho' hc0p, fun Q' G' a' w' K' hl hM' hi hlk hk => ?_⟩
    rw [hF1 _ (Nat.le_refl _)] at hlk
    exact call_run (by rw [hoe]; exact hcc) ops.toArray Q' G' a' w' K' hm hl hM' hi hlk hk
  · rw [hFN] at hr'
    have hx := g2 r H' M' hk (max ((c0 :: cp).foldl (fun fr j => putL fr (dstAt ops.toArray j) r) (F2 (N - (c0 + 1)))).length (topD (dsts ops))) (Nat.le_max_left _ _) G0 G' a' w' (Nat.le_trans hm (hsub r H' M' hk).1) hl hM' hr'
    have hx' : wpList P (idB (max ((c0 :: cp).foldl (fun fr j => putL fr (dstAt ops.toArray j) r) (F2 (N - (c0 + 1)))).length (topD (dsts ops)))) (PostX m G0 Q) ((ops.drop N).map (strip (dsts ops))) a' w' := wpList_mono (fun e a w ⟨G', s', h1, h2, h3, h4, h5⟩ => ⟨G', s', h1, h2, h3, h4, by cases e <;> first | exact h5 | exact h5.elim⟩) _ _ _ hx
    rw [wpList_strip (Nat.le_max_right _ _)] at hx'
    simpa using hx'
  · simp [left]
  · refine ⟨by simp, fun j hj => ?_⟩
    simp [Array.getD] at hj
  · intro j hj; simp [Array.getD]
  · have : (Array.replicate ops.toArray.size false).getD c0 false = false := by simp [Array.getD]
    rw [this]; exact .no
  · refine ⟨by rw [hF1 0 (by omega), e1]; have := hr.fr.1; simp at this; exact this.symm, fun t j ht hj hl => ?_, fun t ht _ => ?_⟩
    · simp [Array.getD] at hl
    · rw [hF1 0 (by omega), e1, arr_getD]; exact hr.fr.getD t
end
end Go.Proofs.Ytmjkhjebeebahaa
namespace Go.Proofs.Ytmjkhjebeebahaa
open Go.RowKit
set_option linter.unusedVariables false
set_option linter.unusedSimpArgs false


set_option maxRecDepth 100000 in
set_option maxHeartbeats 1000000 in
theorem sx_last (xs : List Ev3) (hx : xs.length ≤ 100000) (hp : ∀ i, -9223372036854775808 ≤ (evAt xs i).p ∧ (evAt xs i).p ≤ 9223372036854775807) :
    SX Try.prog 32 [.iv (iEvs xs)] [] [] fun r H' M' => ∃ b, r = lt (.map (some b)) ∧ H' = [] ∧ ∃ n, n ≤ xs.length ∧ M' = [(b, n, mInt (eLM xs xs.length))] := by
  have hw := trivial
  (refine SX_of_bodyL (aload tt) (aload_ok tyOK) Try.func32 rfl (by kernel_rfl) ?_; simp only [Try.ntmps32, List.length_cons, List.length_nil, Nat.reduceAdd, Nat.reduceSub, List.replicate_succ, List.replicate_zero, List.cons_append, List.nil_append])
  unfold iEvs iFlat
  (repeat (first | (first | (with_reducible first | refine AX_block ?_ | refine AX_skip ?_ | refine AX_exit ?_ | refine AX_ret ?_) | ((with_reducible refine AX_if_t ?_ ?_); focus (simp only [go_sem]; done)) | ((with_reducible refine AX_if_f ?_ ?_); focus (simp only [go_sem]; done)) | (with_reducible refine AX_seq_k (fun K hK => ?_)) | ((with_reducible refine ContX.use (by assumption) ?_)) | (simp only [thenX, inBlockX, if_true, if_false, reduceCtorEq])) | (first | ((first | ((with_reducible refine XRes_op tyOK ?_ ?_); (focus (first | (with_reducible rfl) | ((simp (disch := omega) only [go_sem]); done)))) | ((with_reducible refine ADF_op tyOK ?_ ?_ ?_); (focus rfl); (focus (first | (with_reducible rfl) | ((simp (disch := omega) only [go_sem]); done)))) | ((with_reducible refine ADR_alloc1 tyOK ?_ ?_); (focus (first | (with_reducible rfl) | ((simp (disch := omega) only [go_sem]); done)))) | ((with_reducible refine ADX_op tyOK ?_ ?_ ?_); (focus rfl); (focus (first | (with_reducible rfl) | ((simp (disch := omega) only [go_sem]); done)))) | ((with_reducible refine ADR_free1 tyOK ?_ ?_ ?_); (focus rfl); (focus (first | (with_reducible rfl) | ((simp (disch := omega) only [go_sem]); done)))) | ((with_reducible refine ADR_free0 tyOK ?_ ?_ ?_); (focus rfl); (focus (first | (with_reducible rfl) | ((simp (disch := omega) only [go_sem]); done)))) | ((with_reducible refine ADR_read1 tyOK ?_ ?_ ?_); (focus rfl); (focus (first | (with_reducible rfl) | ((simp (disch := omega) only [go_sem]); done)))) | ((with_reducible refine ADR_chg1 tyOK ?_ ?_); (focus (first | (with_reducible rfl) | ((simp (disch := omega) only [go_sem]); done))))); simp (maxSteps := 2000000) (disch := omega) only [go_sem , flatE_w, flatE_p, flatE_n, hw]; (first | (with_reducible refine XRes_id ?_) | (with_reducible refine ADF_id ?_) | (with_reducible refine ADR_id1 ?_) | (with_reducible refine ADX_id ?_))) | ((first | (with_reducible refine XRes_skip ?_ ?_) | (with_reducible refine ADF_skip (b := true) ?_ ?_) | (with_reducible refine ADX_skip ?_ ?_) | ((with_reducible refine ADR_skip1 ?_ ?_ ?_); (focus rfl))); (focus (first | rfl | ((simp (disch := omega) only [go_sem]); done))); (simp only [putL, List.set_cons_succ, List.set_cons_zero]))) | ((first | (with_reducible refine XRes_nil ?_) | (with_reducible refine ADF_nil ?_) | (with_reducible refine ADR_nil ?_) | (with_reducible refine ADX_nil ?_)); (first | refine hK _ ?_ | refine hK _ _ ?_); clear hK K) | ((first | (with_reducible refine AX_reg0 fun K hK => ?_) | (refine AX_drawG1 tyOK (by kernel_rfl) (by rfl) (by kernel_rfl) fun K hK => ?_) | (refine AX_drawT tyOK (by kernel_rfl) (by decide +kernel) fun K hK => ?_) | (refine AX_drawM1 (by kernel_rfl) (by rfl) (by decide +kernel) fun K hK => ?_) | (refine AX_drawA tyOK (by kernel_rfl) (by decide +kernel) fun K hK => ?_)); (first | simp only [go_sem, preN, effOp, runF, alM, mapOp, alD2, kdOf2, Bool.not_false, Bool.not_true, reduceCtorEq] | simp only [go_sem, preN, effOp, runF, alM, mapOp, Bool.not_false, Bool.not_true, reduceCtorEq] | simp only [go_sem, preN, effOp, runF, alD2, kdOf2, Bool.not_false, Bool.not_true, reduceCtorEq] | simp only [go_sem, alD2, kdOf2, Bool.not_false, Bool.not_true, reduceCtorEq] | simp only [go_sem, preN, effOp, runF, Bool.not_false, Bool.not_true, reduceCtorEq] | simp only [go_sem])) | (first | ((refine XRes_makeMap rfl (fun b => ?_)); (simp only [putL, List.set_cons_succ, List.set_cons_zero, mInt_upd, mInt_del, mInt_get, mInt_is, mSet_upd, mSet_get, mSet_is, List.nil_append, List.cons_append])) | (first | (refine XRes_mput (i := 0) rfl Try.underlying54 rfl rfl rfl (by omega) rfl (int_plain (by omega)) (by unfold maxLen; omega) ?_; (simp only [putL, List.set_cons_succ, List.set_cons_zero, mInt_upd, mInt_del, mInt_get, mInt_is, mSet_upd, mSet_get, mSet_is, List.nil_append, List.cons_append])) | (refine XRes_mget (i := 0) rfl Try.underlying54 int_zero (by decide) rfl rfl rfl (by omega) ?_; (simp only [putL, List.set_cons_succ, List.set_cons_zero, mInt_upd, mInt_del, mInt_get, mInt_is, mSet_upd, mSet_get, mSet_is, List.nil_append, List.cons_append])) | (refine XRes_mlook (i := 0) rfl Try.underlying54 int_zero (by decide) rfl rfl rfl (by omega) ?_; (simp only [putL, List.set_cons_succ, List.set_cons_zero, mInt_upd, mInt_del, mInt_get, mInt_is, mSet_upd, mSet_get, mSet_is, List.nil_append, List.cons_append])) | (refine XRes_mdel (i := 0) rfl Try.underlying54 rfl rfl rfl (by omega) ?_; (simp only [putL, List.set_cons_succ, List.set_cons_zero, mInt_upd, mInt_del, mInt_get, mInt_is, mSet_upd, mSet_get, mSet_is, List.nil_append, List.cons_append])) | (refine XRes_mput (i := 1) rfl Try.underlying54 rfl rfl rfl (by omega) rfl (int_plain (by omega)) (by unfold maxLen; omega) ?_; (simp only [putL, List.set_cons_succ, List.set_cons_zero, mInt_upd, mInt_del, mInt_get, mInt_is, mSet_upd, mSet_get, mSet_is, List.nil_append, List.cons_append])) | (refine XRes_mget (i := 1) rfl Try.underlying54 int_zero (by decide) rfl rfl rfl (by omega) ?_; (simp only [putL, List.set_cons_succ, List.set_cons_zero, mInt_upd, mInt_del, mInt_get, mInt_is, mSet_upd, mSet_get, mSet_is, List.nil_append, List.cons_append])) | (refine XRes_mlook (i := 1) rfl Try.underlying54 int_zero (by decide) rfl rfl rfl (by omega) ?_; (simp only [putL, List.set_cons_succ, List.set_cons_zero, mInt_upd, mInt_del, mInt_get, mInt_is, mSet_upd, mSet_get, mSet_is, List.nil_append, List.cons_append])) | (refine XRes_mdel (i := 1) rfl Try.underlying54 rfl rfl rfl (by omega) ?_; (simp only [putL, List.set_cons_succ, List.set_cons_zero, mInt_upd, mInt_del, mInt_get, mInt_is, mSet_upd, mSet_get, mSet_is, List.nil_append, List.cons_append]))))))
  try rw [show (fun _ => none : Int → Option Int) = eLM xs 0 from rfl]
  (refine AX_wh (σ := Nat × Nat) [10, 11, 12, 13, 5, 4, 14, 15, 16, 17, 18, 19, 20, 21, 22, 23, 24] (fun (k, n) => [(9, lint k), (3, lt (.map (some b)))]) (fun (k, n) => []) (fun (k, n) => [(b, n, mInt (eLM xs k))]) (fun (k, n) => k ≤ xs.length ∧ n ≤ k) (fun (k, n) => xs.length - k) (0, 0) (fun d => by first | ((simp only [deadS, updS, List.set_cons_succ, List.set_cons_zero, lint, List.length_nil, List.length_cons]); done) | ((simp only [deadS, updS, List.set_cons_succ, List.set_cons_zero, lint, List.length_nil, List.length_cons]); rfl) | rfl) (by first | (with_reducible rfl) | (simp only [hinit]; done) | rfl) (by first | (with_reducible rfl) | rfl) (by first | exact ⟨Nat.zero_le _, Nat.le_refl _⟩) ?_; rintro ⟨k, n⟩ d fr hfr ⟨hk, hn⟩; simp only [updS, deadS, List.set_cons_succ, List.set_cons_zero, lint] at hfr; subst hfr; (try dsimp only))
  have hpk := hp k
  by_cases hlt : k < xs.length
  · by_cases hw : (evAt xs k).w = 1
    · (repeat' (first | (first | (with_reducible first | refine AX_block ?_ | refine AX_skip ?_ | refine AX_exit ?_ | refine AX_ret ?_) | ((with_reducible refine AX_if_t ?_ ?_); focus (simp only [go_sem]; done)) | ((with_reducible refine AX_if_f ?_ ?_); focus (simp only [go_sem]; done)) | (with_reducible refine AX_seq_k (fun K hK => ?_)) | ((with_reducible refine ContX.use (by assumption) ?_)) | (simp only [thenX, inBlockX, if_true, if_false, reduceCtorEq])) | (first | ((first | ((with_reducible refine XRes_op tyOK ?_ ?_); (focus (first | (with_reducible rfl) | ((simp (disch := omega) only [go_sem]); done)))) | ((with_reducible refine ADF_op tyOK ?_ ?_ ?_); (focus rfl); (focus (first | (with_reducible rfl) | ((simp (disch := omega) only [go_sem]); done)))) | ((with_reducible refine ADR_alloc1 tyOK ?_ ?_); (focus (first | (with_reducible rfl) | ((simp (disch := omega) only [go_sem]); done)))) | ((with_reducible refine ADX_op tyOK ?_ ?_ ?_); (focus rfl); (focus (first | (with_reducible rfl) | ((simp (disch := omega) only [go_sem]); done)))) | ((with_reducible refine ADR_free1 tyOK ?_ ?_ ?_); (focus rfl); (focus (first | (with_reducible rfl) | ((simp (disch := omega) only [go_sem]); done)))) | ((with_reducible refine ADR_free0 tyOK ?_ ?_ ?_); (focus rfl); (focus (first | (with_reducible rfl) | ((simp (disch := omega) only [go_sem]); done)))) | ((with_reducible refine ADR_read1 tyOK ?_ ?_ ?_); (focus rfl); (focus (first | (with_reducible rfl) | ((simp (disch := omega) only [go_sem]); done)))) | ((with_reducible refine ADR_chg1 tyOK ?_ ?_); (focus (first | (with_reducible rfl) | ((simp (disch := omega) only [go_sem]); done))))); simp (maxSteps := 2000000) (disch := omega) only [go_sem , flatE_w, flatE_p, flatE_n, hw]; (first | (with_reducible refine XRes_id ?_) | (with_reducible refine ADF_id ?_) | (with_reducible refine ADR_id1 ?_) | (with_reducible refine ADX_id ?_))) | ((first | (with_reducible refine XRes_skip ?_ ?_) | (with_reducible refine ADF_skip (b := true) ?_ ?_) | (with_reducible refine ADX_skip ?_ ?_) | ((with_reducible refine ADR_skip1 ?_ ?_ ?_); (focus rfl))); (focus (first | rfl | ((simp (disch := omega) only [go_sem]); done))); (simp only [putL, List.set_cons_succ, List.set_cons_zero]))) | ((first | (with_reducible refine XRes_nil ?_) | (with_reducible refine ADF_nil ?_) | (with_reducible refine ADR_nil ?_) | (with_reducible refine ADX_nil ?_)); (first | refine hK _ ?_ | refine hK _ _ ?_); clear hK K) | ((first | (with_reducible refine AX_reg0 fun K hK => ?_) | (refine AX_drawG1 tyOK (by kernel_rfl) (by rfl) (by kernel_rfl) fun K hK => ?_) | (refine AX_drawT tyOK (by kernel_rfl) (by decide +kernel) fun K hK => ?_) | (refine AX_drawM1 (by kernel_rfl) (by rfl) (by decide +kernel) fun K hK => ?_) | (refine AX_drawA tyOK (by kernel_rfl) (by decide +kernel) fun K hK => ?_)); (first | simp only [go_sem, preN, effOp, runF, alM, mapOp, alD2, kdOf2, Bool.not_false, Bool.not_true, reduceCtorEq] | simp only [go_sem, preN, effOp, runF, alM, mapOp, Bool.not_false, Bool.not_true, reduceCtorEq] | simp only [go_sem, preN, effOp, runF, alD2, kdOf2, Bool.not_false, Bool.not_true, reduceCtorEq] | simp only [go_sem, alD2, kdOf2, Bool.not_false, Bool.not_true, reduceCtorEq] | simp only [go_sem, preN, effOp, runF, Bool.not_false, Bool.not_true, reduceCtorEq] | simp only [go_sem])) | (first | ((refine XRes_makeMap rfl (fun b => ?_)); (simp only [putL, List.set_cons_succ, List.set_cons_zero, mInt_upd, mInt_del, mInt_get, mInt_is, mSet_upd, mSet_get, mSet_is, List.nil_append, List.cons_append])) | (first | (refine XRes_mput (i := 0) rfl Try.underlying54 rfl rfl rfl (by omega) rfl (int_plain (by omega)) (by unfold maxLen; omega) ?_; (simp only [putL, List.set_cons_succ, List.set_cons_zero, mInt_upd, mInt_del, mInt_get, mInt_is, mSet_upd, mSet_get, mSet_is, List.nil_append, List.cons_append])) | (refine XRes_mget (i := 0) rfl Try.underlying54 int_zero (by decide) rfl rfl rfl (by omega) ?_; (simp only [putL, List.set_cons_succ, List.set_cons_zero, mInt_upd, mInt_del, mInt_get, mInt_is, mSet_upd, mSet_get, mSet_is, List.nil_append, List.cons_append])) | (refine XRes_mlook (i := 0) rfl Try.underlying54 int_zero (by decide) rfl rfl rfl (by omega) ?_; (simp only [putL, List.set_cons_succ, List.set_cons_zero, mInt_upd, mInt_del, mInt_get, mInt_is, mSet_upd, mSet_get, mSet_is, List.nil_append, List.cons_append])) | (refine XRes_mdel (i := 0) rfl Try.underlying54 rfl rfl rfl (by omega) ?_; (simp only [putL, List.set_cons_succ, List.set_cons_zero, mInt_upd, mInt_del, mInt_get, mInt_is, mSet_upd, mSet_get, mSet_is, List.nil_append, List.cons_append])) | (refine XRes_mput (i := 1) rfl Try.underlying54 rfl rfl rfl (by omega) rfl (int_plain (by omega)) (by unfold maxLen; omega) ?_; (simp only [putL, List.set_cons_succ, List.set_cons_zero, mInt_upd, mInt_del, mInt_get, mInt_is, mSet_upd, mSet_get, mSet_is, List.nil_append, List.cons_append])) | (refine XRes_mget (i := 1) rfl Try.underlying54 int_zero (by decide) rfl rfl rfl (by omega) ?_; (simp only [putL, List.set_cons_succ, List.set_cons_zero, mInt_upd, mInt_del, mInt_get, mInt_is, mSet_upd, mSet_get, mSet_is, List.nil_append, List.cons_append])) | (refine XRes_mlook (i := 1) rfl Try.underlying54 int_zero (by decide) rfl rfl rfl (by omega) ?_; (simp only [putL, List.set_cons_succ, List.set_cons_zero, mInt_upd, mInt_del, mInt_get, mInt_is, mSet_upd, mSet_get, mSet_is, List.nil_append, List.cons_append])) | (refine XRes_mdel (i := 1) rfl Try.underlying54 rfl rfl rfl (by omega) ?_; (simp only [putL, List.set_cons_succ, List.set_cons_zero, mInt_upd, mInt_del, mInt_get, mInt_is, mSet_upd, mSet_get, mSet_is, List.nil_append, List.cons_append])))) | ((first | (refine XRes_splitG (by rfl) (fun hc => ?_) (fun hc => ?_)) | (refine ADF_splitG (by rfl) (fun hc => ?_) (fun hc => ?_))) <;> (try simp only [eqRes, List.cons_beq_cons, Bool.and_eq_true, Bool.not_eq_true, Bool.and_eq_false_iff, decide_eq_true_eq, decide_eq_false_iff_not, bne_iff_ne, beq_iff_eq, bne_eq_false_iff_eq, beq_eq_false_iff_ne, Bool.not_eq_true', Bool.not_eq_false', ne_eq, Int.not_lt, Int.not_le, Decidable.not_not] at hc) <;> simp only [List.set_cons_succ, List.set_cons_zero]) | (first | ((with_reducible refine AX_if_t ?_ ?_); focus (simp (maxSteps := 2000000) (disch := omega) only [go_sem , flatE_w, flatE_p, flatE_n, hw]; done)) | ((with_reducible refine AX_if_f ?_ ?_); focus (simp (maxSteps := 2000000) (disch := omega) only [go_sem , flatE_w, flatE_p, flatE_n, hw]; done)) | (refine AX_cond _ (by rfl) (fun hc => ?_) (fun hc => ?_) <;> (try simp only [eqRes, List.cons_beq_cons, Bool.and_eq_true, Bool.not_eq_true, Bool.and_eq_false_iff, decide_eq_true_eq, decide_eq_false_iff_not, bne_iff_ne, beq_iff_eq, bne_eq_false_iff_eq, beq_eq_false_iff_ne, Bool.not_eq_true', Bool.not_eq_false', ne_eq, Int.not_lt, Int.not_le, Decidable.not_not] at hc)))))
      exact whx_ren [] (k + 1, n + 1) ⟨by omega, by omega⟩ (by (first | omega | (dsimp only; omega) | (simp only; omega))) (by rw [eLM_yes hw]) (by decide) (by decide) (by (simp (maxSteps := 2000000) (disch := omega) only [go_sem, lint])) (by (simp (maxSteps := 2000000) (disch := omega) only [go_sem, lint])) (by (simp (maxSteps := 2000000) (disch := omega) only [go_sem, lint])) (fun d => by (simp (maxSteps := 2000000) (disch := omega) only [go_sem, lint]))
    · (repeat' (first | (first | (with_reducible first | refine AX_block ?_ | refine AX_skip ?_ | refine AX_exit ?_ | refine AX_ret ?_) | ((with_reducible refine AX_if_t ?_ ?_); focus (simp only [go_sem]; done)) | ((with_reducible refine AX_if_f ?_ ?_); focus (simp only [go_sem]; done)) | (with_reducible refine AX_seq_k (fun K hK => ?_)) | ((with_reducible refine ContX.use (by assumption) ?_)) | (simp only [thenX, inBlockX, if_true, if_false, reduceCtorEq])) | (first | ((first | ((with_reducible refine XRes_op tyOK ?_ ?_); (focus (first | (with_reducible rfl) | ((simp (disch := omega) only [go_sem]); done)))) | ((with_reducible refine ADF_op tyOK ?_ ?_ ?_); (focus rfl); (focus (first | (with_reducible rfl) | ((simp (disch := omega) only [go_sem]); done)))) | ((with_reducible refine ADR_alloc1 tyOK ?_ ?_); (focus (first | (with_reducible rfl) | ((simp (disch := omega) only [go_sem]); done)))) | ((with_reducible refine ADX_op tyOK ?_ ?_ ?_); (focus rfl); (focus (first | (with_reducible rfl) | ((simp (disch := omega) only [go_sem]); done)))) | ((with_reducible refine ADR_free1 tyOK ?_ ?_ ?_); (focus rfl); (focus (first | (with_reducible rfl) | ((simp (disch := omega) only [go_sem]); done)))) | ((with_reducible refine ADR_free0 tyOK ?_ ?_ ?_); (focus rfl); (focus (first | (with_reducible rfl) | ((simp (disch := omega) only [go_sem]); done)))) | ((with_reducible refine ADR_read1 tyOK ?_ ?_ ?_); (focus rfl); (focus (first | (with_reducible rfl) | ((simp (disch := omega) only [go_sem]); done)))) | ((with_reducible refine ADR_chg1 tyOK ?_ ?_); (focus (first | (with_reducible rfl) | ((simp (disch := omega) only [go_sem]); done))))); simp (maxSteps := 2000000) (disch := omega) only [go_sem , flatE_w, flatE_p, flatE_n, hw]; (first | (with_reducible refine XRes_id ?_) | (with_reducible refine ADF_id ?_) | (with_reducible refine ADR_id1 ?_) | (with_reducible refine ADX_id ?_))) | ((first | (with_reducible refine XRes_skip ?_ ?_) | (with_reducible refine ADF_skip (b := true) ?_ ?_) | (with_reducible refine ADX_skip ?_ ?_) | ((with_reducible refine ADR_skip1 ?_ ?_ ?_); (focus rfl))); (focus (first | rfl | ((simp (disch := omega) only [go_sem]); done))); (simp only [putL, List.set_cons_succ, List.set_cons_zero]))) | ((first | (with_reducible refine XRes_nil ?_) | (with_reducible refine ADF_nil ?_) | (with_reducible refine ADR_nil ?_) | (with_reducible refine ADX_nil ?_)); (first | refine hK _ ?_ | refine hK _ _ ?_); clear hK K) | ((first | (with_reducible refine AX_reg0 fun K hK => ?_) | (refine AX_drawG1 tyOK (by kernel_rfl) (by rfl) (by kernel_rfl) fun K hK => ?_) | (refine AX_drawT tyOK (by kernel_rfl) (by decide +kernel) fun K hK => ?_) | (refine AX_drawM1 (by kernel_rfl) (by rfl) (by decide +kernel) fun K hK => ?_) | (refine AX_drawA tyOK (by kernel_rfl) (by decide +kernel) fun K hK => ?_)); (first | simp only [go_sem, preN, effOp, runF, alM, mapOp, alD2, kdOf2, Bool.not_false, Bool.not_true, reduceCtorEq] | simp only [go_sem, preN, effOp, runF, alM, mapOp, Bool.not_false, Bool.not_true, reduceCtorEq] | simp only [go_sem, preN, effOp, runF, alD2, kdOf2, Bool.not_false, Bool.not_true, reduceCtorEq] | simp only [go_sem, alD2, kdOf2, Bool.not_false, Bool.not_true, reduceCtorEq] | simp only [go_sem, preN, effOp, runF, Bool.not_false, Bool.not_true, reduceCtorEq] | simp only [go_sem])) | (first | ((refine XRes_makeMap rfl (fun b => ?_)); (simp only [putL, List.set_cons_succ, List.set_cons_zero, mInt_upd, mInt_del, mInt_get, mInt_is, mSet_upd, mSet_get, mSet_is, List.nil_append, List.cons_append])) | (first | (refine XRes_mput (i := 0) rfl Try.underlying54 rfl rfl rfl (by omega) rfl (int_plain (by omega)) (by unfold maxLen; omega) ?_; (simp only [putL, List.set_cons_succ, List.set_cons_zero, mInt_upd, mInt_del, mInt_get, mInt_is, mSet_upd, mSet_get, mSet_is, List.nil_append, List.cons_append])) | (refine XRes_mget (i := 0) rfl Try.underlying54 int_zero (by decide) rfl rfl rfl (by omega) ?_; (simp only [putL, List.set_cons_succ, List.set_cons_zero, mInt_upd, mInt_del, mInt_get, mInt_is, mSet_upd, mSet_get, mSet_is, List.nil_append, List.cons_append])) | (refine XRes_mlook (i := 0) rfl Try.underlying54 int_zero (by decide) rfl rfl rfl (by omega) ?_; (simp only [putL, List.set_cons_succ, List.set_cons_zero, mInt_upd, mInt_del, mInt_get, mInt_is, mSet_upd, mSet_get, mSet_is, List.nil_append, List.cons_append])) | (refine XRes_mdel (i := 0) rfl Try.underlying54 rfl rfl rfl (by omega) ?_; (simp only [putL, List.set_cons_succ, List.set_cons_zero, mInt_upd, mInt_del, mInt_get, mInt_is, mSet_upd, mSet_get, mSet_is, List.nil_append, List.cons_append])) | (refine XRes_mput (i := 1) rfl Try.underlying54 rfl rfl rfl (by omega) rfl (int_plain (by omega)) (by unfold maxLen; omega) ?_; (simp only [putL, List.set_cons_succ, List.set_cons_zero, mInt_upd, mInt_del, mInt_get, mInt_is, mSet_upd, mSet_get, mSet_is, List.nil_append, List.cons_append])) | (refine XRes_mget (i := 1) rfl Try.underlying54 int_zero (by decide) rfl rfl rfl (by omega) ?_; (simp only [putL, List.set_cons_succ, List.set_cons_zero, mInt_upd, mInt_del, mInt_get, mInt_is, mSet_upd, mSet_get, mSet_is, List.nil_append, List.cons_append])) | (refine XRes_mlook (i := 1) rfl Try.underlying54 int_zero (by decide) rfl rfl rfl (by omega) ?_; (simp only [putL, List.set_cons_succ, List.set_cons_zero, mInt_upd, mInt_del, mInt_get, mInt_is, mSet_upd, mSet_get, mSet_is, List.nil_append, List.cons_append])) | (refine XRes_mdel (i := 1) rfl Try.underlying54 rfl rfl rfl (by omega) ?_; (simp only [putL, List.set_cons_succ, List.set_cons_zero, mInt_upd, mInt_del, mInt_get, mInt_is, mSet_upd, mSet_get, mSet_is, List.nil_append, List.cons_append])))) | ((first | (refine XRes_splitG (by rfl) (fun hc => ?_) (fun hc => ?_)) | (refine ADF_splitG (by rfl) (fun hc => ?_) (fun hc => ?_))) <;> (try simp only [eqRes, List.cons_beq_cons, Bool.and_eq_true, Bool.not_eq_true, Bool.and_eq_false_iff, decide_eq_true_eq, decide_eq_false_iff_not, bne_iff_ne, beq_iff_eq, bne_eq_false_iff_eq, beq_eq_false_iff_ne, Bool.not_eq_true', Bool.not_eq_false', ne_eq, Int.not_lt, Int.not_le, Decidable.not_not] at hc) <;> simp only [List.set_cons_succ, List.set_cons_zero]) | (first | ((with_reducible refine AX_if_t ?_ ?_); focus (simp (maxSteps := 2000000) (disch := omega) only [go_sem , flatE_w, flatE_p, flatE_n, hw]; done)) | ((with_reducible refine AX_if_f ?_ ?_); focus (simp (maxSteps := 2000000) (disch := omega) only [go_sem , flatE_w, flatE_p, flatE_n, hw]; done)) | (refine AX_cond _ (by rfl) (fun hc => ?_) (fun hc => ?_) <;> (try simp only [eqRes, List.cons_beq_cons, Bool.and_eq_true, Bool.not_eq_true, Bool.and_eq_false_iff, decide_eq_true_eq, decide_eq_false_iff_not, bne_iff_ne, beq_iff_eq, bne_eq_false_iff_eq, beq_eq_false_iff_ne, Bool.not_eq_true', Bool.not_eq_false', ne_eq, Int.not_lt, Int.not_le, Decidable.not_not] at hc)))))
      exact whx_ren [] (k + 1, n) ⟨by omega, by omega⟩ (by (first | omega | (dsimp only; omega) | (simp only; omega))) (by rw [eLM_no hw]) (by decide) (by decide) (by (simp (maxSteps := 2000000) (disch := omega) only [go_sem, lint])) (by (simp (maxSteps := 2000000) (disch := omega) only [go_sem, lint])) (by (simp (maxSteps := 2000000) (disch := omega) only [go_sem, lint])) (fun d => by (simp (maxSteps := 2000000) (disch := omega) only [go_sem, lint]))
  · have hkk : k = xs.length := by omega
    subst hkk
    (repeat' (first | (first | (with_reducible first | refine AX_block ?_ | refine AX_skip ?_ | refine AX_exit ?_ | refine AX_ret ?_) | ((with_reducible refine AX_if_t ?_ ?_); focus (simp only [go_sem]; done)) | ((with_reducible refine AX_if_f ?_ ?_); focus (simp only [go_sem]; done)) | (with_reducible refine AX_seq_k (fun K hK => ?_)) | ((with_reducible refine ContX.use (by assumption) ?_)) | (simp only [thenX, inBlockX, if_true, if_false, reduceCtorEq])) | (first | ((first | ((with_reducible refine XRes_op tyOK ?_ ?_); (focus (first | (with_reducible rfl) | ((simp (disch := omega) only [go_sem]); done)))) | ((with_reducible refine ADF_op tyOK ?_ ?_ ?_); (focus rfl); (focus (first | (with_reducible rfl) | ((simp (disch := omega) only [go_sem]); done)))) | ((with_reducible refine ADR_alloc1 tyOK ?_ ?_); (focus (first | (with_reducible rfl) | ((simp (disch := omega) only [go_sem]); done)))) | ((with_reducible refine ADX_op tyOK ?_ ?_ ?_); (focus rfl); (focus (first | (with_reducible rfl) | ((simp (disch := omega) only [go_sem]); done)))) | ((with_reducible refine ADR_free1 tyOK ?_ ?_ ?_); (focus rfl); (focus (first | (with_reducible rfl) | ((simp (disch := omega) only [go_sem]); done)))) | ((with_reducible refine ADR_free0 tyOK ?_ ?_ ?_); (focus rfl); (focus (first | (with_reducible rfl) | ((simp (disch := omega) only [go_sem]); done)))) | ((with_reducible refine ADR_read1 tyOK ?_ ?_ ?_); (focus rfl); (focus (first | (with_reducible rfl) | ((simp (disch := omega) only [go_sem]); done)))) | ((with_reducible refine ADR_chg1 tyOK ?_ ?_); (focus (first | (with_reducible rfl) | ((simp (disch := omega) only [go_sem]); done))))); simp (maxSteps := 2000000) (disch := omega) only [go_sem , flatE_w, flatE_p, flatE_n, hw]; (first | (with_reducible refine XRes_id ?_) | (with_reducible refine ADF_id ?_) | (with_reducible refine ADR_id1 ?_) | (with_reducible refine ADX_id ?_))) | ((first | (with_reducible refine XRes_skip ?_ ?_) | (with_reducible refine ADF_skip (b := true) ?_ ?_) | (with_reducible refine ADX_skip ?_ ?_) | ((with_reducible refine ADR_skip1 ?_ ?_ ?_); (focus rfl))); (focus (first | rfl | ((simp (disch := omega) only [go_sem]); done))); (simp only [putL, List.set_cons_succ, List.set_cons_zero]))) | ((first | (with_reducible refine XRes_nil ?_) | (with_reducible refine ADF_nil ?_) | (with_reducible refine ADR_nil ?_) | (with_reducible refine ADX_nil ?_)); (first | refine hK _ ?_ | refine hK _ _ ?_); clear hK K) | ((first | (with_reducible refine AX_reg0 fun K hK => ?_) | (refine AX_drawG1 tyOK (by kernel_rfl) (by rfl) (by kernel_rfl) fun K hK => ?_) | (refine AX_drawT tyOK (by kernel_rfl) (by decide +kernel) fun K hK => ?_) | (refine AX_drawM1 (by kernel_rfl) (by rfl) (by decide +kernel) fun K hK => ?_) | (refine AX_drawA tyOK (by kernel_rfl) (by decide +kernel) fun K hK => ?_)); (first | simp only [go_sem, preN, effOp, runF, alM, mapOp, alD2, kdOf2, Bool.not_false, Bool.not_true, reduceCtorEq] | simp only [go_sem, preN, effOp, runF, alM, mapOp, Bool.not_false, Bool.not_true, reduceCtorEq] | simp only [go_sem, preN, effOp, runF, alD2, kdOf2, Bool.not_false, Bool.not_true, reduceCtorEq] | simp only [go_sem, alD2, kdOf2, Bool.not_false, Bool.not_true, reduceCtorEq] | simp only [go_sem, preN, effOp, runF, Bool.not_false, Bool.not_true, reduceCtorEq] | simp only [go_sem])) | (first | ((refine XRes_makeMap rfl (fun b => ?_)); (simp only [putL, List.set_cons_succ, List.set_cons_zero, mInt_upd, mInt_del, mInt_get, mInt_is, mSet_upd, mSet_get, mSet_is, List.nil_append, List.cons_append])) | (first | (refine XRes_mput (i := 0) rfl Try.underlying54 rfl rfl rfl (by omega) rfl (int_plain (by omega)) (by unfold maxLen; omega) ?_; (simp only [putL, List.set_cons_succ, List.set_cons_zero, mInt_upd, mInt_del, mInt_get, mInt_is, mSet_upd, mSet_get, mSet_is, List.nil_append, List.cons_append])) | (refine XRes_mget (i := 0) rfl Try.underlying54 int_zero (by decide) rfl rfl rfl (by omega) ?_; (simp only [putL, List.set_cons_succ, List.set_cons_zero, mInt_upd, mInt_del, mInt_get, mInt_is, mSet_upd, mSet_get, mSet_is, List.nil_append, List.cons_append])) | (refine XRes_mlook (i := 0) rfl Try.underlying54 int_zero (by decide) rfl rfl rfl (by omega) ?_; (simp only [putL, List.set_cons_succ, List.set_cons_zero, mInt_upd, mInt_del, mInt_get, mInt_is, mSet_upd, mSet_get, mSet_is, List.nil_append, List.cons_append])) | (refine XRes_mdel (i := 0) rfl Try.underlying54 rfl rfl rfl (by omega) ?_; (simp only [putL, List.set_cons_succ, List.set_cons_zero, mInt_upd, mInt_del, mInt_get, mInt_is, mSet_upd, mSet_get, mSet_is, List.nil_append, List.cons_append])) | (refine XRes_mput (i := 1) rfl Try.underlying54 rfl rfl rfl (by omega) rfl (int_plain (by omega)) (by unfold maxLen; omega) ?_; (simp only [putL, List.set_cons_succ, List.set_cons_zero, mInt_upd, mInt_del, mInt_get, mInt_is, mSet_upd, mSet_get, mSet_is, List.nil_append, List.cons_append])) | (refine XRes_mget (i := 1) rfl Try.underlying54 int_zero (by decide) rfl rfl rfl (by omega) ?_; (simp only [putL, List.set_cons_succ, List.set_cons_zero, mInt_upd, mInt_del, mInt_get, mInt_is, mSet_upd, mSet_get, mSet_is, List.nil_append, List.cons_append])) | (refine XRes_mlook (i := 1) rfl Try.underlying54 int_zero (by decide) rfl rfl rfl (by omega) ?_; (simp only [putL, List.set_cons_succ, List.set_cons_zero, mInt_upd, mInt_del, mInt_get, mInt_is, mSet_upd, mSet_get, mSet_is, List.nil_append, List.cons_append])) | (refine XRes_mdel (i := 1) rfl Try.underlying54 rfl rfl rfl (by omega) ?_; (simp only [putL, List.set_cons_succ, List.set_cons_zero, mInt_upd, mInt_del, mInt_get, mInt_is, mSet_upd, mSet_get, mSet_is, List.nil_append, List.cons_append])))) | ((first | (refine XRes_splitG (by rfl) (fun hc => ?_) (fun hc => ?_)) | (refine ADF_splitG (by rfl) (fun hc => ?_) (fun hc => ?_))) <;> (try simp only [eqRes, List.cons_beq_cons, Bool.and_eq_true, Bool.not_eq_true, Bool.and_eq_false_iff, decide_eq_true_eq, decide_eq_false_iff_not, bne_iff_ne, beq_iff_eq, bne_eq_false_iff_eq, beq_eq_false_iff_ne, Bool.not_eq_true', Bool.not_eq_false', ne_eq, Int.not_lt, Int.not_le, Decidable.not_not] at hc) <;> simp only [List.set_cons_succ, List.set_cons_zero]) | (first | ((with_reducible refine AX_if_t ?_ ?_); focus (simp (maxSteps := 2000000) (disch := omega) only [go_sem , flatE_w, flatE_p, flatE_n, hw]; done)) | ((with_reducible refine AX_if_f ?_ ?_); focus (simp (maxSteps := 2000000) (disch := omega) only [go_sem , flatE_w, flatE_p, flatE_n, hw]; done)) | (refine AX_cond _ (by rfl) (fun hc => ?_) (fun hc => ?_) <;> (try simp only [eqRes, List.cons_beq_cons, Bool.and_eq_true, Bool.not_eq_true, Bool.and_eq_false_iff, decide_eq_true_eq, decide_eq_false_iff_not, bne_iff_ne, beq_iff_eq, bne_eq_false_iff_eq, beq_eq_false_iff_ne, Bool.not_eq_true', Bool.not_eq_false', ne_eq, Int.not_lt, Int.not_le, Decidable.not_not] at hc)))))
    refine LeadX.now ?_
    (simp only [bodyXM]; refine ⟨_, by simp only [aresults, aresult, XS.as, Try.results32, aload, List.getD_cons_succ, List.getD_cons_zero, List.getElem?_cons_succ, List.getElem?_cons_zero, Option.bind_some]; rfl, ?_⟩)
    exact ⟨b, rfl, (by first | trivial | rfl), n, hn, rfl⟩
set_option maxRecDepth 100000 in
set_option maxHeartbeats 1000000 in
theorem sx_last1 (t : TypeId) (y : IV) (xs : List Ev3) (hx : xs.length ≤ 100000) (hp : ∀ i, -9223372036854775808 ≤ (evAt xs i).p ∧ (evAt xs i).p ≤ 9223372036854775807) :
    SX Try.prog 32 [.iv (iEvs xs)] [some ⟨t, [.iv y]⟩] [] fun r H' M' => ∃ b, r = lt (.map (some b)) ∧ H' = [some ⟨t, [.iv y]⟩] ∧ ∃ n, n ≤ xs.length ∧ M' = [(b, n, mInt (eLM xs xs.length))] := by
  have hw := trivial
  (refine SX_of_bodyL (aload tt) (aload_ok tyOK) Try.func32 rfl (by kernel_rfl) ?_; simp only [Try.ntmps32, List.length_cons, List.length_nil, Nat.reduceAdd, Nat.reduceSub, List.replicate_succ, List.replicate_zero, List.cons_append, List.nil_append])
  unfold iEvs iFlat
  (repeat (first | (first | (with_reducible first | refine AX_block ?_ | refine AX_skip ?_ | refine AX_exit ?_ | refine AX_ret ?_) | ((with_reducible refine AX_if_t ?_ ?_); focus (simp only [go_sem]; done)) | ((with_reducible refine AX_if_f ?_ ?_); focus (simp only [go_sem]; done)) | (with_reducible refine AX_seq_k (fun K hK => ?_)) | ((with_reducible refine ContX.use (by assumption) ?_)) | (simp only [thenX, inBlockX, if_true, if_false, reduceCtorEq])) | (first | ((first | ((with_reducible refine XRes_op tyOK ?_ ?_); (focus (first | (with_reducible rfl) | ((simp (disch := omega) only [go_sem]); done)))) | ((with_reducible refine ADF_op tyOK ?_ ?_ ?_); (focus rfl); (focus (first | (with_reducible rfl) | ((simp (disch := omega) only [go_sem]); done)))) | ((with_reducible refine ADR_alloc1 tyOK ?_ ?_); (focus (first | (with_reducible rfl) | ((simp (disch := omega) only [go_sem]); done)))) | ((with_reducible refine ADX_op tyOK ?_ ?_ ?_); (focus rfl); (focus (first | (with_reducible rfl) | ((simp (disch := omega) only [go_sem]); done)))) | ((with_reducible refine ADR_free1 tyOK ?_ ?_ ?_); (focus rfl); (focus (first | (with_reducible rfl) | ((simp (disch := omega) only [go_sem]); done)))) | ((with_reducible refine ADR_free0 tyOK ?_ ?_ ?_); (focus rfl); (focus (first | (with_reducible rfl) | ((simp (disch := omega) only [go_sem]); done)))) | ((with_reducible refine ADR_read1 tyOK ?_ ?_ ?_); (focus rfl); (focus (first | (with_reducible rfl) | ((simp (disch := omega) only [go_sem]); done)))) | ((with_reducible refine ADR_chg1 tyOK ?_ ?_); (focus (first | (with_reducible rfl) | ((simp (disch := omega) only [go_sem]); done))))); simp (maxSteps := 2000000) (disch := omega) only [go_sem , flatE_w, flatE_p, flatE_n, hw]; (first | (with_reducible refine XRes_id ?_) | (with_reducible refine ADF_id ?_) | (with_reducible refine ADR_id1 ?_) | (with_reducible refine ADX_id ?_))) | ((first | (with_reducible refine XRes_skip ?_ ?_) | (with_reducible refine ADF_skip (b := true) ?_ ?_) | (with_reducible refine ADX_skip ?_ ?_) | ((with_reducible refine ADR_skip1 ?_ ?_ ?_); (focus rfl))); (focus (first | rfl | ((simp (disch := omega) only [go_sem]); done))); (simp only [putL, List.set_cons_succ, List.set_cons_zero]))) | ((first | (with_reducible refine XRes_nil ?_) | (with_reducible refine ADF_nil ?_) | (with_reducible refine ADR_nil ?_) | (with_reducible refine ADX_nil ?_)); (first | refine hK _ ?_ | refine hK _ _ ?_); clear hK K) | ((first | (with_reducible refine AX_reg0 fun K hK => ?_) | (refine AX_drawG1 tyOK (by kernel_rfl) (by rfl) (by kernel_rfl) fun K hK => ?_) | (refine AX_drawT tyOK (by kernel_rfl) (by decide +kernel) fun K hK => ?_) | (refine AX_drawM1 (by kernel_rfl) (by rfl) (by decide +kernel) fun K hK => ?_) | (refine AX_drawA tyOK (by kernel_rfl) (by decide +kernel) fun K hK => ?_)); (first | simp only [go_sem, preN, effOp, runF, alM, mapOp, alD2, kdOf2, Bool.not_false, Bool.not_true, reduceCtorEq] | simp only [go_sem, preN, effOp, runF, alM, mapOp, Bool.not_false, Bool.not_true, reduceCtorEq] | simp only [go_sem, preN, effOp, runF, alD2, kdOf2, Bool.not_false, Bool.not_true, reduceCtorEq] | simp only [go_sem, alD2, kdOf2, Bool.not_false, Bool.not_true, reduceCtorEq] | simp only [go_sem, preN, effOp, runF, Bool.not_false, Bool.not_true, reduceCtorEq] | simp only [go_sem])) | (first | ((refine XRes_makeMap rfl (fun b => ?_)); (simp only [putL, List.set_cons_succ, List.set_cons_zero, mInt_upd, mInt_del, mInt_get, mInt_is, mSet_upd, mSet_get, mSet_is, List.nil_append, List.cons_append])) | (first | (refine XRes_mput (i := 0) rfl Try.underlying54 rfl rfl rfl (by omega) rfl (int_plain (by omega)) (by unfold maxLen; omega) ?_; (simp only [putL, List.set_cons_succ, List.set_cons_zero, mInt_upd, mInt_del, mInt_get, mInt_is, mSet_upd, mSet_get, mSet_is, List.nil_append, List.cons_append])) | (refine XRes_mget (i := 0) rfl Try.underlying54 int_zero (by decide) rfl rfl rfl (by omega) ?_; (simp only [putL, List.set_cons_succ, List.set_cons_zero, mInt_upd, mInt_del, mInt_get, mInt_is, mSet_upd, mSet_get, mSet_is, List.nil_append, List.cons_append])) | (refine XRes_mlook (i := 0) rfl Try.underlying54 int_zero (by decide) rfl rfl rfl (by omega) ?_; (simp only [putL, List.set_cons_succ, List.set_cons_zero, mInt_upd, mInt_del, mInt_get, mInt_is, mSet_upd, mSet_get, mSet_is, List.nil_append, List.cons_append])) | (refine XRes_mdel (i := 0) rfl Try.underlying54 rfl rfl rfl (by omega) ?_; (simp only [putL, List.set_cons_succ, List.set_cons_zero, mInt_upd, mInt_del, mInt_get, mInt_is, mSet_upd, mSet_get, mSet_is, List.nil_append, List.cons_append])) | (refine XRes_mput (i := 1) rfl Try.underlying54 rfl rfl rfl (by omega) rfl (int_plain (by omega)) (by unfold maxLen; omega) ?_; (simp only [putL, List.set_cons_succ, List.set_cons_zero, mInt_upd, mInt_del, mInt_get, mInt_is, mSet_upd, mSet_get, mSet_is, List.nil_append, List.cons_append])) | (refine XRes_mget (i := 1) rfl Try.underlying54 int_zero (by decide) rfl rfl rfl (by omega) ?_; (simp only [putL, List.set_cons_succ, List.set_cons_zero, mInt_upd, mInt_del, mInt_get, mInt_is, mSet_upd, mSet_get, mSet_is, List.nil_append, List.cons_append])) | (refine XRes_mlook (i := 1) rfl Try.underlying54 int_zero (by decide) rfl rfl rfl (by omega) ?_; (simp only [putL, List.set_cons_succ, List.set_cons_zero, mInt_upd, mInt_del, mInt_get, mInt_is, mSet_upd, mSet_get, mSet_is, List.nil_append, List.cons_append])) | (refine XRes_mdel (i := 1) rfl Try.underlying54 rfl rfl rfl (by omega) ?_; (simp only [putL, List.set_cons_succ, List.set_cons_zero, mInt_upd, mInt_del, mInt_get, mInt_is, mSet_upd, mSet_get, mSet_is, List.nil_append, List.cons_append]))))))
  try rw [show (fun _ => none : Int → Option Int) = eLM xs 0 from rfl]
  (refine AX_wh (σ := Nat × Nat) [10, 11, 12, 13, 5, 4, 14, 15, 16, 17, 18, 19, 20, 21, 22, 23, 24] (fun (k, n) => [(9, lint k), (3, lt (.map (some b)))]) (fun (k, n) => [some ⟨t, [.iv y]⟩]) (fun (k, n) => [(b, n, mInt (eLM xs k))]) (fun (k, n) => k ≤ xs.length ∧ n ≤ k) (fun (k, n) => xs.length - k) (0, 0) (fun d => by first | ((simp only [deadS, updS, List.set_cons_succ, List.set_cons_zero, lint, List.length_nil, List.length_cons]); done) | ((simp only [deadS, updS, List.set_cons_succ, List.set_cons_zero, lint, List.length_nil, List.length_cons]); rfl) | rfl) (by first | (with_reducible rfl) | (simp only [hinit]; done) | rfl) (by first | (with_reducible rfl) | rfl) (by first | exact ⟨Nat.zero_le _, Nat.le_refl _⟩) ?_; rintro ⟨k, n⟩ d fr hfr ⟨hk, hn⟩; simp only [updS, deadS, List.set_cons_succ, List.set_cons_zero, lint] at hfr; subst hfr; (try dsimp only))
  have hpk := hp k
  by_cases hlt : k < xs.length
  · by_cases hw : (evAt xs k).w = 1
    · (repeat' (first | (first | (with_reducible first | refine AX_block ?_ | refine AX_skip ?_ | refine AX_exit ?_ | refine AX_ret ?_) | ((with_reducible refine AX_if_t ?_ ?_); focus (simp only [go_sem]; done)) | ((with_reducible refine AX_if_f ?_ ?_); focus (simp only [go_sem]; done)) | (with_reducible refine AX_seq_k (fun K hK => ?_)) | ((with_reducible refine ContX.use (by assumption) ?_)) | (simp only [thenX, inBlockX, if_true, if_false, reduceCtorEq])) | (first | ((first | ((with_reducible refine XRes_op tyOK ?_ ?_); (focus (first | (with_reducible rfl) | ((simp (disch := omega) only [go_sem]); done)))) | ((with_reducible refine ADF_op tyOK ?_ ?_ ?_); (focus rfl); (focus (first | (with_reducible rfl) | ((simp (disch := omega) only [go_sem]); done)))) | ((with_reducible refine ADR_alloc1 tyOK ?_ ?_); (focus (first | (with_reducible rfl) | ((simp (disch := omega) only [go_sem]); done)))) | ((with_reducible refine ADX_op tyOK ?_ ?_ ?_); (focus rfl); (focus (first | (with_reducible rfl) | ((simp (disch := omega) only [go_sem]); done)))) | ((with_reducible refine ADR_free1 tyOK ?_ ?_ ?_); (focus rfl); (focus (first | (with_reducible rfl) | ((simp (disch := omega) only [go_sem]); done)))) | ((with_reducible refine ADR_free0 tyOK ?_ ?_ ?_); (focus rfl); (focus (first | (with_reducible rfl) | ((simp (disch := omega) only [go_sem]); done)))) | ((with_reducible refine ADR_read1 tyOK ?_ ?_ ?_); (focus rfl); (focus (first | (with_reducible rfl) | ((simp (disch := omega) only [go_sem]); done)))) | ((with_reducible refine ADR_chg1 tyOK ?_ ?_); (focus (first | (with_reducible rfl) | ((simp (disch := omega) only [go_sem]); done))))); simp (maxSteps := 2000000) (disch := omega) only [go_sem , flatE_w, flatE_p, flatE_n, hw]; (first | (with_reducible refine XRes_id ?_) | (with_reducible refine ADF_id ?_) | (with_reducible refine ADR_id1 ?_) | (with_reducible refine ADX_id ?_))) | ((first | (with_reducible refine XRes_skip ?_ ?_) | (with_reducible refine ADF_skip (b := true) ?_ ?_) | (with_reducible refine ADX_skip ?_ ?_) | ((with_reducible refine ADR_skip1 ?_ ?_ ?_); (focus rfl))); (focus (first | rfl | ((simp (disch := omega) only [go_sem]); done))); (simp only [putL, List.set_cons_succ, List.set_cons_zero]))) | ((first | (with_reducible refine XRes_nil ?_) | (with_reducible refine ADF_nil ?_) | (with_reducible refine ADR_nil ?_) | (with_reducible refine ADX_nil ?_)); (first | refine hK _ ?_ | refine hK _ _ ?_); clear hK K) | ((first | (with_reducible refine AX_reg0 fun K hK => ?_) | (refine AX_drawG1 tyOK (by kernel_rfl) (by rfl) (by kernel_rfl) fun K hK => ?_) | (refine AX_drawT tyOK (by kernel_rfl) (by decide +kernel) fun K hK => ?_) | (refine AX_drawM1 (by kernel_rfl) (by rfl) (by decide +kernel) fun K hK => ?_) | (refine AX_drawA tyOK (by kernel_rfl) (by decide +kernel) fun K hK => ?_)); (first | simp only [go_sem, preN, effOp, runF, alM, mapOp, alD2, kdOf2, Bool.not_false, Bool.not_true, reduceCtorEq] | simp only [go_sem, preN, effOp, runF, alM, mapOp, Bool.not_false, Bool.not_true, reduceCtorEq] | simp only [go_sem, preN, effOp, runF, alD2, kdOf2, Bool.not_false, Bool.not_true, reduceCtorEq] | simp only [go_sem, alD2, kdOf2, Bool.not_false, Bool.not_true, reduceCtorEq] | simp only [go_sem, preN, effOp, runF, Bool.not_false, Bool.not_true, reduceCtorEq] | simp only [go_sem])) | (first | ((refine XRes_makeMap rfl (fun b => ?_)); (simp only [putL, List.set_cons_succ, List.set_cons_zero, mInt_upd, mInt_del, mInt_get, mInt_is, mSet_upd, mSet_get, mSet_is, List.nil_append, List.cons_append])) | (first | (refine XRes_mput (i := 0) rfl Try.underlying54 rfl rfl rfl (by omega) rfl (int_plain (by omega)) (by unfold maxLen; omega) ?_; (simp only [putL, List.set_cons_succ, List.set_cons_zero, mInt_upd, mInt_del, mInt_get, mInt_is, mSet_upd, mSet_get, mSet_is, List.nil_append, List.cons_append])) | (refine XRes_mget (i := 0) rfl Try.underlying54 int_zero (by decide) rfl rfl rfl (by omega) ?_; (simp only [putL, List.set_cons_succ, List.set_cons_zero, mInt_upd, mInt_del, mInt_get, mInt_is, mSet_upd, mSet_get, mSet_is, List.nil_append, List.cons_append])) | (refine XRes_mlook (i := 0) rfl Try.underlying54 int_zero (by decide) rfl rfl rfl (by omega) ?_; (simp only [putL, List.set_cons_succ, List.set_cons_zero, mInt_upd, mInt_del, mInt_get, mInt_is, mSet_upd, mSet_get, mSet_is, List.nil_append, List.cons_append])) | (refine XRes_mdel (i := 0) rfl Try.underlying54 rfl rfl rfl (by omega) ?_; (simp only [putL, List.set_cons_succ, List.set_cons_zero, mInt_upd, mInt_del, mInt_get, mInt_is, mSet_upd, mSet_get, mSet_is, List.nil_append, List.cons_append])) | (refine XRes_mput (i := 1) rfl Try.underlying54 rfl rfl rfl (by omega) rfl (int_plain (by omega)) (by unfold maxLen; omega) ?_; (simp only [putL, List.set_cons_succ, List.set_cons_zero, mInt_upd, mInt_del, mInt_get, mInt_is, mSet_upd, mSet_get, mSet_is, List.nil_append, List.cons_append])) | (refine XRes_mget (i := 1) rfl Try.underlying54 int_zero (by decide) rfl rfl rfl (by omega) ?_; (simp only [putL, List.set_cons_succ, List.set_cons_zero, mInt_upd, mInt_del, mInt_get, mInt_is, mSet_upd, mSet_get, mSet_is, List.nil_append, List.cons_append])) | (refine XRes_mlook (i := 1) rfl Try.underlying54 int_zero (by decide) rfl rfl rfl (by omega) ?_; (simp only [putL, List.set_cons_succ, List.set_cons_zero, mInt_upd, mInt_del, mInt_get, mInt_is, mSet_upd, mSet_get, mSet_is, List.nil_append, List.cons_append])) | (refine XRes_mdel (i := 1) rfl Try.underlying54 rfl rfl rfl (by omega) ?_; (simp only [putL, List.set_cons_succ, List.set_cons_zero, mInt_upd, mInt_del, mInt_get, mInt_is, mSet_upd, mSet_get, mSet_is, List.nil_append, List.cons_append])))) | ((first | (refine XRes_splitG (by rfl) (fun hc => ?_) (fun hc => ?_)) | (refine ADF_splitG (by rfl) (fun hc => ?_) (fun hc => ?_))) <;> (try simp only [eqRes, List.cons_beq_cons, Bool.and_eq_true, Bool.not_eq_true, Bool.and_eq_false_iff, decide_eq_true_eq, decide_eq_false_iff_not, bne_iff_ne, beq_iff_eq, bne_eq_false_iff_eq, beq_eq_false_iff_ne, Bool.not_eq_true', Bool.not_eq_false', ne_eq, Int.not_lt, Int.not_le, Decidable.not_not] at hc) <;> simp only [List.set_cons_succ, List.set_cons_zero]) | (first | ((with_reducible refine AX_if_t ?_ ?_); focus (simp (maxSteps := 2000000) (disch := omega) only [go_sem , flatE_w, flatE_p, flatE_n, hw]; done)) | ((with_reducible refine AX_if_f ?_ ?_); focus (simp (maxSteps := 2000000) (disch := omega) only [go_sem , flatE_w, flatE_p, flatE_n, hw]; done)) | (refine AX_cond _ (by rfl) (fun hc => ?_) (fun hc => ?_) <;> (try simp only [eqRes, List.cons_beq_cons, Bool.and_eq_true, Bool.not_eq_true, Bool.and_eq_false_iff, decide_eq_true_eq, decide_eq_false_iff_not, bne_iff_ne, beq_iff_eq, bne_eq_false_iff_eq, beq_eq_false_iff_ne, Bool.not_eq_true', Bool.not_eq_false', ne_eq, Int.not_lt, Int.not_le, Decidable.not_not] at hc)))))
      exact whx_ren [] (k + 1, n + 1) ⟨by omega, by omega⟩ (by (first | omega | (dsimp only; omega) | (simp only; omega))) (by rw [eLM_yes hw]) (by decide) (by decide) (by (simp (maxSteps := 2000000) (disch := omega) only [go_sem, lint])) (by (simp (maxSteps := 2000000) (disch := omega) only [go_sem, lint])) (by (simp (maxSteps := 2000000) (disch := omega) only [go_sem, lint])) (fun d => by (simp (maxSteps := 2000000) (disch := omega) only [go_sem, lint]))
    · (repeat' (first | (first | (with_reducible first | refine AX_block ?_ | refine AX_skip ?_ | refine AX_exit ?_ | refine AX_ret ?_) | ((with_reducible refine AX_if_t ?_ ?_); focus (simp only [go_sem]; done)) | ((with_reducible refine AX_if_f ?_ ?_); focus (simp only [go_sem]; done)) | (with_reducible refine AX_seq_k (fun K hK => ?_)) | ((with_reducible refine ContX.use (by assumption) ?_)) | (simp only [thenX, inBlockX, if_true, if_false, reduceCtorEq])) | (first | ((first | ((with_reducible refine XRes_op tyOK ?_ ?_); (focus (first | (with_reducible rfl) | ((simp (disch := omega) only [go_sem]); done)))) | ((with_reducible refine ADF_op tyOK ?_ ?_ ?_); (focus rfl); (focus (first | (with_reducible rfl) | ((simp (disch := omega) only [go_sem]); done)))) | ((with_reducible refine ADR_alloc1 tyOK ?_ ?_); (focus (first | (with_reducible rfl) | ((simp (disch := omega) only [go_sem]); done)))) | ((with_reducible refine ADX_op tyOK ?_ ?_ ?_); (focus rfl); (focus (first | (with_reducible rfl) | ((simp (disch := omega) only [go_sem]); done)))) | ((with_reducible refine ADR_free1 tyOK ?_ ?_ ?_); (focus rfl); (focus (first | (with_reducible rfl) | ((simp (disch := omega) only [go_sem]); done)))) | ((with_reducible refine ADR_free0 tyOK ?_ ?_ ?_); (focus rfl); (focus (first | (with_reducible rfl) | ((simp (disch := omega) only [go_sem]); done)))) | ((with_reducible refine ADR_read1 tyOK ?_ ?_ ?_); (focus rfl); (focus (first | (with_reducible rfl) | ((simp (disch := omega) only [go_sem]); done)))) | ((with_reducible refine ADR_chg1 tyOK ?_ ?_); (focus (first | (with_reducible rfl) | ((simp (disch := omega) only [go_sem]); done))))); simp (maxSteps := 2000000) (disch := omega) only [go_sem , flatE_w, flatE_p, flatE_n, hw]; (first | (with_reducible refine XRes_id ?_) | (with_reducible refine ADF_id ?_) | (with_reducible refine ADR_id1 ?_) | (with_reducible refine ADX_id ?_))) | ((first | (with_reducible refine XRes_skip ?_ ?_) | (with_reducible refine ADF_skip (b := true) ?_ ?_) | (with_reducible refine ADX_skip ?_ ?_) | ((with_reducible refine ADR_skip1 ?_ ?_ ?_); (focus rfl))); (focus (first | rfl | ((simp (disch := omega) only [go_sem]); done))); (simp only [putL, List.set_cons_succ, List.set_cons_zero]))) | ((first | (with_reducible refine XRes_nil ?_) | (with_reducible refine ADF_nil ?_) | (with_reducible refine ADR_nil ?_) | (with_reducible refine ADX_nil ?_)); (first | refine hK _ ?_ | refine hK _ _ ?_); clear hK K) | ((first | (with_reducible refine AX_reg0 fun K hK => ?_) | (refine AX_drawG1 tyOK (by kernel_rfl) (by rfl) (by kernel_rfl) fun K hK => ?_) | (refine AX_drawT tyOK (by kernel_rfl) (by decide +kernel) fun K hK => ?_) | (refine AX_drawM1 (by kernel_rfl) (by rfl) (by decide +kernel) fun K hK => ?_) | (refine AX_drawA tyOK (by kernel_rfl) (by decide +kernel) fun K hK => ?_)); (first | simp only [go_sem, preN, effOp, runF, alM, mapOp, alD2, kdOf2, Bool.not_false, Bool.not_true, reduceCtorEq] | simp only [go_sem, preN, effOp, runF, alM, mapOp, Bool.not_false, Bool.not_true, reduceCtorEq] | simp only [go_sem, preN, effOp, runF, alD2, kdOf2, Bool.not_false, Bool.not_true, reduceCtorEq] | simp only [go_sem, alD2, kdOf2, Bool.not_false, Bool.not_true, reduceCtorEq] | simp only [go_sem, preN, effOp, runF, Bool.not_false, Bool.not_true, reduceCtorEq] | simp only [go_sem])) | (first | ((refine XRes_makeMap rfl (fun b => ?_)); (simp only [putL, List.set_cons_succ, List.set_cons_zero, mInt_upd, mInt_del, mInt_get, mInt_is, mSet_upd, mSet_get, mSet_is, List.nil_append, List.cons_append])) | (first | (refine XRes_mput (i := 0) rfl Try.underlying54 rfl rfl rfl (by omega) rfl (int_plain (by omega)) (by unfold maxLen; omega) ?_; (simp only [putL, List.set_cons_succ, List.set_cons_zero, mInt_upd, mInt_del, mInt_get, mInt_is, mSet_upd, mSet_get, mSet_is, List.nil_append, List.cons_append])) | (refine XRes_mget (i := 0) rfl Try.underlying54 int_zero (by decide) rfl rfl rfl (by omega) ?_; (simp only [putL, List.set_cons_succ, List.set_cons_zero, mInt_upd, mInt_del, mInt_get, mInt_is, mSet_upd, mSet_get, mSet_is, List.nil_append, List.cons_append])) | (refine XRes_mlook (i := 0) rfl Try.underlying54 int_zero (by decide) rfl rfl rfl (by omega) ?_; (simp only [putL, List.set_cons_succ, List.set_cons_zero, mInt_upd, mInt_del, mInt_get, mInt_is, mSet_upd, mSet_get, mSet_is, List.nil_append, List.cons_append])) | (refine XRes_mdel (i := 0) rfl Try.underlying54 rfl rfl rfl (by omega) ?_; (simp only [putL, List.set_cons_succ, List.set_cons_zero, mInt_upd, mInt_del, mInt_get, mInt_is, mSet_upd, mSet_get, mSet_is, List.nil_append, List.cons_append])) | (refine XRes_mput (i := 1) rfl Try.underlying54 rfl rfl rfl (by omega) rfl (int_plain (by omega)) (by unfold maxLen; omega) ?_; (simp only [putL, List.set_cons_succ, List.set_cons_zero, mInt_upd, mInt_del, mInt_get, mInt_is, mSet_upd, mSet_get, mSet_is, List.nil_append, List.cons_append])) | (refine XRes_mget (i := 1) rfl Try.underlying54 int_zero (by decide) rfl rfl rfl (by omega) ?_; (simp only [putL, List.set_cons_succ, List.set_cons_zero, mInt_upd, mInt_del, mInt_get, mInt_is, mSet_upd, mSet_get, mSet_is, List.nil_append, List.cons_append])) | (refine XRes_mlook (i := 1) rfl Try.underlying54 int_zero (by decide) rfl rfl rfl (by omega) ?_; (simp only [putL, List.set_cons_succ, List.set_cons_zero, mInt_upd, mInt_del, mInt_get, mInt_is, mSet_upd, mSet_get, mSet_is, List.nil_append, List.cons_append])) | (refine XRes_mdel (i := 1) rfl Try.underlying54 rfl rfl rfl (by omega) ?_; (simp only [putL, List.set_cons_succ, List.set_cons_zero, mInt_upd, mInt_del, mInt_get, mInt_is, mSet_upd, mSet_get, mSet_is, List.nil_append, List.cons_append])))) | ((first | (refine XRes_splitG (by rfl) (fun hc => ?_) (fun hc => ?_)) | (refine ADF_splitG (by rfl) (fun hc => ?_) (fun hc => ?_))) <;> (try simp only [eqRes, List.cons_beq_cons, Bool.and_eq_true, Bool.not_eq_true, Bool.and_eq_false_iff, decide_eq_true_eq, decide_eq_false_iff_not, bne_iff_ne, beq_iff_eq, bne_eq_false_iff_eq, beq_eq_false_iff_ne, Bool.not_eq_true', Bool.not_eq_false', ne_eq, Int.not_lt, Int.not_le, Decidable.not_not] at hc) <;> simp only [List.set_cons_succ, List.set_cons_zero]) | (first | ((with_reducible refine AX_if_t ?_ ?_); focus (simp (maxSteps := 2000000) (disch := omega) only [go_sem , flatE_w, flatE_p, flatE_n, hw]; done)) | ((with_reducible refine AX_if_f ?_ ?_); focus (simp (maxSteps := 2000000) (disch := omega) only [go_sem , flatE_w, flatE_p, flatE_n, hw]; done)) | (refine AX_cond _ (by rfl) (fun hc => ?_) (fun hc => ?_) <;> (try simp only [eqRes, List.cons_beq_cons, Bool.and_eq_true, Bool.not_eq_true, Bool.and_eq_false_iff, decide_eq_true_eq, decide_eq_false_iff_not, bne_iff_ne, beq_iff_eq, bne_eq_false_iff_eq, beq_eq_false_iff_ne, Bool.not_eq_true', Bool.not_eq_false', ne_eq, Int.not_lt, Int.not_le, Decidable.not_not] at hc)))))
      exact whx_ren [] (k + 1, n) ⟨by omega, by omega⟩ (by (first | omega | (dsimp only; omega) | (simp only; omega))) (by rw [eLM_no hw]) (by decide) (by decide) (by (simp (maxSteps := 2000000) (disch := omega) only [go_sem, lint])) (by (simp (maxSteps := 2000000) (disch := omega) only [go_sem, lint])) (by (simp (maxSteps := 2000000) (disch := omega) only [go_sem, lint])) (fun d => by (simp (maxSteps := 2000000) (disch := omega) only [go_sem, lint]))
  · have hkk : k = xs.length := by omega
    subst hkk
    (repeat' (first | (first | (with_reducible first | refine AX_block ?_ | refine AX_skip ?_ | refine AX_exit ?_ | refine AX_ret ?_) | ((with_reducible refine AX_if_t ?_ ?_); focus (simp only [go_sem]; done)) | ((with_reducible refine AX_if_f ?_ ?_); focus (simp only [go_sem]; done)) | (with_reducible refine AX_seq_k (fun K hK => ?_)) | ((with_reducible refine ContX.use (by assumption) ?_)) | (simp only [thenX, inBlockX, if_true, if_false, reduceCtorEq])) | (first | ((first | ((with_reducible refine XRes_op tyOK ?_ ?_); (focus (first | (with_reducible rfl) | ((simp (disch := omega) only [go_sem]); done)))) | ((with_reducible refine ADF_op tyOK ?_ ?_ ?_); (focus rfl); (focus (first | (with_reducible rfl) | ((simp (disch := omega) only [go_sem]); done)))) | ((with_reducible refine ADR_alloc1 tyOK ?_ ?_); (focus (first | (with_reducible rfl) | ((simp (disch := omega) only [go_sem]); done)))) | ((with_reducible refine ADX_op tyOK ?_ ?_ ?_); (focus rfl); (focus (first | (with_reducible rfl) | ((simp (disch := omega) only [go_sem]); done)))) | ((with_reducible refine ADR_free1 tyOK ?_ ?_ ?_); (focus rfl); (focus (first | (with_reducible rfl) | ((simp (disch := omega) only [go_sem]); done)))) | ((with_reducible refine ADR_free0 tyOK ?_ ?_ ?_); (focus rfl); (focus (first | (with_reducible rfl) | ((simp (disch := omega) only [go_sem]); done)))) | ((with_reducible refine ADR_read1 tyOK ?_ ?_ ?_); (focus rfl); (focus (first | (with_reducible rfl) | ((simp (disch := omega) only [go_sem]); done)))) | ((with_reducible refine ADR_chg1 tyOK ?_ ?_); (focus (first | (with_reducible rfl) | ((simp (disch := omega) only [go_sem]); done))))); simp (maxSteps := 2000000) (disch := omega) only [go_sem , flatE_w, flatE_p, flatE_n, hw]; (first | (with_reducible refine XRes_id ?_) | (with_reducible refine ADF_id ?_) | (with_reducible refine ADR_id1 ?_) | (with_reducible refine ADX_id ?_))) | ((first | (with_reducible refine XRes_skip ?_ ?_) | (with_reducible refine ADF_skip (b := true) ?_ ?_) | (with_reducible refine ADX_skip ?_ ?_) | ((with_reducible refine ADR_skip1 ?_ ?_ ?_); (focus rfl))); (focus (first | rfl | ((simp (disch := omega) only [go_sem]); done))); (simp only [putL, List.set_cons_succ, List.set_cons_zero]))) | ((first | (with_reducible refine XRes_nil ?_) | (with_reducible refine ADF_nil ?_) | (with_reducible refine ADR_nil ?_) | (with_reducible refine ADX_nil ?_)); (first | refine hK _ ?_ | refine hK _ _ ?_); clear hK K) | ((first | (with_reducible refine AX_reg0 fun K hK => ?_) | (refine AX_drawG1 tyOK (by kernel_rfl) (by rfl) (by kernel_rfl) fun K hK => ?_) | (refine AX_drawT tyOK (by kernel_rfl) (by decide +kernel) fun K hK => ?_) | (refine AX_drawM1 (by kernel_rfl) (by rfl) (by decide +kernel) fun K hK => ?_) | (refine AX_drawA tyOK (by kernel_rfl) (by decide +kernel) fun K hK => ?_)); (first | simp only [go_sem, preN, effOp, runF, alM, mapOp, alD2, kdOf2, Bool.not_false, Bool.not_true, reduceCtorEq] | simp only [go_sem, preN, effOp, runF, alM, mapOp, Bool.not_false, Bool.not_true, reduceCtorEq] | simp only [go_sem, preN, effOp, runF, alD2, kdOf2, Bool.not_false, Bool.not_true, reduceCtorEq] | simp only [go_sem, alD2, kdOf2, Bool.not_false, Bool.not_true, reduceCtorEq] | simp only [go_sem, preN, effOp, runF, Bool.not_false, Bool.not_true, reduceCtorEq] | simp only [go_sem])) | (first | ((refine XRes_makeMap rfl (fun b => ?_)); (simp only [putL, List.set_cons_succ, List.set_cons_zero, mInt_upd, mInt_del, mInt_get, mInt_is, mSet_upd, mSet_get, mSet_is, List.nil_append, List.cons_append])) | (first | (refine XRes_mput (i := 0) rfl Try.underlying54 rfl rfl rfl (by omega) rfl (int_plain (by omega)) (by unfold maxLen; omega) ?_; (simp only [putL, List.set_cons_succ, List.set_cons_zero, mInt_upd, mInt_del, mInt_get, mInt_is, mSet_upd, mSet_get, mSet_is, List.nil_append, List.cons_append])) | (refine XRes_mget (i := 0) rfl Try.underlying54 int_zero (by decide) rfl rfl rfl (by omega) ?_; (simp only [putL, List.set_cons_succ, List.set_cons_zero, mInt_upd, mInt_del, mInt_get, mInt_is, mSet_upd, mSet_get, mSet_is, List.nil_append, List.cons_append])) | (refine XRes_mlook (i := 0) rfl Try.underlying54 int_zero (by decide) rfl rfl rfl (by omega) ?_; (simp only [putL, List.set_cons_succ, List.set_cons_zero, mInt_upd, mInt_del, mInt_get, mInt_is, mSet_upd, mSet_get, mSet_is, List.nil_append, List.cons_append])) | (refine XRes_mdel (i := 0) rfl Try.underlying54 rfl rfl rfl (by omega) ?_; (simp only [putL, List.set_cons_succ, List.set_cons_zero, mInt_upd, mInt_del, mInt_get, mInt_is, mSet_upd, mSet_get, mSet_is, List.nil_append, List.cons_append])) | (refine XRes_mput (i := 1) rfl Try.underlying54 rfl rfl rfl (by omega) rfl (int_plain (by omega)) (by unfold maxLen; omega) ?_; (simp only [putL, List.set_cons_succ, List.set_cons_zero, mInt_upd, mInt_del, mInt_get, mInt_is, mSet_upd, mSet_get, mSet_is, List.nil_append, List.cons_append])) | (refine XRes_mget (i := 1) rfl Try.underlying54 int_zero (by decide) rfl rfl rfl (by omega) ?_; (simp only [putL, List.set_cons_succ, List.set_cons_zero, mInt_upd, mInt_del, mInt_get, mInt_is, mSet_upd, mSet_get, mSet_is, List.nil_append, List.cons_append])) | (refine XRes_mlook (i := 1) rfl Try.underlying54 int_zero (by decide) rfl rfl rfl (by omega) ?_; (simp only [putL, List.set_cons_succ, List.set_cons_zero, mInt_upd, mInt_del, mInt_get, mInt_is, mSet_upd, mSet_get, mSet_is, List.nil_append, List.cons_append])) | (refine XRes_mdel (i := 1) rfl Try.underlying54 rfl rfl rfl (by omega) ?_; (simp only [putL, List.set_cons_succ, List.set_cons_zero, mInt_upd, mInt_del, mInt_get, mInt_is, mSet_upd, mSet_get, mSet_is, List.nil_append, List.cons_append])))) | ((first | (refine XRes_splitG (by rfl) (fun hc => ?_) (fun hc => ?_)) | (refine ADF_splitG (by rfl) (fun hc => ?_) (fun hc => ?_))) <;> (try simp only [eqRes, List.cons_beq_cons, Bool.and_eq_true, Bool.not_eq_true, Bool.and_eq_false_iff, decide_eq_true_eq, decide_eq_false_iff_not, bne_iff_ne, beq_iff_eq, bne_eq_false_iff_eq, beq_eq_false_iff_ne, Bool.not_eq_true', Bool.not_eq_false', ne_eq, Int.not_lt, Int.not_le, Decidable.not_not] at hc) <;> simp only [List.set_cons_succ, List.set_cons_zero]) | (first | ((with_reducible refine AX_if_t ?_ ?_); focus (simp (maxSteps := 2000000) (disch := omega) only [go_sem , flatE_w, flatE_p, flatE_n, hw]; done)) | ((with_reducible refine AX_if_f ?_ ?_); focus (simp (maxSteps := 2000000) (disch := omega) only [go_sem , flatE_w, flatE_p, flatE_n, hw]; done)) | (refine AX_cond _ (by rfl) (fun hc => ?_) (fun hc => ?_) <;> (try simp only [eqRes, List.cons_beq_cons, Bool.and_eq_true, Bool.not_eq_true, Bool.and_eq_false_iff, decide_eq_true_eq, decide_eq_false_iff_not, bne_iff_ne, beq_iff_eq, bne_eq_false_iff_eq, beq_eq_false_iff_ne, Bool.not_eq_true', Bool.not_eq_false', ne_eq, Int.not_lt, Int.not_le, Decidable.not_not] at hc)))))
    refine LeadX.now ?_
    (simp only [bodyXM]; refine ⟨_, by simp only [aresults, aresult, XS.as, Try.results32, aload, List.getD_cons_succ, List.getD_cons_zero, List.getElem?_cons_succ, List.getElem?_cons_zero, Option.bind_some]; rfl, ?_⟩)
    exact ⟨b, rfl, (by first | trivial | rfl), n, hn, rfl⟩
theorem oks_keys {xs : List Ev3} {ys : List Int} (hn : ys.Nodup) (h : ∀ k, k ∈ ys ↔ (eLM xs xs.length k).isSome = true) : isort ys = eOps xs := isort_congr (keys_perm hn h)
set_option maxRecDepth 100000 in
set_option maxHeartbeats 1000000 in
theorem pf_eOpen (xs : List Ev3) (hx : xs.length ≤ 100000) (hp : ∀ i, -9223372036854775808 ≤ (evAt xs i).p ∧ (evAt xs i).p ≤ 9223372036854775807) :
    PF Try.prog 22 [.iv (iEvs xs)] fun r H' => r = .iv (iInts (eOps xs)) ∧ H' = [] := by
  refine SF.frozen ?_
  have hw := trivial
  (refine SF_of_bodyX (aload tt) (aload_ok tyOK) Try.func22 rfl (by kernel_rfl) ?_; simp only [Try.ntmps22, List.length_cons, List.length_nil, Nat.reduceAdd, Nat.reduceSub, List.replicate_succ, List.replicate_zero, List.cons_append, List.nil_append])
  repeat' (first | ((refine AX_rng (by rfl) (fun K hK => ?_)); (simp only [List.dropLast]); (first | simp only [go_sem, preN, effOp, runF, alM, mapOp, alD2, kdOf2, Bool.not_false, Bool.not_true, reduceCtorEq] | simp only [go_sem, preN, effOp, runF, alM, mapOp, Bool.not_false, Bool.not_true, reduceCtorEq] | simp only [go_sem, preN, effOp, runF, alD2, kdOf2, Bool.not_false, Bool.not_true, reduceCtorEq] | simp only [go_sem, alD2, kdOf2, Bool.not_false, Bool.not_true, reduceCtorEq] | simp only [go_sem, preN, effOp, runF, Bool.not_false, Bool.not_true, reduceCtorEq] | simp only [go_sem])) | (first | (with_reducible first | refine AX_block ?_ | refine AX_skip ?_ | refine AX_exit ?_ | refine AX_ret ?_) | ((with_reducible refine AX_if_t ?_ ?_); focus (simp only [go_sem]; done)) | ((with_reducible refine AX_if_f ?_ ?_); focus (simp only [go_sem]; done)) | (with_reducible refine AX_seq_k (fun K hK => ?_)) | ((with_reducible refine ContX.use (by assumption) ?_)) | (simp only [thenX, inBlockX, if_true, if_false, reduceCtorEq])) | (first | ((first | ((with_reducible refine XRes_op tyOK ?_ ?_); (focus (first | (with_reducible rfl) | ((simp (disch := omega) only [go_sem]); done)))) | ((with_reducible refine ADF_op tyOK ?_ ?_ ?_); (focus rfl); (focus (first | (with_reducible rfl) | ((simp (disch := omega) only [go_sem]); done)))) | ((with_reducible refine ADR_alloc1 tyOK ?_ ?_); (focus (first | (with_reducible rfl) | ((simp (disch := omega) only [go_sem]); done)))) | ((with_reducible refine ADX_op tyOK ?_ ?_ ?_); (focus rfl); (focus (first | (with_reducible rfl) | ((simp (disch := omega) only [go_sem]); done)))) | ((with_reducible refine ADR_free1 tyOK ?_ ?_ ?_); (focus rfl); (focus (first | (with_reducible rfl) | ((simp (disch := omega) only [go_sem]); done)))) | ((with_reducible refine ADR_free0 tyOK ?_ ?_ ?_); (focus rfl); (focus (first | (with_reducible rfl) | ((simp (disch := omega) only [go_sem]); done)))) | ((with_reducible refine ADR_read1 tyOK ?_ ?_ ?_); (focus rfl); (focus (first | (with_reducible rfl) | ((simp (disch := omega) only [go_sem]); done)))) | ((with_reducible refine ADR_chg1 tyOK ?_ ?_); (focus (first | (with_reducible rfl) | ((simp (disch := omega) only [go_sem]); done))))); simp (maxSteps := 2000000) (disch := omega) only [go_sem , flatE_w, flatE_p, flatE_n, hw]; (first | (with_reducible refine XRes_id ?_) | (with_reducible refine ADF_id ?_) | (with_reducible refine ADR_id1 ?_) | (with_reducible refine ADX_id ?_))) | ((first | (with_reducible refine XRes_skip ?_ ?_) | (with_reducible refine ADF_skip (b := true) ?_ ?_) | (with_reducible refine ADX_skip ?_ ?_) | ((with_reducible refine ADR_skip1 ?_ ?_ ?_); (focus rfl))); (focus (first | rfl | ((simp (disch := omega) only [go_sem]); done))); (simp only [putL, List.set_cons_succ, List.set_cons_zero]))) | ((first | (with_reducible refine XRes_nil ?_) | (with_reducible refine ADF_nil ?_) | (with_reducible refine ADR_nil ?_) | (with_reducible refine ADX_nil ?_)); (first | refine hK _ ?_ | refine hK _ _ ?_); clear hK K) | ((first | (with_reducible refine AX_reg0 fun K hK => ?_) | (refine AX_drawG1 tyOK (by kernel_rfl) (by rfl) (by kernel_rfl) fun K hK => ?_) | (refine AX_drawT tyOK (by kernel_rfl) (by decide +kernel) fun K hK => ?_) | (refine AX_drawM1 (by kernel_rfl) (by rfl) (by decide +kernel) fun K hK => ?_) | (refine AX_drawA tyOK (by kernel_rfl) (by decide +kernel) fun K hK => ?_)); (first | simp only [go_sem, preN, effOp, runF, alM, mapOp, alD2, kdOf2, Bool.not_false, Bool.not_true, reduceCtorEq] | simp only [go_sem, preN, effOp, runF, alM, mapOp, Bool.not_false, Bool.not_true, reduceCtorEq] | simp only [go_sem, preN, effOp, runF, alD2, kdOf2, Bool.not_false, Bool.not_true, reduceCtorEq] | simp only [go_sem, alD2, kdOf2, Bool.not_false, Bool.not_true, reduceCtorEq] | simp only [go_sem, preN, effOp, runF, Bool.not_false, Bool.not_true, reduceCtorEq] | simp only [go_sem])))
  refine XRes_fnX rfl (sx_last xs hx hp) ?_
  rintro r H' M' ⟨b, rfl, rfl, n, hn, rfl⟩
  (simp only [putL, List.set_cons_succ, List.set_cons_zero])
  refine XRes_onil 3 3 1 rfl ?_
  simp only [List.set_cons_succ, List.set_cons_zero, List.length_nil, List.nil_append]
  ((first | (with_reducible refine XRes_nil ?_) | (with_reducible refine ADF_nil ?_) | (with_reducible refine ADR_nil ?_) | (with_reducible refine ADX_nil ?_)); (first | refine hK _ ?_ | refine hK _ _ ?_); clear hK K)
  (refine rng_loop (σ := List Int) 0 b n (mInt (eLM xs xs.length)) [4, 8, 9, 10, 11, 12, 13, 14, 15] (fun ys => [(3, .osl 0 0 ys.length 1)]) (fun ys => [some ⟨3, ys.map lint⟩]) (fun _ => []) (fun ys ks => (ys ++ ks).Nodup ∧ ∀ k, k ∈ ys ++ ks ↔ (eLM xs xs.length k).isSome = true) [] Try.underlying54 rfl rfl (fun x d st => by simp only [deadS, updS, List.set_cons_succ, List.set_cons_zero, List.getElem?_cons_succ, List.getElem?_cons_zero]) (by simp; done) (by simp; done) (by decide) (by decide) (by decide) (fun x d => by first | rfl | (simp only [deadS, updS, List.set_cons_succ, List.set_cons_zero, lint, List.length_nil, List.length_cons])) rfl rfl (fun ks h1 h2 => ⟨h1, fun k => by rw [← mInt_is]; exact h2 k⟩) ?_ ?_)
  · rintro ys ks x d fr hfr hnd ⟨h1, h2⟩ k v hk hv hb K hK
    simp only [updS, deadS, List.set_cons_succ, List.set_cons_zero] at hfr
    subst hfr
    have hys : ys.length ≤ 100000 := by have := keys_len h1 h2; rw [List.length_append] at this; omega
    simp only [List.set_cons_succ, List.set_cons_zero]
    (first | simp only [go_sem, preN, effOp, runF, alM, mapOp, alD2, kdOf2, Bool.not_false, Bool.not_true, reduceCtorEq] | simp only [go_sem, preN, effOp, runF, alM, mapOp, Bool.not_false, Bool.not_true, reduceCtorEq] | simp only [go_sem, preN, effOp, runF, alD2, kdOf2, Bool.not_false, Bool.not_true, reduceCtorEq] | simp only [go_sem, alD2, kdOf2, Bool.not_false, Bool.not_true, reduceCtorEq] | simp only [go_sem, preN, effOp, runF, Bool.not_false, Bool.not_true, reduceCtorEq] | simp only [go_sem])
    (repeat' (first | (first | (with_reducible first | refine AX_block ?_ | refine AX_skip ?_ | refine AX_exit ?_ | refine AX_ret ?_) | ((with_reducible refine AX_if_t ?_ ?_); focus (simp only [go_sem]; done)) | ((with_reducible refine AX_if_f ?_ ?_); focus (simp only [go_sem]; done)) | (with_reducible refine AX_seq_k (fun K hK => ?_)) | ((with_reducible refine ContX.use (by assumption) ?_)) | (simp only [thenX, inBlockX, if_true, if_false, reduceCtorEq])) | (first | ((first | ((with_reducible refine XRes_op tyOK ?_ ?_); (focus (first | (with_reducible rfl) | ((simp (disch := omega) only [go_sem]); done)))) | ((with_reducible refine ADF_op tyOK ?_ ?_ ?_); (focus rfl); (focus (first | (with_reducible rfl) | ((simp (disch := omega) only [go_sem]); done)))) | ((with_reducible refine ADR_alloc1 tyOK ?_ ?_); (focus (first | (with_reducible rfl) | ((simp (disch := omega) only [go_sem]); done)))) | ((with_reducible refine ADX_op tyOK ?_ ?_ ?_); (focus rfl); (focus (first | (with_reducible rfl) | ((simp (disch := omega) only [go_sem]); done)))) | ((with_reducible refine ADR_free1 tyOK ?_ ?_ ?_); (focus rfl); (focus (first | (with_reducible rfl) | ((simp (disch := omega) only [go_sem]); done)))) | ((with_reducible refine ADR_free0 tyOK ?_ ?_ ?_); (focus rfl); (focus (first | (with_reducible rfl) | ((simp (disch := omega) only [go_sem]); done)))) | ((with_reducible refine ADR_read1 tyOK ?_ ?_ ?_); (focus rfl); (focus (first | (with_reducible rfl) | ((simp (disch := omega) only [go_sem]); done)))) | ((with_reducible refine ADR_chg1 tyOK ?_ ?_); (focus (first | (with_reducible rfl) | ((simp (disch := omega) only [go_sem]); done))))); simp (maxSteps := 2000000) (disch := omega) only [go_sem , flatE_w, flatE_p, flatE_n, hw]; (first | (with_reducible refine XRes_id ?_) | (with_reducible refine ADF_id ?_) | (with_reducible refine ADR_id1 ?_) | (with_reducible refine ADX_id ?_))) | ((first | (with_reducible refine XRes_skip ?_ ?_) | (with_reducible refine ADF_skip (b := true) ?_ ?_) | (with_reducible refine ADX_skip ?_ ?_) | ((with_reducible refine ADR_skip1 ?_ ?_ ?_); (focus rfl))); (focus (first | rfl | ((simp (disch := omega) only [go_sem]); done))); (simp only [putL, List.set_cons_succ, List.set_cons_zero]))) | ((first | (with_reducible refine XRes_nil ?_) | (with_reducible refine ADF_nil ?_) | (with_reducible refine ADR_nil ?_) | (with_reducible refine ADX_nil ?_)); (first | refine hK _ ?_ | refine hK _ _ ?_); clear hK K) | ((first | (with_reducible refine AX_reg0 fun K hK => ?_) | (refine AX_drawG1 tyOK (by kernel_rfl) (by rfl) (by kernel_rfl) fun K hK => ?_) | (refine AX_drawT tyOK (by kernel_rfl) (by decide +kernel) fun K hK => ?_) | (refine AX_drawM1 (by kernel_rfl) (by rfl) (by decide +kernel) fun K hK => ?_) | (refine AX_drawA tyOK (by kernel_rfl) (by decide +kernel) fun K hK => ?_)); (first | simp only [go_sem, preN, effOp, runF, alM, mapOp, alD2, kdOf2, Bool.not_false, Bool.not_true, reduceCtorEq] | simp only [go_sem, preN, effOp, runF, alM, mapOp, Bool.not_false, Bool.not_true, reduceCtorEq] | simp only [go_sem, preN, effOp, runF, alD2, kdOf2, Bool.not_false, Bool.not_true, reduceCtorEq] | simp only [go_sem, alD2, kdOf2, Bool.not_false, Bool.not_true, reduceCtorEq] | simp only [go_sem, preN, effOp, runF, Bool.not_false, Bool.not_true, reduceCtorEq] | simp only [go_sem])) | (first | ((refine XRes_makeMap rfl (fun b => ?_)); (simp only [putL, List.set_cons_succ, List.set_cons_zero, mInt_upd, mInt_del, mInt_get, mInt_is, mSet_upd, mSet_get, mSet_is, List.nil_append, List.cons_append])) | (first | (refine XRes_mput (i := 0) rfl Try.underlying54 rfl rfl rfl (by omega) rfl (int_plain (by omega)) (by unfold maxLen; omega) ?_; (simp only [putL, List.set_cons_succ, List.set_cons_zero, mInt_upd, mInt_del, mInt_get, mInt_is, mSet_upd, mSet_get, mSet_is, List.nil_append, List.cons_append])) | (refine XRes_mget (i := 0) rfl Try.underlying54 int_zero (by decide) rfl rfl rfl (by omega) ?_; (simp only [putL, List.set_cons_succ, List.set_cons_zero, mInt_upd, mInt_del, mInt_get, mInt_is, mSet_upd, mSet_get, mSet_is, List.nil_append, List.cons_append])) | (refine XRes_mlook (i := 0) rfl Try.underlying54 int_zero (by decide) rfl rfl rfl (by omega) ?_; (simp only [putL, List.set_cons_succ, List.set_cons_zero, mInt_upd, mInt_del, mInt_get, mInt_is, mSet_upd, mSet_get, mSet_is, List.nil_append, List.cons_append])) | (refine XRes_mdel (i := 0) rfl Try.underlying54 rfl rfl rfl (by omega) ?_; (simp only [putL, List.set_cons_succ, List.set_cons_zero, mInt_upd, mInt_del, mInt_get, mInt_is, mSet_upd, mSet_get, mSet_is, List.nil_append, List.cons_append])) | (refine XRes_mput (i := 1) rfl Try.underlying54 rfl rfl rfl (by omega) rfl (int_plain (by omega)) (by unfold maxLen; omega) ?_; (simp only [putL, List.set_cons_succ, List.set_cons_zero, mInt_upd, mInt_del, mInt_get, mInt_is, mSet_upd, mSet_get, mSet_is, List.nil_append, List.cons_append])) | (refine XRes_mget (i := 1) rfl Try.underlying54 int_zero (by decide) rfl rfl rfl (by omega) ?_; (simp only [putL, List.set_cons_succ, List.set_cons_zero, mInt_upd, mInt_del, mInt_get, mInt_is, mSet_upd, mSet_get, mSet_is, List.nil_append, List.cons_append])) | (refine XRes_mlook (i := 1) rfl Try.underlying54 int_zero (by decide) rfl rfl rfl (by omega) ?_; (simp only [putL, List.set_cons_succ, List.set_cons_zero, mInt_upd, mInt_del, mInt_get, mInt_is, mSet_upd, mSet_get, mSet_is, List.nil_append, List.cons_append])) | (refine XRes_mdel (i := 1) rfl Try.underlying54 rfl rfl rfl (by omega) ?_; (simp only [putL, List.set_cons_succ, List.set_cons_zero, mInt_upd, mInt_del, mInt_get, mInt_is, mSet_upd, mSet_get, mSet_is, List.nil_append, List.cons_append])))) | ((first | (refine XRes_splitG (by rfl) (fun hc => ?_) (fun hc => ?_)) | (refine ADF_splitG (by rfl) (fun hc => ?_) (fun hc => ?_))) <;> (try simp only [eqRes, List.cons_beq_cons, Bool.and_eq_true, Bool.not_eq_true, Bool.and_eq_false_iff, decide_eq_true_eq, decide_eq_false_iff_not, bne_iff_ne, beq_iff_eq, bne_eq_false_iff_eq, beq_eq_false_iff_ne, Bool.not_eq_true', Bool.not_eq_false', ne_eq, Int.not_lt, Int.not_le, Decidable.not_not] at hc) <;> simp only [List.set_cons_succ, List.set_cons_zero]) | (first | ((with_reducible refine AX_if_t ?_ ?_); focus (simp (maxSteps := 2000000) (disch := omega) only [go_sem , flatE_w, flatE_p, flatE_n, hw]; done)) | ((with_reducible refine AX_if_f ?_ ?_); focus (simp (maxSteps := 2000000) (disch := omega) only [go_sem , flatE_w, flatE_p, flatE_n, hw]; done)) | (refine AX_cond _ (by rfl) (fun hc => ?_) (fun hc => ?_) <;> (try simp only [eqRes, List.cons_beq_cons, Bool.and_eq_true, Bool.not_eq_true, Bool.and_eq_false_iff, decide_eq_true_eq, decide_eq_false_iff_not, bne_iff_ne, beq_iff_eq, bne_eq_false_iff_eq, beq_eq_false_iff_ne, Bool.not_eq_true', Bool.not_eq_false', ne_eq, Int.not_lt, Int.not_le, Decidable.not_not] at hc)))))
    have hp := rng_step (ys := ys) hk
    exact whx_ren [2] (ys ++ [k]) ⟨hp.nodup_iff.2 h1, fun j => by rw [hp.mem_iff]; exact h2 j⟩ (by omega) rfl (by decide) (by decide) (by (simp (maxSteps := 2000000) (disch := omega) only [go_sem, lint])) (by (simp (maxSteps := 2000000) (disch := omega) only [go_sem, lint])) (by (simp (maxSteps := 2000000) (disch := omega) only [go_sem, lint])) (fun d => by (simp (maxSteps := 2000000) (disch := omega) only [go_sem, lint]))
  · rintro ys x d fr hfr ⟨h1, h2⟩
    simp only [updS, deadS, List.set_cons_succ, List.set_cons_zero] at hfr
    subst hfr
    rw [List.append_nil] at h1
    simp only [List.append_nil] at h2
    have hys : ys.length ≤ 100000 := by have := keys_len h1 h2; omega
    simp only [List.set_cons_succ, List.set_cons_zero]
    (repeat' (first | (first | (with_reducible first | refine AX_block ?_ | refine AX_skip ?_ | refine AX_exit ?_ | refine AX_ret ?_) | ((with_reducible refine AX_if_t ?_ ?_); focus (simp only [go_sem]; done)) | ((with_reducible refine AX_if_f ?_ ?_); focus (simp only [go_sem]; done)) | (with_reducible refine AX_seq_k (fun K hK => ?_)) | ((with_reducible refine ContX.use (by assumption) ?_)) | (simp only [thenX, inBlockX, if_true, if_false, reduceCtorEq])) | (first | ((first | ((with_reducible refine XRes_op tyOK ?_ ?_); (focus (first | (with_reducible rfl) | ((simp (disch := omega) only [go_sem]); done)))) | ((with_reducible refine ADF_op tyOK ?_ ?_ ?_); (focus rfl); (focus (first | (with_reducible rfl) | ((simp (disch := omega) only [go_sem]); done)))) | ((with_reducible refine ADR_alloc1 tyOK ?_ ?_); (focus (first | (with_reducible rfl) | ((simp (disch := omega) only [go_sem]); done)))) | ((with_reducible refine ADX_op tyOK ?_ ?_ ?_); (focus rfl); (focus (first | (with_reducible rfl) | ((simp (disch := omega) only [go_sem]); done)))) | ((with_reducible refine ADR_free1 tyOK ?_ ?_ ?_); (focus rfl); (focus (first | (with_reducible rfl) | ((simp (disch := omega) only [go_sem]); done)))) | ((with_reducible refine ADR_free0 tyOK ?_ ?_ ?_); (focus rfl); (focus (first | (with_reducible rfl) | ((simp (disch := omega) only [go_sem]); done)))) | ((with_reducible refine ADR_read1 tyOK ?_ ?_ ?_); (focus rfl); (focus (first | (with_reducible rfl) | ((simp (disch := omega) only [go_sem]); done)))) | ((with_reducible refine ADR_chg1 tyOK ?_ ?_); (focus (first | (with_reducible rfl) | ((simp (disch := omega) only [go_sem]); done))))); simp (maxSteps := 2000000) (disch := omega) only [go_sem , flatE_w, flatE_p, flatE_n, hw]; (first | (with_reducible refine XRes_id ?_) | (with_reducible refine ADF_id ?_) | (with_reducible refine ADR_id1 ?_) | (with_reducible refine ADX_id ?_))) | ((first | (with_reducible refine XRes_skip ?_ ?_) | (with_reducible refine ADF_skip (b := true) ?_ ?_) | (with_reducible refine ADX_skip ?_ ?_) | ((with_reducible refine ADR_skip1 ?_ ?_ ?_); (focus rfl))); (focus (first | rfl | ((simp (disch := omega) only [go_sem]); done))); (simp only [putL, List.set_cons_succ, List.set_cons_zero]))) | ((first | (with_reducible refine XRes_nil ?_) | (with_reducible refine ADF_nil ?_) | (with_reducible refine ADR_nil ?_) | (with_reducible refine ADX_nil ?_)); (first | refine hK _ ?_ | refine hK _ _ ?_); clear hK K) | ((first | (with_reducible refine AX_reg0 fun K hK => ?_) | (refine AX_drawG1 tyOK (by kernel_rfl) (by rfl) (by kernel_rfl) fun K hK => ?_) | (refine AX_drawT tyOK (by kernel_rfl) (by decide +kernel) fun K hK => ?_) | (refine AX_drawM1 (by kernel_rfl) (by rfl) (by decide +kernel) fun K hK => ?_) | (refine AX_drawA tyOK (by kernel_rfl) (by decide +kernel) fun K hK => ?_)); (first | simp only [go_sem, preN, effOp, runF, alM, mapOp, alD2, kdOf2, Bool.not_false, Bool.not_true, reduceCtorEq] | simp only [go_sem, preN, effOp, runF, alM, mapOp, Bool.not_false, Bool.not_true, reduceCtorEq] | simp only [go_sem, preN, effOp, runF, alD2, kdOf2, Bool.not_false, Bool.not_true, reduceCtorEq] | simp only [go_sem, alD2, kdOf2, Bool.not_false, Bool.not_true, reduceCtorEq] | simp only [go_sem, preN, effOp, runF, Bool.not_false, Bool.not_true, reduceCtorEq] | simp only [go_sem])) | (first | ((refine XRes_makeMap rfl (fun b => ?_)); (simp only [putL, List.set_cons_succ, List.set_cons_zero, mInt_upd, mInt_del, mInt_get, mInt_is, mSet_upd, mSet_get, mSet_is, List.nil_append, List.cons_append])) | (first | (refine XRes_mput (i := 0) rfl Try.underlying54 rfl rfl rfl (by omega) rfl (int_plain (by omega)) (by unfold maxLen; omega) ?_; (simp only [putL, List.set_cons_succ, List.set_cons_zero, mInt_upd, mInt_del, mInt_get, mInt_is, mSet_upd, mSet_get, mSet_is, List.nil_append, List.cons_append])) | (refine XRes_mget (i := 0) rfl Try.underlying54 int_zero (by decide) rfl rfl rfl (by omega) ?_; (simp only [putL, List.set_cons_succ, List.set_cons_zero, mInt_upd, mInt_del, mInt_get, mInt_is, mSet_upd, mSet_get, mSet_is, List.nil_append, List.cons_append])) | (refine XRes_mlook (i := 0) rfl Try.underlying54 int_zero (by decide) rfl rfl rfl (by omega) ?_; (simp only [putL, List.set_cons_succ, List.set_cons_zero, mInt_upd, mInt_del, mInt_get, mInt_is, mSet_upd, mSet_get, mSet_is, List.nil_append, List.cons_append])) | (refine XRes_mdel (i := 0) rfl Try.underlying54 rfl rfl rfl (by omega) ?_; (simp only [putL, List.set_cons_succ, List.set_cons_zero, mInt_upd, mInt_del, mInt_get, mInt_is, mSet_upd, mSet_get, mSet_is, List.nil_append, List.cons_append])) | (refine XRes_mput (i := 1) rfl Try.underlying54 rfl rfl rfl (by omega) rfl (int_plain (by omega)) (by unfold maxLen; omega) ?_; (simp only [putL, List.set_cons_succ, List.set_cons_zero, mInt_upd, mInt_del, mInt_get, mInt_is, mSet_upd, mSet_get, mSet_is, List.nil_append, List.cons_append])) | (refine XRes_mget (i := 1) rfl Try.underlying54 int_zero (by decide) rfl rfl rfl (by omega) ?_; (simp only [putL, List.set_cons_succ, List.set_cons_zero, mInt_upd, mInt_del, mInt_get, mInt_is, mSet_upd, mSet_get, mSet_is, List.nil_append, List.cons_append])) | (refine XRes_mlook (i := 1) rfl Try.underlying54 int_zero (by decide) rfl rfl rfl (by omega) ?_; (simp only [putL, List.set_cons_succ, List.set_cons_zero, mInt_upd, mInt_del, mInt_get, mInt_is, mSet_upd, mSet_get, mSet_is, List.nil_append, List.cons_append])) | (refine XRes_mdel (i := 1) rfl Try.underlying54 rfl rfl rfl (by omega) ?_; (simp only [putL, List.set_cons_succ, List.set_cons_zero, mInt_upd, mInt_del, mInt_get, mInt_is, mSet_upd, mSet_get, mSet_is, List.nil_append, List.cons_append])))) | ((first | (refine XRes_splitG (by rfl) (fun hc => ?_) (fun hc => ?_)) | (refine ADF_splitG (by rfl) (fun hc => ?_) (fun hc => ?_))) <;> (try simp only [eqRes, List.cons_beq_cons, Bool.and_eq_true, Bool.not_eq_true, Bool.and_eq_false_iff, decide_eq_true_eq, decide_eq_false_iff_not, bne_iff_ne, beq_iff_eq, bne_eq_false_iff_eq, beq_eq_false_iff_ne, Bool.not_eq_true', Bool.not_eq_false', ne_eq, Int.not_lt, Int.not_le, Decidable.not_not] at hc) <;> simp only [List.set_cons_succ, List.set_cons_zero]) | (first | ((with_reducible refine AX_if_t ?_ ?_); focus (simp (maxSteps := 2000000) (disch := omega) only [go_sem , flatE_w, flatE_p, flatE_n, hw]; done)) | ((with_reducible refine AX_if_f ?_ ?_); focus (simp (maxSteps := 2000000) (disch := omega) only [go_sem , flatE_w, flatE_p, flatE_n, hw]; done)) | (refine AX_cond _ (by rfl) (fun hc => ?_) (fun hc => ?_) <;> (try simp only [eqRes, List.cons_beq_cons, Bool.and_eq_true, Bool.not_eq_true, Bool.and_eq_false_iff, decide_eq_true_eq, decide_eq_false_iff_not, bne_iff_ne, beq_iff_eq, bne_eq_false_iff_eq, beq_eq_false_iff_ne, Bool.not_eq_true', Bool.not_eq_false', ne_eq, Int.not_lt, Int.not_le, Decidable.not_not] at hc)))))
    refine XRes_fn rfl (SF_sortI (xs := ys) rfl rfl (by omega)) ?_
    rintro r H' ⟨rfl, rfl⟩
    (simp only [putL, List.set_cons_succ, List.set_cons_zero])
    (repeat' (first | (first | (with_reducible first | refine AX_block ?_ | refine AX_skip ?_ | refine AX_exit ?_ | refine AX_ret ?_) | ((with_reducible refine AX_if_t ?_ ?_); focus (simp only [go_sem]; done)) | ((with_reducible refine AX_if_f ?_ ?_); focus (simp only [go_sem]; done)) | (with_reducible refine AX_seq_k (fun K hK => ?_)) | ((with_reducible refine ContX.use (by assumption) ?_)) | (simp only [thenX, inBlockX, if_true, if_false, reduceCtorEq])) | (first | ((first | ((with_reducible refine XRes_op tyOK ?_ ?_); (focus (first | (with_reducible rfl) | ((simp (disch := omega) only [go_sem]); done)))) | ((with_reducible refine ADF_op tyOK ?_ ?_ ?_); (focus rfl); (focus (first | (with_reducible rfl) | ((simp (disch := omega) only [go_sem]); done)))) | ((with_reducible refine ADR_alloc1 tyOK ?_ ?_); (focus (first | (with_reducible rfl) | ((simp (disch := omega) only [go_sem]); done)))) | ((with_reducible refine ADX_op tyOK ?_ ?_ ?_); (focus rfl); (focus (first | (with_reducible rfl) | ((simp (disch := omega) only [go_sem]); done)))) | ((with_reducible refine ADR_free1 tyOK ?_ ?_ ?_); (focus rfl); (focus (first | (with_reducible rfl) | ((simp (disch := omega) only [go_sem]); done)))) | ((with_reducible refine ADR_free0 tyOK ?_ ?_ ?_); (focus rfl); (focus (first | (with_reducible rfl) | ((simp (disch := omega) only [go_sem]); done)))) | ((with_reducible refine ADR_read1 tyOK ?_ ?_ ?_); (focus rfl); (focus (first | (with_reducible rfl) | ((simp (disch := omega) only [go_sem]); done)))) | ((with_reducible refine ADR_chg1 tyOK ?_ ?_); (focus (first | (with_reducible rfl) | ((simp (disch := omega) only [go_sem]); done))))); simp (maxSteps := 2000000) (disch := omega) only [go_sem , flatE_w, flatE_p, flatE_n, hw]; (first | (with_reducible refine XRes_id ?_) | (with_reducible refine ADF_id ?_) | (with_reducible refine ADR_id1 ?_) | (with_reducible refine ADX_id ?_))) | ((first | (with_reducible refine XRes_skip ?_ ?_) | (with_reducible refine ADF_skip (b := true) ?_ ?_) | (with_reducible refine ADX_skip ?_ ?_) | ((with_reducible refine ADR_skip1 ?_ ?_ ?_); (focus rfl))); (focus (first | rfl | ((simp (disch := omega) only [go_sem]); done))); (simp only [putL, List.set_cons_succ, List.set_cons_zero]))) | ((first | (with_reducible refine XRes_nil ?_) | (with_reducible refine ADF_nil ?_) | (with_reducible refine ADR_nil ?_) | (with_reducible refine ADX_nil ?_)); (first | refine hK _ ?_ | refine hK _ _ ?_); clear hK K) | ((first | (with_reducible refine AX_reg0 fun K hK => ?_) | (refine AX_drawG1 tyOK (by kernel_rfl) (by rfl) (by kernel_rfl) fun K hK => ?_) | (refine AX_drawT tyOK (by kernel_rfl) (by decide +kernel) fun K hK => ?_) | (refine AX_drawM1 (by kernel_rfl) (by rfl) (by decide +kernel) fun K hK => ?_) | (refine AX_drawA tyOK (by kernel_rfl) (by decide +kernel) fun K hK => ?_)); (first | simp only [go_sem, preN, effOp, runF, alM, mapOp, alD2, kdOf2, Bool.not_false, Bool.not_true, reduceCtorEq] | simp only [go_sem, preN, effOp, runF, alM, mapOp, Bool.not_false, Bool.not_true, reduceCtorEq] | simp only [go_sem, preN, effOp, runF, alD2, kdOf2, Bool.not_false, Bool.not_true, reduceCtorEq] | simp only [go_sem, alD2, kdOf2, Bool.not_false, Bool.not_true, reduceCtorEq] | simp only [go_sem, preN, effOp, runF, Bool.not_false, Bool.not_true, reduceCtorEq] | simp only [go_sem])) | (first | ((refine XRes_makeMap rfl (fun b => ?_)); (simp only [putL, List.set_cons_succ, List.set_cons_zero, mInt_upd, mInt_del, mInt_get, mInt_is, mSet_upd, mSet_get, mSet_is, List.nil_append, List.cons_append])) | (first | (refine XRes_mput (i := 0) rfl Try.underlying54 rfl rfl rfl (by omega) rfl (int_plain (by omega)) (by unfold maxLen; omega) ?_; (simp only [putL, List.set_cons_succ, List.set_cons_zero, mInt_upd, mInt_del, mInt_get, mInt_is, mSet_upd, mSet_get, mSet_is, List.nil_append, List.cons_append])) | (refine XRes_mget (i := 0) rfl Try.underlying54 int_zero (by decide) rfl rfl rfl (by omega) ?_; (simp only [putL, List.set_cons_succ, List.set_cons_zero, mInt_upd, mInt_del, mInt_get, mInt_is, mSet_upd, mSet_get, mSet_is, List.nil_append, List.cons_append])) | (refine XRes_mlook (i := 0) rfl Try.underlying54 int_zero (by decide) rfl rfl rfl (by omega) ?_; (simp only [putL, List.set_cons_succ, List.set_cons_zero, mInt_upd, mInt_del, mInt_get, mInt_is, mSet_upd, mSet_get, mSet_is, List.nil_append, List.cons_append])) | (refine XRes_mdel (i := 0) rfl Try.underlying54 rfl rfl rfl (by omega) ?_; (simp only [putL, List.set_cons_succ, List.set_cons_zero, mInt_upd, mInt_del, mInt_get, mInt_is, mSet_upd, mSet_get, mSet_is, List.nil_append, List.cons_append])) | (refine XRes_mput (i := 1) rfl Try.underlying54 rfl rfl rfl (by omega) rfl (int_plain (by omega)) (by unfold maxLen; omega) ?_; (simp only [putL, List.set_cons_succ, List.set_cons_zero, mInt_upd, mInt_del, mInt_get, mInt_is, mSet_upd, mSet_get, mSet_is, List.nil_append, List.cons_append])) | (refine XRes_mget (i := 1) rfl Try.underlying54 int_zero (by decide) rfl rfl rfl (by omega) ?_; (simp only [putL, List.set_cons_succ, List.set_cons_zero, mInt_upd, mInt_del, mInt_get, mInt_is, mSet_upd, mSet_get, mSet_is, List.nil_append, List.cons_append])) | (refine XRes_mlook (i := 1) rfl Try.underlying54 int_zero (by decide) rfl rfl rfl (by omega) ?_; (simp only [putL, List.set_cons_succ, List.set_cons_zero, mInt_upd, mInt_del, mInt_get, mInt_is, mSet_upd, mSet_get, mSet_is, List.nil_append, List.cons_append])) | (refine XRes_mdel (i := 1) rfl Try.underlying54 rfl rfl rfl (by omega) ?_; (simp only [putL, List.set_cons_succ, List.set_cons_zero, mInt_upd, mInt_del, mInt_get, mInt_is, mSet_upd, mSet_get, mSet_is, List.nil_append, List.cons_append])))) | ((first | (refine XRes_splitG (by rfl) (fun hc => ?_) (fun hc => ?_)) | (refine ADF_splitG (by rfl) (fun hc => ?_) (fun hc => ?_))) <;> (try simp only [eqRes, List.cons_beq_cons, Bool.and_eq_true, Bool.not_eq_true, Bool.and_eq_false_iff, decide_eq_true_eq, decide_eq_false_iff_not, bne_iff_ne, beq_iff_eq, bne_eq_false_iff_eq, beq_eq_false_iff_ne, Bool.not_eq_true', Bool.not_eq_false', ne_eq, Int.not_lt, Int.not_le, Decidable.not_not] at hc) <;> simp only [List.set_cons_succ, List.set_cons_zero]) | (first | ((with_reducible refine AX_if_t ?_ ?_); focus (simp (maxSteps := 2000000) (disch := omega) only [go_sem , flatE_w, flatE_p, flatE_n, hw]; done)) | ((with_reducible refine AX_if_f ?_ ?_); focus (simp (maxSteps := 2000000) (disch := omega) only [go_sem , flatE_w, flatE_p, flatE_n, hw]; done)) | (refine AX_cond _ (by rfl) (fun hc => ?_) (fun hc => ?_) <;> (try simp only [eqRes, List.cons_beq_cons, Bool.and_eq_true, Bool.not_eq_true, Bool.and_eq_false_iff, decide_eq_true_eq, decide_eq_false_iff_not, bne_iff_ne, beq_iff_eq, bne_eq_false_iff_eq, beq_eq_false_iff_ne, Bool.not_eq_true', Bool.not_eq_false', ne_eq, Int.not_lt, Int.not_le, Decidable.not_not] at hc)))))
    (simp only [bodyX]; refine ⟨_, by simp only [aresults, aresult, XS.as, Try.results22, aload, List.getD_cons_succ, List.getD_cons_zero, List.getElem?_cons_succ, List.getElem?_cons_zero, Option.bind_some]; rfl, ?_⟩)
    rw [oks_keys h1 h2]
    have hl : ys.length = (eOps xs).length := by rw [← oks_keys h1 h2, isort_len]
    exact ⟨_, snap_ints rfl hl, rfl, trivial⟩
end Go.Proofs.Ytmjkhjebeebahaa
namespace Go.Proofs.Ytmjkhjebeebahaa
set_option linter.unusedVariables false
def oIx (xs : List Ev3) : Nat → Int → Option Int
  | 0 => fun _ => none
  | k + 1 => if (evAt xs k).w = 1 then updF (oIx xs k) (evAt xs k).p ((oCalls xs k).length : Int) else oIx xs k
theorem eWhere_is {xs : List Ev3} {p : Int} : ∀ {k}, 0 ≤ eWhere xs k p → (evAt xs (eWhere xs k p).toNat).p = p ∧ eNext xs (eWhere xs k p).toNat k = none
  | 0, h => by unfold eWhere at h; omega
  | k + 1, h => by
    unfold eWhere at h ⊢
    split
    · rename_i hp
      simp only [Int.toNat_natCast]
      exact ⟨hp, eNext_low (Nat.le_refl _)⟩
    · rename_i hp
      rw [if_neg hp] at h
      obtain ⟨h1, h2⟩ := eWhere_is h
      refine ⟨h1, ?_⟩
      unfold eNext
      rw [h2]
      simp only
      rw [if_neg (fun e => hp (e.2.trans h1))]
theorem eWhere_of {xs : List Ev3} {i : Nat} : ∀ {k}, i < k → eNext xs i k = none → eWhere xs k (evAt xs i).p = i
  | 0, h, _ => by omega
  | k + 1, h, hn => by
    unfold eNext at hn
    cases hk : eNext xs i k with
    | some j => rw [hk] at hn; cases hn
    | none =>
      rw [hk] at hn
      simp only at hn
      unfold eWhere
      by_cases hik : i = k
      · subst hik; rw [if_pos rfl]
      · rw [if_neg (fun e => by rw [if_pos ⟨by omega, e⟩] at hn; cases hn)]
        exact eWhere_of (by omega) hk
theorem oIx_at {xs : List Ev3} {p : Int} : ∀ {k}, eLast xs k p = 1 → oIx xs k p = some ((oCalls xs (eWhere xs k p).toNat).length : Int)
  | 0, h => by cases h
  | k + 1, h => by
    unfold eLast at h
    unfold oIx eWhere
    by_cases hp : (evAt xs k).p = p
    · rw [if_pos hp] at h
      rw [if_pos h, if_pos hp]
      unfold updF
      rw [if_pos hp.symm]; simp
    · rw [if_neg hp] at h
      have ih := oIx_at h
      rw [if_neg hp]
      split
      · unfold updF; rw [if_neg (Ne.symm hp)]; exact ih
      · exact ih
theorem oCalls_at {xs : List Ev3} {i : Nat} (hw : (evAt xs i).w = 1) : ∀ {k}, i < k → (oCalls xs k)[(oCalls xs i).length]? = some i
  | 0, h => by omega
  | k + 1, h => by
    rw [oCalls_succ]
    by_cases hik : i = k
    · subst hik; rw [if_pos hw]; simp
    · have ih := oCalls_at hw (k := k) (by omega)
      split
      · rw [List.getElem?_append_left (List.getElem?_eq_some_iff.1 ih).1]; exact ih
      · exact ih
theorem oCalls_mem {xs : List Ev3} {k i : Nat} (h : i ∈ oCalls xs k) : i < k ∧ (evAt xs i).w = 1 := by
  unfold oCalls at h
  simpa using h
theorem oCalls_inj {xs : List Ev3} {k q r i : Nat} (h1 : (oCalls xs k)[q]? = some i) (h2 : (oCalls xs k)[r]? = some i) : q = r := by
  have hn : (oCalls xs k).Nodup := List.Nodup.sublist List.filter_sublist List.nodup_range
  have hq := (List.getElem?_eq_some_iff.1 h1).1
  exact (List.getElem?_inj hq hn).1 (h1.trans h2.symm)
def cOf (xs : List Ev3) (k : Nat) : List Op5 := (oCalls xs k).map (opOf xs k)
/-- A call more. -/
theorem cOf_call {xs : List Ev3} {k : Nat} (hw : (evAt xs k).w = 1) (hl : eLast xs k (evAt xs k).p ≠ 1) : cOf xs (k + 1) = cOf xs k ++ [⟨(evAt xs k).p, (evAt xs k).n, k, -1, -1⟩] := by
  unfold cOf
  rw [oCalls_succ, if_pos hw, List.map_append]
  congr 1
  · refine List.map_congr_left fun i hi => ?_
    obtain ⟨h1, h2⟩ := oCalls_mem hi
    rw [opOf_next, if_neg]
    rintro ⟨h3, _, h4⟩
    have h5 := eWhere_of h1 h3
    rw [← h4] at h5
    have := eWhere_some (xs := xs) (k := k) (p := (evAt xs k).p) (by omega)
    rw [h5] at this
    simp at this
    exact hl (this.trans h2)
  · simp only [List.map_cons, List.map_nil]
    congr 1
    unfold opOf
    rw [eNext_low (by omega)]
/-- An end. -/
theorem cOf_ret {xs : List Ev3} {k q : Nat} (hw : (evAt xs k).w = 2) (hl : eLast xs k (evAt xs k).p = 1) (hq : q = (oCalls xs (eWhere xs k (evAt xs k).p).toNat).length) :
    ∃ o, (cOf xs k)[q]? = some o ∧ q < (oCalls xs k).length ∧ cOf xs (k + 1) = (cOf xs k).set q ⟨o.p, o.k, o.s, k, (evAt xs k).n⟩ := by
  have h0 : 0 ≤ eWhere xs k (evAt xs k).p := by
    rcases Int.lt_or_le (eWhere xs k (evAt xs k).p) 0 with h | h
    · have := eWhere_none h; omega
    · exact h
  have hlt := eWhere_lt xs (evAt xs k).p k
  obtain ⟨h1, h2⟩ := eWhere_is h0
  have h3 := eWhere_some h0
  rw [hl] at h3
  generalize hi : (eWhere xs k (evAt xs k).p).toNat = i at *
  have hik : i < k := by omega
  have hat := oCalls_at h3.symm hik
  rw [← hq] at hat
  refine ⟨opOf xs k i, by unfold cOf; rw [List.getElem?_map, hat]; rfl, (List.getElem?_eq_some_iff.1 hat).1, ?_⟩
  unfold cOf
  rw [oCalls_succ, if_neg (by omega)]
  refine List.ext_getElem? fun r => ?_
  rw [List.getElem?_map]
  by_cases hr : q = r
  · subst hr
    rw [List.getElem?_set_self (by simpa using (List.getElem?_eq_some_iff.1 hat).1), hat, Option.map_some]
    obtain ⟨p1, p2, p3⟩ := opOf_psk xs k i
    rw [opOf_next, if_pos ⟨h2, hik, h1.symm⟩, p1, p2, p3]
  · rw [List.getElem?_set_ne hr, List.getElem?_map]
    cases hj : (oCalls xs k)[r]? with
    | none => rfl
    | some j =>
      simp only [Option.map_some, Option.some.injEq]
      rw [opOf_next, if_neg]
      rintro ⟨h4, h5, h6⟩
      have h7 := eWhere_of h5 h4
      rw [← h6] at h7
      have : j = i := by omega
      subst this
      exact hr (oCalls_inj hat hj)
theorem flatO_set : ∀ (L : List Op5) (q : Nat) (o : Op5) (a b : Int), L[q]? = some o → ((flatO L).set (q * 5 + 3) a).set (q * 5 + 4) b = flatO (L.set q ⟨o.p, o.k, o.s, a, b⟩)
  | [], q, o, a, b, h => by simp at h
  | x :: L, 0, o, a, b, h => by
    simp at h; subst h
    simp [flatO, oFl]
  | x :: L, q + 1, o, a, b, h => by
    have ih := flatO_set L q o a b (by simpa using h)
    have e : flatO (x :: L) = x.p :: x.k :: x.s :: x.e :: x.r :: flatO L := rfl
    rw [e, show (q + 1) * 5 + 3 = (q * 5 + 3) + 1 + 1 + 1 + 1 + 1 by omega, show (q + 1) * 5 + 4 = (q * 5 + 4) + 1 + 1 + 1 + 1 + 1 by omega]
    simp only [List.set_cons_succ]
    rw [ih]; rfl
end Go.Proofs.Ytmjkhjebeebahaa
