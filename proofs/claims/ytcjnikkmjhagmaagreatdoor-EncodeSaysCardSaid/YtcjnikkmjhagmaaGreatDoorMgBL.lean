import Derived.Test.YtcjnikkmjhagmaaGreatDoorMgBK
import Derived.Test.YtcjnikkmjhagmaaGreatDoorMgAO
import Derived.Test.YtcjnikkmjhagmaaGreatDoorMgBI
namespace Go.Proofs.YtcjnikkmjhagmaaGreatDoor
open Go.RowKit
theorem nodup_cover : ∀ (n : Nat) (xs : List Int), xs.length = n → xs.Nodup → (∀ x ∈ xs, 0 ≤ x ∧ x < n) → ∀ i : Nat, i < n → (i : Int) ∈ xs
  | 0, _, _, _, _, i, hi => by omega
  | n + 1, xs, hl, hd, hb, i, hi => by
    by_cases hm : (n : Int) ∈ xs
    · by_cases he : i = n
      · subst he; exact hm
      · have h1 := List.perm_cons_erase hm
        have h2 : (xs.erase (n : Int)).length = n := by have := h1.length_eq; rw [List.length_cons] at this; omega
        have hd2 := (h1.nodup_iff.1 hd)
        rw [List.nodup_cons] at hd2
        have h3 := nodup_cover n (xs.erase (n : Int)) h2 hd2.2 (fun x hx => by
          have h4 := hb x (List.mem_of_mem_erase hx)
          have h5 : x ≠ n := fun e => hd2.1 (e ▸ hx)
          omega) i (by omega)
        exact List.mem_of_mem_erase h3
    · cases xs with
      | nil => simp at hl
      | cons x t =>
        rw [List.nodup_cons] at hd
        have hb2 : ∀ y ∈ x :: t, 0 ≤ y ∧ y < n := fun y hy => by
          have h4 := hb y hy
          have h5 : y ≠ n := fun e => hm (e ▸ hy)
          omega
        have hx := hb2 x List.mem_cons_self
        have h3 := nodup_cover n t (by simpa using hl) hd.2 (fun y hy => hb2 y (List.mem_cons_of_mem _ hy)) x.toNat (by omega)
        rw [Int.toNat_of_nonneg hx.1] at h3
        exact absurd h3 hd.1
theorem tkU_at {n : Nat} {ord : List Int} {j : Nat} : ∀ k, (∀ p, p < k → (ord.getD p 0).toNat < n) → ((tkU n ord k).getD j false = true ↔ ∃ p, p < k ∧ (ord.getD p 0).toNat = j)
  | 0, _ => by
    show (List.replicate _ false).getD _ false = true ↔ _
    rw [rep_getD]
    exact ⟨fun h => by simp at h, fun ⟨p, h, _⟩ => by omega⟩
  | k + 1, hb => by
    have ih := tkU_at (n := n) (j := j) k fun p hp => hb p (by omega)
    show ((tkU n ord k).set _ true).getD _ false = true ↔ _
    rw [set_getD (by rw [tkU_len]; exact hb k (by omega))]
    by_cases h : (ord.getD k 0).toNat = j
    · rw [if_pos h]; exact ⟨fun _ => ⟨k, by omega, h⟩, fun _ => rfl⟩
    · rw [if_neg h, ih]
      refine ⟨fun ⟨p, h1, h2⟩ => ⟨p, by omega, h2⟩, fun ⟨p, h1, h2⟩ => ⟨p, ?_, h2⟩⟩
      rcases Nat.lt_or_ge p k with h5 | h5
      · exact h5
      · obtain rfl : p = k := by omega
        exact absurd h2 h
theorem pt_all {n : Nat} {ord : List Int} (hl : ord.length = n) (h : ∀ k, k < n → ptG n ord k) : mAll n ord = true := by
  have hb : ∀ p, p < n → (ord.getD p 0).toNat < n := fun p hp => by have := h p hp; unfold ptG at this; omega
  refine mAll_iff.2 ⟨hl, nodup_cover n ord hl ?_ fun x hx => ?_⟩
  · unfold List.Nodup
    rw [List.pairwise_iff_getElem]
    intro i j hi hj hij e
    have h1 := h j (by omega)
    have h2 : (tkU n ord j).getD (ord.getD j 0).toNat false = true := (tkU_at j fun p hp => hb p (by omega)).2 ⟨i, hij, by
      rw [List.getD_eq_getElem?_getD, List.getElem?_eq_getElem hi, List.getD_eq_getElem?_getD, List.getElem?_eq_getElem hj, Option.getD_some, Option.getD_some, e]⟩
    rw [h1.2.2] at h2
    cases h2
  · obtain ⟨k, hk, rfl⟩ := List.getElem_of_mem hx
    have := h k (by omega)
    unfold ptG at this
    rw [List.getD_eq_getElem?_getD, List.getElem?_eq_getElem hk, Option.getD_some] at this
    exact ⟨this.1, this.2.1⟩
def orU (a b : List Bool) (k : Nat) : List Bool := (List.range k).map fun i => a.getD i false || b.getD i false
theorem orU_len (a b : List Bool) (k : Nat) : (orU a b k).length = k := by unfold orU; simp
theorem orU_at (a b : List Bool) {k i : Nat} (h : i < k) : (orU a b k).getD i false = (a.getD i false || b.getD i false) := by
  unfold orU; rw [List.getD_eq_getElem?_getD, List.getElem?_map, List.getElem?_range h]; rfl
def mpM (n : Nat) (m : Int) (ord row : List Int) (inn : List Bool) : List Bool := inU n m inn (orU (ptU n m ord n) (srU n m row (n + 1)) (nVars n m).toNat) n
theorem mpM_len (n : Nat) (m : Int) (ord row : List Int) (inn : List Bool) : (mpM n m ord row inn).length = (nVars n m).toNat := by unfold mpM; rw [inU_len, orU_len]
theorem lit_pos {M : List Bool} {v : Int} (h1 : 1 ≤ v) (h2 : v ≤ M.length) (h3 : M.length ≤ 100000) : litT M v = M.getD (v - 1).toNat false := by
  have e1 : spV v = v := by unfold spV; rw [if_pos (by omega)]
  have e2 : spB v = true := decide_eq_true (by omega)
  unfold litT; rw [e1, e2, decide_eq_true (show v ≠ 0 by omega), decide_eq_true h2]; simp
theorem lit_neg {M : List Bool} {v : Int} (h1 : 1 ≤ v) (h2 : v ≤ M.length) (h3 : M.length ≤ 100000) : litT M (-v) = !M.getD (v - 1).toNat false := by
  have e1 : spV (-v) = v := by unfold spV; rw [if_neg (by omega), if_pos (by omega)]; omega
  have e2 : spB (-v) = false := decide_eq_false (by omega)
  unfold litT; rw [e1, e2, decide_eq_true (show v ≠ 0 by omega), decide_eq_true h2]; simp
section
variable {n : Nat} {m : Int} {ord row : List Int} {inn : List Bool}
theorem mp_var (hok : nOk n m) {c a b : Int} (hnm : nName n m c a b) : litT (mpM n m ord row inn) (nVar n m c a b) = (mpM n m ord row inn).getD (nVar n m c a b - 1).toNat false ∧ litT (mpM n m ord row inn) (-nVar n m c a b) = !(mpM n m ord row inn).getD (nVar n m c a b - 1).toNat false := by
  have hp := nVar_pos hnm
  have hl := mpM_len n m ord row inn
  have hV : 0 ≤ nVars n m ∧ nVars n m ≤ 6240 := by unfold nVars; rw [if_pos hok]; exact nAhead_bd hok 4
  exact ⟨lit_pos hp.1 (by rw [hl]; omega) (by rw [hl]; omega), lit_neg hp.1 (by rw [hl]; omega) (by rw [hl]; omega)⟩
theorem mp_at (hok : nOk n m) (hg : ∀ k, k < n → ∃ q : Nat, q < n ∧ ord.getD k 0 = q) (hr : ∀ i, i < n + 1 → nName n m 3 i (row.getD i 0)) {c a b : Int} (hnm : nName n m c a b) : (mpM n m ord row inn).getD (nVar n m c a b - 1).toNat false = if c = 2 then inn.getD a.toNat false else ((ptU n m ord n).getD (nVar n m c a b - 1).toNat false || (srU n m row (n + 1)).getD (nVar n m c a b - 1).toNat false) := by
  have hp := nVar_pos hnm
  unfold mpM
  rw [inU_at hok (orU_len _ _ _) hnm n (Nat.le_refl _)]
  by_cases h : c = 2
  · have ha : a < n := by
      have := hnm.2.2.2.2.1
      rw [h] at this
      have e : nA n 2 = n := by simp [nA]
      omega
    rw [if_pos ⟨h, ha⟩, if_pos h]
  · rw [if_neg (fun hh => h hh.1), if_neg h, orU_at _ _ (by omega)]
theorem mp_1 (hok : nOk n m) (hg : ∀ k, k < n → ∃ q : Nat, q < n ∧ ord.getD k 0 = q) (hr : ∀ i, i < n + 1 → nName n m 3 i (row.getD i 0)) {i p : Nat} (hi : i < n) (hp : p < n) : litT (mpM n m ord row inn) (-nVar n m 1 i p) = !decide (ord.getD p 0 = i) := by
  have hnm := nName_1 (m := m) (a := i) (b := p) hok (by omega) (by omega) (by omega) (by omega)
  rw [(mp_var hok hnm).2, mp_at hok hg hr hnm, if_neg (by decide)]
  have h1 := ptU_at (ord := ord) hok hg hnm n (Nat.le_refl _)
  have h2 : (srU n m row (n + 1)).getD (nVar n m 1 i p - 1).toNat false = false := by
    cases h : (srU n m row (n + 1)).getD (nVar n m 1 i p - 1).toNat false with
    | false => rfl
    | true => obtain ⟨q, _, h3, _⟩ := (srU_at hr hnm (n + 1) (Nat.le_refl _)).1 h; omega
  rw [h2, Bool.or_false]
  congr 1
  by_cases h3 : ord.getD p 0 = i
  · rw [decide_eq_true h3]; exact h1.2 ⟨p, hp, rfl, h3.symm, rfl⟩
  · rw [decide_eq_false h3]
    cases h : (ptU n m ord n).getD (nVar n m 1 i p - 1).toNat false with
    | false => rfl
    | true =>
      obtain ⟨q, _, _, h4, h5⟩ := h1.1 h
      obtain rfl : p = q := by omega
      exact absurd h4.symm h3
theorem mp_2 (hok : nOk n m) (hg : ∀ k, k < n → ∃ q : Nat, q < n ∧ ord.getD k 0 = q) (hr : ∀ i, i < n + 1 → nName n m 3 i (row.getD i 0)) {i : Nat} (hi : i < n) : litT (mpM n m ord row inn) (nVar n m 2 i 0) = inn.getD i false ∧ litT (mpM n m ord row inn) (-nVar n m 2 i 0) = !inn.getD i false := by
  have hnm := nName_2 (m := m) (a := i) hok (by omega) (by omega)
  rw [(mp_var hok hnm).1, (mp_var hok hnm).2, mp_at hok hg hr hnm, if_pos rfl]
  exact ⟨rfl, rfl⟩
theorem mp_3 (hok : nOk n m) (hg : ∀ k, k < n → ∃ q : Nat, q < n ∧ ord.getD k 0 = q) (hr : ∀ i, i < n + 1 → nName n m 3 i (row.getD i 0)) {p : Nat} {b : Int} (hp : p ≤ n) (hb : 0 ≤ b) (hb2 : b < m) : litT (mpM n m ord row inn) (nVar n m 3 p b) = decide (row.getD p 0 = b) ∧ litT (mpM n m ord row inn) (-nVar n m 3 p b) = !decide (row.getD p 0 = b) := by
  have hnm := nName_3 (n := n) (m := m) (a := p) (b := b) hok (by omega) (by omega) hb hb2
  rw [(mp_var hok hnm).1, (mp_var hok hnm).2, mp_at hok hg hr hnm, if_neg (by decide)]
  have h1 := srU_at hr hnm (n + 1) (Nat.le_refl _)
  have h2 : (ptU n m ord n).getD (nVar n m 3 p b - 1).toNat false = false := by
    cases h : (ptU n m ord n).getD (nVar n m 3 p b - 1).toNat false with
    | false => rfl
    | true => obtain ⟨q, _, h3, _⟩ := (ptU_at (ord := ord) hok hg hnm n (Nat.le_refl _)).1 h; omega
  have h3 : (srU n m row (n + 1)).getD (nVar n m 3 p b - 1).toNat false = decide (row.getD p 0 = b) := by
    by_cases h3 : row.getD p 0 = b
    · rw [decide_eq_true h3]; exact h1.2 ⟨p, by omega, rfl, rfl, h3.symm⟩
    · rw [decide_eq_false h3]
      cases h : (srU n m row (n + 1)).getD (nVar n m 3 p b - 1).toNat false with
      | false => rfl
      | true =>
        obtain ⟨q, _, _, h4, h5⟩ := h1.1 h
        obtain rfl : p = q := by omega
        exact absurd h5.symm h3
  rw [h2, h3, Bool.false_or]
  exact ⟨rfl, rfl⟩
end
end Go.Proofs.YtcjnikkmjhagmaaGreatDoor
namespace Go.Proofs.YtcjnikkmjhagmaaGreatDoor
open Go.RowKit
theorem mCl_mem {o : Ob} {l : List Op5} {c : List Int} {k : Nat} : c ∈ mCl o l k ↔ ∃ i, i < k ∧ c ∈ mI o l i := by unfold mCl; simp [List.mem_flatMap]
theorem mP_mem {o : Ob} {l : List Op5} {c : List Int} {i k : Nat} : c ∈ mP o l i k ↔ ∃ p, p < k ∧ c ∈ mB o l i p o.S.toNat := by unfold mP; simp [List.mem_flatMap]
theorem mB_mem {o : Ob} {l : List Op5} {c : List Int} {i p k : Nat} : c ∈ mB o l i p k ↔ ∃ b, b < k ∧ c ∈ mA o l i p b := by unfold mB; simp [List.mem_flatMap]
def c1A (o : Ob) (l : List Op5) (i p b : Nat) : List Int := [-(nVar l.length o.S 1 i p), -(nVar l.length o.S 2 i 0), -(nVar l.length o.S 3 p b)] ++ (if 0 ≤ mvE o (oAt l i) b then [nVar l.length o.S 3 (p + 1 : Nat) (mvE o (oAt l i) b)] else [])
def c2A (o : Ob) (l : List Op5) (i p b : Nat) : List Int := [-(nVar l.length o.S 1 i p), nVar l.length o.S 2 i 0, -(nVar l.length o.S 3 p b), nVar l.length o.S 3 (p + 1 : Nat) b]
theorem mA_mem {o : Ob} {l : List Op5} {c : List Int} {i p b : Nat} : c ∈ mA o l i p b ↔ c = c1A o l i p b ∨ ((oAt l i).e = -1 ∧ c = c2A o l i p b) := by
  unfold mA
  rw [List.mem_append, List.mem_singleton]
  unfold c1A c2A
  by_cases h : (oAt l i).e = -1
  · rw [if_pos h, List.mem_singleton]
    exact ⟨fun hh => hh.imp id fun h2 => ⟨h, h2⟩, fun hh => hh.imp id fun h2 => h2.2⟩
  · rw [if_neg h]
    exact ⟨fun hh => hh.elim .inl fun h2 => by simp at h2, fun hh => hh.elim .inl fun h2 => absurd h2.1 h⟩
section
variable {o : Ob} {l : List Op5} {ord row : List Int} {inn : List Bool}
theorem ho_c1 (hok : nOk l.length o.S) (hob : obE o = 0) (hg : ∀ k, k < l.length → ∃ q : Nat, q < l.length ∧ ord.getD k 0 = q) (hr : ∀ i, i < l.length + 1 → nName l.length o.S 3 i (row.getD i 0)) {i p b : Nat} (hi : i < l.length) (hp : p < l.length) (hb : (b : Int) < o.S) :
    hoB (c1A o l i p b) (mpM l.length o.S ord row inn) = (!decide (ord.getD p 0 = i) || (!inn.getD i false || (!decide (row.getD p 0 = b) || (decide (0 ≤ mvE o (oAt l i) b) && decide (row.getD (p + 1) 0 = mvE o (oAt l i) b))))) := by
  have e1 := mp_1 (inn := inn) hok hg hr hi hp
  have e2 := (mp_2 (inn := inn) hok hg hr hi).2
  have e3 := (mp_3 (inn := inn) (b := b) hok hg hr (by omega : p ≤ l.length) (by omega) hb).2
  unfold hoB c1A
  by_cases h : 0 ≤ mvE o (oAt l i) b
  · have h2 : mvE o (oAt l i) b < o.S := by rcases mvE_in hob (oAt l i) b with hh | hh <;> omega
    have e4 := (mp_3 (inn := inn) (p := p + 1) hok hg hr (by omega) h h2).1
    rw [if_pos h, decide_eq_true h, Bool.true_and]
    simp only [List.cons_append, List.nil_append, List.any_cons, List.any_nil, Bool.or_false]
    rw [e1, e2, e3, e4]
  · rw [if_neg h, decide_eq_false h, Bool.false_and]
    simp only [List.append_nil, List.any_cons, List.any_nil, Bool.or_false]
    rw [e1, e2, e3]
theorem ho_c2 (hok : nOk l.length o.S) (hg : ∀ k, k < l.length → ∃ q : Nat, q < l.length ∧ ord.getD k 0 = q) (hr : ∀ i, i < l.length + 1 → nName l.length o.S 3 i (row.getD i 0)) {i p b : Nat} (hi : i < l.length) (hp : p < l.length) (hb : (b : Int) < o.S) :
    hoB (c2A o l i p b) (mpM l.length o.S ord row inn) = (!decide (ord.getD p 0 = i) || (inn.getD i false || (!decide (row.getD p 0 = b) || decide (row.getD (p + 1) 0 = b)))) := by
  have e1 := mp_1 (inn := inn) hok hg hr hi hp
  have e2 := (mp_2 (inn := inn) hok hg hr hi).1
  have e3 := (mp_3 (inn := inn) (b := b) hok hg hr (by omega : p ≤ l.length) (by omega) hb).2
  have e4 := (mp_3 (inn := inn) (p := p + 1) (b := b) hok hg hr (by omega) (by omega) hb).1
  unfold hoB c2A
  simp only [List.any_cons, List.any_nil, Bool.or_false]
  rw [e1, e2, e3, e4]
theorem mp_main (hok : nOk (mN o l) (mS o l)) (hpt : ptOk l.length o.S ord) (hsr : srOk l.length o.S row) (h0 : row.getD 0 0 = o.I) (hin : inn.length = l.length) :
    (∀ c ∈ mRes o l, hoB c (mpM l.length o.S ord row inn) = true) ↔ (plB o l ord inn = true ∧ plXs o l ord inn = row) := by
  obtain ⟨hm, hl, hS1, hS2⟩ := m_nOk hok
  have hob := hm.1
  have hok2 := hpt.1
  have hlen : ord.length = l.length := by have := hpt.2.1; omega
  have hall : mAll l.length ord = true := pt_all hlen fun k hk => hpt.2.2 k (by omega)
  have hg : ∀ k, k < l.length → ∃ q : Nat, q < l.length ∧ ord.getD k 0 = q := fun k hk => mAll_at hall hk
  have hrl : row.length = l.length + 1 := by have := hsr.2.1; omega
  have hr : ∀ i, i < l.length + 1 → nName l.length o.S 3 i (row.getD i 0) := fun i hi => by
    have := hsr.2.2 i (by omega)
    have hnz : srV l.length o.S row i ≠ 0 := by simpa using this
    exact Classical.not_not.1 fun h => hnz (nVar_zero.2 h)
  have hrb : ∀ i, i < l.length + 1 → ∃ b : Nat, row.getD i 0 = b ∧ (b : Int) < o.S := fun i hi => by
    have h := (hr i hi).2.2.2.2.2
    have e : nB l.length o.S 3 = o.S := by simp [nB]
    exact ⟨(row.getD i 0).toNat, by omega, by omega⟩
  have hres : mRes o l = mCl o l l.length := by unfold mRes; rw [if_pos hok]
  rw [hres]
  constructor
  · intro h
    have hplIn : ∀ i, i < l.length → plIn l inn i := fun i hi => by
      by_cases he : (oAt l i).e = -1
      · exact .inl he
      · have h1 := h [nVar l.length o.S 2 i 0] (mCl_mem.2 ⟨i, hi, by unfold mI; rw [if_neg he]; simp⟩)
        unfold hoB at h1
        rw [List.any_cons, List.any_nil, Bool.or_false, (mp_2 hok2 hg hr hi).1] at h1
        exact .inr h1
    have hA : ∀ {i p b : Nat}, i < l.length → p < l.length → (b : Int) < o.S → ∀ c ∈ mA o l i p b, hoB c (mpM l.length o.S ord row inn) = true := fun {i p b} hi hp hb c hc =>
      h c (mCl_mem.2 ⟨i, hi, by unfold mI; rw [List.mem_append]; exact .inr (mP_mem.2 ⟨p, hp, mB_mem.2 ⟨b, by omega, hc⟩⟩)⟩)
    have hstep : ∀ p, p < l.length → ∀ q : Nat, q < l.length → ord.getD p 0 = q → (inn.getD q false = true → 0 ≤ mvE o (oAt l q) (row.getD p 0) ∧ row.getD (p + 1) 0 = mvE o (oAt l q) (row.getD p 0)) ∧ (inn.getD q false = false → row.getD (p + 1) 0 = row.getD p 0) := fun p hp q hq hqe => by
      obtain ⟨b, hb, hbS⟩ := hrb p (by omega)
      have g1 := hA hq hp hbS _ (mA_mem.2 (.inl rfl))
      rw [ho_c1 hok2 hob hg hr hq hp hbS, decide_eq_true hqe, decide_eq_true hb] at g1
      refine ⟨fun hi => ?_, fun hi => ?_⟩
      · rw [hi] at g1
        simp only [Bool.not_true, Bool.false_or, Bool.and_eq_true, decide_eq_true_eq] at g1
        rw [hb]; exact g1
      · have he : (oAt l q).e = -1 := (hplIn q hq).resolve_right (by rw [hi]; decide)
        have g2 := hA hq hp hbS _ (mA_mem.2 (.inr ⟨he, rfl⟩))
        rw [ho_c2 hok2 hg hr hq hp hbS, decide_eq_true hqe, decide_eq_true hb, hi] at g2
        simp only [Bool.not_true, Bool.false_or, decide_eq_true_eq] at g2
        rw [hb]; exact g2
    have hst : ∀ p, p ≤ l.length → plSt o l ord inn p = row.getD p 0 := by
      intro p
      induction p with
      | zero => intro _; exact h0.symm
      | succ p ih =>
        intro hp
        have ih := ih (by omega)
        obtain ⟨q, hq, hqe⟩ := hg p (by omega)
        have hop : plOp ord p = q := by unfold plOp; rw [hqe]; rfl
        obtain ⟨s1, s2⟩ := hstep p (by omega) q hq hqe
        show (if _ then _ else _) = _
        rw [hop]
        by_cases hi : inn.getD q false = true
        · rw [if_pos hi, ih]
          obtain ⟨s3, s4⟩ := s1 hi
          rw [s4]
          rcases mvE_in hob (oAt l q) (row.getD p 0) with hh | hh
          · exact hh.2.2.2.symm
          · omega
        · rw [if_neg hi, ih]
          exact (s2 (by simpa using hi)).symm
    have hgo : ∀ k, k < l.length → plGo o l ord inn k = true := fun k hk => by
      obtain ⟨q, hq, hqe⟩ := hg k hk
      have hop : plOp ord k = q := by unfold plOp; rw [hqe]; rfl
      unfold plGo
      rw [hop, hst k (by omega)]
      cases hi : inn.getD q false with
      | false => rfl
      | true =>
        obtain ⟨s3, _⟩ := (hstep k hk q hq hqe).1 hi
        rcases mvE_in hob (oAt l q) (row.getD k 0) with hh | hh
        · rw [hh.1]; rfl
        · omega
    have hp : plOk o l ord inn := ⟨hok, hall, hin, hplIn, hgo⟩
    refine ⟨(pl_yes hp).2, ?_⟩
    rw [(pl_yes hp).1]
    apply List.ext_getElem
    · rw [plRow_len, hrl]
    · intro i h1 h2
      have h3 := plRow_at o l ord inn (k := l.length) (j := i) (by omega)
      rw [List.getD_eq_getElem?_getD, List.getElem?_eq_getElem h1, Option.getD_some, hst i (by omega), List.getD_eq_getElem?_getD, List.getElem?_eq_getElem h2, Option.getD_some] at h3
      exact h3
  · rintro ⟨hB, hX⟩ c hc
    have hp : plOk o l ord inn := by unfold plB at hB; simpa using hB
    rw [(pl_yes hp).1] at hX
    have hst : ∀ p, p ≤ l.length → row.getD p 0 = plSt o l ord inn p := fun p hp => by rw [← hX, plRow_at _ _ _ _ hp]
    obtain ⟨i, hi, hc⟩ := mCl_mem.1 hc
    unfold mI at hc
    rw [List.mem_append] at hc
    rcases hc with hc | hc
    · by_cases he : (oAt l i).e = -1
      · rw [if_pos he] at hc; simp at hc
      · rw [if_neg he, List.mem_singleton] at hc
        subst hc
        unfold hoB
        rw [List.any_cons, List.any_nil, Bool.or_false, (mp_2 hok2 hg hr hi).1]
        exact (hp.2.2.2.1 i hi).resolve_left he
    · obtain ⟨p, hpl, hc⟩ := mP_mem.1 hc
      obtain ⟨b, hbl, hc⟩ := mB_mem.1 hc
      have hbS : (b : Int) < o.S := by omega
      have hstep : ord.getD p 0 = i → row.getD p 0 = b → (inn.getD i false = true → 0 ≤ mvE o (oAt l i) b ∧ row.getD (p + 1) 0 = mvE o (oAt l i) b) ∧ (inn.getD i false = false → row.getD (p + 1) 0 = b) := fun h1 h2 => by
        have hop : plOp ord p = i := by unfold plOp; rw [h1]; rfl
        have e : plSt o l ord inn (p + 1) = if inn.getD i false = true then mvTo o (oAt l i) b else b := by
          show (if _ then _ else _) = _
          rw [hop, ← hst p (by omega), h2]
        have hgo := hp.2.2.2.2 p hpl
        unfold plGo at hgo
        rw [hop, ← hst p (by omega), h2] at hgo
        rw [hst (p + 1) (by omega), e]
        refine ⟨fun hi2 => ?_, fun hi2 => by rw [if_neg (by rw [hi2]; decide)]⟩
        rw [if_pos hi2]
        rw [hi2] at hgo
        rcases mvE_in hob (oAt l i) b with hh | hh
        · exact ⟨hh.2.1, hh.2.2.2.symm⟩
        · rw [hh.1] at hgo; cases hgo
      rcases mA_mem.1 hc with rfl | ⟨he, rfl⟩
      · rw [ho_c1 hok2 hob hg hr hi hpl hbS]
        by_cases h1 : ord.getD p 0 = i
        · by_cases h2 : row.getD p 0 = b
          · cases hi2 : inn.getD i false with
            | false => simp
            | true =>
              obtain ⟨s1, s2⟩ := (hstep h1 h2).1 hi2
              rw [decide_eq_true s1, decide_eq_true s2]; simp
          · rw [decide_eq_false h2]; simp
        · rw [decide_eq_false h1]; simp
      · rw [ho_c2 hok2 hg hr hi hpl hbS]
        by_cases h1 : ord.getD p 0 = i
        · by_cases h2 : row.getD p 0 = b
          · cases hi2 : inn.getD i false with
            | true => simp
            | false =>
              have s2 := (hstep h1 h2).2 hi2
              rw [decide_eq_true s2]; simp
          · rw [decide_eq_false h2]; simp
        · rw [decide_eq_false h1]; simp
end
theorem fiR_all {xss : List (List Int)} {m : List Bool} : fiR xss m < 0 ↔ ∀ c ∈ xss, hoB c m = true := by
  unfold fiR
  by_cases h : fb (fiE xss m) xss.length < xss.length
  · rw [if_pos h]
    refine ⟨fun h1 => by omega, fun h1 => ?_⟩
    have h2 := fb_bad (err := fiE xss m) h
    have h3 := h1 (xss.getD (fb (fiE xss m) xss.length) []) (by rw [List.getD_eq_getElem?_getD, List.getElem?_eq_getElem h]; exact List.getElem_mem h)
    exact absurd (if_pos h3 : fiE xss m (fb (fiE xss m) xss.length) = 0) h2
  · rw [if_neg h]
    refine ⟨fun _ c hc => ?_, fun _ => by decide⟩
    obtain ⟨k, hk, rfl⟩ := List.getElem_of_mem hc
    have h2 := fb_eq.1 (show fb (fiE xss m) xss.length = xss.length by have := fb_le (fiE xss m) xss.length; omega) k hk
    unfold fiE at h2
    rw [List.getD_eq_getElem?_getD, List.getElem?_eq_getElem hk, Option.getD_some] at h2
    cases hq : hoB xss[k] m with
    | true => rfl
    | false => rw [hq] at h2; simp at h2
end Go.Proofs.YtcjnikkmjhagmaaGreatDoor
namespace Go.Proofs.YtcjnikkmjhagmaaGreatDoor
open Go.RowKit
theorem vc_ms {n m : Int} (g : Nat → Int × Int × Int) (N : Nat) (hn : ∀ i, i < N → nName n m (g i).1 (g i).2.1 (g i).2.2) (hd : ∀ i j, i < N → j < N → g i = g j → i = j) :
    ∀ c ∈ msAll ((List.range N).map fun i => nVar n m (g i).1 (g i).2.1 (g i).2.2), VC (nVars n m) c := by
  intro c hc
  unfold msAll msUp at hc
  obtain ⟨i, hi, hc⟩ := List.mem_flatMap.1 hc
  unfold msRow at hc
  obtain ⟨t, ht, rfl⟩ := List.mem_map.1 hc
  have hi := List.mem_range.1 hi
  have ht := List.mem_range.1 ht
  have hl : ((List.range N).map fun i => nVar n m (g i).1 (g i).2.1 (g i).2.2).length = N := by simp
  rw [hl] at hi ht
  have at_ : ∀ k, k < N → ((List.range N).map fun i => nVar n m (g i).1 (g i).2.1 (g i).2.2).getD k 0 = nVar n m (g k).1 (g k).2.1 (g k).2.2 := fun k hk => by
    rw [List.getD_eq_getElem?_getD, List.getElem?_map, List.getElem?_range hk]; rfl
  rw [at_ i hi, at_ (i + 1 + t) (by omega)]
  exact vc_two (hn i hi) (hn _ (by omega)) fun e => by have := hd i (i + 1 + t) hi (by omega) e; omega
theorem plCl_vc {n m : Int} : ∀ c ∈ plCl n m, VC (nVars n m) c := by
  unfold plCl
  split
  · next hok =>
    obtain ⟨N, M, rfl, rfl, hN, hM⟩ := nOk_nat hok
    rw [Int.toNat_natCast]
    have r1 : ∀ q : Nat, q < N → ∀ i, i < N → nName N M 1 q i := fun q hq i hi => nName_1 hok (by omega) (by omega) (by omega) (by omega)
    intro c hc
    rcases List.mem_append.1 hc with hc | hc
    · unfold plU1 at hc
      obtain ⟨q, hq, hc⟩ := List.mem_flatMap.1 hc
      have hq := List.mem_range.1 hq
      rcases List.mem_cons.1 hc with rfl | hc
      · exact vc_row (fun i => (1, q, i)) N (by omega) (r1 q hq) fun i j _ _ e => by simp at e; omega
      · exact vc_ms (fun i => (1, q, i)) N (r1 q hq) (fun i j _ _ e => by simp at e; omega) c hc
    · unfold plU2 at hc
      obtain ⟨q, hq, hc⟩ := List.mem_flatMap.1 hc
      have hq := List.mem_range.1 hq
      exact vc_ms (fun i => (1, i, q)) N (fun i hi => r1 i hi q hq) (fun i j _ _ e => by simp at e; omega) c hc
  · intro c hc; cases hc
theorem stL_vc {n m init : Int} : ∀ c ∈ stL n m init, VC (nVars n m) c := by
  unfold stL
  split
  · next h =>
    obtain ⟨hok, h1, h2⟩ := h
    obtain ⟨N, M, rfl, rfl, hN, hM⟩ := nOk_nat hok
    rw [Int.toNat_natCast, Int.toNat_natCast]
    intro c hc
    rcases List.mem_cons.1 hc with rfl | hc
    · exact vc_one (x := (3, 0, init)) (nName_3 hok (by show (0 : Int) ≤ 0; omega) (by show (0 : Int) ≤ N; omega) h1 h2)
    · unfold stUp at hc
      obtain ⟨q, hq, hc⟩ := List.mem_flatMap.1 hc
      have hq := List.mem_range.1 hq
      have r3 : ∀ i, i < M → nName N M 3 q i := fun i hi => nName_3 hok (by omega) (by omega) (by omega) (by omega)
      unfold stP at hc
      rcases List.mem_cons.1 hc with rfl | hc
      · exact vc_row (fun i => (3, q, i)) M (by omega) r3 fun i j _ _ e => by simp at e; omega
      · exact vc_ms (fun i => (3, q, i)) M r3 (fun i j _ _ e => by simp at e; omega) c hc
  · intro c hc; cases hc
theorem tmL_vc {n m : Int} {us : List Int} {K : Nat} : ∀ c ∈ tmL n m us K, VC (nVars n m) c := by
  unfold tmL
  split
  · next hok =>
    obtain ⟨N, M, rfl, rfl, hN, hM⟩ := nOk_nat hok
    rw [Int.toNat_natCast]
    intro c hc
    unfold tmU at hc
    obtain ⟨p, hp, hc⟩ := List.mem_flatMap.1 hc
    unfold tmI at hc
    split at hc
    · next hg =>
      obtain ⟨⟨g1, g2⟩, ⟨g3, g4⟩, g5⟩ := hg
      unfold tmP at hc
      obtain ⟨x, hx, hc⟩ := List.mem_flatMap.1 hc
      unfold tmA at hc
      obtain ⟨y, hy, rfl⟩ := List.mem_map.1 hc
      have hx := List.mem_range.1 hx
      have hy := List.mem_range.1 hy
      unfold tmRow
      exact vc_two (x := (1, _, (x : Int))) (y := (1, _, (y : Int))) (nName_1 hok g1 g2 (by show (0 : Int) ≤ (x : Int); omega) (by show (x : Int) < N; omega)) (nName_1 hok g3 g4 (by show (0 : Int) ≤ (y : Int); omega) (by show (y : Int) < N; omega)) fun e => by simp at e; exact g5 e.1
    · cases hc
  · intro c hc; cases hc
theorem mRes_vc {o : Ob} {l : List Op5} : ∀ c ∈ mRes o l, VC (nVars (mN o l) (mS o l)) c := by
  unfold mRes
  split
  · next hok =>
    obtain ⟨hm, hln, hS1, hS2⟩ := m_nOk hok
    rw [(m_yes hm).1, (m_yes hm).2] at hok ⊢
    intro c hc
    obtain ⟨i, hi, hc⟩ := mCl_mem.1 hc
    have n2 : nName l.length o.S 2 i 0 := nName_2 hok (by omega) (by omega)
    unfold mI at hc
    rcases List.mem_append.1 hc with hc | hc
    · split at hc
      · cases hc
      · rw [List.mem_singleton.1 hc]
        exact vc_one (x := (2, i, 0)) n2
    · obtain ⟨p, hp, hc⟩ := mP_mem.1 hc
      obtain ⟨b, hb, hc⟩ := mB_mem.1 hc
      have hb : (b : Int) < o.S := by omega
      have n1 : nName l.length o.S 1 i p := nName_1 hok (by omega) (by omega) (by omega) (by omega)
      have n3 : ∀ (q : Nat) (x : Int), q ≤ l.length → 0 ≤ x → x < o.S → nName l.length o.S 3 q x := fun q x h1 h2 h3 => nName_3 hok (by omega) (by omega) h2 h3
      have hE := mvE_in hm.1 (oAt l i) b
      rcases mA_mem.1 hc with rfl | ⟨_, rfl⟩
      · unfold c1A
        split
        · next h0 =>
          have hx : mvE o (oAt l i) b < o.S := by rcases hE with ⟨_, _, h, _⟩ | ⟨_, h, _⟩ <;> omega
          exact vc_names [(false, 1, i, p), (false, 2, i, 0), (false, 3, p, b), (true, 3, (p + 1 : Nat), mvE o (oAt l i) b)] (by simp) (by
            intro z hz; simp only [List.mem_cons, List.not_mem_nil, or_false] at hz
            rcases hz with rfl | rfl | rfl | rfl
            · exact n1
            · exact n2
            · exact n3 p b (by omega) (by omega) hb
            · exact n3 (p + 1) _ (by omega) h0 hx) (by simp; omega)
        · exact vc_names [(false, 1, i, p), (false, 2, i, 0), (false, 3, p, b)] (by simp) (by
            intro z hz; simp only [List.mem_cons, List.not_mem_nil, or_false] at hz
            rcases hz with rfl | rfl | rfl
            · exact n1
            · exact n2
            · exact n3 p b (by omega) (by omega) hb) (by simp)
      · unfold c2A
        exact vc_names [(false, 1, i, p), (true, 2, i, 0), (false, 3, p, b), (true, 3, (p + 1 : Nat), b)] (by simp) (by
            intro z hz; simp only [List.mem_cons, List.not_mem_nil, or_false] at hz
            rcases hz with rfl | rfl | rfl | rfl
            · exact n1
            · exact n2
            · exact n3 p b (by omega) (by omega) hb
            · exact n3 (p + 1) b (by omega) (by omega) hb) (by simp; omega)
  · intro c hc; cases hc
end Go.Proofs.YtcjnikkmjhagmaaGreatDoor
