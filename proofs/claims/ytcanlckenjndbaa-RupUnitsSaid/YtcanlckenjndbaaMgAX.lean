import Derived.Test.YtcanlckenjndbaaMgAW
import Derived.Test.YtcanlckenjndbaaMgAQ
namespace Go.Proofs.Ytcanlckenjndbaa
open Go.RowKit
set_option linter.unusedVariables false
set_option linter.unusedSimpArgs false
theorem PF_of_ownO {P : Program} {f : FuncId} {args : List AV} {xs : List Int} (hc : Callable P f) (h : ∀ G w vs, Inv G [] w → RL 0 G args vs → Calls P f vs.toArray w fun e w' => ∃ v, e = .returned v ∧ OwnInts w' w.heap.size v xs ∧ Below w.heap.size w w') : PF P f args fun r H' => r = .osl 0 0 xs.length 1 ∧ H' = [some ⟨3, xs.map lint⟩] :=
  ⟨hc, fun G w vs hi hr => (h G w vs hi hr).mono fun e w' ⟨v, h1, h2, h3⟩ => by
    have nod : ∀ o, ¬ G.dom o := fun o ho => by have := hi.dom o ho; simp at this
    have old : ∀ {b : Nat} {x : Obj}, w.heap[b]? = some x → w'.heap[b]? = some x := fun {b x} e => (h3.block b (lt_of_heap e)).trans e
    obtain ⟨k1, k2⟩ := h2
    rcases k2 with ⟨hv, hn⟩ | ⟨g, cap, cur, hv, hg, hh, hn, hm, hs, hx⟩
    · have hnil : xs = [] := List.length_eq_zero_iff.1 hn
      subst hnil
      refine ⟨v, _, { G with dom := fun o => o = 0, mu := fun _ => (0, 0), sz := fun _ => 0 }, _, h1, ⟨fun o ho => absurd ho (nod o), fun o ho => absurd ho (nod o), fun o ho => absurd ho (nod o), fun o ho => absurd ho (Nat.not_lt_zero o), fun _ _ e => e, fun _ _ e => e, fun b x y _ e => ⟨y, e⟩, rfl, rfl, rfl⟩, Nat.zero_le _, ⟨h3.os.trans hi.os, h3.tape.trans hi.tape, h3.output.trans hi.output, fun b x e => old (hi.fz b x e), fun b x e => old (hi.kp b x e), fun o ho => ?_, fun o x e => ?_, fun o x e => ?_, fun o o' x x' e e' hne z => absurd rfl z⟩, ?_, rfl, rfl⟩
      · have : o = 0 := ho
        subst this; simp
      · rcases o with _ | o
        · rfl
        · simp at e
      · rcases o with _ | o
        · simp at e; subst e; exact .inl ⟨rfl, rfl⟩
        · simp at e
      · rw [hv]; exact .onil 0 0 1 rfl
    · have hxl : (xs.map lint).length = xs.length := by simp
      have hcs : cur.size = cap := by rw [hs, Nat.mul_one]
      refine ⟨v, _, { G with dom := fun o => o = 0, mu := fun _ => (g, 0), sz := fun _ => cap }, _, h1, ⟨fun o ho => absurd ho (nod o), fun o ho => absurd ho (nod o), fun o ho => absurd ho (nod o), fun o ho => absurd ho (Nat.not_lt_zero o), fun _ _ e => e, fun _ _ e => e, fun b x y _ e => ⟨y, e⟩, rfl, rfl, rfl⟩, Nat.zero_le _, ⟨h3.os.trans hi.os, h3.tape.trans hi.tape, h3.output.trans hi.output, fun b x e => old (hi.fz b x e), fun b x e => old (hi.kp b x e), fun o ho => ?_, fun o x e => ?_, fun o x e => ?_, fun o o' x x' e e' hne z => ?_⟩, ?_, rfl, rfl⟩
      · have : o = 0 := ho
        subst this; simp
      · rcases o with _ | o
        · rfl
        · simp at e
      · rcases o with _ | o
        · simp at e; subst e
          by_cases hc0 : cap = 0
          · have hx0 : xs = [] := List.eq_nil_of_length_eq_zero (by omega : xs.length = 0)
            subst hx0
            exact .inl ⟨rfl, hc0⟩
          · refine .inr ⟨hc0, cur, hh, hcs, ⟨?_, fun i y u e1 e2 => ?_⟩, ?_, ?_, ?_⟩
            · show (xs.map lint).length = ((cur.toList.drop 0).take (xs.map lint).length).length
              simp; omega
            · have e2' : ((cur.toList.drop 0).take (xs.map lint).length)[i]? = some u := e2
              have e1' : (xs.map lint)[i]? = some y := e1
              rw [List.drop_zero, hxl, ← Nat.mul_one xs.length, hx, List.getElem?_map] at e2'
              rw [List.getElem?_map] at e1'
              obtain ⟨z, hz, rfl⟩ := Option.map_eq_some_iff.1 e1'
              rw [hz] at e2'
              simp at e2'; subst e2'
              exact .iv _ _ (.lit _)
            · show (xs.map lint).all AV.one = true
              rw [List.all_eq_true]; intro y hy; obtain ⟨z, _, rfl⟩ := List.mem_map.1 hy; rfl
            · show G.fz g = none
              cases hc : G.fz g with
              | none => rfl
              | some y => have := lt_of_heap (hi.fz g y hc); omega
            · show G.kp g = none
              cases hc : G.kp g with
              | none => rfl
              | some y => have := lt_of_heap (hi.kp g y hc); omega
        · simp at e
      · rcases o with _ | o
        · rcases o' with _ | o'
          · exact absurd rfl hne
          · simp at e'
        · simp at e
      · rw [hv]
        exact .osl 0 0 xs.length 1 g 0 cap rfl rfl (fun _ => rfl) hn hm (fun _ => by show 0 + cap * 1 ≤ cap; omega)⟩
theorem pf_CloneO (xs : List Int) (hl : xs.length ≤ 1000000) : PF Try.prog 63 [.iv (iInts xs)] fun r H' => r = .osl 0 0 xs.length 1 ∧ H' = [some ⟨3, xs.map lint⟩] :=
  PF_of_ownO ⟨_, Try.func63, by kernel_rfl, rfl⟩ fun G w vs hi hr => by
    obtain ⟨v1, us, rfl, h1, hr⟩ := hr.uncons
    rw [hr.unnil]
    cases h1 with
    | iv _ _ h1 =>
      obtain ⟨b, cb, rfl, _, _, h4⟩ := ints_row hi.fz (by unfold maxLen; omega) h1
      exact sl_Clone b _ cb xs w h4 (by omega)
end Go.Proofs.Ytcanlckenjndbaa
namespace Go.Proofs.Ytcanlckenjndbaa
set_option linter.unusedVariables false
inductive Dv (cs : List (List Int)) (l0 : List Int) : List Nat → List Int → Prop
  | nil : Dv cs l0 [] l0
  | snoc {is : List Nat} {L : List Int} {i : Nat} : Dv cs l0 is L → i < cs.length → aCl L (cs.getD i []) ≠ -1 → aUnitOk L (cs.getD i []) = true → Dv cs l0 (is ++ [i]) (L ++ [aUnit L (cs.getD i [])])
variable {cs : List (List Int)} {l0 L : List Int} {is : List Nat}
theorem Dv.len (h : Dv cs l0 is L) : L.length = l0.length + is.length := by
  induction h with
  | nil => simp
  | snoc _ _ _ _ ih => simp; omega
theorem Dv.rng (h : Dv cs l0 is L) : ∀ i ∈ is, i < cs.length := by
  induction h with
  | nil => simp
  | snoc _ hi _ _ ih =>
    intro j hj
    rcases List.mem_append.1 hj with h1 | h1
    · exact ih j h1
    · rw [List.mem_singleton] at h1; omega
theorem Dv.chn (h : Dv cs l0 is L) : ∀ rest n, chn l0 (is.map (fun i => cs.getD i []) ++ rest) n = chn L rest (n + is.length) := by
  induction h with
  | nil => intro rest n; simp
  | @snoc is L i _ hi h1 h2 ih =>
    intro rest n
    rw [List.map_append, List.append_assoc, ih]
    show Go.Proofs.Ytcanlckenjndbaa.chn L (cs.getD i [] :: rest) _ = _
    rw [Go.Proofs.Ytcanlckenjndbaa.chn, if_neg h1, if_pos h2, List.length_append, List.length_singleton, Nat.add_assoc]
theorem Dv.sub (h : Dv cs l0 is L) : ∀ x ∈ l0, x ∈ L := by
  induction h with
  | nil => exact fun _ h => h
  | snoc _ _ _ _ ih => exact fun x hx => List.mem_append.2 (.inl (ih x hx))
def Con (L : List Int) : Prop := ∀ x, x ∈ L → lvar x ≠ 0 ∧ -x ∉ L
theorem aUnit_open {L c : List Int} (h : aUnitOk L c = true) : aUnit L c ∈ c ∧ aUnit L c ∉ L ∧ -(aUnit L c) ∉ L ∧ lvar (aUnit L c) ≠ 0 := by
  obtain ⟨u, _, h1, h2, h3, h4⟩ := aUnit_is h
  rw [h1]
  unfold aVal at h4
  rw [if_neg h3] at h4
  refine ⟨h2, fun hm => ?_, fun hm => ?_, h3⟩
  · rw [if_pos ((lhas_mem _ _).2 hm)] at h4; omega
  · by_cases e : lhas L u = true
    · rw [if_pos e] at h4; omega
    · rw [if_neg e, if_pos ((lhas_mem _ _).2 hm)] at h4; omega
theorem Dv.con (h : Dv cs l0 is L) (h0 : Con l0) : Con L := by
  induction h with
  | nil => exact h0
  | @snoc is L i _ hi h1 h2 ih =>
    obtain ⟨k1, k2, k3, k4⟩ := aUnit_open h2
    have hr := lvar_range k4
    generalize aUnit L (cs.getD i []) = u at *
    intro x hx
    rcases List.mem_append.1 hx with h | h
    · refine ⟨(ih x h).1, fun hm => ?_⟩
      rcases List.mem_append.1 hm with h' | h'
      · exact (ih x h).2 h'
      · rw [List.mem_singleton] at h'
        apply k3; rw [← h', Int.neg_neg]; exact h
    · rw [List.mem_singleton] at h; subst h
      refine ⟨k4, fun hm => ?_⟩
      rcases List.mem_append.1 hm with h' | h'
      · exact k3 h'
      · rw [List.mem_singleton] at h'; omega
def mOut (cs : List (List Int)) (L : List Int) : Nat := (cs.flatten.filter fun x => !lhas L x).length
theorem filter_lt {xs : List Int} {p q : Int → Bool} (h : ∀ x, q x = true → p x = true) {z : Int} (hz : z ∈ xs) (h1 : p z = true) (h2 : q z = false) : (xs.filter q).length < (xs.filter p).length := by
  induction xs with
  | nil => cases hz
  | cons x xs ih =>
    have hle : ∀ l : List Int, (l.filter q).length ≤ (l.filter p).length := fun l => by
      induction l with
      | nil => simp
      | cons y l ih2 =>
        rw [List.filter_cons, List.filter_cons]
        by_cases e : q y = true
        · rw [if_pos e, if_pos (h y e)]; simp; exact ih2
        · rw [if_neg e]; split
          · simp; omega
          · exact ih2
    rw [List.filter_cons, List.filter_cons]
    rcases List.mem_cons.1 hz with e | e
    · subst e
      rw [if_pos h1, if_neg (by rw [h2]; decide)]
      have := hle xs
      simp; omega
    · have := ih e
      by_cases e2 : q x = true
      · rw [if_pos e2, if_pos (h x e2)]; simp; exact this
      · rw [if_neg e2]; split
        · simp; omega
        · exact this
theorem mOut_lt {L : List Int} {i : Nat} (hi : i < cs.length) (h : aUnitOk L (cs.getD i []) = true) : mOut cs (L ++ [aUnit L (cs.getD i [])]) < mOut cs L := by
  obtain ⟨k1, k2, _, _⟩ := aUnit_open h
  have hm : cs.getD i [] ∈ cs := by simp [List.getD, hi]
  refine filter_lt (z := aUnit L (cs.getD i [])) (fun x hx => ?_) (List.mem_flatten.2 ⟨_, hm, k1⟩) ?_ ?_
  · rw [lhas_snoc] at hx
    cases e : lhas L x
    · rfl
    · rw [e] at hx; simp at hx
  · have : lhas L (aUnit L (cs.getD i [])) = false := by
      cases e : lhas L (aUnit L (cs.getD i []))
      · rfl
      · exact absurd ((lhas_mem _ _).1 e) k2
    rw [this]; rfl
  · rw [lhas_snoc]; simp
def Shut (cs : List (List Int)) (L : List Int) : Prop := ∀ i, i < cs.length → aCl L (cs.getD i []) ≠ -1 ∧ aUnitOk L (cs.getD i []) = false
def HintP (cs : List (List Int)) (c : List Int) (hs : List Nat) (ok : Bool) : Prop :=
  if stE c ≠ 0 then ok = false ∧ hs = [] else if ok = true then ∃ is L i, hs = is ++ [i] ∧ Dv cs (stR c) is L ∧ i < cs.length ∧ aCl L (cs.getD i []) = -1 else hs = [] ∧ ∃ is L, Dv cs (stR c) is L ∧ Shut cs L
def fdx (p : Nat → Bool) : Nat → Nat
  | 0 => 0
  | n + 1 => if fdx p n < n then fdx p n else if p n = true then n else n + 1
theorem fdx_le (p : Nat → Bool) : ∀ n, fdx p n ≤ n
  | 0 => Nat.le_refl _
  | n + 1 => by have := fdx_le p n; unfold fdx; split <;> (try split) <;> omega
theorem fdx_all {p : Nat → Bool} : ∀ {n : Nat}, (∀ j, j < n → p j = false) → fdx p n = n
  | 0, _ => rfl
  | n + 1, h => by
    have := fdx_all (p := p) (n := n) fun j hj => h j (by omega)
    unfold fdx; rw [this, if_neg (by omega), h n (by omega), if_neg (by decide)]
theorem fdx_at {p : Nat → Bool} {k : Nat} (h : ∀ j, j < k → p j = false) (hk : p k = true) : ∀ {n : Nat}, k < n → fdx p n = k
  | 0, hn => absurd hn (Nat.not_lt_zero _)
  | n + 1, hn => by
    unfold fdx
    rcases Nat.lt_or_ge k n with h1 | h1
    · have := fdx_at h hk h1; rw [this, if_pos h1]
    · obtain rfl : k = n := by omega
      rw [fdx_all h, if_neg (by omega), if_pos hk]
theorem fdx_spec {p : Nat → Bool} : ∀ {n : Nat}, (∀ j, j < fdx p n → p j = false) ∧ (fdx p n < n → p (fdx p n) = true)
  | 0 => ⟨fun j h => absurd h (Nat.not_lt_zero _), fun h => absurd h (Nat.not_lt_zero _)⟩
  | n + 1 => by
    obtain ⟨h1, h2⟩ := fdx_spec (p := p) (n := n)
    have hle := fdx_le p n
    unfold fdx
    by_cases h3 : fdx p n < n
    · rw [if_pos h3]; exact ⟨h1, fun _ => h2 h3⟩
    · rw [if_neg h3]
      have e : fdx p n = n := by omega
      rw [e] at h1
      by_cases h4 : p n = true
      · rw [if_pos h4]; exact ⟨h1, fun _ => h4⟩
      · rw [if_neg h4]
        refine ⟨fun j hj => ?_, fun h => absurd h (Nat.lt_irrefl _)⟩
        rcases Nat.lt_or_ge j n with h5 | h5
        · exact h1 j h5
        · rw [show j = n by omega]; cases h6 : p n
          · rfl
          · exact absurd h6 h4
def fail1 (cs : List (List Int)) (L : List Int) : Nat := fdx (fun i => aCl L (cs.getD i []) == -1) cs.length
def unit1 (cs : List (List Int)) (L : List Int) : Nat := fdx (fun i => aUnitOk L (cs.getD i [])) cs.length
inductive Dc (cs : List (List Int)) (l0 : List Int) : List Nat → List Int → Prop
  | nil : Dc cs l0 [] l0
  | snoc {is : List Nat} {L : List Int} : Dc cs l0 is L → fail1 cs L = cs.length → unit1 cs L < cs.length → Dc cs l0 (is ++ [unit1 cs L]) (L ++ [aUnit L (cs.getD (unit1 cs L) [])])
theorem fail1_no (h : fail1 cs L = cs.length) {i : Nat} (hi : i < cs.length) : aCl L (cs.getD i []) ≠ -1 := by
  have := (fdx_spec (p := fun i => aCl L (cs.getD i []) == -1) (n := cs.length)).1 i (by show i < fail1 cs L; omega)
  simpa using this
theorem fail1_yes (h : fail1 cs L < cs.length) : aCl L (cs.getD (fail1 cs L) []) = -1 := by
  have := (fdx_spec (p := fun i => aCl L (cs.getD i []) == -1) (n := cs.length)).2 h
  simpa [fail1] using this
theorem unit1_no (h : unit1 cs L = cs.length) {i : Nat} (hi : i < cs.length) : aUnitOk L (cs.getD i []) = false :=
  (fdx_spec (p := fun i => aUnitOk L (cs.getD i [])) (n := cs.length)).1 i (by show i < unit1 cs L; omega)
theorem unit1_yes (h : unit1 cs L < cs.length) : aUnitOk L (cs.getD (unit1 cs L) []) = true :=
  (fdx_spec (p := fun i => aUnitOk L (cs.getD i [])) (n := cs.length)).2 h
theorem Dc.dv (h : Dc cs l0 is L) : Dv cs l0 is L := by
  induction h with
  | nil => exact .nil
  | snoc _ h1 h2 ih => exact ih.snoc h2 (fail1_no h1 h2) (unit1_yes h2)
theorem shut_of (h1 : fail1 cs L = cs.length) (h2 : unit1 cs L = cs.length) : Shut cs L := fun i hi => ⟨fail1_no h1 hi, unit1_no h2 hi⟩
end Go.Proofs.Ytcanlckenjndbaa
namespace Go.Proofs.Ytcanlckenjndbaa
set_option linter.unusedVariables false
variable {cs : List (List Int)} {l0 l1 L L1 L2 : List Int} {is is1 is2 : List Nat}
theorem aVal_neg1 {L : List Int} {x : Int} (hv : lvar x ≠ 0) : aVal L x = -1 ↔ x ∉ L ∧ -x ∈ L := by
  unfold aVal
  rw [if_neg hv]
  by_cases h1 : lhas L x = true
  · rw [if_pos h1]
    have := (lhas_mem _ _).1 h1
    constructor
    · intro h; omega
    · intro h; exact absurd this h.1
  · rw [if_neg h1]
    have h1' : x ∉ L := fun h => h1 ((lhas_mem _ _).2 h)
    by_cases h2 : lhas L (-x) = true
    · rw [if_pos h2]; exact ⟨fun _ => ⟨h1', (lhas_mem _ _).1 h2⟩, fun _ => rfl⟩
    · rw [if_neg h2]
      constructor
      · intro h; omega
      · intro h; exact absurd ((lhas_mem _ _).2 h.2) h2
theorem val_mono (hs : ∀ x ∈ L2, x ∈ L1) (hc : Con L1) {x : Int} (hv : lvar x ≠ 0) (h : aVal L2 x = -1) : aVal L1 x = -1 := by
  rw [aVal_neg1 hv] at h ⊢
  have h2 := hs _ h.2
  refine ⟨fun hx => ?_, h2⟩
  exact (hc x hx).2 h2
theorem aCl_all {l c : List Int} : aCl l c = -1 ↔ ∀ x ∈ c, lvar x ≠ 0 → aVal l x = -1 := by
  rw [(aCl_iff l c).2]
  constructor
  · rintro ⟨h1, h2⟩ x hx hv
    rcases aVal_in l x with h | h | h
    · have := (aN_pos l c 1).2 ⟨x, hx, (aIs_iff _ _ _).2 ⟨hv, h⟩⟩; omega
    · exact h
    · have := (aN_pos l c 0).2 ⟨x, hx, (aIs_iff _ _ _).2 ⟨hv, h⟩⟩; omega
  · intro h
    constructor
    · rcases Nat.eq_zero_or_pos (aN l c 1) with h1 | h1
      · exact h1
      · obtain ⟨x, hx, h2⟩ := (aN_pos l c 1).1 h1
        rw [aIs_iff] at h2
        have := h x hx h2.1; omega
    · rcases Nat.eq_zero_or_pos (aN l c 0) with h1 | h1
      · exact h1
      · obtain ⟨x, hx, h2⟩ := (aN_pos l c 0).1 h1
        rw [aIs_iff] at h2
        have := h x hx h2.1; omega
theorem fail_mono (hs : ∀ x ∈ L2, x ∈ L1) (hc : Con L1) {c : List Int} (h : aCl L2 c = -1) : aCl L1 c = -1 := by
  rw [aCl_all] at h ⊢
  exact fun x hx hv => val_mono hs hc hv (h x hx hv)
theorem unit_shut (hs : ∀ x ∈ L2, x ∈ L1) (hc : Con L1) {c : List Int} (hu : aUnitOk L2 c = true) (h1 : aCl L1 c ≠ -1) (h2 : aUnitOk L1 c = false) : aUnit L2 c ∈ L1 := by
  obtain ⟨k1, k2, k3, k4⟩ := aUnit_open hu
  have hu2 : aN L2 c 1 = 0 ∧ aN L2 c 0 = 1 := by unfold aUnitOk at hu; exact of_decide_eq_true hu
  have hoth : ∀ x ∈ c, lvar x ≠ 0 → x = aUnit L2 c ∨ aVal L2 x = -1 := fun x hx hv => by
    rcases aVal_in L2 x with h | h | h
    · have := (aN_pos L2 c 1).2 ⟨x, hx, (aIs_iff _ _ _).2 ⟨hv, h⟩⟩; omega
    · exact .inr h
    · exact .inl (aUnit_at hu hx hv h).symm
  have hopen : aVal L2 (aUnit L2 c) = 0 := by
    obtain ⟨u, _, e1, _, _, e2⟩ := aUnit_is hu
    rw [e1]; exact e2
  generalize aUnit L2 c = u at *
  rcases aVal_in L1 u with h | h | h
  · unfold aVal at h
    rw [if_neg k4] at h
    by_cases e : lhas L1 u = true
    · exact (lhas_mem _ _).1 e
    · rw [if_neg e] at h; split at h <;> omega
  · exfalso
    apply h1
    rw [aCl_all]
    intro x hx hv
    rcases hoth x hx hv with e | e
    · rw [e]; exact h
    · exact val_mono hs hc hv e
  · exfalso
    have e0 : c.filter (aIs L1 0) = c.filter (aIs L2 0) := List.filter_congr fun x hx => by
      rw [Bool.eq_iff_iff, aIs_iff, aIs_iff]
      constructor
      · rintro ⟨hv, h3⟩
        refine ⟨hv, ?_⟩
        rcases hoth x hx hv with e | e
        · rw [e]; exact hopen
        · have := val_mono hs hc hv e; omega
      · rintro ⟨hv, h3⟩
        refine ⟨hv, ?_⟩
        rcases hoth x hx hv with e | e
        · rw [e]; exact h
        · omega
    have e1 : aN L1 c 1 = 0 := by
      rcases Nat.eq_zero_or_pos (aN L1 c 1) with h3 | h3
      · exact h3
      · obtain ⟨x, hx, h4⟩ := (aN_pos L1 c 1).1 h3
        rw [aIs_iff] at h4
        rcases hoth x hx h4.1 with e | e
        · rw [e] at h4; omega
        · have := val_mono hs hc h4.1 e; omega
    have e2 : aN L1 c 0 = 1 := by unfold aN at hu2 ⊢; rw [e0]; exact hu2.2
    have : aUnitOk L1 c = true := by unfold aUnitOk; exact decide_eq_true ⟨e1, e2⟩
    rw [h2] at this; cases this
theorem Dv.within (h : Dv cs l1 is2 L2) (h0 : ∀ x ∈ l1, x ∈ L1) (hc : Con L1) (hS : Shut cs L1) : ∀ x ∈ L2, x ∈ L1 := by
  induction h with
  | nil => exact h0
  | @snoc is L i _ hi h1 h2 ih =>
    intro x hx
    rcases List.mem_append.1 hx with h3 | h3
    · exact ih x h3
    · rw [List.mem_singleton] at h3
      rw [h3]
      exact unit_shut ih hc h2 (hS i hi).1 (hS i hi).2
theorem Dv.agree (h1 : Dv cs l0 is1 L1) (hc : Con l0) (hS : Shut cs L1) (hl : ∀ x ∈ l1, x ∈ l0) (h2 : Dv cs l1 is2 L2) {k : Nat} (hk : k < cs.length) : aCl L2 (cs.getD k []) ≠ -1 := fun h => by
  have hw := h2.within (fun x hx => h1.sub x (hl x hx)) (h1.con hc) hS
  exact (hS k hk).1 (fail_mono hw (h1.con hc) h)
def opp (c : List Int) : List Int := (c.filter fun x => decide (lvar x ≠ 0)).map fun x => -x
theorem st_con {c : List Int} (h : stE c = 0) : Con (stR c) := by
  rcases stE_cases c with ⟨_, e⟩ | ⟨_, _, e⟩ | ⟨e1, e2, _⟩
  · rw [h] at e; exact absurd e (by decide)
  · rw [h] at e; exact absurd e (by decide)
  · intro x hx
    unfold stR at hx ⊢
    rw [if_pos h] at hx ⊢
    rw [stOut_mem (Nat.le_refl _), List.take_length] at hx ⊢
    have hv := stAny_no e1 hx
    rw [Int.neg_neg]
    refine ⟨by rw [← lvar_neg]; exact hv, fun hm => ?_⟩
    have : cTaut c = true := (taut_iff c).2 ⟨x, by rw [← lvar_neg]; exact hv, hm, hx⟩
    rw [e2] at this; cases this
theorem st_opp {c : List Int} (h : stE c = 0) (x : Int) : x ∈ stR c ↔ x ∈ opp c := by
  rcases stE_cases c with ⟨_, e⟩ | ⟨_, _, e⟩ | ⟨e1, e2, _⟩
  · rw [h] at e; exact absurd e (by decide)
  · rw [h] at e; exact absurd e (by decide)
  · unfold stR opp
    rw [if_pos h, stOut_mem (Nat.le_refl _), List.take_length, List.mem_map]
    constructor
    · intro hx
      exact ⟨-x, List.mem_filter.2 ⟨hx, decide_eq_true (stAny_no e1 hx)⟩, Int.neg_neg x⟩
    · rintro ⟨y, hy, rfl⟩
      rw [Int.neg_neg]; exact (List.mem_filter.1 hy).1
theorem opp_con {c : List Int} (h : stE c = 0) : Con (opp c) := fun x hx => by
  have h1 := st_con h x ((st_opp h x).2 hx)
  exact ⟨h1.1, fun hm => h1.2 ((st_opp h _).2 hm)⟩
theorem opp_len (c : List Int) : (opp c).length ≤ c.length := by unfold opp; rw [List.length_map]; exact List.length_filter_le _ _
def RefuP (cs : List (List Int)) (c : List Int) (b : Bool) : Prop := if b = true then ∃ is L k, Dv cs (opp c) is L ∧ k < cs.length ∧ aCl L (cs.getD k []) = -1 else ∃ is L, Dv cs (opp c) is L ∧ Shut cs L
theorem hint_refu {c : List Int} {hs : List Nat} {ok b : Bool} (h0 : stE c = 0) (h1 : HintP cs c hs ok) (h2 : RefuP cs c b) : ok = b := by
  unfold HintP at h1
  rw [if_neg (by rw [h0]; decide)] at h1
  unfold RefuP at h2
  cases ok <;> cases b
  · rfl
  · rw [if_neg (by decide)] at h1; rw [if_pos rfl] at h2
    obtain ⟨_, is, L, a1, a2⟩ := h1
    obtain ⟨is2, L2, k, b1, b2, b3⟩ := h2
    exact absurd b3 (a1.agree (st_con h0) a2 (fun x hx => (st_opp h0 x).2 hx) b1 b2)
  · rw [if_pos rfl] at h1; rw [if_neg (by decide)] at h2
    obtain ⟨is, L, i, _, a1, a2, a3⟩ := h1
    obtain ⟨is2, L2, b1, b2⟩ := h2
    exact absurd a3 (b1.agree (opp_con h0) b2 (fun x hx => (st_opp h0 x).1 hx) a1 a2)
  · rfl
theorem hint_show {c : List Int} {hs : List Nat} (h1 : HintP cs c hs true) : stE c = 0 ∧ shE8 c (hs.map fun i => cs.getD i []) = 0 ∧ shN8 c (hs.map fun i => cs.getD i []) = hs.length ∧ ∀ i ∈ hs, i < cs.length := by
  unfold HintP at h1
  by_cases h0 : stE c = 0
  · rw [if_neg (by rw [h0]; decide), if_pos rfl] at h1
    obtain ⟨is, L, i, rfl, a1, a2, a3⟩ := h1
    have hch : chn (stR c) ((is ++ [i]).map fun i => cs.getD i []) 0 = (L, is.length + 1, 0) := by
      rw [List.map_append, a1.chn]
      show chn L [cs.getD i []] _ = _
      rw [chn, if_pos a3, Nat.zero_add]
    refine ⟨h0, ?_, ?_, fun j hj => ?_⟩
    · unfold shE8; rw [if_pos h0, hch]
    · unfold shN8; rw [if_pos h0, hch, List.length_append]; rfl
    · rcases List.mem_append.1 hj with h | h
      · exact a1.rng j h
      · rw [List.mem_singleton] at h; omega
  · rw [if_pos h0] at h1
    exact absurd h1.1 (by decide)
theorem Dv.cnt (h : Dv cs l0 is L) : is.length + mOut cs L ≤ mOut cs l0 := by
  induction h with
  | nil => simp
  | snoc _ hi _ h2 ih =>
    have := mOut_lt hi h2
    rw [List.length_append, List.length_singleton]; omega
theorem hint_len {c : List Int} {hs : List Nat} {ok : Bool} (h1 : HintP cs c hs ok) : hs.length ≤ cs.flatten.length + 1 := by
  unfold HintP at h1
  split at h1
  · rw [h1.2]; exact Nat.zero_le _
  · split at h1
    · obtain ⟨is, L, i, rfl, a1, _, _⟩ := h1
      have := a1.cnt
      have h2 : mOut cs (stR c) ≤ cs.flatten.length := List.length_filter_le _ _
      rw [List.length_append, List.length_singleton]; omega
    · rw [h1.1]; exact Nat.zero_le _
theorem hint_none {c : List Int} {hs : List Nat} (h1 : HintP cs c hs false) : hs = [] := by
  unfold HintP at h1
  by_cases h0 : stE c = 0
  · rw [if_neg (by rw [h0]; decide), if_neg (by decide)] at h1; exact h1.1
  · rw [if_pos h0] at h1; exact h1.2
theorem hint_e {c : List Int} {hs : List Nat} {ok : Bool} (h : stE c ≠ 0) (h1 : HintP cs c hs ok) : ok = false := by
  unfold HintP at h1; rw [if_pos h] at h1; exact h1.1
end Go.Proofs.Ytcanlckenjndbaa
