import Derived.Test.YtcjnikkmjhagmaaGreatDoorMgAM
import Derived.Test.YtcjnikkmjhagmaaGreatDoorRows
import Derived.WalkKit
import Derived.WalkSpells
import Derived.WalkLawsBesides
import Derived.BigGuardPart
import Derived.Handy
import Derived.Deep.QuietTactic
import Derived.BigQuiet
import Derived.Deep.RegionHeld3
import Derived.Lib.Hide
import Derived.Test.YtcjnikkmjhagmaaGreatDoorMgAA
namespace Go.Proofs.YtcjnikkmjhagmaaGreatDoor
set_option linter.unusedVariables false
def fb (err : Nat → Int) : Nat → Nat
  | 0 => 0
  | n + 1 => if fb err n < n then fb err n else if err n ≠ 0 then n else n + 1
theorem fb_le (err : Nat → Int) : ∀ n, fb err n ≤ n
  | 0 => Nat.le_refl _
  | n + 1 => by
    have := fb_le err n
    unfold fb
    split
    · omega
    · split <;> omega
theorem fb_all {err : Nat → Int} : ∀ {n : Nat}, (∀ j, j < n → err j = 0) → fb err n = n
  | 0, _ => rfl
  | n + 1, h => by
    have ih := fb_all (n := n) fun j hj => h j (by omega)
    unfold fb
    rw [ih, if_neg (by omega), if_neg (by rw [h n (by omega)]; simp)]
theorem fb_at {err : Nat → Int} {i : Nat} (h : ∀ j, j < i → err j = 0) (hi : err i ≠ 0) : ∀ {n : Nat}, i < n → fb err n = i
  | 0, hn => by omega
  | n + 1, hn => by
    unfold fb
    rcases Nat.lt_or_ge i n with h1 | h1
    · rw [fb_at h hi h1, if_pos h1]
    · obtain rfl : i = n := by omega
      rw [fb_all h, if_neg (by omega), if_pos hi]
theorem fb_before {err : Nat → Int} : ∀ {n j : Nat}, j < fb err n → err j = 0
  | 0, j, h => by unfold fb at h; omega
  | n + 1, j, h => by
    unfold fb at h
    split at h
    · exact fb_before h
    · rename_i h1
      have h2 := fb_le err n
      have h3 : fb err n = n := by omega
      split at h
      · exact fb_before (n := n) (by omega)
      · rename_i h4
        rcases Nat.lt_or_ge j n with h5 | h5
        · exact fb_before (n := n) (by omega)
        · obtain rfl : j = n := by omega
          simpa using h4
theorem fb_bad {err : Nat → Int} : ∀ {n : Nat}, fb err n < n → err (fb err n) ≠ 0
  | 0, h => by omega
  | n + 1, h => by
    by_cases h1 : fb err n < n
    · have e : fb err (n + 1) = fb err n := by rw [fb, if_pos h1]
      rw [e]; exact fb_bad h1
    · by_cases h2 : err n ≠ 0
      · have e : fb err (n + 1) = n := by rw [fb, if_neg h1, if_pos h2]
        rw [e]; exact h2
      · have e : fb err (n + 1) = n + 1 := by rw [fb, if_neg h1, if_neg h2]
        rw [e] at h; omega
theorem fb_eq {err : Nat → Int} {n : Nat} : fb err n = n ↔ ∀ j, j < n → err j = 0 := ⟨fun h j hj => fb_before (n := n) (by omega), fb_all⟩
structure Rw where
  s : Int
  k : Int
  n : Int
  r : Int
def rwAt (xs : List Rw) (i : Nat) : Rw := xs.getD i ⟨0, 0, 0, 0⟩
structure Ob where
  S : Int
  K : Int
  I : Int
  R : List Rw
def obHead (o : Ob) : Prop := 1 ≤ o.S ∧ o.S ≤ 32 ∧ 1 ≤ o.K ∧ o.K ≤ 64 ∧ 0 ≤ o.I ∧ o.I < o.S
instance (o : Ob) : Decidable (obHead o) := by unfold obHead; infer_instance
def rises (a b : Rw) : Prop := a.s < b.s ∨ (a.s = b.s ∧ a.k < b.k)
instance (a b : Rw) : Decidable (rises a b) := by unfold rises; infer_instance
def obErr (o : Ob) (i : Nat) : Int :=
  if ¬ (0 ≤ (rwAt o.R i).s ∧ (rwAt o.R i).s < o.S) ∨ ¬ (0 ≤ (rwAt o.R i).n ∧ (rwAt o.R i).n < o.S) then 30 else if ¬ (0 ≤ (rwAt o.R i).k ∧ (rwAt o.R i).k < o.K) then 31 else if ¬ (0 ≤ (rwAt o.R i).r ∧ (rwAt o.R i).r ≤ 1000000) then 7 else if 0 < i ∧ ¬ rises (rwAt o.R (i - 1)) (rwAt o.R i) then 32 else 0
def obBad (o : Ob) : Nat := fb (obErr o) o.R.length
def obAt (o : Ob) : Int := if obHead o then (obBad o : Int) else -1
def obE (o : Ob) : Int := if obHead o then (if obBad o < o.R.length then obErr o (obBad o) else 0) else 2
theorem obE_zero {o : Ob} : obE o = 0 ↔ obHead o ∧ ∀ i, i < o.R.length → obErr o i = 0 := by
  unfold obE obBad
  by_cases h : obHead o
  · rw [if_pos h]
    have h1 := fb_le (obErr o) o.R.length
    by_cases h2 : fb (obErr o) o.R.length < o.R.length
    · rw [if_pos h2]
      exact ⟨fun h3 => absurd h3 (fb_bad h2), fun h3 => h3.2 _ h2⟩
    · rw [if_neg h2]
      exact ⟨fun _ => ⟨h, fb_eq.1 (by omega)⟩, fun _ => rfl⟩
  · rw [if_neg h]
    exact ⟨fun h2 => by omega, fun h2 => absurd h2.1 h⟩
def mvAt (o : Ob) (st kd : Int) (i : Nat) : Bool := decide ((rwAt o.R i).s = st ∧ (rwAt o.R i).k = kd)
def mvErr (o : Ob) (st kd : Int) (i : Nat) : Int := if mvAt o st kd i = true then 1 else 0
def mvI (o : Ob) (st kd : Int) : Nat := fb (mvErr o st kd) o.R.length
def mvOk (o : Ob) (st kd : Int) : Bool := decide (mvI o st kd < o.R.length)
def mvN (o : Ob) (st kd : Int) : Int := if mvI o st kd < o.R.length then (rwAt o.R (mvI o st kd)).n else 0
def mvR (o : Ob) (st kd : Int) : Int := if mvI o st kd < o.R.length then (rwAt o.R (mvI o st kd)).r else 0
theorem mvI_at {o : Ob} {st kd : Int} {i : Nat} (h : ∀ j, j < i → mvAt o st kd j = false) (hi : mvAt o st kd i = true) (hl : i < o.R.length) : mvI o st kd = i :=
  fb_at (fun j hj => by unfold mvErr; rw [h j hj]; rfl) (by unfold mvErr; rw [if_pos hi]; decide) hl
theorem mvI_no {o : Ob} {st kd : Int} (h : ∀ j, j < o.R.length → mvAt o st kd j = false) : mvI o st kd = o.R.length :=
  fb_all fun j hj => by unfold mvErr; rw [h j hj]; rfl
def stN (o : Ob) (st kd res : Int) : Int := if (0 ≤ st ∧ st < o.S) ∧ mvOk o st kd = true ∧ mvR o st kd = res then mvN o st kd else 0
def stE (o : Ob) (st kd res : Int) : Int := if ¬ (0 ≤ st ∧ st < o.S) then 30 else if mvOk o st kd = true ∧ mvR o st kd = res then 0 else 40
structure Pk where
  o : Int
  r : Int
def pkAt (ps : List Pk) (i : Nat) : Pk := ps.getD i ⟨0, 0⟩
def pkOp (l : List Op5) (p : Pk) : Op5 := oAt l p.o.toNat
def rSt (o : Ob) (l : List Op5) (st : Int) (ps : List Pk) : Nat → Int
  | 0 => st
  | i + 1 => stN o (rSt o l st ps i) (pkOp l (pkAt ps i)).k (pkAt ps i).r
def pkIn (l : List Op5) (p : Pk) : Prop := 0 ≤ p.o ∧ p.o < l.length
instance (l : List Op5) (p : Pk) : Decidable (pkIn l p) := by unfold pkIn; infer_instance
def pkDup (ps : List Pk) (i : Nat) (x : Int) : Prop := ∃ k, k < i ∧ (pkAt ps k).o = x
instance (ps : List Pk) (i : Nat) (x : Int) : Decidable (pkDup ps i x) := by unfold pkDup; infer_instance
def pkE (o : Ob) (l : List Op5) (st : Int) (ps : List Pk) (i : Nat) : Int :=
  if ¬ pkIn l (pkAt ps i) then 2 else if pkDup ps i (pkAt ps i).o then 21 else if stE o (rSt o l st ps i) (pkOp l (pkAt ps i)).k (pkAt ps i).r ≠ 0 then stE o (rSt o l st ps i) (pkOp l (pkAt ps i)).k (pkAt ps i).r else if (pkOp l (pkAt ps i)).e ≠ -1 ∧ (pkOp l (pkAt ps i)).r ≠ (pkAt ps i).r then 40 else 0
def rBad (o : Ob) (l : List Op5) (st : Int) (ps : List Pk) : Nat := fb (pkE o l st ps) ps.length
def rOk (o : Ob) (l : List Op5) (st : Int) (ps : List Pk) : Prop := obE o = 0 ∧ (0 ≤ st ∧ st < o.S) ∧ ∀ i, i < ps.length → pkE o l st ps i = 0
def rEnd (o : Ob) (l : List Op5) (st : Int) (ps : List Pk) : Int := if obE o = 0 ∧ (0 ≤ st ∧ st < o.S) ∧ rBad o l st ps = ps.length then rSt o l st ps ps.length else 0
def rAt (o : Ob) (l : List Op5) (st : Int) (ps : List Pk) : Int := if obE o = 0 ∧ (0 ≤ st ∧ st < o.S) then (rBad o l st ps : Int) else -1
def rErr (o : Ob) (l : List Op5) (st : Int) (ps : List Pk) : Int := if obE o ≠ 0 then 2 else if ¬ (0 ≤ st ∧ st < o.S) then 30 else if rBad o l st ps < ps.length then pkE o l st ps (rBad o l st ps) else 0
theorem rErr_zero {o : Ob} {l : List Op5} {st : Int} {ps : List Pk} : rErr o l st ps = 0 ↔ rOk o l st ps := by
  have h1 := fb_le (pkE o l st ps) ps.length
  unfold rErr rOk rBad
  by_cases ha : obE o = 0
  · rw [if_neg (by simpa using ha)]
    by_cases hb : 0 ≤ st ∧ st < o.S
    · rw [if_neg (by omega)]
      by_cases hc : fb (pkE o l st ps) ps.length < ps.length
      · rw [if_pos hc]
        exact ⟨fun h => absurd h (fb_bad hc), fun h => h.2.2 _ hc⟩
      · rw [if_neg hc]
        exact ⟨fun _ => ⟨ha, hb, fb_eq.1 (by omega)⟩, fun _ => rfl⟩
    · rw [if_pos hb]
      exact ⟨fun h => by omega, fun h => absurd h.2.1 hb⟩
  · rw [if_pos ha]
    exact ⟨fun h => by omega, fun h => absurd h.1 ha⟩
theorem rOk.no {o : Ob} {l : List Op5} {st : Int} {ps : List Pk} (h : ¬ rOk o l st ps) : rEnd o l st ps = 0 ∧ (rAt o l st ps < ps.length) ∧ rErr o l st ps ≠ 0 := by
  have h1 := fb_le (pkE o l st ps) ps.length
  refine ⟨?_, ?_, fun h2 => h (rErr_zero.1 h2)⟩
  · unfold rEnd
    exact if_neg fun h2 => h ⟨h2.1, h2.2.1, fb_eq.1 h2.2.2⟩
  · unfold rAt
    split
    · rename_i h2
      have h3 : rBad o l st ps ≠ ps.length := fun h3 => h ⟨h2.1, h2.2, fb_eq.1 h3⟩
      unfold rBad at h3 ⊢
      omega
    · omega
def flP (o : Ob) (l : List Op5) (ord : List Int) : Nat → List Pk
  | 0 => []
  | i + 1 => flP o l ord i ++ [⟨ord.getD i 0, if 0 ≤ ord.getD i 0 ∧ ord.getD i 0 < l.length then mvR o (rSt o l o.I (flP o l ord i) i) (oAt l (ord.getD i 0).toNat).k else 0⟩]
end Go.Proofs.YtcjnikkmjhagmaaGreatDoor
namespace Go.Proofs.YtcjnikkmjhagmaaGreatDoor
def nOk (o s : Int) : Prop := 0 ≤ o ∧ o ≤ 64 ∧ 1 ≤ s ∧ s ≤ 32
instance (o s : Int) : Decidable (nOk o s) := by unfold nOk; infer_instance
def nCheck (o s : Int) : Int := if nOk o s then 0 else 2
theorem nCheck_yes {o s : Int} (h : nOk o s) : nCheck o s = 0 := by unfold nCheck; rw [if_pos h]
theorem nCheck_no {o s : Int} (h : ¬ nOk o s) : nCheck o s = 2 := by unfold nCheck; rw [if_neg h]
def nA (o k : Int) : Int := if k = 1 then o else if k = 2 then o else if k = 3 then o + 1 else 0
def nB (o s k : Int) : Int := if k = 1 then o else if k = 2 then 1 else if k = 3 then s else 0
def nAhead (o s k : Int) : Int := if k ≤ 1 then 0 else if k = 2 then o * o else if k = 3 then o * o + o else o * o + o + (o + 1) * s
def nVars (o s : Int) : Int := if nOk o s then nAhead o s 4 else 0
def nName (o s k a b : Int) : Prop := nOk o s ∧ 1 ≤ k ∧ k ≤ 3 ∧ 0 ≤ a ∧ a < nA o k ∧ 0 ≤ b ∧ b < nB o s k
instance (o s k a b : Int) : Decidable (nName o s k a b) := by unfold nName; infer_instance
def nVar (o s k a b : Int) : Int := if nName o s k a b then nAhead o s k + a * nB o s k + b + 1 else 0
theorem mul_bd {x y a b : Int} (hx : 0 ≤ x) (hxa : x ≤ a) (hy : 0 ≤ y) (hyb : y ≤ b) : 0 ≤ x * y ∧ x * y ≤ a * b :=
  ⟨Int.mul_nonneg hx hy, Int.mul_le_mul hxa hyb hy (by omega)⟩
theorem nOk_sq {o s : Int} (h : nOk o s) : 0 ≤ o * o ∧ o * o ≤ 4096 := by unfold nOk at h; exact mul_bd (a := 64) (b := 64) (by omega) (by omega) (by omega) (by omega)
theorem nOk_st {o s : Int} (h : nOk o s) : 0 ≤ (o + 1) * s ∧ (o + 1) * s ≤ 2080 := by unfold nOk at h; exact mul_bd (a := 65) (b := 32) (by omega) (by omega) (by omega) (by omega)
theorem nB_bd {o s : Int} (h : nOk o s) (k : Int) : 0 ≤ nB o s k ∧ nB o s k ≤ 64 := by unfold nOk at h; unfold nB; split <;> (try split) <;> (try split) <;> omega
theorem nA_bd {o s : Int} (h : nOk o s) (k : Int) : 0 ≤ nA o k ∧ nA o k ≤ 65 := by unfold nOk at h; unfold nA; split <;> (try split) <;> (try split) <;> omega
theorem nAhead_bd {o s : Int} (h : nOk o s) (k : Int) : 0 ≤ nAhead o s k ∧ nAhead o s k ≤ 6240 := by
  have h1 := nOk_sq h; have h2 := nOk_st h
  unfold nOk at h; unfold nAhead; split <;> (try split) <;> (try split) <;> omega
theorem nAhead_succ {o s k : Int} (h1 : 1 ≤ k) (h3 : k ≤ 3) : nAhead o s (k + 1) = nAhead o s k + nA o k * nB o s k := by
  have : k = 1 ∨ k = 2 ∨ k = 3 := by omega
  rcases this with rfl | rfl | rfl <;> simp [nAhead, nA, nB] <;> omega
theorem rank_lt {a b A B : Int} (ha : 0 ≤ a) (hA : a < A) (hb : 0 ≤ b) (hB : b < B) : 0 ≤ a * B + b ∧ a * B + b < A * B := by
  have h1 : 0 ≤ a * B := Int.mul_nonneg ha (by omega)
  have h2 : (a + 1) * B ≤ A * B := Int.mul_le_mul_of_nonneg_right (by omega) (by omega)
  have h3 : (a + 1) * B = a * B + B := by rw [Int.add_mul, Int.one_mul]
  omega
theorem rank_div {a b B : Int} (hb : 0 ≤ b) (hB : b < B) : (a * B + b) / B = a ∧ (a * B + b) % B = b := by
  constructor
  · rw [Int.add_comm, Int.add_mul_ediv_right _ _ (by omega), Int.ediv_eq_zero_of_lt hb hB]; omega
  · rw [Int.add_comm, Int.add_mul_emod_self_right, Int.emod_eq_of_lt hb hB]
theorem nVar_bd {o s k a b : Int} (h : nName o s k a b) : nAhead o s k < nVar o s k a b ∧ nVar o s k a b ≤ nAhead o s (k + 1) ∧ nVar o s k a b - 1 - nAhead o s k = a * nB o s k + b := by
  obtain ⟨hok, h1, h3, ha, hA, hb, hB⟩ := h
  have hr := rank_lt ha hA hb hB
  rw [nAhead_succ h1 h3]
  unfold nVar; rw [if_pos ⟨hok, h1, h3, ha, hA, hb, hB⟩]; omega
theorem nAhead_mono {o s j k : Int} (h : nOk o s) (h1 : 1 ≤ j) (hjk : j ≤ k) (h4 : k ≤ 4) : nAhead o s j ≤ nAhead o s k := by
  have h1 := nOk_sq h; have h2 := nOk_st h
  unfold nOk at h
  have hj : j = 1 ∨ j = 2 ∨ j = 3 ∨ j = 4 := by omega
  have hk : k = 1 ∨ k = 2 ∨ k = 3 ∨ k = 4 := by omega
  rcases hj with rfl | rfl | rfl | rfl <;> rcases hk with rfl | rfl | rfl | rfl <;> simp [nAhead] <;> omega
theorem nVar_pos {o s k a b : Int} (h : nName o s k a b) : 1 ≤ nVar o s k a b ∧ nVar o s k a b ≤ nVars o s := by
  have hb := nVar_bd h
  obtain ⟨hok, h1, h3, _⟩ := h
  have := nAhead_bd hok k
  have h4 := nAhead_mono hok (show 1 ≤ k + 1 by omega) (show k + 1 ≤ 4 by omega) (by omega)
  unfold nVars; rw [if_pos hok]; omega
def nKind (o v : Int) : Int := if v ≤ o * o then 1 else if v ≤ o * o + o then 2 else 3
def nOf (o s v : Int) : Int × Int × Int :=
  if 1 ≤ v ∧ v ≤ nVars o s then (nKind o v, (v - 1 - nAhead o s (nKind o v)) / nB o s (nKind o v), (v - 1 - nAhead o s (nKind o v)) % nB o s (nKind o v)) else (0, 0, 0)
def nOfOk (o s v : Int) : Bool := decide (1 ≤ v ∧ v ≤ nVars o s)
theorem nKind_bd {o v : Int} : 1 ≤ nKind o v ∧ nKind o v ≤ 3 := by unfold nKind; split <;> (try split) <;> omega
theorem nKind_iff {o s v k : Int} (hok : nOk o s) (h1 : 1 ≤ v) (hv : v ≤ nVars o s) (k1 : 1 ≤ k) (k3 : k ≤ 3) : nKind o v = k ↔ (nAhead o s k < v ∧ v ≤ nAhead o s (k + 1)) := by
  have h1 := nOk_sq hok; have h2 := nOk_st hok
  unfold nVars at hv; rw [if_pos hok] at hv
  unfold nOk at hok
  have hk : k = 1 ∨ k = 2 ∨ k = 3 := by omega
  have e4 : nAhead o s 4 = o * o + o + (o + 1) * s := by simp [nAhead]
  rcases hk with rfl | rfl | rfl <;> simp [nAhead] <;> unfold nKind <;> split <;> (try split) <;> omega
theorem nOf_var {o s k a b : Int} (h : nName o s k a b) : nOf o s (nVar o s k a b) = (k, a, b) := by
  have hp := nVar_pos h
  have hb := nVar_bd h
  have hk : nKind o (nVar o s k a b) = k := (nKind_iff h.1 hp.1 hp.2 h.2.1 h.2.2.1).2 ⟨hb.1, hb.2.1⟩
  have hr := rank_div (a := a) h.2.2.2.2.2.1 h.2.2.2.2.2.2
  unfold nOf; rw [if_pos hp, hk, hb.2.2, hr.1, hr.2]
theorem nOf_name {o s v : Int} (h1 : 1 ≤ v) (hv : v ≤ nVars o s) : nName o s (nOf o s v).1 (nOf o s v).2.1 (nOf o s v).2.2 ∧ nVar o s (nOf o s v).1 (nOf o s v).2.1 (nOf o s v).2.2 = v := by
  have hok : nOk o s := by
    by_cases h : nOk o s
    · exact h
    · unfold nVars at hv; rw [if_neg h] at hv; omega
  have hkb := @nKind_bd o v
  have hk := (nKind_iff hok h1 hv hkb.1 hkb.2).1 rfl
  have hs := nAhead_succ (o := o) (s := s) hkb.1 hkb.2
  have hB := nB_bd hok (nKind o v)
  have hA := nA_bd hok (nKind o v)
  unfold nOf; rw [if_pos ⟨h1, hv⟩]; dsimp only
  generalize hkk : nKind o v = k at *
  have hBp : 0 < nB o s k := by
    rcases Int.lt_or_eq_of_le hB.1 with h | h
    · exact h
    · rw [← h, Int.mul_zero] at hs; omega
  have hq : 0 ≤ v - 1 - nAhead o s k := by omega
  have hq2 : v - 1 - nAhead o s k < nA o k * nB o s k := by omega
  have e : v - 1 - nAhead o s k = (v - 1 - nAhead o s k) / nB o s k * nB o s k + (v - 1 - nAhead o s k) % nB o s k := by
    rw [Int.mul_comm]; exact (Int.mul_ediv_add_emod _ _).symm
  have m1 := Int.emod_nonneg (v - 1 - nAhead o s k) (show nB o s k ≠ 0 by omega)
  have m2 := Int.emod_lt_of_pos (v - 1 - nAhead o s k) hBp
  have hn : nName o s k ((v - 1 - nAhead o s k) / nB o s k) ((v - 1 - nAhead o s k) % nB o s k) :=
    ⟨hok, hkb.1, hkb.2, Int.ediv_nonneg hq (by omega), Int.ediv_lt_of_lt_mul hBp hq2, m1, m2⟩
  refine ⟨hn, ?_⟩
  unfold nVar; rw [if_pos hn]; omega
def nStep (o s v k : Int) (n : Int × Int × Int) : Int × Int × Int := if nAhead o s k < v ∧ 0 < nB o s k then (k, (v - 1 - nAhead o s k) / nB o s k, (v - 1 - nAhead o s k) % nB o s k) else n
def nUp (o s v : Int) : Nat → Int × Int × Int
  | 0 => (0, 0, 0)
  | j + 1 => nStep o s v (j + 1 : Nat) (nUp o s v j)
theorem nUp_three {o s v : Int} (h1 : 1 ≤ v) (hv : v ≤ nVars o s) : nUp o s v 3 = nOf o s v := by
  have hok : nOk o s := by
    by_cases h : nOk o s
    · exact h
    · unfold nVars at hv; rw [if_neg h] at hv; omega
  have hkb := @nKind_bd o v
  have hk := (nKind_iff hok h1 hv hkb.1 hkb.2).1 rfl
  have hs := nAhead_succ (o := o) (s := s) hkb.1 hkb.2
  have hB := nB_bd hok (nKind o v)
  have hBp : 0 < nB o s (nKind o v) := by
    rcases Int.lt_or_eq_of_le hB.1 with h | h
    · exact h
    · rw [← h, Int.mul_zero] at hs; omega
  have hm2 := nAhead_mono hok (show 1 ≤ 2 by omega) (show 2 ≤ 3 by omega) (by omega)
  have e : nOf o s v = nStep o s v (nKind o v) (0, 0, 0) := by unfold nOf nStep; rw [if_pos ⟨h1, hv⟩, if_pos ⟨hk.1, hBp⟩]
  have hz : ∀ x, nStep o s v (nKind o v) x = nStep o s v (nKind o v) (0, 0, 0) := by intro x; unfold nStep; rw [if_pos ⟨hk.1, hBp⟩, if_pos ⟨hk.1, hBp⟩]
  rw [e]
  show nStep o s v 3 (nStep o s v 2 (nStep o s v 1 (0, 0, 0))) = _
  have hc : nKind o v = 1 ∨ nKind o v = 2 ∨ nKind o v = 3 := by omega
  rcases hc with hc | hc | hc <;> rw [hc] at hk hz ⊢
  · have n2 : ∀ x, nStep o s v 2 x = x := by intro x; unfold nStep; rw [if_neg]; simp at hk; omega
    have n3 : ∀ x, nStep o s v 3 x = x := by intro x; unfold nStep; rw [if_neg]; simp at hk; omega
    rw [n3, n2]
  · have n3 : ∀ x, nStep o s v 3 x = x := by intro x; unfold nStep; rw [if_neg]; simp at hk; omega
    rw [n3, hz]
  · rw [hz]
theorem nVars_nonneg (o s : Int) : 0 ≤ nVars o s ∧ nVars o s ≤ 6240 := by
  unfold nVars; split
  · rename_i h; exact nAhead_bd h 4
  · omega
end Go.Proofs.YtcjnikkmjhagmaaGreatDoor
namespace Go.Proofs.YtcjnikkmjhagmaaGreatDoor
open Go.RowKit
set_option linter.unusedVariables false
theorem num_Check (o s : Int) (w : World) : Calls Tryz.prog 68 #[.agg #[.int .i64 o, .int .i64 s]] w fun e w' => e = .returned (.int .i64 (nCheck o s)) ∧ Below w.heap.size w w' := by
  go_enter Tryz.func68, Tryz.ntmps68
  go_wp2
  all_goals (go_returns; refine ⟨ret_int ?_, by (repeat (first | (with_reducible exact Below.refl _ _) | (with_reducible assumption) | (with_reducible refine below_alloc ?_ _) | (with_reducible refine below_drew ?_) | (with_reducible refine below_drewN ?_ _) | (with_reducible refine below_step ?_ (by with_reducible assumption))))⟩; first | rw [nCheck_yes (by unfold nOk; omega)] | rw [nCheck_no (by unfold nOk; omega)])
theorem num_kind (o s k : Int) (w : World) (hok : nOk o s) : Calls Tryz.prog 96 #[.agg #[.int .i64 o, .int .i64 s], .int .i64 k] w fun e w' => e = .returned (.tuple #[.int .i64 (nA o k), .int .i64 (nB o s k)]) ∧ Below w.heap.size w w' := by
  unfold nOk at hok
  obtain ⟨h1, h2, h3, h4⟩ := hok
  by_cases k1 : k = 1
  · subst k1
    have e1 : nA o 1 = o := rfl
    have e2 : nB o s 1 = o := rfl
    rw [e1, e2]; clear e1 e2
    go_enter Tryz.func96, Tryz.ntmps96
    go_wp2
    go_quiet (fail)
    go_wp2
    go_returns
    exact ⟨rfl, by (repeat (first | (with_reducible exact Below.refl _ _) | (with_reducible assumption) | (with_reducible refine below_alloc ?_ _) | (with_reducible refine below_drew ?_) | (with_reducible refine below_drewN ?_ _) | (with_reducible refine below_step ?_ (by with_reducible assumption))))⟩
  · by_cases k2 : k = 2
    · subst k2
      have e1 : nA o 2 = o := rfl
      have e2 : nB o s 2 = 1 := rfl
      rw [e1, e2]; clear e1 e2
      go_enter Tryz.func96, Tryz.ntmps96
      go_wp2
      go_returns
      exact ⟨rfl, by (repeat (first | (with_reducible exact Below.refl _ _) | (with_reducible assumption) | (with_reducible refine below_alloc ?_ _) | (with_reducible refine below_drew ?_) | (with_reducible refine below_drewN ?_ _) | (with_reducible refine below_step ?_ (by with_reducible assumption))))⟩
    · by_cases k3 : k = 3
      · subst k3
        have e1 : nA o 3 = o + 1 := rfl
        have e2 : nB o s 3 = s := rfl
        have e3 : IntKind.i64.wrap (o + 1) = o + 1 := IntWalk.i64_in _ (by omega)
        rw [e1, e2]; clear e1 e2
        go_enter Tryz.func96, Tryz.ntmps96
        go_wp2
        go_quiet (fail)
        go_wp2
        go_returns
        exact ⟨rfl, by (repeat (first | (with_reducible exact Below.refl _ _) | (with_reducible assumption) | (with_reducible refine below_alloc ?_ _) | (with_reducible refine below_drew ?_) | (with_reducible refine below_drewN ?_ _) | (with_reducible refine below_step ?_ (by with_reducible assumption))))⟩
      · have e1 : nA o k = 0 := by unfold nA; rw [if_neg k1, if_neg k2, if_neg k3]
        have e2 : nB o s k = 0 := by unfold nB; rw [if_neg k1, if_neg k2, if_neg k3]
        have f1 : (k == 1) = false := by simpa using k1
        have f2 : (k == 2) = false := by simpa using k2
        have f3 : (k == 3) = false := by simpa using k3
        rw [e1, e2]; clear e1 e2 k1 k2 k3
        go_enter Tryz.func96, Tryz.ntmps96
        go_wp2
        go_returns
        exact ⟨rfl, by (repeat (first | (with_reducible exact Below.refl _ _) | (with_reducible assumption) | (with_reducible refine below_alloc ?_ _) | (with_reducible refine below_drew ?_) | (with_reducible refine below_drewN ?_ _) | (with_reducible refine below_step ?_ (by with_reducible assumption))))⟩
theorem num_ahead (o s : Int) (k : Int) (w : World) (hok : nOk o s) (h1 : 1 ≤ k) (h4 : k ≤ 4) : Calls Tryz.prog 81 #[.agg #[.int .i64 o, .int .i64 s], .int .i64 k] w fun e w' => e = .returned (.int .i64 (nAhead o s k)) ∧ Below w.heap.size w w' := by
  have hA := nA_bd hok
  have hB := nB_bd hok
  have HA := Lib.hid hA; clear hA
  have HB := Lib.hid hB; clear hB
  have HN := Lib.hid (nAhead_bd hok)
  have HOK := Lib.hid hok; clear hok
  have hb0 : Below w.heap.size w (w.alloc (.cells #[.int .i64 o, .int .i64 s] 51)) := (Below.refl _ _).alloc (Nat.le_refl _) _
  generalize hw1 : w.alloc (.cells #[.int .i64 o, .int .i64 s] 51) = w1 at hb0
  have hc0 : w1.cell? ⟨w.heap.size, 0, none⟩ = some (.int .i64 o) := by subst hw1; simp
  have hc1 : w1.cell? ⟨w.heap.size, 1, none⟩ = some (.int .i64 s) := by subst hw1; simp
  have HW := Lib.hid hw1
  have HC0 := Lib.hid hc0; clear hc0
  have HC1 := Lib.hid hc1; clear hc1
  clear hw1
  go_enter Tryz.func81, Tryz.ntmps81
  go_wp2
  rw [HW.out]
  go_loopw [5, 6] (fun n i wr => ∃ j : Nat, 1 ≤ j ∧ (j : Int) ≤ k ∧ i = .int .i64 j ∧ n = .int .i64 (nAhead o s j) ∧ Below w1.heap.size w1 wr) (fun _ i _ => (4 - intOf i).toNat)
  case atStart => exact ⟨1, by omega, by omega, rfl, by simp [nAhead], Below.refl _ _⟩
  case round =>
    obtain ⟨j, hj1, hjk, rfl, rfl, hb⟩ := hrel
    by_cases hlt : (j : Int) < k
    · have b1 := HA.out j
      have b2 := HB.out j
      have b3 := HN.out j
      have b4 := mul_bd b1.1 b1.2 b2.1 b2.2
      have hc0 := cell_later hb HC0.out
      have hc1 := cell_later hb HC1.out
      have HS := Lib.hid (nAhead_succ (o := o) (s := s) (k := j) (by omega) (by omega))
      go_wp2_with (go_at_call 96; refine (num_kind _ _ _ _ HOK.out).mono ?_; rintro e w' ⟨rfl, hb2⟩)
      go_roundw
      case rel => exact ⟨j + 1, by omega, by omega, by go_num, by rw [show ((j + 1 : Nat) : Int) = (j : Int) + 1 by omega, HS.out], below_step hb hb2⟩
      case measure => simp [intOf]; omega
    · have HK := Lib.hid (show k = j by omega)
      go_wp2
      go_ret
      exact ⟨ret_int (by rw [HK.out]), below_step hb0 hb⟩
theorem num_Vars (o s : Int) (w : World) : Calls Tryz.prog 30 #[.agg #[.int .i64 o, .int .i64 s]] w fun e w' => e = .returned (.int .i64 (nVars o s)) ∧ Below w.heap.size w w' := by
  by_cases hok : nOk o s
  · have e : nVars o s = nAhead o s 4 := by unfold nVars; rw [if_pos hok]
    have hk : (nCheck o s != 0) = false := by rw [nCheck_yes hok]; rfl
    rw [e]; clear e
    have HOK := Lib.hid hok; clear hok
    go_enter Tryz.func30, Tryz.ntmps30
    go_wp2_with fail
    refine (num_Check _ _ _).mono ?_
    rintro e w1 ⟨rfl, hb1⟩
    have hc0 : w1.cell? ⟨w.heap.size, 0, none⟩ = some (.int .i64 o) := cell_later hb1 (by simp)
    have hc1 : w1.cell? ⟨w.heap.size, 1, none⟩ = some (.int .i64 s) := cell_later hb1 (by simp)
    go_wp2_with (go_at_call 81; refine (num_ahead _ _ _ _ HOK.out (by omega) (by omega)).mono ?_; rintro e w' ⟨rfl, hb2⟩)
    go_returns
    exact ⟨rfl, by (repeat (first | (with_reducible exact Below.refl _ _) | (with_reducible assumption) | (with_reducible refine below_alloc ?_ _) | (with_reducible refine below_drew ?_) | (with_reducible refine below_drewN ?_ _) | (with_reducible refine below_step ?_ (by with_reducible assumption))))⟩
  · have e : nVars o s = 0 := by unfold nVars; rw [if_neg hok]
    have hk : (nCheck o s != 0) = true := by rw [nCheck_no hok]; rfl
    rw [e]; clear e hok
    go_enter Tryz.func30, Tryz.ntmps30
    go_wp2_with (go_at_call 68; refine (num_Check _ _ _).mono ?_; rintro e w' ⟨rfl, hb1⟩)
    go_returns
    exact ⟨rfl, by (repeat (first | (with_reducible exact Below.refl _ _) | (with_reducible assumption) | (with_reducible refine below_alloc ?_ _) | (with_reducible refine below_drew ?_) | (with_reducible refine below_drewN ?_ _) | (with_reducible refine below_step ?_ (by with_reducible assumption))))⟩
end Go.Proofs.YtcjnikkmjhagmaaGreatDoor
