import Derived.Test.YtcjnikkmjhagmaaGreatDoorMgBK
import Derived.Test.YtcjnikkmjhagmaaGreatDoorMgAO
import Derived.Test.YtcjnikkmjhagmaaGreatDoorMgBI
namespace Go.Proofs.YtcjnikkmjhagmaaGreatDoor
open Go.RowKit
def orU (a b : List Bool) (k : Nat) : List Bool := (List.range k).map fun i => a.getD i false || b.getD i false
def mpM (n : Nat) (m : Int) (ord row : List Int) (inn : List Bool) : List Bool := inU n m inn (orU (ptU n m ord n) (srU n m row (n + 1)) (nVars n m).toNat) n
section
variable {n : Nat} {m : Int} {ord row : List Int} {inn : List Bool}
end
end Go.Proofs.YtcjnikkmjhagmaaGreatDoor
namespace Go.Proofs.YtcjnikkmjhagmaaGreatDoor
open Go.RowKit
theorem mCl_mem {o : Ob} {l : List Op5} {c : List Int} {k : Nat} : c ∈ mCl o l k ↔ ∃ i, i < k ∧ c ∈ mI o l i := by unfold mCl; simp [List.mem_flatMap]
theorem mP_mem {o : Ob} {l : List Op5} {c : List Int} {i k : Nat} : c ∈ mP o l i k ↔ ∃ p, p < k ∧ c ∈ mB o l i p o.S.toNat := by unfold mP; simp [List.mem_flatMap]
theorem mB_mem {o : Ob} {l : List Op5} {c : List Int} {i p k : Nat} : c ∈ mB o l i p k ↔ ∃ b, b < k ∧ c ∈ mA o l i p b := by unfold mB; simp [List.mem_flatMap]
def c1A (o : Ob) (l : List Op5) (i p b : Nat) : List Int := [-(nVar l.length o.S 1 i p), -(nVar l.length o.S 2 i 0), -(nVar l.length o.S 3 p b)] ++ (if 0 ≤ mvE o (oAt l i) b then [nVar l.length o.S 3 (p + 1 : Nat) (mvE o (oAt l i) b)] else [])
def c2A (o : Ob) (l : List Op5) (i p b : Nat) : List Int := [-(nVar l.length o.S 1 i p), nVar l.length o.S 2 i 0, -(nVar l.length o.S 3 p b), nVar l.length o.S 3 (p + 1 : Nat) b]
theorem mA_mem {o : Ob} {l : List Op5} {c : List Int} {i p b : Nat} : c ∈ mA o l i p b ↔ c = c1A o l i p b ∨ ((oAt l i).e = -1 ∧ c = c2A o l i p b) := by
  unfold mA
  rw [List.mem_append, List.mem_singleton]
  unfold c1A c2A
  by_cases h : (oAt l i).e = -1
  · rw [if_pos h, List.mem_singleton]
    exact ⟨fun hh => hh.imp id fun h2 => ⟨h, h2⟩, fun hh => hh.imp id fun h2 => h2.2⟩
  · rw [if_neg h]
    exact ⟨fun hh => hh.elim .inl fun h2 => by simp at h2, fun hh => hh.elim .inl fun h2 => absurd h2.1 h⟩
section
variable {o : Ob} {l : List Op5} {ord row : List Int} {inn : List Bool}
end
end Go.Proofs.YtcjnikkmjhagmaaGreatDoor
namespace Go.Proofs.YtcjnikkmjhagmaaGreatDoor
open Go.RowKit
theorem vc_ms {n m : Int} (g : Nat → Int × Int × Int) (N : Nat) (hn : ∀ i, i < N → nName n m (g i).1 (g i).2.1 (g i).2.2) (hd : ∀ i j, i < N → j < N → g i = g j → i = j) :
    ∀ c ∈ msAll ((List.range N).map fun i => nVar n m (g i).1 (g i).2.1 (g i).2.2), VC (nVars n m) c := by
  intro c hc
  unfold msAll msUp at hc
  obtain ⟨i, hi, hc⟩ := List.mem_flatMap.1 hc
  unfold msRow at hc
  obtain ⟨t, ht, rfl⟩ := List.mem_map.1 hc
  have hi := List.mem_range.1 hi
  have ht := List.mem_range.1 ht
  have hl : ((List.range N).map fun i => nVar n m (g i).1 (g i).2.1 (g i).2.2).length = N := by simp
  rw [hl] at hi ht
  have at_ : ∀ k, k < N → ((List.range N).map fun i => nVar n m (g i).1 (g i).2.1 (g i).2.2).getD k 0 = nVar n m (g k).1 (g k).2.1 (g k).2.2 := fun k hk => by
    rw [List.getD_eq_getElem?_getD, List.getElem?_map, List.getElem?_range hk]; rfl
  rw [at_ i hi, at_ (i + 1 + t) (by omega)]
  exact vc_two (hn i hi) (hn _ (by omega)) fun e => by have := hd i (i + 1 + t) hi (by omega) e; omega
theorem plCl_vc {n m : Int} : ∀ c ∈ plCl n m, VC (nVars n m) c := by
  unfold plCl
  split
  · next hok =>
    obtain ⟨N, M, rfl, rfl, hN, hM⟩ := nOk_nat hok
    rw [Int.toNat_natCast]
    have r1 : ∀ q : Nat, q < N → ∀ i, i < N → nName N M 1 q i := fun q hq i hi => nName_1 hok (by omega) (by omega) (by omega) (by omega)
    intro c hc
    rcases List.mem_append.1 hc with hc | hc
    · unfold plU1 at hc
      obtain ⟨q, hq, hc⟩ := List.mem_flatMap.1 hc
      have hq := List.mem_range.1 hq
      rcases List.mem_cons.1 hc with rfl | hc
      · exact vc_row (fun i => (1, q, i)) N (by omega) (r1 q hq) fun i j _ _ e => by simp at e; omega
      · exact vc_ms (fun i => (1, q, i)) N (r1 q hq) (fun i j _ _ e => by simp at e; omega) c hc
    · unfold plU2 at hc
      obtain ⟨q, hq, hc⟩ := List.mem_flatMap.1 hc
      have hq := List.mem_range.1 hq
      exact vc_ms (fun i => (1, i, q)) N (fun i hi => r1 i hi q hq) (fun i j _ _ e => by simp at e; omega) c hc
  · intro c hc; cases hc
theorem stL_vc {n m init : Int} : ∀ c ∈ stL n m init, VC (nVars n m) c := by
  unfold stL
  split
  · next h =>
    obtain ⟨hok, h1, h2⟩ := h
    obtain ⟨N, M, rfl, rfl, hN, hM⟩ := nOk_nat hok
    rw [Int.toNat_natCast, Int.toNat_natCast]
    intro c hc
    rcases List.mem_cons.1 hc with rfl | hc
    · exact vc_one (x := (3, 0, init)) (nName_3 hok (by show (0 : Int) ≤ 0; omega) (by show (0 : Int) ≤ N; omega) h1 h2)
    · unfold stUp at hc
      obtain ⟨q, hq, hc⟩ := List.mem_flatMap.1 hc
      have hq := List.mem_range.1 hq
      have r3 : ∀ i, i < M → nName N M 3 q i := fun i hi => nName_3 hok (by omega) (by omega) (by omega) (by omega)
      unfold stP at hc
      rcases List.mem_cons.1 hc with rfl | hc
      · exact vc_row (fun i => (3, q, i)) M (by omega) r3 fun i j _ _ e => by simp at e; omega
      · exact vc_ms (fun i => (3, q, i)) M r3 (fun i j _ _ e => by simp at e; omega) c hc
  · intro c hc; cases hc
theorem tmL_vc {n m : Int} {us : List Int} {K : Nat} : ∀ c ∈ tmL n m us K, VC (nVars n m) c := by
  unfold tmL
  split
  · next hok =>
    obtain ⟨N, M, rfl, rfl, hN, hM⟩ := nOk_nat hok
    rw [Int.toNat_natCast]
    intro c hc
    unfold tmU at hc
    obtain ⟨p, hp, hc⟩ := List.mem_flatMap.1 hc
    unfold tmI at hc
    split at hc
    · next hg =>
      obtain ⟨⟨g1, g2⟩, ⟨g3, g4⟩, g5⟩ := hg
      unfold tmP at hc
      obtain ⟨x, hx, hc⟩ := List.mem_flatMap.1 hc
      unfold tmA at hc
      obtain ⟨y, hy, rfl⟩ := List.mem_map.1 hc
      have hx := List.mem_range.1 hx
      have hy := List.mem_range.1 hy
      unfold tmRow
      exact vc_two (x := (1, _, (x : Int))) (y := (1, _, (y : Int))) (nName_1 hok g1 g2 (by show (0 : Int) ≤ (x : Int); omega) (by show (x : Int) < N; omega)) (nName_1 hok g3 g4 (by show (0 : Int) ≤ (y : Int); omega) (by show (y : Int) < N; omega)) fun e => by simp at e; exact g5 e.1
    · cases hc
  · intro c hc; cases hc
theorem mRes_vc {o : Ob} {l : List Op5} : ∀ c ∈ mRes o l, VC (nVars (mN o l) (mS o l)) c := by
  unfold mRes
  split
  · next hok =>
    obtain ⟨hm, hln, hS1, hS2⟩ := m_nOk hok
    rw [(m_yes hm).1, (m_yes hm).2] at hok ⊢
    intro c hc
    obtain ⟨i, hi, hc⟩ := mCl_mem.1 hc
    have n2 : nName l.length o.S 2 i 0 := nName_2 hok (by omega) (by omega)
    unfold mI at hc
    rcases List.mem_append.1 hc with hc | hc
    · split at hc
      · cases hc
      · rw [List.mem_singleton.1 hc]
        exact vc_one (x := (2, i, 0)) n2
    · obtain ⟨p, hp, hc⟩ := mP_mem.1 hc
      obtain ⟨b, hb, hc⟩ := mB_mem.1 hc
      have hb : (b : Int) < o.S := by omega
      have n1 : nName l.length o.S 1 i p := nName_1 hok (by omega) (by omega) (by omega) (by omega)
      have n3 : ∀ (q : Nat) (x : Int), q ≤ l.length → 0 ≤ x → x < o.S → nName l.length o.S 3 q x := fun q x h1 h2 h3 => nName_3 hok (by omega) (by omega) h2 h3
      have hE := mvE_in hm.1 (oAt l i) b
      rcases mA_mem.1 hc with rfl | ⟨_, rfl⟩
      · unfold c1A
        split
        · next h0 =>
          have hx : mvE o (oAt l i) b < o.S := by rcases hE with ⟨_, _, h, _⟩ | ⟨_, h, _⟩ <;> omega
          exact vc_names [(false, 1, i, p), (false, 2, i, 0), (false, 3, p, b), (true, 3, (p + 1 : Nat), mvE o (oAt l i) b)] (by simp) (by
            intro z hz; simp only [List.mem_cons, List.not_mem_nil, or_false] at hz
            rcases hz with rfl | rfl | rfl | rfl
            · exact n1
            · exact n2
            · exact n3 p b (by omega) (by omega) hb
            · exact n3 (p + 1) _ (by omega) h0 hx) (by simp; omega)
        · exact vc_names [(false, 1, i, p), (false, 2, i, 0), (false, 3, p, b)] (by simp) (by
            intro z hz; simp only [List.mem_cons, List.not_mem_nil, or_false] at hz
            rcases hz with rfl | rfl | rfl
            · exact n1
            · exact n2
            · exact n3 p b (by omega) (by omega) hb) (by simp)
      · unfold c2A
        exact vc_names [(false, 1, i, p), (true, 2, i, 0), (false, 3, p, b), (true, 3, (p + 1 : Nat), b)] (by simp) (by
            intro z hz; simp only [List.mem_cons, List.not_mem_nil, or_false] at hz
            rcases hz with rfl | rfl | rfl | rfl
            · exact n1
            · exact n2
            · exact n3 p b (by omega) (by omega) hb
            · exact n3 (p + 1) b (by omega) (by omega) hb) (by simp; omega)
  · intro c hc; cases hc
end Go.Proofs.YtcjnikkmjhagmaaGreatDoor
