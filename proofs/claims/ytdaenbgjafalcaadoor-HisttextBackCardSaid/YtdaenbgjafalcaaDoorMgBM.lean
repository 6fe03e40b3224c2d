import Derived.Test.YtdaenbgjafalcaaDoorMgBL
import Derived.Test.YtdaenbgjafalcaaDoorMgBA
import Derived.Test.YtdaenbgjafalcaaDoorMgAT
import Derived.Test.YtdaenbgjafalcaaDoorMgBK
namespace Go.Proofs.YtdaenbgjafalcaaDoor
open Go.RowKit Go.Lib
def OfRows (L : List (List Tok3)) : Prop := ∃ rs : List (Nat × Nat × List (Nat × List UInt8)), L = rs.map rowT ∧ rs.length ≤ 1000000 ∧ ∀ r ∈ rs, r.2.2.length ≤ 1000000
theorem OfRows.nil : OfRows [] := ⟨[], rfl, by simp, by simp⟩
theorem OfRows.tail {x : List Tok3} {L : List (List Tok3)} (h : OfRows (x :: L)) : OfRows L := by
  obtain ⟨rs, h0, h1, h2⟩ := h
  cases rs with
  | nil => cases h0
  | cons r rs =>
    rw [List.map_cons] at h0
    injection h0 with h3 h4
    exact ⟨rs, h4, by rw [List.length_cons] at h1; omega, fun q hq => h2 q (List.mem_cons_of_mem _ hq)⟩
theorem OfRows.drop {L : List (List Tok3)} (h : OfRows L) (k : Nat) : OfRows (L.drop k) := by
  obtain ⟨rs, rfl, h1, h2⟩ := h
  exact ⟨rs.drop k, by rw [List.map_drop], by rw [List.length_drop]; omega, fun r hr => h2 r (List.mem_of_mem_drop hr)⟩
theorem OfRows.said {L : List (List Tok3)} (h : OfRows L) : OfRows (said L) := by
  obtain ⟨rs, rfl, h1, h2⟩ := h
  refine ⟨rs.filter fun r => decide ((rowT r).length ≠ 0), ?_, Nat.le_trans (List.length_filter_le _ _) h1, fun r hr => h2 r (List.mem_filter.1 hr).1⟩
  show List.filter _ _ = _
  rw [List.filter_map]; rfl
theorem OfRows.nxt : ∀ {L : List (List Tok3)}, OfRows L → OfRows (nxt L).2
  | [], _ => OfRows.nil
  | x :: L, h => by
    unfold Proofs.YtdaenbgjafalcaaDoor.nxt
    split
    · exact OfRows.nxt h.tail
    · exact h.tail
def RwSm (r : Rw) : Prop := (0 ≤ r.s ∧ r.s ≤ 1000000) ∧ (0 ≤ r.k ∧ r.k ≤ 1000000) ∧ (0 ≤ r.n ∧ r.n ≤ 1000000) ∧ (0 ≤ r.r ∧ r.r ≤ 1000000)
theorem rowsGo_sm {z : Int} : ∀ (m : Nat) (L : List (List Tok3)) (R : List Rw) (P : List Int), (rowsGo z m L R P).2.2.2.2 = 0 → (∀ r ∈ R, RwSm r) → m ≤ L.length ∧ ∀ r ∈ (rowsGo z m L R P).1, RwSm r
  | 0, L, R, P, _, hR => ⟨Nat.zero_le _, hR⟩
  | m + 1, L, R, P, h, hR => by
    by_cases he : (nums (nxt L).1 wRow lo4 hi4 z).2.2 = 0
    · rw [rowsGo_ok he] at h ⊢
      obtain ⟨k1, _, _, k4⟩ := nums_ok he
      have hn := nxt_lt L k1
      obtain ⟨h1, h2⟩ := rowsGo_sm m _ _ _ h (fun r hr => by
        rcases List.mem_append.1 hr with hr | hr
        · exact hR r hr
        · rw [List.mem_singleton] at hr; subst hr; exact ⟨k4 0, k4 1, k4 2, k4 3⟩)
      exact ⟨by omega, h2⟩
    · rw [rowsGo_bad he] at h; exact absurd h he
theorem takeP_sm {L : List (List Tok3)} {z : Int} (h : (takeP L z).2.2.2 = 0) : obE (takeP L z).1 = 0 ∧ (0 ≤ (takeP L z).1.S ∧ (takeP L z).1.S ≤ 1000000) ∧ (0 ≤ (takeP L z).1.K ∧ (takeP L z).1.K ≤ 1000000) ∧ (0 ≤ (takeP L z).1.I ∧ (takeP L z).1.I ≤ 1000000) ∧ (takeP L z).1.R.length + 1 ≤ L.length ∧ ∀ r ∈ (takeP L z).1.R, RwSm r := by
  by_cases he : (tq L z).2.2 = 0
  · by_cases hg : (tg L z).2.2.2.2 = 0
    · have ho := takeP_o he hg
      by_cases c1 : obE (tob L z) = 2
      · rw [if_pos c1] at ho; rw [ho] at h; cases h
      · by_cases c2 : obE (tob L z) = 0
        · rw [if_neg c1, if_neg (by simpa using c2)] at ho
          rw [ho]
          obtain ⟨k1, _, _, k4⟩ := nums_ok he
          have hn := nxt_lt L k1
          obtain ⟨g1, g2⟩ := rowsGo_sm _ _ _ _ hg (by simp)
          have g3 := (rowsGo_said _ _ _ _ hg).2
          refine ⟨c2, k4 0, k4 1, k4 2, ?_, g2⟩
          show (tg L z).1.length + 1 ≤ _
          have : (tg L z).1.length = _ := g3
          rw [this, List.length_nil]; omega
        · rw [if_neg c1, if_pos c2] at ho; rw [ho] at h; exact absurd h c2
    · rw [takeP_g he hg] at h; exact absurd h hg
  · rw [takeP_q he] at h; exact absurd h he
theorem nxt_pos {L : List (List Tok3)} (h : (nxt L).1.length ≠ 0) : 0 < (said L).length := by
  rcases Nat.eq_zero_or_pos (said L).length with h0 | h0
  · have := (nxt_said L).1
    rw [List.length_eq_zero_iff.1 h0] at this
    rw [← this] at h; exact absurd rfl h
  · exact h0
theorem rowsGo_cnt {z : Int} : ∀ (m : Nat) (L : List (List Tok3)) (R : List Rw) (P : List Int), (rowsGo z m L R P).2.2.2.2 = 0 → m ≤ (said L).length
  | 0, L, R, P, _ => Nat.zero_le _
  | m + 1, L, R, P, h => by
    by_cases he : (nums (nxt L).1 wRow lo4 hi4 z).2.2 = 0
    · rw [rowsGo_ok he] at h
      have h0 := nxt_pos (nums_ok he).1
      have h1 := rowsGo_cnt m _ _ _ h
      rw [(nxt_said L).2, List.length_drop] at h1
      omega
    · rw [rowsGo_bad he] at h; exact absurd h he
theorem takeP_cnt {L : List (List Tok3)} {z : Int} (h : (takeP L z).2.2.2 = 0) : (takeP L z).1.R.length + 1 ≤ (said L).length := by
  by_cases he : (tq L z).2.2 = 0
  · by_cases hg : (tg L z).2.2.2.2 = 0
    · have ho := takeP_o he hg
      by_cases c1 : obE (tob L z) = 2
      · rw [if_pos c1] at ho; rw [ho] at h; cases h
      · by_cases c2 : obE (tob L z) = 0
        · rw [if_neg c1, if_neg (by simpa using c2)] at ho
          rw [ho]
          have h0 := nxt_pos (nums_ok he).1
          have h1 := rowsGo_cnt _ _ _ _ hg
          rw [(nxt_said L).2, List.length_drop] at h1
          have g3 : (tg L z).1.length = _ := (rowsGo_said _ _ _ _ hg).2
          show (tg L z).1.length + 1 ≤ _
          rw [g3, List.length_nil]; omega
        · rw [if_neg c1, if_pos c2] at ho; rw [ho] at h; exact absurd h c2
    · rw [takeP_g he hg] at h; exact absurd h hg
  · rw [takeP_q he] at h; exact absurd h he
end Go.Proofs.YtdaenbgjafalcaaDoor
namespace Go.Proofs.YtdaenbgjafalcaaDoor
open Go.RowKit Go.Lib
def txL (T : List Tok3) : List (List UInt8) := T.map (·.2.2)
theorem txL_row (a c : Nat) (ts : List (Nat × List UInt8)) : txL (rowT (a, c, ts)) = ts.map (·.2) := by unfold txL rowT; rw [List.map_map]; rfl
theorem tk_nums : ∀ (ns : List Int) (k : Nat) {w : List UInt8}, w ≠ [] → (∀ b ∈ w, isSp b = false) → (tk k (w ++ ns.flatMap numB)).map (·.2) = w :: ns.map itoa
  | [], k, w, hn, hw => by rw [List.flatMap_nil, List.append_nil, tk_wend k hn hw]; rfl
  | x :: ns, k, w, hn, hw => by
    have e : w ++ (x :: ns).flatMap numB = w ++ 32 :: (itoa x ++ ns.flatMap numB) := by rw [List.flatMap_cons]; unfold numB; simp
    obtain ⟨k2, h⟩ := tk_wsp k hn hw (itoa x ++ ns.flatMap numB)
    have hx := itoa_word x
    rw [e, h, List.map_cons, tk_nums ns k2 hx.ne fun b hb => (hx.ok b hb).1]; rfl
theorem nGo_itoa {le z : Int} : ∀ (T : List Tok3) (ns : List Int) (bs : List (Int × Int)) (acc : List Int), txL T = ns.map itoa → bs.length = ns.length → (∀ p ∈ bs, p = (0, 1000000)) → (∀ x ∈ ns, 0 ≤ x ∧ x ≤ 1000000) → nGo le z T bs acc = (acc ++ ns, z, 0)
  | [], [], [], acc, _, _, _, _ => by rw [nGo, List.append_nil]
  | [], [], _ :: _, _, _, h, _, _ => by cases h
  | [], _ :: _, _, _, h, _, _, _ => by cases h
  | _ :: _, [], _, _, h, _, _, _ => by cases h
  | _ :: _, _ :: _, [], _, _, h, _, _ => by cases h
  | t :: T, x :: ns, b :: bs, acc, h, hl, hb, hx => by
    unfold txL at h
    rw [List.map_cons, List.map_cons] at h
    injection h with h1 h2
    have hp := hb b (by simp)
    have hx0 := hx x (by simp)
    subst hp
    have hr : numR t.2.2 0 1000000 = (x, 0) := by rw [h1]; exact numR_itoa hx0 ⟨by omega, by omega⟩
    rw [nGo, if_neg (by rw [hr]; simp), hr, nGo_itoa T ns bs _ h2 (by simpa using hl) (fun p hp => hb p (by simp [hp])) fun y hy => hx y (by simp [hy])]
    simp
theorem nums_itoa {T : List Tok3} {w : List UInt8} {a b c d z : Int} (h : txL T = w :: [a, b, c, d].map itoa) (hx : ∀ x ∈ [a, b, c, d], 0 ≤ x ∧ x ≤ 1000000) : T.length ≠ 0 ∧ nums T w lo4 hi4 z = ([a, b, c, d], z, 0) := by
  cases T with
  | nil => cases h
  | cons t T =>
    unfold txL at h
    rw [List.map_cons] at h
    injection h with h1 h2
    refine ⟨by simp, ?_⟩
    unfold nums
    rw [if_neg (by simp), if_neg (by simpa using h1)]
    exact nGo_itoa T [a, b, c, d] _ [] h2 rfl (fun p hp => by
      simp only [lo4, hi4, List.zip_cons_cons, List.zip_nil_left, List.mem_cons, List.not_mem_nil, or_false] at hp
      rcases hp with rfl | rfl | rfl | rfl <;> rfl) hx
theorem lns_lineB {c : UInt8} {w : List UInt8} (ns : List Int) (ln k : Nat) (rest : List UInt8) (hc : c ≠ 99) (hw : ∀ b ∈ c :: w, isSp b = false ∧ b ≠ 10) : ∃ T k2, (lns ln k (lineB (c :: w) ns ++ rest)).map rowT = T :: (lns (ln + 1) k2 rest).map rowT ∧ txL T = (c :: w) :: ns.map itoa := by
  have e : lineB (c :: w) ns ++ rest = ((c :: w) ++ ns.flatMap numB) ++ 10 :: rest := by unfold lineB; simp
  have hm : ∀ b ∈ (c :: w) ++ ns.flatMap numB, b ≠ 10 := fun b hb => by
    rcases List.mem_append.1 hb with hb | hb
    · exact (hw b hb).2
    · obtain ⟨x, _, hx⟩ := List.mem_flatMap.1 hb
      unfold numB at hx
      rcases List.mem_cons.1 hx with rfl | hx
      · decide
      · exact ((itoa_word x).ok b hx).2.1
  refine ⟨rowT (ln, k, lineTk ((c :: w) ++ ns.flatMap numB)), k + (((c :: w) ++ ns.flatMap numB).length + 1), ?_, ?_⟩
  · rw [e, lns_line ln k hm rest, List.map_cons]
  · have hlt : lineTk ((c :: w) ++ ns.flatMap numB) = _ := line_tk ⟨c, w ++ ns.flatMap numB, rfl, hc⟩
    rw [txL_row, hlt, tk_nums ns 0 (by simp) fun b hb => (hw b hb).1]
theorem nxt_cons {T : List Tok3} {L : List (List Tok3)} (h : T.length ≠ 0) : nxt (T :: L) = (T, L) := by rw [nxt, if_neg h]
theorem wRow_ok : ∀ b ∈ wRow, isSp b = false ∧ b ≠ 10 := by decide
theorem wObj_ok : ∀ b ∈ wObj, isSp b = false ∧ b ≠ 10 := by decide
theorem ob_sm {o : Ob} (he : obE o = 0) (hl : o.R.length ≤ 3000) : ObSm o := by
  obtain ⟨h1, h2⟩ := obE_zero.1 he
  unfold obHead at h1
  exact ⟨by omega, by omega, by omega, hl, fun i hi => by
    obtain ⟨g1, g2, g3, g4, _⟩ := obErr_zero (h2 i hi)
    omega⟩
end Go.Proofs.YtdaenbgjafalcaaDoor
namespace Go.Proofs.YtdaenbgjafalcaaDoor
open Go.RowKit Go.Lib
def HitT (e a : Int) (t : Tok3) : Prop := (e ≠ 4 ∧ t.2.1 = a) ∨ (e = 4 ∧ t.2.1 + ((t.2.2.length : Nat) : Int) = a)
def EdgeT (L : List (List Tok3)) (z a e : Int) : Prop := (e = 4 ∧ a = z) ∨ ∃ T ∈ L, ∃ t ∈ T, HitT e a t
theorem EdgeT.sub {L L' : List (List Tok3)} {z a e : Int} (h : EdgeT L z a e) (hs : ∀ T ∈ L, T ∈ L') : EdgeT L' z a e := by
  rcases h with h | ⟨T, hT, h⟩
  · exact .inl h
  · exact .inr ⟨T, hs T hT, h⟩
def Begins (L : List (List Tok3)) (p : Int) : Prop := ∃ T ∈ L, ∃ t ∈ T, t.2.1 = p
end Go.Proofs.YtdaenbgjafalcaaDoor
