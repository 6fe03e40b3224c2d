import Derived.Test.YtdaenbgjafalcaaDoorMgBK
import Derived.Test.YtdaenbgjafalcaaDoorMgAZ
import Derived.Test.YtdaenbgjafalcaaDoorMgAT
import Derived.Test.YtdaenbgjafalcaaDoorMgBJ
namespace Go.Proofs.YtdaenbgjafalcaaDoor
open Go.RowKit Go.Lib
def OfRows (L : List (List Tok3)) : Prop := ∃ rs : List (Nat × Nat × List (Nat × List UInt8)), L = rs.map rowT ∧ rs.length ≤ 1000000 ∧ ∀ r ∈ rs, r.2.2.length ≤ 1000000
theorem OfRows.nil : OfRows [] := ⟨[], rfl, by simp, by simp⟩
theorem OfRows.tail {x : List Tok3} {L : List (List Tok3)} (h : OfRows (x :: L)) : OfRows L := by
  obtain ⟨rs, h0, h1, h2⟩ := h
  cases rs with
  | nil => cases h0
  | cons r rs =>
    rw [List.map_cons] at h0
    injection h0 with h3 h4
    exact ⟨rs, h4, by rw [List.length_cons] at h1; omega, fun q hq => h2 q (List.mem_cons_of_mem _ hq)⟩
theorem OfRows.drop {L : List (List Tok3)} (h : OfRows L) (k : Nat) : OfRows (L.drop k) := by
  obtain ⟨rs, rfl, h1, h2⟩ := h
  exact ⟨rs.drop k, by rw [List.map_drop], by rw [List.length_drop]; omega, fun r hr => h2 r (List.mem_of_mem_drop hr)⟩
theorem OfRows.said {L : List (List Tok3)} (h : OfRows L) : OfRows (said L) := by
  obtain ⟨rs, rfl, h1, h2⟩ := h
  refine ⟨rs.filter fun r => decide ((rowT r).length ≠ 0), ?_, Nat.le_trans (List.length_filter_le _ _) h1, fun r hr => h2 r (List.mem_filter.1 hr).1⟩
  show List.filter _ _ = _
  rw [List.filter_map]; rfl
theorem OfRows.nxt : ∀ {L : List (List Tok3)}, OfRows L → OfRows (nxt L).2
  | [], _ => OfRows.nil
  | x :: L, h => by
    unfold Proofs.YtdaenbgjafalcaaDoor.nxt
    split
    · exact OfRows.nxt h.tail
    · exact h.tail
def RwSm (r : Rw) : Prop := (0 ≤ r.s ∧ r.s ≤ 1000000) ∧ (0 ≤ r.k ∧ r.k ≤ 1000000) ∧ (0 ≤ r.n ∧ r.n ≤ 1000000) ∧ (0 ≤ r.r ∧ r.r ≤ 1000000)
theorem rowsGo_sm {z : Int} : ∀ (m : Nat) (L : List (List Tok3)) (R : List Rw) (P : List Int), (rowsGo z m L R P).2.2.2.2 = 0 → (∀ r ∈ R, RwSm r) → m ≤ L.length ∧ ∀ r ∈ (rowsGo z m L R P).1, RwSm r
  | 0, L, R, P, _, hR => ⟨Nat.zero_le _, hR⟩
  | m + 1, L, R, P, h, hR => by
    by_cases he : (nums (nxt L).1 wRow lo4 hi4 z).2.2 = 0
    · rw [rowsGo_ok he] at h ⊢
      obtain ⟨k1, _, _, k4⟩ := nums_ok he
      have hn := nxt_lt L k1
      obtain ⟨h1, h2⟩ := rowsGo_sm m _ _ _ h (fun r hr => by
        rcases List.mem_append.1 hr with hr | hr
        · exact hR r hr
        · rw [List.mem_singleton] at hr; subst hr; exact ⟨k4 0, k4 1, k4 2, k4 3⟩)
      exact ⟨by omega, h2⟩
    · rw [rowsGo_bad he] at h; exact absurd h he
theorem takeP_sm {L : List (List Tok3)} {z : Int} (h : (takeP L z).2.2.2 = 0) : obE (takeP L z).1 = 0 ∧ (0 ≤ (takeP L z).1.S ∧ (takeP L z).1.S ≤ 1000000) ∧ (0 ≤ (takeP L z).1.K ∧ (takeP L z).1.K ≤ 1000000) ∧ (0 ≤ (takeP L z).1.I ∧ (takeP L z).1.I ≤ 1000000) ∧ (takeP L z).1.R.length + 1 ≤ L.length ∧ ∀ r ∈ (takeP L z).1.R, RwSm r := by
  by_cases he : (tq L z).2.2 = 0
  · by_cases hg : (tg L z).2.2.2.2 = 0
    · have ho := takeP_o he hg
      by_cases c1 : obE (tob L z) = 2
      · rw [if_pos c1] at ho; rw [ho] at h; cases h
      · by_cases c2 : obE (tob L z) = 0
        · rw [if_neg c1, if_neg (by simpa using c2)] at ho
          rw [ho]
          obtain ⟨k1, _, _, k4⟩ := nums_ok he
          have hn := nxt_lt L k1
          obtain ⟨g1, g2⟩ := rowsGo_sm _ _ _ _ hg (by simp)
          have g3 := (rowsGo_said _ _ _ _ hg).2
          refine ⟨c2, k4 0, k4 1, k4 2, ?_, g2⟩
          show (tg L z).1.length + 1 ≤ _
          have : (tg L z).1.length = _ := g3
          rw [this, List.length_nil]; omega
        · rw [if_neg c1, if_pos c2] at ho; rw [ho] at h; exact absurd h c2
    · rw [takeP_g he hg] at h; exact absurd h hg
  · rw [takeP_q he] at h; exact absurd h he
end Go.Proofs.YtdaenbgjafalcaaDoor
namespace Go.Proofs.YtdaenbgjafalcaaDoor
open Go.RowKit Go.Lib
def txL (T : List Tok3) : List (List UInt8) := T.map (·.2.2)
theorem txL_row (a c : Nat) (ts : List (Nat × List UInt8)) : txL (rowT (a, c, ts)) = ts.map (·.2) := by unfold txL rowT; rw [List.map_map]; rfl
theorem tk_nums : ∀ (ns : List Int) (k : Nat) {w : List UInt8}, w ≠ [] → (∀ b ∈ w, isSp b = false) → (tk k (w ++ ns.flatMap numB)).map (·.2) = w :: ns.map itoa
  | [], k, w, hn, hw => by rw [List.flatMap_nil, List.append_nil, tk_wend k hn hw]; rfl
  | x :: ns, k, w, hn, hw => by
    have e : w ++ (x :: ns).flatMap numB = w ++ 32 :: (itoa x ++ ns.flatMap numB) := by rw [List.flatMap_cons]; unfold numB; simp
    obtain ⟨k2, h⟩ := tk_wsp k hn hw (itoa x ++ ns.flatMap numB)
    have hx := itoa_word x
    rw [e, h, List.map_cons, tk_nums ns k2 hx.ne fun b hb => (hx.ok b hb).1]; rfl
theorem nGo_itoa {le z : Int} : ∀ (T : List Tok3) (ns : List Int) (bs : List (Int × Int)) (acc : List Int), txL T = ns.map itoa → bs.length = ns.length → (∀ p ∈ bs, p = (0, 1000000)) → (∀ x ∈ ns, 0 ≤ x ∧ x ≤ 1000000) → nGo le z T bs acc = (acc ++ ns, z, 0)
  | [], [], [], acc, _, _, _, _ => by rw [nGo, List.append_nil]
  | [], [], _ :: _, _, _, h, _, _ => by cases h
  | [], _ :: _, _, _, h, _, _, _ => by cases h
  | _ :: _, [], _, _, h, _, _, _ => by cases h
  | _ :: _, _ :: _, [], _, _, h, _, _ => by cases h
  | t :: T, x :: ns, b :: bs, acc, h, hl, hb, hx => by
    unfold txL at h
    rw [List.map_cons, List.map_cons] at h
    injection h with h1 h2
    have hp := hb b (by simp)
    have hx0 := hx x (by simp)
    subst hp
    have hr : numR t.2.2 0 1000000 = (x, 0) := by rw [h1]; exact numR_itoa hx0 ⟨by omega, by omega⟩
    rw [nGo, if_neg (by rw [hr]; simp), hr, nGo_itoa T ns bs _ h2 (by simpa using hl) (fun p hp => hb p (by simp [hp])) fun y hy => hx y (by simp [hy])]
    simp
theorem nums_itoa {T : List Tok3} {w : List UInt8} {a b c d z : Int} (h : txL T = w :: [a, b, c, d].map itoa) (hx : ∀ x ∈ [a, b, c, d], 0 ≤ x ∧ x ≤ 1000000) : T.length ≠ 0 ∧ nums T w lo4 hi4 z = ([a, b, c, d], z, 0) := by
  cases T with
  | nil => cases h
  | cons t T =>
    unfold txL at h
    rw [List.map_cons] at h
    injection h with h1 h2
    refine ⟨by simp, ?_⟩
    unfold nums
    rw [if_neg (by simp), if_neg (by simpa using h1)]
    exact nGo_itoa T [a, b, c, d] _ [] h2 rfl (fun p hp => by
      simp only [lo4, hi4, List.zip_cons_cons, List.zip_nil_left, List.mem_cons, List.not_mem_nil, or_false] at hp
      rcases hp with rfl | rfl | rfl | rfl <;> rfl) hx
theorem lns_lineB {c : UInt8} {w : List UInt8} (ns : List Int) (ln k : Nat) (rest : List UInt8) (hc : c ≠ 99) (hw : ∀ b ∈ c :: w, isSp b = false ∧ b ≠ 10) : ∃ T k2, (lns ln k (lineB (c :: w) ns ++ rest)).map rowT = T :: (lns (ln + 1) k2 rest).map rowT ∧ txL T = (c :: w) :: ns.map itoa := by
  have e : lineB (c :: w) ns ++ rest = ((c :: w) ++ ns.flatMap numB) ++ 10 :: rest := by unfold lineB; simp
  have hm : ∀ b ∈ (c :: w) ++ ns.flatMap numB, b ≠ 10 := fun b hb => by
    rcases List.mem_append.1 hb with hb | hb
    · exact (hw b hb).2
    · obtain ⟨x, _, hx⟩ := List.mem_flatMap.1 hb
      unfold numB at hx
      rcases List.mem_cons.1 hx with rfl | hx
      · decide
      · exact ((itoa_word x).ok b hx).2.1
  refine ⟨rowT (ln, k, lineTk ((c :: w) ++ ns.flatMap numB)), k + (((c :: w) ++ ns.flatMap numB).length + 1), ?_, ?_⟩
  · rw [e, lns_line ln k hm rest, List.map_cons]
  · have hlt : lineTk ((c :: w) ++ ns.flatMap numB) = _ := line_tk ⟨c, w ++ ns.flatMap numB, rfl, hc⟩
    rw [txL_row, hlt, tk_nums ns 0 (by simp) fun b hb => (hw b hb).1]
theorem nxt_cons {T : List Tok3} {L : List (List Tok3)} (h : T.length ≠ 0) : nxt (T :: L) = (T, L) := by rw [nxt, if_neg h]
theorem wRow_ok : ∀ b ∈ wRow, isSp b = false ∧ b ≠ 10 := by decide
theorem wObj_ok : ∀ b ∈ wObj, isSp b = false ∧ b ≠ 10 := by decide
theorem ob_sm {o : Ob} (he : obE o = 0) (hl : o.R.length ≤ 3000) : ObSm o := by
  obtain ⟨h1, h2⟩ := obE_zero.1 he
  unfold obHead at h1
  exact ⟨by omega, by omega, by omega, hl, fun i hi => by
    obtain ⟨g1, g2, g3, g4, _⟩ := obErr_zero (h2 i hi)
    omega⟩
end Go.Proofs.YtdaenbgjafalcaaDoor
namespace Go.Proofs.YtdaenbgjafalcaaDoor
open Go.RowKit Go.Lib
def HitT (e a : Int) (t : Tok3) : Prop := (e ≠ 4 ∧ t.2.1 = a) ∨ (e = 4 ∧ t.2.1 + ((t.2.2.length : Nat) : Int) = a)
def EdgeT (L : List (List Tok3)) (z a e : Int) : Prop := (e = 4 ∧ a = z) ∨ ∃ T ∈ L, ∃ t ∈ T, HitT e a t
theorem EdgeT.sub {L L' : List (List Tok3)} {z a e : Int} (h : EdgeT L z a e) (hs : ∀ T ∈ L, T ∈ L') : EdgeT L' z a e := by
  rcases h with h | ⟨T, hT, h⟩
  · exact .inl h
  · exact .inr ⟨T, hs T hT, h⟩
theorem getT_mem {T : List Tok3} {k : Nat} (h : k < T.length) : T.getD k tok0 ∈ T := by
  rw [List.getD_eq_getElem?_getD, List.getElem?_eq_getElem h]; exact List.getElem_mem h
theorem numR_ne4 (l : List UInt8) (lo hi : Int) : (numR l lo hi).2 ≠ 4 := by
  unfold numR
  split
  · exact (by decide : (5 : Int) ≠ 4)
  · split
    · exact (by decide : (0 : Int) ≠ 4)
    · exact (by decide : (7 : Int) ≠ 4)
theorem nGo_edge {T0 : List Tok3} {le z : Int} (hle : ∃ t ∈ T0, t.2.1 + ((t.2.2.length : Nat) : Int) = le) : ∀ (T : List Tok3) (bs : List (Int × Int)) (acc : List Int), (∀ t ∈ T, t ∈ T0) → (nGo le z T bs acc).2.2 ≠ 0 → ∃ t ∈ T0, HitT (nGo le z T bs acc).2.2 (nGo le z T bs acc).2.1 t
  | [], [], acc, _, h => by simp [nGo] at h
  | t :: _, [], _, hs, h => ⟨t, hs t (by simp), .inl ⟨by simp [nGo], by simp [nGo]⟩⟩
  | [], _ :: _, _, _, h => by
    obtain ⟨t, ht, h1⟩ := hle
    exact ⟨t, ht, .inr ⟨by simp [nGo], by simpa [nGo] using h1⟩⟩
  | t :: T, b :: bs, acc, hs, h => by
    rw [nGo] at h ⊢
    by_cases h1 : (numR t.2.2 b.1 b.2).2 ≠ 0
    · rw [if_pos h1]
      exact ⟨t, hs t (by simp), .inl ⟨numR_ne4 _ _ _, rfl⟩⟩
    · rw [if_neg h1] at h ⊢
      exact nGo_edge hle T bs _ (fun x hx => hs x (by simp [hx])) h
theorem nums_edge {T : List Tok3} {w : List UInt8} {lo hi : List Int} {z : Int} (h : (nums T w lo hi z).2.2 ≠ 0) : ((nums T w lo hi z).2.2 = 4 ∧ (nums T w lo hi z).2.1 = z) ∨ ∃ t ∈ T, HitT (nums T w lo hi z).2.2 (nums T w lo hi z).2.1 t := by
  unfold nums at h ⊢
  by_cases h0 : T.length = 0
  · rw [if_pos h0]; exact .inl ⟨rfl, rfl⟩
  · rw [if_neg h0] at h ⊢
    by_cases h1 : (T.getD 0 tok0).2.2 ≠ w
    · rw [if_pos h1]
      exact .inr ⟨_, getT_mem (by omega : 0 < T.length), .inl ⟨(by decide : (8 : Int) ≠ 4), rfl⟩⟩
    · rw [if_neg h1] at h ⊢
      exact .inr (nGo_edge ⟨_, getT_mem (by omega : T.length - 1 < T.length), rfl⟩ _ _ _ (fun t ht => List.mem_of_mem_drop ht) h)
theorem nxt_mem : ∀ {L : List (List Tok3)}, ((nxt L).1.length ≠ 0 → (nxt L).1 ∈ L) ∧ ∀ T ∈ (nxt L).2, T ∈ L
  | [] => ⟨fun h => absurd rfl h, fun T h => by cases h⟩
  | x :: L => by
    unfold nxt
    split
    · exact ⟨fun h => List.mem_cons_of_mem _ (nxt_mem.1 h), fun T h => List.mem_cons_of_mem _ (nxt_mem.2 T h)⟩
    · exact ⟨fun _ => by simp, fun T h => List.mem_cons_of_mem _ h⟩
theorem numsN_edge {L : List (List Tok3)} {w : List UInt8} {lo hi : List Int} {z : Int} (h : (nums (nxt L).1 w lo hi z).2.2 ≠ 0) : EdgeT L z (nums (nxt L).1 w lo hi z).2.1 (nums (nxt L).1 w lo hi z).2.2 := by
  rcases nums_edge h with h1 | ⟨t, ht, h1⟩
  · exact .inl h1
  · exact .inr ⟨_, nxt_mem.1 (fun h0 => by rw [List.length_eq_zero_iff.1 h0] at ht; cases ht), t, ht, h1⟩
def Begins (L : List (List Tok3)) (p : Int) : Prop := ∃ T ∈ L, ∃ t ∈ T, t.2.1 = p
theorem Begins.edge {L : List (List Tok3)} {p z e : Int} (h : Begins L p) (he : e ≠ 4) : EdgeT L z p e := by
  obtain ⟨T, hT, t, ht, h1⟩ := h
  exact .inr ⟨T, hT, t, ht, .inl ⟨he, h1⟩⟩
theorem nxt_begins {L : List (List Tok3)} (h : (nxt L).1.length ≠ 0) : Begins L ((nxt L).1.getD 0 tok0).2.1 := ⟨_, nxt_mem.1 h, _, getT_mem (by omega), rfl⟩
theorem rowsGo_edge {L0 : List (List Tok3)} {z : Int} : ∀ (m : Nat) (L : List (List Tok3)) (R : List Rw) (P : List Int), (∀ T ∈ L, T ∈ L0) → (∀ p ∈ P, Begins L0 p) →
    ((rowsGo z m L R P).2.2.2.2 ≠ 0 → EdgeT L0 z (rowsGo z m L R P).2.2.2.1 (rowsGo z m L R P).2.2.2.2) ∧ ((rowsGo z m L R P).2.2.2.2 = 0 → (∀ p ∈ (rowsGo z m L R P).2.1, Begins L0 p) ∧ (rowsGo z m L R P).2.1.length = P.length + m ∧ ∀ T ∈ (rowsGo z m L R P).2.2.1, T ∈ L0)
  | 0, L, R, P, hs, hP => ⟨fun h => absurd rfl h, fun _ => ⟨hP, rfl, hs⟩⟩
  | m + 1, L, R, P, hs, hP => by
    by_cases he : (nums (nxt L).1 wRow lo4 hi4 z).2.2 = 0
    · rw [rowsGo_ok he]
      obtain ⟨h1, h2⟩ := rowsGo_edge (L0 := L0) (z := z) m (nxt L).2 (R ++ [rwOf (nums (nxt L).1 wRow lo4 hi4 z).1]) (P ++ [((nxt L).1.getD 0 tok0).2.1]) (fun T hT => hs T (nxt_mem.2 T hT)) (fun p hp => by
        rcases List.mem_append.1 hp with hp | hp
        · exact hP p hp
        · rw [List.mem_singleton] at hp; subst hp
          obtain ⟨T, hT, h⟩ := nxt_begins (nums_ok he).1
          exact ⟨T, hs T hT, h⟩)
      refine ⟨h1, fun h => ?_⟩
      obtain ⟨h3, h4, h5⟩ := h2 h
      exact ⟨h3, by rw [h4, List.length_append, List.length_singleton]; omega, h5⟩
    · rw [rowsGo_bad he]
      exact ⟨fun _ => (numsN_edge he).sub hs, fun h => absurd h he⟩
theorem obErr_ne4 (o : Ob) (i : Nat) : obErr o i ≠ 4 := by
  unfold obErr
  split
  · decide
  · split
    · decide
    · split
      · decide
      · split <;> decide
theorem obE_ne4 (o : Ob) : obE o ≠ 4 := by
  unfold obE
  split
  · split
    · exact obErr_ne4 _ _
    · decide
  · decide
theorem takeP_edge {L : List (List Tok3)} {z : Int} : ((takeP L z).2.2.2 ≠ 0 → EdgeT L z (takeP L z).2.2.1 (takeP L z).2.2.2) ∧ ∀ T ∈ (takeP L z).2.1, T ∈ L := by
  by_cases he : (tq L z).2.2 = 0
  · obtain ⟨g1, g2⟩ := rowsGo_edge (L0 := L) (z := z) ((tq L z).1.getD 3 0).toNat (nxt L).2 [] [] nxt_mem.2 (by simp)
    by_cases hg : (tg L z).2.2.2.2 = 0
    · rw [takeP_o he hg]
      obtain ⟨g3, g4, g5⟩ := g2 hg
      have hlen := (rowsGo_said _ _ _ _ (show (rowsGo z ((tq L z).1.getD 3 0).toNat (nxt L).2 [] []).2.2.2.2 = 0 from hg)).2
      by_cases c1 : obE (tob L z) = 2
      · rw [if_pos c1]
        exact ⟨fun _ => (nxt_begins (nums_ok he).1).edge (by show (2 : Int) ≠ 4; decide), fun T h => by cases h⟩
      · rw [if_neg c1]
        by_cases c2 : obE (tob L z) ≠ 0
        · rw [if_pos c2]
          refine ⟨fun _ => Begins.edge ?_ (obE_ne4 _), fun T h => by cases h⟩
          obtain ⟨a1, a2⟩ := ob_at c2 c1
          have a3 : (tob L z).R.length = (tg L z).2.1.length := by
            show (rowsGo z ((tq L z).1.getD 3 0).toNat (nxt L).2 [] []).1.length = (rowsGo z ((tq L z).1.getD 3 0).toNat (nxt L).2 [] []).2.1.length
            rw [hlen, g4]; rfl
          refine g3 _ ?_
          show (tg L z).2.1.getD (obAt (tob L z)).toNat 0 ∈ (tg L z).2.1
          rw [List.getD_eq_getElem?_getD, List.getElem?_eq_getElem (by omega)]; exact List.getElem_mem _
        · rw [if_neg c2]
          exact ⟨fun h => absurd rfl h, g5⟩
    · rw [takeP_g he hg]
      exact ⟨fun _ => g1 hg, fun T h => by cases h⟩
  · rw [takeP_q he]
    exact ⟨fun _ => numsN_edge he, fun T h => by cases h⟩
end Go.Proofs.YtdaenbgjafalcaaDoor
