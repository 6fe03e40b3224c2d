import Derived.Test.YtdaenbgjafalcaaDoorMgBO
import Derived.Test.YtdaenbgjafalcaaDoorMgBR
namespace Go.Proofs.YtdaenbgjafalcaaDoor
open Go.RowKit Go.Lib
theorem tok0_mem {T : List Tok3} (h : T.length ≠ 0) : T.getD 0 tok0 ∈ T := getT_mem (by omega)
theorem nums_edgeN {T : List Tok3} {w : List UInt8} {lo hi : List Int} {z : Int} (h0 : T.length ≠ 0) (h : (nums T w lo hi z).2.2 ≠ 0) : ∃ t ∈ T, HitT (nums T w lo hi z).2.2 (nums T w lo hi z).2.1 t := by
  unfold nums at h ⊢
  rw [if_neg h0] at h ⊢
  by_cases h1 : (T.getD 0 tok0).2.2 ≠ w
  · rw [if_pos h1]
    exact ⟨_, tok0_mem h0, .inl ⟨(by decide : (8 : Int) ≠ 4), rfl⟩⟩
  · rw [if_neg h1] at h ⊢
    exact nGo_edge ⟨_, getT_mem (by omega : T.length - 1 < T.length), rfl⟩ _ _ _ (fun t ht => List.mem_of_mem_drop ht) h
theorem evOne_edge {K z : Int} {es : List Ev3} {T : List Tok3} (h0 : T.length ≠ 0) (h : (evOne K z es T).2.2 ≠ 0) : ∃ t ∈ T, HitT (evOne K z es T).2.2 (evOne K z es T).2.1 t := by
  unfold evOne at h ⊢
  by_cases h1 : (T.getD 0 tok0).2.2 ≠ wCall ∧ (T.getD 0 tok0).2.2 ≠ wRet
  · rw [if_pos h1]; exact ⟨_, tok0_mem h0, .inl ⟨(by decide : (8 : Int) ≠ 4), rfl⟩⟩
  · rw [if_neg h1] at h ⊢
    by_cases h2 : (evN K z T).2.2 ≠ 0
    · rw [if_pos h2]; exact nums_edgeN h0 h2
    · rw [if_neg h2] at h ⊢
      by_cases h3 : (eLast es es.length ((evN K z T).1.getD 0 0) = 1) ↔ evW T = 1
      · rw [if_pos h3]; exact ⟨_, tok0_mem h0, .inl ⟨(by decide : (33 : Int) ≠ 4), rfl⟩⟩
      · rw [if_neg h3] at h ⊢
        by_cases h4 : es.length = 10000
        · rw [if_pos h4]; exact ⟨_, tok0_mem h0, .inl ⟨(by decide : (3 : Int) ≠ 4), rfl⟩⟩
        · rw [if_neg h4] at h; exact absurd rfl h
theorem evsGo_edge {K z : Int} : ∀ (L : List (List Tok3)) (es : List Ev3), (evsGo K z L es).2.2 ≠ 0 → EdgeT L z (evsGo K z L es).2.1 (evsGo K z L es).2.2
  | [], es, h => absurd rfl h
  | T :: L, es, h => by
    by_cases h1 : T.length = 0
    · rw [evsGo_nil h1] at h ⊢; exact (evsGo_edge L es h).sub fun T hT => List.mem_cons_of_mem _ hT
    · by_cases h2 : (evOne K z es T).2.2 = 0
      · rw [evsGo_ok h1 h2] at h ⊢; exact (evsGo_edge L _ h).sub fun T hT => List.mem_cons_of_mem _ hT
      · rw [evsGo_bad h1 h2]
        exact .inr ⟨T, by simp, evOne_edge h1 h2⟩
theorem hps_edge {L : List (List Tok3)} {z : Int} : ((hps L z).2.2.2 = 0 → (hps L z).2.2.1 = z) ∧ ((hps L z).2.2.2 ≠ 0 → EdgeT L z (hps L z).2.2.1 (hps L z).2.2.2) := by
  obtain ⟨t1, t2⟩ := takeP_edge (L := L) (z := z)
  by_cases h1 : (takeP L z).2.2.2 = 0
  · by_cases h2 : (evsGo (takeP L z).1.K z (takeP L z).2.1 []).2.2 = 0
    · rw [hps_o h1 h2]; exact ⟨fun _ => rfl, fun h => absurd rfl h⟩
    · rw [hps_e h1 h2]; exact ⟨fun h => absurd h h2, fun _ => (evsGo_edge _ _ h2).sub t2⟩
  · rw [hps_t h1]; exact ⟨fun h => absurd h h1, fun _ => t1 h1⟩
theorem rowsGo_congr {z : Int} : ∀ (m : Nat) (L L' : List (List Tok3)) (R : List Rw) (P : List Int), said L = said L' → (rowsGo z m L R P).1 = (rowsGo z m L' R P).1 ∧ (rowsGo z m L R P).2.1 = (rowsGo z m L' R P).2.1 ∧ said (rowsGo z m L R P).2.2.1 = said (rowsGo z m L' R P).2.2.1 ∧ (rowsGo z m L R P).2.2.2 = (rowsGo z m L' R P).2.2.2
  | 0, L, L', R, P, h => ⟨rfl, rfl, h, rfl⟩
  | m + 1, L, L', R, P, h => by
    have h1 : (nxt L).1 = (nxt L').1 := by rw [← (nxt_said L).1, ← (nxt_said L').1, h]
    have h2 : said (nxt L).2 = said (nxt L').2 := by rw [(nxt_said L).2, (nxt_said L').2, h]
    by_cases he : (nums (nxt L).1 wRow lo4 hi4 z).2.2 = 0
    · rw [rowsGo_ok he, rowsGo_ok (by rw [← h1]; exact he), ← h1]
      exact rowsGo_congr m _ _ _ _ h2
    · rw [rowsGo_bad he, rowsGo_bad (by rw [← h1]; exact he), ← h1]
      exact ⟨rfl, rfl, rfl, rfl⟩
theorem takeP_congr {L L' : List (List Tok3)} {z : Int} (h : said L = said L') : (takeP L z).1 = (takeP L' z).1 ∧ said (takeP L z).2.1 = said (takeP L' z).2.1 ∧ (takeP L z).2.2 = (takeP L' z).2.2 := by
  have h1 : (nxt L).1 = (nxt L').1 := by rw [← (nxt_said L).1, ← (nxt_said L').1, h]
  have h2 : said (nxt L).2 = said (nxt L').2 := by rw [(nxt_said L).2, (nxt_said L').2, h]
  have hq : tq L z = tq L' z := by unfold tq; rw [h1]
  obtain ⟨g1, g2, g3, g4⟩ := rowsGo_congr (z := z) ((tq L z).1.getD 3 0).toNat _ _ [] [] h2
  have e1 : (tg L z).1 = (tg L' z).1 := by unfold tg; rw [← hq]; exact g1
  have e2 : (tg L z).2.1 = (tg L' z).2.1 := by unfold tg; rw [← hq]; exact g2
  have e3 : said (tg L z).2.2.1 = said (tg L' z).2.2.1 := by unfold tg; rw [← hq]; exact g3
  have e4 : (tg L z).2.2.2 = (tg L' z).2.2.2 := by unfold tg; rw [← hq]; exact g4
  have eo : tob L z = tob L' z := by unfold tob; rw [hq, e1]
  by_cases he : (tq L z).2.2 = 0
  · by_cases hg : (tg L z).2.2.2.2 = 0
    · rw [takeP_o he hg, takeP_o (by rw [← hq]; exact he) (by rw [← e4]; exact hg), eo, h1, e2]
      split
      · exact ⟨rfl, rfl, rfl⟩
      · split
        · exact ⟨rfl, rfl, rfl⟩
        · exact ⟨rfl, e3, rfl⟩
    · rw [takeP_g he hg, takeP_g (by rw [← hq]; exact he) (by rw [← e4]; exact hg), e4]
      exact ⟨rfl, rfl, rfl⟩
  · rw [takeP_q he, takeP_q (by rw [← hq]; exact he), hq]
    exact ⟨rfl, rfl, rfl⟩
theorem hps_congr {L L' : List (List Tok3)} {z : Int} (h : said L = said L') : hps L z = hps L' z := by
  obtain ⟨h1, h2, h3⟩ := takeP_congr (z := z) h
  unfold hps
  rw [← evsGo_said (takeP L z).2.1, ← evsGo_said (takeP L' z).2.1, h1, h2, h3]
theorem nGo_z {le z z' : Int} : ∀ (T : List Tok3) (bs : List (Int × Int)) (acc : List Int), (nGo le z T bs acc).1 = (nGo le z' T bs acc).1 ∧ (nGo le z T bs acc).2.2 = (nGo le z' T bs acc).2.2 ∧ ((nGo le z T bs acc).2.2 ≠ 0 → (nGo le z T bs acc).2.1 = (nGo le z' T bs acc).2.1)
  | [], [], acc => ⟨rfl, rfl, fun h => absurd rfl h⟩
  | t :: _, [], _ => ⟨rfl, rfl, fun _ => rfl⟩
  | [], _ :: _, _ => ⟨rfl, rfl, fun _ => rfl⟩
  | t :: T, b :: bs, acc => by
    rw [nGo, nGo]
    split
    · exact ⟨rfl, rfl, fun _ => rfl⟩
    · exact nGo_z T bs _
theorem nums_z {T : List Tok3} {w : List UInt8} {lo hi : List Int} {z : Int} (z' : Int) (h : T.length ≠ 0) : (nums T w lo hi z).1 = (nums T w lo hi z').1 ∧ (nums T w lo hi z).2.2 = (nums T w lo hi z').2.2 ∧ ((nums T w lo hi z).2.2 ≠ 0 → (nums T w lo hi z).2.1 = (nums T w lo hi z').2.1) := by
  unfold nums
  rw [if_neg h, if_neg h]
  split
  · exact ⟨rfl, rfl, fun _ => rfl⟩
  · exact nGo_z _ _ _
theorem nums_nil4 {T : List Tok3} {w : List UInt8} {lo hi : List Int} {z : Int} (h : T.length = 0) : (nums T w lo hi z).2.2 = 4 := by unfold nums; rw [if_pos h]
theorem nxt_app {L L2 : List (List Tok3)} (h : (nxt L).1.length ≠ 0) : nxt (L ++ L2) = ((nxt L).1, (nxt L).2 ++ L2) := by
  induction L with
  | nil => exact absurd rfl h
  | cons x L ih =>
    rw [List.cons_append]
    unfold nxt at h ⊢
    by_cases h1 : x.length = 0
    · rw [if_pos h1] at h; rw [if_pos h1, if_pos h1]; exact ih h
    · rw [if_neg h1, if_neg h1]
theorem rowsGo_app {z z' : Int} {L2 : List (List Tok3)} : ∀ (m : Nat) (L : List (List Tok3)) (R : List Rw) (P : List Int),
    ((rowsGo z m L R P).2.2.2.2 = 0 → rowsGo z' m (L ++ L2) R P = ((rowsGo z m L R P).1, (rowsGo z m L R P).2.1, (rowsGo z m L R P).2.2.1 ++ L2, z', 0)) ∧
    ((rowsGo z m L R P).2.2.2.2 ≠ 0 → (rowsGo z m L R P).2.2.2.2 ≠ 4 → (rowsGo z' m (L ++ L2) R P).2.2.2 = (rowsGo z m L R P).2.2.2)
  | 0, L, R, P => ⟨fun _ => rfl, fun h => absurd rfl h⟩
  | m + 1, L, R, P => by
    by_cases hn : (nxt L).1.length = 0
    · have h4 : (nums (nxt L).1 wRow lo4 hi4 z).2.2 = 4 := nums_nil4 hn
      rw [rowsGo_bad (by rw [h4]; decide)]
      exact ⟨fun h => by dsimp only at h; rw [h4] at h; exact absurd h (by decide), fun _ h => absurd h4 h⟩
    · have hx := nxt_app (L2 := L2) hn
      obtain ⟨n1, n2, n3⟩ := nums_z (w := wRow) (lo := lo4) (hi := hi4) (z := z) z' hn
      by_cases he : (nums (nxt L).1 wRow lo4 hi4 z).2.2 = 0
      · rw [rowsGo_ok he, rowsGo_ok (by rw [hx, ← n2]; exact he), hx, ← n1]
        exact rowsGo_app m _ _ _
      · rw [rowsGo_bad he, rowsGo_bad (by rw [hx, ← n2]; exact he), hx]
        exact ⟨fun h => absurd h he, fun _ _ => by dsimp only; rw [n3 he, n2]⟩
theorem takeP_app {z z' : Int} {L L2 : List (List Tok3)} : ((takeP L z).2.2.2 = 0 → takeP (L ++ L2) z' = ((takeP L z).1, (takeP L z).2.1 ++ L2, z', 0)) ∧ ((takeP L z).2.2.2 ≠ 0 → (takeP L z).2.2.2 ≠ 4 → (takeP (L ++ L2) z').2.2 = (takeP L z).2.2) := by
  by_cases hn : (nxt L).1.length = 0
  · have h4 : (tq L z).2.2 = 4 := nums_nil4 hn
    rw [takeP_q (by rw [h4]; decide)]
    exact ⟨fun h => by dsimp only at h; rw [h4] at h; exact absurd h (by decide), fun _ h => absurd h4 h⟩
  · have hx := nxt_app (L2 := L2) hn
    obtain ⟨n1, n2, n3⟩ := nums_z (w := wObj) (lo := lo4) (hi := hi4) (z := z) z' hn
    have q1 : (tq (L ++ L2) z').1 = (tq L z).1 := by unfold tq; rw [hx]; exact n1.symm
    have q2 : (tq (L ++ L2) z').2.2 = (tq L z).2.2 := by unfold tq; rw [hx]; exact n2.symm
    by_cases he : (tq L z).2.2 = 0
    · obtain ⟨g1, g2⟩ := rowsGo_app (z := z) (z' := z') (L2 := L2) ((tq L z).1.getD 3 0).toNat (nxt L).2 [] []
      have hg0 : tg (L ++ L2) z' = rowsGo z' ((tq L z).1.getD 3 0).toNat ((nxt L).2 ++ L2) [] [] := by unfold tg; rw [q1, hx]
      by_cases hg : (tg L z).2.2.2.2 = 0
      · have g1 := g1 hg
        have hg1 : tg (L ++ L2) z' = ((tg L z).1, (tg L z).2.1, (tg L z).2.2.1 ++ L2, z', 0) := by rw [hg0]; exact g1
        have eo : tob (L ++ L2) z' = tob L z := by unfold tob; rw [q1, hg1]
        rw [takeP_o he hg, takeP_o (by rw [q2]; exact he) (by rw [hg1]), eo, hx, hg1]
        split
        · exact ⟨fun h => absurd (show (2 : Int) = 0 from h) (by decide), fun _ _ => rfl⟩
        · split
          · rename_i c2; exact ⟨fun h => absurd h c2, fun _ _ => rfl⟩
          · exact ⟨fun _ => rfl, fun h => absurd rfl h⟩
      · have g2 := g2 hg
        rw [takeP_g he hg]
        refine ⟨fun h => absurd h hg, fun _ h4 => ?_⟩
        have g3 : (tg (L ++ L2) z').2.2.2 = (tg L z).2.2.2 := by rw [hg0]; exact g2 h4
        rw [takeP_g (by rw [q2]; exact he) (by rw [g3]; exact hg), g3]
    · rw [takeP_q he]
      refine ⟨fun h => absurd h he, fun _ _ => ?_⟩
      rw [takeP_q (by rw [q2]; exact he)]
      have : (tq (L ++ L2) z').2 = (tq L z).2 := by
        have a1 : (tq (L ++ L2) z').2.1 = (tq L z).2.1 := by unfold tq; rw [hx]; exact (n3 he).symm
        exact Prod.ext a1 q2
      show (tq (L ++ L2) z').2 = (tq L z).2
      exact this
theorem evOne_z {K z : Int} (z' : Int) {es : List Ev3} {T : List Tok3} (h : T.length ≠ 0) : (evOne K z es T).1 = (evOne K z' es T).1 ∧ (evOne K z es T).2.2 = (evOne K z' es T).2.2 ∧ ((evOne K z es T).2.2 ≠ 0 → (evOne K z es T).2.1 = (evOne K z' es T).2.1) := by
  obtain ⟨n1, n2, n3⟩ := nums_z (w := (T.getD 0 tok0).2.2) (lo := [1, 0]) (hi := [1000, evHi K T]) (z := z) z' h
  have n1 : (evN K z T).1 = (evN K z' T).1 := n1
  have n2 : (evN K z T).2.2 = (evN K z' T).2.2 := n2
  have n3 : (evN K z T).2.2 ≠ 0 → (evN K z T).2.1 = (evN K z' T).2.1 := n3
  unfold evOne
  rw [← n1, ← n2]
  split
  · exact ⟨rfl, rfl, fun _ => rfl⟩
  · split
    · rename_i h2; exact ⟨rfl, rfl, fun _ => n3 h2⟩
    · split
      · exact ⟨rfl, rfl, fun _ => rfl⟩
      · split
        · exact ⟨rfl, rfl, fun _ => rfl⟩
        · exact ⟨rfl, rfl, fun h => absurd rfl h⟩
theorem evsGo_app {K z z' : Int} {L2 : List (List Tok3)} : ∀ (L : List (List Tok3)) (es : List Ev3), (evsGo K z L es).2.2 ≠ 0 → (evsGo K z' (L ++ L2) es).2 = (evsGo K z L es).2
  | [], es, h => absurd rfl h
  | T :: L, es, h => by
    rw [List.cons_append]
    by_cases h1 : T.length = 0
    · rw [evsGo_nil h1] at h ⊢; rw [evsGo_nil h1]; exact evsGo_app L es h
    · obtain ⟨n1, n2, n3⟩ := evOne_z (K := K) (z := z) z' (es := es) h1
      by_cases h2 : (evOne K z es T).2.2 = 0
      · rw [evsGo_ok h1 h2] at h ⊢
        rw [evsGo_ok h1 (by rw [← n2]; exact h2), ← n1]
        exact evsGo_app L _ h
      · rw [evsGo_bad h1 h2, evsGo_bad h1 (by rw [← n2]; exact h2)]
        dsimp only; rw [n3 h2, n2]
theorem hps_app {z z' : Int} {L L2 : List (List Tok3)} (h : (hps L z).2.2.2 ≠ 0) (h4 : (hps L z).2.2.2 ≠ 4) : (hps (L ++ L2) z').2.2 = (hps L z).2.2 := by
  obtain ⟨t1, t2⟩ := takeP_app (z := z) (z' := z') (L := L) (L2 := L2)
  by_cases h1 : (takeP L z).2.2.2 = 0
  · have t1 := t1 h1
    by_cases h2 : (evsGo (takeP L z).1.K z (takeP L z).2.1 []).2.2 = 0
    · rw [hps_o h1 h2] at h; exact absurd rfl h
    · have h3 := evsGo_app (K := (takeP L z).1.K) (z := z) (z' := z') (L2 := L2) (takeP L z).2.1 [] h2
      rw [hps_e h1 h2, hps_e (by rw [t1]) (by rw [t1]; dsimp only; rw [h3]; exact h2), t1]
      dsimp only; rw [h3]
  · rw [hps_t h1] at h4 ⊢
    have t2 := t2 h1 h4
    rw [hps_t (by rw [t2]; exact h1), t2]
theorem lnLen_cons (b : UInt8) (l : List UInt8) : lnLen (b :: l) = if noNl b = true then lnLen l + 1 else 0 := by
  unfold lnLen
  rw [List.takeWhile_cons]
  split <;> simp
theorem lnLen_take : ∀ (l : List UInt8) (q : Nat), q ≤ lnLen l → lnLen (l.take q) = q
  | [], q, h => by
    have : q = 0 := by simpa [lnLen] using h
    subst this; rfl
  | b :: l, 0, h => rfl
  | b :: l, q + 1, h => by
    rw [lnLen_cons] at h
    rw [List.take_succ_cons, lnLen_cons]
    split at h
    · rename_i hb
      rw [if_pos hb, lnLen_take l q (by omega)]
    · omega
theorem lnLen_take2 : ∀ (l : List UInt8) (q : Nat), lnLen l < q → lnLen l < l.length → lnLen (l.take q) = lnLen l
  | [], q, h, h2 => by simp at h2
  | b :: l, 0, h, _ => by omega
  | b :: l, q + 1, h, h2 => by
    rw [lnLen_cons] at h h2
    rw [List.take_succ_cons, lnLen_cons, lnLen_cons]
    rw [List.length_cons] at h2
    split at h
    · rename_i hb
      rw [if_pos hb] at h2
      rw [if_pos hb, if_pos hb, lnLen_take2 l q (by omega) (by omega)]
    · rename_i hb
      rw [if_neg hb, if_neg hb]
theorem lns_cons {ln k : Nat} {l : List UInt8} (h : l ≠ []) : lns ln k l = (ln, k, lineTk (l.take (lnLen l))) :: lns (ln + 1) (k + (lnLen l + 1)) (l.drop (lnLen l + 1)) := by
  cases l with
  | nil => exact absurd rfl h
  | cons c r => rw [lns]
theorem lns_cut : ∀ (n ln k : Nat) (l : List UInt8), l.length ≤ n → ∀ i, i < (lns ln k l).length → ∃ (c : Nat) (m : List UInt8), ((lns ln k l).getD i (0, 0, [])).2.1 = k + c ∧ ((lns ln k l).getD i (0, 0, [])).2.2 = lineTk m ∧ ∀ q, q ≤ m.length → ∃ a d, lns ln k (l.take (c + q)) = (lns ln k l).take i ++ (if q = 0 then [] else [(a, d, lineTk (m.take q))])
  | 0, ln, k, l, h, i, hi => by
    have : l = [] := List.length_eq_zero_iff.1 (by omega)
    subst this; rw [lns_nil] at hi; simp at hi
  | n + 1, ln, k, l, h, i, hi => by
    by_cases hl : l = []
    · subst hl; rw [lns_nil] at hi; simp at hi
    · have hcons := lns_cons (ln := ln) (k := k) hl
      have hle := lnLen_le l
      have hpos : 0 < l.length := List.length_pos_iff.2 hl
      rw [hcons] at hi ⊢
      cases i with
      | zero =>
        refine ⟨0, l.take (lnLen l), rfl, rfl, fun q hq => ⟨ln, k, ?_⟩⟩
        rw [List.length_take] at hq
        rw [Nat.zero_add, List.take_zero, List.nil_append]
        by_cases h0 : q = 0
        · subst h0; rw [List.take_zero, lns_nil, if_pos rfl]
        · rw [if_neg h0]
          have hne : l.take q ≠ [] := by intro e; have := congrArg List.length e; rw [List.length_take, List.length_nil] at this; omega
          rw [lns_cons hne, lnLen_take l q (by omega), List.take_take, Nat.min_self, List.take_take, show min q (lnLen l) = q by omega]
          have e2 : (l.take q).drop (q + 1) = [] := List.drop_of_length_le (by rw [List.length_take]; omega)
          rw [e2, lns_nil]
      | succ i =>
        rw [List.length_cons] at hi
        have hlt : lnLen l < l.length := by
          rcases Nat.lt_or_ge (lnLen l) l.length with h1 | h1
          · exact h1
          · have : l.drop (lnLen l + 1) = [] := List.drop_of_length_le (by omega)
            rw [this, lns_nil] at hi; simp at hi
        obtain ⟨c, m, g1, g2, g3⟩ := lns_cut n (ln + 1) (k + (lnLen l + 1)) (l.drop (lnLen l + 1)) (by rw [List.length_drop]; omega) i (by omega)
        refine ⟨lnLen l + 1 + c, m, ?_, ?_, fun q hq => ?_⟩
        · rw [List.getD_cons_succ, g1]; omega
        · rw [List.getD_cons_succ, g2]
        · obtain ⟨a, d, g4⟩ := g3 q hq
          refine ⟨a, d, ?_⟩
          have hne : l.take (lnLen l + 1 + c + q) ≠ [] := by intro e; have := congrArg List.length e; rw [List.length_take, List.length_nil] at this; omega
          have e1 : lnLen (l.take (lnLen l + 1 + c + q)) = lnLen l := lnLen_take2 l _ (by omega) hlt
          rw [lns_cons hne, e1, List.take_take, show min (lnLen l) (lnLen l + 1 + c + q) = lnLen l by omega, List.take_succ_cons, List.cons_append]
          have e2 : (l.take (lnLen l + 1 + c + q)).drop (lnLen l + 1) = (l.drop (lnLen l + 1)).take (c + q) := by
            rw [List.drop_take]; congr 1; omega
          rw [e2, g4]
theorem tk_ahead : ∀ (x : List UInt8) (k q : Nat) (w : List UInt8) (rest : List (Nat × List UInt8)), tk k x = (k + q, w) :: rest → q ≤ x.length ∧ tk k (x.take q) = []
  | [], k, q, w, rest, h => by rw [tk_nil] at h; cases h
  | c :: r, k, q, w, rest, h => by
    cases hs : isSp c with
    | true =>
      rw [tk_sp hs] at h
      cases q with
      | zero =>
        exfalso
        have hge : ∀ (n k : Nat) (x : List UInt8), x.length ≤ n → ∀ t ∈ tk k x, k ≤ t.1 := by
          intro n
          induction n with
          | zero => intro k x h t ht; have : x = [] := List.length_eq_zero_iff.1 (by omega); subst this; rw [tk_nil] at ht; cases ht
          | succ n ih =>
            intro k x h t ht
            cases x with
            | nil => rw [tk_nil] at ht; cases ht
            | cons c r =>
              rw [List.length_cons] at h
              cases hs : isSp c with
              | true => rw [tk_sp hs] at ht; have := ih (k + 1) r (by omega) t ht; omega
              | false =>
                rw [tk_word hs] at ht
                rcases List.mem_cons.1 ht with rfl | ht
                · exact Nat.le_refl _
                · have hd := (List.dropWhile_sublist noSp (l := r)).length_le
                  have := ih _ _ (by omega) t ht; omega
        have := hge r.length (k + 1) r (Nat.le_refl _) (k + 0, w) (by rw [h]; simp)
        simp at this
        omega
      | succ q =>
        obtain ⟨h1, h2⟩ := tk_ahead r (k + 1) q w rest (by rw [h]; congr 2; omega)
        refine ⟨by rw [List.length_cons]; omega, ?_⟩
        rw [List.take_succ_cons, tk_sp hs]; exact h2
    | false =>
      rw [tk_word hs] at h
      injection h with h1 _
      have : q = 0 := by have := congrArg Prod.fst h1; simp at this; omega
      subst this
      exact ⟨Nat.zero_le _, by rw [List.take_zero, tk_nil]⟩
theorem lnsT_cut {l : List UInt8} {i : Nat} (hi : i < (lnsT l).length) (h0 : ((lnsT l).getD i []).length ≠ 0) : ∃ p : Nat, (((lnsT l).getD i []).getD 0 tok0).2.1 = (p : Int) ∧ p ≤ l.length ∧ said (lnsT (l.take p)) = said ((lnsT l).take i) := by
  have hi' : i < (lns 1 0 l).length := by unfold lnsT at hi; rw [List.length_map] at hi; exact hi
  obtain ⟨c, m, g1, g2, g3⟩ := lns_cut l.length 1 0 l (Nat.le_refl _) i hi'
  have hrow : (lnsT l).getD i [] = rowT ((lns 1 0 l).getD i (0, 0, [])) := by
    unfold lnsT
    rw [List.getD_eq_getElem?_getD, List.getD_eq_getElem?_getD, List.getElem?_map, List.getElem?_eq_getElem hi']; rfl
  rw [hrow] at h0 ⊢
  have hmem : ∀ t ∈ rowT ((lns 1 0 l).getD i (0, 0, [])), t.2.1 ≤ l.length := fun t ht => (chain_mem (chain_rows _ _ _ (lns_rows l)) t (by
    unfold allT
    exact List.mem_flatMap.2 ⟨(lns 1 0 l).getD i (0, 0, []), by rw [List.getD_eq_getElem?_getD, List.getElem?_eq_getElem hi']; exact List.getElem_mem hi', ht⟩)).2.1
  generalize (lns 1 0 l).getD i (0, 0, []) = r at *
  obtain ⟨a, st, ts⟩ := r
  dsimp only at g1 g2
  subst g1 g2
  have hts : (rowT (a, 0 + c, lineTk m)).length = (lineTk m).length := rowT_length _ _ _
  rw [hts] at h0
  have hr : remark m = false := by
    cases e : remark m with
    | false => rfl
    | true => unfold lineTk at h0; rw [e, if_pos rfl] at h0; simp at h0
  have he : lineTk m = tk 0 m := by unfold lineTk; rw [hr]; rfl
  rw [he] at h0 ⊢
  obtain ⟨⟨q, w⟩, rest, hk⟩ : ∃ x rest, tk 0 m = x :: rest := by
    cases hk : tk 0 m with
    | nil => rw [hk] at h0; exact absurd rfl h0
    | cons x rest => exact ⟨x, rest, rfl⟩
  obtain ⟨h1, h2⟩ := tk_ahead m 0 q w rest (by rw [hk, Nat.zero_add])
  obtain ⟨b, d, h3⟩ := g3 q h1
  have hlt2 : lineTk (m.take q) = [] := by
    unfold lineTk
    split
    · rfl
    · exact h2
  rw [he, hk] at hmem
  rw [hk]
  have hfirst : ((rowT (a, 0 + c, (q, w) :: rest)).getD 0 tok0).2.1 = ((c + q : Nat) : Int) := by
    show ((0 + c : Nat) : Int) + ((q : Nat) : Int) = _
    omega
  refine ⟨c + q, hfirst, ?_, ?_⟩
  · have := hmem _ (tok0_mem (T := rowT (a, 0 + c, (q, w) :: rest)) (by rw [rowT_length]; simp))
    rw [hfirst] at this; omega
  · unfold lnsT
    rw [h3, List.map_append, List.map_take]
    unfold said
    rw [List.filter_append]
    have : List.filter (fun x => decide (x.length ≠ 0)) (List.map rowT (if q = 0 then [] else [(b, d, lineTk (m.take q))])) = [] := by
      split
      · rfl
      · rw [hlt2]; rfl
    rw [this, List.append_nil]
theorem chain_ge {n : Nat} : ∀ {T : List Tok3} {e : Nat}, ChainT n e T → ∀ t ∈ T, (e : Int) ≤ t.2.1
  | [], e, _, t, h => by cases h
  | x :: T, e, ⟨p, h1, h2, h3, h4, h5⟩, t, ht => by
    rcases List.mem_cons.1 ht with rfl | ht
    · rw [h1]; omega
    · have := chain_ge h5 t ht; omega
theorem chain_app {n : Nat} {B : List Tok3} : ∀ {A : List Tok3} {e : Nat}, ChainT n e (A ++ B) → ∀ a ∈ A, ∀ b ∈ B, a.2.1 < b.2.1
  | [], e, _, a, ha, b, hb => by cases ha
  | x :: A, e, ⟨p, h1, h2, h3, h4, h5⟩, a, ha, b, hb => by
    rcases List.mem_cons.1 ha with rfl | ha
    · have := chain_ge h5 b (List.mem_append_right _ hb); omega
    · exact chain_app h5 a ha b hb
theorem lnsT_lt {l : List UInt8} {i : Nat} {T T' : List Tok3} (hT : T ∈ (lnsT l).take i) (hT' : T' ∈ (lnsT l).drop i) {t t' : Tok3} (ht : t ∈ T) (ht' : t' ∈ T') : t.2.1 < t'.2.1 := by
  have hc := chain_rows _ _ _ (lns_rows l)
  have e : allT (lns 1 0 l) = (lnsT l).flatten := by unfold allT lnsT; rw [List.flatMap_def]; rfl
  rw [e, ← List.take_append_drop i (lnsT l), List.flatten_append] at hc
  exact chain_app hc t (List.mem_flatten.2 ⟨T, hT, ht⟩) t' (List.mem_flatten.2 ⟨T', hT', ht'⟩)
theorem hpr_ahead {l : List UInt8} {i : Nat} (hi : i < (lnsT l).length) {t : Tok3} (ht : t ∈ (lnsT l).getD i []) (hh : HitT (hpr l).2.2.2 (hpr l).2.2.1 t) : ∃ p : Nat, (((lnsT l).getD i []).getD 0 tok0).2.1 = (p : Int) ∧ p ≤ l.length ∧ ((hpr (l.take p)).2.2.2 = 0 ∨ (hpr (l.take p)).2.2.2 = 4) := by
  obtain ⟨p, h1, h2, h3⟩ := lnsT_cut hi (fun h => by rw [List.length_eq_zero_iff.1 h] at ht; cases ht)
  refine ⟨p, h1, h2, ?_⟩
  have hc : hpr (l.take p) = hps ((lnsT l).take i) ((l.take p).length : Int) := hps_congr h3
  rw [hc]
  generalize ((l.take p).length : Int) = z'
  by_cases c0 : (hps ((lnsT l).take i) z').2.2.2 = 0
  · exact .inl c0
  · by_cases c4 : (hps ((lnsT l).take i) z').2.2.2 = 4
    · exact .inr c4
    · exfalso
      have ha := hps_app (z := z') (z' := (l.length : Int)) (L := (lnsT l).take i) (L2 := (lnsT l).drop i) c0 c4
      rw [List.take_append_drop] at ha
      have ha : (hpr l).2.2 = (hps ((lnsT l).take i) z').2.2 := ha
      rcases (hps_edge (L := (lnsT l).take i) (z := z')).2 c0 with ⟨h5, _⟩ | ⟨T, hT, s, hs, h6⟩
      · exact c4 h5
      · rw [← ha] at h6 c4
        have e1 : s.2.1 = (hpr l).2.2.1 := by
          rcases h6 with ⟨_, h⟩ | ⟨h, _⟩
          · exact h
          · exact absurd h c4
        have e2 : t.2.1 = (hpr l).2.2.1 := by
          rcases hh with ⟨_, h⟩ | ⟨h, _⟩
          · exact h
          · exact absurd h c4
        have hlt := lnsT_lt (T' := (lnsT l).getD i []) hT (by
          rw [List.drop_eq_getElem_cons hi, List.getD_eq_getElem?_getD, List.getElem?_eq_getElem hi]; exact List.mem_cons_self) hs ht
        omega
end Go.Proofs.YtdaenbgjafalcaaDoor
namespace Go.Proofs.YtdaenbgjafalcaaDoor
open Go.RowKit Go.Lib
set_option linter.unusedVariables false
set_option linter.unusedSimpArgs false
theorem W41bca {A B : Prop} (h9 : B) (w : B → A := by (intro h9; (repeat intro K hK); refine ⟨?_⟩; (repeat (first | (first | (with_reducible first | refine AX_block ?_ | refine AX_skip ?_ | refine AX_exit ?_ | refine AX_ret ?_ | refine AX_ift ?_ | refine AX_iff ?_ | refine AX_seq_k (fun K hK => ?_) | refine ContX.use (by assumption) ?_) | simp only [thenX, inBlockX, if_true, if_false, reduceCtorEq]) | (first | ((with_reducible refine XOP tyOK ?_); simp (disch := omega) only [go_sem , hs1, hs2, hs3, hs4, hs5, hs6, hs7, hs8, hs9, hsa, hsb, hsc, hsd, hse, hsf, hsg, hsh, ba_extract, List.drop_zero, Nat.sub_zero, Int.toNat_zero, Int.toNat_one, Int.reduceToNat, Nat.reduceMul, Nat.reduceAdd, Nat.zero_add, Int.toNat_natCast, List.length_nil, beq_self_eq_true, ba_size, bne_self_eq_false]; (with_reducible refine XRes_id ?_)) | (with_reducible refine XSK ?_)) | ((with_reducible refine XRes_nil ?_); refine hK _ ?_; clear hK K) | ((with_reducible refine AX_reg0 fun K hK => ?_); simp only [go_sem]) | (first | (first | refine XTL (by rfl) hAw ?_ | refine XTL (by rfl) hP ?_ | refine XTL (by rfl) hL ?_ | refine XTL (by rfl) hQ ?_)))); refine Wk.o ?_; (repeat revert hK K); exact h9)) : A := w h9
set_option maxRecDepth 100000 in
set_option maxHeartbeats 4000000 in
theorem pf_HisttextPlaces (s : ByteArray) (hAw : PF Tryd.prog 7 [] fun r H' => r = lt (.bool true) ∧ H' = []) : PF Tryd.prog 6 [lt (.string s)] fun r H' => r = lt (.bool true) ∧ H' = [] := by
  refine SF.forgetAll ?_
  have hs1 := trivial; have hs2 := trivial; have hs3 := trivial; have hs4 := trivial; have hs5 := trivial; have hs6 := trivial; have hs7 := trivial; have hs8 := trivial; have hs9 := trivial; have hsa := trivial; have hsb := trivial; have hsc := trivial; have hsd := trivial; have hse := trivial; have hsf := trivial; have hsg := trivial; have hsh := trivial; have hQ := trivial; have hP := trivial; have hL := trivial
  obtain ⟨l, rfl⟩ : ∃ l, s = ba l := ⟨s.data.toList, (ba_of s).symm⟩
  by_cases hl : 3000 < l.length
  · have hs1 : decide ((3000 : Int) < (l.length : Int)) = true := decide_eq_true (by omega)
    (refine SF_of_bodyX (aload tt) (aload_ok tyOK) Tryd.func6 rfl (by kernel_rfl) ?_; simp only [Tryd.ntmps6, List.length_cons, List.length_nil, Nat.reduceAdd, Nat.reduceSub, List.replicate_succ, List.replicate_zero, List.cons_append, List.nil_append])
    (refine Wk.o ?_; (repeat revert hK K); refine W41bca ?_; (repeat intro K hK); refine ⟨?_⟩)
    (simp only [bodyX]; refine ⟨_, by simp only [aresults, aresult, XS.as, Tryd.results6, aload, go_sem, Option.bind_some]; rfl, ?_⟩)
    exact ⟨ids_idB rfl, rfl, trivial⟩
  · have hs1 : decide ((3000 : Int) < (l.length : Int)) = false := decide_eq_false (by omega)
    have hP := pf_hParse l (by omega)
    obtain ⟨hE0, hE1⟩ := hps_edge (L := lnsT l) (z := (l.length : Int))
    have hAh := fun i t hi ht hh => hpr_ahead (l := l) (i := i) (t := t) hi ht hh
    have hpe : hps (lnsT l) (l.length : Int) = hpr l := rfl
    rw [hpe] at hE0 hE1
    have hL := pf_LinesT l (by omega)
    have hok := lnsT_ok (l := l) (by omega)
    clear hpe
    generalize hpr l = P at *
    generalize lnsT l = L at *
    obtain ⟨⟨S2, K2, I2, R2⟩, es2, at1, e1⟩ := P
    unfold csA iEvs iFlat at hP
    dsimp only at hP hE0 hE1 hAh
    have hsg : ((4 : Int) == 0) = false := rfl
    by_cases he : e1 = 0
    · subst he
      have ha := hE0 rfl
      subst ha
      clear hE1
      (refine SF_of_bodyX (aload tt) (aload_ok tyOK) Tryd.func6 rfl (by kernel_rfl) ?_; simp only [Tryd.ntmps6, List.length_cons, List.length_nil, Nat.reduceAdd, Nat.reduceSub, List.replicate_succ, List.replicate_zero, List.cons_append, List.nil_append])
      (refine Wk.o ?_; (repeat revert hK K); refine W41bca ?_; (repeat intro K hK); refine ⟨?_⟩)
      (simp only [bodyX]; refine ⟨_, by simp only [aresults, aresult, XS.as, Tryd.results6, aload, go_sem, Option.bind_some]; rfl, ?_⟩)
      exact ⟨ids_idB rfl, rfl, trivial⟩
    · have hs2 : (e1 == 0) = false := by simpa using he
      by_cases ha : at1 = (l.length : Int)
      · subst ha
        (refine SF_of_bodyX (aload tt) (aload_ok tyOK) Tryd.func6 rfl (by kernel_rfl) ?_; simp only [Tryd.ntmps6, List.length_cons, List.length_nil, Nat.reduceAdd, Nat.reduceSub, List.replicate_succ, List.replicate_zero, List.cons_append, List.nil_append])
        (refine Wk.o ?_; (repeat revert hK K); refine W41bca ?_; (repeat intro K hK); refine ⟨?_⟩)
        (simp only [bodyX]; refine ⟨_, by simp only [aresults, aresult, XS.as, Tryd.results6, aload, go_sem, Option.bind_some]; rfl, ?_⟩)
        exact ⟨ids_idB rfl, rfl, trivial⟩
      · have hs3 : (at1 == (l.length : Int)) = false := by simpa using ha
        have hE := (hE1 he).resolve_left fun h => ha h.2
        have hlen := hok.len
        clear hE0 hE1
        have hs4 : iLs L = .sl (fun j => iTokL (L.getD j [])) L.length 1 := rfl
        (refine SF_of_bodyX (aload tt) (aload_ok tyOK) Tryd.func6 rfl (by kernel_rfl) ?_; simp only [Tryd.ntmps6, List.length_cons, List.length_nil, Nat.reduceAdd, Nat.reduceSub, List.replicate_succ, List.replicate_zero, List.cons_append, List.nil_append])
        (refine Wk.o ?_; (repeat revert hK K); refine W41bca ?_; (repeat intro K hK); refine ⟨?_⟩)
        (refine AWH (σ := Nat) [40, 41, 42, 43, 8, 46, 47, 48, 49, 50, 51, 52, 55, 56, 57, 58, 59, 60, 61, 9, 62, 63, 64, 65, 66, 67, 68, 69, 70, 71, 72, 73, 74, 75, 76, 77, 78, 79, 80, 81, 82, 83, 84, 85, 86, 87, 88, 89, 90, 91, 92, 2, 94, 95, 96, 97, 98, 99, 100, 101, 102, 103, 93, 104, 105, 106, 10, 11, 12, 107, 108, 109, 110, 111, 112, 113, 114, 115, 116, 117, 118, 119, 120, 121, 122, 123, 124, 125, 126, 127, 128, 129, 130, 131, 53, 54, 44, 45] (fun i => [(7, lint i)]) (fun i => [some ⟨28, [lt (.int .i64 S2), lt (.int .i64 K2), lt (.int .i64 I2), .iv (iRws R2), .iv (.sl (fun j => .lit (.int .i64 ((flatE es2).getD j 0))) es2.length 3)]⟩]) (fun i => []) (fun i => i ≤ L.length ∧ ∀ j, j < i → ∀ t ∈ L.getD j [], ¬ HitT e1 at1 t) (fun i => L.length - i) 0 (by first | exact ⟨Nat.zero_le _, fun j h => absurd h (by omega)⟩) ?_; rintro i d fr hfr ⟨hi, hno⟩; simp only [updS, deadS, List.set_cons_succ, List.set_cons_zero, lint] at hfr; subst hfr; (try dsimp only))
        by_cases hlt : i < L.length
        · have hs5 : decide ((i : Int) < (L.length : Int)) = true := decide_eq_true (by omega)
          have hT := hok.get i
          have hA1 := fun t => hAh i t hlt
          generalize hTT : L.getD i [] = T at *
          have hTl := hT.len
          have hs6 : iTokL (L.getD i []) = .sl (fun j => .lit ((tokL T).getD j undef)) T.length 3 := by rw [hTT]; rfl
          (refine Wk.o ?_; (repeat revert hK K); refine W41bca ?_; (repeat intro K hK); refine ⟨?_⟩)
          (refine AWH (σ := Nat) [46, 47, 48, 49, 50, 51, 52, 55, 56, 57, 58, 59, 60, 61, 9, 62, 63, 64, 65, 66, 67, 68, 69, 70, 71, 72, 73, 74, 75, 76, 77, 78, 79, 80, 81, 82, 83, 84, 85, 86, 87, 88, 89, 90, 91, 92, 2, 94, 95, 96, 97, 98, 99, 100, 101, 102, 103, 93, 104, 105, 106, 10, 11, 12, 107, 108, 109, 110, 111, 112, 113, 114, 115, 116, 117, 118, 119, 120, 121, 122, 123, 124, 125, 126, 127, 128, 129, 130, 131, 53, 54] (fun k => [(8, lint k)]) (fun k => [some ⟨28, [lt (.int .i64 S2), lt (.int .i64 K2), lt (.int .i64 I2), .iv (iRws R2), .iv (.sl (fun j => .lit (.int .i64 ((flatE es2).getD j 0))) es2.length 3)]⟩]) (fun k => []) (fun k => k ≤ T.length ∧ ∀ j, j < k → ¬ HitT e1 at1 (T.getD j tok0)) (fun k => T.length - k) 0 (by first | exact ⟨Nat.zero_le _, fun j h => absurd h (by omega)⟩) ?_; rintro k d fr hfr ⟨hk, hnk⟩; simp only [updS, deadS, List.set_cons_succ, List.set_cons_zero, lint] at hfr; subst hfr; (try dsimp only))
          by_cases hlk : k < T.length
          · have hs7 : decide ((k : Int) < (T.length : Int)) = true := decide_eq_true (by omega)
            obtain ⟨f1, f2, f3⟩ := tokL_atL (T := T) (k := k) hlk
            have hpp := hT.pos k
            have htx := hT.txt k
            have hI : ¬ HitT e1 at1 (T.getD k tok0) → k + 1 ≤ T.length ∧ ∀ j, j < k + 1 → ¬ HitT e1 at1 (T.getD j tok0) := fun hn => ⟨hlk, fun j hj => by
              rcases Nat.lt_or_ge j k with h | h
              · exact hnk j h
              · obtain rfl : j = k := by omega
                exact hn⟩
            have hA2 := hA1 _ (getT_mem hlk)
            obtain ⟨_, e02, _⟩ := tokL_atL (T := T) (k := 0) (by omega)
            have e02 : (tokL T).getD 1 undef = _ := e02
            clear hA1 hAh
            unfold HitT at hI hA2
            have hs8 := f1; have hs9 := f2; have hsa := f3
            clear f1 f2 f3
            generalize hT0 : (T.getD 0 tok0).2.1 = t0 at *
            generalize (T.getD k tok0).1 = tl at *
            generalize (T.getD k tok0).2.1 = p at *
            generalize (T.getD k tok0).2.2 = tx at *
            obtain ⟨hb, hHB⟩ : ∃ hb : Bool, hb = decide ((e1 ≠ 4 ∧ p = at1) ∨ (e1 = 4 ∧ p + (tx.length : Int) = at1)) := ⟨_, rfl⟩
            repeat ((fail_if_success (show AX _ _ (Code.region 14 _ _) _ _)); (first | (first | (with_reducible first | refine AX_block ?_ | refine AX_skip ?_ | refine AX_exit ?_ | refine AX_ret ?_ | refine AX_ift ?_ | refine AX_iff ?_ | refine AX_seq_k (fun K hK => ?_) | refine ContX.use (by assumption) ?_) | simp only [thenX, inBlockX, if_true, if_false, reduceCtorEq]) | (first | ((with_reducible refine XOP tyOK ?_); simp (disch := omega) only [go_sem , hs1, hs2, hs3, hs4, hs5, hs6, hs7, hs8, hs9, hsa, hsb, hsc, hsd, hse, hsf, hsg, hsh, ba_extract, List.drop_zero, Nat.sub_zero, Int.toNat_zero, Int.toNat_one, Int.reduceToNat, Nat.reduceMul, Nat.reduceAdd, Nat.zero_add, Int.toNat_natCast, List.length_nil, beq_self_eq_true, ba_size, bne_self_eq_false]; (with_reducible refine XRes_id ?_)) | (with_reducible refine XSK ?_)) | ((with_reducible refine XRes_nil ?_); refine hK _ ?_; clear hK K) | ((with_reducible refine AX_reg0 fun K hK => ?_); simp only [go_sem])))
            (refine AX_mid [62, 63, 64, 65, 66, 67, 68, 69, 70, 71, 72, 73, 74, 75, 76, 77, 78, 79, 80, 81, 82] [(83, lt (.bool hb))] [some ⟨28, [lt (.int .i64 S2), lt (.int .i64 K2), lt (.int .i64 I2), .iv (iRws R2), .iv (.sl (fun j => .lit (.int .i64 ((flatE es2).getD j 0))) es2.length 3)]⟩, some ⟨49, [lt (.int .i64 tl), lt (.int .i64 p), lt (.string (ba tx))]⟩] [] (by assumption) (fun K hK => ?_) (fun d fr hfr => ?_); rotate_left; (simp only [updS, deadS, List.set_cons_succ, List.set_cons_zero, lint] at hfr); (subst hfr); rotate_left)
            · by_cases h4 : e1 = 4
              · subst h4
                have hsh : ((4 : Int) != 4) = false := by decide
                by_cases hq : p + (tx.length : Int) = at1
                · have hsc : (p + (tx.length : Int) == at1) = true := by simpa using hq
                  obtain rfl : hb = true := by rw [hHB]; simp [hq]
                  by_cases hp : p = at1
                  · have hsb : (p == at1) = true := by simpa using hp
                    (refine Wk.o ?_; (repeat revert hK K); refine W41bca ?_; (repeat intro K hK); refine ⟨?_⟩)
                    exact mid_end rfl rfl (fun d => by first | ((simp (disch := omega) only [go_sem, lint , hs1, hs2, hs3, hs4, hs5, hs6, hs7, hs8, hs9, hsa, hsb, hsc, hsd, hse, hsf, hsg, hsh, ba_extract, List.drop_zero, Nat.sub_zero, Int.toNat_zero, Int.toNat_one, Int.reduceToNat, Nat.reduceMul, Nat.reduceAdd, Nat.zero_add, Int.toNat_natCast, List.length_nil, beq_self_eq_true, ba_size, bne_self_eq_false]); done) | ((simp (disch := omega) only [go_sem, lint , hs1, hs2, hs3, hs4, hs5, hs6, hs7, hs8, hs9, hsa, hsb, hsc, hsd, hse, hsf, hsg, hsh, ba_extract, List.drop_zero, Nat.sub_zero, Int.toNat_zero, Int.toNat_one, Int.reduceToNat, Nat.reduceMul, Nat.reduceAdd, Nat.zero_add, Int.toNat_natCast, List.length_nil, beq_self_eq_true, ba_size, bne_self_eq_false]); rfl))
                  · have hsb : (p == at1) = false := by simpa using hp
                    (refine Wk.o ?_; (repeat revert hK K); refine W41bca ?_; (repeat intro K hK); refine ⟨?_⟩)
                    exact mid_end rfl rfl (fun d => by first | ((simp (disch := omega) only [go_sem, lint , hs1, hs2, hs3, hs4, hs5, hs6, hs7, hs8, hs9, hsa, hsb, hsc, hsd, hse, hsf, hsg, hsh, ba_extract, List.drop_zero, Nat.sub_zero, Int.toNat_zero, Int.toNat_one, Int.reduceToNat, Nat.reduceMul, Nat.reduceAdd, Nat.zero_add, Int.toNat_natCast, List.length_nil, beq_self_eq_true, ba_size, bne_self_eq_false]); done) | ((simp (disch := omega) only [go_sem, lint , hs1, hs2, hs3, hs4, hs5, hs6, hs7, hs8, hs9, hsa, hsb, hsc, hsd, hse, hsf, hsg, hsh, ba_extract, List.drop_zero, Nat.sub_zero, Int.toNat_zero, Int.toNat_one, Int.reduceToNat, Nat.reduceMul, Nat.reduceAdd, Nat.zero_add, Int.toNat_natCast, List.length_nil, beq_self_eq_true, ba_size, bne_self_eq_false]); rfl))
                · have hsc : (p + (tx.length : Int) == at1) = false := by simpa using hq
                  obtain rfl : hb = false := by rw [hHB]; simp [hq]
                  by_cases hp : p = at1
                  · have hsb : (p == at1) = true := by simpa using hp
                    (refine Wk.o ?_; (repeat revert hK K); refine W41bca ?_; (repeat intro K hK); refine ⟨?_⟩)
                    exact mid_end rfl rfl (fun d => by first | ((simp (disch := omega) only [go_sem, lint , hs1, hs2, hs3, hs4, hs5, hs6, hs7, hs8, hs9, hsa, hsb, hsc, hsd, hse, hsf, hsg, hsh, ba_extract, List.drop_zero, Nat.sub_zero, Int.toNat_zero, Int.toNat_one, Int.reduceToNat, Nat.reduceMul, Nat.reduceAdd, Nat.zero_add, Int.toNat_natCast, List.length_nil, beq_self_eq_true, ba_size, bne_self_eq_false]); done) | ((simp (disch := omega) only [go_sem, lint , hs1, hs2, hs3, hs4, hs5, hs6, hs7, hs8, hs9, hsa, hsb, hsc, hsd, hse, hsf, hsg, hsh, ba_extract, List.drop_zero, Nat.sub_zero, Int.toNat_zero, Int.toNat_one, Int.reduceToNat, Nat.reduceMul, Nat.reduceAdd, Nat.zero_add, Int.toNat_natCast, List.length_nil, beq_self_eq_true, ba_size, bne_self_eq_false]); rfl))
                  · have hsb : (p == at1) = false := by simpa using hp
                    (refine Wk.o ?_; (repeat revert hK K); refine W41bca ?_; (repeat intro K hK); refine ⟨?_⟩)
                    exact mid_end rfl rfl (fun d => by first | ((simp (disch := omega) only [go_sem, lint , hs1, hs2, hs3, hs4, hs5, hs6, hs7, hs8, hs9, hsa, hsb, hsc, hsd, hse, hsf, hsg, hsh, ba_extract, List.drop_zero, Nat.sub_zero, Int.toNat_zero, Int.toNat_one, Int.reduceToNat, Nat.reduceMul, Nat.reduceAdd, Nat.zero_add, Int.toNat_natCast, List.length_nil, beq_self_eq_true, ba_size, bne_self_eq_false]); done) | ((simp (disch := omega) only [go_sem, lint , hs1, hs2, hs3, hs4, hs5, hs6, hs7, hs8, hs9, hsa, hsb, hsc, hsd, hse, hsf, hsg, hsh, ba_extract, List.drop_zero, Nat.sub_zero, Int.toNat_zero, Int.toNat_one, Int.reduceToNat, Nat.reduceMul, Nat.reduceAdd, Nat.zero_add, Int.toNat_natCast, List.length_nil, beq_self_eq_true, ba_size, bne_self_eq_false]); rfl))
              · have hsd : (e1 != 4) = true := by simpa using h4
                have hsh : (e1 == 4) = false := by simpa using h4
                by_cases hp : p = at1
                · have hsb : (p == at1) = true := by simpa using hp
                  obtain rfl : hb = true := by rw [hHB]; simp [hp, h4]
                  (refine Wk.o ?_; (repeat revert hK K); refine W41bca ?_; (repeat intro K hK); refine ⟨?_⟩)
                  exact mid_end rfl rfl (fun d => by first | ((simp (disch := omega) only [go_sem, lint , hs1, hs2, hs3, hs4, hs5, hs6, hs7, hs8, hs9, hsa, hsb, hsc, hsd, hse, hsf, hsg, hsh, ba_extract, List.drop_zero, Nat.sub_zero, Int.toNat_zero, Int.toNat_one, Int.reduceToNat, Nat.reduceMul, Nat.reduceAdd, Nat.zero_add, Int.toNat_natCast, List.length_nil, beq_self_eq_true, ba_size, bne_self_eq_false]); done) | ((simp (disch := omega) only [go_sem, lint , hs1, hs2, hs3, hs4, hs5, hs6, hs7, hs8, hs9, hsa, hsb, hsc, hsd, hse, hsf, hsg, hsh, ba_extract, List.drop_zero, Nat.sub_zero, Int.toNat_zero, Int.toNat_one, Int.reduceToNat, Nat.reduceMul, Nat.reduceAdd, Nat.zero_add, Int.toNat_natCast, List.length_nil, beq_self_eq_true, ba_size, bne_self_eq_false]); rfl))
                · have hsb : (p == at1) = false := by simpa using hp
                  obtain rfl : hb = false := by rw [hHB]; simp [hp, h4]
                  by_cases hq : p + (tx.length : Int) = at1
                  · have hsc : (p + (tx.length : Int) == at1) = true := by simpa using hq
                    (refine Wk.o ?_; (repeat revert hK K); refine W41bca ?_; (repeat intro K hK); refine ⟨?_⟩)
                    exact mid_end rfl rfl (fun d => by first | ((simp (disch := omega) only [go_sem, lint , hs1, hs2, hs3, hs4, hs5, hs6, hs7, hs8, hs9, hsa, hsb, hsc, hsd, hse, hsf, hsg, hsh, ba_extract, List.drop_zero, Nat.sub_zero, Int.toNat_zero, Int.toNat_one, Int.reduceToNat, Nat.reduceMul, Nat.reduceAdd, Nat.zero_add, Int.toNat_natCast, List.length_nil, beq_self_eq_true, ba_size, bne_self_eq_false]); done) | ((simp (disch := omega) only [go_sem, lint , hs1, hs2, hs3, hs4, hs5, hs6, hs7, hs8, hs9, hsa, hsb, hsc, hsd, hse, hsf, hsg, hsh, ba_extract, List.drop_zero, Nat.sub_zero, Int.toNat_zero, Int.toNat_one, Int.reduceToNat, Nat.reduceMul, Nat.reduceAdd, Nat.zero_add, Int.toNat_natCast, List.length_nil, beq_self_eq_true, ba_size, bne_self_eq_false]); rfl))
                  · have hsc : (p + (tx.length : Int) == at1) = false := by simpa using hq
                    (refine Wk.o ?_; (repeat revert hK K); refine W41bca ?_; (repeat intro K hK); refine ⟨?_⟩)
                    exact mid_end rfl rfl (fun d => by first | ((simp (disch := omega) only [go_sem, lint , hs1, hs2, hs3, hs4, hs5, hs6, hs7, hs8, hs9, hsa, hsb, hsc, hsd, hse, hsf, hsg, hsh, ba_extract, List.drop_zero, Nat.sub_zero, Int.toNat_zero, Int.toNat_one, Int.reduceToNat, Nat.reduceMul, Nat.reduceAdd, Nat.zero_add, Int.toNat_natCast, List.length_nil, beq_self_eq_true, ba_size, bne_self_eq_false]); done) | ((simp (disch := omega) only [go_sem, lint , hs1, hs2, hs3, hs4, hs5, hs6, hs7, hs8, hs9, hsa, hsb, hsc, hsd, hse, hsf, hsg, hsh, ba_extract, List.drop_zero, Nat.sub_zero, Int.toNat_zero, Int.toNat_one, Int.reduceToNat, Nat.reduceMul, Nat.reduceAdd, Nat.zero_add, Int.toNat_natCast, List.length_nil, beq_self_eq_true, ba_size, bne_self_eq_false]); rfl))
            · cases hb with
              | false =>
                have hI2 := hI (by simpa using hHB.symm)
                (refine Wk.o ?_; (repeat revert hK K); refine W41bca ?_; (repeat intro K hK); refine ⟨?_⟩)
                exact whx_ren [0] (k + 1) hI2 (by (first | omega | (dsimp only; omega) | (simp only; omega))) rfl (by decide) (by decide) (by (simp (disch := omega) only [go_sem, lint , hs1, hs2, hs3, hs4, hs5, hs6, hs7, hs8, hs9, hsa, hsb, hsc, hsd, hse, hsf, hsg, hsh, ba_extract, List.drop_zero, Nat.sub_zero, Int.toNat_zero, Int.toNat_one, Int.reduceToNat, Nat.reduceMul, Nat.reduceAdd, Nat.zero_add, Int.toNat_natCast, List.length_nil, beq_self_eq_true, ba_size, bne_self_eq_false])) (by (simp (disch := omega) only [go_sem, lint , hs1, hs2, hs3, hs4, hs5, hs6, hs7, hs8, hs9, hsa, hsb, hsc, hsd, hse, hsf, hsg, hsh, ba_extract, List.drop_zero, Nat.sub_zero, Int.toNat_zero, Int.toNat_one, Int.reduceToNat, Nat.reduceMul, Nat.reduceAdd, Nat.zero_add, Int.toNat_natCast, List.length_nil, beq_self_eq_true, ba_size, bne_self_eq_false])) (by (simp (disch := omega) only [go_sem, lint , hs1, hs2, hs3, hs4, hs5, hs6, hs7, hs8, hs9, hsa, hsb, hsc, hsd, hse, hsf, hsg, hsh, ba_extract, List.drop_zero, Nat.sub_zero, Int.toNat_zero, Int.toNat_one, Int.reduceToNat, Nat.reduceMul, Nat.reduceAdd, Nat.zero_add, Int.toNat_natCast, List.length_nil, beq_self_eq_true, ba_size, bne_self_eq_false])) (fun d => by first | ((simp (disch := omega) only [go_sem, lint , hs1, hs2, hs3, hs4, hs5, hs6, hs7, hs8, hs9, hsa, hsb, hsc, hsd, hse, hsf, hsg, hsh, ba_extract, List.drop_zero, Nat.sub_zero, Int.toNat_zero, Int.toNat_one, Int.reduceToNat, Nat.reduceMul, Nat.reduceAdd, Nat.zero_add, Int.toNat_natCast, List.length_nil, beq_self_eq_true, ba_size, bne_self_eq_false]); done) | ((simp (disch := omega) only [go_sem, lint , hs1, hs2, hs3, hs4, hs5, hs6, hs7, hs8, hs9, hsa, hsb, hsc, hsd, hse, hsf, hsg, hsh, ba_extract, List.drop_zero, Nat.sub_zero, Int.toNat_zero, Int.toNat_one, Int.reduceToNat, Nat.reduceMul, Nat.reduceAdd, Nat.zero_add, Int.toNat_natCast, List.length_nil, beq_self_eq_true, ba_size, bne_self_eq_false]); rfl))
              | true =>
                obtain ⟨q, hq1, hq2, hq3⟩ := hA2 (of_decide_eq_true hHB.symm)
                rw [hq1] at e02
                have hse := e02
                clear hs7 hs8 hs9 hsa hI hA2 hnk hno
                by_cases hq0 : q = 0
                · have hsf : (((q : Nat) : Int) == 0) = true := by simp [hq0]
                  (refine Wk.o ?_; (repeat revert hK K); refine W41bca ?_; (repeat intro K hK); refine ⟨?_⟩)
                  (simp only [bodyX]; refine ⟨_, by simp only [aresults, aresult, XS.as, Tryd.results6, aload, go_sem, Option.bind_some]; rfl, ?_⟩)
                  exact ⟨ids_idB rfl, rfl, trivial⟩
                · have hsf : (((q : Nat) : Int) == 0) = false := by simp [hq0]
                  have hQ := pf_hParse (l.take q) (by rw [List.length_take]; omega)
                  unfold csA at hQ
                  generalize (hpr (l.take q)).1 = oq at hQ
                  generalize (hpr (l.take q)).2.1 = eq at hQ
                  generalize (hpr (l.take q)).2.2.1 = aq at hQ
                  generalize (hpr (l.take q)).2.2.2 = fq at hQ hq3
                  obtain ⟨S3, K3, I3, R3⟩ := oq
                  unfold iEvs iFlat at hQ
                  dsimp only at hQ
                  rcases hq3 with rfl | rfl
                  · (refine Wk.o ?_; (repeat revert hK K); refine W41bca ?_; (repeat intro K hK); refine ⟨?_⟩)
                    (simp only [bodyX]; refine ⟨_, by simp only [aresults, aresult, XS.as, Tryd.results6, aload, go_sem, Option.bind_some]; rfl, ?_⟩)
                    exact ⟨ids_idB rfl, rfl, trivial⟩
                  · (refine Wk.o ?_; (repeat revert hK K); refine W41bca ?_; (repeat intro K hK); refine ⟨?_⟩)
                    (simp only [bodyX]; refine ⟨_, by simp only [aresults, aresult, XS.as, Tryd.results6, aload, go_sem, Option.bind_some]; rfl, ?_⟩)
                    exact ⟨ids_idB rfl, rfl, trivial⟩
          · obtain rfl : k = T.length := by omega
            have hI2 : i + 1 ≤ L.length ∧ ∀ j, j < i + 1 → ∀ t ∈ L.getD j [], ¬ HitT e1 at1 t := ⟨hlt, fun j hj => by
              rcases Nat.lt_or_ge j i with h | h
              · exact hno j h
              · obtain rfl : j = i := by omega
                rw [hTT]
                intro t ht
                obtain ⟨q, hq, rfl⟩ := List.mem_iff_getElem.1 ht
                have := hnk q hq
                rwa [List.getD_eq_getElem?_getD, List.getElem?_eq_getElem hq] at this⟩
            (refine Wk.o ?_; (repeat revert hK K); refine W41bca ?_; (repeat intro K hK); refine ⟨?_⟩)
            exact whx_end (i + 1) hI2 (by (first | omega | (dsimp only; omega) | (simp only; omega))) rfl rfl (fun d => by first | ((simp (disch := omega) only [go_sem, lint , hs1, hs2, hs3, hs4, hs5, hs6, hs7, hs8, hs9, hsa, hsb, hsc, hsd, hse, hsf, hsg, hsh, ba_extract, List.drop_zero, Nat.sub_zero, Int.toNat_zero, Int.toNat_one, Int.reduceToNat, Nat.reduceMul, Nat.reduceAdd, Nat.zero_add, Int.toNat_natCast, List.length_nil, beq_self_eq_true, ba_size, bne_self_eq_false]); done) | ((simp (disch := omega) only [go_sem, lint , hs1, hs2, hs3, hs4, hs5, hs6, hs7, hs8, hs9, hsa, hsb, hsc, hsd, hse, hsf, hsg, hsh, ba_extract, List.drop_zero, Nat.sub_zero, Int.toNat_zero, Int.toNat_one, Int.reduceToNat, Nat.reduceMul, Nat.reduceAdd, Nat.zero_add, Int.toNat_natCast, List.length_nil, beq_self_eq_true, ba_size, bne_self_eq_false]); rfl))
        · exfalso
          obtain ⟨T, hT, t, ht, hh⟩ := hE
          obtain ⟨q, hq, rfl⟩ := List.mem_iff_getElem.1 hT
          refine hno q (by omega) t ?_ hh
          rw [List.getD_eq_getElem?_getD, List.getElem?_eq_getElem hq]
          exact ht
end Go.Proofs.YtdaenbgjafalcaaDoor
namespace Go.Proofs.YtdaenbgjafalcaaDoor
open Go.RowKit
set_option linter.unusedVariables false
theorem histtextPlaces_walk (w : World) (hB : BaseAt fun b => w.heap[b]?) (s : ByteArray) (hs : s.size ≤ maxLen) :
    Calls Tryd.prog 6 #[.string s] w fun e w' => e = .returned (.bool true) ∧ Below w.heap.size w w' :=
  haveI := hB
  law_of (SF.mono (pf_HisttextPlaces s pf_awake26) fun r H' h => h.1) w _ (RL.one (.iv _ _ (.lit _)))
end Go.Proofs.YtdaenbgjafalcaaDoor
