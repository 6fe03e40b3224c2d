/- Slices that are written out, and what append makes of a full one. -/
import Derived.Test.YtcifneenbdibeaaOwn
namespace Go.Proofs.Ytcifneenbdibeaa
open Go.RowKit

/-- A slice that is written out, in a new block: it may be appended to. -/
theorem own_built (w : World) (B : Nat) (e : TypeId) (vs : List Value) (hB : B ≤ w.heap.size) (hm : vs.length ≤ maxLen) : (w.alloc (.cells vs.toArray e)).ownsRow B e 1 (.slice (some ⟨w.heap.size, 0, none⟩) vs.length vs.length) vs.length vs :=
  ⟨by simp, .inr ⟨w.heap.size, vs.length, vs.toArray, rfl, hB, heap_alloc_new w _, Nat.le_refl _, hm, by simp, by simp⟩⟩

/-- What an append may have changed: blocks from B on that hold elements of type t, and nothing else. -/
def GrownT (w w' : World) (B : Nat) (t : TypeId) : Prop := w'.heap.size ≥ w.heap.size ∧ ∀ k, k < w.heap.size → w'.heap[k]? = w.heap[k]? ∨ (B ≤ k ∧ ∃ cur, w.heap[k]? = some (.cells cur t (0, 0)))
theorem GrownT.of_own {w w' : World} {B : Nat} {t : TypeId} {k n : Nat} {v : Value} {xs : List Value} (h : w.ownsRow B t k v n xs) (hg : w.grownBy w' v.ownBlock) : GrownT w w' B t := by
  refine ⟨hg.size, fun j hj => ?_⟩
  by_cases hjv : some j = v.ownBlock
  · right
    obtain ⟨_, h2⟩ := h
    rcases h2 with ⟨hv, _⟩ | ⟨g, cap, cur, hv, hg', hgh, _⟩
    · subst hv; simp [Value.ownBlock] at hjv
    · subst hv; simp [Value.ownBlock] at hjv; subst hjv; exact ⟨hg', cur, hgh⟩
  · exact Or.inl (hg.block j hj hjv)
theorem GrownT.of_none {w w' : World} {B : Nat} {t : TypeId} (hg : w.grownBy w' none) : GrownT w w' B t := ⟨hg.size, fun j hj => Or.inl (hg.block j hj (by simp))⟩
theorem RowOf.grownT {w w' : World} {B C : Nat} {v : Value} {xs : List Int} {t : TypeId} (h : RowOf w C v xs) (hC : C ≤ B) (ht : t ≠ 3) (hg : GrownT w w' B t) : RowOf w' C v xs := by
  obtain ⟨a, len, cap, hv, h1, h2, hn, h3, h4⟩ := h
  refine ⟨a, len, cap, hv, h1, h2, hn, h3, fun hp => ?_⟩
  obtain ⟨b, off, cs, t', fr, ha, hh, ht', hc⟩ := h4 hp
  refine ⟨b, off, cs, t', fr, ha, ?_, ht', hc⟩
  rcases hg.2 b (lt_of_block hh) with h5 | ⟨h5, cur, h6⟩
  · exact h5.trans hh
  · rw [hh] at h6
    simp only [Option.some.injEq, Obj.cells.injEq] at h6
    rcases ht' with ht' | ht'
    · exact absurd (h6.2.1.symm.trans ht') ht
    · omega

theorem Blk.grownT {w w' : World} {b B : Nat} {vs : Array Value} {t t' : TypeId} (h : Blk w b vs t) (ht : t ≠ t') (hg : GrownT w w' B t') : Blk w' b vs t := by
  rcases hg.2 b h.lt with h5 | ⟨_, cur, h6⟩
  · exact h5.trans h
  · have h7 : w.heap[b]? = some (.cells vs t (0, 0)) := h
    rw [h7] at h6
    simp only [Option.some.injEq, Obj.cells.injEq] at h6
    exact absurd h6.2.1 ht

/-- A list that may be appended to, or a full one that is not written any more: r is the block that an append may write. -/
def OwnFull (w : World) (B : Nat) (e : TypeId) (v : Value) (n : Nat) (xs : List Value) (r : Option Nat) : Prop :=
  (w.ownsRow B e 1 v n xs ∧ r = v.ownBlock) ∨ (∃ g, v = .slice (some ⟨g, 0, none⟩) n n ∧ xs.length = n ∧ n ≤ maxLen ∧ CellRow w (some ⟨g, 0, none⟩) xs ∧ r = none)
theorem OwnFull.of_built (w : World) (B : Nat) (e : TypeId) (vs : List Value) (hm : vs.length ≤ maxLen) : OwnFull (w.alloc (.cells vs.toArray e)) B e (.slice (some ⟨w.heap.size, 0, none⟩) vs.length vs.length) vs.length vs none :=
  Or.inr ⟨w.heap.size, rfl, rfl, hm, CellRow.made w vs e, rfl⟩
theorem OwnFull.later {w w' : World} {B : Nat} {e : TypeId} {v : Value} {n : Nat} {xs : List Value} {r : Option Nat} (h : OwnFull w B e v n xs r) (hb : Below w.heap.size w w') : OwnFull w' B e v n xs r := by
  rcases h with ⟨h, hr⟩ | ⟨g, h1, h2, h3, h4, h5⟩
  · exact Or.inl ⟨own_later h hb, hr⟩
  · exact Or.inr ⟨g, h1, h2, h3, h4.later hb, h5⟩

/-- 'append(v, x...)' of something to such a list. -/
theorem wpList_appF {P : Program} {w : World} {ops : Array Oper} {rest : List Oper} {o : Oper} {a : Act} {Q : Exit → Act → World → Prop} (hgd : o.guard = none) (s x : Operand) (t : TypeId)
    (ho : o.op = .call { callee := .builtin .append, args := #[s, x], argTypes := #[t, t] })
    (base : Nat) (e : TypeId) (z : Value) (bytes : Nat) (ht : P.underlying t = some (.slice e)) (hinfo : (P.info? e).map (fun i => (i.zero, i.size, i.bytes)) = some (some z, 1, bytes)) (hzs : z.cells.size = 1)
    (v : Value) (n : Nat) (xs : List Value) (r : Option Nat) (hs : a.eval s = v) (hown : OwnFull w base e v n xs r)
    (A : Option Addr) (m c : Nat) (news : List Value) (hx : a.eval x = .slice A m c) (hm : 0 < m) (hl : news.length = m) (hrow : CellRow w A news) (h1 : ∀ u ∈ news, u.oneCell' = true)
    (h63 : n + m ≤ maxLen) (hbytes : (n + m) * bytes ≤ 140737488355328) (hbase : base ≤ w.heap.size)
    (h : ∀ v' w', w'.ownsRow base e 1 v' (n + m) (xs ++ news) → w.grownBy w' r → GrownT w w' base e → wpList P ops Q rest (a.put o.dst v') w') : wpList P ops Q (o :: rest) a w := by
  rcases hown with ⟨hown, rfl⟩ | ⟨g, rfl, hxl, hnm, hcr, rfl⟩
  · exact wpList_app hgd s x t ho base e z 1 bytes ht hinfo hzs (by omega) v n xs hs hown A m c news hx (fun hA => by
      subst hA
      obtain ⟨b, off, h0, _⟩ := hrow 0 (news[0]'(by omega)) (by simp)
      cases h0) (by omega) hrow h1 h63 hbytes hbase (fun v' w' h2 h3 => h v' w' h2 h3 (GrownT.of_own hown h3))
  · obtain ⟨i, hi, hzz⟩ := Option.map_eq_some_iff.1 hinfo
    simp only [Prod.mk.injEq] at hzz
    obtain ⟨hz, hsize, hby⟩ := hzz
    obtain ⟨b, off, hA, _⟩ := hrow 0 (news[0]'(by omega)) (by simp)
    subst hA
    have hadd : ∀ (b off j : Nat), (Addr.add ⟨b, off, none⟩ j) = ⟨b, off + j, none⟩ := by
      intro b off j
      by_cases hj : j = 0 <;> simp [Addr.add, hj]
    have hnews : ∀ j u, news[j]? = some u → w.cell? (Addr.add ⟨b, off, none⟩ j) = some u := fun j u hj => by
      obtain ⟨b', off', h0, hc⟩ := hrow j u hj
      cases h0
      rw [hadd]; exact hc
    have holds : ∀ j u, xs[j]? = some u → w.cell? (Addr.add ⟨g, 0, none⟩ j) = some u := fun j u hj => by
      obtain ⟨b', off', h0, hc⟩ := hcr j u hj
      cases h0
      rw [hadd]; exact hc
    have hsmall : n + m ≤ 9223372036854775807 := by simp only [maxLen] at h63; omega
    have hr := run_append_grow (P := P) w t o.type e i z ht hi hz ⟨g, 0, none⟩ n n xs (by rw [hsize]; omega) holds ⟨b, off, none⟩ m c news (by rw [hsize]; omega) hnews (by omega) (by omega) (growslice_fits (by omega) (by rw [hby]; exact hbytes))
    refine wpList_plain hgd fun _ hK => ?_
    unfold Oper.wp execOp
    simp only [ho, resolve, invoke, builtin, Sem.run_bind, Sem.run_pure, Result.andThen_ok, List.map_toArray, List.map_cons, List.map_nil, hs, hx, hr]
    have hge := grownCap_ge w (n + m) n e
    have hcm : grownCap w (n + m) n e ≤ maxLen := grownCap_le_maxLen w (n + m) n e h63
    have hg : w.grownBy (w.drew.alloc (.cells (xs.toArray ++ news.toArray ++ Builtin.zeroCells z.cells (grownCap w (n + m) n e - (n + m))) e)) none := ⟨rfl, rfl, rfl, by simp, fun k hk _ => heap_alloc_old w.drew _ hk⟩
    refine hK _ _ (h _ _ ⟨by rw [List.length_append]; omega, .inr ⟨w.heap.size, _, _, rfl, hbase, heap_alloc_new w.drew _, hge, hcm, ?_, ?_⟩⟩ hg (GrownT.of_none hg))
    · simp only [Array.size_append, List.size_toArray, size_zeroCells, hzs, hxl, hl, Nat.mul_one]; omega
    · simp only [Array.toList_append, List.append_assoc]
      rw [← List.append_assoc, List.take_append_of_le_length (by rw [List.length_append]; omega), List.take_of_length_le (by rw [List.length_append]; omega)]
end Go.Proofs.Ytcifneenbdibeaa
