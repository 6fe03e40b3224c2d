import Derived.Test.YtdaenbgjafalcaaDoorMgBB
import Derived.Test.YtdaenbgjafalcaaDoorMgAV
import Derived.Test.YtdaenbgjafalcaaDoorMgAQ
namespace Go.Proofs.YtdaenbgjafalcaaDoor
open Go.RowKit
def rwFl (x : Rw) : List Int := [x.s, x.k, x.n, x.r]
def flatR (xs : List Rw) : List Int := xs.flatMap rwFl
theorem flatR_at {j : Nat} (hj : j < 4) (xs : List Rw) (i : Nat) : (flatR xs).getD (i * 4 + j) 0 = (rwFl (rwAt xs i)).getD j 0 := by
  refine flat_at (g := rwFl) (w := 4) (fun _ => rfl) _ hj ?_ xs i
  match j, hj with | 0, _ | 1, _ | 2, _ | 3, _ => rfl
theorem flatR_s (xs : List Rw) (i : Nat) : (flatR xs).getD (i * 4) 0 = (rwAt xs i).s := flatR_at (j := 0) (by omega) xs i
theorem flatR_k (xs : List Rw) (i : Nat) : (flatR xs).getD (i * 4 + 1) 0 = (rwAt xs i).k := flatR_at (j := 1) (by omega) xs i
theorem flatR_n (xs : List Rw) (i : Nat) : (flatR xs).getD (i * 4 + 2) 0 = (rwAt xs i).n := flatR_at (j := 2) (by omega) xs i
theorem flatR_r (xs : List Rw) (i : Nat) : (flatR xs).getD (i * 4 + 3) 0 = (rwAt xs i).r := flatR_at (j := 3) (by omega) xs i
theorem flatR_len : ∀ xs : List Rw, (flatR xs).length = xs.length * 4
  | [] => rfl
  | x :: xs => by
    have := flatR_len xs
    unfold flatR at this ⊢
    rw [List.flatMap_cons, List.length_append, this, List.length_cons]
    show 4 + xs.length * 4 = _
    omega
abbrev rwA (x : Rw) : AV := .agg [lt (.int .i64 x.s), lt (.int .i64 x.k), lt (.int .i64 x.n), lt (.int .i64 x.r)]
abbrev iRws (xs : List Rw) : IV := .sl (fun j => .lit (.int .i64 ((flatR xs).getD j 0))) xs.length 4
abbrev obA (o : Ob) : AV := .agg [lt (.int .i64 o.S), lt (.int .i64 o.K), lt (.int .i64 o.I), .iv (iRws o.R)]
def pkFl (x : Pk) : List Int := [x.o, x.r]
def flatP (xs : List Pk) : List Int := xs.flatMap pkFl
abbrev iPks (xs : List Pk) : IV := .sl (fun j => .lit (.int .i64 ((flatP xs).getD j 0))) xs.length 2
structure Ob.Ok (o : Ob) : Prop where
  S : -9223372036854775808 ≤ o.S ∧ o.S ≤ 9223372036854775807
  K : -9223372036854775808 ≤ o.K ∧ o.K ≤ 9223372036854775807
  I : -9223372036854775808 ≤ o.I ∧ o.I ≤ 9223372036854775807
end Go.Proofs.YtdaenbgjafalcaaDoor
namespace Go.Proofs.YtdaenbgjafalcaaDoor
open Go.RowKit Go.Lib
set_option linter.unusedSimpArgs false
theorem numR_rng {l : List UInt8} {lo hi : Int} (h : (numR l lo hi).2 = 0) : lo ≤ (numR l lo hi).1 ∧ (numR l lo hi).1 ≤ hi := by
  unfold numR at h ⊢
  split
  · rename_i h1; rw [if_pos h1] at h; cases h
  · rename_i h1
    rw [if_neg h1] at h
    split
    · rename_i h2; exact ⟨h2.2.2.1, h2.2.2.2⟩
    · rename_i h2; rw [if_neg h2] at h; cases h
theorem nGo_rng {le z a b : Int} : ∀ {T : List Tok3} {bs : List (Int × Int)} {acc : List Int}, (∀ p ∈ bs, p = (a, b)) → (∀ x ∈ acc, a ≤ x ∧ x ≤ b) → (nGo le z T bs acc).2.2 = 0 → ∀ x ∈ (nGo le z T bs acc).1, a ≤ x ∧ x ≤ b
  | [], [], acc, _, h, _ => h
  | t :: _, [], _, _, _, h => by simp [nGo] at h
  | [], _ :: _, _, _, _, h => by simp [nGo] at h
  | t :: T, p :: bs, acc, hb, ha, h => by
    rw [nGo] at h ⊢
    split at h
    · rename_i h1; exact absurd h h1
    · rename_i h1
      rw [if_neg h1]
      have hp := hb p (by simp)
      have h1 := Classical.not_not.1 h1
      have hr := numR_rng h1
      refine nGo_rng (fun q hq => hb q (by simp [hq])) (fun x hx => ?_) h
      rcases List.mem_append.1 hx with hx | hx
      · exact ha x hx
      · rw [List.mem_singleton] at hx; subst hx; rw [hp] at hr ⊢; exact hr
theorem nums_ok {T : List Tok3} {w : List UInt8} {z : Int} (h : (nums T w lo4 hi4 z).2.2 = 0) : T.length ≠ 0 ∧ (nums T w lo4 hi4 z).1.length = 4 ∧ (nums T w lo4 hi4 z).2.1 = z ∧ ∀ k, 0 ≤ (nums T w lo4 hi4 z).1.getD k 0 ∧ (nums T w lo4 hi4 z).1.getD k 0 ≤ 1000000 := by
  unfold nums at h ⊢
  by_cases h0 : T.length = 0
  · rw [if_pos h0] at h; cases h
  · rw [if_neg h0] at h ⊢
    by_cases h1 : (T.getD 0 tok0).2.2 ≠ w
    · rw [if_pos h1] at h; cases h
    · rw [if_neg h1] at h ⊢
      obtain ⟨h2, h3⟩ := nGo_len h
      have h4 := nGo_rng (a := 0) (b := 1000000) (fun p hp => by
        simp only [lo4, hi4, List.zip_cons_cons, List.zip_nil_left, List.mem_cons, List.not_mem_nil, or_false] at hp
        rcases hp with rfl | rfl | rfl | rfl <;> rfl) (by simp) h
      refine ⟨h0, by rw [h2]; rfl, h3, fun k => ?_⟩
      by_cases hk : k < (nGo (lastEnd T) z (T.drop 1) (lo4.zip hi4) []).1.length
      · rw [List.getD_eq_getElem?_getD, List.getElem?_eq_getElem hk]; exact h4 _ (List.getElem_mem hk)
      · rw [List.getD_eq_getElem?_getD, List.getElem?_eq_none (by omega)]; exact ⟨by decide, by decide⟩
theorem nxt_lt : ∀ L : List (List Tok3), (nxt L).1.length ≠ 0 → (nxt L).2.length < L.length
  | [], h => absurd rfl h
  | x :: L, h => by
    unfold nxt at h ⊢
    split
    · rename_i h1
      rw [if_pos h1] at h
      have := nxt_lt L h
      rw [List.length_cons]; omega
    · show L.length < (x :: L).length
      rw [List.length_cons]; omega
theorem flatR_snoc (R : List Rw) (n : List Int) : flatR R ++ [n.getD 0 0, n.getD 1 0, n.getD 2 0, n.getD 3 0] = flatR (R ++ [rwOf n]) := by
  unfold flatR; rw [List.flatMap_append]; simp [rwOf, rwFl]
theorem rowsGo_bad {z : Int} {n : Nat} {L : List (List Tok3)} {R : List Rw} {P : List Int} (h : (nums (nxt L).1 wRow lo4 hi4 z).2.2 ≠ 0) : rowsGo z (n + 1) L R P = ([], [], [], (nums (nxt L).1 wRow lo4 hi4 z).2.1, (nums (nxt L).1 wRow lo4 hi4 z).2.2) := if_pos h
theorem rowsGo_ok {z : Int} {n : Nat} {L : List (List Tok3)} {R : List Rw} {P : List Int} (h : (nums (nxt L).1 wRow lo4 hi4 z).2.2 = 0) : rowsGo z (n + 1) L R P = rowsGo z n (nxt L).2 (R ++ [rwOf (nums (nxt L).1 wRow lo4 hi4 z).1]) (P ++ [((nxt L).1.getD 0 tok0).2.1]) := if_neg (by rw [h]; simp)
def tq (L : List (List Tok3)) (z : Int) : List Int × Int × Int := nums (nxt L).1 wObj lo4 hi4 z
def tg (L : List (List Tok3)) (z : Int) : List Rw × List Int × List (List Tok3) × Int × Int := rowsGo z ((tq L z).1.getD 3 0).toNat (nxt L).2 [] []
def tob (L : List (List Tok3)) (z : Int) : Ob := ⟨(tq L z).1.getD 0 0, (tq L z).1.getD 1 0, (tq L z).1.getD 2 0, (tg L z).1⟩
theorem takeP_q {L : List (List Tok3)} {z : Int} (h : (tq L z).2.2 ≠ 0) : takeP L z = (ob0, [], (tq L z).2.1, (tq L z).2.2) := if_pos h
theorem takeP_g {L : List (List Tok3)} {z : Int} (h : (tq L z).2.2 = 0) (h1 : (tg L z).2.2.2.2 ≠ 0) : takeP L z = (ob0, [], (tg L z).2.2.2.1, (tg L z).2.2.2.2) := by
  show (if (tq L z).2.2 ≠ 0 then _ else _) = _
  rw [if_neg (by rw [h]; simp)]
  exact if_pos h1
theorem takeP_o {L : List (List Tok3)} {z : Int} (h : (tq L z).2.2 = 0) (h1 : (tg L z).2.2.2.2 = 0) : takeP L z = if obE (tob L z) = 2 then (ob0, [], ((nxt L).1.getD 0 tok0).2.1, 2) else
  if obE (tob L z) ≠ 0 then (ob0, [], (tg L z).2.1.getD (obAt (tob L z)).toNat 0, obE (tob L z)) else (tob L z, (tg L z).2.2.1, z, 0) := by
  show (if (tq L z).2.2 ≠ 0 then _ else _) = _
  rw [if_neg (by rw [h]; simp)]
  exact if_neg (by show ¬ (tg L z).2.2.2.2 ≠ 0; rw [h1]; simp)
theorem ob_at {o : Ob} (h : obE o ≠ 0) (h2 : obE o ≠ 2) : 0 ≤ obAt o ∧ (obAt o).toNat < o.R.length := by
  unfold obE at h h2
  unfold obAt
  by_cases h1 : obHead o
  · rw [if_pos h1] at h h2 ⊢
    by_cases h3 : obBad o < o.R.length
    · exact ⟨by omega, by omega⟩
    · rw [if_neg h3] at h; exact absurd rfl h
  · rw [if_neg h1] at h2; exact absurd rfl h2
end Go.Proofs.YtdaenbgjafalcaaDoor
namespace Go.Proofs.YtdaenbgjafalcaaDoor
open Go.RowKit
set_option linter.unusedVariables false
set_option linter.unusedSimpArgs false
section
variable {P : Program} {tt : TT} {m : Nat} {Q : Exit → XS → Prop} {fr : List AV} {H : AHeap} {M : MS} {l : List Oper}
theorem RI.congr {fz : Nat → Option Obj} {get get' : Nat → IV} {len sz : Nat} {v : Value} (h : RI fz (.sl get len sz) v) (he : ∀ j, j < len * sz → get j = get' j) : RI fz (.sl get' len sz) v := by
  cases h with
  | nil _ _ cap hc => exact .nil _ _ cap hc
  | empty _ _ a cap hc => exact .empty _ _ a cap hc
  | sl _ _ _ b off cap cs t fr vs h1 h2 h3 h4 h5 => exact .sl _ _ _ b off cap cs t fr vs h1 h2 (fun j hj => by rw [← he j hj]; exact h3 j hj) h4 h5
theorem RA.congr {n : Nat} {G : Gh} {get get' : Nat → IV} {len sz : Nat} {v : Value} (h : RA n G (.iv (.sl get len sz)) v) (he : ∀ j, j < len * sz → get j = get' j) : RA n G (.iv (.sl get' len sz)) v := by
  cases h with
  | iv _ _ hr => exact .iv _ _ (hr.congr he)
theorem SF.args {f : FuncId} {as1 as2 : List AV} {K : AV → AHeap → Prop} (h : SF P f as2 H K) (ha : ∀ G vs, RL H.length G as1 vs → RL H.length G as2 vs) : SF P f as1 H K :=
  ⟨h.callable, fun G w vs hi hr => h.calls G w vs hi (ha G vs hr)⟩
def intOf : AV → Int
  | .iv (.lit (.int _ x)) => x
  | _ => 0
theorem abuildSlice_at {t n : Nat} {ps : List (Nat × AV)} {x : AV} {obj : AObj} (h : abuildSlice tt [] t n ps = some (x, [some obj])) : ∃ len sz, x = .osl 0 0 len sz ∧ ∀ H, abuildSlice tt H t n ps = some (.osl H.length 0 len sz, H ++ [some obj]) := by
  unfold abuildSlice at h ⊢
  split at h
  · rename_i e _ _ _ ht
    split at h
    · rename_i r hr
      split at h
      · rename_i hc
        split at h
        · rename_i cs hcs
          split at h
          · rename_i h1
            simp only [Option.some.injEq, Prod.mk.injEq, List.nil_append, List.cons.injEq, and_true, List.length_nil] at h
            obtain ⟨rfl, rfl⟩ := h
            exact ⟨_, _, rfl, fun H => by simp only [ht, hr, if_pos hc, hcs, if_pos h1]⟩
          · cases h
        · cases h
      · cases h
    · cases h
  · cases h
theorem XRes_litF (hT : TyOK P tt) {d : Option Tmp} {t n : Nat} {ps : Array (Nat × Operand)} {ty : TypeId} {pos : String} {after : Array Edge} {g : Option (Nat × Bool)} (hw : wantedS fr ⟨d, .buildSlice t n ps, ty, pos, after, g⟩ = some true)
    {len sz : Nat} {e : TypeId} {cs : List AV} (ha : abuildSlice tt [] t n (ps.toList.map fun p => (p.1, AS.ev ⟨fr, H⟩ p.2)) = some (.osl 0 0 len sz, [some ⟨e, cs⟩])) (hz : sz ≠ 0) (hl : (cs.map intOf).length = len * sz) (hc : cs = (cs.map intOf).map lint)
    (h : XRes P m Q (l, ⟨putL fr d (.iv (iFlat (cs.map intOf) len sz)), H, M⟩)) : XRes P m Q (⟨d, .buildSlice t n ps, ty, pos, after, g⟩ :: l, ⟨fr, H, M⟩) := by
  obtain ⟨len', sz', e1, e2⟩ := abuildSlice_at ha
  cases e1
  refine XRes_lit hT (iFlat (cs.map intOf) len sz) hw (x := .osl H.length 0 len sz) (obj := ⟨e, cs⟩) (by simp only [aop]; exact e2 H) ?_ h
  exact .osl _ 0 len sz _ ⟨e, cs⟩ (fun j => lt (.int .i64 ((cs.map intOf).getD j 0))) hz (only_mk (by simp) (by simp)) (fun j hj => by rw [Nat.zero_add]; exact (congrArg (fun z : List AV => z[j]?) hc).trans (lint_at (xs := cs.map intOf) (by rw [hl]; exact hj))) fun j _ => .iv _
theorem snap_litF {H : AHeap} {e : TypeId} {cs : List AV} {len sz : Nat} (hz : sz ≠ 0) (hl : (cs.map intOf).length = len * sz) (hc : cs = (cs.map intOf).map lint) : SnapC (onlyH [H.length] (H ++ [some ⟨e, cs⟩])) (.osl H.length 0 len sz) (iFlat (cs.map intOf) len sz) :=
  .osl _ 0 len sz _ ⟨e, cs⟩ (fun j => lt (.int .i64 ((cs.map intOf).getD j 0))) hz (only_mk (by simp) (by simp)) (fun j hj => by rw [Nat.zero_add]; exact (congrArg (fun z : List AV => z[j]?) hc).trans (lint_at (xs := cs.map intOf) (by rw [hl]; exact hj))) fun j _ => .iv _
theorem ADF_litF (hT : TyOK P tt) {H0 : AHeap} {K : List AV → AHeap → Prop} {d : Option Tmp} {t n : Nat} {ps : Array (Nat × Operand)} {ty : TypeId} {pos : String} {after : Array Edge} {g : Option (Nat × Bool)} (hw : wantedS fr ⟨d, .buildSlice t n ps, ty, pos, after, g⟩ = some true)
    {len sz : Nat} {e : TypeId} {cs : List AV} (ha : abuildSlice tt [] t n (ps.toList.map fun p => (p.1, AS.ev ⟨fr, H0⟩ p.2)) = some (.osl 0 0 len sz, [some ⟨e, cs⟩])) (hz : sz ≠ 0) (hl : (cs.map intOf).length = len * sz) (hc : cs = (cs.map intOf).map lint)
    (h : ADF P H0 K (l, putL fr d (.iv (iFlat (cs.map intOf) len sz)))) : ADF P H0 K (⟨d, .buildSlice t n ps, ty, pos, after, g⟩ :: l, fr) := by
  obtain ⟨len', sz', e1, e2⟩ := abuildSlice_at ha
  cases e1
  refine ADF_lit hT (iFlat (cs.map intOf) len sz) rfl hw (fun H => ⟨.osl H.length 0 len sz, ⟨e, cs⟩, ?_, snap_litF hz hl hc⟩) h
  have e : (ps.toList.map fun p => (p.1, AS.ev ⟨fr, H⟩ p.2)) = ps.toList.map fun p => (p.1, AS.ev ⟨fr, H0⟩ p.2) := List.map_congr_left fun y _ => by obtain ⟨a, b⟩ := y; cases b <;> rfl
  simp only [aop]
  rw [e]; exact e2 H
theorem XRes_eqB {t n : Nat} {op : BinOp} {x y : Operand} {d : Option Tmp} {t2 ty : TypeId} {pos : String} {after : Array Edge} {g : Option (Nat × Bool)} {us vs2 : List Int} (b : Bool) (hw : wantedS fr ⟨d, .binOp op t x y t2, ty, pos, after, g⟩ = some true) (hop : op = .eql ∨ op = .neq) (hx : AS.ev ⟨fr, H⟩ x = .agg (us.map fun a => lt (.int .i64 a))) (hy : AS.ev ⟨fr, H⟩ y = .agg (vs2.map fun a => lt (.int .i64 a))) (h1 : us.length = n) (h2 : vs2.length = n) (h : eqOK P t n = true) (hb : eqRes op (us == vs2) = b)
    (k : XRes P m Q (l, ⟨putL fr d (lt (.bool b)), H, M⟩)) : XRes P m Q (⟨d, .binOp op t x y t2, ty, pos, after, g⟩ :: l, ⟨fr, H, M⟩) := XRes_eqA hw hop hx hy h1 h2 h (by rw [hb]; exact k)
end
end Go.Proofs.YtdaenbgjafalcaaDoor
