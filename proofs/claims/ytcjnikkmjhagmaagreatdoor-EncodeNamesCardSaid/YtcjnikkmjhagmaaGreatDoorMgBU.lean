import Derived.Test.YtcjnikkmjhagmaaGreatDoorMgAV
import Derived.Lib.SlBytesRow
import Derived.Lib.BufferRead
import Derived.Test.YtcjnikkmjhagmaaGreatDoorMgBT
import Derived.Lib.ItoaNum
import Derived.Lib.Strings
import Derived.Test.YtcjnikkmjhagmaaGreatDoorMgBL
import Derived.Test.YtcjnikkmjhagmaaGreatDoorMgBF
namespace Go.Proofs.YtcjnikkmjhagmaaGreatDoor
open Go.RowKit
set_option linter.unusedVariables false
def u8C (l : List UInt8) : List AV := l.map fun b => lt (.int .u8 (b.toNat : Int))
section
variable {P : Program}
theorem bs_run {src dst e : TypeId} (hs : P.underlying src = some (.slice e)) (he : P.underlying e = some (.int .u8)) (hd : P.underlying dst = some .string) {G : Gh} {H : AHeap} {w : World} (hi : Inv G H w) {o n : Nat} {t : TypeId} {l : List UInt8} (ho : H[o]? = some (some ⟨t, u8C l⟩)) (hn : n = l.length) {v : Value} (hv : RA H.length G (.osl o 0 n 1) v) :
    (convert src dst v).run P w = .ok (.string ⟨l.toArray⟩) w := by
  have hsz : (⟨l.toArray⟩ : ByteArray).size = n := by rw [hn]; show l.toArray.size = _; simp
  cases hv with
  | osl _ _ _ _ b a cap h1 h2 h3 h4 h5 h6 =>
    have hB : Lib.Bytes w b a ⟨l.toArray⟩ := fun i hlt => by
      rw [hsz] at hlt
      have hil : i < l.length := by omega
      rcases hi.obj o _ ho with ⟨q, _⟩ | ⟨_, cs, m1, m2, m3, m4, m5, m6⟩
      · have hq : (u8C l).length = 0 := by rw [show u8C l = [] from q]; rfl
        unfold u8C at hq; simp at hq; omega
      · have ea : a = (G.mu o).2 + 0 := h3 (by omega)
        have hc : (u8C l)[i]? = some (lt (.int .u8 (l[i].toNat : Int))) := by unfold u8C; rw [List.getElem?_map, List.getElem?_eq_getElem hil]; rfl
        obtain ⟨u, hu, hr⟩ := m3.cell hc
        have := hr.lit_inv; subst this
        rw [h2] at m1
        rw [cell_of_heap m1, ← Array.getElem?_toList, ea, Nat.add_zero, hu]
        show some (Value.int .u8 (l[i].toNat : Int)) = some (Value.int .u8 ((l.toArray[i]'(by simpa using hil)).toNat : Int))
        rw [List.getElem_toArray]
    have h := Lib.run_convert_whole (P := P) w src e dst hs he hd b a ⟨l.toArray⟩ hB cap
    rw [hsz] at h
    exact h
  | onil _ _ _ h1 =>
    have hl : l = [] := List.length_eq_zero_iff.1 hn.symm
    subst hl
    exact Lib.run_convert_nil_bytes w src dst e _ hs he hd
variable {m : Nat} {Q : Exit → XS → Prop} {fr : List AV} {H : AHeap} {M : MS} {l : List Oper} {d : Option Tmp} {ty : TypeId} {pos : String} {after : Array Edge} {g : Option (Nat × Bool)}
theorem XRes_bs {src dst e : TypeId} {x : Operand} {o n : Nat} {t : TypeId} (bs : List UInt8) (hw : wantedS fr ⟨d, .convert src dst x, ty, pos, after, g⟩ = some true) (hx : AS.ev ⟨fr, H⟩ x = .osl o 0 n 1) (ho : H[o]? = some (some ⟨t, u8C bs⟩)) (hn : n = bs.length)
    (hs : P.underlying src = some (.slice e)) (he : P.underlying e = some (.int .u8)) (hd : P.underlying dst = some .string)
    (k : XRes P m Q (l, ⟨putL fr d (lt (.string ⟨bs.toArray⟩)), H, M⟩)) : XRes P m Q (⟨d, .convert src dst x, ty, pos, after, g⟩ :: l, ⟨fr, H, M⟩) :=
  XRes_gives hw (fun G a w hr => ⟨G, _, w, .inl (by
    have hv := hr.ev x
    rw [hx] at hv
    simp only [execOp]
    rw [Sem.run_bind, bs_run hs he hd hr.inv ho hn hv]
    rfl), Gh.le.refl _ _, Nat.le_refl _, hr.inv, .iv _ _ (.lit _)⟩) k
end
end Go.Proofs.YtcjnikkmjhagmaaGreatDoor
namespace Go.Proofs.YtcjnikkmjhagmaaGreatDoor
open Go.RowKit Go.Lib
set_option linter.unusedVariables false
set_option linter.unusedSimpArgs false
def dz (m : Nat) : List UInt8 := if m = 0 then [] else decDigits m
theorem dz_step {m : Nat} (h : m ≠ 0) : dz m = dz (m / 10) ++ [UInt8.ofNat (48 + m % 10)] := by
  unfold dz
  rw [if_neg h, decDigits]
  by_cases h1 : m < 10
  · rw [dif_pos h1, if_pos (by omega), show m % 10 = m by omega]; rfl
  · rw [dif_neg h1, if_neg (by omega)]
theorem dz_len {m : Nat} (h : m < 18446744073709551616) : (dz m).length ≤ 20 := by
  unfold dz
  by_cases h0 : m = 0
  · rw [if_pos h0]; exact Nat.zero_le _
  · rw [if_neg h0, decDigits_length]
    have := Lib.numDigits_eq m (by omega) h
    split at this <;> omega
def ba (l : List UInt8) : ByteArray := ⟨l.toArray⟩
theorem ba_size (l : List UInt8) : (ba l).size = l.length := by show l.toArray.size = _; simp
theorem ba_mk (l : List UInt8) : (⟨l.toArray⟩ : ByteArray) = ba l := rfl
theorem ba_app (a b : List UInt8) : ba a ++ ba b = ba (a ++ b) := by
  apply ByteArray.ext
  rw [ByteArray.data_append]
  show a.toArray ++ b.toArray = (a ++ b).toArray
  simp
theorem tm_neg (m : Nat) : Int.tmod (-(m : Int)) 10 = -((m % 10 : Nat) : Int) := by rw [Int.neg_tmod]; rfl
theorem td_neg (m : Nat) : Int.tdiv (-(m : Int)) 10 = -((m / 10 : Nat) : Int) := by rw [Int.neg_tdiv]; rfl
theorem itoa_dz {n : Int} (h : n ≠ 0) : itoa n = (if n < 0 then [45] else []) ++ dz n.natAbs := by
  unfold itoa dz
  rw [if_neg (by omega : ¬ n.natAbs = 0)]
  by_cases h1 : n < 0
  · rw [if_pos h1, if_pos h1]; rfl
  · rw [if_neg h1, if_neg h1, show n.toNat = n.natAbs by omega]; rfl
theorem Wd226a {A B : Prop} (h9 : B) (w : B → A := by (intro h9; (repeat intro K hK); refine ⟨?_⟩; (repeat (first | (first | (with_reducible first | refine AX_block ?_ | refine AX_skip ?_ | refine AX_exit ?_ | refine AX_ret ?_ | refine AX_ift ?_ | refine AX_iff ?_ | refine AX_seq_k (fun K hK => ?_) | refine ContX.use (by assumption) ?_) | simp only [thenX, inBlockX, if_true, if_false, reduceCtorEq]) | (first | ((with_reducible refine XOP tyOK ?_); simp (disch := omega) only [go_sem , Int.neg_neg, hs1, hs2, hs3, hs4, hs5, ba_mk, ba_app, ba_size, List.cons_append, List.nil_append, List.length_cons, List.length_nil]; (with_reducible refine XRes_id ?_)) | (with_reducible refine XSK ?_)) | ((with_reducible refine XRes_nil ?_); refine hK _ ?_; clear hK K) | ((with_reducible refine AX_reg0 fun K hK => ?_); simp only [go_sem]) | (first | (refine XRes_bs (e := 5) [c] rfl rfl rfl rfl (by kernel_rfl) (by kernel_rfl) (by kernel_rfl) ?_; (simp only [putL, List.set_cons_succ, List.set_cons_zero]))))); refine Wk.o ?_; (repeat revert hK K); exact h9)) : A := w h9
set_option maxRecDepth 100000 in
set_option maxHeartbeats 4000000 in
theorem pf_rDigits (n : Int) (h0 : -9223372036854775808 ≤ n) (h1 : n ≤ 9223372036854775807) : PF Tryz.prog 53 [lt (.int .i64 n)] fun r H' => r = lt (.string (ba (itoa n))) ∧ H' = [] := by
  refine SF.forgetAll ?_
  have hs1 := trivial; have hs2 := trivial; have hs3 := trivial; have hs4 := trivial; have hs5 := trivial; have c := (0 : UInt8)
  by_cases hz : n = 0
  · subst hz
    (refine SF_of_bodyX (aload tt) (aload_ok tyOK) Tryz.func53 rfl (by kernel_rfl) ?_; simp only [Tryz.ntmps53, List.length_cons, List.length_nil, Nat.reduceAdd, Nat.reduceSub, List.replicate_succ, List.replicate_zero, List.cons_append, List.nil_append])
    (refine Wk.o ?_; (repeat revert hK K); refine Wd226a ?_; (repeat intro K hK); refine ⟨?_⟩)
    (simp only [bodyX]; refine ⟨_, by simp only [aresults, aresult, XS.as, Tryz.results53, aload, go_sem, Option.bind_some]; rfl, ?_⟩)
    have e0 : itoa 0 = [48] := by unfold itoa; rw [if_neg (by omega), show (0 : Int).toNat = 0 from rfl, decDigits_one (by omega)]; rfl
    exact ⟨.iv _, by rw [e0], trivial⟩
  · (refine SF_of_bodyX (aload tt) (aload_ok tyOK) Tryz.func53 rfl (by kernel_rfl) ?_; simp only [Tryz.ntmps53, List.length_cons, List.length_nil, Nat.reduceAdd, Nat.reduceSub, List.replicate_succ, List.replicate_zero, List.cons_append, List.nil_append])
    (refine Wk.o ?_; (repeat revert hK K); refine Wd226a ?_; (repeat intro K hK); refine ⟨?_⟩)
    (refine AWH (σ := Int × List UInt8) [9, 10, 13, 14, 5, 15, 16, 17, 18, 19, 20, 21, 22, 23, 24, 25, 11, 12] (fun (x, out) => [(4, .iv (.lit (.int .i64 x))), (3, .iv (.lit (.string (ba out))))]) (fun (x, out) => []) (fun (x, out) => []) (fun (x, out) => dz n.natAbs = dz x.natAbs ++ out ∧ (n < 0 → x ≤ 0) ∧ (0 < n → 0 ≤ x) ∧ -9223372036854775808 ≤ x ∧ x ≤ 9223372036854775807) (fun (x, out) => x.natAbs) (n, []) (by first | exact ⟨by rw [List.append_nil], fun h => by omega, fun h => by omega, h0, h1⟩) ?_; rintro ⟨x, out⟩ d fr hfr ⟨h2, h3, h4, h5, h6⟩; simp only [updS, deadS, List.set_cons_succ, List.set_cons_zero, lint] at hfr; subst hfr; (try dsimp only))
    have hol : out.length ≤ 20 := by
      have h7 := dz_len (m := n.natAbs) (by omega)
      rw [h2, List.length_append] at h7; omega
    by_cases hx : x = 0
    · have he : out = dz n.natAbs := by rw [h2, hx]; rfl
      by_cases hn : n < 0
      · have hs1 : (⟨#[45]⟩ : ByteArray) = ba [45] := rfl
        (refine Wk.o ?_; (repeat revert hK K); refine Wd226a ?_; (repeat intro K hK); refine ⟨?_⟩)
        (simp only [bodyX]; refine ⟨_, by simp only [aresults, aresult, XS.as, Tryz.results53, aload, go_sem, Option.bind_some]; rfl, ?_⟩)
        exact ⟨.iv _, by rw [itoa_dz hz, if_pos hn, he]; rfl, trivial⟩
      · (refine Wk.o ?_; (repeat revert hK K); refine Wd226a ?_; (repeat intro K hK); refine ⟨?_⟩)
        (simp only [bodyX]; refine ⟨_, by simp only [aresults, aresult, XS.as, Tryz.results53, aload, go_sem, Option.bind_some]; rfl, ?_⟩)
        exact ⟨.iv _, by rw [itoa_dz hz, if_neg hn, he]; rfl, trivial⟩
    · obtain ⟨m, hm⟩ : ∃ m : Nat, m = x.natAbs := ⟨_, rfl⟩
      have hst := dz_step (m := m) (by omega)
      rw [hm] at hst
      obtain ⟨r, hr⟩ : ∃ r : Nat, r = m % 10 := ⟨_, rfl⟩
      obtain ⟨y, hy⟩ : ∃ y : Nat, y = m / 10 := ⟨_, rfl⟩
      rw [← hm, ← hr, ← hy] at hst
      rw [← hm] at h2
      generalize hc : UInt8.ofNat (48 + r) = c at *
      have hct : c.toNat = 48 + r := by rw [← hc, UInt8.toNat_ofNat']; omega
      have hI2 : dz n.natAbs = dz y ++ (c :: out) := by rw [h2, hst, List.append_assoc]; rfl
      have hs5 : (48 : Int) + (r : Int) = (c.toNat : Int) := by omega
      have hrb : r < 10 := by omega
      have hs4 : IntKind.u8.wrap (c.toNat : Int) = (c.toNat : Int) := by rw [IntKind.wrap_u8]; omega
      by_cases hneg : x < 0
      · have hx2 : x = -(m : Int) := by omega
        have hs1 : Int.tmod x 10 = -(r : Int) := by rw [hx2, tm_neg, hr]
        have hs2 : Int.tdiv x 10 = -(y : Int) := by rw [hx2, td_neg, hy]
        have hI3 : dz n.natAbs = dz (-(y : Int)).natAbs ++ (c :: out) ∧ (n < 0 → -(y : Int) ≤ 0) ∧ (0 < n → 0 ≤ -(y : Int)) ∧ -9223372036854775808 ≤ -(y : Int) ∧ -(y : Int) ≤ 9223372036854775807 := ⟨by rw [show (-(y : Int)).natAbs = y by omega]; exact hI2, fun _ => by omega, fun h => by omega, by omega, by omega⟩
        by_cases hr0 : r = 0
        · have hs5 : (48 : Int) + -(r : Int) = (c.toNat : Int) := by omega
          (refine Wk.o ?_; (repeat revert hK K); refine Wd226a ?_; (repeat intro K hK); refine ⟨?_⟩)
          exact whx_ren [] (-(y : Int), c :: out) hI3 (by (first | omega | (dsimp only; omega) | (simp only; omega))) rfl (by decide) (by decide) (by (simp (disch := omega) only [go_sem, lint , Int.neg_neg, hs1, hs2, hs3, hs4, hs5, ba_mk, ba_app, ba_size, List.cons_append, List.nil_append, List.length_cons, List.length_nil])) (by (simp (disch := omega) only [go_sem, lint , Int.neg_neg, hs1, hs2, hs3, hs4, hs5, ba_mk, ba_app, ba_size, List.cons_append, List.nil_append, List.length_cons, List.length_nil])) (by (simp (disch := omega) only [go_sem, lint , Int.neg_neg, hs1, hs2, hs3, hs4, hs5, ba_mk, ba_app, ba_size, List.cons_append, List.nil_append, List.length_cons, List.length_nil])) (fun d => by first | ((simp (disch := omega) only [go_sem, lint , Int.neg_neg, hs1, hs2, hs3, hs4, hs5, ba_mk, ba_app, ba_size, List.cons_append, List.nil_append, List.length_cons, List.length_nil]); done) | ((simp (disch := omega) only [go_sem, lint , Int.neg_neg, hs1, hs2, hs3, hs4, hs5, ba_mk, ba_app, ba_size, List.cons_append, List.nil_append, List.length_cons, List.length_nil]); rfl))
        · (refine Wk.o ?_; (repeat revert hK K); refine Wd226a ?_; (repeat intro K hK); refine ⟨?_⟩)
          exact whx_ren [] (-(y : Int), c :: out) hI3 (by (first | omega | (dsimp only; omega) | (simp only; omega))) rfl (by decide) (by decide) (by (simp (disch := omega) only [go_sem, lint , Int.neg_neg, hs1, hs2, hs3, hs4, hs5, ba_mk, ba_app, ba_size, List.cons_append, List.nil_append, List.length_cons, List.length_nil])) (by (simp (disch := omega) only [go_sem, lint , Int.neg_neg, hs1, hs2, hs3, hs4, hs5, ba_mk, ba_app, ba_size, List.cons_append, List.nil_append, List.length_cons, List.length_nil])) (by (simp (disch := omega) only [go_sem, lint , Int.neg_neg, hs1, hs2, hs3, hs4, hs5, ba_mk, ba_app, ba_size, List.cons_append, List.nil_append, List.length_cons, List.length_nil])) (fun d => by first | ((simp (disch := omega) only [go_sem, lint , Int.neg_neg, hs1, hs2, hs3, hs4, hs5, ba_mk, ba_app, ba_size, List.cons_append, List.nil_append, List.length_cons, List.length_nil]); done) | ((simp (disch := omega) only [go_sem, lint , Int.neg_neg, hs1, hs2, hs3, hs4, hs5, ba_mk, ba_app, ba_size, List.cons_append, List.nil_append, List.length_cons, List.length_nil]); rfl))
      · have hx2 : x = (m : Int) := by omega
        have hs1 : Int.tmod x 10 = (r : Int) := by rw [hx2, hr]; rfl
        have hs2 : Int.tdiv x 10 = (y : Int) := by rw [hx2, hy]; rfl
        have hI3 : dz n.natAbs = dz (y : Int).natAbs ++ (c :: out) ∧ (n < 0 → (y : Int) ≤ 0) ∧ (0 < n → 0 ≤ (y : Int)) ∧ -9223372036854775808 ≤ (y : Int) ∧ (y : Int) ≤ 9223372036854775807 := ⟨by rw [show (y : Int).natAbs = y by omega]; exact hI2, fun _ => by omega, fun h => by omega, by omega, by omega⟩
        (refine Wk.o ?_; (repeat revert hK K); refine Wd226a ?_; (repeat intro K hK); refine ⟨?_⟩)
        exact whx_ren [] ((y : Int), c :: out) hI3 (by (first | omega | (dsimp only; omega) | (simp only; omega))) rfl (by decide) (by decide) (by (simp (disch := omega) only [go_sem, lint , Int.neg_neg, hs1, hs2, hs3, hs4, hs5, ba_mk, ba_app, ba_size, List.cons_append, List.nil_append, List.length_cons, List.length_nil])) (by (simp (disch := omega) only [go_sem, lint , Int.neg_neg, hs1, hs2, hs3, hs4, hs5, ba_mk, ba_app, ba_size, List.cons_append, List.nil_append, List.length_cons, List.length_nil])) (by (simp (disch := omega) only [go_sem, lint , Int.neg_neg, hs1, hs2, hs3, hs4, hs5, ba_mk, ba_app, ba_size, List.cons_append, List.nil_append, List.length_cons, List.length_nil])) (fun d => by first | ((simp (disch := omega) only [go_sem, lint , Int.neg_neg, hs1, hs2, hs3, hs4, hs5, ba_mk, ba_app, ba_size, List.cons_append, List.nil_append, List.length_cons, List.length_nil]); done) | ((simp (disch := omega) only [go_sem, lint , Int.neg_neg, hs1, hs2, hs3, hs4, hs5, ba_mk, ba_app, ba_size, List.cons_append, List.nil_append, List.length_cons, List.length_nil]); rfl))
end Go.Proofs.YtcjnikkmjhagmaaGreatDoor
namespace Go.Proofs.YtcjnikkmjhagmaaGreatDoor
open Go.RowKit
set_option linter.unusedVariables false
set_option linter.unusedSimpArgs false
def cMs (q : Int) (e : Nat) : Nat → Int
  | 0 => 0
  | i + 1 => cMs q e i + (if i < e then 1 + q else 2 * q)
theorem cMs_lo (q : Int) (e : Nat) : ∀ i, i ≤ e → cMs q e i = i * (1 + q)
  | 0, _ => by simp [cMs]
  | i + 1, h => by
    unfold cMs
    rw [cMs_lo q e i (by omega), if_pos (by omega), Int.natCast_add, Int.add_mul]; simp
theorem cMs_hi (q : Int) (e : Nat) : ∀ j, cMs q e (e + j) = e * (1 + q) + j * 2 * q
  | 0 => by rw [Nat.add_zero, cMs_lo q e e (Nat.le_refl _)]; simp
  | j + 1 => by
    show cMs q e (e + j) + (if e + j < e then 1 + q else 2 * q) = _
    rw [cMs_hi q e j, if_neg (by omega), Int.natCast_add, Int.add_mul, Int.add_mul]; simp only [Int.natCast_one, Int.one_mul]; omega
theorem cMs_end {n m e : Nat} (h : e ≤ n) : cMs ((n : Int) * m) e n = cMv n m e := by
  obtain ⟨j, rfl⟩ : ∃ j, n = e + j := ⟨n - e, by omega⟩
  have e1 : (((e + j : Nat) : Int) - (e : Int)) = j := by omega
  unfold cMv
  rw [e1, cMs_hi]
theorem cMs_lim {q : Int} (h0 : 0 ≤ q) (h1 : q ≤ 4000) (e : Nat) : ∀ i, 0 ≤ cMs q e i ∧ cMs q e i ≤ 8001 * (i : Int)
  | 0 => by simp [cMs]
  | i + 1 => by
    have := cMs_lim h0 h1 e i
    unfold cMs; split <;> omega
theorem cP_ref (n : Nat) : (n : Int) + (n : Int) * n * (n - 1) = cP n := by
  unfold cP
  rw [Int.mul_assoc, tri_int, show 2 * (n : Int) * (tri n : Int) = (n : Int) * (2 * tri n) by rw [Int.mul_comm 2 (n : Int), Int.mul_assoc]]
theorem Wa284a {A B : Prop} (h9 : B) (w : B → A := by (intro h9; (repeat intro K hK); refine ⟨?_⟩; (repeat (first | (first | (with_reducible first | refine AX_block ?_ | refine AX_skip ?_ | refine AX_exit ?_ | refine AX_ret ?_ | refine AX_ift ?_ | refine AX_iff ?_ | refine AX_seq_k (fun K hK => ?_) | refine ContX.use (by assumption) ?_) | simp only [thenX, inBlockX, if_true, if_false, reduceCtorEq]) | (first | ((with_reducible first | refine XOP tyOK ?_ | refine AOP tyOK ?_); simp (disch := omega) only [go_sem , iInts, iFlat, szG, Int.toNat_zero, Int.toNat_one, hs1, hs2, hs3, hs4, rows_one, rows_take, List.length_nil]; (with_reducible first | refine XRes_id ?_ | refine ADF_id ?_)) | (with_reducible first | refine XSK ?_ | refine ASK ?_)) | ((first | (with_reducible refine XRes_nil ?_) | (with_reducible refine ADF_nil ?_)); (first | refine hK _ ?_ | refine hK _ _ ?_); clear hK K) | ((first | (with_reducible refine AX_reg0 fun K hK => ?_) | (refine AX_drawG1 tyOK (by kernel_rfl) (by rfl) (by kernel_rfl) fun K hK => ?_)); simp only [go_sem]) | (first | (first | refine XTL (by rfl) hCk ?_ | refine ATL tyOK (by rfl) hCk ?_)))); refine Wk.o ?_; (repeat revert hK K); exact h9)) : A := w h9
set_option maxRecDepth 100000 in
set_option maxHeartbeats 1000000 in
theorem pf_rStates (n m : Int) : PF Tryz.prog 127 [lt (.int .i64 n), lt (.int .i64 m)] fun r H' => r = lt (.int .i64 (if nOk n m then cSt n.toNat m.toNat else 0)) ∧ H' = [] := by
  refine SF.forgetAll ?_
  have hs1 := trivial; have hs2 := trivial; have hs3 := trivial; have hs4 := trivial
  have hCk := pf_r31Check n m
  by_cases hok : nOk n m
  · rw [nCheck_yes hok] at hCk
    rw [if_pos hok]
    obtain ⟨N, M, rfl, rfl, hN, hM⟩ := nOk_nat hok
    rw [Int.toNat_natCast, Int.toNat_natCast]
    have hl := tri_le hM
    have e1 := tri_int M
    have hb : -64 ≤ (M : Int) * (M - 1) ∧ (M : Int) * (M - 1) ≤ 4096 := by omega
    clear e1
    have hl2 := cSt_lim hN hM
    have hs1 := tri_div M
    (refine SF_of_bodyX (aload tt) (aload_ok tyOK) Tryz.func127 rfl (by kernel_rfl) ?_; simp only [Tryz.ntmps127, List.length_cons, List.length_nil, Nat.reduceAdd, Nat.reduceSub, List.replicate_succ, List.replicate_zero, List.cons_append, List.nil_append])
    (refine Wk.o ?_; (repeat revert hK K); refine Wa284a ?_; (repeat intro K hK); refine ⟨?_⟩)
    (simp only [bodyX]; refine ⟨_, by simp only [aresults, aresult, XS.as, Tryz.results127, aload, go_sem, Option.bind_some]; rfl, ?_⟩)
    exact ⟨.iv _, rfl, trivial⟩
  · rw [nCheck_no hok] at hCk
    rw [if_neg hok]
    (refine SF_of_bodyX (aload tt) (aload_ok tyOK) Tryz.func127 rfl (by kernel_rfl) ?_; simp only [Tryz.ntmps127, List.length_cons, List.length_nil, Nat.reduceAdd, Nat.reduceSub, List.replicate_succ, List.replicate_zero, List.cons_append, List.nil_append])
    (refine Wk.o ?_; (repeat revert hK K); refine Wa284a ?_; (repeat intro K hK); refine ⟨?_⟩)
    (simp only [bodyX]; refine ⟨_, by simp only [aresults, aresult, XS.as, Tryz.results127, aload, go_sem, Option.bind_some]; rfl, ?_⟩)
    exact ⟨.iv _, rfl, trivial⟩
set_option maxRecDepth 100000 in
set_option maxHeartbeats 1000000 in
theorem pf_rPlaces (n m : Int) : PF Tryz.prog 125 [lt (.int .i64 n), lt (.int .i64 m)] fun r H' => r = lt (.int .i64 (if nOk n m then cP n.toNat else 0)) ∧ H' = [] := by
  refine SF.forgetAll ?_
  have hs1 := trivial; have hs2 := trivial; have hs3 := trivial; have hs4 := trivial
  have hCk := pf_r31Check n m
  by_cases hok : nOk n m
  · rw [nCheck_yes hok] at hCk
    rw [if_pos hok]
    obtain ⟨N, M, rfl, rfl, hN, hM⟩ := nOk_nat hok
    rw [Int.toNat_natCast]
    have hl := tri_le hN
    have hl2 := cP_lim hN
    have hP := cP_ref N
    have hq := nOk_sq hok
    unfold cP at hP
    have hb : 0 ≤ (N : Int) * N * (N - 1) ∧ (N : Int) * N * (N - 1) ≤ 1000000 := by omega
    have hP := cP_ref N
    (refine SF_of_bodyX (aload tt) (aload_ok tyOK) Tryz.func125 rfl (by kernel_rfl) ?_; simp only [Tryz.ntmps125, List.length_cons, List.length_nil, Nat.reduceAdd, Nat.reduceSub, List.replicate_succ, List.replicate_zero, List.cons_append, List.nil_append])
    (refine Wk.o ?_; (repeat revert hK K); refine Wa284a ?_; (repeat intro K hK); refine ⟨?_⟩)
    (simp only [bodyX]; refine ⟨_, by simp only [aresults, aresult, XS.as, Tryz.results125, aload, go_sem, Option.bind_some]; rfl, ?_⟩)
    exact ⟨.iv _, by rw [← hP], trivial⟩
  · rw [nCheck_no hok] at hCk
    rw [if_neg hok]
    (refine SF_of_bodyX (aload tt) (aload_ok tyOK) Tryz.func125 rfl (by kernel_rfl) ?_; simp only [Tryz.ntmps125, List.length_cons, List.length_nil, Nat.reduceAdd, Nat.reduceSub, List.replicate_succ, List.replicate_zero, List.cons_append, List.nil_append])
    (refine Wk.o ?_; (repeat revert hK K); refine Wa284a ?_; (repeat intro K hK); refine ⟨?_⟩)
    (simp only [bodyX]; refine ⟨_, by simp only [aresults, aresult, XS.as, Tryz.results125, aload, go_sem, Option.bind_some]; rfl, ?_⟩)
    exact ⟨.iv _, rfl, trivial⟩
set_option maxRecDepth 100000 in
set_option maxHeartbeats 1000000 in
theorem pf_rTimes (n m : Int) (p : Nat) : PF Tryz.prog 126 [lt (.int .i64 n), lt (.int .i64 m), lt (.int .i64 p)] fun r H' => r = lt (.int .i64 (if nOk n m ∧ p ≤ 2016 then cTm n.toNat p else 0)) ∧ H' = [] := by
  refine SF.forgetAll ?_
  have hs1 := trivial; have hs2 := trivial; have hs3 := trivial; have hs4 := trivial
  have hCk := pf_r31Check n m
  by_cases hok : nOk n m
  · rw [nCheck_yes hok] at hCk
    by_cases hp : p ≤ 2016
    · rw [if_pos ⟨hok, hp⟩]
      obtain ⟨N, M, rfl, rfl, hN, hM⟩ := nOk_nat hok
      rw [Int.toNat_natCast]
      have hl := tri_le hN
      have e1 := tri_int N
      have hb : -64 ≤ (N : Int) * (N - 1) ∧ (N : Int) * (N - 1) ≤ 4096 := by omega
      clear e1
      have hs1 := tri_div N
      have hl2 := cTm_lim hN hp
      (refine SF_of_bodyX (aload tt) (aload_ok tyOK) Tryz.func126 rfl (by kernel_rfl) ?_; simp only [Tryz.ntmps126, List.length_cons, List.length_nil, Nat.reduceAdd, Nat.reduceSub, List.replicate_succ, List.replicate_zero, List.cons_append, List.nil_append])
      (refine Wk.o ?_; (repeat revert hK K); refine Wa284a ?_; (repeat intro K hK); refine ⟨?_⟩)
      (simp only [bodyX]; refine ⟨_, by simp only [aresults, aresult, XS.as, Tryz.results126, aload, go_sem, Option.bind_some]; rfl, ?_⟩)
      exact ⟨.iv _, rfl, trivial⟩
    · rw [if_neg fun h => hp h.2]
      (refine SF_of_bodyX (aload tt) (aload_ok tyOK) Tryz.func126 rfl (by kernel_rfl) ?_; simp only [Tryz.ntmps126, List.length_cons, List.length_nil, Nat.reduceAdd, Nat.reduceSub, List.replicate_succ, List.replicate_zero, List.cons_append, List.nil_append])
      (refine Wk.o ?_; (repeat revert hK K); refine Wa284a ?_; (repeat intro K hK); refine ⟨?_⟩)
      (simp only [bodyX]; refine ⟨_, by simp only [aresults, aresult, XS.as, Tryz.results126, aload, go_sem, Option.bind_some]; rfl, ?_⟩)
      exact ⟨.iv _, rfl, trivial⟩
  · rw [nCheck_no hok] at hCk
    rw [if_neg fun h => hok h.1]
    (refine SF_of_bodyX (aload tt) (aload_ok tyOK) Tryz.func126 rfl (by kernel_rfl) ?_; simp only [Tryz.ntmps126, List.length_cons, List.length_nil, Nat.reduceAdd, Nat.reduceSub, List.replicate_succ, List.replicate_zero, List.cons_append, List.nil_append])
    (refine Wk.o ?_; (repeat revert hK K); refine Wa284a ?_; (repeat intro K hK); refine ⟨?_⟩)
    (simp only [bodyX]; refine ⟨_, by simp only [aresults, aresult, XS.as, Tryz.results126, aload, go_sem, Option.bind_some]; rfl, ?_⟩)
    exact ⟨.iv _, rfl, trivial⟩
set_option maxRecDepth 100000 in
set_option maxHeartbeats 1000000 in
theorem pf_rMoves (n m : Int) (e : Nat) : PF Tryz.prog 128 [lt (.int .i64 n), lt (.int .i64 m), lt (.int .i64 e)] fun r H' => r = lt (.int .i64 (if nOk n m ∧ (e : Int) ≤ n then cMv n.toNat m.toNat e else 0)) ∧ H' = [] := by
  refine SF.forgetAll ?_
  have hs1 := trivial; have hs2 := trivial; have hs3 := trivial; have hs4 := trivial
  have hCk := pf_r31Check n m
  by_cases hok : nOk n m
  · rw [nCheck_yes hok] at hCk
    obtain ⟨N, M, rfl, rfl, hN, hM⟩ := nOk_nat hok
    rw [Int.toNat_natCast, Int.toNat_natCast]
    by_cases hp : e ≤ N
    · rw [if_pos ⟨hok, by omega⟩]
      rw [← cMs_end hp]
      have hq : 0 ≤ (N : Int) * M ∧ (N : Int) * M ≤ 2048 := by
        have h1 : N * M ≤ 64 * 32 := Nat.mul_le_mul hN hM
        have h2 : ((N * M : Nat) : Int) = (N : Int) * M := by push_cast; rfl
        omega
      have hs2 : 2 * (N : Int) * M = 2 * ((N : Int) * M) := Int.mul_assoc _ _ _
      have hs3 : ((2 * N : Nat) : Int) * M = 2 * ((N : Int) * M) := by push_cast; exact Int.mul_assoc _ _ _
      generalize hs1 : (N : Int) * M = q at *
      have hlim := cMs_lim hq.1 (by omega) e
      (refine SF_of_bodyX (aload tt) (aload_ok tyOK) Tryz.func128 rfl (by kernel_rfl) ?_; simp only [Tryz.ntmps128, List.length_cons, List.length_nil, Nat.reduceAdd, Nat.reduceSub, List.replicate_succ, List.replicate_zero, List.cons_append, List.nil_append])
      (refine Wk.o ?_; (repeat revert hK K); refine Wa284a ?_; (repeat intro K hK); refine ⟨?_⟩)
      (refine AWH (σ := Nat) [22, 23, 24, 27, 28, 29, 30, 31, 32, 33, 34, 35, 36, 37, 38, 39, 40, 41, 25, 26] (fun i => [(8, lint i), (7, lint (cMs q e i))]) (fun i => []) (fun i => []) (fun i => i ≤ N) (fun i => N - i) 0 (by first | exact Nat.zero_le _) ?_; rintro i d fr hfr hi; simp only [updS, deadS, List.set_cons_succ, List.set_cons_zero, lint] at hfr; subst hfr; (try dsimp only))
      have hli := hlim i
      have hsu : cMs q e (i + 1) = cMs q e i + (if i < e then 1 + q else 2 * q) := rfl
      by_cases hlt : i < N
      · by_cases hie : i < e
        · rw [if_pos hie] at hsu
          (refine Wk.o ?_; (repeat revert hK K); refine Wa284a ?_; (repeat intro K hK); refine ⟨?_⟩)
          exact whx_ren [] (i + 1) (by omega) (by (first | omega | (dsimp only; omega) | (simp only; omega))) rfl (by decide) (by decide) (by (simp (disch := omega) only [go_sem, lint])) (by (simp (disch := omega) only [go_sem, lint])) (by (simp (disch := omega) only [go_sem, lint])) (fun d => by rw [hsu, ← Int.add_assoc]; (simp (disch := omega) only [go_sem, lint]))
        · rw [if_neg hie] at hsu
          (refine Wk.o ?_; (repeat revert hK K); refine Wa284a ?_; (repeat intro K hK); refine ⟨?_⟩)
          exact whx_ren [] (i + 1) (by omega) (by (first | omega | (dsimp only; omega) | (simp only; omega))) rfl (by decide) (by decide) (by (simp (disch := omega) only [go_sem, lint])) (by (simp (disch := omega) only [go_sem, lint])) (by (simp (disch := omega) only [go_sem, lint])) (fun d => by rw [hsu]; (simp (disch := omega) only [go_sem, lint]))
      · obtain rfl : i = N := by omega
        (refine Wk.o ?_; (repeat revert hK K); refine Wa284a ?_; (repeat intro K hK); refine ⟨?_⟩)
        (simp only [bodyX]; refine ⟨_, by simp only [aresults, aresult, XS.as, Tryz.results128, aload, go_sem, Option.bind_some]; rfl, ?_⟩)
        exact ⟨.iv _, rfl, trivial⟩
    · rw [if_neg fun h => hp (by omega)]
      (refine SF_of_bodyX (aload tt) (aload_ok tyOK) Tryz.func128 rfl (by kernel_rfl) ?_; simp only [Tryz.ntmps128, List.length_cons, List.length_nil, Nat.reduceAdd, Nat.reduceSub, List.replicate_succ, List.replicate_zero, List.cons_append, List.nil_append])
      (refine Wk.o ?_; (repeat revert hK K); refine Wa284a ?_; (repeat intro K hK); refine ⟨?_⟩)
      (simp only [bodyX]; refine ⟨_, by simp only [aresults, aresult, XS.as, Tryz.results128, aload, go_sem, Option.bind_some]; rfl, ?_⟩)
      exact ⟨.iv _, rfl, trivial⟩
  · rw [nCheck_no hok] at hCk
    rw [if_neg fun h => hok h.1]
    (refine SF_of_bodyX (aload tt) (aload_ok tyOK) Tryz.func128 rfl (by kernel_rfl) ?_; simp only [Tryz.ntmps128, List.length_cons, List.length_nil, Nat.reduceAdd, Nat.reduceSub, List.replicate_succ, List.replicate_zero, List.cons_append, List.nil_append])
    (refine Wk.o ?_; (repeat revert hK K); refine Wa284a ?_; (repeat intro K hK); refine ⟨?_⟩)
    (simp only [bodyX]; refine ⟨_, by simp only [aresults, aresult, XS.as, Tryz.results128, aload, go_sem, Option.bind_some]; rfl, ?_⟩)
    exact ⟨.iv _, rfl, trivial⟩
end Go.Proofs.YtcjnikkmjhagmaaGreatDoor
