import Derived.Test.YthfjnlapelkbnaaDoorMgAS
import Derived.Shelf.Strings.IndexAnyAll
import Derived.Test.YthfjnlapelkbnaaDoorMgAB
import Derived.Test.YthfjnlapelkbnaaDoorMgAR
import Derived.Lib.SlBytesRow
import Derived.Lib.BufferRead
namespace Go.Proofs.YthfjnlapelkbnaaDoor
open Go.RowKit Go.Shelf Go.Lib Go.Sort
set_option linter.unusedVariables false
set_option linter.unusedSimpArgs false
def caL_ren : Go.Shelf.Ren := ⟨fun | 150 => 23 | 153 => 33 | 152 => 41 | 226 => 42 | 227 => 43 | 228 => 44 | 137 => 20 | 119 => 53 | 224 => 54 | 225 => 55 | 217 => 30 | 266 => 39 | n => n, fun | 9 => 9 | 4 => 4 | 3 => 3 | 5 => 5 | 21 => 21 | 117 => 68 | 116 => 67 | 0 => 0 | 46 => 81 | 124 => 82 | n => n, fun | n => n⟩
theorem caL : Go.Proofs.Lays.n150 Tryd.prog caL_ren := {
  mixed := by kernel_rfl
  f119 := Tryd.func53.trans (congrArg some (by kernel_rfl))
  f137 := Tryd.func20.trans (congrArg some (by kernel_rfl))
  f150 := Tryd.func23.trans (congrArg some (by kernel_rfl))
  f152 := Tryd.func41.trans (congrArg some (by kernel_rfl))
  f153 := Tryd.func33.trans (congrArg some (by kernel_rfl))
  f217 := Tryd.func30.trans (congrArg some (by kernel_rfl))
  f224 := Tryd.func54.trans (congrArg some (by kernel_rfl))
  f225 := Tryd.func55.trans (congrArg some (by kernel_rfl))
  f226 := Tryd.func42.trans (congrArg some (by kernel_rfl))
  f227 := Tryd.func43.trans (congrArg some (by kernel_rfl))
  f228 := Tryd.func44.trans (congrArg some (by kernel_rfl))
  f266 := Tryd.func39.trans (congrArg some (by kernel_rfl))
  t0 := Tryd.underlying0
  a0 := Tryd.isAgg0
  z0 := Tryd.sizeOf0
  v0 := Tryd.zeroValue0
  t3 := Tryd.underlying3
  a3 := Tryd.isAgg3
  z3 := Tryd.sizeOf3
  v3 := Tryd.zeroValue3
  t4 := Tryd.underlying4
  a4 := Tryd.isAgg4
  z4 := Tryd.sizeOf4
  v4 := Tryd.zeroValue4
  t5 := Tryd.underlying5
  a5 := Tryd.isAgg5
  z5 := Tryd.sizeOf5
  v5 := Tryd.zeroValue5
  t9 := Tryd.underlying9
  a9 := Tryd.isAgg9
  z9 := Tryd.sizeOf9
  v9 := Tryd.zeroValue9
  t21 := Tryd.underlying21
  a21 := Tryd.isAgg21
  z21 := Tryd.sizeOf21
  v21 := Tryd.zeroValue21
  t46 := Tryd.underlying81
  a46 := Tryd.isAgg81
  z46 := Tryd.sizeOf81
  v46 := Tryd.zeroValue81
  t116 := Tryd.underlying67
  a116 := Tryd.isAgg67
  z116 := Tryd.sizeOf67
  t117 := Tryd.underlying68
  a117 := Tryd.isAgg68
  z117 := Tryd.sizeOf68
  v117 := Tryd.zeroValue68
  t124 := Tryd.underlying82
  a124 := Tryd.isAgg82
  z124 := Tryd.sizeOf82
  v124 := Tryd.zeroValue82 }
def ascii (l : List UInt8) : Bool := l.all fun b => decide (b.toNat < 128)
theorem ascii_at {l : List UInt8} (h : ascii l = true) (j : Nat) (b : UInt8) (hb : l[j]? = some b) : b.toNat < 128 := by
  unfold ascii at h
  rw [List.all_eq_true] at h
  exact of_decide_eq_true (h b (List.mem_of_getElem? hb))
theorem pf_CA (l cs : List UInt8) (hl : l.length ≤ 1000000) (hc : cs.length ≤ 1000000) (h1 : ascii l = true) (h2 : ascii cs = true) : PF Tryd.prog 23 [lt (.string (ba l)), lt (.string (ba cs))] fun r H' => r = lt (.bool (containsAny l cs)) ∧ H' = [] :=
  PF_of_walk ⟨_, Tryd.func23, by kernel_rfl, rfl⟩ fun G w vs hi hr => by
    obtain ⟨v1, us, rfl, r1, hr⟩ := hr.uncons
    obtain ⟨v2, us, rfl, r2, hr⟩ := hr.uncons
    rw [hr.unnil, r1.lit_inv, r2.lit_inv]
    have h := Any.strings_ContainsAny_laid caL (by kernel_rfl) (ba l) (ba cs) w (by rw [ba_size]; omega) (by rw [ba_size]; omega) (ascii_at h1) (ascii_at h2)
    exact (show Calls Tryd.prog 23 #[.string (ba l), .string (ba cs)] w _ from h).mono fun e w' h => h
def wordA (l : List UInt8) : Bool := !(l == []) && !(containsAny l [32, 9, 13, 10])
theorem W3f17a {A B : Prop} (h9 : B) (w : B → A := by (intro h9; (repeat intro K hK); refine ⟨?_⟩; (repeat (first | (first | (with_reducible first | refine AX_block ?_ | refine AX_skip ?_ | refine AX_exit ?_ | refine AX_ret ?_ | refine AX_ift ?_ | refine AX_iff ?_ | refine AX_seq_k (fun K hK => ?_) | refine ContX.use (by assumption) ?_) | simp only [thenX, inBlockX, if_true, if_false, reduceCtorEq]) | (first | ((with_reducible refine XOP tyOK ?_); simp (disch := omega) only [go_sem , hs1, hs2, hs3, hs4, hs5, ba_toList, ba_size, byteAt_ba, Int.toNat_zero, Int.toNat_natCast]; (with_reducible refine XRes_id ?_)) | (with_reducible refine XSK ?_)) | ((with_reducible refine XRes_nil ?_); refine hK _ ?_; clear hK K) | ((with_reducible refine AX_reg0 fun K hK => ?_); simp only [go_sem]) | (first | (first | refine XTL (by rfl) hC ?_ | refine XTL (by rfl) hI ?_)))); refine Wk.o ?_; (repeat revert hK K); exact h9)) : A := w h9
set_option maxRecDepth 100000 in
set_option maxHeartbeats 4000000 in
theorem pf_WordA (l : List UInt8) (hl : l.length ≤ 1000000) (ha : ascii l = true) : PF Tryd.prog 12 [lt (.string (ba l))] fun r H' => r = lt (.bool (wordA l)) ∧ H' = [] := by
  refine SF.forgetAll ?_
  have hs1 := trivial; have hs2 := trivial; have hs3 := trivial; have hs4 := trivial; have hs5 := trivial; have hC := trivial; have hI := trivial
  have hC : PF Tryd.prog 23 [lt (.string (ba l)), lt (.string ⟨#[32, 9, 13, 10]⟩)] fun r H' => r = lt (.bool (containsAny l [32, 9, 13, 10])) ∧ H' = [] := pf_CA l [32, 9, 13, 10] hl (by decide) ha (by decide)
  have hs1 : (⟨#[]⟩ : ByteArray).toList = [] := ba_toList []
  unfold wordA
  generalize hb1 : (l == ([] : List UInt8)) = b1 at *
  have hs2 := hb1
  generalize containsAny l [32, 9, 13, 10] = b2 at *
  cases b1 with
  | true =>
    (refine SF_of_bodyX (aload tt) (aload_ok tyOK) Tryd.func12 rfl (by kernel_rfl) ?_; simp only [Tryd.ntmps12, List.length_cons, List.length_nil, Nat.reduceAdd, Nat.reduceSub, List.replicate_succ, List.replicate_zero, List.cons_append, List.nil_append])
    (refine Wk.o ?_; (repeat revert hK K); refine W3f17a ?_; (repeat intro K hK); refine ⟨?_⟩)
    (simp only [bodyX]; refine ⟨_, by simp only [aresults, aresult, XS.as, Tryd.results12, aload, go_sem, Option.bind_some]; rfl, ?_⟩)
    exact ⟨.iv _, rfl, trivial⟩
  | false =>
    (refine SF_of_bodyX (aload tt) (aload_ok tyOK) Tryd.func12 rfl (by kernel_rfl) ?_; simp only [Tryd.ntmps12, List.length_cons, List.length_nil, Nat.reduceAdd, Nat.reduceSub, List.replicate_succ, List.replicate_zero, List.cons_append, List.nil_append])
    (refine Wk.o ?_; (repeat revert hK K); refine W3f17a ?_; (repeat intro K hK); refine ⟨?_⟩)
    (simp only [bodyX]; refine ⟨_, by simp only [aresults, aresult, XS.as, Tryd.results12, aload, go_sem, Option.bind_some]; rfl, ?_⟩)
    exact ⟨.iv _, by cases b2 <;> rfl, trivial⟩
end Go.Proofs.YthfjnlapelkbnaaDoor
namespace Go.Proofs.YthfjnlapelkbnaaDoor
open Go.Lib
set_option linter.unusedSimpArgs false
def txA : List UInt8 := [112, 32, 49, 50, 10, 99, 32, 110, 111, 10, 9, 120, 13]
def rsA : List (Nat × Nat × List (Nat × List UInt8)) := [(1, 0, [(0, [112]), (2, [49, 50])]), (2, 5, []), (3, 10, [(1, [120])])]
theorem lns_A : lns 1 0 txA = rsA := by
  unfold txA rsA
  simp [lns, lnLen, noNl, lineTk, remark, hasPrefix, tk, isSp, noSp, List.takeWhile, List.dropWhile]
theorem join_A : joinB rsA = [112, 32, 49, 50, 10, 10, 120, 10] := rfl
theorem num_A1 : numR [45, 49, 50] (-20) 20 = (-12, 0) := by decide
theorem num_A2 : numR [48, 48, 55] 0 9 = (0, 5) := by decide
theorem num_A3 : numR [57, 57, 57, 57, 57, 57, 57, 57, 57, 57, 57, 57, 57, 57, 57, 57, 57, 57, 57, 57, 57, 57, 57] 0 9 = (0, 7) := by decide
theorem num_A4 : numR [50, 49] (-20) 20 = (0, 7) := by decide
theorem dig_A : itoa (-7) = [45, 55] := by unfold itoa; simp [decDigits]
theorem word_A1 : wordA [120] = true := by decide
theorem word_A2 : wordA [120, 32, 121] = false := by decide
end Go.Proofs.YthfjnlapelkbnaaDoor
namespace Go.Proofs.YthfjnlapelkbnaaDoor
open Go.RowKit
set_option linter.unusedVariables false
def u8C (l : List UInt8) : List AV := l.map fun b => lt (.int .u8 (b.toNat : Int))
section
variable {P : Program}
variable {m : Nat} {Q : Exit → XS → Prop} {fr : List AV} {H : AHeap} {M : MS} {l : List Oper} {d : Option Tmp} {ty : TypeId} {pos : String} {after : Array Edge} {g : Option (Nat × Bool)}
end
end Go.Proofs.YthfjnlapelkbnaaDoor
