import Derived.Test.YthfjnlapelkbnaaDoorMgAJ
import Derived.Test.YthfjnlapelkbnaaDoorMgAR
import Derived.Shelf.Strings.Prefix
import Derived.Shelf.Strconv.AtoiAll
namespace Go.Proofs.YthfjnlapelkbnaaDoor
open Go.RowKit Go.Shelf Go.Lib Go.Sort
set_option linter.unusedVariables false
set_option linter.unusedSimpArgs false
def trimL_ren : Go.Shelf.Ren := ⟨fun | 101 => 35 | 208 => 46 | 206 => 40 | n => n, fun | 9 => 9 | 4 => 4 | 3 => 3 | n => n, fun | n => n⟩
theorem trimL : Go.Proofs.Lays.n101 Tryd.prog trimL_ren := {
  mixed := by kernel_rfl
  f101 := Tryd.func35.trans (congrArg some (by kernel_rfl))
  f206 := Tryd.func40.trans (congrArg some (by kernel_rfl))
  f208 := Tryd.func46.trans (congrArg some (by kernel_rfl))
  t3 := Tryd.underlying3
  a3 := Tryd.isAgg3
  z3 := Tryd.sizeOf3
  v3 := Tryd.zeroValue3
  t4 := Tryd.underlying4
  a4 := Tryd.isAgg4
  z4 := Tryd.sizeOf4
  v4 := Tryd.zeroValue4
  t9 := Tryd.underlying9
  a9 := Tryd.isAgg9
  z9 := Tryd.sizeOf9
  v9 := Tryd.zeroValue9 }
def atoiL_ren : Go.Shelf.Ren := ⟨fun | 172 => 28 | 244 => 36 | 245 => 37 | 247 => 47 | 279 => 48 | 280 => 49 | 281 => 50 | 282 => 51 | 287 => 56 | 316 => 57 | 171 => 29 | 205 => 58 | 321 => 63 | 322 => 64 | 243 => 38 | 246 => 52 | 283 => 59 | 284 => 60 | 285 => 61 | 286 => 62 | 129 => 66 | 317 => 65 | 318 => 67 | 319 => 68 | 320 => 69 | 337 => 70 | 338 => 71 | n => n, fun | 9 => 9 | 3 => 3 | 75 => 55 | 76 => 57 | 4 => 4 | 5 => 5 | 167 => 72 | 37 => 51 | 0 => 0 | 85 => 73 | 2 => 2 | 168 => 75 | 53 => 83 | 175 => 84 | 46 => 81 | 210 => 88 | 127 => 61 | 145 => 98 | 143 => 96 | 21 => 21 | 171 => 90 | 173 => 93 | 212 => 100 | 51 => 101 | 20 => 20 | 213 => 102 | 232 => 105 | 233 => 106 | 80 => 59 | n => n, fun | 15 => 1 | 16 => 2 | 17 => 3 | 18 => 4 | 19 => 5 | n => n⟩
theorem atoiL : Go.Proofs.LaysC.n172 Tryd.prog atoiL_ren := {
  mixed := by kernel_rfl
  f129 := Tryd.func66.trans (congrArg some (by kernel_rfl))
  f171 := Tryd.func29.trans (congrArg some (by kernel_rfl))
  f172 := Tryd.func28.trans (congrArg some (by kernel_rfl))
  f205 := Tryd.func58.trans (congrArg some (by kernel_rfl))
  f243 := Tryd.func38.trans (congrArg some (by kernel_rfl))
  f244 := Tryd.func36.trans (congrArg some (by kernel_rfl))
  f245 := Tryd.func37.trans (congrArg some (by kernel_rfl))
  f246 := Tryd.func52.trans (congrArg some (by kernel_rfl))
  f247 := Tryd.func47.trans (congrArg some (by kernel_rfl))
  f279 := Tryd.func48.trans (congrArg some (by kernel_rfl))
  f280 := Tryd.func49.trans (congrArg some (by kernel_rfl))
  f281 := Tryd.func50.trans (congrArg some (by kernel_rfl))
  f282 := Tryd.func51.trans (congrArg some (by kernel_rfl))
  f283 := Tryd.func59.trans (congrArg some (by kernel_rfl))
  f284 := Tryd.func60.trans (congrArg some (by kernel_rfl))
  f285 := Tryd.func61.trans (congrArg some (by kernel_rfl))
  f286 := Tryd.func62.trans (congrArg some (by kernel_rfl))
  f287 := Tryd.func56.trans (congrArg some (by kernel_rfl))
  f316 := Tryd.func57.trans (congrArg some (by kernel_rfl))
  f317 := Tryd.func65.trans (congrArg some (by kernel_rfl))
  f318 := Tryd.func67.trans (congrArg some (by kernel_rfl))
  f319 := Tryd.func68.trans (congrArg some (by kernel_rfl))
  f320 := Tryd.func69.trans (congrArg some (by kernel_rfl))
  f321 := Tryd.func63.trans (congrArg some (by kernel_rfl))
  f322 := Tryd.func64.trans (congrArg some (by kernel_rfl))
  f337 := Tryd.func70.trans (congrArg some (by kernel_rfl))
  f338 := Tryd.func71.trans (congrArg some (by kernel_rfl))
  t0 := Tryd.underlying0
  a0 := Tryd.isAgg0
  z0 := Tryd.sizeOf0
  v0 := Tryd.zeroValue0
  t2 := Tryd.underlying2
  a2 := Tryd.isAgg2
  z2 := Tryd.sizeOf2
  v2 := Tryd.zeroValue2
  t3 := Tryd.underlying3
  a3 := Tryd.isAgg3
  z3 := Tryd.sizeOf3
  v3 := Tryd.zeroValue3
  t4 := Tryd.underlying4
  a4 := Tryd.isAgg4
  z4 := Tryd.sizeOf4
  v4 := Tryd.zeroValue4
  t5 := Tryd.underlying5
  a5 := Tryd.isAgg5
  z5 := Tryd.sizeOf5
  v5 := Tryd.zeroValue5
  t9 := Tryd.underlying9
  a9 := Tryd.isAgg9
  z9 := Tryd.sizeOf9
  v9 := Tryd.zeroValue9
  t20 := Tryd.underlying20
  a20 := Tryd.isAgg20
  z20 := Tryd.sizeOf20
  v20 := Tryd.zeroValue20
  t21 := Tryd.underlying21
  a21 := Tryd.isAgg21
  z21 := Tryd.sizeOf21
  v21 := Tryd.zeroValue21
  t37 := Tryd.underlying51
  a37 := Tryd.isAgg51
  z37 := Tryd.sizeOf51
  v37 := Tryd.zeroValue51
  t46 := Tryd.underlying81
  a46 := Tryd.isAgg81
  z46 := Tryd.sizeOf81
  v46 := Tryd.zeroValue81
  t51 := Tryd.underlying101
  a51 := Tryd.isAgg101
  z51 := Tryd.sizeOf101
  v51 := Tryd.zeroValue101
  t53 := Tryd.underlying83
  a53 := Tryd.isAgg83
  z53 := Tryd.sizeOf83
  v53 := Tryd.zeroValue83
  t75 := Tryd.underlying55
  a75 := Tryd.isAgg55
  z75 := Tryd.sizeOf55
  v75 := Tryd.zeroValue55
  t76 := Tryd.underlying57
  a76 := Tryd.isAgg57
  z76 := Tryd.sizeOf57
  v76 := Tryd.zeroValue57
  t85 := Tryd.underlying73
  a85 := Tryd.isAgg73
  z85 := Tryd.sizeOf73
  v85 := Tryd.zeroValue73
  t127 := Tryd.underlying61
  a127 := Tryd.isAgg61
  z127 := Tryd.sizeOf61
  v127 := Tryd.zeroValue61
  t143 := Tryd.underlying96
  a143 := Tryd.isAgg96
  z143 := Tryd.sizeOf96
  v143 := Tryd.zeroValue96
  t145 := Tryd.underlying98
  a145 := Tryd.isAgg98
  z145 := Tryd.sizeOf98
  v145 := Tryd.zeroValue98
  t167 := Tryd.underlying72
  a167 := Tryd.isAgg72
  z167 := Tryd.sizeOf72
  v167 := Tryd.zeroValue72
  t168 := Tryd.underlying75
  a168 := Tryd.isAgg75
  z168 := Tryd.sizeOf75
  v168 := Tryd.zeroValue75
  t171 := Tryd.underlying90
  a171 := Tryd.isAgg90
  z171 := Tryd.sizeOf90
  v171 := Tryd.zeroValue90
  t173 := Tryd.underlying93
  a173 := Tryd.isAgg93
  z173 := Tryd.sizeOf93
  v173 := Tryd.zeroValue93
  t175 := Tryd.underlying84
  a175 := Tryd.isAgg84
  z175 := Tryd.sizeOf84
  v175 := Tryd.zeroValue84
  t210 := Tryd.underlying88
  a210 := Tryd.isAgg88
  z210 := Tryd.sizeOf88
  v210 := Tryd.zeroValue88
  t212 := Tryd.underlying100
  a212 := Tryd.isAgg100
  z212 := Tryd.sizeOf100
  v212 := Tryd.zeroValue100
  t213 := Tryd.underlying102
  a213 := Tryd.isAgg102
  z213 := Tryd.sizeOf102
  t232 := Tryd.underlying105
  a232 := Tryd.isAgg105
  z232 := Tryd.sizeOf105
  v232 := Tryd.zeroValue105
  t233 := Tryd.underlying106
  a233 := Tryd.isAgg106
  z233 := Tryd.sizeOf106
  v233 := Tryd.zeroValue106
  g15 := by kernel_rfl
  g16 := by kernel_rfl
  g17 := by kernel_rfl
  g18 := by kernel_rfl
  g19 := by kernel_rfl
  t80 := Tryd.underlying59
  a80 := Tryd.isAgg59
  z80 := Tryd.sizeOf59
  v80 := Tryd.zeroValue59
  i0 := by kernel_rfl
  i2 := by kernel_rfl
  i3 := by kernel_rfl
  i4 := by kernel_rfl
  i5 := by kernel_rfl
  i9 := by kernel_rfl
  i20 := by kernel_rfl
  i21 := by kernel_rfl
  i37 := by kernel_rfl
  i46 := by kernel_rfl
  i51 := by kernel_rfl
  i53 := by kernel_rfl
  i75 := by kernel_rfl
  i76 := by kernel_rfl
  i80 := by kernel_rfl
  i85 := by kernel_rfl
  i127 := by kernel_rfl
  i143 := by kernel_rfl
  i145 := by kernel_rfl
  i167 := by kernel_rfl
  i168 := by kernel_rfl
  i171 := by kernel_rfl
  i173 := by kernel_rfl
  i175 := by kernel_rfl
  i210 := by kernel_rfl
  i212 := by kernel_rfl
  i232 := by kernel_rfl
  i233 := by kernel_rfl
  m15 := by kernel_rfl
  m16 := by kernel_rfl
  m17 := by kernel_rfl
  m18 := by kernel_rfl
  m19 := by kernel_rfl
  c0 := by kernel_rfl
  c2 := by kernel_rfl
  c3 := by kernel_rfl
  c4 := by kernel_rfl
  c5 := by kernel_rfl
  c9 := by kernel_rfl
  c20 := by kernel_rfl
  c21 := by kernel_rfl
  c37 := by kernel_rfl
  c46 := by kernel_rfl
  c51 := by kernel_rfl
  c53 := by kernel_rfl
  c75 := by kernel_rfl
  c76 := by kernel_rfl
  c80 := by kernel_rfl
  c85 := by kernel_rfl
  c127 := by kernel_rfl
  c143 := by kernel_rfl
  c145 := by kernel_rfl
  c167 := by kernel_rfl
  c168 := by kernel_rfl
  c171 := by kernel_rfl
  c173 := by kernel_rfl
  c175 := by kernel_rfl
  c210 := by kernel_rfl
  c212 := by kernel_rfl
  c213 := by kernel_rfl
  c232 := by kernel_rfl
  c233 := by kernel_rfl }
def ba (l : List UInt8) : ByteArray := ⟨l.toArray⟩
theorem ba_size (l : List UInt8) : (ba l).size = l.length := by show l.toArray.size = _; simp
theorem ba_list (l : List UInt8) : (ba l).data.toList = l := rfl
theorem ba_of (s : ByteArray) : ba s.data.toList = s := by cases s; simp [ba]
theorem byteAt_ba (l : List UInt8) (i : Nat) : byteAt (ba l) i = l.getD i 0 := rfl
theorem ba_toList (l : List UInt8) : (ba l).toList = l := by
  rw [Lib.toList_data]; rfl
set_option maxRecDepth 100000 in
set_option maxHeartbeats 2000000 in
theorem pf_Digits (i : Int) (h0 : -9223372036854775808 ≤ i) (h1 : i ≤ 9223372036854775807) : PF Tryd.prog 18 [lt (.int .i64 i)] fun r H' => r = lt (.string (ba (itoa i))) ∧ H' = [] := by
  refine SF.forgetAll ?_
  have hC := pf_ItoaG i h0 h1
  (refine SF_of_bodyX (aload tt) (aload_ok tyOK) Tryd.func18 rfl (by kernel_rfl) ?_; simp only [Tryd.ntmps18, List.length_cons, List.length_nil, Nat.reduceAdd, Nat.reduceSub, List.replicate_succ, List.replicate_zero, List.cons_append, List.nil_append])
  (repeat (first | (first | (with_reducible first | refine AX_block ?_ | refine AX_skip ?_ | refine AX_exit ?_ | refine AX_ret ?_ | refine AX_ift ?_ | refine AX_iff ?_ | refine AX_seq_k (fun K hK => ?_) | refine ContX.use (by assumption) ?_) | simp only [thenX, inBlockX, if_true, if_false, reduceCtorEq]) | (first | ((with_reducible refine XOP tyOK ?_); simp (disch := omega) only [go_sem ]; (with_reducible refine XRes_id ?_)) | (with_reducible refine XSK ?_)) | ((with_reducible refine XRes_nil ?_); refine hK _ ?_; clear hK K) | ((with_reducible refine AX_reg0 fun K hK => ?_); simp only [go_sem]) | (first | (first | refine XTL (by rfl) hC ?_))))
  (simp only [bodyX]; refine ⟨_, by simp only [aresults, aresult, XS.as, Tryd.results18, aload, go_sem, Option.bind_some]; rfl, ?_⟩)
  exact ⟨.iv _, rfl, trivial⟩
theorem pf_Trim (l p : List UInt8) : PF Tryd.prog 35 [lt (.string (ba l)), lt (.string (ba p))] fun r H' => r = lt (.string (ba (trimPrefix l p))) ∧ H' = [] :=
  PF_of_walk ⟨_, Tryd.func35, by kernel_rfl, rfl⟩ fun G w vs hi hr => by
    obtain ⟨v1, us, rfl, r1, hr⟩ := hr.uncons
    obtain ⟨v2, us, rfl, r2, hr⟩ := hr.uncons
    rw [hr.unnil, r1.lit_inv, r2.lit_inv]
    have h := Any.strings_TrimPrefix trimL (ba l) (ba p) w
    refine (show Calls Tryd.prog 35 #[.string (ba l), .string (ba p)] w _ from h).mono ?_
    rintro e w' ⟨rfl, rfl⟩
    exact ⟨rfl, Below.refl _ _⟩
end Go.Proofs.YthfjnlapelkbnaaDoor
namespace Go.Proofs.YthfjnlapelkbnaaDoor
open Go.RowKit Go.Lib
set_option linter.unusedVariables false
set_option linter.unusedSimpArgs false
theorem dg_take {l : List UInt8} {k : Nat} (h : k < l.length) (hj : (l.take k).all isDg = true) (h1 : 48 ≤ (l.getD k 0).toNat) (h2 : (l.getD k 0).toNat ≤ 57) : (l.take (k + 1)).all isDg = true := by
  rw [List.take_succ_eq_append_getElem h, List.all_append, hj]
  have e : l.getD k 0 = l[k] := by simp [List.getD, h]
  rw [e] at h1 h2
  simp [isDg, h1, h2]
theorem dg_no {l : List UInt8} {k : Nat} (h : k < l.length) (h1 : ¬ (48 ≤ (l.getD k 0).toNat ∧ (l.getD k 0).toNat ≤ 57)) : l.all isDg = false := by
  have e : l.getD k 0 = l[k] := by simp [List.getD, h]
  rw [e] at h1
  rw [← Bool.not_eq_true, List.all_eq_true]
  intro h2
  exact h1 (of_decide_eq_true (h2 _ (List.getElem_mem h)))
theorem Waccaa {A B : Prop} (h9 : B) (w : B → A := by (intro h9; (repeat intro K hK); refine ⟨?_⟩; (repeat (first | (first | (with_reducible first | refine AX_block ?_ | refine AX_skip ?_ | refine AX_exit ?_ | refine AX_ret ?_ | refine AX_ift ?_ | refine AX_iff ?_ | refine AX_seq_k (fun K hK => ?_) | refine ContX.use (by assumption) ?_) | simp only [thenX, inBlockX, if_true, if_false, reduceCtorEq]) | (first | ((with_reducible refine XOP tyOK ?_); simp (disch := omega) only [go_sem , hs1, hs2, hs3, hs4, hs5, ba_toList, ba_size, byteAt_ba, Int.toNat_zero, Int.toNat_natCast]; (with_reducible refine XRes_id ?_)) | (with_reducible refine XSK ?_)) | ((with_reducible refine XRes_nil ?_); refine hK _ ?_; clear hK K) | ((with_reducible refine AX_reg0 fun K hK => ?_); simp only [go_sem]) | (first | (first | refine XTL (by rfl) hC ?_)))); refine Wk.o ?_; (repeat revert hK K); exact h9)) : A := w h9
set_option maxRecDepth 100000 in
set_option maxHeartbeats 4000000 in
theorem pf_numeral (l : List UInt8) (hl : l.length ≤ 1000000) : PF Tryd.prog 27 [lt (.string (ba l))] fun r H' => r = lt (.bool (numOk l)) ∧ H' = [] := by
  refine SF.forgetAll ?_
  have hs1 := trivial; have hs2 := trivial; have hs3 := trivial; have hs4 := trivial; have hs5 := trivial; have hC := trivial
  have hC : PF Tryd.prog 35 [lt (.string (ba l)), lt (.string ⟨#[45]⟩)] fun r H' => r = lt (.string (ba (magOf l))) ∧ H' = [] := pf_Trim l [45]
  have hs1 : (⟨#[]⟩ : ByteArray).toList = [] := ba_toList []
  have hs2 : (⟨#[45, 48]⟩ : ByteArray).toList = [45, 48] := ba_toList [45, 48]
  have hml : (magOf l).length ≤ l.length := by unfold magOf trimPrefix; split <;> simp
  have hz : numOk l = (!(magOf l).isEmpty && l != [45, 48] && noLz (magOf l) && (magOf l).all isDg) := rfl
  generalize hm : magOf l = m at *
  by_cases h1 : m = []
  · have hs3 : (m == ([] : List UInt8)) = true := by rw [h1]; rfl
    (refine SF_of_bodyX (aload tt) (aload_ok tyOK) Tryd.func27 rfl (by kernel_rfl) ?_; simp only [Tryd.ntmps27, List.length_cons, List.length_nil, Nat.reduceAdd, Nat.reduceSub, List.replicate_succ, List.replicate_zero, List.cons_append, List.nil_append])
    (refine Wk.o ?_; (repeat revert hK K); refine Waccaa ?_; (repeat intro K hK); refine ⟨?_⟩)
    (simp only [bodyX]; refine ⟨_, by simp only [aresults, aresult, XS.as, Tryd.results27, aload, go_sem, Option.bind_some]; rfl, ?_⟩)
    exact ⟨.iv _, by rw [hz, h1]; rfl, trivial⟩
  · have hs3 : (m == ([] : List UInt8)) = false := by simpa using h1
    by_cases h2 : l = [45, 48]
    · have hs4 : (l == ([45, 48] : List UInt8)) = true := by rw [h2]; rfl
      (refine SF_of_bodyX (aload tt) (aload_ok tyOK) Tryd.func27 rfl (by kernel_rfl) ?_; simp only [Tryd.ntmps27, List.length_cons, List.length_nil, Nat.reduceAdd, Nat.reduceSub, List.replicate_succ, List.replicate_zero, List.cons_append, List.nil_append])
      (refine Wk.o ?_; (repeat revert hK K); refine Waccaa ?_; (repeat intro K hK); refine ⟨?_⟩)
      (simp only [bodyX]; refine ⟨_, by simp only [aresults, aresult, XS.as, Tryd.results27, aload, go_sem, Option.bind_some]; rfl, ?_⟩)
      exact ⟨.iv _, by rw [hz, h2]; simp, trivial⟩
    · have hs4 : (l == ([45, 48] : List UInt8)) = false := by simpa using h2
      have hp : 0 < m.length := List.length_pos_iff.2 h1
      have hz2 : numOk l = (noLz m && m.all isDg) := by
        have e1 : m.isEmpty = false := by cases m with | nil => exact absurd rfl h1 | cons _ _ => rfl
        have e5 : (l != [45, 48]) = true := by simp [bne, hs4]
        rw [hz, e1, e5]; simp
      by_cases h3 : 1 < m.length
      · by_cases h4 : (m.getD 0 0).toNat = 48
        · have hnz : noLz m = false := by
            cases m with
            | nil => exact absurd rfl h1
            | cons c r =>
              have e4 : c.toNat = 48 := h4
              have e3 : ¬ (c :: r).length = 1 := by omega
              unfold noLz; rw [decide_eq_false e3]; simp [e4]
          (refine SF_of_bodyX (aload tt) (aload_ok tyOK) Tryd.func27 rfl (by kernel_rfl) ?_; simp only [Tryd.ntmps27, List.length_cons, List.length_nil, Nat.reduceAdd, Nat.reduceSub, List.replicate_succ, List.replicate_zero, List.cons_append, List.nil_append])
          (refine Wk.o ?_; (repeat revert hK K); refine Waccaa ?_; (repeat intro K hK); refine ⟨?_⟩)
          (simp only [bodyX]; refine ⟨_, by simp only [aresults, aresult, XS.as, Tryd.results27, aload, go_sem, Option.bind_some]; rfl, ?_⟩)
          exact ⟨.iv _, by rw [hz2, hnz]; rfl, trivial⟩
        · have hnz : noLz m = true := by
            cases m with
            | nil => exact absurd rfl h1
            | cons c r =>
              have e4 : c.toNat ≠ 48 := h4
              unfold noLz; simp [e4]
          (refine SF_of_bodyX (aload tt) (aload_ok tyOK) Tryd.func27 rfl (by kernel_rfl) ?_; simp only [Tryd.ntmps27, List.length_cons, List.length_nil, Nat.reduceAdd, Nat.reduceSub, List.replicate_succ, List.replicate_zero, List.cons_append, List.nil_append])
          (refine Wk.o ?_; (repeat revert hK K); refine Waccaa ?_; (repeat intro K hK); refine ⟨?_⟩)
          (refine AWH (σ := Nat) [26, 27, 4, 28, 29, 30, 31, 32, 33, 34, 35, 36, 37, 2, 38] (fun k => [(25, lint k)]) (fun k => []) (fun k => []) (fun k => k ≤ m.length ∧ (m.take k).all isDg = true) (fun k => m.length - k) 0 (by first | exact ⟨Nat.zero_le _, rfl⟩) ?_; rintro k d fr hfr ⟨hk, hj⟩; simp only [updS, deadS, List.set_cons_succ, List.set_cons_zero, lint] at hfr; subst hfr; (try dsimp only))
          by_cases hlt : k < m.length
          · by_cases h6 : (m.getD k 0).toNat < 48
            · (refine Wk.o ?_; (repeat revert hK K); refine Waccaa ?_; (repeat intro K hK); refine ⟨?_⟩)
              (simp only [bodyX]; refine ⟨_, by simp only [aresults, aresult, XS.as, Tryd.results27, aload, go_sem, Option.bind_some]; rfl, ?_⟩)
              exact ⟨.iv _, by rw [hz2, dg_no hlt (by omega), Bool.and_false], trivial⟩
            · by_cases h7 : 57 < (m.getD k 0).toNat
              · (refine Wk.o ?_; (repeat revert hK K); refine Waccaa ?_; (repeat intro K hK); refine ⟨?_⟩)
                (simp only [bodyX]; refine ⟨_, by simp only [aresults, aresult, XS.as, Tryd.results27, aload, go_sem, Option.bind_some]; rfl, ?_⟩)
                exact ⟨.iv _, by rw [hz2, dg_no hlt (by omega), Bool.and_false], trivial⟩
              · (refine Wk.o ?_; (repeat revert hK K); refine Waccaa ?_; (repeat intro K hK); refine ⟨?_⟩)
                exact WEND (k + 1) ⟨by omega, dg_take hlt hj (by omega) (by omega)⟩ (by (first | omega | (dsimp only; omega) | (simp only; omega)))
          · obtain rfl : k = m.length := by omega
            rw [List.take_length] at hj
            (refine Wk.o ?_; (repeat revert hK K); refine Waccaa ?_; (repeat intro K hK); refine ⟨?_⟩)
            (simp only [bodyX]; refine ⟨_, by simp only [aresults, aresult, XS.as, Tryd.results27, aload, go_sem, Option.bind_some]; rfl, ?_⟩)
            exact ⟨.iv _, by rw [hz2, hnz, hj]; rfl, trivial⟩
      · have hnz : noLz m = true := by
          have e : m.length = 1 := by omega
          unfold noLz; rw [decide_eq_true e]; rfl
        (refine SF_of_bodyX (aload tt) (aload_ok tyOK) Tryd.func27 rfl (by kernel_rfl) ?_; simp only [Tryd.ntmps27, List.length_cons, List.length_nil, Nat.reduceAdd, Nat.reduceSub, List.replicate_succ, List.replicate_zero, List.cons_append, List.nil_append])
        (refine Wk.o ?_; (repeat revert hK K); refine Waccaa ?_; (repeat intro K hK); refine ⟨?_⟩)
        (refine AWH (σ := Nat) [26, 27, 4, 28, 29, 30, 31, 32, 33, 34, 35, 36, 37, 2, 38] (fun k => [(25, lint k)]) (fun k => []) (fun k => []) (fun k => k ≤ m.length ∧ (m.take k).all isDg = true) (fun k => m.length - k) 0 (by first | exact ⟨Nat.zero_le _, rfl⟩) ?_; rintro k d fr hfr ⟨hk, hj⟩; simp only [updS, deadS, List.set_cons_succ, List.set_cons_zero, lint] at hfr; subst hfr; (try dsimp only))
        by_cases hlt : k < m.length
        · by_cases h6 : (m.getD k 0).toNat < 48
          · (refine Wk.o ?_; (repeat revert hK K); refine Waccaa ?_; (repeat intro K hK); refine ⟨?_⟩)
            (simp only [bodyX]; refine ⟨_, by simp only [aresults, aresult, XS.as, Tryd.results27, aload, go_sem, Option.bind_some]; rfl, ?_⟩)
            exact ⟨.iv _, by rw [hz2, dg_no hlt (by omega), Bool.and_false], trivial⟩
          · by_cases h7 : 57 < (m.getD k 0).toNat
            · (refine Wk.o ?_; (repeat revert hK K); refine Waccaa ?_; (repeat intro K hK); refine ⟨?_⟩)
              (simp only [bodyX]; refine ⟨_, by simp only [aresults, aresult, XS.as, Tryd.results27, aload, go_sem, Option.bind_some]; rfl, ?_⟩)
              exact ⟨.iv _, by rw [hz2, dg_no hlt (by omega), Bool.and_false], trivial⟩
            · (refine Wk.o ?_; (repeat revert hK K); refine Waccaa ?_; (repeat intro K hK); refine ⟨?_⟩)
              exact WEND (k + 1) ⟨by omega, dg_take hlt hj (by omega) (by omega)⟩ (by (first | omega | (dsimp only; omega) | (simp only; omega)))
        · obtain rfl : k = m.length := by omega
          rw [List.take_length] at hj
          (refine Wk.o ?_; (repeat revert hK K); refine Waccaa ?_; (repeat intro K hK); refine ⟨?_⟩)
          (simp only [bodyX]; refine ⟨_, by simp only [aresults, aresult, XS.as, Tryd.results27, aload, go_sem, Option.bind_some]; rfl, ?_⟩)
          exact ⟨.iv _, by rw [hz2, hnz, hj]; rfl, trivial⟩
end Go.Proofs.YthfjnlapelkbnaaDoor
namespace Go.Proofs.YthfjnlapelkbnaaDoor
open Go.RowKit Go.Shelf Go.Lib Go.Sort
set_option linter.unusedVariables false
set_option linter.unusedSimpArgs false
theorem PF_of_walkE {P : Program} {f : FuncId} {args : List AV} {Q : AV → Prop} (hc : Callable P f) (h : ∀ (G : Gh) w vs, Inv G [] w → RL 0 G args vs → Calls P f vs.toArray w fun e w' => (∃ v r, e = .returned v ∧ RA 0 G r v ∧ Q r) ∧ Below w.heap.size w w') : PF P f args fun r' H' => Q r' ∧ H' = [] :=
  ⟨hc, fun G w vs hi hr => (h G w vs hi hr).mono fun e w' ⟨⟨v, r, h1, hv, hq⟩, h2⟩ => ⟨v, r, G, [], h1, Gh.le.refl _ _, Nat.le_refl _, ⟨h2.os.trans hi.os, h2.tape.trans hi.tape, h2.output.trans hi.output, fun b x e => (h2.block b (lt_of_heap (hi.fz b x e))).trans (hi.fz b x e), fun b x e => (h2.block b (lt_of_heap (hi.kp b x e))).trans (hi.kp b x e), fun o ho => hi.dom o ho, fun o x e => by simp at e, fun o x e => by simp at e, fun o o' x x' e => by simp at e⟩, hv, hq, rfl⟩⟩
theorem ra_tup2 {G : Gh} {a b : Value} : RA 0 G (.tup [lt a, lt b]) (.tuple #[a, b]) := .tup [_, _] [_, _] rfl (RL.cons (.iv _ _ (.lit _)) (RL.cons (.iv _ _ (.lit _)) (RL.nil _ _))).2
theorem pf_AtoiOk {l : List UInt8} (hl : l.length ≤ 1000000) (h : numOk l = true) (hb : -9223372036854775808 ≤ numV l ∧ numV l ≤ 9223372036854775807) : PF Tryd.prog 28 [lt (.string (ba l))] fun r H' => r = .tup [lt (.int .i64 (numV l)), lt .nilIface] ∧ H' = [] :=
  PF_of_walkE ⟨_, Tryd.func28, by kernel_rfl, rfl⟩ fun G w vs hi hr => by
    obtain ⟨v1, us, rfl, r1, hr⟩ := hr.uncons
    rw [hr.unnil, r1.lit_inv]
    have e1 : Lib.atoiAll (ba l).data.toList = .ok (numV l) := by rw [ba_list, atoi_num h, if_pos hb]
    have h := Any.strconv_Atoi_ok atoiL (ba l) (by rw [ba_size]; omega) (numV l) e1 w
    refine (show Calls Tryd.prog 28 #[.string (ba l)] w _ from h).mono ?_
    rintro e w' ⟨rfl, hw⟩
    refine ⟨⟨_, _, rfl, ra_tup2, rfl⟩, ?_⟩
    rcases hw with rfl | ⟨t, rfl⟩
    · exact Below.refl _ _
    · exact Lib.bytesWorld_below _ _ _
theorem base_err {G : Gh} {H : AHeap} {w : World} (hi : Inv G H w) : ∃ te pe, w.cell? ⟨2, 0, none⟩ = some (.iface te pe) := by
  obtain ⟨x, hx, te, pe, t, fr, rfl⟩ := G.bs _ (List.Mem.tail _ (List.Mem.head _))
  have hh : w.heap[2]? = _ := hi.fz _ _ hx
  exact ⟨te, pe, by rw [cell_of_heap hh]; rfl⟩
theorem pf_AtoiNo {l : List UInt8} (hl : l.length ≤ 1000000) (h : numOk l = true) (hb : ¬ (-9223372036854775808 ≤ numV l ∧ numV l ≤ 9223372036854775807)) : PF Tryd.prog 28 [lt (.string (ba l))] fun r H' => (∃ n v, r = .tup [lt (.int .i64 n), lt v] ∧ isNilV v = some false) ∧ H' = [] :=
  PF_of_walkE ⟨_, Tryd.func28, by kernel_rfl, rfl⟩ fun G w vs hi hr => by
    obtain ⟨v1, us, rfl, r1, hr⟩ := hr.uncons
    rw [hr.unnil, r1.lit_inv]
    have e1 : Lib.atoiAll (ba l).data.toList = .range := by rw [ba_list, atoi_num h, if_neg hb]
    obtain ⟨te, pe, hc⟩ := base_err hi
    have h := Any.strconv_Atoi_range atoiL (ba l) (by rw [ba_size]; omega) e1 (.iface te pe) w hc (.inr ⟨te, pe, rfl⟩)
    refine (show Calls Tryd.prog 28 #[.string (ba l)] w _ from h).mono ?_
    rintro e w' ⟨N, rfl, h1, h2, h3⟩
    exact ⟨⟨_, _, rfl, ra_tup2, _, _, rfl, rfl⟩, h3⟩
set_option maxRecDepth 100000 in
set_option maxHeartbeats 4000000 in
theorem pf_Number (l : List UInt8) (lo hi : Int) (hl : l.length ≤ 1000000) : PF Tryd.prog 16 [lt (.string (ba l)), lt (.int .i64 lo), lt (.int .i64 hi)] fun r H' => r = .tup [lt (.int .i64 (numR l lo hi).1), lt (.int .i64 (numR l lo hi).2)] ∧ H' = [] := by
  refine SF.forgetAll ?_
  have hs1 := trivial; have hs2 := trivial; have hs3 := trivial; have hs4 := trivial; have hs5 := trivial; have hC := trivial; have hI := trivial; have hS := trivial; have hV := trivial
  have hC := pf_numeral l hl
  cases h1 : numOk l with
  | false =>
    rw [h1] at hC
    have hz : numR l lo hi = (0, 5) := by unfold numR; rw [if_pos h1]
    rw [hz]
    (refine SF_of_bodyX (aload tt) (aload_ok tyOK) Tryd.func16 rfl (by kernel_rfl) ?_; simp only [Tryd.ntmps16, List.length_cons, List.length_nil, Nat.reduceAdd, Nat.reduceSub, List.replicate_succ, List.replicate_zero, List.cons_append, List.nil_append])
    (repeat (first | (first | (with_reducible first | refine AX_block ?_ | refine AX_skip ?_ | refine AX_exit ?_ | refine AX_ret ?_ | refine AX_ift ?_ | refine AX_iff ?_ | refine AX_seq_k (fun K hK => ?_) | refine ContX.use (by assumption) ?_) | simp only [thenX, inBlockX, if_true, if_false, reduceCtorEq]) | (first | ((with_reducible refine XOP tyOK ?_); simp (disch := omega) only [go_sem , hs1, hs2, hs3, hs4, hs5, eqRes]; (with_reducible refine XRes_id ?_)) | (with_reducible refine XSK ?_)) | ((with_reducible refine XRes_nil ?_); refine hK _ ?_; clear hK K) | ((with_reducible refine AX_reg0 fun K hK => ?_); simp only [go_sem]) | (first | (refine XRes_nilI rfl (by first | exact .inl rfl | exact .inr rfl) rfl hV (by kernel_rfl) ?_; (simp only [putL, List.set_cons_succ, List.set_cons_zero])) | (first | refine XTL (by rfl) hC ?_ | refine XTL (by rfl) hI ?_) | ((refine XRes_fn (by rfl) hS ?_); (rintro r H' ⟨⟨n, v, rfl, hV⟩, rfl⟩); (simp only [putL, List.set_cons_succ, List.set_cons_zero])))))
    (simp only [bodyX]; refine ⟨_, by simp only [aresults, aresult, XS.as, Tryd.results16, aload, go_sem, Option.bind_some]; rfl, ?_⟩)
    exact ⟨ids_idB rfl, rfl, trivial⟩
  | true =>
    rw [h1] at hC
    have hz : numR l lo hi = if -9223372036854775808 ≤ numV l ∧ numV l ≤ 9223372036854775807 ∧ lo ≤ numV l ∧ numV l ≤ hi then (numV l, 0) else (0, 7) := by unfold numR; rw [if_neg (by simp [h1])]
    by_cases h2 : -9223372036854775808 ≤ numV l ∧ numV l ≤ 9223372036854775807
    · have hI := pf_AtoiOk hl h1 h2
      have hV : isNilV .nilIface = some true := rfl
      generalize numV l = n at *
      by_cases h3 : n < lo
      · have e2 : numR l lo hi = (0, 7) := by rw [hz, if_neg (fun h => by omega)]
        rw [e2]
        (refine SF_of_bodyX (aload tt) (aload_ok tyOK) Tryd.func16 rfl (by kernel_rfl) ?_; simp only [Tryd.ntmps16, List.length_cons, List.length_nil, Nat.reduceAdd, Nat.reduceSub, List.replicate_succ, List.replicate_zero, List.cons_append, List.nil_append])
        (repeat (first | (first | (with_reducible first | refine AX_block ?_ | refine AX_skip ?_ | refine AX_exit ?_ | refine AX_ret ?_ | refine AX_ift ?_ | refine AX_iff ?_ | refine AX_seq_k (fun K hK => ?_) | refine ContX.use (by assumption) ?_) | simp only [thenX, inBlockX, if_true, if_false, reduceCtorEq]) | (first | ((with_reducible refine XOP tyOK ?_); simp (disch := omega) only [go_sem , hs1, hs2, hs3, hs4, hs5, eqRes]; (with_reducible refine XRes_id ?_)) | (with_reducible refine XSK ?_)) | ((with_reducible refine XRes_nil ?_); refine hK _ ?_; clear hK K) | ((with_reducible refine AX_reg0 fun K hK => ?_); simp only [go_sem]) | (first | (refine XRes_nilI rfl (by first | exact .inl rfl | exact .inr rfl) rfl hV (by kernel_rfl) ?_; (simp only [putL, List.set_cons_succ, List.set_cons_zero])) | (first | refine XTL (by rfl) hC ?_ | refine XTL (by rfl) hI ?_) | ((refine XRes_fn (by rfl) hS ?_); (rintro r H' ⟨⟨n, v, rfl, hV⟩, rfl⟩); (simp only [putL, List.set_cons_succ, List.set_cons_zero])))))
        (simp only [bodyX]; refine ⟨_, by simp only [aresults, aresult, XS.as, Tryd.results16, aload, go_sem, Option.bind_some]; rfl, ?_⟩)
        exact ⟨ids_idB rfl, rfl, trivial⟩
      · by_cases h4 : hi < n
        · have e2 : numR l lo hi = (0, 7) := by rw [hz, if_neg (fun h => by omega)]
          rw [e2]
          (refine SF_of_bodyX (aload tt) (aload_ok tyOK) Tryd.func16 rfl (by kernel_rfl) ?_; simp only [Tryd.ntmps16, List.length_cons, List.length_nil, Nat.reduceAdd, Nat.reduceSub, List.replicate_succ, List.replicate_zero, List.cons_append, List.nil_append])
          (repeat (first | (first | (with_reducible first | refine AX_block ?_ | refine AX_skip ?_ | refine AX_exit ?_ | refine AX_ret ?_ | refine AX_ift ?_ | refine AX_iff ?_ | refine AX_seq_k (fun K hK => ?_) | refine ContX.use (by assumption) ?_) | simp only [thenX, inBlockX, if_true, if_false, reduceCtorEq]) | (first | ((with_reducible refine XOP tyOK ?_); simp (disch := omega) only [go_sem , hs1, hs2, hs3, hs4, hs5, eqRes]; (with_reducible refine XRes_id ?_)) | (with_reducible refine XSK ?_)) | ((with_reducible refine XRes_nil ?_); refine hK _ ?_; clear hK K) | ((with_reducible refine AX_reg0 fun K hK => ?_); simp only [go_sem]) | (first | (refine XRes_nilI rfl (by first | exact .inl rfl | exact .inr rfl) rfl hV (by kernel_rfl) ?_; (simp only [putL, List.set_cons_succ, List.set_cons_zero])) | (first | refine XTL (by rfl) hC ?_ | refine XTL (by rfl) hI ?_) | ((refine XRes_fn (by rfl) hS ?_); (rintro r H' ⟨⟨n, v, rfl, hV⟩, rfl⟩); (simp only [putL, List.set_cons_succ, List.set_cons_zero])))))
          (simp only [bodyX]; refine ⟨_, by simp only [aresults, aresult, XS.as, Tryd.results16, aload, go_sem, Option.bind_some]; rfl, ?_⟩)
          exact ⟨ids_idB rfl, rfl, trivial⟩
        · have e2 : numR l lo hi = (n, 0) := by rw [hz, if_pos (by omega)]
          rw [e2]
          (refine SF_of_bodyX (aload tt) (aload_ok tyOK) Tryd.func16 rfl (by kernel_rfl) ?_; simp only [Tryd.ntmps16, List.length_cons, List.length_nil, Nat.reduceAdd, Nat.reduceSub, List.replicate_succ, List.replicate_zero, List.cons_append, List.nil_append])
          (repeat (first | (first | (with_reducible first | refine AX_block ?_ | refine AX_skip ?_ | refine AX_exit ?_ | refine AX_ret ?_ | refine AX_ift ?_ | refine AX_iff ?_ | refine AX_seq_k (fun K hK => ?_) | refine ContX.use (by assumption) ?_) | simp only [thenX, inBlockX, if_true, if_false, reduceCtorEq]) | (first | ((with_reducible refine XOP tyOK ?_); simp (disch := omega) only [go_sem , hs1, hs2, hs3, hs4, hs5, eqRes]; (with_reducible refine XRes_id ?_)) | (with_reducible refine XSK ?_)) | ((with_reducible refine XRes_nil ?_); refine hK _ ?_; clear hK K) | ((with_reducible refine AX_reg0 fun K hK => ?_); simp only [go_sem]) | (first | (refine XRes_nilI rfl (by first | exact .inl rfl | exact .inr rfl) rfl hV (by kernel_rfl) ?_; (simp only [putL, List.set_cons_succ, List.set_cons_zero])) | (first | refine XTL (by rfl) hC ?_ | refine XTL (by rfl) hI ?_) | ((refine XRes_fn (by rfl) hS ?_); (rintro r H' ⟨⟨n, v, rfl, hV⟩, rfl⟩); (simp only [putL, List.set_cons_succ, List.set_cons_zero])))))
          (simp only [bodyX]; refine ⟨_, by simp only [aresults, aresult, XS.as, Tryd.results16, aload, go_sem, Option.bind_some]; rfl, ?_⟩)
          exact ⟨ids_idB rfl, rfl, trivial⟩
    · have hS := pf_AtoiNo hl h1 h2
      have e2 : numR l lo hi = (0, 7) := by rw [hz, if_neg (fun h => h2 ⟨h.1, h.2.1⟩)]
      rw [e2]
      (refine SF_of_bodyX (aload tt) (aload_ok tyOK) Tryd.func16 rfl (by kernel_rfl) ?_; simp only [Tryd.ntmps16, List.length_cons, List.length_nil, Nat.reduceAdd, Nat.reduceSub, List.replicate_succ, List.replicate_zero, List.cons_append, List.nil_append])
      (repeat (first | (first | (with_reducible first | refine AX_block ?_ | refine AX_skip ?_ | refine AX_exit ?_ | refine AX_ret ?_ | refine AX_ift ?_ | refine AX_iff ?_ | refine AX_seq_k (fun K hK => ?_) | refine ContX.use (by assumption) ?_) | simp only [thenX, inBlockX, if_true, if_false, reduceCtorEq]) | (first | ((with_reducible refine XOP tyOK ?_); simp (disch := omega) only [go_sem , hs1, hs2, hs3, hs4, hs5, eqRes]; (with_reducible refine XRes_id ?_)) | (with_reducible refine XSK ?_)) | ((with_reducible refine XRes_nil ?_); refine hK _ ?_; clear hK K) | ((with_reducible refine AX_reg0 fun K hK => ?_); simp only [go_sem]) | (first | (refine XRes_nilI rfl (by first | exact .inl rfl | exact .inr rfl) rfl hV (by kernel_rfl) ?_; (simp only [putL, List.set_cons_succ, List.set_cons_zero])) | (first | refine XTL (by rfl) hC ?_ | refine XTL (by rfl) hI ?_) | ((refine XRes_fn (by rfl) hS ?_); (rintro r H' ⟨⟨n, v, rfl, hV⟩, rfl⟩); (simp only [putL, List.set_cons_succ, List.set_cons_zero])))))
      (simp only [bodyX]; refine ⟨_, by simp only [aresults, aresult, XS.as, Tryd.results16, aload, go_sem, Option.bind_some]; rfl, ?_⟩)
      exact ⟨ids_idB rfl, rfl, trivial⟩
end Go.Proofs.YthfjnlapelkbnaaDoor
