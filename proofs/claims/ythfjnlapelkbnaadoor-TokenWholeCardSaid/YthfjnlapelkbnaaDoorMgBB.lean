import Derived.Test.YthfjnlapelkbnaaDoorMgBA
import Derived.Test.YthfjnlapelkbnaaDoorMgAW
import Derived.Test.YthfjnlapelkbnaaDoorMgAX
import Derived.Test.YthfjnlapelkbnaaDoorMgAY
import Derived.Test.YthfjnlapelkbnaaDoorMgAP
namespace Go.Proofs.YthfjnlapelkbnaaDoor
open Go.RowKit Go.Shelf Go.Lib Go.Sort
set_option linter.unusedVariables false
set_option linter.unusedSimpArgs false
theorem blk4_ne : blk4.toList.isEmpty = false := by rw [Lib.toList_data]; rfl
set_option maxRecDepth 100000 in
set_option maxHeartbeats 2000000 in
theorem ixa_short (s : ByteArray) (w : World) (hB : BaseAt fun b => w.heap[b]?) (h8 : s.size ≤ 8) : Calls Tryd.prog 33 #[.string s, .string blk4] w fun e w' => e = .returned (.int .i64 (indexAny s.data.toList blk4.data.toList)) ∧ Below w.heap.size w w' := by
  have HB := Lib.hid hB
  clear hB
  have hemp := blk4_ne
  have hn1 : ((blk4.size : Int) == 1) = false := rfl
  have h8z : decide ((8 : Int) < (s.size : Int)) = false := decide_eq_false (by omega)
  go_enter Tryd.func33, Tryd.ntmps33
  go_wp2_with (go_at_call 42; refine (useSet _ _).mono ?_; rintro e w' ⟨rfl, hw⟩; rw [hw, h8z])
  go_loopg [9, 10] s.size (fun g _ _ wx => ∃ i : Nat, i + g = s.size ∧ wx.heap[w.heap.size]? = some (.stringIter s i) ∧ Below w.heap.size w wx ∧ Hid (NoAny s.data.toList blk4.data.toList i))
  case atStart => exact ⟨0, by omega, World.iter_heap _ _ _, below_iter _ _ _, Lib.hid (NoAny.zero _ _)⟩
  case round =>
    obtain ⟨i, hig, hk, hbel, hno⟩ := hrel
    cases gk with
    | zero =>
      obtain rfl : i = s.size := by omega
      have hnx := fun ty => run_next_end_at (P := Tryd.prog) wr w.heap.size s s.size ty hk (by omega)
      go_wp2
      go_ret
      exact ⟨by rw [Lib.indexAny_none (by rw [← Lib.size_eq]; exact hno.out)]; rfl, hbel⟩
    | succ g =>
      have hi : i < s.size := by omega
      have hkl : w.heap.size < wr.heap.size := lt_of_heap hk
      by_cases hx : (s.get! i).toNat < 128
      · have hgb := get_bang s i hi
        have hxl : s.data.toList[i]? = some (s.get! i) := by rw [hgb]; exact Lib.data_getElem? s i hi
        have hnx := fun ty => run_next_ascii_at (P := Tryd.prog) wr w.heap.size s i ty hk hi (by rw [← hgb]; exact hx)
        rw [← hgb] at hnx
        generalize s.get! i = x at *
        have Hx := Lib.hid hxl
        have hk2 := Lib.hid (iterAt_heap wr w.heap.size s i (i + 1) hk)
        have hb2 := Lib.hid (below_iterAt hbel (Nat.le_refl _) s (i + 1))
        have HA := fun W => ixr_ascii (x.toNat : Int) (by omega) (by omega) W
        have hback : ((x.toNat : Int)).toNat.toUInt8 = x := by simp
        rw [hback] at HA
        have hcon := Lib.contains_iff_indexByte blk4.data.toList x
        clear hxl hk hgb hback
        cases hin : blk4.data.toList.contains x
        · rw [hin] at hcon
          have hlt : ¬ ((0 : Int) ≤ indexByte blk4.data.toList x) := of_decide_eq_false hcon.symm
          clear hcon
          go_wp2_with (go_at_call 41; refine (HA _).mono ?_; rintro e w' ⟨rfl, hw⟩; rw [hw])
          go_roundg g
          case measure => omega
          case rel => exact ⟨i + 1, by omega, hk2.out, hb2.out, Lib.hid (hno.out.succ Hx.out hin)⟩
        · rw [hin] at hcon
          have hge : (0 : Int) ≤ indexByte blk4.data.toList x := of_decide_eq_true hcon.symm
          clear hcon
          go_wp2_with (go_at_call 41; refine (HA _).mono ?_; rintro e w' ⟨rfl, hw⟩; rw [hw])
          go_ret
          exact ⟨by rw [Lib.indexAny_hit hno.out Hx.out hin]; rfl, hb2.out⟩
      · obtain ⟨d1, d2, d3, d4, d5, d6⟩ := dec_hi s i hi (by omega)
        have hnx := fun ty => run_next_any_at (P := Tryd.prog) wr w.heap.size s i ty hk hi
        have hk1 := iterAt_heap wr w.heap.size s i (i + (Utf8.decode s i).2) hk
        have hb1 := below_iterAt hbel (Nat.le_refl _) s (i + (Utf8.decode s i).2)
        have hsz := iterAt_size wr w.heap.size s (i + (Utf8.decode s i).2)
        generalize Utf8.decode s i = p at *
        obtain ⟨c, n⟩ := p
        dsimp only at d1 d2 d3 d4 d5 d6 hnx hk1 hb1 hsz
        have hno2 := Lib.hid (noAny_more hno.out d5 d6)
        have HR := ixr_at HB.out hb1 c d1 d2 d3
        have hk2 := Lib.hid hk1
        have hb2 := Lib.hid hb1
        have hs2 := Lib.hid hsz
        clear hk hk1 hb1 hsz d1 d2 d3 d6 hno hbel
        have HR := Lib.hid HR
        go_wp2_with (go_at_call 41; refine HR.out.mono ?_; rintro e w' ⟨rfl, hw⟩)
        go_roundg (s.size - (i + n))
        case measure => omega
        case rel => exact ⟨i + n, by omega, by rw [hw.block _ (by rw [hs2.out]; exact hkl)]; exact hk2.out, hb2.out.trans (hw.mono (by rw [hs2.out]; omega)), hno2⟩
end Go.Proofs.YthfjnlapelkbnaaDoor
namespace Go.Proofs.YthfjnlapelkbnaaDoor
open Go.RowKit Go.Shelf Go.Lib Go.Sort
set_option linter.unusedVariables false
set_option linter.unusedSimpArgs false
theorem blk4_asc : ∀ (j : Nat) (b : UInt8), blk4.data.toList[j]? = some b → b.toNat < 128 := fun j b h => ascii_at (l := [32, 9, 13, 10]) (by decide) j b h
theorem ixa_any (s : ByteArray) (hs : s.size ≤ 1000000) (w : World) (hB : BaseAt fun b => w.heap[b]?) : Calls Tryd.prog 33 #[.string s, .string blk4] w fun e w' => e = .returned (.int .i64 (indexAny s.data.toList blk4.data.toList)) ∧ Below w.heap.size w w' := by
  by_cases h8 : 8 < s.size
  · have h116 : (Tryd.prog.info? (caL_ren.t 116)).map (fun i => (i.zero, i.size)) = some (some (.agg (Array.replicate 256 (.bool false))), 256) := by kernel_rfl
    refine (Any.strings_IndexAny_long { caL with } (zero_of_info h116).1 (zero_of_info h116).2 s blk4 w (by decide) h8 (by omega) (by decide) blk4_asc).mono ?_
    rintro e w' ⟨he, rfl⟩
    exact ⟨he, ((Below.refl _ w).alloc (Nat.le_refl _) _).alloc (by rw [World.size_alloc]; omega) _⟩
  · exact ixa_short s w hB (by omega)
theorem Wae2da {A B : Prop} (h9 : B) (w : B → A := by (intro h9; (repeat intro K hK); refine ⟨?_⟩; (repeat (first | (first | (with_reducible first | refine AX_block ?_ | refine AX_skip ?_ | refine AX_exit ?_ | refine AX_ret ?_ | refine AX_ift ?_ | refine AX_iff ?_ | refine AX_seq_k (fun K hK => ?_) | refine ContX.use (by assumption) ?_) | simp only [thenX, inBlockX, if_true, if_false, reduceCtorEq]) | (first | ((with_reducible refine XOP tyOK ?_); simp (disch := omega) only [go_sem , hs1, hs2, hs3, hs4, hs5, ba_toList, ba_size, byteAt_ba, Int.toNat_zero, Int.toNat_natCast]; (with_reducible refine XRes_id ?_)) | (with_reducible refine XSK ?_)) | ((with_reducible refine XRes_nil ?_); refine hK _ ?_; clear hK K) | ((with_reducible refine AX_reg0 fun K hK => ?_); simp only [go_sem]) | (first | (first | refine XTL (by rfl) hC ?_ | refine XTL (by rfl) hI ?_)))); refine Wk.o ?_; (repeat revert hK K); exact h9)) : A := w h9
set_option maxRecDepth 100000 in
set_option maxHeartbeats 2000000 in
theorem ca_any (s : ByteArray) (hs : s.size ≤ 1000000) (w : World) (hB : BaseAt fun b => w.heap[b]?) : Calls Tryd.prog 23 #[.string s, .string blk4] w fun e w' => e = .returned (.bool (containsAny s.data.toList blk4.data.toList)) ∧ Below w.heap.size w w' := by
  have HI := Lib.hid (ixa_any s hs w hB)
  clear hB
  unfold containsAny
  generalize indexAny s.data.toList blk4.data.toList = r at *
  go_enter Tryd.func23, Tryd.ntmps23
  go_wp2_with (go_at_call 33; refine HI.out.mono ?_; rintro e w' ⟨rfl, hw⟩)
  go_ret
  exact ⟨rfl, hw⟩
theorem pf_CAny (l : List UInt8) (hl : l.length ≤ 1000000) : PF Tryd.prog 23 [lt (.string (ba l)), lt (.string ⟨#[32, 9, 13, 10]⟩)] fun r H' => r = lt (.bool (containsAny l [32, 9, 13, 10])) ∧ H' = [] :=
  PF_of_walk ⟨_, Tryd.func23, by kernel_rfl, rfl⟩ fun G w vs hi hr => by
    obtain ⟨v1, us, rfl, r1, hr⟩ := hr.uncons
    obtain ⟨v2, us, rfl, r2, hr⟩ := hr.uncons
    rw [hr.unnil, r1.lit_inv, r2.lit_inv]
    exact (show Calls Tryd.prog 23 #[.string (ba l), .string blk4] w _ from ca_any (ba l) (by rw [ba_size]; exact hl) w ⟨baseOk_up hi.fz G.bs⟩).mono fun e w' h => h
theorem contains_blk (b : UInt8) : ([32, 9, 13, 10] : List UInt8).contains b = (isSp b || b == 10) := by
  rw [Bool.eq_iff_iff, List.contains_iff_mem]
  simp [isSp, or_assoc]
theorem containsAny_blk (l : List UInt8) : containsAny l [32, 9, 13, 10] = l.any fun b => isSp b || b == 10 := by
  unfold containsAny
  induction l with
  | nil => rfl
  | cons b l ih =>
    have hg := indexAny_ge [32, 9, 13, 10] l
    rw [List.any_cons, ← ih, ← contains_blk, indexAny]
    by_cases hc : ([32, 9, 13, 10] : List UInt8).contains b = true
    · rw [if_pos hc, hc]; rfl
    · rw [if_neg hc]
      have hc' : ([32, 9, 13, 10] : List UInt8).contains b = false := by simpa using hc
      rw [hc', Bool.false_or]
      by_cases h1 : indexAny l [32, 9, 13, 10] = -1
      · rw [h1]; rfl
      · have h2 : (indexAny l [32, 9, 13, 10] == -1) = false := by simpa using h1
        rw [if_neg (by rw [h2]; exact Bool.false_ne_true), decide_eq_true (by omega), decide_eq_true (by omega)]
theorem word_any (l : List UInt8) : (!(l == []) && !(containsAny l [32, 9, 13, 10])) = wordOk l := by
  rw [containsAny_blk]
  unfold wordOk
  have e1 : (l == ([] : List UInt8)) = l.isEmpty := by cases l <;> rfl
  have e2 : (!(l.any fun b => isSp b || b == 10)) = l.all fun b => !(isSp b) && !(b == 10) := by
    induction l with
    | nil => rfl
    | cons b l ih => rw [List.any_cons, List.all_cons, Bool.not_or, Bool.not_or, ih (by cases l <;> rfl)]
  rw [e1, e2]
set_option maxRecDepth 100000 in
set_option maxHeartbeats 4000000 in
theorem pf_WordG (l : List UInt8) (hl : l.length ≤ 1000000) : PF Tryd.prog 12 [lt (.string (ba l))] fun r H' => r = lt (.bool (wordOk l)) ∧ H' = [] := by
  refine SF.forgetAll ?_
  have hs1 := trivial; have hs2 := trivial; have hs3 := trivial; have hs4 := trivial; have hs5 := trivial; have hC := trivial; have hI := trivial
  have hC := pf_CAny l hl
  have hs1 : (⟨#[]⟩ : ByteArray).toList = [] := ba_toList []
  rw [← word_any]
  generalize hb1 : (l == ([] : List UInt8)) = b1 at *
  have hs2 := hb1
  generalize containsAny l [32, 9, 13, 10] = b2 at *
  cases b1 with
  | true =>
    (refine SF_of_bodyX (aload tt) (aload_ok tyOK) Tryd.func12 rfl (by kernel_rfl) ?_; simp only [Tryd.ntmps12, List.length_cons, List.length_nil, Nat.reduceAdd, Nat.reduceSub, List.replicate_succ, List.replicate_zero, List.cons_append, List.nil_append])
    (refine Wk.o ?_; (repeat revert hK K); refine Wae2da ?_; (repeat intro K hK); refine ⟨?_⟩)
    (simp only [bodyX]; refine ⟨_, by simp only [aresults, aresult, XS.as, Tryd.results12, aload, go_sem, Option.bind_some]; rfl, ?_⟩)
    exact ⟨ids_idB rfl, rfl, trivial⟩
  | false =>
    (refine SF_of_bodyX (aload tt) (aload_ok tyOK) Tryd.func12 rfl (by kernel_rfl) ?_; simp only [Tryd.ntmps12, List.length_cons, List.length_nil, Nat.reduceAdd, Nat.reduceSub, List.replicate_succ, List.replicate_zero, List.cons_append, List.nil_append])
    (refine Wk.o ?_; (repeat revert hK K); refine Wae2da ?_; (repeat intro K hK); refine ⟨?_⟩)
    (simp only [bodyX]; refine ⟨_, by simp only [aresults, aresult, XS.as, Tryd.results12, aload, go_sem, Option.bind_some]; rfl, ?_⟩)
    exact ⟨.iv _, by cases b2 <;> rfl, trivial⟩
end Go.Proofs.YthfjnlapelkbnaaDoor
namespace Go.Proofs.YthfjnlapelkbnaaDoor
open Go.RowKit Go.Lib
set_option linter.unusedVariables false
set_option linter.unusedSimpArgs false
end Go.Proofs.YthfjnlapelkbnaaDoor
