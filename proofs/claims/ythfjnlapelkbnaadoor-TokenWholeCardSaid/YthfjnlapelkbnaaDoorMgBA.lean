import Derived.Test.YthfjnlapelkbnaaDoorMgAZ
import Derived.Test.YthfjnlapelkbnaaDoorMgAY
namespace Go.Proofs.YthfjnlapelkbnaaDoor
open Go.RowKit Go.Lib
set_option linter.unusedVariables false
set_option linter.unusedSimpArgs false
theorem XRes_runeS {P : Program} {m : Nat} {Q : Exit → XS → Prop} {fr : List AV} {H : AHeap} {M : MS} {l : List Oper} {d : Option Tmp} {ty : TypeId} {pos : String} {after : Array Edge} {g : Option (Nat × Bool)} {src dst : TypeId} {x : Operand} (c : Int) (hw : wantedS fr ⟨d, .convert src dst x, ty, pos, after, g⟩ = some true) (hx : AS.ev ⟨fr, H⟩ x = lt (.int .i32 c)) (hs : P.underlying src = some (.int .i32)) (hd : P.underlying dst = some .string)
    (k : XRes P m Q (l, ⟨putL fr d (lt (.string (Utf8.encode c))), H, M⟩)) : XRes P m Q (⟨d, .convert src dst x, ty, pos, after, g⟩ :: l, ⟨fr, H, M⟩) :=
  XRes_gives hw (fun G a w hr => ⟨G, _, w, .inl (by
    have hv := hr.ev x
    rw [hx] at hv
    have hv := hv.lit_inv
    simp [execOp, hv, convert, run_underlying hs, run_underlying hd, Conv.intToString, Result.andThen]), Gh.le.refl _ _, Nat.le_refl _, hr.inv, .iv _ _ (.lit _)⟩) k
theorem pf_IxC (l : List UInt8) (x : UInt8) : PF Tryd.prog 20 [lt (.string (ba l)), lt (.int .u8 (x.toNat : Int))] fun r H' => r = lt (.int .i64 (indexByte l x)) ∧ H' = [] :=
  PF_of_walk ⟨_, Tryd.func20, by kernel_rfl, rfl⟩ fun G w vs hi hr => by
    obtain ⟨v1, us, rfl, r1, hr⟩ := hr.uncons
    obtain ⟨v2, us, rfl, r2, hr⟩ := hr.uncons
    rw [hr.unnil, r1.lit_inv, r2.lit_inv]
    have h := Any.strings_IndexByte ixbL (ba l) (x.toNat : Int) w
    refine (show Calls Tryd.prog 20 #[.string (ba l), .int .u8 (x.toNat : Int)] w _ from h).mono ?_
    rintro e w' ⟨rfl, rfl⟩
    exact ⟨by simp [ba_list], Below.refl _ _⟩
theorem pf_Valid (c : Int) (h0 : 128 ≤ c) (h1 : c ≤ 1114111) (h2 : c < 55296 ∨ 57343 < c) : PF Tryd.prog 53 [lt (.int .i32 c)] fun r H' => r = lt (.bool true) ∧ H' = [] :=
  PF_of_walk ⟨_, Tryd.func53, by kernel_rfl, rfl⟩ fun G w vs hi hr => by
    obtain ⟨v1, us, rfl, r1, hr⟩ := hr.uncons
    rw [hr.unnil, r1.lit_inv]
    refine (valid_rune c h0 h1 h2 w).mono ?_
    rintro e w' ⟨rfl, rfl⟩
    exact ⟨rfl, Below.refl _ _⟩
theorem toN2 : (2 : Int).toNat = 2 := rfl
theorem toN3 : (3 : Int).toNat = 3 := rfl
theorem W894ca {A B : Prop} (h9 : B) (w : B → A := by (intro h9; (repeat intro K hK); refine ⟨?_⟩; (repeat (first | (first | (with_reducible first | refine AX_block ?_ | refine AX_skip ?_ | refine AX_exit ?_ | refine AX_ret ?_ | refine AX_ift ?_ | refine AX_iff ?_ | refine AX_seq_k (fun K hK => ?_) | refine ContX.use (by assumption) ?_) | simp only [thenX, inBlockX, if_true, if_false, reduceCtorEq]) | (first | ((with_reducible first | refine XOP tyOK ?_ | refine AOP tyOK ?_); simp (disch := omega) only [go_sem , hs1, hs2, hs3, hs4, hs5, hs6, hs7, hs8, Int.toNat_natCast, Int.toNat_zero, Int.toNat_one, toN2, toN3, ba_size, byteAt_ba, ba_extract, Nat.reduceAdd, Nat.reduceSub, List.getD_cons_succ, List.getD_cons_zero, List.length_cons, List.length_nil, Nat.reduceLeDiff]; (with_reducible first | refine XRes_id ?_ | refine ADF_id ?_)) | (with_reducible first | refine XSK ?_ | refine ASK ?_)) | ((first | (with_reducible refine XRes_nil ?_) | (with_reducible refine ADF_nil ?_)); (first | refine hK _ ?_ | refine hK _ _ ?_); clear hK K) | ((first | (with_reducible refine AX_reg0 fun K hK => ?_) | (refine AX_drawG1 tyOK (by kernel_rfl) (by rfl) (by kernel_rfl) fun K hK => ?_)); simp only [go_sem]) | (first | (first | refine XTL (by rfl) hV ?_ | refine ATL tyOK (by rfl) hV ?_ | refine XTL (by rfl) hI ?_ | refine ATL tyOK (by rfl) hI ?_) | ((refine XRes_runeS c (by rfl) (by rfl) Tryd.underlying21 Tryd.underlying9 ?_); (simp only [putL, List.set_cons_succ, List.set_cons_zero]); rw [hE])) | (with_reducible refine AX_scope ?_) | (simp only [noGotoX]))); refine Wk.o ?_; (repeat revert hK K); exact h9)) : A := w h9
set_option maxRecDepth 100000 in
set_option maxHeartbeats 4000000 in
theorem pf_IxrHi (c : Int) (h0 : 128 ≤ c) (h1 : c ≤ 1114111) (h2 : c < 55296 ∨ 57343 < c) (h3 : c ≠ 65533) : PF Tryd.prog 41 [lt (.string (ba [32, 9, 13, 10])), lt (.int .i32 c)] fun r H' => r = lt (.int .i64 (-1)) ∧ H' = [] := by
  refine SF.forgetAll ?_
  have hs1 := trivial; have hs2 := trivial; have hs3 := trivial; have hs4 := trivial; have hs5 := trivial; have hs6 := trivial; have hs7 := trivial; have hs8 := trivial
  have hV := pf_Valid c h0 h1 h2
  obtain ⟨x, hx, hE⟩ := enc_hi c h0 h1 h2
  have hs1 : decide ((0 : Int) ≤ c) = true := decide_eq_true (by omega)
  have hs2 : decide (c < 128) = false := decide_eq_false (by omega)
  have hs3 : (c == 65533) = false := by simpa using h3
  rcases hE with ⟨a, hE⟩ | ⟨a, b, hE⟩ | ⟨a, b, d, hE⟩
  · have hE : Utf8.encode c = ba [a, x] := hE
    have hI : PF Tryd.prog 20 [lt (.string (ba [13, 10])), lt (.int .u8 (x.toNat : Int))] fun r H' => r = lt (.int .i64 (-1)) ∧ H' = [] := by
      have := pf_IxC [13, 10] x
      rw [ixb_none (fun b hb => by simp only [List.mem_cons, List.not_mem_nil, or_false] at hb; rintro rfl; rcases hb with rfl | rfl <;> revert hx <;> decide)] at this; exact this
    have hs4 : (((2 : Nat) : Int) - 1) = 1 := by decide
    have hs5 : (((9 : UInt8).toNat : Nat) : Int) = 9 := rfl
    have hs6 : ((9 : Int) != (x.toNat : Int)) = true := by rw [bne_iff_ne]; omega
    have hs7 : (((1 : Int) + 1).toNat) = 2 := rfl
    have hs8 : ((1 : Int) + 1) = 2 := rfl
    (refine SF_of_bodyX (aload tt) (aload_ok tyOK) Tryd.func41 rfl (by kernel_rfl) ?_; simp only [Tryd.ntmps41, List.length_cons, List.length_nil, Nat.reduceAdd, Nat.reduceSub, List.replicate_succ, List.replicate_zero, List.cons_append, List.nil_append])
    (refine Wk.o ?_; (repeat revert hK K); refine W894ca ?_; (repeat intro K hK); refine ⟨?_⟩)
    refine AX_wh (σ := Unit) [] (fun _ => []) (fun _ => []) (fun _ => []) (fun _ => True) (fun _ => 0) () (fun d => rfl) rfl rfl trivial ?_
    rintro u d0 fr hfr -
    simp only [updS, deadS] at hfr
    subst hfr
    (refine Wk.o ?_; (repeat revert hK K); refine W894ca ?_; (repeat intro K hK); refine ⟨?_⟩)
    (simp only [bodyX]; refine ⟨_, by simp only [aresults, aresult, XS.as, Tryd.results41, aload, go_sem, Option.bind_some]; rfl, ?_⟩)
    exact ⟨ids_idB rfl, rfl, trivial⟩
  · have hE : Utf8.encode c = ba [a, b, x] := hE
    have hI : PF Tryd.prog 20 [lt (.string (ba [10])), lt (.int .u8 (x.toNat : Int))] fun r H' => r = lt (.int .i64 (-1)) ∧ H' = [] := by
      have := pf_IxC [10] x
      rw [ixb_none (fun b hb => by simp only [List.mem_cons, List.not_mem_nil, or_false] at hb; rintro rfl; subst hb; revert hx; decide)] at this; exact this
    have hs4 : (((3 : Nat) : Int) - 1) = 2 := by decide
    have hs5 : (((13 : UInt8).toNat : Nat) : Int) = 13 := rfl
    have hs6 : ((13 : Int) != (x.toNat : Int)) = true := by rw [bne_iff_ne]; omega
    have hs7 : (((2 : Int) + 1).toNat) = 3 := rfl
    have hs8 : ((2 : Int) + 1) = 3 := rfl
    (refine SF_of_bodyX (aload tt) (aload_ok tyOK) Tryd.func41 rfl (by kernel_rfl) ?_; simp only [Tryd.ntmps41, List.length_cons, List.length_nil, Nat.reduceAdd, Nat.reduceSub, List.replicate_succ, List.replicate_zero, List.cons_append, List.nil_append])
    (refine Wk.o ?_; (repeat revert hK K); refine W894ca ?_; (repeat intro K hK); refine ⟨?_⟩)
    refine AX_wh (σ := Unit) [] (fun _ => []) (fun _ => []) (fun _ => []) (fun _ => True) (fun _ => 0) () (fun d => rfl) rfl rfl trivial ?_
    rintro u d0 fr hfr -
    simp only [updS, deadS] at hfr
    subst hfr
    (refine Wk.o ?_; (repeat revert hK K); refine W894ca ?_; (repeat intro K hK); refine ⟨?_⟩)
    (simp only [bodyX]; refine ⟨_, by simp only [aresults, aresult, XS.as, Tryd.results41, aload, go_sem, Option.bind_some]; rfl, ?_⟩)
    exact ⟨ids_idB rfl, rfl, trivial⟩
  · have hE : Utf8.encode c = ba [a, b, d, x] := hE
    have hI : PF Tryd.prog 20 [lt (.string (ba [])), lt (.int .u8 (x.toNat : Int))] fun r H' => r = lt (.int .i64 (-1)) ∧ H' = [] := by
      have := pf_IxC [] x
      rw [ixb_none (fun b hb => absurd hb (by simp))] at this; exact this
    have hs4 : (((4 : Nat) : Int) - 1) = 3 := by decide
    have hs5 : (((10 : UInt8).toNat : Nat) : Int) = 10 := rfl
    have hs6 : ((10 : Int) != (x.toNat : Int)) = true := by rw [bne_iff_ne]; omega
    have hs7 : (((3 : Int) + 1).toNat) = 4 := rfl
    have hs8 : ((3 : Int) + 1) = 4 := rfl
    (refine SF_of_bodyX (aload tt) (aload_ok tyOK) Tryd.func41 rfl (by kernel_rfl) ?_; simp only [Tryd.ntmps41, List.length_cons, List.length_nil, Nat.reduceAdd, Nat.reduceSub, List.replicate_succ, List.replicate_zero, List.cons_append, List.nil_append])
    (refine Wk.o ?_; (repeat revert hK K); refine W894ca ?_; (repeat intro K hK); refine ⟨?_⟩)
    refine AX_wh (σ := Unit) [] (fun _ => []) (fun _ => []) (fun _ => []) (fun _ => True) (fun _ => 0) () (fun d => rfl) rfl rfl trivial ?_
    rintro u d0 fr hfr -
    simp only [updS, deadS] at hfr
    subst hfr
    (refine Wk.o ?_; (repeat revert hK K); refine W894ca ?_; (repeat intro K hK); refine ⟨?_⟩)
    (simp only [bodyX]; refine ⟨_, by simp only [aresults, aresult, XS.as, Tryd.results41, aload, go_sem, Option.bind_some]; rfl, ?_⟩)
    exact ⟨ids_idB rfl, rfl, trivial⟩
end Go.Proofs.YthfjnlapelkbnaaDoor
namespace Go.Proofs.YthfjnlapelkbnaaDoor
open Go.RowKit Go.Shelf Go.Lib Go.Sort
set_option linter.unusedVariables false
set_option linter.unusedSimpArgs false
theorem blk4_lt : ∀ i (h : i < blk4.size), (blk4[i]'h).toNat < 128 := by decide
theorem below_iter (w : World) (s : ByteArray) (p : Nat) : Below w.heap.size w (w.iter s p) := (Below.refl _ w).alloc (Nat.le_refl _) _
set_option maxRecDepth 100000 in
set_option maxHeartbeats 2000000 in
theorem ixr_bad (w : World) : Calls Tryd.prog 41 #[.string blk4, .int .i32 65533] w fun e w' => e = .returned (.int .i64 (-1)) ∧ Below w.heap.size w w' := by
  go_enter Tryd.func41, Tryd.ntmps41
  go_wp2
  go_loopg [5, 6] 4 (fun g _ _ wx => ∃ i : Nat, i + g = 4 ∧ wx = w.iter blk4 i)
  case atStart => exact ⟨0, rfl, rfl⟩
  case round =>
    obtain ⟨i, hig, rfl⟩ := hrel
    cases gk with
    | zero =>
      obtain rfl : i = 4 := by omega
      have hnx := fun ty => run_next_end (P := Tryd.prog) w blk4 4 ty (by decide)
      go_wp2
      go_ret
      exact ⟨rfl, below_iter _ _ _⟩
    | succ g =>
      have hi : i < blk4.size := by show i < 4; omega
      have hx := blk4_lt i hi
      have hnx := fun ty => run_next_ascii (P := Tryd.prog) w blk4 i ty hi hx
      generalize blk4[i]'hi = x at *
      have hne : ((x.toNat : Int) == 65533) = false := by rw [beq_eq_false_iff_ne]; omega
      go_wp2
      go_roundg g
      case measure => omega
      case rel => exact ⟨i + 1, by omega, rfl⟩
end Go.Proofs.YthfjnlapelkbnaaDoor
namespace Go.Proofs.YthfjnlapelkbnaaDoor
open Go.RowKit Go.Shelf Go.Lib Go.Sort
set_option linter.unusedVariables false
set_option linter.unusedSimpArgs false
theorem dec_hi (s : ByteArray) (i : Nat) (h : i < s.size) (hx : 128 ≤ (s.get! i).toNat) : 128 ≤ (Utf8.decode s i).1 ∧ (Utf8.decode s i).1 ≤ 1114111 ∧ ((Utf8.decode s i).1 < 55296 ∨ 57343 < (Utf8.decode s i).1) ∧ 1 ≤ (Utf8.decode s i).2 ∧ i + (Utf8.decode s i).2 ≤ s.size ∧ ∀ j, j < (Utf8.decode s i).2 → 128 ≤ (s.get! (i + j)).toNat := by
  rw [decode_at]
  have b0 := (s.get! i).toNat_lt
  have b1 := (s.get! (i + 1)).toNat_lt
  have b2 := (s.get! (i + 2)).toNat_lt
  have b3 := (s.get! (i + 3)).toNat_lt
  have two : ∀ y : Nat, y / 64 = 2 → 128 ≤ y := fun y hy => by omega
  rcases decodeN_shape (s.size - i) (s.get! i).toNat (s.get! (i + 1)).toNat (s.get! (i + 2)).toNat (s.get! (i + 3)).toNat with ⟨c, e⟩ | ⟨c1, c2, c3, cv, e⟩ | ⟨c1, c2, c3, c4, cv, cs, e⟩ | ⟨c1, c2, c3, c4, c5, cv, cw, e⟩ | e
  · omega
  · rw [e]
    refine ⟨cv, by dsimp only; omega, by dsimp only; omega, by dsimp only; omega, by dsimp only; omega, fun j hj => ?_⟩
    match j, hj with
    | 0, _ => exact hx
    | 1, _ => exact two _ c3
  · rw [e]
    refine ⟨by dsimp only; omega, by dsimp only; omega, by dsimp only; omega, by dsimp only; omega, by dsimp only; omega, fun j hj => ?_⟩
    match j, hj with
    | 0, _ => exact hx
    | 1, _ => exact two _ c3
    | 2, _ => exact two _ c4
  · rw [e]
    refine ⟨by dsimp only; omega, by dsimp only; omega, by dsimp only; omega, by dsimp only; omega, by dsimp only; omega, fun j hj => ?_⟩
    match j, hj with
    | 0, _ => exact hx
    | 1, _ => exact two _ c3
    | 2, _ => exact two _ c4
    | 3, _ => exact two _ c5
  · rw [e]
    refine ⟨by dsimp only; omega, by dsimp only; omega, by dsimp only; omega, by dsimp only; omega, by dsimp only; omega, fun j hj => ?_⟩
    have hj' : j = 0 := by dsimp only at hj; omega
    subst hj'; exact hx
theorem get_bang (s : ByteArray) (i : Nat) (h : i < s.size) : s.get! i = s[i]'h := by
  have h' : i < s.data.size := h
  show s.data[i]! = s.data[i]
  rw [getElem!_pos s.data i h']
theorem noAny_more {s : ByteArray} {i n : Nat} (h : NoAny s.data.toList blk4.data.toList i) (hn : i + n ≤ s.size) (hb : ∀ j, j < n → 128 ≤ (s.get! (i + j)).toNat) : NoAny s.data.toList blk4.data.toList (i + n) := fun j b hj hjb => by
  rcases Nat.lt_or_ge j i with h1 | h1
  · exact h j b h1 hjb
  · have hjs : j < s.size := by omega
    have e1 := hb (j - i) (by omega)
    rw [show i + (j - i) = j by omega, get_bang s j hjs] at e1
    have e2 := Lib.data_getElem? s j hjs
    rw [hjb] at e2
    have e3 := Option.some.inj e2
    rw [← e3] at e1
    show ([32, 9, 13, 10] : List UInt8).contains b = false
    rw [← Bool.not_eq_true, List.contains_iff_mem]
    intro hm
    simp only [List.mem_cons, List.not_mem_nil, or_false] at hm
    rcases hm with rfl | rfl | rfl | rfl <;> revert e1 <;> decide
theorem ixr_at {w W : World} (hB : BaseAt fun b => w.heap[b]?) (hW : Below w.heap.size w W) (c : Nat) (h0 : 128 ≤ c) (h1 : c ≤ 1114111) (h2 : c < 55296 ∨ 57343 < c) : Calls Tryd.prog 41 #[.string blk4, .int .i32 (c : Int)] W fun e w' => e = .returned (.int .i64 (-1)) ∧ Below W.heap.size W w' := by
  by_cases h3 : c = 65533
  · subst h3; exact ixr_bad W
  · haveI : BaseAt fun b => W.heap[b]? := ⟨baseOk_up (fun b x e => by
      have hlt : b < w.heap.size := lt_of_heap e
      rw [hW.block b hlt]; exact e) hB.ok⟩
    exact law_of (SF.mono (pf_IxrHi c (by omega) (by omega) (by omega) (by omega)) fun r H' h => h.1) W _ (RL.cons (.iv _ _ (.lit _)) (RL.cons (.iv _ _ (.lit _)) (RL.nil _ _)))
theorem ixr_ascii (c : Int) (h0 : 0 ≤ c) (h1 : c < 128) (W : World) : Calls Tryd.prog 41 #[.string blk4, .int .i32 c] W fun e w' => e = .returned (.int .i64 (indexByte blk4.data.toList c.toNat.toUInt8)) ∧ w' = W := Any.strings_IndexRune_ascii { caL with } blk4 c W h0 h1
theorem useSet (n : Int) (w : World) : Calls Tryd.prog 42 #[.int .i64 n] w fun e w' => e = .returned (.bool (decide (8 < n))) ∧ w' = w := Any.strings_shouldUseASCIISet { caL with } n w
end Go.Proofs.YthfjnlapelkbnaaDoor
