import Derived.Test.YtpfbcjlgbdbcpaaRows
import Derived.WalkKit
import Derived.WalkSpells
import Derived.WalkLawsBesides
import Derived.BigGuardPart
import Derived.Handy
import Derived.Deep.QuietTactic
import Derived.BigQuiet
import Derived.Deep.RegionHeld3
import Derived.Lib.Hide
import Derived.Test.YtpfbcjlgbdbcpaaMgAP
import Derived.Laws.Cover3
import Derived.Test.YtpfbcjlgbdbcpaaMgAH
import Derived.Test.YtpfbcjlgbdbcpaaMgAI
import Derived.Test.YtpfbcjlgbdbcpaaMgAT
import Derived.Test.YtpfbcjlgbdbcpaaMgAO
import Derived.Test.YtpfbcjlgbdbcpaaMgAY
import Derived.Test.YtpfbcjlgbdbcpaaMgAV
import Derived.Test.YtpfbcjlgbdbcpaaMgAW
namespace Go.Proofs.Ytpfbcjlgbdbcpaa
open Go.RowKit
set_option linter.unusedVariables false
set_option linter.unusedSimpArgs false
theorem run_eql_slice_nilR {P : Program} (w : World) (t e : TypeId) (a : Option Addr) (l c : Nat) (h : P.underlying t = some (.slice e)) : (binOp .eql t (.slice a l c) (.slice none 0 0)).run P w = .ok (.bool a.isNone) w := by
  simp only [binOp]
  simp [run_equal_slice_nil w t e a l c h]
theorem PF_of_ownK {k n : Nat} {t : TypeId} (hk : 0 < k) {P : Program} {f : FuncId} {args : List AV} {xs : List Int} (hxn : xs.length = n * k) (hc : Callable P f) (h : ∀ G w vs, Inv G [] w → RL 0 G args vs → Calls P f vs.toArray w fun e w' => ∃ v, e = .returned v ∧ w'.ownsRow w.heap.size t k v n (xs.map (Value.int .i64)) ∧ Below w.heap.size w w') : PF P f args fun r H' => r = .osl 0 0 n k ∧ H' = [some ⟨t, xs.map lint⟩] :=
  ⟨hc, fun G w vs hi hr => (h G w vs hi hr).mono fun e w' ⟨v, h1, h2, h3⟩ => by
    have nod : ∀ o, ¬ G.dom o := fun o ho => by have := hi.dom o ho; simp at this
    have old : ∀ {b : Nat} {x : Obj}, w.heap[b]? = some x → w'.heap[b]? = some x := fun {b x} e => (h3.block b (lt_of_heap e)).trans e
    obtain ⟨k1, k2⟩ := h2
    rcases k2 with ⟨hv, hn⟩ | ⟨g, cap, cur, hv, hg, hh, hn, hm, hs, hx⟩
    · subst hn
      have hnil : xs = [] := List.length_eq_zero_iff.1 (by omega)
      subst hnil
      refine ⟨v, _, { G with dom := fun o => o = 0, mu := fun _ => (0, 0), sz := fun _ => 0 }, _, h1, ⟨fun o ho => absurd ho (nod o), fun o ho => absurd ho (nod o), fun o ho => absurd ho (nod o), fun o ho => absurd ho (Nat.not_lt_zero o), fun _ _ e => e, fun _ _ e => e, fun b x y _ e => ⟨y, e⟩, rfl, rfl, rfl⟩, Nat.zero_le _, ⟨h3.os.trans hi.os, h3.tape.trans hi.tape, h3.output.trans hi.output, fun b x e => old (hi.fz b x e), fun b x e => old (hi.kp b x e), fun o ho => ?_, fun o x e => ?_, fun o x e => ?_, fun o o' x x' e e' hne z => absurd rfl z⟩, ?_, rfl, rfl⟩
      · have : o = 0 := ho
        subst this; simp
      · rcases o with _ | o
        · rfl
        · simp at e
      · rcases o with _ | o
        · simp at e; subst e; exact .inl ⟨rfl, rfl⟩
        · simp at e
      · rw [hv]; exact .onil 0 0 k rfl
    · have hxl : (xs.map lint).length = xs.length := by simp
      have hcs : cur.size = cap * k := hs
      have hnk : n * k ≤ cap * k := Nat.mul_le_mul_right k hn
      refine ⟨v, _, { G with dom := fun o => o = 0, mu := fun _ => (g, 0), sz := fun _ => cap * k }, _, h1, ⟨fun o ho => absurd ho (nod o), fun o ho => absurd ho (nod o), fun o ho => absurd ho (nod o), fun o ho => absurd ho (Nat.not_lt_zero o), fun _ _ e => e, fun _ _ e => e, fun b x y _ e => ⟨y, e⟩, rfl, rfl, rfl⟩, Nat.zero_le _, ⟨h3.os.trans hi.os, h3.tape.trans hi.tape, h3.output.trans hi.output, fun b x e => old (hi.fz b x e), fun b x e => old (hi.kp b x e), fun o ho => ?_, fun o x e => ?_, fun o x e => ?_, fun o o' x x' e e' hne z => ?_⟩, ?_, rfl, rfl⟩
      · have : o = 0 := ho
        subst this; simp
      · rcases o with _ | o
        · rfl
        · simp at e
      · rcases o with _ | o
        · simp at e; subst e
          by_cases hc0 : cap * k = 0
          · have hx0 : xs = [] := List.eq_nil_of_length_eq_zero (by omega : xs.length = 0)
            subst hx0
            exact .inl ⟨rfl, hc0⟩
          · refine .inr ⟨hc0, cur, hh, hcs, ⟨?_, fun i y u e1 e2 => ?_⟩, ?_, ?_, ?_⟩
            · show (xs.map lint).length = ((cur.toList.drop 0).take (xs.map lint).length).length
              simp; omega
            · have e2' : ((cur.toList.drop 0).take (xs.map lint).length)[i]? = some u := e2
              have e1' : (xs.map lint)[i]? = some y := e1
              rw [List.drop_zero, hxl, hxn, hx, List.getElem?_map] at e2'
              rw [List.getElem?_map] at e1'
              obtain ⟨z, hz, rfl⟩ := Option.map_eq_some_iff.1 e1'
              rw [hz] at e2'
              simp at e2'; subst e2'
              exact .iv _ _ (.lit _)
            · show (xs.map lint).all AV.one = true
              rw [List.all_eq_true]; intro y hy; obtain ⟨z, _, rfl⟩ := List.mem_map.1 hy; rfl
            · show G.fz g = none
              cases hc : G.fz g with
              | none => rfl
              | some y => have := lt_of_heap (hi.fz g y hc); omega
            · show G.kp g = none
              cases hc : G.kp g with
              | none => rfl
              | some y => have := lt_of_heap (hi.kp g y hc); omega
        · simp at e
      · rcases o with _ | o
        · rcases o' with _ | o'
          · exact absurd rfl hne
          · simp at e'
        · simp at e
      · rw [hv]
        exact .osl 0 0 n k g 0 cap rfl rfl (fun _ => rfl) hn hm (fun _ => by show 0 + cap * k ≤ cap * k; omega)⟩
theorem cl_infoR : (Try.prog.info? 43).map (fun i => (i.zero, i.size, i.bytes)) = some (some (.agg #[.int .i64 0, .int .i64 0, .int .i64 0, .int .i64 0]), 4, 32) := by kernel_rfl
theorem own_none {w : World} (B : Nat) (e : TypeId) (k : Nat) (hB : B ≤ w.heap.size) : (w.alloc (.cells #[] e)).ownsRow B e k (.slice (some ⟨w.heap.size, 0, none⟩) 0 0) 0 [] :=
  ⟨by simp, .inr ⟨w.heap.size, 0, #[], rfl, hB, heap_alloc_new w _, Nat.le_refl _, Nat.zero_le _, by simp, by simp⟩⟩
theorem iRws_row {fz : Nat → Option Obj} {w : World} (hf : ∀ b x, fz b = some x → w.heap[b]? = some x) {xs : List Rw} {v : Value} (h : RI fz (iRws xs) v) : ∃ a cap, v = .slice a xs.length cap ∧ (a = none → xs.length = 0) ∧ CellRow w a ((flatR xs).map (Value.int .i64)) := by
  have hfl := flatR_len xs
  unfold iRws at h
  generalize hl : xs.length = l at h hfl
  have h0 : ∀ a, l = 0 → CellRow w a ((flatR xs).map (Value.int .i64)) := fun a h0 j u hj => by
    have := (List.getElem?_eq_some_iff.1 hj).1
    rw [List.length_map] at this; omega
  cases h with
  | nil get sz cap h => exact ⟨none, cap, rfl, fun _ => rfl, h0 _ rfl⟩
  | empty get sz a cap h => exact ⟨some a, cap, rfl, (fun h => by cases h), h0 _ rfl⟩
  | sl get len sz b off cap cs t fr vs h1 h2 h3 h4 h5 =>
    refine ⟨_, cap, rfl, (fun h => by cases h), fun j u hj => ⟨b, off, rfl, ?_⟩⟩
    have hj2 := (List.getElem?_eq_some_iff.1 hj).1
    rw [List.length_map] at hj2
    rw [cell_of_heap (hf _ _ h1), h2 j (by omega), ri_lit (h3 j (by omega))]
    rw [List.getElem?_map, List.getElem?_eq_getElem hj2] at hj
    rw [List.getD_eq_getElem?_getD, List.getElem?_eq_getElem hj2]
    exact hj
set_option maxRecDepth 100000 in
theorem sl_CloneR (a : Option Addr) (len cap : Nat) (xs : List Int) (w : World) (hx : xs.length = len * 4) (hn : a = none → len = 0) (hr : CellRow w a (xs.map (Value.int .i64))) (hlen : len ≤ 1000000) :
    Calls Try.prog 32 #[.slice a len cap] w fun e w' => ∃ v, e = .returned v ∧ w'.ownsRow w.heap.size 43 4 v len (xs.map (Value.int .i64)) ∧ Below w.heap.size w w' := by
  have HX := Lib.hid hx
  have HR := Lib.hid hr
  cases a with
  | none =>
    have h0 : len = 0 := hn rfl
    subst h0
    have hx0 : xs = [] := List.length_eq_zero_iff.1 (by omega)
    subst hx0
    have heq := fun w => run_eql_slice_nilR (P := Try.prog) w 22 43 none 0 cap Try.underlying22
    clear hr hx hn
    go_enter Try.func32, Try.ntmps32
    go_wp2_with fail
    go_ret
    exact ⟨_, rfl, own_nil _ _ _ _, Below.refl _ _⟩
  | some ad =>
    have heq := fun w => run_eql_slice_nilR (P := Try.prog) w 22 43 (some ad) len cap Try.underlying22
    clear hr hx hn
    go_enter Try.func32, Try.ntmps32
    go_wp2_with (at_builtin; refine wpList_app rfl _ _ 22 rfl w.heap.size 43 (.agg #[.int .i64 0, .int .i64 0, .int .i64 0, .int .i64 0]) 4 32 Try.underlying22 cl_infoR rfl (by decide) _ 0 [] rfl (own_none w.heap.size 43 4 (Nat.le_refl _)) (some ad) len cap (xs.map (Value.int .i64)) rfl (fun h => by cases h) (by rw [List.length_map, HX.out]) (HR.out.later (below_alloc (Below.refl _ _) _)) (one_int · xs) (by unfold maxLen; omega) (by omega) (by rw [World.size_alloc]; omega) ?_)
    intro vw w1 hownw hgw
    have hB1 : Below w.heap.size w w1 := own_bel (below_alloc (Below.refl _ _) _) (own_none w.heap.size 43 4 (Nat.le_refl _)) hgw
    have hOW : w1.ownsRow w.heap.size 43 4 vw len (xs.map (Value.int .i64)) := by simpa using hownw
    have HOW := Lib.hid hOW
    clear hownw hgw hOW
    go_wp2_with fail
    go_ret
    exact ⟨_, rfl, HOW.out, hB1⟩
theorem pf_CloneR (xs : List Rw) (hl : xs.length ≤ 1000000) : PF Try.prog 32 [.iv (iRws xs)] fun r H' => r = .osl 0 0 xs.length 4 ∧ H' = [some ⟨43, (flatR xs).map lint⟩] :=
  PF_of_ownK (by decide) (flatR_len xs) ⟨_, Try.func32, by kernel_rfl, rfl⟩ fun G w vs hi hr => by
    obtain ⟨v1, us, rfl, h1, hr⟩ := hr.uncons
    rw [hr.unnil]
    cases h1 with
    | iv _ _ h1 =>
      obtain ⟨b, cb, rfl, h3, h4⟩ := iRws_row hi.fz h1
      exact sl_CloneR b _ cb (flatR xs) w (flatR_len xs) h3 h4 hl
end Go.Proofs.Ytpfbcjlgbdbcpaa
namespace Go.Proofs.Ytpfbcjlgbdbcpaa
open Go.RowKit Go.Sort
set_option linter.unusedVariables false
set_option linter.unusedSimpArgs false
theorem rws_ext {xs ys : List Rw} (hl : xs.length = ys.length) (h : ∀ i, i < xs.length → rwFl (rwAt xs i) = rwFl (rwAt ys i)) : xs = ys := by
  apply List.ext_getElem hl
  intro i h1 h2
  have := h i h1
  rw [rwAt_get h1, rwAt_get h2] at this
  simp only [rwFl, List.cons.injEq] at this
  exact Rw.ext' this.1 this.2.1 this.2.2.1 this.2.2.2.1
theorem rws_no {xs ys : List Rw} {i : Nat} (h : ¬ rwFl (rwAt xs i) = rwFl (rwAt ys i)) : xs ≠ ys := fun e => h (by rw [e])
theorem W91b8a {A B : Prop} (h9 : B) (w : B → A := by (intro h9; (repeat intro K hK); refine ⟨?_⟩; (repeat (first | (first | (with_reducible first | refine AX_block ?_ | refine AX_skip ?_ | refine AX_exit ?_ | refine AX_ret ?_ | refine AX_ift ?_ | refine AX_iff ?_ | refine AX_seq_k (fun K hK => ?_) | refine ContX.use (by assumption) ?_) | simp only [thenX, inBlockX, if_true, if_false, reduceCtorEq]) | (first | ((first | (with_reducible refine XRes_op tyOK ?_ ?_) | ((with_reducible first | refine ADF_op tyOK ?_ ?_ ?_ | refine ADX_op tyOK ?_ ?_ ?_); (focus rfl)) | (with_reducible refine ADR_alloc1 tyOK ?_ ?_) | ((with_reducible refine ADR_free1 tyOK ?_ ?_ ?_); (focus rfl)) | ((with_reducible refine ADR_free0 tyOK ?_ ?_ ?_); (focus rfl)) | ((with_reducible refine ADR_read1 tyOK ?_ ?_ ?_); (focus rfl)) | (with_reducible refine ADR_chg1 tyOK ?_ ?_)); (focus (first | (with_reducible rfl) | ((simp (disch := omega) only [go_sem]); done))); simp (disch := omega) only [go_sem , flatR_s, flatR_k, flatR_n, flatR_r, hs1, hs2, hs3, hs4]; (first | (with_reducible refine XRes_id ?_) | (with_reducible refine ADF_id ?_) | (with_reducible refine ADR_id1 ?_) | (with_reducible refine ADX_id ?_))) | ((first | (with_reducible refine XRes_skip ?_ ?_) | (with_reducible refine ADF_skip (b := true) ?_ ?_) | (with_reducible refine ADX_skip ?_ ?_) | ((with_reducible refine ADR_skip1 ?_ ?_ ?_); (focus rfl))); (focus (first | rfl | ((simp (disch := omega) only [go_sem]); done))); (simp only [putL, List.set_cons_succ, List.set_cons_zero]))) | ((first | (with_reducible refine XRes_nil ?_) | (with_reducible refine ADF_nil ?_) | (with_reducible refine ADR_nil ?_) | (with_reducible refine ADX_nil ?_)); (first | refine hK _ ?_ | refine hK _ _ ?_); clear hK K) | ((first | (with_reducible refine AX_reg0 fun K hK => ?_) | (refine AX_drawG1 tyOK (by kernel_rfl) (by rfl) (by kernel_rfl) fun K hK => ?_) | (refine AX_drawT tyOK (by kernel_rfl) (by decide +kernel) fun K hK => ?_) | (refine AX_drawM1 (by kernel_rfl) (by rfl) (by decide +kernel) fun K hK => ?_) | (refine AX_drawA tyOK (by kernel_rfl) (by decide +kernel) fun K hK => ?_)); (first | simp only [go_sem, preN, effOp, runF, alM, mapOp, alD2, kdOf2, Bool.not_false, Bool.not_true, reduceCtorEq] | simp only [go_sem, preN, effOp, runF, alM, mapOp, Bool.not_false, Bool.not_true, reduceCtorEq] | simp only [go_sem, preN, effOp, runF, alD2, kdOf2, Bool.not_false, Bool.not_true, reduceCtorEq] | simp only [go_sem, alD2, kdOf2, Bool.not_false, Bool.not_true, reduceCtorEq] | simp only [go_sem, preN, effOp, runF, Bool.not_false, Bool.not_true, reduceCtorEq] | simp only [go_sem])) | (first | ((first | (refine XRes_eqA (us := [_, _, _, _]) (vs2 := [_, _, _, _]) rfl (by first | exact .inl rfl | exact .inr rfl) rfl rfl rfl rfl (by kernel_rfl) ?_) | (refine ADF_eqA (us := [_, _, _, _]) (vs2 := [_, _, _, _]) rfl (by first | exact .inl rfl | exact .inr rfl) rfl rfl rfl rfl (by kernel_rfl) ?_)); (simp only [putL, List.set_cons_succ, List.set_cons_zero])) | (first | refine XTL (by rfl) hR ?_ | refine ATL tyOK (by rfl) hR ?_)))); refine Wk.o ?_; (repeat revert hK K); exact h9)) : A := w h9
set_option maxRecDepth 100000 in
set_option maxHeartbeats 1000000 in
theorem pf_sameRows (xs ys : List Rw) (hx : xs.length ≤ 100000) (hy : ys.length ≤ 100000) : PF Try.prog 19 [.iv (iRws xs), .iv (iRws ys)] fun r H' => r = lt (.bool (decide (xs = ys))) ∧ H' = [] := by
  refine SF.forgetAll ?_
  have hs1 := trivial; have hs2 := trivial; have hs3 := trivial; have hs4 := trivial; have hR := trivial
  (refine SF_of_bodyX (aload tt) (aload_ok tyOK) Try.func19 rfl (by kernel_rfl) ?_; simp only [Try.ntmps19, List.length_cons, List.length_nil, Nat.reduceAdd, Nat.reduceSub, List.replicate_succ, List.replicate_zero, List.cons_append, List.nil_append])
  unfold iRws
  by_cases hl : xs.length = ys.length
  · (refine Wk.o ?_; (repeat revert hK K); refine W91b8a ?_; (repeat intro K hK); refine ⟨?_⟩)
    (refine AWH (σ := Nat) [11, 12, 13, 14, 17, 18, 19, 20, 21, 22, 23, 24, 25, 4, 15, 16] (fun k => [(5, lint k)]) (fun k => []) (fun k => []) (fun k => k ≤ xs.length ∧ ∀ i, i < k → rwFl (rwAt xs i) = rwFl (rwAt ys i)) (fun k => xs.length - k) 0 (by first | exact ⟨Nat.zero_le _, fun i h => absurd h (by omega)⟩) ?_; rintro k d fr hfr ⟨hk, hp⟩; simp only [updS, deadS, List.set_cons_succ, List.set_cons_zero, lint] at hfr; subst hfr; (try dsimp only))
    (repeat' (first | (first | (with_reducible first | refine AX_block ?_ | refine AX_skip ?_ | refine AX_exit ?_ | refine AX_ret ?_ | refine AX_ift ?_ | refine AX_iff ?_ | refine AX_seq_k (fun K hK => ?_) | refine ContX.use (by assumption) ?_) | simp only [thenX, inBlockX, if_true, if_false, reduceCtorEq]) | (first | ((first | (with_reducible refine XRes_op tyOK ?_ ?_) | ((with_reducible first | refine ADF_op tyOK ?_ ?_ ?_ | refine ADX_op tyOK ?_ ?_ ?_); (focus rfl)) | (with_reducible refine ADR_alloc1 tyOK ?_ ?_) | ((with_reducible refine ADR_free1 tyOK ?_ ?_ ?_); (focus rfl)) | ((with_reducible refine ADR_free0 tyOK ?_ ?_ ?_); (focus rfl)) | ((with_reducible refine ADR_read1 tyOK ?_ ?_ ?_); (focus rfl)) | (with_reducible refine ADR_chg1 tyOK ?_ ?_)); (focus (first | (with_reducible rfl) | ((simp (disch := omega) only [go_sem]); done))); simp (disch := omega) only [go_sem , flatR_s, flatR_k, flatR_n, flatR_r, hs1, hs2, hs3, hs4]; (first | (with_reducible refine XRes_id ?_) | (with_reducible refine ADF_id ?_) | (with_reducible refine ADR_id1 ?_) | (with_reducible refine ADX_id ?_))) | ((first | (with_reducible refine XRes_skip ?_ ?_) | (with_reducible refine ADF_skip (b := true) ?_ ?_) | (with_reducible refine ADX_skip ?_ ?_) | ((with_reducible refine ADR_skip1 ?_ ?_ ?_); (focus rfl))); (focus (first | rfl | ((simp (disch := omega) only [go_sem]); done))); (simp only [putL, List.set_cons_succ, List.set_cons_zero]))) | ((first | (with_reducible refine XRes_nil ?_) | (with_reducible refine ADF_nil ?_) | (with_reducible refine ADR_nil ?_) | (with_reducible refine ADX_nil ?_)); (first | refine hK _ ?_ | refine hK _ _ ?_); clear hK K) | ((first | (with_reducible refine AX_reg0 fun K hK => ?_) | (refine AX_drawG1 tyOK (by kernel_rfl) (by rfl) (by kernel_rfl) fun K hK => ?_) | (refine AX_drawT tyOK (by kernel_rfl) (by decide +kernel) fun K hK => ?_) | (refine AX_drawM1 (by kernel_rfl) (by rfl) (by decide +kernel) fun K hK => ?_) | (refine AX_drawA tyOK (by kernel_rfl) (by decide +kernel) fun K hK => ?_)); (first | simp only [go_sem, preN, effOp, runF, alM, mapOp, alD2, kdOf2, Bool.not_false, Bool.not_true, reduceCtorEq] | simp only [go_sem, preN, effOp, runF, alM, mapOp, Bool.not_false, Bool.not_true, reduceCtorEq] | simp only [go_sem, preN, effOp, runF, alD2, kdOf2, Bool.not_false, Bool.not_true, reduceCtorEq] | simp only [go_sem, alD2, kdOf2, Bool.not_false, Bool.not_true, reduceCtorEq] | simp only [go_sem, preN, effOp, runF, Bool.not_false, Bool.not_true, reduceCtorEq] | simp only [go_sem])) | (first | ((first | (refine XRes_eqA (us := [_, _, _, _]) (vs2 := [_, _, _, _]) rfl (by first | exact .inl rfl | exact .inr rfl) rfl rfl rfl rfl (by kernel_rfl) ?_) | (refine ADF_eqA (us := [_, _, _, _]) (vs2 := [_, _, _, _]) rfl (by first | exact .inl rfl | exact .inr rfl) rfl rfl rfl rfl (by kernel_rfl) ?_)); (simp only [putL, List.set_cons_succ, List.set_cons_zero])) | (first | refine XTL (by rfl) hR ?_ | refine ATL tyOK (by rfl) hR ?_)) | ((first | (refine XRes_splitG (by rfl) (fun hc => ?_) (fun hc => ?_)) | (refine ADF_splitG (by rfl) (fun hc => ?_) (fun hc => ?_))) <;> (try simp only [eqRes, List.cons_beq_cons, Bool.and_eq_true, Bool.not_eq_true, Bool.and_eq_false_iff, decide_eq_true_eq, decide_eq_false_iff_not, bne_iff_ne, beq_iff_eq, bne_eq_false_iff_eq, beq_eq_false_iff_ne, Bool.not_eq_true', Bool.not_eq_false', ne_eq, Int.not_lt, Int.not_le, Decidable.not_not] at hc) <;> simp only [List.set_cons_succ, List.set_cons_zero]) | (first | ((with_reducible refine AX_if_t ?_ ?_); focus (simp (disch := omega) only [go_sem , flatR_s, flatR_k, flatR_n, flatR_r, hs1, hs2, hs3, hs4]; done)) | ((with_reducible refine AX_if_f ?_ ?_); focus (simp (disch := omega) only [go_sem , flatR_s, flatR_k, flatR_n, flatR_r, hs1, hs2, hs3, hs4]; done)) | (refine AX_cond _ (by rfl) (fun hc => ?_) (fun hc => ?_) <;> (try simp only [eqRes, List.cons_beq_cons, Bool.and_eq_true, Bool.not_eq_true, Bool.and_eq_false_iff, decide_eq_true_eq, decide_eq_false_iff_not, bne_iff_ne, beq_iff_eq, bne_eq_false_iff_eq, beq_eq_false_iff_ne, Bool.not_eq_true', Bool.not_eq_false', ne_eq, Int.not_lt, Int.not_le, Decidable.not_not] at hc)))))
    · (simp only [bodyX]; refine ⟨_, by simp only [aresults, aresult, XS.as, Try.results19, aload, go_sem, Option.bind_some]; rfl, ?_⟩)
      have hne : rwFl (rwAt xs k) ≠ rwFl (rwAt ys k) := fun h => by
        simp only [rwFl, List.cons.injEq] at h
        obtain ⟨h1, h2, h3, h4, _⟩ := h
        simp [h1, h2, h3, h4] at hc
      exact ⟨.iv _, (by rw [decide_eq_false (rws_no hne)]), trivial⟩
    · refine WEND (k + 1) ⟨by omega, fun i hi => ?_⟩ (by (first | omega | (dsimp only; omega) | (simp only; omega)))
      rcases Nat.lt_or_ge i k with h | h
      · exact hp i h
      · rw [show i = k by omega]; simp only [rwFl]; simp [hc]
    · (simp only [bodyX]; refine ⟨_, by simp only [aresults, aresult, XS.as, Try.results19, aload, go_sem, Option.bind_some]; rfl, ?_⟩)
      exact ⟨.iv _, (by rw [decide_eq_true (rws_ext hl fun i hi => hp i (by omega))]), trivial⟩
  · (repeat' (first | (first | (with_reducible first | refine AX_block ?_ | refine AX_skip ?_ | refine AX_exit ?_ | refine AX_ret ?_ | refine AX_ift ?_ | refine AX_iff ?_ | refine AX_seq_k (fun K hK => ?_) | refine ContX.use (by assumption) ?_) | simp only [thenX, inBlockX, if_true, if_false, reduceCtorEq]) | (first | ((first | (with_reducible refine XRes_op tyOK ?_ ?_) | ((with_reducible first | refine ADF_op tyOK ?_ ?_ ?_ | refine ADX_op tyOK ?_ ?_ ?_); (focus rfl)) | (with_reducible refine ADR_alloc1 tyOK ?_ ?_) | ((with_reducible refine ADR_free1 tyOK ?_ ?_ ?_); (focus rfl)) | ((with_reducible refine ADR_free0 tyOK ?_ ?_ ?_); (focus rfl)) | ((with_reducible refine ADR_read1 tyOK ?_ ?_ ?_); (focus rfl)) | (with_reducible refine ADR_chg1 tyOK ?_ ?_)); (focus (first | (with_reducible rfl) | ((simp (disch := omega) only [go_sem]); done))); simp (disch := omega) only [go_sem , flatR_s, flatR_k, flatR_n, flatR_r, hs1, hs2, hs3, hs4]; (first | (with_reducible refine XRes_id ?_) | (with_reducible refine ADF_id ?_) | (with_reducible refine ADR_id1 ?_) | (with_reducible refine ADX_id ?_))) | ((first | (with_reducible refine XRes_skip ?_ ?_) | (with_reducible refine ADF_skip (b := true) ?_ ?_) | (with_reducible refine ADX_skip ?_ ?_) | ((with_reducible refine ADR_skip1 ?_ ?_ ?_); (focus rfl))); (focus (first | rfl | ((simp (disch := omega) only [go_sem]); done))); (simp only [putL, List.set_cons_succ, List.set_cons_zero]))) | ((first | (with_reducible refine XRes_nil ?_) | (with_reducible refine ADF_nil ?_) | (with_reducible refine ADR_nil ?_) | (with_reducible refine ADX_nil ?_)); (first | refine hK _ ?_ | refine hK _ _ ?_); clear hK K) | ((first | (with_reducible refine AX_reg0 fun K hK => ?_) | (refine AX_drawG1 tyOK (by kernel_rfl) (by rfl) (by kernel_rfl) fun K hK => ?_) | (refine AX_drawT tyOK (by kernel_rfl) (by decide +kernel) fun K hK => ?_) | (refine AX_drawM1 (by kernel_rfl) (by rfl) (by decide +kernel) fun K hK => ?_) | (refine AX_drawA tyOK (by kernel_rfl) (by decide +kernel) fun K hK => ?_)); (first | simp only [go_sem, preN, effOp, runF, alM, mapOp, alD2, kdOf2, Bool.not_false, Bool.not_true, reduceCtorEq] | simp only [go_sem, preN, effOp, runF, alM, mapOp, Bool.not_false, Bool.not_true, reduceCtorEq] | simp only [go_sem, preN, effOp, runF, alD2, kdOf2, Bool.not_false, Bool.not_true, reduceCtorEq] | simp only [go_sem, alD2, kdOf2, Bool.not_false, Bool.not_true, reduceCtorEq] | simp only [go_sem, preN, effOp, runF, Bool.not_false, Bool.not_true, reduceCtorEq] | simp only [go_sem])) | (first | ((first | (refine XRes_eqA (us := [_, _, _, _]) (vs2 := [_, _, _, _]) rfl (by first | exact .inl rfl | exact .inr rfl) rfl rfl rfl rfl (by kernel_rfl) ?_) | (refine ADF_eqA (us := [_, _, _, _]) (vs2 := [_, _, _, _]) rfl (by first | exact .inl rfl | exact .inr rfl) rfl rfl rfl rfl (by kernel_rfl) ?_)); (simp only [putL, List.set_cons_succ, List.set_cons_zero])) | (first | refine XTL (by rfl) hR ?_ | refine ATL tyOK (by rfl) hR ?_)) | ((first | (refine XRes_splitG (by rfl) (fun hc => ?_) (fun hc => ?_)) | (refine ADF_splitG (by rfl) (fun hc => ?_) (fun hc => ?_))) <;> (try simp only [eqRes, List.cons_beq_cons, Bool.and_eq_true, Bool.not_eq_true, Bool.and_eq_false_iff, decide_eq_true_eq, decide_eq_false_iff_not, bne_iff_ne, beq_iff_eq, bne_eq_false_iff_eq, beq_eq_false_iff_ne, Bool.not_eq_true', Bool.not_eq_false', ne_eq, Int.not_lt, Int.not_le, Decidable.not_not] at hc) <;> simp only [List.set_cons_succ, List.set_cons_zero]) | (first | ((with_reducible refine AX_if_t ?_ ?_); focus (simp (disch := omega) only [go_sem , flatR_s, flatR_k, flatR_n, flatR_r, hs1, hs2, hs3, hs4]; done)) | ((with_reducible refine AX_if_f ?_ ?_); focus (simp (disch := omega) only [go_sem , flatR_s, flatR_k, flatR_n, flatR_r, hs1, hs2, hs3, hs4]; done)) | (refine AX_cond _ (by rfl) (fun hc => ?_) (fun hc => ?_) <;> (try simp only [eqRes, List.cons_beq_cons, Bool.and_eq_true, Bool.not_eq_true, Bool.and_eq_false_iff, decide_eq_true_eq, decide_eq_false_iff_not, bne_iff_ne, beq_iff_eq, bne_eq_false_iff_eq, beq_eq_false_iff_ne, Bool.not_eq_true', Bool.not_eq_false', ne_eq, Int.not_lt, Int.not_le, Decidable.not_not] at hc)))))
    (simp only [bodyX]; refine ⟨_, by simp only [aresults, aresult, XS.as, Try.results19, aload, go_sem, Option.bind_some]; rfl, ?_⟩)
    exact ⟨.iv _, (by rw [decide_eq_false (fun e => hl (by rw [e]))]), trivial⟩
set_option maxRecDepth 100000 in
set_option maxHeartbeats 1000000 in
theorem pf_Sort (xs : List Rw) (hx : xs.length ≤ 100000) : PF Try.prog 20 [.iv (iRws xs)] fun r H' => r = .iv (iRws (srtR xs)) ∧ H' = [] := by
  refine SF.frozen ?_
  have hs1 := trivial; have hs2 := trivial; have hs3 := trivial; have hs4 := trivial; have hR := trivial
  have hC := pf_CloneR xs (by omega)
  have hfl := flatR_len (srtR xs)
  have hsl := srtR_len xs
  unfold iRws at hC
  (refine SF_of_bodyX (aload tt) (aload_ok tyOK) Try.func20 rfl (by kernel_rfl) ?_; simp only [Try.ntmps20, List.length_cons, List.length_nil, Nat.reduceAdd, Nat.reduceSub, List.replicate_succ, List.replicate_zero, List.cons_append, List.nil_append])
  unfold iRws
  (refine Wk.o ?_; (repeat revert hK K); refine W91b8a ?_; (repeat intro K hK); refine ⟨?_⟩)
  refine XRes_fn (by rfl) hC ?_
  rintro r H' ⟨rfl, rfl⟩
  (simp only [putL, List.set_cons_succ, List.set_cons_zero])
  (refine Wk.o ?_; (repeat revert hK K); refine W91b8a ?_; (repeat intro K hK); refine ⟨?_⟩)
  refine XRes_fn (by rfl) (SF_sortFR cfR cfR_swo cfR_tot (o := 0) (xs := xs) rfl rfl (by omega) (fun args w => by rfl) fun W x y => ob_cmp x.s x.k x.n x.r y.s y.k y.n y.r W) ?_
  rintro r H' ⟨rfl, rfl⟩
  (simp only [putL, List.set_cons_succ, List.set_cons_zero])
  (refine Wk.o ?_; (repeat revert hK K); refine W91b8a ?_; (repeat intro K hK); refine ⟨?_⟩)
  (simp only [bodyX]; refine ⟨_, by simp only [aresults, aresult, XS.as, Try.results20, aload, go_sem, Option.bind_some]; rfl, ?_⟩)
  refine ⟨_, .iv _ _ (.osl 0 0 xs.length 4 _ ⟨43, (flatR (srtR xs)).map lint⟩ (fun j => lt (.int .i64 ((flatR (srtR xs)).getD j 0))) (by omega) rfl (fun j hj => ?_) fun j _ => .iv _), by rw [hsl], trivial⟩
  rw [Nat.zero_add]; exact lint_at (by omega)
end Go.Proofs.Ytpfbcjlgbdbcpaa
namespace Go.Proofs.Ytpfbcjlgbdbcpaa
open Go.RowKit
set_option linter.unusedVariables false
set_option linter.unusedSimpArgs false
theorem Wdcd4a {A B : Prop} (h9 : B) (w : B → A := by (intro h9; (repeat intro K hK); refine ⟨?_⟩; (repeat (first | (first | (with_reducible first | refine AX_block ?_ | refine AX_skip ?_ | refine AX_exit ?_ | refine AX_ret ?_ | refine AX_ift ?_ | refine AX_iff ?_ | refine AX_seq_k (fun K hK => ?_) | refine ContX.use (by assumption) ?_) | simp only [thenX, inBlockX, if_true, if_false, reduceCtorEq]) | (first | ((first | (with_reducible refine XRes_op tyOK ?_ ?_) | ((with_reducible first | refine ADF_op tyOK ?_ ?_ ?_ | refine ADX_op tyOK ?_ ?_ ?_); (focus rfl)) | (with_reducible refine ADR_alloc1 tyOK ?_ ?_) | ((with_reducible refine ADR_free1 tyOK ?_ ?_ ?_); (focus rfl)) | ((with_reducible refine ADR_free0 tyOK ?_ ?_ ?_); (focus rfl)) | ((with_reducible refine ADR_read1 tyOK ?_ ?_ ?_); (focus rfl)) | (with_reducible refine ADR_chg1 tyOK ?_ ?_)); (focus (first | (with_reducible rfl) | ((simp (disch := omega) only [go_sem]); done))); simp (disch := omega) only [go_sem , flatR_s, flatR_k, flatR_n, flatR_r, hs1, hs2, hs3, hs4]; (first | (with_reducible refine XRes_id ?_) | (with_reducible refine ADF_id ?_) | (with_reducible refine ADR_id1 ?_) | (with_reducible refine ADX_id ?_))) | ((first | (with_reducible refine XRes_skip ?_ ?_) | (with_reducible refine ADF_skip (b := true) ?_ ?_) | (with_reducible refine ADX_skip ?_ ?_) | ((with_reducible refine ADR_skip1 ?_ ?_ ?_); (focus rfl))); (focus (first | rfl | ((simp (disch := omega) only [go_sem]); done))); (simp only [putL, List.set_cons_succ, List.set_cons_zero]))) | ((first | (with_reducible refine XRes_nil ?_) | (with_reducible refine ADF_nil ?_) | (with_reducible refine ADR_nil ?_) | (with_reducible refine ADX_nil ?_)); (first | refine hK _ ?_ | refine hK _ _ ?_); clear hK K) | ((first | (with_reducible refine AX_reg0 fun K hK => ?_) | (refine AX_drawG1 tyOK (by kernel_rfl) (by rfl) (by kernel_rfl) fun K hK => ?_) | (refine AX_drawT tyOK (by kernel_rfl) (by decide +kernel) fun K hK => ?_) | (refine AX_drawM1 (by kernel_rfl) (by rfl) (by decide +kernel) fun K hK => ?_) | (refine AX_drawA tyOK (by kernel_rfl) (by decide +kernel) fun K hK => ?_)); (first | simp only [go_sem, preN, effOp, runF, alM, mapOp, alD2, kdOf2, Bool.not_false, Bool.not_true, reduceCtorEq] | simp only [go_sem, preN, effOp, runF, alM, mapOp, Bool.not_false, Bool.not_true, reduceCtorEq] | simp only [go_sem, preN, effOp, runF, alD2, kdOf2, Bool.not_false, Bool.not_true, reduceCtorEq] | simp only [go_sem, alD2, kdOf2, Bool.not_false, Bool.not_true, reduceCtorEq] | simp only [go_sem, preN, effOp, runF, Bool.not_false, Bool.not_true, reduceCtorEq] | simp only [go_sem])) | ((first | (refine XRes_eqA (us := [_, _, _, _]) (vs2 := [_, _, _, _]) rfl (by first | exact .inl rfl | exact .inr rfl) rfl rfl rfl rfl (by kernel_rfl) ?_) | (refine ADF_eqA (us := [_, _, _, _]) (vs2 := [_, _, _, _]) rfl (by first | exact .inl rfl | exact .inr rfl) rfl rfl rfl rfl (by kernel_rfl) ?_)); (simp only [putL, List.set_cons_succ, List.set_cons_zero])))); refine Wk.o ?_; (repeat revert hK K); exact h9)) : A := w h9
set_option maxRecDepth 100000 in
set_option maxHeartbeats 1000000 in
theorem pf_obSameE (S Kd I : Int) (xs ys : List Rw) (hx : xs.length ≤ 100000) (hy : ys.length ≤ 100000) (hl : xs.length = ys.length) : PF Try.prog 17 [obA ⟨S, Kd, I, xs⟩, obA ⟨S, Kd, I, ys⟩] fun r H' => r = lt (.bool (decide (xs = ys))) ∧ H' = [] := by
  refine SF.forgetAll ?_
  unfold obA
  dsimp only
  have hs1 := trivial; have hs2 := trivial; have hs3 := trivial; have hs4 := trivial
  (refine SF_of_bodyX (aload tt) (aload_ok tyOK) Try.func17 rfl (by kernel_rfl) ?_; simp only [Try.ntmps17, List.length_cons, List.length_nil, Nat.reduceAdd, Nat.reduceSub, List.replicate_succ, List.replicate_zero, List.cons_append, List.nil_append])
  (refine Wk.o ?_; (repeat revert hK K); refine Wdcd4a ?_; (repeat intro K hK); refine ⟨?_⟩)
  refine AX_wh (σ := Nat) [39, 40, 41, 42, 6, 5, 43, 44, 45, 46, 47, 48, 49, 4, 50] (fun k => [(38, lint k)]) (fun _ => [some ⟨24, [lt (.int .i64 S), lt (.int .i64 Kd), lt (.int .i64 I), .iv (iRws xs)]⟩, some ⟨24, [lt (.int .i64 S), lt (.int .i64 Kd), lt (.int .i64 I), .iv (iRws ys)]⟩]) (fun _ => []) (fun k => k ≤ xs.length ∧ ∀ i, i < k → rwFl (rwAt xs i) = rwFl (rwAt ys i)) (fun k => xs.length - k) 0 (fun d => by first | ((simp only [deadS, updS, List.set_cons_succ, List.set_cons_zero, lint, List.length_nil, List.length_cons]); done) | ((simp only [deadS, updS, List.set_cons_succ, List.set_cons_zero, lint, List.length_nil, List.length_cons]); rfl) | rfl) rfl rfl ⟨Nat.zero_le _, fun i h => absurd h (by omega)⟩ ?_
  rintro k d fr hfr ⟨hk, hp⟩
  simp only [updS, deadS, List.set_cons_succ, List.set_cons_zero, lint] at hfr
  subst hfr
  (try dsimp only)
  (repeat' (first | (first | (with_reducible first | refine AX_block ?_ | refine AX_skip ?_ | refine AX_exit ?_ | refine AX_ret ?_ | refine AX_ift ?_ | refine AX_iff ?_ | refine AX_seq_k (fun K hK => ?_) | refine ContX.use (by assumption) ?_) | simp only [thenX, inBlockX, if_true, if_false, reduceCtorEq]) | (first | ((first | (with_reducible refine XRes_op tyOK ?_ ?_) | ((with_reducible first | refine ADF_op tyOK ?_ ?_ ?_ | refine ADX_op tyOK ?_ ?_ ?_); (focus rfl)) | (with_reducible refine ADR_alloc1 tyOK ?_ ?_) | ((with_reducible refine ADR_free1 tyOK ?_ ?_ ?_); (focus rfl)) | ((with_reducible refine ADR_free0 tyOK ?_ ?_ ?_); (focus rfl)) | ((with_reducible refine ADR_read1 tyOK ?_ ?_ ?_); (focus rfl)) | (with_reducible refine ADR_chg1 tyOK ?_ ?_)); (focus (first | (with_reducible rfl) | ((simp (disch := omega) only [go_sem]); done))); simp (disch := omega) only [go_sem , flatR_s, flatR_k, flatR_n, flatR_r, hs1, hs2, hs3, hs4]; (first | (with_reducible refine XRes_id ?_) | (with_reducible refine ADF_id ?_) | (with_reducible refine ADR_id1 ?_) | (with_reducible refine ADX_id ?_))) | ((first | (with_reducible refine XRes_skip ?_ ?_) | (with_reducible refine ADF_skip (b := true) ?_ ?_) | (with_reducible refine ADX_skip ?_ ?_) | ((with_reducible refine ADR_skip1 ?_ ?_ ?_); (focus rfl))); (focus (first | rfl | ((simp (disch := omega) only [go_sem]); done))); (simp only [putL, List.set_cons_succ, List.set_cons_zero]))) | ((first | (with_reducible refine XRes_nil ?_) | (with_reducible refine ADF_nil ?_) | (with_reducible refine ADR_nil ?_) | (with_reducible refine ADX_nil ?_)); (first | refine hK _ ?_ | refine hK _ _ ?_); clear hK K) | ((first | (with_reducible refine AX_reg0 fun K hK => ?_) | (refine AX_drawG1 tyOK (by kernel_rfl) (by rfl) (by kernel_rfl) fun K hK => ?_) | (refine AX_drawT tyOK (by kernel_rfl) (by decide +kernel) fun K hK => ?_) | (refine AX_drawM1 (by kernel_rfl) (by rfl) (by decide +kernel) fun K hK => ?_) | (refine AX_drawA tyOK (by kernel_rfl) (by decide +kernel) fun K hK => ?_)); (first | simp only [go_sem, preN, effOp, runF, alM, mapOp, alD2, kdOf2, Bool.not_false, Bool.not_true, reduceCtorEq] | simp only [go_sem, preN, effOp, runF, alM, mapOp, Bool.not_false, Bool.not_true, reduceCtorEq] | simp only [go_sem, preN, effOp, runF, alD2, kdOf2, Bool.not_false, Bool.not_true, reduceCtorEq] | simp only [go_sem, alD2, kdOf2, Bool.not_false, Bool.not_true, reduceCtorEq] | simp only [go_sem, preN, effOp, runF, Bool.not_false, Bool.not_true, reduceCtorEq] | simp only [go_sem])) | ((first | (refine XRes_eqA (us := [_, _, _, _]) (vs2 := [_, _, _, _]) rfl (by first | exact .inl rfl | exact .inr rfl) rfl rfl rfl rfl (by kernel_rfl) ?_) | (refine ADF_eqA (us := [_, _, _, _]) (vs2 := [_, _, _, _]) rfl (by first | exact .inl rfl | exact .inr rfl) rfl rfl rfl rfl (by kernel_rfl) ?_)); (simp only [putL, List.set_cons_succ, List.set_cons_zero])) | ((first | (refine XRes_splitG (by rfl) (fun hc => ?_) (fun hc => ?_)) | (refine ADF_splitG (by rfl) (fun hc => ?_) (fun hc => ?_))) <;> (try simp only [eqRes, List.cons_beq_cons, Bool.and_eq_true, Bool.not_eq_true, Bool.and_eq_false_iff, decide_eq_true_eq, decide_eq_false_iff_not, bne_iff_ne, beq_iff_eq, bne_eq_false_iff_eq, beq_eq_false_iff_ne, Bool.not_eq_true', Bool.not_eq_false', ne_eq, Int.not_lt, Int.not_le, Decidable.not_not] at hc) <;> simp only [List.set_cons_succ, List.set_cons_zero]) | (first | ((with_reducible refine AX_if_t ?_ ?_); focus (simp (disch := omega) only [go_sem , flatR_s, flatR_k, flatR_n, flatR_r, hs1, hs2, hs3, hs4]; done)) | ((with_reducible refine AX_if_f ?_ ?_); focus (simp (disch := omega) only [go_sem , flatR_s, flatR_k, flatR_n, flatR_r, hs1, hs2, hs3, hs4]; done)) | (refine AX_cond _ (by rfl) (fun hc => ?_) (fun hc => ?_) <;> (try simp only [eqRes, List.cons_beq_cons, Bool.and_eq_true, Bool.not_eq_true, Bool.and_eq_false_iff, decide_eq_true_eq, decide_eq_false_iff_not, bne_iff_ne, beq_iff_eq, bne_eq_false_iff_eq, beq_eq_false_iff_ne, Bool.not_eq_true', Bool.not_eq_false', ne_eq, Int.not_lt, Int.not_le, Decidable.not_not] at hc)))))
  · (simp only [bodyX]; refine ⟨_, by simp only [aresults, aresult, XS.as, Try.results17, aload, go_sem, Option.bind_some]; rfl, ?_⟩)
    have hne : rwFl (rwAt xs k) ≠ rwFl (rwAt ys k) := fun h => by
      simp only [rwFl, List.cons.injEq] at h
      obtain ⟨h1, h2, h3, h4, _⟩ := h
      simp [h1, h2, h3, h4] at hc
    exact ⟨.iv _, (by rw [decide_eq_false (rws_no hne)]), trivial⟩
  · refine WRN [0, 1] (k + 1) ⟨by omega, fun i hi => ?_⟩ (by (first | omega | (dsimp only; omega) | (simp only; omega)))
    rcases Nat.lt_or_ge i k with h | h
    · exact hp i h
    · rw [show i = k by omega]; simp only [rwFl]; simp [hc]
  · (simp only [bodyX]; refine ⟨_, by simp only [aresults, aresult, XS.as, Try.results17, aload, go_sem, Option.bind_some]; rfl, ?_⟩)
    exact ⟨.iv _, (by rw [decide_eq_true (rws_ext hl fun i hi => hp i (by omega))]), trivial⟩
def obSm (a b : Ob) : Bool := decide (a.S = b.S ∧ a.K = b.K ∧ a.I = b.I ∧ a.R = b.R)
set_option maxRecDepth 100000 in
set_option maxHeartbeats 1000000 in
theorem pf_obSame (a b : Ob) (ha : a.R.length ≤ 100000) (hb : b.R.length ≤ 100000) : PF Try.prog 17 [obA a, obA b] fun r H' => r = lt (.bool (obSm a b)) ∧ H' = [] := by
  obtain ⟨S, Kd, I, xs⟩ := a
  obtain ⟨T, L, J, ys⟩ := b
  dsimp only at ha hb
  unfold obSm
  dsimp only
  have hs1 := trivial; have hs2 := trivial; have hs3 := trivial; have hs4 := trivial
  by_cases h1 : S = T
  · by_cases h2 : Kd = L
    · by_cases h3 : I = J
      · by_cases h4 : xs.length = ys.length
        · subst h1 h2 h3
          have h := pf_obSameE S Kd I xs ys ha hb h4
          simpa using h
        · rw [decide_eq_false (fun h => h4 (by rw [h.2.2.2]))]
          refine SF.forgetAll ?_
          unfold obA
          dsimp only
          (refine SF_of_bodyX (aload tt) (aload_ok tyOK) Try.func17 rfl (by kernel_rfl) ?_; simp only [Try.ntmps17, List.length_cons, List.length_nil, Nat.reduceAdd, Nat.reduceSub, List.replicate_succ, List.replicate_zero, List.cons_append, List.nil_append])
          (refine Wk.o ?_; (repeat revert hK K); refine Wdcd4a ?_; (repeat intro K hK); refine ⟨?_⟩)
          (simp only [bodyX]; refine ⟨_, by simp only [aresults, aresult, XS.as, Try.results17, aload, go_sem, Option.bind_some]; rfl, ?_⟩)
          exact ⟨.iv _, rfl, trivial⟩
      · rw [decide_eq_false (fun h => h3 h.2.2.1)]
        refine SF.forgetAll ?_
        unfold obA
        dsimp only
        (refine SF_of_bodyX (aload tt) (aload_ok tyOK) Try.func17 rfl (by kernel_rfl) ?_; simp only [Try.ntmps17, List.length_cons, List.length_nil, Nat.reduceAdd, Nat.reduceSub, List.replicate_succ, List.replicate_zero, List.cons_append, List.nil_append])
        (refine Wk.o ?_; (repeat revert hK K); refine Wdcd4a ?_; (repeat intro K hK); refine ⟨?_⟩)
        (simp only [bodyX]; refine ⟨_, by simp only [aresults, aresult, XS.as, Try.results17, aload, go_sem, Option.bind_some]; rfl, ?_⟩)
        exact ⟨.iv _, rfl, trivial⟩
    · rw [decide_eq_false (fun h => h2 h.2.1)]
      refine SF.forgetAll ?_
      unfold obA
      dsimp only
      (refine SF_of_bodyX (aload tt) (aload_ok tyOK) Try.func17 rfl (by kernel_rfl) ?_; simp only [Try.ntmps17, List.length_cons, List.length_nil, Nat.reduceAdd, Nat.reduceSub, List.replicate_succ, List.replicate_zero, List.cons_append, List.nil_append])
      (refine Wk.o ?_; (repeat revert hK K); refine Wdcd4a ?_; (repeat intro K hK); refine ⟨?_⟩)
      (simp only [bodyX]; refine ⟨_, by simp only [aresults, aresult, XS.as, Try.results17, aload, go_sem, Option.bind_some]; rfl, ?_⟩)
      exact ⟨.iv _, rfl, trivial⟩
  · rw [decide_eq_false (fun h => h1 h.1)]
    refine SF.forgetAll ?_
    unfold obA
    dsimp only
    (refine SF_of_bodyX (aload tt) (aload_ok tyOK) Try.func17 rfl (by kernel_rfl) ?_; simp only [Try.ntmps17, List.length_cons, List.length_nil, Nat.reduceAdd, Nat.reduceSub, List.replicate_succ, List.replicate_zero, List.cons_append, List.nil_append])
    (refine Wk.o ?_; (repeat revert hK K); refine Wdcd4a ?_; (repeat intro K hK); refine ⟨?_⟩)
    (simp only [bodyX]; refine ⟨_, by simp only [aresults, aresult, XS.as, Try.results17, aload, go_sem, Option.bind_some]; rfl, ?_⟩)
    exact ⟨.iv _, rfl, trivial⟩
end Go.Proofs.Ytpfbcjlgbdbcpaa
