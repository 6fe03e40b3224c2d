import Derived.Test.YtcjnikkmjhagmaaGreatDoorMgBQ
import Derived.Test.YtcjnikkmjhagmaaGreatDoorMgBS
import Derived.Test.YtcjnikkmjhagmaaGreatDoorMgAT
import Derived.Test.YtcjnikkmjhagmaaGreatDoorMgBB
import Derived.Test.YtcjnikkmjhagmaaGreatDoorMgAW
import Derived.WideLaws
namespace Go.Proofs.YtcjnikkmjhagmaaGreatDoor
open Go.RowKit
section
variable {n : Nat} {m : Int} {M : List Bool} {ord : List Int}
end
end Go.Proofs.YtcjnikkmjhagmaaGreatDoor
namespace Go.Proofs.YtcjnikkmjhagmaaGreatDoor
open Go.RowKit
set_option linter.unusedVariables false
set_option linter.unusedSimpArgs false
theorem pf_rCheck31 (n m : Int) : PF Tryz.prog 85 [lt (.int .i64 n), lt (.int .i64 m)] fun r H' => r = lt (.int .i64 (nCheck n m)) ∧ H' = [] :=
  PF_of_walk ⟨_, Tryz.func85, by kernel_rfl, rfl⟩ fun G w vs hi hr => by
    obtain ⟨v1, us, rfl, r1, hr⟩ := hr.uncons
    obtain ⟨v2, us, rfl, r2, hr⟩ := hr.uncons
    rw [hr.unnil, r1.lit_inv, r2.lit_inv]
    refine (ref_Check31 n m w).mono ?_
    rintro e w' ⟨rfl, rfl⟩
    exact ⟨rfl, Below.refl _ _⟩
theorem nF_snoc {n m c a b : Int} {k : Nat} (h : nOf n m ((k + 1 : Nat) : Int) = (c, a, b)) : (nF n m k).map lint ++ [lt (.int .i64 c), lt (.int .i64 a), lt (.int .i64 b)] = (nF n m (k + 1)).map lint := by
  rw [nF_succ, h, List.map_append]; rfl
theorem nF_take (n m : Int) (k : Nat) : ((nF n m k).map lint).take (k * 3) = (nF n m k).map lint := List.take_of_length_le (by rw [List.length_map, nF_len]; exact Nat.le_refl _)
theorem nF_mlen (n m : Int) (k : Nat) : ((nF n m k).map lint).length = k * 3 := by rw [List.length_map, nF_len]
attribute [go_sem] nF_take nF_mlen nF_len
theorem Wa7e8a {A B : Prop} (h9 : B) (w : B → A := by (intro h9; (repeat intro K hK); refine ⟨?_⟩; (repeat (first | (first | (with_reducible first | refine AX_block ?_ | refine AX_skip ?_ | refine AX_exit ?_ | refine AX_ret ?_ | refine AX_ift ?_ | refine AX_iff ?_ | refine AX_seq_k (fun K hK => ?_) | refine ContX.use (by assumption) ?_) | simp only [thenX, inBlockX, if_true, if_false, reduceCtorEq]) | (first | ((with_reducible refine XOP tyOK ?_); simp (disch := omega) only [go_sem , hs1, hs2, hs3, hs4, hs5, hs6, Int.toNat_natCast]; (with_reducible refine XRes_id ?_)) | (with_reducible refine XSK ?_)) | ((with_reducible refine XRes_nil ?_); refine hK _ ?_; clear hK K) | ((with_reducible refine AX_reg0 fun K hK => ?_); simp only [go_sem]) | (first | (first | refine XTL (by rfl) hC ?_)))); refine Wk.o ?_; (repeat revert hK K); exact h9)) : A := w h9
set_option maxRecDepth 100000 in
set_option maxHeartbeats 4000000 in
theorem pf_rNames31 (n m : Int) (hok : nOk n m) (V : Nat) (hV : (V : Int) = n * n + n + (n + 1) * m) : PF Tryz.prog 52 [lt (.int .i64 n), lt (.int .i64 m)] fun r H' => r = .iv (iFlat (nF n m V) V 3) ∧ H' = [] := by
  refine SF.frozen ?_
  have hs1 := trivial; have hs2 := trivial; have hs3 := trivial; have hs4 := trivial; have hs5 := trivial; have hs6 := trivial
  have hC := pf_rCheck31 n m
  rw [nCheck_yes hok] at hC
  have hq := nOk_sq hok
  have hst := nOk_st hok
  have hk := hok
  obtain ⟨o1, o2, s1, s2⟩ := hk
  (refine SF_of_bodyX (aload tt) (aload_ok tyOK) Tryz.func52 rfl (by kernel_rfl) ?_; simp only [Tryz.ntmps52, List.length_cons, List.length_nil, Nat.reduceAdd, Nat.reduceSub, List.replicate_succ, List.replicate_zero, List.cons_append, List.nil_append])
  (refine Wk.o ?_; (repeat revert hK K); refine Wa7e8a ?_; (repeat intro K hK); refine ⟨?_⟩)
  refine AX_nil 5 88 3 rfl ?_
  (refine AWH (σ := Nat × Nat) [16, 17, 18, 7, 21, 22, 23, 26, 27, 28, 29, 30, 31, 24, 25, 19, 20] (fun (a, k) => [(6, lint a), (5, .osl 0 0 k 3)]) (fun (a, k) => [some ⟨88, (nF n m k).map lint⟩]) (fun (a, k) => []) (fun (a, k) => (a : Int) ≤ n ∧ (k : Int) = (a : Int) * n) (fun (a, k) => n.toNat - a) (0, 0) (by first | exact ⟨by omega, by simp⟩) ?_; rintro ⟨a, k⟩ d fr hfr ⟨ha, hk1⟩; simp only [updS, deadS, List.set_cons_succ, List.set_cons_zero, lint] at hfr; subst hfr; (try dsimp only))
  have ma := mul_bd (x := (a : Int)) (y := n) (a := 64) (b := 64) (by omega) (by omega) o1 o2
  by_cases hlt : (a : Int) < n
  · (refine Wk.o ?_; (repeat revert hK K); refine Wa7e8a ?_; (repeat intro K hK); refine ⟨?_⟩)
    (refine AWH (σ := Nat × Nat) [21, 22, 23, 26, 27, 28, 29, 30, 31, 24, 25] (fun (b, k2) => [(7, lint b), (5, .osl 0 0 k2 3)]) (fun (b, k2) => [some ⟨88, (nF n m k2).map lint⟩]) (fun (b, k2) => []) (fun (b, k2) => (b : Int) ≤ n ∧ (k2 : Int) = (a : Int) * n + b) (fun (b, k2) => n.toNat - b) (0, k) (by first | exact ⟨by omega, by omega⟩) ?_; rintro ⟨b, k2⟩ d fr hfr ⟨hb, hk2⟩; simp only [updS, deadS, List.set_cons_succ, List.set_cons_zero, lint] at hfr; subst hfr; (try dsimp only))
    by_cases hlb : (b : Int) < n
    · have hn := nOf_1 hok hlt hlb hk2
      (refine Wk.o ?_; (repeat revert hK K); refine Wa7e8a ?_; (repeat intro K hK); refine ⟨?_⟩)
      refine whx_ren [2] (b + 1, k2 + 1) ⟨by omega, by omega⟩ (by (first | omega | (dsimp only; omega) | (simp only; omega))) rfl (by decide) (by decide) (by (simp (disch := omega) only [go_sem, lint])) (by (simp (disch := omega) only [go_sem, lint])) ?_ (fun d => by (simp (disch := omega) only [go_sem, lint]))
      simp only [← nF_snoc hn]
      (simp (disch := omega) only [go_sem, lint])
    · have hbn : (b : Int) = n := by omega
      (refine Wk.o ?_; (repeat revert hK K); refine Wa7e8a ?_; (repeat intro K hK); refine ⟨?_⟩)
      exact WRN [0] (a + 1, k2) ⟨by omega, by rw [hk2, hbn, Int.natCast_add, Int.add_mul]; omega⟩ (by (first | omega | (dsimp only; omega) | (simp only; omega)))
  · have han : (a : Int) = n := by omega
    rw [han] at hk1
    clear ma
    (refine Wk.o ?_; (repeat revert hK K); refine Wa7e8a ?_; (repeat intro K hK); refine ⟨?_⟩)
    (refine AWH (σ := Nat × Nat) [32, 33, 34, 37, 38, 39, 40, 41, 35, 36] (fun (a2, k2) => [(8, lint a2), (5, .osl 0 0 k2 3)]) (fun (a2, k2) => [some ⟨88, (nF n m k2).map lint⟩]) (fun (a2, k2) => []) (fun (a2, k2) => (a2 : Int) ≤ n ∧ (k2 : Int) = n * n + a2) (fun (a2, k2) => n.toNat - a2) (0, k) (by first | exact ⟨by omega, by omega⟩) ?_; rintro ⟨a2, k2⟩ d fr hfr ⟨ha2, hk2⟩; simp only [updS, deadS, List.set_cons_succ, List.set_cons_zero, lint] at hfr; subst hfr; (try dsimp only))
    by_cases hl2 : (a2 : Int) < n
    · have hn := nOf_2 hok hl2 hk2
      (refine Wk.o ?_; (repeat revert hK K); refine Wa7e8a ?_; (repeat intro K hK); refine ⟨?_⟩)
      refine whx_ren [2] (a2 + 1, k2 + 1) ⟨by omega, by omega⟩ (by (first | omega | (dsimp only; omega) | (simp only; omega))) rfl (by decide) (by decide) (by (simp (disch := omega) only [go_sem, lint])) (by (simp (disch := omega) only [go_sem, lint])) ?_ (fun d => by (simp (disch := omega) only [go_sem, lint]))
      simp only [← nF_snoc hn]
      (simp (disch := omega) only [go_sem, lint])
    · have han2 : (a2 : Int) = n := by omega
      rw [han2] at hk2
      (refine Wk.o ?_; (repeat revert hK K); refine Wa7e8a ?_; (repeat intro K hK); refine ⟨?_⟩)
      (refine AWH (σ := Nat × Nat) [42, 43, 44, 10, 47, 48, 49, 52, 53, 54, 55, 56, 57, 50, 51, 45, 46] (fun (a3, k3) => [(9, lint a3), (5, .osl 0 0 k3 3)]) (fun (a3, k3) => [some ⟨88, (nF n m k3).map lint⟩]) (fun (a3, k3) => []) (fun (a3, k3) => (a3 : Int) ≤ n + 1 ∧ (k3 : Int) = n * n + n + (a3 : Int) * m) (fun (a3, k3) => (n + 1).toNat - a3) (0, k2) (by first | exact ⟨by omega, by simp; omega⟩) ?_; rintro ⟨a3, k3⟩ d fr hfr ⟨ha3, hk3⟩; simp only [updS, deadS, List.set_cons_succ, List.set_cons_zero, lint] at hfr; subst hfr; (try dsimp only))
      have m3 := mul_bd (x := (a3 : Int)) (y := m) (a := 65) (b := 32) (by omega) (by omega) (by omega) s2
      by_cases hl3 : (a3 : Int) ≤ n
      · (refine Wk.o ?_; (repeat revert hK K); refine Wa7e8a ?_; (repeat intro K hK); refine ⟨?_⟩)
        (refine AWH (σ := Nat × Nat) [47, 48, 49, 52, 53, 54, 55, 56, 57, 50, 51] (fun (b4, k4) => [(10, lint b4), (5, .osl 0 0 k4 3)]) (fun (b4, k4) => [some ⟨88, (nF n m k4).map lint⟩]) (fun (b4, k4) => []) (fun (b4, k4) => (b4 : Int) ≤ m ∧ (k4 : Int) = n * n + n + ((a3 : Int) * m + b4)) (fun (b4, k4) => m.toNat - b4) (0, k3) (by first | exact ⟨by omega, by omega⟩) ?_; rintro ⟨b4, k4⟩ d fr hfr ⟨hb4, hk4⟩; simp only [updS, deadS, List.set_cons_succ, List.set_cons_zero, lint] at hfr; subst hfr; (try dsimp only))
        by_cases hl4 : (b4 : Int) < m
        · have hn := nOf_3 hok hl3 hl4 hk4
          (refine Wk.o ?_; (repeat revert hK K); refine Wa7e8a ?_; (repeat intro K hK); refine ⟨?_⟩)
          refine whx_ren [2] (b4 + 1, k4 + 1) ⟨by omega, by omega⟩ (by (first | omega | (dsimp only; omega) | (simp only; omega))) rfl (by decide) (by decide) (by (simp (disch := omega) only [go_sem, lint])) (by (simp (disch := omega) only [go_sem, lint])) ?_ (fun d => by (simp (disch := omega) only [go_sem, lint]))
          simp only [← nF_snoc hn]
          (simp (disch := omega) only [go_sem, lint])
        · have hbm : (b4 : Int) = m := by omega
          (refine Wk.o ?_; (repeat revert hK K); refine Wa7e8a ?_; (repeat intro K hK); refine ⟨?_⟩)
          exact WRN [0] (a3 + 1, k4) ⟨by omega, by rw [hk4, hbm, Int.natCast_add, Int.add_mul]; omega⟩ (by (first | omega | (dsimp only; omega) | (simp only; omega)))
      · have ha4 : (a3 : Int) = n + 1 := by omega
        rw [ha4] at hk3
        have hkV : k3 = V := by omega
        subst hkV
        (refine Wk.o ?_; (repeat revert hK K); refine Wa7e8a ?_; (repeat intro K hK); refine ⟨?_⟩)
        (simp only [bodyX]; refine ⟨_, by simp only [aresults, aresult, XS.as, Tryz.results52, aload, go_sem, Option.bind_some]; rfl, ?_⟩)
        exact ⟨_, snap_flat rfl (by decide) (nF_len n m k3), by first | trivial | rfl⟩
end Go.Proofs.YtcjnikkmjhagmaaGreatDoor
namespace Go.Proofs.YtcjnikkmjhagmaaGreatDoor
open Go.RowKit
set_option linter.unusedVariables false
set_option linter.unusedSimpArgs false
section
variable {P : Program}
def isNilV : Value → Option Bool
  | .nilIface => some true
  | .iface _ _ => some false
  | _ => none
variable {m : Nat} {Q : Exit → XS → Prop} {fr : List AV} {H : AHeap} {M : MS} {l : List Oper} {d : Option Tmp} {t2 ty : TypeId} {pos : String} {after : Array Edge} {g : Option (Nat × Bool)}
end
end Go.Proofs.YtcjnikkmjhagmaaGreatDoor
