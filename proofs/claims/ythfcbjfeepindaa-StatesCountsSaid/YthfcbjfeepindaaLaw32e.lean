/- Layer 32: PlacesForm is true for every input. -/
import Derived.Test.YthfcbjfeepindaaLaw32c
namespace Go.Proofs.Ythfcbjfeepindaa
open Go.RowKit
set_option linter.unusedVariables false
set_option linter.unusedSimpArgs false

theorem mostUp_len2 (neg : Int → Int) (xs : List Int) (k : Nat) (hk : k ≤ xs.length) : 2 * (mostUp neg xs k).length + k * (k + 1) = 2 * (k * xs.length) := by
  induction k with
  | zero => simp [mostUp]
  | succ k ih =>
    have := ih (by omega)
    rw [mostUp_succ, List.length_append, mostRow_length]
    have e1 : (k + 1) * (k + 1 + 1) = k * (k + 1) + 2 * k + 2 := by rw [Nat.add_mul, Nat.mul_add]; omega
    have e2 : (k + 1) * xs.length = k * xs.length + xs.length := by rw [Nat.add_mul]; omega
    omega
theorem most_len2 (neg : Int → Int) (xs : List Int) (n : Nat) (h : xs.length = n) : 2 * (most neg xs).length + n = n * n := by
  have := mostUp_len2 neg xs xs.length (Nat.le_refl _)
  rw [h] at this
  unfold most
  rw [h]
  rw [Nat.mul_add] at this
  omega
theorem plaC_len (s : Int) (n : Nat) : (((plaC s n).length : Nat) : Int) = n + (n * n) * (n - 1) := by
  have h1 : ∀ k, 2 * (plaUp1 s n k).length + k * n = 2 * k + k * (n * n) := by
    intro k
    induction k with
    | zero => simp [plaUp1]
    | succ k ih =>
      have := most_len2 wneg (rowOf n s n k) n (rowOf_length _ _ _ _)
      rw [plaUp1_succ, List.length_append, List.length_append, Nat.add_mul, Nat.add_mul]
      simp only [List.length_cons, List.length_nil]
      omega
  have h2 : ∀ k, 2 * (plaUp2 s n k).length + k * n = k * (n * n) := by
    intro k
    induction k with
    | zero => simp [plaUp2]
    | succ k ih =>
      have := most_len2 wneg (colOf n s n k) n (colOf_length _ _ _ _)
      rw [plaUp2_succ, List.length_append, Nat.add_mul, Nat.add_mul]
      omega
  have a := h1 n; have b := h2 n
  have e : (n : Int) + (n * n) * (n - 1) = n + (n * (n * n) - n * n) := by rw [Int.mul_sub, Int.mul_one, Int.mul_comm ((n : Int) * n) n]
  rw [e]
  unfold plaC
  rw [List.length_append]
  have c : ((n * (n * n) : Nat) : Int) = (n : Int) * (n * n) := by push_cast; rfl
  have d : ((n * n : Nat) : Int) = (n : Int) * n := by push_cast; rfl
  omega
theorem pla_wrap : ∀ n : Nat, n < 11 → wrap64 ((n : Int) + wrap64 ((n : Int) * n * (n - 1))) = (n : Int) + n * n * (n - 1) := by
  intro n h
  obtain rfl | rfl | rfl | rfl | rfl | rfl | rfl | rfl | rfl | rfl | rfl : n = 0 ∨ n = 1 ∨ n = 2 ∨ n = 3 ∨ n = 4 ∨ n = 5 ∨ n = 6 ∨ n = 7 ∨ n = 8 ∨ n = 9 ∨ n = 10 := by omega
  all_goals (rw [IntWalk.wrap64_in _ ⟨by rw [IntWalk.wrap64_in _ ⟨by decide, by decide⟩]; decide, by rw [IntWalk.wrap64_in _ ⟨by decide, by decide⟩]; decide⟩, IntWalk.wrap64_in _ ⟨by decide, by decide⟩])
theorem tru_ord {n V : Nat} {l : List Int} {bs : List Bool} (hp : Pm n n l) (ht : IsTru n n V l bs) (hl : l.length = n) (hV : n * n ≤ V) : Ord n (Mx n bs) l := by
  refine ⟨hl, fun k hk => ?_, hp.2⟩
  obtain ⟨a, ha, e⟩ := hp.1 k hk
  refine ⟨a, ha, e, fun b hb => ?_⟩
  unfold Mx
  rw [ht.2 _ (by have := at_lt hb hk; omega)]
  constructor
  · rintro ⟨j, hj, h⟩
    obtain ⟨c, hc, e2⟩ := hp.1 j hj
    rw [e2] at h
    have h' : c * n + j = b * n + k := by exact_mod_cast h
    have hn : 0 < n := by omega
    have hjk : j = k := by
      have := congrArg (· % n) h'
      simpa [Nat.add_comm, Nat.add_mul_mod_self_right, Nat.mod_eq_of_lt hj, Nat.mod_eq_of_lt hk] using this
    subst hjk
    rw [e2] at e
    have : c * n = b * n := by omega
    have := Nat.eq_of_mul_eq_mul_right hn this
    omega
  · rintro rfl
    exact ⟨k, hk, by rw [e]; push_cast; rfl⟩

set_option maxHeartbeats 2000000 in
theorem placesForm_walk (w : World) (o s : Int) (wo : (Lit.int .i64 o).wf = true) (ws : (Lit.int .i64 s).wf = true) (va : Option Addr) (vl vc : Nat) (xs : List Int) (hr : IntRow w va vl xs) (hf : Fits xs) (hvc : vl ≤ vc ∧ vc ≤ maxLen ∧ (va = none → vc = 0)) :
    Calls Try.prog 9 #[.agg #[.int .i64 o, .int .i64 s], .slice va vl vc] w fun e w' => e = .returned (.bool true) ∧ Below w.heap.size w w' := by
  clear wo ws hf
  have hcv := hvc.1; have hcm := hvc.2.1
  clear hvc
  have HR := Lib.hid hr
  have hxl : xs.length = vl := hr.1
  clear hr
  have hb1 : Below w.heap.size w (w.alloc (.cells #[.int .i64 o, .int .i64 s] 23)) := by (repeat (first | (with_reducible exact Below.refl _ _) | (with_reducible assumption) | (with_reducible refine below_alloc ?_ _) | (with_reducible refine below_drew ?_) | (with_reducible refine below_drewN ?_ _) | (with_reducible refine below_step ?_ (by with_reducible assumption))))
  have hs1 := Blk.made w #[.int .i64 o, .int .i64 s] 23
  generalize hw1 : w.alloc (.cells #[.int .i64 o, .int .i64 s] 23) = W1 at hb1 hs1
  have HW1 := Lib.hid hw1; clear hw1
  have c0 := hs1.cell 0; have c1 := hs1.cell 1
  simp at c0 c1
  by_cases hbig : 10 < o
  · go_enter Try.func9, Try.ntmps9
    go_wp2_with fail
    all_goals (try rw [HW1.out])
    all_goals
      go_wp2_with (go_at_call 30; refine (law32_awake _).mono ?_; rintro e w' ⟨rfl, hbAw⟩)
      all_goals first | (exfalso; omega) | (go_returns; exact ⟨rfl, by (repeat (first | (with_reducible exact Below.refl _ _) | (with_reducible assumption) | (with_reducible refine below_alloc ?_ _) | (with_reducible refine below_drew ?_) | (with_reducible refine below_drewN ?_ _) | (with_reducible refine below_step ?_ (by with_reducible assumption))))⟩)
  have d10 : decide (10 < o) = false := by simpa using hbig
  by_cases hok : nOk o s
  · obtain ⟨n, rfl⟩ : ∃ n : Nat, o = n := ⟨o.toNat, by have := hok.1; omega⟩
    have hk : (nCheck n s != 0) = false := by rw [nCheck_yes hok]; rfl
    by_cases hv : 100 < (vl : Int)
    · have hV : decide (100 < (vl : Int)) = true := by simpa using hv
      go_enter Try.func9, Try.ntmps9
      go_wp2_with fail
      all_goals (try rw [HW1.out])
      go_wp2_with (first | (go_at_call 25; refine (num_Check _ _ _).mono ?_; rintro e w' ⟨rfl, hbC⟩; have c0 := cell_later hbC c0; have c1 := cell_later hbC c1) | (go_at_call 30; refine (law32_awake _).mono ?_; rintro e w' ⟨rfl, hbAw⟩))
      go_returns
      exact ⟨rfl, by (repeat (first | (with_reducible exact Below.refl _ _) | (with_reducible assumption) | (with_reducible refine below_alloc ?_ _) | (with_reducible refine below_drew ?_) | (with_reducible refine below_drewN ?_ _) | (with_reducible refine below_step ?_ (by with_reducible assumption))))⟩
    · have hV : decide (100 < (vl : Int)) = false := by simpa using hv
      have hsq := vars_sq hok
      have hnv := nVars_nonneg n s
      go_enter Try.func9, Try.ntmps9
      go_wp2_with fail
      all_goals (try rw [HW1.out])
      go_wp2_with (first | (go_at_call 25; refine (num_Check _ _ _).mono ?_; rintro e w' ⟨rfl, hbC⟩; have c0 := cell_later hbC c0; have c1 := cell_later hbC c1))
      refine (pla_Clauses n s _ hok).mono ?_
      rintro e w2 ⟨u, rfl, hC, hb2⟩
      obtain ⟨ca, cl, cc, rfl, _, _, hCr⟩ := hC.rows
      have hcl : (cl : Int) = n + (n * n) * (n - 1) := by rw [← plaC_len s n, hCr.1]
      clear hC
      have c0 := cell_later hb2 c0; have c1 := cell_later hb2 c1
      have hwr : ((cl : Int) != wrap64 ((n : Int) + wrap64 ((n : Int) * n * (n - 1)))) = false := by rw [pla_wrap n (by omega), hcl]; simp
      clear hcl
      by_cases hvn : vl = n
      · subst hvn
        go_wp2_with fail
        refine (pla_Truths vl s _ _ xs _ hok (HR.out.later (by (repeat (first | (with_reducible exact Below.refl _ _) | (with_reducible assumption) | (with_reducible refine below_alloc ?_ _) | (with_reducible refine below_drew ?_) | (with_reducible refine below_drewN ?_ _) | (with_reducible refine below_step ?_ (by with_reducible assumption))))))).mono ?_
        rintro e w3 (⟨hP, bs, v, rfl, hT, hvT, hb3⟩ | ⟨hno, rfl, hb3⟩)
        · obtain ⟨ba, bc, rfl, _, _, hbr⟩ := hvT.row
          have hO := tru_ord hP hT hxl hsq
          have hbl : (bs.length : Int) = nVars vl s := by rw [hT.1]; omega
          have c0 := cell_later hb3 c0; have c1 := cell_later hb3 c1
          clear hvT
          have hhold := (plaC_holds hok hbl).2 ⟨xs, hO⟩
          go_wp2_with fail
          refine (pla_Order vl s _ _ _ bs _ hok hbl hbr).mono ?_
          rintro e w4 (⟨l, v, rfl, hA, hvA, hb4⟩ | ⟨hno, rfl, hb4⟩)
          · obtain rfl : l = xs := hA.uniq hO
            have c0 := cell_later hb4 c0; have c1 := cell_later hb4 c1
            have hI := hvA.ints
            clear hvA
            go_wp2_with fail
            refine (same_IntsV _ _ _ _ _ hI ⟨_, _, _, rfl, hcv, hcm, HR.out.later (by (repeat (first | (with_reducible exact Below.refl _ _) | (with_reducible assumption) | (with_reducible refine below_alloc ?_ _) | (with_reducible refine below_drew ?_) | (with_reducible refine below_drewN ?_ _) | (with_reducible refine below_step ?_ (by with_reducible assumption)))))⟩).mono ?_
            rintro e w5 ⟨rfl, hb5⟩
            rw [decide_eq_true rfl]
            have c0 := cell_later hb5 c0; have c1 := cell_later hb5 c1
            go_wp2_with fail
            refine (ref_First _ _ _ _ _ _ _ _ bs _ (hCr.later (by (repeat (first | (with_reducible exact Below.refl _ _) | (with_reducible assumption) | (with_reducible refine below_alloc ?_ _) | (with_reducible refine below_drew ?_) | (with_reducible refine below_drewN ?_ _) | (with_reducible refine below_step ?_ (by with_reducible assumption)))))) (hbr.later (by (repeat (first | (with_reducible exact Below.refl _ _) | (with_reducible assumption) | (with_reducible refine below_alloc ?_ _) | (with_reducible refine below_drew ?_) | (with_reducible refine below_drewN ?_ _) | (with_reducible refine below_step ?_ (by with_reducible assumption))))))).mono ?_
            rintro e w6 ⟨i, rfl, hi, hb6⟩
            have c0 := cell_later hb6 c0; have c1 := cell_later hb6 c1
            have hi0 : decide (i < 0) = true := by simpa using hi.2 hhold
            clear hi hCr
            go_wp2_with (go_at_call 30; refine (law32_awake _).mono ?_; rintro e w' ⟨rfl, hbAw⟩)
            go_returns
            exact ⟨rfl, by (repeat (first | (with_reducible exact Below.refl _ _) | (with_reducible assumption) | (with_reducible refine below_alloc ?_ _) | (with_reducible refine below_drew ?_) | (with_reducible refine below_drewN ?_ _) | (with_reducible refine below_step ?_ (by with_reducible assumption))))⟩
          · exact absurd hO (hno xs)
        · go_wp2_with (go_at_call 30; refine (law32_awake _).mono ?_; rintro e w' ⟨rfl, hbAw⟩)
          go_returns
          exact ⟨rfl, by (repeat (first | (with_reducible exact Below.refl _ _) | (with_reducible assumption) | (with_reducible refine below_alloc ?_ _) | (with_reducible refine below_drew ?_) | (with_reducible refine below_drewN ?_ _) | (with_reducible refine below_step ?_ (by with_reducible assumption))))⟩
      · go_wp2_with fail
        refine (pla_Truths_no n s _ _ _ _ (Or.inr fun h => hvn (by omega))).mono ?_
        rintro e w3 ⟨rfl, hb3⟩
        go_wp2_with (go_at_call 30; refine (law32_awake _).mono ?_; rintro e w' ⟨rfl, hbAw⟩)
        go_returns
        exact ⟨rfl, by (repeat (first | (with_reducible exact Below.refl _ _) | (with_reducible assumption) | (with_reducible refine below_alloc ?_ _) | (with_reducible refine below_drew ?_) | (with_reducible refine below_drewN ?_ _) | (with_reducible refine below_step ?_ (by with_reducible assumption))))⟩
  · have hk : (nCheck o s != 0) = true := by rw [nCheck_no hok]; rfl
    go_enter Try.func9, Try.ntmps9
    go_wp2_with fail
    all_goals (try rw [HW1.out])
    go_wp2_with (first | (go_at_call 25; refine (num_Check _ _ _).mono ?_; rintro e w' ⟨rfl, hbC⟩; have c0 := cell_later hbC c0; have c1 := cell_later hbC c1) | (go_at_call 30; refine (law32_awake _).mono ?_; rintro e w' ⟨rfl, hbAw⟩))
    go_returns
    exact ⟨rfl, by (repeat (first | (with_reducible exact Below.refl _ _) | (with_reducible assumption) | (with_reducible refine below_alloc ?_ _) | (with_reducible refine below_drew ?_) | (with_reducible refine below_drewN ?_ _) | (with_reducible refine below_step ?_ (by with_reducible assumption))))⟩
end Go.Proofs.Ythfcbjfeepindaa
