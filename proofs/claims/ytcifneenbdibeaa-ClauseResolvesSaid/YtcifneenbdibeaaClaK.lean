/- The contracts of clause.keep, at both functions that it is handed, of Norm and of Without. -/
import Derived.Test.YtcifneenbdibeaaSrtW
import Derived.Test.YtcifneenbdibeaaClaP
import Derived.Test.YtcifneenbdibeaaLitW
import Derived.Test.YtcifneenbdibeaaHas
import Derived.BigGuardPart
import Derived.Handy
import Derived.StillTactics
import Derived.OwnWalk
namespace Go.Proofs.Ytcifneenbdibeaa
open Go.RowKit Go.Lib Go.Sort
set_option linter.unusedVariables false
set_option linter.unusedSimpArgs false

set_option maxRecDepth 100000 in
theorem cla_cmp (x y : Int) (w : World) : Calls Try.prog 37 #[.int .i64 x, .int .i64 y] w fun e w' => e = .returned (.int .i64 (Lib.compareInt (lindex x) (lindex y))) ∧ w = w' := by
  generalize hr : Lib.compareInt (lindex x) (lindex y) = r
  have HRR := Lib.hid hr
  clear hr
  go_enter Try.func37, Try.ntmps37
  go_wp2_with (first | (go_at_call 39; refine (lit_Index _ _).mono ?_; rintro e wq ⟨rfl, hq⟩; obtain rfl := hq.symm) | (go_at_call 38; refine (cmp_ints _ _ _).mono ?_; rintro e wq ⟨rfl, hq⟩; obtain rfl := hq.symm))
  go_ret
  exact ⟨ret_int HRR.out, rfl⟩

def keepUp (p : Int → Bool) (xs : List Int) : List Int := xs.filter fun x => decide (lvar x ≠ 0) && p x
theorem keepUp_snoc (p : Int → Bool) (xs : List Int) (x : Int) : keepUp p (xs ++ [x]) = keepUp p xs ++ if (decide (lvar x ≠ 0) && p x) = true then [x] else [] := by
  unfold keepUp
  rw [List.filter_append, List.filter_cons, List.filter_nil]
theorem keepUp_len (p : Int → Bool) (xs : List Int) : (keepUp p xs).length ≤ xs.length := List.length_filter_le _ _
theorem keepUp_norm (p : Int → Bool) (xs : List Int) : cNorm (keepUp p xs) = cNorm (xs.filter p) := norm_same (fun z hz => by
  unfold keepUp
  rw [List.mem_filter, List.mem_filter]
  simp [hz])
theorem keepUp_lit (p : Int → Bool) (xs : List Int) : ∀ x ∈ keepUp p xs, lvar x ≠ 0 := fun x hx => by
  unfold keepUp at hx
  have := (List.mem_filter.1 hx).2
  simp at this
  exact this.1
def KeepPost (p : Int → Bool) (xs : List Int) (w : World) (e : Ending) (w' : World) : Prop := ∃ v, e = .returned v ∧ OwnInts w' w.heap.size v (cNorm (xs.filter p)) ∧ Below w.heap.size w w'

set_option maxHeartbeats 1000000 in
set_option maxRecDepth 100000 in
theorem cla_keep1 (cb : Array Value) (p : Int → Bool) (a : Option Addr) (len cap : Nat) (xs : List Int) (w : World) (hr : IntRow w a len xs) (hlen : len ≤ 100000)
    (hcall : ∀ x W, Below w.heap.size w W → Calls Try.prog 29 (#[.int .i64 x] ++ cb) W fun e w' => e = .returned (.bool (p x)) ∧ W = w') :
    Calls Try.prog 28 #[.slice a len cap, .func (.func 29) #[] cb] w (KeepPost p xs w) := by
  have HCALL := Lib.hid hcall
  have HR := Lib.hid hr
  have HL := Lib.hid hr.1
  have HT : Hid (keepUp p (xs.take len) = keepUp p xs) := Lib.hid (by rw [List.take_of_length_le (by rw [hr.1]; exact Nat.le_refl _)])
  clear hr hcall
  go_enter Try.func28, Try.ntmps28
  go_wp2_with fail
  go_loopw [5, 7, 10] (fun v _ i wr => ∃ k : Nat, k ≤ len ∧ i = .int .i64 k ∧ OwnInts wr w.heap.size v (keepUp p (xs.take k)) ∧ Below w.heap.size w wr) (fun _ _ i _ => len - (intOf i).toNat)
  case atStart => exact ⟨0, Nat.zero_le _, rfl, OwnInts.nil _ _, Below.refl _ _⟩
  case round =>
    obtain ⟨k, hk, rfl, hl, hbr⟩ := hrel
    have t1 : (0 : Int) ≤ (k : Int) := by omega
    by_cases hlt : k < len
    · have hra := HR.out.later hbr
      obtain ⟨b, off, rfl, hc⟩ := hra.2.2 (by omega)
      have hck := hc k hlt
      have t2 : (k : Int) < (len : Int) := by omega
      have HS := Lib.hid (keepUp_snoc p (xs.take k) (xs.getD k 0))
      have HTK := Lib.hid (take_snoc xs k (by rw [HL.out]; exact hlt))
      have hX1 : (keepUp p (xs.take k)).length ≤ k := Nat.le_trans (keepUp_len _ _) (List.length_take_le _ _)
      clear hc hra
      generalize xs.getD k 0 = z at *
      by_cases hz : lvar z = 0
      · have HE : Hid (keepUp p (xs.take (k + 1)) = keepUp p (xs.take k)) := Lib.hid (by rw [HTK.out, HS.out, hz]; simp)
        have d1 : (lvar z == 0) = true := by simpa using hz
        have d2 : (lvar z != 0) = false := by simpa using hz
        have HO := Lib.hid hl
        clear hl hz
        go_wp2_with (go_at_call 31; refine (lit_Var _ _).mono ?_; rintro e wq ⟨rfl, hq⟩; obtain rfl := hq.symm)
        go_roundw
        case rel => exact ⟨k + 1, by omega, by go_num, by rw [HE.out]; exact HO.out, hbr⟩
        case measure => simp [intOf]; omega
      · have d1 : (lvar z == 0) = false := by simpa using hz
        have d2 : (lvar z != 0) = true := by simpa using hz
        have HSZ : Hid (keepUp p (xs.take (k + 1)) = keepUp p (xs.take k) ++ if p z = true then [z] else []) := Lib.hid (by rw [HTK.out, HS.out]; simp [hz])
        clear hz
        go_wp2_with (go_at_call 31; refine (lit_Var _ _).mono ?_; rintro e wq ⟨rfl, hq⟩; obtain rfl := hq.symm)
        refine (HCALL.out z _ hbr).mono ?_
        rintro e wq ⟨rfl, hq⟩
        obtain rfl := hq
        cases hp : p z
        · have HE : Hid (keepUp p (xs.take (k + 1)) = keepUp p (xs.take k)) := Lib.hid (by rw [HSZ.out, hp]; simp)
          have HO := Lib.hid hl
          clear hl hp HSZ HS
          go_wp2_with fail
          go_roundw
          case rel => exact ⟨k + 1, by omega, by go_num, by rw [HE.out]; exact HO.out, hbr⟩
          case measure => simp [intOf]; omega
        · have HE : Hid (keepUp p (xs.take (k + 1)) = keepUp p (xs.take k) ++ [z]) := Lib.hid (by rw [HSZ.out, hp]; simp)
          clear hp HSZ HS
          generalize hX : keepUp p (xs.take k) = X at *
          have HX := Lib.hid hX
          generalize hN : X.length = N at *
          have HN := Lib.hid hN
          unfold OwnInts at hl
          rw [hN] at hl
          have hsz := hbr.size
          clear hX hN
          go_wp2_with (at_builtin; refine wpList_app rfl _ _ 22 rfl w.heap.size 3 (.int .i64 0) 1 8 Try.underlying22 info_int rfl (by decide) _ _ _ rfl (hl.alloc _) (some ⟨wr.heap.size, 0, none⟩) 1 1 [.int .i64 (z)] rfl ?c0 rfl ?c1 ?c2 ?c3 ?c4 ?c5 ?_)
          (case c0 => exact fun h => by cases h); (case c1 => exact CellRow.made wr _ _); (case c2 => intro u hu; simp at hu; subst hu; rfl); (case c3 => unfold maxLen; omega); (case c4 => omega); (case c5 => simp; omega)
          intro v' w1 hown1 hgr
          obtain ⟨hnew, hbw⟩ := OwnInts.push (w := w) (wr := wr) HN.out hbr hl _ hown1 hgr
          clear hown1 hgr hl
          go_wp2_with fail
          go_roundw
          case rel => exact ⟨k + 1, by omega, by go_num, by rw [HE.out]; exact hnew, hbw⟩
          case measure => simp [intOf]; omega
    · have hkn : k = len := by omega
      subst hkn
      have hX1 : (keepUp p xs).length ≤ k := by have := keepUp_len p xs; rw [HL.out] at this; exact this
      have HK := Lib.hid (keepUp_norm p xs)
      have HKL := Lib.hid (keepUp_lit p xs)
      rw [HT.out] at hl
      have HO := Lib.hid hl
      have hsz := hbr.size
      clear hl
      generalize keepUp p xs = X at *
      have eg : ∀ args w, (callFunc 37 args).run Try.prog w = .ok (.enter 37 args) w := enters_of Try.func37 (by kernel_rfl) rfl
      have hcon := srt_sort 37 #[] lindex wr HO.out hsz (by omega) eg (fun x y W _ _ => (cla_cmp x y W).mono fun e w' h => ⟨h.1, 0, h.2.symm⟩)
      have HCON := Lib.hid hcon
      clear hcon eg
      go_wp2_with fail
      refine HCON.out.mono ?_
      rintro e w2 ⟨d, rfl, hp, hs, hown, hz2, hbs⟩
      have hb2 := hbs w hbr (Nat.le_refl _)
      have hcn : compactUpTo d d.size = cNorm (xs.filter p) := by rw [← HK.out]; exact compact_norm hp hs HKL.out
      have hcon2 := srt_compact w2 hown (by omega)
      rw [hcn] at hcon2
      have HCON2 := Lib.hid hcon2
      clear hcon2 hcn hown hp hs hbs
      go_wp2_with fail
      refine HCON2.out.mono ?_
      rintro e w3 ⟨v3, rfl, hown3, hz3, hbs3⟩
      have hb3 := hbs3 w hb2 (Nat.le_refl _)
      go_wp2_with fail
      go_ret
      exact ⟨v3, rfl, hown3, hb3⟩
end Go.Proofs.Ytcifneenbdibeaa
