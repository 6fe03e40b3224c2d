import Derived.Test.YtcjnikkmjhagmaaGreatDoorMgAL
import Derived.Shelf.Strconv.Itoa3
import Derived.Test.YtcjnikkmjhagmaaGreatDoorMgAI
import Derived.Test.YtcjnikkmjhagmaaGreatDoorMgAM
import Derived.Test.YtcjnikkmjhagmaaGreatDoorMgAO
import Derived.Test.YtcjnikkmjhagmaaGreatDoorMgAK
namespace Go.Proofs.YtcjnikkmjhagmaaGreatDoor
open Go.RowKit
set_option linter.unusedVariables false
set_option linter.unusedSimpArgs false
section
variable {P : Program} {tt : TT} {m : Nat} {Q : Exit → XS → Prop} {fr : List AV} {H : AHeap} {M : MS} {l : List Oper} {o : Oper} {n0 : Nat} {us : List Nat} {H0 Hc : AHeap} {K : List AV → AHeap → Prop} {al : List Kd}
theorem ADR_free0 (hT : TyOK P tt) (hr : roOp o.op = true) (hw : wantedS fr o = some true) (h : match aop tt ⟨fr, []⟩ o with | some (x, _) => ADR P n0 us H0 K Hc (l, al, putL fr o.dst x) | none => False) : ADR P n0 us H0 K Hc (o :: l, .free :: al, fr) := fun n hn => by
  cases hx : aop tt ⟨fr, []⟩ o with
  | none => rw [hx] at h; exact h.elim
  | some p =>
    obtain ⟨x, H'⟩ := p
    rw [hx] at h
    have := aop_ro hr hx
    subst this
    exact ⟨x, Hc, none, .free x (wanted_iff hn hw) fun H => does_aop hT (aop_mono (H0 := []) ⟨Nat.zero_le _, fun o x e => by simp at e⟩ hr hx), h n (by show (putL _ _ _).length ≤ n; rw [putL_len]; exact hn)⟩
def kdOf2 (c : Bool) (op : Op) : Kd := match op with
  | .load _ _ => .free
  | op => kdOf c op
def alD2 (ops : List Oper) : List Kd := ops.map fun o => kdOf2 (ops.any fun o => isApp o.op) o.op
end
end Go.Proofs.YtcjnikkmjhagmaaGreatDoor
namespace Go.Proofs.YtcjnikkmjhagmaaGreatDoor
open Go.RowKit Go.Shelf Go.Lib Go.Sort
set_option linter.unusedVariables false
def itoaL_ren : Go.Shelf.Ren := ⟨fun | 171 => 50 | 243 => 100 | 246 => 121 | 283 => 135 | 284 => 136 | 285 => 137 | 286 => 138 | 129 => 143 | 317 => 142 | 318 => 144 | 319 => 145 | 320 => 146 | 337 => 157 | 338 => 158 | n => n, fun | 3 => 3 | 9 => 9 | 2 => 2 | 4 => 4 | 171 => 163 | 0 => 0 | 53 => 164 | 37 => 135 | 5 => 5 | 173 => 167 | 212 => 174 | 51 => 175 | 20 => 20 | 213 => 176 | 46 => 172 | 232 => 192 | 233 => 193 | n => n, fun | 17 => 0 | 18 => 1 | 19 => 2 | n => n⟩
theorem itoaL : Go.Proofs.Lays.n171 Tryz.prog itoaL_ren := {
  mixed := by kernel_rfl
  f129 := Tryz.func143.trans (congrArg some (by kernel_rfl))
  f171 := Tryz.func50.trans (congrArg some (by kernel_rfl))
  f243 := Tryz.func100.trans (congrArg some (by kernel_rfl))
  f246 := Tryz.func121.trans (congrArg some (by kernel_rfl))
  f283 := Tryz.func135.trans (congrArg some (by kernel_rfl))
  f284 := Tryz.func136.trans (congrArg some (by kernel_rfl))
  f285 := Tryz.func137.trans (congrArg some (by kernel_rfl))
  f286 := Tryz.func138.trans (congrArg some (by kernel_rfl))
  f317 := Tryz.func142.trans (congrArg some (by kernel_rfl))
  f318 := Tryz.func144.trans (congrArg some (by kernel_rfl))
  f319 := Tryz.func145.trans (congrArg some (by kernel_rfl))
  f320 := Tryz.func146.trans (congrArg some (by kernel_rfl))
  f337 := Tryz.func157.trans (congrArg some (by kernel_rfl))
  f338 := Tryz.func158.trans (congrArg some (by kernel_rfl))
  t0 := Tryz.underlying0
  a0 := Tryz.isAgg0
  z0 := Tryz.sizeOf0
  v0 := Tryz.zeroValue0
  t2 := Tryz.underlying2
  a2 := Tryz.isAgg2
  z2 := Tryz.sizeOf2
  v2 := Tryz.zeroValue2
  t3 := Tryz.underlying3
  a3 := Tryz.isAgg3
  z3 := Tryz.sizeOf3
  v3 := Tryz.zeroValue3
  t4 := Tryz.underlying4
  a4 := Tryz.isAgg4
  z4 := Tryz.sizeOf4
  v4 := Tryz.zeroValue4
  t5 := Tryz.underlying5
  a5 := Tryz.isAgg5
  z5 := Tryz.sizeOf5
  v5 := Tryz.zeroValue5
  t9 := Tryz.underlying9
  a9 := Tryz.isAgg9
  z9 := Tryz.sizeOf9
  v9 := Tryz.zeroValue9
  t20 := Tryz.underlying20
  a20 := Tryz.isAgg20
  z20 := Tryz.sizeOf20
  v20 := Tryz.zeroValue20
  t37 := Tryz.underlying135
  a37 := Tryz.isAgg135
  z37 := Tryz.sizeOf135
  v37 := Tryz.zeroValue135
  t46 := Tryz.underlying172
  a46 := Tryz.isAgg172
  z46 := Tryz.sizeOf172
  v46 := Tryz.zeroValue172
  t51 := Tryz.underlying175
  a51 := Tryz.isAgg175
  z51 := Tryz.sizeOf175
  v51 := Tryz.zeroValue175
  t53 := Tryz.underlying164
  a53 := Tryz.isAgg164
  z53 := Tryz.sizeOf164
  v53 := Tryz.zeroValue164
  t171 := Tryz.underlying163
  a171 := Tryz.isAgg163
  z171 := Tryz.sizeOf163
  v171 := Tryz.zeroValue163
  t173 := Tryz.underlying167
  a173 := Tryz.isAgg167
  z173 := Tryz.sizeOf167
  v173 := Tryz.zeroValue167
  t212 := Tryz.underlying174
  a212 := Tryz.isAgg174
  z212 := Tryz.sizeOf174
  v212 := Tryz.zeroValue174
  t213 := Tryz.underlying176
  a213 := Tryz.isAgg176
  z213 := Tryz.sizeOf176
  t232 := Tryz.underlying192
  a232 := Tryz.isAgg192
  z232 := Tryz.sizeOf192
  v232 := Tryz.zeroValue192
  t233 := Tryz.underlying193
  a233 := Tryz.isAgg193
  z233 := Tryz.sizeOf193
  v233 := Tryz.zeroValue193
  g17 := by kernel_rfl
  g18 := by kernel_rfl
  g19 := by kernel_rfl }
def itoaS (i : Int) : ByteArray := ⟨(Lib.decDigits i.toNat).toArray⟩
theorem pf_Itoa (i : Int) (h0 : 0 ≤ i) (h1 : i < 100) : PF Tryz.prog 50 [lt (.int .i64 i)] fun r H' => r = lt (.string (itoaS i)) ∧ H' = [] :=
  PF_of_walk ⟨_, Tryz.func50, by kernel_rfl, rfl⟩ fun G w vs hi hr => by
    obtain ⟨v1, us, rfl, r1, hr⟩ := hr.uncons
    rw [hr.unnil, r1.lit_inv]
    obtain ⟨n, rfl⟩ : ∃ n : Nat, i = n := ⟨i.toNat, by omega⟩
    have h := Any.strconv_Itoa_small itoaL n (by omega) w
    refine (show Calls Tryz.prog 50 #[.int .i64 (n : Int)] w _ from h).mono ?_
    rintro e w' ⟨rfl, rfl⟩
    exact ⟨rfl, Below.refl _ _⟩
theorem dec_len : ∀ i : Fin 100, (Lib.decDigits i.val).length ≤ 2 := by decide +kernel
theorem itoaS_size {i : Int} (h0 : 0 ≤ i) (h1 : i < 100) : (itoaS i).size ≤ 2 := by
  have := dec_len ⟨i.toNat, by omega⟩
  show (Lib.decDigits i.toNat).toArray.size ≤ 2
  simpa using this
end Go.Proofs.YtcjnikkmjhagmaaGreatDoor
namespace Go.Proofs.YtcjnikkmjhagmaaGreatDoor
variable {P : Program} {m : Nat} {Q : Exit → XS → Prop}
theorem Inv.recell {G : Gh} {H : AHeap} {w : World} (h : Inv G H w) {o : Nat} {x : AObj} (ho : H[o]? = some (some x)) (hne : x.cells ≠ []) (xs : List AV) (hl : xs.length = x.cells.length) (h1 : xs.all AV.one = true) (hx : ∀ vs, RL H.length G x.cells vs → RL H.length G xs vs) : Inv G (H.set o (some ⟨x.t, xs⟩)) w := by
  have holt : o < H.length := (List.getElem?_eq_some_iff.1 ho).1
  have hlen : (H.set o (some ⟨x.t, xs⟩)).length = H.length := List.length_set
  have back : ∀ q z, (H.set o (some ⟨x.t, xs⟩))[q]? = some (some z) → ∃ z', H[q]? = some (some z') := fun q z hq => by
    by_cases hq2 : q = o
    · subst hq2; exact ⟨x, ho⟩
    · rw [List.getElem?_set_ne (Ne.symm hq2)] at hq; exact ⟨z, hq⟩
  refine ⟨h.os, h.tape, h.output, h.fz, h.kp, fun q hq => by rw [hlen]; exact h.dom q hq, fun q z e => by obtain ⟨z', hz'⟩ := back q z e; exact h.live q z' hz', fun o' y e => ?_, fun o1 o2 y y' e e' hne' => by
    obtain ⟨z, hz⟩ := back o1 y e
    obtain ⟨z', hz'⟩ := back o2 y' e'
    exact h.inj o1 o2 z z' hz hz' hne'⟩
  rw [hlen]
  by_cases hoo : o' = o
  · subst hoo
    rw [List.getElem?_set_self holt] at e
    simp only [Option.some.injEq] at e; subst e
    obtain ⟨k0, cs, k1, k2, k3, k4, k5, k6⟩ := h.real ho hne
    exact .inr ⟨k0, cs, k1, k2, by rw [hl]; exact hx _ k3, h1, k5, k6⟩
  · rw [List.getElem?_set_ne (Ne.symm hoo)] at e
    exact h.obj o' y e
theorem Leads.cellNil {s : AS} {S : AS → Prop} (o q t sz : Nat) (y : AObj) (ho : s.H[o]? = some (some ⟨t, [lt (.slice none 0 0)]⟩)) (hq : s.H[q]? = some (some y)) (h : S ⟨s.fr, s.H.set o (some ⟨t, [.osl q 0 0 sz]⟩)⟩) : Leads m s S := fun G a w hm hr => by
  refine ⟨G, _, Gh.leb.refl _ _, by show m ≤ (s.H.set _ _).length; rw [List.length_set]; exact hm, ⟨hr.defers, ?_, ?_⟩, h⟩
  · show RL (s.H.set _ _).length _ _ _
    rw [List.length_set]; exact hr.fr
  · refine hr.inv.recell ho (by simp) [.osl q 0 0 sz] rfl rfl fun vs hv => ?_
    obtain ⟨v, us, rfl, h1, h2⟩ := hv.uncons
    rw [h2.unnil]
    have := h1.lit_inv; subst this
    exact RL.cons (.onil q 0 sz (hr.inv.live q y hq)) (RL.nil _ _)
theorem AX_cellNil {fr : List AV} {H : AHeap} {M : MS} {c : Code} (o q t sz : Nat) (y : AObj) (ho : H[o]? = some (some ⟨t, [lt (.slice none 0 0)]⟩)) (hq : H[q]? = some (some y)) (h : AX P m c Q ⟨fr, H.set o (some ⟨t, [.osl q 0 0 sz]⟩), M⟩) : AX P m c Q ⟨fr, H, M⟩ :=
  AX_lead (S := fun s1 => s1 = ⟨fr, H.set o (some ⟨t, [.osl q 0 0 sz]⟩), M⟩) (.of (.cellNil o q t sz y ho hq rfl)) fun s' e => by rw [e]; exact h
end Go.Proofs.YtcjnikkmjhagmaaGreatDoor
