import Derived.Test.YthfjnlapelkbnaaDoorMgAV
import Derived.Test.YthfjnlapelkbnaaDoorMgAT
import Derived.Lib.MapLaws
import Derived.Lib.OthersKept
import Derived.Laws.RangeAny
import Derived.Lib.Hide
import Derived.Shelf.RegionOpenPlain
import Derived.Lib.Walk
import Derived.WalkKit
import Derived.Test.YthfjnlapelkbnaaDoorMgAR
import Derived.Scope
namespace Go.Proofs.YthfjnlapelkbnaaDoor
open Go.RowKit Go.Shelf Go.Lib Go.Sort
set_option linter.unusedVariables false
set_option linter.unusedSimpArgs false
def blk4 : ByteArray := ⟨#[32, 9, 13, 10]⟩
set_option maxRecDepth 100000 in
set_option maxHeartbeats 1000000 in
theorem valid_rune (c : Int) (h0 : 128 ≤ c) (h1 : c ≤ 1114111) (h2 : c < 55296 ∨ 57343 < c) (w : World) : Calls Tryd.prog 53 #[.int .i32 c] w fun e w' => e = .returned (.bool true) ∧ w' = w := by
  have t1 : (0 : Int) ≤ c := by omega
  by_cases h3 : c < 55296
  · go_enter Tryd.func53, Tryd.ntmps53
    go_wp2
    go_ret
    exact ⟨rfl, rfl⟩
  · have t2 : (57343 : Int) < c := by omega
    go_enter Tryd.func53, Tryd.ntmps53
    go_wp2
    go_ret
    exact ⟨rfl, rfl⟩
theorem enc_hi (c : Int) (h0 : 128 ≤ c) (h1 : c ≤ 1114111) (h2 : c < 55296 ∨ 57343 < c) : ∃ x : UInt8, 128 ≤ x.toNat ∧ ((∃ a, Utf8.encode c = ⟨#[a, x]⟩) ∨ (∃ a b, Utf8.encode c = ⟨#[a, b, x]⟩) ∨ ∃ a b d, Utf8.encode c = ⟨#[a, b, d, x]⟩) := by
  have hv : Utf8.valid c = true := by unfold Utf8.valid; simp; omega
  have hb : 128 ≤ (UInt8.ofNat (128 + c.toNat % 64)).toNat := by
    rw [UInt8.toNat_ofNat']; omega
  unfold Utf8.encode
  rw [hv, if_pos rfl]
  dsimp only
  have e1 : ¬ c.toNat < 128 := by omega
  rw [if_neg e1]
  refine ⟨UInt8.ofNat (128 + c.toNat % 64), hb, ?_⟩
  by_cases e2 : c.toNat < 2048
  · rw [if_pos e2]; exact .inl ⟨_, rfl⟩
  · rw [if_neg e2]
    by_cases e3 : c.toNat < 65536
    · rw [if_pos e3]; exact .inr (.inl ⟨_, _, rfl⟩)
    · rw [if_neg e3]; exact .inr (.inr ⟨_, _, _, rfl⟩)
theorem ixb_none {l : List UInt8} {x : UInt8} (h : ∀ b ∈ l, b ≠ x) : indexByte l x = -1 := by
  induction l with
  | nil => rfl
  | cons b l ih =>
    have hb : (b == x) = false := by simpa using h b (by simp)
    rw [indexByte, hb]
    have := ih fun c hc => h c (by simp [hc])
    rw [this]; rfl
end Go.Proofs.YthfjnlapelkbnaaDoor
namespace Go.Proofs.YthfjnlapelkbnaaDoor
open Go.RowKit
set_option linter.unusedVariables false
set_option linter.unusedSimpArgs false
section
variable {P : Program} {tt : TT} {m : Nat} {Q : Exit → XS → Prop} {fr : List AV} {H : AHeap} {M : MS} {l : List Oper}
theorem RI.congr {fz : Nat → Option Obj} {get get' : Nat → IV} {len sz : Nat} {v : Value} (h : RI fz (.sl get len sz) v) (he : ∀ j, j < len * sz → get j = get' j) : RI fz (.sl get' len sz) v := by
  cases h with
  | nil _ _ cap hc => exact .nil _ _ cap hc
  | empty _ _ a cap hc => exact .empty _ _ a cap hc
  | sl _ _ _ b off cap cs t fr vs h1 h2 h3 h4 h5 => exact .sl _ _ _ b off cap cs t fr vs h1 h2 (fun j hj => by rw [← he j hj]; exact h3 j hj) h4 h5
theorem RA.congr {n : Nat} {G : Gh} {get get' : Nat → IV} {len sz : Nat} {v : Value} (h : RA n G (.iv (.sl get len sz)) v) (he : ∀ j, j < len * sz → get j = get' j) : RA n G (.iv (.sl get' len sz)) v := by
  cases h with
  | iv _ _ hr => exact .iv _ _ (hr.congr he)
theorem SF.args {f : FuncId} {as1 as2 : List AV} {K : AV → AHeap → Prop} (h : SF P f as2 H K) (ha : ∀ G vs, RL H.length G as1 vs → RL H.length G as2 vs) : SF P f as1 H K :=
  ⟨h.callable, fun G w vs hi hr => h.calls G w vs hi (ha G vs hr)⟩
def intOf : AV → Int
  | .iv (.lit (.int _ x)) => x
  | _ => 0
end
end Go.Proofs.YthfjnlapelkbnaaDoor
namespace Go.Proofs.YthfjnlapelkbnaaDoor
open Go.RowKit
set_option linter.unusedVariables false
variable {P : Program} {m : Nat} {Q : Exit → XS → Prop}
theorem SF.lit {f : FuncId} {args : List AV} {H : AHeap} {x : AV} {obj : AObj} {y : IV} (h : SF P f args H fun r H' => r = x ∧ H' = H ++ [some obj]) (hs : SnapC (onlyH [H.length] (H ++ [some obj])) x y) : SF P f args H fun r H' => r = .iv y ∧ H' = H :=
  ⟨h.callable, fun G w vs hi hr => (h.calls G w vs hi hr).mono fun e w' ⟨v, r, G', H', h1, h2, h3, h4, h5, e1, e2⟩ => by
    subst e1 e2
    obtain ⟨G2, k1, k2, k3⟩ := lit_step hi h2 h4 h5 hs
    exact ⟨v, .iv y, G2, H, h1, k1, Nat.le_refl _, k2, k3, rfl, rfl⟩⟩
def noGotoX (Q : Exit → XS → Prop) : Exit → XS → Prop
  | .goto _, _ => False
  | e, s => Q e s
theorem AX_scope {c : Code} {s : XS} (h : AX P m c (noGotoX Q) s) : AX P m (.scope c) Q s := fun G0 G a w hm hl hM hr =>
  wp_scope_straight (wp_mono (h G0 G a w hm hl hM hr) fun e a w ⟨G', s', h1, h2, h3, h4, h5⟩ => by
    cases e with
    | goto l => exact h5.elim
    | normal => exact ⟨G', s', h1, h2, h3, h4, h5⟩
    | exit id => exact ⟨G', s', h1, h2, h3, h4, h5⟩
    | ret => exact ⟨G', s', h1, h2, h3, h4, h5⟩
    | panic ch => exact ⟨G', s', h1, h2, h3, h4, h5⟩
    | outgrown => exact ⟨G', s', h1, h2, h3, h4, h5⟩)
end Go.Proofs.YthfjnlapelkbnaaDoor
