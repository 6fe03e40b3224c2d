/- The contracts of states.Clauses and of its reference. -/
import Derived.Test.YthfcbjfeepindaaStaS
import Derived.Test.YthfcbjfeepindaaOwn3
import Derived.Test.YthfcbjfeepindaaApp
namespace Go.Proofs.Ythfcbjfeepindaa
open Go.RowKit
set_option linter.unusedVariables false
set_option linter.unusedSimpArgs false

/-- The clauses of one place. -/
def stPart (o s : Int) (a : Nat) : List (List Int) := stV o s a :: most wneg (stV o s a)
def stUp (o s : Int) (k : Nat) : List (List Int) := (List.range k).flatMap (stPart o s)
def stC (o s init : Int) : List (List Int) := [nVar o s 3 0 init] :: stUp o s (o.toNat + 1)
theorem stUp_succ (o s : Int) (k : Nat) : stUp o s (k + 1) = stUp o s k ++ stPart o s k := by unfold stUp; rw [List.range_succ, List.flatMap_append]; simp
theorem stPart_len (o s : Int) (a : Nat) (h : s ≤ 32) : (stPart o s a).length ≤ 4097 := by
  have := most_len wneg (stV o s a) (by rw [stV_length]; omega)
  unfold stPart; rw [List.length_cons]; omega
theorem stUp_len (o s : Int) (k : Nat) (h : s ≤ 32) : (stUp o s k).length ≤ k * 4097 := by
  induction k with
  | zero => simp [stUp]
  | succ k ih => have := stPart_len o s k h; rw [stUp_succ, List.length_append, Nat.add_mul]; omega

def StPartPost (o s : Int) (a : Nat) (w : World) (e : Ending) (w' : World) : Prop := ∃ v, e = .returned (.tuple #[v, .bool true]) ∧ RowsOf w' 0 v (stPart o s a) ∧ Below w.heap.size w w'

theorem sta_clauses1 (n m a : Nat) (hok : nOk n m) (b1 : Nat) (w : World) (c0 : w.cell? ⟨b1, 0, none⟩ = some (.int .i64 n)) (c1 : w.cell? ⟨b1, 1, none⟩ = some (.int .i64 m)) :
    Calls Try.prog 95 #[.int .i64 a, .pointer (some ⟨b1, 0, none⟩)] w (StPartPost n m a w) := by
  have hm32 : m ≤ 32 := by unfold nOk at hok; omega
  have HOK := Lib.hid hok; clear hok
  go_enter Try.func95, Try.ntmps95
  go_wp2_with fail
  refine (sta_at n m a HOK.out _).mono ?_
  rintro e w1 ⟨v, rfl, hv, hb1⟩
  have hrow : RowOf w1 0 v (stV n m a) := hv.row
  obtain ⟨va, vl, vc, rfl, hr1, hr2, hr3⟩ := hrow.ints
  have hvl : vl = m := by rw [← hr3.1, stV_length, Int.toNat_natCast]
  subst hvl
  have hlt : (stV n vl a).length = vl := hr3.1
  have HROW := Lib.hid hrow
  have HR3 := Lib.hid hr3
  clear hv hrow hr3 c0 c1
  have hal : Below w1.heap.size w1 (w1.alloc (.cells #[.slice va vl vc] 41)) := by (repeat (first | (with_reducible exact Below.refl _ _) | (with_reducible assumption) | (with_reducible refine below_alloc ?_ _) | (with_reducible refine below_drew ?_) | (with_reducible refine below_drewN ?_ _) | (with_reducible refine below_step ?_ (by with_reducible assumption))))
  have hblt : (w1.alloc (.cells #[.slice va vl vc] 41)).ownsRow w.heap.size 41 1 (.slice (some ⟨w1.heap.size, 0, none⟩) 1 1) 1 [.slice va vl vc] := own_built w1 w.heap.size 41 [.slice va vl vc] hb1.size (by simp [maxLen])
  generalize hW2 : w1.alloc (.cells #[.slice va vl vc] 41) = W2 at *
  have HW2 := Lib.hid hW2
  clear hW2
  have hal0 := hal.size
  go_wp2_with fail
  rw [HW2.out]
  refine (pla_Most va vl vc _ _ (HR3.out.later hal) hr1 (by omega)).mono ?_
  rintro e w5 ⟨mv, rfl, ⟨ms, hm1, hm2, hm3⟩, hb5⟩
  obtain ⟨ma, mcap, rfl, hmc, hmm, mnil, mrow⟩ := own_cells hm2
  have hml := most_len wneg (stV n vl a) (by rw [hlt]; omega)
  generalize hM : (most wneg (stV n vl a)).length = mlen at *
  have HM := Lib.hid hM; clear hM
  have HM3 := Lib.hid hm3; have HM1 := Lib.hid hm1
  have hbW : Below w.heap.size w w5 := by (repeat (first | (with_reducible exact Below.refl _ _) | (with_reducible assumption) | (with_reducible refine below_alloc ?_ _) | (with_reducible refine below_drew ?_) | (with_reducible refine below_drewN ?_ _) | (with_reducible refine below_step ?_ (by with_reducible assumption))))
  have hown := own_later hblt hb5
  have hz5 := hbW.size
  clear hm3 hm1 hblt hlt
  go_wp2_with (at_builtin; refine wpList_app rfl _ _ 43 rfl w.heap.size 41 (.slice none 0 0) 1 24 Try.underlying43 info_ints rfl (by decide) _ _ _ rfl hown ma mlen mcap ms rfl mnil ?c0 mrow ?c2 ?c3 ?c4 ?c5 ?_)
  case c0 => rw [HM1.out]; omega
  case c2 => exact rows_oneCell HM3.out
  case c3 => unfold maxLen; omega
  case c4 => omega
  case c5 => omega
  intro v6 w6 hown6 hgr6
  have hold : ∀ i u, [Value.slice va vl vc][i]? = some u → RowOf w5 0 u (([stV n vl a] : List (List Int)).getD i []) := by
    intro i u hi
    cases i with
    | zero => simp at hi; subst hi; exact (HROW.out.later hal).later hb5
    | succ i => simp at hi
  obtain ⟨hnew6, hbw6⟩ := OwnRows.cat (w := w) (C := 0) (Nat.zero_le _) (show ([stV n vl a] : List (List Int)).length = 1 from rfl) HM.out hbW (show [Value.slice va vl vc].length = 1 from rfl) hown hold HM1.out HM3.out hown6 hgr6
  have HN := Lib.hid hnew6.rowsOf
  clear hown6 hgr6 hown mrow hm2 hnew6 hold
  go_wp2_with fail
  go_ret2
  exact ⟨_, rfl, HN.out, hbw6⟩

theorem info_rows : (Try.prog.info? 43).map (fun i => (i.zero, i.size, i.bytes)) = some (some (.slice none 0 0), 1, 24) := by kernel_rfl

def GatRAt (f : Nat → List (List Int)) (k : Nat) (w wr : World) (v : Value) : Prop := OwnRows3 wr w.heap.size 0 v ((List.range k).map f) ∧ Below w.heap.size w wr
def GatRPost (f : Nat → List (List Int)) (n : Nat) (w : World) (e : Ending) (w' : World) : Prop := ∃ v, e = .returned (.tuple #[v, .bool true]) ∧ GatRAt f n w w' v

set_option maxHeartbeats 1000000 in
theorem sta_gather_rows (cap : Array Value) (n : Nat) (f : Nat → List (List Int)) (w : World) (hn : n ≤ 100)
    (hcall : ∀ i wr, i < n → Below w.heap.size w wr → Calls Try.prog 95 (#[.int .i64 i] ++ cap) wr fun e w' => ∃ v, e = .returned (.tuple #[v, .bool true]) ∧ RowsOf w' 0 v (f i) ∧ Below wr.heap.size wr w') :
    Calls Try.prog 94 #[.int .i64 n, .func (.func 95) #[] cap] w (GatRPost f n w) := by
  have HCALL := Lib.hid hcall; clear hcall
  go_enter Try.func94, Try.ntmps94
  go_wp2_with fail
  go_loopw [6, 7, 8, 9, 11] (fun v a b c i wr => ∃ k : Nat, k ≤ n ∧ i = .int .i64 k ∧ GatRAt f k w wr v) (fun _ _ _ _ i _ => n - (intOf i).toNat)
  case atStart => exact ⟨0, Nat.zero_le _, rfl, OwnRows3.nil _ _ _, Below.refl _ _⟩
  case round =>
    obtain ⟨k, hkn, rfl, hat⟩ := hrel
    have HAT := Lib.hid hat; clear hat
    by_cases hlt : k < n
    · go_wp2_with fail
      refine (HCALL.out k _ hlt HAT.out.2).mono ?_
      rintro e w2 ⟨x, rfl, hx, hb2⟩
      have hbo : Below w.heap.size w w2 := by
        have h0 := HAT.out.2
        (repeat (first | (with_reducible exact Below.refl _ _) | (with_reducible assumption) | (with_reducible refine below_alloc ?_ _) | (with_reducible refine below_drew ?_) | (with_reducible refine below_drewN ?_ _) | (with_reducible refine below_step ?_ (by with_reducible assumption))))
      obtain ⟨xa, xl, xc, rfl⟩ : ∃ xa xl xc, x = .slice xa xl xc := by
        obtain ⟨xa, xc, xs, hxv, _⟩ := id hx
        exact ⟨_, _, _, hxv⟩
      obtain ⟨vs, hl1, hl2, hl3⟩ := HAT.out.1.later hb2
      have hlen : ((List.range k).map f).length = k := by simp
      have HLN := Lib.hid hlen
      rw [hlen] at hl1 hl2
      clear hlen
      generalize hxs : ((List.range k).map f) = xss at *
      have HXS := Lib.hid hxs; clear hxs
      have HL1 := Lib.hid hl1; have HL3 := Lib.hid hl3; have HX := Lib.hid hx
      clear hl1 hl3 hx
      have hsz := hbo.size
      go_wp2_with (at_builtin; refine wpList_app rfl _ _ 119 rfl w.heap.size 43 (.slice none 0 0) 1 24 Try.underlying119 info_rows rfl (by decide) _ _ _ rfl (hl2.alloc _) (some ⟨w2.heap.size, 0, none⟩) 1 1 [.slice xa xl xc] rfl ?c0 rfl ?c1 ?c2 ?c3 ?c4 ?c5 ?_)
      case c0 => exact fun h => by cases h
      case c1 => exact CellRow.made w2 _ _
      case c2 => intro u hu; simp at hu; subst hu; rfl
      case c3 => unfold maxLen; omega
      case c4 => omega
      case c5 => simp; omega
      intro v' w1 hown1 hgr
      obtain ⟨hnew, hbw⟩ := OwnRows3.pushv (Nat.zero_le _) HLN.out hbo HL1.out hl2 HL3.out HX.out _ hown1 hgr
      have hnew2 : OwnRows3 w1 w.heap.size 0 v' ((List.range (k + 1)).map f) := by
        rw [List.range_succ, List.map_append, HXS.out]; exact hnew
      have HN2 := Lib.hid (show GatRAt f (k + 1) w w1 v' from ⟨hnew2, hbw⟩)
      clear hnew hnew2 hown1 hgr hl2
      go_wp2_with fail
      go_roundw
      case rel => exact ⟨k + 1, by omega, by go_num, HN2.out⟩
      case measure => simp [intOf]; omega
    · have hkc : k = n := by omega
      subst hkc
      go_wp2_with fail
      go_ret2
      exact ⟨_, rfl, HAT.out⟩

/-- Rows in a list that is full or may be appended to. -/
def OwnRowsF (w : World) (B : Nat) (v : Value) (xss : List (List Int)) : Prop := ∃ (r : Option Nat) (vs : List Value), vs.length = xss.length ∧ OwnFull w B 41 v xss.length vs r ∧ (∀ g, r = some g → B ≤ g) ∧ ∀ i u, vs[i]? = some u → RowOf w 0 u (xss.getD i [])
theorem OwnRows.toF {w : World} {B : Nat} {v : Value} {xss : List (List Int)} (h : OwnRows w B 0 v xss) : OwnRowsF w B v xss := by
  obtain ⟨vs, h1, h2, h3⟩ := h
  exact ⟨v.ownBlock, vs, h1, Or.inl ⟨h2, rfl⟩, fun g hg => (h2.lt g hg).1, h3⟩
theorem OwnRows.appT {w w1 : World} {B : Nat} {v' : Value} {xss yss : List (List Int)} {vs us : List Value} (h1 : vs.length = xss.length) (h3 : ∀ i u, vs[i]? = some u → RowOf w 0 u (xss.getD i [])) (k1 : us.length = yss.length) (k3 : ∀ i u, us[i]? = some u → RowOf w 0 u (yss.getD i []))
    (hown : w1.ownsRow B 41 1 v' (xss.length + yss.length) (vs ++ us)) (hg : GrownT w w1 B 41) : OwnRows w1 B 0 v' (xss ++ yss) := by
  refine ⟨vs ++ us, by simp [h1, k1], by simpa using hown, fun i y hi => ?_⟩
  refine RowOf.grownT ?_ (Nat.zero_le _) (by decide) hg
  by_cases hlt : i < vs.length
  · rw [List.getElem?_append_left hlt] at hi
    have := h3 i y hi
    rwa [show (xss ++ yss).getD i [] = xss.getD i [] by simp [List.getD, List.getElem?_append_left (show i < xss.length by omega)]]
  · rw [List.getElem?_append_right (by omega)] at hi
    have := k3 _ y hi
    rwa [show (xss ++ yss).getD i [] = yss.getD (i - vs.length) [] by simp [List.getD, List.getElem?_append_right (show xss.length ≤ i by omega), h1]]

def stCl (o s init : Int) : List (List Int) := if nOk o s ∧ 0 ≤ init ∧ init < s then stC o s init else []
def StCPost (o s init : Int) (w : World) (e : Ending) (w' : World) : Prop := ∃ v, e = .returned v ∧ OwnRows w' w.heap.size 0 v (stCl o s init) ∧ Below w.heap.size w w'
theorem StCPost.no {o s init : Int} {w w' : World} {e : Ending} (h : ¬ (nOk o s ∧ 0 ≤ init ∧ init < s)) (he : e = .returned (.slice none 0 0)) (hb : Below w.heap.size w w') : StCPost o s init w e w' :=
  ⟨_, he, by unfold stCl; rw [if_neg h]; exact OwnRows.nil _ _ _, hb⟩
/-- What lies in out behind so many rounds. -/
def StCAt (n m q k : Nat) (wL wr : World) (v : Value) : Prop := OwnRowsF wr wL.heap.size v ([nVar n m 3 0 q] :: stUp n m k) ∧ (0 < k → OwnRows wr wL.heap.size 0 v ([nVar n m 3 0 q] :: stUp n m k)) ∧ Below wL.heap.size wL wr

set_option maxHeartbeats 1000000 in
theorem sta_Clauses (o s init : Int) (w : World) : Calls Try.prog 58 #[.agg #[.int .i64 o, .int .i64 s], .int .i64 init] w (StCPost o s init w) := by
  have hb1 : Below w.heap.size w (w.alloc (.cells #[.int .i64 o, .int .i64 s] 23)) := by (repeat (first | (with_reducible exact Below.refl _ _) | (with_reducible assumption) | (with_reducible refine below_alloc ?_ _) | (with_reducible refine below_drew ?_) | (with_reducible refine below_drewN ?_ _) | (with_reducible refine below_step ?_ (by with_reducible assumption))))
  have hs1 := Blk.made w #[.int .i64 o, .int .i64 s] 23
  generalize hw1 : w.alloc (.cells #[.int .i64 o, .int .i64 s] 23) = W1 at hb1 hs1
  have HW1 := Lib.hid hw1; clear hw1
  have c0 := hs1.cell 0; have c1 := hs1.cell 1
  simp at c0 c1
  by_cases hok : nOk o s
  · obtain ⟨n, rfl⟩ : ∃ n : Nat, o = n := ⟨o.toNat, by have := hok.1; omega⟩
    obtain ⟨m, rfl⟩ : ∃ m : Nat, s = m := ⟨s.toNat, by have := hok.2.2.1; omega⟩
    have hk : (nCheck n m != 0) = false := by rw [nCheck_yes hok]; rfl
    have hn64 : n ≤ 64 ∧ m ≤ 32 := by unfold nOk at hok; omega
    have HOK := Lib.hid hok
    by_cases hin : 0 ≤ init ∧ init < m
    · obtain ⟨q, rfl⟩ : ∃ q : Nat, init = q := ⟨init.toNat, by omega⟩
      have hqm : q < m := by omega
      have hm32 : (m : Int) ≤ 32 := by omega
      have HUL := Lib.hid (fun k => stUp_len n m k hm32)
      have HPL := Lib.hid (fun k => stPart_len n m k hm32)
      have HPP : Hid (∀ k, 0 < (stPart n m k).length) := Lib.hid (fun k => by simp [stPart])
      have HSUC := Lib.hid (stUp_succ n m)
      clear hok hin hs1
      go_enter Try.func58, Try.ntmps58
      go_wp2_with fail
      rw [HW1.out]
      refine (num_Check _ _ _).mono ?_
      rintro e w2 ⟨rfl, hb2⟩
      have d0 := cell_later hb2 c0; have d1 := cell_later hb2 c1
      clear c0 c1
      go_wp2_with fail
      refine (sta_at n m 0 HOK.out _).mono ?_
      rintro e w3 ⟨v, rfl, hv, hb3⟩
      obtain ⟨va, vl, vc, rfl, _, _, hvr⟩ := hv.ints
      have hvl : vl = m := by rw [← hvr.1]; simp
      subst hvl
      obtain ⟨vb, vo, rfl, hvc⟩ := hvr.2.2 (by omega)
      have hvq := hvc q hqm
      rw [show (List.map (fun i : Nat => nVar n vl 3 0 i) (List.range (vl : Int).toNat)).getD q 0 = nVar n vl 3 0 q by simp [List.getD, hqm]] at hvq
      have d0 := cell_later hb3 d0; have d1 := cell_later hb3 d1
      have hqm2 : (q : Int) < vl := by omega
      clear hv hvr hvc
      have hF := OwnFull.of_built (w3.alloc (.cells #[.int .i64 (nVar n vl 3 0 q)] 3)) 0 41 [.slice (some ⟨w3.heap.size, 0, none⟩) 1 1] (by simp [maxLen])
      have hFr : RowOf ((w3.alloc (.cells #[.int .i64 (nVar n vl 3 0 q)] 3)).alloc (.cells #[.slice (some ⟨w3.heap.size, 0, none⟩) 1 1] 41)) 0 (.slice (some ⟨w3.heap.size, 0, none⟩) 1 1) [nVar n vl 3 0 q] := (RowOf.made w3 0 [nVar n vl 3 0 q] (by simp [maxLen])).later (below_alloc (Below.refl _ _) _)
      have hbx : Below w3.heap.size w3 ((w3.alloc (.cells #[.int .i64 (nVar n vl 3 0 q)] 3)).alloc (.cells #[.slice (some ⟨w3.heap.size, 0, none⟩) 1 1] 41)) := by (repeat (first | (with_reducible exact Below.refl _ _) | (with_reducible assumption) | (with_reducible refine below_alloc ?_ _) | (with_reducible refine below_drew ?_) | (with_reducible refine below_drewN ?_ _) | (with_reducible refine below_step ?_ (by with_reducible assumption))))
      have e0 := cell_later hbx d0; have e1 := cell_later hbx d1
      go_wp2_with fail
      generalize hW4 : (w3.alloc (.cells #[.int .i64 (nVar n vl 3 0 q)] 3)).alloc (.cells #[.slice (some ⟨w3.heap.size, 0, none⟩) 1 1] 41) = W4 at *
      clear hW4
      have hcall := fun (i : Nat) (wr : World) (hi : i < n + 1) (hb : Below W4.heap.size W4 wr) => sta_clauses1 n vl i HOK.out w.heap.size wr (cell_later hb e0) (cell_later hb e1)
      have G := sta_gather_rows #[.pointer (some ⟨w.heap.size, 0, none⟩)] (n + 1) (stPart n vl) W4 (by omega) hcall
      rw [show (((n + 1 : Nat)) : Int) = (n : Int) + 1 from by omega] at G
      have HF : Hid (OwnFull W4 0 41 (.slice (some ⟨w3.heap.size + 1, 0, none⟩) 1 1) 1 [.slice (some ⟨w3.heap.size, 0, none⟩) 1 1] none) := Lib.hid (by simpa using hF)
      have HFR := Lib.hid hFr
      have hB4 : Below w.heap.size w W4 := by (repeat (first | (with_reducible exact Below.refl _ _) | (with_reducible assumption) | (with_reducible refine below_alloc ?_ _) | (with_reducible refine below_drew ?_) | (with_reducible refine below_drewN ?_ _) | (with_reducible refine below_step ?_ (by with_reducible assumption))))
      clear hF hFr hcall d0 d1 hvq
      refine G.mono ?_
      rintro e w5 ⟨rv, rfl, hrows, hb5⟩
      have hB5 : Below w.heap.size w w5 := below_step hB4 hb5
      obtain ⟨ra, rc, rfl, _, _, hrat⟩ := hrows.at
      have hrl : (List.map (stPart n vl) (List.range (n + 1))).length = n + 1 := by simp
      have HAT : Hid (∀ i, i < n + 1 → ∃ b off u, ra = some ⟨b, off, none⟩ ∧ w5.cell? ⟨b, off + i, none⟩ = some u ∧ RowsOf w5 0 u (stPart n vl i)) := Lib.hid (fun i hi => by
        obtain ⟨b, off, u, h1, h2, h3⟩ := hrat i (by rw [hrl]; exact hi)
        refine ⟨b, off, u, h1, h2, ?_⟩
        rwa [show (List.map (stPart n vl) (List.range (n + 1))).getD i [] = stPart n vl i by simp [List.getD, hi]] at h3)
      rw [hrl]
      clear hrat hrows hrl G
      have hst : StCAt n vl q 0 w5 w5 (.slice (some ⟨w3.heap.size + 1, 0, none⟩) 1 1) := by
        refine ⟨⟨none, [.slice (some ⟨w3.heap.size, 0, none⟩) 1 1], rfl, ?_, (fun g hg => by cases hg), fun i u hi => ?_⟩, (fun h => by omega), Below.refl _ _⟩
        · have h0 := (HF.out.later hb5)
          rcases h0 with ⟨_, h0⟩ | h0
          · simp [Value.ownBlock] at h0
          · exact Or.inr h0
        · cases i with
          | zero => simp at hi; subst hi; exact HFR.out.later hb5
          | succ i => simp at hi
      have HST := Lib.hid hst
      clear hst e0 e1
      go_wp2_with fail
      go_loopw [5, 9, 40] (fun v x i wr => ∃ k : Nat, k ≤ n + 1 ∧ i = .int .i64 k ∧ StCAt n vl q k w5 wr v) (fun _ _ i _ => n + 1 - (intOf i).toNat)
      case atStart => exact ⟨0, Nat.zero_le _, rfl, HST.out⟩
      case round =>
        obtain ⟨k, hk, rfl, hat⟩ := hrel
        by_cases hlt : k < n + 1
        · have hlt2 : (k : Int) < (n : Int) + 1 := by omega
          obtain ⟨xb, xo, u, rfl, hu, hur⟩ := HAT.out k hlt
          obtain ⟨⟨r, vs, hl1, hl2, hl3, hl4⟩, _, hbr⟩ := hat
          obtain ⟨xa, xc, us, rfl, _, _, hn0, hk1, hcr, hk3⟩ := (hur.later hbr).cells
          have hu2 := cell_later hbr hu
          have hp1 := HPL.out k
          have hp0 := HPP.out k
          have hlen : (([nVar n vl 3 0 q] : List Int) :: stUp n vl k).length ≤ 1000000 := by
            have := HUL.out k
            have h4 : k * 4097 ≤ 64 * 4097 := Nat.mul_le_mul_right _ (by omega)
            rw [List.length_cons]; omega
          have HS : Hid (([nVar n vl 3 0 q] : List Int) :: stUp n vl (k + 1) = ([nVar n vl 3 0 q] :: stUp n vl k) ++ stPart n vl k) := Lib.hid (by rw [HSUC.out]; rfl)
          generalize (([nVar n vl 3 0 q] : List Int) :: stUp n vl k) = X at *
          generalize stPart n vl k = Y at *
          have HL1 := Lib.hid hl1; have HL4 := Lib.hid hl4; have HK1 := Lib.hid hk1; have HK3 := Lib.hid hk3; have HL3 := Lib.hid hl3; have HL2 := Lib.hid hl2; have HCR := Lib.hid hcr
          generalize hXL : X.length = NX at *
          generalize hYL : Y.length = NY at *
          have HXL := Lib.hid hXL; have HYL := Lib.hid hYL
          have hz := hbr.size
          clear hl1 hl4 hk1 hk3 hl3 hl2 hcr hXL hYL hn0 hur hu
          go_wp2_with (at_builtin; refine wpList_appF rfl _ _ 43 rfl w5.heap.size 41 (.slice none 0 0) 24 Try.underlying43 info_ints rfl _ NX vs r rfl HL2.out xa NY xc us rfl hp0 HK1.out HCR.out (rows_oneCell HK3.out) ?c3 ?c4 ?c5 ?_)
          case c3 => unfold maxLen; omega
          case c4 => omega
          case c5 => omega
          intro v' w6 hown6 hgr6 hgt6
          have hnew : OwnRows w6 w5.heap.size 0 v' (X ++ Y) := OwnRows.appT (by rw [HXL.out]; exact HL1.out) HL4.out (by rw [HYL.out]; exact HK1.out) HK3.out (by rw [HXL.out, HYL.out]; exact hown6) hgt6
          have hbw : Below w5.heap.size w5 w6 := hbr.grown hgr6 hbr.size (fun j hj => HL3.out j hj)
          have HN : Hid (StCAt n vl q (k + 1) w5 w6 v') := Lib.hid (by
            unfold StCAt
            rw [HS.out]
            exact ⟨hnew.toF, fun _ => hnew, hbw⟩)
          clear hown6 hgr6 hgt6 hnew
          go_wp2_with fail
          go_roundw
          case rel => exact ⟨k + 1, by omega, by go_num, HN.out⟩
          case measure => simp [intOf]; omega
        · have hkn : k = n + 1 := by omega
          have HKN := Lib.hid hkn; clear hkn
          have HA := Lib.hid hat; clear hat
          have hlt2 : ¬ (k : Int) < (n : Int) + 1 := by omega
          go_wp2_with fail
          go_returns
          have hown := HA.out.2.1 (by omega)
          rw [HKN.out] at hown
          refine ⟨_, rfl, ?_, by have := HA.out.2.2; (repeat (first | (with_reducible exact Below.refl _ _) | (with_reducible assumption) | (with_reducible refine below_alloc ?_ _) | (with_reducible refine below_drew ?_) | (with_reducible refine below_drewN ?_ _) | (with_reducible refine below_step ?_ (by with_reducible assumption))))⟩
          unfold stCl
          rw [if_pos ⟨HOK.out, by omega, by omega⟩]
          exact hown.mono (by have := hB5.size; omega) (Nat.le_refl _)
    · have HNO := Lib.hid hin
      clear hok
      by_cases h0 : init < 0
      · go_enter Try.func58, Try.ntmps58
        go_wp2_with fail
        rw [HW1.out]
        refine (num_Check _ _ _).mono ?_
        rintro e w2 ⟨rfl, hb2⟩
        have d0 := cell_later hb2 c0; have d1 := cell_later hb2 c1
        go_wp2_with fail
        go_returns
        exact StCPost.no (fun h => HNO.out h.2) rfl (by (repeat (first | (with_reducible exact Below.refl _ _) | (with_reducible assumption) | (with_reducible refine below_alloc ?_ _) | (with_reducible refine below_drew ?_) | (with_reducible refine below_drewN ?_ _) | (with_reducible refine below_step ?_ (by with_reducible assumption)))))
      · have h1 : (m : Int) ≤ init := by omega
        clear hin
        go_enter Try.func58, Try.ntmps58
        go_wp2_with fail
        rw [HW1.out]
        refine (num_Check _ _ _).mono ?_
        rintro e w2 ⟨rfl, hb2⟩
        have d0 := cell_later hb2 c0; have d1 := cell_later hb2 c1
        go_wp2_with fail
        go_returns
        exact StCPost.no (fun h => HNO.out h.2) rfl (by (repeat (first | (with_reducible exact Below.refl _ _) | (with_reducible assumption) | (with_reducible refine below_alloc ?_ _) | (with_reducible refine below_drew ?_) | (with_reducible refine below_drewN ?_ _) | (with_reducible refine below_step ?_ (by with_reducible assumption)))))
  · have hk : (nCheck o s != 0) = true := by rw [nCheck_no hok]; rfl
    have HNO := Lib.hid hok
    clear hok
    go_enter Try.func58, Try.ntmps58
    go_wp2_with fail
    rw [HW1.out]
    refine (num_Check _ _ _).mono ?_
    rintro e w2 ⟨rfl, hb2⟩
    have d0 := cell_later hb2 c0; have d1 := cell_later hb2 c1
    go_wp2_with fail
    go_returns
    exact StCPost.no (fun h => HNO.out h.1) rfl (by (repeat (first | (with_reducible exact Below.refl _ _) | (with_reducible assumption) | (with_reducible refine below_alloc ?_ _) | (with_reducible refine below_drew ?_) | (with_reducible refine below_drewN ?_ _) | (with_reducible refine below_step ?_ (by with_reducible assumption)))))
end Go.Proofs.Ythfcbjfeepindaa
