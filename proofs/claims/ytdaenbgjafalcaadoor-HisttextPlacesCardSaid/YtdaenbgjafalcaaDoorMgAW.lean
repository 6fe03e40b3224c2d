import Derived.Test.YtdaenbgjafalcaaDoorMgAI
import Derived.Test.YtdaenbgjafalcaaDoorMgAV
import Derived.Shelf.Strings.Prefix
import Derived.Shelf.Strconv.AtoiAll
import Derived.ScopeJumps
import Derived.Test.YtdaenbgjafalcaaDoorMgAN
import Derived.Test.YtdaenbgjafalcaaDoorMgAK
namespace Go.Proofs.YtdaenbgjafalcaaDoor
open Go.RowKit Go.Shelf Go.Lib Go.Sort
set_option linter.unusedVariables false
set_option linter.unusedSimpArgs false
def trimL_ren : Go.Shelf.Ren := ⟨fun | 101 => 78 | 208 => 86 | 206 => 73 | n => n, fun | 9 => 9 | 4 => 4 | 3 => 3 | n => n, fun | n => n⟩
theorem trimL : Go.Proofs.Lays.n101 Tryd.prog trimL_ren := {
  mixed := by kernel_rfl
  f101 := Tryd.func78.trans (congrArg some (by kernel_rfl))
  f206 := Tryd.func73.trans (congrArg some (by kernel_rfl))
  f208 := Tryd.func86.trans (congrArg some (by kernel_rfl))
  t3 := Tryd.underlying3
  a3 := Tryd.isAgg3
  z3 := Tryd.sizeOf3
  v3 := Tryd.zeroValue3
  t4 := Tryd.underlying4
  a4 := Tryd.isAgg4
  z4 := Tryd.sizeOf4
  v4 := Tryd.zeroValue4
  t9 := Tryd.underlying9
  a9 := Tryd.isAgg9
  z9 := Tryd.sizeOf9
  v9 := Tryd.zeroValue9 }
def atoiL_ren : Go.Shelf.Ren := ⟨fun | 172 => 75 | 244 => 79 | 245 => 80 | 247 => 87 | 279 => 88 | 280 => 89 | 281 => 90 | 282 => 91 | 287 => 97 | 316 => 98 | 171 => 54 | 205 => 99 | 321 => 102 | 322 => 103 | 243 => 70 | 246 => 77 | 283 => 82 | 284 => 83 | 285 => 84 | 286 => 85 | 129 => 93 | 317 => 92 | 318 => 94 | 319 => 95 | 320 => 96 | 337 => 100 | 338 => 101 | n => n, fun | 9 => 9 | 3 => 3 | 75 => 73 | 76 => 74 | 4 => 4 | 5 => 5 | 167 => 138 | 37 => 69 | 0 => 0 | 85 => 139 | 2 => 2 | 168 => 141 | 53 => 133 | 175 => 152 | 46 => 150 | 210 => 156 | 127 => 114 | 145 => 162 | 143 => 160 | 21 => 21 | 171 => 132 | 173 => 136 | 212 => 146 | 51 => 147 | 20 => 20 | 213 => 148 | 232 => 163 | 233 => 164 | 80 => 78 | n => n, fun | 15 => 2 | 16 => 3 | 17 => 1 | 18 => 4 | 19 => 5 | n => n⟩
theorem atoiL : Go.Proofs.LaysC.n172 Tryd.prog atoiL_ren := {
  mixed := by kernel_rfl
  f129 := Tryd.func93.trans (congrArg some (by kernel_rfl))
  f171 := Tryd.func54.trans (congrArg some (by kernel_rfl))
  f172 := Tryd.func75.trans (congrArg some (by kernel_rfl))
  f205 := Tryd.func99.trans (congrArg some (by kernel_rfl))
  f243 := Tryd.func70.trans (congrArg some (by kernel_rfl))
  f244 := Tryd.func79.trans (congrArg some (by kernel_rfl))
  f245 := Tryd.func80.trans (congrArg some (by kernel_rfl))
  f246 := Tryd.func77.trans (congrArg some (by kernel_rfl))
  f247 := Tryd.func87.trans (congrArg some (by kernel_rfl))
  f279 := Tryd.func88.trans (congrArg some (by kernel_rfl))
  f280 := Tryd.func89.trans (congrArg some (by kernel_rfl))
  f281 := Tryd.func90.trans (congrArg some (by kernel_rfl))
  f282 := Tryd.func91.trans (congrArg some (by kernel_rfl))
  f283 := Tryd.func82.trans (congrArg some (by kernel_rfl))
  f284 := Tryd.func83.trans (congrArg some (by kernel_rfl))
  f285 := Tryd.func84.trans (congrArg some (by kernel_rfl))
  f286 := Tryd.func85.trans (congrArg some (by kernel_rfl))
  f287 := Tryd.func97.trans (congrArg some (by kernel_rfl))
  f316 := Tryd.func98.trans (congrArg some (by kernel_rfl))
  f317 := Tryd.func92.trans (congrArg some (by kernel_rfl))
  f318 := Tryd.func94.trans (congrArg some (by kernel_rfl))
  f319 := Tryd.func95.trans (congrArg some (by kernel_rfl))
  f320 := Tryd.func96.trans (congrArg some (by kernel_rfl))
  f321 := Tryd.func102.trans (congrArg some (by kernel_rfl))
  f322 := Tryd.func103.trans (congrArg some (by kernel_rfl))
  f337 := Tryd.func100.trans (congrArg some (by kernel_rfl))
  f338 := Tryd.func101.trans (congrArg some (by kernel_rfl))
  t0 := Tryd.underlying0
  a0 := Tryd.isAgg0
  z0 := Tryd.sizeOf0
  v0 := Tryd.zeroValue0
  t2 := Tryd.underlying2
  a2 := Tryd.isAgg2
  z2 := Tryd.sizeOf2
  v2 := Tryd.zeroValue2
  t3 := Tryd.underlying3
  a3 := Tryd.isAgg3
  z3 := Tryd.sizeOf3
  v3 := Tryd.zeroValue3
  t4 := Tryd.underlying4
  a4 := Tryd.isAgg4
  z4 := Tryd.sizeOf4
  v4 := Tryd.zeroValue4
  t5 := Tryd.underlying5
  a5 := Tryd.isAgg5
  z5 := Tryd.sizeOf5
  v5 := Tryd.zeroValue5
  t9 := Tryd.underlying9
  a9 := Tryd.isAgg9
  z9 := Tryd.sizeOf9
  v9 := Tryd.zeroValue9
  t20 := Tryd.underlying20
  a20 := Tryd.isAgg20
  z20 := Tryd.sizeOf20
  v20 := Tryd.zeroValue20
  t21 := Tryd.underlying21
  a21 := Tryd.isAgg21
  z21 := Tryd.sizeOf21
  v21 := Tryd.zeroValue21
  t37 := Tryd.underlying69
  a37 := Tryd.isAgg69
  z37 := Tryd.sizeOf69
  v37 := Tryd.zeroValue69
  t46 := Tryd.underlying150
  a46 := Tryd.isAgg150
  z46 := Tryd.sizeOf150
  v46 := Tryd.zeroValue150
  t51 := Tryd.underlying147
  a51 := Tryd.isAgg147
  z51 := Tryd.sizeOf147
  v51 := Tryd.zeroValue147
  t53 := Tryd.underlying133
  a53 := Tryd.isAgg133
  z53 := Tryd.sizeOf133
  v53 := Tryd.zeroValue133
  t75 := Tryd.underlying73
  a75 := Tryd.isAgg73
  z75 := Tryd.sizeOf73
  v75 := Tryd.zeroValue73
  t76 := Tryd.underlying74
  a76 := Tryd.isAgg74
  z76 := Tryd.sizeOf74
  v76 := Tryd.zeroValue74
  t85 := Tryd.underlying139
  a85 := Tryd.isAgg139
  z85 := Tryd.sizeOf139
  v85 := Tryd.zeroValue139
  t127 := Tryd.underlying114
  a127 := Tryd.isAgg114
  z127 := Tryd.sizeOf114
  v127 := Tryd.zeroValue114
  t143 := Tryd.underlying160
  a143 := Tryd.isAgg160
  z143 := Tryd.sizeOf160
  v143 := Tryd.zeroValue160
  t145 := Tryd.underlying162
  a145 := Tryd.isAgg162
  z145 := Tryd.sizeOf162
  v145 := Tryd.zeroValue162
  t167 := Tryd.underlying138
  a167 := Tryd.isAgg138
  z167 := Tryd.sizeOf138
  v167 := Tryd.zeroValue138
  t168 := Tryd.underlying141
  a168 := Tryd.isAgg141
  z168 := Tryd.sizeOf141
  v168 := Tryd.zeroValue141
  t171 := Tryd.underlying132
  a171 := Tryd.isAgg132
  z171 := Tryd.sizeOf132
  v171 := Tryd.zeroValue132
  t173 := Tryd.underlying136
  a173 := Tryd.isAgg136
  z173 := Tryd.sizeOf136
  v173 := Tryd.zeroValue136
  t175 := Tryd.underlying152
  a175 := Tryd.isAgg152
  z175 := Tryd.sizeOf152
  v175 := Tryd.zeroValue152
  t210 := Tryd.underlying156
  a210 := Tryd.isAgg156
  z210 := Tryd.sizeOf156
  v210 := Tryd.zeroValue156
  t212 := Tryd.underlying146
  a212 := Tryd.isAgg146
  z212 := Tryd.sizeOf146
  v212 := Tryd.zeroValue146
  t213 := Tryd.underlying148
  a213 := Tryd.isAgg148
  z213 := Tryd.sizeOf148
  t232 := Tryd.underlying163
  a232 := Tryd.isAgg163
  z232 := Tryd.sizeOf163
  v232 := Tryd.zeroValue163
  t233 := Tryd.underlying164
  a233 := Tryd.isAgg164
  z233 := Tryd.sizeOf164
  v233 := Tryd.zeroValue164
  g15 := by kernel_rfl
  g16 := by kernel_rfl
  g17 := by kernel_rfl
  g18 := by kernel_rfl
  g19 := by kernel_rfl
  t80 := Tryd.underlying78
  a80 := Tryd.isAgg78
  z80 := Tryd.sizeOf78
  v80 := Tryd.zeroValue78
  i0 := by kernel_rfl
  i2 := by kernel_rfl
  i3 := by kernel_rfl
  i4 := by kernel_rfl
  i5 := by kernel_rfl
  i9 := by kernel_rfl
  i20 := by kernel_rfl
  i21 := by kernel_rfl
  i37 := by kernel_rfl
  i46 := by kernel_rfl
  i51 := by kernel_rfl
  i53 := by kernel_rfl
  i75 := by kernel_rfl
  i76 := by kernel_rfl
  i80 := by kernel_rfl
  i85 := by kernel_rfl
  i127 := by kernel_rfl
  i143 := by kernel_rfl
  i145 := by kernel_rfl
  i167 := by kernel_rfl
  i168 := by kernel_rfl
  i171 := by kernel_rfl
  i173 := by kernel_rfl
  i175 := by kernel_rfl
  i210 := by kernel_rfl
  i212 := by kernel_rfl
  i232 := by kernel_rfl
  i233 := by kernel_rfl
  m15 := by kernel_rfl
  m16 := by kernel_rfl
  m17 := by kernel_rfl
  m18 := by kernel_rfl
  m19 := by kernel_rfl
  c0 := by kernel_rfl
  c2 := by kernel_rfl
  c3 := by kernel_rfl
  c4 := by kernel_rfl
  c5 := by kernel_rfl
  c9 := by kernel_rfl
  c20 := by kernel_rfl
  c21 := by kernel_rfl
  c37 := by kernel_rfl
  c46 := by kernel_rfl
  c51 := by kernel_rfl
  c53 := by kernel_rfl
  c75 := by kernel_rfl
  c76 := by kernel_rfl
  c80 := by kernel_rfl
  c85 := by kernel_rfl
  c127 := by kernel_rfl
  c143 := by kernel_rfl
  c145 := by kernel_rfl
  c167 := by kernel_rfl
  c168 := by kernel_rfl
  c171 := by kernel_rfl
  c173 := by kernel_rfl
  c175 := by kernel_rfl
  c210 := by kernel_rfl
  c212 := by kernel_rfl
  c213 := by kernel_rfl
  c232 := by kernel_rfl
  c233 := by kernel_rfl }
def ba (l : List UInt8) : ByteArray := ⟨l.toArray⟩
theorem ba_size (l : List UInt8) : (ba l).size = l.length := by show l.toArray.size = _; simp
theorem ba_list (l : List UInt8) : (ba l).data.toList = l := rfl
theorem ba_of (s : ByteArray) : ba s.data.toList = s := by cases s; simp [ba]
theorem byteAt_ba (l : List UInt8) (i : Nat) : byteAt (ba l) i = l.getD i 0 := rfl
theorem ba_toList (l : List UInt8) : (ba l).toList = l := by
  rw [Lib.toList_data]; rfl
set_option maxRecDepth 100000 in
set_option maxHeartbeats 2000000 in
theorem pf_Digits (i : Int) (h0 : -9223372036854775808 ≤ i) (h1 : i ≤ 9223372036854775807) : PF Tryd.prog 28 [lt (.int .i64 i)] fun r H' => r = lt (.string (ba (itoa i))) ∧ H' = [] := by
  refine SF.forgetAll ?_
  have hC := pf_ItoaG i h0 h1
  (refine SF_of_bodyX (aload tt) (aload_ok tyOK) Tryd.func28 rfl (by kernel_rfl) ?_; simp only [Tryd.ntmps28, List.length_cons, List.length_nil, Nat.reduceAdd, Nat.reduceSub, List.replicate_succ, List.replicate_zero, List.cons_append, List.nil_append])
  (repeat (first | (first | (with_reducible first | refine AX_block ?_ | refine AX_skip ?_ | refine AX_exit ?_ | refine AX_ret ?_ | refine AX_ift ?_ | refine AX_iff ?_ | refine AX_seq_k (fun K hK => ?_) | refine ContX.use (by assumption) ?_) | simp only [thenX, inBlockX, if_true, if_false, reduceCtorEq]) | (first | ((with_reducible refine XOP tyOK ?_); simp (disch := omega) only [go_sem ]; (with_reducible refine XRes_id ?_)) | (with_reducible refine XSK ?_)) | ((with_reducible refine XRes_nil ?_); refine hK _ ?_; clear hK K) | ((with_reducible refine AX_reg0 fun K hK => ?_); simp only [go_sem]) | (first | (first | refine XTL (by rfl) hC ?_))))
  (simp only [bodyX]; refine ⟨_, by simp only [aresults, aresult, XS.as, Tryd.results28, aload, go_sem, Option.bind_some]; rfl, ?_⟩)
  exact ⟨.iv _, rfl, trivial⟩
theorem pf_Trim (l p : List UInt8) : PF Tryd.prog 78 [lt (.string (ba l)), lt (.string (ba p))] fun r H' => r = lt (.string (ba (trimPrefix l p))) ∧ H' = [] :=
  PF_of_walk ⟨_, Tryd.func78, by kernel_rfl, rfl⟩ fun G w vs hi hr => by
    obtain ⟨v1, us, rfl, r1, hr⟩ := hr.uncons
    obtain ⟨v2, us, rfl, r2, hr⟩ := hr.uncons
    rw [hr.unnil, r1.lit_inv, r2.lit_inv]
    have h := Any.strings_TrimPrefix trimL (ba l) (ba p) w
    refine (show Calls Tryd.prog 78 #[.string (ba l), .string (ba p)] w _ from h).mono ?_
    rintro e w' ⟨rfl, rfl⟩
    exact ⟨rfl, Below.refl _ _⟩
end Go.Proofs.YtdaenbgjafalcaaDoor
namespace Go.Proofs.YtdaenbgjafalcaaDoor
open Go.RowKit
set_option linter.unusedVariables false
def jumpX (R : Nat → XS → Prop) (Q : Exit → XS → Prop) : Exit → XS → Prop
  | .goto l, s => R l s
  | e, s => Q e s
section
variable {P : Program} {m : Nat} {Q : Exit → XS → Prop} {s : XS}
theorem AX_jumps {c : Code} (J : Nat → Nat → XS → Prop) (first : AX P m c (jumpX (fun l s' => LeadX m s' fun s1 => ∃ n, J l n s1) Q) s)
    (pass : ∀ l n s, J l n s → ∃ rest, findLabel c l = some rest ∧ AX P m rest (jumpX (fun l' s' => LeadX m s' fun s1 => ∃ k, k < n ∧ J l' k s1) Q) s) : AX P m (.scope c) Q s := fun G0 G a w hm hl hM hr b k cs => by
  have hg : ∀ l rest, findLabel c l = some rest → gotoIn l (.inScope c :: k) = some (.code rest :: .inScope c :: k) := fun l rest hf => by simp [gotoIn, hf]
  have key : ∀ n l s, J l n s → ∀ G a w, m ≤ s.H.length → Gh.leb m G0 G → MOK G0.kp G s.M → Rst G s.as a w → ∀ rest, findLabel c l = some rest → ∃ e a' w', PostX m G0 Q e a' w' ∧ Arrives P (lone (b.at a (.code rest :: .inScope c :: k)) cs w) b k cs e a' w' := by
    intro n
    induction n using Nat.strongRecOn with
    | _ n ih =>
      intro l s hJ G a w hm hl hM hr rest hf
      obtain ⟨rest', hf', hp⟩ := pass l n s hJ
      obtain rfl : rest' = rest := Option.some.inj (hf'.symm.trans hf)
      obtain ⟨e, a1, w1, ⟨G', s', h1, h2, h3, h4, h5⟩, harr⟩ := hp G0 G a w hm hl hM hr b (.inScope c :: k) cs
      cases e with
      | normal => exact ⟨.normal, a1, w1, ⟨G', s', h1, h2, h3, h4, h5⟩, Steps.trans harr (.one step_inScope)⟩
      | exit id => exact ⟨.exit id, a1, w1, ⟨G', s', h1, h2, h3, h4, h5⟩, fun k' hk => harr k' (by simp [exitTo, hk])⟩
      | goto l' =>
        obtain ⟨G1, s1, g1, g2, g3, g4, k', hlt, hJ1⟩ := (show LeadX m s' _ from h5) G0 G' a1 w1 h3 h1 h2 h4
        obtain ⟨rest2, hf2, _⟩ := pass l' k' s1 hJ1
        obtain ⟨e2, a2, w2, hq2, harr2⟩ := ih k' hlt l' s1 hJ1 G1 a1 w1 g3 g1 g2 g4 rest2 hf2
        exact ⟨e2, a2, w2, hq2, .of_steps (harr _ (hg _ _ hf2)) harr2⟩
      | ret => exact ⟨_, a1, w1, ⟨G', s', h1, h2, h3, h4, h5⟩, harr⟩
      | panic ch => exact ⟨_, a1, w1, ⟨G', s', h1, h2, h3, h4, h5⟩, harr⟩
      | outgrown => exact ⟨_, a1, w1, ⟨G', s', h1, h2, h3, h4, h5⟩, harr⟩
  obtain ⟨e, a1, w1, ⟨G', s', h1, h2, h3, h4, h5⟩, harr⟩ := first G0 G a w hm hl hM hr b (.inScope c :: k) cs
  cases e with
  | normal => exact ⟨.normal, a1, w1, ⟨G', s', h1, h2, h3, h4, h5⟩, .head step_scope (Steps.trans harr (.one step_inScope))⟩
  | exit id => exact ⟨.exit id, a1, w1, ⟨G', s', h1, h2, h3, h4, h5⟩, fun k' hk => .head step_scope (harr k' (by simp [exitTo, hk]))⟩
  | goto l' =>
    obtain ⟨G1, s1, g1, g2, g3, g4, k', hJ1⟩ := (show LeadX m s' _ from h5) G0 G' a1 w1 h3 h1 h2 h4
    obtain ⟨rest2, hf2, _⟩ := pass l' k' s1 hJ1
    obtain ⟨e2, a2, w2, hq2, harr2⟩ := key k' l' s1 hJ1 G1 a1 w1 g3 g1 g2 g4 rest2 hf2
    exact ⟨e2, a2, w2, hq2, .of_steps (.head step_scope (harr _ (hg _ _ hf2))) harr2⟩
  | ret => exact ⟨_, a1, w1, ⟨G', s', h1, h2, h3, h4, h5⟩, .of_steps (.one step_scope) harr⟩
  | panic ch => exact ⟨_, a1, w1, ⟨G', s', h1, h2, h3, h4, h5⟩, .of_steps (.one step_scope) harr⟩
  | outgrown => exact ⟨_, a1, w1, ⟨G', s', h1, h2, h3, h4, h5⟩, .of_steps (.one step_scope) harr⟩
def JwX {σ : Type} (m : Nat) (ds : List Nat) (f : σ → List (Nat × AV)) (hp : σ → AHeap) (mp : σ → MS) (I : Nat → σ → Prop) (mm : Nat → σ → Nat) (fr0 : List AV) (n l : Nat) (s' : XS) : Prop :=
  LeadX m s' fun s1 => ∃ (st : σ) (d : Nat → Value), s1 = ⟨updS (deadS fr0 (fun i => lt (d i)) ds) (f st), hp st, mp st⟩ ∧ I l st ∧ mm l st < n
theorem AX_jw {σ : Type} {fr : List AV} {H : AHeap} {M : MS} {c : Code} (ds : List Nat) (f : σ → List (Nat × AV)) (hp : σ → AHeap) (mp : σ → MS) (I : Nat → σ → Prop) (mm : Nat → σ → Nat) (N : Nat) (first : AX P m c (jumpX (JwX m ds f hp mp I mm fr N) Q) ⟨fr, H, M⟩)
    (pass : ∀ (l : Nat) (st : σ) (d : Nat → Value) (fr1 : List AV), fr1 = updS (deadS fr (fun i => lt (d i)) ds) (f st) → I l st → ∃ rest, findLabel c l = some rest ∧ AX P m rest (jumpX (JwX m ds f hp mp I mm fr (mm l st)) Q) ⟨fr1, hp st, mp st⟩) : AX P m (.scope c) Q ⟨fr, H, M⟩ := by
  refine AX_jumps (fun l n s1 => ∃ (st : σ) (d : Nat → Value), s1 = ⟨updS (deadS fr (fun i => lt (d i)) ds) (f st), hp st, mp st⟩ ∧ I l st ∧ mm l st = n) (first.mono fun e s h => ?_) ?_
  · cases e with
    | goto l => exact LeadX.mono h fun s' ⟨st', d', h1, h2, h3⟩ => ⟨_, st', d', h1, h2, rfl⟩
    | _ => exact h
  · rintro l n s1 ⟨st, d, rfl, hst, rfl⟩
    obtain ⟨rest, hf, hp⟩ := pass l st d _ rfl hst
    refine ⟨rest, hf, hp.mono fun e s h => ?_⟩
    cases e with
    | goto l => exact LeadX.mono h fun s' ⟨st', d', h1, h2, h3⟩ => ⟨_, h3, st', d', h1, h2, rfl⟩
    | _ => exact h
end
theorem jw_end {σ : Type} {m : Nat} {ds : List Nat} {f : σ → List (Nat × AV)} {hp : σ → AHeap} {mp : σ → MS} {I : Nat → σ → Prop} {mm : Nat → σ → Nat} {fr0 : List AV} {n l : Nat} {fr : List AV} {H : AHeap} {M : MS} (st' : σ) (hI : I l st') (hm : mm l st' < n) (hM : M = mp st') (hh : H = hp st')
    (h : ∀ d : Nat → AV, deadS fr d ds = updS (deadS fr0 d ds) (f st')) : JwX m ds f hp mp I mm fr0 n l ⟨fr, H, M⟩ :=
  LeadX.of (Leads.dead ds fun d => ⟨st', d, by rw [h, hh, hM], hI, hm⟩)
theorem jw_ren {σ : Type} {m : Nat} {ds : List Nat} {f : σ → List (Nat × AV)} {hp : σ → AHeap} {mp : σ → MS} {I : Nat → σ → Prop} {mm : Nat → σ → Nat} {fr0 : List AV} {n l : Nat} {fr : List AV} {H : AHeap} {M : MS} (sel : List Nat) (st' : σ) (hI : I l st') (hm : mm l st' < n) (hM : M = mp st') (hs1 : sel.Nodup) (hs2 : sel.all (fun p => decide (m ≤ p)) = true)
    (hH : okH (named m sel) (H.take m ++ sel.map (atH H)) = true) (hF : okF (named m sel) ds 0 fr = true) (hh : selH m sel H = hp st')
    (h : ∀ d : Nat → AV, deadS (fr.map (AV.rn (newNo m sel))) d ds = updS (deadS fr0 d ds) (f st')) : JwX m ds f hp mp I mm fr0 n l ⟨fr, H, M⟩ :=
  LeadX.of (Leads.ren sel ds hs1 hs2 hH hF fun d => ⟨st', d, by rw [h, hh, hM], hI, hm⟩)
theorem jw_nil {σ : Type} {m : Nat} {ds : List Nat} {f : σ → List (Nat × AV)} {hp : σ → AHeap} {mp : σ → MS} {I : Nat → σ → Prop} {mm : Nat → σ → Nat} {fr0 : List AV} {n l : Nat} {fr : List AV} {H : AHeap} {M : MS} (i t sz : Nat) (hi : fr[i]? = some (lt (.slice none 0 0)))
    (h : JwX m ds f hp mp I mm fr0 n l ⟨fr.set i (.osl H.length 0 0 sz), H ++ [some ⟨t, []⟩], M⟩) : JwX m ds f hp mp I mm fr0 n l ⟨fr, H, M⟩ :=
  LeadX.trans (S := fun s1 => s1 = ⟨fr.set i (.osl H.length 0 0 sz), H ++ [some ⟨t, []⟩], M⟩) (.of (.nil i t sz hi rfl)) fun s' e => by rw [e]; exact h
end Go.Proofs.YtdaenbgjafalcaaDoor
namespace Go.Proofs.YtdaenbgjafalcaaDoor
open Go.RowKit Go.Shelf Go.Lib Go.Sort
set_option linter.unusedVariables false
set_option linter.unusedSimpArgs false
def prefL_ren : Go.Shelf.Ren := ⟨fun | 99 => 61 | 206 => 73 | n => n, fun | 9 => 9 | 4 => 4 | 3 => 3 | n => n, fun | n => n⟩
theorem prefL : Go.Proofs.Lays.n99 Tryd.prog prefL_ren := {
  mixed := by kernel_rfl
  f99 := Tryd.func61.trans (congrArg some (by kernel_rfl))
  f206 := Tryd.func73.trans (congrArg some (by kernel_rfl))
  t3 := Tryd.underlying3
  a3 := Tryd.isAgg3
  z3 := Tryd.sizeOf3
  v3 := Tryd.zeroValue3
  t4 := Tryd.underlying4
  a4 := Tryd.isAgg4
  z4 := Tryd.sizeOf4
  v4 := Tryd.zeroValue4
  t9 := Tryd.underlying9
  a9 := Tryd.isAgg9
  z9 := Tryd.sizeOf9
  v9 := Tryd.zeroValue9 }
theorem pf_Pref (l p : List UInt8) : PF Tryd.prog 61 [lt (.string (ba l)), lt (.string (ba p))] fun r H' => r = lt (.bool (hasPrefix l p)) ∧ H' = [] :=
  PF_of_walk ⟨_, Tryd.func61, by kernel_rfl, rfl⟩ fun G w vs hi hr => by
    obtain ⟨v1, us, rfl, r1, hr⟩ := hr.uncons
    obtain ⟨v2, us, rfl, r2, hr⟩ := hr.uncons
    rw [hr.unnil, r1.lit_inv, r2.lit_inv]
    have h := Any.strings_HasPrefix prefL (ba l) (ba p) w
    refine (show Calls Tryd.prog 61 #[.string (ba l), .string (ba p)] w _ from h).mono ?_
    rintro e w' ⟨rfl, rfl⟩
    exact ⟨rfl, Below.refl _ _⟩
theorem u8_int (c : UInt8) (n : Nat) (h : n < 256) : ((c.toNat : Int) = n) ↔ c = UInt8.ofNat n := by
  constructor
  · intro h1
    apply UInt8.toNat_inj.1
    rw [UInt8.toNat_ofNat']; omega
  · rintro rfl; rw [UInt8.toNat_ofNat']; omega
theorem isSp_int (c : UInt8) : isSp c = (decide ((c.toNat : Int) = 32) || decide ((c.toNat : Int) = 9) || decide ((c.toNat : Int) = 13)) := by
  unfold isSp
  have e1 : (c == 32) = decide ((c.toNat : Int) = 32) := by rw [Bool.eq_iff_iff]; simp only [beq_iff_eq, decide_eq_true_eq]; exact (u8_int c 32 (by omega)).symm
  have e2 : (c == 9) = decide ((c.toNat : Int) = 9) := by rw [Bool.eq_iff_iff]; simp only [beq_iff_eq, decide_eq_true_eq]; exact (u8_int c 9 (by omega)).symm
  have e3 : (c == 13) = decide ((c.toNat : Int) = 13) := by rw [Bool.eq_iff_iff]; simp only [beq_iff_eq, decide_eq_true_eq]; exact (u8_int c 13 (by omega)).symm
  rw [e1, e2, e3]
theorem W7c64a {A B : Prop} (h9 : B) (w : B → A := by (intro h9; (repeat intro K hK); refine ⟨?_⟩; (repeat (first | (first | (with_reducible first | refine AX_block ?_ | refine AX_skip ?_ | refine AX_exit ?_ | refine AX_ret ?_ | refine AX_ift ?_ | refine AX_iff ?_ | refine AX_seq_k (fun K hK => ?_) | refine ContX.use (by assumption) ?_) | simp only [thenX, inBlockX, if_true, if_false, reduceCtorEq]) | (first | ((with_reducible refine XOP tyOK ?_); simp (disch := omega) only [go_sem , hs1, hs2, hs3, hs4, hs5, ba_toList, ba_size, byteAt_ba, Int.toNat_zero, Int.toNat_natCast]; (with_reducible refine XRes_id ?_)) | (with_reducible refine XSK ?_)) | ((with_reducible refine XRes_nil ?_); refine hK _ ?_; clear hK K) | ((with_reducible refine AX_reg0 fun K hK => ?_); simp only [go_sem]) | (first | (first | refine XTL (by rfl) hC ?_ | refine XTL (by rfl) hI ?_)))); refine Wk.o ?_; (repeat revert hK K); exact h9)) : A := w h9
set_option maxRecDepth 100000 in
set_option maxHeartbeats 4000000 in
theorem pf_parts (c : UInt8) : PF Tryd.prog 62 [lt (.int .u8 (c.toNat : Int))] fun r H' => r = lt (.bool (isSp c)) ∧ H' = [] := by
  refine SF.forgetAll ?_
  have hs1 := trivial; have hs2 := trivial; have hs3 := trivial; have hs4 := trivial; have hs5 := trivial; have hC := trivial; have hI := trivial
  rw [isSp_int]
  generalize (c.toNat : Int) = n
  by_cases h1 : n = 32
  · subst h1
    (refine SF_of_bodyX (aload tt) (aload_ok tyOK) Tryd.func62 rfl (by kernel_rfl) ?_; simp only [Tryd.ntmps62, List.length_cons, List.length_nil, Nat.reduceAdd, Nat.reduceSub, List.replicate_succ, List.replicate_zero, List.cons_append, List.nil_append])
    (refine Wk.o ?_; (repeat revert hK K); refine W7c64a ?_; (repeat intro K hK); refine ⟨?_⟩)
    (simp only [bodyX]; refine ⟨_, by simp only [aresults, aresult, XS.as, Tryd.results62, aload, go_sem, Option.bind_some]; rfl, ?_⟩)
    exact ⟨.iv _, rfl, trivial⟩
  · by_cases h2 : n = 9
    · subst h2
      (refine SF_of_bodyX (aload tt) (aload_ok tyOK) Tryd.func62 rfl (by kernel_rfl) ?_; simp only [Tryd.ntmps62, List.length_cons, List.length_nil, Nat.reduceAdd, Nat.reduceSub, List.replicate_succ, List.replicate_zero, List.cons_append, List.nil_append])
      (refine Wk.o ?_; (repeat revert hK K); refine W7c64a ?_; (repeat intro K hK); refine ⟨?_⟩)
      (simp only [bodyX]; refine ⟨_, by simp only [aresults, aresult, XS.as, Tryd.results62, aload, go_sem, Option.bind_some]; rfl, ?_⟩)
      exact ⟨.iv _, rfl, trivial⟩
    · by_cases h3 : n = 13
      · subst h3
        (refine SF_of_bodyX (aload tt) (aload_ok tyOK) Tryd.func62 rfl (by kernel_rfl) ?_; simp only [Tryd.ntmps62, List.length_cons, List.length_nil, Nat.reduceAdd, Nat.reduceSub, List.replicate_succ, List.replicate_zero, List.cons_append, List.nil_append])
        (refine Wk.o ?_; (repeat revert hK K); refine W7c64a ?_; (repeat intro K hK); refine ⟨?_⟩)
        (simp only [bodyX]; refine ⟨_, by simp only [aresults, aresult, XS.as, Tryd.results62, aload, go_sem, Option.bind_some]; rfl, ?_⟩)
        exact ⟨.iv _, rfl, trivial⟩
      · (refine SF_of_bodyX (aload tt) (aload_ok tyOK) Tryd.func62 rfl (by kernel_rfl) ?_; simp only [Tryd.ntmps62, List.length_cons, List.length_nil, Nat.reduceAdd, Nat.reduceSub, List.replicate_succ, List.replicate_zero, List.cons_append, List.nil_append])
        (refine Wk.o ?_; (repeat revert hK K); refine W7c64a ?_; (repeat intro K hK); refine ⟨?_⟩)
        (simp only [bodyX]; refine ⟨_, by simp only [aresults, aresult, XS.as, Tryd.results62, aload, go_sem, Option.bind_some]; rfl, ?_⟩)
        exact ⟨.iv _, by simp [h1, h2, h3], trivial⟩
def tkL (ln st : Int) (ts : List (Nat × List UInt8)) : List Value := ts.flatMap fun t => [.int .i64 ln, .int .i64 (st + t.1), .string (ba t.2)]
def tkC (ln st : Int) (ts : List (Nat × List UInt8)) : List AV := (tkL ln st ts).map lt
def iTk (ln st : Int) (ts : List (Nat × List UInt8)) : IV := .sl (fun j => .lit ((tkL ln st ts).getD j undef)) ts.length 3
theorem tkL_len (ln st : Int) (ts : List (Nat × List UInt8)) : (tkL ln st ts).length = ts.length * 3 := by
  induction ts with
  | nil => rfl
  | cons t ts ih => rw [tkL, List.flatMap_cons, List.length_append, ← tkL, ih]; simp; omega
theorem tkC_nil (ln st : Int) : tkC ln st [] = [] := rfl
theorem tkC_len (ln st : Int) (ts : List (Nat × List UInt8)) : (tkC ln st ts).length = ts.length * 3 := by rw [tkC, List.length_map, tkL_len]
theorem tkC_snoc (ln st : Int) (ts : List (Nat × List UInt8)) (a : Nat) (x : List UInt8) : tkC ln st ts ++ [lt (.int .i64 ln), lt (.int .i64 (st + (a : Int))), lt (.string (ba x))] = tkC ln st (ts ++ [(a, x)]) := by
  unfold tkC tkL
  rw [List.flatMap_append, List.map_append]; rfl
theorem rnL_tkC (r : Nat → Nat) (ln st : Int) (ts : List (Nat × List UInt8)) : rnL r (tkC ln st ts) = tkC ln st ts := by unfold tkC; rw [rnL_map, List.map_map]; rfl
theorem idL_tkC (p : Nat → Bool) (ln st : Int) (ts : List (Nat × List UInt8)) : idL p (tkC ln st ts) = true := by unfold tkC; rw [idL_all, List.all_map, List.all_eq_true]; exact fun _ _ => rfl
theorem tkC_one (ln st : Int) (ts : List (Nat × List UInt8)) : (tkC ln st ts).all AV.one = true := by
  unfold tkC
  rw [List.all_map, List.all_eq_true]
  intro v hv
  unfold tkL at hv
  rw [List.mem_flatMap] at hv
  obtain ⟨t, _, h⟩ := hv
  simp only [List.mem_cons, List.not_mem_nil, or_false] at h
  rcases h with rfl | rfl | rfl <;> rfl
theorem tkC_take {ln st : Int} {ts : List (Nat × List UInt8)} {n : Nat} (h : ts.length * 3 ≤ n) : (tkC ln st ts).take n = tkC ln st ts := List.take_of_length_le (by rw [tkC_len]; exact h)
theorem tkC_take3 (ln st : Int) (ts : List (Nat × List UInt8)) : (tkC ln st ts).take (ts.length * 3) = tkC ln st ts := tkC_take (Nat.le_refl _)
theorem snap_tk {H : AHeap} {o n : Nat} {t : TypeId} {ln st : Int} {ts : List (Nat × List UInt8)} (h : H[o]? = some (some ⟨t, tkC ln st ts⟩)) (hn : n = ts.length) : Snap H (.osl o 0 n 3) (.iv (iTk ln st ts)) := by
  subst hn
  exact .iv _ _ (.osl _ 0 _ 3 _ ⟨t, tkC ln st ts⟩ (fun j => lt ((tkL ln st ts).getD j undef)) (by decide) h (fun j hj => by
    have hj' : j < (tkL ln st ts).length := by rw [tkL_len]; exact hj
    rw [Nat.zero_add]
    show ((tkL ln st ts).map lt)[j]? = _
    rw [List.getElem?_map, List.getElem?_eq_getElem hj']
    simp [List.getD_eq_getElem?_getD, List.getElem?_eq_getElem hj']) fun j _ => .iv _)
theorem ba_extract (l : List UInt8) (a b : Nat) : (ba l).extract a b = ba ((l.drop a).take (b - a)) := by
  apply ByteArray.ext
  show ((ba l).extract a b).data = _
  rw [ByteArray.data_extract]
  show (l.toArray).extract a b = ((l.drop a).take (b - a)).toArray
  simp
end Go.Proofs.YtdaenbgjafalcaaDoor
