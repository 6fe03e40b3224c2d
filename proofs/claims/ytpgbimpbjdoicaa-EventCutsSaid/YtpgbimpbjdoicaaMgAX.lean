import Derived.Test.YtpgbimpbjdoicaaMgAO
import Derived.Test.YtpgbimpbjdoicaaMgAW
namespace Go.Proofs.Ytpgbimpbjdoicaa
open Go.RowKit
theorem evOk_of {xs : List Ev3} (h : okI (flatE xs)) : evOk xs := fun i => by
  have h1 := h (i * 3 + 1)
  have h2 := h (i * 3 + 2)
  rw [flatE_p] at h1
  rw [flatE_n] at h2
  exact ⟨h1, h2.1⟩
theorem eventTells_walk (w : World) (a : Option Addr) (len cap : Nat) (hs : StructRow w 3 a len cap) (a2 : Option Addr) (len2 cap2 : Nat) (hs2 : StructRow w 3 a2 len2 cap2) (x : Int) (wx : (Lit.int .i64 x).wf = true) :
    Calls Try.prog 3 #[.slice a len cap, .slice a2 len2 cap2, .int .i64 x] w fun e w' => e = .returned (.bool true) ∧ Below w.heap.size w w' := by
  obtain ⟨xs, e1, o1, r1⟩ := hs.evsA
  obtain ⟨ys, e2, o2, r2⟩ := hs2.evsA
  have b1 := hs.2.1; have b2 := hs2.2.1
  have c1 := hs.1; have c2 := hs2.1
  unfold maxLen at b1 b2
  exact law_of (SF.mono (pf_EventTells xs ys x (evOk_of o1) (by omega) (by omega)) fun r H' h => h.1) w _ (RL.three (.iv _ _ r1) (.iv _ _ r2) (.iv _ _ (.lit _)))
theorem eventForms_walk (w : World) (a : Option Addr) (len cap : Nat) (hs : StructRow w 3 a len cap) (x : Int) (wx : (Lit.int .i64 x).wf = true) :
    Calls Try.prog 4 #[.slice a len cap, .int .i64 x] w fun e w' => e = .returned (.bool true) ∧ Below w.heap.size w w' := by
  obtain ⟨xs, e1, o1, r1⟩ := hs.evsA
  have b1 := hs.2.1
  have c1 := hs.1
  unfold maxLen at b1
  exact law_of (SF.mono (pf_EventForms xs x (evOk_of o1) (by omega)) fun r H' h => h.1) w _ (RL.two (.iv _ _ r1) (.iv _ _ (.lit _)))
theorem eventCuts_walk (w : World) (a : Option Addr) (len cap : Nat) (hs : StructRow w 3 a len cap) (x : Int) (wx : (Lit.int .i64 x).wf = true) :
    Calls Try.prog 5 #[.slice a len cap, .int .i64 x] w fun e w' => e = .returned (.bool true) ∧ Below w.heap.size w w' := by
  obtain ⟨xs, e1, o1, r1⟩ := hs.evsA
  have b1 := hs.2.1
  have c1 := hs.1
  unfold maxLen at b1
  exact law_of (SF.mono (pf_EventCuts xs x (by omega)) fun r H' h => h.1) w _ (RL.two (.iv _ _ r1) (.iv _ _ (.lit _)))
end Go.Proofs.Ytpgbimpbjdoicaa
