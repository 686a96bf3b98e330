
/-
  bytes.Equal.
-/
import Derived.Test.YtinmgccnplcakaaSm8
namespace Go.Proofs.Ytinmgccnplcakaa
open Go Go.RowKit

set_option maxRecDepth 100000 in
theorem bytesEqual_any (w : World) (g g' : Nat) (a b : Option Addr) (ca cb : Nat) (xs ys : List Int) (ha : Rd w g a .u8 xs) (hb : Rd w g' b .u8 ys) (hx : Byt xs) (hy : Byt ys) :
    Calls Try.prog 24 #[.slice a xs.length ca, .slice b ys.length cb] w fun e w' => e = .returned (.bool (decide (xs = ys))) ∧ w' = w := by
  have h1 := conv_run w g a ca xs ha
  have h2 := conv_run w g' b cb ys hb
  by_cases e : xs = ys
  · subst e
    generalize str xs = s at *
    go_enter Try.func24, Try.ntmps24
    go_wp2
    go_ret
    exact ⟨by simp, rfl⟩
  · have D := hide (show decide (xs = ys) = false by simpa using e)
    have h3 : str xs ≠ str ys := fun h => e (str_inj hx hy h)
    generalize str xs = s at *
    generalize str ys = t at *
    have H3 := hide h3
    clear h3 e
    go_enter Try.func24, Try.ntmps24
    go_wp2
    go_ret
    have e : (s.toList == t.toList) = false := by
      cases h : (s.toList == t.toList)
      · rfl
      · exact absurd (toList_inj (beq_iff_eq.1 h)) H3.out
    exact ⟨by rw [D.out, ← e]; rfl, rfl⟩
end Go.Proofs.Ytinmgccnplcakaa
