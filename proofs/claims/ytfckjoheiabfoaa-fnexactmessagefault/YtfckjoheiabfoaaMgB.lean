
/-
  Messages: what the kinds' fault methods answer.
-/
import Derived.Test.YtfckjoheiabfoaaMgA
import Derived.Test.YtfckjoheiabfoaaLbC
namespace Go.Proofs.Ytfckjoheiabfoaa
open Go Go.RowKit

/-- A block of just these cells. -/
def RwC (w : World) (q : Nat) (cs : List Value) (t : TypeId) : Prop := w.heap[q]? = some (.cells cs.toArray t (0, 0))
theorem RwC.new (w : World) (cs : List Value) (t : TypeId) : RwC (w.alloc (.cells cs.toArray t)) w.heap.size cs t := heap_alloc_new w _
theorem RwC.lt {w : World} {q : Nat} {cs : List Value} {t : TypeId} (h : RwC w q cs t) : q < w.heap.size := (Array.getElem?_eq_some_iff.1 h).1
theorem RwC.up {w w' : World} {q : Nat} {cs : List Value} {t : TypeId} (h : RwC w q cs t) (n : Below w.heap.size w w') : RwC w' q cs t := (n.block q h.lt).trans h
theorem RwC.cell {w : World} {q : Nat} {cs : List Value} {t : TypeId} (h : RwC w q cs t) (i : Nat) : w.cell? ⟨q, i, none⟩ = cs[i]? := by
  rw [cell_of_row w q i _ _ (0, 0) h]
  simp

/-- Version, Random and Share. -/
def fpB (v : Int) (r s : Nat) : Bool := decide (v < 0) || (decide (255 < v) || (decide (r ≠ 32) || decide (s ≠ 32)))
def fpF (v : Int) (r s : Nat) : Int := if fpB v r s = true then 3 else 0
theorem firstFault_any (w : World) (q : Nat) (v : Int) (a1 a2 : Option Addr) (r s c1 c2 : Nat) (hr : r ≤ 1048576) (hs : s ≤ 1048576) (h0 : w.cell? ⟨q, 0, none⟩ = some (.int .i64 v)) (h1 : w.cell? ⟨q, 1, none⟩ = some (.slice a1 r c1)) (h2 : w.cell? ⟨q, 2, none⟩ = some (.slice a2 s c2)) :
    Calls Try.prog 65 #[.pointer (some ⟨q, 0, none⟩)] w fun e w' => e = .returned (.int .i64 (fpF v r s)) ∧ w' = w := by
  have E := hide (show fpF v r s = if (decide (v < 0) || (decide (255 < v) || (decide (r ≠ 32) || decide (s ≠ 32)))) = true then 3 else 0 from rfl)
  by_cases k0 : v < 0
  · have d0 : decide (v < 0) = true := decide_eq_true k0
    go_enter Try.func65, Try.ntmps65
    go_wp2
    go_ret
    exact ⟨by rw [E.out, d0]; rfl, rfl⟩
  · have d0 : decide (v < 0) = false := decide_eq_false k0
    by_cases k1 : 255 < v
    · have d1 : decide (255 < v) = true := decide_eq_true k1
      go_enter Try.func65, Try.ntmps65
      go_wp2
      go_ret
      exact ⟨by rw [E.out, d0, d1]; rfl, rfl⟩
    · have d1 : decide (255 < v) = false := decide_eq_false k1
      by_cases k2 : r = 32
      · have d2 : decide (r ≠ 32) = false := by simpa using k2
        by_cases k3 : s = 32
        · have d3 : decide (s ≠ 32) = false := by simpa using k3
          subst k2
          subst k3
          go_enter Try.func65, Try.ntmps65
          go_wp2
          go_ret
          exact ⟨by rw [E.out, d0, d1, d2]; rfl, rfl⟩
        · have d3 : decide (s ≠ 32) = true := by simpa using k3
          have e3 : ((s : Int) != 32) = true := by simp; omega
          subst k2
          go_enter Try.func65, Try.ntmps65
          go_wp2
          go_ret
          exact ⟨by rw [E.out, d0, d1, d2, d3]; rfl, rfl⟩
      · have d2 : decide (r ≠ 32) = true := by simpa using k2
        have e2 : ((r : Int) != 32) = true := by simp; omega
        go_enter Try.func65, Try.ntmps65
        go_wp2
        go_ret
        exact ⟨by rw [E.out, d0, d1, d2]; rfl, rfl⟩
/-- Whether a Binder, an Age and an Early fit a Ticket. -/
def bdB (t b : Nat) (g e : Int) : Bool := if t = 0 then decide (b = 0) && (decide (g = 0) && decide (e = 0)) else decide (b = 32)
theorem isBound_any (w : World) (q : Nat) (a5 a8 : Option Addr) (t b c5 c8 : Nat) (g e : Int) (ht : t ≤ 1048576) (hb : b ≤ 1048576) (h5 : w.cell? ⟨q, 5, none⟩ = some (.slice a5 t c5)) (h6 : w.cell? ⟨q, 6, none⟩ = some (.int .i64 g)) (h7 : w.cell? ⟨q, 7, none⟩ = some (.int .i64 e)) (h8 : w.cell? ⟨q, 8, none⟩ = some (.slice a8 b c8)) :
    Calls Try.prog 66 #[.pointer (some ⟨q, 0, none⟩)] w fun r w' => r = .returned (.bool (bdB t b g e)) ∧ w' = w := by
  by_cases k0 : t = 0
  · subst k0
    have E := hide (show bdB 0 b g e = (decide (b = 0) && (decide (g = 0) && decide (e = 0))) from rfl)
    by_cases k1 : b = 0
    · subst k1
      by_cases k2 : g = 0
      · subst k2
        by_cases k3 : e = 0
        · subst k3
          go_enter Try.func66, Try.ntmps66
          go_wp2
          go_ret
          exact ⟨by rw [E.out]; rfl, rfl⟩
        · have d3 : decide (e = 0) = false := decide_eq_false k3
          have e3 : (e == 0) = false := by simpa using k3
          go_enter Try.func66, Try.ntmps66
          go_wp2
          go_ret
          exact ⟨by rw [E.out, d3]; rfl, rfl⟩
      · have d2 : decide (g = 0) = false := decide_eq_false k2
        have e2 : (g == 0) = false := by simpa using k2
        go_enter Try.func66, Try.ntmps66
        go_wp2
        go_ret
        exact ⟨by rw [E.out, d2]; rfl, rfl⟩
    · have d1 : decide (b = 0) = false := decide_eq_false k1
      have e1 : ((b : Int) == 0) = false := by simp; omega
      go_enter Try.func66, Try.ntmps66
      go_wp2
      go_ret
      exact ⟨by rw [E.out, d1]; rfl, rfl⟩
  · have E := hide (show bdB t b g e = decide (b = 32) by unfold bdB; rw [if_neg k0])
    have e0 : ((t : Int) == 0) = false := by simp; omega
    by_cases k1 : b = 32
    · subst k1
      go_enter Try.func66, Try.ntmps66
      go_wp2
      go_ret
      exact ⟨by rw [E.out]; rfl, rfl⟩
    · have d1 : decide (b = 32) = false := decide_eq_false k1
      have e1 : ((b : Int) == 32) = false := by simp; omega
      go_enter Try.func66, Try.ntmps66
      go_wp2
      go_ret
      exact ⟨by rw [E.out, d1]; rfl, rfl⟩
end Go.Proofs.Ytfckjoheiabfoaa
