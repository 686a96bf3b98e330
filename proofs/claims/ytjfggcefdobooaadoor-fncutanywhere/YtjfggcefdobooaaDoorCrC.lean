
/-
  Where a record could not be cut, by its code; the program's cutCode.
-/
import Derived.Test.YtjfggcefdobooaaDoorErI
import Derived.Test.YtjfggcefdobooaaDoorErS
namespace Go.Proofs.YtjfggcefdobooaaDoor
set_option maxRecDepth 100000
open Go Go.RowKit

def ccN (a1 a2 : Addr) (x : Option Addr) : Int := if x = some a1 then 1 else if x = some a2 then 2 else 0
set_option maxHeartbeats 4000000 in
theorem cutCode_any (w : World) (x : Option Addr) (a1 a2 : Addr) (hx : ∀ a, x = some a → ∃ ca ta, w.heap[a.block]? = some (.cells ca ta (0, 0)))
    (h1 : Sen w 1 a1) (h2 : Sen w 2 a2) :
    Calls Tryd.prog 23 #[x.elim .nilIface erV] w fun e w' => e = .returned (.int .i64 (ccN a1 a2 x)) ∧ w' = w := by
  have I0 := hide (isErr_any x a1 w hx h1.b)
  have c0 := h1.c
  have I1 := hide (isErr_any x a2 w hx h2.b)
  have c1 := h2.c
  obtain ⟨v, hv⟩ : ∃ v, v = x.elim .nilIface erV := ⟨_, rfl⟩
  rw [← hv] at I0 I1 ⊢
  clear h1 h2
  unfold erV at c0 c1 I0 I1
  by_cases q0 : x = some a1
  · rw [decide_eq_true q0] at I0
    have e : Hid (ccN a1 a2 x = 1) := by show _ = _; unfold ccN; rw [if_pos q0]
    generalize ccN a1 a2 x = o at *
    clear q0 hx hv
    go_enter Tryd.func23, Tryd.ntmps23
    go_wp2_with fail
    refine I0.out.mono ?_
    rintro e w' ⟨rfl, hw⟩
    have hw := hw.symm
    subst hw
    go_wp2
    go_ret
    exact ⟨by rw [e.out]; rfl, rfl⟩
  rw [decide_eq_false q0] at I0
  by_cases q1 : x = some a2
  · rw [decide_eq_true q1] at I1
    have e : Hid (ccN a1 a2 x = 2) := by show _ = _; unfold ccN; rw [if_neg q0]; rw [if_pos q1]
    generalize ccN a1 a2 x = o at *
    clear q0 q1 hx hv
    go_enter Tryd.func23, Tryd.ntmps23
    go_wp2_with fail
    refine I0.out.mono ?_
    rintro e w' ⟨rfl, hw⟩
    have hw := hw.symm
    subst hw
    go_wp2_with fail
    refine I1.out.mono ?_
    rintro e w' ⟨rfl, hw⟩
    have hw := hw.symm
    subst hw
    go_wp2
    go_ret
    exact ⟨by rw [e.out]; rfl, rfl⟩
  rw [decide_eq_false q1] at I1
  have e : Hid (ccN a1 a2 x = 0) := by show _ = _; unfold ccN; rw [if_neg q0]; rw [if_neg q1]
  generalize ccN a1 a2 x = o at *
  clear q0 q1 hx hv
  go_enter Tryd.func23, Tryd.ntmps23
  go_wp2_with fail
  refine I0.out.mono ?_
  rintro e w' ⟨rfl, hw⟩
  have hw := hw.symm
  subst hw
  go_wp2_with fail
  refine I1.out.mono ?_
  rintro e w' ⟨rfl, hw⟩
  have hw := hw.symm
  subst hw
  go_wp2
  go_ret
  exact ⟨by rw [e.out]; rfl, rfl⟩
end Go.Proofs.YtjfggcefdobooaaDoor
