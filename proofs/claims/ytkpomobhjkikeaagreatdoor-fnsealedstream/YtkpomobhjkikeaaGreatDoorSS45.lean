import Derived.Test.YtkpomobhjkikeaaGreatDoorSS42
import Derived.WalkKit
import Derived.LaidEql
import Derived.Stop.Asserts
import Derived.RowKitTokens
import Derived.Test.YtkpomobhjkikeaaGreatDoorSS44
import Derived.Test.YtkpomobhjkikeaaGreatDoorSS34
import Derived.Test.YtkpomobhjkikeaaGreatDoorSS31
import Derived.Test.YtkpomobhjkikeaaGreatDoorSS38
import Derived.Test.YtkpomobhjkikeaaGreatDoorSS2
import Derived.Test.YtkpomobhjkikeaaGreatDoorSS41
import Derived.Maps.AppendAt
import Derived.Deep.RegionHeld3
import Derived.Test.YtkpomobhjkikeaaGreatDoorSS7
import Derived.Test.YtkpomobhjkikeaaGreatDoorSS3
import Derived.Laws.BytesString
import Derived.Deep.MidRow
import Derived.Test.YtkpomobhjkikeaaGreatDoorSS43
namespace Go.Proofs.YtkpomobhjkikeaaGreatDoor
set_option maxRecDepth 100000
open Go Go.RowKit Go.Extern.Stop Go.Stop Go.Extern
theorem er_typeOf (v : Value) (w : World) : (Extern.ReflectliteType.typeOf #[.iface 189 v]).run Tryz.prog w = .ok (.iface 111 (.agg #[.pointer (some ⟨10, 189, none⟩)])) w := by kernel_rfl
theorem er_comparable (w : World) : (callFunc 142 #[.agg #[.pointer (some ⟨10, 189, none⟩)]]).run Tryz.prog w = .ok (.value (.bool true)) w := by
  rw [@run_callFunc_extern Tryz.prog 142 _ (Extern.ReflectliteType.method fun t => do Extern.Rtype.noPackHeld "Comparable" t; pure (.bool (← typeInfo t).comparable)) Tryz.func142 (by kernel_rfl) (by kernel_rfl) (by kernel_rfl) (by kernel_rfl)]
  kernel_rfl
theorem er_method (v : Value) (w : World) : (Go.method 326 111 v "Comparable").run Tryz.prog w = .ok (142, v) w := by kernel_rfl
theorem er_comp : (Tryz.prog.info? 189).map (·.comparable) = some true := by kernel_rfl
theorem er_size : (Tryz.prog.info? 214).map (·.size) = some 1 := by kernel_rfl
theorem er_noIs (v : Value) (xT : TypeId) (w : World) : (Instr.typeAssert (.iface 189 v) xT 113 true).run Tryz.prog w = .ok (.tuple #[.nilIface, .bool false]) w := run_typeAssert_lacksB Tryz.underlying113 (by kernel_rfl) (by kernel_rfl) v xT w
theorem er_noUnwrap (v : Value) (xT : TypeId) (w : World) : (Instr.typeAssert (.iface 189 v) xT 116 true).run Tryz.prog w = .ok (.tuple #[.nilIface, .bool false]) w := run_typeAssert_lacksB Tryz.underlying116 (by kernel_rfl) (by kernel_rfl) v xT w
theorem er_noUnwraps (v : Value) (xT : TypeId) (w : World) : (Instr.typeAssert (.iface 189 v) xT 117 true).run Tryz.prog w = .ok (.tuple #[.nilIface, .bool false]) w := run_typeAssert_lacksB Tryz.underlying117 (by kernel_rfl) (by kernel_rfl) v xT w
theorem is_same (a : Addr) (w : World) : Calls Tryz.prog 27 #[erV a, erV a] w fun e w' => e = .returned (.bool true) ∧ w' = w := by
  unfold erV
  obtain ⟨i, hi, hcmp⟩ := Option.map_eq_some_iff.1 er_comp
  obtain ⟨j, hj, hjs⟩ := Option.map_eq_some_iff.1 er_size
  have h8 := @run_callFunc_extern Tryz.prog 44 _ Extern.ReflectliteType.typeOf Tryz.func44 (by kernel_rfl) (by kernel_rfl) (by kernel_rfl) (by kernel_rfl)
  have tT := er_typeOf
  have cT := er_comparable
  have mR := er_method
  have heq := run_eql_iface_ptr_same (P := Tryz.prog) w a Tryz.underlying57 Tryz.underlying189 hi hcmp hj
  go_enter Tryz.func27, Tryz.ntmps27
  go_wp2
  refine wp_loop_rounds 1 ?_
  rw [rounds_succ]
  go_wp2
  go_ret
  exact ⟨rfl, rfl⟩
theorem is_nil (b : Addr) (w : World) : Calls Tryz.prog 27 #[.nilIface, erV b] w fun e w' => e = .returned (.bool false) ∧ w' = w := by
  unfold erV
  have hn := run_eql_iface_nil_left (P := Tryz.prog) w 189 (.pointer (some b)) Tryz.underlying57
  go_enter Tryz.func27, Tryz.ntmps27
  go_wp2
  go_ret
  exact ⟨rfl, rfl⟩
theorem is_other (a b : Addr) (w : World) (hne : a ≠ b) (ha : ∃ ca ta, w.heap[a.block]? = some (.cells ca ta (0, 0))) (hb : ∃ cb tb, w.heap[b.block]? = some (.cells cb tb (0, 0))) : Calls Tryz.prog 27 #[erV a, erV b] w fun e w' => e = .returned (.bool false) ∧ w' = w := by
  unfold erV
  obtain ⟨ca, ta, ha⟩ := ha
  obtain ⟨cb, tb, hb⟩ := hb
  obtain ⟨i, hi, hcmp⟩ := Option.map_eq_some_iff.1 er_comp
  obtain ⟨j, hj, hjs⟩ := Option.map_eq_some_iff.1 er_size
  have h8 := @run_callFunc_extern Tryz.prog 44 _ Extern.ReflectliteType.typeOf Tryz.func44 (by kernel_rfl) (by kernel_rfl) (by kernel_rfl) (by kernel_rfl)
  have tT := er_typeOf
  have cT := er_comparable
  have mR := er_method
  have nE := er_noIs
  have uE := er_noUnwrap
  have vE := er_noUnwraps
  have heq := run_eql_iface_ptr_other (P := Tryz.prog) w Tryz.underlying57 Tryz.underlying189 hi hcmp hj (by rw [hjs]; decide) hne ha hb
  go_enter Tryz.func27, Tryz.ntmps27
  go_wp2
  refine wp_loop_rounds 1 ?_
  rw [rounds_succ]
  go_wp2
  go_ret
  exact ⟨rfl, rfl⟩
theorem isErr_any (x : Option Addr) (b : Addr) (w : World) (hx : ∀ a, x = some a → ∃ ca ta, w.heap[a.block]? = some (.cells ca ta (0, 0))) (hb : ∃ cb tb, w.heap[b.block]? = some (.cells cb tb (0, 0))) :
    Calls Tryz.prog 27 #[x.elim .nilIface erV, erV b] w fun e w' => e = .returned (.bool (decide (x = some b))) ∧ w' = w := by
  cases x with
  | none => exact (is_nil b w).mono (by rintro e w' ⟨rfl, rfl⟩; exact ⟨by simp, rfl⟩)
  | some a =>
    by_cases h : a = b
    · subst h
      exact (is_same a w).mono (by rintro e w' ⟨rfl, rfl⟩; exact ⟨by simp, rfl⟩)
    · exact (is_other a b w h (hx a rfl) hb).mono (by rintro e w' ⟨rfl, rfl⟩; exact ⟨by simp [h], rfl⟩)
end Go.Proofs.YtkpomobhjkikeaaGreatDoor
namespace Go.Proofs.YtkpomobhjkikeaaGreatDoor
set_option maxRecDepth 100000
open Go Go.RowKit
def ocN (a1 a2 a3 a4 a5 a6 a7 : Addr) (x : Option Addr) : Int :=
  if x = some a3 then 1 else if x = some a2 then 1 else if x = some a4 then 2 else if x = some a5 then 3 else if x = some a1 then 4 else if x = some a6 then 5 else if x = some a7 then 6 else 0
set_option maxHeartbeats 4000000 in
theorem openCode_any (w : World) (x : Option Addr) (a1 a2 a3 a4 a5 a6 a7 : Addr) (hx : ∀ a, x = some a → ∃ ca ta, w.heap[a.block]? = some (.cells ca ta (0, 0)))
    (h1 : Sen w 1 a1) (h2 : Sen w 5 a2) (h3 : Sen w 4 a3) (h4 : Sen w 6 a4) (h5 : Sen w 7 a5) (h6 : Sen w 2 a6) (h7 : Sen w 3 a7) :
    Calls Tryz.prog 30 #[x.elim .nilIface erV] w fun e w' => e = .returned (.int .i64 (ocN a1 a2 a3 a4 a5 a6 a7 x)) ∧ w' = w := by
  have I0 := hide (isErr_any x a3 w hx h3.b)
  have c0 := h3.c
  have I1 := hide (isErr_any x a2 w hx h2.b)
  have c1 := h2.c
  have I2 := hide (isErr_any x a4 w hx h4.b)
  have c2 := h4.c
  have I3 := hide (isErr_any x a5 w hx h5.b)
  have c3 := h5.c
  have I4 := hide (isErr_any x a1 w hx h1.b)
  have c4 := h1.c
  have I5 := hide (isErr_any x a6 w hx h6.b)
  have c5 := h6.c
  have I6 := hide (isErr_any x a7 w hx h7.b)
  have c6 := h7.c
  have HH : True := trivial
  obtain ⟨v, hv⟩ : ∃ v, v = x.elim .nilIface erV := ⟨_, rfl⟩
  rw [← hv] at I0 I1 I2 I3 I4 I5 I6 ⊢
  clear h1 h2 h3 h4 h5 h6 h7
  unfold erV at c0 c1 c2 c3 c4 c5 c6 I0 I1 I2 I3 I4 I5 I6
  by_cases q0 : x = some a3
  · rw [decide_eq_true q0] at I0
    have e : Hid (ocN a1 a2 a3 a4 a5 a6 a7 x = 1) := by show _ = _; unfold ocN; rw [if_pos q0]
    generalize ocN a1 a2 a3 a4 a5 a6 a7 x = o at *
    clear q0 hx HH hv
    go_enter Tryz.func30, Tryz.ntmps30
    go_wp2_with fail
    refine I0.out.mono ?_
    rintro e w' ⟨rfl, hw⟩
    have hw := hw.symm
    subst hw
    go_wp2
    go_ret
    exact ⟨by rw [e.out]; rfl, rfl⟩
  rw [decide_eq_false q0] at I0
  by_cases q1 : x = some a2
  · rw [decide_eq_true q1] at I1
    have e : Hid (ocN a1 a2 a3 a4 a5 a6 a7 x = 1) := by show _ = _; unfold ocN; rw [if_neg q0]; rw [if_pos q1]
    generalize ocN a1 a2 a3 a4 a5 a6 a7 x = o at *
    clear q0 q1 hx HH hv
    go_enter Tryz.func30, Tryz.ntmps30
    go_wp2_with fail
    refine I0.out.mono ?_
    rintro e w' ⟨rfl, hw⟩
    have hw := hw.symm
    subst hw
    go_wp2_with fail
    refine I1.out.mono ?_
    rintro e w' ⟨rfl, hw⟩
    have hw := hw.symm
    subst hw
    go_wp2
    go_ret
    exact ⟨by rw [e.out]; rfl, rfl⟩
  rw [decide_eq_false q1] at I1
  by_cases q2 : x = some a4
  · rw [decide_eq_true q2] at I2
    have e : Hid (ocN a1 a2 a3 a4 a5 a6 a7 x = 2) := by show _ = _; unfold ocN; rw [if_neg q0]; rw [if_neg q1]; rw [if_pos q2]
    generalize ocN a1 a2 a3 a4 a5 a6 a7 x = o at *
    clear q0 q1 q2 hx HH hv
    go_enter Tryz.func30, Tryz.ntmps30
    go_wp2_with fail
    refine I0.out.mono ?_
    rintro e w' ⟨rfl, hw⟩
    have hw := hw.symm
    subst hw
    go_wp2_with fail
    refine I1.out.mono ?_
    rintro e w' ⟨rfl, hw⟩
    have hw := hw.symm
    subst hw
    go_wp2_with fail
    refine I2.out.mono ?_
    rintro e w' ⟨rfl, hw⟩
    have hw := hw.symm
    subst hw
    go_wp2
    go_ret
    exact ⟨by rw [e.out]; rfl, rfl⟩
  rw [decide_eq_false q2] at I2
  by_cases q3 : x = some a5
  · rw [decide_eq_true q3] at I3
    have e : Hid (ocN a1 a2 a3 a4 a5 a6 a7 x = 3) := by show _ = _; unfold ocN; rw [if_neg q0]; rw [if_neg q1]; rw [if_neg q2]; rw [if_pos q3]
    generalize ocN a1 a2 a3 a4 a5 a6 a7 x = o at *
    clear q0 q1 q2 q3 hx HH hv
    go_enter Tryz.func30, Tryz.ntmps30
    go_wp2_with fail
    refine I0.out.mono ?_
    rintro e w' ⟨rfl, hw⟩
    have hw := hw.symm
    subst hw
    go_wp2_with fail
    refine I1.out.mono ?_
    rintro e w' ⟨rfl, hw⟩
    have hw := hw.symm
    subst hw
    go_wp2_with fail
    refine I2.out.mono ?_
    rintro e w' ⟨rfl, hw⟩
    have hw := hw.symm
    subst hw
    go_wp2_with fail
    refine I3.out.mono ?_
    rintro e w' ⟨rfl, hw⟩
    have hw := hw.symm
    subst hw
    go_wp2
    go_ret
    exact ⟨by rw [e.out]; rfl, rfl⟩
  rw [decide_eq_false q3] at I3
  by_cases q4 : x = some a1
  · rw [decide_eq_true q4] at I4
    have e : Hid (ocN a1 a2 a3 a4 a5 a6 a7 x = 4) := by show _ = _; unfold ocN; rw [if_neg q0]; rw [if_neg q1]; rw [if_neg q2]; rw [if_neg q3]; rw [if_pos q4]
    generalize ocN a1 a2 a3 a4 a5 a6 a7 x = o at *
    clear q0 q1 q2 q3 q4 hx HH hv
    go_enter Tryz.func30, Tryz.ntmps30
    go_wp2_with fail
    refine I0.out.mono ?_
    rintro e w' ⟨rfl, hw⟩
    have hw := hw.symm
    subst hw
    go_wp2_with fail
    refine I1.out.mono ?_
    rintro e w' ⟨rfl, hw⟩
    have hw := hw.symm
    subst hw
    go_wp2_with fail
    refine I2.out.mono ?_
    rintro e w' ⟨rfl, hw⟩
    have hw := hw.symm
    subst hw
    go_wp2_with fail
    refine I3.out.mono ?_
    rintro e w' ⟨rfl, hw⟩
    have hw := hw.symm
    subst hw
    go_wp2_with fail
    refine I4.out.mono ?_
    rintro e w' ⟨rfl, hw⟩
    have hw := hw.symm
    subst hw
    go_wp2
    go_ret
    exact ⟨by rw [e.out]; rfl, rfl⟩
  rw [decide_eq_false q4] at I4
  by_cases q5 : x = some a6
  · rw [decide_eq_true q5] at I5
    have e : Hid (ocN a1 a2 a3 a4 a5 a6 a7 x = 5) := by show _ = _; unfold ocN; rw [if_neg q0]; rw [if_neg q1]; rw [if_neg q2]; rw [if_neg q3]; rw [if_neg q4]; rw [if_pos q5]
    generalize ocN a1 a2 a3 a4 a5 a6 a7 x = o at *
    clear q0 q1 q2 q3 q4 q5 hx HH hv
    go_enter Tryz.func30, Tryz.ntmps30
    go_wp2_with fail
    refine I0.out.mono ?_
    rintro e w' ⟨rfl, hw⟩
    have hw := hw.symm
    subst hw
    go_wp2_with fail
    refine I1.out.mono ?_
    rintro e w' ⟨rfl, hw⟩
    have hw := hw.symm
    subst hw
    go_wp2_with fail
    refine I2.out.mono ?_
    rintro e w' ⟨rfl, hw⟩
    have hw := hw.symm
    subst hw
    go_wp2_with fail
    refine I3.out.mono ?_
    rintro e w' ⟨rfl, hw⟩
    have hw := hw.symm
    subst hw
    go_wp2_with fail
    refine I4.out.mono ?_
    rintro e w' ⟨rfl, hw⟩
    have hw := hw.symm
    subst hw
    go_wp2_with fail
    refine I5.out.mono ?_
    rintro e w' ⟨rfl, hw⟩
    have hw := hw.symm
    subst hw
    go_wp2
    go_ret
    exact ⟨by rw [e.out]; rfl, rfl⟩
  rw [decide_eq_false q5] at I5
  by_cases q6 : x = some a7
  · rw [decide_eq_true q6] at I6
    have e : Hid (ocN a1 a2 a3 a4 a5 a6 a7 x = 6) := by show _ = _; unfold ocN; rw [if_neg q0]; rw [if_neg q1]; rw [if_neg q2]; rw [if_neg q3]; rw [if_neg q4]; rw [if_neg q5]; rw [if_pos q6]
    generalize ocN a1 a2 a3 a4 a5 a6 a7 x = o at *
    clear q0 q1 q2 q3 q4 q5 q6 hx HH hv
    go_enter Tryz.func30, Tryz.ntmps30
    go_wp2_with fail
    refine I0.out.mono ?_
    rintro e w' ⟨rfl, hw⟩
    have hw := hw.symm
    subst hw
    go_wp2_with fail
    refine I1.out.mono ?_
    rintro e w' ⟨rfl, hw⟩
    have hw := hw.symm
    subst hw
    go_wp2_with fail
    refine I2.out.mono ?_
    rintro e w' ⟨rfl, hw⟩
    have hw := hw.symm
    subst hw
    go_wp2_with fail
    refine I3.out.mono ?_
    rintro e w' ⟨rfl, hw⟩
    have hw := hw.symm
    subst hw
    go_wp2_with fail
    refine I4.out.mono ?_
    rintro e w' ⟨rfl, hw⟩
    have hw := hw.symm
    subst hw
    go_wp2_with fail
    refine I5.out.mono ?_
    rintro e w' ⟨rfl, hw⟩
    have hw := hw.symm
    subst hw
    go_wp2_with fail
    refine I6.out.mono ?_
    rintro e w' ⟨rfl, hw⟩
    have hw := hw.symm
    subst hw
    go_wp2
    go_ret
    exact ⟨by rw [e.out]; rfl, rfl⟩
  rw [decide_eq_false q6] at I6
  have e : Hid (ocN a1 a2 a3 a4 a5 a6 a7 x = 0) := by show _ = _; unfold ocN; rw [if_neg q0]; rw [if_neg q1]; rw [if_neg q2]; rw [if_neg q3]; rw [if_neg q4]; rw [if_neg q5]; rw [if_neg q6]
  generalize ocN a1 a2 a3 a4 a5 a6 a7 x = o at *
  clear q0 q1 q2 q3 q4 q5 q6 hx HH hv
  go_enter Tryz.func30, Tryz.ntmps30
  go_wp2_with fail
  refine I0.out.mono ?_
  rintro e w' ⟨rfl, hw⟩
  have hw := hw.symm
  subst hw
  go_wp2_with fail
  refine I1.out.mono ?_
  rintro e w' ⟨rfl, hw⟩
  have hw := hw.symm
  subst hw
  go_wp2_with fail
  refine I2.out.mono ?_
  rintro e w' ⟨rfl, hw⟩
  have hw := hw.symm
  subst hw
  go_wp2_with fail
  refine I3.out.mono ?_
  rintro e w' ⟨rfl, hw⟩
  have hw := hw.symm
  subst hw
  go_wp2_with fail
  refine I4.out.mono ?_
  rintro e w' ⟨rfl, hw⟩
  have hw := hw.symm
  subst hw
  go_wp2_with fail
  refine I5.out.mono ?_
  rintro e w' ⟨rfl, hw⟩
  have hw := hw.symm
  subst hw
  go_wp2_with fail
  refine I6.out.mono ?_
  rintro e w' ⟨rfl, hw⟩
  have hw := hw.symm
  subst hw
  go_wp2
  go_ret
  exact ⟨by rw [e.out]; rfl, rfl⟩
end Go.Proofs.YtkpomobhjkikeaaGreatDoor
namespace Go.Proofs.YtkpomobhjkikeaaGreatDoor
set_option maxRecDepth 100000
open Go Go.RowKit
def riN (xs : List Int) : Int := if tz xs xs.length = 0 then 3 else if isK (inK xs) = true then (if 2048 < (inD xs).length then 5 else if (inD xs).length = 0 ∧ inK xs ≠ 23 then 6 else 0) else 4
def upN (K V : List Int) (q : Int) (xs : List Int) : Int :=
  if K.length = 32 ∧ (rnA V q).length = 12 then (if 17 ≤ (xs.length : Int) ∧ (xs.length : Int) ≤ 2321 then (if opB K (rnA V q) (hdL 23 (xs.length : Int)) xs = true then riN (upL K V q xs) else 2) else 1) else 1
def upK (K V : List Int) (q : Int) (xs : List Int) : Int := if upN K V q xs = 0 then inK (upL K V q xs) else 0
def upD (K V : List Int) (q : Int) (xs : List Int) : List Int := if upN K V q xs = 0 then inD (upL K V q xs) else []
def Dst (a1 a2 a3 a4 a5 a6 a7 : Addr) : Prop := (a1 ≠ a2 ∧ a1 ≠ a3 ∧ a1 ≠ a4 ∧ a1 ≠ a5 ∧ a1 ≠ a6 ∧ a1 ≠ a7) ∧ (a2 ≠ a3 ∧ a2 ≠ a4 ∧ a2 ≠ a5 ∧ a2 ≠ a6 ∧ a2 ≠ a7) ∧ (a3 ≠ a4 ∧ a3 ≠ a5 ∧ a3 ≠ a6 ∧ a3 ≠ a7) ∧ (a4 ≠ a5 ∧ a4 ≠ a6 ∧ a4 ≠ a7) ∧ (a5 ≠ a6 ∧ a5 ≠ a7) ∧ a6 ≠ a7
theorem code_gen {a1 a2 a3 a4 a5 a6 a7 : Addr} (h : Dst a1 a2 a3 a4 a5 a6 a7) (p1 p2 p3 p4 p5 p6 : Prop) [Decidable p1] [Decidable p2] [Decidable p3] [Decidable p4] [Decidable p5] [Decidable p6] (t : Bool) :
    ocN a1 a2 a3 a4 a5 a6 a7 (if p1 then (if p2 then (if t = true then (if p3 then some a5 else if p4 then (if p5 then some a6 else if p6 then some a7 else none) else some a1) else some a4) else some a2) else some a3) = (if p1 then (if p2 then (if t = true then (if p3 then (3 : Int) else if p4 then (if p5 then 5 else if p6 then 6 else 0) else 4) else 2) else 1) else 1) ∧ ((if p1 then (if p2 then (if t = true then (if p3 then some a5 else if p4 then (if p5 then some a6 else if p6 then some a7 else none) else some a1) else some a4) else some a2) else some a3) = none ↔ (if p1 then (if p2 then (if t = true then (if p3 then (3 : Int) else if p4 then (if p5 then 5 else if p6 then 6 else 0) else 4) else 2) else 1) else 1) = 0) := by
  obtain ⟨⟨h12, h13, h14, h15, h16, h17⟩, ⟨h23, h24, h25, h26, h27⟩, ⟨h34, h35, h36, h37⟩, ⟨h45, h46, h47⟩, ⟨h56, h57⟩, h67⟩ := h
  have E3 : ocN a1 a2 a3 a4 a5 a6 a7 (some a3) = 1 := by unfold ocN; rw [if_pos rfl]
  have E2 : ocN a1 a2 a3 a4 a5 a6 a7 (some a2) = 1 := by unfold ocN; rw [if_neg (fun e => h23 (Option.some.inj e))]; rw [if_pos rfl]
  have E4 : ocN a1 a2 a3 a4 a5 a6 a7 (some a4) = 2 := by unfold ocN; rw [if_neg (fun e => (Ne.symm h34) (Option.some.inj e))]; rw [if_neg (fun e => (Ne.symm h24) (Option.some.inj e))]; rw [if_pos rfl]
  have E5 : ocN a1 a2 a3 a4 a5 a6 a7 (some a5) = 3 := by unfold ocN; rw [if_neg (fun e => (Ne.symm h35) (Option.some.inj e))]; rw [if_neg (fun e => (Ne.symm h25) (Option.some.inj e))]; rw [if_neg (fun e => (Ne.symm h45) (Option.some.inj e))]; rw [if_pos rfl]
  have E1 : ocN a1 a2 a3 a4 a5 a6 a7 (some a1) = 4 := by unfold ocN; rw [if_neg (fun e => h13 (Option.some.inj e))]; rw [if_neg (fun e => h12 (Option.some.inj e))]; rw [if_neg (fun e => h14 (Option.some.inj e))]; rw [if_neg (fun e => h15 (Option.some.inj e))]; rw [if_pos rfl]
  have E6 : ocN a1 a2 a3 a4 a5 a6 a7 (some a6) = 5 := by unfold ocN; rw [if_neg (fun e => (Ne.symm h36) (Option.some.inj e))]; rw [if_neg (fun e => (Ne.symm h26) (Option.some.inj e))]; rw [if_neg (fun e => (Ne.symm h46) (Option.some.inj e))]; rw [if_neg (fun e => (Ne.symm h56) (Option.some.inj e))]; rw [if_neg (fun e => (Ne.symm h16) (Option.some.inj e))]; rw [if_pos rfl]
  have E7 : ocN a1 a2 a3 a4 a5 a6 a7 (some a7) = 6 := by unfold ocN; rw [if_neg (fun e => (Ne.symm h37) (Option.some.inj e))]; rw [if_neg (fun e => (Ne.symm h27) (Option.some.inj e))]; rw [if_neg (fun e => (Ne.symm h47) (Option.some.inj e))]; rw [if_neg (fun e => (Ne.symm h57) (Option.some.inj e))]; rw [if_neg (fun e => (Ne.symm h17) (Option.some.inj e))]; rw [if_neg (fun e => (Ne.symm h67) (Option.some.inj e))]; rw [if_pos rfl]
  have E0 : ocN a1 a2 a3 a4 a5 a6 a7 none = 0 := by unfold ocN; simp
  by_cases q1 : p1
  · by_cases q2 : p2
    · cases t
      · simp [q1, q2, E4]
      · by_cases q3 : p3
        · simp [q1, q2, q3, E5]
        · by_cases q4 : p4
          · by_cases q5 : p5
            · simp [q1, q2, q3, q4, q5, E6]
            · by_cases q6 : p6
              · simp [q1, q2, q3, q4, q5, q6, E7]
              · simp [q1, q2, q3, q4, q5, q6, E0]
          · simp [q1, q2, q3, q4, E1]
    · simp [q1, q2, E2]
  · simp [q1, E3]
theorem code_of {a1 a2 a3 a4 a5 a6 a7 : Addr} (h : Dst a1 a2 a3 a4 a5 a6 a7) (K V : List Int) (q : Int) (xs : List Int) :
    ocN a1 a2 a3 a4 a5 a6 a7 (upE a1 a2 a3 a4 a5 a6 a7 K V q xs) = upN K V q xs ∧ (upE a1 a2 a3 a4 a5 a6 a7 K V q xs = none ↔ upN K V q xs = 0) := by
  unfold upE upN riE riN
  exact code_gen h _ _ _ _ _ _ _
theorem iOd : (Tryz.prog.info? 39).map (·.size) = some 3 := by kernel_rfl
theorem rowOd : ∃ d, Tryz.prog.underlying 39 = some d ∧ d.isRow = true := ⟨_, Tryz.underlying39, rfl⟩
theorem oneOd (c k : Int) (a : Option Addr) (n m : Nat) : ([.int .i64 c, .int .i64 k, .slice a n m] : List Value).toArray.all (·.oneCell') = true := all_oneCell_toArray fun v hv => by
  simp only [List.mem_cons, List.not_mem_nil, or_false] at hv
  rcases hv with rfl | rfl | rfl
  all_goals rfl
set_option maxHeartbeats 8000000 in
theorem implUnprotect_any (w : World) (gk : Nat) (ak : Option Addr) (ck : Nat) (K : List Int) (hk : Rd w gk ak .u8 K) (bk : Byt K) (kk : K.length ≤ ck) (gi : Nat) (ai : Option Addr) (ci : Nat) (V : List Int) (hi : Rd w gi ai .u8 V) (bi : Byt V) (zi : ai = none → ci = 0) (q : Int)
    (gx : Nat) (ax : Option Addr) (cx : Nat) (xs : List Int) (hx : Rd w gx ax .u8 xs) (bx : Byt xs) (kx : xs.length ≤ cx) (lx : xs.length ≤ 1048576) (a1 a2 a3 a4 a5 a6 a7 : Addr)
    (h1 : Sen w 1 a1) (h2 : Sen w 5 a2) (h3 : Sen w 4 a3) (h4 : Sen w 6 a4) (h5 : Sen w 7 a5) (h6 : Sen w 2 a6) (h7 : Sen w 3 a7) (hD : Dst a1 a2 a3 a4 a5 a6 a7) :
    Calls Tryz.prog 11 #[.agg #[.slice ak K.length ck, .slice ai V.length ci], .int .i64 q, .slice ax xs.length cx] w fun e w' => (∃ a c g, e = .returned (.agg #[.int .i64 (upN K V q xs), .int .i64 (upK K V q xs), .slice a (upD K V q xs).length c]) ∧ Own w' g a .u8 (upD K V q xs) ∧ (a = none → c = 0) ∧ (upD K V q xs).length ≤ c ∧ w.heap.size ≤ g) ∧ Below w.heap.size w w' := by
  obtain ⟨d1, hd1, hrow1⟩ := rowOd
  have OR := hide fun W (m : Below w.heap.size w W) => openRecord_any W gk ak ck K (hk.up m) bk kk gi ai ci V (hi.up m) bi zi q gx ax cx xs (hx.up m) bx kx lx a1 a2 a3 a4 a5 a6 a7 (h1.up m) (h2.up m) (h3.up m) (h4.up m) (h5.up m) (h6.up m) (h7.up m)
  obtain ⟨E1, E2⟩ := code_of hD K V q xs
  have hb : ∀ a, upE a1 a2 a3 a4 a5 a6 a7 K V q xs = some a → ∃ ca ta, w.heap[a.block]? = some (.cells ca ta (0, 0)) := by
    intro a
    unfold upE riE
    intro h
    split at h
    · split at h
      · split at h
        · split at h
          · cases h; exact h5.b
          · split at h
            · split at h
              · cases h; exact h6.b
              · split at h
                · cases h; exact h7.b
                · cases h
            · cases h; exact h1.b
        · cases h; exact h4.b
      · cases h; exact h2.b
    · cases h; exact h3.b
  have OC := hide fun W (m : Below w.heap.size w W) => openCode_any W (upE a1 a2 a3 a4 a5 a6 a7 K V q xs) a1 a2 a3 a4 a5 a6 a7 (fun a e => by
    obtain ⟨ca, ta, hh⟩ := hb a e
    exact ⟨ca, ta, (m.block a.block (Array.getElem?_eq_some_iff.1 hh).1).trans hh⟩) (h1.up m) (h2.up m) (h3.up m) (h4.up m) (h5.up m) (h6.up m) (h7.up m)
  rw [E1] at OC
  have eK : Hid (upK K V q xs = if upN K V q xs = 0 then inK (upL K V q xs) else 0) := rfl
  have eD : Hid (upD K V q xs = if upN K V q xs = 0 then inD (upL K V q xs) else []) := rfl
  clear hk bk kk hi bi zi hx bx kx lx h1 h2 h3 h4 h5 h6 h7 hD E1 hb
  generalize upK K V q xs = KD at *
  generalize upD K V q xs = DD at *
  generalize inK (upL K V q xs) = IK at *
  generalize inD (upL K V q xs) = ID at *
  generalize upN K V q xs = CD at *
  generalize upE a1 a2 a3 a4 a5 a6 a7 K V q xs = U at *
  have n1 : Below w.heap.size w (w.alloc (.cells #[.slice ak K.length ck, .slice ai V.length ci] 28)) := (Below.refl _ _).alloc (Nat.le_refl _) _
  have B0 : RwC (w.alloc (.cells #[.slice ak K.length ck, .slice ai V.length ci] 28)) w.heap.size [.slice ak K.length ck, .slice ai V.length ci] 28 := RwC.new w _ _
  have z1 : (w.alloc (.cells #[.slice ak K.length ck, .slice ai V.length ci] 28)).heap.size = w.heap.size + 1 := by simp
  go_enter Tryz.func11, Tryz.ntmps11
  go_upto_region 1 with fail
  generalize w.alloc (.cells #[.slice ak K.length ck, .slice ai V.length ci] 28) = wa at *
  have n2 : Below wa.heap.size wa (wa.alloc (.cells #[.int .i64 0, .int .i64 0, .slice none 0 0] 39)) := (Below.refl _ _).alloc (Nat.le_refl _) _
  have Z0 : RwC (wa.alloc (.cells #[.int .i64 0, .int .i64 0, .slice none 0 0] 39)) wa.heap.size [.int .i64 0, .int .i64 0, .slice none 0 0] 39 := RwC.new wa _ _
  replace B0 := B0.up n2
  have N := nxt n1 n2
  generalize wa.alloc (.cells #[.int .i64 0, .int .i64 0, .slice none 0 0] 39) = wb at *
  rw [z1] at Z0
  clear n1 n2 z1
  have lZ := Z0.lt
  have b0 := B0.c0
  have b1 := B0.c1
  go_wp2_with fail
  refine (OR.out wb N).mono ?_
  rintro e w1 ⟨m1, hc⟩
  have zm := m1.size
  replace N := nxt N m1
  replace Z0 := Z0.up m1
  have key : ∃ ad cd, e = .returned (.tuple #[.agg #[.int .i64 KD, .slice ad DD.length cd], U.elim .nilIface erV]) ∧ RowB w1 wb.heap.size (.slice ad DD.length cd) DD := by
    rcases hc with ⟨hU, ad, cd, rfl, R⟩ | ⟨x, hU, rfl⟩
    · have h0 := E2.1 hU
      rw [eK.out, eD.out, if_pos h0, if_pos h0, hU]
      exact ⟨ad, cd, rfl, R⟩
    · have h0 : ¬ CD = 0 := fun h => by have := E2.2 h; rw [hU] at this; cases this
      rw [eK.out, eD.out, if_neg h0, if_neg h0, hU]
      exact ⟨none, 0, rfl, RowB.nilN _ _⟩
  obtain ⟨ad, cd, rfl, R1⟩ := key
  clear hc b0 b1 B0 OR m1 eK eD E2
  have n3 : Below w1.heap.size w1 (w1.alloc (.cells #[.int .i64 KD, .slice ad DD.length cd] 55)) := (Below.refl _ _).alloc (Nat.le_refl _) _
  have P0 : RwC (w1.alloc (.cells #[.int .i64 KD, .slice ad DD.length cd] 55)) w1.heap.size [.int .i64 KD, .slice ad DD.length cd] 55 := RwC.new w1 _ _
  replace Z0 := Z0.up n3
  replace R1 := R1.up n3
  have N3 := nxt N n3
  clear n3 N
  obtain ⟨v, hv⟩ : ∃ v, v = U.elim .nilIface erV := ⟨_, rfl⟩
  rw [← hv] at OC ⊢
  clear hv
  go_upto_region 2 with fail
  generalize w1.alloc (.cells #[.int .i64 KD, .slice ad DD.length cd] 55) = w2 at *
  refine region_putT 7 6 6 22 _ (fun i => [Fact.eq v, Fact.eq (.int .i64 CD), Fact.eq (.pointer (some ⟨w1.heap.size, 0, none⟩)), Fact.eq (.int .i64 KD), Fact.eq (.pointer (some ⟨w1.heap.size, 1, none⟩)), Fact.eq (.slice ad DD.length cd), Fact.eq (.agg #[.int .i64 CD, .int .i64 KD, .slice ad DD.length cd])].getD i Fact.no) 39 [.int .i64 0, .int .i64 0, .slice none 0 0] (w.heap.size + 1) (Fact.eq (.agg #[.int .i64 CD, .int .i64 KD, .slice ad DD.length cd])) (by kernel_rfl) (by kernel_rfl) rfl rfl rfl iOd (fun a hb => hb.2.2 6 (by kernel_rfl)) Z0 (by kernel_rfl) rfl ?_ ?_ ?_
  · rintro v W hv
    exact ⟨[.int .i64 CD, .int .i64 KD, .slice ad DD.length cd], hv, rfl, oneOd _ _ _ _ _⟩
  · intro i hi
    obtain rfl | rfl | rfl | rfl | rfl | rfl | rfl : i = 0 ∨ i = 1 ∨ i = 2 ∨ i = 3 ∨ i = 4 ∨ i = 5 ∨ i = 6 := by omega
    · refine step_pure rfl fun A ww hb hw hf => ?_
      have e0 : A.tmps[8]?.getD undef = v := gdv (hb.2.2 8 (by kernel_rfl))
      exact ⟨v, by simp [go_sem, e0], rfl⟩
    · refine step_callv rfl 30 _ _ rfl (by kernel_rfl) fun A ww hb hw hf => ?_
      have e6 : A.tmps.getD 16 undef = v := hf 0 16 (by kernel_rfl)
      show Calls Tryz.prog 30 #[A.tmps.getD 16 undef] ww _
      rw [e6]
      refine (OC.out ww (nxt N3 hw)).mono ?_
      rintro r w' ⟨rfl, h⟩
      exact ⟨_, rfl, by rw [h]; exact Below.refl _ _, rfl⟩
    · refine step_pure rfl fun A ww hb hw hf => ?_
      have e0 : A.tmps[7]?.getD undef = .pointer (some ⟨w1.heap.size, 0, none⟩) := gdv (hb.2.2 7 (by kernel_rfl))
      exact ⟨.pointer (some ⟨w1.heap.size, 0, none⟩), by simp [go_sem, e0], rfl⟩
    · refine step_pure rfl fun A ww hb hw hf => ?_
      have e0 : A.tmps[18]?.getD undef = .pointer (some ⟨w1.heap.size, 0, none⟩) := gdv (hf 2 18 (by kernel_rfl))
      have hc := (P0.up hw).c0
      exact ⟨_, by simp [go_sem, e0, hc], rfl⟩
    · refine step_pure rfl fun A ww hb hw hf => ?_
      have e0 : A.tmps[7]?.getD undef = .pointer (some ⟨w1.heap.size, 0, none⟩) := gdv (hb.2.2 7 (by kernel_rfl))
      exact ⟨.pointer (some ⟨w1.heap.size, 1, none⟩), by simp [go_sem, e0], rfl⟩
    · refine step_pure rfl fun A ww hb hw hf => ?_
      have e0 : A.tmps[20]?.getD undef = .pointer (some ⟨w1.heap.size, 1, none⟩) := gdv (hf 4 20 (by kernel_rfl))
      have hc := (P0.up hw).c1
      exact ⟨_, by simp [go_sem, e0, hc], rfl⟩
    · refine step_pure rfl fun A ww hb hw hf => ?_
      have e0 : A.tmps[17]?.getD undef = .int .i64 CD := gdv (hf 1 17 (by kernel_rfl))
      have e1 : A.tmps[19]?.getD undef = .int .i64 KD := gdv (hf 3 19 (by kernel_rfl))
      have e2 : A.tmps[21]?.getD undef = .slice ad DD.length cd := gdv (hf 5 21 (by kernel_rfl))
      exact ⟨.agg #[.int .i64 CD, .int .i64 KD, .slice ad DD.length cd], by simp [go_sem, e0, e1, e2], rfl⟩
  · intro vs W W5 cs hw rq hG OQ rc
    have hG' : Value.agg cs.toArray = .agg #[.int .i64 CD, .int .i64 KD, .slice ad DD.length cd] := hG
    simp only [Value.agg.injEq] at hG'
    have ec : cs = [.int .i64 CD, .int .i64 KD, .slice ad DD.length cd] := by
      have := congrArg Array.toList hG'
      simpa using this
    subst ec
    have R5 := (R1.up hw).only OQ (by omega)
    have N5 := (nxt N3 hw).trans (OQ.below (B := w.heap.size) (by omega))
    have RR := rc.rangeG
    obtain ⟨a8, c8, g8, e8, o8, p8, q8, r8⟩ := R5.own
    simp only [Value.slice.injEq] at e8
    obtain ⟨rfl, -, rfl⟩ := e8
    simp only [puts, Act.put, List.setIfInBounds_toArray, List.set_cons_succ, List.set_cons_zero]
    clear OQ rq rc hG hG' R1 R5 hw
    go_wp2
    exact bodyPost_ret (v := .agg #[.int .i64 CD, .int .i64 KD, .slice ad DD.length cd]) (results_cellG Tryz.results11 _ _ (w.heap.size + 1) _ d1 rfl RR hd1 hrow1 iOd) rfl ⟨⟨ad, cd, g8, rfl, o8, p8, q8, by omega⟩, N5⟩
end Go.Proofs.YtkpomobhjkikeaaGreatDoor
namespace Go.Proofs.YtkpomobhjkikeaaGreatDoor
set_option maxRecDepth 100000
open Go Go.RowKit
structure Ne4 (i j k l : Nat) : Prop where
  ij : i ≠ j
  ik : i ≠ k
  il : i ≠ l
  jk : j ≠ k
  jl : j ≠ l
  kl : k ≠ l
section
variable {ys : List Int} {i j k l n : Nat} (hn : ys.length = n) (ne : Ne4 i j k l) (s : Q4)
end
end Go.Proofs.YtkpomobhjkikeaaGreatDoor
namespace Go.Proofs.YtkpomobhjkikeaaGreatDoor
set_option maxRecDepth 100000
open Go Go.RowKit
end Go.Proofs.YtkpomobhjkikeaaGreatDoor
namespace Go.Proofs.YtkpomobhjkikeaaGreatDoor
set_option maxRecDepth 100000
open Go Go.RowKit
end Go.Proofs.YtkpomobhjkikeaaGreatDoor
namespace Go.Proofs.YtkpomobhjkikeaaGreatDoor
set_option maxRecDepth 100000
open Go Go.RowKit
end Go.Proofs.YtkpomobhjkikeaaGreatDoor
namespace Go.Proofs.YtkpomobhjkikeaaGreatDoor
set_option maxRecDepth 100000
open Go Go.RowKit
end Go.Proofs.YtkpomobhjkikeaaGreatDoor
namespace Go.Proofs.YtkpomobhjkikeaaGreatDoor
set_option maxRecDepth 100000
open Go Go.RowKit
end Go.Proofs.YtkpomobhjkikeaaGreatDoor
namespace Go.Proofs.YtkpomobhjkikeaaGreatDoor
set_option maxRecDepth 100000
open Go.RowKit
structure But (g : Nat) (w w' : World) : Prop where
  os : w'.os = w.os
  tape : w'.tape = w.tape
  output : w'.output = w.output
  size : w.heap.size ≤ w'.heap.size
  block : ∀ k, k < w.heap.size → k ≠ g → w'.heap[k]? = w.heap[k]?
theorem But.of {g : Nat} {a b c : World} (h : Below a.heap.size a b) (k : Only g b c) : But g a c :=
  ⟨k.os.trans h.os, k.tape.trans h.tape, k.output.trans h.output, by rw [k.size]; exact h.size, fun i hi hne => (k.block i hne).trans (h.block i hi)⟩
theorem But.below {g B : Nat} {w w' : World} (h : But g w w') (hB : B ≤ g) (hs : B ≤ w.heap.size) : Below B w w' := ⟨h.os, h.tape, h.output, h.size, fun k hk => h.block k (by omega) (by omega)⟩
theorem Own.but {w w' : World} {g g' : Nat} {a : Option Addr} {k : IntKind} {xs : List Int} (h : Own w g a k xs) (ho : But g' w w') (hne : 0 < xs.length → g ≠ g') : Own w' g a k xs := by
  by_cases h0 : 0 < xs.length
  · exact h.of_block (ho.block g (h.rd.lt h0) (hne h0))
  · exact fun h1 => absurd h1 h0
set_option maxHeartbeats 400000 in
theorem lwCopy_any (w : World) (g : Nat) (a : Option Addr) (cap : Nat) (xs : List Int) (hr : Rd w g a .u8 xs) (hc : a = none → cap = 0) (hn : xs.length ≤ 1048576) :
    Calls Tryz.prog 8 #[.slice a xs.length cap] w fun e w' => NewRow w.heap.size w' e .u8 xs ∧ Below w.heap.size w w' := by
  obtain ⟨i0, hi, hz0, hz1, hz2⟩ := info_parts Tryz.info5
  have hown : (w.alloc (.cells #[] 5)).ownsRow w.heap.size 5 1 (.slice (some ⟨w.heap.size, 0, none⟩) 0 0) 0 [] := World.ownsRow_lit w #[] 0 (Nat.le_refl _) (by unfold maxLen; omega) (by simp)
  have hal : Below w.heap.size w (w.alloc (.cells #[] 5)) := (Below.refl _ _).alloc (Nat.le_refl _) _
  cases a with
  | none =>
    obtain rfl : xs = [] := by
      by_cases h0 : 0 < xs.length
      · obtain ⟨off, h, _⟩ := hr h0
        simp at h
      · exact List.eq_nil_of_length_eq_zero (by omega)
    obtain rfl := hc rfl
    go_enter Tryz.func8, Tryz.ntmps8
    go_wp2_with (at_builtin; refine wpList_append_own_none rfl _ _ 22 rfl w.heap.size 5 i0 1 Tryz.underlying22 hi _ 0 [] rfl hown rfl ?_)
    go_ret
    exact ⟨⟨_, _, w.heap.size, rfl, Own.nil _ _ _ _, by simp, Nat.zero_le _, Nat.le_refl _⟩, hal⟩
  | some ad =>
    have hcell : ∀ j u, (xs.map (Value.int .u8))[j]? = some u → (w.alloc (.cells #[] 5)).cell? (ad.add j) = some u := by
      intro j u hj
      have hjl : j < xs.length := by
        have := (List.getElem?_eq_some_iff.1 hj).1
        simpa using this
      obtain ⟨off, ha, hcc⟩ := (hr.up hal) (by omega)
      simp only [Option.some.injEq] at ha
      subst ha
      rw [Addr.add_mid, hcc j hjl]
      simpa [hjl] using hj
    have hone : ∀ u ∈ xs.map (Value.int .u8), u.oneCell' = true := by
      intro u hu
      obtain ⟨x, _, rfl⟩ := List.mem_map.1 hu
      rfl
    go_enter Tryz.func8, Tryz.ntmps8
    go_wp2_with (at_builtin; refine wpList_append_own _ rfl _ _ 22 rfl w.heap.size 5 i0 (.int .u8 0) 1 1 Tryz.underlying22 hi hz0 hz1 hz2 rfl (by decide) (.slice (some ⟨w.heap.size, 0, none⟩) 0 0) 0 [] rfl hown ad xs.length cap (xs.map (Value.int .u8)) rfl (by simp) hcell hone (by unfold maxLen; omega) (by omega) (by simp) ?_; intro v' w1 hown' hgrow _)
    simp only [Nat.zero_add, List.nil_append] at hown'
    obtain ⟨a', c', g', rfl, h1, h2, h3, h4⟩ := Own.of_ownsRow hown'
    have hB : Below w.heap.size w w1 := hal.grown hgrow (by simp) (by intro k hk; simp [Value.ownBlock] at hk; omega)
    clear hown' hgrow hown
    go_wp2
    go_ret
    exact ⟨⟨_, _, g', rfl, h1, h2, h3, h4⟩, hB⟩
def str (xs : List Int) : ByteArray := xs.foldl (fun r n => r.push (UInt8.ofNat n.toNat)) ByteArray.empty
theorem conv_run (w : World) (g : Nat) (a : Option Addr) (c : Nat) (xs : List Int) (hr : Rd w g a .u8 xs) : (convert 22 9 (.slice a xs.length c)).run Tryz.prog w = .ok (.string (str xs)) w := by
  rw [run_convert_bytes_string w 22 9 5 a xs.length c Tryz.underlying22 Tryz.underlying5 Tryz.underlying9]
  cases a with
  | none =>
    obtain rfl : xs = [] := by
      by_cases h0 : 0 < xs.length
      · obtain ⟨off, h, _⟩ := hr h0
        simp at h
      · exact List.eq_nil_of_length_eq_zero (by omega)
    simp [Conv.bytesToString, str]
  | some ad =>
    have hl := run_loadCells_list (P := Tryz.prog) w ad (xs.map (Value.int .u8)) (fun j v hj => by
      have hjl : j < xs.length := by
        have := (List.getElem?_eq_some_iff.1 hj).1
        simpa using this
      obtain ⟨off, ha, hcc⟩ := hr (by omega)
      simp only [Option.some.injEq] at ha
      subst ha
      rw [add_mid, hcc j hjl]
      simpa [hjl] using hj)
    rw [List.length_map] at hl
    exact run_bytesToString w ad xs.length c xs hl
set_option maxHeartbeats 400000 in
theorem lwSame_same (w : World) (g g' : Nat) (a b : Option Addr) (ca cb : Nat) (xs : List Int) (ha : Rd w g a .u8 xs) (hb : Rd w g' b .u8 xs) :
    Calls Tryz.prog 12 #[.slice a xs.length ca, .slice b xs.length cb] w fun e w' => e = .returned (.bool true) ∧ w' = w := by
  have h1 := conv_run w g a ca xs ha
  have h2 := conv_run w g' b cb xs hb
  generalize str xs = s at *
  go_enter Tryz.func12, Tryz.ntmps12
  go_wp2
  go_ret
  exact ⟨by simp, rfl⟩
structure Src (w : World) (s : Nat) (a : Option Addr) (n c : Nat) (at_ : Int) : Prop where
  code : w.cell? ⟨s, 0, none⟩ = some (.slice a n c)
  at_ : w.cell? ⟨s, 1, none⟩ = some (.int .i64 at_)
  free : w.frozen? ⟨s, 1, none⟩ = false
theorem Src.lt {w : World} {s : Nat} {a : Option Addr} {n c : Nat} {t : Int} (h : Src w s a n c t) : s < w.heap.size := block_lt_of_cell h.code
theorem Src.of_block {w w' : World} {s : Nat} {a : Option Addr} {n c : Nat} {t : Int} (h : Src w s a n c t) (hb : w'.heap[s]? = w.heap[s]?) : Src w' s a n c t :=
  ⟨(World.cell?_of_block (a := ⟨s, 0, none⟩) hb).trans h.code, (World.cell?_of_block (a := ⟨s, 1, none⟩) hb).trans h.at_, (World.frozen?_of_block (a := ⟨s, 1, none⟩) hb).trans h.free⟩
theorem Src.up {w w' : World} {s : Nat} {a : Option Addr} {n c : Nat} {t : Int} (h : Src w s a n c t) (hb : Below w.heap.size w w') : Src w' s a n c t := h.of_block (hb.block s h.lt)
theorem Src.step {w : World} {s : Nat} {a : Option Addr} {n c : Nat} {t : Int} (h : Src w s a n c t) (u : Int) (m : Nat) : Src ((w.setCell ⟨s, 1, none⟩ (.int .i64 u)).drewN m) s a n c u := by
  refine ⟨?_, ?_, ?_⟩
  · rw [World.cell?_drewN, World.cell?_setCell_other (h := by simp)]; exact h.code
  · rw [World.cell?_drewN, World.cell?_setCell_same _ _ _ h.at_]
  · rw [World.frozen?_drewN, World.frozen?_setCell]; exact h.free
theorem Only.step (w : World) (s : Nat) (u : Value) (m : Nat) : Only s w ((w.setCell ⟨s, 1, none⟩ u).drewN m) := (Only.setCell w s 1 u).trans (Only.drewN _ _ _)
set_option maxHeartbeats 2000000 in
theorem l1Next_any (w : World) (s g : Nat) (a : Option Addr) (c : Nat) (xs : List Int) (t n : Int) (hs : Src w s a xs.length c t) (hr : Rd w g a .u8 xs) (hne : 0 < xs.length → g ≠ s) (hb : Byt xs) (hl : xs.length ≤ 1048576)
    (t0 : 0 ≤ t) (t1 : t ≤ 1048576) (n0 : 1 ≤ n) (n1 : n ≤ 1099511627776) :
    Calls Tryz.prog 14 #[.pointer (some ⟨s, 0, none⟩), .int .i64 n] w fun e w' => ∃ r, e = .returned (.int .i64 r) ∧ (0 ≤ r ∧ r < n) ∧ Src w' s a xs.length c (t + 1) ∧ Only s w w' := by
  have c0 := hs.code
  have c1 := hs.at_
  have f1 := hs.free
  have k1 : (w.setCell ⟨s, 1, none⟩ (.int .i64 (t + 1))).cell? ⟨s, 1, none⟩ = some (.int .i64 (t + 1)) := World.cell?_setCell_same _ _ _ hs.at_
  have k0 : (w.setCell ⟨s, 1, none⟩ (.int .i64 (t + 1))).cell? ⟨s, 0, none⟩ = some (.slice a xs.length c) := by rw [World.cell?_setCell_other (h := by simp)]; exact hs.code
  have tn : decide (n < 1) = false := by simp; omega
  by_cases h0 : xs.length = 0
  · have hk : ((xs.length : Int) == 0) = true := by simp [h0]
    have r0 := Int.emod_nonneg (t * 7) (show n ≠ 0 by omega)
    have r1 := Int.emod_lt_of_pos (t * 7) (show 0 < n by omega)
    have S := hs.step (t + 1) 0
    have O := Only.step w s (.int .i64 (t + 1)) 0
    clear h0
    go_enter Tryz.func14, Tryz.ntmps14
    go_wp2
    go_ret
    exact ⟨_, rfl, ⟨r0, r1⟩, S, O⟩
  · have hk : ((xs.length : Int) == 0) = false := beq_eq_false_iff_ne.2 (by omega)
    obtain ⟨off, rfl, hc⟩ := hr (by omega)
    have gs : g ≠ s := hne (by omega)
    obtain ⟨i1, hi1⟩ := Int.eq_ofNat_of_zero_le (Int.emod_nonneg t (show (xs.length : Int) ≠ 0 by omega))
    have li1 : (i1 : Int) < (xs.length : Int) := by rw [← hi1]; exact Int.emod_lt_of_pos _ (by omega)
    obtain ⟨i2, hi2⟩ := Int.eq_ofNat_of_zero_le (Int.emod_nonneg (t + 1) (show (xs.length : Int) ≠ 0 by omega))
    have li2 : (i2 : Int) < (xs.length : Int) := by rw [← hi2]; exact Int.emod_lt_of_pos _ (by omega)
    obtain ⟨q, hq⟩ : ∃ q, t / (xs.length : Int) = q := ⟨_, rfl⟩
    have q0 : 0 ≤ q := by rw [← hq]; exact Int.ediv_nonneg t0 (by omega)
    have q1 : q ≤ 1048576 := by rw [← hq]; exact Int.le_trans (Int.ediv_le_self _ t0) t1
    have x1 : (w.setCell ⟨s, 1, none⟩ (.int .i64 (t + 1))).cell? ⟨g, off + i1, none⟩ = some (.int .u8 (xs.getD i1 0)) := by rw [World.cell?_setCell_other (h := fun e => gs (by simpa using (congrArg Addr.block e).symm))]; exact hc i1 (by omega)
    have x2 : (w.setCell ⟨s, 1, none⟩ (.int .i64 (t + 1))).cell? ⟨g, off + i2, none⟩ = some (.int .u8 (xs.getD i2 0)) := by rw [World.cell?_setCell_other (h := fun e => gs (by simpa using (congrArg Addr.block e).symm))]; exact hc i2 (by omega)
    have b1 := hb i1
    have b2 := hb i2
    have S := fun m => hs.step (t + 1) m
    have O := fun m => Only.step w s (.int .i64 (t + 1)) m
    generalize xs.getD i1 0 = x at *
    generalize xs.getD i2 0 = y at *
    clear hc hs hr h0
    by_cases hn : n ≤ 200
    · have tn2 : decide (200 < n) = false := by simp; omega
      have r0 := Int.emod_nonneg (x + q * 37) (show n ≠ 0 by omega)
      have r1 := Int.emod_lt_of_pos (x + q * 37) (show 0 < n by omega)
      clear x2 hi2 li2 b2
      go_enter Tryz.func14, Tryz.ntmps14
      go_wp2
      go_quiet (fail)
      go_wp2
      go_ret
      exact ⟨_, rfl, ⟨r0, r1⟩, S _, O _⟩
    · have tn2 : decide (200 < n) = true := by simp; omega
      have r0 := Int.emod_nonneg ((x + q * 37) * 251 + y * 13 + t) (show n ≠ 0 by omega)
      have r1 := Int.emod_lt_of_pos ((x + q * 37) * 251 + y * 13 + t) (show 0 < n by omega)
      go_enter Tryz.func14, Tryz.ntmps14
      go_wp2
      go_quiet (fail)
      go_wp2
      go_quiet (fail)
      go_wp2
      go_ret
      exact ⟨_, rfl, ⟨r0, r1⟩, S _, O _⟩
theorem But.refl (g : Nat) (w : World) : But g w w := ⟨rfl, rfl, rfl, Nat.le_refl _, fun _ _ _ => rfl⟩
theorem But.only {g : Nat} {a b c : World} (h : But g a b) (k : Only g b c) : But g a c :=
  ⟨k.os.trans h.os, k.tape.trans h.tape, k.output.trans h.output, by rw [k.size]; exact h.size, fun i hi hne => (k.block i hne).trans (h.block i hi hne)⟩
theorem But.grown {g : Nat} {a b c : World} {row : Option Nat} (h : But g a b) (k : b.grownBy c row) (hr : ∀ i, row = some i → a.heap.size ≤ i) : But g a c :=
  ⟨k.os.trans h.os, k.tape.trans h.tape, k.output.trans h.output, Nat.le_trans h.size k.size, fun i hi hne => (k.block i (Nat.lt_of_lt_of_le hi h.size) (fun e => by have := hr i e.symm; omega)).trans (h.block i hi hne)⟩
theorem But.trans {g : Nat} {a b c : World} (h : But g a b) (k : But g b c) : But g a c :=
  ⟨k.os.trans h.os, k.tape.trans h.tape, k.output.trans h.output, Nat.le_trans h.size k.size, fun i hi hne => (k.block i (Nat.lt_of_lt_of_le hi h.size) hne).trans (h.block i hi hne)⟩
theorem But.ofBelow {g : Nat} {a b : World} (h : Below a.heap.size a b) : But g a b := ⟨h.os, h.tape, h.output, h.size, fun i hi _ => h.block i hi⟩
theorem But.ofOnly {g : Nat} {a b : World} (h : Only g a b) : But g a b := (But.refl g a).only h
theorem Rd.but {w w' : World} {g g' : Nat} {a : Option Addr} {k : IntKind} {xs : List Int} (h : Rd w g a k xs) (ho : But g' w w') (hne : 0 < xs.length → g ≠ g') : Rd w' g a k xs := by
  by_cases h0 : 0 < xs.length
  · exact h.of_block (ho.block g (h.lt h0) (hne h0))
  · exact fun h1 => absurd h1 h0
theorem Only.grown {g : Nat} {a b : World} (h : Only g a b) : a.grownBy b (some g) := ⟨h.os, h.tape, h.output, Nat.le_of_eq h.size.symm, fun k _ hne => h.block k (fun e => hne (by rw [e]))⟩
theorem byt_snoc {ys : List Int} (h : Byt ys) (x : Int) (h0 : 0 ≤ x) (h1 : x < 256) : Byt (ys ++ [x]) := by
  intro i
  by_cases hi : i < ys.length
  · have := h i
    simpa [List.getElem?_append, hi] using this
  · by_cases e : i = ys.length
    · subst e; simp; exact ⟨h0, h1⟩
    · rw [List.getD_eq_getElem?_getD, List.getElem?_eq_none (by simp; omega)]
      decide
theorem But.setCell {g b off : Nat} {a w : World} {u : Value} (h : But g a w) (hb : a.heap.size ≤ b) : But g a (w.setCell ⟨b, off, none⟩ u) :=
  ⟨h.os, h.tape, h.output, by simpa [World.setCell] using h.size, fun k hk hne => (heap_setCell_other w ⟨b, off, none⟩ k u (by show k ≠ b; omega)).trans (h.block k hk hne)⟩
set_option maxHeartbeats 400000 in
theorem l1Source_any (w : World) (a : Option Addr) (n c : Nat) (hn : n ≤ 1048576) :
    Calls Tryz.prog 13 #[.slice a n c] w fun e w' => e = .returned (.pointer (some ⟨w.heap.size, 0, none⟩)) ∧ Src w' w.heap.size a n c 0 ∧ Below w.heap.size w w' := by
  by_cases h : 12 < (n : Int) / 16
  · have t1 : decide (12 < (n : Int) / 16) = true := by simp; omega
    go_enter Tryz.func13, Tryz.ntmps13
    go_wp2
    go_ret
    exact ⟨rfl, ⟨by simp [World.cell?_alloc_at], by simp [World.cell?_alloc_at], by simp [World.frozen?_alloc_at]⟩, (Below.refl _ _).alloc (Nat.le_refl _) _⟩
  · have t1 : decide (12 < (n : Int) / 16) = false := by simp; omega
    go_enter Tryz.func13, Tryz.ntmps13
    go_wp2
    go_ret
    exact ⟨rfl, ⟨by simp [World.cell?_alloc_at], by simp [World.cell?_alloc_at], by simp [World.frozen?_alloc_at]⟩, (Below.refl _ _).alloc (Nat.le_refl _) _⟩
set_option maxHeartbeats 400000 in
theorem l1Chance_any (w : World) (s g : Nat) (a : Option Addr) (c : Nat) (xs : List Int) (t n : Int) (hs : Src w s a xs.length c t) (hr : Rd w g a .u8 xs) (hne : 0 < xs.length → g ≠ s) (hb : Byt xs) (hl : xs.length ≤ 1048576)
    (t0 : 0 ≤ t) (t1 : t ≤ 1048576) (n0 : 1 ≤ n) (n1 : n ≤ 1048576) :
    Calls Tryz.prog 15 #[.pointer (some ⟨s, 0, none⟩), .int .i64 n] w fun e w' => ∃ b, e = .returned (.bool b) ∧ Src w' s a xs.length c (t + 1) ∧ Only s w w' := by
  go_enter Tryz.func15, Tryz.ntmps15
  go_wp2_with fail
  refine (l1Next_any w s g a c xs t n hs hr hne hb hl t0 t1 n0 (by omega)).mono ?_
  rintro e w1 ⟨r, rfl, _, S1, O1⟩
  go_wp2
  go_ret
  exact ⟨_, rfl, S1, O1⟩
end Go.Proofs.YtkpomobhjkikeaaGreatDoor
namespace Go.Proofs.YtkpomobhjkikeaaGreatDoor
set_option maxRecDepth 100000
open Go.RowKit
theorem str_data : ∀ (xs : List Int) (acc : ByteArray), (xs.foldl (fun r n => r.push (UInt8.ofNat n.toNat)) acc).data = acc.data ++ (xs.map (fun n => UInt8.ofNat n.toNat)).toArray
  | [], acc => by simp
  | x :: r, acc => by
    rw [List.foldl_cons, str_data r]
    simp [ByteArray.push]
theorem toList_inj {s t : ByteArray} (h : s.toList = t.toList) : s = t := by
  rw [ByteArray.toList_eq, ByteArray.toList_eq] at h
  have := Array.ext' h
  cases s; cases t; simp_all
theorem str_inj {xs ys : List Int} (hx : Byt xs) (hy : Byt ys) (h : str xs = str ys) : xs = ys := by
  have h1 : (xs.map (fun n => UInt8.ofNat n.toNat)) = (ys.map (fun n => UInt8.ofNat n.toNat)) := by
    have := congrArg ByteArray.data h
    unfold str at this
    rw [str_data, str_data] at this
    simpa using this
  have hl : xs.length = ys.length := by have := congrArg List.length h1; simpa using this
  refine eq_of_getD hl (fun i hi => ?_)
  have h2 : (xs.map (fun n => UInt8.ofNat n.toNat))[i]? = (ys.map (fun n => UInt8.ofNat n.toNat))[i]? := by rw [h1]
  have a := hx i
  have b := hy i
  have hi' : i < ys.length := by omega
  simp [hi, hi'] at h2 a b ⊢
  have h3 := congrArg UInt8.toNat h2
  simp at h3
  omega
end Go.Proofs.YtkpomobhjkikeaaGreatDoor
namespace Go.Proofs.YtkpomobhjkikeaaGreatDoor
set_option maxRecDepth 100000
open Go Go.RowKit
end Go.Proofs.YtkpomobhjkikeaaGreatDoor
namespace Go.Proofs.YtkpomobhjkikeaaGreatDoor
set_option maxRecDepth 100000
open Go.RowKit
end Go.Proofs.YtkpomobhjkikeaaGreatDoor
namespace Go.Proofs.YtkpomobhjkikeaaGreatDoor
set_option maxRecDepth 100000
open Go.RowKit
end Go.Proofs.YtkpomobhjkikeaaGreatDoor
namespace Go.Proofs.YtkpomobhjkikeaaGreatDoor
set_option maxRecDepth 100000
open Go Go.RowKit
theorem RowB.but {w w' : World} {base q : Nat} {v : Value} {xs : List Int} (h : RowB w base v xs) (ho : But q w w') (hq : ∀ k, v.ownBlock = some k → k ≠ q) : RowB w' base v xs := by
  refine ⟨h.1, ?_⟩
  rcases h.2 with h' | ⟨g, cap, cur, rfl, hbg, hg, hnc, hcm, hcs, ht⟩
  · exact .inl h'
  · exact .inr ⟨g, cap, cur, rfl, hbg, by rw [ho.block g (Array.getElem?_eq_some_iff.1 hg).1 (hq g rfl)]; exact hg, hnc, hcm, hcs, ht⟩
end Go.Proofs.YtkpomobhjkikeaaGreatDoor
namespace Go.Proofs.YtkpomobhjkikeaaGreatDoor
set_option maxRecDepth 100000
open Go.RowKit
set_option maxHeartbeats 2000000 in
theorem lwAt_any (w : World) (g : Nat) (a : Option Addr) (c : Nat) (xs : List Int) (i n : Int) (hr : Rd w g a .u8 xs) (hb : Byt xs) (hl : xs.length ≤ 1048576) (i0 : 0 ≤ i) (i1 : i ≤ 1000) (n0 : 2 ≤ n) (n1 : n ≤ 1048576) :
    Calls Tryz.prog 5 #[.slice a xs.length c, .int .i64 i, .int .i64 n] w fun e w' => ∃ r : Nat, e = .returned (.int .i64 (r : Int)) ∧ (r : Int) < n ∧ ∃ m, w' = w.drewN m := by
  have tn : decide (n ≤ 1) = false := by simp; omega
  by_cases h0 : xs.length = 0
  · have hk : ((xs.length : Int) == 0) = true := by simp [h0]
    obtain ⟨r, hr'⟩ := Int.eq_ofNat_of_zero_le (Int.emod_nonneg (i * 7) (show n ≠ 0 by omega))
    have r1 := Int.emod_lt_of_pos (i * 7) (show 0 < n by omega)
    rw [hr'] at r1
    have HR := hide hr'
    clear h0 hr'
    go_enter Tryz.func5, Tryz.ntmps5
    go_wp2
    go_ret
    exact ⟨r, congrArg (fun v => Ending.returned (.int .i64 v)) HR.out, r1, 0, rfl⟩
  · have hk : ((xs.length : Int) == 0) = false := beq_eq_false_iff_ne.2 (by omega)
    obtain ⟨off, rfl, hc⟩ := hr (by omega)
    obtain ⟨j1, hi1⟩ := Int.eq_ofNat_of_zero_le (Int.emod_nonneg i (show (xs.length : Int) ≠ 0 by omega))
    have li1 : (j1 : Int) < (xs.length : Int) := by rw [← hi1]; exact Int.emod_lt_of_pos _ (by omega)
    obtain ⟨j2, hi2⟩ := Int.eq_ofNat_of_zero_le (Int.emod_nonneg (i + 1) (show (xs.length : Int) ≠ 0 by omega))
    have li2 : (j2 : Int) < (xs.length : Int) := by rw [← hi2]; exact Int.emod_lt_of_pos _ (by omega)
    obtain ⟨q, hq⟩ : ∃ q, i / (xs.length : Int) = q := ⟨_, rfl⟩
    have q0 : 0 ≤ q := by rw [← hq]; exact Int.ediv_nonneg i0 (by omega)
    have q1 : q ≤ 1000 := by rw [← hq]; exact Int.le_trans (Int.ediv_le_self _ i0) i1
    have x1 := hc j1 (by omega)
    have x2 := hc j2 (by omega)
    have b1 := hb j1
    have b2 := hb j2
    generalize xs.getD j1 0 = x at *
    generalize xs.getD j2 0 = y at *
    clear hc hr h0
    by_cases hn : n ≤ 200
    · have tn2 : decide (200 < n) = false := by simp; omega
      obtain ⟨r, hr'⟩ := Int.eq_ofNat_of_zero_le (Int.emod_nonneg (x + q) (show n ≠ 0 by omega))
      have r1 := Int.emod_lt_of_pos (x + q) (show 0 < n by omega)
      rw [hr'] at r1
      have HR := hide hr'
      clear x2 hi2 li2 b2 hr'
      go_enter Tryz.func5, Tryz.ntmps5
      go_wp2
      go_quiet (fail)
      go_wp2
      go_ret
      exact ⟨r, congrArg (fun v => Ending.returned (.int .i64 v)) HR.out, r1, _, rfl⟩
    · have tn2 : decide (200 < n) = true := by simp; omega
      obtain ⟨r, hr'⟩ := Int.eq_ofNat_of_zero_le (Int.emod_nonneg ((x + q) * 37 + y) (show n ≠ 0 by omega))
      have r1 := Int.emod_lt_of_pos ((x + q) * 37 + y) (show 0 < n by omega)
      rw [hr'] at r1
      have HR := hide hr'
      clear hr'
      go_enter Tryz.func5, Tryz.ntmps5
      go_wp2
      go_quiet (fail)
      go_wp2
      go_ret
      exact ⟨r, congrArg (fun v => Ending.returned (.int .i64 v)) HR.out, r1, _, rfl⟩
theorem copy_min {P : Program} (w : World) (ty rt e : TypeId) (hu : P.underlying ty = some (.slice e)) (hsz : (P.info? e).map (·.size) = some 1) {g : Nat} {k : IntKind} {zs : List Int} (hB : Blk w g k zs)
    (gs : Nat) (sp : Option Addr) (ys : List Int) (hr : Rd w gs sp k ys) (dc sc : Nat) :
    ∃ w2, (Builtin.copy_ #[ty, ty] rt #[.slice (some ⟨g, 0, none⟩) zs.length dc, .slice sp ys.length sc]).run P w = .ok (goInt (ys.take zs.length).length) w2 ∧ Blk w2 g k (ys.take zs.length ++ zs.drop (ys.take zs.length).length) ∧ Only g w w2 := by
  by_cases h0 : 0 < ys.length
  · obtain ⟨off, rfl, hc⟩ := hr h0
    obtain ⟨t, hB⟩ := hB
    have hrun := run_copy_row (P := P) w ty ty rt e g 0 zs.length dc ⟨gs, off, none⟩ ys.length sc _ t ((ys.take zs.length).map (Value.int k)) hu hsz hB (by simp [Nat.min_comm])
      (fun j v hj => by
        have hjl : j < (ys.take zs.length).length := by
          have := (List.getElem?_eq_some_iff.1 hj).1
          simpa using this
        have hj1 : j < ys.length := by simp at hjl; omega
        have hj2 : j < zs.length := by simp at hjl; omega
        rw [add_mid, hc j hj1]
        simpa [hj1, hj2, List.getElem?_take] using hj) (by simp; omega) (oneCells _ _)
    rw [List.length_map] at hrun
    refine ⟨_, hrun, ⟨t, ?_⟩, ⟨rfl, rfl, rfl, by simp, fun i hi => setRow_other w g i _ hi⟩⟩
    rw [setRow_heap w g _ _ t _ hB]
    simp
  · obtain rfl : ys = [] := List.eq_nil_of_length_eq_zero (by omega)
    exact ⟨w, by simpa using run_copy_none (P := P) w ty ty rt e _ _ _ _ _ _ hu hsz (by simp), by simpa using hB, Only.refl _ _⟩
def to32 (xs : List Int) : List Int := xs.take 32 ++ (List.replicate 32 0).drop (xs.take 32).length
theorem to32_len (xs : List Int) : (to32 xs).length = 32 := by
  unfold to32
  rw [List.length_append, List.length_drop, List.length_replicate, List.length_take]
  omega
theorem to32_byt {xs : List Int} (h : Byt xs) : Byt (to32 xs) := by
  intro i
  unfold to32
  by_cases hi : i < (xs.take 32).length
  · have h1 := h i
    have h2 : i < 32 := by simp at hi; omega
    have e : (xs.take 32 ++ (List.replicate 32 (0 : Int)).drop (xs.take 32).length).getD i 0 = xs.getD i 0 := by
      rw [List.getD_eq_getElem?_getD, List.getElem?_append, if_pos hi, List.getElem?_take, if_pos h2, List.getD_eq_getElem?_getD]
    rw [e]; exact h1
  · rw [List.getD_eq_getElem?_getD, List.getElem?_append, if_neg hi, List.getElem?_drop, List.getElem?_replicate]
    split <;> simp
end Go.Proofs.YtkpomobhjkikeaaGreatDoor
namespace Go.Proofs.YtkpomobhjkikeaaGreatDoor
set_option maxRecDepth 100000
open Go Go.RowKit
theorem opT_seA {key non ex plain : List Int} (h : fitK key non = true) : opT (seA key non ex plain) = xt key non plain ∧ opS (seA key non ex plain) = ssB (nsW key non) ex (xt key non plain) ∧ (seA key non ex plain).length = plain.length + 16 := by
  have e : seA key non ex plain = xt key non plain ++ ssB (nsW key non) ex (xt key non plain) := by unfold seA; rw [if_pos h]
  have l : (seA key non ex plain).length = plain.length + 16 := by rw [e, List.length_append, xt_len, ssB_len]
  have d : (seA key non ex plain).length - 16 = (xt key non plain).length := by rw [l, xt_len]; omega
  refine ⟨?_, ?_, l⟩
  · unfold opT
    rw [d, e, List.take_left]
  · unfold opS
    rw [d, e, List.drop_left]
theorem open_seal {key non ex plain : List Int} (h : fitK key non = true) (hb : Byt plain) : opB key non ex (seA key non ex plain) = true ∧ opL key non ex (seA key non ex plain) = plain := by
  obtain ⟨h1, h2, h3⟩ := opT_seA (ex := ex) (plain := plain) h
  have B : opB key non ex (seA key non ex plain) = true := by
    unfold opB
    rw [h, h1, h2, h3, decide_eq_true (show 16 ≤ plain.length + 16 by omega)]
    simp
  refine ⟨B, ?_⟩
  unfold opL
  rw [if_pos B, h1, xt_xt key non hb]
def DR (w : World) (v : Value) (xs : List Int) : Prop := ∃ (a : Option Addr) (c g : Nat), v = .slice a xs.length c ∧ Rd w g a .u8 xs ∧ (a = none → c = 0) ∧ xs.length ≤ c
theorem DR.up {w w' : World} {v : Value} {xs : List Int} (h : DR w v xs) (n : Below w.heap.size w w') : DR w' v xs := by
  obtain ⟨a, c, g, e, r, p, q⟩ := h
  exact ⟨a, c, g, e, r.up n, p, q⟩
theorem DR.of {w : World} {B : Nat} {e : Ending} {xs : List Int} (h : NewRow B w e .u8 xs) : ∃ v, e = .returned v ∧ DR w v xs := by
  obtain ⟨a, c, g, e, o, p, q, _⟩ := h
  exact ⟨_, e, a, c, g, rfl, o.rd, p, q⟩
theorem copyC (w : World) (v : Value) (xs : List Int) (h : DR w v xs) (hn : xs.length ≤ 1048576) : Calls Tryz.prog 8 #[v] w fun e w' => ∃ v', e = .returned v' ∧ DR w' v' xs ∧ Below w.heap.size w w' := by
  obtain ⟨a, c, g, rfl, r, p, q⟩ := h
  exact (lwCopy_any w g a c xs r p hn).mono (by rintro e w' ⟨h, n⟩; obtain ⟨v', e', d⟩ := DR.of h; exact ⟨v', e', d, n⟩)
theorem sameC (w : World) (v1 v2 : Value) (xs : List Int) (h1 : DR w v1 xs) (h2 : DR w v2 xs) : Calls Tryz.prog 12 #[v1, v2] w fun e w' => e = .returned (.bool true) ∧ w' = w := by
  obtain ⟨a1, c1, g1, rfl, r1, p1, q1⟩ := h1
  obtain ⟨a2, c2, g2, rfl, r2, p2, q2⟩ := h2
  exact lwSame_same w g1 g2 a1 a2 c1 c2 xs r1 r2
end Go.Proofs.YtkpomobhjkikeaaGreatDoor
namespace Go.Proofs.YtkpomobhjkikeaaGreatDoor
set_option maxRecDepth 100000
open Go Go.RowKit
theorem tz_zeros (xs : List Int) : ∀ (m n : Nat), (∀ i, n ≤ i → i < n + m → xs.getD i 0 = 0) → tz xs (n + m) = tz xs n
  | 0, n, _ => rfl
  | m + 1, n, h => by
    show (if xs.getD (n + m) 0 = 0 then tz xs (n + m) else n + m + 1) = _
    rw [if_pos (h (n + m) (by omega) (by omega))]
    exact tz_zeros xs m n fun i h1 h2 => h i h1 (by omega)
theorem isK_ne {k : Int} (h : isK k = true) : k ≠ 0 ∧ bigL k 1 = [k] ∧ 0 ≤ k ∧ k < 256 := by
  have := isK_rng h
  refine ⟨by omega, ?_, by omega, by omega⟩
  simp [bigL, List.range_succ]
  omega
theorem in_back {k : Int} {xs : List Int} (pad : Nat) (hk : isK k = true) : tz (inL k xs pad) (inL k xs pad).length = xs.length + 1 ∧ inK (inL k xs pad) = k ∧ inD (inL k xs pad) = xs := by
  obtain ⟨k0, kb, -, -⟩ := isK_ne hk
  have e : inL k xs pad = xs ++ ([k] ++ List.replicate pad 0) := by unfold inL; rw [kb]
  have gk : (inL k xs pad).getD xs.length 0 = k := by rw [e]; simp [List.getD]
  have gz : ∀ i, xs.length + 1 ≤ i → i < xs.length + 1 + pad → (inL k xs pad).getD i 0 = 0 := fun i h1 h2 => by
    rw [e, List.getD, List.getElem?_append_right (by omega), List.getElem?_append_right (by simp; omega)]
    simp only [List.length_cons, List.length_nil]
    rw [List.getElem?_replicate, if_pos (by omega)]
    rfl
  have t : tz (inL k xs pad) (inL k xs pad).length = xs.length + 1 := by
    rw [inL_len, tz_zeros _ pad (xs.length + 1) gz]
    show (if (inL k xs pad).getD xs.length 0 = 0 then _ else xs.length + 1) = _
    rw [gk, if_neg k0]
  refine ⟨t, ?_, ?_⟩
  · unfold inK
    rw [t]
    exact gk
  · unfold inD
    rw [t, e]
    simp
theorem inL_bytR {k : Int} {xs : List Int} (pad : Nat) (hk : isK k = true) (hb : Byt xs) : Byt (inL k xs pad) := by
  obtain ⟨-, kb, h0, h1⟩ := isK_ne hk
  unfold inL
  rw [kb]
  refine byt_app hb (byt_app (fun i => ?_) fun i => ?_)
  · match i with
    | 0 => exact ⟨h0, h1⟩
    | n + 1 => exact ⟨by simp, by simp⟩
  · have : (List.replicate pad (0 : Int)).getD i 0 = 0 := by
      rw [List.getD, List.getElem?_replicate]
      split <;> rfl
    rw [this]
    exact ⟨by decide, by decide⟩
def sdP (K V : List Int) (q k : Int) (xs : List Int) (pad : Int) : List Int := seA K (rnA V q) (hdL 23 (szP xs.length pad)) (inL k xs pad.toNat)
theorem rec_back {K V : List Int} {q k : Int} {xs : List Int} {pad : Int} (h : okP K V q k xs.length pad) (hb : Byt xs) :
    (prA K V q k xs pad).length = xs.length + pad.toNat + 20 ∧ cutC (prA K V q k xs pad) = 0 ∧ cutL (prA K V q k xs pad) = [] ∧ cutR (prA K V q k xs pad) = [(23, sdP K V q k xs pad)] ∧
      upN K V q (sdP K V q k xs pad) = 0 ∧ upK K V q (sdP K V q k xs pad) = k ∧ upD K V q (sdP K V q k xs pad) = xs ∧ Byt (sdP K V q k xs pad) ∧ (sdP K V q k xs pad).length ≤ 2321 ∧ Byt (prA K V q k xs pad) := by
  obtain ⟨⟨h32, h12⟩, ⟨hk, hn, hne⟩, p0, p1⟩ := h
  have hf : fitK K (rnA V q) = true := by unfold fitK; simp [h32, h12]
  have bi := inL_bytR pad.toNat hk hb
  have sl : (sdP K V q k xs pad).length = xs.length + pad.toNat + 17 := by
    have := (opT_seA (ex := hdL 23 (szP xs.length pad)) (plain := inL k xs pad.toNat) hf).2.2
    unfold sdP
    rw [this, inL_len]
    omega
  have sb : Byt (sdP K V q k xs pad) := seA_byt bi
  have sz : szP xs.length pad = ((sdP K V q k xs pad).length : Int) := by
    rw [sl]
    unfold szP
    omega
  have g : gdR (23, sdP K V q k xs pad) := ⟨rfl, by show 1 ≤ (sdP K V q k xs pad).length; omega, by show (sdP K V q k xs pad).length ≤ 2321; omega, sb⟩
  have e : prA K V q k xs pad = flR [(23, sdP K V q k xs pad)] := by
    unfold prA
    rw [if_pos ⟨⟨h32, h12⟩, ⟨hk, hn, hne⟩, p0, p1⟩]
    show hdL 23 (szP xs.length pad) ++ sdP K V q k xs pad = enA 23 (sdP K V q k xs pad) ++ []
    rw [List.append_nil]
    unfold enA
    rw [if_pos ⟨rfl, g.2.1, g.2.2.1⟩, sz]
  have hbp : Byt (flR [(23, sdP K V q k xs pad)]) := by
    show Byt (enA 23 (sdP K V q k xs pad) ++ [])
    rw [List.append_nil, show enA 23 (sdP K V q k xs pad) = enA (23, sdP K V q k xs pad).1 (23, sdP K V q k xs pad).2 from rfl, enA_is g]
    refine byt_app (fun i => ?_) sb
    match i with
    | 0 => exact ⟨by simp, by simp⟩
    | 1 => exact ⟨by simp; omega, by simp; omega⟩
    | 2 => exact ⟨by simp; omega, by simp; omega⟩
    | n + 3 => exact ⟨by simp, by simp⟩
  have c := cut_flR (xs := flR [(23, sdP K V q k xs pad)]) hbp [(23, sdP K V q k xs pad)] [] (by simp) (fun r hr => by rw [List.mem_singleton.1 hr]; exact g) rcT_nil
  have os := open_seal (ex := hdL 23 (szP xs.length pad)) hf bi
  have ul : upL K V q (sdP K V q k xs pad) = inL k xs pad.toNat := by
    unfold upL
    rw [← sz]
    exact os.2
  obtain ⟨i1, i2, i3⟩ := in_back (xs := xs) pad.toNat hk
  have un : upN K V q (sdP K V q k xs pad) = 0 := by
    unfold upN
    rw [if_pos ⟨h32, h12⟩, if_pos (by omega), ← sz, if_pos (show opB K (rnA V q) (hdL 23 (szP xs.length pad)) (sdP K V q k xs pad) = true from os.1), ul]
    unfold riN
    rw [i1, i2, i3, if_neg (by omega), if_pos hk, if_neg (by omega), if_neg hne]
  refine ⟨?_, ?_, ?_, ?_, un, ?_, ?_, sb, g.2.2.1, ?_⟩
  · rw [e]
    show (enA 23 (sdP K V q k xs pad) ++ []).length = _
    rw [List.append_nil, show enA 23 (sdP K V q k xs pad) = enA (23, sdP K V q k xs pad).1 (23, sdP K V q k xs pad).2 from rfl, enA_ln g]
    show 3 + (sdP K V q k xs pad).length = _
    omega
  · rw [e]; exact c.2.1
  · rw [e]; exact c.2.2
  · rw [e]; exact c.1
  · unfold upK
    rw [if_pos un, ul, i2]
  · unfold upD
    rw [if_pos un, ul, i3]
  · rw [e]; exact hbp
end Go.Proofs.YtkpomobhjkikeaaGreatDoor
namespace Go.Proofs.YtkpomobhjkikeaaGreatDoor
set_option maxRecDepth 100000
open Go Go.RowKit
end Go.Proofs.YtkpomobhjkikeaaGreatDoor
namespace Go.Proofs.YtkpomobhjkikeaaGreatDoor
set_option maxRecDepth 100000
open Go Go.RowKit
end Go.Proofs.YtkpomobhjkikeaaGreatDoor
namespace Go.Proofs.YtkpomobhjkikeaaGreatDoor
set_option maxRecDepth 100000
open Go Go.RowKit
end Go.Proofs.YtkpomobhjkikeaaGreatDoor
