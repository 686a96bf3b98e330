import Derived.Test.YtkglcainhkbgbaaGreatDoorRows
import Derived.Test.YtkglcainhkbgbaaGreatDoorTie
import Derived.Test.YtkglcainhkbgbaaGreatDoorCards
import Derived.Test.YtkglcainhkbgbaaGreatDoorSG52
import Derived.LaidMore
import Derived.OpenVars
import Derived.Stop.Joined
import Derived.SevenTiedAt
import Derived.WalkKit
import Derived.ProofKit
import Derived.OpenShut
import Derived.ShutString
import Derived.ChangeOld
import Derived.Below
namespace Go.Proofs.YtkglcainhkbgbaaGreatDoor.fnSigned
open Go.ChangeShapes Go.WideShapes Go.ChangeAt Go.RowKit
open Go.ChangeMaps (open_string shut_string)
set_option linter.unusedVariables false

theorem own : ownKnob Tryz.prog.godebug = none := by kernel_rfl
theorem door_met (os : Os) (args : Array Value) : laidMetH Tryz.prog Rows.fnSignedRow.laid ((World.doorLaid Tryz.prog 91 os).forCall (fun _ _ => 0) ⟨#[], args, []⟩).memory :=
  laidMetH_of_parts3 (fuel := 8) (laidMet_of_run' 8 (by kernel_rfl) (by kernel_rfl)) (by kernel_rfl) (by kernel_rfl)
theorem laidOut : laidOutB Tryz.prog = true := by kernel_rfl

def IsRow (k : IntKind) (w : World) (a : Option Addr) (len cap : Nat) (zs : List Int) : Prop :=
  (a = none ∧ len = 0 ∧ cap = 0 ∧ zs = []) ∨
  ∃ x, a = some x ∧ len ≤ cap ∧ cap ≤ maxLen ∧ zs.length = cap ∧ (∀ i, i < zs.length → w.cell? (x.add i) = some (.int k (zs.getD i 0))) ∧ ∀ n ∈ zs, (Lit.int k n).wf = true

theorem walk (a0 : Option Addr) (len0 cap0 : Nat) (z0 : List Int) (w : World) (w0 : IsRow .u8 w a0 len0 cap0 z0) (hL : laidMetH Tryz.prog Rows.fnSignedRow.laid w) :
    Calls Tryz.prog 3 #[.slice a0 len0 cap0] w fun e w' => e = .returned (.bool true) ∧ Below w.heap.size w w' := by
  obtain ⟨g0, x0, rfl, r0, b0⟩ := rd_of_row w0
  exact signed_law w g0 a0 cap0 x0 r0 b0 (laid_signed hL)

set_option maxRecDepth 100000 in
theorem lifted (os : Os) (started : os.Started) (H : Type) (enc : TypeId × Value → H) :
    ReturnsInHanded {} Tryz.checked os 3 .any (fun w args => (Rows.fnSignedSpec.pre enc Tryz.prog Tryz.f3 [] false w args ∧ laidMetH Tryz.prog Rows.fnSignedRow.laid w) ∧ sizedMet enc Tryz.prog Tryz.f3 (OpenSpec.ofChange Rows.fnSignedSpec) false w args) (Rows.fnSignedSpec.post enc Tryz.prog Tryz.f3 false true false false) := by
  refine returnsInHanded_of_change_and (C := Tryz.checked) (X := fun w _ => laidMetH Tryz.prog Rows.fnSignedRow.laid w) (fun _ _ _ hh h => h.of_heap hh) own started (by kernel_rfl) Tryz.func3
    (ChangeSpec.witness_shaped (enc := enc) (C := Tryz.checked) (os := os) (X := fun w _ => laidMetH Tryz.prog Rows.fnSignedRow.laid w) false (World.doorLaid Tryz.prog 91 os) #[.slice none 0 0] 8 rfl (World.shaped_of_RefB (by kernel_rfl) (by kernel_rfl)) (by kernel_rfl) (by kernel_rfl) (by kernel_rfl) (door_met os _)) ?_
  intro W base args ds gs before hval0 hW hcnd _ hL _
  have hval : ∀ (j : Nat) t v, Tryz.f3.params[j]? = some t → args[j]? = some v → Value.okWide Tryz.prog W .any base t v := hval0
  have hW' := hW
  obtain ⟨p, q, hA0, hV, rfl, hfz, hnd⟩ := hW
  have hA : DataW.TrodAll enc Tryz.prog W 0 (fun _ => true) true Tryz.f3.params.toList args.toList ds p := hA0
  rw [Tryz.params3] at hA hval
  obtain ⟨v0, vs0, d0, ds0, p0, q0, hargs, rfl, rfl, h0, r0⟩ := trodAll_cons hA
  obtain ⟨rfl, rfl, rfl⟩ := trodAll_nil r0
  obtain rfl : args = #[v0] := by cases args; simp_all
  have hV0 := hV
  obtain ⟨v_0, t_0, rfl⟩ : ∃ g t, gs = g :: t := by
    cases gs with
    | nil => exact hV0.elim
    | cons g t => exact ⟨g, t, rfl⟩
  obtain ⟨_, _, _, _, _, _, _, _, _, _, hV1, _⟩ := hV0
  obtain ⟨v_1, t_1, rfl⟩ : ∃ g t, t_0 = g :: t := by
    cases t_0 with
    | nil => exact hV1.elim
    | cons g t => exact ⟨g, t, rfl⟩
  obtain ⟨_, _, _, _, _, _, _, _, _, _, hV2, _⟩ := hV1
  obtain ⟨v_2, t_2, rfl⟩ : ∃ g t, t_1 = g :: t := by
    cases t_1 with
    | nil => exact hV2.elim
    | cons g t => exact ⟨g, t, rfl⟩
  obtain ⟨_, _, _, _, _, _, _, _, _, _, hV3, _⟩ := hV2
  obtain ⟨v_3, t_3, rfl⟩ : ∃ g t, t_2 = g :: t := by
    cases t_2 with
    | nil => exact hV3.elim
    | cons g t => exact ⟨g, t, rfl⟩
  obtain ⟨_, _, _, _, _, _, _, _, _, _, hV4, _⟩ := hV3
  obtain ⟨v_4, t_4, rfl⟩ : ∃ g t, t_3 = g :: t := by
    cases t_3 with
    | nil => exact hV4.elim
    | cons g t => exact ⟨g, t, rfl⟩
  obtain ⟨_, _, _, _, _, _, _, _, _, _, hV5, _⟩ := hV4
  obtain ⟨v_5, t_5, rfl⟩ : ∃ g t, t_4 = g :: t := by
    cases t_4 with
    | nil => exact hV5.elim
    | cons g t => exact ⟨g, t, rfl⟩
  obtain ⟨_, _, _, _, _, _, _, _, _, _, hV6, _⟩ := hV5
  obtain ⟨v_6, t_6, rfl⟩ : ∃ g t, t_5 = g :: t := by
    cases t_5 with
    | nil => exact hV6.elim
    | cons g t => exact ⟨g, t, rfl⟩
  obtain ⟨_, _, _, _, _, _, _, _, _, _, hV7, _⟩ := hV6
  obtain ⟨v_7, t_7, rfl⟩ : ∃ g t, t_6 = g :: t := by
    cases t_6 with
    | nil => exact hV7.elim
    | cons g t => exact ⟨g, t, rfl⟩
  obtain ⟨_, _, _, _, _, _, _, _, _, _, hV8, _⟩ := hV7
  obtain ⟨v_8, t_8, rfl⟩ : ∃ g t, t_7 = g :: t := by
    cases t_7 with
    | nil => exact hV8.elim
    | cons g t => exact ⟨g, t, rfl⟩
  obtain ⟨_, _, _, _, _, _, _, _, _, _, hV9, _⟩ := hV8
  obtain ⟨v_9, t_9, rfl⟩ : ∃ g t, t_8 = g :: t := by
    cases t_8 with
    | nil => exact hV9.elim
    | cons g t => exact ⟨g, t, rfl⟩
  obtain ⟨_, _, _, _, _, _, _, _, _, _, hV10, _⟩ := hV9
  obtain ⟨v_10, t_10, rfl⟩ : ∃ g t, t_9 = g :: t := by
    cases t_9 with
    | nil => exact hV10.elim
    | cons g t => exact ⟨g, t, rfl⟩
  obtain ⟨_, _, _, _, _, _, _, _, _, _, hV11, _⟩ := hV10
  obtain ⟨v_11, t_11, rfl⟩ : ∃ g t, t_10 = g :: t := by
    cases t_10 with
    | nil => exact hV11.elim
    | cons g t => exact ⟨g, t, rfl⟩
  obtain ⟨_, _, _, _, _, _, _, _, _, _, hV12, _⟩ := hV11
  obtain ⟨v_12, t_12, rfl⟩ : ∃ g t, t_11 = g :: t := by
    cases t_11 with
    | nil => exact hV12.elim
    | cons g t => exact ⟨g, t, rfl⟩
  obtain ⟨_, _, _, _, _, _, _, _, _, _, hV13, _⟩ := hV12
  obtain rfl : t_12 = [] := by
    cases t_12 with
    | nil => rfl
    | cons g t => exact hV13.elim
  obtain ⟨a0, len0, cap0, rfl⟩ := okWide_slice Tryz.underlying22 (hval 0 22 v0 rfl rfl)
  have k0 := h0
  have lt0 : ∀ x ∈ p0, x.block < W.heap.size := by obtain ⟨m, hm⟩ := k0; exact DataW.trod_lt m _ _ _ hm
  obtain ⟨z0, w0⟩ : ∃ zs, IsRow .u8 W a0 len0 cap0 zs := by
    obtain ⟨fuel, hf⟩ := h0
    rcases open_ints Tryz.underlying22 Tryz.underlying5 (by kernel_rfl) hf with ⟨hcs, _⟩ | ⟨x, l, c, zs, hcs, _, hl, hm, hz, _, hcell, hwz⟩
    · simp [Value.cells] at hcs
      obtain ⟨rfl, rfl, rfl⟩ := hcs
      exact ⟨[], .inl ⟨rfl, rfl, rfl, rfl⟩⟩
    · simp [Value.cells] at hcs
      obtain ⟨rfl, rfl, rfl⟩ := hcs
      exact ⟨zs, .inr ⟨_, rfl, hl, hm, by simpa using hz, hcell, hwz⟩⟩
  clear hA0 hval0
  refine (walk a0 len0 cap0 z0 W w0 hL).mono fun e W' ⟨he, bel⟩ => ?_
  subst he
  exact ⟨_, rfl, _, _, _, [], _, _, hW', trodAll_mk1 (shut_bool Tryz.underlying4 _), (trodAll_cons_mk (Below.trod laidOut (by kernel_rfl) (of_decide_eq_true (by kernel_rfl)) k0 bel lt0) trodAll_mk0), Below.trodVars laidOut bel (by kernel_rfl) hV, bel.frame _, fun h => by cases h⟩

theorem over : Rows.fnSignedRow.holds Tryz.pinned (OpenSpec.ofChange Rows.fnSignedSpec) :=
  OpenClaim.holds_of_wide 3 Tryz.f3 rfl rfl rfl rfl rfl rfl rfl ⟨rfl, rfl, rfl, rfl, rfl⟩ rfl rfl rfl rfl rfl (by kernel_rfl) Tryz.func3 (by kernel_rfl)
    (of_decide_eq_true (by kernel_rfl)) (by unfold Func.isWrapper; first | (rw [if_pos (by decide +kernel)]; kernel_rfl) | (rw [if_neg (by decide +kernel)]; exact ⟨rfl, rfl⟩))
    (fun os started H enc _ => lifted os started H enc)

theorem proved : Rows.FnSignedSaid := over
end Go.Proofs.YtkglcainhkbgbaaGreatDoor.fnSigned

namespace Go.Proofs.YtkglcainhkbgbaaGreatDoor
open Go
set_option maxRecDepth 100000 in
theorem fnSigned_card : Rows.FnSignedCardSaid :=
  Claim7.holds_tied_plain_at .later [] [.handle, .data, .data, .data, .data, .data, .wider, .data, .data, .wider, .wider, .wider, .data, .data] true (true, "f085198582acab6ded747a243a2cec21e9ea1e61253edda406da3b8f1ca088e4") true
    fnSigned.proved (fun _ h => by cases h) (by kernel_rfl) (fun _ h => by cases h) fnSigned_row_tie rfl ⟨rfl, rfl⟩ (by kernel_rfl) rfl
    (fun f fn hf hfn => by
      obtain rfl : f = 3 := Option.some.inj ((show Tryz.prog.funcNamed "loop.example/g00004/laws.FnSigned" = some 3 by kernel_rfl).symm.trans hf) |>.symm
      obtain rfl : fn = Tryz.f3 := (Option.some.inj (Tryz.func3.symm.trans hfn)).symm
      exact ⟨by kernel_rfl, fun j t ht => by
        rw [Tryz.params3] at ht
        have hm : t ∈ [22] := by simpa using Array.mem_of_getElem? ht
        have hall : ([22].all fun u => !Tryz.prog.wantsStandIn u) = true := by kernel_rfl
        exact (show Tryz.prog.wantsStandIn t = false by simpa using List.all_eq_true.1 hall t hm)⟩)
    (by kernel_rfl)
end Go.Proofs.YtkglcainhkbgbaaGreatDoor
