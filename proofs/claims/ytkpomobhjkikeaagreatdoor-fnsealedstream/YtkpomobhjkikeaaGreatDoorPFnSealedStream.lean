import Derived.Test.YtkpomobhjkikeaaGreatDoorRows
import Derived.Test.YtkpomobhjkikeaaGreatDoorTie
import Derived.Test.YtkpomobhjkikeaaGreatDoorCards
import Derived.Test.YtkpomobhjkikeaaGreatDoorSS52
import Derived.LaidMore
import Derived.OpenVars
import Derived.Stop.Joined
import Derived.SevenTiedAt
import Derived.WalkKit
import Derived.ProofKit
import Derived.OpenShut
import Derived.ShutString
import Derived.ChangeOld
import Derived.Below
import Derived.Lib.SmallJoins
import Derived.Lay
namespace Go.Proofs.YtkpomobhjkikeaaGreatDoor.fnSealedStream
open Go.ChangeShapes Go.WideShapes Go.ChangeAt Go.RowKit
open Go.ChangeMaps (open_string shut_string)
set_option linter.unusedVariables false

theorem own : ownKnob Tryz.prog.godebug = none := by kernel_rfl
theorem laidOut : laidOutB Tryz.prog = true := by kernel_rfl

def IsRow (k : IntKind) (w : World) (a : Option Addr) (len cap : Nat) (zs : List Int) : Prop :=
  (a = none ∧ len = 0 ∧ cap = 0 ∧ zs = []) ∨
  ∃ x, a = some x ∧ len ≤ cap ∧ cap ≤ maxLen ∧ zs.length = cap ∧ (∀ i, i < zs.length → w.cell? (x.add i) = some (.int k (zs.getD i 0))) ∧ ∀ n ∈ zs, (Lit.int k n).wf = true

theorem walk (a0 : Option Addr) (len0 cap0 : Nat) (z0 : List Int) (a1 : Option Addr) (len1 cap1 : Nat) (z1 : List Int) (w : World) (w0 : IsRow .u8 w a0 len0 cap0 z0) (w1 : IsRow .u8 w a1 len1 cap1 z1) (hL : laidMetH Tryz.prog Rows.fnSealedStreamRow.laid w) :
    Calls Tryz.prog 3 #[.slice a0 len0 cap0, .slice a1 len1 cap1] w fun e w' => e = .returned (.bool true) ∧ Below w.heap.size w w' := by
  obtain ⟨g0, x0, rfl, r0, b0⟩ := rd_of_row w0
  obtain ⟨g1, x1, rfl, r1, b1⟩ := rd_of_row w1
  exact sealed_law w g0 a0 cap0 x0 r0 b0 g1 a1 cap1 x1 r1 b1 (laid_ss hL)

set_option maxRecDepth 100000 in
theorem lifted (os : Os) (started : os.Started) (H : Type) (enc : TypeId × Value → H) :
    ReturnsInHanded {} Tryz.checked os 3 .any (fun w args => (Rows.fnSealedStreamSpec.pre enc Tryz.prog Tryz.f3 [] false w args ∧ laidMetH Tryz.prog Rows.fnSealedStreamRow.laid w) ∧ sizedMet enc Tryz.prog Tryz.f3 (OpenSpec.ofChange Rows.fnSealedStreamSpec) false w args) (Rows.fnSealedStreamSpec.post enc Tryz.prog Tryz.f3 false true false false) := by
  refine returnsInHanded_of_change_and (C := Tryz.checked) (X := fun w _ => laidMetH Tryz.prog Rows.fnSealedStreamRow.laid w) (fun _ _ _ hh h => h.of_heap hh) own started (by kernel_rfl) Tryz.func3
    (ChangeSpec.witness_shaped (enc := enc) (C := Tryz.checked) (os := os) (X := fun w _ => laidMetH Tryz.prog Rows.fnSealedStreamRow.laid w) false (World.laidAll Tryz.prog os Rows.fnSealedStreamRow.laid) #[.slice none 0 0, .slice none 0 0] 8 (World.laidAll_os _ _ _) (World.shaped_of_ZipB (by kernel_rfl) (by kernel_rfl)) (by kernel_rfl) (by kernel_rfl) (by kernel_rfl) (by rw [MakeChecks.laidMetH_plain _ _ _ (by kernel_rfl)]; exact laidMet_laidAll _ (by kernel_rfl) (by kernel_rfl))) ?_
  intro W base args ds gs before hval0 hW hcnd _ hL _
  have hval : ∀ (j : Nat) t v, Tryz.f3.params[j]? = some t → args[j]? = some v → Value.okWide Tryz.prog W .any base t v := hval0
  have hW' := hW
  obtain ⟨p, q, hA0, hV, rfl, hfz, hnd⟩ := hW
  have hA : DataW.TrodAll enc Tryz.prog W 0 (fun _ => true) true Tryz.f3.params.toList args.toList ds p := hA0
  rw [Tryz.params3] at hA hval
  obtain ⟨v0, vs0, d0, ds0, p0, q0, hargs, rfl, rfl, h0, r0⟩ := trodAll_cons hA
  obtain ⟨v1, vs1, d1, ds1, p1, q1, rfl, rfl, rfl, h1, r1⟩ := trodAll_cons r0
  obtain ⟨rfl, rfl, rfl⟩ := trodAll_nil r1
  obtain rfl : args = #[v0, v1] := by cases args; simp_all
  have hV0 := hV
  obtain ⟨v_0, t_0, rfl⟩ : ∃ g t, gs = g :: t := by
    cases gs with
    | nil => exact hV0.elim
    | cons g t => exact ⟨g, t, rfl⟩
  obtain ⟨_, _, _, _, _, _, _, _, _, _, hV1, _⟩ := hV0
  obtain ⟨v_1, t_1, rfl⟩ : ∃ g t, t_0 = g :: t := by
    cases t_0 with
    | nil => exact hV1.elim
    | cons g t => exact ⟨g, t, rfl⟩
  obtain ⟨_, _, _, _, _, _, _, _, _, _, hV2, _⟩ := hV1
  obtain ⟨v_2, t_2, rfl⟩ : ∃ g t, t_1 = g :: t := by
    cases t_1 with
    | nil => exact hV2.elim
    | cons g t => exact ⟨g, t, rfl⟩
  obtain ⟨_, _, _, _, _, _, _, _, _, _, hV3, _⟩ := hV2
  obtain ⟨v_3, t_3, rfl⟩ : ∃ g t, t_2 = g :: t := by
    cases t_2 with
    | nil => exact hV3.elim
    | cons g t => exact ⟨g, t, rfl⟩
  obtain ⟨_, _, _, _, _, _, _, _, _, _, hV4, _⟩ := hV3
  obtain ⟨v_4, t_4, rfl⟩ : ∃ g t, t_3 = g :: t := by
    cases t_3 with
    | nil => exact hV4.elim
    | cons g t => exact ⟨g, t, rfl⟩
  obtain ⟨_, _, _, _, _, _, _, _, _, _, hV5, _⟩ := hV4
  obtain ⟨v_5, t_5, rfl⟩ : ∃ g t, t_4 = g :: t := by
    cases t_4 with
    | nil => exact hV5.elim
    | cons g t => exact ⟨g, t, rfl⟩
  obtain ⟨_, _, _, _, _, _, _, _, _, _, hV6, _⟩ := hV5
  obtain ⟨v_6, t_6, rfl⟩ : ∃ g t, t_5 = g :: t := by
    cases t_5 with
    | nil => exact hV6.elim
    | cons g t => exact ⟨g, t, rfl⟩
  obtain ⟨_, _, _, _, _, _, _, _, _, _, hV7, _⟩ := hV6
  obtain ⟨v_7, t_7, rfl⟩ : ∃ g t, t_6 = g :: t := by
    cases t_6 with
    | nil => exact hV7.elim
    | cons g t => exact ⟨g, t, rfl⟩
  obtain ⟨_, _, _, _, _, _, _, _, _, _, hV8, _⟩ := hV7
  obtain rfl : t_7 = [] := by
    cases t_7 with
    | nil => rfl
    | cons g t => exact hV8.elim
  obtain ⟨a0, len0, cap0, rfl⟩ := okWide_slice Tryz.underlying22 (hval 0 22 v0 rfl rfl)
  have k0 := h0
  have lt0 : ∀ x ∈ p0, x.block < W.heap.size := by obtain ⟨m, hm⟩ := k0; exact DataW.trod_lt m _ _ _ hm
  obtain ⟨z0, w0⟩ : ∃ zs, IsRow .u8 W a0 len0 cap0 zs := by
    obtain ⟨fuel, hf⟩ := h0
    rcases open_ints Tryz.underlying22 Tryz.underlying5 (by kernel_rfl) hf with ⟨hcs, _⟩ | ⟨x, l, c, zs, hcs, _, hl, hm, hz, _, hcell, hwz⟩
    · simp [Value.cells] at hcs
      obtain ⟨rfl, rfl, rfl⟩ := hcs
      exact ⟨[], .inl ⟨rfl, rfl, rfl, rfl⟩⟩
    · simp [Value.cells] at hcs
      obtain ⟨rfl, rfl, rfl⟩ := hcs
      exact ⟨zs, .inr ⟨_, rfl, hl, hm, by simpa using hz, hcell, hwz⟩⟩
  obtain ⟨a1, len1, cap1, rfl⟩ := okWide_slice Tryz.underlying22 (hval 1 22 v1 rfl rfl)
  have k1 := h1
  have lt1 : ∀ x ∈ p1, x.block < W.heap.size := by obtain ⟨m, hm⟩ := k1; exact DataW.trod_lt m _ _ _ hm
  obtain ⟨z1, w1⟩ : ∃ zs, IsRow .u8 W a1 len1 cap1 zs := by
    obtain ⟨fuel, hf⟩ := h1
    rcases open_ints Tryz.underlying22 Tryz.underlying5 (by kernel_rfl) hf with ⟨hcs, _⟩ | ⟨x, l, c, zs, hcs, _, hl, hm, hz, _, hcell, hwz⟩
    · simp [Value.cells] at hcs
      obtain ⟨rfl, rfl, rfl⟩ := hcs
      exact ⟨[], .inl ⟨rfl, rfl, rfl, rfl⟩⟩
    · simp [Value.cells] at hcs
      obtain ⟨rfl, rfl, rfl⟩ := hcs
      exact ⟨zs, .inr ⟨_, rfl, hl, hm, by simpa using hz, hcell, hwz⟩⟩
  clear hA0 hval0
  refine (walk a0 len0 cap0 z0 a1 len1 cap1 z1 W w0 w1 hL).mono fun e W' ⟨he, bel⟩ => ?_
  subst he
  exact ⟨_, rfl, _, _, _, [], _, _, hW', trodAll_mk1 (shut_bool Tryz.underlying4 _), (trodAll_cons_mk (Below.trod laidOut (by kernel_rfl) (of_decide_eq_true (by kernel_rfl)) k0 bel lt0) (trodAll_cons_mk (Below.trod laidOut (by kernel_rfl) (of_decide_eq_true (by kernel_rfl)) k1 bel lt1) trodAll_mk0)), Below.trodVars laidOut bel (by kernel_rfl) hV, bel.frame _, fun h => by cases h⟩

theorem over : Rows.fnSealedStreamRow.holds Tryz.pinned (OpenSpec.ofChange Rows.fnSealedStreamSpec) :=
  OpenClaim.holds_of_wide 3 Tryz.f3 rfl rfl rfl rfl rfl rfl rfl ⟨rfl, rfl, rfl, rfl, rfl⟩ rfl rfl rfl rfl rfl (by kernel_rfl) Tryz.func3 (by kernel_rfl)
    (of_decide_eq_true (by kernel_rfl)) (by unfold Func.isWrapper; first | (rw [if_pos (by decide +kernel)]; kernel_rfl) | (rw [if_neg (by decide +kernel)]; exact ⟨rfl, rfl⟩))
    (fun os started H enc _ => lifted os started H enc)

theorem proved : Rows.FnSealedStreamSaid := over
end Go.Proofs.YtkpomobhjkikeaaGreatDoor.fnSealedStream

namespace Go.Proofs.YtkpomobhjkikeaaGreatDoor
open Go
set_option maxRecDepth 100000 in
theorem fnSealedStream_card : Rows.FnSealedStreamCardSaid :=
  Claim7.holds_tied_plain_at .later [] [.data, .sentinel, .sentinel, .sentinel, .sentinel, .sentinel, .sentinel, .sentinel, .sentinel, .pinned] true (true, "71c11f495ee7a8c82f4873efb504a90c3270837ee5c74103ed635cdcaa4860b9") true
    fnSealedStream.proved (fun _ h => by cases h) (by kernel_rfl) (fun _ h => by cases h) fnSealedStream_row_tie rfl ⟨rfl, rfl⟩ (by kernel_rfl) rfl
    (fun f fn hf hfn => by
      obtain rfl : f = 3 := Option.some.inj ((show Tryz.prog.funcNamed "loop.example/g00004/laws.FnSealedStream" = some 3 by kernel_rfl).symm.trans hf) |>.symm
      obtain rfl : fn = Tryz.f3 := (Option.some.inj (Tryz.func3.symm.trans hfn)).symm
      exact ⟨by kernel_rfl, fun j t ht => by
        rw [Tryz.params3] at ht
        have hm : t ∈ [22, 22] := by simpa using Array.mem_of_getElem? ht
        have hall : ([22, 22].all fun u => !Tryz.prog.wantsStandIn u) = true := by kernel_rfl
        exact (show Tryz.prog.wantsStandIn t = false by simpa using List.all_eq_true.1 hall t hm)⟩)
    (by kernel_rfl)
end Go.Proofs.YtkpomobhjkikeaaGreatDoor
