import Derived.Test.YtdbgdiahddpgkaaGreatRows
import Derived.Test.YtdbgdiahddpgkaaGreatGE24
import Derived.WalkKit
import Derived.ProofKit
import Derived.OpenShut
import Derived.ShutString
import Derived.SliceStrings
import Derived.Below
import Derived.Lib.SmallJoins
namespace Go.Proofs.YtdbgdiahddpgkaaGreat.fnExactHelloHead
open Go.ChangeShapes Go.WideShapes Go.ChangeAt Go.RowKit
open Go.ChangeMaps (open_string shut_string)
set_option linter.unusedVariables false

theorem own : ownKnob Tryz.prog.godebug = none := by kernel_rfl
theorem laidOut : laidOutB Tryz.prog = true := by kernel_rfl

def IsRow (w : World) (a : Option Addr) (len cap : Nat) (zs : List Int) : Prop :=
  (a = none ∧ len = 0 ∧ cap = 0 ∧ zs = []) ∨
  ∃ x, a = some x ∧ len ≤ cap ∧ cap ≤ maxLen ∧ zs.length = cap ∧ (∀ i, i < zs.length → w.cell? (x.add i) = some (.int .u8 (zs.getD i 0))) ∧ ∀ n ∈ zs, (Lit.int .u8 n).wf = true
def IsRowT (w : World) (a : Option Addr) (len cap : Nat) (ss : List ByteArray) : Prop :=
  (a = none ∧ len = 0 ∧ cap = 0 ∧ ss = []) ∨
  ∃ x, a = some x ∧ len ≤ cap ∧ cap ≤ maxLen ∧ ss.length = cap ∧ (∀ i, i < ss.length → w.cell? (x.add i) = some (.string (ss.getD i ByteArray.empty))) ∧ ∀ s ∈ ss, s.size ≤ maxLen

theorem le_of_rowU {w : World} {a : Option Addr} {len cap : Nat} {ss : List ByteArray} (h : IsRowT w a len cap ss) : len ≤ cap := by
  rcases h with ⟨_, rfl, rfl, _⟩ | ⟨x, _, h, _⟩
  · exact Nat.le_refl _
  · exact h
theorem walk (n0_0 : Int) (n0_1 : Int) (a0_2 : Option Addr) (len0_2 cap0_2 : Nat) (z0_2 : List Int) (a0_3 : Option Addr) (len0_3 cap0_3 : Nat) (z0_3 : List Int) (a0_4 : ByteArray) (a0_5 : Option Addr) (len0_5 cap0_5 : Nat) (z0_5 : List ByteArray) (a0_6 : Option Addr) (len0_6 cap0_6 : Nat) (z0_6 : List Int) (n0_7 : Int) (n0_8 : Int) (a0_9 : Option Addr) (len0_9 cap0_9 : Nat) (z0_9 : List Int) (b0_10 : Bool) (a0_11 : Option Addr) (len0_11 cap0_11 : Nat) (a0_12 : Option Addr) (len0_12 cap0_12 : Nat) (z0_12 : List Int) (w : World) (w0_0 : (Lit.int .i64 n0_0).wf = true) (w0_1 : (Lit.int .i64 n0_1).wf = true) (w0_2 : IsRow w a0_2 len0_2 cap0_2 z0_2) (w0_3 : IsRow w a0_3 len0_3 cap0_3 z0_3) (w0_4 : a0_4.size ≤ maxLen) (w0_5 : IsRowT w a0_5 len0_5 cap0_5 z0_5) (w0_6 : IsRow w a0_6 len0_6 cap0_6 z0_6) (w0_7 : (Lit.int .i64 n0_7).wf = true) (w0_8 : (Lit.int .i64 n0_8).wf = true) (w0_9 : IsRow w a0_9 len0_9 cap0_9 z0_9) (w0_11 : IsRowB w a0_11 len0_11 cap0_11) (w0_12 : IsRow w a0_12 len0_12 cap0_12 z0_12) :
    Calls Tryz.prog 3 #[.agg #[.int .i64 n0_0, .int .i64 n0_1, .slice a0_2 len0_2 cap0_2, .slice a0_3 len0_3 cap0_3, .string a0_4, .slice a0_5 len0_5 cap0_5, .slice a0_6 len0_6 cap0_6, .int .i64 n0_7, .int .i64 n0_8, .slice a0_9 len0_9 cap0_9, .bool b0_10, .slice a0_11 len0_11 cap0_11, .slice a0_12 len0_12 cap0_12]] w fun e w' => e = .returned (.bool true) ∧ Below w.heap.size w w' := by
  obtain ⟨g0_2, x0_2, rfl, r0_2, y0_2, l0_2⟩ := rd_of_rowM w0_2
  obtain ⟨g0_3, x0_3, rfl, r0_3, y0_3, l0_3⟩ := rd_of_rowM w0_3
  have z5_0_5 := le_of_rowU w0_5
  obtain ⟨g0_5, x0_5, rfl, r0_5, l0_5, m0_5⟩ := rdT_of_rowM w0_5
  obtain ⟨g0_6, x0_6, rfl, r0_6, y0_6, l0_6⟩ := rd_of_rowM w0_6
  obtain ⟨g0_9, x0_9, rfl, r0_9, y0_9, l0_9⟩ := rd_of_rowM w0_9
  obtain ⟨g0_11, x0_11, ps0_11, rfl, r0_11, y0_11, l0_11, m0_11⟩ := rdL_of_row w0_11
  obtain ⟨g0_12, x0_12, rfl, r0_12, y0_12, l0_12⟩ := rd_of_rowM w0_12
  exact helloHead_law w n0_0 w0_0 n0_1 w0_1 g0_2 a0_2 cap0_2 x0_2 r0_2 y0_2 l0_2 g0_3 a0_3 cap0_3 x0_3 r0_3 y0_3 l0_3 a0_4 w0_4 g0_5 a0_5 cap0_5 x0_5 r0_5 l0_5 m0_5 z5_0_5 g0_6 a0_6 cap0_6 x0_6 r0_6 y0_6 l0_6 n0_7 w0_7 n0_8 w0_8 g0_9 a0_9 cap0_9 x0_9 r0_9 y0_9 l0_9 b0_10 g0_11 a0_11 cap0_11 x0_11 ps0_11 r0_11 y0_11 l0_11 m0_11 g0_12 a0_12 cap0_12 x0_12 r0_12 y0_12 l0_12
theorem array13 {α : Type} {cs : Array α} (h : cs.size = 13) : ∃ c0 c1 c2 c3 c4 c5 c6 c7 c8 c9 c10 c11 c12, cs = #[c0, c1, c2, c3, c4, c5, c6, c7, c8, c9, c10, c11, c12] := by
  obtain ⟨l⟩ := cs
  match l, h with
  | [c0, c1, c2, c3, c4, c5, c6, c7, c8, c9, c10, c11, c12], _ => exact ⟨c0, c1, c2, c3, c4, c5, c6, c7, c8, c9, c10, c11, c12, rfl⟩
theorem open_agg13 {H : Type} {enc : TypeId × Value → H} {P : Program} {w : World} {base : Nat} {spare : Nat → Bool} {held : Bool} {r : Reach} {b0 : Nat} {t : TypeId} {f0 f1 f2 f3 f4 f5 f6 f7 f8 f9 f10 f11 f12 : Field} {v : Value} {d : DataW H} {p : List MemPlace} (hs : P.underlying t = some (.struct #[f0, f1, f2, f3, f4, f5, f6, f7, f8, f9, f10, f11, f12])) (hone : Deep.oneCellFields P #[f0, f1, f2, f3, f4, f5, f6, f7, f8, f9, f10, f11, f12] = true) (hC : P.cellsOf t = 13)
    (hv : Value.okWide P w r b0 t v) (h : DataW.Trod enc P w base spare held t v d p) :
    ∃ (c0 c1 c2 c3 c4 c5 c6 c7 c8 c9 c10 c11 c12 : Value) (y0 y1 y2 y3 y4 y5 y6 y7 y8 y9 y10 y11 y12 : DataW H × List MemPlace) (n : Nat), v = .agg #[c0, c1, c2, c3, c4, c5, c6, c7, c8, c9, c10, c11, c12] ∧ DataW.trod enc P w base spare held n f0.type [c0] = some y0 ∧ DataW.trod enc P w base spare held n f1.type [c1] = some y1 ∧ DataW.trod enc P w base spare held n f2.type [c2] = some y2 ∧ DataW.trod enc P w base spare held n f3.type [c3] = some y3 ∧ DataW.trod enc P w base spare held n f4.type [c4] = some y4 ∧ DataW.trod enc P w base spare held n f5.type [c5] = some y5 ∧ DataW.trod enc P w base spare held n f6.type [c6] = some y6 ∧ DataW.trod enc P w base spare held n f7.type [c7] = some y7 ∧ DataW.trod enc P w base spare held n f8.type [c8] = some y8 ∧ DataW.trod enc P w base spare held n f9.type [c9] = some y9 ∧ DataW.trod enc P w base spare held n f10.type [c10] = some y10 ∧ DataW.trod enc P w base spare held n f11.type [c11] = some y11 ∧ DataW.trod enc P w base spare held n f12.type [c12] = some y12 := by
  obtain ⟨cs, rfl, hsz⟩ := okWide_struct hs hv
  obtain ⟨c0, c1, c2, c3, c4, c5, c6, c7, c8, c9, c10, c11, c12, rfl⟩ := array13 (hsz.trans hC)
  obtain ⟨fuel, hf⟩ := h
  obtain ⟨xs, n, _, _, hl, hlen, hf⟩ := DataW.trod_struct hs hf
  match xs, hlen with
  | [y0, y1, y2, y3, y4, y5, y6, y7, y8, y9, y10, y11, y12], _ =>
    refine ⟨c0, c1, c2, c3, c4, c5, c6, c7, c8, c9, c10, c11, c12, y0, y1, y2, y3, y4, y5, y6, y7, y8, y9, y10, y11, y12, n, rfl, ?_, ?_, ?_, ?_, ?_, ?_, ?_, ?_, ?_, ?_, ?_, ?_, ?_⟩
    · obtain ⟨o, k⟩ := Deep.hone_of hone 0 f0 rfl
      simpa [Value.cells, o, k] using hf 0 f0 rfl
    · obtain ⟨o, k⟩ := Deep.hone_of hone 1 f1 rfl
      simpa [Value.cells, o, k] using hf 1 f1 rfl
    · obtain ⟨o, k⟩ := Deep.hone_of hone 2 f2 rfl
      simpa [Value.cells, o, k] using hf 2 f2 rfl
    · obtain ⟨o, k⟩ := Deep.hone_of hone 3 f3 rfl
      simpa [Value.cells, o, k] using hf 3 f3 rfl
    · obtain ⟨o, k⟩ := Deep.hone_of hone 4 f4 rfl
      simpa [Value.cells, o, k] using hf 4 f4 rfl
    · obtain ⟨o, k⟩ := Deep.hone_of hone 5 f5 rfl
      simpa [Value.cells, o, k] using hf 5 f5 rfl
    · obtain ⟨o, k⟩ := Deep.hone_of hone 6 f6 rfl
      simpa [Value.cells, o, k] using hf 6 f6 rfl
    · obtain ⟨o, k⟩ := Deep.hone_of hone 7 f7 rfl
      simpa [Value.cells, o, k] using hf 7 f7 rfl
    · obtain ⟨o, k⟩ := Deep.hone_of hone 8 f8 rfl
      simpa [Value.cells, o, k] using hf 8 f8 rfl
    · obtain ⟨o, k⟩ := Deep.hone_of hone 9 f9 rfl
      simpa [Value.cells, o, k] using hf 9 f9 rfl
    · obtain ⟨o, k⟩ := Deep.hone_of hone 10 f10 rfl
      simpa [Value.cells, o, k] using hf 10 f10 rfl
    · obtain ⟨o, k⟩ := Deep.hone_of hone 11 f11 rfl
      simpa [Value.cells, o, k] using hf 11 f11 rfl
    · obtain ⟨o, k⟩ := Deep.hone_of hone 12 f12 rfl
      simpa [Value.cells, o, k] using hf 12 f12 rfl

set_option maxRecDepth 100000 in
theorem lifted (os : Os) (started : os.Started) (H : Type) (enc : TypeId × Value → H) :
    ReturnsInHanded {} Tryz.checked os 3 .any (Rows.fnExactHelloHeadSpec.pre6 enc Tryz.prog Tryz.f3 Rows.fnExactHelloHeadRow.domain false) (Rows.fnExactHelloHeadSpec.post enc Tryz.prog Tryz.f3 false true false false) := by
  refine returnsInHanded_of_change (C := Tryz.checked) own started (by kernel_rfl) Tryz.func3
    (ChangeSpec.witness6 (enc := enc) (C := Tryz.checked) false ⟨#[], #[.agg #[.int .i64 0, .int .i64 0, .slice none 0 0, .slice none 0 0, .string ByteArray.empty, .slice none 0 0, .slice none 0 0, .int .i64 0, .int .i64 0, .slice none 0 0, .bool false, .slice none 0 0, .slice none 0 0]], []⟩ 8 (by kernel_rfl) (by kernel_rfl) (by kernel_rfl) (by kernel_rfl)) ?_
  intro W base args ds gs before hval0 hW hcnd _
  have hval : ∀ (j : Nat) t v, Tryz.f3.params[j]? = some t → args[j]? = some v → Value.okWide Tryz.prog W .any base t v := hval0
  have hW' := hW
  obtain ⟨p, q, hA0, hV, rfl, hfz, hnd⟩ := hW
  have hA : DataW.TrodAll enc Tryz.prog W 0 (fun _ => true) true Tryz.f3.params.toList args.toList ds p := hA0
  rw [Tryz.params3] at hA hval
  obtain ⟨v0, vs0, d0, ds0, p0, q0, hargs, rfl, rfl, h0, r0⟩ := trodAll_cons hA
  obtain ⟨rfl, rfl, rfl⟩ := trodAll_nil r0
  obtain rfl : args = #[v0] := by cases args; simp_all
  obtain ⟨rfl, rfl⟩ := trodVars_none hV
  have k0 := h0
  have lt0 : ∀ x ∈ p0, x.block < W.heap.size := by obtain ⟨m, hm⟩ := k0; exact DataW.trod_lt m _ _ _ hm
  obtain ⟨c0_0, c0_1, c0_2, c0_3, c0_4, c0_5, c0_6, c0_7, c0_8, c0_9, c0_10, c0_11, c0_12, y0_0, y0_1, y0_2, y0_3, y0_4, y0_5, y0_6, y0_7, y0_8, y0_9, y0_10, y0_11, y0_12, m0, rfl, h0_0, h0_1, h0_2, h0_3, h0_4, h0_5, h0_6, h0_7, h0_8, h0_9, h0_10, h0_11, h0_12⟩ := open_agg13 Tryz.underlying26 (by kernel_rfl) (by kernel_rfl) (hval 0 26 v0 rfl rfl) h0
  obtain ⟨n0_0, e0_0, _, w0_0⟩ := DataW.trod_int Tryz.underlying2 h0_0
  simp at e0_0
  subst e0_0
  obtain ⟨n0_1, e0_1, _, w0_1⟩ := DataW.trod_int Tryz.underlying2 h0_1
  simp at e0_1
  subst e0_1
  obtain ⟨a0_2, len0_2, cap0_2, z0_2, e0_2, w0_2⟩ : ∃ a len cap zs, c0_2 = .slice a len cap ∧ IsRow W a len cap zs := by
    rcases open_ints Tryz.underlying22 Tryz.underlying5 (by kernel_rfl) h0_2 with ⟨hcs, _⟩ | ⟨x, l, c, zs, hcs, _, hl, hm, hz, _, hcell, hwz⟩
    · simp at hcs
      exact ⟨none, 0, 0, [], hcs, .inl ⟨rfl, rfl, rfl, rfl⟩⟩
    · simp at hcs
      exact ⟨_, l, c, zs, hcs, .inr ⟨_, rfl, hl, hm, by simpa using hz, hcell, hwz⟩⟩
  subst e0_2
  obtain ⟨a0_3, len0_3, cap0_3, z0_3, e0_3, w0_3⟩ : ∃ a len cap zs, c0_3 = .slice a len cap ∧ IsRow W a len cap zs := by
    rcases open_ints Tryz.underlying22 Tryz.underlying5 (by kernel_rfl) h0_3 with ⟨hcs, _⟩ | ⟨x, l, c, zs, hcs, _, hl, hm, hz, _, hcell, hwz⟩
    · simp at hcs
      exact ⟨none, 0, 0, [], hcs, .inl ⟨rfl, rfl, rfl, rfl⟩⟩
    · simp at hcs
      exact ⟨_, l, c, zs, hcs, .inr ⟨_, rfl, hl, hm, by simpa using hz, hcell, hwz⟩⟩
  subst e0_3
  obtain ⟨a0_4, e0_4, _, w0_4⟩ := DataW.trod_string Tryz.underlying9 h0_4
  simp at e0_4
  subst e0_4
  obtain ⟨a0_5, len0_5, cap0_5, z0_5, e0_5, w0_5⟩ : ∃ a len cap zs, c0_5 = .slice a len cap ∧ IsRowT W a len cap zs := by
    rcases open_strings Tryz.underlying23 Tryz.underlying9 (by kernel_rfl) h0_5 with ⟨hcs, _⟩ | ⟨x, l, c, zs, hcs, _, hl, hm, hz, _, hcell, hwz⟩
    · simp at hcs
      exact ⟨none, 0, 0, [], hcs, .inl ⟨rfl, rfl, rfl, rfl⟩⟩
    · simp at hcs
      exact ⟨_, l, c, zs, hcs, .inr ⟨_, rfl, hl, hm, by simpa using hz, hcell, hwz⟩⟩
  subst e0_5
  obtain ⟨a0_6, len0_6, cap0_6, z0_6, e0_6, w0_6⟩ : ∃ a len cap zs, c0_6 = .slice a len cap ∧ IsRow W a len cap zs := by
    rcases open_ints Tryz.underlying22 Tryz.underlying5 (by kernel_rfl) h0_6 with ⟨hcs, _⟩ | ⟨x, l, c, zs, hcs, _, hl, hm, hz, _, hcell, hwz⟩
    · simp at hcs
      exact ⟨none, 0, 0, [], hcs, .inl ⟨rfl, rfl, rfl, rfl⟩⟩
    · simp at hcs
      exact ⟨_, l, c, zs, hcs, .inr ⟨_, rfl, hl, hm, by simpa using hz, hcell, hwz⟩⟩
  subst e0_6
  obtain ⟨n0_7, e0_7, _, w0_7⟩ := DataW.trod_int Tryz.underlying2 h0_7
  simp at e0_7
  subst e0_7
  obtain ⟨n0_8, e0_8, _, w0_8⟩ := DataW.trod_int Tryz.underlying2 h0_8
  simp at e0_8
  subst e0_8
  obtain ⟨a0_9, len0_9, cap0_9, z0_9, e0_9, w0_9⟩ : ∃ a len cap zs, c0_9 = .slice a len cap ∧ IsRow W a len cap zs := by
    rcases open_ints Tryz.underlying22 Tryz.underlying5 (by kernel_rfl) h0_9 with ⟨hcs, _⟩ | ⟨x, l, c, zs, hcs, _, hl, hm, hz, _, hcell, hwz⟩
    · simp at hcs
      exact ⟨none, 0, 0, [], hcs, .inl ⟨rfl, rfl, rfl, rfl⟩⟩
    · simp at hcs
      exact ⟨_, l, c, zs, hcs, .inr ⟨_, rfl, hl, hm, by simpa using hz, hcell, hwz⟩⟩
  subst e0_9
  obtain ⟨b0_10, e0_10, _⟩ := DataW.trod_bool Tryz.underlying4 h0_10
  simp at e0_10
  subst e0_10
  obtain ⟨a0_11, len0_11, cap0_11, e0_11, w0_11⟩ := open_blobs h0_11
  subst e0_11
  obtain ⟨a0_12, len0_12, cap0_12, z0_12, e0_12, w0_12⟩ : ∃ a len cap zs, c0_12 = .slice a len cap ∧ IsRow W a len cap zs := by
    rcases open_ints Tryz.underlying22 Tryz.underlying5 (by kernel_rfl) h0_12 with ⟨hcs, _⟩ | ⟨x, l, c, zs, hcs, _, hl, hm, hz, _, hcell, hwz⟩
    · simp at hcs
      exact ⟨none, 0, 0, [], hcs, .inl ⟨rfl, rfl, rfl, rfl⟩⟩
    · simp at hcs
      exact ⟨_, l, c, zs, hcs, .inr ⟨_, rfl, hl, hm, by simpa using hz, hcell, hwz⟩⟩
  subst e0_12
  clear hA0 hval0
  simp only [List.append_nil] at hW'
  refine (walk n0_0 n0_1 a0_2 len0_2 cap0_2 z0_2 a0_3 len0_3 cap0_3 z0_3 a0_4 a0_5 len0_5 cap0_5 z0_5 a0_6 len0_6 cap0_6 z0_6 n0_7 n0_8 a0_9 len0_9 cap0_9 z0_9 b0_10 a0_11 len0_11 cap0_11 a0_12 len0_12 cap0_12 z0_12 W w0_0 w0_1 w0_2 w0_3 w0_4 w0_5 w0_6 w0_7 w0_8 w0_9 w0_11 w0_12).mono fun e W' ⟨he, bel⟩ => ?_
  subst he
  exact ⟨_, rfl, _, _, _, [], _, [], hW', trodAll_mk1 (shut_bool Tryz.underlying4 _), (trodAll_cons_mk (Below.trod laidOut (by kernel_rfl) (of_decide_eq_true (by kernel_rfl)) k0 bel lt0) trodAll_mk0), rfl, bel.frame _, fun h => by cases h⟩

theorem over : Rows.fnExactHelloHeadRow.holds Tryz.pinned (OpenSpec.ofChange Rows.fnExactHelloHeadSpec) :=
  OpenClaim.holds_of_wide 3 Tryz.f3 rfl rfl rfl rfl rfl rfl rfl ⟨rfl, rfl, rfl, rfl, rfl⟩ rfl rfl rfl rfl rfl (by kernel_rfl) Tryz.func3 (by kernel_rfl)
    (of_decide_eq_true (by kernel_rfl)) (by unfold Func.isWrapper; first | (rw [if_pos (by decide +kernel)]; kernel_rfl) | (rw [if_neg (by decide +kernel)]; exact ⟨rfl, rfl⟩))
    (fun os started H enc _ => lifted os started H enc)

theorem proved : Rows.FnExactHelloHeadSaid := over
end Go.Proofs.YtdbgdiahddpgkaaGreat.fnExactHelloHead

namespace Go.Proofs.YtdbgdiahddpgkaaGreat
theorem fnExactHelloHead_proved : Rows.FnExactHelloHeadSaid := fnExactHelloHead.proved
end Go.Proofs.YtdbgdiahddpgkaaGreat
