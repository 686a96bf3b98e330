import Derived.Test.YtcljoaknaegpmaaRows
import Derived.Test.YtcljoaknaegpmaaGS54
import Derived.WalkKit
import Derived.ProofKit
import Derived.OpenShut
import Derived.ShutString
import Derived.SliceStrings
import Derived.Below
import Derived.Lib.SmallJoins
namespace Go.Proofs.Ytcljoaknaegpmaa.fnExactSealTicket
open Go.ChangeShapes Go.WideShapes Go.ChangeAt Go.RowKit
open Go.ChangeMaps (open_string shut_string)
set_option linter.unusedVariables false

theorem own : ownKnob Try.prog.godebug = none := by kernel_rfl
theorem laidOut : laidOutB Try.prog = true := by kernel_rfl

def IsRow (w : World) (a : Option Addr) (len cap : Nat) (zs : List Int) : Prop :=
  (a = none ∧ len = 0 ∧ cap = 0 ∧ zs = []) ∨
  ∃ x, a = some x ∧ len ≤ cap ∧ cap ≤ maxLen ∧ zs.length = cap ∧ (∀ i, i < zs.length → w.cell? (x.add i) = some (.int .u8 (zs.getD i 0))) ∧ ∀ n ∈ zs, (Lit.int .u8 n).wf = true
def IsRowT (w : World) (a : Option Addr) (len cap : Nat) (ss : List ByteArray) : Prop :=
  (a = none ∧ len = 0 ∧ cap = 0 ∧ ss = []) ∨
  ∃ x, a = some x ∧ len ≤ cap ∧ cap ≤ maxLen ∧ ss.length = cap ∧ (∀ i, i < ss.length → w.cell? (x.add i) = some (.string (ss.getD i ByteArray.empty))) ∧ ∀ s ∈ ss, s.size ≤ maxLen

theorem walk (a0 : Option Addr) (len0 cap0 : Nat) (z0 : List Int) (a1 : Option Addr) (len1 cap1 : Nat) (z1 : List Int) (a2_0 : Option Addr) (len2_0 cap2_0 : Nat) (z2_0 : List Int) (a2_1 : Option Addr) (len2_1 cap2_1 : Nat) (z2_1 : List Int) (n2_2 : Int) (n2_3 : Int) (a2_4 : ByteArray) (a2_5 : ByteArray) (n2_6 : Int) (w : World) (w0 : IsRow w a0 len0 cap0 z0) (w1 : IsRow w a1 len1 cap1 z1) (w2_0 : IsRow w a2_0 len2_0 cap2_0 z2_0) (w2_1 : IsRow w a2_1 len2_1 cap2_1 z2_1) (w2_2 : (Lit.int .i64 n2_2).wf = true) (w2_3 : (Lit.int .i64 n2_3).wf = true) (w2_4 : a2_4.size ≤ maxLen) (w2_5 : a2_5.size ≤ maxLen) (w2_6 : (Lit.int .i64 n2_6).wf = true) :
    Calls Try.prog 3 #[.slice a0 len0 cap0, .slice a1 len1 cap1, .agg #[.slice a2_0 len2_0 cap2_0, .slice a2_1 len2_1 cap2_1, .int .i64 n2_2, .int .i64 n2_3, .string a2_4, .string a2_5, .int .i64 n2_6]] w fun e w' => e = .returned (.bool true) ∧ Below w.heap.size w w' := by
  obtain ⟨g0, x0, rfl, r0, y0, l0⟩ := rd_of_row3 w0
  obtain ⟨g1, x1, rfl, r1, y1, l1⟩ := rd_of_row3 w1
  obtain ⟨g2_0, x2_0, rfl, r2_0, y2_0, l2_0⟩ := rd_of_row3 w2_0
  obtain ⟨g2_1, x2_1, rfl, r2_1, y2_1, l2_1⟩ := rd_of_row3 w2_1
  exact slt_law w g0 a0 cap0 x0 r0 y0 l0 g1 a1 cap1 x1 r1 y1 l1 g2_0 a2_0 cap2_0 x2_0 r2_0 y2_0 l2_0 g2_1 a2_1 cap2_1 x2_1 r2_1 y2_1 l2_1 n2_2 w2_2 n2_3 w2_3 a2_4 w2_4 a2_5 w2_5 n2_6 w2_6
theorem array13 {α : Type} {cs : Array α} (h : cs.size = 7) : ∃ c0 c1 c2 c3 c4 c5 c6, cs = #[c0, c1, c2, c3, c4, c5, c6] := by
  obtain ⟨l⟩ := cs
  match l, h with
  | [c0, c1, c2, c3, c4, c5, c6], _ => exact ⟨c0, c1, c2, c3, c4, c5, c6, rfl⟩
theorem open_agg13 {H : Type} {enc : TypeId × Value → H} {P : Program} {w : World} {base : Nat} {spare : Nat → Bool} {held : Bool} {r : Reach} {b0 : Nat} {t : TypeId} {f0 f1 f2 f3 f4 f5 f6 : Field} {v : Value} {d : DataW H} {p : List MemPlace} (hs : P.underlying t = some (.struct #[f0, f1, f2, f3, f4, f5, f6])) (hone : Deep.oneCellFields P #[f0, f1, f2, f3, f4, f5, f6] = true) (hC : P.cellsOf t = 7)
    (hv : Value.okWide P w r b0 t v) (h : DataW.Trod enc P w base spare held t v d p) :
    ∃ (c0 c1 c2 c3 c4 c5 c6 : Value) (y0 y1 y2 y3 y4 y5 y6 : DataW H × List MemPlace) (n : Nat), v = .agg #[c0, c1, c2, c3, c4, c5, c6] ∧ DataW.trod enc P w base spare held n f0.type [c0] = some y0 ∧ DataW.trod enc P w base spare held n f1.type [c1] = some y1 ∧ DataW.trod enc P w base spare held n f2.type [c2] = some y2 ∧ DataW.trod enc P w base spare held n f3.type [c3] = some y3 ∧ DataW.trod enc P w base spare held n f4.type [c4] = some y4 ∧ DataW.trod enc P w base spare held n f5.type [c5] = some y5 ∧ DataW.trod enc P w base spare held n f6.type [c6] = some y6 := by
  obtain ⟨cs, rfl, hsz⟩ := okWide_struct hs hv
  obtain ⟨c0, c1, c2, c3, c4, c5, c6, rfl⟩ := array13 (hsz.trans hC)
  obtain ⟨fuel, hf⟩ := h
  obtain ⟨xs, n, _, _, hl, hlen, hf⟩ := DataW.trod_struct hs hf
  match xs, hlen with
  | [y0, y1, y2, y3, y4, y5, y6], _ =>
    refine ⟨c0, c1, c2, c3, c4, c5, c6, y0, y1, y2, y3, y4, y5, y6, n, rfl, ?_, ?_, ?_, ?_, ?_, ?_, ?_⟩
    · obtain ⟨o, k⟩ := Deep.hone_of hone 0 f0 rfl
      simpa [Value.cells, o, k] using hf 0 f0 rfl
    · obtain ⟨o, k⟩ := Deep.hone_of hone 1 f1 rfl
      simpa [Value.cells, o, k] using hf 1 f1 rfl
    · obtain ⟨o, k⟩ := Deep.hone_of hone 2 f2 rfl
      simpa [Value.cells, o, k] using hf 2 f2 rfl
    · obtain ⟨o, k⟩ := Deep.hone_of hone 3 f3 rfl
      simpa [Value.cells, o, k] using hf 3 f3 rfl
    · obtain ⟨o, k⟩ := Deep.hone_of hone 4 f4 rfl
      simpa [Value.cells, o, k] using hf 4 f4 rfl
    · obtain ⟨o, k⟩ := Deep.hone_of hone 5 f5 rfl
      simpa [Value.cells, o, k] using hf 5 f5 rfl
    · obtain ⟨o, k⟩ := Deep.hone_of hone 6 f6 rfl
      simpa [Value.cells, o, k] using hf 6 f6 rfl

set_option maxRecDepth 100000 in
theorem lifted (os : Os) (started : os.Started) (H : Type) (enc : TypeId × Value → H) :
    ReturnsInHanded {} Try.checked os 3 .any (Rows.fnExactSealTicketSpec.pre6 enc Try.prog Try.f3 Rows.fnExactSealTicketRow.domain false) (Rows.fnExactSealTicketSpec.post enc Try.prog Try.f3 false true false false) := by
  refine returnsInHanded_of_change (C := Try.checked) own started (by kernel_rfl) Try.func3
    (ChangeSpec.witness6 (enc := enc) (C := Try.checked) false ⟨#[], #[.slice none 0 0, .slice none 0 0, .agg #[.slice none 0 0, .slice none 0 0, .int .i64 0, .int .i64 0, .string ByteArray.empty, .string ByteArray.empty, .int .i64 0]], []⟩ 8 (by kernel_rfl) (by kernel_rfl) (by kernel_rfl) (by kernel_rfl)) ?_
  intro W base args ds gs before hval0 hW hcnd _
  have hval : ∀ (j : Nat) t v, Try.f3.params[j]? = some t → args[j]? = some v → Value.okWide Try.prog W .any base t v := hval0
  have hW' := hW
  obtain ⟨p, q, hA0, hV, rfl, hfz, hnd⟩ := hW
  have hA : DataW.TrodAll enc Try.prog W 0 (fun _ => true) true Try.f3.params.toList args.toList ds p := hA0
  rw [Try.params3] at hA hval
  obtain ⟨v0, vs0, d0, ds0, p0, q0, hargs, rfl, rfl, h0, r0⟩ := trodAll_cons hA
  obtain ⟨v1, vs1, d1, ds1, p1, q1, rfl, rfl, rfl, h1, r1⟩ := trodAll_cons r0
  obtain ⟨v2, vs2, d2, ds2, p2, q2, rfl, rfl, rfl, h2, r2⟩ := trodAll_cons r1
  obtain ⟨rfl, rfl, rfl⟩ := trodAll_nil r2
  obtain rfl : args = #[v0, v1, v2] := by cases args; simp_all
  obtain ⟨rfl, rfl⟩ := trodVars_none hV
  have k0 := h0
  have lt0 : ∀ x ∈ p0, x.block < W.heap.size := by obtain ⟨m, hm⟩ := k0; exact DataW.trod_lt m _ _ _ hm
  obtain ⟨a0, len0, cap0, rfl⟩ := okWide_slice Try.underlying22 (hval 0 22 v0 rfl rfl)
  obtain ⟨fu0, hf0⟩ := h0
  obtain ⟨z0, w0⟩ : ∃ zs, IsRow W a0 len0 cap0 zs := by
    rcases open_ints Try.underlying22 Try.underlying5 (by kernel_rfl) hf0 with ⟨hcs, _⟩ | ⟨x, l, c, zs, hcs, _, hl, hm, hz, _, hcell, hwz⟩
    · simp [Value.cells] at hcs
      obtain ⟨rfl, rfl, rfl⟩ := hcs
      exact ⟨[], .inl ⟨rfl, rfl, rfl, rfl⟩⟩
    · simp [Value.cells] at hcs
      obtain ⟨rfl, rfl, rfl⟩ := hcs
      exact ⟨zs, .inr ⟨_, rfl, hl, hm, by simpa using hz, hcell, hwz⟩⟩
  have k1 := h1
  have lt1 : ∀ x ∈ p1, x.block < W.heap.size := by obtain ⟨m, hm⟩ := k1; exact DataW.trod_lt m _ _ _ hm
  obtain ⟨a1, len1, cap1, rfl⟩ := okWide_slice Try.underlying22 (hval 1 22 v1 rfl rfl)
  obtain ⟨fu1, hf1⟩ := h1
  obtain ⟨z1, w1⟩ : ∃ zs, IsRow W a1 len1 cap1 zs := by
    rcases open_ints Try.underlying22 Try.underlying5 (by kernel_rfl) hf1 with ⟨hcs, _⟩ | ⟨x, l, c, zs, hcs, _, hl, hm, hz, _, hcell, hwz⟩
    · simp [Value.cells] at hcs
      obtain ⟨rfl, rfl, rfl⟩ := hcs
      exact ⟨[], .inl ⟨rfl, rfl, rfl, rfl⟩⟩
    · simp [Value.cells] at hcs
      obtain ⟨rfl, rfl, rfl⟩ := hcs
      exact ⟨zs, .inr ⟨_, rfl, hl, hm, by simpa using hz, hcell, hwz⟩⟩
  have k2 := h2
  have lt2 : ∀ x ∈ p2, x.block < W.heap.size := by obtain ⟨m, hm⟩ := k2; exact DataW.trod_lt m _ _ _ hm
  obtain ⟨c2_0, c2_1, c2_2, c2_3, c2_4, c2_5, c2_6, y2_0, y2_1, y2_2, y2_3, y2_4, y2_5, y2_6, m2, rfl, h2_0, h2_1, h2_2, h2_3, h2_4, h2_5, h2_6⟩ := open_agg13 Try.underlying24 (by kernel_rfl) (by kernel_rfl) (hval 2 24 v2 rfl rfl) h2
  obtain ⟨a2_0, len2_0, cap2_0, z2_0, e2_0, w2_0⟩ : ∃ a len cap zs, c2_0 = .slice a len cap ∧ IsRow W a len cap zs := by
    rcases open_ints Try.underlying22 Try.underlying5 (by kernel_rfl) h2_0 with ⟨hcs, _⟩ | ⟨x, l, c, zs, hcs, _, hl, hm, hz, _, hcell, hwz⟩
    · simp at hcs
      exact ⟨none, 0, 0, [], hcs, .inl ⟨rfl, rfl, rfl, rfl⟩⟩
    · simp at hcs
      exact ⟨_, l, c, zs, hcs, .inr ⟨_, rfl, hl, hm, by simpa using hz, hcell, hwz⟩⟩
  subst e2_0
  obtain ⟨a2_1, len2_1, cap2_1, z2_1, e2_1, w2_1⟩ : ∃ a len cap zs, c2_1 = .slice a len cap ∧ IsRow W a len cap zs := by
    rcases open_ints Try.underlying22 Try.underlying5 (by kernel_rfl) h2_1 with ⟨hcs, _⟩ | ⟨x, l, c, zs, hcs, _, hl, hm, hz, _, hcell, hwz⟩
    · simp at hcs
      exact ⟨none, 0, 0, [], hcs, .inl ⟨rfl, rfl, rfl, rfl⟩⟩
    · simp at hcs
      exact ⟨_, l, c, zs, hcs, .inr ⟨_, rfl, hl, hm, by simpa using hz, hcell, hwz⟩⟩
  subst e2_1
  obtain ⟨n2_2, e2_2, _, w2_2⟩ := DataW.trod_int Try.underlying2 h2_2
  simp at e2_2
  subst e2_2
  obtain ⟨n2_3, e2_3, _, w2_3⟩ := DataW.trod_int Try.underlying2 h2_3
  simp at e2_3
  subst e2_3
  obtain ⟨a2_4, e2_4, _, w2_4⟩ := DataW.trod_string Try.underlying9 h2_4
  simp at e2_4
  subst e2_4
  obtain ⟨a2_5, e2_5, _, w2_5⟩ := DataW.trod_string Try.underlying9 h2_5
  simp at e2_5
  subst e2_5
  obtain ⟨n2_6, e2_6, _, w2_6⟩ := DataW.trod_int Try.underlying2 h2_6
  simp at e2_6
  subst e2_6
  clear hA0 hval0
  simp only [List.append_nil] at hW'
  refine (walk a0 len0 cap0 z0 a1 len1 cap1 z1 a2_0 len2_0 cap2_0 z2_0 a2_1 len2_1 cap2_1 z2_1 n2_2 n2_3 a2_4 a2_5 n2_6 W w0 w1 w2_0 w2_1 w2_2 w2_3 w2_4 w2_5 w2_6).mono fun e W' ⟨he, bel⟩ => ?_
  subst he
  exact ⟨_, rfl, _, _, _, [], _, [], hW', trodAll_mk1 (shut_bool Try.underlying4 _), (trodAll_cons_mk (Below.trod laidOut (by kernel_rfl) (of_decide_eq_true (by kernel_rfl)) k0 bel lt0) (trodAll_cons_mk (Below.trod laidOut (by kernel_rfl) (of_decide_eq_true (by kernel_rfl)) k1 bel lt1) (trodAll_cons_mk (Below.trod laidOut (by kernel_rfl) (of_decide_eq_true (by kernel_rfl)) k2 bel lt2) trodAll_mk0))), rfl, bel.frame _, fun h => by cases h⟩

theorem over : Rows.fnExactSealTicketRow.holds Try.pinned (OpenSpec.ofChange Rows.fnExactSealTicketSpec) :=
  OpenClaim.holds_of_wide 3 Try.f3 rfl rfl rfl rfl rfl rfl rfl ⟨rfl, rfl, rfl, rfl, rfl⟩ rfl rfl rfl rfl rfl (by kernel_rfl) Try.func3 (by kernel_rfl)
    (of_decide_eq_true (by kernel_rfl)) (by unfold Func.isWrapper; first | (rw [if_pos (by decide +kernel)]; kernel_rfl) | (rw [if_neg (by decide +kernel)]; exact ⟨rfl, rfl⟩))
    (fun os started H enc _ => lifted os started H enc)

theorem proved : Rows.FnExactSealTicketSaid := over
end Go.Proofs.Ytcljoaknaegpmaa.fnExactSealTicket

namespace Go.Proofs.Ytcljoaknaegpmaa
theorem fnExactSealTicket_proved : Rows.FnExactSealTicketSaid := fnExactSealTicket.proved
end Go.Proofs.Ytcljoaknaegpmaa
