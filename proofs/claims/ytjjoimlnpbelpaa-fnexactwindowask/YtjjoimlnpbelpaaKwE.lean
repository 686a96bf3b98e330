
/-
  The law of WindowFault (written by gens/kwe.py).
-/
import Derived.Test.YtjjoimlnpbelpaaKwD
import Derived.Test.YtjjoimlnpbelpaaKmF
import Derived.Test.YtjjoimlnpbelpaaKmH
namespace Go.Proofs.Ytjjoimlnpbelpaa
open Go Go.RowKit

/-- A window as data, and where it lies. -/
structure WD where
  wd : Int
  ms : List Mrk
structure WA where
  a : Option Addr
  c : Nat
  g : Nat
  pl : List Plm
structure HasW (w : World) (p : WA) (d : WD) : Prop where
  r : RdK w p.g p.a d.ms p.pl
theorem HasW.up {w w' : World} {p : WA} {d : WD} (h : HasW w p d) (n : Below w.heap.size w w') : HasW w' p d := ⟨h.r.up n⟩
structure OkW (d : WD) : Prop where
  ms : d.ms.length ≤ 1048576
  mz : ∀ i, i < d.ms.length → (d.ms.getD i mrk0).id.length ≤ 1048576
structure BgW (d : WD) : Prop where
  ms : d.ms.length ≤ 9223372036854775807
  mz : ∀ i, i < d.ms.length → (d.ms.getD i mrk0).id.length < 9223372036854775808
  by' : ∀ i, i < d.ms.length → Byt (d.ms.getD i mrk0).id
def winV (p : WA) (d : WD) : Array Value := #[.int .i64 d.wd, .slice p.a d.ms.length p.c]
theorem winV_one (p : WA) (d : WD) : (winV p d).all (·.oneCell') = true := oneWd d.wd p.a d.ms.length p.c
theorem szW (w : World) (p : WA) (d : WD) (h : HasW w p d) (g : BgW d) :
    Calls Try.prog 4 #[.agg (winV p d), .int .i64 1048576] w fun e w' => (∃ r, e = .returned (.int .i64 r) ∧ (0 ≤ r → OkW d)) ∧ Below w.heap.size w w' := by
  refine (show Calls _ _ _ _ _ from szWindow_r w d.wd p.g p.a p.c d.ms p.pl h.r g.ms g.mz 1048576 (by decide) (by decide)).mono ?_
  rintro e w' ⟨⟨r, rfl, hr⟩, n⟩
  refine ⟨⟨r, rfl, fun h0 => ?_⟩, n⟩
  rcases hr with ⟨_, rfl⟩ | ⟨h1, _⟩
  · omega
  · exact ⟨by omega, fun i hi => by have := sumK_get hi; omega⟩
theorem toW (w : World) (p : WA) (d : WD) (h : HasW w p d) (k : OkW d) :
    Calls Try.prog 6 #[.agg (winV p d)] w fun e w' => (∃ q, e = .returned (.agg (winV q d)) ∧ HasW w' q d) ∧ Below w.heap.size w w' := by
  refine (show Calls _ _ _ _ _ from toWindow_any w d.wd p.g p.a p.c d.ms p.pl h.r k.ms k.mz).mono ?_
  rintro e w' ⟨q, qs, rfl, hq, n⟩
  exact ⟨⟨⟨some ⟨q, 0, none⟩, d.ms.length, q, qs⟩, rfl, ⟨hq.rd⟩⟩, n⟩
theorem eqW (w : World) (p q : WA) (d : WD) (h : HasW w p d) (h' : HasW w q d) (k : OkW d) :
    Calls Try.prog 10 #[.agg (winV p d), .agg (winV q d)] w fun e w' => e = .returned (.bool true) ∧ Below w.heap.size w w' := eqWindow_same w d.wd p.g q.g p.a q.a p.c q.c d.ms p.pl q.pl h.r h'.r k.ms k.mz
theorem spW (w : World) (p : WA) (d : WD) (h : HasW w p d) (b : ∀ i, i < d.ms.length → Byt (d.ms.getD i mrk0).id) :
    Calls Try.prog 17 #[.agg (winV p d)] w fun e w' => e = .returned (.int .i64 (wfV d.wd d.ms)) ∧ Below w.heap.size w w' := specWf_any w d.wd p.g p.a p.c d.ms p.pl h.r b
theorem rangeW {w w' : World} {b : Nat} {cs : List Value} (h : w.rangeAt b 0 cs) (n : Below w.heap.size w w') : w'.rangeAt b 0 cs := rangeK h n
/-- A window that may be read. -/
def FWn (m : WD) : Fact := ⟨fun v w => ∃ q, v = .agg (winV q m) ∧ HasW w q m, fun n h => by
  obtain ⟨q, e, h⟩ := h
  exact ⟨q, e, h.up n⟩⟩
section
variable {ops : Array Oper} {Q : Exit → Act → World → Prop} {md : Region.Mode} {F : Nat → Fact} {a0 : Act} {w0 : World} {i : Nat} {o : Oper} {ts : Array TypeId}
theorem step_lW (ty : TypeId) (hu : ∃ d, Try.prog.underlying ty = some d ∧ d.isRow = true) (hs : (Try.prog.info? ty).map (·.size) = some 2) (hi : ops[i]? = some o) (p : Nat) (hop : o.op = .load ty (.tmp p)) (hp : apart ops p = true) (b : Nat) (h0 : a0.tmps.getD p undef = .pointer (some ⟨b, 0, none⟩)) {q : WA} {m : WD} (T : w0.rangeAt b 0 (winV q m).toList) (hF : F i = Fact.eq (.agg (winV q m))) : StepOk Try.prog md ops Q F a0 w0 i := by
  obtain ⟨d, hu, hr⟩ := hu
  refine step_load hi _ _ hop _ 2 hu hr hs fun a w hb hw _ => ?_
  exact ⟨b, 0, (winV q m).toList, (based_at hb p hp).trans h0, rangeW T hw, rfl, by rw [hF]; exact rfl⟩
theorem step_toW (hi : ops[i]? = some o) (p j : Nat) {q : WA} {m : WD} (hop : o.op = .call { callee := .value (.func 6), args := #[.tmp p], argTypes := ts })
    (hj : waits md ops i j p = true) (hC : HasW w0 q m) (im : OkW m) (hFj : F j = Fact.eq (.agg (winV q m))) (hFi : F i = FWn m) : StepOk Try.prog md ops Q F a0 w0 i := by
  refine step_callv hi _ _ ts hop (by kernel_rfl) fun A w _ hw hF => ?_
  have ea := hF j p hj
  rw [hFj] at ea
  show Calls Try.prog 6 #[A.tmps.getD p undef] w _
  rw [show A.tmps.getD p undef = _ from ea]
  refine (toW w q m (hC.up hw) im).mono ?_
  rintro r w' ⟨⟨z, rfl, hz⟩, hn⟩
  rw [hFi]
  exact ⟨_, rfl, hn, z, rfl, hz⟩
theorem step_eqW (hi : ops[i]? = some o) (p q j k : Nat) {z : WA} {m : WD} (hop : o.op = .call { callee := .value (.func 10), args := #[.tmp p, .tmp q], argTypes := ts })
    (hj : waits md ops i j p = true) (hk : waits md ops i k q = true) (hC : HasW w0 z m) (im : OkW m) (hFj : F j = Fact.eq (.agg (winV z m))) (hFk : F k = FWn m) (hFi : F i = Fact.eq (.bool true)) : StepOk Try.prog md ops Q F a0 w0 i := by
  refine step_callv hi _ _ ts hop (by kernel_rfl) fun A w _ hw hF => ?_
  have ea := hF j p hj
  rw [hFj] at ea
  have eb := hF k q hk
  rw [hFk] at eb
  obtain ⟨y, eb, hy⟩ := eb
  show Calls Try.prog 10 #[A.tmps.getD p undef, A.tmps.getD q undef] w _
  rw [show A.tmps.getD p undef = _ from ea, show A.tmps.getD q undef = _ from eb]
  refine (eqW w z y m (hC.up hw) hy im).mono ?_
  rintro r w' ⟨rfl, hn⟩
  rw [hFi]
  exact ⟨_, rfl, hn, rfl⟩
theorem step_notW {P : Program} (hi : ops[i]? = some o) (p j : Nat) {b : Bool} {t : TypeId} (hop : o.op = .unOp .not t (.tmp p)) (hj : waits md ops i j p = true) (hFj : F j = Fact.eq (.bool b)) (hFi : F i = Fact.eq (.bool (!b))) : StepOk P md ops Q F a0 w0 i := by
  refine step_pure hi fun a w _ _ hf => ⟨.bool (!b), ?_, by rw [hFi]; exact rfl⟩
  have e := hf j p hj
  rw [hFj] at e
  have e' : a.eval (.tmp p) = .bool b := e
  simp only [execOp, hop, e']
  rfl
end
end Go.Proofs.Ytjjoimlnpbelpaa
