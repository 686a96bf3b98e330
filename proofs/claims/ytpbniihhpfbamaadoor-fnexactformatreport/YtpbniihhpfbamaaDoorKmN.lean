
/-
  The law of Agreement (written by gens/kmn.py).
-/
import Derived.Test.YtpbniihhpfbamaaDoorKmF
import Derived.Test.YtpbniihhpfbamaaDoorKmG
import Derived.Test.YtpbniihhpfbamaaDoorKmJ
import Derived.Test.YtpbniihhpfbamaaDoorKmM
namespace Go.Proofs.YtpbniihhpfbamaaDoor
set_option maxRecDepth 100000
open Go Go.RowKit

/-- The cells of a channel's report. -/
def crV (p : CA) (d : CD) : Array Value := #[.int .i64 d.fa, .slice p.a1 d.an.length p.c1, .int .i64 d.cl.fa, .slice p.cl.a1 d.cl.an.length p.cl.c1, .slice p.cl.a2 d.cl.se.length p.cl.c2, .slice p.cl.a3 d.cl.re.length p.cl.c3, .int .i64 d.cl.er, .int .i64 d.cl.ph, .int .i64 d.cl.al, .int .i64 d.cl.pa, .int .i64 d.cl.no, .bool d.cl.rs, .bool d.cl.et, .string d.cl.pr, .slice p.cl.a12 d.cl.ex.length p.cl.c12, .slice p.cl.a13 d.cl.tr.length p.cl.c13, .slice p.cl.a14 d.cl.tk.length p.cl.c14, .slice p.cl.a15 d.cl.pk.length p.cl.c15, .slice p.cl.a16 d.cl.rn.length p.cl.c16, .int .i64 d.cl.gt, .int .i64 d.cl.li, .string d.cl.ho, .string d.cl.sp, .int .i64 d.cl.ea, .int .i64 d.cl.wd, .slice p.cl.a23 d.cl.ms.length p.cl.c23, .int .i64 d.sv.fa, .slice p.sv.a1 d.sv.an.length p.sv.c1, .slice p.sv.a2 d.sv.se.length p.sv.c2, .slice p.sv.a3 d.sv.re.length p.sv.c3, .int .i64 d.sv.er, .int .i64 d.sv.ph, .int .i64 d.sv.al, .int .i64 d.sv.pa, .int .i64 d.sv.no, .bool d.sv.rs, .bool d.sv.et, .string d.sv.pr, .slice p.sv.a12 d.sv.ex.length p.sv.c12, .slice p.sv.a13 d.sv.tr.length p.sv.c13, .slice p.sv.a14 d.sv.tk.length p.sv.c14, .slice p.sv.a15 d.sv.pk.length p.sv.c15, .slice p.sv.a16 d.sv.rn.length p.sv.c16, .int .i64 d.sv.gt, .int .i64 d.sv.li, .string d.sv.ho, .string d.sv.sp, .int .i64 d.sv.ea, .int .i64 d.sv.wd, .slice p.sv.a23 d.sv.ms.length p.sv.c23, .slice p.a50 d.ts.length p.c50, .slice p.a51 d.tc.length p.c51]
theorem crV_one (p : CA) (d : CD) : (crV p d).all (·.oneCell') = true := oneCr p d
theorem HasC.zero {b : Nat} {W : World} {p : CA} {d : CD} (h : HasC b W p d) : HasC 0 W p d := ⟨h.an, Nat.zero_le _, h.cl.mono (Nat.zero_le _), h.sv.mono (Nat.zero_le _), h.ts, Nat.zero_le _, h.tc, Nat.zero_le _⟩
theorem szC (w : World) (p : CA) (d : CD) (h : HasC 0 w p d) (g : BgC d) :
    Calls Tryd.prog 29 #[.agg (crV p d), .int .i64 1048576] w fun e w' => (∃ r, e = .returned (.int .i64 r) ∧ (0 ≤ r → OkC d)) ∧ Below w.heap.size w w' := by
  refine (show Calls _ _ _ _ _ from szChannelReport_r w p d h g 1048576 (by decide) (by decide)).mono ?_
  rintro e w' ⟨⟨r, rfl, hr⟩, n⟩
  refine ⟨⟨r, rfl, fun h0 => okC_of ?_⟩, n⟩
  rcases hr with ⟨_, rfl⟩ | ⟨h1, _⟩
  · omega
  · exact h1
theorem toC (w : World) (p : CA) (d : CD) (h : HasC 0 w p d) (k : OkC d) :
    Calls Tryd.prog 33 #[.agg (crV p d)] w fun e w' => (∃ q, e = .returned (.agg (crV q d)) ∧ HasC 0 w' q d) ∧ Below w.heap.size w w' := by
  refine (show Calls _ _ _ _ _ from toChannelReport_any w p d h k).mono ?_
  rintro e w' ⟨q, rfl, hq, n⟩
  exact ⟨⟨q, rfl, hq.zero⟩, n⟩
theorem eqC (w : World) (p q : CA) (d : CD) (h : HasC 0 w p d) (h' : HasC 0 w q d) (k : OkC d) :
    Calls Tryd.prog 47 #[.agg (crV p d), .agg (crV q d)] w fun e w' => e = .returned (.bool true) ∧ Below w.heap.size w w' := eqChannelReport_same w p q d 0 0 h h' k
theorem rangeC {w w' : World} {b : Nat} {cs : List Value} (h : w.rangeAt b 0 cs) (n : Below w.heap.size w w') : w'.rangeAt b 0 cs := rangeQ h n
/-- A report that may be read. -/
def FCr (m : CD) : Fact := ⟨fun v w => ∃ q, v = .agg (crV q m) ∧ HasC 0 w q m, fun n h => by
  obtain ⟨q, e, h⟩ := h
  exact ⟨q, e, h.up n⟩⟩
section
variable {ops : Array Oper} {Q : Exit → Act → World → Prop} {md : Region.Mode} {F : Nat → Fact} {a0 : Act} {w0 : World} {i : Nat} {o : Oper} {ts : Array TypeId}
theorem step_lC (ty : TypeId) (hu : ∃ d, Tryd.prog.underlying ty = some d ∧ d.isRow = true) (hs : (Tryd.prog.info? ty).map (·.size) = some 52) (hi : ops[i]? = some o) (p : Nat) (hop : o.op = .load ty (.tmp p)) (hp : apart ops p = true) (b : Nat) (h0 : a0.tmps.getD p undef = .pointer (some ⟨b, 0, none⟩)) {q : CA} {m : CD} (T : w0.rangeAt b 0 (crV q m).toList) (hF : F i = Fact.eq (.agg (crV q m))) : StepOk Tryd.prog md ops Q F a0 w0 i := by
  obtain ⟨d, hu, hr⟩ := hu
  refine step_load hi _ _ hop _ 52 hu hr hs fun a w hb hw _ => ?_
  exact ⟨b, 0, (crV q m).toList, (based_at hb p hp).trans h0, rangeC T hw, rfl, by rw [hF]; exact rfl⟩
theorem step_toC (hi : ops[i]? = some o) (p j : Nat) {q : CA} {m : CD} (hop : o.op = .call { callee := .value (.func 33), args := #[.tmp p], argTypes := ts })
    (hj : waits md ops i j p = true) (hC : HasC 0 w0 q m) (im : OkC m) (hFj : F j = Fact.eq (.agg (crV q m))) (hFi : F i = FCr m) : StepOk Tryd.prog md ops Q F a0 w0 i := by
  refine step_callv hi _ _ ts hop (by kernel_rfl) fun A w _ hw hF => ?_
  have ea := hF j p hj
  rw [hFj] at ea
  show Calls Tryd.prog 33 #[A.tmps.getD p undef] w _
  rw [show A.tmps.getD p undef = _ from ea]
  refine (toC w q m (hC.up hw) im).mono ?_
  rintro r w' ⟨⟨z, rfl, hz⟩, hn⟩
  rw [hFi]
  exact ⟨_, rfl, hn, z, rfl, hz⟩
theorem step_eqC (hi : ops[i]? = some o) (p q j k : Nat) {z : CA} {m : CD} (hop : o.op = .call { callee := .value (.func 47), args := #[.tmp p, .tmp q], argTypes := ts })
    (hj : waits md ops i j p = true) (hk : waits md ops i k q = true) (hC : HasC 0 w0 z m) (im : OkC m) (hFj : F j = Fact.eq (.agg (crV z m))) (hFk : F k = FCr m) (hFi : F i = Fact.eq (.bool true)) : StepOk Tryd.prog md ops Q F a0 w0 i := by
  refine step_callv hi _ _ ts hop (by kernel_rfl) fun A w _ hw hF => ?_
  have ea := hF j p hj
  rw [hFj] at ea
  have eb := hF k q hk
  rw [hFk] at eb
  obtain ⟨y, eb, hy⟩ := eb
  show Calls Tryd.prog 47 #[A.tmps.getD p undef, A.tmps.getD q undef] w _
  rw [show A.tmps.getD p undef = _ from ea, show A.tmps.getD q undef = _ from eb]
  refine (eqC w z y m (hC.up hw) hy im).mono ?_
  rintro r w' ⟨rfl, hn⟩
  rw [hFi]
  exact ⟨_, rfl, hn, rfl⟩
theorem step_notC {P : Program} (hi : ops[i]? = some o) (p j : Nat) {b : Bool} {t : TypeId} (hop : o.op = .unOp .not t (.tmp p)) (hj : waits md ops i j p = true) (hFj : F j = Fact.eq (.bool b)) (hFi : F i = Fact.eq (.bool (!b))) : StepOk P md ops Q F a0 w0 i := by
  refine step_pure hi fun a w _ _ hf => ⟨.bool (!b), ?_, by rw [hFi]; exact rfl⟩
  have e := hf j p hj
  rw [hFj] at e
  have e' : a.eval (.tmp p) = .bool b := e
  simp only [execOp, hop, e']
  rfl
end
end Go.Proofs.YtpbniihhpfbamaaDoor
