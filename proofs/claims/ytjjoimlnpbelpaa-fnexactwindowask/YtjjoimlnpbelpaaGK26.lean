import Derived.Test.YtjjoimlnpbelpaaGK9
import Derived.Test.YtjjoimlnpbelpaaGK12
import Derived.Test.YtjjoimlnpbelpaaGK10
import Derived.Test.YtjjoimlnpbelpaaGKxWaR

/-
  Windows and the reports of ends and of a channel, held against each other (written by gens/kme.py).
-/
namespace Go.Proofs.Ytjjoimlnpbelpaa
open Go Go.RowKit

set_option maxRecDepth 100000 in
set_option maxHeartbeats 16000000 in
theorem eqWindow_same (w : World) (wd : Int) (g g' : Nat) (a a' : Option Addr) (c c' : Nat) (ms : List Mrk) (ps ps' : List Plm) (h : RdK w g a ms ps) (h' : RdK w g' a' ms ps') (hn : ms.length ≤ 1048576) (hz : ∀ i, i < ms.length → (ms.getD i mrk0).id.length ≤ 1048576) :
    Calls Try.prog 10 #[.agg #[.int .i64 wd, .slice a ms.length c], .agg #[.int .i64 wd, .slice a' ms.length c']] w fun e w' => e = .returned (.bool true) ∧ Below w.heap.size w w' := by
  have n1 : Below w.heap.size w (w.alloc (.cells #[.int .i64 wd, .slice a ms.length c] 29)) := (Below.refl _ _).alloc (Nat.le_refl _) _
  have n2 : Below (w.alloc (.cells #[.int .i64 wd, .slice a ms.length c] 29)).heap.size (w.alloc (.cells #[.int .i64 wd, .slice a ms.length c] 29)) ((w.alloc (.cells #[.int .i64 wd, .slice a ms.length c] 29)).alloc (.cells #[.int .i64 wd, .slice a' ms.length c'] 29)) := (Below.refl _ _).alloc (Nat.le_refl _) _
  have P0 : RwC (w.alloc (.cells #[.int .i64 wd, .slice a ms.length c] 29)) w.heap.size [.int .i64 wd, .slice a ms.length c] 29 := RwC.new w _ _
  have P1 : RwC ((w.alloc (.cells #[.int .i64 wd, .slice a ms.length c] 29)).alloc (.cells #[.int .i64 wd, .slice a' ms.length c'] 29)) (w.heap.size + 1) [.int .i64 wd, .slice a' ms.length c'] 29 := by have := RwC.new (w.alloc (.cells #[.int .i64 wd, .slice a ms.length c] 29)) [.int .i64 wd, .slice a' ms.length c'] 29; simpa using this
  have N := nxt n1 n2
  replace P0 := P0.up n2
  have E0 := hide (fun W (n : Below w.heap.size w W) => eqMarkS_same W g g' a a' c c' ms ps ps' (h.up n) (h'.up n) hn hz)
  clear n1 n2
  go_enter Try.func10, Try.ntmps10
  have p0 : ((w.alloc (.cells #[.int .i64 wd, .slice a ms.length c] 29)).alloc (.cells #[.int .i64 wd, .slice a' ms.length c'] 29)).cell? ⟨w.heap.size, 0, none⟩ = some (.int .i64 wd) := P0.cell 0
  have r0 : ((w.alloc (.cells #[.int .i64 wd, .slice a ms.length c] 29)).alloc (.cells #[.int .i64 wd, .slice a' ms.length c'] 29)).cell? ⟨w.heap.size + 1, 0, none⟩ = some (.int .i64 wd) := P1.cell 0
  have p1 : ((w.alloc (.cells #[.int .i64 wd, .slice a ms.length c] 29)).alloc (.cells #[.int .i64 wd, .slice a' ms.length c'] 29)).cell? ⟨w.heap.size, 1, none⟩ = some (.slice a ms.length c) := P0.cell 1
  have r1 : ((w.alloc (.cells #[.int .i64 wd, .slice a ms.length c] 29)).alloc (.cells #[.int .i64 wd, .slice a' ms.length c'] 29)).cell? ⟨w.heap.size + 1, 1, none⟩ = some (.slice a' ms.length c') := P1.cell 1
  go_wp2_with fail
  generalize (w.alloc (.cells #[.int .i64 wd, .slice a ms.length c] 29)).alloc (.cells #[.int .i64 wd, .slice a' ms.length c'] 29) = wa at *
  refine (E0.out _ N).mono ?_
  rintro e w1 ⟨rfl, m⟩
  replace N := nxt N m
  replace P0 := P0.up m
  replace P1 := P1.up m
  clear m E0 p0 r0 p1 r1
  go_wp2
  go_ret
  exact ⟨rfl, N⟩
end Go.Proofs.Ytjjoimlnpbelpaa

/-
  Windows and reports, counted (written by gens/kmh.py).
-/
namespace Go.Proofs.Ytjjoimlnpbelpaa
open Go Go.RowKit

theorem szByteB (w : World) (a : Option Addr) (c n : Nat) (L : Int) (hn : n < 9223372036854775808) (h0 : 0 ≤ L) (h1 : L ≤ 1048576) :
    Calls Try.prog 42 #[.slice a n c, .int .i64 L] w fun e w' => (∃ r, e = .returned (.int .i64 r) ∧ LftK L n r) ∧ Below w.heap.size w w' :=
  (szByteK_r w a c n L hn h0 h1).mono (by rintro e w' ⟨h, rfl⟩; exact ⟨h, Below.refl _ _⟩)
set_option maxRecDepth 100000 in
set_option maxHeartbeats 16000000 in
theorem szWindow_r (w : World) (wd : Int) (g : Nat) (a : Option Addr) (c : Nat) (ms : List Mrk) (ps : List Plm) (h : RdK w g a ms ps) (hn : ms.length ≤ 9223372036854775807) (hz : ∀ i, i < ms.length → (ms.getD i mrk0).id.length < 9223372036854775808) (L : Int) (h0 : 0 ≤ L) (h1 : L ≤ 1048576) :
    Calls Try.prog 4 #[.agg #[.int .i64 wd, .slice a ms.length c], .int .i64 L] w fun e w' => (∃ r, e = .returned (.int .i64 r) ∧ LftK L ((ms.length : Int) + (sumK ms : Int)) r) ∧ Below w.heap.size w w' := by
  have N : Below w.heap.size w (w.alloc (.cells #[.int .i64 wd, .slice a ms.length c] 24)) := (Below.refl _ _).alloc (Nat.le_refl _) _
  have P0 : RwC (w.alloc (.cells #[.int .i64 wd, .slice a ms.length c] 24)) w.heap.size [.int .i64 wd, .slice a ms.length c] 24 := RwC.new w _ _
  have HQ0 : Hid (L = L) := rfl
  go_enter Try.func4, Try.ntmps4
  have pc : (w.alloc (.cells #[.int .i64 wd, .slice a ms.length c] 24)).cell? ⟨w.heap.size, 1, none⟩ = some (.slice a ms.length c) := P0.cell 1
  have SZ := hide (szMarkS_r (w.alloc (.cells #[.int .i64 wd, .slice a ms.length c] 24)) g a c ms ps L (h.up N) hn hz h0 h1)
  have G := hide h0
  have K := hide h1
  clear h0 h1
  go_wp2_with fail
  generalize w.alloc (.cells #[.int .i64 wd, .slice a ms.length c] 24) = wa at *
  refine SZ.out.mono ?_
  rintro e w1 ⟨⟨r, rfl, hr⟩, m⟩
  replace N := nxt N m
  replace P0 := P0.up m
  clear m SZ pc 
  rcases hr with ⟨h2, rfl⟩ | ⟨h2, rfl⟩
  · have FA : Hid (L < (ms.length : Int) + (sumK ms : Int)) := by have := HQ0.out; show L < _; omega
    clear h2 G K HQ0 P0
    go_wp2
    go_ret
    exact ⟨⟨_, rfl, .inl ⟨FA.out, rfl⟩⟩, N⟩
  have t0 : decide (L - ((ms.length : Int) + (sumK ms : Int)) < 0) = false := decide_eq_false (by omega)
  obtain ⟨q1, e0⟩ : ∃ x : Int, x = L - ((ms.length : Int) + (sumK ms : Int)) := ⟨_, rfl⟩
  have HQ1 : Hid (q1 = L - (((ms.length : Int) + (sumK ms : Int)))) := by have := HQ0.out; show q1 = _; omega
  have g1 : 0 ≤ q1 := by omega
  have k1 : q1 ≤ 1048576 := by have := G.out; have := K.out; omega
  rw [← e0] at t0 ⊢
  clear h2 G K e0 HQ0
  have FI : Hid (LftK L ((ms.length : Int) + (sumK ms : Int)) q1) := .inr ⟨by have := HQ1.out; omega, by have := HQ1.out; omega⟩
  clear HQ1
  go_wp2
  go_ret
  exact ⟨⟨_, rfl, FI.out⟩, N⟩
end Go.Proofs.Ytjjoimlnpbelpaa

/-
  The law of WindowFault (written by gens/kwe.py).
-/
namespace Go.Proofs.Ytjjoimlnpbelpaa
open Go Go.RowKit

/-- A window as data, and where it lies. -/
structure WD where
  wd : Int
  ms : List Mrk
structure WA where
  a : Option Addr
  c : Nat
  g : Nat
  pl : List Plm
structure HasW (w : World) (p : WA) (d : WD) : Prop where
  r : RdK w p.g p.a d.ms p.pl
theorem HasW.up {w w' : World} {p : WA} {d : WD} (h : HasW w p d) (n : Below w.heap.size w w') : HasW w' p d := ⟨h.r.up n⟩
structure OkW (d : WD) : Prop where
  ms : d.ms.length ≤ 1048576
  mz : ∀ i, i < d.ms.length → (d.ms.getD i mrk0).id.length ≤ 1048576
structure BgW (d : WD) : Prop where
  ms : d.ms.length ≤ 9223372036854775807
  mz : ∀ i, i < d.ms.length → (d.ms.getD i mrk0).id.length < 9223372036854775808
  by' : ∀ i, i < d.ms.length → Byt (d.ms.getD i mrk0).id
def winV (p : WA) (d : WD) : Array Value := #[.int .i64 d.wd, .slice p.a d.ms.length p.c]
theorem winV_one (p : WA) (d : WD) : (winV p d).all (·.oneCell') = true := oneWd d.wd p.a d.ms.length p.c
theorem szW (w : World) (p : WA) (d : WD) (h : HasW w p d) (g : BgW d) :
    Calls Try.prog 4 #[.agg (winV p d), .int .i64 1048576] w fun e w' => (∃ r, e = .returned (.int .i64 r) ∧ (0 ≤ r → OkW d)) ∧ Below w.heap.size w w' := by
  refine (show Calls _ _ _ _ _ from szWindow_r w d.wd p.g p.a p.c d.ms p.pl h.r g.ms g.mz 1048576 (by decide) (by decide)).mono ?_
  rintro e w' ⟨⟨r, rfl, hr⟩, n⟩
  refine ⟨⟨r, rfl, fun h0 => ?_⟩, n⟩
  rcases hr with ⟨_, rfl⟩ | ⟨h1, _⟩
  · omega
  · exact ⟨by omega, fun i hi => by have := sumK_get hi; omega⟩
theorem toW (w : World) (p : WA) (d : WD) (h : HasW w p d) (k : OkW d) :
    Calls Try.prog 6 #[.agg (winV p d)] w fun e w' => (∃ q, e = .returned (.agg (winV q d)) ∧ HasW w' q d) ∧ Below w.heap.size w w' := by
  refine (show Calls _ _ _ _ _ from toWindow_any w d.wd p.g p.a p.c d.ms p.pl h.r k.ms k.mz).mono ?_
  rintro e w' ⟨q, qs, rfl, hq, n⟩
  exact ⟨⟨⟨some ⟨q, 0, none⟩, d.ms.length, q, qs⟩, rfl, ⟨hq.rd⟩⟩, n⟩
theorem eqW (w : World) (p q : WA) (d : WD) (h : HasW w p d) (h' : HasW w q d) (k : OkW d) :
    Calls Try.prog 10 #[.agg (winV p d), .agg (winV q d)] w fun e w' => e = .returned (.bool true) ∧ Below w.heap.size w w' := eqWindow_same w d.wd p.g q.g p.a q.a p.c q.c d.ms p.pl q.pl h.r h'.r k.ms k.mz
theorem spW (w : World) (p : WA) (d : WD) (h : HasW w p d) (b : ∀ i, i < d.ms.length → Byt (d.ms.getD i mrk0).id) :
    Calls Try.prog 17 #[.agg (winV p d)] w fun e w' => e = .returned (.int .i64 (wfV d.wd d.ms)) ∧ Below w.heap.size w w' := specWf_any w d.wd p.g p.a p.c d.ms p.pl h.r b
theorem rangeW {w w' : World} {b : Nat} {cs : List Value} (h : w.rangeAt b 0 cs) (n : Below w.heap.size w w') : w'.rangeAt b 0 cs := rangeK h n
/-- A window that may be read. -/
def FWn (m : WD) : Fact := ⟨fun v w => ∃ q, v = .agg (winV q m) ∧ HasW w q m, fun n h => by
  obtain ⟨q, e, h⟩ := h
  exact ⟨q, e, h.up n⟩⟩
section
variable {ops : Array Oper} {Q : Exit → Act → World → Prop} {md : Region.Mode} {F : Nat → Fact} {a0 : Act} {w0 : World} {i : Nat} {o : Oper} {ts : Array TypeId}
theorem step_lW (ty : TypeId) (hu : ∃ d, Try.prog.underlying ty = some d ∧ d.isRow = true) (hs : (Try.prog.info? ty).map (·.size) = some 2) (hi : ops[i]? = some o) (p : Nat) (hop : o.op = .load ty (.tmp p)) (hp : apart ops p = true) (b : Nat) (h0 : a0.tmps.getD p undef = .pointer (some ⟨b, 0, none⟩)) {q : WA} {m : WD} (T : w0.rangeAt b 0 (winV q m).toList) (hF : F i = Fact.eq (.agg (winV q m))) : StepOk Try.prog md ops Q F a0 w0 i := by
  obtain ⟨d, hu, hr⟩ := hu
  refine step_load hi _ _ hop _ 2 hu hr hs fun a w hb hw _ => ?_
  exact ⟨b, 0, (winV q m).toList, (based_at hb p hp).trans h0, rangeW T hw, rfl, by rw [hF]; exact rfl⟩
theorem step_toW (hi : ops[i]? = some o) (p j : Nat) {q : WA} {m : WD} (hop : o.op = .call { callee := .value (.func 6), args := #[.tmp p], argTypes := ts })
    (hj : waits md ops i j p = true) (hC : HasW w0 q m) (im : OkW m) (hFj : F j = Fact.eq (.agg (winV q m))) (hFi : F i = FWn m) : StepOk Try.prog md ops Q F a0 w0 i := by
  refine step_callv hi _ _ ts hop (by kernel_rfl) fun A w _ hw hF => ?_
  have ea := hF j p hj
  rw [hFj] at ea
  show Calls Try.prog 6 #[A.tmps.getD p undef] w _
  rw [show A.tmps.getD p undef = _ from ea]
  refine (toW w q m (hC.up hw) im).mono ?_
  rintro r w' ⟨⟨z, rfl, hz⟩, hn⟩
  rw [hFi]
  exact ⟨_, rfl, hn, z, rfl, hz⟩
theorem step_eqW (hi : ops[i]? = some o) (p q j k : Nat) {z : WA} {m : WD} (hop : o.op = .call { callee := .value (.func 10), args := #[.tmp p, .tmp q], argTypes := ts })
    (hj : waits md ops i j p = true) (hk : waits md ops i k q = true) (hC : HasW w0 z m) (im : OkW m) (hFj : F j = Fact.eq (.agg (winV z m))) (hFk : F k = FWn m) (hFi : F i = Fact.eq (.bool true)) : StepOk Try.prog md ops Q F a0 w0 i := by
  refine step_callv hi _ _ ts hop (by kernel_rfl) fun A w _ hw hF => ?_
  have ea := hF j p hj
  rw [hFj] at ea
  have eb := hF k q hk
  rw [hFk] at eb
  obtain ⟨y, eb, hy⟩ := eb
  show Calls Try.prog 10 #[A.tmps.getD p undef, A.tmps.getD q undef] w _
  rw [show A.tmps.getD p undef = _ from ea, show A.tmps.getD q undef = _ from eb]
  refine (eqW w z y m (hC.up hw) hy im).mono ?_
  rintro r w' ⟨rfl, hn⟩
  rw [hFi]
  exact ⟨_, rfl, hn, rfl⟩
theorem step_notW {P : Program} (hi : ops[i]? = some o) (p j : Nat) {b : Bool} {t : TypeId} (hop : o.op = .unOp .not t (.tmp p)) (hj : waits md ops i j p = true) (hFj : F j = Fact.eq (.bool b)) (hFi : F i = Fact.eq (.bool (!b))) : StepOk P md ops Q F a0 w0 i := by
  refine step_pure hi fun a w _ _ hf => ⟨.bool (!b), ?_, by rw [hFi]; exact rfl⟩
  have e := hf j p hj
  rw [hFj] at e
  have e' : a.eval (.tmp p) = .bool b := e
  simp only [execOp, hop, e']
  rfl
end
end Go.Proofs.Ytjjoimlnpbelpaa

/-
  The laws' own helpers on windows that are asked (written by gens/wau.py).
-/
namespace Go.Proofs.Ytjjoimlnpbelpaa
open Go Go.RowKit

/-- Of what was there only blocks of S have turned. -/
structure Tws (S : Nat → Prop) (w w' : World) : Prop where
  os : w'.os = w.os
  tape : w'.tape = w.tape
  output : w'.output = w.output
  size : w.heap.size ≤ w'.heap.size
  block : ∀ k, k < w.heap.size → ¬ S k → w'.heap[k]? = w.heap[k]?
set_option maxRecDepth 100000 in
theorem Tws.of {S : Nat → Prop} {a b c : World} (h : Below a.heap.size a b) (k : Bsx S b c) : Tws S a c := ⟨k.os.trans h.os, k.tape.trans h.tape, k.output.trans h.output, by rw [k.size]; exact h.size, fun i hi hn => (k.block i hn).trans (h.block i hi)⟩
set_option maxRecDepth 100000 in
theorem Tws.ofT {S : Nat → Prop} {a b c : World} (h : Below a.heap.size a b) (k : Tws S b c) : Tws S a c := ⟨k.os.trans h.os, k.tape.trans h.tape, k.output.trans h.output, Nat.le_trans h.size k.size, fun i hi hn => (k.block i (Nat.lt_of_lt_of_le hi h.size) hn).trans (h.block i hi)⟩
set_option maxRecDepth 100000 in
theorem Tws.below {S : Nat → Prop} {w w' : World} {B : Nat} (h : Tws S w w') (hS : ∀ p, S p → B ≤ p) (hB : B ≤ w.heap.size) : Below B w w' := ⟨h.os, h.tape, h.output, h.size, fun k hk => h.block k (by omega) (fun s => by have := hS k s; omega)⟩
set_option maxRecDepth 100000 in
theorem IRow.rows {w : World} {B : Nat} {v : Value} {its : List (Int × List Int)} {bs : List Plc} (h : IRow w B v its bs) : ∀ p, rowS v its bs p → B ≤ p ∧ p < w.heap.size := fun p hp => by
  rcases hp with hp | ⟨i, hi, h0, rfl⟩
  · exact h.o.lt p hp
  · exact ⟨(h.h i hi h0).1, h.lt hi h0⟩
set_option maxRecDepth 100000 in
set_option maxHeartbeats 1000000 in
theorem markWindow_own (w : World) (wd : Int) (a : Option Addr) (c : Nat) (its : List (Int × List Int)) (bs : List Plc) (n : Int) (B : Nat) (h : IRow w B (.slice a its.length c) its bs) (hl : its.length ≤ 1048576) (hn : ∀ i, i < its.length → (its.getD i (0, [])).2.length ≤ 1048576) (k0 : 0 ≤ n) (k1 : psI its n its.length ≤ 1000000000) :
    Calls Try.prog 12 #[.agg #[.int .i64 wd, .slice a its.length c], .int .i64 n] w fun e w' => e = .returned (.int .i64 (psI its n its.length)) ∧ Mkd w' (.slice a its.length c) its bs n ∧ Tws (rowS (.slice a its.length c) its bs) w w' := by
  have n1 : Below w.heap.size w (w.alloc (.cells #[.int .i64 wd, .slice a its.length c] 29)) := (Below.refl _ _).alloc (Nat.le_refl _) _
  have T := RwC.new w [.int .i64 wd, .slice a its.length c] 29
  have MM := hide (markMarkS_any (w.alloc (.cells #[.int .i64 wd, .slice a its.length c] 29)) B _ its bs n (h.of (fun k hk _ => n1.block k hk)) hl hn k0 k1)
  have N1 := hide n1
  have bp := psI_bd (its := its) k0 its.length (Nat.le_refl _)
  generalize psI its n its.length = R at *
  have c0 := T.c0
  have c1 := T.c1
  clear n1 T h hn k1 hl
  go_enter Try.func12, Try.ntmps12
  go_wp2_with fail
  generalize w.alloc (.cells #[.int .i64 wd, .slice a its.length c] 29) = w1 at *
  refine MM.out.mono ?_
  rintro e w2 ⟨rfl, m1, m2⟩
  have M1 := hide m1
  have M2 := hide (Tws.of N1.out m2)
  clear m1 m2 MM c0 c1
  go_wp2
  go_ret
  exact ⟨rfl, M1.out, M2.out⟩
set_option maxRecDepth 100000 in
set_option maxHeartbeats 1000000 in
theorem heldWindow_own (w : World) (wd : Int) (a : Option Addr) (c : Nat) (its : List (Int × List Int)) (bs : List Plc) (n : Int) (hv : 0 < its.length → ∃ g, a = some ⟨g, 0, none⟩) (h : Mkd w (.slice a its.length c) its bs n) (hl : its.length ≤ 1048576) (hn : ∀ i, i < its.length → (its.getD i (0, [])).2.length ≤ 1048576) (k0 : 0 ≤ n) (k1 : psI its n its.length ≤ 1000000000) :
    Calls Try.prog 29 #[.agg #[.int .i64 wd, .slice a its.length c], .int .i64 n] w fun e w' => e = .returned (.int .i64 (psI its n its.length)) ∧ Below w.heap.size w w' := by
  have n1 : Below w.heap.size w (w.alloc (.cells #[.int .i64 wd, .slice a its.length c] 29)) := (Below.refl _ _).alloc (Nat.le_refl _) _
  have T := RwC.new w [.int .i64 wd, .slice a its.length c] 29
  have MM := hide (heldMarkS_any (w.alloc (.cells #[.int .i64 wd, .slice a its.length c] 29)) _ its bs n ⟨a, c, rfl, hv⟩ (h.up n1) hl hn k0 k1)
  have N1 := hide n1
  have bp := psI_bd (its := its) k0 its.length (Nat.le_refl _)
  generalize psI its n its.length = R at *
  have c0 := T.c0
  have c1 := T.c1
  have t1 : decide (R < 0) = false := decide_eq_false (by omega)
  clear n1 T h hv hn k1 hl
  go_enter Try.func29, Try.ntmps29
  go_wp2_with fail
  generalize w.alloc (.cells #[.int .i64 wd, .slice a its.length c] 29) = w1 at *
  refine MM.out.mono ?_
  rintro e w2 ⟨rfl, hw⟩
  have hw := hw.symm
  subst hw
  clear MM c0 c1
  go_wp2
  go_ret
  exact ⟨rfl, N1.out⟩
set_option maxRecDepth 100000 in
set_option maxHeartbeats 1000000 in
theorem markWindowAnswer_own (w : World) (cd wd : Int) (a : Option Addr) (c : Nat) (its : List (Int × List Int)) (bs : List Plc) (n : Int) (B : Nat) (h : IRow w B (.slice a its.length c) its bs) (hl : its.length ≤ 1048576) (hn : ∀ i, i < its.length → (its.getD i (0, [])).2.length ≤ 1048576) (k0 : 0 ≤ n) (k1 : psI its n its.length ≤ 1000000000) :
    Calls Try.prog 14 #[.agg #[.int .i64 cd, .int .i64 wd, .slice a its.length c], .int .i64 n] w fun e w' => e = .returned (.int .i64 (psI its n its.length)) ∧ Mkd w' (.slice a its.length c) its bs n ∧ Tws (rowS (.slice a its.length c) its bs) w w' := by
  have n1 : Below w.heap.size w (w.alloc (.cells #[.int .i64 cd, .int .i64 wd, .slice a its.length c] 31)) := (Below.refl _ _).alloc (Nat.le_refl _) _
  have T := RwC.new w [.int .i64 cd, .int .i64 wd, .slice a its.length c] 31
  have MM := hide (markWindow_own (w.alloc (.cells #[.int .i64 cd, .int .i64 wd, .slice a its.length c] 31)) wd a c its bs n B (h.of (fun k hk _ => n1.block k hk)) hl hn k0 k1)
  have N1 := hide n1
  have bp := psI_bd (its := its) k0 its.length (Nat.le_refl _)
  generalize psI its n its.length = R at *
  have c0 := T.c0
  have c1 := T.c1
  have c2 := T.c2
  clear n1 T h hn k1 hl
  go_enter Try.func14, Try.ntmps14
  go_wp2_with fail
  generalize w.alloc (.cells #[.int .i64 cd, .int .i64 wd, .slice a its.length c] 31) = w1 at *
  refine MM.out.mono ?_
  rintro e w2 ⟨rfl, m1, m2⟩
  have M1 := hide m1
  have M2 := hide (Tws.ofT N1.out m2)
  clear m1 m2 MM c0 c1
  go_wp2
  go_ret
  exact ⟨rfl, M1.out, M2.out⟩
set_option maxRecDepth 100000 in
set_option maxHeartbeats 1000000 in
theorem heldWindowAnswer_own (w : World) (cd wd : Int) (a : Option Addr) (c : Nat) (its : List (Int × List Int)) (bs : List Plc) (n : Int) (hv : 0 < its.length → ∃ g, a = some ⟨g, 0, none⟩) (h : Mkd w (.slice a its.length c) its bs n) (hl : its.length ≤ 1048576) (hn : ∀ i, i < its.length → (its.getD i (0, [])).2.length ≤ 1048576) (k0 : 0 ≤ n) (k1 : psI its n its.length ≤ 1000000000) :
    Calls Try.prog 15 #[.agg #[.int .i64 cd, .int .i64 wd, .slice a its.length c], .int .i64 n] w fun e w' => e = .returned (.int .i64 (psI its n its.length)) ∧ Below w.heap.size w w' := by
  have n1 : Below w.heap.size w (w.alloc (.cells #[.int .i64 cd, .int .i64 wd, .slice a its.length c] 31)) := (Below.refl _ _).alloc (Nat.le_refl _) _
  have T := RwC.new w [.int .i64 cd, .int .i64 wd, .slice a its.length c] 31
  have MM := hide (heldWindow_own (w.alloc (.cells #[.int .i64 cd, .int .i64 wd, .slice a its.length c] 31)) wd a c its bs n hv (h.up n1) hl hn k0 k1)
  have N1 := hide n1
  have bp := psI_bd (its := its) k0 its.length (Nat.le_refl _)
  generalize psI its n its.length = R at *
  have c0 := T.c0
  have c1 := T.c1
  have c2 := T.c2
  have t1 : decide (R < 0) = false := decide_eq_false (by omega)
  clear n1 T h hv hn k1 hl
  go_enter Try.func15, Try.ntmps15
  go_wp2_with fail
  generalize w.alloc (.cells #[.int .i64 cd, .int .i64 wd, .slice a its.length c] 31) = w1 at *
  refine MM.out.mono ?_
  rintro e w2 ⟨rfl, hw⟩
  have M2 := hide (nxt N1.out hw)
  clear MM c0 c1 hw
  go_wp2
  go_ret
  exact ⟨rfl, M2.out⟩

set_option maxRecDepth 100000 in
set_option maxHeartbeats 1000000 in
theorem eqWindowAnswer_same (w : World) (cd wd : Int) (g g' : Nat) (a a' : Option Addr) (c c' : Nat) (ms : List Mrk) (ps ps' : List Plm) (h : RdK w g a ms ps) (h' : RdK w g' a' ms ps') (hn : ms.length ≤ 1048576) (hz : ∀ i, i < ms.length → (ms.getD i mrk0).id.length ≤ 1048576) :
    Calls Try.prog 9 #[.agg #[.int .i64 cd, .int .i64 wd, .slice a ms.length c], .agg #[.int .i64 cd, .int .i64 wd, .slice a' ms.length c']] w fun e w' => e = .returned (.bool true) ∧ Below w.heap.size w w' := by
  have n1 : Below w.heap.size w (w.alloc (.cells #[.int .i64 cd, .int .i64 wd, .slice a ms.length c] 31)) := (Below.refl _ _).alloc (Nat.le_refl _) _
  have z1 : (w.alloc (.cells #[.int .i64 cd, .int .i64 wd, .slice a ms.length c] 31)).heap.size = w.heap.size + 1 := by simp
  have n2 : Below w.heap.size w ((w.alloc (.cells #[.int .i64 cd, .int .i64 wd, .slice a ms.length c] 31)).alloc (.cells #[.int .i64 cd, .int .i64 wd, .slice a' ms.length c'] 31)) := n1.alloc (by simp) _
  have P0 := (RwC.new w [.int .i64 cd, .int .i64 wd, .slice a ms.length c] 31).push (.cells #[.int .i64 cd, .int .i64 wd, .slice a' ms.length c'] 31)
  have P1 : RwC ((w.alloc (.cells #[.int .i64 cd, .int .i64 wd, .slice a ms.length c] 31)).alloc (.cells #[.int .i64 cd, .int .i64 wd, .slice a' ms.length c'] 31)) (w.heap.size + 1) [.int .i64 cd, .int .i64 wd, .slice a' ms.length c'] 31 := by
    have h := RwC.new (w.alloc (.cells #[.int .i64 cd, .int .i64 wd, .slice a ms.length c] 31)) [.int .i64 cd, .int .i64 wd, .slice a' ms.length c'] 31
    rwa [z1] at h
  have E0 := hide (eqWindow_same _ wd g g' a a' c c' ms ps ps' (h.up n2) (h'.up n2) hn hz)
  have N2 := hide n2
  have p0 := P0.c0
  have p1 := P0.c1
  have p2 := P0.c2
  have r0 := P1.c0
  have r1 := P1.c1
  have r2 := P1.c2
  clear n1 n2 P0 P1 h h'
  go_enter Try.func9, Try.ntmps9
  go_upto_region 1 with fail
  try rw [z1]
  clear z1
  generalize (w.alloc (.cells #[.int .i64 cd, .int .i64 wd, .slice a ms.length c] 31)).alloc (.cells #[.int .i64 cd, .int .i64 wd, .slice a' ms.length c'] 31) = w1 at *
  have cc : (cd != cd) = false := by simp
  go_wp2_with fail
  refine E0.out.mono ?_
  rintro e w2 ⟨rfl, m⟩
  have N3 := hide (nxt N2.out m)
  clear m N2 E0 p0 p1 p2 r0 r1 r2
  go_wp2
  go_ret
  exact ⟨rfl, N3.out⟩
end Go.Proofs.Ytjjoimlnpbelpaa
