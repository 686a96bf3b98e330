import Derived.Test.YtpbniihhpfbamaaDoorFW13
import Derived.Test.YtpbniihhpfbamaaDoorFW2
import Derived.Test.YtpbniihhpfbamaaDoorFW8
import Derived.Deep.QuietTactic
import Derived.BigQuiet
import Derived.Deep.MidRow
import Derived.Test.YtpbniihhpfbamaaDoorFW11
import Derived.Test.YtpbniihhpfbamaaDoorFW12

/-
  The report of a channel, counted (written by gens/kmh.py).
-/
namespace Go.Proofs.YtpbniihhpfbamaaDoor
set_option maxRecDepth 100000
open Go Go.RowKit

structure BgC (d : CD) : Prop where
  an : d.an.length < 9223372036854775808
  cl : BgE d.cl
  sv : BgE d.sv
  ts : d.ts.length < 9223372036854775808
  tc : d.tc.length < 9223372036854775808
set_option maxRecDepth 100000 in
set_option maxHeartbeats 16000000 in
theorem szChannelReport_r (w : World) (p : CA) (d : CD) (h : HasC 0 w p d) (g : BgC d) (L : Int) (h0 : 0 ≤ L) (h1 : L ≤ 1048576) :
    Calls Tryd.prog 29 #[.agg #[.int .i64 d.fa, .slice p.a1 d.an.length p.c1, .int .i64 d.cl.fa, .slice p.cl.a1 d.cl.an.length p.cl.c1, .slice p.cl.a2 d.cl.se.length p.cl.c2, .slice p.cl.a3 d.cl.re.length p.cl.c3, .int .i64 d.cl.er, .int .i64 d.cl.ph, .int .i64 d.cl.al, .int .i64 d.cl.pa, .int .i64 d.cl.no, .bool d.cl.rs, .bool d.cl.et, .string d.cl.pr, .slice p.cl.a12 d.cl.ex.length p.cl.c12, .slice p.cl.a13 d.cl.tr.length p.cl.c13, .slice p.cl.a14 d.cl.tk.length p.cl.c14, .slice p.cl.a15 d.cl.pk.length p.cl.c15, .slice p.cl.a16 d.cl.rn.length p.cl.c16, .int .i64 d.cl.gt, .int .i64 d.cl.li, .string d.cl.ho, .string d.cl.sp, .int .i64 d.cl.ea, .int .i64 d.cl.wd, .slice p.cl.a23 d.cl.ms.length p.cl.c23, .int .i64 d.sv.fa, .slice p.sv.a1 d.sv.an.length p.sv.c1, .slice p.sv.a2 d.sv.se.length p.sv.c2, .slice p.sv.a3 d.sv.re.length p.sv.c3, .int .i64 d.sv.er, .int .i64 d.sv.ph, .int .i64 d.sv.al, .int .i64 d.sv.pa, .int .i64 d.sv.no, .bool d.sv.rs, .bool d.sv.et, .string d.sv.pr, .slice p.sv.a12 d.sv.ex.length p.sv.c12, .slice p.sv.a13 d.sv.tr.length p.sv.c13, .slice p.sv.a14 d.sv.tk.length p.sv.c14, .slice p.sv.a15 d.sv.pk.length p.sv.c15, .slice p.sv.a16 d.sv.rn.length p.sv.c16, .int .i64 d.sv.gt, .int .i64 d.sv.li, .string d.sv.ho, .string d.sv.sp, .int .i64 d.sv.ea, .int .i64 d.sv.wd, .slice p.sv.a23 d.sv.ms.length p.sv.c23, .slice p.a50 d.ts.length p.c50, .slice p.a51 d.tc.length p.c51], .int .i64 L] w fun e w' => (∃ r, e = .returned (.int .i64 r) ∧ LftK L ((d.an.length : Int) + erT d.cl + erT d.sv + (d.ts.length : Int) + (d.tc.length : Int)) r) ∧ Below w.heap.size w w' := by
  have ec := erT_0 d.cl
  have es := erT_0 d.sv
  have N : Below w.heap.size w (w.alloc (.cells #[.int .i64 d.fa, .slice p.a1 d.an.length p.c1, .int .i64 d.cl.fa, .slice p.cl.a1 d.cl.an.length p.cl.c1, .slice p.cl.a2 d.cl.se.length p.cl.c2, .slice p.cl.a3 d.cl.re.length p.cl.c3, .int .i64 d.cl.er, .int .i64 d.cl.ph, .int .i64 d.cl.al, .int .i64 d.cl.pa, .int .i64 d.cl.no, .bool d.cl.rs, .bool d.cl.et, .string d.cl.pr, .slice p.cl.a12 d.cl.ex.length p.cl.c12, .slice p.cl.a13 d.cl.tr.length p.cl.c13, .slice p.cl.a14 d.cl.tk.length p.cl.c14, .slice p.cl.a15 d.cl.pk.length p.cl.c15, .slice p.cl.a16 d.cl.rn.length p.cl.c16, .int .i64 d.cl.gt, .int .i64 d.cl.li, .string d.cl.ho, .string d.cl.sp, .int .i64 d.cl.ea, .int .i64 d.cl.wd, .slice p.cl.a23 d.cl.ms.length p.cl.c23, .int .i64 d.sv.fa, .slice p.sv.a1 d.sv.an.length p.sv.c1, .slice p.sv.a2 d.sv.se.length p.sv.c2, .slice p.sv.a3 d.sv.re.length p.sv.c3, .int .i64 d.sv.er, .int .i64 d.sv.ph, .int .i64 d.sv.al, .int .i64 d.sv.pa, .int .i64 d.sv.no, .bool d.sv.rs, .bool d.sv.et, .string d.sv.pr, .slice p.sv.a12 d.sv.ex.length p.sv.c12, .slice p.sv.a13 d.sv.tr.length p.sv.c13, .slice p.sv.a14 d.sv.tk.length p.sv.c14, .slice p.sv.a15 d.sv.pk.length p.sv.c15, .slice p.sv.a16 d.sv.rn.length p.sv.c16, .int .i64 d.sv.gt, .int .i64 d.sv.li, .string d.sv.ho, .string d.sv.sp, .int .i64 d.sv.ea, .int .i64 d.sv.wd, .slice p.sv.a23 d.sv.ms.length p.sv.c23, .slice p.a50 d.ts.length p.c50, .slice p.a51 d.tc.length p.c51] 74)) := (Below.refl _ _).alloc (Nat.le_refl _) _
  have P0 : RwC (w.alloc (.cells #[.int .i64 d.fa, .slice p.a1 d.an.length p.c1, .int .i64 d.cl.fa, .slice p.cl.a1 d.cl.an.length p.cl.c1, .slice p.cl.a2 d.cl.se.length p.cl.c2, .slice p.cl.a3 d.cl.re.length p.cl.c3, .int .i64 d.cl.er, .int .i64 d.cl.ph, .int .i64 d.cl.al, .int .i64 d.cl.pa, .int .i64 d.cl.no, .bool d.cl.rs, .bool d.cl.et, .string d.cl.pr, .slice p.cl.a12 d.cl.ex.length p.cl.c12, .slice p.cl.a13 d.cl.tr.length p.cl.c13, .slice p.cl.a14 d.cl.tk.length p.cl.c14, .slice p.cl.a15 d.cl.pk.length p.cl.c15, .slice p.cl.a16 d.cl.rn.length p.cl.c16, .int .i64 d.cl.gt, .int .i64 d.cl.li, .string d.cl.ho, .string d.cl.sp, .int .i64 d.cl.ea, .int .i64 d.cl.wd, .slice p.cl.a23 d.cl.ms.length p.cl.c23, .int .i64 d.sv.fa, .slice p.sv.a1 d.sv.an.length p.sv.c1, .slice p.sv.a2 d.sv.se.length p.sv.c2, .slice p.sv.a3 d.sv.re.length p.sv.c3, .int .i64 d.sv.er, .int .i64 d.sv.ph, .int .i64 d.sv.al, .int .i64 d.sv.pa, .int .i64 d.sv.no, .bool d.sv.rs, .bool d.sv.et, .string d.sv.pr, .slice p.sv.a12 d.sv.ex.length p.sv.c12, .slice p.sv.a13 d.sv.tr.length p.sv.c13, .slice p.sv.a14 d.sv.tk.length p.sv.c14, .slice p.sv.a15 d.sv.pk.length p.sv.c15, .slice p.sv.a16 d.sv.rn.length p.sv.c16, .int .i64 d.sv.gt, .int .i64 d.sv.li, .string d.sv.ho, .string d.sv.sp, .int .i64 d.sv.ea, .int .i64 d.sv.wd, .slice p.sv.a23 d.sv.ms.length p.sv.c23, .slice p.a50 d.ts.length p.c50, .slice p.a51 d.tc.length p.c51] 74)) w.heap.size [.int .i64 d.fa, .slice p.a1 d.an.length p.c1, .int .i64 d.cl.fa, .slice p.cl.a1 d.cl.an.length p.cl.c1, .slice p.cl.a2 d.cl.se.length p.cl.c2, .slice p.cl.a3 d.cl.re.length p.cl.c3, .int .i64 d.cl.er, .int .i64 d.cl.ph, .int .i64 d.cl.al, .int .i64 d.cl.pa, .int .i64 d.cl.no, .bool d.cl.rs, .bool d.cl.et, .string d.cl.pr, .slice p.cl.a12 d.cl.ex.length p.cl.c12, .slice p.cl.a13 d.cl.tr.length p.cl.c13, .slice p.cl.a14 d.cl.tk.length p.cl.c14, .slice p.cl.a15 d.cl.pk.length p.cl.c15, .slice p.cl.a16 d.cl.rn.length p.cl.c16, .int .i64 d.cl.gt, .int .i64 d.cl.li, .string d.cl.ho, .string d.cl.sp, .int .i64 d.cl.ea, .int .i64 d.cl.wd, .slice p.cl.a23 d.cl.ms.length p.cl.c23, .int .i64 d.sv.fa, .slice p.sv.a1 d.sv.an.length p.sv.c1, .slice p.sv.a2 d.sv.se.length p.sv.c2, .slice p.sv.a3 d.sv.re.length p.sv.c3, .int .i64 d.sv.er, .int .i64 d.sv.ph, .int .i64 d.sv.al, .int .i64 d.sv.pa, .int .i64 d.sv.no, .bool d.sv.rs, .bool d.sv.et, .string d.sv.pr, .slice p.sv.a12 d.sv.ex.length p.sv.c12, .slice p.sv.a13 d.sv.tr.length p.sv.c13, .slice p.sv.a14 d.sv.tk.length p.sv.c14, .slice p.sv.a15 d.sv.pk.length p.sv.c15, .slice p.sv.a16 d.sv.rn.length p.sv.c16, .int .i64 d.sv.gt, .int .i64 d.sv.li, .string d.sv.ho, .string d.sv.sp, .int .i64 d.sv.ea, .int .i64 d.sv.wd, .slice p.sv.a23 d.sv.ms.length p.sv.c23, .slice p.a50 d.ts.length p.c50, .slice p.a51 d.tc.length p.c51] 74 := RwC.new w _ _
  have HQ0 : Hid (L = L) := rfl
  obtain ⟨dT1, hdT1, hrT1⟩ := rowLEr
  go_enter Tryd.func29, Tryd.ntmps29
  have pc : (w.alloc (.cells #[.int .i64 d.fa, .slice p.a1 d.an.length p.c1, .int .i64 d.cl.fa, .slice p.cl.a1 d.cl.an.length p.cl.c1, .slice p.cl.a2 d.cl.se.length p.cl.c2, .slice p.cl.a3 d.cl.re.length p.cl.c3, .int .i64 d.cl.er, .int .i64 d.cl.ph, .int .i64 d.cl.al, .int .i64 d.cl.pa, .int .i64 d.cl.no, .bool d.cl.rs, .bool d.cl.et, .string d.cl.pr, .slice p.cl.a12 d.cl.ex.length p.cl.c12, .slice p.cl.a13 d.cl.tr.length p.cl.c13, .slice p.cl.a14 d.cl.tk.length p.cl.c14, .slice p.cl.a15 d.cl.pk.length p.cl.c15, .slice p.cl.a16 d.cl.rn.length p.cl.c16, .int .i64 d.cl.gt, .int .i64 d.cl.li, .string d.cl.ho, .string d.cl.sp, .int .i64 d.cl.ea, .int .i64 d.cl.wd, .slice p.cl.a23 d.cl.ms.length p.cl.c23, .int .i64 d.sv.fa, .slice p.sv.a1 d.sv.an.length p.sv.c1, .slice p.sv.a2 d.sv.se.length p.sv.c2, .slice p.sv.a3 d.sv.re.length p.sv.c3, .int .i64 d.sv.er, .int .i64 d.sv.ph, .int .i64 d.sv.al, .int .i64 d.sv.pa, .int .i64 d.sv.no, .bool d.sv.rs, .bool d.sv.et, .string d.sv.pr, .slice p.sv.a12 d.sv.ex.length p.sv.c12, .slice p.sv.a13 d.sv.tr.length p.sv.c13, .slice p.sv.a14 d.sv.tk.length p.sv.c14, .slice p.sv.a15 d.sv.pk.length p.sv.c15, .slice p.sv.a16 d.sv.rn.length p.sv.c16, .int .i64 d.sv.gt, .int .i64 d.sv.li, .string d.sv.ho, .string d.sv.sp, .int .i64 d.sv.ea, .int .i64 d.sv.wd, .slice p.sv.a23 d.sv.ms.length p.sv.c23, .slice p.a50 d.ts.length p.c50, .slice p.a51 d.tc.length p.c51] 74)).cell? ⟨w.heap.size, 1, none⟩ = some (.slice p.a1 d.an.length p.c1) := P0.cell 1
  have SZ := hide (szIntB (w.alloc (.cells #[.int .i64 d.fa, .slice p.a1 d.an.length p.c1, .int .i64 d.cl.fa, .slice p.cl.a1 d.cl.an.length p.cl.c1, .slice p.cl.a2 d.cl.se.length p.cl.c2, .slice p.cl.a3 d.cl.re.length p.cl.c3, .int .i64 d.cl.er, .int .i64 d.cl.ph, .int .i64 d.cl.al, .int .i64 d.cl.pa, .int .i64 d.cl.no, .bool d.cl.rs, .bool d.cl.et, .string d.cl.pr, .slice p.cl.a12 d.cl.ex.length p.cl.c12, .slice p.cl.a13 d.cl.tr.length p.cl.c13, .slice p.cl.a14 d.cl.tk.length p.cl.c14, .slice p.cl.a15 d.cl.pk.length p.cl.c15, .slice p.cl.a16 d.cl.rn.length p.cl.c16, .int .i64 d.cl.gt, .int .i64 d.cl.li, .string d.cl.ho, .string d.cl.sp, .int .i64 d.cl.ea, .int .i64 d.cl.wd, .slice p.cl.a23 d.cl.ms.length p.cl.c23, .int .i64 d.sv.fa, .slice p.sv.a1 d.sv.an.length p.sv.c1, .slice p.sv.a2 d.sv.se.length p.sv.c2, .slice p.sv.a3 d.sv.re.length p.sv.c3, .int .i64 d.sv.er, .int .i64 d.sv.ph, .int .i64 d.sv.al, .int .i64 d.sv.pa, .int .i64 d.sv.no, .bool d.sv.rs, .bool d.sv.et, .string d.sv.pr, .slice p.sv.a12 d.sv.ex.length p.sv.c12, .slice p.sv.a13 d.sv.tr.length p.sv.c13, .slice p.sv.a14 d.sv.tk.length p.sv.c14, .slice p.sv.a15 d.sv.pk.length p.sv.c15, .slice p.sv.a16 d.sv.rn.length p.sv.c16, .int .i64 d.sv.gt, .int .i64 d.sv.li, .string d.sv.ho, .string d.sv.sp, .int .i64 d.sv.ea, .int .i64 d.sv.wd, .slice p.sv.a23 d.sv.ms.length p.sv.c23, .slice p.a50 d.ts.length p.c50, .slice p.a51 d.tc.length p.c51] 74)) p.a1 p.c1 d.an.length L g.an h0 h1)
  have G := hide h0
  have K := hide h1
  clear h0 h1
  go_wp2_with fail
  generalize w.alloc (.cells #[.int .i64 d.fa, .slice p.a1 d.an.length p.c1, .int .i64 d.cl.fa, .slice p.cl.a1 d.cl.an.length p.cl.c1, .slice p.cl.a2 d.cl.se.length p.cl.c2, .slice p.cl.a3 d.cl.re.length p.cl.c3, .int .i64 d.cl.er, .int .i64 d.cl.ph, .int .i64 d.cl.al, .int .i64 d.cl.pa, .int .i64 d.cl.no, .bool d.cl.rs, .bool d.cl.et, .string d.cl.pr, .slice p.cl.a12 d.cl.ex.length p.cl.c12, .slice p.cl.a13 d.cl.tr.length p.cl.c13, .slice p.cl.a14 d.cl.tk.length p.cl.c14, .slice p.cl.a15 d.cl.pk.length p.cl.c15, .slice p.cl.a16 d.cl.rn.length p.cl.c16, .int .i64 d.cl.gt, .int .i64 d.cl.li, .string d.cl.ho, .string d.cl.sp, .int .i64 d.cl.ea, .int .i64 d.cl.wd, .slice p.cl.a23 d.cl.ms.length p.cl.c23, .int .i64 d.sv.fa, .slice p.sv.a1 d.sv.an.length p.sv.c1, .slice p.sv.a2 d.sv.se.length p.sv.c2, .slice p.sv.a3 d.sv.re.length p.sv.c3, .int .i64 d.sv.er, .int .i64 d.sv.ph, .int .i64 d.sv.al, .int .i64 d.sv.pa, .int .i64 d.sv.no, .bool d.sv.rs, .bool d.sv.et, .string d.sv.pr, .slice p.sv.a12 d.sv.ex.length p.sv.c12, .slice p.sv.a13 d.sv.tr.length p.sv.c13, .slice p.sv.a14 d.sv.tk.length p.sv.c14, .slice p.sv.a15 d.sv.pk.length p.sv.c15, .slice p.sv.a16 d.sv.rn.length p.sv.c16, .int .i64 d.sv.gt, .int .i64 d.sv.li, .string d.sv.ho, .string d.sv.sp, .int .i64 d.sv.ea, .int .i64 d.sv.wd, .slice p.sv.a23 d.sv.ms.length p.sv.c23, .slice p.a50 d.ts.length p.c50, .slice p.a51 d.tc.length p.c51] 74) = wa at *
  refine SZ.out.mono ?_
  rintro e w1 ⟨⟨r, rfl, hr⟩, m⟩
  replace N := nxt N m
  replace P0 := P0.up m
  clear m SZ pc 
  rcases hr with ⟨h2, rfl⟩ | ⟨h2, rfl⟩
  · have FA : Hid (L < (d.an.length : Int) + erT d.cl + erT d.sv + (d.ts.length : Int) + (d.tc.length : Int)) := by have := HQ0.out; show L < _; omega
    clear h2 G K HQ0 P0
    go_wp2
    go_ret
    exact ⟨⟨_, rfl, .inl ⟨FA.out, rfl⟩⟩, N⟩
  have t0 : decide (L - (d.an.length : Int) < 0) = false := decide_eq_false (by omega)
  obtain ⟨q1, e0⟩ : ∃ x : Int, x = L - (d.an.length : Int) := ⟨_, rfl⟩
  have HQ1 : Hid (q1 = L - ((d.an.length : Int))) := by have := HQ0.out; show q1 = _; omega
  have g1 : 0 ≤ q1 := by omega
  have k1 : q1 ≤ 1048576 := by have := G.out; have := K.out; omega
  rw [← e0] at t0 ⊢
  clear h2 G K e0 HQ0
  have pc := P0.part 2 [.int .i64 d.cl.fa, .slice p.cl.a1 d.cl.an.length p.cl.c1, .slice p.cl.a2 d.cl.se.length p.cl.c2, .slice p.cl.a3 d.cl.re.length p.cl.c3, .int .i64 d.cl.er, .int .i64 d.cl.ph, .int .i64 d.cl.al, .int .i64 d.cl.pa, .int .i64 d.cl.no, .bool d.cl.rs, .bool d.cl.et, .string d.cl.pr, .slice p.cl.a12 d.cl.ex.length p.cl.c12, .slice p.cl.a13 d.cl.tr.length p.cl.c13, .slice p.cl.a14 d.cl.tk.length p.cl.c14, .slice p.cl.a15 d.cl.pk.length p.cl.c15, .slice p.cl.a16 d.cl.rn.length p.cl.c16, .int .i64 d.cl.gt, .int .i64 d.cl.li, .string d.cl.ho, .string d.cl.sp, .int .i64 d.cl.ea, .int .i64 d.cl.wd, .slice p.cl.a23 d.cl.ms.length p.cl.c23] rfl
  have SZ := hide (szEndT (w1) p.cl d.cl (h.cl.up N) g.cl q1 g1 k1)
  have G := hide g1
  have K := hide k1
  clear g1 k1
  go_wp2_with (first | (refine wpList_load_mid rfl 72 (.tmp 11) rfl w.heap.size 2 rfl [.int .i64 d.cl.fa, .slice p.cl.a1 d.cl.an.length p.cl.c1, .slice p.cl.a2 d.cl.se.length p.cl.c2, .slice p.cl.a3 d.cl.re.length p.cl.c3, .int .i64 d.cl.er, .int .i64 d.cl.ph, .int .i64 d.cl.al, .int .i64 d.cl.pa, .int .i64 d.cl.no, .bool d.cl.rs, .bool d.cl.et, .string d.cl.pr, .slice p.cl.a12 d.cl.ex.length p.cl.c12, .slice p.cl.a13 d.cl.tr.length p.cl.c13, .slice p.cl.a14 d.cl.tk.length p.cl.c14, .slice p.cl.a15 d.cl.pk.length p.cl.c15, .slice p.cl.a16 d.cl.rn.length p.cl.c16, .int .i64 d.cl.gt, .int .i64 d.cl.li, .string d.cl.ho, .string d.cl.sp, .int .i64 d.cl.ea, .int .i64 d.cl.wd, .slice p.cl.a23 d.cl.ms.length p.cl.c23] dT1 pc hdT1 hrT1 iLEr ?_) | fail)
  refine SZ.out.mono ?_
  rintro e w2 ⟨⟨r, rfl, hr⟩, m⟩
  replace N := nxt N m
  replace P0 := P0.up m
  clear m SZ pc t0
  rcases hr with ⟨h2, rfl⟩ | ⟨h2, rfl⟩
  · have FA : Hid (L < (d.an.length : Int) + erT d.cl + erT d.sv + (d.ts.length : Int) + (d.tc.length : Int)) := by have := HQ1.out; show L < _; omega
    clear h2 G K HQ1 P0
    go_wp2
    go_ret
    exact ⟨⟨_, rfl, .inl ⟨FA.out, rfl⟩⟩, N⟩
  have t1 : decide (q1 - erT d.cl < 0) = false := decide_eq_false (by omega)
  obtain ⟨q2, e1⟩ : ∃ x : Int, x = q1 - erT d.cl := ⟨_, rfl⟩
  have HQ2 : Hid (q2 = L - ((d.an.length : Int) + erT d.cl)) := by have := HQ1.out; show q2 = _; omega
  have g2 : 0 ≤ q2 := by omega
  have k2 : q2 ≤ 1048576 := by have := G.out; have := K.out; omega
  rw [← e1] at t1 ⊢
  clear h2 G K e1 HQ1
  have pc := P0.part 26 [.int .i64 d.sv.fa, .slice p.sv.a1 d.sv.an.length p.sv.c1, .slice p.sv.a2 d.sv.se.length p.sv.c2, .slice p.sv.a3 d.sv.re.length p.sv.c3, .int .i64 d.sv.er, .int .i64 d.sv.ph, .int .i64 d.sv.al, .int .i64 d.sv.pa, .int .i64 d.sv.no, .bool d.sv.rs, .bool d.sv.et, .string d.sv.pr, .slice p.sv.a12 d.sv.ex.length p.sv.c12, .slice p.sv.a13 d.sv.tr.length p.sv.c13, .slice p.sv.a14 d.sv.tk.length p.sv.c14, .slice p.sv.a15 d.sv.pk.length p.sv.c15, .slice p.sv.a16 d.sv.rn.length p.sv.c16, .int .i64 d.sv.gt, .int .i64 d.sv.li, .string d.sv.ho, .string d.sv.sp, .int .i64 d.sv.ea, .int .i64 d.sv.wd, .slice p.sv.a23 d.sv.ms.length p.sv.c23] rfl
  have SZ := hide (szEndT (w2) p.sv d.sv (h.sv.up N) g.sv q2 g2 k2)
  have G := hide g2
  have K := hide k2
  clear g2 k2
  go_wp2_with (first | (refine wpList_load_mid rfl 72 (.tmp 17) rfl w.heap.size 26 rfl [.int .i64 d.sv.fa, .slice p.sv.a1 d.sv.an.length p.sv.c1, .slice p.sv.a2 d.sv.se.length p.sv.c2, .slice p.sv.a3 d.sv.re.length p.sv.c3, .int .i64 d.sv.er, .int .i64 d.sv.ph, .int .i64 d.sv.al, .int .i64 d.sv.pa, .int .i64 d.sv.no, .bool d.sv.rs, .bool d.sv.et, .string d.sv.pr, .slice p.sv.a12 d.sv.ex.length p.sv.c12, .slice p.sv.a13 d.sv.tr.length p.sv.c13, .slice p.sv.a14 d.sv.tk.length p.sv.c14, .slice p.sv.a15 d.sv.pk.length p.sv.c15, .slice p.sv.a16 d.sv.rn.length p.sv.c16, .int .i64 d.sv.gt, .int .i64 d.sv.li, .string d.sv.ho, .string d.sv.sp, .int .i64 d.sv.ea, .int .i64 d.sv.wd, .slice p.sv.a23 d.sv.ms.length p.sv.c23] dT1 pc hdT1 hrT1 iLEr ?_) | fail)
  refine SZ.out.mono ?_
  rintro e w3 ⟨⟨r, rfl, hr⟩, m⟩
  replace N := nxt N m
  replace P0 := P0.up m
  clear m SZ pc t1
  rcases hr with ⟨h2, rfl⟩ | ⟨h2, rfl⟩
  · have FA : Hid (L < (d.an.length : Int) + erT d.cl + erT d.sv + (d.ts.length : Int) + (d.tc.length : Int)) := by have := HQ2.out; show L < _; omega
    clear h2 G K HQ2 P0
    go_wp2
    go_ret
    exact ⟨⟨_, rfl, .inl ⟨FA.out, rfl⟩⟩, N⟩
  have t2 : decide (q2 - erT d.sv < 0) = false := decide_eq_false (by omega)
  obtain ⟨q3, e2⟩ : ∃ x : Int, x = q2 - erT d.sv := ⟨_, rfl⟩
  have HQ3 : Hid (q3 = L - ((d.an.length : Int) + erT d.cl + erT d.sv)) := by have := HQ2.out; show q3 = _; omega
  have g3 : 0 ≤ q3 := by omega
  have k3 : q3 ≤ 1048576 := by have := G.out; have := K.out; omega
  rw [← e2] at t2 ⊢
  clear h2 G K e2 HQ2
  have pc : (w3).cell? ⟨w.heap.size, 50, none⟩ = some (.slice p.a50 d.ts.length p.c50) := P0.cell 50
  have SZ := hide (szByteB (w3) p.a50 p.c50 d.ts.length q3 g.ts g3 k3)
  have G := hide g3
  have K := hide k3
  clear g3 k3
  go_wp2_with fail
  refine SZ.out.mono ?_
  rintro e w4 ⟨⟨r, rfl, hr⟩, m⟩
  replace N := nxt N m
  replace P0 := P0.up m
  clear m SZ pc t2
  rcases hr with ⟨h2, rfl⟩ | ⟨h2, rfl⟩
  · have FA : Hid (L < (d.an.length : Int) + erT d.cl + erT d.sv + (d.ts.length : Int) + (d.tc.length : Int)) := by have := HQ3.out; show L < _; omega
    clear h2 G K HQ3 P0
    go_wp2
    go_ret
    exact ⟨⟨_, rfl, .inl ⟨FA.out, rfl⟩⟩, N⟩
  have t3 : decide (q3 - (d.ts.length : Int) < 0) = false := decide_eq_false (by omega)
  obtain ⟨q4, e3⟩ : ∃ x : Int, x = q3 - (d.ts.length : Int) := ⟨_, rfl⟩
  have HQ4 : Hid (q4 = L - ((d.an.length : Int) + erT d.cl + erT d.sv + (d.ts.length : Int))) := by have := HQ3.out; show q4 = _; omega
  have g4 : 0 ≤ q4 := by omega
  have k4 : q4 ≤ 1048576 := by have := G.out; have := K.out; omega
  rw [← e3] at t3 ⊢
  clear h2 G K e3 HQ3
  have pc : (w4).cell? ⟨w.heap.size, 51, none⟩ = some (.slice p.a51 d.tc.length p.c51) := P0.cell 51
  have SZ := hide (szByteB (w4) p.a51 p.c51 d.tc.length q4 g.tc g4 k4)
  have G := hide g4
  have K := hide k4
  clear g4 k4
  go_wp2_with fail
  refine SZ.out.mono ?_
  rintro e w5 ⟨⟨r, rfl, hr⟩, m⟩
  replace N := nxt N m
  replace P0 := P0.up m
  clear m SZ pc t3
  rcases hr with ⟨h2, rfl⟩ | ⟨h2, rfl⟩
  · have FA : Hid (L < (d.an.length : Int) + erT d.cl + erT d.sv + (d.ts.length : Int) + (d.tc.length : Int)) := by have := HQ4.out; show L < _; omega
    clear h2 G K HQ4 P0
    go_wp2
    go_ret
    exact ⟨⟨_, rfl, .inl ⟨FA.out, rfl⟩⟩, N⟩
  have t4 : decide (q4 - (d.tc.length : Int) < 0) = false := decide_eq_false (by omega)
  obtain ⟨q5, e4⟩ : ∃ x : Int, x = q4 - (d.tc.length : Int) := ⟨_, rfl⟩
  have HQ5 : Hid (q5 = L - ((d.an.length : Int) + erT d.cl + erT d.sv + (d.ts.length : Int) + (d.tc.length : Int))) := by have := HQ4.out; show q5 = _; omega
  have g5 : 0 ≤ q5 := by omega
  have k5 : q5 ≤ 1048576 := by have := G.out; have := K.out; omega
  rw [← e4] at t4 ⊢
  clear h2 G K e4 HQ4
  have FI : Hid (LftK L ((d.an.length : Int) + erT d.cl + erT d.sv + (d.ts.length : Int) + (d.tc.length : Int)) q5) := .inr ⟨by have := HQ5.out; omega, by have := HQ5.out; omega⟩
  clear HQ5
  go_wp2
  go_ret
  exact ⟨⟨_, rfl, FI.out⟩, N⟩
theorem okE_of {d : ED} (h : erT d ≤ 1048576) : OkE d := by
  unfold erT at h
  exact ⟨by omega, by omega, by omega, by omega, by omega, by omega, by omega, by omega, by omega, fun i hi => by have := sumK_get hi; omega⟩
theorem okC_of {d : CD} (h : (d.an.length : Int) + erT d.cl + erT d.sv + (d.ts.length : Int) + (d.tc.length : Int) ≤ 1048576) : OkC d := by
  have ec := erT_0 d.cl
  have es := erT_0 d.sv
  exact ⟨by omega, okE_of (by omega), okE_of (by omega), by omega, by omega⟩
end Go.Proofs.YtpbniihhpfbamaaDoor

/-
  bytes.Equal.
-/
namespace Go.Proofs.YtpbniihhpfbamaaDoor
set_option maxRecDepth 100000
open Go Go.RowKit

end Go.Proofs.YtpbniihhpfbamaaDoor

/-
  Whether two ends agree; the program's and the model's (written by gens/kmk.py).
-/
namespace Go.Proofs.YtpbniihhpfbamaaDoor
set_option maxRecDepth 100000
open Go Go.RowKit

/-- All that two ends that agree have in common. -/
def agS (d e : ED) : Bool := decide (d.tr = e.tr) && (decide (d.ex = e.ex) && (decide (d.pr.toList = e.pr.toList) && ((d.rs == e.rs) && (d.et == e.et))))
/-- Whether two ends agree. -/
def agV (d e : ED) : Int := if d.ph = 3 then 3 else if e.ph = 3 then 3 else if d.tr.length = 0 ∧ e.tr.length = 0 then 0 else if d.tr.length = 0 ∨ e.tr.length = 0 then 1 else if agS d e = true then 2 else 4
structure BtE (d : ED) : Prop where
  tr : Byt d.tr
  ex : Byt d.ex
end Go.Proofs.YtpbniihhpfbamaaDoor

/-
  Whether two ends agree; the program's and the model's (written by gens/kml.py).
-/
namespace Go.Proofs.YtpbniihhpfbamaaDoor
set_option maxRecDepth 100000
open Go Go.RowKit

theorem rangeQ {w w' : World} {b o : Nat} {cs : List Value} (h : w.rangeAt b o cs) (n : Below w.heap.size w w') : w'.rangeAt b o cs := fun j v hj => (n.cell (block_lt_of_cell (h j v hj))).trans (h j v hj)
end Go.Proofs.YtpbniihhpfbamaaDoor

/-
  Whether two ends agree; the model's (written by gens/kmm.py).
-/
namespace Go.Proofs.YtpbniihhpfbamaaDoor
set_option maxRecDepth 100000
open Go Go.RowKit

end Go.Proofs.YtpbniihhpfbamaaDoor

/-
  The law of Agreement (written by gens/kmn.py).
-/
namespace Go.Proofs.YtpbniihhpfbamaaDoor
set_option maxRecDepth 100000
open Go Go.RowKit

/-- The cells of a channel's report. -/
def crV (p : CA) (d : CD) : Array Value := #[.int .i64 d.fa, .slice p.a1 d.an.length p.c1, .int .i64 d.cl.fa, .slice p.cl.a1 d.cl.an.length p.cl.c1, .slice p.cl.a2 d.cl.se.length p.cl.c2, .slice p.cl.a3 d.cl.re.length p.cl.c3, .int .i64 d.cl.er, .int .i64 d.cl.ph, .int .i64 d.cl.al, .int .i64 d.cl.pa, .int .i64 d.cl.no, .bool d.cl.rs, .bool d.cl.et, .string d.cl.pr, .slice p.cl.a12 d.cl.ex.length p.cl.c12, .slice p.cl.a13 d.cl.tr.length p.cl.c13, .slice p.cl.a14 d.cl.tk.length p.cl.c14, .slice p.cl.a15 d.cl.pk.length p.cl.c15, .slice p.cl.a16 d.cl.rn.length p.cl.c16, .int .i64 d.cl.gt, .int .i64 d.cl.li, .string d.cl.ho, .string d.cl.sp, .int .i64 d.cl.ea, .int .i64 d.cl.wd, .slice p.cl.a23 d.cl.ms.length p.cl.c23, .int .i64 d.sv.fa, .slice p.sv.a1 d.sv.an.length p.sv.c1, .slice p.sv.a2 d.sv.se.length p.sv.c2, .slice p.sv.a3 d.sv.re.length p.sv.c3, .int .i64 d.sv.er, .int .i64 d.sv.ph, .int .i64 d.sv.al, .int .i64 d.sv.pa, .int .i64 d.sv.no, .bool d.sv.rs, .bool d.sv.et, .string d.sv.pr, .slice p.sv.a12 d.sv.ex.length p.sv.c12, .slice p.sv.a13 d.sv.tr.length p.sv.c13, .slice p.sv.a14 d.sv.tk.length p.sv.c14, .slice p.sv.a15 d.sv.pk.length p.sv.c15, .slice p.sv.a16 d.sv.rn.length p.sv.c16, .int .i64 d.sv.gt, .int .i64 d.sv.li, .string d.sv.ho, .string d.sv.sp, .int .i64 d.sv.ea, .int .i64 d.sv.wd, .slice p.sv.a23 d.sv.ms.length p.sv.c23, .slice p.a50 d.ts.length p.c50, .slice p.a51 d.tc.length p.c51]
theorem crV_one (p : CA) (d : CD) : (crV p d).all (·.oneCell') = true := oneCr p d
theorem HasC.zero {b : Nat} {W : World} {p : CA} {d : CD} (h : HasC b W p d) : HasC 0 W p d := ⟨h.an, Nat.zero_le _, h.cl.mono (Nat.zero_le _), h.sv.mono (Nat.zero_le _), h.ts, Nat.zero_le _, h.tc, Nat.zero_le _⟩
theorem szC (w : World) (p : CA) (d : CD) (h : HasC 0 w p d) (g : BgC d) :
    Calls Tryd.prog 29 #[.agg (crV p d), .int .i64 1048576] w fun e w' => (∃ r, e = .returned (.int .i64 r) ∧ (0 ≤ r → OkC d)) ∧ Below w.heap.size w w' := by
  refine (show Calls _ _ _ _ _ from szChannelReport_r w p d h g 1048576 (by decide) (by decide)).mono ?_
  rintro e w' ⟨⟨r, rfl, hr⟩, n⟩
  refine ⟨⟨r, rfl, fun h0 => okC_of ?_⟩, n⟩
  rcases hr with ⟨_, rfl⟩ | ⟨h1, _⟩
  · omega
  · exact h1
theorem toC (w : World) (p : CA) (d : CD) (h : HasC 0 w p d) (k : OkC d) :
    Calls Tryd.prog 33 #[.agg (crV p d)] w fun e w' => (∃ q, e = .returned (.agg (crV q d)) ∧ HasC 0 w' q d) ∧ Below w.heap.size w w' := by
  refine (show Calls _ _ _ _ _ from toChannelReport_any w p d h k).mono ?_
  rintro e w' ⟨q, rfl, hq, n⟩
  exact ⟨⟨q, rfl, hq.zero⟩, n⟩
theorem eqC (w : World) (p q : CA) (d : CD) (h : HasC 0 w p d) (h' : HasC 0 w q d) (k : OkC d) :
    Calls Tryd.prog 47 #[.agg (crV p d), .agg (crV q d)] w fun e w' => e = .returned (.bool true) ∧ Below w.heap.size w w' := eqChannelReport_same w p q d 0 0 h h' k
theorem rangeC {w w' : World} {b : Nat} {cs : List Value} (h : w.rangeAt b 0 cs) (n : Below w.heap.size w w') : w'.rangeAt b 0 cs := rangeQ h n
/-- A report that may be read. -/
def FCr (m : CD) : Fact := ⟨fun v w => ∃ q, v = .agg (crV q m) ∧ HasC 0 w q m, fun n h => by
  obtain ⟨q, e, h⟩ := h
  exact ⟨q, e, h.up n⟩⟩
section
variable {ops : Array Oper} {Q : Exit → Act → World → Prop} {md : Region.Mode} {F : Nat → Fact} {a0 : Act} {w0 : World} {i : Nat} {o : Oper} {ts : Array TypeId}
theorem step_lC (ty : TypeId) (hu : ∃ d, Tryd.prog.underlying ty = some d ∧ d.isRow = true) (hs : (Tryd.prog.info? ty).map (·.size) = some 52) (hi : ops[i]? = some o) (p : Nat) (hop : o.op = .load ty (.tmp p)) (hp : apart ops p = true) (b : Nat) (h0 : a0.tmps.getD p undef = .pointer (some ⟨b, 0, none⟩)) {q : CA} {m : CD} (T : w0.rangeAt b 0 (crV q m).toList) (hF : F i = Fact.eq (.agg (crV q m))) : StepOk Tryd.prog md ops Q F a0 w0 i := by
  obtain ⟨d, hu, hr⟩ := hu
  refine step_load hi _ _ hop _ 52 hu hr hs fun a w hb hw _ => ?_
  exact ⟨b, 0, (crV q m).toList, (based_at hb p hp).trans h0, rangeC T hw, rfl, by rw [hF]; exact rfl⟩
theorem step_toC (hi : ops[i]? = some o) (p j : Nat) {q : CA} {m : CD} (hop : o.op = .call { callee := .value (.func 33), args := #[.tmp p], argTypes := ts })
    (hj : waits md ops i j p = true) (hC : HasC 0 w0 q m) (im : OkC m) (hFj : F j = Fact.eq (.agg (crV q m))) (hFi : F i = FCr m) : StepOk Tryd.prog md ops Q F a0 w0 i := by
  refine step_callv hi _ _ ts hop (by kernel_rfl) fun A w _ hw hF => ?_
  have ea := hF j p hj
  rw [hFj] at ea
  show Calls Tryd.prog 33 #[A.tmps.getD p undef] w _
  rw [show A.tmps.getD p undef = _ from ea]
  refine (toC w q m (hC.up hw) im).mono ?_
  rintro r w' ⟨⟨z, rfl, hz⟩, hn⟩
  rw [hFi]
  exact ⟨_, rfl, hn, z, rfl, hz⟩
theorem step_eqC (hi : ops[i]? = some o) (p q j k : Nat) {z : CA} {m : CD} (hop : o.op = .call { callee := .value (.func 47), args := #[.tmp p, .tmp q], argTypes := ts })
    (hj : waits md ops i j p = true) (hk : waits md ops i k q = true) (hC : HasC 0 w0 z m) (im : OkC m) (hFj : F j = Fact.eq (.agg (crV z m))) (hFk : F k = FCr m) (hFi : F i = Fact.eq (.bool true)) : StepOk Tryd.prog md ops Q F a0 w0 i := by
  refine step_callv hi _ _ ts hop (by kernel_rfl) fun A w _ hw hF => ?_
  have ea := hF j p hj
  rw [hFj] at ea
  have eb := hF k q hk
  rw [hFk] at eb
  obtain ⟨y, eb, hy⟩ := eb
  show Calls Tryd.prog 47 #[A.tmps.getD p undef, A.tmps.getD q undef] w _
  rw [show A.tmps.getD p undef = _ from ea, show A.tmps.getD q undef = _ from eb]
  refine (eqC w z y m (hC.up hw) hy im).mono ?_
  rintro r w' ⟨rfl, hn⟩
  rw [hFi]
  exact ⟨_, rfl, hn, rfl⟩
theorem step_notC {P : Program} (hi : ops[i]? = some o) (p j : Nat) {b : Bool} {t : TypeId} (hop : o.op = .unOp .not t (.tmp p)) (hj : waits md ops i j p = true) (hFj : F j = Fact.eq (.bool b)) (hFi : F i = Fact.eq (.bool (!b))) : StepOk P md ops Q F a0 w0 i := by
  refine step_pure hi fun a w _ _ hf => ⟨.bool (!b), ?_, by rw [hFi]; exact rfl⟩
  have e := hf j p hj
  rw [hFj] at e
  have e' : a.eval (.tmp p) = .bool b := e
  simp only [execOp, hop, e']
  rfl
end
end Go.Proofs.YtpbniihhpfbamaaDoor
