
/-
  The report of a channel, counted (written by gens/kmh.py).
-/
import Derived.Test.YtpbniihhpfbamaaDoorKmI
namespace Go.Proofs.YtpbniihhpfbamaaDoor
set_option maxRecDepth 100000
open Go Go.RowKit

structure BgC (d : CD) : Prop where
  an : d.an.length < 9223372036854775808
  cl : BgE d.cl
  sv : BgE d.sv
  ts : d.ts.length < 9223372036854775808
  tc : d.tc.length < 9223372036854775808
set_option maxRecDepth 100000 in
set_option maxHeartbeats 16000000 in
theorem szChannelReport_r (w : World) (p : CA) (d : CD) (h : HasC 0 w p d) (g : BgC d) (L : Int) (h0 : 0 ≤ L) (h1 : L ≤ 1048576) :
    Calls Tryd.prog 29 #[.agg #[.int .i64 d.fa, .slice p.a1 d.an.length p.c1, .int .i64 d.cl.fa, .slice p.cl.a1 d.cl.an.length p.cl.c1, .slice p.cl.a2 d.cl.se.length p.cl.c2, .slice p.cl.a3 d.cl.re.length p.cl.c3, .int .i64 d.cl.er, .int .i64 d.cl.ph, .int .i64 d.cl.al, .int .i64 d.cl.pa, .int .i64 d.cl.no, .bool d.cl.rs, .bool d.cl.et, .string d.cl.pr, .slice p.cl.a12 d.cl.ex.length p.cl.c12, .slice p.cl.a13 d.cl.tr.length p.cl.c13, .slice p.cl.a14 d.cl.tk.length p.cl.c14, .slice p.cl.a15 d.cl.pk.length p.cl.c15, .slice p.cl.a16 d.cl.rn.length p.cl.c16, .int .i64 d.cl.gt, .int .i64 d.cl.li, .string d.cl.ho, .string d.cl.sp, .int .i64 d.cl.ea, .int .i64 d.cl.wd, .slice p.cl.a23 d.cl.ms.length p.cl.c23, .int .i64 d.sv.fa, .slice p.sv.a1 d.sv.an.length p.sv.c1, .slice p.sv.a2 d.sv.se.length p.sv.c2, .slice p.sv.a3 d.sv.re.length p.sv.c3, .int .i64 d.sv.er, .int .i64 d.sv.ph, .int .i64 d.sv.al, .int .i64 d.sv.pa, .int .i64 d.sv.no, .bool d.sv.rs, .bool d.sv.et, .string d.sv.pr, .slice p.sv.a12 d.sv.ex.length p.sv.c12, .slice p.sv.a13 d.sv.tr.length p.sv.c13, .slice p.sv.a14 d.sv.tk.length p.sv.c14, .slice p.sv.a15 d.sv.pk.length p.sv.c15, .slice p.sv.a16 d.sv.rn.length p.sv.c16, .int .i64 d.sv.gt, .int .i64 d.sv.li, .string d.sv.ho, .string d.sv.sp, .int .i64 d.sv.ea, .int .i64 d.sv.wd, .slice p.sv.a23 d.sv.ms.length p.sv.c23, .slice p.a50 d.ts.length p.c50, .slice p.a51 d.tc.length p.c51], .int .i64 L] w fun e w' => (∃ r, e = .returned (.int .i64 r) ∧ LftK L ((d.an.length : Int) + erT d.cl + erT d.sv + (d.ts.length : Int) + (d.tc.length : Int)) r) ∧ Below w.heap.size w w' := by
  have ec := erT_0 d.cl
  have es := erT_0 d.sv
  have N : Below w.heap.size w (w.alloc (.cells #[.int .i64 d.fa, .slice p.a1 d.an.length p.c1, .int .i64 d.cl.fa, .slice p.cl.a1 d.cl.an.length p.cl.c1, .slice p.cl.a2 d.cl.se.length p.cl.c2, .slice p.cl.a3 d.cl.re.length p.cl.c3, .int .i64 d.cl.er, .int .i64 d.cl.ph, .int .i64 d.cl.al, .int .i64 d.cl.pa, .int .i64 d.cl.no, .bool d.cl.rs, .bool d.cl.et, .string d.cl.pr, .slice p.cl.a12 d.cl.ex.length p.cl.c12, .slice p.cl.a13 d.cl.tr.length p.cl.c13, .slice p.cl.a14 d.cl.tk.length p.cl.c14, .slice p.cl.a15 d.cl.pk.length p.cl.c15, .slice p.cl.a16 d.cl.rn.length p.cl.c16, .int .i64 d.cl.gt, .int .i64 d.cl.li, .string d.cl.ho, .string d.cl.sp, .int .i64 d.cl.ea, .int .i64 d.cl.wd, .slice p.cl.a23 d.cl.ms.length p.cl.c23, .int .i64 d.sv.fa, .slice p.sv.a1 d.sv.an.length p.sv.c1, .slice p.sv.a2 d.sv.se.length p.sv.c2, .slice p.sv.a3 d.sv.re.length p.sv.c3, .int .i64 d.sv.er, .int .i64 d.sv.ph, .int .i64 d.sv.al, .int .i64 d.sv.pa, .int .i64 d.sv.no, .bool d.sv.rs, .bool d.sv.et, .string d.sv.pr, .slice p.sv.a12 d.sv.ex.length p.sv.c12, .slice p.sv.a13 d.sv.tr.length p.sv.c13, .slice p.sv.a14 d.sv.tk.length p.sv.c14, .slice p.sv.a15 d.sv.pk.length p.sv.c15, .slice p.sv.a16 d.sv.rn.length p.sv.c16, .int .i64 d.sv.gt, .int .i64 d.sv.li, .string d.sv.ho, .string d.sv.sp, .int .i64 d.sv.ea, .int .i64 d.sv.wd, .slice p.sv.a23 d.sv.ms.length p.sv.c23, .slice p.a50 d.ts.length p.c50, .slice p.a51 d.tc.length p.c51] 74)) := (Below.refl _ _).alloc (Nat.le_refl _) _
  have P0 : RwC (w.alloc (.cells #[.int .i64 d.fa, .slice p.a1 d.an.length p.c1, .int .i64 d.cl.fa, .slice p.cl.a1 d.cl.an.length p.cl.c1, .slice p.cl.a2 d.cl.se.length p.cl.c2, .slice p.cl.a3 d.cl.re.length p.cl.c3, .int .i64 d.cl.er, .int .i64 d.cl.ph, .int .i64 d.cl.al, .int .i64 d.cl.pa, .int .i64 d.cl.no, .bool d.cl.rs, .bool d.cl.et, .string d.cl.pr, .slice p.cl.a12 d.cl.ex.length p.cl.c12, .slice p.cl.a13 d.cl.tr.length p.cl.c13, .slice p.cl.a14 d.cl.tk.length p.cl.c14, .slice p.cl.a15 d.cl.pk.length p.cl.c15, .slice p.cl.a16 d.cl.rn.length p.cl.c16, .int .i64 d.cl.gt, .int .i64 d.cl.li, .string d.cl.ho, .string d.cl.sp, .int .i64 d.cl.ea, .int .i64 d.cl.wd, .slice p.cl.a23 d.cl.ms.length p.cl.c23, .int .i64 d.sv.fa, .slice p.sv.a1 d.sv.an.length p.sv.c1, .slice p.sv.a2 d.sv.se.length p.sv.c2, .slice p.sv.a3 d.sv.re.length p.sv.c3, .int .i64 d.sv.er, .int .i64 d.sv.ph, .int .i64 d.sv.al, .int .i64 d.sv.pa, .int .i64 d.sv.no, .bool d.sv.rs, .bool d.sv.et, .string d.sv.pr, .slice p.sv.a12 d.sv.ex.length p.sv.c12, .slice p.sv.a13 d.sv.tr.length p.sv.c13, .slice p.sv.a14 d.sv.tk.length p.sv.c14, .slice p.sv.a15 d.sv.pk.length p.sv.c15, .slice p.sv.a16 d.sv.rn.length p.sv.c16, .int .i64 d.sv.gt, .int .i64 d.sv.li, .string d.sv.ho, .string d.sv.sp, .int .i64 d.sv.ea, .int .i64 d.sv.wd, .slice p.sv.a23 d.sv.ms.length p.sv.c23, .slice p.a50 d.ts.length p.c50, .slice p.a51 d.tc.length p.c51] 74)) w.heap.size [.int .i64 d.fa, .slice p.a1 d.an.length p.c1, .int .i64 d.cl.fa, .slice p.cl.a1 d.cl.an.length p.cl.c1, .slice p.cl.a2 d.cl.se.length p.cl.c2, .slice p.cl.a3 d.cl.re.length p.cl.c3, .int .i64 d.cl.er, .int .i64 d.cl.ph, .int .i64 d.cl.al, .int .i64 d.cl.pa, .int .i64 d.cl.no, .bool d.cl.rs, .bool d.cl.et, .string d.cl.pr, .slice p.cl.a12 d.cl.ex.length p.cl.c12, .slice p.cl.a13 d.cl.tr.length p.cl.c13, .slice p.cl.a14 d.cl.tk.length p.cl.c14, .slice p.cl.a15 d.cl.pk.length p.cl.c15, .slice p.cl.a16 d.cl.rn.length p.cl.c16, .int .i64 d.cl.gt, .int .i64 d.cl.li, .string d.cl.ho, .string d.cl.sp, .int .i64 d.cl.ea, .int .i64 d.cl.wd, .slice p.cl.a23 d.cl.ms.length p.cl.c23, .int .i64 d.sv.fa, .slice p.sv.a1 d.sv.an.length p.sv.c1, .slice p.sv.a2 d.sv.se.length p.sv.c2, .slice p.sv.a3 d.sv.re.length p.sv.c3, .int .i64 d.sv.er, .int .i64 d.sv.ph, .int .i64 d.sv.al, .int .i64 d.sv.pa, .int .i64 d.sv.no, .bool d.sv.rs, .bool d.sv.et, .string d.sv.pr, .slice p.sv.a12 d.sv.ex.length p.sv.c12, .slice p.sv.a13 d.sv.tr.length p.sv.c13, .slice p.sv.a14 d.sv.tk.length p.sv.c14, .slice p.sv.a15 d.sv.pk.length p.sv.c15, .slice p.sv.a16 d.sv.rn.length p.sv.c16, .int .i64 d.sv.gt, .int .i64 d.sv.li, .string d.sv.ho, .string d.sv.sp, .int .i64 d.sv.ea, .int .i64 d.sv.wd, .slice p.sv.a23 d.sv.ms.length p.sv.c23, .slice p.a50 d.ts.length p.c50, .slice p.a51 d.tc.length p.c51] 74 := RwC.new w _ _
  have HQ0 : Hid (L = L) := rfl
  obtain ⟨dT1, hdT1, hrT1⟩ := rowLEr
  go_enter Tryd.func29, Tryd.ntmps29
  have pc : (w.alloc (.cells #[.int .i64 d.fa, .slice p.a1 d.an.length p.c1, .int .i64 d.cl.fa, .slice p.cl.a1 d.cl.an.length p.cl.c1, .slice p.cl.a2 d.cl.se.length p.cl.c2, .slice p.cl.a3 d.cl.re.length p.cl.c3, .int .i64 d.cl.er, .int .i64 d.cl.ph, .int .i64 d.cl.al, .int .i64 d.cl.pa, .int .i64 d.cl.no, .bool d.cl.rs, .bool d.cl.et, .string d.cl.pr, .slice p.cl.a12 d.cl.ex.length p.cl.c12, .slice p.cl.a13 d.cl.tr.length p.cl.c13, .slice p.cl.a14 d.cl.tk.length p.cl.c14, .slice p.cl.a15 d.cl.pk.length p.cl.c15, .slice p.cl.a16 d.cl.rn.length p.cl.c16, .int .i64 d.cl.gt, .int .i64 d.cl.li, .string d.cl.ho, .string d.cl.sp, .int .i64 d.cl.ea, .int .i64 d.cl.wd, .slice p.cl.a23 d.cl.ms.length p.cl.c23, .int .i64 d.sv.fa, .slice p.sv.a1 d.sv.an.length p.sv.c1, .slice p.sv.a2 d.sv.se.length p.sv.c2, .slice p.sv.a3 d.sv.re.length p.sv.c3, .int .i64 d.sv.er, .int .i64 d.sv.ph, .int .i64 d.sv.al, .int .i64 d.sv.pa, .int .i64 d.sv.no, .bool d.sv.rs, .bool d.sv.et, .string d.sv.pr, .slice p.sv.a12 d.sv.ex.length p.sv.c12, .slice p.sv.a13 d.sv.tr.length p.sv.c13, .slice p.sv.a14 d.sv.tk.length p.sv.c14, .slice p.sv.a15 d.sv.pk.length p.sv.c15, .slice p.sv.a16 d.sv.rn.length p.sv.c16, .int .i64 d.sv.gt, .int .i64 d.sv.li, .string d.sv.ho, .string d.sv.sp, .int .i64 d.sv.ea, .int .i64 d.sv.wd, .slice p.sv.a23 d.sv.ms.length p.sv.c23, .slice p.a50 d.ts.length p.c50, .slice p.a51 d.tc.length p.c51] 74)).cell? ⟨w.heap.size, 1, none⟩ = some (.slice p.a1 d.an.length p.c1) := P0.cell 1
  have SZ := hide (szIntB (w.alloc (.cells #[.int .i64 d.fa, .slice p.a1 d.an.length p.c1, .int .i64 d.cl.fa, .slice p.cl.a1 d.cl.an.length p.cl.c1, .slice p.cl.a2 d.cl.se.length p.cl.c2, .slice p.cl.a3 d.cl.re.length p.cl.c3, .int .i64 d.cl.er, .int .i64 d.cl.ph, .int .i64 d.cl.al, .int .i64 d.cl.pa, .int .i64 d.cl.no, .bool d.cl.rs, .bool d.cl.et, .string d.cl.pr, .slice p.cl.a12 d.cl.ex.length p.cl.c12, .slice p.cl.a13 d.cl.tr.length p.cl.c13, .slice p.cl.a14 d.cl.tk.length p.cl.c14, .slice p.cl.a15 d.cl.pk.length p.cl.c15, .slice p.cl.a16 d.cl.rn.length p.cl.c16, .int .i64 d.cl.gt, .int .i64 d.cl.li, .string d.cl.ho, .string d.cl.sp, .int .i64 d.cl.ea, .int .i64 d.cl.wd, .slice p.cl.a23 d.cl.ms.length p.cl.c23, .int .i64 d.sv.fa, .slice p.sv.a1 d.sv.an.length p.sv.c1, .slice p.sv.a2 d.sv.se.length p.sv.c2, .slice p.sv.a3 d.sv.re.length p.sv.c3, .int .i64 d.sv.er, .int .i64 d.sv.ph, .int .i64 d.sv.al, .int .i64 d.sv.pa, .int .i64 d.sv.no, .bool d.sv.rs, .bool d.sv.et, .string d.sv.pr, .slice p.sv.a12 d.sv.ex.length p.sv.c12, .slice p.sv.a13 d.sv.tr.length p.sv.c13, .slice p.sv.a14 d.sv.tk.length p.sv.c14, .slice p.sv.a15 d.sv.pk.length p.sv.c15, .slice p.sv.a16 d.sv.rn.length p.sv.c16, .int .i64 d.sv.gt, .int .i64 d.sv.li, .string d.sv.ho, .string d.sv.sp, .int .i64 d.sv.ea, .int .i64 d.sv.wd, .slice p.sv.a23 d.sv.ms.length p.sv.c23, .slice p.a50 d.ts.length p.c50, .slice p.a51 d.tc.length p.c51] 74)) p.a1 p.c1 d.an.length L g.an h0 h1)
  have G := hide h0
  have K := hide h1
  clear h0 h1
  go_wp2_with fail
  generalize w.alloc (.cells #[.int .i64 d.fa, .slice p.a1 d.an.length p.c1, .int .i64 d.cl.fa, .slice p.cl.a1 d.cl.an.length p.cl.c1, .slice p.cl.a2 d.cl.se.length p.cl.c2, .slice p.cl.a3 d.cl.re.length p.cl.c3, .int .i64 d.cl.er, .int .i64 d.cl.ph, .int .i64 d.cl.al, .int .i64 d.cl.pa, .int .i64 d.cl.no, .bool d.cl.rs, .bool d.cl.et, .string d.cl.pr, .slice p.cl.a12 d.cl.ex.length p.cl.c12, .slice p.cl.a13 d.cl.tr.length p.cl.c13, .slice p.cl.a14 d.cl.tk.length p.cl.c14, .slice p.cl.a15 d.cl.pk.length p.cl.c15, .slice p.cl.a16 d.cl.rn.length p.cl.c16, .int .i64 d.cl.gt, .int .i64 d.cl.li, .string d.cl.ho, .string d.cl.sp, .int .i64 d.cl.ea, .int .i64 d.cl.wd, .slice p.cl.a23 d.cl.ms.length p.cl.c23, .int .i64 d.sv.fa, .slice p.sv.a1 d.sv.an.length p.sv.c1, .slice p.sv.a2 d.sv.se.length p.sv.c2, .slice p.sv.a3 d.sv.re.length p.sv.c3, .int .i64 d.sv.er, .int .i64 d.sv.ph, .int .i64 d.sv.al, .int .i64 d.sv.pa, .int .i64 d.sv.no, .bool d.sv.rs, .bool d.sv.et, .string d.sv.pr, .slice p.sv.a12 d.sv.ex.length p.sv.c12, .slice p.sv.a13 d.sv.tr.length p.sv.c13, .slice p.sv.a14 d.sv.tk.length p.sv.c14, .slice p.sv.a15 d.sv.pk.length p.sv.c15, .slice p.sv.a16 d.sv.rn.length p.sv.c16, .int .i64 d.sv.gt, .int .i64 d.sv.li, .string d.sv.ho, .string d.sv.sp, .int .i64 d.sv.ea, .int .i64 d.sv.wd, .slice p.sv.a23 d.sv.ms.length p.sv.c23, .slice p.a50 d.ts.length p.c50, .slice p.a51 d.tc.length p.c51] 74) = wa at *
  refine SZ.out.mono ?_
  rintro e w1 ⟨⟨r, rfl, hr⟩, m⟩
  replace N := nxt N m
  replace P0 := P0.up m
  clear m SZ pc 
  rcases hr with ⟨h2, rfl⟩ | ⟨h2, rfl⟩
  · have FA : Hid (L < (d.an.length : Int) + erT d.cl + erT d.sv + (d.ts.length : Int) + (d.tc.length : Int)) := by have := HQ0.out; show L < _; omega
    clear h2 G K HQ0 P0
    go_wp2
    go_ret
    exact ⟨⟨_, rfl, .inl ⟨FA.out, rfl⟩⟩, N⟩
  have t0 : decide (L - (d.an.length : Int) < 0) = false := decide_eq_false (by omega)
  obtain ⟨q1, e0⟩ : ∃ x : Int, x = L - (d.an.length : Int) := ⟨_, rfl⟩
  have HQ1 : Hid (q1 = L - ((d.an.length : Int))) := by have := HQ0.out; show q1 = _; omega
  have g1 : 0 ≤ q1 := by omega
  have k1 : q1 ≤ 1048576 := by have := G.out; have := K.out; omega
  rw [← e0] at t0 ⊢
  clear h2 G K e0 HQ0
  have pc := P0.part 2 [.int .i64 d.cl.fa, .slice p.cl.a1 d.cl.an.length p.cl.c1, .slice p.cl.a2 d.cl.se.length p.cl.c2, .slice p.cl.a3 d.cl.re.length p.cl.c3, .int .i64 d.cl.er, .int .i64 d.cl.ph, .int .i64 d.cl.al, .int .i64 d.cl.pa, .int .i64 d.cl.no, .bool d.cl.rs, .bool d.cl.et, .string d.cl.pr, .slice p.cl.a12 d.cl.ex.length p.cl.c12, .slice p.cl.a13 d.cl.tr.length p.cl.c13, .slice p.cl.a14 d.cl.tk.length p.cl.c14, .slice p.cl.a15 d.cl.pk.length p.cl.c15, .slice p.cl.a16 d.cl.rn.length p.cl.c16, .int .i64 d.cl.gt, .int .i64 d.cl.li, .string d.cl.ho, .string d.cl.sp, .int .i64 d.cl.ea, .int .i64 d.cl.wd, .slice p.cl.a23 d.cl.ms.length p.cl.c23] rfl
  have SZ := hide (szEndT (w1) p.cl d.cl (h.cl.up N) g.cl q1 g1 k1)
  have G := hide g1
  have K := hide k1
  clear g1 k1
  go_wp2_with (first | (refine wpList_load_mid rfl 72 (.tmp 11) rfl w.heap.size 2 rfl [.int .i64 d.cl.fa, .slice p.cl.a1 d.cl.an.length p.cl.c1, .slice p.cl.a2 d.cl.se.length p.cl.c2, .slice p.cl.a3 d.cl.re.length p.cl.c3, .int .i64 d.cl.er, .int .i64 d.cl.ph, .int .i64 d.cl.al, .int .i64 d.cl.pa, .int .i64 d.cl.no, .bool d.cl.rs, .bool d.cl.et, .string d.cl.pr, .slice p.cl.a12 d.cl.ex.length p.cl.c12, .slice p.cl.a13 d.cl.tr.length p.cl.c13, .slice p.cl.a14 d.cl.tk.length p.cl.c14, .slice p.cl.a15 d.cl.pk.length p.cl.c15, .slice p.cl.a16 d.cl.rn.length p.cl.c16, .int .i64 d.cl.gt, .int .i64 d.cl.li, .string d.cl.ho, .string d.cl.sp, .int .i64 d.cl.ea, .int .i64 d.cl.wd, .slice p.cl.a23 d.cl.ms.length p.cl.c23] dT1 pc hdT1 hrT1 iLEr ?_) | fail)
  refine SZ.out.mono ?_
  rintro e w2 ⟨⟨r, rfl, hr⟩, m⟩
  replace N := nxt N m
  replace P0 := P0.up m
  clear m SZ pc t0
  rcases hr with ⟨h2, rfl⟩ | ⟨h2, rfl⟩
  · have FA : Hid (L < (d.an.length : Int) + erT d.cl + erT d.sv + (d.ts.length : Int) + (d.tc.length : Int)) := by have := HQ1.out; show L < _; omega
    clear h2 G K HQ1 P0
    go_wp2
    go_ret
    exact ⟨⟨_, rfl, .inl ⟨FA.out, rfl⟩⟩, N⟩
  have t1 : decide (q1 - erT d.cl < 0) = false := decide_eq_false (by omega)
  obtain ⟨q2, e1⟩ : ∃ x : Int, x = q1 - erT d.cl := ⟨_, rfl⟩
  have HQ2 : Hid (q2 = L - ((d.an.length : Int) + erT d.cl)) := by have := HQ1.out; show q2 = _; omega
  have g2 : 0 ≤ q2 := by omega
  have k2 : q2 ≤ 1048576 := by have := G.out; have := K.out; omega
  rw [← e1] at t1 ⊢
  clear h2 G K e1 HQ1
  have pc := P0.part 26 [.int .i64 d.sv.fa, .slice p.sv.a1 d.sv.an.length p.sv.c1, .slice p.sv.a2 d.sv.se.length p.sv.c2, .slice p.sv.a3 d.sv.re.length p.sv.c3, .int .i64 d.sv.er, .int .i64 d.sv.ph, .int .i64 d.sv.al, .int .i64 d.sv.pa, .int .i64 d.sv.no, .bool d.sv.rs, .bool d.sv.et, .string d.sv.pr, .slice p.sv.a12 d.sv.ex.length p.sv.c12, .slice p.sv.a13 d.sv.tr.length p.sv.c13, .slice p.sv.a14 d.sv.tk.length p.sv.c14, .slice p.sv.a15 d.sv.pk.length p.sv.c15, .slice p.sv.a16 d.sv.rn.length p.sv.c16, .int .i64 d.sv.gt, .int .i64 d.sv.li, .string d.sv.ho, .string d.sv.sp, .int .i64 d.sv.ea, .int .i64 d.sv.wd, .slice p.sv.a23 d.sv.ms.length p.sv.c23] rfl
  have SZ := hide (szEndT (w2) p.sv d.sv (h.sv.up N) g.sv q2 g2 k2)
  have G := hide g2
  have K := hide k2
  clear g2 k2
  go_wp2_with (first | (refine wpList_load_mid rfl 72 (.tmp 17) rfl w.heap.size 26 rfl [.int .i64 d.sv.fa, .slice p.sv.a1 d.sv.an.length p.sv.c1, .slice p.sv.a2 d.sv.se.length p.sv.c2, .slice p.sv.a3 d.sv.re.length p.sv.c3, .int .i64 d.sv.er, .int .i64 d.sv.ph, .int .i64 d.sv.al, .int .i64 d.sv.pa, .int .i64 d.sv.no, .bool d.sv.rs, .bool d.sv.et, .string d.sv.pr, .slice p.sv.a12 d.sv.ex.length p.sv.c12, .slice p.sv.a13 d.sv.tr.length p.sv.c13, .slice p.sv.a14 d.sv.tk.length p.sv.c14, .slice p.sv.a15 d.sv.pk.length p.sv.c15, .slice p.sv.a16 d.sv.rn.length p.sv.c16, .int .i64 d.sv.gt, .int .i64 d.sv.li, .string d.sv.ho, .string d.sv.sp, .int .i64 d.sv.ea, .int .i64 d.sv.wd, .slice p.sv.a23 d.sv.ms.length p.sv.c23] dT1 pc hdT1 hrT1 iLEr ?_) | fail)
  refine SZ.out.mono ?_
  rintro e w3 ⟨⟨r, rfl, hr⟩, m⟩
  replace N := nxt N m
  replace P0 := P0.up m
  clear m SZ pc t1
  rcases hr with ⟨h2, rfl⟩ | ⟨h2, rfl⟩
  · have FA : Hid (L < (d.an.length : Int) + erT d.cl + erT d.sv + (d.ts.length : Int) + (d.tc.length : Int)) := by have := HQ2.out; show L < _; omega
    clear h2 G K HQ2 P0
    go_wp2
    go_ret
    exact ⟨⟨_, rfl, .inl ⟨FA.out, rfl⟩⟩, N⟩
  have t2 : decide (q2 - erT d.sv < 0) = false := decide_eq_false (by omega)
  obtain ⟨q3, e2⟩ : ∃ x : Int, x = q2 - erT d.sv := ⟨_, rfl⟩
  have HQ3 : Hid (q3 = L - ((d.an.length : Int) + erT d.cl + erT d.sv)) := by have := HQ2.out; show q3 = _; omega
  have g3 : 0 ≤ q3 := by omega
  have k3 : q3 ≤ 1048576 := by have := G.out; have := K.out; omega
  rw [← e2] at t2 ⊢
  clear h2 G K e2 HQ2
  have pc : (w3).cell? ⟨w.heap.size, 50, none⟩ = some (.slice p.a50 d.ts.length p.c50) := P0.cell 50
  have SZ := hide (szByteB (w3) p.a50 p.c50 d.ts.length q3 g.ts g3 k3)
  have G := hide g3
  have K := hide k3
  clear g3 k3
  go_wp2_with fail
  refine SZ.out.mono ?_
  rintro e w4 ⟨⟨r, rfl, hr⟩, m⟩
  replace N := nxt N m
  replace P0 := P0.up m
  clear m SZ pc t2
  rcases hr with ⟨h2, rfl⟩ | ⟨h2, rfl⟩
  · have FA : Hid (L < (d.an.length : Int) + erT d.cl + erT d.sv + (d.ts.length : Int) + (d.tc.length : Int)) := by have := HQ3.out; show L < _; omega
    clear h2 G K HQ3 P0
    go_wp2
    go_ret
    exact ⟨⟨_, rfl, .inl ⟨FA.out, rfl⟩⟩, N⟩
  have t3 : decide (q3 - (d.ts.length : Int) < 0) = false := decide_eq_false (by omega)
  obtain ⟨q4, e3⟩ : ∃ x : Int, x = q3 - (d.ts.length : Int) := ⟨_, rfl⟩
  have HQ4 : Hid (q4 = L - ((d.an.length : Int) + erT d.cl + erT d.sv + (d.ts.length : Int))) := by have := HQ3.out; show q4 = _; omega
  have g4 : 0 ≤ q4 := by omega
  have k4 : q4 ≤ 1048576 := by have := G.out; have := K.out; omega
  rw [← e3] at t3 ⊢
  clear h2 G K e3 HQ3
  have pc : (w4).cell? ⟨w.heap.size, 51, none⟩ = some (.slice p.a51 d.tc.length p.c51) := P0.cell 51
  have SZ := hide (szByteB (w4) p.a51 p.c51 d.tc.length q4 g.tc g4 k4)
  have G := hide g4
  have K := hide k4
  clear g4 k4
  go_wp2_with fail
  refine SZ.out.mono ?_
  rintro e w5 ⟨⟨r, rfl, hr⟩, m⟩
  replace N := nxt N m
  replace P0 := P0.up m
  clear m SZ pc t3
  rcases hr with ⟨h2, rfl⟩ | ⟨h2, rfl⟩
  · have FA : Hid (L < (d.an.length : Int) + erT d.cl + erT d.sv + (d.ts.length : Int) + (d.tc.length : Int)) := by have := HQ4.out; show L < _; omega
    clear h2 G K HQ4 P0
    go_wp2
    go_ret
    exact ⟨⟨_, rfl, .inl ⟨FA.out, rfl⟩⟩, N⟩
  have t4 : decide (q4 - (d.tc.length : Int) < 0) = false := decide_eq_false (by omega)
  obtain ⟨q5, e4⟩ : ∃ x : Int, x = q4 - (d.tc.length : Int) := ⟨_, rfl⟩
  have HQ5 : Hid (q5 = L - ((d.an.length : Int) + erT d.cl + erT d.sv + (d.ts.length : Int) + (d.tc.length : Int))) := by have := HQ4.out; show q5 = _; omega
  have g5 : 0 ≤ q5 := by omega
  have k5 : q5 ≤ 1048576 := by have := G.out; have := K.out; omega
  rw [← e4] at t4 ⊢
  clear h2 G K e4 HQ4
  have FI : Hid (LftK L ((d.an.length : Int) + erT d.cl + erT d.sv + (d.ts.length : Int) + (d.tc.length : Int)) q5) := .inr ⟨by have := HQ5.out; omega, by have := HQ5.out; omega⟩
  clear HQ5
  go_wp2
  go_ret
  exact ⟨⟨_, rfl, FI.out⟩, N⟩
theorem okE_of {d : ED} (h : erT d ≤ 1048576) : OkE d := by
  unfold erT at h
  exact ⟨by omega, by omega, by omega, by omega, by omega, by omega, by omega, by omega, by omega, fun i hi => by have := sumK_get hi; omega⟩
theorem okC_of {d : CD} (h : (d.an.length : Int) + erT d.cl + erT d.sv + (d.ts.length : Int) + (d.tc.length : Int) ≤ 1048576) : OkC d := by
  have ec := erT_0 d.cl
  have es := erT_0 d.sv
  exact ⟨by omega, okE_of (by omega), okE_of (by omega), by omega, by omega⟩
end Go.Proofs.YtpbniihhpfbamaaDoor
