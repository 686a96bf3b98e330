import Derived.Test.YtpbniihhpfbamaaDoorFW8

/-
  Windows and reports, counted (written by gens/kmh.py).
-/
namespace Go.Proofs.YtpbniihhpfbamaaDoor
set_option maxRecDepth 100000
open Go Go.RowKit

theorem szByteB (w : World) (a : Option Addr) (c n : Nat) (L : Int) (hn : n < 9223372036854775808) (h0 : 0 ≤ L) (h1 : L ≤ 1048576) :
    Calls Tryd.prog 30 #[.slice a n c, .int .i64 L] w fun e w' => (∃ r, e = .returned (.int .i64 r) ∧ LftK L n r) ∧ Below w.heap.size w w' :=
  (szByteK_r w a c n L hn h0 h1).mono (by rintro e w' ⟨h, rfl⟩; exact ⟨h, Below.refl _ _⟩)
theorem szIntB (w : World) (a : Option Addr) (c n : Nat) (L : Int) (hn : n < 9223372036854775808) (h0 : 0 ≤ L) (h1 : L ≤ 1048576) :
    Calls Tryd.prog 50 #[.slice a n c, .int .i64 L] w fun e w' => (∃ r, e = .returned (.int .i64 r) ∧ LftK L n r) ∧ Below w.heap.size w w' :=
  (szIntS_r w a c n L hn h0 h1).mono (by rintro e w' ⟨h, rfl⟩; exact ⟨h, Below.refl _ _⟩)
theorem szSavB (w : World) (md li : Int) (ho pr : ByteArray) (ea : Int) (a : Option Addr) (n c : Nat) (a' : Option Addr) (n' c' : Nat) (a'' : Option Addr) (n'' c'' : Nat) (L : Int) (hn : n < 9223372036854775808) (hn' : n' < 9223372036854775808) (hn'' : n'' < 9223372036854775808) (hh : ho.size < 9223372036854775808) (hp : pr.size < 9223372036854775808) (h0 : 0 ≤ L) (h1 : L ≤ 1048576) :
    Calls Tryd.prog 10 #[.agg #[.slice a n c, .slice a' n' c', .slice a'' n'' c'', .int .i64 md, .int .i64 li, .string ho, .string pr, .int .i64 ea], .int .i64 L] w fun e w' => (∃ r, e = .returned (.int .i64 r) ∧ LftK L ((n : Int) + (n' : Int) + (n'' : Int) + (ho.size : Int) + (pr.size : Int)) r) ∧ Below w.heap.size w w' := by
  refine (szSaved_any w md li ho pr ea a n c a' n' c' a'' n'' c'' L hn hn' hn'' hh hp h0 h1).mono ?_
  rintro e w' ⟨rfl, n1⟩
  refine ⟨⟨_, rfl, ?_⟩, n1⟩
  by_cases h : L < (n : Int) + (n' : Int) + (n'' : Int) + (ho.size : Int) + (pr.size : Int)
  · rw [if_pos h]
    exact .inl ⟨h, rfl⟩
  · rw [if_neg h]
    exact .inr ⟨by omega, by omega⟩
set_option maxRecDepth 100000 in
set_option maxHeartbeats 16000000 in
theorem szWindow_r (w : World) (wd : Int) (g : Nat) (a : Option Addr) (c : Nat) (ms : List Mrk) (ps : List Plm) (h : RdK w g a ms ps) (hn : ms.length ≤ 9223372036854775807) (hz : ∀ i, i < ms.length → (ms.getD i mrk0).id.length < 9223372036854775808) (L : Int) (h0 : 0 ≤ L) (h1 : L ≤ 1048576) :
    Calls Tryd.prog 11 #[.agg #[.int .i64 wd, .slice a ms.length c], .int .i64 L] w fun e w' => (∃ r, e = .returned (.int .i64 r) ∧ LftK L ((ms.length : Int) + (sumK ms : Int)) r) ∧ Below w.heap.size w w' := by
  have N : Below w.heap.size w (w.alloc (.cells #[.int .i64 wd, .slice a ms.length c] 28)) := (Below.refl _ _).alloc (Nat.le_refl _) _
  have P0 : RwC (w.alloc (.cells #[.int .i64 wd, .slice a ms.length c] 28)) w.heap.size [.int .i64 wd, .slice a ms.length c] 28 := RwC.new w _ _
  have HQ0 : Hid (L = L) := rfl
  go_enter Tryd.func11, Tryd.ntmps11
  have pc : (w.alloc (.cells #[.int .i64 wd, .slice a ms.length c] 28)).cell? ⟨w.heap.size, 1, none⟩ = some (.slice a ms.length c) := P0.cell 1
  have SZ := hide (szMarkS_r (w.alloc (.cells #[.int .i64 wd, .slice a ms.length c] 28)) g a c ms ps L (h.up N) hn hz h0 h1)
  have G := hide h0
  have K := hide h1
  clear h0 h1
  go_wp2_with fail
  generalize w.alloc (.cells #[.int .i64 wd, .slice a ms.length c] 28) = wa at *
  refine SZ.out.mono ?_
  rintro e w1 ⟨⟨r, rfl, hr⟩, m⟩
  replace N := nxt N m
  replace P0 := P0.up m
  clear m SZ pc 
  rcases hr with ⟨h2, rfl⟩ | ⟨h2, rfl⟩
  · have FA : Hid (L < (ms.length : Int) + (sumK ms : Int)) := by have := HQ0.out; show L < _; omega
    clear h2 G K HQ0 P0
    go_wp2
    go_ret
    exact ⟨⟨_, rfl, .inl ⟨FA.out, rfl⟩⟩, N⟩
  have t0 : decide (L - ((ms.length : Int) + (sumK ms : Int)) < 0) = false := decide_eq_false (by omega)
  obtain ⟨q1, e0⟩ : ∃ x : Int, x = L - ((ms.length : Int) + (sumK ms : Int)) := ⟨_, rfl⟩
  have HQ1 : Hid (q1 = L - (((ms.length : Int) + (sumK ms : Int)))) := by have := HQ0.out; show q1 = _; omega
  have g1 : 0 ≤ q1 := by omega
  have k1 : q1 ≤ 1048576 := by have := G.out; have := K.out; omega
  rw [← e0] at t0 ⊢
  clear h2 G K e0 HQ0
  have FI : Hid (LftK L ((ms.length : Int) + (sumK ms : Int)) q1) := .inr ⟨by have := HQ1.out; omega, by have := HQ1.out; omega⟩
  clear HQ1
  go_wp2
  go_ret
  exact ⟨⟨_, rfl, FI.out⟩, N⟩
end Go.Proofs.YtpbniihhpfbamaaDoor

/-
  The report of an end, counted (written by gens/kmh.py).
-/
namespace Go.Proofs.YtpbniihhpfbamaaDoor
set_option maxRecDepth 100000
open Go Go.RowKit

/-- What came in is not longer than a list may be. -/
structure BgE (d : ED) : Prop where
  an : d.an.length < 9223372036854775808
  se : d.se.length < 9223372036854775808
  re : d.re.length < 9223372036854775808
  ex : d.ex.length < 9223372036854775808
  tr : d.tr.length < 9223372036854775808
  tk : d.tk.length < 9223372036854775808
  pk : d.pk.length < 9223372036854775808
  rn : d.rn.length < 9223372036854775808
  pr : d.pr.size < 9223372036854775808
  ho : d.ho.size < 9223372036854775808
  sp : d.sp.size < 9223372036854775808
  ms : d.ms.length ≤ 9223372036854775807
  mz : ∀ i, i < d.ms.length → (d.ms.getD i mrk0).id.length < 9223372036854775808
def erT (d : ED) : Int := (d.an.length : Int) + (d.se.length : Int) + (d.re.length : Int) + (d.pr.size : Int) + (d.ex.length : Int) + (d.tr.length : Int) + ((d.tk.length : Int) + (d.pk.length : Int) + (d.rn.length : Int) + (d.ho.size : Int) + (d.sp.size : Int)) + ((d.ms.length : Int) + (sumK d.ms : Int))
theorem erT_0 (d : ED) : 0 ≤ erT d := by unfold erT; omega
set_option maxRecDepth 100000 in
set_option maxHeartbeats 16000000 in
theorem szEndReport_r (w : World) (p : EA) (d : ED) (h : HasE 0 w p d) (g : BgE d) (L : Int) (h0 : 0 ≤ L) (h1 : L ≤ 1048576) :
    Calls Tryd.prog 51 #[.agg #[.int .i64 d.fa, .slice p.a1 d.an.length p.c1, .slice p.a2 d.se.length p.c2, .slice p.a3 d.re.length p.c3, .int .i64 d.er, .int .i64 d.ph, .int .i64 d.al, .int .i64 d.pa, .int .i64 d.no, .bool d.rs, .bool d.et, .string d.pr, .slice p.a12 d.ex.length p.c12, .slice p.a13 d.tr.length p.c13, .slice p.a14 d.tk.length p.c14, .slice p.a15 d.pk.length p.c15, .slice p.a16 d.rn.length p.c16, .int .i64 d.gt, .int .i64 d.li, .string d.ho, .string d.sp, .int .i64 d.ea, .int .i64 d.wd, .slice p.a23 d.ms.length p.c23], .int .i64 L] w fun e w' => (∃ r, e = .returned (.int .i64 r) ∧ LftK L ((d.an.length : Int) + (d.se.length : Int) + (d.re.length : Int) + (d.pr.size : Int) + (d.ex.length : Int) + (d.tr.length : Int) + ((d.tk.length : Int) + (d.pk.length : Int) + (d.rn.length : Int) + (d.ho.size : Int) + (d.sp.size : Int)) + ((d.ms.length : Int) + (sumK d.ms : Int))) r) ∧ Below w.heap.size w w' := by
  have gpr := g.pr
  have N : Below w.heap.size w (w.alloc (.cells #[.int .i64 d.fa, .slice p.a1 d.an.length p.c1, .slice p.a2 d.se.length p.c2, .slice p.a3 d.re.length p.c3, .int .i64 d.er, .int .i64 d.ph, .int .i64 d.al, .int .i64 d.pa, .int .i64 d.no, .bool d.rs, .bool d.et, .string d.pr, .slice p.a12 d.ex.length p.c12, .slice p.a13 d.tr.length p.c13, .slice p.a14 d.tk.length p.c14, .slice p.a15 d.pk.length p.c15, .slice p.a16 d.rn.length p.c16, .int .i64 d.gt, .int .i64 d.li, .string d.ho, .string d.sp, .int .i64 d.ea, .int .i64 d.wd, .slice p.a23 d.ms.length p.c23] 72)) := (Below.refl _ _).alloc (Nat.le_refl _) _
  have P0 : RwC (w.alloc (.cells #[.int .i64 d.fa, .slice p.a1 d.an.length p.c1, .slice p.a2 d.se.length p.c2, .slice p.a3 d.re.length p.c3, .int .i64 d.er, .int .i64 d.ph, .int .i64 d.al, .int .i64 d.pa, .int .i64 d.no, .bool d.rs, .bool d.et, .string d.pr, .slice p.a12 d.ex.length p.c12, .slice p.a13 d.tr.length p.c13, .slice p.a14 d.tk.length p.c14, .slice p.a15 d.pk.length p.c15, .slice p.a16 d.rn.length p.c16, .int .i64 d.gt, .int .i64 d.li, .string d.ho, .string d.sp, .int .i64 d.ea, .int .i64 d.wd, .slice p.a23 d.ms.length p.c23] 72)) w.heap.size [.int .i64 d.fa, .slice p.a1 d.an.length p.c1, .slice p.a2 d.se.length p.c2, .slice p.a3 d.re.length p.c3, .int .i64 d.er, .int .i64 d.ph, .int .i64 d.al, .int .i64 d.pa, .int .i64 d.no, .bool d.rs, .bool d.et, .string d.pr, .slice p.a12 d.ex.length p.c12, .slice p.a13 d.tr.length p.c13, .slice p.a14 d.tk.length p.c14, .slice p.a15 d.pk.length p.c15, .slice p.a16 d.rn.length p.c16, .int .i64 d.gt, .int .i64 d.li, .string d.ho, .string d.sp, .int .i64 d.ea, .int .i64 d.wd, .slice p.a23 d.ms.length p.c23] 72 := RwC.new w _ _
  have HQ0 : Hid (L = L) := rfl
  obtain ⟨dT1, hdT1, hrT1⟩ := rowLSv
  obtain ⟨dT2, hdT2, hrT2⟩ := rowLWd
  go_enter Tryd.func51, Tryd.ntmps51
  have pc : (w.alloc (.cells #[.int .i64 d.fa, .slice p.a1 d.an.length p.c1, .slice p.a2 d.se.length p.c2, .slice p.a3 d.re.length p.c3, .int .i64 d.er, .int .i64 d.ph, .int .i64 d.al, .int .i64 d.pa, .int .i64 d.no, .bool d.rs, .bool d.et, .string d.pr, .slice p.a12 d.ex.length p.c12, .slice p.a13 d.tr.length p.c13, .slice p.a14 d.tk.length p.c14, .slice p.a15 d.pk.length p.c15, .slice p.a16 d.rn.length p.c16, .int .i64 d.gt, .int .i64 d.li, .string d.ho, .string d.sp, .int .i64 d.ea, .int .i64 d.wd, .slice p.a23 d.ms.length p.c23] 72)).cell? ⟨w.heap.size, 1, none⟩ = some (.slice p.a1 d.an.length p.c1) := P0.cell 1
  have SZ := hide (szIntB (w.alloc (.cells #[.int .i64 d.fa, .slice p.a1 d.an.length p.c1, .slice p.a2 d.se.length p.c2, .slice p.a3 d.re.length p.c3, .int .i64 d.er, .int .i64 d.ph, .int .i64 d.al, .int .i64 d.pa, .int .i64 d.no, .bool d.rs, .bool d.et, .string d.pr, .slice p.a12 d.ex.length p.c12, .slice p.a13 d.tr.length p.c13, .slice p.a14 d.tk.length p.c14, .slice p.a15 d.pk.length p.c15, .slice p.a16 d.rn.length p.c16, .int .i64 d.gt, .int .i64 d.li, .string d.ho, .string d.sp, .int .i64 d.ea, .int .i64 d.wd, .slice p.a23 d.ms.length p.c23] 72)) p.a1 p.c1 d.an.length L g.an h0 h1)
  have G := hide h0
  have K := hide h1
  clear h0 h1
  go_wp2_with fail
  generalize w.alloc (.cells #[.int .i64 d.fa, .slice p.a1 d.an.length p.c1, .slice p.a2 d.se.length p.c2, .slice p.a3 d.re.length p.c3, .int .i64 d.er, .int .i64 d.ph, .int .i64 d.al, .int .i64 d.pa, .int .i64 d.no, .bool d.rs, .bool d.et, .string d.pr, .slice p.a12 d.ex.length p.c12, .slice p.a13 d.tr.length p.c13, .slice p.a14 d.tk.length p.c14, .slice p.a15 d.pk.length p.c15, .slice p.a16 d.rn.length p.c16, .int .i64 d.gt, .int .i64 d.li, .string d.ho, .string d.sp, .int .i64 d.ea, .int .i64 d.wd, .slice p.a23 d.ms.length p.c23] 72) = wa at *
  refine SZ.out.mono ?_
  rintro e w1 ⟨⟨r, rfl, hr⟩, m⟩
  replace N := nxt N m
  replace P0 := P0.up m
  clear m SZ pc 
  rcases hr with ⟨h2, rfl⟩ | ⟨h2, rfl⟩
  · have FA : Hid (L < (d.an.length : Int) + (d.se.length : Int) + (d.re.length : Int) + (d.pr.size : Int) + (d.ex.length : Int) + (d.tr.length : Int) + ((d.tk.length : Int) + (d.pk.length : Int) + (d.rn.length : Int) + (d.ho.size : Int) + (d.sp.size : Int)) + ((d.ms.length : Int) + (sumK d.ms : Int))) := by have := HQ0.out; show L < _; omega
    clear h2 G K HQ0 P0
    go_wp2
    go_ret
    exact ⟨⟨_, rfl, .inl ⟨FA.out, rfl⟩⟩, N⟩
  have t0 : decide (L - (d.an.length : Int) < 0) = false := decide_eq_false (by omega)
  obtain ⟨q1, e0⟩ : ∃ x : Int, x = L - (d.an.length : Int) := ⟨_, rfl⟩
  have HQ1 : Hid (q1 = L - ((d.an.length : Int))) := by have := HQ0.out; show q1 = _; omega
  have g1 : 0 ≤ q1 := by omega
  have k1 : q1 ≤ 1048576 := by have := G.out; have := K.out; omega
  rw [← e0] at t0 ⊢
  clear h2 G K e0 HQ0
  have pc : (w1).cell? ⟨w.heap.size, 2, none⟩ = some (.slice p.a2 d.se.length p.c2) := P0.cell 2
  have SZ := hide (szByteB (w1) p.a2 p.c2 d.se.length q1 g.se g1 k1)
  have G := hide g1
  have K := hide k1
  clear g1 k1
  go_wp2_with fail
  refine SZ.out.mono ?_
  rintro e w2 ⟨⟨r, rfl, hr⟩, m⟩
  replace N := nxt N m
  replace P0 := P0.up m
  clear m SZ pc t0
  rcases hr with ⟨h2, rfl⟩ | ⟨h2, rfl⟩
  · have FA : Hid (L < (d.an.length : Int) + (d.se.length : Int) + (d.re.length : Int) + (d.pr.size : Int) + (d.ex.length : Int) + (d.tr.length : Int) + ((d.tk.length : Int) + (d.pk.length : Int) + (d.rn.length : Int) + (d.ho.size : Int) + (d.sp.size : Int)) + ((d.ms.length : Int) + (sumK d.ms : Int))) := by have := HQ1.out; show L < _; omega
    clear h2 G K HQ1 P0
    go_wp2
    go_ret
    exact ⟨⟨_, rfl, .inl ⟨FA.out, rfl⟩⟩, N⟩
  have t1 : decide (q1 - (d.se.length : Int) < 0) = false := decide_eq_false (by omega)
  obtain ⟨q2, e1⟩ : ∃ x : Int, x = q1 - (d.se.length : Int) := ⟨_, rfl⟩
  have HQ2 : Hid (q2 = L - ((d.an.length : Int) + (d.se.length : Int))) := by have := HQ1.out; show q2 = _; omega
  have g2 : 0 ≤ q2 := by omega
  have k2 : q2 ≤ 1048576 := by have := G.out; have := K.out; omega
  rw [← e1] at t1 ⊢
  clear h2 G K e1 HQ1
  have pc : (w2).cell? ⟨w.heap.size, 3, none⟩ = some (.slice p.a3 d.re.length p.c3) := P0.cell 3
  have SZ := hide (szByteB (w2) p.a3 p.c3 d.re.length q2 g.re g2 k2)
  have G := hide g2
  have K := hide k2
  clear g2 k2
  go_wp2_with fail
  refine SZ.out.mono ?_
  rintro e w3 ⟨⟨r, rfl, hr⟩, m⟩
  replace N := nxt N m
  replace P0 := P0.up m
  clear m SZ pc t1
  rcases hr with ⟨h2, rfl⟩ | ⟨h2, rfl⟩
  · have FA : Hid (L < (d.an.length : Int) + (d.se.length : Int) + (d.re.length : Int) + (d.pr.size : Int) + (d.ex.length : Int) + (d.tr.length : Int) + ((d.tk.length : Int) + (d.pk.length : Int) + (d.rn.length : Int) + (d.ho.size : Int) + (d.sp.size : Int)) + ((d.ms.length : Int) + (sumK d.ms : Int))) := by have := HQ2.out; show L < _; omega
    clear h2 G K HQ2 P0
    go_wp2
    go_ret
    exact ⟨⟨_, rfl, .inl ⟨FA.out, rfl⟩⟩, N⟩
  have t2 : decide (q2 - (d.re.length : Int) < 0) = false := decide_eq_false (by omega)
  obtain ⟨q3, e2⟩ : ∃ x : Int, x = q2 - (d.re.length : Int) := ⟨_, rfl⟩
  have HQ3 : Hid (q3 = L - ((d.an.length : Int) + (d.se.length : Int) + (d.re.length : Int))) := by have := HQ2.out; show q3 = _; omega
  have g3 : 0 ≤ q3 := by omega
  have k3 : q3 ≤ 1048576 := by have := G.out; have := K.out; omega
  rw [← e2] at t2 ⊢
  clear h2 G K e2 HQ2
  have pc : (w3).cell? ⟨w.heap.size, 11, none⟩ = some (.string d.pr) := P0.cell 11
  by_cases h2 : q3 < (d.pr.size : Int)
  · have FA : Hid (L < (d.an.length : Int) + (d.se.length : Int) + (d.re.length : Int) + (d.pr.size : Int) + (d.ex.length : Int) + (d.tr.length : Int) + ((d.tk.length : Int) + (d.pk.length : Int) + (d.rn.length : Int) + (d.ho.size : Int) + (d.sp.size : Int)) + ((d.ms.length : Int) + (sumK d.ms : Int))) := by have := HQ3.out; show L < _; omega
    have t : decide (q3 - (d.pr.size : Int) < 0) = true := decide_eq_true (by omega)
    clear h2 HQ3 P0
    go_wp2
    go_ret
    exact ⟨⟨_, rfl, .inl ⟨FA.out, rfl⟩⟩, N⟩
  have t3 : decide ((q3 - (d.pr.size : Int)) < 0) = false := decide_eq_false (by omega)
  have HQ4 : Hid ((q3 - (d.pr.size : Int)) = L - ((d.an.length : Int) + (d.se.length : Int) + (d.re.length : Int) + (d.pr.size : Int))) := by have := HQ3.out; show (q3 - (d.pr.size : Int)) = _; omega
  have g4 : 0 ≤ (q3 - (d.pr.size : Int)) := by omega
  have k4 : (q3 - (d.pr.size : Int)) ≤ 1048576 := by omega
  have pd := pc
  clear h2 HQ3 pc
  have pc : (w3).cell? ⟨w.heap.size, 12, none⟩ = some (.slice p.a12 d.ex.length p.c12) := P0.cell 12
  have SZ := hide (szByteB (w3) p.a12 p.c12 d.ex.length (q3 - (d.pr.size : Int)) g.ex g4 k4)
  have G := hide g4
  have K := hide k4
  clear g4 k4
  go_wp2_with fail
  refine SZ.out.mono ?_
  rintro e w5 ⟨⟨r, rfl, hr⟩, m⟩
  replace N := nxt N m
  replace P0 := P0.up m
  clear m SZ pc t2 t3 g3 k3 pd
  rcases hr with ⟨h2, rfl⟩ | ⟨h2, rfl⟩
  · have FA : Hid (L < (d.an.length : Int) + (d.se.length : Int) + (d.re.length : Int) + (d.pr.size : Int) + (d.ex.length : Int) + (d.tr.length : Int) + ((d.tk.length : Int) + (d.pk.length : Int) + (d.rn.length : Int) + (d.ho.size : Int) + (d.sp.size : Int)) + ((d.ms.length : Int) + (sumK d.ms : Int))) := by have := HQ4.out; show L < _; omega
    clear h2 G K HQ4 P0
    go_wp2
    go_ret
    exact ⟨⟨_, rfl, .inl ⟨FA.out, rfl⟩⟩, N⟩
  have t4 : decide ((q3 - (d.pr.size : Int)) - (d.ex.length : Int) < 0) = false := decide_eq_false (by omega)
  obtain ⟨q5, e4⟩ : ∃ x : Int, x = (q3 - (d.pr.size : Int)) - (d.ex.length : Int) := ⟨_, rfl⟩
  have HQ5 : Hid (q5 = L - ((d.an.length : Int) + (d.se.length : Int) + (d.re.length : Int) + (d.pr.size : Int) + (d.ex.length : Int))) := by have := HQ4.out; show q5 = _; omega
  have g5 : 0 ≤ q5 := by omega
  have k5 : q5 ≤ 1048576 := by have := G.out; have := K.out; omega
  rw [← e4] at t4 ⊢
  clear h2 G K e4 HQ4
  have pc : (w5).cell? ⟨w.heap.size, 13, none⟩ = some (.slice p.a13 d.tr.length p.c13) := P0.cell 13
  have SZ := hide (szByteB (w5) p.a13 p.c13 d.tr.length q5 g.tr g5 k5)
  have G := hide g5
  have K := hide k5
  clear g5 k5
  go_wp2_with fail
  refine SZ.out.mono ?_
  rintro e w6 ⟨⟨r, rfl, hr⟩, m⟩
  replace N := nxt N m
  replace P0 := P0.up m
  clear m SZ pc t4
  rcases hr with ⟨h2, rfl⟩ | ⟨h2, rfl⟩
  · have FA : Hid (L < (d.an.length : Int) + (d.se.length : Int) + (d.re.length : Int) + (d.pr.size : Int) + (d.ex.length : Int) + (d.tr.length : Int) + ((d.tk.length : Int) + (d.pk.length : Int) + (d.rn.length : Int) + (d.ho.size : Int) + (d.sp.size : Int)) + ((d.ms.length : Int) + (sumK d.ms : Int))) := by have := HQ5.out; show L < _; omega
    clear h2 G K HQ5 P0
    go_wp2
    go_ret
    exact ⟨⟨_, rfl, .inl ⟨FA.out, rfl⟩⟩, N⟩
  have t5 : decide (q5 - (d.tr.length : Int) < 0) = false := decide_eq_false (by omega)
  obtain ⟨q6, e5⟩ : ∃ x : Int, x = q5 - (d.tr.length : Int) := ⟨_, rfl⟩
  have HQ6 : Hid (q6 = L - ((d.an.length : Int) + (d.se.length : Int) + (d.re.length : Int) + (d.pr.size : Int) + (d.ex.length : Int) + (d.tr.length : Int))) := by have := HQ5.out; show q6 = _; omega
  have g6 : 0 ≤ q6 := by omega
  have k6 : q6 ≤ 1048576 := by have := G.out; have := K.out; omega
  rw [← e5] at t5 ⊢
  clear h2 G K e5 HQ5
  have pc := P0.part 14 [.slice p.a14 d.tk.length p.c14, .slice p.a15 d.pk.length p.c15, .slice p.a16 d.rn.length p.c16, .int .i64 d.gt, .int .i64 d.li, .string d.ho, .string d.sp, .int .i64 d.ea] rfl
  have SZ := hide (szSavB (w6) d.gt d.li d.ho d.sp d.ea p.a14 d.tk.length p.c14 p.a15 d.pk.length p.c15 p.a16 d.rn.length p.c16 q6 g.tk g.pk g.rn g.ho g.sp g6 k6)
  have G := hide g6
  have K := hide k6
  clear g6 k6
  go_wp2_with (first | (refine wpList_load_mid rfl 25 (.tmp 42) rfl w.heap.size 14 rfl [.slice p.a14 d.tk.length p.c14, .slice p.a15 d.pk.length p.c15, .slice p.a16 d.rn.length p.c16, .int .i64 d.gt, .int .i64 d.li, .string d.ho, .string d.sp, .int .i64 d.ea] dT1 pc hdT1 hrT1 iLSv ?_) | fail)
  refine SZ.out.mono ?_
  rintro e w7 ⟨⟨r, rfl, hr⟩, m⟩
  replace N := nxt N m
  replace P0 := P0.up m
  clear m SZ pc t5
  rcases hr with ⟨h2, rfl⟩ | ⟨h2, rfl⟩
  · have FA : Hid (L < (d.an.length : Int) + (d.se.length : Int) + (d.re.length : Int) + (d.pr.size : Int) + (d.ex.length : Int) + (d.tr.length : Int) + ((d.tk.length : Int) + (d.pk.length : Int) + (d.rn.length : Int) + (d.ho.size : Int) + (d.sp.size : Int)) + ((d.ms.length : Int) + (sumK d.ms : Int))) := by have := HQ6.out; show L < _; omega
    clear h2 G K HQ6 P0
    go_wp2
    go_ret
    exact ⟨⟨_, rfl, .inl ⟨FA.out, rfl⟩⟩, N⟩
  have t6 : decide (q6 - ((d.tk.length : Int) + (d.pk.length : Int) + (d.rn.length : Int) + (d.ho.size : Int) + (d.sp.size : Int)) < 0) = false := decide_eq_false (by omega)
  obtain ⟨q7, e6⟩ : ∃ x : Int, x = q6 - ((d.tk.length : Int) + (d.pk.length : Int) + (d.rn.length : Int) + (d.ho.size : Int) + (d.sp.size : Int)) := ⟨_, rfl⟩
  have HQ7 : Hid (q7 = L - ((d.an.length : Int) + (d.se.length : Int) + (d.re.length : Int) + (d.pr.size : Int) + (d.ex.length : Int) + (d.tr.length : Int) + ((d.tk.length : Int) + (d.pk.length : Int) + (d.rn.length : Int) + (d.ho.size : Int) + (d.sp.size : Int)))) := by have := HQ6.out; show q7 = _; omega
  have g7 : 0 ≤ q7 := by omega
  have k7 : q7 ≤ 1048576 := by have := G.out; have := K.out; omega
  rw [← e6] at t6 ⊢
  clear h2 G K e6 HQ6
  have pc := P0.part 22 [.int .i64 d.wd, .slice p.a23 d.ms.length p.c23] rfl
  have SZ := hide (szWindow_r (w7) d.wd p.g23 p.a23 p.c23 d.ms p.pl (h.ms.up N) g.ms g.mz q7 g7 k7)
  have G := hide g7
  have K := hide k7
  clear g7 k7
  go_wp2_with (first | (refine wpList_load_mid rfl 28 (.tmp 48) rfl w.heap.size 22 rfl [.int .i64 d.wd, .slice p.a23 d.ms.length p.c23] dT2 pc hdT2 hrT2 iLWd ?_) | fail)
  refine SZ.out.mono ?_
  rintro e w8 ⟨⟨r, rfl, hr⟩, m⟩
  replace N := nxt N m
  replace P0 := P0.up m
  clear m SZ pc t6
  rcases hr with ⟨h2, rfl⟩ | ⟨h2, rfl⟩
  · have FA : Hid (L < (d.an.length : Int) + (d.se.length : Int) + (d.re.length : Int) + (d.pr.size : Int) + (d.ex.length : Int) + (d.tr.length : Int) + ((d.tk.length : Int) + (d.pk.length : Int) + (d.rn.length : Int) + (d.ho.size : Int) + (d.sp.size : Int)) + ((d.ms.length : Int) + (sumK d.ms : Int))) := by have := HQ7.out; show L < _; omega
    clear h2 G K HQ7 P0
    go_wp2
    go_ret
    exact ⟨⟨_, rfl, .inl ⟨FA.out, rfl⟩⟩, N⟩
  have t7 : decide (q7 - ((d.ms.length : Int) + (sumK d.ms : Int)) < 0) = false := decide_eq_false (by omega)
  obtain ⟨q8, e7⟩ : ∃ x : Int, x = q7 - ((d.ms.length : Int) + (sumK d.ms : Int)) := ⟨_, rfl⟩
  have HQ8 : Hid (q8 = L - ((d.an.length : Int) + (d.se.length : Int) + (d.re.length : Int) + (d.pr.size : Int) + (d.ex.length : Int) + (d.tr.length : Int) + ((d.tk.length : Int) + (d.pk.length : Int) + (d.rn.length : Int) + (d.ho.size : Int) + (d.sp.size : Int)) + ((d.ms.length : Int) + (sumK d.ms : Int)))) := by have := HQ7.out; show q8 = _; omega
  have g8 : 0 ≤ q8 := by omega
  have k8 : q8 ≤ 1048576 := by have := G.out; have := K.out; omega
  rw [← e7] at t7 ⊢
  clear h2 G K e7 HQ7
  have FI : Hid (LftK L ((d.an.length : Int) + (d.se.length : Int) + (d.re.length : Int) + (d.pr.size : Int) + (d.ex.length : Int) + (d.tr.length : Int) + ((d.tk.length : Int) + (d.pk.length : Int) + (d.rn.length : Int) + (d.ho.size : Int) + (d.sp.size : Int)) + ((d.ms.length : Int) + (sumK d.ms : Int))) q8) := .inr ⟨by have := HQ8.out; omega, by have := HQ8.out; omega⟩
  clear HQ8
  go_wp2
  go_ret
  exact ⟨⟨_, rfl, FI.out⟩, N⟩
theorem szEndT (w : World) (p : EA) (d : ED) (h : HasE 0 w p d) (g : BgE d) (L : Int) (h0 : 0 ≤ L) (h1 : L ≤ 1048576) :
    Calls Tryd.prog 51 #[.agg #[.int .i64 d.fa, .slice p.a1 d.an.length p.c1, .slice p.a2 d.se.length p.c2, .slice p.a3 d.re.length p.c3, .int .i64 d.er, .int .i64 d.ph, .int .i64 d.al, .int .i64 d.pa, .int .i64 d.no, .bool d.rs, .bool d.et, .string d.pr, .slice p.a12 d.ex.length p.c12, .slice p.a13 d.tr.length p.c13, .slice p.a14 d.tk.length p.c14, .slice p.a15 d.pk.length p.c15, .slice p.a16 d.rn.length p.c16, .int .i64 d.gt, .int .i64 d.li, .string d.ho, .string d.sp, .int .i64 d.ea, .int .i64 d.wd, .slice p.a23 d.ms.length p.c23], .int .i64 L] w fun e w' => (∃ r, e = .returned (.int .i64 r) ∧ LftK L (erT d) r) ∧ Below w.heap.size w w' := szEndReport_r w p d h g L h0 h1
end Go.Proofs.YtpbniihhpfbamaaDoor
