import Derived.Test.YtpbniihhpfbamaaDoorFW16

/-
  The report of a world: counted, copied, held against another (written by gens/fqq.py).
-/
namespace Go.Proofs.YtpbniihhpfbamaaDoor
set_option maxRecDepth 100000
open Go Go.RowKit

/-- The report of a world as data. -/
structure WD where
  fa : Int
  cs : List CD
  tk : List Int
  pk : List Int
  rn : List Int
  gt : Int
  li : Int
  ho : ByteArray
  sp : ByteArray
  ea : Int
  wd : Int
  ms : List Mrk
/-- Where it lies. -/
structure WA where
  a1 : Option Addr
  c1 : Nat
  g1 : Nat
  a2 : Option Addr
  c2 : Nat
  g2 : Nat
  a3 : Option Addr
  c3 : Nat
  g3 : Nat
  a4 : Option Addr
  c4 : Nat
  g4 : Nat
  a11 : Option Addr
  c11 : Nat
  g11 : Nat
  P : Nat → CA
  pl : List Plm
structure HasR (W : World) (p : WA) (d : WD) : Prop where
  cs : RdC W p.g1 p.a1 d.cs p.P
  tk : Rd W p.g2 p.a2 .u8 d.tk
  pk : Rd W p.g3 p.a3 .u8 d.pk
  rn : Rd W p.g4 p.a4 .u8 d.rn
  ms : RdK W p.g11 p.a11 d.ms p.pl
theorem HasR.up {W W' : World} {p : WA} {d : WD} (h : HasR W p d) (n : Below W.heap.size W W') : HasR W' p d := ⟨h.cs.up n, h.tk.up n, h.pk.up n, h.rn.up n, h.ms.up n⟩
structure OkR (d : WD) : Prop where
  cs : d.cs.length ≤ 1048576
  cz : ∀ i, i < d.cs.length → OkC (d.cs.getD i cd0)
  tk : d.tk.length ≤ 1048576
  pk : d.pk.length ≤ 1048576
  rn : d.rn.length ≤ 1048576
  ms : d.ms.length ≤ 1048576
  mz : ∀ i, i < d.ms.length → (d.ms.getD i mrk0).id.length ≤ 1048576
structure BgR (d : WD) : Prop where
  cs : d.cs.length ≤ 9223372036854775807
  cz : ∀ i, i < d.cs.length → BgC (d.cs.getD i cd0)
  tk : d.tk.length < 9223372036854775808
  pk : d.pk.length < 9223372036854775808
  rn : d.rn.length < 9223372036854775808
  ho : d.ho.size < 9223372036854775808
  sp : d.sp.size < 9223372036854775808
  ms : d.ms.length ≤ 9223372036854775807
  mz : ∀ i, i < d.ms.length → (d.ms.getD i mrk0).id.length < 9223372036854775808
/-- The cells of a world's report. -/
abbrev wrL (p : WA) (d : WD) : List Value := [.int .i64 d.fa, .slice p.a1 d.cs.length p.c1, .slice p.a2 d.tk.length p.c2, .slice p.a3 d.pk.length p.c3, .slice p.a4 d.rn.length p.c4, .int .i64 d.gt, .int .i64 d.li, .string d.ho, .string d.sp, .int .i64 d.ea, .int .i64 d.wd, .slice p.a11 d.ms.length p.c11]
theorem oneWr (p : WA) (d : WD) : (wrL p d : List Value).toArray.all (·.oneCell') = true := all_oneCell_toArray fun v hv => by
  simp only [List.mem_cons, List.not_mem_nil, or_false] at hv
  rcases hv with rfl | rfl | rfl | rfl | rfl | rfl | rfl | rfl | rfl | rfl | rfl | rfl
  all_goals rfl
theorem iWr : (Tryd.prog.info? 39).map (·.size) = some 12 := by kernel_rfl
theorem rowWr : ∃ d, Tryd.prog.underlying 39 = some d ∧ d.isRow = true := ⟨_, Tryd.underlying39, rfl⟩
theorem iLWr : (Tryd.prog.info? 30).map (·.size) = some 12 := by kernel_rfl
theorem rowLWr : ∃ d, Tryd.prog.underlying 30 = some d ∧ d.isRow = true := ⟨_, Tryd.underlying30, rfl⟩
theorem cpCrS (w : World) (g : Nat) (a : Option Addr) (c : Nat) (cs : List CD) (P : Nat → CA) (hr : RdC w g a cs P) (hn : cs.length ≤ 1048576) (hz : ∀ i, i < cs.length → OkC (cs.getD i cd0)) :
    Calls Tryd.prog 18 #[.slice a cs.length c] w fun e w' => ∃ p P', e = .returned (.slice (some ⟨p, 0, none⟩) cs.length cs.length) ∧ CpC w.heap.size w' p cs P' ∧ Below w.heap.size w w' :=
  (toChannelReportS_any w g a c cs P hr hn hz).mono (by rintro e w' ⟨⟨rfl, P', R⟩, n⟩; exact ⟨_, P', rfl, R, n⟩)
def wrT (d : WD) : Int := ((d.cs.length : Int) + sumC d.cs) + ((d.tk.length : Int) + (d.pk.length : Int) + (d.rn.length : Int) + (d.ho.size : Int) + (d.sp.size : Int)) + ((d.ms.length : Int) + (sumK d.ms : Int))
set_option maxRecDepth 100000 in
set_option maxHeartbeats 16000000 in
theorem szWorldReport_r (w : World) (p : WA) (d : WD) (h : HasR w p d) (g : BgR d) (L : Int) (h0 : 0 ≤ L) (h1 : L ≤ 1048576) :
    Calls Tryd.prog 4 #[.agg #[.int .i64 d.fa, .slice p.a1 d.cs.length p.c1, .slice p.a2 d.tk.length p.c2, .slice p.a3 d.pk.length p.c3, .slice p.a4 d.rn.length p.c4, .int .i64 d.gt, .int .i64 d.li, .string d.ho, .string d.sp, .int .i64 d.ea, .int .i64 d.wd, .slice p.a11 d.ms.length p.c11], .int .i64 L] w fun e w' => (∃ r, e = .returned (.int .i64 r) ∧ LftK L (((d.cs.length : Int) + sumC d.cs) + ((d.tk.length : Int) + (d.pk.length : Int) + (d.rn.length : Int) + (d.ho.size : Int) + (d.sp.size : Int)) + ((d.ms.length : Int) + (sumK d.ms : Int))) r) ∧ Below w.heap.size w w' := by
  have sc := sumC_0 d.cs
  have N : Below w.heap.size w (w.alloc (.cells #[.int .i64 d.fa, .slice p.a1 d.cs.length p.c1, .slice p.a2 d.tk.length p.c2, .slice p.a3 d.pk.length p.c3, .slice p.a4 d.rn.length p.c4, .int .i64 d.gt, .int .i64 d.li, .string d.ho, .string d.sp, .int .i64 d.ea, .int .i64 d.wd, .slice p.a11 d.ms.length p.c11] 30)) := (Below.refl _ _).alloc (Nat.le_refl _) _
  have P0 : RwC (w.alloc (.cells #[.int .i64 d.fa, .slice p.a1 d.cs.length p.c1, .slice p.a2 d.tk.length p.c2, .slice p.a3 d.pk.length p.c3, .slice p.a4 d.rn.length p.c4, .int .i64 d.gt, .int .i64 d.li, .string d.ho, .string d.sp, .int .i64 d.ea, .int .i64 d.wd, .slice p.a11 d.ms.length p.c11] 30)) w.heap.size [.int .i64 d.fa, .slice p.a1 d.cs.length p.c1, .slice p.a2 d.tk.length p.c2, .slice p.a3 d.pk.length p.c3, .slice p.a4 d.rn.length p.c4, .int .i64 d.gt, .int .i64 d.li, .string d.ho, .string d.sp, .int .i64 d.ea, .int .i64 d.wd, .slice p.a11 d.ms.length p.c11] 30 := RwC.new w _ _
  have HQ0 : Hid (L = L) := rfl
  obtain ⟨dT1, hdT1, hrT1⟩ := rowLSv
  obtain ⟨dT2, hdT2, hrT2⟩ := rowLWd
  go_enter Tryd.func4, Tryd.ntmps4
  have pc : (w.alloc (.cells #[.int .i64 d.fa, .slice p.a1 d.cs.length p.c1, .slice p.a2 d.tk.length p.c2, .slice p.a3 d.pk.length p.c3, .slice p.a4 d.rn.length p.c4, .int .i64 d.gt, .int .i64 d.li, .string d.ho, .string d.sp, .int .i64 d.ea, .int .i64 d.wd, .slice p.a11 d.ms.length p.c11] 30)).cell? ⟨w.heap.size, 1, none⟩ = some (.slice p.a1 d.cs.length p.c1) := P0.cell 1
  have SZ := hide (szChannelReportS_r (w.alloc (.cells #[.int .i64 d.fa, .slice p.a1 d.cs.length p.c1, .slice p.a2 d.tk.length p.c2, .slice p.a3 d.pk.length p.c3, .slice p.a4 d.rn.length p.c4, .int .i64 d.gt, .int .i64 d.li, .string d.ho, .string d.sp, .int .i64 d.ea, .int .i64 d.wd, .slice p.a11 d.ms.length p.c11] 30)) p.g1 p.a1 p.c1 d.cs p.P L (h.cs.up N) g.cs g.cz h0 h1)
  have G := hide h0
  have K := hide h1
  clear h0 h1
  go_wp2_with fail
  generalize w.alloc (.cells #[.int .i64 d.fa, .slice p.a1 d.cs.length p.c1, .slice p.a2 d.tk.length p.c2, .slice p.a3 d.pk.length p.c3, .slice p.a4 d.rn.length p.c4, .int .i64 d.gt, .int .i64 d.li, .string d.ho, .string d.sp, .int .i64 d.ea, .int .i64 d.wd, .slice p.a11 d.ms.length p.c11] 30) = wa at *
  refine SZ.out.mono ?_
  rintro e w1 ⟨⟨r, rfl, hr⟩, m⟩
  replace N := nxt N m
  replace P0 := P0.up m
  clear m SZ pc 
  rcases hr with ⟨h2, rfl⟩ | ⟨h2, rfl⟩
  · have FA : Hid (L < ((d.cs.length : Int) + sumC d.cs) + ((d.tk.length : Int) + (d.pk.length : Int) + (d.rn.length : Int) + (d.ho.size : Int) + (d.sp.size : Int)) + ((d.ms.length : Int) + (sumK d.ms : Int))) := by have := HQ0.out; show L < _; omega
    clear h2 G K HQ0 P0
    go_wp2
    go_ret
    exact ⟨⟨_, rfl, .inl ⟨FA.out, rfl⟩⟩, N⟩
  have t0 : decide (L - ((d.cs.length : Int) + sumC d.cs) < 0) = false := decide_eq_false (by omega)
  obtain ⟨q1, e0⟩ : ∃ x : Int, x = L - ((d.cs.length : Int) + sumC d.cs) := ⟨_, rfl⟩
  have HQ1 : Hid (q1 = L - (((d.cs.length : Int) + sumC d.cs))) := by have := HQ0.out; show q1 = _; omega
  have g1 : 0 ≤ q1 := by omega
  have k1 : q1 ≤ 1048576 := by have := G.out; have := K.out; omega
  rw [← e0] at t0 ⊢
  clear h2 G K e0 HQ0
  have pc := P0.part 2 [.slice p.a2 d.tk.length p.c2, .slice p.a3 d.pk.length p.c3, .slice p.a4 d.rn.length p.c4, .int .i64 d.gt, .int .i64 d.li, .string d.ho, .string d.sp, .int .i64 d.ea] rfl
  have SZ := hide (szSavB (w1) d.gt d.li d.ho d.sp d.ea p.a2 d.tk.length p.c2 p.a3 d.pk.length p.c3 p.a4 d.rn.length p.c4 q1 g.tk g.pk g.rn g.ho g.sp g1 k1)
  have G := hide g1
  have K := hide k1
  clear g1 k1
  go_wp2_with (first | (refine wpList_load_mid rfl 25 (.tmp 11) rfl w.heap.size 2 rfl [.slice p.a2 d.tk.length p.c2, .slice p.a3 d.pk.length p.c3, .slice p.a4 d.rn.length p.c4, .int .i64 d.gt, .int .i64 d.li, .string d.ho, .string d.sp, .int .i64 d.ea] dT1 pc hdT1 hrT1 iLSv ?_) | fail)
  refine SZ.out.mono ?_
  rintro e w2 ⟨⟨r, rfl, hr⟩, m⟩
  replace N := nxt N m
  replace P0 := P0.up m
  clear m SZ pc t0
  rcases hr with ⟨h2, rfl⟩ | ⟨h2, rfl⟩
  · have FA : Hid (L < ((d.cs.length : Int) + sumC d.cs) + ((d.tk.length : Int) + (d.pk.length : Int) + (d.rn.length : Int) + (d.ho.size : Int) + (d.sp.size : Int)) + ((d.ms.length : Int) + (sumK d.ms : Int))) := by have := HQ1.out; show L < _; omega
    clear h2 G K HQ1 P0
    go_wp2
    go_ret
    exact ⟨⟨_, rfl, .inl ⟨FA.out, rfl⟩⟩, N⟩
  have t1 : decide (q1 - ((d.tk.length : Int) + (d.pk.length : Int) + (d.rn.length : Int) + (d.ho.size : Int) + (d.sp.size : Int)) < 0) = false := decide_eq_false (by omega)
  obtain ⟨q2, e1⟩ : ∃ x : Int, x = q1 - ((d.tk.length : Int) + (d.pk.length : Int) + (d.rn.length : Int) + (d.ho.size : Int) + (d.sp.size : Int)) := ⟨_, rfl⟩
  have HQ2 : Hid (q2 = L - (((d.cs.length : Int) + sumC d.cs) + ((d.tk.length : Int) + (d.pk.length : Int) + (d.rn.length : Int) + (d.ho.size : Int) + (d.sp.size : Int)))) := by have := HQ1.out; show q2 = _; omega
  have g2 : 0 ≤ q2 := by omega
  have k2 : q2 ≤ 1048576 := by have := G.out; have := K.out; omega
  rw [← e1] at t1 ⊢
  clear h2 G K e1 HQ1
  have pc := P0.part 10 [.int .i64 d.wd, .slice p.a11 d.ms.length p.c11] rfl
  have SZ := hide (szWindow_r (w2) d.wd p.g11 p.a11 p.c11 d.ms p.pl (h.ms.up N) g.ms g.mz q2 g2 k2)
  have G := hide g2
  have K := hide k2
  clear g2 k2
  go_wp2_with (first | (refine wpList_load_mid rfl 28 (.tmp 17) rfl w.heap.size 10 rfl [.int .i64 d.wd, .slice p.a11 d.ms.length p.c11] dT2 pc hdT2 hrT2 iLWd ?_) | fail)
  refine SZ.out.mono ?_
  rintro e w3 ⟨⟨r, rfl, hr⟩, m⟩
  replace N := nxt N m
  replace P0 := P0.up m
  clear m SZ pc t1
  rcases hr with ⟨h2, rfl⟩ | ⟨h2, rfl⟩
  · have FA : Hid (L < ((d.cs.length : Int) + sumC d.cs) + ((d.tk.length : Int) + (d.pk.length : Int) + (d.rn.length : Int) + (d.ho.size : Int) + (d.sp.size : Int)) + ((d.ms.length : Int) + (sumK d.ms : Int))) := by have := HQ2.out; show L < _; omega
    clear h2 G K HQ2 P0
    go_wp2
    go_ret
    exact ⟨⟨_, rfl, .inl ⟨FA.out, rfl⟩⟩, N⟩
  have t2 : decide (q2 - ((d.ms.length : Int) + (sumK d.ms : Int)) < 0) = false := decide_eq_false (by omega)
  obtain ⟨q3, e2⟩ : ∃ x : Int, x = q2 - ((d.ms.length : Int) + (sumK d.ms : Int)) := ⟨_, rfl⟩
  have HQ3 : Hid (q3 = L - (((d.cs.length : Int) + sumC d.cs) + ((d.tk.length : Int) + (d.pk.length : Int) + (d.rn.length : Int) + (d.ho.size : Int) + (d.sp.size : Int)) + ((d.ms.length : Int) + (sumK d.ms : Int)))) := by have := HQ2.out; show q3 = _; omega
  have g3 : 0 ≤ q3 := by omega
  have k3 : q3 ≤ 1048576 := by have := G.out; have := K.out; omega
  rw [← e2] at t2 ⊢
  clear h2 G K e2 HQ2
  have FI : Hid (LftK L (((d.cs.length : Int) + sumC d.cs) + ((d.tk.length : Int) + (d.pk.length : Int) + (d.rn.length : Int) + (d.ho.size : Int) + (d.sp.size : Int)) + ((d.ms.length : Int) + (sumK d.ms : Int))) q3) := .inr ⟨by have := HQ3.out; omega, by have := HQ3.out; omega⟩
  clear HQ3
  go_wp2
  go_ret
  exact ⟨⟨_, rfl, FI.out⟩, N⟩
set_option maxRecDepth 100000 in
set_option maxHeartbeats 16000000 in
theorem toWorldReport_any (w : World) (p : WA) (d : WD) (h : HasR w p d) (k : OkR d) :
    Calls Tryd.prog 6 #[.agg #[.int .i64 d.fa, .slice p.a1 d.cs.length p.c1, .slice p.a2 d.tk.length p.c2, .slice p.a3 d.pk.length p.c3, .slice p.a4 d.rn.length p.c4, .int .i64 d.gt, .int .i64 d.li, .string d.ho, .string d.sp, .int .i64 d.ea, .int .i64 d.wd, .slice p.a11 d.ms.length p.c11]] w fun e w' => ∃ p', e = .returned (.agg (wrL p' d).toArray) ∧ HasR w' p' d ∧ Below w.heap.size w w' := by
  have T0 := TMs.new w 30 39 [.int .i64 d.fa, .slice p.a1 d.cs.length p.c1, .slice p.a2 d.tk.length p.c2, .slice p.a3 d.pk.length p.c3, .slice p.a4 d.rn.length p.c4, .int .i64 d.gt, .int .i64 d.li, .string d.ho, .string d.sp, .int .i64 d.ea, .int .i64 d.wd, .slice p.a11 d.ms.length p.c11] [.int .i64 0, .slice none 0 0, .slice none 0 0, .slice none 0 0, .slice none 0 0, .int .i64 0, .int .i64 0, .string ⟨#[]⟩, .string ⟨#[]⟩, .int .i64 0, .int .i64 0, .slice none 0 0]
  obtain ⟨d1, hd1, hrow1⟩ := rowWr
  go_enter Tryd.func6, Tryd.ntmps6
  go_upto_region 2 with fail
  have T0 : TMs w (((w.alloc (.cells #[.int .i64 d.fa, .slice p.a1 d.cs.length p.c1, .slice p.a2 d.tk.length p.c2, .slice p.a3 d.pk.length p.c3, .slice p.a4 d.rn.length p.c4, .int .i64 d.gt, .int .i64 d.li, .string d.ho, .string d.sp, .int .i64 d.ea, .int .i64 d.wd, .slice p.a11 d.ms.length p.c11] 30)).alloc (.cells #[.int .i64 0, .slice none 0 0, .slice none 0 0, .slice none 0 0, .slice none 0 0, .int .i64 0, .int .i64 0, .string ⟨#[]⟩, .string ⟨#[]⟩, .int .i64 0, .int .i64 0, .slice none 0 0] 39)).alloc (.cells #[.int .i64 0, .slice none 0 0, .slice none 0 0, .slice none 0 0, .slice none 0 0, .int .i64 0, .int .i64 0, .string ⟨#[]⟩, .string ⟨#[]⟩, .int .i64 0, .int .i64 0, .slice none 0 0] 39)) 30 39 [.int .i64 d.fa, .slice p.a1 d.cs.length p.c1, .slice p.a2 d.tk.length p.c2, .slice p.a3 d.pk.length p.c3, .slice p.a4 d.rn.length p.c4, .int .i64 d.gt, .int .i64 d.li, .string d.ho, .string d.sp, .int .i64 d.ea, .int .i64 d.wd, .slice p.a11 d.ms.length p.c11] [.int .i64 0, .slice none 0 0, .slice none 0 0, .slice none 0 0, .slice none 0 0, .int .i64 0, .int .i64 0, .string ⟨#[]⟩, .string ⟨#[]⟩, .int .i64 0, .int .i64 0, .slice none 0 0] [.int .i64 0, .slice none 0 0, .slice none 0 0, .slice none 0 0, .slice none 0 0, .int .i64 0, .int .i64 0, .string ⟨#[]⟩, .string ⟨#[]⟩, .int .i64 0, .int .i64 0, .slice none 0 0] := T0
  generalize ((w.alloc (.cells #[.int .i64 d.fa, .slice p.a1 d.cs.length p.c1, .slice p.a2 d.tk.length p.c2, .slice p.a3 d.pk.length p.c3, .slice p.a4 d.rn.length p.c4, .int .i64 d.gt, .int .i64 d.li, .string d.ho, .string d.sp, .int .i64 d.ea, .int .i64 d.wd, .slice p.a11 d.ms.length p.c11] 30)).alloc (.cells #[.int .i64 0, .slice none 0 0, .slice none 0 0, .slice none 0 0, .slice none 0 0, .int .i64 0, .int .i64 0, .string ⟨#[]⟩, .string ⟨#[]⟩, .int .i64 0, .int .i64 0, .slice none 0 0] 39)).alloc (.cells #[.int .i64 0, .slice none 0 0, .slice none 0 0, .slice none 0 0, .slice none 0 0, .int .i64 0, .int .i64 0, .string ⟨#[]⟩, .string ⟨#[]⟩, .int .i64 0, .int .i64 0, .slice none 0 0] 39) = X0 at *
  have q0 : X0.cell? ⟨w.heap.size, 0, none⟩ = some (.int .i64 d.fa) := T0.S.cell 0
  have q1 : X0.cell? ⟨w.heap.size + 1 + 1, 0, none⟩ = some (.int .i64 0) := T0.T.cell 0
  have q2 := T0.T.free 0
  have T6 : TMs w (X0.setCell ⟨w.heap.size + 1 + 1, 0, none⟩ (.int .i64 d.fa)) 30 39 [.int .i64 d.fa, .slice p.a1 d.cs.length p.c1, .slice p.a2 d.tk.length p.c2, .slice p.a3 d.pk.length p.c3, .slice p.a4 d.rn.length p.c4, .int .i64 d.gt, .int .i64 d.li, .string d.ho, .string d.sp, .int .i64 d.ea, .int .i64 d.wd, .slice p.a11 d.ms.length p.c11] [.int .i64 0, .slice none 0 0, .slice none 0 0, .slice none 0 0, .slice none 0 0, .int .i64 0, .int .i64 0, .string ⟨#[]⟩, .string ⟨#[]⟩, .int .i64 0, .int .i64 0, .slice none 0 0] [.int .i64 d.fa, .slice none 0 0, .slice none 0 0, .slice none 0 0, .slice none 0 0, .int .i64 0, .int .i64 0, .string ⟨#[]⟩, .string ⟨#[]⟩, .int .i64 0, .int .i64 0, .slice none 0 0] := T0.set 0 _
  go_upto_region 3 with fail
  clear q0 q1 q2 T0
  generalize X0.setCell ⟨w.heap.size + 1 + 1, 0, none⟩ (.int .i64 d.fa) = X1 at *
  have T0 := T6
  clear T6
  have qS : X1.cell? ⟨w.heap.size, 1, none⟩ = some (.slice p.a1 d.cs.length p.c1) := T0.S.cell 1
  have TB := hide (cpCrS X1 p.g1 p.a1 p.c1 d.cs p.P (h.cs.up T0.N) k.cs k.cz)
  go_wp2_with fail
  refine TB.out.mono ?_
  rintro e V1 ⟨Pcs, PP, rfl, Fcs, m⟩
  have lt := T0.T.lt
  have T2 := T0.up m
  replace Fcs := Fcs.mono (show (w.heap.size + 1 + 1 + 1) ≤ _ by omega)
  clear TB qS T0 m
  have qT : V1.cell? ⟨w.heap.size + 1 + 1, 1, none⟩ = some (.slice none 0 0) := T2.T.cell 1
  have qF := T2.T.free 1
  have T3 : TMs w (V1.setCell ⟨w.heap.size + 1 + 1, 1, none⟩ (.slice (some ⟨Pcs, 0, none⟩) d.cs.length d.cs.length)) 30 39 [.int .i64 d.fa, .slice p.a1 d.cs.length p.c1, .slice p.a2 d.tk.length p.c2, .slice p.a3 d.pk.length p.c3, .slice p.a4 d.rn.length p.c4, .int .i64 d.gt, .int .i64 d.li, .string d.ho, .string d.sp, .int .i64 d.ea, .int .i64 d.wd, .slice p.a11 d.ms.length p.c11] [.int .i64 0, .slice none 0 0, .slice none 0 0, .slice none 0 0, .slice none 0 0, .int .i64 0, .int .i64 0, .string ⟨#[]⟩, .string ⟨#[]⟩, .int .i64 0, .int .i64 0, .slice none 0 0] [.int .i64 d.fa, .slice (some ⟨Pcs, 0, none⟩) d.cs.length d.cs.length, .slice none 0 0, .slice none 0 0, .slice none 0 0, .int .i64 0, .int .i64 0, .string ⟨#[]⟩, .string ⟨#[]⟩, .int .i64 0, .int .i64 0, .slice none 0 0] := T2.set 1 _
  replace Fcs := Fcs.onl (Only.setCell V1 (w.heap.size + 1 + 1) 1 (.slice (some ⟨Pcs, 0, none⟩) d.cs.length d.cs.length)) (by omega)
  go_upto_region 4 with fail
  clear T2 qT qF lt
  generalize V1.setCell ⟨w.heap.size + 1 + 1, 1, none⟩ (.slice (some ⟨Pcs, 0, none⟩) d.cs.length d.cs.length) = X2 at *
  have T0 := T3
  clear T3
  have qS := T0.S.part 2 [.slice p.a2 d.tk.length p.c2, .slice p.a3 d.pk.length p.c3, .slice p.a4 d.rn.length p.c4, .int .i64 d.gt, .int .i64 d.li, .string d.ho, .string d.sp, .int .i64 d.ea] rfl
  obtain ⟨dL, hdL, hrL⟩ := rowLSv
  obtain ⟨dM, hdM, hrM⟩ := rowSv
  have TB := hide (cpSaved X2 d.gt d.li d.ho d.sp d.ea p.g2 p.a2 p.c2 d.tk p.g3 p.a3 p.c3 d.pk p.g4 p.a4 p.c4 d.rn (h.tk.up T0.N) (h.pk.up T0.N) (h.rn.up T0.N) k.tk k.pk k.rn)
  go_wp2_with (first | (refine wpList_load_mid rfl 25 (.tmp 11) rfl w.heap.size 2 rfl [.slice p.a2 d.tk.length p.c2, .slice p.a3 d.pk.length p.c3, .slice p.a4 d.rn.length p.c4, .int .i64 d.gt, .int .i64 d.li, .string d.ho, .string d.sp, .int .i64 d.ea] dL qS hdL hrL iLSv ?_) | fail)
  refine TB.out.mono ?_
  rintro e V2 ⟨Ptk, Ppk, Prn, rfl, Ftk, Fpk, Frn, m⟩
  have lt := T0.T.lt
  have T2 := T0.up m
  replace Fcs := Fcs.up m
  replace Ftk := Ftk.mono (show (w.heap.size + 1 + 1 + 1) ≤ _ by omega)
  replace Fpk := Fpk.mono (show (w.heap.size + 1 + 1 + 1) ≤ _ by omega)
  replace Frn := Frn.mono (show (w.heap.size + 1 + 1 + 1) ≤ _ by omega)
  clear TB qS T0 m dL hdL hrL
  have qT : V2.there (w.heap.size + 1 + 1) 2 8 := T2.T.tpart 2 8 (by simp)
  have ON := oneSv d.gt d.li d.ho d.sp d.ea (some ⟨Ptk, 0, none⟩) d.tk.length d.tk.length (some ⟨Ppk, 0, none⟩) d.pk.length d.pk.length (some ⟨Prn, 0, none⟩) d.rn.length d.rn.length
  have T3 : TMs w (V2.setCells (w.heap.size + 1 + 1) 2 [.slice (some ⟨Ptk, 0, none⟩) d.tk.length d.tk.length, .slice (some ⟨Ppk, 0, none⟩) d.pk.length d.pk.length, .slice (some ⟨Prn, 0, none⟩) d.rn.length d.rn.length, .int .i64 d.gt, .int .i64 d.li, .string d.ho, .string d.sp, .int .i64 d.ea]) 30 39 [.int .i64 d.fa, .slice p.a1 d.cs.length p.c1, .slice p.a2 d.tk.length p.c2, .slice p.a3 d.pk.length p.c3, .slice p.a4 d.rn.length p.c4, .int .i64 d.gt, .int .i64 d.li, .string d.ho, .string d.sp, .int .i64 d.ea, .int .i64 d.wd, .slice p.a11 d.ms.length p.c11] [.int .i64 0, .slice none 0 0, .slice none 0 0, .slice none 0 0, .slice none 0 0, .int .i64 0, .int .i64 0, .string ⟨#[]⟩, .string ⟨#[]⟩, .int .i64 0, .int .i64 0, .slice none 0 0] [.int .i64 d.fa, .slice (some ⟨Pcs, 0, none⟩) d.cs.length d.cs.length, .slice (some ⟨Ptk, 0, none⟩) d.tk.length d.tk.length, .slice (some ⟨Ppk, 0, none⟩) d.pk.length d.pk.length, .slice (some ⟨Prn, 0, none⟩) d.rn.length d.rn.length, .int .i64 d.gt, .int .i64 d.li, .string d.ho, .string d.sp, .int .i64 d.ea, .int .i64 0, .slice none 0 0] := T2.sets 2 [.slice (some ⟨Ptk, 0, none⟩) d.tk.length d.tk.length, .slice (some ⟨Ppk, 0, none⟩) d.pk.length d.pk.length, .slice (some ⟨Prn, 0, none⟩) d.rn.length d.rn.length, .int .i64 d.gt, .int .i64 d.li, .string d.ho, .string d.sp, .int .i64 d.ea]
  replace Fcs := Fcs.onl (only_setG V2 (w.heap.size + 1 + 1) [.slice (some ⟨Ptk, 0, none⟩) d.tk.length d.tk.length, .slice (some ⟨Ppk, 0, none⟩) d.pk.length d.pk.length, .slice (some ⟨Prn, 0, none⟩) d.rn.length d.rn.length, .int .i64 d.gt, .int .i64 d.li, .string d.ho, .string d.sp, .int .i64 d.ea] 2) (by omega)
  replace Ftk := Ftk.onl (only_setG V2 (w.heap.size + 1 + 1) [.slice (some ⟨Ptk, 0, none⟩) d.tk.length d.tk.length, .slice (some ⟨Ppk, 0, none⟩) d.pk.length d.pk.length, .slice (some ⟨Prn, 0, none⟩) d.rn.length d.rn.length, .int .i64 d.gt, .int .i64 d.li, .string d.ho, .string d.sp, .int .i64 d.ea] 2) (by omega)
  replace Fpk := Fpk.onl (only_setG V2 (w.heap.size + 1 + 1) [.slice (some ⟨Ptk, 0, none⟩) d.tk.length d.tk.length, .slice (some ⟨Ppk, 0, none⟩) d.pk.length d.pk.length, .slice (some ⟨Prn, 0, none⟩) d.rn.length d.rn.length, .int .i64 d.gt, .int .i64 d.li, .string d.ho, .string d.sp, .int .i64 d.ea] 2) (by omega)
  replace Frn := Frn.onl (only_setG V2 (w.heap.size + 1 + 1) [.slice (some ⟨Ptk, 0, none⟩) d.tk.length d.tk.length, .slice (some ⟨Ppk, 0, none⟩) d.pk.length d.pk.length, .slice (some ⟨Prn, 0, none⟩) d.rn.length d.rn.length, .int .i64 d.gt, .int .i64 d.li, .string d.ho, .string d.sp, .int .i64 d.ea] 2) (by omega)
  go_upto_region 5 with (first | (refine wpList_store_mid rfl 34 (.tmp 14) (.tmp 13) rfl (w.heap.size + 1 + 1) 2 #[.slice (some ⟨Ptk, 0, none⟩) d.tk.length d.tk.length, .slice (some ⟨Ppk, 0, none⟩) d.pk.length d.pk.length, .slice (some ⟨Prn, 0, none⟩) d.rn.length d.rn.length, .int .i64 d.gt, .int .i64 d.li, .string d.ho, .string d.sp, .int .i64 d.ea] rfl rfl qT iSv ON ?_) | fail)
  clear T2 qT ON lt dM hdM hrM
  generalize V2.setCells (w.heap.size + 1 + 1) 2 [.slice (some ⟨Ptk, 0, none⟩) d.tk.length d.tk.length, .slice (some ⟨Ppk, 0, none⟩) d.pk.length d.pk.length, .slice (some ⟨Prn, 0, none⟩) d.rn.length d.rn.length, .int .i64 d.gt, .int .i64 d.li, .string d.ho, .string d.sp, .int .i64 d.ea] = X3 at *
  have T0 := T3
  clear T3
  have qS := T0.S.part 10 [.int .i64 d.wd, .slice p.a11 d.ms.length p.c11] rfl
  obtain ⟨dL, hdL, hrL⟩ := rowLWd
  obtain ⟨dM, hdM, hrM⟩ := rowWd
  have TB := hide (toWindow_any X3 d.wd p.g11 p.a11 p.c11 d.ms p.pl (h.ms.up T0.N) k.ms k.mz)
  go_wp2_with (first | (refine wpList_load_mid rfl 28 (.tmp 15) rfl w.heap.size 10 rfl [.int .i64 d.wd, .slice p.a11 d.ms.length p.c11] dL qS hdL hrL iLWd ?_) | fail)
  refine TB.out.mono ?_
  rintro e V3 ⟨Pms, Pqs, rfl, Fms, m⟩
  have lt := T0.T.lt
  have T2 := T0.up m
  replace Fcs := Fcs.up m
  replace Ftk := Ftk.up m
  replace Fpk := Fpk.up m
  replace Frn := Frn.up m
  replace Fms := Fms.mono (show (w.heap.size + 1 + 1 + 1) ≤ _ by omega)
  clear TB qS T0 m dL hdL hrL
  have qT : V3.there (w.heap.size + 1 + 1) 10 2 := T2.T.tpart 10 2 (by simp)
  have ON := oneWd d.wd (some ⟨Pms, 0, none⟩) d.ms.length d.ms.length
  have T3 : TMs w (V3.setCells (w.heap.size + 1 + 1) 10 [.int .i64 d.wd, .slice (some ⟨Pms, 0, none⟩) d.ms.length d.ms.length]) 30 39 [.int .i64 d.fa, .slice p.a1 d.cs.length p.c1, .slice p.a2 d.tk.length p.c2, .slice p.a3 d.pk.length p.c3, .slice p.a4 d.rn.length p.c4, .int .i64 d.gt, .int .i64 d.li, .string d.ho, .string d.sp, .int .i64 d.ea, .int .i64 d.wd, .slice p.a11 d.ms.length p.c11] [.int .i64 0, .slice none 0 0, .slice none 0 0, .slice none 0 0, .slice none 0 0, .int .i64 0, .int .i64 0, .string ⟨#[]⟩, .string ⟨#[]⟩, .int .i64 0, .int .i64 0, .slice none 0 0] [.int .i64 d.fa, .slice (some ⟨Pcs, 0, none⟩) d.cs.length d.cs.length, .slice (some ⟨Ptk, 0, none⟩) d.tk.length d.tk.length, .slice (some ⟨Ppk, 0, none⟩) d.pk.length d.pk.length, .slice (some ⟨Prn, 0, none⟩) d.rn.length d.rn.length, .int .i64 d.gt, .int .i64 d.li, .string d.ho, .string d.sp, .int .i64 d.ea, .int .i64 d.wd, .slice (some ⟨Pms, 0, none⟩) d.ms.length d.ms.length] := T2.sets 10 [.int .i64 d.wd, .slice (some ⟨Pms, 0, none⟩) d.ms.length d.ms.length]
  replace Fcs := Fcs.onl (only_setG V3 (w.heap.size + 1 + 1) [.int .i64 d.wd, .slice (some ⟨Pms, 0, none⟩) d.ms.length d.ms.length] 10) (by omega)
  replace Ftk := Ftk.onl (only_setG V3 (w.heap.size + 1 + 1) [.int .i64 d.wd, .slice (some ⟨Pms, 0, none⟩) d.ms.length d.ms.length] 10) (by omega)
  replace Fpk := Fpk.onl (only_setG V3 (w.heap.size + 1 + 1) [.int .i64 d.wd, .slice (some ⟨Pms, 0, none⟩) d.ms.length d.ms.length] 10) (by omega)
  replace Frn := Frn.onl (only_setG V3 (w.heap.size + 1 + 1) [.int .i64 d.wd, .slice (some ⟨Pms, 0, none⟩) d.ms.length d.ms.length] 10) (by omega)
  replace Fms := Fms.onl (only_setG V3 (w.heap.size + 1 + 1) [.int .i64 d.wd, .slice (some ⟨Pms, 0, none⟩) d.ms.length d.ms.length] 10) (by omega)
  go_upto_region 6 with (first | (refine wpList_store_mid rfl 37 (.tmp 18) (.tmp 17) rfl (w.heap.size + 1 + 1) 10 #[.int .i64 d.wd, .slice (some ⟨Pms, 0, none⟩) d.ms.length d.ms.length] rfl rfl qT iWd ON ?_) | fail)
  clear T2 qT ON lt dM hdM hrM
  generalize V3.setCells (w.heap.size + 1 + 1) 10 [.int .i64 d.wd, .slice (some ⟨Pms, 0, none⟩) d.ms.length d.ms.length] = X4 at *
  have T0 := T3
  clear T3
  have RG := T0.T.rangeG
  have TH := T0.U.thereG
  have RR := World.rangeAt_setCells_same X4 (w.heap.size + 1) 0 [.int .i64 d.fa, .slice (some ⟨Pcs, 0, none⟩) d.cs.length d.cs.length, .slice (some ⟨Ptk, 0, none⟩) d.tk.length d.tk.length, .slice (some ⟨Ppk, 0, none⟩) d.pk.length d.pk.length, .slice (some ⟨Prn, 0, none⟩) d.rn.length d.rn.length, .int .i64 d.gt, .int .i64 d.li, .string d.ho, .string d.sp, .int .i64 d.ea, .int .i64 d.wd, .slice (some ⟨Pms, 0, none⟩) d.ms.length d.ms.length] TH
  have OQ := only_setG X4 (w.heap.size + 1) [.int .i64 d.fa, .slice (some ⟨Pcs, 0, none⟩) d.cs.length d.cs.length, .slice (some ⟨Ptk, 0, none⟩) d.tk.length d.tk.length, .slice (some ⟨Ppk, 0, none⟩) d.pk.length d.pk.length, .slice (some ⟨Prn, 0, none⟩) d.rn.length d.rn.length, .int .i64 d.gt, .int .i64 d.li, .string d.ho, .string d.sp, .int .i64 d.ea, .int .i64 d.wd, .slice (some ⟨Pms, 0, none⟩) d.ms.length d.ms.length] 0
  have N8 : Hid (Below w.heap.size w (X4.setCells (w.heap.size + 1) 0 [.int .i64 d.fa, .slice (some ⟨Pcs, 0, none⟩) d.cs.length d.cs.length, .slice (some ⟨Ptk, 0, none⟩) d.tk.length d.tk.length, .slice (some ⟨Ppk, 0, none⟩) d.pk.length d.pk.length, .slice (some ⟨Prn, 0, none⟩) d.rn.length d.rn.length, .int .i64 d.gt, .int .i64 d.li, .string d.ho, .string d.sp, .int .i64 d.ea, .int .i64 d.wd, .slice (some ⟨Pms, 0, none⟩) d.ms.length d.ms.length])) := T0.N.trans (OQ.below (by omega))
  have DFcs := hide ((Fcs.onl OQ (by omega)).mono (show w.heap.size ≤ _ by omega))
  have DFtk := hide ((Ftk.onl OQ (by omega)).mono (show w.heap.size ≤ _ by omega))
  have DFpk := hide ((Fpk.onl OQ (by omega)).mono (show w.heap.size ≤ _ by omega))
  have DFrn := hide ((Frn.onl OQ (by omega)).mono (show w.heap.size ≤ _ by omega))
  have DFms := hide ((Fms.onl OQ (by omega)).mono (show w.heap.size ≤ _ by omega))
  have ON := oneWr ⟨some ⟨Pcs, 0, none⟩, d.cs.length, Pcs, some ⟨Ptk, 0, none⟩, d.tk.length, Ptk, some ⟨Ppk, 0, none⟩, d.pk.length, Ppk, some ⟨Prn, 0, none⟩, d.rn.length, Prn, some ⟨Pms, 0, none⟩, d.ms.length, Pms, PP, Pqs⟩ d
  clear OQ T0 Fcs Ftk Fpk Frn Fms
  go_wp2_with (first
    | (refine wpList_load_mid rfl 39 (.tmp 3) rfl (w.heap.size + 1 + 1) 0 rfl [.int .i64 d.fa, .slice (some ⟨Pcs, 0, none⟩) d.cs.length d.cs.length, .slice (some ⟨Ptk, 0, none⟩) d.tk.length d.tk.length, .slice (some ⟨Ppk, 0, none⟩) d.pk.length d.pk.length, .slice (some ⟨Prn, 0, none⟩) d.rn.length d.rn.length, .int .i64 d.gt, .int .i64 d.li, .string d.ho, .string d.sp, .int .i64 d.ea, .int .i64 d.wd, .slice (some ⟨Pms, 0, none⟩) d.ms.length d.ms.length] d1 RG hd1 hrow1 iWr ?_)
    | (refine wpList_store_mid rfl 39 (.tmp 2) (.tmp 19) rfl (w.heap.size + 1) 0 #[.int .i64 d.fa, .slice (some ⟨Pcs, 0, none⟩) d.cs.length d.cs.length, .slice (some ⟨Ptk, 0, none⟩) d.tk.length d.tk.length, .slice (some ⟨Ppk, 0, none⟩) d.pk.length d.pk.length, .slice (some ⟨Prn, 0, none⟩) d.rn.length d.rn.length, .int .i64 d.gt, .int .i64 d.li, .string d.ho, .string d.sp, .int .i64 d.ea, .int .i64 d.wd, .slice (some ⟨Pms, 0, none⟩) d.ms.length d.ms.length] rfl rfl ?hth ?hin ?hon ?_))
  case hth => exact TH
  case hin => exact iWr
  case hon => exact ON
  exact bodyPost_ret (v := .agg #[.int .i64 d.fa, .slice (some ⟨Pcs, 0, none⟩) d.cs.length d.cs.length, .slice (some ⟨Ptk, 0, none⟩) d.tk.length d.tk.length, .slice (some ⟨Ppk, 0, none⟩) d.pk.length d.pk.length, .slice (some ⟨Prn, 0, none⟩) d.rn.length d.rn.length, .int .i64 d.gt, .int .i64 d.li, .string d.ho, .string d.sp, .int .i64 d.ea, .int .i64 d.wd, .slice (some ⟨Pms, 0, none⟩) d.ms.length d.ms.length]) (results_cellG Tryd.results6 _ _ (w.heap.size + 1) _ d1 rfl RR hd1 hrow1 iWr) rfl ⟨⟨some ⟨Pcs, 0, none⟩, d.cs.length, Pcs, some ⟨Ptk, 0, none⟩, d.tk.length, Ptk, some ⟨Ppk, 0, none⟩, d.pk.length, Ppk, some ⟨Prn, 0, none⟩, d.rn.length, Prn, some ⟨Pms, 0, none⟩, d.ms.length, Pms, PP, Pqs⟩, rfl, ⟨DFcs.out.rd, DFtk.out.rd, DFpk.out.rd, DFrn.out.rd, DFms.out.rd⟩, N8.out⟩
set_option maxRecDepth 100000 in
set_option maxHeartbeats 16000000 in
theorem eqWorldReport_same (w : World) (p q : WA) (d : WD) (h : HasR w p d) (h' : HasR w q d) (k : OkR d) :
    Calls Tryd.prog 8 #[.agg #[.int .i64 d.fa, .slice p.a1 d.cs.length p.c1, .slice p.a2 d.tk.length p.c2, .slice p.a3 d.pk.length p.c3, .slice p.a4 d.rn.length p.c4, .int .i64 d.gt, .int .i64 d.li, .string d.ho, .string d.sp, .int .i64 d.ea, .int .i64 d.wd, .slice p.a11 d.ms.length p.c11], .agg #[.int .i64 d.fa, .slice q.a1 d.cs.length q.c1, .slice q.a2 d.tk.length q.c2, .slice q.a3 d.pk.length q.c3, .slice q.a4 d.rn.length q.c4, .int .i64 d.gt, .int .i64 d.li, .string d.ho, .string d.sp, .int .i64 d.ea, .int .i64 d.wd, .slice q.a11 d.ms.length q.c11]] w fun e w' => e = .returned (.bool true) ∧ Below w.heap.size w w' := by
  have n1 : Below w.heap.size w (w.alloc (.cells #[.int .i64 d.fa, .slice p.a1 d.cs.length p.c1, .slice p.a2 d.tk.length p.c2, .slice p.a3 d.pk.length p.c3, .slice p.a4 d.rn.length p.c4, .int .i64 d.gt, .int .i64 d.li, .string d.ho, .string d.sp, .int .i64 d.ea, .int .i64 d.wd, .slice p.a11 d.ms.length p.c11] 39)) := (Below.refl _ _).alloc (Nat.le_refl _) _
  have n2 : Below (w.alloc (.cells #[.int .i64 d.fa, .slice p.a1 d.cs.length p.c1, .slice p.a2 d.tk.length p.c2, .slice p.a3 d.pk.length p.c3, .slice p.a4 d.rn.length p.c4, .int .i64 d.gt, .int .i64 d.li, .string d.ho, .string d.sp, .int .i64 d.ea, .int .i64 d.wd, .slice p.a11 d.ms.length p.c11] 39)).heap.size (w.alloc (.cells #[.int .i64 d.fa, .slice p.a1 d.cs.length p.c1, .slice p.a2 d.tk.length p.c2, .slice p.a3 d.pk.length p.c3, .slice p.a4 d.rn.length p.c4, .int .i64 d.gt, .int .i64 d.li, .string d.ho, .string d.sp, .int .i64 d.ea, .int .i64 d.wd, .slice p.a11 d.ms.length p.c11] 39)) ((w.alloc (.cells #[.int .i64 d.fa, .slice p.a1 d.cs.length p.c1, .slice p.a2 d.tk.length p.c2, .slice p.a3 d.pk.length p.c3, .slice p.a4 d.rn.length p.c4, .int .i64 d.gt, .int .i64 d.li, .string d.ho, .string d.sp, .int .i64 d.ea, .int .i64 d.wd, .slice p.a11 d.ms.length p.c11] 39)).alloc (.cells #[.int .i64 d.fa, .slice q.a1 d.cs.length q.c1, .slice q.a2 d.tk.length q.c2, .slice q.a3 d.pk.length q.c3, .slice q.a4 d.rn.length q.c4, .int .i64 d.gt, .int .i64 d.li, .string d.ho, .string d.sp, .int .i64 d.ea, .int .i64 d.wd, .slice q.a11 d.ms.length q.c11] 39)) := (Below.refl _ _).alloc (Nat.le_refl _) _
  have P0 : RwC (w.alloc (.cells #[.int .i64 d.fa, .slice p.a1 d.cs.length p.c1, .slice p.a2 d.tk.length p.c2, .slice p.a3 d.pk.length p.c3, .slice p.a4 d.rn.length p.c4, .int .i64 d.gt, .int .i64 d.li, .string d.ho, .string d.sp, .int .i64 d.ea, .int .i64 d.wd, .slice p.a11 d.ms.length p.c11] 39)) w.heap.size [.int .i64 d.fa, .slice p.a1 d.cs.length p.c1, .slice p.a2 d.tk.length p.c2, .slice p.a3 d.pk.length p.c3, .slice p.a4 d.rn.length p.c4, .int .i64 d.gt, .int .i64 d.li, .string d.ho, .string d.sp, .int .i64 d.ea, .int .i64 d.wd, .slice p.a11 d.ms.length p.c11] 39 := RwC.new w _ _
  have P1 : RwC ((w.alloc (.cells #[.int .i64 d.fa, .slice p.a1 d.cs.length p.c1, .slice p.a2 d.tk.length p.c2, .slice p.a3 d.pk.length p.c3, .slice p.a4 d.rn.length p.c4, .int .i64 d.gt, .int .i64 d.li, .string d.ho, .string d.sp, .int .i64 d.ea, .int .i64 d.wd, .slice p.a11 d.ms.length p.c11] 39)).alloc (.cells #[.int .i64 d.fa, .slice q.a1 d.cs.length q.c1, .slice q.a2 d.tk.length q.c2, .slice q.a3 d.pk.length q.c3, .slice q.a4 d.rn.length q.c4, .int .i64 d.gt, .int .i64 d.li, .string d.ho, .string d.sp, .int .i64 d.ea, .int .i64 d.wd, .slice q.a11 d.ms.length q.c11] 39)) (w.heap.size + 1) [.int .i64 d.fa, .slice q.a1 d.cs.length q.c1, .slice q.a2 d.tk.length q.c2, .slice q.a3 d.pk.length q.c3, .slice q.a4 d.rn.length q.c4, .int .i64 d.gt, .int .i64 d.li, .string d.ho, .string d.sp, .int .i64 d.ea, .int .i64 d.wd, .slice q.a11 d.ms.length q.c11] 39 := by have := RwC.new (w.alloc (.cells #[.int .i64 d.fa, .slice p.a1 d.cs.length p.c1, .slice p.a2 d.tk.length p.c2, .slice p.a3 d.pk.length p.c3, .slice p.a4 d.rn.length p.c4, .int .i64 d.gt, .int .i64 d.li, .string d.ho, .string d.sp, .int .i64 d.ea, .int .i64 d.wd, .slice p.a11 d.ms.length p.c11] 39)) [.int .i64 d.fa, .slice q.a1 d.cs.length q.c1, .slice q.a2 d.tk.length q.c2, .slice q.a3 d.pk.length q.c3, .slice q.a4 d.rn.length q.c4, .int .i64 d.gt, .int .i64 d.li, .string d.ho, .string d.sp, .int .i64 d.ea, .int .i64 d.wd, .slice q.a11 d.ms.length q.c11] 39; simpa using this
  have N := nxt n1 n2
  replace P0 := P0.up n2
  have E0 := hide (fun W (n : Below w.heap.size w W) => eqChannelReportS_same W p.g1 q.g1 p.a1 q.a1 p.c1 q.c1 d.cs p.P q.P (h.cs.up n) (h'.cs.up n) k.cs k.cz)
  have E1 := hide (fun W (n : Below w.heap.size w W) => eqSaved_same W d.gt d.li d.ho d.sp d.ea p.g2 q.g2 p.a2 q.a2 p.c2 q.c2 d.tk (h.tk.up n) (h'.tk.up n) k.tk p.g3 q.g3 p.a3 q.a3 p.c3 q.c3 d.pk (h.pk.up n) (h'.pk.up n) k.pk p.g4 q.g4 p.a4 q.a4 p.c4 q.c4 d.rn (h.rn.up n) (h'.rn.up n) k.rn)
  have E2 := hide (fun W (n : Below w.heap.size w W) => eqWindow_same W d.wd p.g11 q.g11 p.a11 q.a11 p.c11 q.c11 d.ms p.pl q.pl (h.ms.up n) (h'.ms.up n) k.ms k.mz)
  obtain ⟨dM2, hdM2, hrM2⟩ := rowSv
  obtain ⟨dM3, hdM3, hrM3⟩ := rowWd
  clear n1 n2
  go_enter Tryd.func8, Tryd.ntmps8
  have p0 : ((w.alloc (.cells #[.int .i64 d.fa, .slice p.a1 d.cs.length p.c1, .slice p.a2 d.tk.length p.c2, .slice p.a3 d.pk.length p.c3, .slice p.a4 d.rn.length p.c4, .int .i64 d.gt, .int .i64 d.li, .string d.ho, .string d.sp, .int .i64 d.ea, .int .i64 d.wd, .slice p.a11 d.ms.length p.c11] 39)).alloc (.cells #[.int .i64 d.fa, .slice q.a1 d.cs.length q.c1, .slice q.a2 d.tk.length q.c2, .slice q.a3 d.pk.length q.c3, .slice q.a4 d.rn.length q.c4, .int .i64 d.gt, .int .i64 d.li, .string d.ho, .string d.sp, .int .i64 d.ea, .int .i64 d.wd, .slice q.a11 d.ms.length q.c11] 39)).cell? ⟨w.heap.size, 0, none⟩ = some (.int .i64 d.fa) := P0.cell 0
  have r0 : ((w.alloc (.cells #[.int .i64 d.fa, .slice p.a1 d.cs.length p.c1, .slice p.a2 d.tk.length p.c2, .slice p.a3 d.pk.length p.c3, .slice p.a4 d.rn.length p.c4, .int .i64 d.gt, .int .i64 d.li, .string d.ho, .string d.sp, .int .i64 d.ea, .int .i64 d.wd, .slice p.a11 d.ms.length p.c11] 39)).alloc (.cells #[.int .i64 d.fa, .slice q.a1 d.cs.length q.c1, .slice q.a2 d.tk.length q.c2, .slice q.a3 d.pk.length q.c3, .slice q.a4 d.rn.length q.c4, .int .i64 d.gt, .int .i64 d.li, .string d.ho, .string d.sp, .int .i64 d.ea, .int .i64 d.wd, .slice q.a11 d.ms.length q.c11] 39)).cell? ⟨w.heap.size + 1, 0, none⟩ = some (.int .i64 d.fa) := P1.cell 0
  have p1 : ((w.alloc (.cells #[.int .i64 d.fa, .slice p.a1 d.cs.length p.c1, .slice p.a2 d.tk.length p.c2, .slice p.a3 d.pk.length p.c3, .slice p.a4 d.rn.length p.c4, .int .i64 d.gt, .int .i64 d.li, .string d.ho, .string d.sp, .int .i64 d.ea, .int .i64 d.wd, .slice p.a11 d.ms.length p.c11] 39)).alloc (.cells #[.int .i64 d.fa, .slice q.a1 d.cs.length q.c1, .slice q.a2 d.tk.length q.c2, .slice q.a3 d.pk.length q.c3, .slice q.a4 d.rn.length q.c4, .int .i64 d.gt, .int .i64 d.li, .string d.ho, .string d.sp, .int .i64 d.ea, .int .i64 d.wd, .slice q.a11 d.ms.length q.c11] 39)).cell? ⟨w.heap.size, 1, none⟩ = some (.slice p.a1 d.cs.length p.c1) := P0.cell 1
  have r1 : ((w.alloc (.cells #[.int .i64 d.fa, .slice p.a1 d.cs.length p.c1, .slice p.a2 d.tk.length p.c2, .slice p.a3 d.pk.length p.c3, .slice p.a4 d.rn.length p.c4, .int .i64 d.gt, .int .i64 d.li, .string d.ho, .string d.sp, .int .i64 d.ea, .int .i64 d.wd, .slice p.a11 d.ms.length p.c11] 39)).alloc (.cells #[.int .i64 d.fa, .slice q.a1 d.cs.length q.c1, .slice q.a2 d.tk.length q.c2, .slice q.a3 d.pk.length q.c3, .slice q.a4 d.rn.length q.c4, .int .i64 d.gt, .int .i64 d.li, .string d.ho, .string d.sp, .int .i64 d.ea, .int .i64 d.wd, .slice q.a11 d.ms.length q.c11] 39)).cell? ⟨w.heap.size + 1, 1, none⟩ = some (.slice q.a1 d.cs.length q.c1) := P1.cell 1
  go_wp2_with fail
  generalize (w.alloc (.cells #[.int .i64 d.fa, .slice p.a1 d.cs.length p.c1, .slice p.a2 d.tk.length p.c2, .slice p.a3 d.pk.length p.c3, .slice p.a4 d.rn.length p.c4, .int .i64 d.gt, .int .i64 d.li, .string d.ho, .string d.sp, .int .i64 d.ea, .int .i64 d.wd, .slice p.a11 d.ms.length p.c11] 39)).alloc (.cells #[.int .i64 d.fa, .slice q.a1 d.cs.length q.c1, .slice q.a2 d.tk.length q.c2, .slice q.a3 d.pk.length q.c3, .slice q.a4 d.rn.length q.c4, .int .i64 d.gt, .int .i64 d.li, .string d.ho, .string d.sp, .int .i64 d.ea, .int .i64 d.wd, .slice q.a11 d.ms.length q.c11] 39) = wa at *
  refine (E0.out _ N).mono ?_
  rintro e w1 ⟨rfl, m⟩
  replace N := nxt N m
  replace P0 := P0.up m
  replace P1 := P1.up m
  clear m E0 p0 r0 p1 r1
  have RA := P0.part 2 [.slice p.a2 d.tk.length p.c2, .slice p.a3 d.pk.length p.c3, .slice p.a4 d.rn.length p.c4, .int .i64 d.gt, .int .i64 d.li, .string d.ho, .string d.sp, .int .i64 d.ea] rfl
  have RB := P1.part 2 [.slice q.a2 d.tk.length q.c2, .slice q.a3 d.pk.length q.c3, .slice q.a4 d.rn.length q.c4, .int .i64 d.gt, .int .i64 d.li, .string d.ho, .string d.sp, .int .i64 d.ea] rfl
  go_wp2_with (first | (refine wpList_load_mid rfl 34 (.tmp 16) rfl w.heap.size 2 rfl [.slice p.a2 d.tk.length p.c2, .slice p.a3 d.pk.length p.c3, .slice p.a4 d.rn.length p.c4, .int .i64 d.gt, .int .i64 d.li, .string d.ho, .string d.sp, .int .i64 d.ea] dM2 RA hdM2 hrM2 iSv ?_) | (refine wpList_load_mid rfl 34 (.tmp 18) rfl (w.heap.size + 1) 2 rfl [.slice q.a2 d.tk.length q.c2, .slice q.a3 d.pk.length q.c3, .slice q.a4 d.rn.length q.c4, .int .i64 d.gt, .int .i64 d.li, .string d.ho, .string d.sp, .int .i64 d.ea] dM2 RB hdM2 hrM2 iSv ?_) | fail)
  refine (E1.out _ N).mono ?_
  rintro e w2 ⟨rfl, m⟩
  replace N := nxt N m
  replace P0 := P0.up m
  replace P1 := P1.up m
  clear m E1 RA RB
  have RA := P0.part 10 [.int .i64 d.wd, .slice p.a11 d.ms.length p.c11] rfl
  have RB := P1.part 10 [.int .i64 d.wd, .slice q.a11 d.ms.length q.c11] rfl
  go_wp2_with (first | (refine wpList_load_mid rfl 37 (.tmp 22) rfl w.heap.size 10 rfl [.int .i64 d.wd, .slice p.a11 d.ms.length p.c11] dM3 RA hdM3 hrM3 iWd ?_) | (refine wpList_load_mid rfl 37 (.tmp 24) rfl (w.heap.size + 1) 10 rfl [.int .i64 d.wd, .slice q.a11 d.ms.length q.c11] dM3 RB hdM3 hrM3 iWd ?_) | fail)
  refine (E2.out _ N).mono ?_
  rintro e w3 ⟨rfl, m⟩
  replace N := nxt N m
  replace P0 := P0.up m
  replace P1 := P1.up m
  clear m E2 RA RB
  go_wp2
  go_ret
  exact ⟨rfl, N⟩
end Go.Proofs.YtpbniihhpfbamaaDoor
