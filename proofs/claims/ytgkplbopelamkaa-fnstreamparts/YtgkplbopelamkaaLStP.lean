
/-
  The law FnStreamParts.
-/
import Derived.Test.YtgkplbopelamkaaPtN
import Derived.Test.YtgkplbopelamkaaSpE
import Derived.Test.YtgkplbopelamkaaDr8
import Derived.Test.YtgkplbopelamkaaLwA8
namespace Go.Proofs.Ytgkplbopelamkaa
open Go Go.RowKit

theorem lwAt8 (w : World) (g : Nat) (a : Option Addr) (c : Nat) (xs : List Int) (n : Int) (hr : Rd w g a .u8 xs) (hb : Byt xs) (hl : xs.length ≤ 1048576) (n0 : 1 ≤ n) (n1 : n ≤ 1048576) :
    Calls Try.prog 22 #[.slice a xs.length c, .int .i64 0, .int .i64 n] w fun e w' => ∃ r : Nat, e = .returned (.int .i64 (r : Int)) ∧ (r : Int) < n ∧ Below w.heap.size w w' := by
  by_cases h : n ≤ 1
  · exact (lwAt_small w a c xs.length 0 n h).mono (by rintro e w' ⟨rfl, rfl⟩; exact ⟨0, rfl, by omega, Below.refl _ _⟩)
  · exact (lwAt_any w g a c xs 0 n hr hb hl (by decide) (by decide) (by omega) n1).mono (by rintro e w' ⟨r, rfl, h1, m, rfl⟩; exact ⟨r, rfl, h1, below_drewN (Below.refl _ _) _⟩)
theorem rd_take {W : World} {g o n : Nat} {k : IntKind} {xs : List Int} (h : Rd W g (some ⟨g, o, none⟩) k xs) (hn : n ≤ xs.length) : Rd W g (some ⟨g, o, none⟩) k (xs.take n) := by
  have := rd_part h 0 n (by omega)
  simpa using this
theorem byt_take {xs : List Int} (h : Byt xs) (n : Nat) : Byt (xs.take n) := by
  have := byt_part h 0 n
  simpa using this
/-- A row of bytes that may be read. -/
def RO (xs : List Int) : Fact := ⟨fun v W => ∃ (a : Option Addr) (c g : Nat), v = .slice a xs.length c ∧ Rd W g a .u8 xs ∧ xs.length ≤ c ∧ (a = none → c = 0), fun h ⟨a, c, g, e, r, l, p⟩ => ⟨a, c, g, e, r.up h, l, p⟩⟩
set_option maxRecDepth 100000 in
set_option maxHeartbeats 8000000 in
theorem parts_law (w : World) (g0 : Nat) (a0 : Option Addr) (c0 : Nat) (X0 : List Int) (hX0 : Rd w g0 a0 .u8 X0) (bX0 : Byt X0) (g1 : Nat) (a1 : Option Addr) (c1 : Nat) (X1 : List Int) (hX1 : Rd w g1 a1 .u8 X1) (bX1 : Byt X1) :
    Calls Try.prog 5 #[.slice a0 X0.length c0, .slice a1 X1.length c1] w fun e w' => e = .returned (.bool true) ∧ Below w.heap.size w w' := by
  by_cases q0 : X0.length ≤ 1048576
  · have u0 : decide ((1048576 : Int) < (X0.length : Int)) = false := by simp; omega
    by_cases q1 : X1.length ≤ 1048576
    · have u1 : decide ((1048576 : Int) < (X1.length : Int)) = false := by simp; omega
      go_enter Try.func5, Try.ntmps5
      go_wp2_with fail
      refine (drawXor_any w g0 a0 c0 X0 hX0 bX0 q0).mono ?_
      rintro e w1 ⟨ks, ns, ds, ct, b1, b2, b3, e1, e2, e3, h1, h2, h3, rfl, ct0, ct1, kl, nl, dl, kb, nb, db, o1, o2, o3, p1, p2, p3, r1, r2, r3, n1⟩
      go_wp2_with fail
      refine (specXor_any w1 h1 b1 e1 ks o1.rd kb r1 ct h2 b2 e2 ns o2.rd nb r2 h3 b3 e3 ds o3.rd (by omega)).mono ?_
      rintro e w2 ⟨⟨a4, c4, g4, rfl, o4, p4, r4, s4⟩, n2⟩
      have N2 := nxt n1 n2
      have k2 := o1.rd.up n2
      have m2 := o2.rd.up n2
      have d2 := o3.rd.up n2
      clear o1 o2 o3
      have SL := sxA_len_or ks ct ns ds
      have ST : 0 < ds.length → (sxA ks ct ns ds).length = ds.length → sxA ks ct ns (sxA ks ct ns ds) = ds := fun h0 h => sxA_twice db h0 h
      have SP : (sxA ks ct ns ds).length = ds.length → ∀ b : Nat, 64 * b < ds.length → sxA ks (ct + (b : Int)) ns (ds.drop (64 * b)) = (sxA ks ct ns ds).drop (64 * b) := fun h b hb => sxA_part h b hb
      have RB : (sxA ks ct ns ds).length ≤ 5300 := by
        rcases SL with h | h
        · omega
        · rw [h]; exact Nat.zero_le _
      have IX := fun W g a c h k ct' g' a' c' h' k' g2 a2 c2 (dd : List Int) h2 (hn : dd.length ≤ 4194304) => implXor_any W g a c ks h kb k ct' g' a' c' ns h' nb k' g2 a2 c2 dd h2 hn
      obtain ⟨R, hR⟩ : ∃ R, R = sxA ks ct ns ds := ⟨_, rfl⟩
      rw [← hR] at o4 r4 SL ST SP RB ⊢
      have HR := hide hR
      clear hR
      go_wp2_with fail
      refine (lwCopy_any w2 h1 b1 e1 ks k2 p1 (by omega)).mono ?_
      rintro e w3 ⟨⟨a5, c5, g5, rfl, o5, p5, r5, s5⟩, n3⟩
      have N3 := nxt N2 n3
      go_wp2_with fail
      refine (lwCopy_any w3 h2 b2 e2 ns (m2.up n3) p2 (by omega)).mono ?_
      rintro e w4 ⟨⟨a6, c6, g6, rfl, o6, p6, r6, s6⟩, n4⟩
      have n34 := nxt n3 n4
      have N4 := nxt N3 n4
      go_wp2_with fail
      refine (lwCopy_any w4 h3 b3 e3 ds (d2.up n34) p3 (by omega)).mono ?_
      rintro e w5 ⟨⟨a7, c7, g7, rfl, o7, p7, r7, s7⟩, n5⟩
      have n35 := nxt n34 n5
      have N5 := nxt N4 n5
      go_wp2_with fail
      refine (IX w5 g5 a5 c5 ((o5.rd.up n4).up n5) r5 ct g6 a6 c6 (o6.rd.up n5) r6 g7 a7 c7 ds o7.rd (by omega)).mono ?_
      rintro e w6 ⟨⟨a8, c8, g8, rfl, o8, p8, r8, s8⟩, n6⟩
      have n36 := nxt n35 n6
      have N6 := nxt N5 n6
      rw [← HR.out] at o8 r8 ⊢
      have k6 := k2.up n36
      have m6 := m2.up n36
      have d6 := d2.up n36
      have R6 := o4.rd.up n36
      clear o4 o5 o6 o7 n3 n4 n5 n6 n34 n35 n36 N2 N3 N4 N5 k2 m2 d2 s4 s5 s6 s7 s8
      by_cases hA : R.length = ds.length ∧ 0 < ds.length
      · obtain ⟨hA1, hA2⟩ := hA
        have eI : (R.length : Int) = (ds.length : Int) := by omega
        have tB : decide ((ds.length : Int) = 0) = false := decide_eq_false (by omega)
        have tC : ¬ (ds.length = 0) := by omega
        have tD : ¬ (ds = []) := fun h => by rw [h] at tC; exact tC rfl
        have ST1 := hide (ST hA2 hA1)
        have SP1 := hide (SP hA1)
        have HA1 := hide hA1
        have HA2 := hide hA2
        clear ST SP SL hA1 hA2
        go_wp2_with fail
        refine (lwCopy_any w6 h1 b1 e1 ks k6 p1 (by omega)).mono ?_
        rintro e w7 ⟨⟨a5, c5, g5, rfl, o5, p5, r5, s5⟩, n7⟩
        go_wp2_with fail
        refine (lwCopy_any w7 h2 b2 e2 ns (m6.up n7) p2 (by omega)).mono ?_
        rintro e w8 ⟨⟨a6, c6, g6, rfl, o6, p6, r6, s6⟩, n8⟩
        have n68 := nxt n7 n8
        go_wp2_with fail
        refine (lwCopy_any w8 g8 a8 c8 R (o8.rd.up n68) p8 (by omega)).mono ?_
        rintro e w9 ⟨⟨a7, c7, g7, rfl, o7, p7, r7, s7⟩, n9⟩
        have n69 := nxt n68 n9
        go_wp2_with fail
        refine (IX w9 g5 a5 c5 ((o5.rd.up n8).up n9) r5 ct g6 a6 c6 (o6.rd.up n9) r6 g7 a7 c7 R o7.rd (by omega)).mono ?_
        rintro e w10 ⟨⟨a9, c9, g9, rfl, o9, p9, r9, s9⟩, n10⟩
        have n610 := nxt n69 n10
        rw [ST1.out] at o9 r9 ⊢
        go_wp2_with fail
        refine (lwSame_same w10 g9 h3 a9 b3 c9 e3 ds o9.rd (d6.up n610)).mono ?_
        rintro e w11 ⟨rfl, rfl⟩
        have k11 := k6.up n610
        have m11 := m6.up n610
        have d11 := d6.up n610
        have R11 := o8.rd.up n610
        have N11 := nxt N6 n610
        clear o5 o6 o7 o9 n7 n8 n9 n10 n68 n69 n610 k6 m6 d6 R6 o8 s5 s6 s7 s9 ST1
        have dq : (ds.length : Int) / 64 ≤ 83 := by omega
        have dq0 : 0 ≤ (ds.length : Int) / 64 := by omega
        go_wp2_with fail
        refine (lwAt8 w11 g1 a1 c1 X1 ((ds.length : Int) / 64 + 1) (hX1.up N11) bX1 q1 (by omega) (by omega)).mono ?_
        rintro e w12 ⟨b, rfl, hb1, n12⟩
        have bB : 64 * b ≤ ds.length := by omega
        have k12 := k11.up n12
        have m12 := m11.up n12
        have d12 := d11.up n12
        have R12 := R11.up n12
        have N12 := nxt N11 n12
        clear k11 m11 d11 R11 N11 n12
        have bI : (b : Int) ≤ 84 := by omega
        obtain ⟨od, eb3, -⟩ := d12 HA2.out
        subst eb3
        obtain ⟨og, eb8, -⟩ := R12 (by have := HA1.out; omega)
        subst eb8
        obtain ⟨q, hq⟩ : ∃ q, q = 64 * b := ⟨_, rfl⟩
        have qI : (64 : Int) * (b : Int) = (q : Int) := by omega
        by_cases hlt : q < ds.length
        · have TL : (ds.drop q).length = ds.length - q := List.length_drop
          have RL : (R.drop q).length = R.length - q := List.length_drop
          have dT : Rd w12 h3 (some ⟨h3, od + q, none⟩) .u8 (ds.drop q) := by
            have := rd_part d12 q (ds.length - q) (by omega)
            rwa [List.take_of_length_le (by rw [List.length_drop]; exact Nat.le_refl _)] at this
          have rT : Rd w12 g8 (some ⟨g8, og + q, none⟩) .u8 (R.drop q) := by
            have := rd_part R12 q (R.length - q) (by have := HA1.out; omega)
            rwa [List.take_of_length_le (by rw [List.length_drop]; exact Nat.le_refl _)] at this
          have SPq : sxA ks (ct + (b : Int)) ns (ds.drop q) = R.drop q := by rw [hq]; exact SP1.out b (by omega)
          have c1 : q < e3 := by omega
          have c2 : ¬ (q = e3) := by omega
          have c3 : (q : Int) ≤ (ds.length : Int) := by omega
          have c4 : (q : Int) < (ds.length : Int) := by omega
          have c5 : (ds.length : Int) ≤ (e3 : Int) := by omega
          have c6 : q ≤ ds.length := by omega
          have f1 : q < c8 := by have := HA1.out; omega
          have f2 : ¬ (q = c8) := by omega
          have f3 : (R.length : Int) ≤ (c8 : Int) := by omega
          have f4 : decide ((q : Int) = (ds.length : Int)) = false := decide_eq_false (by omega)
          have f5 : ¬ (q = ds.length) := by omega
          have f6 : q ≤ R.length := by have := HA1.out; omega
          have wq : IntKind.i64.wrap (64 * (b : Int)) = (q : Int) := by rw [IntKind.wrap_i64]; omega
          have wc : IntKind.i64.wrap (ct + (b : Int)) = ct + (b : Int) := by rw [IntKind.wrap_i64]; omega
          have z00 : (0 : Int) ≤ (q : Int) := by omega
          have z01 : (0 : Int) ≤ (ds.length : Int) := by omega
          have LT := hide TL
          have LR := hide RL
          have HSP := hide SPq
          clear SPq hq SP1
          go_wp2_with fail
          refine region_end 14 (fun i => [Fact.eq (.slice b1 ks.length e1), RO ks, Fact.eq (.int .i64 ct), Fact.eq (.int .i64 (b : Int)), Fact.eq (.int .i64 (ct + (b : Int))), Fact.eq (.slice b2 ns.length e2), RO ns, Fact.eq (.slice (some ⟨h3, od, none⟩) ds.length e3), Fact.eq (.int .i64 (b : Int)), Fact.eq (.int .i64 (q : Int)), Fact.eq (.slice (some ⟨h3, od + q, none⟩) (ds.length - q) (e3 - q)), RO (ds.drop q), RO (R.drop q), RO (R.drop q)].getD i Fact.no) (by kernel_rfl) (by kernel_rfl) rfl ?_ ?_
          · intro i hi
            obtain rfl | rfl | rfl | rfl | rfl | rfl | rfl | rfl | rfl | rfl | rfl | rfl | rfl | rfl : i = 0 ∨ i = 1 ∨ i = 2 ∨ i = 3 ∨ i = 4 ∨ i = 5 ∨ i = 6 ∨ i = 7 ∨ i = 8 ∨ i = 9 ∨ i = 10 ∨ i = 11 ∨ i = 12 ∨ i = 13 := by omega
            · refine step_pure rfl fun a u hb hw hf => ?_
              have e5 : a.tmps[5]?.getD undef = .slice b1 ks.length e1 := gdv (hb.2.2 5 (by kernel_rfl))
              exact ⟨.slice b1 ks.length e1, by simp [go_sem, e5], rfl⟩
            · refine step_callv rfl 19 _ _ rfl (by kernel_rfl) fun a u hb hw hf => ?_
              have e83 : a.tmps.getD 83 undef = .slice b1 ks.length e1 := hf 0 83 (by kernel_rfl)
              show Calls Try.prog 19 #[a.tmps.getD 83 undef] u _
              rw [e83]
              exact (lwCopy_any u h1 b1 e1 ks (k12.up hw) p1 (by omega)).mono (by rintro e w' ⟨⟨x, y, z, rfl, o, pp, l, m⟩, M⟩; exact ⟨_, rfl, M, x, y, z, rfl, o.rd, l, pp⟩)
            · refine step_pure rfl fun a u hb hw hf => ?_
              have e6 : a.tmps[6]?.getD undef = .int .i64 ct := gdv (hb.2.2 6 (by kernel_rfl))
              exact ⟨.int .i64 ct, by simp [go_sem, e6], rfl⟩
            · refine step_pure rfl fun a u hb hw hf => ?_
              have e11 : a.tmps[11]?.getD undef = .int .i64 (b : Int) := gdv (hb.2.2 11 (by kernel_rfl))
              exact ⟨.int .i64 (b : Int), by simp [go_sem, e11], rfl⟩
            · refine step_pure rfl fun a u hb hw hf => ?_
              have e85 : a.tmps[85]?.getD undef = .int .i64 ct := gdv (hf 2 85 (by kernel_rfl))
              have e86 : a.tmps[86]?.getD undef = .int .i64 (b : Int) := gdv (hf 3 86 (by kernel_rfl))
              exact ⟨.int .i64 (ct + (b : Int)), by simp [go_sem, e85, e86, wc], rfl⟩
            · refine step_pure rfl fun a u hb hw hf => ?_
              have e7 : a.tmps[7]?.getD undef = .slice b2 ns.length e2 := gdv (hb.2.2 7 (by kernel_rfl))
              exact ⟨.slice b2 ns.length e2, by simp [go_sem, e7], rfl⟩
            · refine step_callv rfl 19 _ _ rfl (by kernel_rfl) fun a u hb hw hf => ?_
              have e88 : a.tmps.getD 88 undef = .slice b2 ns.length e2 := hf 5 88 (by kernel_rfl)
              show Calls Try.prog 19 #[a.tmps.getD 88 undef] u _
              rw [e88]
              exact (lwCopy_any u h2 b2 e2 ns (m12.up hw) p2 (by omega)).mono (by rintro e w' ⟨⟨x, y, z, rfl, o, pp, l, m⟩, M⟩; exact ⟨_, rfl, M, x, y, z, rfl, o.rd, l, pp⟩)
            · refine step_pure rfl fun a u hb hw hf => ?_
              have e8 : a.tmps[8]?.getD undef = .slice (some ⟨h3, od, none⟩) ds.length e3 := gdv (hb.2.2 8 (by kernel_rfl))
              exact ⟨.slice (some ⟨h3, od, none⟩) ds.length e3, by simp [go_sem, e8], rfl⟩
            · refine step_pure rfl fun a u hb hw hf => ?_
              have e11 : a.tmps[11]?.getD undef = .int .i64 (b : Int) := gdv (hb.2.2 11 (by kernel_rfl))
              exact ⟨.int .i64 (b : Int), by simp [go_sem, e11], rfl⟩
            · refine step_pure rfl fun a u hb hw hf => ?_
              have e91 : a.tmps[91]?.getD undef = .int .i64 (b : Int) := gdv (hf 8 91 (by kernel_rfl))
              exact ⟨.int .i64 (q : Int), by simp [go_sem, e91, wq], rfl⟩
            · refine step_pure rfl fun a u hb hw hf => ?_
              have e90 : a.tmps[90]?.getD undef = .slice (some ⟨h3, od, none⟩) ds.length e3 := gdv (hf 7 90 (by kernel_rfl))
              have e92 : a.tmps[92]?.getD undef = .int .i64 (q : Int) := gdv (hf 9 92 (by kernel_rfl))
              exact ⟨.slice (some ⟨h3, od + q, none⟩) (ds.length - q) (e3 - q), by simp [go_sem, e90, e92, c3, z00]; omega, rfl⟩
            · refine step_callv rfl 19 _ _ rfl (by kernel_rfl) fun a u hb hw hf => ?_
              have e93 : a.tmps.getD 93 undef = .slice (some ⟨h3, od + q, none⟩) (ds.length - q) (e3 - q) := hf 10 93 (by kernel_rfl)
              show Calls Try.prog 19 #[a.tmps.getD 93 undef] u _
              rw [e93, ← TL]
              exact (lwCopy_any u h3 (some ⟨h3, od + q, none⟩) (e3 - q) (ds.drop q) (dT.up hw) (by simp) (by rw [TL]; omega)).mono (by rintro e w' ⟨⟨x, y, z, rfl, o, pp, l, m⟩, M⟩; exact ⟨_, rfl, M, x, y, z, rfl, o.rd, l, pp⟩)
            · refine step_callv rfl 17 _ _ rfl (by kernel_rfl) fun a u hb hw hf => ?_
              obtain ⟨x1, y1, z1, e84, R1, l1, -⟩ := hf 1 84 (by kernel_rfl)
              have e87 : a.tmps.getD 87 undef = .int .i64 (ct + (b : Int)) := hf 4 87 (by kernel_rfl)
              obtain ⟨x2, y2, z2, e89, R2, l2, -⟩ := hf 6 89 (by kernel_rfl)
              obtain ⟨x3, y3, z3, e94, R3, l3, -⟩ := hf 11 94 (by kernel_rfl)
              show Calls Try.prog 17 #[a.tmps.getD 84 undef, a.tmps.getD 87 undef, a.tmps.getD 89 undef, a.tmps.getD 94 undef] u _
              rw [e84, e87, e89, e94]
              have h := IX u z1 x1 y1 R1 l1 (ct + (b : Int)) z2 x2 y2 R2 l2 z3 x3 y3 (ds.drop q) R3 (by rw [TL]; omega)
              rw [HSP.out] at h
              exact h.mono (by rintro e w' ⟨⟨x, y, z, rfl, o, pp, l, m⟩, M⟩; exact ⟨_, rfl, M, x, y, z, rfl, o.rd, l, pp⟩)
            · refine step_pure rfl fun a u hb hw hf => ?_
              obtain ⟨x4, y4, z4, e95, R4, l4, p4'⟩ := hf 12 95 (by kernel_rfl)
              have e95' : a.tmps[95]?.getD undef = .slice x4 (R.drop q).length y4 := gdv e95
              exact ⟨.slice x4 (R.drop q).length y4, by simp [go_sem, e95'], x4, y4, z4, rfl, R4, l4, p4'⟩
          intro a v4 hb K4 hF
          obtain ⟨x4, y4, z4, e12, t4, l4, -⟩ := hF 13 12 (by kernel_rfl)
          obtain ⟨vs', hvs'⟩ : ∃ vs : Nat → Value, ∀ d, a.tmps.getD d undef = vs d := ⟨_, fun _ => rfl⟩
          have ea := puts_of (md := .any) (n := 109) (k := 14) (by kernel_rfl) rfl hb vs' hvs'
          have v12 : vs' 12 = .slice x4 (R.drop q).length y4 := (hvs' 12).symm.trans e12
          rw [ea]
          clear ea hvs' hF hb e12
          simp only [puts, v12, Act.put, List.setIfInBounds_toArray, List.set_cons_succ, List.set_cons_zero]
          have SM := lwSame_same v4 z4 g8 x4 (some ⟨g8, og + q, none⟩) y4 (c8 - q) (R.drop q) t4 (rT.up K4)
          rw [LR.out] at SM ⊢
          clear LT
          go_wp2_with fail
          refine SM.mono ?_
          rintro e v5 ⟨rfl, rfl⟩
          go_wp2
          go_ret
          exact ⟨rfl, nxt N12 K4⟩
        · have qe : q = ds.length := by omega
          obtain ⟨qq, hqq⟩ : ∃ x, x = if e3 = q then 0 else q := ⟨_, rfl⟩
          have c3 : (q : Int) ≤ (ds.length : Int) := by omega
          have z00 : (0 : Int) ≤ (q : Int) := by omega
          have f4 : decide ((q : Int) = (ds.length : Int)) = true := decide_eq_true (by omega)
          have wq : IntKind.i64.wrap (64 * (b : Int)) = (q : Int) := by rw [IntKind.wrap_i64]; omega
          have wc : IntKind.i64.wrap (ct + (b : Int)) = ct + (b : Int) := by rw [IntKind.wrap_i64]; omega
          have TQ : Hid (ds.length - q = ([] : List Int).length) := by show _ = _; simp; omega
          clear hq SP1
          have QE := hide qe
          clear qe
          go_wp2_with fail
          refine region_end 14 (fun i => [Fact.eq (.slice b1 ks.length e1), RO ks, Fact.eq (.int .i64 ct), Fact.eq (.int .i64 (b : Int)), Fact.eq (.int .i64 (ct + (b : Int))), Fact.eq (.slice b2 ns.length e2), RO ns, Fact.eq (.slice (some ⟨h3, od, none⟩) ds.length e3), Fact.eq (.int .i64 (b : Int)), Fact.eq (.int .i64 (q : Int)), Fact.eq (.slice (some ⟨h3, od + qq, none⟩) (ds.length - q) (e3 - q)), RO [], RO (sxA ks (ct + (b : Int)) ns []), RO (sxA ks (ct + (b : Int)) ns [])].getD i Fact.no) (by kernel_rfl) (by kernel_rfl) rfl ?_ ?_
          · intro i hi
            obtain rfl | rfl | rfl | rfl | rfl | rfl | rfl | rfl | rfl | rfl | rfl | rfl | rfl | rfl : i = 0 ∨ i = 1 ∨ i = 2 ∨ i = 3 ∨ i = 4 ∨ i = 5 ∨ i = 6 ∨ i = 7 ∨ i = 8 ∨ i = 9 ∨ i = 10 ∨ i = 11 ∨ i = 12 ∨ i = 13 := by omega
            · refine step_pure rfl fun a u hb hw hf => ?_
              have e5 : a.tmps[5]?.getD undef = .slice b1 ks.length e1 := gdv (hb.2.2 5 (by kernel_rfl))
              exact ⟨.slice b1 ks.length e1, by simp [go_sem, e5], rfl⟩
            · refine step_callv rfl 19 _ _ rfl (by kernel_rfl) fun a u hb hw hf => ?_
              have e83 : a.tmps.getD 83 undef = .slice b1 ks.length e1 := hf 0 83 (by kernel_rfl)
              show Calls Try.prog 19 #[a.tmps.getD 83 undef] u _
              rw [e83]
              exact (lwCopy_any u h1 b1 e1 ks (k12.up hw) p1 (by omega)).mono (by rintro e w' ⟨⟨x, y, z, rfl, o, pp, l, m⟩, M⟩; exact ⟨_, rfl, M, x, y, z, rfl, o.rd, l, pp⟩)
            · refine step_pure rfl fun a u hb hw hf => ?_
              have e6 : a.tmps[6]?.getD undef = .int .i64 ct := gdv (hb.2.2 6 (by kernel_rfl))
              exact ⟨.int .i64 ct, by simp [go_sem, e6], rfl⟩
            · refine step_pure rfl fun a u hb hw hf => ?_
              have e11 : a.tmps[11]?.getD undef = .int .i64 (b : Int) := gdv (hb.2.2 11 (by kernel_rfl))
              exact ⟨.int .i64 (b : Int), by simp [go_sem, e11], rfl⟩
            · refine step_pure rfl fun a u hb hw hf => ?_
              have e85 : a.tmps[85]?.getD undef = .int .i64 ct := gdv (hf 2 85 (by kernel_rfl))
              have e86 : a.tmps[86]?.getD undef = .int .i64 (b : Int) := gdv (hf 3 86 (by kernel_rfl))
              exact ⟨.int .i64 (ct + (b : Int)), by simp [go_sem, e85, e86, wc], rfl⟩
            · refine step_pure rfl fun a u hb hw hf => ?_
              have e7 : a.tmps[7]?.getD undef = .slice b2 ns.length e2 := gdv (hb.2.2 7 (by kernel_rfl))
              exact ⟨.slice b2 ns.length e2, by simp [go_sem, e7], rfl⟩
            · refine step_callv rfl 19 _ _ rfl (by kernel_rfl) fun a u hb hw hf => ?_
              have e88 : a.tmps.getD 88 undef = .slice b2 ns.length e2 := hf 5 88 (by kernel_rfl)
              show Calls Try.prog 19 #[a.tmps.getD 88 undef] u _
              rw [e88]
              exact (lwCopy_any u h2 b2 e2 ns (m12.up hw) p2 (by omega)).mono (by rintro e w' ⟨⟨x, y, z, rfl, o, pp, l, m⟩, M⟩; exact ⟨_, rfl, M, x, y, z, rfl, o.rd, l, pp⟩)
            · refine step_pure rfl fun a u hb hw hf => ?_
              have e8 : a.tmps[8]?.getD undef = .slice (some ⟨h3, od, none⟩) ds.length e3 := gdv (hb.2.2 8 (by kernel_rfl))
              exact ⟨.slice (some ⟨h3, od, none⟩) ds.length e3, by simp [go_sem, e8], rfl⟩
            · refine step_pure rfl fun a u hb hw hf => ?_
              have e11 : a.tmps[11]?.getD undef = .int .i64 (b : Int) := gdv (hb.2.2 11 (by kernel_rfl))
              exact ⟨.int .i64 (b : Int), by simp [go_sem, e11], rfl⟩
            · refine step_pure rfl fun a u hb hw hf => ?_
              have e91 : a.tmps[91]?.getD undef = .int .i64 (b : Int) := gdv (hf 8 91 (by kernel_rfl))
              exact ⟨.int .i64 (q : Int), by simp [go_sem, e91, wq], rfl⟩
            · refine step_pure rfl fun a u hb hw hf => ?_
              have e90 : a.tmps[90]?.getD undef = .slice (some ⟨h3, od, none⟩) ds.length e3 := gdv (hf 7 90 (by kernel_rfl))
              have e92 : a.tmps[92]?.getD undef = .int .i64 (q : Int) := gdv (hf 9 92 (by kernel_rfl))
              exact ⟨.slice (some ⟨h3, od + qq, none⟩) (ds.length - q) (e3 - q), by simp [go_sem, e90, e92, c3, z00]; rw [hqq]; split <;> first | rfl | omega | simp_all, rfl⟩
            · refine step_callv rfl 19 _ _ rfl (by kernel_rfl) fun a u hb hw hf => ?_
              have e93 : a.tmps.getD 93 undef = .slice (some ⟨h3, od + qq, none⟩) (ds.length - q) (e3 - q) := hf 10 93 (by kernel_rfl)
              show Calls Try.prog 19 #[a.tmps.getD 93 undef] u _
              rw [e93, TQ.out]
              exact (lwCopy_any u h3 (some ⟨h3, od + qq, none⟩) (e3 - q) [] (Rd.nil _ _ _ _) (by simp) (by simp)).mono (by rintro e w' ⟨⟨x, y, z, rfl, o, pp, l, m⟩, M⟩; exact ⟨_, rfl, M, x, y, z, rfl, o.rd, l, pp⟩)
            · refine step_callv rfl 17 _ _ rfl (by kernel_rfl) fun a u hb hw hf => ?_
              obtain ⟨x1, y1, z1, e84, R1, l1, -⟩ := hf 1 84 (by kernel_rfl)
              have e87 : a.tmps.getD 87 undef = .int .i64 (ct + (b : Int)) := hf 4 87 (by kernel_rfl)
              obtain ⟨x2, y2, z2, e89, R2, l2, -⟩ := hf 6 89 (by kernel_rfl)
              obtain ⟨x3, y3, z3, e94, R3, l3, -⟩ := hf 11 94 (by kernel_rfl)
              show Calls Try.prog 17 #[a.tmps.getD 84 undef, a.tmps.getD 87 undef, a.tmps.getD 89 undef, a.tmps.getD 94 undef] u _
              rw [e84, e87, e89, e94]
              have h := IX u z1 x1 y1 R1 l1 (ct + (b : Int)) z2 x2 y2 R2 l2 z3 x3 y3 [] R3 (by simp)
              exact h.mono (by rintro e w' ⟨⟨x, y, z, rfl, o, pp, l, m⟩, M⟩; exact ⟨_, rfl, M, x, y, z, rfl, o.rd, l, pp⟩)
            · refine step_pure rfl fun a u hb hw hf => ?_
              obtain ⟨x4, y4, z4, e95, R4, l4, p4'⟩ := hf 12 95 (by kernel_rfl)
              have e95' : a.tmps[95]?.getD undef = .slice x4 (sxA ks (ct + (b : Int)) ns []).length y4 := gdv e95
              exact ⟨.slice x4 (sxA ks (ct + (b : Int)) ns []).length y4, by simp [go_sem, e95'], x4, y4, z4, rfl, R4, l4, p4'⟩
          intro a v4 hb K4 hF
          obtain ⟨x4, y4, z4, e12, t4, l4, -⟩ := hF 13 12 (by kernel_rfl)
          obtain ⟨vs', hvs'⟩ : ∃ vs : Nat → Value, ∀ d, a.tmps.getD d undef = vs d := ⟨_, fun _ => rfl⟩
          have ea := puts_of (md := .any) (n := 109) (k := 14) (by kernel_rfl) rfl hb vs' hvs'
          have v12 : vs' 12 = .slice x4 (sxA ks (ct + (b : Int)) ns []).length y4 := (hvs' 12).symm.trans e12
          rw [ea]
          clear ea hvs' hF hb e12
          simp only [puts, v12, Act.put, List.setIfInBounds_toArray, List.set_cons_succ, List.set_cons_zero]
          go_wp2
          go_ret
          exact ⟨rfl, nxt N12 K4⟩
      · have LA := fun W h => lw32_any W h1 b1 e1 ks h
        have LB := fun W h => lw32_any W h2 b2 e2 ns h
        have T32 := hide (to32_len ks)
        have T33 := hide (to32_len ns)
        have Y32 := to32_byt kb
        have Y33 := to32_byt nb
        generalize to32 ks = K3 at *
        generalize to32 ns = M3 at *
        have T12 : Hid ((M3.take 12).length = 12) := by show _ = _; rw [List.length_take, T33.out]; rfl
        have Y12 := byt_take Y33 12
        have KB := fun W (hk : Rd W w6.heap.size (some ⟨w6.heap.size, 0, none⟩) .u8 K3) s (hs : Rd W s (some ⟨s, 0, none⟩) .u8 (M3.take 12)) => implBlock_any W w6.heap.size (some ⟨w6.heap.size, 0, none⟩) 32 K3 hk Y32 (by rw [T32.out]; exact Nat.le_refl _) 1 s (some ⟨s, 0, none⟩) 32 (M3.take 12) hs Y12 (by rw [T12.out]; decide)
        have FB : Hid ((sbA K3 1 (M3.take 12)).length = 64) := by
          show _ = _
          unfold sbA
          rw [if_pos (by unfold fitB; rw [T32.out, T12.out]; decide)]
          exact stB_len _
        rw [T32.out, T12.out] at KB
        generalize sbA K3 1 (M3.take 12) = FF at *
        have KT : ∀ W s, Blk W s .u8 M3 → Rd W s (some ⟨s, 0, none⟩) .u8 (M3.take 12) := fun W s h => rd_take h.own0.rd (by rw [T33.out]; decide)
        generalize M3.take 12 = M12 at *
        by_cases hE : R.length = ds.length
        · have d0 : ds.length = 0 := by omega
          have eI : (R.length : Int) = (ds.length : Int) := by omega
          have tB : decide ((ds.length : Int) = 0) = true := decide_eq_true (by omega)
          have tE : ((ds.length : Int) == 0) = true := beq_iff_eq.2 (by omega)
          have D0 := hide d0
          clear hA hE d0 ST SP SL
          go_wp2_with fail
          refine (LA w6 k6).mono ?_
          rintro e w7 ⟨rfl, B7, n7⟩
          go_wp2_with fail
          refine (LB w7 (m6.up n7)).mono ?_
          rintro e w8 ⟨rfl, B8, n8⟩
          have KC := hide (KB w8 (B7.own0.rd.up n8) w7.heap.size (KT w8 w7.heap.size B8))
          clear LA LB KB KT
          go_wp2_with fail
          refine KC.out.mono ?_
          rintro e w9 ⟨⟨x9, y9, z9, rfl, t9, s9, l9, m9⟩, n9⟩
          rw [FB.out]
          go_wp2
          go_ret
          exact ⟨rfl, nxt (nxt (nxt N6 n7) n8) n9⟩
        · have eI : ¬ ((R.length : Int) = (ds.length : Int)) := by omega
          have tB : decide ((R.length : Int) = (ds.length : Int)) = false := decide_eq_false eI
          clear hA hE ST SP SL
          go_wp2_with fail
          refine (LA w6 k6).mono ?_
          rintro e w7 ⟨rfl, B7, n7⟩
          go_wp2_with fail
          refine (LB w7 (m6.up n7)).mono ?_
          rintro e w8 ⟨rfl, B8, n8⟩
          have KC := hide (KB w8 (B7.own0.rd.up n8) w7.heap.size (KT w8 w7.heap.size B8))
          clear LA LB KB KT
          go_wp2_with fail
          refine KC.out.mono ?_
          rintro e w9 ⟨⟨x9, y9, z9, rfl, t9, s9, l9, m9⟩, n9⟩
          rw [FB.out]
          go_wp2
          go_ret
          exact ⟨rfl, nxt (nxt (nxt N6 n7) n8) n9⟩
    · have u1 : decide ((1048576 : Int) < (X1.length : Int)) = true := by simp; omega
      go_enter Try.func5, Try.ntmps5
      go_wp2
      go_ret
      exact ⟨rfl, Below.refl _ _⟩
  · have u0 : decide ((1048576 : Int) < (X0.length : Int)) = true := by simp; omega
    go_enter Try.func5, Try.ntmps5
    go_wp2
    go_ret
    exact ⟨rfl, Below.refl _ _⟩
end Go.Proofs.Ytgkplbopelamkaa
