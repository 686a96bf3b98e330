/-
  The law of quotients taken back.
-/
import Derived.Test.YthdjopkmlcdoeaaDrawD
import Derived.Test.YthdjopkmlcdoeaaSlot
import Derived.Test.YthdjopkmlcdoeaaLTrim
import Derived.Test.YthdjopkmlcdoeaaThr
import Derived.Test.YthdjopkmlcdoeaaMulI
import Derived.Deep.RegionWith
import Derived.Deep.DeepCutAuto
namespace Go.Proofs.Ythdjopkmlcdoeaa
open Go.RowKit

theorem canon_le {xs c : List Int} (hx : Byt xs) (hc : Canon c (bval xs)) : c.length ≤ xs.length := by
  by_cases h : xs.length < c.length
  · have := canon_lt hx hc h
    have := hc.2.1
    omega
  · omega

/-- What the law holds on to: the struct of quotient and rest, and four rows. -/
structure KB (p g1 g2 g3 g4 : Nat) (a1 a2 a3 a4 : Option Addr) (c1 c2 c3 c4 : Nat) (x1 x2 x3 x4 : List Int) (w0 w : World) : Prop where
  nb : Below w0.heap.size w0 w
  t : Three w p (.bool true) (.slice a3 x3.length c3) (.slice a4 x4.length c4)
  r1 : Row w g1 a1 c1 x1
  r2 : Row w g2 a2 c2 x2
  r3 : Row w g3 a3 c3 x3
  r4 : Row w g4 a4 c4 x4
theorem KB.up {p g1 g2 g3 g4 : Nat} {a1 a2 a3 a4 : Option Addr} {c1 c2 c3 c4 : Nat} {x1 x2 x3 x4 : List Int} {w0 w w' : World} (h : KB p g1 g2 g3 g4 a1 a2 a3 a4 c1 c2 c3 c4 x1 x2 x3 x4 w0 w) (n : Below w.heap.size w w') : KB p g1 g2 g3 g4 a1 a2 a3 a4 c1 c2 c3 c4 x1 x2 x3 x4 w0 w' :=
  ⟨nxt h.nb n, h.t.up n, h.r1.up n, h.r2.up n, h.r3.up n, h.r4.up n⟩

/-- .. and two structs more, the second's row. -/
structure KE (p0 g1 g2 g3 g4 : Nat) (a1 a2 a3 a4 : Option Addr) (c1 c2 c3 c4 : Nat) (x1 x2 x3 x4 : List Int) (w0 : World) (p q g5 : Nat) (a5 a6 : Option Addr) (c5 c6 : Nat) (x5 x6 : List Int) (w : World) : Prop where
  k : KB p0 g1 g2 g3 g4 a1 a2 a3 a4 c1 c2 c3 c4 x1 x2 x3 x4 w0 w
  t1 : Two w p (.bool true) (.slice a5 x5.length c5)
  t2 : Two w q (.bool true) (.slice a6 x6.length c6)
  r : Row w g5 a6 c6 x6
theorem KE.up {p0 g1 g2 g3 g4 : Nat} {a1 a2 a3 a4 : Option Addr} {c1 c2 c3 c4 : Nat} {x1 x2 x3 x4 : List Int} {w0 : World} {p q g5 : Nat} {a5 a6 : Option Addr} {c5 c6 : Nat} {x5 x6 : List Int} {w w' : World} (h : KE p0 g1 g2 g3 g4 a1 a2 a3 a4 c1 c2 c3 c4 x1 x2 x3 x4 w0 p q g5 a5 a6 c5 c6 x5 x6 w) (n : Below w.heap.size w w') : KE p0 g1 g2 g3 g4 a1 a2 a3 a4 c1 c2 c3 c4 x1 x2 x3 x4 w0 p q g5 a5 a6 c5 c6 x5 x6 w' :=
  ⟨h.k.up n, h.t1.up n, h.t2.up n, h.r.up n⟩

set_option maxHeartbeats 4000000 in
theorem divideBack_law (w : World) (g : Nat) (a : Option Addr) (ca : Nat) (code : List Int) (ha : Rd w g a .u8 code) (hb : Byt code) :
    Calls Try.prog 12 #[.slice a code.length ca] w fun e w' => e = .returned (.bool true) ∧ Below w.heap.size w w' := by
  by_cases h1 : code.length ≤ 1048576
  · have t1 : decide ((1048576 : Int) < (code.length : Int)) = false := by simp; omega
    go_enter Try.func12, Try.ntmps12
    go_wp2_with fail
    refine (drawNumDivide_any w g a ca code ha hb h1).mono ?_
    rintro e w1 ⟨xs, us, a1, c1, g1, a2, c2, g2, rfl, ⟨hx, lx⟩, ⟨hu, lu⟩, R1, R2, n1⟩
    clear t1
    go_wp2_with fail
    refine (lwCopy_any w1 _ _ c1 xs R1.1.rd R1.2.1 (by omega)).mono ?_
    rintro e w2 ⟨⟨a3, c3, g3, rfl, o3, _, _, _⟩, n2⟩
    go_wp2_with fail
    refine (lwCopy_any w2 _ _ c2 us (R2.up n2).1.rd R2.2.1 (by omega)).mono ?_
    rintro e w3 ⟨⟨a4, c4, g4, rfl, o4, _, _, _⟩, n3⟩
    go_wp2_with fail
    refine (implNumDivide_any w3 _ _ _ _ c3 c4 xs us (o3.up n3).rd o4.rd hx hu).mono ?_
    rintro e w4 ⟨t, qs, rs, Y, ⟨a5, c5, g5, a6, c6, g6, rfl, ⟨o5, p5, q5, _⟩, ⟨o6, p6, q6, _⟩, _⟩, n4⟩
    have n14 := nxt (nxt n2 n3) n4
    have N4 := nxt n1 n14
    have R1b := R1.up n14
    have R2b := R2.up n14
    have R3 : Row w4 g5 a5 c5 qs := ⟨o5, p5, q5⟩
    have R4 : Row w4 g6 a6 c6 rs := ⟨o6, p6, q6⟩
    have TD := Three.new w4 (.bool t) (.slice a5 qs.length c5) (.slice a6 rs.length c6) 36
    have nD : Below w4.heap.size w4 (w4.alloc (.cells #[.bool t, .slice a5 qs.length c5, .slice a6 rs.length c6] 36)) := (Below.refl _ _).alloc (Nat.le_refl _) _
    clear R1 R2 n1 n2 n3 n4 n14 o3 o4 o5 p5 q5 o6 p6 q6
    by_cases h2 : xs.length ≤ 128
    · have t2 : decide ((128 : Int) < (xs.length : Int)) = false := decide_eq_false (by omega)
      by_cases h3 : us.length ≤ 128
      · have t3 : decide ((128 : Int) < (us.length : Int)) = false := decide_eq_false (by omega)
        go_wp2_with fail
        generalize w4.alloc (.cells #[.bool t, .slice a5 qs.length c5, .slice a6 rs.length c6] 36) = w5 at *
        have N5 := nxt N4 nD
        have R1c := R1b.up nD
        have R2c := R2b.up nD
        have R3c := R3.up nD
        have R4c := R4.up nD
        clear R1b R2b R3 R4 nD N4
        refine (specNumTrim_any w5 _ _ c2 us R2c.1.rd hu R2c.2.1 R2c.2.2 (by omega)).mono ?_
        rintro e w6 ⟨cs, CS, ⟨aS, cS, gS, rfl, oS, _, _, _⟩, n6⟩
        have CU := CS.1 h3
        have N6 := nxt N5 n6
        have TD6 := TD.up n6
        clear CS oS
        by_cases h4 : 0 < bval us
        · have t4 : ((cs.length : Int) == 0) = false := beq_eq_false_iff_ne.2 (by have := CU.pos h4; omega)
          obtain ⟨rfl, CQ, CR⟩ : t = true ∧ Canon qs (bval xs / bval us) ∧ Canon rs (bval xs % bval us) := by
            rcases Y with ⟨_, h⟩ | ⟨h, _⟩
            · exact h
            · exact absurd ⟨h2, h3, h4⟩ h
          have K6 : KB w4.heap.size g1 g2 g5 g6 a1 a2 a5 a6 c1 c2 c5 c6 xs us qs rs w w6 := ⟨N6, TD6, R1c.up n6, R2c.up n6, R3c.up n6, R4c.up n6⟩
          have rlt : bval rs < bval us := by rw [CR.2.1]; exact Int.emod_lt_of_pos _ h4
          have rl : rs.length ≤ us.length := by
            by_cases k : us.length < rs.length
            · have := canon_lt hu CR k
              omega
            · omega
          have KD := K6.up ((Below.refl w6.heap.size w6).drew)
          have HC : Hid (∀ W, KB w4.heap.size g1 g2 g5 g6 a1 a2 a5 a6 c1 c2 c5 c6 xs us qs rs w W → Calls Try.prog 41 #[.slice a2 us.length c2] W fun e w' => ∃ aT cT gT, e = .returned (.slice aT us.length cT) ∧ Own w' gT aT .u8 us ∧ KB w4.heap.size g1 g2 g5 g6 a1 a2 a5 a6 c1 c2 c5 c6 xs us qs rs w w' ∧ Below W.heap.size W w') := by
            intro W h
            refine (lwCopy_any W _ _ c2 us h.r2.1.rd h.r2.2.1 (by omega)).mono ?_
            rintro e w' ⟨⟨aT, cT, gT, rfl, oT, _, _, _⟩, nT⟩
            exact ⟨aT, cT, gT, rfl, oT, h.up nT, nT⟩
          have HN : Hid (∀ W aT cT, KB w4.heap.size g1 g2 g5 g6 a1 a2 a5 a6 c1 c2 c5 c6 xs us qs rs w W → (∃ gT, Own W gT aT .u8 us) → Calls Try.prog 16 #[.slice a6 rs.length c6, .slice aT us.length cT] W fun e w' => e = .returned (.int .i64 (-1)) ∧ KB w4.heap.size g1 g2 g5 g6 a1 a2 a5 a6 c1 c2 c5 c6 xs us qs rs w w' ∧ Below W.heap.size W w') := by
            rintro W aT cT h ⟨gT, o⟩
            refine (implNumCompare_any W _ _ _ _ c6 cT rs us h.r4.1.rd o.rd CR.1 hu).mono ?_
            rintro e w' ⟨rfl, nT⟩
            refine ⟨?_, h.up nT, nT⟩
            unfold cmpN
            rw [if_pos ⟨by omega, h3⟩, sg_lt rlt]
          have xeq : bval qs * bval us + bval rs = bval xs := by rw [CQ.2.1, CR.2.1, Int.emod_def, Int.mul_comm]; omega
          have r0 := bval_nonneg CR.1
          have HM : Hid (∀ W aT cT, KB w4.heap.size g1 g2 g5 g6 a1 a2 a5 a6 c1 c2 c5 c6 xs us qs rs w W → (∃ gT, Own W gT aT .u8 us) → Calls Try.prog 30 #[.slice a5 qs.length c5, .slice aT us.length cT] W fun e w' => ∃ ps aP cP gP, e = .returned (.agg #[.bool true, .slice aP ps.length cP]) ∧ (Row w' gP aP cP ps ∧ W.heap.size ≤ gP) ∧ Canon ps (bval qs * bval us) ∧ ps.length ≤ 128 ∧ KB w4.heap.size g1 g2 g5 g6 a1 a2 a5 a6 c1 c2 c5 c6 xs us qs rs w w' ∧ Below W.heap.size W w') := by
            rintro W aT cT h ⟨gT, o⟩
            refine (implNumMul_any W _ _ _ _ c5 cT qs us h.r3.1.rd o.rd CQ.1 hu).mono ?_
            rintro e w' ⟨t, zs, Z, ⟨aP, cP, gP, rfl, oP, pP, qP, rP⟩, nT⟩
            rcases Z with ⟨_, c, hc, h'⟩ | ⟨h', _⟩
            · have cl : c.length ≤ xs.length := by
                by_cases k : xs.length < c.length
                · have := canon_lt hx hc k
                  have := hc.2.1
                  omega
                · omega
              rcases h' with ⟨h', rfl, rfl⟩ | ⟨h', _⟩
              · exact ⟨zs, aP, cP, gP, rfl, ⟨⟨oP, pP, qP⟩, rP⟩, hc, h', h.up nT, nT⟩
              · omega
            · refine absurd ⟨?_, h3⟩ h'
              by_cases k : xs.length < qs.length
              · have := canon_lt hx CQ k
                have := CQ.2.1
                have := Int.ediv_le_self (bval us) (bval_nonneg hx)
                omega
              · omega
          have HU : Hid (∀ W W', KB w4.heap.size g1 g2 g5 g6 a1 a2 a5 a6 c1 c2 c5 c6 xs us qs rs w W → Below W.heap.size W W' → KB w4.heap.size g1 g2 g5 g6 a1 a2 a5 a6 c1 c2 c5 c6 xs us qs rs w W') := fun W W' h n => h.up n
          have HA : Hid (∀ W, KB w4.heap.size g1 g2 g5 g6 a1 a2 a5 a6 c1 c2 c5 c6 xs us qs rs w W → KB w4.heap.size g1 g2 g5 g6 a1 a2 a5 a6 c1 c2 c5 c6 xs us qs rs w (W.alloc (.cells #[.bool false, .slice none 0 0] 31))) := fun W h => h.up ((Below.refl _ _).alloc (Nat.le_refl _) _)
          have XEQ := hide xeq
          have HCR := hide CR
          have HCQ := hide CQ
          obtain ⟨KP, hKP⟩ : ∃ KP : World → Prop, KP = KB w4.heap.size g1 g2 g5 g6 a1 a2 a5 a6 c1 c2 c5 c6 xs us qs rs w := ⟨_, rfl⟩
          have HF : Hid (∀ W, KP W → W.cell? ⟨w4.heap.size, 0, none⟩ = some (.bool true) ∧ W.cell? ⟨w4.heap.size, 1, none⟩ = some (.slice a5 qs.length c5) ∧ W.cell? ⟨w4.heap.size, 2, none⟩ = some (.slice a6 rs.length c6)) := by
            intro W h
            rw [hKP] at h
            exact ⟨h.t.c0, h.t.c1, h.t.c2⟩
          obtain ⟨k1, k2, k3, _, _, _⟩ := K6.t
          have HKP := hide hKP
          rw [← hKP] at HC HN KD HM HA HU
          clear K6 TD6 TD N5 N6 n6 R1c R2c R3c R4c Y hKP CU CQ CR lx lu xeq r0
          go_upto_region 7 with fail
          go_cut [48] (fun b wc => b = .bool false ∧ KP wc)
          case first =>
            go_region_with (first
              | (go_at_call 41; refine ((unhide HC) _ ?_).mono ?_; (first | exact KD | assumption); rintro e w' ⟨aT, cT, gT, rfl, oT, K', n'⟩; obtain ⟨m1, m2, m3⟩ := HF.out _ K')
              | (go_at_call 16; refine ((unhide HN) _ _ _ ?_ ?_).mono ?_; assumption; exact ⟨_, by assumption⟩; rintro e w' ⟨rfl, K', n'⟩))
            all_goals
              go_wp2_with fail
              go_meet
              exact ⟨rfl, by assumption⟩
          case rest =>
            obtain ⟨rfl, K⟩ := hcut
            have KD := by
              have := HKP.out
              rw [this] at K
              have h := K.up ((Below.refl wc.heap.size wc).drew)
              rw [← this] at h
              exact h
            obtain ⟨k1, k2, k3⟩ := HF.out _ K
            have k4 : w4.heap.size < wc.heap.size := block_lt_of_cell k1
            clear HN t2 t3 t4
            go_upto_region 9 with fail
            go_cut [6] (fun v wc => StrAt KP (fun ps => Canon ps (bval qs * bval us) ∧ ps.length ≤ 128) v wc)
            case first =>
              go_region_with (first
                | (go_at_call 41; refine ((unhide HC) _ ?_).mono ?_; (first | exact KD | exact (unhide HA) _ KD); rintro e w3' ⟨a3', c3', g3', rfl, o3', K3', n3'⟩; obtain ⟨m1, m2, m3⟩ := HF.out _ K3'; have m4 := block_lt_of_cell m1; (try (have T3' : Two w3' wc.heap.size (.bool false) (.slice none 0 0) := (Two.new wc.drew (.bool false) (.slice none 0 0) 31).up n3')))
                | (go_at_call 30; refine ((unhide HM) _ _ _ ?_ ?_).mono ?_; (first | exact K3' | exact (unhide HA) _ K3'); (first | exact ⟨_, o3'⟩ | exact ⟨_, o3'.up ((Below.refl _ _).alloc (Nat.le_refl _) _)⟩); rintro e w9' ⟨ps, aP, cP, gP, rfl, RP, CP, lP, K9', n9'⟩; (try (have T9' := T3'.up n9'; have y1 := T9'.c0; have y2 := T9'.c1; have y3 := T9'.f0; have y4 := T9'.f1)); (try (have T9' := (Two.new w3' (.bool false) (.slice none 0 0) 31).up n9'; have y1 := T9'.c0; have y2 := T9'.c1; have y3 := T9'.f0; have y4 := T9'.f1))))
              all_goals
                go_wp2_with fail
                go_meet
                first
                  | exact StrAt.last (unhide HU) K9' RP.1 ⟨CP, lP⟩
                  | exact StrAt.early (unhide HU) K3' (nxt (bl_alloc _ _ _ _) n9') T9' RP.1 (by have := RP.2; rw [sz_alloc] at this; omega) ⟨CP, lP⟩
                  | exact StrAt.early (W := wc) (unhide HU) K (nxt (nxt (((Below.refl _ _).drew).alloc (Nat.le_refl _) _) n3') n9') T9' RP.1 (by have := RP.2; have h : (wc.alloc (.cells #[.bool false, .slice none 0 0] 31)).heap.size ≤ w3'.heap.size := n3'.size; rw [sz_alloc] at h; omega) ⟨CP, lP⟩
            case rest =>
              obtain ⟨p, ps, aP, cP, gP, rfl, TP, RP, ⟨CP, lP⟩, K⟩ := hcut
              obtain ⟨k1, k2, k3⟩ := HF.out _ K
              have K0 := K
              rw [HKP.out] at K0
              have f1 := TP.c1
              clear KD HC HM HA
              go_wp2_with fail
              refine (implNumAdd_any wc gP g6 aP a6 cP c6 ps rs RP.1.rd K0.r4.1.rd CP.1 HCR.out.1).mono ?_
              rintro e w7 ⟨ts, ss, Z, ⟨aS', cS', gS', rfl, oS', pS', qS', _⟩, n7⟩
              obtain ⟨rfl, CS⟩ : ts = true ∧ Canon ss (bval xs) := by
                rcases Z with ⟨_, c, hc, h⟩ | ⟨h, _⟩
                · rw [CP.2.1, XEQ.out] at hc
                  have hcl := canon_le hx hc
                  rcases h with ⟨_, rfl, rfl⟩ | ⟨h, _⟩
                  · exact ⟨rfl, hc⟩
                  · omega
                · exact absurd ⟨lP, by omega⟩ h
              have TS := Two.new w7 (.bool true) (.slice aS' ss.length cS') 31
              have al : Below w7.heap.size w7 (w7.alloc (.cells #[.bool true, .slice aS' ss.length cS'] 31)) := (Below.refl _ _).alloc (Nat.le_refl _) _
              have n8 := nxt n7 al
              have KE8 : KE w4.heap.size g1 g2 g5 g6 a1 a2 a5 a6 c1 c2 c5 c6 xs us qs rs w p w7.heap.size gS' aP aS' cP cS' ps ss (w7.alloc (.cells #[.bool true, .slice aS' ss.length cS'] 31)) := ⟨K0.up n8, TP.up n8, TS, (show Row w7 gS' aS' cS' ss from ⟨oS', pS', qS'⟩).up al⟩
              have k1' := KE8.t1.c0
              have k2' := KE8.t2.c0
              have k3' := KE8.t2.c1
              have lx7 : xs.length ≤ 1048576 := by omega
              obtain ⟨KQ, hKQ⟩ : ∃ KQ : World → Prop, KQ = KE w4.heap.size g1 g2 g5 g6 a1 a2 a5 a6 c1 c2 c5 c6 xs us qs rs w p w7.heap.size gS' aP aS' cP cS' ps ss := ⟨_, rfl⟩
              clear TP RP K K0 n7 n8 al TS oS' pS' qS' k1 k2 k3 f1 Z CP HCR HCQ XEQ HF HU
              go_wp2_with fail
              generalize w7.alloc (.cells #[.bool true, .slice aS' ss.length cS'] 31) = w8 at *
              have KD := KE8.up ((Below.refl w8.heap.size w8).drew)
              rw [← hKQ] at KD
              have HF : Hid (∀ W, KQ W → Below w.heap.size w W ∧ W.cell? ⟨p, 0, none⟩ = some (.bool true) ∧ W.cell? ⟨w7.heap.size, 0, none⟩ = some (.bool true) ∧ W.cell? ⟨w7.heap.size, 1, none⟩ = some (.slice aS' ss.length cS')) := by
                intro W h
                rw [hKQ] at h
                exact ⟨h.k.nb, h.t1.c0, h.t2.c0, h.t2.c1⟩
              have HC : Hid (∀ W, KQ W → Calls Try.prog 41 #[.slice a1 xs.length c1] W fun e w' => ∃ aT cT gT, e = .returned (.slice aT xs.length cT) ∧ (Own w' gT aT .u8 xs ∧ xs.length ≤ cT) ∧ KQ w') := by
                intro W h
                rw [hKQ] at h ⊢
                refine (lwCopy_any W _ _ c1 xs h.k.r1.1.rd h.k.r1.2.1 lx7).mono ?_
                rintro e w' ⟨⟨aT, cT, gT, rfl, oT, _, qT, _⟩, nT⟩
                exact ⟨aT, cT, gT, rfl, ⟨oT, qT⟩, h.up nT⟩
              have HI : Hid (∀ W aT cT, KQ W → (∃ gT, Own W gT aT .u8 xs ∧ xs.length ≤ cT) → Calls Try.prog 19 #[.slice aT xs.length cT] W fun e w' => ∃ aU cU gU, e = .returned (.slice aU ss.length cU) ∧ Own w' gU aU .u8 ss ∧ KQ w') := by
                rintro W aT cT h ⟨gT, oT, qT⟩
                rw [hKQ] at h ⊢
                refine (implNumTrim_any W _ _ cT xs oT.rd hx qT lx7).mono ?_
                rintro e w' ⟨cs', C', ⟨aU, cU, gU, rfl, oU, _, _, _⟩, nT⟩
                obtain rfl := (C'.1 h2).uniq CS
                exact ⟨aU, cU, gU, rfl, oU, h.up nT⟩
              have HT : Hid (∀ W, KQ W → Calls Try.prog 18 #[.slice a1 xs.length c1] W fun e w' => ∃ aU cU gU, e = .returned (.slice aU ss.length cU) ∧ Own w' gU aU .u8 ss ∧ KQ w') := by
                intro W h
                rw [hKQ] at h ⊢
                refine (specNumTrim_any W _ _ c1 xs h.k.r1.1.rd hx h.k.r1.2.1 h.k.r1.2.2 lx7).mono ?_
                rintro e w' ⟨cs', C', ⟨aU, cU, gU, rfl, oU, _, _, _⟩, nT⟩
                obtain rfl := (C'.1 h2).uniq CS
                exact ⟨aU, cU, gU, rfl, oU, h.up nT⟩
              have HS : Hid (∀ W aT cT, KQ W → (∃ gT, Own W gT aT .u8 ss) → Calls Try.prog 42 #[.slice aS' ss.length cS', .slice aT ss.length cT] W fun e w' => e = .returned (.bool true) ∧ w' = W) := by
                rintro W aT cT h ⟨gT, o⟩
                rw [hKQ] at h
                exact lwSame_same W _ _ _ _ cS' cT ss h.r.1.rd o.rd
              clear KE8 hKQ CS hx hu lx7 ha hb h1 h2 h3 h4 lP rlt rl HKP
              go_region_with (first
                | (go_at_call 41; refine ((unhide HC) _ ?_).mono ?_; (first | exact KD | assumption); rintro e w' ⟨aT, cT, gT, rfl, oT, K'⟩; obtain ⟨nb, m1, m2, m3⟩ := HF.out _ K')
                | (go_at_call 19; refine ((unhide HI) _ _ _ ?_ ?_).mono ?_; (first | exact KD | assumption); exact ⟨_, by assumption⟩; rintro e w' ⟨aT, cT, gT, rfl, oT, K'⟩; obtain ⟨nb, m1, m2, m3⟩ := HF.out _ K')
                | (go_at_call 18; refine ((unhide HT) _ ?_).mono ?_; (first | exact KD | assumption); rintro e w' ⟨aT, cT, gT, rfl, oT, K'⟩; obtain ⟨nb, m1, m2, m3⟩ := HF.out _ K')
                | (go_at_call 42; refine ((unhide HS) _ _ _ ?_ ?_).mono ?_; assumption; exact ⟨_, by assumption⟩; rintro e w' ⟨rfl, rfl⟩))
              all_goals
                go_wp2
                go_ret
                exact ⟨rfl, by assumption⟩
        · have h0 : bval us = 0 := by have := bval_nonneg hu; omega
          rw [h0] at CU
          obtain rfl := CU.nil_of
          obtain ⟨rfl, _⟩ : t = false ∧ True := by
            rcases Y with ⟨h, _⟩ | ⟨_, h, _⟩
            · omega
            · exact ⟨h, trivial⟩
          have k0 := TD6.c0
          clear h0 CU Y
          go_wp2
          go_ret
          exact ⟨rfl, N6⟩
      · have t3 : decide ((128 : Int) < (us.length : Int)) = true := decide_eq_true (by omega)
        obtain ⟨rfl, _⟩ : t = false ∧ True := by
          rcases Y with ⟨h, _⟩ | ⟨_, h, _⟩
          · omega
          · exact ⟨h, trivial⟩
        have k0 := TD.c0
        go_wp2
        go_ret
        exact ⟨rfl, nxt N4 nD⟩
    · have t2 : decide ((128 : Int) < (xs.length : Int)) = true := decide_eq_true (by omega)
      obtain ⟨rfl, _⟩ : t = false ∧ True := by
        rcases Y with ⟨h, _⟩ | ⟨_, h, _⟩
        · omega
        · exact ⟨h, trivial⟩
      have k0 := TD.c0
      go_wp2
      go_ret
      exact ⟨rfl, nxt N4 nD⟩
  · have t1 : decide ((1048576 : Int) < (code.length : Int)) = true := by simp; omega
    go_enter Try.func12, Try.ntmps12
    go_wp2
    go_ret
    exact ⟨rfl, Below.refl _ _⟩
end Go.Proofs.Ythdjopkmlcdoeaa
