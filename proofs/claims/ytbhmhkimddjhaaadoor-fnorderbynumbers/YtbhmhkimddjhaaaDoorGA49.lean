import Derived.Test.YtbhmhkimddjhaaaDoorGA48
import Derived.Deep.RegionHeld3
import Derived.Deep.DeepCutAuto
/-
  The law of the order by numbers.
-/
namespace Go.Proofs.YtbhmhkimddjhaaaDoor
set_option maxRecDepth 100000
open Go.RowKit

theorem lt512 {x y z : Int} (hx : x < 115792089237316195423570985008687907853269984665640564039457584007913129639936) (hy : y < 115792089237316195423570985008687907853269984665640564039457584007913129639936) (hz : z < 115792089237316195423570985008687907853269984665640564039457584007913129639936) (x0 : 0 ≤ x) (y0 : 0 ≤ y) : x * y < 256 ^ 64 ∧ x * y + z < 256 ^ 64 := by
  have h1 : x * y ≤ 115792089237316195423570985008687907853269984665640564039457584007913129639935 * y := Int.mul_le_mul_of_nonneg_right (by omega) y0
  have e : (256 : Int) ^ 64 = 13407807929942597099574024998205846127479365820592393377723561443721764030073546976801874298166903427690031858186486050853753882811946569946433649006084096 := by decide
  rw [e]
  generalize x * y = p at *
  omega
/-- What turned bytes are. -/
def Turned (xs ys : List Int) : Prop := Byt ys ∧ ys.length = xs.length ∧ bval ys = num xs
theorem num_lt32 {xs : List Int} (h : Byt xs) (hl : xs.length = 32) : num xs < 115792089237316195423570985008687907853269984665640564039457584007913129639936 := by
  have e : num xs = wval (wv (fun j => xs.getD j 0) 32) := by rw [wv_sum _ 32 (by omega)]; unfold num; rw [hl]
  rw [e]
  exact (W4.bd (fun j _ => wv_lt h 32 j)).2
theorem num_fill {ss : List Int} (n : Nat) (hl : ss.length ≤ n) : num (fill (dig ss) n) = bval ss := by
  unfold num
  rw [fill_len, ← lo_all ss n hl]
  refine (lo_lsum n (fun i hi => ?_)).symm
  show dig ss i = (fill (dig ss) n).getD i 0
  rw [fill_get _ _ _ hi]
theorem turn_fits {xs zs : List Int} {n : Nat} (h : TurnOf xs (n : Int) zs) (hb : Byt xs) (hx : xs.length ≤ n) (h1 : 1 ≤ n) (h2 : n ≤ 128) : zs = fill (dig xs) n := by
  rcases h with ⟨_, c, hc, h | h⟩ | ⟨h, _⟩
  · rw [h.2]; rfl
  · have := hc.len (Int.lt_of_lt_of_le (bval_lt hb) (p256_le hx))
    omega
  · exact absurd ⟨by omega, by omega, by omega⟩ h
theorem omul_at {xs ys zs : List Int} (h1 : xs.length = 32) (h2 : ys.length = 32) (h3 : zs.length = 32) : omul xs ys zs = fill (byt ((num xs * num ys + num zs) % QQ)) 32 := by
  rw [omul, if_pos ⟨h1, h2, h3⟩]
theorem byt_fillb (v : Int) (n : Nat) : Byt (fill (byt v) n) := byt_fill (fun i => by unfold byt; omega) n

set_option maxHeartbeats 2000000 in
theorem lwTurn32 (w : World) (g c : Nat) (xs : List Int) (B : Blk w g .u8 xs) (hb : Byt xs) (hl : xs.length = 32) :
    Calls Tryd.prog 27 #[.slice (some ⟨g, 0, none⟩) 32 c] w fun r w' => ∃ ys a' c' g', r = .returned (.slice a' ys.length c') ∧ Own w' g' a' .u8 ys ∧ Hid (Turned xs ys) ∧ Below w.heap.size w w' := by
  have h := lwTurn_any w g (some ⟨g, 0, none⟩) c xs B.own0.rd hb (by omega)
  rw [hl] at h
  refine h.mono ?_
  rintro r w' ⟨ys, T, yb, ⟨a', c', g', rfl, o, p, q, z⟩, n⟩
  refine ⟨ys, a', c', g', rfl, o, ⟨yb, ?_, ?_⟩, n⟩
  · rw [T.1, hl]
  · rw [← hl] at T
    exact T.val

theorem lwCopy32 (w : World) (g c : Nat) (xs : List Int) (B : Blk w g .u8 xs) (hl : xs.length = 32) :
    Calls Tryd.prog 25 #[.slice (some ⟨g, 0, none⟩) 32 c] w fun r w' => ∃ a' c' g', r = .returned (.slice a' xs.length c') ∧ Own w' g' a' .u8 xs ∧ Below w.heap.size w w' := by
  have h := lwCopy_any w g (some ⟨g, 0, none⟩) c xs B.own0.rd (by simp) (by omega)
  rw [hl] at h
  refine h.mono ?_
  rintro r w' ⟨⟨a', c', g', he, o, p, q, z⟩, n⟩
  exact ⟨a', c', g', he, o, n⟩
/-- A number that was told good. -/
theorem numOf_good {A : Prop} {v : Int} {t : Bool} {zs : List Int} (h : NumOf A v t zs) (hA : A) (hv : v < 256 ^ 64) : t = true ∧ Canon zs v ∧ zs.length ≤ 64 := by
  rcases h with ⟨_, c, hc, h | h⟩ | ⟨h, _⟩
  · obtain ⟨h1, rfl, rfl⟩ := h
    exact ⟨rfl, hc, hc.len hv⟩
  · have := hc.len hv
    omega
  · exact absurd hA h

set_option maxHeartbeats 8000000 in
theorem orderByNumbers_law (w : World) (g : Nat) (a : Option Addr) (ca : Nat) (code : List Int) (ha : Rd w g a .u8 code) (hb : Byt code) (g' : Nat) (b : Option Addr) (cb : Nat) (more : List Int) (hm : Rd w g' b .u8 more) (hmb : Byt more) (hO : HasO w) :
    Calls Tryd.prog 7 #[.slice a code.length ca, .slice b more.length cb] w fun e w' => e = .returned (.bool true) ∧ Below w.heap.size w w' := by
  by_cases h1 : code.length ≤ 1048576
  · have t1 : decide ((1048576 : Int) < (code.length : Int)) = false := by simp; omega
    by_cases h2 : more.length ≤ 1048576
    · have t2 : decide ((1048576 : Int) < (more.length : Int)) = false := by simp; omega
      go_enter Tryd.func7, Tryd.ntmps7
      go_wp2_with fail
      refine (drawOrderMulAdd_any w g a ca code ha hb h1).mono ?_
      rintro e w1 ⟨a1, a2, a3, c1, c2, c3, g1, g2, g3, x1, x2, x3, rfl, o1, o2, o3, b1, b2, b3, n1⟩
      go_wp2_with fail
      refine (lw32_any w1 g1 a1 c1 x1 o1.rd).mono ?_
      rintro e w2 ⟨rfl, B2, n2⟩
      have o2a := o2.up n2
      have o3a := o3.up n2
      have N2 := nxt n1 n2
      go_wp2_with fail
      refine (lw32_any w2 g2 a2 c2 x2 o2a.rd).mono ?_
      rintro e w3 ⟨rfl, B3, n3⟩
      have o3b := o3a.up n3
      have N3 := nxt N2 n3
      have B2a := B2.up n3
      go_wp2_with fail
      refine (lw32_any w3 g3 a3 c3 x3 o3b.rd).mono ?_
      rintro e w4 ⟨rfl, B4, n4⟩
      have N4 := nxt N3 n4
      have B2b := B2a.up n4
      have B3a := B3.up n4
      have Y1 := to32_byt b1
      have Y2 := to32_byt b2
      have Y3 := to32_byt b3
      have L1 := hide (to32_len x1)
      have L2 := hide (to32_len x2)
      have L3 := hide (to32_len x3)
      generalize to32 x1 = X at *
      generalize to32 x2 = Y at *
      generalize to32 x3 = Z at *
      clear o1 o2 o3 o2a o3a o3b b1 b2 b3 n1 n2 n3 n4 N2 N3 B2 B2a B3 t1 t2
      go_upto_if 38 with fail
      go_cut [8] (fun v wc => ∃ q XX, v = .slice (some ⟨q, 0, none⟩) 32 32 ∧ Blk wc q .u8 XX ∧ Byt XX ∧ Hid (XX.length = 32) ∧ Blk wc w2.heap.size .u8 Y ∧ Blk wc w3.heap.size .u8 Z ∧ Below w.heap.size w wc)
      case first =>
        by_cases h3 : more.length % 3 = 0
        · have t3 : (more.length : Int) % 3 = 0 := by omega
          go_wp2_with fail
          refine (lw32_any w4 g' b cb more (hm.up N4)).mono ?_
          rintro e w5 ⟨rfl, B5, n5⟩
          go_wp2_with fail
          go_meet
          exact ⟨_, _, rfl, B5, to32_byt hmb, to32_len more, B3a.up n5, B4.up n5, nxt N4 n5⟩
        · have t3 : ((more.length : Int) % 3 == 0) = false := by simp; omega
          go_wp2_with fail
          go_meet
          exact ⟨_, _, rfl, B2b, Y1, L1, B3a, B4, N4⟩
      case rest =>
        obtain ⟨qa, XX, rfl, BX, YX, LX, BY, BZ, N5⟩ := hcut
        clear B2b B3a B4 N4 Y1 L1 hb hmb hm ha
        generalize w2.heap.size = qb at *
        generalize w3.heap.size = qc at *
        go_wp2_with fail
        refine (lwCopy32 wc qa 32 XX BX LX.out).mono ?_
        rintro e w6 ⟨a6, c6, g6, rfl, o6, n6⟩
        go_wp2_with fail
        refine (lwCopy32 w6 qb 32 Y (BY.up n6) L2.out).mono ?_
        rintro e w7 ⟨a7, c7, g7, rfl, o7, n7⟩
        have n67 := nxt n6 n7
        go_wp2_with fail
        refine (lwCopy32 w7 qc 32 Z (BZ.up n67) L3.out).mono ?_
        rintro e w8 ⟨a8, c8', g8, rfl, o8, n8⟩
        have n68 := nxt n67 n8
        have N8 := nxt N5 n68
        go_wp2_with fail
        refine (implOrderMulAdd_any w8 g6 g7 g8 a6 a7 a8 c6 c7 c8' XX Y Z ((o6.up n7).up n8).rd (o7.up n8).rd o8.rd YX Y2 Y3 (hO.up N8)).mono ?_
        rintro e w9 ⟨⟨a9, c9, g9, rfl, o9, p9, q9, r9⟩, n9⟩
        have n59 := nxt n68 n9
        have N9 := nxt N5 n59
        have BX9 := BX.up n59
        have BY9 := BY.up n59
        have BZ9 := BZ.up n59
        have HG : Hid (omul XX Y Z = fill (byt ((num XX * num Y + num Z) % QQ)) 32) := omul_at LX.out L2.out L3.out
        have z5 := n59.size
        clear o6 o7 o8 n6 n7 n8 n67 n68 n9 n59 N5 N8 BX BY BZ
        generalize omul XX Y Z = G at *
        go_wp2_with fail
        refine (lwTurn32 w9 qa 32 XX BX9 YX LX.out).mono ?_
        rintro e wa ⟨ua, aa, cca, ga, rfl, oa, Ta, na⟩
        go_wp2_with fail
        refine (lwTurn32 wa qb 32 Y (BY9.up na) Y2 L2.out).mono ?_
        rintro e wb ⟨ub, ab, ccb, gb, rfl, ob, Tb, nb⟩
        have nab := nxt na nb
        have x0 := num_nonneg YX
        have y0 := num_nonneg Y2
        have LT := lt512 (num_lt32 YX LX.out) (num_lt32 Y2 L2.out) (num_lt32 Y3 L3.out) x0 y0
        go_wp2_with fail
        refine (implNumMul_any wb ga gb aa ab cca ccb ua ub (oa.up nb).rd ob.rd Ta.out.1 Tb.out.1).mono ?_
        rintro e wd ⟨t, ps, NP, ⟨ap, cp, gp, rfl, op, pp, qp, rp⟩, nd0⟩
        obtain ⟨rfl, CP, LP⟩ := numOf_good NP ⟨by have := Ta.out.2.1; have := LX.out; omega, by have := Tb.out.2.1; have := L2.out; omega⟩ (by rw [Ta.out.2.2, Tb.out.2.2]; exact LT.1)
        rw [Ta.out.2.2, Tb.out.2.2] at CP
        have nad := nxt nab nd0
        have TP := Two.new wd (.bool true) (.slice ap ps.length cp) 34
        have ne : Below wd.heap.size wd (wd.alloc (.cells #[.bool true, .slice ap ps.length cp] 34)) := (Below.refl _ _).alloc (Nat.le_refl _) _
        have n9e := nxt nad ne
        have N10 := nxt N9 n9e
        have B10 := BZ9.up n9e
        have oG := o9.up n9e
        have oP := op.up ne
        clear NP Ta Tb oa ob op na nb nab nd0 nad ne n9e N9 BX9 BY9 BZ9 o9
        go_upto_region 11 with fail
        generalize wd.alloc (.cells #[.bool true, .slice ap ps.length cp] 34) = wr at *
        generalize wd.heap.size = p1 at *
        have V2 : num XX * num Y + num Z < 256 ^ 64 := LT.2
        have CY : Hid (∀ W, Below wr.heap.size wr W → W.cell? ⟨p1, 1, none⟩ = some (.slice ap ps.length cp)) := fun W n => (TP.up n).c1
        have LTU : Hid (∀ W, Below wr.heap.size wr W → Calls Tryd.prog 27 #[.slice (some ⟨qc, 0, none⟩) 32 32] W fun r w' => ∃ ys a' c' g', r = .returned (.slice a' ys.length c') ∧ Own w' g' a' .u8 ys ∧ Hid (Turned Z ys) ∧ Below wr.heap.size wr w' ∧ Below W.heap.size W w') := by
          intro W n
          refine (lwTurn32 W qc 32 Z (B10.up n) Y3 L3.out).mono ?_
          rintro r w' ⟨ys, a', c', g', rfl, o', T, n'⟩
          exact ⟨ys, a', c', g', rfl, o', T, nxt n n', n'⟩
        have ADD : Hid (∀ W ys a' c' g', Below wr.heap.size wr W → Own W g' a' .u8 ys → Hid (Turned Z ys) → Calls Tryd.prog 28 #[.slice ap ps.length cp, .slice a' ys.length c'] W fun r w' => ∃ ss a'' c'' g'', r = .returned (.agg #[.bool true, .slice a'' ss.length c'']) ∧ Own w' g'' a'' .u8 ss ∧ (a'' = none → c'' = 0) ∧ ss.length ≤ c'' ∧ Hid (Canon ss (num XX * num Y + num Z) ∧ ss.length ≤ 64) ∧ W.heap.size ≤ g'' ∧ Below wr.heap.size wr w' ∧ Below W.heap.size W w') := by
          intro W ys a' c' g' n o' T
          refine (implNumAdd_any W gp g' ap a' cp c' ps ys (oP.up n).rd o'.rd CP.1 T.out.1).mono ?_
          rintro r w' ⟨t, ss, NS, ⟨a'', c'', g'', rfl, o'', p'', q'', r''⟩, n'⟩
          obtain ⟨rfl, CS, LS⟩ := numOf_good NS ⟨by omega, by have := T.out.2.1; have := L3.out; omega⟩ (by rw [CP.2.1, T.out.2.2]; exact V2)
          rw [CP.2.1, T.out.2.2] at CS
          exact ⟨ss, a'', c'', g'', rfl, o'', p'', q'', ⟨CS, LS⟩, r'', nxt n n', n'⟩
        have nd : Below wr.heap.size wr wr.drew := (Below.refl _ _).drew
        have zr := TP.lt
        have HLP := hide LP
        clear LT LP
        go_cut [13] (fun v wc => SAt wr (fun ss => Canon ss (num XX * num Y + num Z) ∧ ss.length ≤ 64) v wc)
        case first =>
          go_region_held3 (fun W => W.cell? ⟨p1, 1, none⟩ = some (.slice ap ps.length cp))
            (first | exact (unhide CY) _ nd | exact (unhide CY) _ (bA nd _) | exact (unhide CY) _ ns | exact (unhide CY) _ (bA ns _) | exact (unhide CY) _ nm | exact (unhide CY) _ (bA nm _) | exact (unhide CY) _ (nm.setCell hq _) | exact (unhide CY) _ ((nm.setCell hq _).setCell hq _))
            (first
              | (go_at_call 27; refine ((unhide LTU) _ (by first | exact nd | exact bA nd _)).mono ?_; rintro r ws ⟨ys, aS, cS, gS, rfl, oS, TS, ns, ns'⟩; (try first | (have Z1 : Two ws wr.heap.size (.bool false) (.slice none 0 0) := upt ns' (Two.newD _ _ _ _)) | (have Z1 : Two ws wr.heap.size (.bool false) (.slice none 0 0) := upt ns' (Two.new _ _ _ _))))
              | (go_at_call 28; refine ((unhide ADD) _ ys aS cS gS (by first | exact ns | exact bA ns _) (by first | exact oS | exact oS.up ((Below.refl _ _).alloc (Nat.le_refl _) _)) TS).mono ?_; rintro r wm ⟨ss, aM, cM, gM, rfl, oM, pM, qM, CS, rM, nm, nm'⟩;
                  (try first
                    | (have Z2 : Two wm wr.heap.size (.bool false) (.slice none 0 0) := upt nm' Z1; (have hq : wr.heap.size ≤ wr.heap.size := Nat.le_refl _); (have hg : wr.heap.size < gM := Nat.lt_of_lt_of_le Z1.lt rM); obtain ⟨z0, z1, f0, f1⟩ := Z2)
                    | (have Z2 : Two wm ws.heap.size (.bool false) (.slice none 0 0) := upt nm' (Two.new _ _ _ _); (have hq : wr.heap.size ≤ ws.heap.size := ns.size); (have hg : ws.heap.size < gM := Nat.lt_of_lt_of_le (Two.new ws (.bool false) (.slice none 0 0) 34).lt rM); obtain ⟨z0, z1, f0, f1⟩ := Z2))))
          all_goals
            go_wp2_with fail
            go_meet
            first
              | (with_reducible refine sAt1 nm oM pM qM CS.out)
              | (with_reducible refine sAt2 nm oM pM qM CS.out ⟨z0, z1, f0, f1⟩ hq hg)
        case rest =>
          obtain ⟨p2, ss, aS, cS, gS, rfl, TS, oS, pS, qS, ⟨CS, LS⟩, nS⟩ := hcut
          have N11 := nxt N10 nS
          have oG1 := oG.up nS
          have TP1 := TP.up nS
          have hOs := hO.up N11
          clear CY LTU ADD nd B10 oG oP N10 TP nS
          generalize wr.heap.size = B0 at *
          have CY : Hid (∀ W, Below wc.heap.size wc W → W.cell? ⟨p2, 1, none⟩ = some (.slice aS ss.length cS)) := fun W n => (TS.up n).c1
          have OB : Hid (∀ W, Below wc.heap.size wc W → Calls Tryd.prog 12 #[] W fun r w' => ∃ a' c' g', r = .returned (.slice a' (fill (byt QQ) 32).length c') ∧ Own w' g' a' .u8 (fill (byt QQ) 32) ∧ Below wc.heap.size wc w' ∧ Below W.heap.size W w') := by
            intro W n
            refine (implOrderBytes_any W (hOs.1.up n)).mono ?_
            rintro r w' ⟨⟨a', c', g', he, o', p', q', r'⟩, n'⟩
            exact ⟨a', c', g', he, o', nxt n n', n'⟩
          obtain ⟨qb32, hqb⟩ : ∃ q, q = fill (byt QQ) 32 := ⟨_, rfl⟩
          have QB : Byt qb32 := by rw [hqb]; exact byt_fillb _ _
          have QL : Hid (qb32.length = 32) := by show _ = _; rw [hqb, fill_len]
          have QN : Hid (num qb32 = QQ) := by
            show _ = _
            rw [hqb]
            decide +kernel
          rw [← hqb] at OB
          have LTU : Hid (∀ W a' c' g', Below wc.heap.size wc W → Own W g' a' .u8 qb32 → Calls Tryd.prog 27 #[.slice a' qb32.length c'] W fun r w' => ∃ ys a'' c'' g'', r = .returned (.slice a'' ys.length c'') ∧ Own w' g'' a'' .u8 ys ∧ Hid (Byt ys ∧ ys.length = 32 ∧ bval ys = QQ) ∧ Below wc.heap.size wc w' ∧ Below W.heap.size W w') := by
            intro W a' c' g' n o'
            refine (lwTurn_any W g' a' c' qb32 o'.rd QB (by have := QL.out; omega)).mono ?_
            rintro r w' ⟨ys, T, yb, ⟨a'', c'', g'', rfl, o'', p'', q'', z''⟩, n'⟩
            exact ⟨ys, a'', c'', g'', rfl, o'', ⟨yb, by rw [T.1]; exact QL.out, by rw [T.val]; exact QN.out⟩, nxt n n', n'⟩
          have NDV : Hid (∀ W ys a' c' g', Below wc.heap.size wc W → Own W g' a' .u8 ys → Hid (Byt ys ∧ ys.length = 32 ∧ bval ys = QQ) → Calls Tryd.prog 29 #[.slice aS ss.length cS, .slice a' ys.length c'] W fun r w' => ∃ m1 c1 a1 rs a'' c'' g'', r = .returned (.agg #[.bool true, .slice a1 m1 c1, .slice a'' rs.length c'']) ∧ Own w' g'' a'' .u8 rs ∧ (a'' = none → c'' = 0) ∧ rs.length ≤ c'' ∧ Hid (Canon rs ((num XX * num Y + num Z) % QQ)) ∧ W.heap.size ≤ g'' ∧ Below wc.heap.size wc w' ∧ Below W.heap.size W w') := by
            intro W ys a' c' g' n o' T
            refine (implNumDivide_any W gS g' aS a' cS c' ss ys (oS.up n).rd o'.rd CS.1 T.out.1).mono ?_
            rintro r w' ⟨t, qs, rs, QO, ⟨a1, c1, g1, a2, c2, g2, rfl, _, ⟨o2, p2', q2, r2⟩, _⟩, n'⟩
            rcases QO with ⟨_, rfl, _, CR⟩ | ⟨h, _⟩
            · rw [CS.2.1, T.out.2.2] at CR
              exact ⟨_, _, _, rs, a2, c2, g2, rfl, o2, p2', q2, CR, r2, nxt n n', n'⟩
            · exact absurd ⟨by omega, by have := T.out.2.1; omega, by rw [T.out.2.2]; decide⟩ h
          have nd : Below wc.heap.size wc wc.drew := (Below.refl _ _).drew
          have HLS := hide LS
          have HCS := hide CS
          clear hqb LS CS QB
          go_upto_region 12 with fail
          go_cut [14] (fun v wc' => TAt wc (fun rs => Canon rs ((num XX * num Y + num Z) % QQ)) v wc')
          case first =>
            go_region_held3 (fun W => W.cell? ⟨p2, 1, none⟩ = some (.slice aS ss.length cS))
              (first | exact (unhide CY) _ nd | exact (unhide CY) _ (bA nd _) | exact (unhide CY) _ no | exact (unhide CY) _ (bA no _) | exact (unhide CY) _ ns | exact (unhide CY) _ (bA ns _) | exact (unhide CY) _ nm | exact (unhide CY) _ (bA nm _) | exact (unhide CY) _ (nm.setCell hq _) | exact (unhide CY) _ ((nm.setCell hq _).setCell hq _) | exact (unhide CY) _ (((nm.setCell hq _).setCell hq _).setCell hq _))
              (first
                | (go_at_call 12; refine ((unhide OB) _ (by first | exact nd | exact bA nd _)).mono ?_; rintro r wo ⟨aO, cO, gO, rfl, oO, no, no'⟩; (try first | (have Z0 : Three wo wc.heap.size (.bool false) (.slice none 0 0) (.slice none 0 0) := upt3 no' (Three.newD _ _ _ _ _)) | (have Z0 : Three wo wc.heap.size (.bool false) (.slice none 0 0) (.slice none 0 0) := upt3 no' (Three.new _ _ _ _ _))))
                | (go_at_call 27; refine ((unhide LTU) _ aO cO gO (by first | exact no | exact bA no _) (by first | exact oO | exact oO.up ((Below.refl _ _).alloc (Nat.le_refl _) _))).mono ?_; rintro r ws ⟨ys, aT, cT, gT, rfl, oT, TT, ns, ns'⟩;
                    (try first
                      | (have Z1 : Three ws wc.heap.size (.bool false) (.slice none 0 0) (.slice none 0 0) := upt3 ns' Z0; (have hq : wc.heap.size ≤ wc.heap.size := Nat.le_refl _))
                      | (have Z1 : Three ws wo.heap.size (.bool false) (.slice none 0 0) (.slice none 0 0) := upt3 ns' (Three.new _ _ _ _ _); (have hq : wc.heap.size ≤ wo.heap.size := no.size))))
                | (go_at_call 29; refine ((unhide NDV) _ ys aT cT gT (by first | exact ns | exact bA ns _) (by first | exact oT | exact oT.up ((Below.refl _ _).alloc (Nat.le_refl _) _)) TT).mono ?_; rintro r wm ⟨mQ, cQ, aQ, rs, aM, cM, gM, rfl, oM, pM, qM, CR, rM, nm, nm'⟩;
                    (try first
                      | (have Z2 := upt3 nm' Z1; (have hg := Nat.lt_of_lt_of_le Z1.lt rM); obtain ⟨z0, z1, z2, f0, f1, f2⟩ := Z2)
                      | (have Z2 : Three wm ws.heap.size (.bool false) (.slice none 0 0) (.slice none 0 0) := upt3 nm' (Three.new _ _ _ _ _); (have hq : wc.heap.size ≤ ws.heap.size := ns.size); (have hg : ws.heap.size < gM := Nat.lt_of_lt_of_le (Three.new ws (.bool false) (.slice none 0 0) (.slice none 0 0) 37).lt rM); obtain ⟨z0, z1, z2, f0, f1, f2⟩ := Z2))))
            all_goals
              go_wp2_with fail
              go_meet
              first
                | (with_reducible refine tAt1 nm oM pM qM CR.out)
                | (with_reducible refine tAt2 nm oM pM qM CR.out ⟨z0, z1, z2, f0, f1, f2⟩ hq hg)
          case rest =>
            obtain ⟨p3, mQ, cQ, aQ, rs, aR, cR, gR, rfl, TD, oR, pR, qR, CR, nR⟩ := hcut
            have N12 := nxt N11 nR
            have oG2 := oG1.up nR
            have oS2 := oS.up nR
            have hO2 := hO.up N12
            have TSk := TS.up nR
            have TDk := TD
            obtain ⟨u0, u1, _, _⟩ := TP1.up nR
            obtain ⟨v0, v1, _, _⟩ := TS.up nR
            obtain ⟨d0, d1, d2, _, _, _⟩ := TD
            have LR : rs.length ≤ 32 := CR.len (Int.lt_trans (Int.emod_lt_of_pos _ (by decide)) (by decide))
            have EG : Hid (G = fill (dig rs) 32) := by
              show _ = _
              rw [HG.out]
              exact (tell_q CR.1 _ CR.2.1).symm
            have GB : Byt G := by rw [EG.out]; exact dig_bytes CR.1 32
            have GL : Hid (G.length = 32) := by show _ = _; rw [EG.out, fill_len]
            have GN : num G = (num XX * num Y + num Z) % QQ := by rw [EG.out, num_fill 32 LR, CR.2.1]
            have GV : Hid (ovalid G = true) := by
              show _ = _
              have h1 : num G < QQ := by rw [GN]; exact Int.emod_lt_of_pos _ (by decide)
              unfold ovalid
              rw [decide_eq_true GL.out, decide_eq_true h1]
              rfl
            have HCR := hide CR
            have HLR := hide LR
            have HGN := hide GN
            have VA := implOrderValid_any wc g9 a9 c9 G oG2.rd GB hO2.1
            rw [GV.out] at VA
            clear CY OB LTU NDV nd N11 oG1 oS TS TP1 hOs nR CR LR GN
            go_wp2_with fail
            refine VA.mono ?_
            rintro e w13 ⟨rfl, n13⟩
            have N13 := nxt N12 n13
            have d2a := (TDk.up n13).c2
            have v1a := (TSk.up n13).c1
            have oG3 := oG2.up n13
            have oS3 := oS2.up n13
            have oR3 := oR.up n13
            clear u0 u1 v0 v1 d0 d1 d2 VA oG2 oS2 oR N12 hO2
            go_wp2_with fail
            refine (implNumTurn_any w13 gR aR cR rs ((32 : Nat) : Int) oR3.rd HCR.out.1 qR (by have := HLR.out; omega)).mono ?_
            rintro e w14 ⟨y1, T1, ⟨a14, c14, g14, rfl, o14, _, _, _⟩, n14⟩
            obtain rfl : y1 = G := by rw [EG.out]; exact turn_fits T1 HCR.out.1 HLR.out (by omega) (by omega)
            have N14 := nxt N13 n14
            have v1b := ((TSk.up n13).up n14).c1
            have oG4 := oG3.up n14
            have oS4 := oS3.up n14
            clear T1 d2a v1a oG3 oS3 oR3
            go_wp2_with fail
            refine (lwSame_same w14 g9 g14 a9 a14 c9 c14 y1 oG4.rd o14.rd).mono ?_
            rintro e w15 ⟨rfl, rfl⟩
            go_wp2_with fail
            refine (implNumTurn_any w15 gS aS cS ss ((64 : Nat) : Int) oS4.rd HCS.out.1 qS (by have := HLS.out; omega)).mono ?_
            rintro e w16 ⟨y2, T2, ⟨a16, c16, g16, rfl, o16, _, _, _⟩, n16⟩
            have E2 := turn_fits T2 HCS.out.1 HLS.out (by omega) (by omega)
            have B2 : Byt y2 := by rw [E2]; exact dig_bytes HCS.out.1 64
            have K2 : Hid (ored y2 = y1) := by
              show _ = _
              rw [EG.out, ored, if_pos ⟨by rw [E2, fill_len]; omega, by rw [E2, fill_len]; omega⟩, E2, num_fill 64 HLS.out, HCS.out.2.1]
              exact (tell_q HCR.out.1 _ HCR.out.2.1).symm
            have N16 := nxt N14 n16
            have oG5 := oG4.up n16
            have OR := implOrderReduce_any w16 g16 a16 c16 y2 o16.rd B2 (hO.up N16)
            rw [K2.out] at OR
            clear E2 T2 v1b oG4 oS4 N13
            go_wp2_with fail
            refine OR.mono ?_
            rintro e w17 ⟨⟨a17, c17, g17, rfl, o17, _, _, _⟩, n17⟩
            have N17 := nxt N16 n17
            go_wp2_with fail
            refine (lwSame_same w17 g17 g9 a17 a9 c17 c9 y1 o17.rd (oG5.up n17).rd).mono ?_
            rintro e w18 ⟨rfl, rfl⟩
            clear OR
            go_wp2
            go_ret
            exact ⟨rfl, N17⟩
    · have t2 : decide ((1048576 : Int) < (more.length : Int)) = true := by simp; omega
      go_enter Tryd.func7, Tryd.ntmps7
      go_wp2
      go_ret
      exact ⟨rfl, Below.refl _ _⟩
  · have t1 : decide ((1048576 : Int) < (code.length : Int)) = true := by simp; omega
    go_enter Tryd.func7, Tryd.ntmps7
    go_wp2
    go_ret
    exact ⟨rfl, Below.refl _ _⟩
end Go.Proofs.YtbhmhkimddjhaaaDoor
