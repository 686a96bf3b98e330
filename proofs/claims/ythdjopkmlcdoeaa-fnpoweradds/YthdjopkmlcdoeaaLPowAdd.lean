/-
  The law of powers of a sum.
-/
import Derived.Test.YthdjopkmlcdoeaaDrawP
import Derived.Test.YthdjopkmlcdoeaaSlot
import Derived.Test.YthdjopkmlcdoeaaLwAt
import Derived.Test.YthdjopkmlcdoeaaPowJ
import Derived.Test.YthdjopkmlcdoeaaPowS
import Derived.Deep.RegionWith
import Derived.Deep.DeepCutAuto
namespace Go.Proofs.Ythdjopkmlcdoeaa
open Go.RowKit

theorem canon_le {xs c : List Int} (hx : Byt xs) (hc : Canon c (bval xs)) : c.length ≤ xs.length := by
  by_cases h : xs.length < c.length
  · have := canon_lt hx hc h
    have := hc.2.1
    omega
  · omega
theorem fld0 (w : World) (b : Bool) (v : Value) : (Instr.field 31 (.agg #[.bool b, v]) 0).run Try.prog w = .ok (.bool b) w := by kernel_rfl

theorem fld1 (w : World) (b : Bool) (v : Value) : (Instr.field 31 (.agg #[.bool b, v]) 1).run Try.prog w = .ok v w := by kernel_rfl

/-- A struct that is good, and its row. -/
structure Str (w : World) (p : Nat) (a : Option Addr) (c g : Nat) (xs : List Int) : Prop where
  t : Two w p (.bool true) (.slice a xs.length c)
  r : Row w g a c xs
theorem Str.up {w w' : World} {p : Nat} {a : Option Addr} {c g : Nat} {xs : List Int} (h : Str w p a c g xs) (n : Below w.heap.size w w') : Str w' p a c g xs := ⟨h.t.up n, h.r.up n⟩
/-- Four rows and the sum. -/
structure KC (w0 : World) (g1 g2 g3 g4 : Nat) (a1 a2 a3 a4 : Option Addr) (c1 c2 c3 c4 : Nat) (x1 x2 x3 x4 : List Int) (p : Nat) (a5 : Option Addr) (c5 g5 : Nat) (x5 : List Int) (w : World) : Prop where
  nb : Below w0.heap.size w0 w
  r1 : Row w g1 a1 c1 x1
  r2 : Row w g2 a2 c2 x2
  r3 : Row w g3 a3 c3 x3
  r4 : Row w g4 a4 c4 x4
  s : Str w p a5 c5 g5 x5
theorem KC.up {w0 : World} {g1 g2 g3 g4 : Nat} {a1 a2 a3 a4 : Option Addr} {c1 c2 c3 c4 : Nat} {x1 x2 x3 x4 : List Int} {p : Nat} {a5 : Option Addr} {c5 g5 : Nat} {x5 : List Int} {w w' : World}
    (h : KC w0 g1 g2 g3 g4 a1 a2 a3 a4 c1 c2 c3 c4 x1 x2 x3 x4 p a5 c5 g5 x5 w) (n : Below w.heap.size w w') : KC w0 g1 g2 g3 g4 a1 a2 a3 a4 c1 c2 c3 c4 x1 x2 x3 x4 p a5 c5 g5 x5 w' :=
  ⟨nxt h.nb n, h.r1.up n, h.r2.up n, h.r3.up n, h.r4.up n, h.s.up n⟩
/-- .. and the two powers. -/
structure KF (w0 : World) (g1 g2 g3 g4 : Nat) (a1 a2 a3 a4 : Option Addr) (c1 c2 c3 c4 : Nat) (x1 x2 x3 x4 : List Int) (p : Nat) (a5 : Option Addr) (c5 g5 : Nat) (x5 : List Int) (p6 : Nat) (a6 : Option Addr) (c6 g6 : Nat) (x6 : List Int) (p7 : Nat) (a7 : Option Addr) (c7 g7 : Nat) (x7 : List Int) (w : World) : Prop where
  k : KC w0 g1 g2 g3 g4 a1 a2 a3 a4 c1 c2 c3 c4 x1 x2 x3 x4 p a5 c5 g5 x5 w
  s1 : Str w p6 a6 c6 g6 x6
  s2 : Str w p7 a7 c7 g7 x7
theorem KF.up {w0 : World} {g1 g2 g3 g4 : Nat} {a1 a2 a3 a4 : Option Addr} {c1 c2 c3 c4 : Nat} {x1 x2 x3 x4 : List Int} {p : Nat} {a5 : Option Addr} {c5 g5 : Nat} {x5 : List Int} {p6 : Nat} {a6 : Option Addr} {c6 g6 : Nat} {x6 : List Int} {p7 : Nat} {a7 : Option Addr} {c7 g7 : Nat} {x7 : List Int} {w w' : World}
    (h : KF w0 g1 g2 g3 g4 a1 a2 a3 a4 c1 c2 c3 c4 x1 x2 x3 x4 p a5 c5 g5 x5 p6 a6 c6 g6 x6 p7 a7 c7 g7 x7 w) (n : Below w.heap.size w w') : KF w0 g1 g2 g3 g4 a1 a2 a3 a4 c1 c2 c3 c4 x1 x2 x3 x4 p a5 c5 g5 x5 p6 a6 c6 g6 x6 p7 a7 c7 g7 x7 w' :=
  ⟨h.k.up n, h.s1.up n, h.s2.up n⟩
theorem NumOf.good {A : Prop} {v : Int} {t : Bool} {zs : List Int} (h : NumOf A v t zs) (hA : A) (hl : ∀ c, Canon c v → c.length ≤ 128) : t = true ∧ Canon zs v := by
  rcases h with ⟨_, c, hc, h⟩ | ⟨h, _⟩
  · have := hl c hc
    rcases h with ⟨_, rfl, rfl⟩ | ⟨h, _⟩
    · exact ⟨rfl, hc⟩
    · omega
  · exact absurd hA h
theorem row_off (w : World) (g : Nat) (xs : List Int) (k : Nat) (hB : Blk w g .u8 xs) (hk : k ≤ xs.length) : Own w g (some ⟨g, k, none⟩) .u8 (xs.drop k) := by
  intro h0
  simp only [List.length_drop] at h0
  refine ⟨k, rfl, fun i hi => ?_⟩
  simp only [List.length_drop] at hi
  refine ⟨?_, hB.free _⟩
  rw [hB.cell (by omega)]
  simp [List.getElem?_drop]

set_option maxRecDepth 100000 in
set_option maxHeartbeats 60000000 in
theorem powerAdds_law (w : World) (g : Nat) (a : Option Addr) (ca : Nat) (code : List Int) (ha : Rd w g a .u8 code) (hb : Byt code) (g' : Nat) (b : Option Addr) (cb : Nat) (more : List Int) (hm : Rd w g' b .u8 more) (hmb : Byt more) :
    Calls Try.prog 13 #[.slice a code.length ca, .slice b more.length cb] w fun e w' => e = .returned (.bool true) ∧ Below w.heap.size w w' := by
  by_cases h1 : code.length ≤ 1048576
  · have t1 : decide ((1048576 : Int) < (code.length : Int)) = false := decide_eq_false (by omega)
    by_cases h2 : more.length ≤ 1048576
    · have t2 : decide ((1048576 : Int) < (more.length : Int)) = false := decide_eq_false (by omega)
      go_enter Try.func13, Try.ntmps13
      go_wp2_with fail
      refine (drawNumPower_any w g a ca code ha hb h1).mono ?_
      rintro e w1 ⟨xs, es, ms, a1, c1, g1, a2, c2, g2, a3, c3, g3, rfl, ⟨hx, lx⟩, ⟨he, le⟩, ⟨hM, lm⟩, R1, R2, R3, n1⟩
      clear t1 t2
      have hm1 := hm.up n1
      go_upto_region 4 with fail
      go_cut [8] (fun v wc => ∃ (fs : List Int) (aF : Option Addr) (cF gF : Nat), v = .slice aF fs.length cF ∧ (Byt fs ∧ fs.length ≤ 3) ∧ Row wc gF aF cF fs ∧ Below w1.heap.size w1 wc)
      case first =>
        go_wp2_with fail
        refine (lwAt_any w1 g' b cb more 0 256 hm1 hmb h2 (by decide) (by decide) (by decide) (by decide)).mono ?_
        rintro e w2 ⟨r0, rfl, hr0, m0, rfl⟩
        have e0 : (r0 : Int) % 256 = (r0 : Int) := by omega
        go_wp2_with fail
        refine (lwAt_any (w1.drewN m0) g' b cb more 1 256 hm1 hmb h2 (by decide) (by decide) (by decide) (by decide)).mono ?_
        rintro e w2 ⟨r1, rfl, hr1, m1, rfl⟩
        have e1 : (r1 : Int) % 256 = (r1 : Int) := by omega
        go_wp2_with fail
        refine (lwAt_any (w1.drewN (m0 + m1)) g' b cb more 2 256 hm1 hmb h2 (by decide) (by decide) (by decide) (by decide)).mono ?_
        rintro e w2 ⟨r2, rfl, hr2, m2, rfl⟩
        have e2 : (r2 : Int) % 256 = (r2 : Int) := by omega
        have al : Below w1.heap.size w1 ((w1.drewN (m0 + m1 + m2)).alloc (.cells #[.int .u8 (r0 : Int), .int .u8 (r1 : Int), .int .u8 (r2 : Int)] 5)) := (below_drewN (Below.refl _ _) _).alloc (Nat.le_refl _) _
        have hB : Blk ((w1.drewN (m0 + m1 + m2)).alloc (.cells #[.int .u8 (r0 : Int), .int .u8 (r1 : Int), .int .u8 (r2 : Int)] 5)) w1.heap.size .u8 [(r0 : Int), (r1 : Int), (r2 : Int)] := ⟨5, heap_alloc_new (w1.drewN (m0 + m1 + m2)) _⟩
        have bF : Byt [(r0 : Int), (r1 : Int), (r2 : Int)] := fun i => by
          match i with
          | 0 => simp; omega
          | 1 => simp; omega
          | 2 => simp; omega
          | i + 3 => simp
        go_wp2_with fail
        generalize (w1.drewN (m0 + m1 + m2)).alloc (.cells #[.int .u8 (r0 : Int), .int .u8 (r1 : Int), .int .u8 (r2 : Int)] 5) = w2 at *
        refine (lwAt_any w2 g' b cb more 3 4 (hm1.up al) hmb h2 (by decide) (by decide) (by decide) (by decide)).mono ?_
        rintro e w3 ⟨r3, rfl, hr3, m3, rfl⟩
        have al3 := below_drewN al m3
        have hB3 : Blk (w2.drewN m3) w1.heap.size .u8 [(r0 : Int), (r1 : Int), (r2 : Int)] := hB
        have bdr : ∀ k, Byt ([(r0 : Int), (r1 : Int), (r2 : Int)].drop k) := fun k i => by
          have := bF (k + i)
          simpa [List.getElem?_drop] using this
        clear e0 e1 e2 al hB
        match r3, hr3 with
        | 0, _ =>
          go_wp2_with fail
          go_meet
          exact ⟨[(r0 : Int), (r1 : Int), (r2 : Int)], _, 3, w1.heap.size, rfl, ⟨bF, by simp⟩, ⟨row_off _ _ _ 0 hB3 (by simp), by simp, by simp⟩, al3⟩
        | 1, _ =>
          go_wp2_with fail
          go_meet
          exact ⟨[(r1 : Int), (r2 : Int)], _, 2, w1.heap.size, rfl, ⟨bdr 1, by simp⟩, ⟨row_off _ _ _ 1 hB3 (by simp), by simp, by simp⟩, al3⟩
        | 2, _ =>
          go_wp2_with fail
          go_meet
          exact ⟨[(r2 : Int)], _, 1, w1.heap.size, rfl, ⟨bdr 2, by simp⟩, ⟨row_off _ _ _ 2 hB3 (by simp), by simp, by simp⟩, al3⟩
        | 3, _ =>
          go_wp2_with fail
          go_meet
          exact ⟨[], _, 0, w1.heap.size, rfl, ⟨bdr 3, by simp⟩, ⟨Own.nil _ _ _ _, by simp, by simp⟩, al3⟩
        | k + 4, h => exact absurd h (by omega)
      case rest =>
        obtain ⟨fs, aF, cF, gF, rfl, ⟨hf, lf⟩, R4, nF⟩ := hcut
        have n1c := nxt n1 nF
        replace R1 := R1.up nF
        replace R2 := R2.up nF
        replace R3 := R3.up nF
        clear hm1 nF n1 hm hmb h2 ha hb h1
        go_wp2_with fail
        refine (specNumPower_any wc _ _ _ _ _ _ c1 c2 c3 xs es ms R1.1.rd R2.1.rd R3.1.rd hx he hM R2.2.1 R2.2.2 R3.2.1 R3.2.2).mono ?_
        rintro e w2 ⟨t, zs, Z, ⟨a5, c5, g5, rfl, o5, _, _, _⟩, n2⟩
        have N2 := nxt n1c n2
        replace R1 := R1.up n2
        replace R2 := R2.up n2
        replace R3 := R3.up n2
        replace R4 := R4.up n2
        have hf0 := fld0
        clear o5 n2 n1c
        cases t
        · go_wp2_with fail
          refine (implNumPower_any w2 _ _ _ _ _ _ c1 c2 c3 xs es ms R1.1.rd R2.1.rd R3.1.rd hx he hM).mono ?_
          rintro e w3 ⟨t', zs', Z', ⟨a6, c6, g6, rfl, o6, _, _, _⟩, n3⟩
          obtain ⟨rfl, rfl⟩ := Z'.uniq Z
          have N3 := nxt N2 n3
          go_wp2
          go_ret
          exact ⟨rfl, N3⟩
        · obtain ⟨A1, A2, A3, A4⟩ : xs.length ≤ 40 ∧ es.length ≤ 40 ∧ ms.length ≤ 40 ∧ 0 < bval ms := by
            rcases Z with ⟨h, _⟩ | ⟨_, h, _⟩
            · exact h
            · simp at h
          clear Z
          go_wp2_with fail
          refine (lwCopy_any w2 _ _ c2 es R2.1.rd R2.2.1 (by omega)).mono ?_
          rintro e w3 ⟨⟨a6, c6, g6, rfl, o6, _, _, _⟩, n3⟩
          go_wp2_with fail
          refine (lwCopy_any w3 _ _ cF fs (R4.up n3).1.rd R4.2.1 (by omega)).mono ?_
          rintro e w4 ⟨⟨a7, c7, g7, rfl, o7, _, _, _⟩, n4⟩
          go_wp2_with fail
          refine (implNumAdd_any w4 _ _ _ _ c6 c7 es fs (o6.up n4).rd o7.rd he hf).mono ?_
          rintro e w5 ⟨ts, ss, Y, ⟨a8, c8, g8, rfl, o8, p8, q8, _⟩, n5⟩
          obtain ⟨rfl, CS, lS⟩ : ts = true ∧ Canon ss (bval es + bval fs) ∧ ss.length ≤ 41 := by
            rcases Y with ⟨_, c, hc, h⟩ | ⟨h, _⟩
            · have hcl := add_blen (n := 40) he hf hc (by omega) (by omega)
              rcases h with ⟨_, rfl, rfl⟩ | ⟨h, _⟩
              · exact ⟨rfl, hc, hcl⟩
              · omega
            · exact absurd ⟨by omega, by omega⟩ h
          have n25 := nxt (nxt n3 n4) n5
          have TS := Two.new w5 (.bool true) (.slice a8 ss.length c8) 31
          have al : Below w5.heap.size w5 (w5.alloc (.cells #[.bool true, .slice a8 ss.length c8] 31)) := (Below.refl _ _).alloc (Nat.le_refl _) _
          have n26 := nxt n25 al
          have K : KC w g1 g2 g3 gF a1 a2 a3 aF c1 c2 c3 cF xs es ms fs w5.heap.size a8 c8 g8 ss (w5.alloc (.cells #[.bool true, .slice a8 ss.length c8] 31)) := ⟨nxt N2 n26, R1.up n26, R2.up n26, R3.up n26, R4.up n26, ⟨TS, (show Row w5 g8 a8 c8 ss from ⟨o8, p8, q8⟩).up al⟩⟩
          clear R1 R2 R3 R4 N2 o6 o7 o8 p8 q8 n3 n4 n5 n25 n26 al TS Y
          go_upto_region 8 with fail
          generalize w5.alloc (.cells #[.bool true, .slice a8 ss.length c8] 31) = w6 at *
          have KD := K.up ((Below.refl w6.heap.size w6).drew)
          have k1 := K.s.t.c1
          obtain ⟨KP, hKP⟩ : ∃ KP : World → Prop, KP = KC w g1 g2 g3 gF a1 a2 a3 aF c1 c2 c3 cF xs es ms fs w5.heap.size a8 c8 g8 ss := ⟨_, rfl⟩
          have HF : Hid (∀ W, KP W → W.cell? ⟨w5.heap.size, 1, none⟩ = some (.slice a8 ss.length c8)) := by
            intro W h
            rw [hKP] at h
            exact h.s.t.c1
          have HA : Hid (∀ W, KP W → Calls Try.prog 24 #[.slice a2 es.length c2, .slice aF fs.length cF] W fun e w' => ∃ aT cT gT, e = .returned (.agg #[.bool true, .slice aT ss.length cT]) ∧ Own w' gT aT .u8 ss ∧ KP w') := by
            intro W h
            rw [hKP] at h ⊢
            refine (specNumAdd_any W _ _ _ _ c2 cF es fs h.r2.1.rd h.r4.1.rd he hf).mono ?_
            rintro e w' ⟨t, zs, Z, ⟨aT, cT, gT, rfl, oT, _, _, _⟩, nT⟩
            obtain ⟨rfl, CZ⟩ := Z.good ⟨by omega, by omega⟩ (fun c hc => by have := add_blen (n := 40) he hf hc (by omega) (by omega); omega)
            obtain rfl := CZ.uniq CS
            exact ⟨aT, cT, gT, rfl, oT, h.up nT⟩
          have HS : Hid (∀ W aT cT, KP W → (∃ gT, Own W gT aT .u8 ss) → Calls Try.prog 42 #[.slice a8 ss.length c8, .slice aT ss.length cT] W fun e w' => e = .returned (.bool true) ∧ w' = W) := by
            rintro W aT cT h ⟨gT, o⟩
            rw [hKP] at h
            exact lwSame_same W _ _ _ _ c8 cT ss h.s.r.1.rd o.rd
          have hf1 := fld1
          rw [← hKP] at KD
          have HKP := hide hKP
          have HCS := hide CS
          clear hKP CS K
          go_cut [65] (fun b wc => b = .bool false ∧ KP wc)
          case first =>
            go_region_with (first
              | (go_at_call 24; refine ((unhide HA) _ ?_).mono ?_; (first | exact KD | assumption); rintro e w' ⟨aT, cT, gT, rfl, oT, K'⟩; have m1 := HF.out _ K')
              | (go_at_call 42; refine ((unhide HS) _ _ _ ?_ ?_).mono ?_; assumption; exact ⟨_, by assumption⟩; rintro e w' ⟨rfl, rfl⟩))
            all_goals
              go_wp2_with fail
              go_meet
              exact ⟨rfl, by assumption⟩
          case rest =>
            obtain ⟨rfl, K⟩ := hcut
            rw [HKP.out] at K
            have k1 := K.s.t.c1
            clear HA HS HF KD hf0
            by_cases hss : ss.length ≤ 40
            · have tss : decide ((40 : Int) < (ss.length : Int)) = false := decide_eq_false (by omega)
              go_wp2_with fail
              refine (lwCopy_any wc _ _ c1 xs K.r1.1.rd K.r1.2.1 (by omega)).mono ?_
              rintro e v1 ⟨⟨b1, d1, f1, rfl, o1, _, _, _⟩, m1⟩
              go_wp2_with fail
              refine (lwCopy_any v1 _ _ c2 es (K.r2.up m1).1.rd K.r2.2.1 (by omega)).mono ?_
              rintro e v2 ⟨⟨b2, d2, f2, rfl, o2, _, _, _⟩, m2⟩
              have m12 := nxt m1 m2
              go_wp2_with fail
              refine (lwCopy_any v2 _ _ c3 ms (K.r3.up m12).1.rd K.r3.2.1 (by omega)).mono ?_
              rintro e v3 ⟨⟨b3, d3, f3, rfl, o3, _, _, _⟩, m3⟩
              go_wp2_with fail
              refine (implNumPower_any v3 _ _ _ _ _ _ d1 d2 d3 xs es ms ((o1.up m2).up m3).rd (o2.up m3).rd o3.rd hx he hM).mono ?_
              rintro e v4 ⟨tO, os, YO, ⟨aO, cO, gO, rfl, oO, pO, qO, _⟩, m4⟩
              obtain ⟨rfl, CO⟩ := YO.good ⟨A1, A2, A3, A4⟩ (fun c hc => by have := mod_blen hc hM A4; omega)
              have lO := mod_blen CO hM A4
              have nO := nxt (nxt m12 m3) m4
              have alO : Below v4.heap.size v4 (v4.alloc (.cells #[.bool true, .slice aO os.length cO] 31)) := (Below.refl _ _).alloc (Nat.le_refl _) _
              have SO : Str (v4.alloc (.cells #[.bool true, .slice aO os.length cO] 31)) v4.heap.size aO cO gO os := ⟨Two.new _ _ _ _, (show Row v4 gO aO cO os from ⟨oO, pO, qO⟩).up alO⟩
              have KO := K.up (nxt nO alO)
              have HCO := hide CO
              clear K k1 o1 o2 o3 m1 m2 m3 m4 m12 nO alO oO pO qO YO CO
              go_wp2_with fail
              generalize v4.alloc (.cells #[.bool true, .slice aO os.length cO] 31) = v5 at *
              refine (lwCopy_any v5 _ _ c1 xs KO.r1.1.rd KO.r1.2.1 (by omega)).mono ?_
              rintro e v6 ⟨⟨b1, d1, f1, rfl, o1, _, _, _⟩, m1⟩
              go_wp2_with fail
              refine (lwCopy_any v6 _ _ cF fs (KO.r4.up m1).1.rd KO.r4.2.1 (by omega)).mono ?_
              rintro e v7 ⟨⟨b2, d2, f2, rfl, o2, _, _, _⟩, m2⟩
              have m12 := nxt m1 m2
              go_wp2_with fail
              refine (lwCopy_any v7 _ _ c3 ms (KO.r3.up m12).1.rd KO.r3.2.1 (by omega)).mono ?_
              rintro e v8 ⟨⟨b3, d3, f3, rfl, o3, _, _, _⟩, m3⟩
              go_wp2_with fail
              refine (implNumPower_any v8 _ _ _ _ _ _ d1 d2 d3 xs fs ms ((o1.up m2).up m3).rd (o2.up m3).rd o3.rd hx hf hM).mono ?_
              rintro e v9 ⟨tT, ts, YT, ⟨aT, cT, gT, rfl, oT, pT, qT, _⟩, m4⟩
              obtain ⟨rfl, CT⟩ := YT.good ⟨A1, by omega, A3, A4⟩ (fun c hc => by have := mod_blen hc hM A4; omega)
              have lT := mod_blen CT hM A4
              have nT := nxt (nxt m12 m3) m4
              have alT : Below v9.heap.size v9 (v9.alloc (.cells #[.bool true, .slice aT ts.length cT] 31)) := (Below.refl _ _).alloc (Nat.le_refl _) _
              have nT2 := nxt nT alT
              have KT : KF w g1 g2 g3 gF a1 a2 a3 aF c1 c2 c3 cF xs es ms fs w5.heap.size a8 c8 g8 ss v4.heap.size aO cO gO os v9.heap.size aT cT gT ts (v9.alloc (.cells #[.bool true, .slice aT ts.length cT] 31)) := ⟨KO.up nT2, SO.up nT2, ⟨Two.new _ _ _ _, (show Row v9 gT aT cT ts from ⟨oT, pT, qT⟩).up alT⟩⟩
              have HCT := hide CT
              clear KO SO o1 o2 o3 m1 m2 m3 m4 m12 nT alT nT2 oT pT qT YT CT
              go_upto_region 14 with fail
              generalize v9.alloc (.cells #[.bool true, .slice aT ts.length cT] 31) = v10 at *
              have KD := KT.up ((Below.refl v10.heap.size v10).drew)
              have k1 := KT.k.s.t.c1
              have k4 : w5.heap.size < v10.heap.size := block_lt_of_cell k1
              obtain ⟨KQ, hKQ⟩ : ∃ KQ : World → Prop, KQ = KF w g1 g2 g3 gF a1 a2 a3 aF c1 c2 c3 cF xs es ms fs w5.heap.size a8 c8 g8 ss v4.heap.size aO cO gO os v9.heap.size aT cT gT ts := ⟨_, rfl⟩
              have HF : Hid (∀ W, KQ W → W.cell? ⟨w5.heap.size, 1, none⟩ = some (.slice a8 ss.length c8)) := by
                intro W h
                rw [hKQ] at h
                exact h.k.s.t.c1
              have HU : Hid (∀ W W', KQ W → Below W.heap.size W W' → KQ W') := by
                intro W W' h n
                rw [hKQ] at h ⊢
                exact h.up n
              have HCa : Hid (∀ W, KQ W → Calls Try.prog 41 #[.slice a1 xs.length c1] W fun e w' => ∃ aT cT gT, e = .returned (.slice aT xs.length cT) ∧ Own w' gT aT .u8 xs ∧ KQ w' ∧ Below W.heap.size W w') := by
                intro W h
                rw [hKQ] at h ⊢
                refine (lwCopy_any W _ _ c1 xs h.k.r1.1.rd h.k.r1.2.1 (by omega)).mono ?_
                rintro e w' ⟨⟨aT, cT, gT, rfl, oT, _, _, _⟩, nT⟩
                exact ⟨aT, cT, gT, rfl, oT, h.up nT, nT⟩
              have HCm : Hid (∀ W, KQ W → Calls Try.prog 41 #[.slice a3 ms.length c3] W fun e w' => ∃ aT cT gT, e = .returned (.slice aT ms.length cT) ∧ Own w' gT aT .u8 ms ∧ KQ w' ∧ Below W.heap.size W w') := by
                intro W h
                rw [hKQ] at h ⊢
                refine (lwCopy_any W _ _ c3 ms h.k.r3.1.rd h.k.r3.2.1 (by omega)).mono ?_
                rintro e w' ⟨⟨aT, cT, gT, rfl, oT, _, _, _⟩, nT⟩
                exact ⟨aT, cT, gT, rfl, oT, h.up nT, nT⟩
              have HP : Hid (∀ W aA cA aM cM, KQ W → (∃ gT, Own W gT aA .u8 xs) → (∃ gT, Own W gT aM .u8 ms) → Calls Try.prog 39 #[.slice aA xs.length cA, .slice a8 ss.length c8, .slice aM ms.length cM] W fun e w' => ∃ ps aP cP gP, e = .returned (.agg #[.bool true, .slice aP ps.length cP]) ∧ (Row w' gP aP cP ps ∧ W.heap.size ≤ gP) ∧ Canon ps (bval xs ^ (bval ss).toNat % bval ms) ∧ KQ w' ∧ Below W.heap.size W w') := by
                rintro W aA cA aM cM h ⟨gA, oA⟩ ⟨gM, oM⟩
                rw [hKQ] at h ⊢
                refine (implNumPower_any W _ _ _ _ _ _ cA c8 cM xs ss ms oA.rd h.k.s.r.1.rd oM.rd hx HCS.out.1 hM).mono ?_
                rintro e w' ⟨t, ps, Y, ⟨aP, cP, gP, rfl, oP, pP, qP, rP⟩, nT⟩
                obtain ⟨rfl, CP⟩ := Y.good ⟨A1, hss, A3, A4⟩ (fun c hc => by have := mod_blen hc hM A4; omega)
                exact ⟨ps, aP, cP, gP, rfl, ⟨⟨oP, pP, qP⟩, rP⟩, CP, h.up nT, nT⟩
              rw [← hKQ] at KD KT
              have HKQ := hide hKQ
              clear hKQ
              go_cut [12] (fun v wc => StrAt KQ (fun ps => Canon ps (bval xs ^ (bval ss).toNat % bval ms)) v wc)
              case first =>
                go_region_with (first
                  | (go_at_call_of 41 (Value.slice a1 xs.length c1); refine ((unhide HCa) _ ?_).mono ?_; (first | exact KD | exact (unhide HU) _ _ KD (bl_alloc _ _ _ _)); rintro e wA ⟨aA, cA, gA, rfl, oA, KA, nA⟩; have mA1 := HF.out _ KA; have mA2 := block_lt_of_cell mA1; (try (have TA : Two wA v10.heap.size (.bool false) (.slice none 0 0) := (Two.new v10.drew (.bool false) (.slice none 0 0) 31).up nA)))
                  | (go_at_call_of 41 (Value.slice a3 ms.length c3); refine ((unhide HCm) _ ?_).mono ?_; (first | exact KA | exact (unhide HU) _ _ KA (bl_alloc _ _ _ _)); rintro e wM ⟨aM, cM, gM, rfl, oM, KM, nM⟩; have mM1 := HF.out _ KM; have mM2 := block_lt_of_cell mM1; (first | (have oA2 := oA.up nM) | (have oA2 := (oA.up (bl_alloc wA (.bool false) (.slice none 0 0) 31)).up nM)); (try (have TM := TA.up nM)); (try (have TM := (Two.new wA (.bool false) (.slice none 0 0) 31).up nM)))
                  | (go_at_call 39; refine ((unhide HP) _ _ _ _ _ ?_ ?_ ?_).mono ?_; (first | exact KM | exact (unhide HU) _ _ KM (bl_alloc _ _ _ _)); (first | exact ⟨_, oA2⟩ | exact ⟨_, oA2.up (bl_alloc _ _ _ _)⟩); (first | exact ⟨_, oM⟩ | exact ⟨_, oM.up (bl_alloc _ _ _ _)⟩); rintro e wP ⟨ps, aP, cP, gP, rfl, RP, CP, KP', nP⟩; (try (have TP := TM.up nP; have y1 := TP.c0; have y2 := TP.c1; have y3 := TP.f0; have y4 := TP.f1)); (try (have TP := (Two.new wM (.bool false) (.slice none 0 0) 31).up nP; have y1 := TP.c0; have y2 := TP.c1; have y3 := TP.f0; have y4 := TP.f1))))
                all_goals
                  go_wp2_with fail
                  go_meet
                  first
                    | exact StrAt.last (unhide HU) KP' RP.1 CP
                    | exact StrAt.early (unhide HU) KM (nxt (bl_alloc _ _ _ _) nP) TP RP.1 (by have := RP.2; rw [sz_alloc] at this; omega) CP
                    | exact StrAt.early (unhide HU) KA (nxt (nxt (bl_alloc _ _ _ _) nM) nP) TP RP.1 (by have := RP.2; have h : (wA.alloc (.cells #[.bool false, .slice none 0 0] 31)).heap.size ≤ wM.heap.size := nM.size; rw [sz_alloc] at h; omega) CP
                    | exact StrAt.early (W := v10) (unhide HU) KT (nxt (nxt (nxt (((Below.refl _ _).drew).alloc (Nat.le_refl _) _) nA) nM) nP) TP RP.1 (by have := RP.2; have h2 := nM.size; have h : (v10.alloc (.cells #[.bool false, .slice none 0 0] 31)).heap.size ≤ wA.heap.size := nA.size; rw [sz_alloc] at h; omega) CP
              case rest =>
                obtain ⟨pL, ls, aL, cL, gL, rfl, TL, RL, CL, K⟩ := hcut
                rw [HKQ.out] at K
                have f1 := K.s1.t.c1
                have f2 := K.s2.t.c1
                have HCL := hide CL
                clear HF HU HCa HCm HP KD KT k1 k4 CL
                go_wp2_with fail
                refine (implNumMul_any wc _ _ _ _ cO cT os ts K.s1.r.1.rd K.s2.r.1.rd HCO.out.1 HCT.out.1).mono ?_
                rintro e y1 ⟨tm, qs, YM, ⟨aM, cM, gM, rfl, oM, pM, qM, _⟩, m1⟩
                obtain ⟨rfl, CM⟩ := YM.good ⟨by omega, by omega⟩ (fun c hc => by have := mul_blen2 HCO.out.1 HCT.out.1 hc; omega)
                have lM := mul_blen2 HCO.out.1 HCT.out.1 CM
                have HCM := hide CM
                clear CM YM f1 f2
                go_wp2_with fail
                refine (lwCopy_any y1 _ _ c3 ms (K.k.r3.up m1).1.rd K.k.r3.2.1 (by omega)).mono ?_
                rintro e y2 ⟨⟨b3, d3, f3, rfl, o3, _, _, _⟩, m2⟩
                go_wp2_with fail
                refine (implNumDivide_any y2 _ _ _ _ cM d3 qs ms (oM.up m2).rd o3.rd HCM.out.1 hM).mono ?_
                rintro e y3 ⟨td, us, rs, YD, ⟨a21, c21, g21, a22, c22, g22, rfl, _, ⟨o22, _, _, _⟩, _⟩, m3⟩
                obtain ⟨rfl, CR⟩ : td = true ∧ Canon rs (bval qs % bval ms) := by
                  rcases YD with ⟨_, h, _, h'⟩ | ⟨h, _⟩
                  · exact ⟨h, h'⟩
                  · exact absurd ⟨by omega, by omega, A4⟩ h
                obtain rfl : rs = ls := by
                  refine CR.uniq ?_
                  have e1 := HCM.out.2.1
                  have e2 : (bval ss).toNat = (bval es).toNat + (bval fs).toNat := by
                    have := HCS.out.2.1
                    have := bval_nonneg he
                    have := bval_nonneg hf
                    omega
                  rw [e1, HCO.out.2.1, HCT.out.2.1, pow_on, ← e2]
                  exact HCL.out
                have n3 := nxt (nxt m1 m2) m3
                have al : Below y3.heap.size y3 (y3.alloc (.cells #[.bool true, .slice a21 us.length c21, .slice a22 rs.length c22] 36)) := (Below.refl _ _).alloc (Nat.le_refl _) _
                have n4 := nxt n3 al
                have NB := nxt K.k.nb n4
                have TB := Three.new y3 (.bool true) (.slice a21 us.length c21) (.slice a22 rs.length c22) 36
                have K4 := K.up n4
                have TL4 := TL.up n4
                have RL4 := RL.up n4
                have o224 := o22.up al
                have q1 := K4.s1.t.c0
                have q2 := K4.s2.t.c0
                have q3 := TL4.c0
                have q4 := TL4.c1
                have q5 := TB.c0
                have q6 := TB.c2
                clear K K4 TL TL4 RL TB oM pM qM o3 o22 m1 m2 m3 n3 n4 al YD CR HCM HCL HCO HCT HCS HKQ HKP
                go_wp2_with fail
                generalize y3.alloc (.cells #[.bool true, .slice a21 us.length c21, .slice a22 rs.length c22] 36) = y4 at *
                refine (lwSame_same y4 _ _ _ _ cL c22 rs RL4.1.rd o224.rd).mono ?_
                rintro e y5 ⟨rfl, rfl⟩
                go_wp2
                go_ret
                exact ⟨rfl, NB⟩
            · have tss : decide ((40 : Int) < (ss.length : Int)) = true := decide_eq_true (by omega)
              go_wp2
              go_ret
              exact ⟨rfl, K.nb⟩
    · have t2 : decide ((1048576 : Int) < (more.length : Int)) = true := decide_eq_true (by omega)
      go_enter Try.func13, Try.ntmps13
      go_wp2
      go_ret
      exact ⟨rfl, Below.refl _ _⟩
  · have t1 : decide ((1048576 : Int) < (code.length : Int)) = true := decide_eq_true (by omega)
    go_enter Try.func13, Try.ntmps13
    go_wp2
    go_ret
    exact ⟨rfl, Below.refl _ _⟩
end Go.Proofs.Ythdjopkmlcdoeaa
