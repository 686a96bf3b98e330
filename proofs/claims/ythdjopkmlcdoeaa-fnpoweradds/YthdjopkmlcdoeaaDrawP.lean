/-
  Three numbers that are drawn for a power.
-/
import Derived.Test.YthdjopkmlcdoeaaDrawD
import Derived.Deep.RegionLawGrows
import Derived.Deep.OwnRows
namespace Go.Proofs.Ythdjopkmlcdoeaa
open Go.RowKit

theorem But.grownBy {g : Nat} {a b : World} (h : But g a b) : a.grownBy b (some g) := ⟨h.os, h.tape, h.output, h.size, fun k hk hne => h.block k hk (fun e => hne (by rw [e]))⟩

/-- The source, as far as it was read. -/
structure DS (w : World) (g : Nat) (a : Option Addr) (c : Nat) (code : List Int) (B : Int) (wk : World) : Prop where
  src : ∃ t, Src wk w.heap.size a code.length c t ∧ 0 ≤ t ∧ t ≤ B
  nb : Below w.heap.size w wk
  hr : Rd w g a .u8 code
  hb : Byt code
  hl : code.length ≤ 1048576
theorem DS.ne {w : World} {g : Nat} {a : Option Addr} {c : Nat} {code : List Int} {B : Int} {wk : World} (h : DS w g a c code B wk) : 0 < code.length → g ≠ w.heap.size := fun h0 => by have := h.hr.lt h0; omega
theorem DS.lt {w : World} {g : Nat} {a : Option Addr} {c : Nat} {code : List Int} {B : Int} {wk : World} (h : DS w g a c code B wk) : w.heap.size < wk.heap.size := by
  obtain ⟨t, S, _⟩ := h.src
  exact S.lt
theorem DS.up {w : World} {g : Nat} {a : Option Addr} {c : Nat} {code : List Int} {B : Int} {wk w' : World} (h : DS w g a c code B wk) (n : Below wk.heap.size wk w') : DS w g a c code B w' := by
  obtain ⟨t, S, h0, h1⟩ := h.src
  exact ⟨⟨t, S.up n, h0, h1⟩, nxt h.nb n, h.hr, h.hb, h.hl⟩
theorem ds_next {w : World} {g : Nat} {a : Option Addr} {c : Nat} {code : List Int} {B : Int} {wk : World} (D : DS w g a c code B wk) (n : Int) (hB : B ≤ 500000) (n0 : 1 ≤ n) (n1 : n ≤ 1048576) :
    Calls Try.prog 73 #[.pointer (some ⟨w.heap.size, 0, none⟩), .int .i64 n] wk fun e w' => ∃ r : Nat, e = .returned (.int .i64 (r : Int)) ∧ (r : Int) < n ∧ DS w g a c code (B + 1) w' ∧ But w.heap.size wk w' := by
  obtain ⟨t, S, h0, h1⟩ := D.src
  refine (l1Next_any wk w.heap.size g a c code t n S (D.hr.up D.nb) D.ne D.hb D.hl h0 (by omega) n0 n1).mono ?_
  rintro e w' ⟨r, rfl, ⟨r0, r1⟩, S', O⟩
  obtain ⟨m, rfl⟩ := Int.eq_ofNat_of_zero_le r0
  exact ⟨m, rfl, r1, ⟨⟨t + 1, S', by omega, by omega⟩, D.nb.trans (O.below (Nat.le_refl _)), D.hr, D.hb, D.hl⟩, But.ofOnly O⟩
theorem ds_chance {w : World} {g : Nat} {a : Option Addr} {c : Nat} {code : List Int} {B : Int} {wk : World} (D : DS w g a c code B wk) (n : Int) (hB : B ≤ 500000) (n0 : 1 ≤ n) (n1 : n ≤ 1048576) :
    Calls Try.prog 70 #[.pointer (some ⟨w.heap.size, 0, none⟩), .int .i64 n] wk fun e w' => ∃ b, e = .returned (.bool b) ∧ DS w g a c code (B + 1) w' ∧ But w.heap.size wk w' := by
  obtain ⟨t, S, h0, h1⟩ := D.src
  refine (l1Chance_any wk w.heap.size g a c code t n S (D.hr.up D.nb) D.ne D.hb D.hl h0 (by omega) n0 n1).mono ?_
  rintro e w' ⟨b, rfl, S', O⟩
  exact ⟨b, rfl, ⟨⟨t + 1, S', by omega, by omega⟩, D.nb.trans (O.below (Nat.le_refl _)), D.hr, D.hb, D.hl⟩, But.ofOnly O⟩
theorem ds_bytes {w : World} {g : Nat} {a : Option Addr} {c : Nat} {code : List Int} {B : Int} {wk : World} (D : DS w g a c code B wk) (n : Nat) (hB : B ≤ 500000) (n1 : n ≤ 100) :
    Calls Try.prog 71 #[.pointer (some ⟨w.heap.size, 0, none⟩), .int .i64 n] wk fun e w' => ∃ ys a1 c1 g1, e = .returned (.slice a1 ys.length c1) ∧ (Byt ys ∧ ys.length ≤ 100 ∧ (n = 2 → ys.length = 2)) ∧ DRow w.heap.size w' g1 a1 c1 ys ∧ DS w g a c code (B + 100) w' ∧ But w.heap.size wk w' := by
  obtain ⟨t, S, h0, h1⟩ := D.src
  have l := D.lt
  refine (l1DrawBytes_any wk w.heap.size g a c code t n S (D.hr.up D.nb) D.ne D.hb D.hl h0 (by omega)).mono ?_
  rintro e w' ⟨ys, ly, hy, ⟨a1, c1, g1, rfl, o, p1, q1, r1⟩, S', N⟩
  exact ⟨ys, a1, c1, g1, rfl, ⟨hy, by omega, fun h => by omega⟩, ⟨⟨o, p1, q1⟩, by omega⟩, ⟨⟨t + (n : Int), S', by omega, by omega⟩, D.nb.trans (N.below (Nat.le_refl _) (by omega)), D.hr, D.hb, D.hl⟩, N⟩

/-- A block of n bytes 0. -/
def ZB (n : Nat) : Obj := .cells ((List.replicate n (0 : Int)).map (Value.int .u8)).toArray 5
theorem mk_run (n : Nat) (hn : n ≤ 100) (W : World) : (Instr.makeSlice 22 (.int .i64 (n : Int)) (.int .i64 (n : Int))).run Try.prog W = .ok (.slice (some ⟨W.heap.size, 0, none⟩) n n) (W.alloc (ZB n)) := by
  have h := run_make_row' (P := Try.prog) 22 5 (.int .u8 0) 1 Try.underlying22 Try.info5 rfl .i64 .i64 n (by omega) (by omega) W
  have e : madeCells #[Value.int .u8 0] n = ((List.replicate n (0 : Int)).map (Value.int .u8)).toArray := by
    apply Array.ext
    · simp [madeCells]
    · intro i h1 h2
      simp [madeCells, Nat.mod_one]
  rw [h, e]
  rfl
theorem app_step {ops : Array Oper} {o : Oper} {a : Act} {w : World} {K : Act → World → Prop} {Q : Exit → Act → World → Prop} {E : Prop}
    (hg : o.guard = none) (hop : o.op = Op.call { callee := Callee.builtin Builtin.append, args := #[.tmp 54, .tmp 56], argTypes := #[22, 22] })
    (n g1 g2 off c2 : Nat) (ys : List Int) (hs : a.eval (.tmp 54) = .slice (some ⟨g1, 0, none⟩) n n) (hx : a.eval (.tmp 56) = .slice (some ⟨g2, off, none⟩) ys.length c2)
    (B1 : Blk w g1 .u8 (List.replicate n 0)) (R2 : ∀ i, i < ys.length → w.cell? ⟨g2, off + i, none⟩ = some (.int .u8 (ys.getD i 0))) (hl : ys.length = 2) (hb : Byt ys) (hn : n ≤ 98)
    (hK : ∀ zs a' c' g' w', zs.length ≤ 100 → Byt zs → Row w' g' a' c' zs → w.heap.size ≤ g' → Below w.heap.size w w' → K (a.put o.dst (.slice a' zs.length c')) w') :
    if Region.wanted o (yielded ops a.tmps) = true then Oper.wp Try.prog o a w K Q else E := by
  obtain ⟨i0, hi, hz0, hz1, hz2⟩ := info_parts Try.info5
  refine step_append_grows hg (.tmp 54) (.tmp 56) 22 hop 5 i0 (.int .u8 0) 1 1 Try.underlying22 hi hz0 hz1 hz2 rfl (by decide) (some ⟨g1, 0, none⟩) n n ((List.replicate n (0 : Int)).map (Value.int .u8)) hs (fun h => by cases h) (by simp) ?_ ⟨g2, off, none⟩ ys.length c2 (ys.map (Value.int .u8)) hx (by simp) ?_ ?_ (by omega) (by unfold maxLen; omega) (by omega) ?_
  · intro b hb' j u hj
    simp only [Option.some.injEq] at hb'
    subst hb'
    have hjl : j < n := by
      have := (List.getElem?_eq_some_iff.1 hj).1
      simpa using this
    have := B1.cell (i := j) (by simpa using hjl)
    rw [Addr.add_mid, Nat.zero_add, this]
    simpa [hjl] using hj
  · intro j u hj
    have hjl : j < ys.length := by
      have := (List.getElem?_eq_some_iff.1 hj).1
      simpa using this
    rw [Addr.add_mid, R2 j hjl]
    simpa [hjl] using hj
  · intro u hu
    obtain ⟨x, _, rfl⟩ := List.mem_map.1 hu
    rfl
  · intro v' w' hown hgrow
    have hown' : w'.ownsRow w.heap.size 5 1 v' (List.replicate n (0 : Int) ++ ys).length ((List.replicate n (0 : Int) ++ ys).map (Value.int .u8)) := by simpa using hown
    obtain ⟨a', c', g', rfl, o1, o2, o3, o4⟩ := Own.of_ownsRow hown'
    refine hK _ a' c' g' w' (by simp; omega) ?_ ⟨o1, o2, o3⟩ o4 ((Below.refl _ _).grown hgrow (Nat.le_refl _) (by simp))
    intro i
    by_cases h1 : i < n
    · simp [List.getElem?_append, h1]
    · have := hb (i - n)
      simpa [List.getElem?_append, h1] using this

set_option maxHeartbeats 8000000 in
theorem drawNumPower_any (w : World) (g : Nat) (a : Option Addr) (c : Nat) (code : List Int) (hr : Rd w g a .u8 code) (hb : Byt code) (hl : code.length ≤ 1048576) :
    Calls Try.prog 44 #[.slice a code.length c] w fun e w' => ∃ xs us ms a1 c1 g1 a2 c2 g2 a3 c3 g3, e = .returned (.tuple #[.slice a1 xs.length c1, .slice a2 us.length c2, .slice a3 ms.length c3]) ∧ (Byt xs ∧ xs.length ≤ 100) ∧ (Byt us ∧ us.length ≤ 100) ∧ (Byt ms ∧ ms.length ≤ 100) ∧ Row w' g1 a1 c1 xs ∧ Row w' g2 a2 c2 us ∧ Row w' g3 a3 c3 ms ∧ Below w.heap.size w w' := by
  obtain ⟨i0, hi, hz0, hz1, hz2⟩ := info_parts Try.info5
  go_enter Try.func44, Try.ntmps44
  go_wp2_with fail
  refine (l1Source_any w a code.length c hl).mono ?_
  rintro e w1 ⟨rfl, S1, n1⟩
  have D : DS w g a c code 0 w1 := ⟨⟨0, S1, by omega, by omega⟩, n1, hr, hb, hl⟩
  clear S1 n1 hr hb hl
  go_wp2_with fail
  refine (ds_next D 33 (by omega) (by decide) (by decide)).mono ?_
  rintro e w2 ⟨k, rfl, hk, D', N⟩
  replace D := D'
  clear D'
  clear N
  go_wp2_with fail
  refine (ds_bytes D k (by omega) (by omega)).mono ?_
  rintro e w3 ⟨ya, aa, ca, ga, rfl, ⟨ba, la, l2a⟩, Ra, D', N⟩
  replace D := D'
  clear D' l2a
  clear N
  clear hk
  go_wp2_with fail
  refine (ds_next D 5 (by omega) (by decide) (by decide)).mono ?_
  rintro e w4 ⟨k, rfl, hk, D', N⟩
  replace D := D'
  clear D'
  replace Ra := Ra.but N
  clear N
  go_wp2_with fail
  refine (ds_bytes D k (by omega) (by omega)).mono ?_
  rintro e w5 ⟨ye, ae, ce, ge, rfl, ⟨be, le, l2e⟩, Re, D', N⟩
  replace D := D'
  clear D' l2e
  replace Ra := Ra.but N
  clear N
  clear hk
  go_wp2_with fail
  refine (ds_next D 33 (by omega) (by decide) (by decide)).mono ?_
  rintro e w6 ⟨k, rfl, hk, D', N⟩
  replace D := D'
  clear D'
  replace Ra := Ra.but N
  replace Re := Re.but N
  clear N
  have e7 : (1 : Int) + (k : Int) = ((1 + k : Nat) : Int) := by omega
  have E7 := hide e7
  clear e7
  go_wp2_with fail
  rw [E7.out]
  refine (ds_bytes D (1 + k) (by omega) (by omega)).mono ?_
  rintro e w7 ⟨ym, am, cm, gm, rfl, ⟨bm, lm, l2m⟩, Rm, D', N⟩
  replace D := D'
  clear D' l2m
  replace Ra := Ra.but N
  replace Re := Re.but N
  clear N
  clear E7
  clear hk
  go_wp2_with fail
  refine (ds_chance D 12 (by omega) (by decide) (by decide)).mono ?_
  rintro e w8 ⟨bb, rfl, D', N⟩
  replace D := D'
  clear D'
  replace Ra := Ra.but N
  replace Re := Re.but N
  replace Rm := Rm.but N
  clear N
  cases bb
  case' true =>
    go_wp2_with fail
    refine (ds_next D 3 (by omega) (by decide) (by decide)).mono ?_
    rintro e w9 ⟨k, rfl, hk, D', N⟩
    replace D := D'
    clear D'
    replace Ra := Ra.but N
    replace Re := Re.but N
    clear N
    have m1 : (k : Int) % 256 = (k : Int) := by omega
    have al : Below w9.heap.size w9 (w9.alloc (.cells #[.int .u8 (k : Int)] 5)) := (Below.refl _ _).alloc (Nat.le_refl _) _
    have hO : Blk (w9.alloc (.cells #[.int .u8 (k : Int)] 5)) w9.heap.size .u8 [(k : Int)] := ⟨5, heap_alloc_new w9 _⟩
    have Rn : DRow w.heap.size (w9.alloc (.cells #[.int .u8 (k : Int)] 5)) w9.heap.size (some ⟨w9.heap.size, 0, none⟩) 1 [(k : Int)] := ⟨⟨hO.own0, by simp, by simp⟩, D.lt⟩
    replace D := D.up al
    replace Ra := Ra.up al
    replace Re := Re.up al
    replace Rm := Rn
    replace bm : Byt [(k : Int)] := fun i => by match i with | 0 => simp; omega | i + 1 => simp
    replace lm : [(k : Int)].length ≤ 100 := by simp
    clear al hO Rn
  all_goals
    go_wp2_with fail
    refine (ds_chance D 12 (by omega) (by decide) (by decide)).mono ?_
    rintro e w10 ⟨bb, rfl, D', N⟩
    replace D := D'
    clear D'
    replace Ra := Ra.but N
    replace Re := Re.but N
    replace Rm := Rm.but N
    clear N
    cases bb
    case' true =>
      clear Re be le
      go_wp2_with fail
      refine (ds_next D 4 (by omega) (by decide) (by decide)).mono ?_
      rintro e w11 ⟨k, rfl, hk, D', N⟩
      replace D := D'
      clear D'
      replace Ra := Ra.but N
      replace Rm := Rm.but N
      clear N
      have e7 : (38 : Int) + (k : Int) = ((38 + k : Nat) : Int) := by omega
      have E7 := hide e7
      clear e7
      go_wp2_with fail
      rw [E7.out]
      refine (ds_bytes D (38 + k) (by omega) (by omega)).mono ?_
      rintro e w12 ⟨ye, ae, ce, ge, rfl, ⟨be, le, l2e⟩, Re, D', N⟩
      replace D := D'
      clear D' l2e
      replace Ra := Ra.but N
      replace Rm := Rm.but N
      clear N
      clear E7
      clear hk
      clear Rm bm lm
      go_wp2_with fail
      refine (ds_next D 8 (by omega) (by decide) (by decide)).mono ?_
      rintro e w13 ⟨k, rfl, hk, D', N⟩
      replace D := D'
      clear D'
      replace Ra := Ra.but N
      replace Re := Re.but N
      clear N
      have e7 : (1 : Int) + (k : Int) = ((1 + k : Nat) : Int) := by omega
      have E7 := hide e7
      clear e7
      go_wp2_with fail
      rw [E7.out]
      refine (ds_bytes D (1 + k) (by omega) (by omega)).mono ?_
      rintro e w14 ⟨ym, am, cm, gm, rfl, ⟨bm, lm, l2m⟩, Rm, D', N⟩
      replace D := D'
      clear D' l2m
      replace Ra := Ra.but N
      replace Re := Re.but N
      clear N
      clear E7
      clear hk
    all_goals
      go_wp2_with fail
      refine (ds_chance D 15 (by omega) (by decide) (by decide)).mono ?_
      rintro e w15 ⟨bb, rfl, D', N⟩
      replace D := D'
      clear D'
      replace Ra := Ra.but N
      replace Re := Re.but N
      replace Rm := Rm.but N
      clear N
      cases bb
      case' true =>
        clear Ra ba la
        go_wp2_with fail
        refine (ds_next D 3 (by omega) (by decide) (by decide)).mono ?_
        rintro e w16 ⟨k, rfl, hk, D', N⟩
        replace D := D'
        clear D'
        replace Re := Re.but N
        replace Rm := Rm.but N
        clear N
        have e7 : (39 : Int) + (k : Int) = ((39 + k : Nat) : Int) := by omega
        have E7 := hide e7
        clear e7
        go_wp2_with fail
        rw [E7.out]
        refine (ds_bytes D (39 + k) (by omega) (by omega)).mono ?_
        rintro e w17 ⟨ya, aa, ca, ga, rfl, ⟨ba, la, l2a⟩, Ra, D', N⟩
        replace D := D'
        clear D' l2a
        replace Re := Re.but N
        replace Rm := Rm.but N
        clear N
        clear E7
        clear hk
      all_goals
        go_wp2_with fail
        refine (ds_chance D 15 (by omega) (by decide) (by decide)).mono ?_
        rintro e w18 ⟨bb, rfl, D', N⟩
        replace D := D'
        clear D'
        replace Ra := Ra.but N
        replace Re := Re.but N
        replace Rm := Rm.but N
        clear N
        cases bb
        case true =>
          clear Rm bm lm
          go_wp2_with fail
          replace D := D.up ((Below.refl _ _).drew)
          replace Ra := Ra.up ((Below.refl _ _).drew)
          replace Re := Re.up ((Below.refl _ _).drew)
          go_region_law (first
            | (refine app_step rfl rfl (37 + k) x1.heap.size g2 off c2 y2 (by simp [Act.eval]) (by simp [Act.eval]) B2 (unhide hc2) L2.out b2 (by omega) ?_; intro zs a9 c9 g9 x3 lz bz Rz hz nz)
            | (refine app_step rfl rfl (37 + k) x2.heap.size g2 off c2 y2 (by simp [Act.eval]) (by simp [Act.eval]) ⟨5, heap_alloc_new x2 _⟩ (unhide hc3) L2.out b2 (by omega) ?_; intro zs a9 c9 g9 x3 lz bz Rz hz nz)
            | (go_simp; go_wp2_with (first
              | (go_at_call 73; refine (ds_next D 3 (by omega) (by decide) (by decide)).mono ?_; rintro e x1 ⟨k, rfl, hk, D1, N1⟩; have hw : IntKind.i64.wrap (37 + (k : Int)) = 37 + (k : Int) := (by rw [IntKind.wrap_i64]; omega); have hmk : ∀ W : World, (Instr.makeSlice 22 (.int .i64 (37 + (k : Int))) (.int .i64 (37 + (k : Int)))).run Try.prog W = .ok (.slice (some ⟨W.heap.size, 0, none⟩) (37 + k) (37 + k)) (W.alloc (ZB (37 + k))) := fun W => mk_run (37 + k) (by omega) W)
              | (go_at_call 71; refine (ds_bytes D1 2 (by omega) (by omega)).mono ?_; rintro e x2 ⟨y2, a2, c2, g2, rfl, ⟨b2, _, l2'⟩, R2, D2, N2⟩; have L2 := hide (l2' rfl); have lg := R2.1.1.rd.lt (by have := L2.out; omega); obtain ⟨off, rfl, hc2⟩ := R2.1.1.rd (by have := L2.out; omega); have hc3 := hide (fun (i : Nat) (hi : i < y2.length) => (((Below.refl x2.heap.size x2).alloc (Nat.le_refl _) (ZB (37 + k))).cell (p := ⟨g2, off + i, none⟩) lg).trans (hc2 i hi)); clear l2' hc2 lg)
              | (go_at_call 71; refine (ds_bytes (D1.up ((Below.refl _ _).alloc (Nat.le_refl _) (ZB (37 + k)))) 2 (by omega) (by omega)).mono ?_; rintro e x2 ⟨y2, a2, c2, g2, rfl, ⟨b2, _, l2'⟩, R2, D2, N2⟩; have L2 := hide (l2' rfl); obtain ⟨off, rfl, hc2'⟩ := R2.1.1.rd (by have := L2.out; omega); have hc2 := hide hc2'; clear l2' hc2'; have B2 : Blk x2 x1.heap.size .u8 (List.replicate (37 + k) 0) := (show Blk (x1.alloc (ZB (37 + k))) x1.heap.size .u8 (List.replicate (37 + k) 0) from ⟨5, heap_alloc_new x1 _⟩).of_block (N2.block _ (by simp) (by have := D1.lt; omega))))))
          all_goals
            obtain ⟨Ra3, Re3, n3⟩ : DRow w.heap.size x3 ga aa ca ya ∧ DRow w.heap.size x3 ge ae ce ye ∧ Below w.heap.size w x3 := by
              have Ra1 := Ra.but N1
              have Re1 := Re.but N1
              first
                | exact ⟨(((Ra1.up ((Below.refl _ _).alloc (Nat.le_refl _) (ZB (37 + k)))).but N2).up nz), (((Re1.up ((Below.refl _ _).alloc (Nat.le_refl _) (ZB (37 + k)))).but N2).up nz), nxt D2.nb nz⟩
                | exact ⟨((Ra1.but N2).up (nxt ((Below.refl _ _).alloc (Nat.le_refl _) (ZB (37 + k))) nz)), ((Re1.but N2).up (nxt ((Below.refl _ _).alloc (Nat.le_refl _) (ZB (37 + k))) nz)), nxt D2.nb (nxt ((Below.refl _ _).alloc (Nat.le_refl _) (ZB (37 + k))) nz)⟩
            clear Ra Re D D1 D2 N1 N2 nz hw hmk R2
            go_wp2
            go_ret3
            exact ⟨ya, ye, zs, aa, ca, ga, ae, ce, ge, a9, c9, g9, rfl, ⟨ba, la⟩, ⟨be, le⟩, ⟨bz, lz⟩, Ra3.1, Re3.1, Rz, n3⟩
        case false =>
          have n9 := D.nb
          go_wp2
          go_ret3
          exact ⟨_, _, _, _, _, _, _, _, _, _, _, _, rfl, ⟨ba, la⟩, ⟨be, le⟩, ⟨bm, lm⟩, Ra.1, Re.1, Rm.1, n9⟩
end Go.Proofs.Ythdjopkmlcdoeaa
