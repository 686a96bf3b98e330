import Derived.Test.YthfbchkonklmkaaSpD
import Derived.Test.YthfbchkonklmkaaCcH
import Derived.Maps.AppendAt
import Derived.Deep.RegionHeld3
import Derived.Test.YthfbchkonklmkaaPzC
import Derived.Test.YthfbchkonklmkaaPoC
import Derived.ChangeKeysEq
import Derived.Test.YthfbchkonklmkaaRgV
import Derived.Test.YthfbchkonklmkaaSpecA
import Derived.Test.YthfbchkonklmkaaHelp
import Derived.Laws.BytesString
import Derived.Deep.MidRow
import Derived.Test.YthfbchkonklmkaaApd

/-
  The model's StreamXor (written by gens/spe.py).
-/
namespace Go.Proofs.Ythfbchkonklmkaa
open Go Go.RowKit

theorem step_append_ex {P : Program} {ops : Array Oper} {o : Oper} {a : Act} {w : World} {K : Act → World → Prop} {Q : Exit → Act → World → Prop} {E : Prop} (hg : o.guard = none) (s x : Operand) (t tn : TypeId)
    (ho : o.op = .call { callee := .builtin .append, args := #[s, x], argTypes := #[t, tn] }) (vs vx : Value) (hs : a.eval s = vs) (hx : a.eval x = vx) (R : Value → World → Prop)
    (H : ∃ v' w', (Builtin.append_ #[t, tn] o.type #[vs, vx]).run P w = .ok v' w' ∧ R v' w') (hK : ∀ v' w', R v' w' → K (a.put o.dst v') w') :
    if Region.wanted o (yielded ops a.tmps) = true then Oper.wp P o a w K Q else E := by
  have hw : Region.wanted o (yielded ops a.tmps) = true := by simp [Region.wanted, hg]
  rw [if_pos hw]
  obtain ⟨v', w', hr, hR⟩ := H
  exact Lib.wp_append_run w s x t tn ho vs vx hs hx v' w' hr (hK v' w' hR)
/-- An append, that it turns its own row alone, and where the new one lies. -/
theorem append_anyH {P : Program} (w : World) (ty : TypeId) (i : TypeInfo) (ht : P.underlying 22 = some (.slice 5)) (hi : P.info? 5 = some i) (hz : i.zero = some (.int .u8 0)) (hsize : i.size = 1) (hby : i.bytes = 1)
    (base : Nat) (v : Value) (xs : List Int) (hown : RowB w base v xs) (g o c : Nat) (us : List Int) (hr : Rd w g (some ⟨g, o, none⟩) .u8 us) (hl : xs.length + us.length ≤ 1099511627776) (hbase : base ≤ w.heap.size) :
    ∃ v' w', (Builtin.append_ #[22, 22] ty #[v, .slice (some ⟨g, o, none⟩) us.length c]).run P w = .ok v' w' ∧ RowB w' base v' (xs ++ us) ∧ w.grownBy w' v.ownBlock ∧ (v'.ownBlock = v.ownBlock ∨ v'.ownBlock = some w.heap.size) := by
  have hcell : ∀ j u, (us.map (Value.int .u8))[j]? = some u → w.cell? ((⟨g, o, none⟩ : Addr).add j) = some u := by
    intro j u hj
    have hjl : j < us.length := by
      have := (List.getElem?_eq_some_iff.1 hj).1
      simpa using this
    obtain ⟨off, ha, hcc⟩ := hr (by omega)
    simp only [Option.some.injEq] at ha
    rw [ha, Addr.add_mid, hcc j hjl]
    simpa [hjl] using hj
  have hone : ∀ u ∈ us.map (Value.int .u8), u.oneCell' = true := by
    intro u hu
    obtain ⟨x, _, rfl⟩ := List.mem_map.1 hu
    rfl
  obtain ⟨v', w', h1, h2, h3, _, h5⟩ := run_append_own_at (P := P) w base 22 ty 5 i (.int .u8 0) 1 1 ht hi hz hsize hby rfl (by decide) v xs.length (xs.map (Value.int .u8)) hown ⟨g, o, none⟩ us.length c (us.map (Value.int .u8)) (by simp) hcell hone (by unfold maxLen; omega) (by omega) hbase
  refine ⟨v', w', h1, ?_, h3, h5⟩
  show w'.ownsRow base 5 1 v' (xs ++ us).length ((xs ++ us).map (Value.int .u8))
  rw [List.length_append, List.map_append]
  exact h2
/-- A byte with the stream laid over it. -/
def sxF (key : List Int) (c : Int) (non data : List Int) (i : Nat) : Int := xr (data.getD i 0) ((strB key (c + ((i / 64 : Nat) : Int)) non).getD (i % 64) 0)
theorem sx_fill (key : List Int) (c : Int) (non data : List Int) : xoG (nsW key non) c data ((data.length + 63) / 64) = fill (sxF key c non data) data.length := by
  refine eq_of_getD (by rw [xoG_len, fill_len]) (fun i hi => ?_)
  rw [xoG_len] at hi
  rw [xoG_get _ _ _ _ hi, if_pos (by omega), fill_get _ _ _ hi]
  rfl
theorem sbA_fit {key : List Int} {c c' : Int} {non : List Int} (h : fitB key c non = true) (h0 : 0 ≤ c') (h1 : c' ≤ 4294967295) : sbA key c' non = strB key c' non := by
  unfold sbA
  rw [if_pos]
  unfold fitB at h ⊢
  simp only [Bool.and_eq_true, decide_eq_true_eq] at h ⊢
  exact ⟨h.1, h0, h1⟩
set_option maxRecDepth 100000 in
set_option maxHeartbeats 8000000 in
theorem specXor_core (w : World) (g : Nat) (a : Option Addr) (c : Nat) (key : List Int) (hr : Rd w g a .u8 key) (hb : Byt key) (hc : key.length ≤ c) (ct : Int) (h0 : 0 ≤ ct) (h1 : ct ≤ 4294967295) (g' : Nat) (a' : Option Addr) (c' : Nat) (non : List Int) (hr' : Rd w g' a' .u8 non) (hb' : Byt non) (hc' : non.length ≤ c')
    (g2 : Nat) (a2 : Option Addr) (c2 : Nat) (data : List Int) (hr2 : Rd w g2 a2 .u8 data) (hn : data.length ≤ 4194304) (hf : fitB key ct non = true) (h3 : (data.length : Int) ≤ (4294967296 - ct) * 64) :
    Calls Try.prog 35 #[.slice a key.length c, .int .i64 ct, .slice a' non.length c', .slice a2 data.length c2] w fun e w' => NewRow w.heap.size w' e .u8 (fill (sxF key ct non data) data.length) ∧ Below w.heap.size w w' := by
  obtain ⟨i0, hi, hz0, hz1, hz2⟩ := info_parts Try.info5
  have FT := fits_any w a a' c c' key non ct
  rw [hf] at FT
  have SB := fun W (k : Nat) (n : Below w.heap.size w W) => hide (specBlock_any W g a c key (hr.up n) hb hc (ct + ((k / 64 : Nat) : Int)) g' a' c' non (hr'.up n) hb' hc')
  have SA : ∀ k, k < data.length → Hid (sbA key (ct + ((k / 64 : Nat) : Int)) non = strB key (ct + ((k / 64 : Nat) : Int)) non) := fun k hk => sbA_fit hf (by omega) (by omega)
  have BLl : ∀ c, (strB key c non).length = 64 := fun c => stB_len _
  have FS : ∀ i, fill (sxF key ct non data) (i + 1) = fill (sxF key ct non data) i ++ [bits BinOp.xor IntKind.u8 (data.getD i 0) ((strB key (ct + ((i / 64 : Nat) : Int)) non).getD (i % 64) 0)] := fun i => fill_succ _ _
  have FLn : ∀ i, (fill (sxF key ct non data) i).length = i := fun i => fill_len _ _
  have q1 : decide ((4294967295 : Int) < ct + ((data.length : Int) + 63) / 64 - 1) = false := by simp; omega
  have dn : (data.length : Int) ≤ 4194304 := by omega
  have hq1 := hide q1
  clear hf hr hr' hb hb' h3
  generalize sxF key ct non data = f at *
  generalize hlen : data.length = n at *
  have HN := hide hlen
  have cb0 : (0 : Int) ≤ ((n : Int) + 63) / 64 := by omega
  have cb1 : ((n : Int) + 63) / 64 ≤ 65537 := by omega
  go_enter Try.func35, Try.ntmps35
  go_wp2_with fail
  refine FT.mono ?_
  rintro e w1 ⟨rfl, rfl⟩
  clear FT
  have n1 : Below w1.heap.size w1 (w1.alloc (.cells #[] 5)) := (Below.refl _ _).alloc (Nat.le_refl _) _
  have R1 := RowB.lit0 w1
  have z1 : (w1.alloc (.cells #[] 5)).heap.size = w1.heap.size + 1 := by simp
  have n2 : Below (w1.alloc (.cells #[] 5)).heap.size (w1.alloc (.cells #[] 5)) ((w1.alloc (.cells #[] 5)).alloc (.cells #[] 5)) := (Below.refl _ _).alloc (Nat.le_refl _) _
  go_wp2
  have R2 := R1.up n2
  have N2 := nxt n1 n2
  generalize (w1.alloc (.cells #[] 5)).alloc (.cells #[] 5) = wa at *
  clear n1 n2 R1 z1
  go_loopw [9, 10, 11] (fun v b u wr => ∃ (i : Nat), i ≤ n ∧ u = .int .i64 i ∧ RowB wr w1.heap.size v (fill f i) ∧ (i % 64 ≠ 0 → ∃ (bo bc bg : Nat), b = .slice (some ⟨bg, bo, none⟩) 64 bc ∧ Rd wr bg (some ⟨bg, bo, none⟩) .u8 (strB key (ct + ((i / 64 : Nat) : Int)) non) ∧ v.ownBlock ≠ some bg ∧ bg < wr.heap.size) ∧ Below w1.heap.size w1 wr) (fun _ _ u _ => n - (intOf u).toNat)
  case atStart => exact ⟨0, Nat.zero_le _, rfl, R2, fun h => absurd rfl h, N2⟩
  case round =>
    obtain ⟨i, hin, rfl, hV, hBk, hN⟩ := hrel
    clear R2 N2
    by_cases hlt : i < n
    · have iI : (i : Int) < (n : Int) := by omega
      by_cases h64 : i % 64 = 0
      · have e64 : (i : Int) % 64 = 0 := by omega
        have SBi := SB wr i hN
        rw [(SA i hlt).out] at SBi
        have BL := hide (BLl (ct + ((i / 64 : Nat) : Int)))
        obtain ⟨Bk, hBk'⟩ : ∃ b, b = strB key (ct + ((i / 64 : Nat) : Int)) non := ⟨_, rfl⟩
        rw [← hBk'] at SBi BL
        obtain ⟨kq, hkq⟩ : ∃ k, k = i / 64 := ⟨_, rfl⟩
        rw [← hkq] at SBi
        have d64 : (i : Int) / 64 = (kq : Int) := by omega
        have b64 : (kq : Int) ≤ 65537 := by omega
        have b65 : 0 ≤ ct + (kq : Int) := by omega
        have b66 : ct + (kq : Int) ≤ 4295032833 := by omega
        clear hkq
        have HBk := hide hBk'.symm
        clear hBk' hBk SB SA
        go_wp2_with fail
        refine SBi.out.mono ?_
        rintro e w3 ⟨⟨ba, bc, bg, rfl, bO, bp, bq, br⟩, n3⟩
        obtain ⟨bo, eb, -⟩ := bO.rd (by rw [BL.out]; decide)
        subst eb
        have bR := bO.rd
        rw [BL.out]
        have sV := hV.up n3
        have sN := nxt hN n3
        have bl := bR.lt (by rw [BL.out]; decide)
        have bN : Value.ownBlock u9 ≠ some bg := fun e => by have := (World.ownsRow.lt hV bg e).2; omega
        clear SBi bO bp bq hV hN n3
        go_wp2_with fail
        clear e64 d64
        obtain ⟨im, him⟩ : ∃ m, m = i % 64 := ⟨_, rfl⟩
        have m64 : (i : Int) % 64 = (im : Int) := by omega
        have l64 : (im : Int) < 64 := by omega
        have k64 : (0 : Int) ≤ (im : Int) := by omega
        have mt : Int.tmod (i : Int) 64 = (im : Int) := by rw [Int.tmod_eq_emod_of_nonneg (by omega)]; exact m64
        have i00 : (0 : Int) ≤ (i : Int) := by omega
        have im64 : im < 64 := by omega
        have FE : Hid (fill f (i + 1) = fill f i ++ [bits BinOp.xor IntKind.u8 (data.getD i 0) (Bk.getD im 0)]) := by show _ = _; rw [FS i, HBk.out, him]
        obtain ⟨o2, ea2, hc2⟩ := hr2 (by rw [HN.out]; omega)
        subst ea2
        have gl2 := hr2.lt (by rw [HN.out]; omega)
        have CD : ∀ W, Below w1.heap.size w1 W → W.cell? ⟨g2, o2 + i, none⟩ = some (.int .u8 (data.getD i 0)) := fun W h => (World.cell?_of_block (a := ⟨g2, o2 + i, none⟩) (h.block g2 gl2)).trans (hc2 i (by rw [HN.out]; exact hlt))
        have CB : ∀ W, Rd W bg (some ⟨bg, bo, none⟩) .u8 Bk → W.cell? ⟨bg, bo + im, none⟩ = some (.int .u8 (Bk.getD im 0)) := fun W h => by
          obtain ⟨o3, e3, hc3⟩ := h (by rw [BL.out]; decide)
          simp only [Option.some.injEq, Addr.mk.injEq, true_and, and_true] at e3
          subst e3
          exact hc3 im (by rw [BL.out]; exact im64)
        clear him hc2
        generalize data.getD i 0 = dv at *
        generalize Bk.getD im 0 = bv at *
        have cd0 := CD w3 sN
        have cb0 := CB w3 bR
        have A0 : Hid (∃ v' w7, (Builtin.append_ #[22, 22] 22 #[u9, .slice (some ⟨w3.heap.size, 0, none⟩) 1 1]).run Try.prog (w3.drew.alloc (.cells #[.int .u8 (bits BinOp.xor IntKind.u8 dv bv)] 5)) = .ok v' w7 ∧ (RowB w7 w1.heap.size v' (fill f (i + 1)) ∧ Below w1.heap.size w1 w7 ∧ Rd w7 bg (some ⟨bg, bo, none⟩) .u8 Bk ∧ v'.ownBlock ≠ some bg ∧ bg < w7.heap.size ∧ (w7.cell? ⟨g2, o2 + i, none⟩ = some (.int .u8 dv) ∧ w7.cell? ⟨bg, bo + im, none⟩ = some (.int .u8 bv)))) := by
          have n6 : Below w3.heap.size w3 (w3.drew.alloc (.cells #[.int .u8 (bits BinOp.xor IntKind.u8 dv bv)] 5)) := ((Below.refl _ _).drew).alloc (Nat.le_refl _) _
          have B6 : Blk (w3.drew.alloc (.cells #[.int .u8 (bits BinOp.xor IntKind.u8 dv bv)] 5)) w3.heap.size .u8 [bits BinOp.xor IntKind.u8 dv bv] := blk_lit1 w3.drew .u8 5 _
          have z6 : (w3.drew.alloc (.cells #[.int .u8 (bits BinOp.xor IntKind.u8 dv bv)] 5)).heap.size = w3.heap.size + 1 := by simp
          generalize w3.drew.alloc (.cells #[.int .u8 (bits BinOp.xor IntKind.u8 dv bv)] 5) = wz at *
          have sz := sN.size
          obtain ⟨v', w7, hap, o7, G7, W7⟩ := append_anyH (P := Try.prog) wz 22 i0 Try.underlying22 hi hz0 hz1 hz2 w1.heap.size _ _ (sV.up n6) w3.heap.size 0 1 [bits BinOp.xor IntKind.u8 dv bv] B6.own0.rd (by rw [FLn]; simp; omega) (by omega)
          have lo := fun k h => World.ownsRow.lt sV k h
          have N7 : Below w1.heap.size w1 w7 := (sN.trans (n6.mono sz)).trans ⟨G7.os, G7.tape, G7.output, G7.size, fun k hk => G7.block k (by omega) (fun e => by have := (lo k e.symm).1; omega)⟩
          have bR7 := (bR.up n6).of_block (G7.block bg (by omega) (fun e => bN e.symm))
          have s7 := G7.size
          refine ⟨v', w7, hap, by rw [FE.out]; exact o7, N7, bR7, ?_, by omega, CD _ N7, CB _ bR7⟩
          rcases W7 with h | h
          · rw [h]; exact bN
          · rw [h]; intro e; simp only [Option.some.injEq] at e; omega
        clear CD CB FE FS
        go_region_held3 (fun W => W.cell? ⟨g2, o2 + i, none⟩ = some (.int .u8 dv) ∧ W.cell? ⟨bg, bo + im, none⟩ = some (.int .u8 bv))
          (first | go_keep | exact S7)
          (first | (refine step_append_ex rfl (.tmp 46) (.tmp 57) 22 22 rfl _ (.slice (some ⟨w3.heap.size, 0, none⟩) 1 1) rfl rfl _ A0.out ?_; rintro v' w7 ⟨o7, N7, bR7, bN7, bl7, S7⟩) | fail)
        clear A0
        go_wp2
        go_roundw
        case rel => exact ⟨i + 1, by omega, by go_num, o7, fun h => ⟨bo, bc, bg, rfl, by rw [show (i + 1) / 64 = i / 64 by omega, HBk.out]; exact bR7, bN7, bl7⟩, N7⟩
        case measure => simp [intOf]; omega
      · obtain ⟨bo, bc, bg, rfl, bR, bN, bl⟩ := hBk h64
        have e64 : ¬ ((i : Int) % 64 = 0) := by omega
        have BL := hide (BLl (ct + ((i / 64 : Nat) : Int)))
        obtain ⟨Bk, hBk'⟩ : ∃ b, b = strB key (ct + ((i / 64 : Nat) : Int)) non := ⟨_, rfl⟩
        rw [← hBk'] at bR BL
        have HBk := hide hBk'.symm
        clear hBk' hBk SB SA
        have sV := hV
        have sN := hN
        clear hV hN
        go_wp2_with fail
        clear e64
        obtain ⟨im, him⟩ : ∃ m, m = i % 64 := ⟨_, rfl⟩
        have m64 : (i : Int) % 64 = (im : Int) := by omega
        have l64 : (im : Int) < 64 := by omega
        have k64 : (0 : Int) ≤ (im : Int) := by omega
        have mt : Int.tmod (i : Int) 64 = (im : Int) := by rw [Int.tmod_eq_emod_of_nonneg (by omega)]; exact m64
        have i00 : (0 : Int) ≤ (i : Int) := by omega
        have im64 : im < 64 := by omega
        have FE : Hid (fill f (i + 1) = fill f i ++ [bits BinOp.xor IntKind.u8 (data.getD i 0) (Bk.getD im 0)]) := by show _ = _; rw [FS i, HBk.out, him]
        obtain ⟨o2, ea2, hc2⟩ := hr2 (by rw [HN.out]; omega)
        subst ea2
        have gl2 := hr2.lt (by rw [HN.out]; omega)
        have CD : ∀ W, Below w1.heap.size w1 W → W.cell? ⟨g2, o2 + i, none⟩ = some (.int .u8 (data.getD i 0)) := fun W h => (World.cell?_of_block (a := ⟨g2, o2 + i, none⟩) (h.block g2 gl2)).trans (hc2 i (by rw [HN.out]; exact hlt))
        have CB : ∀ W, Rd W bg (some ⟨bg, bo, none⟩) .u8 Bk → W.cell? ⟨bg, bo + im, none⟩ = some (.int .u8 (Bk.getD im 0)) := fun W h => by
          obtain ⟨o3, e3, hc3⟩ := h (by rw [BL.out]; decide)
          simp only [Option.some.injEq, Addr.mk.injEq, true_and, and_true] at e3
          subst e3
          exact hc3 im (by rw [BL.out]; exact im64)
        clear him hc2
        generalize data.getD i 0 = dv at *
        generalize Bk.getD im 0 = bv at *
        have cd0 := CD wr sN
        have cb0 := CB wr bR
        have A0 : Hid (∃ v' w7, (Builtin.append_ #[22, 22] 22 #[u9, .slice (some ⟨wr.heap.size, 0, none⟩) 1 1]).run Try.prog (wr.drew.alloc (.cells #[.int .u8 (bits BinOp.xor IntKind.u8 dv bv)] 5)) = .ok v' w7 ∧ (RowB w7 w1.heap.size v' (fill f (i + 1)) ∧ Below w1.heap.size w1 w7 ∧ Rd w7 bg (some ⟨bg, bo, none⟩) .u8 Bk ∧ v'.ownBlock ≠ some bg ∧ bg < w7.heap.size ∧ (w7.cell? ⟨g2, o2 + i, none⟩ = some (.int .u8 dv) ∧ w7.cell? ⟨bg, bo + im, none⟩ = some (.int .u8 bv)))) := by
          have n6 : Below wr.heap.size wr (wr.drew.alloc (.cells #[.int .u8 (bits BinOp.xor IntKind.u8 dv bv)] 5)) := ((Below.refl _ _).drew).alloc (Nat.le_refl _) _
          have B6 : Blk (wr.drew.alloc (.cells #[.int .u8 (bits BinOp.xor IntKind.u8 dv bv)] 5)) wr.heap.size .u8 [bits BinOp.xor IntKind.u8 dv bv] := blk_lit1 wr.drew .u8 5 _
          have z6 : (wr.drew.alloc (.cells #[.int .u8 (bits BinOp.xor IntKind.u8 dv bv)] 5)).heap.size = wr.heap.size + 1 := by simp
          generalize wr.drew.alloc (.cells #[.int .u8 (bits BinOp.xor IntKind.u8 dv bv)] 5) = wz at *
          have sz := sN.size
          obtain ⟨v', w7, hap, o7, G7, W7⟩ := append_anyH (P := Try.prog) wz 22 i0 Try.underlying22 hi hz0 hz1 hz2 w1.heap.size _ _ (sV.up n6) wr.heap.size 0 1 [bits BinOp.xor IntKind.u8 dv bv] B6.own0.rd (by rw [FLn]; simp; omega) (by omega)
          have lo := fun k h => World.ownsRow.lt sV k h
          have N7 : Below w1.heap.size w1 w7 := (sN.trans (n6.mono sz)).trans ⟨G7.os, G7.tape, G7.output, G7.size, fun k hk => G7.block k (by omega) (fun e => by have := (lo k e.symm).1; omega)⟩
          have bR7 := (bR.up n6).of_block (G7.block bg (by omega) (fun e => bN e.symm))
          have s7 := G7.size
          refine ⟨v', w7, hap, by rw [FE.out]; exact o7, N7, bR7, ?_, by omega, CD _ N7, CB _ bR7⟩
          rcases W7 with h | h
          · rw [h]; exact bN
          · rw [h]; intro e; simp only [Option.some.injEq] at e; omega
        clear CD CB FE FS
        go_region_held3 (fun W => W.cell? ⟨g2, o2 + i, none⟩ = some (.int .u8 dv) ∧ W.cell? ⟨bg, bo + im, none⟩ = some (.int .u8 bv))
          (first | go_keep | exact S7)
          (first | (refine step_append_ex rfl (.tmp 46) (.tmp 57) 22 22 rfl _ (.slice (some ⟨wr.heap.size, 0, none⟩) 1 1) rfl rfl _ A0.out ?_; rintro v' w7 ⟨o7, N7, bR7, bN7, bl7, S7⟩) | fail)
        clear A0
        go_wp2
        go_roundw
        case rel => exact ⟨i + 1, by omega, by go_num, o7, fun h => ⟨bo, bc, bg, rfl, by rw [show (i + 1) / 64 = i / 64 by omega, HBk.out]; exact bR7, bN7, bl7⟩, N7⟩
        case measure => simp [intOf]; omega
    · obtain rfl : i = n := by omega
      obtain ⟨a3, c3, g3, rfl, o3, p3, q3, r3⟩ := hV.own
      have FL := hide (FLn i)
      go_wp2
      go_ret
      exact ⟨⟨a3, c3, g3, rfl, o3, p3, q3, r3⟩, hN⟩
set_option maxHeartbeats 1000000 in
theorem specXor_any (w : World) (g : Nat) (a : Option Addr) (c : Nat) (key : List Int) (hr : Rd w g a .u8 key) (hb : Byt key) (hc : key.length ≤ c) (ct : Int) (g' : Nat) (a' : Option Addr) (c' : Nat) (non : List Int) (hr' : Rd w g' a' .u8 non) (hb' : Byt non) (hc' : non.length ≤ c')
    (g2 : Nat) (a2 : Option Addr) (c2 : Nat) (data : List Int) (hr2 : Rd w g2 a2 .u8 data) (hn : data.length ≤ 4194304) :
    Calls Try.prog 35 #[.slice a key.length c, .int .i64 ct, .slice a' non.length c', .slice a2 data.length c2] w fun e w' => NewRow w.heap.size w' e .u8 (sxA key ct non data) ∧ Below w.heap.size w w' := by
  by_cases hf : fitB key ct non = true
  · have h := hf
    unfold fitB at h
    simp only [Bool.and_eq_true, decide_eq_true_eq] at h
    by_cases h3 : hasC ct data.length = true
    · have h3' := h3
      unfold hasC at h3'
      simp only [decide_eq_true_eq] at h3'
      have RS : sxA key ct non data = fill (sxF key ct non data) data.length := by unfold sxA; rw [if_pos ⟨hf, h3⟩]; exact sx_fill key ct non data
      rw [RS]
      exact specXor_core w g a c key hr hb hc ct h.2.1 h.2.2 g' a' c' non hr' hb' hc' g2 a2 c2 data hr2 hn hf h3'
    · have RS : Hid (sxA key ct non data = []) := by show _ = _; unfold sxA; rw [if_neg (fun h => h3 h.2)]
      rw [RS.out]
      unfold hasC at h3
      simp only [decide_eq_true_eq] at h3
      have FT := fits_any w a a' c c' key non ct
      rw [hf] at FT
      have h0 := h.2.1
      have h1 := h.2.2
      have q1 : decide ((4294967295 : Int) < ct + ((data.length : Int) + 63) / 64 - 1) = true := by simp; omega
      have cb0 : (0 : Int) ≤ ((data.length : Int) + 63) / 64 := by omega
      have cb1 : ((data.length : Int) + 63) / 64 ≤ 65537 := by omega
      clear hf RS h h3
      go_enter Try.func35, Try.ntmps35
      go_wp2_with fail
      refine FT.mono ?_
      rintro e w1 ⟨rfl, rfl⟩
      go_wp2
      go_ret
      exact ⟨newRow_e _ _, (Below.refl _ _).alloc (Nat.le_refl _) _⟩
  · have RS : Hid (sxA key ct non data = []) := by show _ = _; unfold sxA; rw [if_neg (fun h => hf h.1)]
    rw [RS.out]
    have FT := fits_any w a a' c c' key non ct
    rw [show fitB key ct non = false by simpa using hf] at FT
    clear hf RS
    go_enter Try.func35, Try.ntmps35
    go_wp2_with fail
    refine FT.mono ?_
    rintro e w1 ⟨rfl, rfl⟩
    go_wp2
    go_ret
    exact ⟨newRow_e _ _, (Below.refl _ _).alloc (Nat.le_refl _) _⟩
end Go.Proofs.Ythfbchkonklmkaa

/-
  The model's StreamXor answers a row that may be appended to (written by gens/spr.py).
-/
namespace Go.Proofs.Ythfbchkonklmkaa
open Go Go.RowKit

set_option maxRecDepth 100000 in
set_option maxHeartbeats 8000000 in
theorem specXorR_core (w : World) (g : Nat) (a : Option Addr) (c : Nat) (key : List Int) (hr : Rd w g a .u8 key) (hb : Byt key) (hc : key.length ≤ c) (ct : Int) (h0 : 0 ≤ ct) (h1 : ct ≤ 4294967295) (g' : Nat) (a' : Option Addr) (c' : Nat) (non : List Int) (hr' : Rd w g' a' .u8 non) (hb' : Byt non) (hc' : non.length ≤ c')
    (g2 : Nat) (a2 : Option Addr) (c2 : Nat) (data : List Int) (hr2 : Rd w g2 a2 .u8 data) (hn : data.length ≤ 4194304) (hf : fitB key ct non = true) (h3 : (data.length : Int) ≤ (4294967296 - ct) * 64) :
    Calls Try.prog 35 #[.slice a key.length c, .int .i64 ct, .slice a' non.length c', .slice a2 data.length c2] w fun e w' => (∃ v, e = .returned v ∧ RowB w' w.heap.size v (fill (sxF key ct non data) data.length)) ∧ Below w.heap.size w w' := by
  obtain ⟨i0, hi, hz0, hz1, hz2⟩ := info_parts Try.info5
  have FT := fits_any w a a' c c' key non ct
  rw [hf] at FT
  have SB := fun W (k : Nat) (n : Below w.heap.size w W) => hide (specBlock_any W g a c key (hr.up n) hb hc (ct + ((k / 64 : Nat) : Int)) g' a' c' non (hr'.up n) hb' hc')
  have SA : ∀ k, k < data.length → Hid (sbA key (ct + ((k / 64 : Nat) : Int)) non = strB key (ct + ((k / 64 : Nat) : Int)) non) := fun k hk => sbA_fit hf (by omega) (by omega)
  have BLl : ∀ c, (strB key c non).length = 64 := fun c => stB_len _
  have FS : ∀ i, fill (sxF key ct non data) (i + 1) = fill (sxF key ct non data) i ++ [bits BinOp.xor IntKind.u8 (data.getD i 0) ((strB key (ct + ((i / 64 : Nat) : Int)) non).getD (i % 64) 0)] := fun i => fill_succ _ _
  have FLn : ∀ i, (fill (sxF key ct non data) i).length = i := fun i => fill_len _ _
  have q1 : decide ((4294967295 : Int) < ct + ((data.length : Int) + 63) / 64 - 1) = false := by simp; omega
  have dn : (data.length : Int) ≤ 4194304 := by omega
  have hq1 := hide q1
  clear hf hr hr' hb hb' h3
  generalize sxF key ct non data = f at *
  generalize hlen : data.length = n at *
  have HN := hide hlen
  have cb0 : (0 : Int) ≤ ((n : Int) + 63) / 64 := by omega
  have cb1 : ((n : Int) + 63) / 64 ≤ 65537 := by omega
  go_enter Try.func35, Try.ntmps35
  go_wp2_with fail
  refine FT.mono ?_
  rintro e w1 ⟨rfl, rfl⟩
  clear FT
  have n1 : Below w1.heap.size w1 (w1.alloc (.cells #[] 5)) := (Below.refl _ _).alloc (Nat.le_refl _) _
  have R1 := RowB.lit0 w1
  have z1 : (w1.alloc (.cells #[] 5)).heap.size = w1.heap.size + 1 := by simp
  have n2 : Below (w1.alloc (.cells #[] 5)).heap.size (w1.alloc (.cells #[] 5)) ((w1.alloc (.cells #[] 5)).alloc (.cells #[] 5)) := (Below.refl _ _).alloc (Nat.le_refl _) _
  go_wp2
  have R2 := R1.up n2
  have N2 := nxt n1 n2
  generalize (w1.alloc (.cells #[] 5)).alloc (.cells #[] 5) = wa at *
  clear n1 n2 R1 z1
  go_loopw [9, 10, 11] (fun v b u wr => ∃ (i : Nat), i ≤ n ∧ u = .int .i64 i ∧ RowB wr w1.heap.size v (fill f i) ∧ (i % 64 ≠ 0 → ∃ (bo bc bg : Nat), b = .slice (some ⟨bg, bo, none⟩) 64 bc ∧ Rd wr bg (some ⟨bg, bo, none⟩) .u8 (strB key (ct + ((i / 64 : Nat) : Int)) non) ∧ v.ownBlock ≠ some bg ∧ bg < wr.heap.size) ∧ Below w1.heap.size w1 wr) (fun _ _ u _ => n - (intOf u).toNat)
  case atStart => exact ⟨0, Nat.zero_le _, rfl, R2, fun h => absurd rfl h, N2⟩
  case round =>
    obtain ⟨i, hin, rfl, hV, hBk, hN⟩ := hrel
    clear R2 N2
    by_cases hlt : i < n
    · have iI : (i : Int) < (n : Int) := by omega
      by_cases h64 : i % 64 = 0
      · have e64 : (i : Int) % 64 = 0 := by omega
        have SBi := SB wr i hN
        rw [(SA i hlt).out] at SBi
        have BL := hide (BLl (ct + ((i / 64 : Nat) : Int)))
        obtain ⟨Bk, hBk'⟩ : ∃ b, b = strB key (ct + ((i / 64 : Nat) : Int)) non := ⟨_, rfl⟩
        rw [← hBk'] at SBi BL
        obtain ⟨kq, hkq⟩ : ∃ k, k = i / 64 := ⟨_, rfl⟩
        rw [← hkq] at SBi
        have d64 : (i : Int) / 64 = (kq : Int) := by omega
        have b64 : (kq : Int) ≤ 65537 := by omega
        have b65 : 0 ≤ ct + (kq : Int) := by omega
        have b66 : ct + (kq : Int) ≤ 4295032833 := by omega
        clear hkq
        have HBk := hide hBk'.symm
        clear hBk' hBk SB SA
        go_wp2_with fail
        refine SBi.out.mono ?_
        rintro e w3 ⟨⟨ba, bc, bg, rfl, bO, bp, bq, br⟩, n3⟩
        obtain ⟨bo, eb, -⟩ := bO.rd (by rw [BL.out]; decide)
        subst eb
        have bR := bO.rd
        rw [BL.out]
        have sV := hV.up n3
        have sN := nxt hN n3
        have bl := bR.lt (by rw [BL.out]; decide)
        have bN : Value.ownBlock u9 ≠ some bg := fun e => by have := (World.ownsRow.lt hV bg e).2; omega
        clear SBi bO bp bq hV hN n3
        go_wp2_with fail
        clear e64 d64
        obtain ⟨im, him⟩ : ∃ m, m = i % 64 := ⟨_, rfl⟩
        have m64 : (i : Int) % 64 = (im : Int) := by omega
        have l64 : (im : Int) < 64 := by omega
        have k64 : (0 : Int) ≤ (im : Int) := by omega
        have mt : Int.tmod (i : Int) 64 = (im : Int) := by rw [Int.tmod_eq_emod_of_nonneg (by omega)]; exact m64
        have i00 : (0 : Int) ≤ (i : Int) := by omega
        have im64 : im < 64 := by omega
        have FE : Hid (fill f (i + 1) = fill f i ++ [bits BinOp.xor IntKind.u8 (data.getD i 0) (Bk.getD im 0)]) := by show _ = _; rw [FS i, HBk.out, him]
        obtain ⟨o2, ea2, hc2⟩ := hr2 (by rw [HN.out]; omega)
        subst ea2
        have gl2 := hr2.lt (by rw [HN.out]; omega)
        have CD : ∀ W, Below w1.heap.size w1 W → W.cell? ⟨g2, o2 + i, none⟩ = some (.int .u8 (data.getD i 0)) := fun W h => (World.cell?_of_block (a := ⟨g2, o2 + i, none⟩) (h.block g2 gl2)).trans (hc2 i (by rw [HN.out]; exact hlt))
        have CB : ∀ W, Rd W bg (some ⟨bg, bo, none⟩) .u8 Bk → W.cell? ⟨bg, bo + im, none⟩ = some (.int .u8 (Bk.getD im 0)) := fun W h => by
          obtain ⟨o3, e3, hc3⟩ := h (by rw [BL.out]; decide)
          simp only [Option.some.injEq, Addr.mk.injEq, true_and, and_true] at e3
          subst e3
          exact hc3 im (by rw [BL.out]; exact im64)
        clear him hc2
        generalize data.getD i 0 = dv at *
        generalize Bk.getD im 0 = bv at *
        have cd0 := CD w3 sN
        have cb0 := CB w3 bR
        have A0 : Hid (∃ v' w7, (Builtin.append_ #[22, 22] 22 #[u9, .slice (some ⟨w3.heap.size, 0, none⟩) 1 1]).run Try.prog (w3.drew.alloc (.cells #[.int .u8 (bits BinOp.xor IntKind.u8 dv bv)] 5)) = .ok v' w7 ∧ (RowB w7 w1.heap.size v' (fill f (i + 1)) ∧ Below w1.heap.size w1 w7 ∧ Rd w7 bg (some ⟨bg, bo, none⟩) .u8 Bk ∧ v'.ownBlock ≠ some bg ∧ bg < w7.heap.size ∧ (w7.cell? ⟨g2, o2 + i, none⟩ = some (.int .u8 dv) ∧ w7.cell? ⟨bg, bo + im, none⟩ = some (.int .u8 bv)))) := by
          have n6 : Below w3.heap.size w3 (w3.drew.alloc (.cells #[.int .u8 (bits BinOp.xor IntKind.u8 dv bv)] 5)) := ((Below.refl _ _).drew).alloc (Nat.le_refl _) _
          have B6 : Blk (w3.drew.alloc (.cells #[.int .u8 (bits BinOp.xor IntKind.u8 dv bv)] 5)) w3.heap.size .u8 [bits BinOp.xor IntKind.u8 dv bv] := blk_lit1 w3.drew .u8 5 _
          have z6 : (w3.drew.alloc (.cells #[.int .u8 (bits BinOp.xor IntKind.u8 dv bv)] 5)).heap.size = w3.heap.size + 1 := by simp
          generalize w3.drew.alloc (.cells #[.int .u8 (bits BinOp.xor IntKind.u8 dv bv)] 5) = wz at *
          have sz := sN.size
          obtain ⟨v', w7, hap, o7, G7, W7⟩ := append_anyH (P := Try.prog) wz 22 i0 Try.underlying22 hi hz0 hz1 hz2 w1.heap.size _ _ (sV.up n6) w3.heap.size 0 1 [bits BinOp.xor IntKind.u8 dv bv] B6.own0.rd (by rw [FLn]; simp; omega) (by omega)
          have lo := fun k h => World.ownsRow.lt sV k h
          have N7 : Below w1.heap.size w1 w7 := (sN.trans (n6.mono sz)).trans ⟨G7.os, G7.tape, G7.output, G7.size, fun k hk => G7.block k (by omega) (fun e => by have := (lo k e.symm).1; omega)⟩
          have bR7 := (bR.up n6).of_block (G7.block bg (by omega) (fun e => bN e.symm))
          have s7 := G7.size
          refine ⟨v', w7, hap, by rw [FE.out]; exact o7, N7, bR7, ?_, by omega, CD _ N7, CB _ bR7⟩
          rcases W7 with h | h
          · rw [h]; exact bN
          · rw [h]; intro e; simp only [Option.some.injEq] at e; omega
        clear CD CB FE FS
        go_region_held3 (fun W => W.cell? ⟨g2, o2 + i, none⟩ = some (.int .u8 dv) ∧ W.cell? ⟨bg, bo + im, none⟩ = some (.int .u8 bv))
          (first | go_keep | exact S7)
          (first | (refine step_append_ex rfl (.tmp 46) (.tmp 57) 22 22 rfl _ (.slice (some ⟨w3.heap.size, 0, none⟩) 1 1) rfl rfl _ A0.out ?_; rintro v' w7 ⟨o7, N7, bR7, bN7, bl7, S7⟩) | fail)
        clear A0
        go_wp2
        go_roundw
        case rel => exact ⟨i + 1, by omega, by go_num, o7, fun h => ⟨bo, bc, bg, rfl, by rw [show (i + 1) / 64 = i / 64 by omega, HBk.out]; exact bR7, bN7, bl7⟩, N7⟩
        case measure => simp [intOf]; omega
      · obtain ⟨bo, bc, bg, rfl, bR, bN, bl⟩ := hBk h64
        have e64 : ¬ ((i : Int) % 64 = 0) := by omega
        have BL := hide (BLl (ct + ((i / 64 : Nat) : Int)))
        obtain ⟨Bk, hBk'⟩ : ∃ b, b = strB key (ct + ((i / 64 : Nat) : Int)) non := ⟨_, rfl⟩
        rw [← hBk'] at bR BL
        have HBk := hide hBk'.symm
        clear hBk' hBk SB SA
        have sV := hV
        have sN := hN
        clear hV hN
        go_wp2_with fail
        clear e64
        obtain ⟨im, him⟩ : ∃ m, m = i % 64 := ⟨_, rfl⟩
        have m64 : (i : Int) % 64 = (im : Int) := by omega
        have l64 : (im : Int) < 64 := by omega
        have k64 : (0 : Int) ≤ (im : Int) := by omega
        have mt : Int.tmod (i : Int) 64 = (im : Int) := by rw [Int.tmod_eq_emod_of_nonneg (by omega)]; exact m64
        have i00 : (0 : Int) ≤ (i : Int) := by omega
        have im64 : im < 64 := by omega
        have FE : Hid (fill f (i + 1) = fill f i ++ [bits BinOp.xor IntKind.u8 (data.getD i 0) (Bk.getD im 0)]) := by show _ = _; rw [FS i, HBk.out, him]
        obtain ⟨o2, ea2, hc2⟩ := hr2 (by rw [HN.out]; omega)
        subst ea2
        have gl2 := hr2.lt (by rw [HN.out]; omega)
        have CD : ∀ W, Below w1.heap.size w1 W → W.cell? ⟨g2, o2 + i, none⟩ = some (.int .u8 (data.getD i 0)) := fun W h => (World.cell?_of_block (a := ⟨g2, o2 + i, none⟩) (h.block g2 gl2)).trans (hc2 i (by rw [HN.out]; exact hlt))
        have CB : ∀ W, Rd W bg (some ⟨bg, bo, none⟩) .u8 Bk → W.cell? ⟨bg, bo + im, none⟩ = some (.int .u8 (Bk.getD im 0)) := fun W h => by
          obtain ⟨o3, e3, hc3⟩ := h (by rw [BL.out]; decide)
          simp only [Option.some.injEq, Addr.mk.injEq, true_and, and_true] at e3
          subst e3
          exact hc3 im (by rw [BL.out]; exact im64)
        clear him hc2
        generalize data.getD i 0 = dv at *
        generalize Bk.getD im 0 = bv at *
        have cd0 := CD wr sN
        have cb0 := CB wr bR
        have A0 : Hid (∃ v' w7, (Builtin.append_ #[22, 22] 22 #[u9, .slice (some ⟨wr.heap.size, 0, none⟩) 1 1]).run Try.prog (wr.drew.alloc (.cells #[.int .u8 (bits BinOp.xor IntKind.u8 dv bv)] 5)) = .ok v' w7 ∧ (RowB w7 w1.heap.size v' (fill f (i + 1)) ∧ Below w1.heap.size w1 w7 ∧ Rd w7 bg (some ⟨bg, bo, none⟩) .u8 Bk ∧ v'.ownBlock ≠ some bg ∧ bg < w7.heap.size ∧ (w7.cell? ⟨g2, o2 + i, none⟩ = some (.int .u8 dv) ∧ w7.cell? ⟨bg, bo + im, none⟩ = some (.int .u8 bv)))) := by
          have n6 : Below wr.heap.size wr (wr.drew.alloc (.cells #[.int .u8 (bits BinOp.xor IntKind.u8 dv bv)] 5)) := ((Below.refl _ _).drew).alloc (Nat.le_refl _) _
          have B6 : Blk (wr.drew.alloc (.cells #[.int .u8 (bits BinOp.xor IntKind.u8 dv bv)] 5)) wr.heap.size .u8 [bits BinOp.xor IntKind.u8 dv bv] := blk_lit1 wr.drew .u8 5 _
          have z6 : (wr.drew.alloc (.cells #[.int .u8 (bits BinOp.xor IntKind.u8 dv bv)] 5)).heap.size = wr.heap.size + 1 := by simp
          generalize wr.drew.alloc (.cells #[.int .u8 (bits BinOp.xor IntKind.u8 dv bv)] 5) = wz at *
          have sz := sN.size
          obtain ⟨v', w7, hap, o7, G7, W7⟩ := append_anyH (P := Try.prog) wz 22 i0 Try.underlying22 hi hz0 hz1 hz2 w1.heap.size _ _ (sV.up n6) wr.heap.size 0 1 [bits BinOp.xor IntKind.u8 dv bv] B6.own0.rd (by rw [FLn]; simp; omega) (by omega)
          have lo := fun k h => World.ownsRow.lt sV k h
          have N7 : Below w1.heap.size w1 w7 := (sN.trans (n6.mono sz)).trans ⟨G7.os, G7.tape, G7.output, G7.size, fun k hk => G7.block k (by omega) (fun e => by have := (lo k e.symm).1; omega)⟩
          have bR7 := (bR.up n6).of_block (G7.block bg (by omega) (fun e => bN e.symm))
          have s7 := G7.size
          refine ⟨v', w7, hap, by rw [FE.out]; exact o7, N7, bR7, ?_, by omega, CD _ N7, CB _ bR7⟩
          rcases W7 with h | h
          · rw [h]; exact bN
          · rw [h]; intro e; simp only [Option.some.injEq] at e; omega
        clear CD CB FE FS
        go_region_held3 (fun W => W.cell? ⟨g2, o2 + i, none⟩ = some (.int .u8 dv) ∧ W.cell? ⟨bg, bo + im, none⟩ = some (.int .u8 bv))
          (first | go_keep | exact S7)
          (first | (refine step_append_ex rfl (.tmp 46) (.tmp 57) 22 22 rfl _ (.slice (some ⟨wr.heap.size, 0, none⟩) 1 1) rfl rfl _ A0.out ?_; rintro v' w7 ⟨o7, N7, bR7, bN7, bl7, S7⟩) | fail)
        clear A0
        go_wp2
        go_roundw
        case rel => exact ⟨i + 1, by omega, by go_num, o7, fun h => ⟨bo, bc, bg, rfl, by rw [show (i + 1) / 64 = i / 64 by omega, HBk.out]; exact bR7, bN7, bl7⟩, N7⟩
        case measure => simp [intOf]; omega
    · obtain rfl : i = n := by omega
      obtain ⟨a3, c3, g3, rfl, -, -, -, -⟩ := hV.own
      clear FLn
      go_wp2
      go_ret
      exact ⟨⟨_, rfl, hV⟩, hN⟩
end Go.Proofs.Ythfbchkonklmkaa

/-
  The model's l8Summed, l8Sum and Seal (written by gens/pzd.py).
-/
namespace Go.Proofs.Ythfbchkonklmkaa
open Go Go.RowKit

/-- A row that may be read. -/
def Fact.ro (xs : List Int) : Fact := ⟨fun v W => ∃ (a : Option Addr) (c g : Nat), v = .slice a xs.length c ∧ Rd W g a .u8 xs ∧ xs.length ≤ c ∧ (a = none → c = 0), fun h ⟨a, c, g, e, r, l, p⟩ => ⟨a, c, g, e, r.up h, l, p⟩⟩
set_option maxHeartbeats 1000000 in
theorem l1CopyR_any (w : World) (g : Nat) (a : Option Addr) (c : Nat) (xs : List Int) (hr : Rd w g a .u8 xs) (hc : a = none → c = 0) (hn : xs.length ≤ 4194304) :
    Calls Try.prog 51 #[.slice a xs.length c] w fun e w' => (∃ v, e = .returned v ∧ RowB w' w.heap.size v xs) ∧ Below w.heap.size w w' := by
  obtain ⟨i0, hi, hz0, hz1, hz2⟩ := info_parts Try.info5
  have hal : Below w.heap.size w (w.alloc (.cells #[] 5)) := (Below.refl _ _).alloc (Nat.le_refl _) _
  obtain ⟨v', w2, hap, o2, n2⟩ := append_any (P := Try.prog) (w.alloc (.cells #[] 5)) 22 i0 Try.underlying22 hi hz0 hz1 hz2 w.heap.size w.heap.size _ [] (RowB.lit0 w) g a c xs (hr.up hal) hc (by simp; omega) (Nat.le_refl _) (by simp)
  rw [List.nil_append] at o2
  go_enter Try.func51, Try.ntmps51
  go_wp2_with (at_builtin; refine Lib.wpList_append_run _ rfl _ _ 22 22 rfl _ _ rfl rfl _ _ hap ?_)
  go_ret
  exact ⟨⟨_, rfl, o2⟩, hal.trans n2⟩
theorem len_bval {ys : List Int} {n : Int} (_ : Byt ys) (_ : bval ys = n) (h : ys.length ≤ 1048576) : ys.length ≤ 1048576 := h
theorem little_len (ys : List Int) (n : Nat) (h : Byt ys) (v : bval ys = (n : Int)) : fill (dig ys) 8 = len8 n := fill_congr fun i _ => by rw [dig_of h, v]
set_option maxRecDepth 100000 in
set_option maxHeartbeats 8000000 in
theorem l8Summed_any (w : World) (ge : Nat) (ae : Option Addr) (ce : Nat) (ex : List Int) (he : Rd w ge ae .u8 ex) (en : ae = none → ce = 0)
    (gt : Nat) (at' : Option Addr) (ct : Nat) (tx : List Int) (ht : Rd w gt at' .u8 tx) (tn : at' = none → ct = 0) (hs : ex.length + tx.length ≤ 4000000) :
    Calls Try.prog 64 #[.slice ae ex.length ce, .slice at' tx.length ct] w fun e w' => NewRow w.heap.size w' e .u8 (smd ex tx) ∧ Below w.heap.size w w' := by
  obtain ⟨i0, hi, hz0, hz1, hz2⟩ := info_parts Try.info5
  have z1 := zpad_len ex.length
  have z2 := zpad_len tx.length
  have l1 := len8_len ex.length
  have l2 := len8_len tx.length
  have ZZ := hide (show (zpad ex.length).length < 16 ∧ (zpad tx.length).length < 16 ∧ (len8 ex.length).length = 8 ∧ (len8 tx.length).length = 8 from ⟨z1, z2, l1, l2⟩)
  have HS := hide hs
  have SMD : Hid (smd ex tx = ex ++ zpad ex.length ++ tx ++ zpad tx.length ++ len8 ex.length ++ len8 tx.length) := rfl
  have eL : ex.length ≤ 4194304 := by omega
  have tL : tx.length ≤ 4194304 := by omega
  clear z1 z2 l1 l2 hs
  go_enter Try.func64, Try.ntmps64
  go_wp2_with fail
  refine (l1CopyR_any w ge ae ce ex he en eL).mono ?_
  rintro e w1 ⟨⟨v1, rfl, R1⟩, N1⟩
  go_wp2_with fail
  refine (l8Zeros_any w1 ex.length eL).mono ?_
  rintro e w2 ⟨⟨a2, c2, g2, rfl, o2, p2, q2, r2⟩, n2⟩
  have N2 := nxt N1 n2
  obtain ⟨v3, w3, hap3, R3, n3⟩ := append_any (P := Try.prog) w2 22 i0 Try.underlying22 hi hz0 hz1 hz2 w.heap.size w.heap.size _ _ (R1.up n2) g2 a2 c2 _ o2.rd p2 (by have := ZZ.out; omega) (Nat.le_refl _) N2.size
  have N3 := N2.trans n3
  clear R1 o2 n2 n3 N1 N2
  go_upto_region 2 with (at_builtin; refine Lib.wpList_append_run _ rfl _ _ 22 22 rfl _ _ rfl rfl _ _ hap3 ?_)
  clear hap3
  obtain ⟨v4, w4, hap4, R4, n4⟩ := append_any (P := Try.prog) w3 22 i0 Try.underlying22 hi hz0 hz1 hz2 w.heap.size w.heap.size _ _ R3 gt at' ct tx (ht.up N3) tn (by rw [List.length_append]; have := ZZ.out; have := HS.out; omega) (Nat.le_refl _) N3.size
  have N4 := N3.trans n4
  clear R3 n4 N3
  go_upto_region 3 with (at_builtin; refine Lib.wpList_append_run _ rfl _ _ 22 22 rfl _ _ rfl rfl _ _ hap4 ?_)
  clear hap4
  go_wp2_with fail
  refine (l8Zeros_any w4 tx.length tL).mono ?_
  rintro e w5 ⟨⟨a5, c5, g5, rfl, o5, p5, q5, r5'⟩, n5⟩
  have N5 := nxt N4 n5
  obtain ⟨v6, w6, hap6, R6, n6⟩ := append_any (P := Try.prog) w5 22 i0 Try.underlying22 hi hz0 hz1 hz2 w.heap.size w.heap.size _ _ (R4.up n5) g5 a5 c5 _ o5.rd p5 (by rw [List.length_append, List.length_append]; have := ZZ.out; have := HS.out; omega) (Nat.le_refl _) N5.size
  have N6 := N5.trans n6
  clear R4 o5 n5 n6 N4 N5
  go_upto_region 4 with (at_builtin; refine Lib.wpList_append_run _ rfl _ _ 22 22 rfl _ _ rfl rfl _ _ hap6 ?_)
  clear hap6
  go_wp2_with fail
  refine (l1Int_any w6 ex.length eL).mono ?_
  rintro e w7 ⟨ns, hns, ⟨a7, c7, g7, rfl, o7, p7, q7, r7⟩, n7⟩
  have LL := hide (l1Little_any w7 g7 a7 c7 ns 8 o7.rd hns.1 (by have := len_bval hns.1 hns.2.1 hns.2.2; omega) (by omega))
  rw [little_len ns ex.length hns.1 hns.2.1] at LL
  go_wp2_with fail
  refine LL.out.mono ?_
  rintro e w8 ⟨rfl, B8, n8⟩
  have N8 := nxt (nxt N6 n7) n8
  obtain ⟨v9, w9, hap9, R9, n9⟩ := append_any (P := Try.prog) w8 22 i0 Try.underlying22 hi hz0 hz1 hz2 w.heap.size w.heap.size _ _ ((R6.up n7).up n8) w7.heap.size (some ⟨w7.heap.size, 0, none⟩) 8 _ B8.own0.rd (by simp) (by rw [List.length_append, List.length_append, List.length_append]; have := ZZ.out; have := HS.out; omega) (Nat.le_refl _) N8.size
  rw [ZZ.out.2.2.1] at hap9
  have N9 := N8.trans n9
  clear R6 o7 n7 n8 B8 n9 N6 N8 LL hns
  go_upto_region 5 with (at_builtin; refine Lib.wpList_append_run _ rfl _ _ 22 22 rfl _ _ rfl rfl _ _ hap9 ?_)
  clear hap9
  go_wp2_with fail
  refine (l1Int_any w9 tx.length tL).mono ?_
  rintro e wa ⟨ms, hms, ⟨aa, ca, ga, rfl, oa, pa, qa, ra⟩, na⟩
  have LL := hide (l1Little_any wa ga aa ca ms 8 oa.rd hms.1 (by have := len_bval hms.1 hms.2.1 hms.2.2; omega) (by omega))
  rw [little_len ms tx.length hms.1 hms.2.1] at LL
  go_wp2_with fail
  refine LL.out.mono ?_
  rintro e wb ⟨rfl, Bb, nb⟩
  have Nb := nxt (nxt N9 na) nb
  obtain ⟨vc, wc, hapc, Rc, nc⟩ := append_any (P := Try.prog) wb 22 i0 Try.underlying22 hi hz0 hz1 hz2 w.heap.size w.heap.size _ _ ((R9.up na).up nb) wa.heap.size (some ⟨wa.heap.size, 0, none⟩) 8 _ Bb.own0.rd (by simp) (by rw [List.length_append, List.length_append, List.length_append, List.length_append]; have := ZZ.out; have := HS.out; omega) (Nat.le_refl _) Nb.size
  rw [ZZ.out.2.2.2] at hapc
  have Nc := Nb.trans nc
  rw [← SMD.out] at Rc
  clear R9 oa na nb Bb nc N9 Nb LL hms
  go_wp2_with (at_builtin; refine Lib.wpList_append_run _ rfl _ _ 22 22 rfl _ _ rfl rfl _ _ hapc ?_)
  go_ret
  obtain ⟨ad, cd, gd, rfl, od, pd, qd, rd⟩ := Rc.own
  exact ⟨⟨ad, cd, gd, rfl, od, pd, qd, rd⟩, Nc⟩

end Go.Proofs.Ythfbchkonklmkaa

/-
  The model's l8Sum and Seal (written by gens/pze.py).
-/
namespace Go.Proofs.Ythfbchkonklmkaa
open Go Go.RowKit

theorem fit0 {key non : List Int} (h : fitK key non = true) : fitB key 0 non = true := by
  unfold fitK at h
  unfold fitB
  rw [h]
  rfl
theorem fit0' {key non : List Int} (h : fitK key non = false) : fitB key 0 non = false := by
  unfold fitK at h
  unfold fitB
  rw [h]
  rfl
theorem fit1 {key non : List Int} (h : fitK key non = true) : fitB key 1 non = true := by
  unfold fitK at h
  unfold fitB
  rw [h]
  rfl
set_option maxRecDepth 100000 in
set_option maxHeartbeats 8000000 in
theorem l8Sum_any (w : World) (g : Nat) (a : Option Addr) (c : Nat) (key : List Int) (hr : Rd w g a .u8 key) (hb : Byt key) (hc : key.length ≤ c) (g' : Nat) (a' : Option Addr) (c' : Nat) (non : List Int) (hr' : Rd w g' a' .u8 non) (hb' : Byt non) (hc' : non.length ≤ c') (hf : fitK key non = true)
    (ge : Nat) (ae : Option Addr) (ce : Nat) (ex : List Int) (he : Rd w ge ae .u8 ex) (eb : Byt ex) (en : ae = none → ce = 0)
    (gt : Nat) (at' : Option Addr) (ct : Nat) (tx : List Int) (ht : Rd w gt at' .u8 tx) (tb : Byt tx) (tn : at' = none → ct = 0) (hs : ex.length + tx.length ≤ 4000000) :
    Calls Try.prog 36 #[.slice a key.length c, .slice a' non.length c', .slice ae ex.length ce, .slice at' tx.length ct] w fun e w' => ∃ (x : Option Addr) (y z : Nat), e = .returned (.slice x 16 y) ∧ Rd w' z x .u8 (ssB (nsW key non) ex tx) ∧ (x = none → y = 0) ∧ Below w.heap.size w w' := by
  have SBv : Hid (sbA key 0 non = strB key 0 non) := by show _ = _; unfold sbA; rw [if_pos (fit0 hf)]
  have BL : Hid ((strB key 0 non).length = 64) := stB_len _
  have BB : Hid (Byt (strB key 0 non)) := stB_byt _
  have SSB : Hid (ssB (nsW key non) ex tx = otB ((strB key 0 non).take 32) (smd ex tx)) := rfl
  have SB := fun W (n : Below w.heap.size w W) => hide (specBlock_any W g a c key (hr.up n) hb hc 0 g' a' c' non (hr'.up n) hb' hc')
  simp only [SBv.out] at SB
  have SMl := smd_len ex tx
  have SMB := hide (smd_byt eb tb)
  have SM := fun W (n : Below w.heap.size w W) => hide (l8Summed_any W ge ae ce ex (he.up n) en gt at' ct tx (ht.up n) tn hs)
  have SL := hide (ssB_len (nsW key non) ex tx)
  generalize strB key 0 non = ks at *
  have TL : Hid ((ks.take 32).length = 32) := by show _ = _; rw [List.length_take, BL.out]; rfl
  have OT : Hid (otA (ks.take 32) (smd ex tx) = ssB (nsW key non) ex tx) := by show _ = _; unfold otA; rw [if_pos TL.out, SSB.out]
  have SML : Hid ((smd ex tx).length ≤ 4194304) := by show _ ≤ _; omega
  generalize smd ex tx = sm at *
  clear hf SBv SMl
  go_enter Try.func36, Try.ntmps36
  go_wp2_with fail
  refine region_end 9 (fun i => [Fact.eq (.slice a key.length c), Fact.eq (.slice a' non.length c'), Fact.ro ks, Fact.ro (ks.take 32), Fact.eq (.slice ae ex.length ce), Fact.eq (.slice at' tx.length ct), Fact.ro sm, Fact.ro (ssB (nsW key non) ex tx), Fact.ro (ssB (nsW key non) ex tx)].getD i Fact.no) (by kernel_rfl) (by kernel_rfl) rfl ?_ ?_
  · intro i hi
    obtain rfl | rfl | rfl | rfl | rfl | rfl | rfl | rfl | rfl : i = 0 ∨ i = 1 ∨ i = 2 ∨ i = 3 ∨ i = 4 ∨ i = 5 ∨ i = 6 ∨ i = 7 ∨ i = 8 := by omega
    · refine step_pure rfl fun f u hb hw hf => ?_
      have e0 : f.tmps[0]?.getD undef = .slice a key.length c := gdv (hb.2.2 0 (by kernel_rfl))
      exact ⟨.slice a key.length c, by simp [go_sem, e0], rfl⟩
    · refine step_pure rfl fun f u hb hw hf => ?_
      have e1 : f.tmps[1]?.getD undef = .slice a' non.length c' := gdv (hb.2.2 1 (by kernel_rfl))
      exact ⟨.slice a' non.length c', by simp [go_sem, e1], rfl⟩
    · refine step_callv rfl 63 _ _ rfl (by kernel_rfl) fun f u hb hw hf => ?_
      have e9 : f.tmps.getD 9 undef = .slice a key.length c := hf 0 9 (by kernel_rfl)
      have e10 : f.tmps.getD 10 undef = .slice a' non.length c' := hf 1 10 (by kernel_rfl)
      show Calls Try.prog 63 #[f.tmps.getD 9 undef, .int .i64 0, f.tmps.getD 10 undef] u _
      rw [e9, e10]
      exact (SB u hw).out.mono (by rintro e w' ⟨⟨x, y, z, rfl, o, p, q, r⟩, n⟩; exact ⟨_, rfl, n, x, y, z, rfl, o.rd, q, p⟩)
    · refine step_pure rfl fun f u hb hw hf => ?_
      obtain ⟨x, y, z, e11, R, l, p⟩ := hf 2 11 (by kernel_rfl)
      obtain ⟨o, rfl, hcc⟩ := R (by rw [BL.out]; omega)
      have e11' : f.tmps[11]?.getD undef = .slice (some ⟨z, o, none⟩) 64 y := (gdv e11).trans (by rw [BL.out])
      have y1 : (32 : Int) ≤ (y : Int) := by have := BL.out; omega
      refine ⟨.slice (some ⟨z, o, none⟩) 32 y, by simp [go_sem, e11', y1], some ⟨z, o, none⟩, y, z, by rw [TL.out], fun _ => ⟨o, rfl, fun j hj => ?_⟩, by rw [TL.out]; omega, by simp⟩
      rw [TL.out] at hj
      rw [hcc j (by rw [BL.out]; omega), List.getD_eq_getElem?_getD, List.getD_eq_getElem?_getD, List.getElem?_take, if_pos hj]
    · refine step_pure rfl fun f u hb hw hf => ?_
      have e2 : f.tmps[2]?.getD undef = .slice ae ex.length ce := gdv (hb.2.2 2 (by kernel_rfl))
      exact ⟨.slice ae ex.length ce, by simp [go_sem, e2], rfl⟩
    · refine step_pure rfl fun f u hb hw hf => ?_
      have e3 : f.tmps[3]?.getD undef = .slice at' tx.length ct := gdv (hb.2.2 3 (by kernel_rfl))
      exact ⟨.slice at' tx.length ct, by simp [go_sem, e3], rfl⟩
    · refine step_callv rfl 64 _ _ rfl (by kernel_rfl) fun f u hb hw hf => ?_
      have e13 : f.tmps.getD 13 undef = .slice ae ex.length ce := hf 4 13 (by kernel_rfl)
      have e14 : f.tmps.getD 14 undef = .slice at' tx.length ct := hf 5 14 (by kernel_rfl)
      show Calls Try.prog 64 #[f.tmps.getD 13 undef, f.tmps.getD 14 undef] u _
      rw [e13, e14]
      exact (SM u hw).out.mono (by rintro e w' ⟨⟨x, y, z, rfl, o, p, q, r⟩, n⟩; exact ⟨_, rfl, n, x, y, z, rfl, o.rd, q, p⟩)
    · refine step_callv rfl 7 _ _ rfl (by kernel_rfl) fun f u hb hw hf => ?_
      obtain ⟨x1, y1, z1, e12, R1, l1, -⟩ := hf 3 12 (by kernel_rfl)
      obtain ⟨x2, y2, z2, e15, R2, l2, -⟩ := hf 6 15 (by kernel_rfl)
      show Calls Try.prog 7 #[f.tmps.getD 12 undef, f.tmps.getD 15 undef] u _
      rw [e12, e15]
      have h := specOneTime_any u z1 x1 y1 (ks.take 32) R1 (byt_take BB.out 32) l1 z2 x2 y2 sm R2 SMB.out SML.out
      rw [OT.out] at h
      exact h.mono (by rintro e w' ⟨⟨x, y, z, rfl, o, p, q, r⟩, n⟩; exact ⟨_, rfl, n, x, y, z, rfl, o.rd, q, p⟩)
    · refine step_pure rfl fun f u hb hw hf => ?_
      obtain ⟨x, y, z, e16, R, l, p⟩ := hf 7 16 (by kernel_rfl)
      have e16' : f.tmps[16]?.getD undef = .slice x (ssB (nsW key non) ex tx).length y := gdv e16
      exact ⟨.slice x (ssB (nsW key non) ex tx).length y, by simp [go_sem, e16'], x, y, z, rfl, R, l, p⟩
  · intro f w8 hb K8 hF
    obtain ⟨x, y, z, e8, R8, -, p8⟩ := hF 8 8 (by kernel_rfl)
    obtain ⟨vs', hvs'⟩ : ∃ vs : Nat → Value, ∀ d, f.tmps.getD d undef = vs d := ⟨_, fun _ => rfl⟩
    have ea := puts_of (md := .any) (n := 17) (k := 9) (by kernel_rfl) rfl hb vs' hvs'
    have v8 : vs' 8 = .slice x 16 y := (hvs' 8).symm.trans (e8.trans (by rw [SL.out]))
    rw [ea]
    clear ea hvs' hF hb e8
    simp only [puts, v8, Act.put, List.setIfInBounds_toArray, List.set_cons_succ, List.set_cons_zero]
    go_wp2
    go_ret
    exact ⟨x, y, z, rfl, R8, p8, K8⟩
set_option maxRecDepth 100000 in
set_option maxHeartbeats 8000000 in
theorem specSeal_any (w : World) (g : Nat) (a : Option Addr) (c : Nat) (key : List Int) (hr : Rd w g a .u8 key) (hb : Byt key) (hc : key.length ≤ c) (g' : Nat) (a' : Option Addr) (c' : Nat) (non : List Int) (hr' : Rd w g' a' .u8 non) (hb' : Byt non) (hc' : non.length ≤ c')
    (ge : Nat) (ae : Option Addr) (ce : Nat) (ex : List Int) (he : Rd w ge ae .u8 ex) (eb : Byt ex) (en : ae = none → ce = 0)
    (g2 : Nat) (a2 : Option Addr) (c2 : Nat) (data : List Int) (hr2 : Rd w g2 a2 .u8 data) (db : Byt data) (hs : ex.length + data.length ≤ 4000000) :
    Calls Try.prog 13 #[.slice a key.length c, .slice a' non.length c', .slice ae ex.length ce, .slice a2 data.length c2] w fun e w' => (∃ v, e = .returned v ∧ RowB w' w.heap.size v (seA key non ex data)) ∧ Below w.heap.size w w' := by
  obtain ⟨i0, hi, hz0, hz1, hz2⟩ := info_parts Try.info5
  have FT := fits_any w a a' c c' key non 0
  by_cases h1 : fitK key non = true
  · rw [fit0 h1] at FT
    have RS : Hid (seA key non ex data = xt key non data ++ ssB (nsW key non) ex (xt key non data)) := by show _ = _; unfold seA; rw [if_pos h1]
    rw [RS.out]
    have XS := hide (specXorR_core w g a c key hr hb hc 1 (by omega) (by omega) g' a' c' non hr' hb' hc' g2 a2 c2 data hr2 (by omega) (fit1 h1) (by omega))
    have XT : Hid (fill (sxF key 1 non data) data.length = xt key non data) := (sx_fill key 1 non data).symm
    rw [XT.out] at XS
    have XB := hide (xt_byt key non db)
    have XL := hide (xt_len key non data)
    generalize xt key non data = T at *
    have HS := hide (show ex.length + T.length ≤ 4000000 by rw [XL.out]; exact hs)
    have SL := hide (ssB_len (nsW key non) ex T)
    have LS := fun W (n : Below w.heap.size w W) gt at' ct (h : Rd W gt at' .u8 T) (p : at' = none → ct = 0) => hide (l8Sum_any W g a c key (hr.up n) hb hc g' a' c' non (hr'.up n) hb' hc' h1 ge ae ce ex (he.up n) eb en gt at' ct T h XB.out p HS.out)
    clear RS h1 XT XB XL hs
    generalize ssB (nsW key non) ex T = sm at *
    go_enter Try.func13, Try.ntmps13
    go_wp2_with fail
    refine FT.mono ?_
    rintro e w1 ⟨rfl, h⟩
    have h := h.symm
    subst h
    go_wp2_with fail
    refine XS.out.mono ?_
    rintro e w2 ⟨⟨v2, rfl, R2⟩, N2⟩
    obtain ⟨a3, c3, g3, rfl, o3, p3, q3, r3⟩ := R2.own
    have LS := LS w2 N2 g3 a3 c3 o3.rd p3
    clear XS FT
    go_wp2_with fail
    refine LS.out.mono ?_
    rintro e w4 ⟨x, y, z, rfl, R4, p4, n4⟩
    have N4 := nxt N2 n4
    obtain ⟨v5, w5, hap, o5, n5⟩ := append_any (P := Try.prog) w4 22 i0 Try.underlying22 hi hz0 hz1 hz2 w.heap.size w.heap.size _ T (R2.up n4) z x y sm R4 p4 (by have := HS.out; have := SL.out; omega) (Nat.le_refl _) N4.size
    rw [SL.out] at hap
    have N5 := N4.trans n5
    clear LS R2 o3 n4 n5 N4
    go_wp2_with (at_builtin; refine Lib.wpList_append_run _ rfl _ _ 22 22 rfl _ _ rfl rfl _ _ hap ?_)
    go_ret
    exact ⟨⟨_, rfl, o5⟩, N5⟩
  · have h1' : fitK key non = false := by simpa using h1
    rw [fit0' h1'] at FT
    have RS : Hid (seA key non ex data = []) := by show _ = _; unfold seA; rw [if_neg h1]
    rw [RS.out]
    clear h1 h1' RS
    go_enter Try.func13, Try.ntmps13
    go_wp2_with fail
    refine FT.mono ?_
    rintro e w1 ⟨rfl, h⟩
    have h := h.symm
    subst h
    go_wp2
    go_ret
    exact ⟨⟨_, rfl, RowB.lit0 w⟩, (Below.refl _ _).alloc (Nat.le_refl _) _⟩
end Go.Proofs.Ythfbchkonklmkaa

/-
  Sixteen bytes held against each other.
-/
namespace Go.Proofs.Ythfbchkonklmkaa
open Go Go.RowKit

theorem cells8 : Try.prog.cellsOf 5 = 1 := by kernel_rfl
theorem part8 (w : World) (xs : List Int) (i : Nat) (h : i < xs.length) : (part 5 (xs.map (Value.int .u8)).toArray (i * 1)).run Try.prog w = .ok (.int .u8 (xs.getD i 0)) w := by
  have u3 := Try.underlying5
  have a3' := Try.isAgg5
  have z3 := Try.sizeOf5
  rw [Nat.mul_one]
  go_simp
theorem eqItems8 (w : World) (d : Nat) (xs ys : List Int) : ∀ is : List Nat, (∀ i ∈ is, i < xs.length ∧ i < ys.length) →
    (Op.eqItems (d + 1) 5 1 (xs.map (Value.int .u8)).toArray (ys.map (Value.int .u8)).toArray is).run Try.prog w = .ok (is.all fun i => xs.getD i 0 == ys.getD i 0) w
  | [], _ => by simp [Op.eqItems]
  | i :: is, h => by
    have h1 := h i (by simp)
    have ih := eqItems8 w d xs ys is (fun j hj => h j (by simp [hj]))
    simp only [Op.eqItems, Sem.run_bind, part8 w xs i h1.1, part8 w ys i h1.2, Result.andThen_ok, run_equalIn_int w d 5 .u8 .u8 _ _ Try.underlying5]
    rw [List.all_cons]
    cases (xs.getD i 0 == ys.getD i 0)
    · simp only [Bool.not_false, if_true, Sem.run_pure, Bool.false_and]
    · simp only [Bool.not_true, Bool.false_eq_true, if_false, Bool.true_and]
      exact ih
theorem eq16 (w : World) (xs ys : List Int) (hx : xs.length = 16) (hy : ys.length = 16) :
    (Op.equalIn 10000 40 (.agg (xs.map (Value.int .u8)).toArray) (.agg (ys.map (Value.int .u8)).toArray)).run Try.prog w = .ok (decide (xs = ys)) w := by
  obtain ⟨i0, hi, _⟩ := info_parts Try.info5
  rw [show (10000 : Nat) = 9999 + 1 from rfl, run_equalIn_array w 9999 _ _ undP16 hi, cells8, show (9999 : Nat) = 9998 + 1 from rfl, eqItems8 w 9998 xs ys (List.range 16) (fun i hi => by rw [hx, hy]; have := List.mem_range.1 hi; exact ⟨this, this⟩)]
  congr 1
  by_cases e : xs = ys
  · subst e; simp
  · rw [decide_eq_false e]
    cases hq : (List.range 16).all fun i => xs.getD i 0 == ys.getD i 0
    · rfl
    · exfalso
      rw [List.all_eq_true] at hq
      exact e (eq_of_getD (by rw [hx, hy]) (fun i hi => by have := hq i (List.mem_range.2 (by omega)); simpa using this))
end Go.Proofs.Ythfbchkonklmkaa

/-
  A region whose last operation is a call that may write what was there before.
-/
namespace Go.Proofs.Ythfbchkonklmkaa
open Go Go.RowKit

section
variable {P : Program} {ops : Array Oper} {Q : Exit → Act → World → Prop} {a0 : Act}
theorem region_call {id : Nat} {w : World} {draw : Bool} (k : Nat) (o : Oper) (F : Nat → Fact) (hm : P.follows .mixedOrders = true) (hT : textOk .any ops a0.tmps.size k = true) (hk : ops[k]? = some o) (dd : Nat) (hdd : o.dst = some dd) (steps : ∀ i, i < k → StepOk P .any ops Q F a0 w i)
    (n : FuncId) (args : Array Operand) (ts : Array TypeId) (hop : o.op = .call { callee := .value (.func n), args := args, argTypes := ts }) (he : enters P n = true)
    (fin : ∀ a w', Based ops a0 a → Below w.heap.size w w' → (∀ i o d, i < k → ops[i]? = some o → o.dst = some d → (F i).p (a.tmps.getD d undef) w') →
      Calls P n (args.toList.map a.eval).toArray w' fun e w'' => ∃ v, e = .returned v ∧ Q .normal (a.put (some dd) v) w'') : (Code.region id ops draw).wp P Q a0 w := by
  refine region_facts k F hm hT steps fun a w' hb hw hf => ?_
  rw [hk]
  show o.wp P a w' (fun a' w'' => Q .normal a' w'') Q
  have hr : (execOp a.eval o).run P w' = .ok (.enter n (args.map a.eval)) w' := by
    have h0 : (Deferred.ofValue (Value.func (Fn.func n) #[] #[]) (args.map a.eval)).run P w' = .ok { target := .fn (.func n) #[], args := args.map a.eval } w' := by simp [Deferred.ofValue]
    simp [execOp, hop, resolve, invoke, Act.eval, h0, run_enter he]
  have e : args.map a.eval = (args.toList.map a.eval).toArray := by cases args; simp
  unfold Oper.wp
  rw [hr, e, Oper.upon_enter]
  refine (fin a w' hb hw hf).mono ?_
  rintro e w'' ⟨v, rfl, hv⟩
  rw [← hdd] at hv
  exact hv
theorem region_run {id : Nat} {w : World} {draw : Bool} (k : Nat) (o : Oper) (F : Nat → Fact) (hm : P.follows .mixedOrders = true) (hT : textOk .any ops a0.tmps.size k = true) (hk : ops[k]? = some o) (dd : Nat) (hdd : o.dst = some dd) (steps : ∀ i, i < k → StepOk P .any ops Q F a0 w i)
    (fin : ∀ a w', Based ops a0 a → Below w.heap.size w w' → (∀ i o d, i < k → ops[i]? = some o → o.dst = some d → (F i).p (a.tmps.getD d undef) w') →
      ∃ v w'', (execOp a.eval o).run P w' = .ok (.value v) w'' ∧ Q .normal (a.put (some dd) v) w'') : (Code.region id ops draw).wp P Q a0 w := by
  refine region_facts k F hm hT steps fun a w' hb hw hf => ?_
  rw [hk]
  show o.wp P a w' (fun a' w'' => Q .normal a' w'') Q
  obtain ⟨v, w'', hr, hq⟩ := fin a w' hb hw hf
  unfold Oper.wp
  rw [hr]
  rw [← hdd] at hq
  exact hq
/-- The last operation is a copy. -/
theorem region_copy {id : Nat} {w : World} {draw : Bool} (k : Nat) (o : Oper) (F : Nat → Fact) (hm : P.follows .mixedOrders = true) (hT : textOk .any ops a0.tmps.size k = true) (hk : ops[k]? = some o) (dd : Nat) (hdd : o.dst = some dd) (steps : ∀ i, i < k → StepOk P .any ops Q F a0 w i)
    (s x : Operand) (t tn ty : TypeId) (hop : o.op = .call { callee := .builtin .copy, args := #[s, x], argTypes := #[t, tn] }) (hty : o.type = ty)
    (fin : ∀ a w', Based ops a0 a → Below w.heap.size w w' → (∀ i o d, i < k → ops[i]? = some o → o.dst = some d → (F i).p (a.tmps.getD d undef) w') →
      ∃ v w'', (Builtin.copy_ #[t, tn] ty #[a.eval s, a.eval x]).run P w' = .ok v w'' ∧ Q .normal (a.put (some dd) v) w'') : (Code.region id ops draw).wp P Q a0 w := by
  refine region_run k o F hm hT hk dd hdd steps fun a w' hb hw hf => ?_
  obtain ⟨v, w'', hr, hq⟩ := fin a w' hb hw hf
  refine ⟨v, w'', ?_, hq⟩
  unfold execOp
  simp only [hop, hty, resolve, invoke, builtin, Sem.run_bind, Sem.run_pure, Result.andThen_ok, List.map_toArray, List.map_cons, List.map_nil, hr]
end
end Go.Proofs.Ythfbchkonklmkaa

/-
  The program's Open (written by gens/pzf.py).
-/
namespace Go.Proofs.Ythfbchkonklmkaa
open Go Go.RowKit

/-- A sealed text without its sum, and the sum. -/
def opT (sd : List Int) : List Int := sd.take (sd.length - 16)
def opS (sd : List Int) : List Int := sd.drop (sd.length - 16)
/-- What Open answers. -/
def opB (key non ex sd : List Int) : Bool := fitK key non && (decide (16 ≤ sd.length) && decide (ssB (nsW key non) ex (opT sd) = opS sd))
def opL (key non ex sd : List Int) : List Int := if opB key non ex sd = true then xt key non (opT sd) else []
theorem opL_len (key non ex sd : List Int) : (opL key non ex sd).length ≤ sd.length := by
  unfold opL
  split
  · rw [xt_len, opT, List.length_take]; omega
  · simp
/-- A truth and a list that the call made. -/
def NewO (B : Nat) (w' : World) (e : Ending) (b : Bool) (ys : List Int) : Prop :=
  ∃ (a : Option Addr) (c g : Nat), e = .returned (.agg #[.bool b, .slice a ys.length c]) ∧ Own w' g a .u8 ys ∧ (a = none → c = 0) ∧ ys.length ≤ c ∧ B ≤ g
theorem newO_bad (w : World) (B : Nat) : NewO B w (.returned (.agg #[.bool false, .slice none 0 0])) false [] := ⟨none, 0, B, rfl, Own.nil _ _ _ _, fun _ => rfl, Nat.le_refl _, Nat.le_refl _⟩
theorem ne16 (xs ys : List Int) (hx : xs.length = 16) (hy : ys.length = 16) (x y : Nat) (w : World) : (do eqGuard .neq 40 (.tmp x) (.tmp y) (ag .u8 xs) (ag .u8 ys); binOp .neq 40 (ag .u8 xs) (ag .u8 ys) : Sem Value).run Try.prog w = .ok (.bool (!decide (xs = ys))) w := by
  have h : (eqGuard .neq 40 (.tmp x) (.tmp y) (ag .u8 xs) (ag .u8 ys)).run Try.prog w = .ok () w := by kernel_rfl
  have h2 : (binOp .neq 40 (ag .u8 xs) (ag .u8 ys)).run Try.prog w = .ok (.bool (!decide (xs = ys))) w := by
    have k := eq16 w xs ys hx hy
    show (do pure (.bool (!(← Op.equal 40 (ag .u8 xs) (ag .u8 ys)))) : Sem Value).run Try.prog w = _
    rw [Sem.run_bind]
    have k' : (Op.equal 40 (ag .u8 xs) (ag .u8 ys)).run Try.prog w = _ := k
    rw [k']
    rfl
  rw [Sem.run_bind, h]
  exact h2
theorem Rd.drop {w : World} {g : Nat} {a : Option Addr} {k : IntKind} {xs : List Int} (h : Rd w g a k xs) (n : Nat) (hn : n < xs.length) : ∃ o, a = some ⟨g, o, none⟩ ∧ Rd w g (some ⟨g, o + n, none⟩) k (xs.drop n) := by
  obtain ⟨o, rfl, hc⟩ := h (by omega)
  refine ⟨o, rfl, fun _ => ⟨o + n, rfl, fun i hi => ?_⟩⟩
  rw [List.length_drop] at hi
  rw [Nat.add_assoc, hc (n + i) (by omega), List.getD_eq_getElem?_getD, List.getD_eq_getElem?_getD, List.getElem?_drop]
theorem Rd.take {w : World} {g : Nat} {a : Option Addr} {k : IntKind} {xs : List Int} (h : Rd w g a k xs) (n : Nat) : Rd w g a k (xs.take n) := fun h0 => by
  rw [List.length_take] at h0
  obtain ⟨o, e, hc⟩ := h (by omega)
  refine ⟨o, e, fun i hi => ?_⟩
  rw [List.length_take] at hi
  rw [hc i (by omega), List.getD_eq_getElem?_getD, List.getD_eq_getElem?_getD, List.getElem?_take, if_pos (by omega)]
theorem blk_two {w : World} {g : Nat} {t : TypeId} {b : Bool} {v : Value} (h : w.heap[g]? = some (.cells #[.bool b, v] t (0, 0))) : w.cell? ⟨g, 0, none⟩ = some (.bool b) ∧ w.cell? ⟨g, 1, none⟩ = some v ∧ w.frozen? ⟨g, 0, none⟩ = false ∧ w.frozen? ⟨g, 1, none⟩ = false :=
  ⟨by rw [cell_of_row w g 0 _ t (0, 0) h]; rfl, by rw [cell_of_row w g 1 _ t (0, 0) h]; rfl, frozen_of_row w g 0 _ t h, frozen_of_row w g 1 _ t h⟩

set_option maxRecDepth 100000 in
set_option maxHeartbeats 16000000 in
theorem implOpen_any (w : World) (g : Nat) (a : Option Addr) (c : Nat) (key : List Int) (hr : Rd w g a .u8 key) (hb : Byt key) (hc : key.length ≤ c) (g' : Nat) (a' : Option Addr) (c' : Nat) (non : List Int) (hr' : Rd w g' a' .u8 non) (hb' : Byt non) (hc' : non.length ≤ c')
    (ge : Nat) (ae : Option Addr) (ce : Nat) (ex : List Int) (he : Rd w ge ae .u8 ex) (eb : Byt ex) (en : ae = none → ce = 0)
    (g2 : Nat) (a2 : Option Addr) (c2 : Nat) (sd : List Int) (hr2 : Rd w g2 a2 .u8 sd) (db : Byt sd) (dc : sd.length ≤ c2) (hs : ex.length + sd.length ≤ 4000000) :
    Calls Try.prog 16 #[.slice a key.length c, .slice a' non.length c', .slice ae ex.length ce, .slice a2 sd.length c2] w fun e w' => NewO w.heap.size w' e (opB key non ex sd) (opL key non ex sd) ∧ Below w.heap.size w w' := by
  have n0 : Below w.heap.size w (w.alloc (.cells #[.bool false, .slice none 0 0] 30)) := (Below.refl _ _).alloc (Nat.le_refl _) _
  have H0 : (w.alloc (.cells #[.bool false, .slice none 0 0] 30)).heap[w.heap.size]? = some (.cells #[.bool false, .slice none 0 0] 30 (0, 0)) := heap_alloc_last w _
  have z0 : (w.alloc (.cells #[.bool false, .slice none 0 0] 30)).heap.size = w.heap.size + 1 := by simp
  have IK := fun W => hide (isKey_any W a a' key.length non.length c c')
  by_cases h1 : (decide (key.length = 32) && decide (non.length = 12)) = true
  · simp only [h1] at IK
    have hk : fitK key non = true := h1
    by_cases h16 : 16 ≤ sd.length
    · have OB : Hid (opB key non ex sd = decide (ssB (nsW key non) ex (opT sd) = opS sd)) := by show _ = _; unfold opB; rw [hk, decide_eq_true h16]; rfl
      have OLt : Hid (opL key non ex sd = if decide (ssB (nsW key non) ex (opT sd) = opS sd) = true then xt key non (opT sd) else []) := by show _ = _; unfold opL; rw [OB.out]
      rw [OLt.out, OB.out]
      simp only [Bool.and_eq_true, decide_eq_true_eq] at h1
      obtain ⟨od, ea2, RS⟩ := hr2.drop (sd.length - 16) (by omega)
      have TL : Hid ((opT sd).length = sd.length - 16) := by show _ = _; unfold opT; rw [List.length_take]; omega
      have SL : Hid ((opS sd).length = 16) := by show _ = _; unfold opS; rw [List.length_drop]; omega
      have RT : Rd w g2 a2 .u8 (opT sd) := hr2.take _
      have RS : Rd w g2 (some ⟨g2, od + (sd.length - 16), none⟩) .u8 (opS sd) := RS
      have TB : Byt (opT sd) := byt_take db _
      have a2n : a2 = none → c2 = 0 := fun h => by rw [h] at ea2; cases ea2
      have HC := fun W => hide (hasC_any W 1 (by omega) (by omega) a2 (sd.length - 16) c2)
      simp only [hasC_short (sd.length - 16) (by omega)] at HC
      have NW := fun W (n : Below w.heap.size w W) => hide (newWords_any W g a c key (hr.up n) hb h1.1 hc g' a' c' non (hr'.up n) hb' h1.2 hc')
      have LY := fun W (n : Below w.heap.size w W) => hide (layOverR_any W _ (nsW_ws hb hb') (nsW_len key non) 1 (by omega) g2 a2 c2 (opT sd) (RT.up n) (by rw [TL.out]; omega) (by rw [TL.out]; omega))
      have XT : Hid (xt key non (opT sd) = xoG (nsW key non) 1 (opT sd) (((opT sd).length + 63) / 64)) := rfl
      simp only [← XT.out] at LY
      have SS := fun W (n : Below w.heap.size w W) => hide (sealSum_any W _ (nsW_ws hb hb') (nsW_len key non) ge ae ce ex (he.up n) eb en g2 a2 c2 (opT sd) (RT.up n) TB a2n (by rw [TL.out]; omega))
      have ML := hide (ssB_len (nsW key non) ex (opT sd))
      simp only [TL.out] at LY SS
      have NE := fun W x y => hide (ne16 (ssB (nsW key non) ex (opT sd)) (opS sd) ML.out SL.out x y W)
      have W16 : Hid (((nsW key non).map (Value.int .u32)).length = 16) := by show _ = _; rw [List.length_map]; exact nsW_len key non
      have OW := one_ints .u32 (nsW key non)
      have VW : Hid (ag .u32 (nsW key non) = Value.agg ((nsW key non).map (Value.int .u32)).toArray) := rfl
      simp only [VW.out] at LY SS NW
      generalize xt key non (opT sd) = T at *
      generalize ssB (nsW key non) ex (opT sd) = M at *
      generalize opS sd = S at *
      obtain ⟨ob, hob⟩ : ∃ b, b = decide (M = S) := ⟨_, rfl⟩
      rw [← hob]
      obtain ⟨ol, hol⟩ : ∃ l, l = if ob = true then T else [] := ⟨_, rfl⟩
      rw [← hol]
      have HOB := hide hob
      have HOL := hide hol
      clear hob hol
      obtain ⟨nw, hnw⟩ : ∃ l, l = nsW key non := ⟨_, rfl⟩
      rw [← hnw] at W16 OW
      simp only [← hnw] at LY SS NW
      have n16 : (16 : Int) ≤ (sd.length : Int) := by omega
      have m16 : (sd.length : Int) - 16 = ((sd.length - 16 : Nat) : Int) := by omega
      have mle : ((sd.length - 16 : Nat) : Int) ≤ (sd.length : Int) := by omega
      have mc : ((sd.length - 16 : Nat) : Int) ≤ (c2 : Int) := by omega
      have m0 : (0 : Int) ≤ ((sd.length - 16 : Nat) : Int) := by omega
      have dif : sd.length - (sd.length - 16) = 16 := by omega
      have ne : ¬ (c2 = sd.length - 16) := by omega
      have nlt : ¬ (sd.length : Int) < 16 := by omega
      have big : (sd.length : Int) ≤ 4000000 := by omega
      subst ea2
      clear hnw VW h1 hk OB OLt XT TB RT hr2 db dc hs a2n
      generalize hm : sd.length - 16 = m at *
      generalize hsl : sd.length = n at *
      have HM := hide hm
      clear hm hsl
      go_enter Try.func16, Try.ntmps16
      go_upto_region 1 with fail
      generalize w.alloc (.cells #[.bool false, .slice none 0 0] 30) = w1 at *
      go_wp2_with fail
      refine (IK w1).out.mono ?_
      rintro e w2 ⟨rfl, h⟩
      have h := h.symm
      subst h
      go_wp2_with fail
      refine (HC w1).out.mono ?_
      rintro e w2 ⟨rfl, h⟩
      have h := h.symm
      subst h
      clear IK HC
      have B3 := blk_y16 w1 40
      have n3 : Below w1.heap.size w1 (w1.alloc (.cells #[.int .u8 0, .int .u8 0, .int .u8 0, .int .u8 0, .int .u8 0, .int .u8 0, .int .u8 0, .int .u8 0, .int .u8 0, .int .u8 0, .int .u8 0, .int .u8 0, .int .u8 0, .int .u8 0, .int .u8 0, .int .u8 0] 40)) := (Below.refl _ _).alloc (Nat.le_refl _) _
      have z3 : (w1.alloc (.cells #[.int .u8 0, .int .u8 0, .int .u8 0, .int .u8 0, .int .u8 0, .int .u8 0, .int .u8 0, .int .u8 0, .int .u8 0, .int .u8 0, .int .u8 0, .int .u8 0, .int .u8 0, .int .u8 0, .int .u8 0, .int .u8 0] 40)).heap.size = w.heap.size + 1 + 1 := by simp [z0]
      go_upto_region 7 with fail
      generalize w1.alloc (.cells #[.int .u8 0, .int .u8 0, .int .u8 0, .int .u8 0, .int .u8 0, .int .u8 0, .int .u8 0, .int .u8 0, .int .u8 0, .int .u8 0, .int .u8 0, .int .u8 0, .int .u8 0, .int .u8 0, .int .u8 0, .int .u8 0] 40) = w3 at *
      rw [z0] at B3
      try rw [z0]
      have H3 := (n3.block w.heap.size (by omega)).trans H0
      have N3 := nxt n0 n3
      have RS3 := RS.up N3
      clear n0 n3 H0
      refine region_copy 5 _ (fun i => [Fact.eq (.slice (some ⟨w.heap.size + 1, 0, none⟩) 16 16), Fact.eq (.slice (some ⟨g2, od, none⟩) n c2), Fact.eq (.slice (some ⟨g2, od, none⟩) m c2), Fact.eq (.int .i64 (m : Int)), Fact.eq (.slice (some ⟨g2, od + m, none⟩) 16 (c2 - m))].getD i Fact.no) (by kernel_rfl) (by kernel_rfl) rfl 36 rfl ?_ (.tmp 31) (.tmp 35) 22 22 3 rfl rfl ?_
      · intro i hi
        obtain rfl | rfl | rfl | rfl | rfl : i = 0 ∨ i = 1 ∨ i = 2 ∨ i = 3 ∨ i = 4 := by omega
        · refine step_pure rfl fun f u hb hw hf => ?_
          have e10 : f.tmps[10]?.getD undef = .pointer (some ⟨w.heap.size + 1, 0, none⟩) := gdv (hb.2.2 10 (by kernel_rfl))
          exact ⟨.slice (some ⟨w.heap.size + 1, 0, none⟩) 16 16, by simp [go_sem, e10], rfl⟩
        · refine step_pure rfl fun f u hb hw hf => ?_
          have e3 : f.tmps[3]?.getD undef = .slice (some ⟨g2, od, none⟩) n c2 := gdv (hb.2.2 3 (by kernel_rfl))
          exact ⟨.slice (some ⟨g2, od, none⟩) n c2, by simp [go_sem, e3], rfl⟩
        · refine step_pure rfl fun f u hb hw hf => ?_
          have e9 : f.tmps[9]?.getD undef = .slice (some ⟨g2, od, none⟩) m c2 := gdv (hb.2.2 9 (by kernel_rfl))
          exact ⟨.slice (some ⟨g2, od, none⟩) m c2, by simp [go_sem, e9], rfl⟩
        · refine step_pure rfl fun f u hb hw hf => ?_
          have e33 : f.tmps[33]?.getD undef = .slice (some ⟨g2, od, none⟩) m c2 := gdv (hf 2 33 (by kernel_rfl))
          exact ⟨.int .i64 (m : Int), by simp [go_sem, e33], rfl⟩
        · refine step_pure rfl fun f u hb hw hf => ?_
          have e32 : f.tmps[32]?.getD undef = .slice (some ⟨g2, od, none⟩) n c2 := gdv (hf 1 32 (by kernel_rfl))
          have e34 : f.tmps[34]?.getD undef = .int .i64 (m : Int) := gdv (hf 3 34 (by kernel_rfl))
          exact ⟨.slice (some ⟨g2, od + m, none⟩) 16 (c2 - m), by simp [go_sem, e32, e34, mle, dif, ne], rfl⟩
      intro A w4 hb4 n4 hF
      have e31 : A.eval (.tmp 31) = .slice (some ⟨w.heap.size + 1, 0, none⟩) 16 16 := hF 0 _ 31 (by omega) rfl rfl
      have e35 : A.eval (.tmp 35) = .slice (some ⟨g2, od + m, none⟩) 16 (c2 - m) := hF 4 _ 35 (by omega) rfl rfl
      obtain ⟨w5, hcp, B5', O5⟩ := copy_blk (P := Try.prog) w4 22 3 5 Try.underlying22 rowB8 (B3.up n4) g2 (some ⟨g2, od + m, none⟩) S (RS3.up n4) (by rw [SL.out, List.length_replicate]; omega) 16 (c2 - m)
      rw [List.length_replicate, SL.out] at hcp
      have ES : S ++ (List.replicate 16 (0 : Int)).drop S.length = S := by rw [SL.out]; simp
      rw [SL.out] at B5'
      rw [SL.out] at ES
      rw [ES] at B5'
      refine ⟨_, w5, by rw [e31, e35]; exact hcp, ?_⟩
      obtain ⟨vs4, hvs⟩ : ∃ vs4 : Nat → Value, ∀ d, A.tmps.getD d undef = vs4 d := ⟨_, fun _ => rfl⟩
      rw [puts_of (md := .any) (k := 5) (by kernel_rfl) rfl hb4 vs4 hvs]
      have H5 := (O5.block w.heap.size (by omega)).trans ((n4.block w.heap.size (by omega)).trans H3)
      have N5 : Below w.heap.size w w5 := (nxt N3 n4).trans (O5.below (by omega))
      have z5 : w.heap.size + 1 + 1 ≤ w5.heap.size := by have := O5.size; have := n4.size; omega
      clear hb4 hF hvs e31 e35 hcp O5 n4 N3 H3 RS3 B3 ES z3
      simp only [puts, Act.put, List.setIfInBounds_toArray, List.set_cons_succ, List.set_cons_zero]
      go_wp2_with fail
      refine (NW w5 N5).out.mono ?_
      rintro e w6 ⟨rfl, n6⟩
      have n7 : Below w6.heap.size w6 (w6.alloc (.cells #[.int .u32 0, .int .u32 0, .int .u32 0, .int .u32 0, .int .u32 0, .int .u32 0, .int .u32 0, .int .u32 0, .int .u32 0, .int .u32 0, .int .u32 0, .int .u32 0, .int .u32 0, .int .u32 0, .int .u32 0, .int .u32 0] 47)) := (Below.refl _ _).alloc (Nat.le_refl _) _
      obtain ⟨t7, H7⟩ := blk_z16 w6 47
      have SR := blk_setRow (zs := nw) ⟨t7, H7⟩
      have OR := only_setRow (w6.alloc (.cells #[.int .u32 0, .int .u32 0, .int .u32 0, .int .u32 0, .int .u32 0, .int .u32 0, .int .u32 0, .int .u32 0, .int .u32 0, .int .u32 0, .int .u32 0, .int .u32 0, .int .u32 0, .int .u32 0, .int .u32 0, .int .u32 0] 47)) w6.heap.size (nw.map (Value.int .u32)).toArray
      obtain ⟨vw, hvw⟩ : ∃ v, v = nw.map (Value.int .u32) := ⟨_, rfl⟩
      have RGf : ∀ W q, Blk W q .u32 nw → W.rangeAt q 0 vw := fun W q h => by rw [hvw]; exact (Seg.blk h).range
      rw [← hvw] at W16 OW SR OR ⊢
      simp only [← hvw] at LY SS
      clear hvw NW
      have s6 := n6.size
      have U7 : ∀ b, b < w5.heap.size → ((w6.alloc (.cells #[.int .u32 0, .int .u32 0, .int .u32 0, .int .u32 0, .int .u32 0, .int .u32 0, .int .u32 0, .int .u32 0, .int .u32 0, .int .u32 0, .int .u32 0, .int .u32 0, .int .u32 0, .int .u32 0, .int .u32 0, .int .u32 0] 47)).setRow w6.heap.size vw.toArray).heap[b]? = w5.heap[b]? := fun b hb => (OR.block b (by omega)).trans ((n7.block b (by omega)).trans (n6.block b hb))
      have N7 : Below w.heap.size w ((w6.alloc (.cells #[.int .u32 0, .int .u32 0, .int .u32 0, .int .u32 0, .int .u32 0, .int .u32 0, .int .u32 0, .int .u32 0, .int .u32 0, .int .u32 0, .int .u32 0, .int .u32 0, .int .u32 0, .int .u32 0, .int .u32 0, .int .u32 0] 47)).setRow w6.heap.size vw.toArray) := (N5.trans (n6.mono N5.size)).trans ((n7.mono (by have := N5.size; omega)).trans (OR.below (B := w.heap.size) (by have := N5.size; omega)))
      go_upto_region 9 with (refine wpList_store_row rfl 47 (.tmp 11) (.tmp 39) rfl w6.heap.size vw.toArray rfl rfl t7 _ H7 (by rw [List.size_toArray, W16.out]; exact infoS) (by rw [List.size_toArray, List.size_toArray, W16.out]; rfl) OW ?_)
      have H8 := (U7 w.heap.size (by omega)).trans H5
      have B8 := B5'.of_block (U7 (w.heap.size + 1) (by omega))
      generalize (w6.alloc (.cells #[.int .u32 0, .int .u32 0, .int .u32 0, .int .u32 0, .int .u32 0, .int .u32 0, .int .u32 0, .int .u32 0, .int .u32 0, .int .u32 0, .int .u32 0, .int .u32 0, .int .u32 0, .int .u32 0, .int .u32 0, .int .u32 0] 47)).setRow w6.heap.size vw.toArray = w7 at *
      generalize w6.heap.size = q at *
      clear n7 OR H7 OW U7 H5 B5' n6 N5
      refine region_end 6 (fun i => [Fact.eq (.agg vw.toArray), Fact.eq (.slice ae ex.length ce), Fact.eq (.slice (some ⟨g2, od, none⟩) m c2), Fact.eq (ag .u8 M), Fact.eq (ag .u8 S), Fact.eq (.bool (!decide (M = S)))].getD i Fact.no) (by kernel_rfl) (by kernel_rfl) rfl ?_ ?_
      · intro i hi
        obtain rfl | rfl | rfl | rfl | rfl | rfl : i = 0 ∨ i = 1 ∨ i = 2 ∨ i = 3 ∨ i = 4 ∨ i = 5 := by omega
        · refine step_load rfl 47 (.tmp 11) rfl (.array 16 45) 16 undS rfl infoS fun f u hb hw hf => ?_
          exact ⟨q, 0, vw, hb.2.2 11 (by kernel_rfl), RGf u q (SR.up hw), W16.out, rfl⟩
        · refine step_pure rfl fun f u hb hw hf => ?_
          have e2 : f.tmps[2]?.getD undef = .slice ae ex.length ce := gdv (hb.2.2 2 (by kernel_rfl))
          exact ⟨.slice ae ex.length ce, by simp [go_sem, e2], rfl⟩
        · refine step_pure rfl fun f u hb hw hf => ?_
          have e9 : f.tmps[9]?.getD undef = .slice (some ⟨g2, od, none⟩) m c2 := gdv (hb.2.2 9 (by kernel_rfl))
          exact ⟨.slice (some ⟨g2, od, none⟩) m c2, by simp [go_sem, e9], rfl⟩
        · refine step_callv rfl 41 _ _ rfl (by kernel_rfl) fun f u hb hw hf => ?_
          have e40 : f.tmps.getD 40 undef = .agg vw.toArray := hf 0 40 (by kernel_rfl)
          have e41 : f.tmps.getD 41 undef = .slice ae ex.length ce := hf 1 41 (by kernel_rfl)
          have e42 : f.tmps.getD 42 undef = .slice (some ⟨g2, od, none⟩) m c2 := hf 2 42 (by kernel_rfl)
          show Calls Try.prog 41 #[f.tmps.getD 40 undef, f.tmps.getD 41 undef, f.tmps.getD 42 undef] u _
          rw [e40, e41, e42]
          exact (SS u (nxt N7 hw)).out.mono (by rintro e w' ⟨rfl, n⟩; exact ⟨_, rfl, n, rfl⟩)
        · refine step_load rfl 40 (.tmp 10) rfl (.array 16 5) 16 undP16 rfl infoP16 fun f u hb hw hf => ?_
          exact ⟨w.heap.size + 1, 0, S.map (Value.int .u8), hb.2.2 10 (by kernel_rfl), (Seg.blk (B8.up hw)).range, by rw [List.length_map]; exact SL.out, rfl⟩
        · refine step_pure rfl fun f u hb hw hf => ⟨.bool (!decide (M = S)), ?_, rfl⟩
          have e43 : f.eval (.tmp 43) = ag .u8 M := hf 3 43 (by kernel_rfl)
          have e44 : f.eval (.tmp 44) = ag .u8 S := hf 4 44 (by kernel_rfl)
          have k := (NE u 43 44).out
          show (execOp f.eval { dst := some 45, op := .binOp .neq 40 (.tmp 43) (.tmp 44) 40, type := _, pos := _, after := _, guard := _ }).run Try.prog u = _
          simp only [execOp, e43, e44]
          rw [Sem.run_bind, k]
          rfl
      intro A w8 hb8 n8 hF
      have e45 := hF 5 45 (by kernel_rfl)
      obtain ⟨vs8, hvs⟩ : ∃ vs8 : Nat → Value, ∀ d, A.tmps.getD d undef = vs8 d := ⟨_, fun _ => rfl⟩
      have v45 : vs8 45 = .bool (!decide (M = S)) := (hvs 45).symm.trans e45
      rw [puts_of (md := .any) (n := 51) (k := 6) (by kernel_rfl) rfl hb8 vs8 hvs]
      have H9 := (n8.block w.heap.size (by have := N7.size; have := H8; exact (Array.getElem?_eq_some_iff.1 H8).1)).trans H8
      have N8 := nxt N7 n8
      have SR8 := SR.up n8
      obtain ⟨c80, c81, f80, f81⟩ := blk_two H9
      clear hb8 hF hvs e45 SS NE B8 SR
      simp only [puts, v45, Act.put, List.setIfInBounds_toArray, List.set_cons_succ, List.set_cons_zero]
      by_cases hMS : M = S
      · have d1 : decide (M = S) = true := decide_eq_true hMS
        have EB : Hid (ob = true) := HOB.out.trans d1
        have EL : Hid (ol = T) := by show _ = _; rw [HOL.out, EB.out, if_pos rfl]
        rw [d1]
        clear HOB HOL
        have RG := RGf w8 q SR8
        clear hMS d1 ML
        go_wp2_with (refine wpList_load_mid rfl 47 (.tmp 11) rfl q 0 rfl vw (.array 16 45) RG undS rfl (by rw [W16.out]; exact infoS) ?_)
        refine (LY w8 N8).out.mono ?_
        rintro e w9 ⟨⟨v9, rfl, R9⟩, n9⟩
        obtain ⟨a9, c9, g9, rfl, o9, p9, q9, r9⟩ := R9.own
        have l8 := (Array.getElem?_eq_some_iff.1 H9).1
        have H10 := (n9.block w.heap.size l8).trans H9
        obtain ⟨c90, c91, f90, f91⟩ := blk_two H10
        have N9 := nxt N8 n9
        have O1 := (Only.setCell w9 w.heap.size 0 (.bool true)).trans (Only.setCell _ w.heap.size 1 (.slice a9 T.length c9))
        have o10 := o9.only O1 (fun _ => by omega)
        have N10 := N9.trans (O1.below (Nat.le_refl _))
        clear LY RGf SR8 RG n9 c80 c81 f80 f81 H10 R9 o9 O1
        go_wp2
        exact bodyPost_ret (v := .agg #[.bool true, .slice a9 T.length c9]) (by simp [results, Try.results16, go_sem, c90, c91]) rfl ⟨by rw [EB.out, EL.out]; exact ⟨a9, c9, g9, rfl, o10, p9, q9, by omega⟩, N10⟩
      · have d1 : decide (M = S) = false := decide_eq_false hMS
        have EB : Hid (ob = false) := HOB.out.trans d1
        have EL : Hid (ol = []) := by show _ = _; rw [HOL.out, EB.out, if_neg (by decide)]
        rw [d1]
        clear HOB HOL
        have O1 := (Only.setCell w8 w.heap.size 0 (.bool false)).trans (Only.setCell _ w.heap.size 1 (.slice none 0 0))
        have N10 := N8.trans (O1.below (Nat.le_refl _))
        clear hMS d1 ML LY RGf SR8 O1
        go_wp2
        exact bodyPost_ret (v := .agg #[.bool false, .slice none 0 0]) (by simp [results, Try.results16, go_sem, c80, c81]) rfl ⟨by rw [EB.out, EL.out]; exact newO_bad _ _, N10⟩
    · have OB : Hid (opB key non ex sd = false) := by show _ = _; unfold opB; rw [decide_eq_false h16]; simp
      have OLt : Hid (opL key non ex sd = []) := by show _ = _; unfold opL; rw [if_neg (by rw [OB.out]; decide)]
      rw [OLt.out, OB.out]
      have lt : (sd.length : Int) < 16 := by omega
      clear OB OLt
      go_enter Try.func16, Try.ntmps16
      go_upto_region 1 with fail
      generalize w.alloc (.cells #[.bool false, .slice none 0 0] 30) = w1 at *
      go_wp2_with fail
      refine (IK w1).out.mono ?_
      rintro e w2 ⟨rfl, h⟩
      have h := h.symm
      subst h
      obtain ⟨c10, c11, f10, f11⟩ := blk_two H0
      have O1 := (Only.setCell w1 w.heap.size 0 (.bool false)).trans (Only.setCell _ w.heap.size 1 (.slice none 0 0))
      have N10 := n0.trans (O1.below (Nat.le_refl _))
      clear IK O1
      go_wp2
      exact bodyPost_ret (v := .agg #[.bool false, .slice none 0 0]) (by simp [results, Try.results16, go_sem, c10, c11]) rfl ⟨newO_bad _ _, N10⟩
  · have h1' : (decide (key.length = 32) && decide (non.length = 12)) = false := by simpa using h1
    simp only [h1'] at IK
    have OB : Hid (opB key non ex sd = false) := by show _ = _; unfold opB fitK; rw [h1']; rfl
    have OLt : Hid (opL key non ex sd = []) := by show _ = _; unfold opL; rw [if_neg (by rw [OB.out]; decide)]
    rw [OLt.out, OB.out]
    clear OB OLt h1 h1'
    go_enter Try.func16, Try.ntmps16
    go_upto_region 1 with fail
    generalize w.alloc (.cells #[.bool false, .slice none 0 0] 30) = w1 at *
    go_wp2_with fail
    refine (IK w1).out.mono ?_
    rintro e w2 ⟨rfl, h⟩
    have h := h.symm
    subst h
    obtain ⟨c10, c11, f10, f11⟩ := blk_two H0
    have O1 := (Only.setCell w1 w.heap.size 0 (.bool false)).trans (Only.setCell _ w.heap.size 1 (.slice none 0 0))
    have N10 := n0.trans (O1.below (Nat.le_refl _))
    clear IK O1
    go_wp2
    exact bodyPost_ret (v := .agg #[.bool false, .slice none 0 0]) (by simp [results, Try.results16, go_sem, c10, c11]) rfl ⟨newO_bad _ _, N10⟩
end Go.Proofs.Ythfbchkonklmkaa

/-
  What is drawn: the source, its answers, bytes; the laws' own small helpers (Dr without the field's texts).
-/
namespace Go.Proofs.Ythfbchkonklmkaa
open Go.RowKit

/-- Of what was there nothing but block g has turned. -/
structure But (g : Nat) (w w' : World) : Prop where
  os : w'.os = w.os
  tape : w'.tape = w.tape
  output : w'.output = w.output
  size : w.heap.size ≤ w'.heap.size
  block : ∀ k, k < w.heap.size → k ≠ g → w'.heap[k]? = w.heap[k]?

theorem But.of {g : Nat} {a b c : World} (h : Below a.heap.size a b) (k : Only g b c) : But g a c :=
  ⟨k.os.trans h.os, k.tape.trans h.tape, k.output.trans h.output, by rw [k.size]; exact h.size, fun i hi hne => (k.block i hne).trans (h.block i hi)⟩

theorem But.below {g B : Nat} {w w' : World} (h : But g w w') (hB : B ≤ g) (hs : B ≤ w.heap.size) : Below B w w' := ⟨h.os, h.tape, h.output, h.size, fun k hk => h.block k (by omega) (by omega)⟩

theorem Own.but {w w' : World} {g g' : Nat} {a : Option Addr} {k : IntKind} {xs : List Int} (h : Own w g a k xs) (ho : But g' w w') (hne : 0 < xs.length → g ≠ g') : Own w' g a k xs := by
  by_cases h0 : 0 < xs.length
  · exact h.of_block (ho.block g (h.rd.lt h0) (hne h0))
  · exact fun h1 => absurd h1 h0

set_option maxHeartbeats 400000 in
theorem lwCopy_any (w : World) (g : Nat) (a : Option Addr) (cap : Nat) (xs : List Int) (hr : Rd w g a .u8 xs) (hc : a = none → cap = 0) (hn : xs.length ≤ 1048576) :
    Calls Try.prog 22 #[.slice a xs.length cap] w fun e w' => NewRow w.heap.size w' e .u8 xs ∧ Below w.heap.size w w' := by
  obtain ⟨i0, hi, hz0, hz1, hz2⟩ := info_parts Try.info5
  have hown : (w.alloc (.cells #[] 5)).ownsRow w.heap.size 5 1 (.slice (some ⟨w.heap.size, 0, none⟩) 0 0) 0 [] := World.ownsRow_lit w #[] 0 (Nat.le_refl _) (by unfold maxLen; omega) (by simp)
  have hal : Below w.heap.size w (w.alloc (.cells #[] 5)) := (Below.refl _ _).alloc (Nat.le_refl _) _
  cases a with
  | none =>
    obtain rfl : xs = [] := by
      by_cases h0 : 0 < xs.length
      · obtain ⟨off, h, _⟩ := hr h0
        simp at h
      · exact List.eq_nil_of_length_eq_zero (by omega)
    obtain rfl := hc rfl
    go_enter Try.func22, Try.ntmps22
    go_wp2_with (at_builtin; refine wpList_append_own_none rfl _ _ 22 rfl w.heap.size 5 i0 1 Try.underlying22 hi _ 0 [] rfl hown rfl ?_)
    go_ret
    exact ⟨⟨_, _, w.heap.size, rfl, Own.nil _ _ _ _, by simp, Nat.zero_le _, Nat.le_refl _⟩, hal⟩
  | some ad =>
    have hcell : ∀ j u, (xs.map (Value.int .u8))[j]? = some u → (w.alloc (.cells #[] 5)).cell? (ad.add j) = some u := by
      intro j u hj
      have hjl : j < xs.length := by
        have := (List.getElem?_eq_some_iff.1 hj).1
        simpa using this
      obtain ⟨off, ha, hcc⟩ := (hr.up hal) (by omega)
      simp only [Option.some.injEq] at ha
      subst ha
      rw [Addr.add_mid, hcc j hjl]
      simpa [hjl] using hj
    have hone : ∀ u ∈ xs.map (Value.int .u8), u.oneCell' = true := by
      intro u hu
      obtain ⟨x, _, rfl⟩ := List.mem_map.1 hu
      rfl
    go_enter Try.func22, Try.ntmps22
    go_wp2_with (at_builtin; refine wpList_append_own _ rfl _ _ 22 rfl w.heap.size 5 i0 (.int .u8 0) 1 1 Try.underlying22 hi hz0 hz1 hz2 rfl (by decide) (.slice (some ⟨w.heap.size, 0, none⟩) 0 0) 0 [] rfl hown ad xs.length cap (xs.map (Value.int .u8)) rfl (by simp) hcell hone (by unfold maxLen; omega) (by omega) (by simp) ?_; intro v' w1 hown' hgrow _)
    simp only [Nat.zero_add, List.nil_append] at hown'
    obtain ⟨a', c', g', rfl, h1, h2, h3, h4⟩ := Own.of_ownsRow hown'
    have hB : Below w.heap.size w w1 := hal.grown hgrow (by simp) (by intro k hk; simp [Value.ownBlock] at hk; omega)
    clear hown' hgrow hown
    go_wp2
    go_ret
    exact ⟨⟨_, _, g', rfl, h1, h2, h3, h4⟩, hB⟩

/-- The text of bytes. -/
def str (xs : List Int) : ByteArray := xs.foldl (fun r n => r.push (UInt8.ofNat n.toNat)) ByteArray.empty

theorem conv_run (w : World) (g : Nat) (a : Option Addr) (c : Nat) (xs : List Int) (hr : Rd w g a .u8 xs) : (convert 22 9 (.slice a xs.length c)).run Try.prog w = .ok (.string (str xs)) w := by
  rw [run_convert_bytes_string w 22 9 5 a xs.length c Try.underlying22 Try.underlying5 Try.underlying9]
  cases a with
  | none =>
    obtain rfl : xs = [] := by
      by_cases h0 : 0 < xs.length
      · obtain ⟨off, h, _⟩ := hr h0
        simp at h
      · exact List.eq_nil_of_length_eq_zero (by omega)
    simp [Conv.bytesToString, str]
  | some ad =>
    have hl := run_loadCells_list (P := Try.prog) w ad (xs.map (Value.int .u8)) (fun j v hj => by
      have hjl : j < xs.length := by
        have := (List.getElem?_eq_some_iff.1 hj).1
        simpa using this
      obtain ⟨off, ha, hcc⟩ := hr (by omega)
      simp only [Option.some.injEq] at ha
      subst ha
      rw [add_mid, hcc j hjl]
      simpa [hjl] using hj)
    rw [List.length_map] at hl
    exact run_bytesToString w ad xs.length c xs hl

set_option maxHeartbeats 400000 in
theorem lwSame_same (w : World) (g g' : Nat) (a b : Option Addr) (ca cb : Nat) (xs : List Int) (ha : Rd w g a .u8 xs) (hb : Rd w g' b .u8 xs) :
    Calls Try.prog 23 #[.slice a xs.length ca, .slice b xs.length cb] w fun e w' => e = .returned (.bool true) ∧ w' = w := by
  have h1 := conv_run w g a ca xs ha
  have h2 := conv_run w g' b cb xs hb
  generalize str xs = s at *
  go_enter Try.func23, Try.ntmps23
  go_wp2
  go_ret
  exact ⟨by simp, rfl⟩

/-- The source of what is drawn: its code, and how often it was asked. -/
structure Src (w : World) (s : Nat) (a : Option Addr) (n c : Nat) (at_ : Int) : Prop where
  code : w.cell? ⟨s, 0, none⟩ = some (.slice a n c)
  at_ : w.cell? ⟨s, 1, none⟩ = some (.int .i64 at_)
  free : w.frozen? ⟨s, 1, none⟩ = false

theorem Src.lt {w : World} {s : Nat} {a : Option Addr} {n c : Nat} {t : Int} (h : Src w s a n c t) : s < w.heap.size := block_lt_of_cell h.code

theorem Src.of_block {w w' : World} {s : Nat} {a : Option Addr} {n c : Nat} {t : Int} (h : Src w s a n c t) (hb : w'.heap[s]? = w.heap[s]?) : Src w' s a n c t :=
  ⟨(World.cell?_of_block (a := ⟨s, 0, none⟩) hb).trans h.code, (World.cell?_of_block (a := ⟨s, 1, none⟩) hb).trans h.at_, (World.frozen?_of_block (a := ⟨s, 1, none⟩) hb).trans h.free⟩

theorem Src.up {w w' : World} {s : Nat} {a : Option Addr} {n c : Nat} {t : Int} (h : Src w s a n c t) (hb : Below w.heap.size w w') : Src w' s a n c t := h.of_block (hb.block s h.lt)

theorem Src.step {w : World} {s : Nat} {a : Option Addr} {n c : Nat} {t : Int} (h : Src w s a n c t) (u : Int) (m : Nat) : Src ((w.setCell ⟨s, 1, none⟩ (.int .i64 u)).drewN m) s a n c u := by
  refine ⟨?_, ?_, ?_⟩
  · rw [World.cell?_drewN, World.cell?_setCell_other (h := by simp)]; exact h.code
  · rw [World.cell?_drewN, World.cell?_setCell_same _ _ _ h.at_]
  · rw [World.frozen?_drewN, World.frozen?_setCell]; exact h.free

theorem Only.step (w : World) (s : Nat) (u : Value) (m : Nat) : Only s w ((w.setCell ⟨s, 1, none⟩ u).drewN m) := (Only.setCell w s 1 u).trans (Only.drewN _ _ _)

set_option maxHeartbeats 2000000 in
theorem l1Next_any (w : World) (s g : Nat) (a : Option Addr) (c : Nat) (xs : List Int) (t n : Int) (hs : Src w s a xs.length c t) (hr : Rd w g a .u8 xs) (hne : 0 < xs.length → g ≠ s) (hb : Byt xs) (hl : xs.length ≤ 1048576)
    (t0 : 0 ≤ t) (t1 : t ≤ 1048576) (n0 : 1 ≤ n) (n1 : n ≤ 1048576) :
    Calls Try.prog 47 #[.pointer (some ⟨s, 0, none⟩), .int .i64 n] w fun e w' => ∃ r, e = .returned (.int .i64 r) ∧ (0 ≤ r ∧ r < n) ∧ Src w' s a xs.length c (t + 1) ∧ Only s w w' := by
  have c0 := hs.code
  have c1 := hs.at_
  have f1 := hs.free
  have k1 : (w.setCell ⟨s, 1, none⟩ (.int .i64 (t + 1))).cell? ⟨s, 1, none⟩ = some (.int .i64 (t + 1)) := World.cell?_setCell_same _ _ _ hs.at_
  have k0 : (w.setCell ⟨s, 1, none⟩ (.int .i64 (t + 1))).cell? ⟨s, 0, none⟩ = some (.slice a xs.length c) := by rw [World.cell?_setCell_other (h := by simp)]; exact hs.code
  have tn : decide (n < 1) = false := by simp; omega
  by_cases h0 : xs.length = 0
  · have hk : ((xs.length : Int) == 0) = true := by simp [h0]
    have r0 := Int.emod_nonneg (t * 7) (show n ≠ 0 by omega)
    have r1 := Int.emod_lt_of_pos (t * 7) (show 0 < n by omega)
    have S := hs.step (t + 1) 0
    have O := Only.step w s (.int .i64 (t + 1)) 0
    clear h0
    go_enter Try.func47, Try.ntmps47
    go_wp2
    go_ret
    exact ⟨_, rfl, ⟨r0, r1⟩, S, O⟩
  · have hk : ((xs.length : Int) == 0) = false := beq_eq_false_iff_ne.2 (by omega)
    obtain ⟨off, rfl, hc⟩ := hr (by omega)
    have gs : g ≠ s := hne (by omega)
    obtain ⟨i1, hi1⟩ := Int.eq_ofNat_of_zero_le (Int.emod_nonneg t (show (xs.length : Int) ≠ 0 by omega))
    have li1 : (i1 : Int) < (xs.length : Int) := by rw [← hi1]; exact Int.emod_lt_of_pos _ (by omega)
    obtain ⟨i2, hi2⟩ := Int.eq_ofNat_of_zero_le (Int.emod_nonneg (t + 1) (show (xs.length : Int) ≠ 0 by omega))
    have li2 : (i2 : Int) < (xs.length : Int) := by rw [← hi2]; exact Int.emod_lt_of_pos _ (by omega)
    obtain ⟨q, hq⟩ : ∃ q, t / (xs.length : Int) = q := ⟨_, rfl⟩
    have q0 : 0 ≤ q := by rw [← hq]; exact Int.ediv_nonneg t0 (by omega)
    have q1 : q ≤ 1048576 := by rw [← hq]; exact Int.le_trans (Int.ediv_le_self _ t0) t1
    have x1 : (w.setCell ⟨s, 1, none⟩ (.int .i64 (t + 1))).cell? ⟨g, off + i1, none⟩ = some (.int .u8 (xs.getD i1 0)) := by rw [World.cell?_setCell_other (h := fun e => gs (by simpa using (congrArg Addr.block e).symm))]; exact hc i1 (by omega)
    have x2 : (w.setCell ⟨s, 1, none⟩ (.int .i64 (t + 1))).cell? ⟨g, off + i2, none⟩ = some (.int .u8 (xs.getD i2 0)) := by rw [World.cell?_setCell_other (h := fun e => gs (by simpa using (congrArg Addr.block e).symm))]; exact hc i2 (by omega)
    have b1 := hb i1
    have b2 := hb i2
    have S := fun m => hs.step (t + 1) m
    have O := fun m => Only.step w s (.int .i64 (t + 1)) m
    generalize xs.getD i1 0 = x at *
    generalize xs.getD i2 0 = y at *
    clear hc hs hr h0
    by_cases hn : n ≤ 200
    · have tn2 : decide (200 < n) = false := by simp; omega
      have r0 := Int.emod_nonneg (x + q * 37) (show n ≠ 0 by omega)
      have r1 := Int.emod_lt_of_pos (x + q * 37) (show 0 < n by omega)
      clear x2 hi2 li2 b2
      go_enter Try.func47, Try.ntmps47
      go_wp2
      go_quiet (fail)
      go_wp2
      go_ret
      exact ⟨_, rfl, ⟨r0, r1⟩, S _, O _⟩
    · have tn2 : decide (200 < n) = true := by simp; omega
      have r0 := Int.emod_nonneg ((x + q * 37) * 251 + y * 13 + t) (show n ≠ 0 by omega)
      have r1 := Int.emod_lt_of_pos ((x + q * 37) * 251 + y * 13 + t) (show 0 < n by omega)
      go_enter Try.func47, Try.ntmps47
      go_wp2
      go_quiet (fail)
      go_wp2
      go_quiet (fail)
      go_wp2
      go_ret
      exact ⟨_, rfl, ⟨r0, r1⟩, S _, O _⟩

theorem But.refl (g : Nat) (w : World) : But g w w := ⟨rfl, rfl, rfl, Nat.le_refl _, fun _ _ _ => rfl⟩

theorem But.only {g : Nat} {a b c : World} (h : But g a b) (k : Only g b c) : But g a c :=
  ⟨k.os.trans h.os, k.tape.trans h.tape, k.output.trans h.output, by rw [k.size]; exact h.size, fun i hi hne => (k.block i hne).trans (h.block i hi hne)⟩

theorem But.grown {g : Nat} {a b c : World} {row : Option Nat} (h : But g a b) (k : b.grownBy c row) (hr : ∀ i, row = some i → a.heap.size ≤ i) : But g a c :=
  ⟨k.os.trans h.os, k.tape.trans h.tape, k.output.trans h.output, Nat.le_trans h.size k.size, fun i hi hne => (k.block i (Nat.lt_of_lt_of_le hi h.size) (fun e => by have := hr i e.symm; omega)).trans (h.block i hi hne)⟩

theorem But.trans {g : Nat} {a b c : World} (h : But g a b) (k : But g b c) : But g a c :=
  ⟨k.os.trans h.os, k.tape.trans h.tape, k.output.trans h.output, Nat.le_trans h.size k.size, fun i hi hne => (k.block i (Nat.lt_of_lt_of_le hi h.size) hne).trans (h.block i hi hne)⟩

theorem But.ofBelow {g : Nat} {a b : World} (h : Below a.heap.size a b) : But g a b := ⟨h.os, h.tape, h.output, h.size, fun i hi _ => h.block i hi⟩

theorem But.ofOnly {g : Nat} {a b : World} (h : Only g a b) : But g a b := (But.refl g a).only h

theorem Rd.but {w w' : World} {g g' : Nat} {a : Option Addr} {k : IntKind} {xs : List Int} (h : Rd w g a k xs) (ho : But g' w w') (hne : 0 < xs.length → g ≠ g') : Rd w' g a k xs := by
  by_cases h0 : 0 < xs.length
  · exact h.of_block (ho.block g (h.lt h0) (hne h0))
  · exact fun h1 => absurd h1 h0

theorem Only.grown {g : Nat} {a b : World} (h : Only g a b) : a.grownBy b (some g) := ⟨h.os, h.tape, h.output, Nat.le_of_eq h.size.symm, fun k _ hne => h.block k (fun e => hne (by rw [e]))⟩

theorem byt_snoc {ys : List Int} (h : Byt ys) (x : Int) (h0 : 0 ≤ x) (h1 : x < 256) : Byt (ys ++ [x]) := by
  intro i
  by_cases hi : i < ys.length
  · have := h i
    simpa [List.getElem?_append, hi] using this
  · by_cases e : i = ys.length
    · subst e; simp; exact ⟨h0, h1⟩
    · rw [List.getD_eq_getElem?_getD, List.getElem?_eq_none (by simp; omega)]
      decide

set_option maxHeartbeats 2000000 in
theorem l1DrawBytes_any (w : World) (s g : Nat) (a : Option Addr) (c : Nat) (xs : List Int) (t : Int) (n : Nat) (hs : Src w s a xs.length c t) (hr : Rd w g a .u8 xs) (hne : 0 < xs.length → g ≠ s) (hb : Byt xs) (hl : xs.length ≤ 1048576)
    (t0 : 0 ≤ t) (t1 : t + (n : Int) ≤ 1048576) :
    Calls Try.prog 46 #[.pointer (some ⟨s, 0, none⟩), .int .i64 n] w fun e w' => ∃ ys, ys.length = n ∧ Byt ys ∧ NewRow w.heap.size w' e .u8 ys ∧ Src w' s a xs.length c (t + (n : Int)) ∧ But s w w' := by
  obtain ⟨i0, hi, hz0, hz1, hz2⟩ := info_parts Try.info5
  have hown0 : (w.alloc (.cells #[] 5)).ownsRow w.heap.size 5 1 (.slice (some ⟨w.heap.size, 0, none⟩) 0 0) 0 [] := World.ownsRow_lit w #[] 0 (Nat.le_refl _) (by unfold maxLen; omega) (by simp)
  have hal : Below w.heap.size w (w.alloc (.cells #[] 5)) := (Below.refl _ _).alloc (Nat.le_refl _) _
  have hsl := hs.lt
  go_enter Try.func46, Try.ntmps46
  go_wp2
  go_loopw [5, 6] (fun v i wr => ∃ (k : Nat) (ys : List Int), k ≤ n ∧ i = .int .i64 k ∧ Hid (ys.length = k) ∧ Byt ys ∧ wr.ownsRow w.heap.size 5 1 v k (ys.map (Value.int .u8)) ∧ Src wr s a xs.length c (t + (k : Int)) ∧ But s w wr) (fun _ i _ => n - (intOf i).toNat)
  case atStart => exact ⟨0, [], Nat.zero_le _, rfl, rfl, byt_nil, hown0, by simpa using hs.up hal, But.ofBelow hal⟩
  case round =>
    obtain ⟨k, ys, hk, rfl, hyl, hyb, hown, hS, hN⟩ := hrel
    have hr' := hr.but hN hne
    by_cases hlt : k < n
    · have hob := hown.lt
      go_wp2_with fail
      refine (l1Next_any wr s g a c xs (t + (k : Int)) 256 hS hr' hne hb hl (by omega) (by omega) (by decide) (by decide)).mono ?_
      rintro e w1 ⟨r, rfl, ⟨r0, r1⟩, S1, O1⟩
      have N1 := hN.only O1
      have hown1 := hown.kept O1.grown (by
        cases hv : Value.ownBlock _ with
        | none => exact .inl rfl
        | some q => exact .inr (fun e => by have := (hob q hv).1; simp at e; omega))
      have m1 : r % 256 = r := by omega
      have sz := N1.size
      clear hown hS hN O1 hr'
      go_wp2_with (at_builtin; refine wpList_append_own _ rfl _ _ 22 rfl w.heap.size 5 i0 (.int .u8 0) 1 1 Try.underlying22 hi hz0 hz1 hz2 rfl (by decide) _ k (ys.map (Value.int .u8)) rfl (hown1.alloc _) ⟨w1.heap.size, 0, none⟩ 1 1 [.int .u8 r] rfl rfl ?c1 ?c2 ?c3 ?c4 ?c5 ?_)
      case c1 =>
        intro j u hj
        match j, hj with
        | 0, hj => simp at hj; subst hj; simp [Addr.add]
      case c2 => intro u hu; simp at hu; subst hu; rfl
      case c3 => unfold maxLen; omega
      case c4 => omega
      case c5 => simp; omega
      · intro v' w2 hown2 hgrow _
        have nA : But s w (w1.alloc (.cells #[.int .u8 r] 5)) := N1.trans (But.ofBelow ((Below.refl _ _).alloc (Nat.le_refl _) _))
        have N2 := nA.grown hgrow (fun i hi => (hob i hi).1)
        have S2 : Src w2 s a xs.length c (t + ((k + 1 : Nat) : Int)) := by
          have := (S1.up ((Below.refl _ _).alloc (Nat.le_refl _) (.cells #[.int .u8 r] 5))).of_block (hgrow.block s (by simp; omega) (fun e => by have := (hob s e.symm).1; omega))
          rw [show t + ((k + 1 : Nat) : Int) = t + (k : Int) + 1 by omega]
          exact this
        have hown3 : w2.ownsRow w.heap.size 5 1 v' (k + 1) ((ys ++ [r]).map (Value.int .u8)) := by simpa using hown2
        have hl3 : Hid ((ys ++ [r]).length = k + 1) := by show _ = _; have := hyl.out; simp; omega
        have hb3 := byt_snoc hyb r r0 r1
        clear hown1 hown2 hgrow N1 S1 nA hob
        go_wp2
        go_roundw
        case rel => exact ⟨k + 1, ys ++ [r], by omega, by go_num, hl3, hb3, hown3, S2, N2⟩
        case measure => simp [intOf]; omega
    · obtain rfl : k = n := by omega
      have hown' := hown
      rw [← hyl.out] at hown'
      obtain ⟨a', c', g', hv, o1, o2, o3, o4⟩ := Own.of_ownsRow hown'
      subst hv
      clear hown hown'
      go_wp2
      go_ret
      exact ⟨ys, hyl.out, hyb, ⟨_, _, g', rfl, o1, o2, o3, o4⟩, hS, hN⟩

theorem But.setCell {g b off : Nat} {a w : World} {u : Value} (h : But g a w) (hb : a.heap.size ≤ b) : But g a (w.setCell ⟨b, off, none⟩ u) :=
  ⟨h.os, h.tape, h.output, by simpa [World.setCell] using h.size, fun k hk hne => (heap_setCell_other w ⟨b, off, none⟩ k u (by show k ≠ b; omega)).trans (h.block k hk hne)⟩

set_option maxHeartbeats 400000 in
theorem l1Source_any (w : World) (a : Option Addr) (n c : Nat) (hn : n ≤ 1048576) :
    Calls Try.prog 43 #[.slice a n c] w fun e w' => e = .returned (.pointer (some ⟨w.heap.size, 0, none⟩)) ∧ Src w' w.heap.size a n c 0 ∧ Below w.heap.size w w' := by
  by_cases h : 12 < (n : Int) / 16
  · have t1 : decide (12 < (n : Int) / 16) = true := by simp; omega
    go_enter Try.func43, Try.ntmps43
    go_wp2
    go_ret
    exact ⟨rfl, ⟨by simp [World.cell?_alloc_at], by simp [World.cell?_alloc_at], by simp [World.frozen?_alloc_at]⟩, (Below.refl _ _).alloc (Nat.le_refl _) _⟩
  · have t1 : decide (12 < (n : Int) / 16) = false := by simp; omega
    go_enter Try.func43, Try.ntmps43
    go_wp2
    go_ret
    exact ⟨rfl, ⟨by simp [World.cell?_alloc_at], by simp [World.cell?_alloc_at], by simp [World.frozen?_alloc_at]⟩, (Below.refl _ _).alloc (Nat.le_refl _) _⟩

set_option maxHeartbeats 400000 in
theorem l1Chance_any (w : World) (s g : Nat) (a : Option Addr) (c : Nat) (xs : List Int) (t n : Int) (hs : Src w s a xs.length c t) (hr : Rd w g a .u8 xs) (hne : 0 < xs.length → g ≠ s) (hb : Byt xs) (hl : xs.length ≤ 1048576)
    (t0 : 0 ≤ t) (t1 : t ≤ 1048576) (n0 : 1 ≤ n) (n1 : n ≤ 1048576) :
    Calls Try.prog 70 #[.pointer (some ⟨s, 0, none⟩), .int .i64 n] w fun e w' => ∃ b, e = .returned (.bool b) ∧ Src w' s a xs.length c (t + 1) ∧ Only s w w' := by
  go_enter Try.func70, Try.ntmps70
  go_wp2_with fail
  refine (l1Next_any w s g a c xs t n hs hr hne hb hl t0 t1 n0 n1).mono ?_
  rintro e w1 ⟨r, rfl, _, S1, O1⟩
  go_wp2
  go_ret
  exact ⟨_, rfl, S1, O1⟩

/-- A row that the call made: where it lies, and that it may be read again. -/
def Row (w : World) (g : Nat) (a : Option Addr) (c : Nat) (xs : List Int) : Prop := Own w g a .u8 xs ∧ (a = none → c = 0) ∧ xs.length ≤ c

end Go.Proofs.Ythfbchkonklmkaa

/-
  Texts held against each other: cut out of DrS and Sa16.
-/
namespace Go.Proofs.Ythfbchkonklmkaa
open Go.RowKit

theorem str_data : ∀ (xs : List Int) (acc : ByteArray), (xs.foldl (fun r n => r.push (UInt8.ofNat n.toNat)) acc).data = acc.data ++ (xs.map (fun n => UInt8.ofNat n.toNat)).toArray
  | [], acc => by simp
  | x :: r, acc => by
    rw [List.foldl_cons, str_data r]
    simp [ByteArray.push]

theorem toList_inj {s t : ByteArray} (h : s.toList = t.toList) : s = t := by
  rw [ByteArray.toList_eq, ByteArray.toList_eq] at h
  have := Array.ext' h
  cases s; cases t; simp_all

theorem str_inj {xs ys : List Int} (hx : Byt xs) (hy : Byt ys) (h : str xs = str ys) : xs = ys := by
  have h1 : (xs.map (fun n => UInt8.ofNat n.toNat)) = (ys.map (fun n => UInt8.ofNat n.toNat)) := by
    have := congrArg ByteArray.data h
    unfold str at this
    rw [str_data, str_data] at this
    simpa using this
  have hl : xs.length = ys.length := by have := congrArg List.length h1; simpa using this
  refine eq_of_getD hl (fun i hi => ?_)
  have h2 : (xs.map (fun n => UInt8.ofNat n.toNat))[i]? = (ys.map (fun n => UInt8.ofNat n.toNat))[i]? := by rw [h1]
  have a := hx i
  have b := hy i
  have hi' : i < ys.length := by omega
  simp [hi, hi'] at h2 a b ⊢
  have h3 := congrArg UInt8.toNat h2
  simp at h3
  omega

set_option maxHeartbeats 1000000 in
theorem lwSame_diff (w : World) (g g' : Nat) (a b : Option Addr) (ca cb : Nat) (xs ys : List Int) (ha : Rd w g a .u8 xs) (hb : Rd w g' b .u8 ys) (hx : Byt xs) (hy : Byt ys) (hne : xs ≠ ys) :
    Calls Try.prog 23 #[.slice a xs.length ca, .slice b ys.length cb] w fun e w' => e = .returned (.bool false) ∧ w' = w := by
  have h1 := conv_run w g a ca xs ha
  have h2 := conv_run w g' b cb ys hb
  have h3 : str xs ≠ str ys := fun h => hne (str_inj hx hy h)
  clear hne
  generalize str xs = s at *
  generalize str ys = t at *
  have H3 := hide h3
  clear h3
  go_enter Try.func23, Try.ntmps23
  go_wp2
  go_ret
  have e : (s.toList == t.toList) = false := by
    cases h : (s.toList == t.toList)
    · rfl
    · exact absurd (toList_inj (beq_iff_eq.1 h)) H3.out
  exact ⟨by rw [← e]; rfl, rfl⟩

set_option maxHeartbeats 400000 in
theorem l1Same_same (w : World) (g g' : Nat) (a b : Option Addr) (ca cb : Nat) (xs : List Int) (ha : Rd w g a .u8 xs) (hb : Rd w g' b .u8 xs) :
    Calls Try.prog 42 #[.slice a xs.length ca, .slice b xs.length cb] w fun e w' => e = .returned (.bool true) ∧ w' = w := by
  have h1 := conv_run w g a ca xs ha
  have h2 := conv_run w g' b cb xs hb
  generalize str xs = s at *
  go_enter Try.func42, Try.ntmps42
  go_wp2
  go_ret
  exact ⟨by simp, rfl⟩

set_option maxHeartbeats 1000000 in
theorem l1Same_diff (w : World) (g g' : Nat) (a b : Option Addr) (ca cb : Nat) (xs ys : List Int) (ha : Rd w g a .u8 xs) (hb : Rd w g' b .u8 ys) (hx : Byt xs) (hy : Byt ys) (hne : xs ≠ ys) :
    Calls Try.prog 42 #[.slice a xs.length ca, .slice b ys.length cb] w fun e w' => e = .returned (.bool false) ∧ w' = w := by
  have h1 := conv_run w g a ca xs ha
  have h2 := conv_run w g' b cb ys hb
  have h3 : str xs ≠ str ys := fun h => hne (str_inj hx hy h)
  clear hne
  generalize str xs = s at *
  generalize str ys = t at *
  have H3 := hide h3
  clear h3
  go_enter Try.func42, Try.ntmps42
  go_wp2
  go_ret
  have e : (s.toList == t.toList) = false := by
    cases h : (s.toList == t.toList)
    · rfl
    · exact absurd (toList_inj (beq_iff_eq.1 h)) H3.out
  exact ⟨by rw [← e]; rfl, rfl⟩

theorem l1Same_any (w : World) (g g' : Nat) (a b : Option Addr) (ca cb : Nat) (xs ys : List Int) (ha : Rd w g a .u8 xs) (hb : Rd w g' b .u8 ys) (hx : Byt xs) (hy : Byt ys) :
    Calls Try.prog 42 #[.slice a xs.length ca, .slice b ys.length cb] w fun e w' => e = .returned (.bool (decide (xs = ys))) ∧ w' = w := by
  by_cases h : xs = ys
  · subst h
    simpa using l1Same_same w g g' a b ca cb xs ha hb
  · have := l1Same_diff w g g' a b ca cb xs ys ha hb hx hy h
    simpa [h] using this

end Go.Proofs.Ythfbchkonklmkaa

/-
  The model's Open (written by gens/pzg.py).
-/
namespace Go.Proofs.Ythfbchkonklmkaa
open Go Go.RowKit

theorem opT_opS (sd : List Int) : opT sd ++ opS sd = sd := List.take_append_drop _ _
theorem seal_back {key non ex sd : List Int} (hk : fitK key non = true) (db : Byt sd) : decide (seA key non ex (xt key non (opT sd)) = sd) = decide (ssB (nsW key non) ex (opT sd) = opS sd) := by
  have h : seA key non ex (xt key non (opT sd)) = opT sd ++ ssB (nsW key non) ex (opT sd) := by
    unfold seA
    rw [if_pos hk, xt_xt key non (show Byt (opT sd) from byt_take db _)]
  rw [h]
  by_cases e : ssB (nsW key non) ex (opT sd) = opS sd
  · rw [decide_eq_true e, e, opT_opS]; simp
  · rw [decide_eq_false e]
    refine decide_eq_false fun k => e ?_
    have k2 : opT sd ++ ssB (nsW key non) ex (opT sd) = opT sd ++ opS sd := k.trans (opT_opS sd).symm
    exact List.append_cancel_left k2
set_option maxRecDepth 100000 in
set_option maxHeartbeats 16000000 in
theorem specOpen_any (w : World) (g : Nat) (a : Option Addr) (c : Nat) (key : List Int) (hr : Rd w g a .u8 key) (hb : Byt key) (hc : key.length ≤ c) (g' : Nat) (a' : Option Addr) (c' : Nat) (non : List Int) (hr' : Rd w g' a' .u8 non) (hb' : Byt non) (hc' : non.length ≤ c')
    (ge : Nat) (ae : Option Addr) (ce : Nat) (ex : List Int) (he : Rd w ge ae .u8 ex) (eb : Byt ex) (en : ae = none → ce = 0)
    (g2 : Nat) (a2 : Option Addr) (c2 : Nat) (sd : List Int) (hr2 : Rd w g2 a2 .u8 sd) (db : Byt sd) (dc : sd.length ≤ c2) (hs : ex.length + sd.length ≤ 4000000) :
    Calls Try.prog 15 #[.slice a key.length c, .slice a' non.length c', .slice ae ex.length ce, .slice a2 sd.length c2] w fun e w' => NewO w.heap.size w' e (opB key non ex sd) (opL key non ex sd) ∧ Below w.heap.size w w' := by
  have n0 : Below w.heap.size w (w.alloc (.cells #[.bool false, .slice none 0 0] 30)) := (Below.refl _ _).alloc (Nat.le_refl _) _
  have H0 : (w.alloc (.cells #[.bool false, .slice none 0 0] 30)).heap[w.heap.size]? = some (.cells #[.bool false, .slice none 0 0] 30 (0, 0)) := heap_alloc_last w _
  have FT := fun W => hide (fits_any W a a' c c' key non 0)
  by_cases h1 : fitK key non = true
  · simp only [fit0 h1] at FT
    by_cases h16 : 16 ≤ sd.length
    · have OB : Hid (opB key non ex sd = decide (ssB (nsW key non) ex (opT sd) = opS sd)) := by show _ = _; unfold opB; rw [h1, decide_eq_true h16]; rfl
      have OLt : Hid (opL key non ex sd = if decide (ssB (nsW key non) ex (opT sd) = opS sd) = true then xt key non (opT sd) else []) := by show _ = _; unfold opL; rw [OB.out]
      rw [OLt.out, OB.out, ← seal_back h1 db]
      have TL : Hid ((opT sd).length = sd.length - 16) := by show _ = _; unfold opT; rw [List.length_take]; omega
      have RT : Rd w g2 a2 .u8 (opT sd) := hr2.take _
      have TB : Byt (opT sd) := byt_take db _
      have XS := fun W (n : Below w.heap.size w W) => hide (specXorR_core W g a c key (hr.up n) hb hc 1 (by omega) (by omega) g' a' c' non (hr'.up n) hb' hc' g2 a2 c2 (opT sd) (RT.up n) (by rw [TL.out]; omega) (fit1 h1) (by rw [TL.out]; omega))
      have XT : Hid (fill (sxF key 1 non (opT sd)) (opT sd).length = xt key non (opT sd)) := (sx_fill key 1 non (opT sd)).symm
      simp only [XT.out] at XS
      simp only [TL.out] at XS
      have XB := hide (xt_byt key non TB)
      have XL : Hid ((xt key non (opT sd)).length = sd.length - 16) := by show _ = _; rw [xt_len]; exact TL.out
      generalize xt key non (opT sd) = T at *
      have SE := fun W (n : Below w.heap.size w W) g3 a3 c3 (h : Rd W g3 a3 .u8 T) => hide (specSeal_any W g a c key (hr.up n) hb hc g' a' c' non (hr'.up n) hb' hc' ge ae ce ex (he.up n) eb en g3 a3 c3 T h XB.out (by rw [XL.out]; omega))
      have MB := hide (seA_byt (key := key) (non := non) (ex := ex) XB.out)
      have DB := hide db
      generalize seA key non ex T = M at *
      obtain ⟨ob, hob⟩ : ∃ b, b = decide (M = sd) := ⟨_, rfl⟩
      rw [← hob]
      obtain ⟨ol, hol⟩ : ∃ l, l = if ob = true then T else [] := ⟨_, rfl⟩
      rw [← hol]
      have HOB := hide hob
      have HOL := hide hol
      have n16 : ¬ (sd.length : Int) < 16 := by omega
      have m16 : (sd.length : Int) - 16 = ((sd.length - 16 : Nat) : Int) := by omega
      have mle : ((sd.length - 16 : Nat) : Int) ≤ (c2 : Int) := by omega
      have big : (sd.length : Int) ≤ 4000000 := by omega
      have HR2 := hide hr2
      clear hob hol OB OLt XT TB RT hr2 db dc hs h1 XB XL h16
      generalize sd.length - 16 = m at *
      go_enter Try.func15, Try.ntmps15
      go_upto_region 1 with fail
      generalize w.alloc (.cells #[.bool false, .slice none 0 0] 30) = w1 at *
      go_wp2_with fail
      refine (FT w1).out.mono ?_
      rintro e w2 ⟨rfl, h⟩
      have h := h.symm
      subst h
      go_wp2_with fail
      refine (XS w1 n0).out.mono ?_
      rintro e w3 ⟨⟨v3, rfl, R3⟩, n3⟩
      obtain ⟨a3, c3, g3, rfl, o3, p3, q3, r3⟩ := R3.own
      have l1 := (Array.getElem?_eq_some_iff.1 H0).1
      have H3 := (n3.block w.heap.size l1).trans H0
      have N3 := nxt n0 n3
      have SE3 := SE w3 N3 g3 a3 c3 o3.rd
      have s0 := n0.size
      clear FT XS R3 n3 H0 SE
      go_wp2_with fail
      refine SE3.out.mono ?_
      rintro e w4 ⟨⟨v4, rfl, R4⟩, n4⟩
      obtain ⟨a4, c4, g4, rfl, o4, -, -, -⟩ := R4.own
      have l3 := (Array.getElem?_eq_some_iff.1 H3).1
      have H4 := (n4.block w.heap.size l3).trans H3
      have N4 := nxt N3 n4
      have o3' := o3.up n4
      have SA := hide (l1Same_any w4 g4 g2 a4 a2 c4 c2 M sd o4.rd (HR2.out.up N4) MB.out DB.out)
      rw [← HOB.out] at SA
      clear SE3 R4 n4 H3 o3 o4 HOB HR2 MB DB
      go_wp2_with fail
      refine SA.out.mono ?_
      rintro e w5 ⟨rfl, h⟩
      have h := h.symm
      subst h
      obtain ⟨c80, c81, f80, f81⟩ := blk_two H4
      clear SA H4
      cases ob with
      | true =>
        have EL : Hid (ol = T) := by show _ = _; rw [HOL.out, if_pos rfl]
        have O1 := (Only.setCell w4 w.heap.size 0 (.bool true)).trans (Only.setCell _ w.heap.size 1 (.slice a3 T.length c3))
        have o10 := o3'.only O1 (fun _ => by omega)
        have N10 := N4.trans (O1.below (Nat.le_refl _))
        clear HOL O1
        go_wp2
        exact bodyPost_ret (v := .agg #[.bool true, .slice a3 T.length c3]) (by simp [results, Try.results15, go_sem, c80, c81]) rfl ⟨by rw [EL.out]; exact ⟨a3, c3, g3, rfl, o10, p3, q3, by omega⟩, N10⟩
      | false =>
        have EL : Hid (ol = []) := by show _ = _; rw [HOL.out, if_neg (by decide)]
        have O1 := (Only.setCell w4 w.heap.size 0 (.bool false)).trans (Only.setCell _ w.heap.size 1 (.slice none 0 0))
        have N10 := N4.trans (O1.below (Nat.le_refl _))
        clear HOL O1
        go_wp2
        exact bodyPost_ret (v := .agg #[.bool false, .slice none 0 0]) (by simp [results, Try.results15, go_sem, c80, c81]) rfl ⟨by rw [EL.out]; exact newO_bad _ _, N10⟩
    · have OB : Hid (opB key non ex sd = false) := by show _ = _; unfold opB; rw [decide_eq_false h16]; simp
      have OLt : Hid (opL key non ex sd = []) := by show _ = _; unfold opL; rw [if_neg (by rw [OB.out]; decide)]
      rw [OLt.out, OB.out]
      have lt : (sd.length : Int) < 16 := by omega
      clear OB OLt
      go_enter Try.func15, Try.ntmps15
      go_upto_region 1 with fail
      generalize w.alloc (.cells #[.bool false, .slice none 0 0] 30) = w1 at *
      go_wp2_with fail
      refine (FT w1).out.mono ?_
      rintro e w2 ⟨rfl, h⟩
      have h := h.symm
      subst h
      obtain ⟨c10, c11, f10, f11⟩ := blk_two H0
      have O1 := (Only.setCell w1 w.heap.size 0 (.bool false)).trans (Only.setCell _ w.heap.size 1 (.slice none 0 0))
      have N10 := n0.trans (O1.below (Nat.le_refl _))
      clear FT O1
      go_wp2
      exact bodyPost_ret (v := .agg #[.bool false, .slice none 0 0]) (by simp [results, Try.results15, go_sem, c10, c11]) rfl ⟨newO_bad _ _, N10⟩
  · have h1' : fitK key non = false := by simpa using h1
    simp only [fit0' h1'] at FT
    have OB : Hid (opB key non ex sd = false) := by show _ = _; unfold opB; rw [h1']; rfl
    have OLt : Hid (opL key non ex sd = []) := by show _ = _; unfold opL; rw [if_neg (by rw [OB.out]; decide)]
    rw [OLt.out, OB.out]
    clear OB OLt h1 h1'
    go_enter Try.func15, Try.ntmps15
    go_upto_region 1 with fail
    generalize w.alloc (.cells #[.bool false, .slice none 0 0] 30) = w1 at *
    go_wp2_with fail
    refine (FT w1).out.mono ?_
    rintro e w2 ⟨rfl, h⟩
    have h := h.symm
    subst h
    obtain ⟨c10, c11, f10, f11⟩ := blk_two H0
    have O1 := (Only.setCell w1 w.heap.size 0 (.bool false)).trans (Only.setCell _ w.heap.size 1 (.slice none 0 0))
    have N10 := n0.trans (O1.below (Nat.le_refl _))
    clear FT O1
    go_wp2
    exact bodyPost_ret (v := .agg #[.bool false, .slice none 0 0]) (by simp [results, Try.results15, go_sem, c10, c11]) rfl ⟨newO_bad _ _, N10⟩
end Go.Proofs.Ythfbchkonklmkaa

/-
  The laws' helpers on bytes, for longer lists (out of Help, by gens/lex9.py).
-/
namespace Go.Proofs.Ythfbchkonklmkaa
open Go.RowKit

set_option maxHeartbeats 400000 in
theorem eqByteS_big (w : World) (g g' : Nat) (a b : Option Addr) (ca cb : Nat) (xs : List Int) (ha : Rd w g a .u8 xs) (hb : Rd w g' b .u8 xs) (hn : xs.length ≤ 4194304) :
    Calls Try.prog 10 #[.slice a xs.length ca, .slice b xs.length cb] w fun e w' => e = .returned (.bool true) ∧ Below w.heap.size w w' := by
  go_enter Try.func10, Try.ntmps10
  go_wp2
  go_loopw [5] (fun i wr => ∃ (k n : Nat), k ≤ xs.length ∧ i = .int .i64 k ∧ wr = w.drewN n) (fun i _ => xs.length - (intOf i).toNat)
  case atStart => exact ⟨0, 0, Nat.zero_le _, rfl, rfl⟩
  case round =>
    obtain ⟨k, n, hk, rfl, rfl⟩ := hrel
    by_cases hlt : k < xs.length
    · obtain ⟨off, rfl, hc⟩ := ha (by omega)
      obtain ⟨off', rfl, hc'⟩ := hb (by omega)
      have h1 := hc k hlt
      have h2 := hc' k hlt
      have hlt' : (k : Int) < (xs.length : Int) := by omega
      generalize xs.getD k 0 = x at *
      clear hc hc'
      go_wp2
      go_quiet (fail)
      go_wp2
      go_roundw
      case rel => exact ⟨k + 1, _, by omega, by go_num, rfl⟩
      case measure => simp [intOf]; omega
    · obtain rfl : k = xs.length := by omega
      go_wp2
      go_ret
      exact ⟨rfl, below_drewN (Below.refl _ _) _⟩

set_option maxHeartbeats 400000 in
theorem markByteS_big (w : World) (g : Nat) (a : Option Addr) (ca : Nat) (xs : List Int) (k : Int) (ha : Own w g a .u8 xs) (hn : xs.length ≤ 4194304) (k0 : 0 ≤ k) (k1 : k ≤ 1099511627776) :
    Calls Try.prog 11 #[.slice a xs.length ca, .int .i64 k] w fun e w' => e = .returned (.int .i64 (k + (xs.length : Int))) ∧ Own w' g a .u8 (marks k xs.length) ∧ Only g w w' := by
  go_enter Try.func11, Try.ntmps11
  go_wp2
  go_loopw [1, 5] (fun q i wr => ∃ (j : Nat) (ys : List Int), j ≤ xs.length ∧ i = .int .i64 j ∧ q = .int .i64 (k + (j : Int)) ∧ MarkTo k ys xs.length j ∧ Own wr g a .u8 ys ∧ Only g w wr) (fun _ i _ => xs.length - (intOf i).toNat)
  case atStart => exact ⟨0, xs, Nat.zero_le _, rfl, by go_num, ⟨rfl, fun i h => absurd h (by omega)⟩, ha, Only.refl _ _⟩
  case round =>
    obtain ⟨j, ys, hj, rfl, rfl, hm, hB, hN⟩ := hrel
    by_cases hlt : j < xs.length
    · have hl : j < ys.length := by rw [hm.1]; exact hlt
      obtain ⟨off, rfl, hc⟩ := hB (by omega)
      have R := hm.step hlt
      obtain ⟨h1, h2⟩ := hc j hl
      have hB' := hB.store j hl ((k + (j : Int)) % 256)
      have hN' := hN.trans (Only.setCell wr g (off + j) (.int .u8 ((k + (j : Int)) % 256)))
      clear hB hN hc hm ha
      go_wp2
      go_roundw
      case rel => exact ⟨j + 1, _, by omega, by go_num, by go_num, R, hB', hN'⟩
      case measure => simp [intOf]; omega
    · obtain rfl : j = xs.length := by omega
      go_wp2
      go_ret
      refine ⟨rfl, ?_, hN⟩
      rw [← hm.all]
      exact hB

set_option maxHeartbeats 400000 in
theorem heldByteS_big (w : World) (g : Nat) (a : Option Addr) (ca n : Nat) (k : Int) (ha : Rd w g a .u8 (marks k n)) (hn : n ≤ 4194304) (k0 : 0 ≤ k) (k1 : k ≤ 1099511627776) :
    Calls Try.prog 12 #[.slice a n ca, .int .i64 k] w fun e w' => e = .returned (.int .i64 (k + (n : Int))) ∧ w' = w := by
  go_enter Try.func12, Try.ntmps12
  go_wp2
  go_loop [1, 5] (fun q i => ∃ (j : Nat), j ≤ n ∧ i = .int .i64 j ∧ q = .int .i64 (k + (j : Int))) (fun _ i => n - (intOf i).toNat)
  case atStart => exact ⟨0, Nat.zero_le _, rfl, by go_num⟩
  case round =>
    obtain ⟨j, hj, rfl, rfl⟩ := hrel
    by_cases hlt : j < n
    · obtain ⟨off, rfl, hc⟩ := ha (by rw [marks_len]; omega)
      have h1 := hc j (by rw [marks_len]; exact hlt)
      rw [marks_get k n j hlt] at h1
      clear hc
      go_wp2
      go_round
      case rel => exact ⟨j + 1, by omega, by go_num, by go_num⟩
      case measure => simp [intOf]; omega
    · obtain rfl : j = n := by omega
      go_wp2
      go_ret
      exact ⟨rfl, rfl⟩
theorem row_new {w : World} {n : FuncId} {args : Array Value} {xs : List Int} (h : Calls Try.prog n args w fun e w' => (∃ v, e = .returned v ∧ RowB w' w.heap.size v xs) ∧ Below w.heap.size w w') :
    Calls Try.prog n args w fun e w' => NewRow w.heap.size w' e .u8 xs ∧ Below w.heap.size w w' :=
  h.mono (by rintro e w' ⟨⟨v, rfl, R⟩, n⟩; obtain ⟨a, c, g, rfl, o, p, q, r⟩ := R.own; exact ⟨⟨a, c, g, rfl, o, p, q, r⟩, n⟩)
end Go.Proofs.Ythfbchkonklmkaa

/-
  The laws' helpers on what Open answers (written by gens/reso.py).
-/
namespace Go.Proofs.Ythfbchkonklmkaa
open Go Go.RowKit

theorem two_kept {w w1 : World} {x y : Value} {t : TypeId} (n : Below (w.alloc (.cells #[x, y] t)).heap.size (w.alloc (.cells #[x, y] t)) w1) :
    w1.cell? ⟨w.heap.size, 0, none⟩ = some x ∧ w1.cell? ⟨w.heap.size, 1, none⟩ = some y ∧ w1.frozen? ⟨w.heap.size, 0, none⟩ = false ∧ w1.frozen? ⟨w.heap.size, 1, none⟩ = false ∧ w.heap.size < w1.heap.size := by
  have hs : w.heap.size < (w.alloc (.cells #[x, y] t)).heap.size := by simp
  refine ⟨?_, ?_, ?_, ?_, by have := n.size; omega⟩
  · rw [n.cell (p := ⟨w.heap.size, 0, none⟩) hs]; simp [World.cell?_alloc_at]
  · rw [n.cell (p := ⟨w.heap.size, 1, none⟩) hs]; simp [World.cell?_alloc_at]
  · rw [n.frozen (p := ⟨w.heap.size, 0, none⟩) hs]; simp [World.frozen?_alloc_at]
  · rw [n.frozen (p := ⟨w.heap.size, 1, none⟩) hs]; simp [World.frozen?_alloc_at]

/-- A block of two cells, known and free. -/
structure Two (w : World) (p : Nat) (x y : Value) : Prop where
  c0 : w.cell? ⟨p, 0, none⟩ = some x
  c1 : w.cell? ⟨p, 1, none⟩ = some y
  f0 : w.frozen? ⟨p, 0, none⟩ = false
  f1 : w.frozen? ⟨p, 1, none⟩ = false
theorem Two.lt {w : World} {p : Nat} {x y : Value} (h : Two w p x y) : p < w.heap.size := block_lt_of_cell h.c0
theorem Two.of_block {w w' : World} {p : Nat} {x y : Value} (h : Two w p x y) (hb : w'.heap[p]? = w.heap[p]?) : Two w' p x y :=
  ⟨(World.cell?_of_block (a := ⟨p, 0, none⟩) hb).trans h.c0, (World.cell?_of_block (a := ⟨p, 1, none⟩) hb).trans h.c1, (World.frozen?_of_block (a := ⟨p, 0, none⟩) hb).trans h.f0, (World.frozen?_of_block (a := ⟨p, 1, none⟩) hb).trans h.f1⟩
theorem Two.up {w w' : World} {p : Nat} {x y : Value} (h : Two w p x y) (n : Below w.heap.size w w') : Two w' p x y := h.of_block (n.block p h.lt)
theorem Two.only {w w' : World} {p g : Nat} {x y : Value} (h : Two w p x y) (n : Only g w w') (hne : p ≠ g) : Two w' p x y := h.of_block (n.block p hne)
theorem Two.new (w : World) (x y : Value) (t : TypeId) : Two (w.alloc (.cells #[x, y] t)) w.heap.size x y := by
  obtain ⟨k1, k2, k3, k4, _⟩ := two_kept (Below.refl (w.alloc (.cells #[x, y] t)).heap.size (w.alloc (.cells #[x, y] t)))
  exact ⟨k1, k2, k3, k4⟩


theorem NewO.at {B B' : Nat} {w : World} {e : Ending} {b : Bool} {ys : List Int} (h : NewO B w e b ys) (h1 : B' ≤ B) (h2 : B' < w.heap.size) :
    ∃ (a : Option Addr) (c g : Nat), e = .returned (.agg #[.bool b, .slice a ys.length c]) ∧ Own w g a .u8 ys ∧ B' ≤ g ∧ g < w.heap.size ∧ (0 < ys.length → B ≤ g) := by
  obtain ⟨a, c, g, he, o, _, _, hg⟩ := h
  by_cases h0 : 0 < ys.length
  · exact ⟨a, c, g, he, o, by omega, o.rd.lt h0, fun _ => hg⟩
  · obtain rfl : ys = [] := List.eq_nil_of_length_eq_zero (by omega)
    exact ⟨a, c, B', he, Own.nil _ _ _ _, Nat.le_refl _, h2, fun h => absurd h (by simp)⟩
set_option maxHeartbeats 1000000 in
theorem eqOpenResult_same (w : World) (t : Bool) (g g' : Nat) (a b : Option Addr) (ca cb : Nat) (ys : List Int) (ha : Rd w g a .u8 ys) (hb : Rd w g' b .u8 ys) (hn : ys.length ≤ 1048576) :
    Calls Try.prog 17 #[.agg #[.bool t, .slice a ys.length ca], .agg #[.bool t, .slice b ys.length cb]] w fun e w' => e = .returned (.bool true) ∧ Below w.heap.size w w' := by
  have n1 : Below w.heap.size w (w.alloc (.cells #[.bool t, .slice a ys.length ca] 30)) := (Below.refl _ _).alloc (Nat.le_refl _) _
  have n2 : Below w.heap.size w ((w.alloc (.cells #[.bool t, .slice a ys.length ca] 30)).alloc (.cells #[.bool t, .slice b ys.length cb] 30)) := n1.alloc (by simp) _
  cases t
  all_goals
    go_enter Try.func17, Try.ntmps17
    go_wp2_with fail
    refine (eqByteS_same _ g g' a b ca cb ys (ha.up n2) (hb.up n2) hn).mono ?_
    rintro e w3 ⟨rfl, n3⟩
    go_wp2
    go_ret
    exact ⟨rfl, nxt n2 n3⟩
set_option maxHeartbeats 1000000 in
theorem markOpenResult_any (w : World) (t : Bool) (g : Nat) (a : Option Addr) (ca : Nat) (ys : List Int) (k : Int) (ha : Own w g a .u8 ys) (hn : ys.length ≤ 1048576) (k0 : 0 ≤ k) (k1 : k ≤ 1099511627776) :
    Calls Try.prog 18 #[.agg #[.bool t, .slice a ys.length ca], .int .i64 k] w fun e w' => e = .returned (.int .i64 (k + (ys.length : Int))) ∧ Own w' g a .u8 (marks k ys.length) ∧ ∃ w1, Below w.heap.size w w1 ∧ Only g w1 w' := by
  have n1 : Below w.heap.size w (w.alloc (.cells #[.bool t, .slice a ys.length ca] 30)) := (Below.refl _ _).alloc (Nat.le_refl _) _
  go_enter Try.func18, Try.ntmps18
  go_wp2_with fail
  refine (markByteS_any _ g a ca ys k (ha.up n1) hn k0 k1).mono ?_
  rintro e w2 ⟨rfl, o2, O2⟩
  go_wp2
  go_ret
  exact ⟨rfl, o2, _, n1, O2⟩
set_option maxHeartbeats 1000000 in
theorem heldOpenResult_any (w : World) (t : Bool) (g : Nat) (a : Option Addr) (ca n : Nat) (k : Int) (ha : Rd w g a .u8 (marks k n)) (hn : n ≤ 1048576) (k0 : 0 ≤ k) (k1 : k ≤ 1099511627776) :
    Calls Try.prog 19 #[.agg #[.bool t, .slice a n ca], .int .i64 k] w fun e w' => e = .returned (.int .i64 (k + (n : Int))) ∧ Below w.heap.size w w' := by
  have n1 : Below w.heap.size w (w.alloc (.cells #[.bool t, .slice a n ca] 30)) := (Below.refl _ _).alloc (Nat.le_refl _) _
  have t1 : decide (k + (n : Int) < 0) = false := by simp; omega
  go_enter Try.func19, Try.ntmps19
  go_wp2_with fail
  refine (heldByteS_any _ g a ca n k (ha.up n1) hn k0 k1).mono ?_
  rintro e w2 ⟨rfl, rfl⟩
  go_wp2
  go_ret
  exact ⟨rfl, n1⟩
end Go.Proofs.Ythfbchkonklmkaa

/-
  The law of Open (written by gens/lexr.py).
-/
namespace Go.Proofs.Ythfbchkonklmkaa
open Go Go.RowKit

set_option maxRecDepth 100000 in
set_option maxHeartbeats 8000000 in
theorem open_law (w : World) (g0 : Nat) (a0 : Option Addr) (c0 : Nat) (X0 : List Int) (hX0 : Rd w g0 a0 .u8 X0) (bX0 : Byt X0) (g1 : Nat) (a1 : Option Addr) (c1 : Nat) (X1 : List Int) (hX1 : Rd w g1 a1 .u8 X1) (bX1 : Byt X1) (g2 : Nat) (a2 : Option Addr) (c2 : Nat) (X2 : List Int) (hX2 : Rd w g2 a2 .u8 X2) (bX2 : Byt X2) (g3 : Nat) (a3 : Option Addr) (c3 : Nat) (X3 : List Int) (hX3 : Rd w g3 a3 .u8 X3) (bX3 : Byt X3) :
    Calls Try.prog 5 #[.slice a0 X0.length c0, .slice a1 X1.length c1, .slice a2 X2.length c2, .slice a3 X3.length c3] w fun e w' => e = .returned (.bool true) ∧ Below w.heap.size w w' := by
  by_cases q0 : X0.length ≤ 1048576
  · have u0 : decide ((1048576 : Int) < (X0.length : Int)) = false := by simp; omega
    by_cases q1 : X1.length ≤ 1048576
    · have u1 : decide ((1048576 : Int) < (X1.length : Int)) = false := by simp; omega
      by_cases q2 : X2.length ≤ 1048576
      · have u2 : decide ((1048576 : Int) < (X2.length : Int)) = false := by simp; omega
        by_cases q3 : X3.length ≤ 1048576
        · have u3 : decide ((1048576 : Int) < (X3.length : Int)) = false := by simp; omega
          have SP := fun W g a c h (_ : a = none → c = 0) (k : X0.length ≤ c) g' a' c' h' (_ : a' = none → c' = 0) (k' : X1.length ≤ c') ge ae ce he (pe : ae = none → ce = 0) (_ : X2.length ≤ ce) g2 a2 c2 h2 (_ : a2 = none → c2 = 0) (k2 : X3.length ≤ c2) => specOpen_any W g a c X0 h bX0 k g' a' c' X1 h' bX1 k' ge ae ce X2 he bX2 pe g2 a2 c2 X3 h2 bX3 k2 (by omega)
          have IM := fun W g a c h (_ : a = none → c = 0) (k : X0.length ≤ c) g' a' c' h' (_ : a' = none → c' = 0) (k' : X1.length ≤ c') ge ae ce he (pe : ae = none → ce = 0) (_ : X2.length ≤ ce) g2 a2 c2 h2 (_ : a2 = none → c2 = 0) (k2 : X3.length ≤ c2) (_ : Below w.heap.size w W) => implOpen_any W g a c X0 h bX0 k g' a' c' X1 h' bX1 k' ge ae ce X2 he bX2 pe g2 a2 c2 X3 h2 bX3 k2 (by omega)
          have hy : (opL X0 X1 X2 X3).length ≤ 1048576 := Nat.le_trans (opL_len X0 X1 X2 X3) q3
          obtain ⟨tb, htb⟩ : ∃ b, b = opB X0 X1 X2 X3 := ⟨_, rfl⟩
          obtain ⟨ys, hys⟩ : ∃ ys, ys = opL X0 X1 X2 X3 := ⟨_, rfl⟩
          simp only [← hys, ← htb] at SP IM hy
          clear hys htb
          go_enter Try.func5, Try.ntmps5
          have N : Below w.heap.size w w := Below.refl _ _
          go_wp2_with fail
          refine (toByteS_any w g0 a0 c0 X0 (hX0.up N) q0).mono ?_
          rintro e w1 ⟨rfl, A0, m1⟩
          have zm1 := m1.size
          have lA0 := A0.lt
          replace N := nxt N m1
          clear m1
          go_wp2_with fail
          refine (toByteS_any w1 g1 a1 c1 X1 (hX1.up N) q1).mono ?_
          rintro e w2 ⟨rfl, A1, m2⟩
          have zm2 := m2.size
          have lA1 := A1.lt
          replace A0 := A0.up m2
          replace N := nxt N m2
          clear m2
          go_wp2_with fail
          refine (toByteS_any w2 g2 a2 c2 X2 (hX2.up N) q2).mono ?_
          rintro e w3 ⟨rfl, A2, m3⟩
          have zm3 := m3.size
          have lA2 := A2.lt
          replace A0 := A0.up m3
          replace A1 := A1.up m3
          replace N := nxt N m3
          clear m3
          go_wp2_with fail
          refine (toByteS_any w3 g3 a3 c3 X3 (hX3.up N) q3).mono ?_
          rintro e w4 ⟨rfl, A3, m4⟩
          have zm4 := m4.size
          have lA3 := A3.lt
          replace A0 := A0.up m4
          replace A1 := A1.up m4
          replace A2 := A2.up m4
          replace N := nxt N m4
          clear m4
          go_wp2_with fail
          refine (SP w4 _ _ _ A0.own0.rd (by simp) (Nat.le_refl _) _ _ _ A1.own0.rd (by simp) (Nat.le_refl _) _ _ _ A2.own0.rd (by simp) (Nat.le_refl _) _ _ _ A3.own0.rd (by simp) (Nat.le_refl _)).mono ?_
          rintro e w5 ⟨NR, m5⟩
          have zm5 := m5.size
          obtain ⟨aoS, coS, goS, rfl, oS, boS, loS, koS⟩ := NR.at (B' := w3.heap.size) (by omega) (by omega)
          clear NR
          replace A0 := A0.up m5
          replace A1 := A1.up m5
          replace A2 := A2.up m5
          replace A3 := A3.up m5
          replace N := nxt N m5
          clear m5
          have TS := Two.new w5 (.bool tb) (.slice aoS ys.length coS) 30
          have m6 : Below w5.heap.size w5 (w5.alloc (.cells #[.bool tb, .slice aoS ys.length coS] 30)) := (Below.refl _ _).alloc (Nat.le_refl _) _
          have zm6 := m6.size
          have lTS := TS.lt
          go_wp2_with fail
          generalize w5.alloc (.cells #[.bool tb, .slice aoS ys.length coS] 30) = w6 at *
          replace A0 := A0.up m6
          replace A1 := A1.up m6
          replace A2 := A2.up m6
          replace A3 := A3.up m6
          replace oS := oS.up m6
          replace N := nxt N m6
          clear m6
          clear A0 A1 A2 A3
          refine (toByteS_any w6 g0 a0 c0 X0 (hX0.up N) q0).mono ?_
          rintro e w7 ⟨rfl, B0, m7⟩
          have zm7 := m7.size
          have lB0 := B0.lt
          replace oS := oS.up m7
          replace TS := TS.up m7
          replace N := nxt N m7
          clear m7
          go_wp2_with fail
          refine (toByteS_any w7 g1 a1 c1 X1 (hX1.up N) q1).mono ?_
          rintro e w8 ⟨rfl, B1, m8⟩
          have zm8 := m8.size
          have lB1 := B1.lt
          replace oS := oS.up m8
          replace TS := TS.up m8
          replace B0 := B0.up m8
          replace N := nxt N m8
          clear m8
          go_wp2_with fail
          refine (toByteS_any w8 g2 a2 c2 X2 (hX2.up N) q2).mono ?_
          rintro e w9 ⟨rfl, B2, m9⟩
          have zm9 := m9.size
          have lB2 := B2.lt
          replace oS := oS.up m9
          replace TS := TS.up m9
          replace B0 := B0.up m9
          replace B1 := B1.up m9
          replace N := nxt N m9
          clear m9
          go_wp2_with fail
          refine (toByteS_any w9 g3 a3 c3 X3 (hX3.up N) q3).mono ?_
          rintro e w10 ⟨rfl, B3, m10⟩
          have zm10 := m10.size
          have lB3 := B3.lt
          replace oS := oS.up m10
          replace TS := TS.up m10
          replace B0 := B0.up m10
          replace B1 := B1.up m10
          replace B2 := B2.up m10
          replace N := nxt N m10
          clear m10
          go_wp2_with fail
          refine (IM w10 _ _ _ B0.own0.rd (by simp) (Nat.le_refl _) _ _ _ B1.own0.rd (by simp) (Nat.le_refl _) _ _ _ B2.own0.rd (by simp) (Nat.le_refl _) _ _ _ B3.own0.rd (by simp) (Nat.le_refl _) N).mono ?_
          rintro e w11 ⟨NR, m11⟩
          have zm11 := m11.size
          obtain ⟨aoI, coI, goI, rfl, oI, boI, loI, koI⟩ := NR.at (B' := w9.heap.size) (by omega) (by omega)
          clear NR
          replace oS := oS.up m11
          replace TS := TS.up m11
          replace B0 := B0.up m11
          replace B1 := B1.up m11
          replace B2 := B2.up m11
          replace B3 := B3.up m11
          replace N := nxt N m11
          clear m11
          have TI := Two.new w11 (.bool tb) (.slice aoI ys.length coI) 30
          have m12 : Below w11.heap.size w11 (w11.alloc (.cells #[.bool tb, .slice aoI ys.length coI] 30)) := (Below.refl _ _).alloc (Nat.le_refl _) _
          have zm12 := m12.size
          have lTI := TI.lt
          replace oS := oS.up m12
          replace TS := TS.up m12
          replace B0 := B0.up m12
          replace B1 := B1.up m12
          replace B2 := B2.up m12
          replace B3 := B3.up m12
          replace oI := oI.up m12
          replace N := nxt N m12
          have TSc0 := TS.c0
          have TSc1 := TS.c1
          have TIc0 := TI.c0
          have TIc1 := TI.c1
          go_wp2_with fail
          generalize w11.alloc (.cells #[.bool tb, .slice aoI ys.length coI] 30) = w12 at *
          clear TSc0 TSc1 TIc0 TIc1
          clear m12
          refine (eqOpenResult_same w12 tb _ _ _ _ _ _ ys oI.rd oS.rd hy).mono ?_
          rintro e w13 ⟨rfl, m13⟩
          have zm13 := m13.size
          replace oS := oS.up m13
          replace TS := TS.up m13
          replace B0 := B0.up m13
          replace B1 := B1.up m13
          replace B2 := B2.up m13
          replace B3 := B3.up m13
          replace oI := oI.up m13
          replace TI := TI.up m13
          replace N := nxt N m13
          clear m13
          go_wp2_with fail
          refine (toByteS_any w13 g0 a0 c0 X0 (hX0.up N) q0).mono ?_
          rintro e w14 ⟨rfl, E0, m14⟩
          have zm14 := m14.size
          have lE0 := E0.lt
          replace oS := oS.up m14
          replace TS := TS.up m14
          replace B0 := B0.up m14
          replace B1 := B1.up m14
          replace B2 := B2.up m14
          replace B3 := B3.up m14
          replace oI := oI.up m14
          replace TI := TI.up m14
          replace N := nxt N m14
          clear m14
          go_wp2_with fail
          refine (eqByteS_same w14 _ _ _ _ _ _ X0 B0.own0.rd E0.own0.rd q0).mono ?_
          rintro e w15 ⟨rfl, m15⟩
          have zm15 := m15.size
          replace oS := oS.up m15
          replace TS := TS.up m15
          replace B0 := B0.up m15
          replace B1 := B1.up m15
          replace B2 := B2.up m15
          replace B3 := B3.up m15
          replace oI := oI.up m15
          replace TI := TI.up m15
          replace E0 := E0.up m15
          replace N := nxt N m15
          clear m15
          clear E0
          go_wp2_with fail
          refine (toByteS_any w15 g1 a1 c1 X1 (hX1.up N) q1).mono ?_
          rintro e w16 ⟨rfl, E1, m16⟩
          have zm16 := m16.size
          have lE1 := E1.lt
          replace oS := oS.up m16
          replace TS := TS.up m16
          replace B0 := B0.up m16
          replace B1 := B1.up m16
          replace B2 := B2.up m16
          replace B3 := B3.up m16
          replace oI := oI.up m16
          replace TI := TI.up m16
          replace N := nxt N m16
          clear m16
          go_wp2_with fail
          refine (eqByteS_same w16 _ _ _ _ _ _ X1 B1.own0.rd E1.own0.rd q1).mono ?_
          rintro e w17 ⟨rfl, m17⟩
          have zm17 := m17.size
          replace oS := oS.up m17
          replace TS := TS.up m17
          replace B0 := B0.up m17
          replace B1 := B1.up m17
          replace B2 := B2.up m17
          replace B3 := B3.up m17
          replace oI := oI.up m17
          replace TI := TI.up m17
          replace E1 := E1.up m17
          replace N := nxt N m17
          clear m17
          clear E1
          go_wp2_with fail
          refine (toByteS_any w17 g2 a2 c2 X2 (hX2.up N) q2).mono ?_
          rintro e w18 ⟨rfl, E2, m18⟩
          have zm18 := m18.size
          have lE2 := E2.lt
          replace oS := oS.up m18
          replace TS := TS.up m18
          replace B0 := B0.up m18
          replace B1 := B1.up m18
          replace B2 := B2.up m18
          replace B3 := B3.up m18
          replace oI := oI.up m18
          replace TI := TI.up m18
          replace N := nxt N m18
          clear m18
          go_wp2_with fail
          refine (eqByteS_same w18 _ _ _ _ _ _ X2 B2.own0.rd E2.own0.rd q2).mono ?_
          rintro e w19 ⟨rfl, m19⟩
          have zm19 := m19.size
          replace oS := oS.up m19
          replace TS := TS.up m19
          replace B0 := B0.up m19
          replace B1 := B1.up m19
          replace B2 := B2.up m19
          replace B3 := B3.up m19
          replace oI := oI.up m19
          replace TI := TI.up m19
          replace E2 := E2.up m19
          replace N := nxt N m19
          clear m19
          clear E2
          go_wp2_with fail
          refine (toByteS_any w19 g3 a3 c3 X3 (hX3.up N) q3).mono ?_
          rintro e w20 ⟨rfl, E3, m20⟩
          have zm20 := m20.size
          have lE3 := E3.lt
          replace oS := oS.up m20
          replace TS := TS.up m20
          replace B0 := B0.up m20
          replace B1 := B1.up m20
          replace B2 := B2.up m20
          replace B3 := B3.up m20
          replace oI := oI.up m20
          replace TI := TI.up m20
          replace N := nxt N m20
          clear m20
          go_wp2_with fail
          refine (eqByteS_same w20 _ _ _ _ _ _ X3 B3.own0.rd E3.own0.rd q3).mono ?_
          rintro e w21 ⟨rfl, m21⟩
          have zm21 := m21.size
          replace oS := oS.up m21
          replace TS := TS.up m21
          replace B0 := B0.up m21
          replace B1 := B1.up m21
          replace B2 := B2.up m21
          replace B3 := B3.up m21
          replace oI := oI.up m21
          replace TI := TI.up m21
          replace E3 := E3.up m21
          replace N := nxt N m21
          clear m21
          clear E3
          go_wp2_with fail
          refine (markByteS_any w21 _ _ _ X0 (1) B0.own0 q0 (by omega) (by omega)).mono ?_
          rintro e w22 ⟨rfl, _, O0⟩
          replace oS := oS.only O0 (fun h => by have := koS h; omega)
          replace TS := TS.only O0 (by omega)
          replace B1 := B1.of_block (O0.block _ (by omega))
          replace B2 := B2.of_block (O0.block _ (by omega))
          replace B3 := B3.of_block (O0.block _ (by omega))
          replace oI := oI.only O0 (fun h => by have := koI h; omega)
          replace TI := TI.only O0 (by omega)
          replace N := N.trans (O0.below (B := w.heap.size) (by omega))
          have y0 := O0.size
          have zm22 : w21.heap.size ≤ w22.heap.size := Nat.le_of_eq y0.symm
          clear y0 O0 B0
          go_wp2_with fail
          refine (markByteS_any w22 _ _ _ X1 (1 + (X0.length : Int)) B1.own0 q1 (by omega) (by omega)).mono ?_
          rintro e w23 ⟨rfl, _, O1⟩
          replace oS := oS.only O1 (fun h => by have := koS h; omega)
          replace TS := TS.only O1 (by omega)
          replace B2 := B2.of_block (O1.block _ (by omega))
          replace B3 := B3.of_block (O1.block _ (by omega))
          replace oI := oI.only O1 (fun h => by have := koI h; omega)
          replace TI := TI.only O1 (by omega)
          replace N := N.trans (O1.below (B := w.heap.size) (by omega))
          have y1 := O1.size
          have zm23 : w22.heap.size ≤ w23.heap.size := Nat.le_of_eq y1.symm
          clear y1 O1 B1
          go_wp2_with fail
          refine (markByteS_any w23 _ _ _ X2 (1 + (X0.length : Int) + (X1.length : Int)) B2.own0 q2 (by omega) (by omega)).mono ?_
          rintro e w24 ⟨rfl, _, O2⟩
          replace oS := oS.only O2 (fun h => by have := koS h; omega)
          replace TS := TS.only O2 (by omega)
          replace B3 := B3.of_block (O2.block _ (by omega))
          replace oI := oI.only O2 (fun h => by have := koI h; omega)
          replace TI := TI.only O2 (by omega)
          replace N := N.trans (O2.below (B := w.heap.size) (by omega))
          have y2 := O2.size
          have zm24 : w23.heap.size ≤ w24.heap.size := Nat.le_of_eq y2.symm
          clear y2 O2 B2
          go_wp2_with fail
          refine (markByteS_any w24 _ _ _ X3 (1 + (X0.length : Int) + (X1.length : Int) + (X2.length : Int)) B3.own0 q3 (by omega) (by omega)).mono ?_
          rintro e w25 ⟨rfl, _, O3⟩
          replace oS := oS.only O3 (fun h => by have := koS h; omega)
          replace TS := TS.only O3 (by omega)
          replace oI := oI.only O3 (fun h => by have := koI h; omega)
          replace TI := TI.only O3 (by omega)
          replace N := N.trans (O3.below (B := w.heap.size) (by omega))
          have y3 := O3.size
          have zm25 : w24.heap.size ≤ w25.heap.size := Nat.le_of_eq y3.symm
          clear y3 O3 B3
          have v1 : decide (1 + (X0.length : Int) + (X1.length : Int) + (X2.length : Int) + (X3.length : Int) < 0) = false := by simp; omega
          have TSc0 := TS.c0
          have TSc1 := TS.c1
          have TIc0 := TI.c0
          have TIc1 := TI.c1
          go_wp2_with fail
          clear TSc0 TSc1 TIc0 TIc1
          refine (eqOpenResult_same w25 tb _ _ _ _ _ _ ys oI.rd oS.rd hy).mono ?_
          rintro e w26 ⟨rfl, m26⟩
          have zm26 := m26.size
          replace oS := oS.up m26
          replace TS := TS.up m26
          replace oI := oI.up m26
          replace TI := TI.up m26
          replace N := nxt N m26
          clear m26
          have TSc0 := TS.c0
          have TSc1 := TS.c1
          have TIc0 := TI.c0
          have TIc1 := TI.c1
          go_wp2_with fail
          clear TSc0 TSc1 TIc0 TIc1
          refine (markOpenResult_any w26 tb _ _ _ ys 1 oI hy (by decide) (by decide)).mono ?_
          rintro e w27 ⟨rfl, oA, wA, nA, OA⟩
          have zA := nA.size
          have yA := OA.size
          replace N := (nxt N nA).trans (OA.below (B := w.heap.size) (by omega))
          replace oS := (oS.up nA).only OA (fun h => by have := koS h; omega)
          replace TS := (TS.up nA).only OA (by omega)
          replace TI := (TI.up nA).only OA (by omega)
          have v2 : decide ((1 : Int) + (ys.length : Int) < 0) = false := by simp; omega
          clear oI OA nA
          have TSc0 := TS.c0
          have TSc1 := TS.c1
          have TIc0 := TI.c0
          have TIc1 := TI.c1
          go_wp2_with fail
          clear TSc0 TSc1 TIc0 TIc1
          refine (heldOpenResult_any w27 tb _ _ _ ys.length 1 oA.rd hy (by decide) (by decide)).mono ?_
          rintro e w28 ⟨rfl, m28⟩
          have zm28 := m28.size
          replace oS := oS.up m28
          replace TS := TS.up m28
          replace TI := TI.up m28
          replace oA := oA.up m28
          replace N := nxt N m28
          clear m28
          go_wp2_with fail
          refine (toByteS_any w28 g0 a0 c0 X0 (hX0.up N) q0).mono ?_
          rintro e w29 ⟨rfl, D0, m29⟩
          have zm29 := m29.size
          have lD0 := D0.lt
          replace oS := oS.up m29
          replace TS := TS.up m29
          replace TI := TI.up m29
          replace oA := oA.up m29
          replace N := nxt N m29
          clear m29
          go_wp2_with fail
          refine (toByteS_any w29 g1 a1 c1 X1 (hX1.up N) q1).mono ?_
          rintro e w30 ⟨rfl, D1, m30⟩
          have zm30 := m30.size
          have lD1 := D1.lt
          replace oS := oS.up m30
          replace TS := TS.up m30
          replace TI := TI.up m30
          replace oA := oA.up m30
          replace D0 := D0.up m30
          replace N := nxt N m30
          clear m30
          go_wp2_with fail
          refine (toByteS_any w30 g2 a2 c2 X2 (hX2.up N) q2).mono ?_
          rintro e w31 ⟨rfl, D2, m31⟩
          have zm31 := m31.size
          have lD2 := D2.lt
          replace oS := oS.up m31
          replace TS := TS.up m31
          replace TI := TI.up m31
          replace oA := oA.up m31
          replace D0 := D0.up m31
          replace D1 := D1.up m31
          replace N := nxt N m31
          clear m31
          go_wp2_with fail
          refine (toByteS_any w31 g3 a3 c3 X3 (hX3.up N) q3).mono ?_
          rintro e w32 ⟨rfl, D3, m32⟩
          have zm32 := m32.size
          have lD3 := D3.lt
          replace oS := oS.up m32
          replace TS := TS.up m32
          replace TI := TI.up m32
          replace oA := oA.up m32
          replace D0 := D0.up m32
          replace D1 := D1.up m32
          replace D2 := D2.up m32
          replace N := nxt N m32
          clear m32
          go_wp2_with fail
          refine (IM w32 _ _ _ D0.own0.rd (by simp) (Nat.le_refl _) _ _ _ D1.own0.rd (by simp) (Nat.le_refl _) _ _ _ D2.own0.rd (by simp) (Nat.le_refl _) _ _ _ D3.own0.rd (by simp) (Nat.le_refl _) N).mono ?_
          rintro e w33 ⟨NR, m33⟩
          have zm33 := m33.size
          obtain ⟨aoJ, coJ, goJ, rfl, oJ, boJ, loJ, koJ⟩ := NR.at (B' := w31.heap.size) (by omega) (by omega)
          clear NR
          replace oS := oS.up m33
          replace TS := TS.up m33
          replace TI := TI.up m33
          replace oA := oA.up m33
          replace D0 := D0.up m33
          replace D1 := D1.up m33
          replace D2 := D2.up m33
          replace D3 := D3.up m33
          replace N := nxt N m33
          clear m33
          have TJ := Two.new w33 (.bool tb) (.slice aoJ ys.length coJ) 30
          have m34 : Below w33.heap.size w33 (w33.alloc (.cells #[.bool tb, .slice aoJ ys.length coJ] 30)) := (Below.refl _ _).alloc (Nat.le_refl _) _
          have zm34 := m34.size
          have lTJ := TJ.lt
          replace oS := oS.up m34
          replace TS := TS.up m34
          replace TI := TI.up m34
          replace oA := oA.up m34
          replace D0 := D0.up m34
          replace D1 := D1.up m34
          replace D2 := D2.up m34
          replace D3 := D3.up m34
          replace oJ := oJ.up m34
          replace N := nxt N m34
          have TSc0 := TS.c0
          have TSc1 := TS.c1
          have TIc0 := TI.c0
          have TIc1 := TI.c1
          have TJc0 := TJ.c0
          have TJc1 := TJ.c1
          go_wp2_with fail
          generalize w33.alloc (.cells #[.bool tb, .slice aoJ ys.length coJ] 30) = w34 at *
          clear TSc0 TSc1 TIc0 TIc1 TJc0 TJc1
          clear m34
          refine (eqOpenResult_same w34 tb _ _ _ _ _ _ ys oJ.rd oS.rd hy).mono ?_
          rintro e w35 ⟨rfl, m35⟩
          have zm35 := m35.size
          replace oS := oS.up m35
          replace TS := TS.up m35
          replace TI := TI.up m35
          replace oA := oA.up m35
          replace D0 := D0.up m35
          replace D1 := D1.up m35
          replace D2 := D2.up m35
          replace D3 := D3.up m35
          replace oJ := oJ.up m35
          replace TJ := TJ.up m35
          replace N := nxt N m35
          clear m35
          have TSc0 := TS.c0
          have TSc1 := TS.c1
          have TIc0 := TI.c0
          have TIc1 := TI.c1
          have TJc0 := TJ.c0
          have TJc1 := TJ.c1
          go_wp2_with fail
          clear TSc0 TSc1 TIc0 TIc1 TJc0 TJc1
          refine (heldOpenResult_any w35 tb _ _ _ ys.length 1 oA.rd hy (by decide) (by decide)).mono ?_
          rintro e w36 ⟨rfl, m36⟩
          have zm36 := m36.size
          replace oS := oS.up m36
          replace TS := TS.up m36
          replace TI := TI.up m36
          replace oA := oA.up m36
          replace D0 := D0.up m36
          replace D1 := D1.up m36
          replace D2 := D2.up m36
          replace D3 := D3.up m36
          replace oJ := oJ.up m36
          replace TJ := TJ.up m36
          replace N := nxt N m36
          clear m36
          go_wp2
          go_ret
          exact ⟨rfl, N⟩
        · have u3 : decide ((1048576 : Int) < (X3.length : Int)) = true := by simp; omega
          go_enter Try.func5, Try.ntmps5
          go_wp2
          go_ret
          exact ⟨rfl, Below.refl _ _⟩
      · have u2 : decide ((1048576 : Int) < (X2.length : Int)) = true := by simp; omega
        go_enter Try.func5, Try.ntmps5
        go_wp2
        go_ret
        exact ⟨rfl, Below.refl _ _⟩
    · have u1 : decide ((1048576 : Int) < (X1.length : Int)) = true := by simp; omega
      go_enter Try.func5, Try.ntmps5
      go_wp2
      go_ret
      exact ⟨rfl, Below.refl _ _⟩
  · have u0 : decide ((1048576 : Int) < (X0.length : Int)) = true := by simp; omega
    go_enter Try.func5, Try.ntmps5
    go_wp2
    go_ret
    exact ⟨rfl, Below.refl _ _⟩
end Go.Proofs.Ythfbchkonklmkaa
