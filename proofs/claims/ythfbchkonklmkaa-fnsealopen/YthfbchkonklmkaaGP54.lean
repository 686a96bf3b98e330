import Derived.Test.YthfbchkonklmkaaSpD
import Derived.Test.YthfbchkonklmkaaCcH
import Derived.Maps.AppendAt
import Derived.Deep.RegionHeld3
import Derived.Test.YthfbchkonklmkaaPzC
import Derived.Test.YthfbchkonklmkaaPoC
import Derived.ChangeKeysEq
import Derived.Test.YthfbchkonklmkaaRgV
import Derived.Test.YthfbchkonklmkaaSpecA
import Derived.Test.YthfbchkonklmkaaHelp
import Derived.Laws.BytesString
import Derived.Deep.MidRow
import Derived.Test.YthfbchkonklmkaaApd

/-
  The model's StreamXor (written by gens/spe.py).
-/
namespace Go.Proofs.Ythfbchkonklmkaa
open Go Go.RowKit

theorem step_append_ex {P : Program} {ops : Array Oper} {o : Oper} {a : Act} {w : World} {K : Act → World → Prop} {Q : Exit → Act → World → Prop} {E : Prop} (hg : o.guard = none) (s x : Operand) (t tn : TypeId)
    (ho : o.op = .call { callee := .builtin .append, args := #[s, x], argTypes := #[t, tn] }) (vs vx : Value) (hs : a.eval s = vs) (hx : a.eval x = vx) (R : Value → World → Prop)
    (H : ∃ v' w', (Builtin.append_ #[t, tn] o.type #[vs, vx]).run P w = .ok v' w' ∧ R v' w') (hK : ∀ v' w', R v' w' → K (a.put o.dst v') w') :
    if Region.wanted o (yielded ops a.tmps) = true then Oper.wp P o a w K Q else E := by
  have hw : Region.wanted o (yielded ops a.tmps) = true := by simp [Region.wanted, hg]
  rw [if_pos hw]
  obtain ⟨v', w', hr, hR⟩ := H
  exact Lib.wp_append_run w s x t tn ho vs vx hs hx v' w' hr (hK v' w' hR)
/-- An append, that it turns its own row alone, and where the new one lies. -/
theorem append_anyH {P : Program} (w : World) (ty : TypeId) (i : TypeInfo) (ht : P.underlying 22 = some (.slice 5)) (hi : P.info? 5 = some i) (hz : i.zero = some (.int .u8 0)) (hsize : i.size = 1) (hby : i.bytes = 1)
    (base : Nat) (v : Value) (xs : List Int) (hown : RowB w base v xs) (g o c : Nat) (us : List Int) (hr : Rd w g (some ⟨g, o, none⟩) .u8 us) (hl : xs.length + us.length ≤ 1099511627776) (hbase : base ≤ w.heap.size) :
    ∃ v' w', (Builtin.append_ #[22, 22] ty #[v, .slice (some ⟨g, o, none⟩) us.length c]).run P w = .ok v' w' ∧ RowB w' base v' (xs ++ us) ∧ w.grownBy w' v.ownBlock ∧ (v'.ownBlock = v.ownBlock ∨ v'.ownBlock = some w.heap.size) := by
  have hcell : ∀ j u, (us.map (Value.int .u8))[j]? = some u → w.cell? ((⟨g, o, none⟩ : Addr).add j) = some u := by
    intro j u hj
    have hjl : j < us.length := by
      have := (List.getElem?_eq_some_iff.1 hj).1
      simpa using this
    obtain ⟨off, ha, hcc⟩ := hr (by omega)
    simp only [Option.some.injEq] at ha
    rw [ha, Addr.add_mid, hcc j hjl]
    simpa [hjl] using hj
  have hone : ∀ u ∈ us.map (Value.int .u8), u.oneCell' = true := by
    intro u hu
    obtain ⟨x, _, rfl⟩ := List.mem_map.1 hu
    rfl
  obtain ⟨v', w', h1, h2, h3, _, h5⟩ := run_append_own_at (P := P) w base 22 ty 5 i (.int .u8 0) 1 1 ht hi hz hsize hby rfl (by decide) v xs.length (xs.map (Value.int .u8)) hown ⟨g, o, none⟩ us.length c (us.map (Value.int .u8)) (by simp) hcell hone (by unfold maxLen; omega) (by omega) hbase
  refine ⟨v', w', h1, ?_, h3, h5⟩
  show w'.ownsRow base 5 1 v' (xs ++ us).length ((xs ++ us).map (Value.int .u8))
  rw [List.length_append, List.map_append]
  exact h2
/-- A byte with the stream laid over it. -/
def sxF (key : List Int) (c : Int) (non data : List Int) (i : Nat) : Int := xr (data.getD i 0) ((strB key (c + ((i / 64 : Nat) : Int)) non).getD (i % 64) 0)
theorem sx_fill (key : List Int) (c : Int) (non data : List Int) : xoG (nsW key non) c data ((data.length + 63) / 64) = fill (sxF key c non data) data.length := by
  refine eq_of_getD (by rw [xoG_len, fill_len]) (fun i hi => ?_)
  rw [xoG_len] at hi
  rw [xoG_get _ _ _ _ hi, if_pos (by omega), fill_get _ _ _ hi]
  rfl
theorem sbA_fit {key : List Int} {c c' : Int} {non : List Int} (h : fitB key c non = true) (h0 : 0 ≤ c') (h1 : c' ≤ 4294967295) : sbA key c' non = strB key c' non := by
  unfold sbA
  rw [if_pos]
  unfold fitB at h ⊢
  simp only [Bool.and_eq_true, decide_eq_true_eq] at h ⊢
  exact ⟨h.1, h0, h1⟩
set_option maxRecDepth 100000 in
set_option maxHeartbeats 8000000 in
theorem specXor_core (w : World) (g : Nat) (a : Option Addr) (c : Nat) (key : List Int) (hr : Rd w g a .u8 key) (hb : Byt key) (hc : key.length ≤ c) (ct : Int) (h0 : 0 ≤ ct) (h1 : ct ≤ 4294967295) (g' : Nat) (a' : Option Addr) (c' : Nat) (non : List Int) (hr' : Rd w g' a' .u8 non) (hb' : Byt non) (hc' : non.length ≤ c')
    (g2 : Nat) (a2 : Option Addr) (c2 : Nat) (data : List Int) (hr2 : Rd w g2 a2 .u8 data) (hn : data.length ≤ 4194304) (hf : fitB key ct non = true) (h3 : (data.length : Int) ≤ (4294967296 - ct) * 64) :
    Calls Try.prog 35 #[.slice a key.length c, .int .i64 ct, .slice a' non.length c', .slice a2 data.length c2] w fun e w' => NewRow w.heap.size w' e .u8 (fill (sxF key ct non data) data.length) ∧ Below w.heap.size w w' := by
  obtain ⟨i0, hi, hz0, hz1, hz2⟩ := info_parts Try.info5
  have FT := fits_any w a a' c c' key non ct
  rw [hf] at FT
  have SB := fun W (k : Nat) (n : Below w.heap.size w W) => hide (specBlock_any W g a c key (hr.up n) hb hc (ct + ((k / 64 : Nat) : Int)) g' a' c' non (hr'.up n) hb' hc')
  have SA : ∀ k, k < data.length → Hid (sbA key (ct + ((k / 64 : Nat) : Int)) non = strB key (ct + ((k / 64 : Nat) : Int)) non) := fun k hk => sbA_fit hf (by omega) (by omega)
  have BLl : ∀ c, (strB key c non).length = 64 := fun c => stB_len _
  have FS : ∀ i, fill (sxF key ct non data) (i + 1) = fill (sxF key ct non data) i ++ [bits BinOp.xor IntKind.u8 (data.getD i 0) ((strB key (ct + ((i / 64 : Nat) : Int)) non).getD (i % 64) 0)] := fun i => fill_succ _ _
  have FLn : ∀ i, (fill (sxF key ct non data) i).length = i := fun i => fill_len _ _
  have q1 : decide ((4294967295 : Int) < ct + ((data.length : Int) + 63) / 64 - 1) = false := by simp; omega
  have dn : (data.length : Int) ≤ 4194304 := by omega
  have hq1 := hide q1
  clear hf hr hr' hb hb' h3
  generalize sxF key ct non data = f at *
  generalize hlen : data.length = n at *
  have HN := hide hlen
  have cb0 : (0 : Int) ≤ ((n : Int) + 63) / 64 := by omega
  have cb1 : ((n : Int) + 63) / 64 ≤ 65537 := by omega
  go_enter Try.func35, Try.ntmps35
  go_wp2_with fail
  refine FT.mono ?_
  rintro e w1 ⟨rfl, rfl⟩
  clear FT
  have n1 : Below w1.heap.size w1 (w1.alloc (.cells #[] 5)) := (Below.refl _ _).alloc (Nat.le_refl _) _
  have R1 := RowB.lit0 w1
  have z1 : (w1.alloc (.cells #[] 5)).heap.size = w1.heap.size + 1 := by simp
  have n2 : Below (w1.alloc (.cells #[] 5)).heap.size (w1.alloc (.cells #[] 5)) ((w1.alloc (.cells #[] 5)).alloc (.cells #[] 5)) := (Below.refl _ _).alloc (Nat.le_refl _) _
  go_wp2
  have R2 := R1.up n2
  have N2 := nxt n1 n2
  generalize (w1.alloc (.cells #[] 5)).alloc (.cells #[] 5) = wa at *
  clear n1 n2 R1 z1
  go_loopw [9, 10, 11] (fun v b u wr => ∃ (i : Nat), i ≤ n ∧ u = .int .i64 i ∧ RowB wr w1.heap.size v (fill f i) ∧ (i % 64 ≠ 0 → ∃ (bo bc bg : Nat), b = .slice (some ⟨bg, bo, none⟩) 64 bc ∧ Rd wr bg (some ⟨bg, bo, none⟩) .u8 (strB key (ct + ((i / 64 : Nat) : Int)) non) ∧ v.ownBlock ≠ some bg ∧ bg < wr.heap.size) ∧ Below w1.heap.size w1 wr) (fun _ _ u _ => n - (intOf u).toNat)
  case atStart => exact ⟨0, Nat.zero_le _, rfl, R2, fun h => absurd rfl h, N2⟩
  case round =>
    obtain ⟨i, hin, rfl, hV, hBk, hN⟩ := hrel
    clear R2 N2
    by_cases hlt : i < n
    · have iI : (i : Int) < (n : Int) := by omega
      by_cases h64 : i % 64 = 0
      · have e64 : (i : Int) % 64 = 0 := by omega
        have SBi := SB wr i hN
        rw [(SA i hlt).out] at SBi
        have BL := hide (BLl (ct + ((i / 64 : Nat) : Int)))
        obtain ⟨Bk, hBk'⟩ : ∃ b, b = strB key (ct + ((i / 64 : Nat) : Int)) non := ⟨_, rfl⟩
        rw [← hBk'] at SBi BL
        obtain ⟨kq, hkq⟩ : ∃ k, k = i / 64 := ⟨_, rfl⟩
        rw [← hkq] at SBi
        have d64 : (i : Int) / 64 = (kq : Int) := by omega
        have b64 : (kq : Int) ≤ 65537 := by omega
        have b65 : 0 ≤ ct + (kq : Int) := by omega
        have b66 : ct + (kq : Int) ≤ 4295032833 := by omega
        clear hkq
        have HBk := hide hBk'.symm
        clear hBk' hBk SB SA
        go_wp2_with fail
        refine SBi.out.mono ?_
        rintro e w3 ⟨⟨ba, bc, bg, rfl, bO, bp, bq, br⟩, n3⟩
        obtain ⟨bo, eb, -⟩ := bO.rd (by rw [BL.out]; decide)
        subst eb
        have bR := bO.rd
        rw [BL.out]
        have sV := hV.up n3
        have sN := nxt hN n3
        have bl := bR.lt (by rw [BL.out]; decide)
        have bN : Value.ownBlock u9 ≠ some bg := fun e => by have := (World.ownsRow.lt hV bg e).2; omega
        clear SBi bO bp bq hV hN n3
        go_wp2_with fail
        clear e64 d64
        obtain ⟨im, him⟩ : ∃ m, m = i % 64 := ⟨_, rfl⟩
        have m64 : (i : Int) % 64 = (im : Int) := by omega
        have l64 : (im : Int) < 64 := by omega
        have k64 : (0 : Int) ≤ (im : Int) := by omega
        have mt : Int.tmod (i : Int) 64 = (im : Int) := by rw [Int.tmod_eq_emod_of_nonneg (by omega)]; exact m64
        have i00 : (0 : Int) ≤ (i : Int) := by omega
        have im64 : im < 64 := by omega
        have FE : Hid (fill f (i + 1) = fill f i ++ [bits BinOp.xor IntKind.u8 (data.getD i 0) (Bk.getD im 0)]) := by show _ = _; rw [FS i, HBk.out, him]
        obtain ⟨o2, ea2, hc2⟩ := hr2 (by rw [HN.out]; omega)
        subst ea2
        have gl2 := hr2.lt (by rw [HN.out]; omega)
        have CD : ∀ W, Below w1.heap.size w1 W → W.cell? ⟨g2, o2 + i, none⟩ = some (.int .u8 (data.getD i 0)) := fun W h => (World.cell?_of_block (a := ⟨g2, o2 + i, none⟩) (h.block g2 gl2)).trans (hc2 i (by rw [HN.out]; exact hlt))
        have CB : ∀ W, Rd W bg (some ⟨bg, bo, none⟩) .u8 Bk → W.cell? ⟨bg, bo + im, none⟩ = some (.int .u8 (Bk.getD im 0)) := fun W h => by
          obtain ⟨o3, e3, hc3⟩ := h (by rw [BL.out]; decide)
          simp only [Option.some.injEq, Addr.mk.injEq, true_and, and_true] at e3
          subst e3
          exact hc3 im (by rw [BL.out]; exact im64)
        clear him hc2
        generalize data.getD i 0 = dv at *
        generalize Bk.getD im 0 = bv at *
        have cd0 := CD w3 sN
        have cb0 := CB w3 bR
        have A0 : Hid (∃ v' w7, (Builtin.append_ #[22, 22] 22 #[u9, .slice (some ⟨w3.heap.size, 0, none⟩) 1 1]).run Try.prog (w3.drew.alloc (.cells #[.int .u8 (bits BinOp.xor IntKind.u8 dv bv)] 5)) = .ok v' w7 ∧ (RowB w7 w1.heap.size v' (fill f (i + 1)) ∧ Below w1.heap.size w1 w7 ∧ Rd w7 bg (some ⟨bg, bo, none⟩) .u8 Bk ∧ v'.ownBlock ≠ some bg ∧ bg < w7.heap.size ∧ (w7.cell? ⟨g2, o2 + i, none⟩ = some (.int .u8 dv) ∧ w7.cell? ⟨bg, bo + im, none⟩ = some (.int .u8 bv)))) := by
          have n6 : Below w3.heap.size w3 (w3.drew.alloc (.cells #[.int .u8 (bits BinOp.xor IntKind.u8 dv bv)] 5)) := ((Below.refl _ _).drew).alloc (Nat.le_refl _) _
          have B6 : Blk (w3.drew.alloc (.cells #[.int .u8 (bits BinOp.xor IntKind.u8 dv bv)] 5)) w3.heap.size .u8 [bits BinOp.xor IntKind.u8 dv bv] := blk_lit1 w3.drew .u8 5 _
          have z6 : (w3.drew.alloc (.cells #[.int .u8 (bits BinOp.xor IntKind.u8 dv bv)] 5)).heap.size = w3.heap.size + 1 := by simp
          generalize w3.drew.alloc (.cells #[.int .u8 (bits BinOp.xor IntKind.u8 dv bv)] 5) = wz at *
          have sz := sN.size
          obtain ⟨v', w7, hap, o7, G7, W7⟩ := append_anyH (P := Try.prog) wz 22 i0 Try.underlying22 hi hz0 hz1 hz2 w1.heap.size _ _ (sV.up n6) w3.heap.size 0 1 [bits BinOp.xor IntKind.u8 dv bv] B6.own0.rd (by rw [FLn]; simp; omega) (by omega)
          have lo := fun k h => World.ownsRow.lt sV k h
          have N7 : Below w1.heap.size w1 w7 := (sN.trans (n6.mono sz)).trans ⟨G7.os, G7.tape, G7.output, G7.size, fun k hk => G7.block k (by omega) (fun e => by have := (lo k e.symm).1; omega)⟩
          have bR7 := (bR.up n6).of_block (G7.block bg (by omega) (fun e => bN e.symm))
          have s7 := G7.size
          refine ⟨v', w7, hap, by rw [FE.out]; exact o7, N7, bR7, ?_, by omega, CD _ N7, CB _ bR7⟩
          rcases W7 with h | h
          · rw [h]; exact bN
          · rw [h]; intro e; simp only [Option.some.injEq] at e; omega
        clear CD CB FE FS
        go_region_held3 (fun W => W.cell? ⟨g2, o2 + i, none⟩ = some (.int .u8 dv) ∧ W.cell? ⟨bg, bo + im, none⟩ = some (.int .u8 bv))
          (first | go_keep | exact S7)
          (first | (refine step_append_ex rfl (.tmp 46) (.tmp 57) 22 22 rfl _ (.slice (some ⟨w3.heap.size, 0, none⟩) 1 1) rfl rfl _ A0.out ?_; rintro v' w7 ⟨o7, N7, bR7, bN7, bl7, S7⟩) | fail)
        clear A0
        go_wp2
        go_roundw
        case rel => exact ⟨i + 1, by omega, by go_num, o7, fun h => ⟨bo, bc, bg, rfl, by rw [show (i + 1) / 64 = i / 64 by omega, HBk.out]; exact bR7, bN7, bl7⟩, N7⟩
        case measure => simp [intOf]; omega
      · obtain ⟨bo, bc, bg, rfl, bR, bN, bl⟩ := hBk h64
        have e64 : ¬ ((i : Int) % 64 = 0) := by omega
        have BL := hide (BLl (ct + ((i / 64 : Nat) : Int)))
        obtain ⟨Bk, hBk'⟩ : ∃ b, b = strB key (ct + ((i / 64 : Nat) : Int)) non := ⟨_, rfl⟩
        rw [← hBk'] at bR BL
        have HBk := hide hBk'.symm
        clear hBk' hBk SB SA
        have sV := hV
        have sN := hN
        clear hV hN
        go_wp2_with fail
        clear e64
        obtain ⟨im, him⟩ : ∃ m, m = i % 64 := ⟨_, rfl⟩
        have m64 : (i : Int) % 64 = (im : Int) := by omega
        have l64 : (im : Int) < 64 := by omega
        have k64 : (0 : Int) ≤ (im : Int) := by omega
        have mt : Int.tmod (i : Int) 64 = (im : Int) := by rw [Int.tmod_eq_emod_of_nonneg (by omega)]; exact m64
        have i00 : (0 : Int) ≤ (i : Int) := by omega
        have im64 : im < 64 := by omega
        have FE : Hid (fill f (i + 1) = fill f i ++ [bits BinOp.xor IntKind.u8 (data.getD i 0) (Bk.getD im 0)]) := by show _ = _; rw [FS i, HBk.out, him]
        obtain ⟨o2, ea2, hc2⟩ := hr2 (by rw [HN.out]; omega)
        subst ea2
        have gl2 := hr2.lt (by rw [HN.out]; omega)
        have CD : ∀ W, Below w1.heap.size w1 W → W.cell? ⟨g2, o2 + i, none⟩ = some (.int .u8 (data.getD i 0)) := fun W h => (World.cell?_of_block (a := ⟨g2, o2 + i, none⟩) (h.block g2 gl2)).trans (hc2 i (by rw [HN.out]; exact hlt))
        have CB : ∀ W, Rd W bg (some ⟨bg, bo, none⟩) .u8 Bk → W.cell? ⟨bg, bo + im, none⟩ = some (.int .u8 (Bk.getD im 0)) := fun W h => by
          obtain ⟨o3, e3, hc3⟩ := h (by rw [BL.out]; decide)
          simp only [Option.some.injEq, Addr.mk.injEq, true_and, and_true] at e3
          subst e3
          exact hc3 im (by rw [BL.out]; exact im64)
        clear him hc2
        generalize data.getD i 0 = dv at *
        generalize Bk.getD im 0 = bv at *
        have cd0 := CD wr sN
        have cb0 := CB wr bR
        have A0 : Hid (∃ v' w7, (Builtin.append_ #[22, 22] 22 #[u9, .slice (some ⟨wr.heap.size, 0, none⟩) 1 1]).run Try.prog (wr.drew.alloc (.cells #[.int .u8 (bits BinOp.xor IntKind.u8 dv bv)] 5)) = .ok v' w7 ∧ (RowB w7 w1.heap.size v' (fill f (i + 1)) ∧ Below w1.heap.size w1 w7 ∧ Rd w7 bg (some ⟨bg, bo, none⟩) .u8 Bk ∧ v'.ownBlock ≠ some bg ∧ bg < w7.heap.size ∧ (w7.cell? ⟨g2, o2 + i, none⟩ = some (.int .u8 dv) ∧ w7.cell? ⟨bg, bo + im, none⟩ = some (.int .u8 bv)))) := by
          have n6 : Below wr.heap.size wr (wr.drew.alloc (.cells #[.int .u8 (bits BinOp.xor IntKind.u8 dv bv)] 5)) := ((Below.refl _ _).drew).alloc (Nat.le_refl _) _
          have B6 : Blk (wr.drew.alloc (.cells #[.int .u8 (bits BinOp.xor IntKind.u8 dv bv)] 5)) wr.heap.size .u8 [bits BinOp.xor IntKind.u8 dv bv] := blk_lit1 wr.drew .u8 5 _
          have z6 : (wr.drew.alloc (.cells #[.int .u8 (bits BinOp.xor IntKind.u8 dv bv)] 5)).heap.size = wr.heap.size + 1 := by simp
          generalize wr.drew.alloc (.cells #[.int .u8 (bits BinOp.xor IntKind.u8 dv bv)] 5) = wz at *
          have sz := sN.size
          obtain ⟨v', w7, hap, o7, G7, W7⟩ := append_anyH (P := Try.prog) wz 22 i0 Try.underlying22 hi hz0 hz1 hz2 w1.heap.size _ _ (sV.up n6) wr.heap.size 0 1 [bits BinOp.xor IntKind.u8 dv bv] B6.own0.rd (by rw [FLn]; simp; omega) (by omega)
          have lo := fun k h => World.ownsRow.lt sV k h
          have N7 : Below w1.heap.size w1 w7 := (sN.trans (n6.mono sz)).trans ⟨G7.os, G7.tape, G7.output, G7.size, fun k hk => G7.block k (by omega) (fun e => by have := (lo k e.symm).1; omega)⟩
          have bR7 := (bR.up n6).of_block (G7.block bg (by omega) (fun e => bN e.symm))
          have s7 := G7.size
          refine ⟨v', w7, hap, by rw [FE.out]; exact o7, N7, bR7, ?_, by omega, CD _ N7, CB _ bR7⟩
          rcases W7 with h | h
          · rw [h]; exact bN
          · rw [h]; intro e; simp only [Option.some.injEq] at e; omega
        clear CD CB FE FS
        go_region_held3 (fun W => W.cell? ⟨g2, o2 + i, none⟩ = some (.int .u8 dv) ∧ W.cell? ⟨bg, bo + im, none⟩ = some (.int .u8 bv))
          (first | go_keep | exact S7)
          (first | (refine step_append_ex rfl (.tmp 46) (.tmp 57) 22 22 rfl _ (.slice (some ⟨wr.heap.size, 0, none⟩) 1 1) rfl rfl _ A0.out ?_; rintro v' w7 ⟨o7, N7, bR7, bN7, bl7, S7⟩) | fail)
        clear A0
        go_wp2
        go_roundw
        case rel => exact ⟨i + 1, by omega, by go_num, o7, fun h => ⟨bo, bc, bg, rfl, by rw [show (i + 1) / 64 = i / 64 by omega, HBk.out]; exact bR7, bN7, bl7⟩, N7⟩
        case measure => simp [intOf]; omega
    · obtain rfl : i = n := by omega
      obtain ⟨a3, c3, g3, rfl, o3, p3, q3, r3⟩ := hV.own
      have FL := hide (FLn i)
      go_wp2
      go_ret
      exact ⟨⟨a3, c3, g3, rfl, o3, p3, q3, r3⟩, hN⟩
set_option maxHeartbeats 1000000 in
theorem specXor_any (w : World) (g : Nat) (a : Option Addr) (c : Nat) (key : List Int) (hr : Rd w g a .u8 key) (hb : Byt key) (hc : key.length ≤ c) (ct : Int) (g' : Nat) (a' : Option Addr) (c' : Nat) (non : List Int) (hr' : Rd w g' a' .u8 non) (hb' : Byt non) (hc' : non.length ≤ c')
    (g2 : Nat) (a2 : Option Addr) (c2 : Nat) (data : List Int) (hr2 : Rd w g2 a2 .u8 data) (hn : data.length ≤ 4194304) :
    Calls Try.prog 35 #[.slice a key.length c, .int .i64 ct, .slice a' non.length c', .slice a2 data.length c2] w fun e w' => NewRow w.heap.size w' e .u8 (sxA key ct non data) ∧ Below w.heap.size w w' := by
  by_cases hf : fitB key ct non = true
  · have h := hf
    unfold fitB at h
    simp only [Bool.and_eq_true, decide_eq_true_eq] at h
    by_cases h3 : hasC ct data.length = true
    · have h3' := h3
      unfold hasC at h3'
      simp only [decide_eq_true_eq] at h3'
      have RS : sxA key ct non data = fill (sxF key ct non data) data.length := by unfold sxA; rw [if_pos ⟨hf, h3⟩]; exact sx_fill key ct non data
      rw [RS]
      exact specXor_core w g a c key hr hb hc ct h.2.1 h.2.2 g' a' c' non hr' hb' hc' g2 a2 c2 data hr2 hn hf h3'
    · have RS : Hid (sxA key ct non data = []) := by show _ = _; unfold sxA; rw [if_neg (fun h => h3 h.2)]
      rw [RS.out]
      unfold hasC at h3
      simp only [decide_eq_true_eq] at h3
      have FT := fits_any w a a' c c' key non ct
      rw [hf] at FT
      have h0 := h.2.1
      have h1 := h.2.2
      have q1 : decide ((4294967295 : Int) < ct + ((data.length : Int) + 63) / 64 - 1) = true := by simp; omega
      have cb0 : (0 : Int) ≤ ((data.length : Int) + 63) / 64 := by omega
      have cb1 : ((data.length : Int) + 63) / 64 ≤ 65537 := by omega
      clear hf RS h h3
      go_enter Try.func35, Try.ntmps35
      go_wp2_with fail
      refine FT.mono ?_
      rintro e w1 ⟨rfl, rfl⟩
      go_wp2
      go_ret
      exact ⟨newRow_e _ _, (Below.refl _ _).alloc (Nat.le_refl _) _⟩
  · have RS : Hid (sxA key ct non data = []) := by show _ = _; unfold sxA; rw [if_neg (fun h => hf h.1)]
    rw [RS.out]
    have FT := fits_any w a a' c c' key non ct
    rw [show fitB key ct non = false by simpa using hf] at FT
    clear hf RS
    go_enter Try.func35, Try.ntmps35
    go_wp2_with fail
    refine FT.mono ?_
    rintro e w1 ⟨rfl, rfl⟩
    go_wp2
    go_ret
    exact ⟨newRow_e _ _, (Below.refl _ _).alloc (Nat.le_refl _) _⟩
end Go.Proofs.Ythfbchkonklmkaa

/-
  The model's StreamXor answers a row that may be appended to (written by gens/spr.py).
-/
namespace Go.Proofs.Ythfbchkonklmkaa
open Go Go.RowKit

set_option maxRecDepth 100000 in
set_option maxHeartbeats 8000000 in
theorem specXorR_core (w : World) (g : Nat) (a : Option Addr) (c : Nat) (key : List Int) (hr : Rd w g a .u8 key) (hb : Byt key) (hc : key.length ≤ c) (ct : Int) (h0 : 0 ≤ ct) (h1 : ct ≤ 4294967295) (g' : Nat) (a' : Option Addr) (c' : Nat) (non : List Int) (hr' : Rd w g' a' .u8 non) (hb' : Byt non) (hc' : non.length ≤ c')
    (g2 : Nat) (a2 : Option Addr) (c2 : Nat) (data : List Int) (hr2 : Rd w g2 a2 .u8 data) (hn : data.length ≤ 4194304) (hf : fitB key ct non = true) (h3 : (data.length : Int) ≤ (4294967296 - ct) * 64) :
    Calls Try.prog 35 #[.slice a key.length c, .int .i64 ct, .slice a' non.length c', .slice a2 data.length c2] w fun e w' => (∃ v, e = .returned v ∧ RowB w' w.heap.size v (fill (sxF key ct non data) data.length)) ∧ Below w.heap.size w w' := by
  obtain ⟨i0, hi, hz0, hz1, hz2⟩ := info_parts Try.info5
  have FT := fits_any w a a' c c' key non ct
  rw [hf] at FT
  have SB := fun W (k : Nat) (n : Below w.heap.size w W) => hide (specBlock_any W g a c key (hr.up n) hb hc (ct + ((k / 64 : Nat) : Int)) g' a' c' non (hr'.up n) hb' hc')
  have SA : ∀ k, k < data.length → Hid (sbA key (ct + ((k / 64 : Nat) : Int)) non = strB key (ct + ((k / 64 : Nat) : Int)) non) := fun k hk => sbA_fit hf (by omega) (by omega)
  have BLl : ∀ c, (strB key c non).length = 64 := fun c => stB_len _
  have FS : ∀ i, fill (sxF key ct non data) (i + 1) = fill (sxF key ct non data) i ++ [bits BinOp.xor IntKind.u8 (data.getD i 0) ((strB key (ct + ((i / 64 : Nat) : Int)) non).getD (i % 64) 0)] := fun i => fill_succ _ _
  have FLn : ∀ i, (fill (sxF key ct non data) i).length = i := fun i => fill_len _ _
  have q1 : decide ((4294967295 : Int) < ct + ((data.length : Int) + 63) / 64 - 1) = false := by simp; omega
  have dn : (data.length : Int) ≤ 4194304 := by omega
  have hq1 := hide q1
  clear hf hr hr' hb hb' h3
  generalize sxF key ct non data = f at *
  generalize hlen : data.length = n at *
  have HN := hide hlen
  have cb0 : (0 : Int) ≤ ((n : Int) + 63) / 64 := by omega
  have cb1 : ((n : Int) + 63) / 64 ≤ 65537 := by omega
  go_enter Try.func35, Try.ntmps35
  go_wp2_with fail
  refine FT.mono ?_
  rintro e w1 ⟨rfl, rfl⟩
  clear FT
  have n1 : Below w1.heap.size w1 (w1.alloc (.cells #[] 5)) := (Below.refl _ _).alloc (Nat.le_refl _) _
  have R1 := RowB.lit0 w1
  have z1 : (w1.alloc (.cells #[] 5)).heap.size = w1.heap.size + 1 := by simp
  have n2 : Below (w1.alloc (.cells #[] 5)).heap.size (w1.alloc (.cells #[] 5)) ((w1.alloc (.cells #[] 5)).alloc (.cells #[] 5)) := (Below.refl _ _).alloc (Nat.le_refl _) _
  go_wp2
  have R2 := R1.up n2
  have N2 := nxt n1 n2
  generalize (w1.alloc (.cells #[] 5)).alloc (.cells #[] 5) = wa at *
  clear n1 n2 R1 z1
  go_loopw [9, 10, 11] (fun v b u wr => ∃ (i : Nat), i ≤ n ∧ u = .int .i64 i ∧ RowB wr w1.heap.size v (fill f i) ∧ (i % 64 ≠ 0 → ∃ (bo bc bg : Nat), b = .slice (some ⟨bg, bo, none⟩) 64 bc ∧ Rd wr bg (some ⟨bg, bo, none⟩) .u8 (strB key (ct + ((i / 64 : Nat) : Int)) non) ∧ v.ownBlock ≠ some bg ∧ bg < wr.heap.size) ∧ Below w1.heap.size w1 wr) (fun _ _ u _ => n - (intOf u).toNat)
  case atStart => exact ⟨0, Nat.zero_le _, rfl, R2, fun h => absurd rfl h, N2⟩
  case round =>
    obtain ⟨i, hin, rfl, hV, hBk, hN⟩ := hrel
    clear R2 N2
    by_cases hlt : i < n
    · have iI : (i : Int) < (n : Int) := by omega
      by_cases h64 : i % 64 = 0
      · have e64 : (i : Int) % 64 = 0 := by omega
        have SBi := SB wr i hN
        rw [(SA i hlt).out] at SBi
        have BL := hide (BLl (ct + ((i / 64 : Nat) : Int)))
        obtain ⟨Bk, hBk'⟩ : ∃ b, b = strB key (ct + ((i / 64 : Nat) : Int)) non := ⟨_, rfl⟩
        rw [← hBk'] at SBi BL
        obtain ⟨kq, hkq⟩ : ∃ k, k = i / 64 := ⟨_, rfl⟩
        rw [← hkq] at SBi
        have d64 : (i : Int) / 64 = (kq : Int) := by omega
        have b64 : (kq : Int) ≤ 65537 := by omega
        have b65 : 0 ≤ ct + (kq : Int) := by omega
        have b66 : ct + (kq : Int) ≤ 4295032833 := by omega
        clear hkq
        have HBk := hide hBk'.symm
        clear hBk' hBk SB SA
        go_wp2_with fail
        refine SBi.out.mono ?_
        rintro e w3 ⟨⟨ba, bc, bg, rfl, bO, bp, bq, br⟩, n3⟩
        obtain ⟨bo, eb, -⟩ := bO.rd (by rw [BL.out]; decide)
        subst eb
        have bR := bO.rd
        rw [BL.out]
        have sV := hV.up n3
        have sN := nxt hN n3
        have bl := bR.lt (by rw [BL.out]; decide)
        have bN : Value.ownBlock u9 ≠ some bg := fun e => by have := (World.ownsRow.lt hV bg e).2; omega
        clear SBi bO bp bq hV hN n3
        go_wp2_with fail
        clear e64 d64
        obtain ⟨im, him⟩ : ∃ m, m = i % 64 := ⟨_, rfl⟩
        have m64 : (i : Int) % 64 = (im : Int) := by omega
        have l64 : (im : Int) < 64 := by omega
        have k64 : (0 : Int) ≤ (im : Int) := by omega
        have mt : Int.tmod (i : Int) 64 = (im : Int) := by rw [Int.tmod_eq_emod_of_nonneg (by omega)]; exact m64
        have i00 : (0 : Int) ≤ (i : Int) := by omega
        have im64 : im < 64 := by omega
        have FE : Hid (fill f (i + 1) = fill f i ++ [bits BinOp.xor IntKind.u8 (data.getD i 0) (Bk.getD im 0)]) := by show _ = _; rw [FS i, HBk.out, him]
        obtain ⟨o2, ea2, hc2⟩ := hr2 (by rw [HN.out]; omega)
        subst ea2
        have gl2 := hr2.lt (by rw [HN.out]; omega)
        have CD : ∀ W, Below w1.heap.size w1 W → W.cell? ⟨g2, o2 + i, none⟩ = some (.int .u8 (data.getD i 0)) := fun W h => (World.cell?_of_block (a := ⟨g2, o2 + i, none⟩) (h.block g2 gl2)).trans (hc2 i (by rw [HN.out]; exact hlt))
        have CB : ∀ W, Rd W bg (some ⟨bg, bo, none⟩) .u8 Bk → W.cell? ⟨bg, bo + im, none⟩ = some (.int .u8 (Bk.getD im 0)) := fun W h => by
          obtain ⟨o3, e3, hc3⟩ := h (by rw [BL.out]; decide)
          simp only [Option.some.injEq, Addr.mk.injEq, true_and, and_true] at e3
          subst e3
          exact hc3 im (by rw [BL.out]; exact im64)
        clear him hc2
        generalize data.getD i 0 = dv at *
        generalize Bk.getD im 0 = bv at *
        have cd0 := CD w3 sN
        have cb0 := CB w3 bR
        have A0 : Hid (∃ v' w7, (Builtin.append_ #[22, 22] 22 #[u9, .slice (some ⟨w3.heap.size, 0, none⟩) 1 1]).run Try.prog (w3.drew.alloc (.cells #[.int .u8 (bits BinOp.xor IntKind.u8 dv bv)] 5)) = .ok v' w7 ∧ (RowB w7 w1.heap.size v' (fill f (i + 1)) ∧ Below w1.heap.size w1 w7 ∧ Rd w7 bg (some ⟨bg, bo, none⟩) .u8 Bk ∧ v'.ownBlock ≠ some bg ∧ bg < w7.heap.size ∧ (w7.cell? ⟨g2, o2 + i, none⟩ = some (.int .u8 dv) ∧ w7.cell? ⟨bg, bo + im, none⟩ = some (.int .u8 bv)))) := by
          have n6 : Below w3.heap.size w3 (w3.drew.alloc (.cells #[.int .u8 (bits BinOp.xor IntKind.u8 dv bv)] 5)) := ((Below.refl _ _).drew).alloc (Nat.le_refl _) _
          have B6 : Blk (w3.drew.alloc (.cells #[.int .u8 (bits BinOp.xor IntKind.u8 dv bv)] 5)) w3.heap.size .u8 [bits BinOp.xor IntKind.u8 dv bv] := blk_lit1 w3.drew .u8 5 _
          have z6 : (w3.drew.alloc (.cells #[.int .u8 (bits BinOp.xor IntKind.u8 dv bv)] 5)).heap.size = w3.heap.size + 1 := by simp
          generalize w3.drew.alloc (.cells #[.int .u8 (bits BinOp.xor IntKind.u8 dv bv)] 5) = wz at *
          have sz := sN.size
          obtain ⟨v', w7, hap, o7, G7, W7⟩ := append_anyH (P := Try.prog) wz 22 i0 Try.underlying22 hi hz0 hz1 hz2 w1.heap.size _ _ (sV.up n6) w3.heap.size 0 1 [bits BinOp.xor IntKind.u8 dv bv] B6.own0.rd (by rw [FLn]; simp; omega) (by omega)
          have lo := fun k h => World.ownsRow.lt sV k h
          have N7 : Below w1.heap.size w1 w7 := (sN.trans (n6.mono sz)).trans ⟨G7.os, G7.tape, G7.output, G7.size, fun k hk => G7.block k (by omega) (fun e => by have := (lo k e.symm).1; omega)⟩
          have bR7 := (bR.up n6).of_block (G7.block bg (by omega) (fun e => bN e.symm))
          have s7 := G7.size
          refine ⟨v', w7, hap, by rw [FE.out]; exact o7, N7, bR7, ?_, by omega, CD _ N7, CB _ bR7⟩
          rcases W7 with h | h
          · rw [h]; exact bN
          · rw [h]; intro e; simp only [Option.some.injEq] at e; omega
        clear CD CB FE FS
        go_region_held3 (fun W => W.cell? ⟨g2, o2 + i, none⟩ = some (.int .u8 dv) ∧ W.cell? ⟨bg, bo + im, none⟩ = some (.int .u8 bv))
          (first | go_keep | exact S7)
          (first | (refine step_append_ex rfl (.tmp 46) (.tmp 57) 22 22 rfl _ (.slice (some ⟨w3.heap.size, 0, none⟩) 1 1) rfl rfl _ A0.out ?_; rintro v' w7 ⟨o7, N7, bR7, bN7, bl7, S7⟩) | fail)
        clear A0
        go_wp2
        go_roundw
        case rel => exact ⟨i + 1, by omega, by go_num, o7, fun h => ⟨bo, bc, bg, rfl, by rw [show (i + 1) / 64 = i / 64 by omega, HBk.out]; exact bR7, bN7, bl7⟩, N7⟩
        case measure => simp [intOf]; omega
      · obtain ⟨bo, bc, bg, rfl, bR, bN, bl⟩ := hBk h64
        have e64 : ¬ ((i : Int) % 64 = 0) := by omega
        have BL := hide (BLl (ct + ((i / 64 : Nat) : Int)))
        obtain ⟨Bk, hBk'⟩ : ∃ b, b = strB key (ct + ((i / 64 : Nat) : Int)) non := ⟨_, rfl⟩
        rw [← hBk'] at bR BL
        have HBk := hide hBk'.symm
        clear hBk' hBk SB SA
        have sV := hV
        have sN := hN
        clear hV hN
        go_wp2_with fail
        clear e64
        obtain ⟨im, him⟩ : ∃ m, m = i % 64 := ⟨_, rfl⟩
        have m64 : (i : Int) % 64 = (im : Int) := by omega
        have l64 : (im : Int) < 64 := by omega
        have k64 : (0 : Int) ≤ (im : Int) := by omega
        have mt : Int.tmod (i : Int) 64 = (im : Int) := by rw [Int.tmod_eq_emod_of_nonneg (by omega)]; exact m64
        have i00 : (0 : Int) ≤ (i : Int) := by omega
        have im64 : im < 64 := by omega
        have FE : Hid (fill f (i + 1) = fill f i ++ [bits BinOp.xor IntKind.u8 (data.getD i 0) (Bk.getD im 0)]) := by show _ = _; rw [FS i, HBk.out, him]
        obtain ⟨o2, ea2, hc2⟩ := hr2 (by rw [HN.out]; omega)
        subst ea2
        have gl2 := hr2.lt (by rw [HN.out]; omega)
        have CD : ∀ W, Below w1.heap.size w1 W → W.cell? ⟨g2, o2 + i, none⟩ = some (.int .u8 (data.getD i 0)) := fun W h => (World.cell?_of_block (a := ⟨g2, o2 + i, none⟩) (h.block g2 gl2)).trans (hc2 i (by rw [HN.out]; exact hlt))
        have CB : ∀ W, Rd W bg (some ⟨bg, bo, none⟩) .u8 Bk → W.cell? ⟨bg, bo + im, none⟩ = some (.int .u8 (Bk.getD im 0)) := fun W h => by
          obtain ⟨o3, e3, hc3⟩ := h (by rw [BL.out]; decide)
          simp only [Option.some.injEq, Addr.mk.injEq, true_and, and_true] at e3
          subst e3
          exact hc3 im (by rw [BL.out]; exact im64)
        clear him hc2
        generalize data.getD i 0 = dv at *
        generalize Bk.getD im 0 = bv at *
        have cd0 := CD wr sN
        have cb0 := CB wr bR
        have A0 : Hid (∃ v' w7, (Builtin.append_ #[22, 22] 22 #[u9, .slice (some ⟨wr.heap.size, 0, none⟩) 1 1]).run Try.prog (wr.drew.alloc (.cells #[.int .u8 (bits BinOp.xor IntKind.u8 dv bv)] 5)) = .ok v' w7 ∧ (RowB w7 w1.heap.size v' (fill f (i + 1)) ∧ Below w1.heap.size w1 w7 ∧ Rd w7 bg (some ⟨bg, bo, none⟩) .u8 Bk ∧ v'.ownBlock ≠ some bg ∧ bg < w7.heap.size ∧ (w7.cell? ⟨g2, o2 + i, none⟩ = some (.int .u8 dv) ∧ w7.cell? ⟨bg, bo + im, none⟩ = some (.int .u8 bv)))) := by
          have n6 : Below wr.heap.size wr (wr.drew.alloc (.cells #[.int .u8 (bits BinOp.xor IntKind.u8 dv bv)] 5)) := ((Below.refl _ _).drew).alloc (Nat.le_refl _) _
          have B6 : Blk (wr.drew.alloc (.cells #[.int .u8 (bits BinOp.xor IntKind.u8 dv bv)] 5)) wr.heap.size .u8 [bits BinOp.xor IntKind.u8 dv bv] := blk_lit1 wr.drew .u8 5 _
          have z6 : (wr.drew.alloc (.cells #[.int .u8 (bits BinOp.xor IntKind.u8 dv bv)] 5)).heap.size = wr.heap.size + 1 := by simp
          generalize wr.drew.alloc (.cells #[.int .u8 (bits BinOp.xor IntKind.u8 dv bv)] 5) = wz at *
          have sz := sN.size
          obtain ⟨v', w7, hap, o7, G7, W7⟩ := append_anyH (P := Try.prog) wz 22 i0 Try.underlying22 hi hz0 hz1 hz2 w1.heap.size _ _ (sV.up n6) wr.heap.size 0 1 [bits BinOp.xor IntKind.u8 dv bv] B6.own0.rd (by rw [FLn]; simp; omega) (by omega)
          have lo := fun k h => World.ownsRow.lt sV k h
          have N7 : Below w1.heap.size w1 w7 := (sN.trans (n6.mono sz)).trans ⟨G7.os, G7.tape, G7.output, G7.size, fun k hk => G7.block k (by omega) (fun e => by have := (lo k e.symm).1; omega)⟩
          have bR7 := (bR.up n6).of_block (G7.block bg (by omega) (fun e => bN e.symm))
          have s7 := G7.size
          refine ⟨v', w7, hap, by rw [FE.out]; exact o7, N7, bR7, ?_, by omega, CD _ N7, CB _ bR7⟩
          rcases W7 with h | h
          · rw [h]; exact bN
          · rw [h]; intro e; simp only [Option.some.injEq] at e; omega
        clear CD CB FE FS
        go_region_held3 (fun W => W.cell? ⟨g2, o2 + i, none⟩ = some (.int .u8 dv) ∧ W.cell? ⟨bg, bo + im, none⟩ = some (.int .u8 bv))
          (first | go_keep | exact S7)
          (first | (refine step_append_ex rfl (.tmp 46) (.tmp 57) 22 22 rfl _ (.slice (some ⟨wr.heap.size, 0, none⟩) 1 1) rfl rfl _ A0.out ?_; rintro v' w7 ⟨o7, N7, bR7, bN7, bl7, S7⟩) | fail)
        clear A0
        go_wp2
        go_roundw
        case rel => exact ⟨i + 1, by omega, by go_num, o7, fun h => ⟨bo, bc, bg, rfl, by rw [show (i + 1) / 64 = i / 64 by omega, HBk.out]; exact bR7, bN7, bl7⟩, N7⟩
        case measure => simp [intOf]; omega
    · obtain rfl : i = n := by omega
      obtain ⟨a3, c3, g3, rfl, -, -, -, -⟩ := hV.own
      clear FLn
      go_wp2
      go_ret
      exact ⟨⟨_, rfl, hV⟩, hN⟩
end Go.Proofs.Ythfbchkonklmkaa

/-
  The model's l8Summed, l8Sum and Seal (written by gens/pzd.py).
-/
namespace Go.Proofs.Ythfbchkonklmkaa
open Go Go.RowKit

/-- A row that may be read. -/
def Fact.ro (xs : List Int) : Fact := ⟨fun v W => ∃ (a : Option Addr) (c g : Nat), v = .slice a xs.length c ∧ Rd W g a .u8 xs ∧ xs.length ≤ c ∧ (a = none → c = 0), fun h ⟨a, c, g, e, r, l, p⟩ => ⟨a, c, g, e, r.up h, l, p⟩⟩
set_option maxHeartbeats 1000000 in
theorem l1CopyR_any (w : World) (g : Nat) (a : Option Addr) (c : Nat) (xs : List Int) (hr : Rd w g a .u8 xs) (hc : a = none → c = 0) (hn : xs.length ≤ 4194304) :
    Calls Try.prog 51 #[.slice a xs.length c] w fun e w' => (∃ v, e = .returned v ∧ RowB w' w.heap.size v xs) ∧ Below w.heap.size w w' := by
  obtain ⟨i0, hi, hz0, hz1, hz2⟩ := info_parts Try.info5
  have hal : Below w.heap.size w (w.alloc (.cells #[] 5)) := (Below.refl _ _).alloc (Nat.le_refl _) _
  obtain ⟨v', w2, hap, o2, n2⟩ := append_any (P := Try.prog) (w.alloc (.cells #[] 5)) 22 i0 Try.underlying22 hi hz0 hz1 hz2 w.heap.size w.heap.size _ [] (RowB.lit0 w) g a c xs (hr.up hal) hc (by simp; omega) (Nat.le_refl _) (by simp)
  rw [List.nil_append] at o2
  go_enter Try.func51, Try.ntmps51
  go_wp2_with (at_builtin; refine Lib.wpList_append_run _ rfl _ _ 22 22 rfl _ _ rfl rfl _ _ hap ?_)
  go_ret
  exact ⟨⟨_, rfl, o2⟩, hal.trans n2⟩
theorem len_bval {ys : List Int} {n : Int} (_ : Byt ys) (_ : bval ys = n) (h : ys.length ≤ 1048576) : ys.length ≤ 1048576 := h
theorem little_len (ys : List Int) (n : Nat) (h : Byt ys) (v : bval ys = (n : Int)) : fill (dig ys) 8 = len8 n := fill_congr fun i _ => by rw [dig_of h, v]
set_option maxRecDepth 100000 in
set_option maxHeartbeats 8000000 in
theorem l8Summed_any (w : World) (ge : Nat) (ae : Option Addr) (ce : Nat) (ex : List Int) (he : Rd w ge ae .u8 ex) (en : ae = none → ce = 0)
    (gt : Nat) (at' : Option Addr) (ct : Nat) (tx : List Int) (ht : Rd w gt at' .u8 tx) (tn : at' = none → ct = 0) (hs : ex.length + tx.length ≤ 4000000) :
    Calls Try.prog 64 #[.slice ae ex.length ce, .slice at' tx.length ct] w fun e w' => NewRow w.heap.size w' e .u8 (smd ex tx) ∧ Below w.heap.size w w' := by
  obtain ⟨i0, hi, hz0, hz1, hz2⟩ := info_parts Try.info5
  have z1 := zpad_len ex.length
  have z2 := zpad_len tx.length
  have l1 := len8_len ex.length
  have l2 := len8_len tx.length
  have ZZ := hide (show (zpad ex.length).length < 16 ∧ (zpad tx.length).length < 16 ∧ (len8 ex.length).length = 8 ∧ (len8 tx.length).length = 8 from ⟨z1, z2, l1, l2⟩)
  have HS := hide hs
  have SMD : Hid (smd ex tx = ex ++ zpad ex.length ++ tx ++ zpad tx.length ++ len8 ex.length ++ len8 tx.length) := rfl
  have eL : ex.length ≤ 4194304 := by omega
  have tL : tx.length ≤ 4194304 := by omega
  clear z1 z2 l1 l2 hs
  go_enter Try.func64, Try.ntmps64
  go_wp2_with fail
  refine (l1CopyR_any w ge ae ce ex he en eL).mono ?_
  rintro e w1 ⟨⟨v1, rfl, R1⟩, N1⟩
  go_wp2_with fail
  refine (l8Zeros_any w1 ex.length eL).mono ?_
  rintro e w2 ⟨⟨a2, c2, g2, rfl, o2, p2, q2, r2⟩, n2⟩
  have N2 := nxt N1 n2
  obtain ⟨v3, w3, hap3, R3, n3⟩ := append_any (P := Try.prog) w2 22 i0 Try.underlying22 hi hz0 hz1 hz2 w.heap.size w.heap.size _ _ (R1.up n2) g2 a2 c2 _ o2.rd p2 (by have := ZZ.out; omega) (Nat.le_refl _) N2.size
  have N3 := N2.trans n3
  clear R1 o2 n2 n3 N1 N2
  go_upto_region 2 with (at_builtin; refine Lib.wpList_append_run _ rfl _ _ 22 22 rfl _ _ rfl rfl _ _ hap3 ?_)
  clear hap3
  obtain ⟨v4, w4, hap4, R4, n4⟩ := append_any (P := Try.prog) w3 22 i0 Try.underlying22 hi hz0 hz1 hz2 w.heap.size w.heap.size _ _ R3 gt at' ct tx (ht.up N3) tn (by rw [List.length_append]; have := ZZ.out; have := HS.out; omega) (Nat.le_refl _) N3.size
  have N4 := N3.trans n4
  clear R3 n4 N3
  go_upto_region 3 with (at_builtin; refine Lib.wpList_append_run _ rfl _ _ 22 22 rfl _ _ rfl rfl _ _ hap4 ?_)
  clear hap4
  go_wp2_with fail
  refine (l8Zeros_any w4 tx.length tL).mono ?_
  rintro e w5 ⟨⟨a5, c5, g5, rfl, o5, p5, q5, r5'⟩, n5⟩
  have N5 := nxt N4 n5
  obtain ⟨v6, w6, hap6, R6, n6⟩ := append_any (P := Try.prog) w5 22 i0 Try.underlying22 hi hz0 hz1 hz2 w.heap.size w.heap.size _ _ (R4.up n5) g5 a5 c5 _ o5.rd p5 (by rw [List.length_append, List.length_append]; have := ZZ.out; have := HS.out; omega) (Nat.le_refl _) N5.size
  have N6 := N5.trans n6
  clear R4 o5 n5 n6 N4 N5
  go_upto_region 4 with (at_builtin; refine Lib.wpList_append_run _ rfl _ _ 22 22 rfl _ _ rfl rfl _ _ hap6 ?_)
  clear hap6
  go_wp2_with fail
  refine (l1Int_any w6 ex.length eL).mono ?_
  rintro e w7 ⟨ns, hns, ⟨a7, c7, g7, rfl, o7, p7, q7, r7⟩, n7⟩
  have LL := hide (l1Little_any w7 g7 a7 c7 ns 8 o7.rd hns.1 (by have := len_bval hns.1 hns.2.1 hns.2.2; omega) (by omega))
  rw [little_len ns ex.length hns.1 hns.2.1] at LL
  go_wp2_with fail
  refine LL.out.mono ?_
  rintro e w8 ⟨rfl, B8, n8⟩
  have N8 := nxt (nxt N6 n7) n8
  obtain ⟨v9, w9, hap9, R9, n9⟩ := append_any (P := Try.prog) w8 22 i0 Try.underlying22 hi hz0 hz1 hz2 w.heap.size w.heap.size _ _ ((R6.up n7).up n8) w7.heap.size (some ⟨w7.heap.size, 0, none⟩) 8 _ B8.own0.rd (by simp) (by rw [List.length_append, List.length_append, List.length_append]; have := ZZ.out; have := HS.out; omega) (Nat.le_refl _) N8.size
  rw [ZZ.out.2.2.1] at hap9
  have N9 := N8.trans n9
  clear R6 o7 n7 n8 B8 n9 N6 N8 LL hns
  go_upto_region 5 with (at_builtin; refine Lib.wpList_append_run _ rfl _ _ 22 22 rfl _ _ rfl rfl _ _ hap9 ?_)
  clear hap9
  go_wp2_with fail
  refine (l1Int_any w9 tx.length tL).mono ?_
  rintro e wa ⟨ms, hms, ⟨aa, ca, ga, rfl, oa, pa, qa, ra⟩, na⟩
  have LL := hide (l1Little_any wa ga aa ca ms 8 oa.rd hms.1 (by have := len_bval hms.1 hms.2.1 hms.2.2; omega) (by omega))
  rw [little_len ms tx.length hms.1 hms.2.1] at LL
  go_wp2_with fail
  refine LL.out.mono ?_
  rintro e wb ⟨rfl, Bb, nb⟩
  have Nb := nxt (nxt N9 na) nb
  obtain ⟨vc, wc, hapc, Rc, nc⟩ := append_any (P := Try.prog) wb 22 i0 Try.underlying22 hi hz0 hz1 hz2 w.heap.size w.heap.size _ _ ((R9.up na).up nb) wa.heap.size (some ⟨wa.heap.size, 0, none⟩) 8 _ Bb.own0.rd (by simp) (by rw [List.length_append, List.length_append, List.length_append, List.length_append]; have := ZZ.out; have := HS.out; omega) (Nat.le_refl _) Nb.size
  rw [ZZ.out.2.2.2] at hapc
  have Nc := Nb.trans nc
  rw [← SMD.out] at Rc
  clear R9 oa na nb Bb nc N9 Nb LL hms
  go_wp2_with (at_builtin; refine Lib.wpList_append_run _ rfl _ _ 22 22 rfl _ _ rfl rfl _ _ hapc ?_)
  go_ret
  obtain ⟨ad, cd, gd, rfl, od, pd, qd, rd⟩ := Rc.own
  exact ⟨⟨ad, cd, gd, rfl, od, pd, qd, rd⟩, Nc⟩

end Go.Proofs.Ythfbchkonklmkaa

/-
  The model's l8Sum and Seal (written by gens/pze.py).
-/
namespace Go.Proofs.Ythfbchkonklmkaa
open Go Go.RowKit

theorem fit0 {key non : List Int} (h : fitK key non = true) : fitB key 0 non = true := by
  unfold fitK at h
  unfold fitB
  rw [h]
  rfl
theorem fit0' {key non : List Int} (h : fitK key non = false) : fitB key 0 non = false := by
  unfold fitK at h
  unfold fitB
  rw [h]
  rfl
theorem fit1 {key non : List Int} (h : fitK key non = true) : fitB key 1 non = true := by
  unfold fitK at h
  unfold fitB
  rw [h]
  rfl
set_option maxRecDepth 100000 in
set_option maxHeartbeats 8000000 in
theorem l8Sum_any (w : World) (g : Nat) (a : Option Addr) (c : Nat) (key : List Int) (hr : Rd w g a .u8 key) (hb : Byt key) (hc : key.length ≤ c) (g' : Nat) (a' : Option Addr) (c' : Nat) (non : List Int) (hr' : Rd w g' a' .u8 non) (hb' : Byt non) (hc' : non.length ≤ c') (hf : fitK key non = true)
    (ge : Nat) (ae : Option Addr) (ce : Nat) (ex : List Int) (he : Rd w ge ae .u8 ex) (eb : Byt ex) (en : ae = none → ce = 0)
    (gt : Nat) (at' : Option Addr) (ct : Nat) (tx : List Int) (ht : Rd w gt at' .u8 tx) (tb : Byt tx) (tn : at' = none → ct = 0) (hs : ex.length + tx.length ≤ 4000000) :
    Calls Try.prog 36 #[.slice a key.length c, .slice a' non.length c', .slice ae ex.length ce, .slice at' tx.length ct] w fun e w' => ∃ (x : Option Addr) (y z : Nat), e = .returned (.slice x 16 y) ∧ Rd w' z x .u8 (ssB (nsW key non) ex tx) ∧ (x = none → y = 0) ∧ Below w.heap.size w w' := by
  have SBv : Hid (sbA key 0 non = strB key 0 non) := by show _ = _; unfold sbA; rw [if_pos (fit0 hf)]
  have BL : Hid ((strB key 0 non).length = 64) := stB_len _
  have BB : Hid (Byt (strB key 0 non)) := stB_byt _
  have SSB : Hid (ssB (nsW key non) ex tx = otB ((strB key 0 non).take 32) (smd ex tx)) := rfl
  have SB := fun W (n : Below w.heap.size w W) => hide (specBlock_any W g a c key (hr.up n) hb hc 0 g' a' c' non (hr'.up n) hb' hc')
  simp only [SBv.out] at SB
  have SMl := smd_len ex tx
  have SMB := hide (smd_byt eb tb)
  have SM := fun W (n : Below w.heap.size w W) => hide (l8Summed_any W ge ae ce ex (he.up n) en gt at' ct tx (ht.up n) tn hs)
  have SL := hide (ssB_len (nsW key non) ex tx)
  generalize strB key 0 non = ks at *
  have TL : Hid ((ks.take 32).length = 32) := by show _ = _; rw [List.length_take, BL.out]; rfl
  have OT : Hid (otA (ks.take 32) (smd ex tx) = ssB (nsW key non) ex tx) := by show _ = _; unfold otA; rw [if_pos TL.out, SSB.out]
  have SML : Hid ((smd ex tx).length ≤ 4194304) := by show _ ≤ _; omega
  generalize smd ex tx = sm at *
  clear hf SBv SMl
  go_enter Try.func36, Try.ntmps36
  go_wp2_with fail
  refine region_end 9 (fun i => [Fact.eq (.slice a key.length c), Fact.eq (.slice a' non.length c'), Fact.ro ks, Fact.ro (ks.take 32), Fact.eq (.slice ae ex.length ce), Fact.eq (.slice at' tx.length ct), Fact.ro sm, Fact.ro (ssB (nsW key non) ex tx), Fact.ro (ssB (nsW key non) ex tx)].getD i Fact.no) (by kernel_rfl) (by kernel_rfl) rfl ?_ ?_
  · intro i hi
    obtain rfl | rfl | rfl | rfl | rfl | rfl | rfl | rfl | rfl : i = 0 ∨ i = 1 ∨ i = 2 ∨ i = 3 ∨ i = 4 ∨ i = 5 ∨ i = 6 ∨ i = 7 ∨ i = 8 := by omega
    · refine step_pure rfl fun f u hb hw hf => ?_
      have e0 : f.tmps[0]?.getD undef = .slice a key.length c := gdv (hb.2.2 0 (by kernel_rfl))
      exact ⟨.slice a key.length c, by simp [go_sem, e0], rfl⟩
    · refine step_pure rfl fun f u hb hw hf => ?_
      have e1 : f.tmps[1]?.getD undef = .slice a' non.length c' := gdv (hb.2.2 1 (by kernel_rfl))
      exact ⟨.slice a' non.length c', by simp [go_sem, e1], rfl⟩
    · refine step_callv rfl 63 _ _ rfl (by kernel_rfl) fun f u hb hw hf => ?_
      have e9 : f.tmps.getD 9 undef = .slice a key.length c := hf 0 9 (by kernel_rfl)
      have e10 : f.tmps.getD 10 undef = .slice a' non.length c' := hf 1 10 (by kernel_rfl)
      show Calls Try.prog 63 #[f.tmps.getD 9 undef, .int .i64 0, f.tmps.getD 10 undef] u _
      rw [e9, e10]
      exact (SB u hw).out.mono (by rintro e w' ⟨⟨x, y, z, rfl, o, p, q, r⟩, n⟩; exact ⟨_, rfl, n, x, y, z, rfl, o.rd, q, p⟩)
    · refine step_pure rfl fun f u hb hw hf => ?_
      obtain ⟨x, y, z, e11, R, l, p⟩ := hf 2 11 (by kernel_rfl)
      obtain ⟨o, rfl, hcc⟩ := R (by rw [BL.out]; omega)
      have e11' : f.tmps[11]?.getD undef = .slice (some ⟨z, o, none⟩) 64 y := (gdv e11).trans (by rw [BL.out])
      have y1 : (32 : Int) ≤ (y : Int) := by have := BL.out; omega
      refine ⟨.slice (some ⟨z, o, none⟩) 32 y, by simp [go_sem, e11', y1], some ⟨z, o, none⟩, y, z, by rw [TL.out], fun _ => ⟨o, rfl, fun j hj => ?_⟩, by rw [TL.out]; omega, by simp⟩
      rw [TL.out] at hj
      rw [hcc j (by rw [BL.out]; omega), List.getD_eq_getElem?_getD, List.getD_eq_getElem?_getD, List.getElem?_take, if_pos hj]
    · refine step_pure rfl fun f u hb hw hf => ?_
      have e2 : f.tmps[2]?.getD undef = .slice ae ex.length ce := gdv (hb.2.2 2 (by kernel_rfl))
      exact ⟨.slice ae ex.length ce, by simp [go_sem, e2], rfl⟩
    · refine step_pure rfl fun f u hb hw hf => ?_
      have e3 : f.tmps[3]?.getD undef = .slice at' tx.length ct := gdv (hb.2.2 3 (by kernel_rfl))
      exact ⟨.slice at' tx.length ct, by simp [go_sem, e3], rfl⟩
    · refine step_callv rfl 64 _ _ rfl (by kernel_rfl) fun f u hb hw hf => ?_
      have e13 : f.tmps.getD 13 undef = .slice ae ex.length ce := hf 4 13 (by kernel_rfl)
      have e14 : f.tmps.getD 14 undef = .slice at' tx.length ct := hf 5 14 (by kernel_rfl)
      show Calls Try.prog 64 #[f.tmps.getD 13 undef, f.tmps.getD 14 undef] u _
      rw [e13, e14]
      exact (SM u hw).out.mono (by rintro e w' ⟨⟨x, y, z, rfl, o, p, q, r⟩, n⟩; exact ⟨_, rfl, n, x, y, z, rfl, o.rd, q, p⟩)
    · refine step_callv rfl 7 _ _ rfl (by kernel_rfl) fun f u hb hw hf => ?_
      obtain ⟨x1, y1, z1, e12, R1, l1, -⟩ := hf 3 12 (by kernel_rfl)
      obtain ⟨x2, y2, z2, e15, R2, l2, -⟩ := hf 6 15 (by kernel_rfl)
      show Calls Try.prog 7 #[f.tmps.getD 12 undef, f.tmps.getD 15 undef] u _
      rw [e12, e15]
      have h := specOneTime_any u z1 x1 y1 (ks.take 32) R1 (byt_take BB.out 32) l1 z2 x2 y2 sm R2 SMB.out SML.out
      rw [OT.out] at h
      exact h.mono (by rintro e w' ⟨⟨x, y, z, rfl, o, p, q, r⟩, n⟩; exact ⟨_, rfl, n, x, y, z, rfl, o.rd, q, p⟩)
    · refine step_pure rfl fun f u hb hw hf => ?_
      obtain ⟨x, y, z, e16, R, l, p⟩ := hf 7 16 (by kernel_rfl)
      have e16' : f.tmps[16]?.getD undef = .slice x (ssB (nsW key non) ex tx).length y := gdv e16
      exact ⟨.slice x (ssB (nsW key non) ex tx).length y, by simp [go_sem, e16'], x, y, z, rfl, R, l, p⟩
  · intro f w8 hb K8 hF
    obtain ⟨x, y, z, e8, R8, -, p8⟩ := hF 8 8 (by kernel_rfl)
    obtain ⟨vs', hvs'⟩ : ∃ vs : Nat → Value, ∀ d, f.tmps.getD d undef = vs d := ⟨_, fun _ => rfl⟩
    have ea := puts_of (md := .any) (n := 17) (k := 9) (by kernel_rfl) rfl hb vs' hvs'
    have v8 : vs' 8 = .slice x 16 y := (hvs' 8).symm.trans (e8.trans (by rw [SL.out]))
    rw [ea]
    clear ea hvs' hF hb e8
    simp only [puts, v8, Act.put, List.setIfInBounds_toArray, List.set_cons_succ, List.set_cons_zero]
    go_wp2
    go_ret
    exact ⟨x, y, z, rfl, R8, p8, K8⟩
set_option maxRecDepth 100000 in
set_option maxHeartbeats 8000000 in
theorem specSeal_any (w : World) (g : Nat) (a : Option Addr) (c : Nat) (key : List Int) (hr : Rd w g a .u8 key) (hb : Byt key) (hc : key.length ≤ c) (g' : Nat) (a' : Option Addr) (c' : Nat) (non : List Int) (hr' : Rd w g' a' .u8 non) (hb' : Byt non) (hc' : non.length ≤ c')
    (ge : Nat) (ae : Option Addr) (ce : Nat) (ex : List Int) (he : Rd w ge ae .u8 ex) (eb : Byt ex) (en : ae = none → ce = 0)
    (g2 : Nat) (a2 : Option Addr) (c2 : Nat) (data : List Int) (hr2 : Rd w g2 a2 .u8 data) (db : Byt data) (hs : ex.length + data.length ≤ 4000000) :
    Calls Try.prog 13 #[.slice a key.length c, .slice a' non.length c', .slice ae ex.length ce, .slice a2 data.length c2] w fun e w' => (∃ v, e = .returned v ∧ RowB w' w.heap.size v (seA key non ex data)) ∧ Below w.heap.size w w' := by
  obtain ⟨i0, hi, hz0, hz1, hz2⟩ := info_parts Try.info5
  have FT := fits_any w a a' c c' key non 0
  by_cases h1 : fitK key non = true
  · rw [fit0 h1] at FT
    have RS : Hid (seA key non ex data = xt key non data ++ ssB (nsW key non) ex (xt key non data)) := by show _ = _; unfold seA; rw [if_pos h1]
    rw [RS.out]
    have XS := hide (specXorR_core w g a c key hr hb hc 1 (by omega) (by omega) g' a' c' non hr' hb' hc' g2 a2 c2 data hr2 (by omega) (fit1 h1) (by omega))
    have XT : Hid (fill (sxF key 1 non data) data.length = xt key non data) := (sx_fill key 1 non data).symm
    rw [XT.out] at XS
    have XB := hide (xt_byt key non db)
    have XL := hide (xt_len key non data)
    generalize xt key non data = T at *
    have HS := hide (show ex.length + T.length ≤ 4000000 by rw [XL.out]; exact hs)
    have SL := hide (ssB_len (nsW key non) ex T)
    have LS := fun W (n : Below w.heap.size w W) gt at' ct (h : Rd W gt at' .u8 T) (p : at' = none → ct = 0) => hide (l8Sum_any W g a c key (hr.up n) hb hc g' a' c' non (hr'.up n) hb' hc' h1 ge ae ce ex (he.up n) eb en gt at' ct T h XB.out p HS.out)
    clear RS h1 XT XB XL hs
    generalize ssB (nsW key non) ex T = sm at *
    go_enter Try.func13, Try.ntmps13
    go_wp2_with fail
    refine FT.mono ?_
    rintro e w1 ⟨rfl, h⟩
    have h := h.symm
    subst h
    go_wp2_with fail
    refine XS.out.mono ?_
    rintro e w2 ⟨⟨v2, rfl, R2⟩, N2⟩
    obtain ⟨a3, c3, g3, rfl, o3, p3, q3, r3⟩ := R2.own
    have LS := LS w2 N2 g3 a3 c3 o3.rd p3
    clear XS FT
    go_wp2_with fail
    refine LS.out.mono ?_
    rintro e w4 ⟨x, y, z, rfl, R4, p4, n4⟩
    have N4 := nxt N2 n4
    obtain ⟨v5, w5, hap, o5, n5⟩ := append_any (P := Try.prog) w4 22 i0 Try.underlying22 hi hz0 hz1 hz2 w.heap.size w.heap.size _ T (R2.up n4) z x y sm R4 p4 (by have := HS.out; have := SL.out; omega) (Nat.le_refl _) N4.size
    rw [SL.out] at hap
    have N5 := N4.trans n5
    clear LS R2 o3 n4 n5 N4
    go_wp2_with (at_builtin; refine Lib.wpList_append_run _ rfl _ _ 22 22 rfl _ _ rfl rfl _ _ hap ?_)
    go_ret
    exact ⟨⟨_, rfl, o5⟩, N5⟩
  · have h1' : fitK key non = false := by simpa using h1
    rw [fit0' h1'] at FT
    have RS : Hid (seA key non ex data = []) := by show _ = _; unfold seA; rw [if_neg h1]
    rw [RS.out]
    clear h1 h1' RS
    go_enter Try.func13, Try.ntmps13
    go_wp2_with fail
    refine FT.mono ?_
    rintro e w1 ⟨rfl, h⟩
    have h := h.symm
    subst h
    go_wp2
    go_ret
    exact ⟨⟨_, rfl, RowB.lit0 w⟩, (Below.refl _ _).alloc (Nat.le_refl _) _⟩
end Go.Proofs.Ythfbchkonklmkaa

/-
  Sixteen bytes held against each other.
-/
namespace Go.Proofs.Ythfbchkonklmkaa
open Go Go.RowKit

theorem cells8 : Try.prog.cellsOf 5 = 1 := by kernel_rfl
theorem part8 (w : World) (xs : List Int) (i : Nat) (h : i < xs.length) : (part 5 (xs.map (Value.int .u8)).toArray (i * 1)).run Try.prog w = .ok (.int .u8 (xs.getD i 0)) w := by
  have u3 := Try.underlying5
  have a3' := Try.isAgg5
  have z3 := Try.sizeOf5
  rw [Nat.mul_one]
  go_simp
theorem eqItems8 (w : World) (d : Nat) (xs ys : List Int) : ∀ is : List Nat, (∀ i ∈ is, i < xs.length ∧ i < ys.length) →
    (Op.eqItems (d + 1) 5 1 (xs.map (Value.int .u8)).toArray (ys.map (Value.int .u8)).toArray is).run Try.prog w = .ok (is.all fun i => xs.getD i 0 == ys.getD i 0) w
  | [], _ => by simp [Op.eqItems]
  | i :: is, h => by
    have h1 := h i (by simp)
    have ih := eqItems8 w d xs ys is (fun j hj => h j (by simp [hj]))
    simp only [Op.eqItems, Sem.run_bind, part8 w xs i h1.1, part8 w ys i h1.2, Result.andThen_ok, run_equalIn_int w d 5 .u8 .u8 _ _ Try.underlying5]
    rw [List.all_cons]
    cases (xs.getD i 0 == ys.getD i 0)
    · simp only [Bool.not_false, if_true, Sem.run_pure, Bool.false_and]
    · simp only [Bool.not_true, Bool.false_eq_true, if_false, Bool.true_and]
      exact ih
theorem eq16 (w : World) (xs ys : List Int) (hx : xs.length = 16) (hy : ys.length = 16) :
    (Op.equalIn 10000 40 (.agg (xs.map (Value.int .u8)).toArray) (.agg (ys.map (Value.int .u8)).toArray)).run Try.prog w = .ok (decide (xs = ys)) w := by
  obtain ⟨i0, hi, _⟩ := info_parts Try.info5
  rw [show (10000 : Nat) = 9999 + 1 from rfl, run_equalIn_array w 9999 _ _ undP16 hi, cells8, show (9999 : Nat) = 9998 + 1 from rfl, eqItems8 w 9998 xs ys (List.range 16) (fun i hi => by rw [hx, hy]; have := List.mem_range.1 hi; exact ⟨this, this⟩)]
  congr 1
  by_cases e : xs = ys
  · subst e; simp
  · rw [decide_eq_false e]
    cases hq : (List.range 16).all fun i => xs.getD i 0 == ys.getD i 0
    · rfl
    · exfalso
      rw [List.all_eq_true] at hq
      exact e (eq_of_getD (by rw [hx, hy]) (fun i hi => by have := hq i (List.mem_range.2 (by omega)); simpa using this))
end Go.Proofs.Ythfbchkonklmkaa

/-
  A region whose last operation is a call that may write what was there before.
-/
namespace Go.Proofs.Ythfbchkonklmkaa
open Go Go.RowKit

section
variable {P : Program} {ops : Array Oper} {Q : Exit → Act → World → Prop} {a0 : Act}
theorem region_call {id : Nat} {w : World} {draw : Bool} (k : Nat) (o : Oper) (F : Nat → Fact) (hm : P.follows .mixedOrders = true) (hT : textOk .any ops a0.tmps.size k = true) (hk : ops[k]? = some o) (dd : Nat) (hdd : o.dst = some dd) (steps : ∀ i, i < k → StepOk P .any ops Q F a0 w i)
    (n : FuncId) (args : Array Operand) (ts : Array TypeId) (hop : o.op = .call { callee := .value (.func n), args := args, argTypes := ts }) (he : enters P n = true)
    (fin : ∀ a w', Based ops a0 a → Below w.heap.size w w' → (∀ i o d, i < k → ops[i]? = some o → o.dst = some d → (F i).p (a.tmps.getD d undef) w') →
      Calls P n (args.toList.map a.eval).toArray w' fun e w'' => ∃ v, e = .returned v ∧ Q .normal (a.put (some dd) v) w'') : (Code.region id ops draw).wp P Q a0 w := by
  refine region_facts k F hm hT steps fun a w' hb hw hf => ?_
  rw [hk]
  show o.wp P a w' (fun a' w'' => Q .normal a' w'') Q
  have hr : (execOp a.eval o).run P w' = .ok (.enter n (args.map a.eval)) w' := by
    have h0 : (Deferred.ofValue (Value.func (Fn.func n) #[] #[]) (args.map a.eval)).run P w' = .ok { target := .fn (.func n) #[], args := args.map a.eval } w' := by simp [Deferred.ofValue]
    simp [execOp, hop, resolve, invoke, Act.eval, h0, run_enter he]
  have e : args.map a.eval = (args.toList.map a.eval).toArray := by cases args; simp
  unfold Oper.wp
  rw [hr, e, Oper.upon_enter]
  refine (fin a w' hb hw hf).mono ?_
  rintro e w'' ⟨v, rfl, hv⟩
  rw [← hdd] at hv
  exact hv
theorem region_run {id : Nat} {w : World} {draw : Bool} (k : Nat) (o : Oper) (F : Nat → Fact) (hm : P.follows .mixedOrders = true) (hT : textOk .any ops a0.tmps.size k = true) (hk : ops[k]? = some o) (dd : Nat) (hdd : o.dst = some dd) (steps : ∀ i, i < k → StepOk P .any ops Q F a0 w i)
    (fin : ∀ a w', Based ops a0 a → Below w.heap.size w w' → (∀ i o d, i < k → ops[i]? = some o → o.dst = some d → (F i).p (a.tmps.getD d undef) w') →
      ∃ v w'', (execOp a.eval o).run P w' = .ok (.value v) w'' ∧ Q .normal (a.put (some dd) v) w'') : (Code.region id ops draw).wp P Q a0 w := by
  refine region_facts k F hm hT steps fun a w' hb hw hf => ?_
  rw [hk]
  show o.wp P a w' (fun a' w'' => Q .normal a' w'') Q
  obtain ⟨v, w'', hr, hq⟩ := fin a w' hb hw hf
  unfold Oper.wp
  rw [hr]
  rw [← hdd] at hq
  exact hq
/-- The last operation is a copy. -/
theorem region_copy {id : Nat} {w : World} {draw : Bool} (k : Nat) (o : Oper) (F : Nat → Fact) (hm : P.follows .mixedOrders = true) (hT : textOk .any ops a0.tmps.size k = true) (hk : ops[k]? = some o) (dd : Nat) (hdd : o.dst = some dd) (steps : ∀ i, i < k → StepOk P .any ops Q F a0 w i)
    (s x : Operand) (t tn ty : TypeId) (hop : o.op = .call { callee := .builtin .copy, args := #[s, x], argTypes := #[t, tn] }) (hty : o.type = ty)
    (fin : ∀ a w', Based ops a0 a → Below w.heap.size w w' → (∀ i o d, i < k → ops[i]? = some o → o.dst = some d → (F i).p (a.tmps.getD d undef) w') →
      ∃ v w'', (Builtin.copy_ #[t, tn] ty #[a.eval s, a.eval x]).run P w' = .ok v w'' ∧ Q .normal (a.put (some dd) v) w'') : (Code.region id ops draw).wp P Q a0 w := by
  refine region_run k o F hm hT hk dd hdd steps fun a w' hb hw hf => ?_
  obtain ⟨v, w'', hr, hq⟩ := fin a w' hb hw hf
  refine ⟨v, w'', ?_, hq⟩
  unfold execOp
  simp only [hop, hty, resolve, invoke, builtin, Sem.run_bind, Sem.run_pure, Result.andThen_ok, List.map_toArray, List.map_cons, List.map_nil, hr]
end
end Go.Proofs.Ythfbchkonklmkaa

/-
  The program's Open (written by gens/pzf.py).
-/
namespace Go.Proofs.Ythfbchkonklmkaa
open Go Go.RowKit

/-- A sealed text without its sum, and the sum. -/
def opT (sd : List Int) : List Int := sd.take (sd.length - 16)
def opS (sd : List Int) : List Int := sd.drop (sd.length - 16)
/-- What Open answers. -/
def opB (key non ex sd : List Int) : Bool := fitK key non && (decide (16 ≤ sd.length) && decide (ssB (nsW key non) ex (opT sd) = opS sd))
def opL (key non ex sd : List Int) : List Int := if opB key non ex sd = true then xt key non (opT sd) else []
theorem opL_len (key non ex sd : List Int) : (opL key non ex sd).length ≤ sd.length := by
  unfold opL
  split
  · rw [xt_len, opT, List.length_take]; omega
  · simp
/-- A truth and a list that the call made. -/
def NewO (B : Nat) (w' : World) (e : Ending) (b : Bool) (ys : List Int) : Prop :=
  ∃ (a : Option Addr) (c g : Nat), e = .returned (.agg #[.bool b, .slice a ys.length c]) ∧ Own w' g a .u8 ys ∧ (a = none → c = 0) ∧ ys.length ≤ c ∧ B ≤ g
theorem newO_bad (w : World) (B : Nat) : NewO B w (.returned (.agg #[.bool false, .slice none 0 0])) false [] := ⟨none, 0, B, rfl, Own.nil _ _ _ _, fun _ => rfl, Nat.le_refl _, Nat.le_refl _⟩
theorem ne16 (xs ys : List Int) (hx : xs.length = 16) (hy : ys.length = 16) (x y : Nat) (w : World) : (do eqGuard .neq 40 (.tmp x) (.tmp y) (ag .u8 xs) (ag .u8 ys); binOp .neq 40 (ag .u8 xs) (ag .u8 ys) : Sem Value).run Try.prog w = .ok (.bool (!decide (xs = ys))) w := by
  have h : (eqGuard .neq 40 (.tmp x) (.tmp y) (ag .u8 xs) (ag .u8 ys)).run Try.prog w = .ok () w := by kernel_rfl
  have h2 : (binOp .neq 40 (ag .u8 xs) (ag .u8 ys)).run Try.prog w = .ok (.bool (!decide (xs = ys))) w := by
    have k := eq16 w xs ys hx hy
    show (do pure (.bool (!(← Op.equal 40 (ag .u8 xs) (ag .u8 ys)))) : Sem Value).run Try.prog w = _
    rw [Sem.run_bind]
    have k' : (Op.equal 40 (ag .u8 xs) (ag .u8 ys)).run Try.prog w = _ := k
    rw [k']
    rfl
  rw [Sem.run_bind, h]
  exact h2
theorem Rd.drop {w : World} {g : Nat} {a : Option Addr} {k : IntKind} {xs : List Int} (h : Rd w g a k xs) (n : Nat) (hn : n < xs.length) : ∃ o, a = some ⟨g, o, none⟩ ∧ Rd w g (some ⟨g, o + n, none⟩) k (xs.drop n) := by
  obtain ⟨o, rfl, hc⟩ := h (by omega)
  refine ⟨o, rfl, fun _ => ⟨o + n, rfl, fun i hi => ?_⟩⟩
  rw [List.length_drop] at hi
  rw [Nat.add_assoc, hc (n + i) (by omega), List.getD_eq_getElem?_getD, List.getD_eq_getElem?_getD, List.getElem?_drop]
theorem Rd.take {w : World} {g : Nat} {a : Option Addr} {k : IntKind} {xs : List Int} (h : Rd w g a k xs) (n : Nat) : Rd w g a k (xs.take n) := fun h0 => by
  rw [List.length_take] at h0
  obtain ⟨o, e, hc⟩ := h (by omega)
  refine ⟨o, e, fun i hi => ?_⟩
  rw [List.length_take] at hi
  rw [hc i (by omega), List.getD_eq_getElem?_getD, List.getD_eq_getElem?_getD, List.getElem?_take, if_pos (by omega)]
theorem blk_two {w : World} {g : Nat} {t : TypeId} {b : Bool} {v : Value} (h : w.heap[g]? = some (.cells #[.bool b, v] t (0, 0))) : w.cell? ⟨g, 0, none⟩ = some (.bool b) ∧ w.cell? ⟨g, 1, none⟩ = some v ∧ w.frozen? ⟨g, 0, none⟩ = false ∧ w.frozen? ⟨g, 1, none⟩ = false :=
  ⟨by rw [cell_of_row w g 0 _ t (0, 0) h]; rfl, by rw [cell_of_row w g 1 _ t (0, 0) h]; rfl, frozen_of_row w g 0 _ t h, frozen_of_row w g 1 _ t h⟩

set_option maxRecDepth 100000 in
set_option maxHeartbeats 16000000 in
theorem implOpen_any (w : World) (g : Nat) (a : Option Addr) (c : Nat) (key : List Int) (hr : Rd w g a .u8 key) (hb : Byt key) (hc : key.length ≤ c) (g' : Nat) (a' : Option Addr) (c' : Nat) (non : List Int) (hr' : Rd w g' a' .u8 non) (hb' : Byt non) (hc' : non.length ≤ c')
    (ge : Nat) (ae : Option Addr) (ce : Nat) (ex : List Int) (he : Rd w ge ae .u8 ex) (eb : Byt ex) (en : ae = none → ce = 0)
    (g2 : Nat) (a2 : Option Addr) (c2 : Nat) (sd : List Int) (hr2 : Rd w g2 a2 .u8 sd) (db : Byt sd) (dc : sd.length ≤ c2) (hs : ex.length + sd.length ≤ 4000000) :
    Calls Try.prog 16 #[.slice a key.length c, .slice a' non.length c', .slice ae ex.length ce, .slice a2 sd.length c2] w fun e w' => NewO w.heap.size w' e (opB key non ex sd) (opL key non ex sd) ∧ Below w.heap.size w w' := by
  have n0 : Below w.heap.size w (w.alloc (.cells #[.bool false, .slice none 0 0] 30)) := (Below.refl _ _).alloc (Nat.le_refl _) _
  have H0 : (w.alloc (.cells #[.bool false, .slice none 0 0] 30)).heap[w.heap.size]? = some (.cells #[.bool false, .slice none 0 0] 30 (0, 0)) := heap_alloc_last w _
  have z0 : (w.alloc (.cells #[.bool false, .slice none 0 0] 30)).heap.size = w.heap.size + 1 := by simp
  have IK := fun W => hide (isKey_any W a a' key.length non.length c c')
  by_cases h1 : (decide (key.length = 32) && decide (non.length = 12)) = true
  · simp only [h1] at IK
    have hk : fitK key non = true := h1
    by_cases h16 : 16 ≤ sd.length
    · have OB : Hid (opB key non ex sd = decide (ssB (nsW key non) ex (opT sd) = opS sd)) := by show _ = _; unfold opB; rw [hk, decide_eq_true h16]; rfl
      have OLt : Hid (opL key non ex sd = if decide (ssB (nsW key non) ex (opT sd) = opS sd) = true then xt key non (opT sd) else []) := by show _ = _; unfold opL; rw [OB.out]
      rw [OLt.out, OB.out]
      simp only [Bool.and_eq_true, decide_eq_true_eq] at h1
      obtain ⟨od, ea2, RS⟩ := hr2.drop (sd.length - 16) (by omega)
      have TL : Hid ((opT sd).length = sd.length - 16) := by show _ = _; unfold opT; rw [List.length_take]; omega
      have SL : Hid ((opS sd).length = 16) := by show _ = _; unfold opS; rw [List.length_drop]; omega
      have RT : Rd w g2 a2 .u8 (opT sd) := hr2.take _
      have RS : Rd w g2 (some ⟨g2, od + (sd.length - 16), none⟩) .u8 (opS sd) := RS
      have TB : Byt (opT sd) := byt_take db _
      have a2n : a2 = none → c2 = 0 := fun h => by rw [h] at ea2; cases ea2
      have HC := fun W => hide (hasC_any W 1 (by omega) (by omega) a2 (sd.length - 16) c2)
      simp only [hasC_short (sd.length - 16) (by omega)] at HC
      have NW := fun W (n : Below w.heap.size w W) => hide (newWords_any W g a c key (hr.up n) hb h1.1 hc g' a' c' non (hr'.up n) hb' h1.2 hc')
      have LY := fun W (n : Below w.heap.size w W) => hide (layOverR_any W _ (nsW_ws hb hb') (nsW_len key non) 1 (by omega) g2 a2 c2 (opT sd) (RT.up n) (by rw [TL.out]; omega) (by rw [TL.out]; omega))
      have XT : Hid (xt key non (opT sd) = xoG (nsW key non) 1 (opT sd) (((opT sd).length + 63) / 64)) := rfl
      simp only [← XT.out] at LY
      have SS := fun W (n : Below w.heap.size w W) => hide (sealSum_any W _ (nsW_ws hb hb') (nsW_len key non) ge ae ce ex (he.up n) eb en g2 a2 c2 (opT sd) (RT.up n) TB a2n (by rw [TL.out]; omega))
      have ML := hide (ssB_len (nsW key non) ex (opT sd))
      simp only [TL.out] at LY SS
      have NE := fun W x y => hide (ne16 (ssB (nsW key non) ex (opT sd)) (opS sd) ML.out SL.out x y W)
      have W16 : Hid (((nsW key non).map (Value.int .u32)).length = 16) := by show _ = _; rw [List.length_map]; exact nsW_len key non
      have OW := one_ints .u32 (nsW key non)
      have VW : Hid (ag .u32 (nsW key non) = Value.agg ((nsW key non).map (Value.int .u32)).toArray) := rfl
      simp only [VW.out] at LY SS NW
      generalize xt key non (opT sd) = T at *
      generalize ssB (nsW key non) ex (opT sd) = M at *
      generalize opS sd = S at *
      obtain ⟨ob, hob⟩ : ∃ b, b = decide (M = S) := ⟨_, rfl⟩
      rw [← hob]
      obtain ⟨ol, hol⟩ : ∃ l, l = if ob = true then T else [] := ⟨_, rfl⟩
      rw [← hol]
      have HOB := hide hob
      have HOL := hide hol
      clear hob hol
      obtain ⟨nw, hnw⟩ : ∃ l, l = nsW key non := ⟨_, rfl⟩
      rw [← hnw] at W16 OW
      simp only [← hnw] at LY SS NW
      have n16 : (16 : Int) ≤ (sd.length : Int) := by omega
      have m16 : (sd.length : Int) - 16 = ((sd.length - 16 : Nat) : Int) := by omega
      have mle : ((sd.length - 16 : Nat) : Int) ≤ (sd.length : Int) := by omega
      have mc : ((sd.length - 16 : Nat) : Int) ≤ (c2 : Int) := by omega
      have m0 : (0 : Int) ≤ ((sd.length - 16 : Nat) : Int) := by omega
      have dif : sd.length - (sd.length - 16) = 16 := by omega
      have ne : ¬ (c2 = sd.length - 16) := by omega
      have nlt : ¬ (sd.length : Int) < 16 := by omega
      have big : (sd.length : Int) ≤ 4000000 := by omega
      subst ea2
      clear hnw VW h1 hk OB OLt XT TB RT hr2 db dc hs a2n
      generalize hm : sd.length - 16 = m at *
      generalize hsl : sd.length = n at *
      have HM := hide hm
      clear hm hsl
      go_enter Try.func16, Try.ntmps16
      go_upto_region 1 with fail
      generalize w.alloc (.cells #[.bool false, .slice none 0 0] 30) = w1 at *
      go_wp2_with fail
      refine (IK w1).out.mono ?_
      rintro e w2 ⟨rfl, h⟩
      have h := h.symm
      subst h
      go_wp2_with fail
      refine (HC w1).out.mono ?_
      rintro e w2 ⟨rfl, h⟩
      have h := h.symm
      subst h
      clear IK HC
      have B3 := blk_y16 w1 40
      have n3 : Below w1.heap.size w1 (w1.alloc (.cells #[.int .u8 0, .int .u8 0, .int .u8 0, .int .u8 0, .int .u8 0, .int .u8 0, .int .u8 0, .int .u8 0, .int .u8 0, .int .u8 0, .int .u8 0, .int .u8 0, .int .u8 0, .int .u8 0, .int .u8 0, .int .u8 0] 40)) := (Below.refl _ _).alloc (Nat.le_refl _) _
      have z3 : (w1.alloc (.cells #[.int .u8 0, .int .u8 0, .int .u8 0, .int .u8 0, .int .u8 0, .int .u8 0, .int .u8 0, .int .u8 0, .int .u8 0, .int .u8 0, .int .u8 0, .int .u8 0, .int .u8 0, .int .u8 0, .int .u8 0, .int .u8 0] 40)).heap.size = w.heap.size + 1 + 1 := by simp [z0]
      go_upto_region 7 with fail
      generalize w1.alloc (.cells #[.int .u8 0, .int .u8 0, .int .u8 0, .int .u8 0, .int .u8 0, .int .u8 0, .int .u8 0, .int .u8 0, .int .u8 0, .int .u8 0, .int .u8 0, .int .u8 0, .int .u8 0, .int .u8 0, .int .u8 0, .int .u8 0] 40) = w3 at *
      rw [z0] at B3
      try rw [z0]
      have H3 := (n3.block w.heap.size (by omega)).trans H0
      have N3 := nxt n0 n3
      have RS3 := RS.up N3
      clear n0 n3 H0
      refine region_copy 5 _ (fun i => [Fact.eq (.slice (some ⟨w.heap.size + 1, 0, none⟩) 16 16), Fact.eq (.slice (some ⟨g2, od, none⟩) n c2), Fact.eq (.slice (some ⟨g2, od, none⟩) m c2), Fact.eq (.int .i64 (m : Int)), Fact.eq (.slice (some ⟨g2, od + m, none⟩) 16 (c2 - m))].getD i Fact.no) (by kernel_rfl) (by kernel_rfl) rfl 36 rfl ?_ (.tmp 31) (.tmp 35) 22 22 3 rfl rfl ?_
      · intro i hi
        obtain rfl | rfl | rfl | rfl | rfl : i = 0 ∨ i = 1 ∨ i = 2 ∨ i = 3 ∨ i = 4 := by omega
        · refine step_pure rfl fun f u hb hw hf => ?_
          have e10 : f.tmps[10]?.getD undef = .pointer (some ⟨w.heap.size + 1, 0, none⟩) := gdv (hb.2.2 10 (by kernel_rfl))
          exact ⟨.slice (some ⟨w.heap.size + 1, 0, none⟩) 16 16, by simp [go_sem, e10], rfl⟩
        · refine step_pure rfl fun f u hb hw hf => ?_
          have e3 : f.tmps[3]?.getD undef = .slice (some ⟨g2, od, none⟩) n c2 := gdv (hb.2.2 3 (by kernel_rfl))
          exact ⟨.slice (some ⟨g2, od, none⟩) n c2, by simp [go_sem, e3], rfl⟩
        · refine step_pure rfl fun f u hb hw hf => ?_
          have e9 : f.tmps[9]?.getD undef = .slice (some ⟨g2, od, none⟩) m c2 := gdv (hb.2.2 9 (by kernel_rfl))
          exact ⟨.slice (some ⟨g2, od, none⟩) m c2, by simp [go_sem, e9], rfl⟩
        · refine step_pure rfl fun f u hb hw hf => ?_
          have e33 : f.tmps[33]?.getD undef = .slice (some ⟨g2, od, none⟩) m c2 := gdv (hf 2 33 (by kernel_rfl))
          exact ⟨.int .i64 (m : Int), by simp [go_sem, e33], rfl⟩
        · refine step_pure rfl fun f u hb hw hf => ?_
          have e32 : f.tmps[32]?.getD undef = .slice (some ⟨g2, od, none⟩) n c2 := gdv (hf 1 32 (by kernel_rfl))
          have e34 : f.tmps[34]?.getD undef = .int .i64 (m : Int) := gdv (hf 3 34 (by kernel_rfl))
          exact ⟨.slice (some ⟨g2, od + m, none⟩) 16 (c2 - m), by simp [go_sem, e32, e34, mle, dif, ne], rfl⟩
      intro A w4 hb4 n4 hF
      have e31 : A.eval (.tmp 31) = .slice (some ⟨w.heap.size + 1, 0, none⟩) 16 16 := hF 0 _ 31 (by omega) rfl rfl
      have e35 : A.eval (.tmp 35) = .slice (some ⟨g2, od + m, none⟩) 16 (c2 - m) := hF 4 _ 35 (by omega) rfl rfl
      obtain ⟨w5, hcp, B5', O5⟩ := copy_blk (P := Try.prog) w4 22 3 5 Try.underlying22 rowB8 (B3.up n4) g2 (some ⟨g2, od + m, none⟩) S (RS3.up n4) (by rw [SL.out, List.length_replicate]; omega) 16 (c2 - m)
      rw [List.length_replicate, SL.out] at hcp
      have ES : S ++ (List.replicate 16 (0 : Int)).drop S.length = S := by rw [SL.out]; simp
      rw [SL.out] at B5'
      rw [SL.out] at ES
      rw [ES] at B5'
      refine ⟨_, w5, by rw [e31, e35]; exact hcp, ?_⟩
      obtain ⟨vs4, hvs⟩ : ∃ vs4 : Nat → Value, ∀ d, A.tmps.getD d undef = vs4 d := ⟨_, fun _ => rfl⟩
      rw [puts_of (md := .any) (k := 5) (by kernel_rfl) rfl hb4 vs4 hvs]
      have H5 := (O5.block w.heap.size (by omega)).trans ((n4.block w.heap.size (by omega)).trans H3)
      have N5 : Below w.heap.size w w5 := (nxt N3 n4).trans (O5.below (by omega))
      have z5 : w.heap.size + 1 + 1 ≤ w5.heap.size := by have := O5.size; have := n4.size; omega
      clear hb4 hF hvs e31 e35 hcp O5 n4 N3 H3 RS3 B3 ES z3
      simp only [puts, Act.put, List.setIfInBounds_toArray, List.set_cons_succ, List.set_cons_zero]
      go_wp2_with fail
      refine (NW w5 N5).out.mono ?_
      rintro e w6 ⟨rfl, n6⟩
      have n7 : Below w6.heap.size w6 (w6.alloc (.cells #[.int .u32 0, .int .u32 0, .int .u32 0, .int .u32 0, .int .u32 0, .int .u32 0, .int .u32 0, .int .u32 0, .int .u32 0, .int .u32 0, .int .u32 0, .int .u32 0, .int .u32 0, .int .u32 0, .int .u32 0, .int .u32 0] 47)) := (Below.refl _ _).alloc (Nat.le_refl _) _
      obtain ⟨t7, H7⟩ := blk_z16 w6 47
      have SR := blk_setRow (zs := nw) ⟨t7, H7⟩
      have OR := only_setRow (w6.alloc (.cells #[.int .u32 0, .int .u32 0, .int .u32 0, .int .u32 0, .int .u32 0, .int .u32 0, .int .u32 0, .int .u32 0, .int .u32 0, .int .u32 0, .int .u32 0, .int .u32 0, .int .u32 0, .int .u32 0, .int .u32 0, .int .u32 0] 47)) w6.heap.size (nw.map (Value.int .u32)).toArray
      obtain ⟨vw, hvw⟩ : ∃ v, v = nw.map (Value.int .u32) := ⟨_, rfl⟩
      have RGf : ∀ W q, Blk W q .u32 nw → W.rangeAt q 0 vw := fun W q h => by rw [hvw]; exact (Seg.blk h).range
      rw [← hvw] at W16 OW SR OR ⊢
      simp only [← hvw] at LY SS
      clear hvw NW
      have s6 := n6.size
      have U7 : ∀ b, b < w5.heap.size → ((w6.alloc (.cells #[.int .u32 0, .int .u32 0, .int .u32 0, .int .u32 0, .int .u32 0, .int .u32 0, .int .u32 0, .int .u32 0, .int .u32 0, .int .u32 0, .int .u32 0, .int .u32 0, .int .u32 0, .int .u32 0, .int .u32 0, .int .u32 0] 47)).setRow w6.heap.size vw.toArray).heap[b]? = w5.heap[b]? := fun b hb => (OR.block b (by omega)).trans ((n7.block b (by omega)).trans (n6.block b hb))
      have N7 : Below w.heap.size w ((w6.alloc (.cells #[.int .u32 0, .int .u32 0, .int .u32 0, .int .u32 0, .int .u32 0, .int .u32 0, .int .u32 0, .int .u32 0, .int .u32 0, .int .u32 0, .int .u32 0, .int .u32 0, .int .u32 0, .int .u32 0, .int .u32 0, .int .u32 0] 47)).setRow w6.heap.size vw.toArray) := (N5.trans (n6.mono N5.size)).trans ((n7.mono (by have := N5.size; omega)).trans (OR.below (B := w.heap.size) (by have := N5.size; omega)))
      go_upto_region 9 with (refine wpList_store_row rfl 47 (.tmp 11) (.tmp 39) rfl w6.heap.size vw.toArray rfl rfl t7 _ H7 (by rw [List.size_toArray, W16.out]; exact infoS) (by rw [List.size_toArray, List.size_toArray, W16.out]; rfl) OW ?_)
      have H8 := (U7 w.heap.size (by omega)).trans H5
      have B8 := B5'.of_block (U7 (w.heap.size + 1) (by omega))
      generalize (w6.alloc (.cells #[.int .u32 0, .int .u32 0, .int .u32 0, .int .u32 0, .int .u32 0, .int .u32 0, .int .u32 0, .int .u32 0, .int .u32 0, .int .u32 0, .int .u32 0, .int .u32 0, .int .u32 0, .int .u32 0, .int .u32 0, .int .u32 0] 47)).setRow w6.heap.size vw.toArray = w7 at *
      generalize w6.heap.size = q at *
      clear n7 OR H7 OW U7 H5 B5' n6 N5
      refine region_end 6 (fun i => [Fact.eq (.agg vw.toArray), Fact.eq (.slice ae ex.length ce), Fact.eq (.slice (some ⟨g2, od, none⟩) m c2), Fact.eq (ag .u8 M), Fact.eq (ag .u8 S), Fact.eq (.bool (!decide (M = S)))].getD i Fact.no) (by kernel_rfl) (by kernel_rfl) rfl ?_ ?_
      · intro i hi
        obtain rfl | rfl | rfl | rfl | rfl | rfl : i = 0 ∨ i = 1 ∨ i = 2 ∨ i = 3 ∨ i = 4 ∨ i = 5 := by omega
        · refine step_load rfl 47 (.tmp 11) rfl (.array 16 45) 16 undS rfl infoS fun f u hb hw hf => ?_
          exact ⟨q, 0, vw, hb.2.2 11 (by kernel_rfl), RGf u q (SR.up hw), W16.out, rfl⟩
        · refine step_pure rfl fun f u hb hw hf => ?_
          have e2 : f.tmps[2]?.getD undef = .slice ae ex.length ce := gdv (hb.2.2 2 (by kernel_rfl))
          exact ⟨.slice ae ex.length ce, by simp [go_sem, e2], rfl⟩
        · refine step_pure rfl fun f u hb hw hf => ?_
          have e9 : f.tmps[9]?.getD undef = .slice (some ⟨g2, od, none⟩) m c2 := gdv (hb.2.2 9 (by kernel_rfl))
          exact ⟨.slice (some ⟨g2, od, none⟩) m c2, by simp [go_sem, e9], rfl⟩
        · refine step_callv rfl 41 _ _ rfl (by kernel_rfl) fun f u hb hw hf => ?_
          have e40 : f.tmps.getD 40 undef = .agg vw.toArray := hf 0 40 (by kernel_rfl)
          have e41 : f.tmps.getD 41 undef = .slice ae ex.length ce := hf 1 41 (by kernel_rfl)
          have e42 : f.tmps.getD 42 undef = .slice (some ⟨g2, od, none⟩) m c2 := hf 2 42 (by kernel_rfl)
          show Calls Try.prog 41 #[f.tmps.getD 40 undef, f.tmps.getD 41 undef, f.tmps.getD 42 undef] u _
          rw [e40, e41, e42]
          exact (SS u (nxt N7 hw)).out.mono (by rintro e w' ⟨rfl, n⟩; exact ⟨_, rfl, n, rfl⟩)
        · refine step_load rfl 40 (.tmp 10) rfl (.array 16 5) 16 undP16 rfl infoP16 fun f u hb hw hf => ?_
          exact ⟨w.heap.size + 1, 0, S.map (Value.int .u8), hb.2.2 10 (by kernel_rfl), (Seg.blk (B8.up hw)).range, by rw [List.length_map]; exact SL.out, rfl⟩
        · refine step_pure rfl fun f u hb hw hf => ⟨.bool (!decide (M = S)), ?_, rfl⟩
          have e43 : f.eval (.tmp 43) = ag .u8 M := hf 3 43 (by kernel_rfl)
          have e44 : f.eval (.tmp 44) = ag .u8 S := hf 4 44 (by kernel_rfl)
          have k := (NE u 43 44).out
          show (execOp f.eval { dst := some 45, op := .binOp .neq 40 (.tmp 43) (.tmp 44) 40, type := _, pos := _, after := _, guard := _ }).run Try.prog u = _
          simp only [execOp, e43, e44]
          rw [Sem.run_bind, k]
          rfl
      intro A w8 hb8 n8 hF
      have e45 := hF 5 45 (by kernel_rfl)
      obtain ⟨vs8, hvs⟩ : ∃ vs8 : Nat → Value, ∀ d, A.tmps.getD d undef = vs8 d := ⟨_, fun _ => rfl⟩
      have v45 : vs8 45 = .bool (!decide (M = S)) := (hvs 45).symm.trans e45
      rw [puts_of (md := .any) (n := 51) (k := 6) (by kernel_rfl) rfl hb8 vs8 hvs]
      have H9 := (n8.block w.heap.size (by have := N7.size; have := H8; exact (Array.getElem?_eq_some_iff.1 H8).1)).trans H8
      have N8 := nxt N7 n8
      have SR8 := SR.up n8
      obtain ⟨c80, c81, f80, f81⟩ := blk_two H9
      clear hb8 hF hvs e45 SS NE B8 SR
      simp only [puts, v45, Act.put, List.setIfInBounds_toArray, List.set_cons_succ, List.set_cons_zero]
      by_cases hMS : M = S
      · have d1 : decide (M = S) = true := decide_eq_true hMS
        have EB : Hid (ob = true) := HOB.out.trans d1
        have EL : Hid (ol = T) := by show _ = _; rw [HOL.out, EB.out, if_pos rfl]
        rw [d1]
        clear HOB HOL
        have RG := RGf w8 q SR8
        clear hMS d1 ML
        go_wp2_with (refine wpList_load_mid rfl 47 (.tmp 11) rfl q 0 rfl vw (.array 16 45) RG undS rfl (by rw [W16.out]; exact infoS) ?_)
        refine (LY w8 N8).out.mono ?_
        rintro e w9 ⟨⟨v9, rfl, R9⟩, n9⟩
        obtain ⟨a9, c9, g9, rfl, o9, p9, q9, r9⟩ := R9.own
        have l8 := (Array.getElem?_eq_some_iff.1 H9).1
        have H10 := (n9.block w.heap.size l8).trans H9
        obtain ⟨c90, c91, f90, f91⟩ := blk_two H10
        have N9 := nxt N8 n9
        have O1 := (Only.setCell w9 w.heap.size 0 (.bool true)).trans (Only.setCell _ w.heap.size 1 (.slice a9 T.length c9))
        have o10 := o9.only O1 (fun _ => by omega)
        have N10 := N9.trans (O1.below (Nat.le_refl _))
        clear LY RGf SR8 RG n9 c80 c81 f80 f81 H10 R9 o9 O1
        go_wp2
        exact bodyPost_ret (v := .agg #[.bool true, .slice a9 T.length c9]) (by simp [results, Try.results16, go_sem, c90, c91]) rfl ⟨by rw [EB.out, EL.out]; exact ⟨a9, c9, g9, rfl, o10, p9, q9, by omega⟩, N10⟩
      · have d1 : decide (M = S) = false := decide_eq_false hMS
        have EB : Hid (ob = false) := HOB.out.trans d1
        have EL : Hid (ol = []) := by show _ = _; rw [HOL.out, EB.out, if_neg (by decide)]
        rw [d1]
        clear HOB HOL
        have O1 := (Only.setCell w8 w.heap.size 0 (.bool false)).trans (Only.setCell _ w.heap.size 1 (.slice none 0 0))
        have N10 := N8.trans (O1.below (Nat.le_refl _))
        clear hMS d1 ML LY RGf SR8 O1
        go_wp2
        exact bodyPost_ret (v := .agg #[.bool false, .slice none 0 0]) (by simp [results, Try.results16, go_sem, c80, c81]) rfl ⟨by rw [EB.out, EL.out]; exact newO_bad _ _, N10⟩
    · have OB : Hid (opB key non ex sd = false) := by show _ = _; unfold opB; rw [decide_eq_false h16]; simp
      have OLt : Hid (opL key non ex sd = []) := by show _ = _; unfold opL; rw [if_neg (by rw [OB.out]; decide)]
      rw [OLt.out, OB.out]
      have lt : (sd.length : Int) < 16 := by omega
      clear OB OLt
      go_enter Try.func16, Try.ntmps16
      go_upto_region 1 with fail
      generalize w.alloc (.cells #[.bool false, .slice none 0 0] 30) = w1 at *
      go_wp2_with fail
      refine (IK w1).out.mono ?_
      rintro e w2 ⟨rfl, h⟩
      have h := h.symm
      subst h
      obtain ⟨c10, c11, f10, f11⟩ := blk_two H0
      have O1 := (Only.setCell w1 w.heap.size 0 (.bool false)).trans (Only.setCell _ w.heap.size 1 (.slice none 0 0))
      have N10 := n0.trans (O1.below (Nat.le_refl _))
      clear IK O1
      go_wp2
      exact bodyPost_ret (v := .agg #[.bool false, .slice none 0 0]) (by simp [results, Try.results16, go_sem, c10, c11]) rfl ⟨newO_bad _ _, N10⟩
  · have h1' : (decide (key.length = 32) && decide (non.length = 12)) = false := by simpa using h1
    simp only [h1'] at IK
    have OB : Hid (opB key non ex sd = false) := by show _ = _; unfold opB fitK; rw [h1']; rfl
    have OLt : Hid (opL key non ex sd = []) := by show _ = _; unfold opL; rw [if_neg (by rw [OB.out]; decide)]
    rw [OLt.out, OB.out]
    clear OB OLt h1 h1'
    go_enter Try.func16, Try.ntmps16
    go_upto_region 1 with fail
    generalize w.alloc (.cells #[.bool false, .slice none 0 0] 30) = w1 at *
    go_wp2_with fail
    refine (IK w1).out.mono ?_
    rintro e w2 ⟨rfl, h⟩
    have h := h.symm
    subst h
    obtain ⟨c10, c11, f10, f11⟩ := blk_two H0
    have O1 := (Only.setCell w1 w.heap.size 0 (.bool false)).trans (Only.setCell _ w.heap.size 1 (.slice none 0 0))
    have N10 := n0.trans (O1.below (Nat.le_refl _))
    clear IK O1
    go_wp2
    exact bodyPost_ret (v := .agg #[.bool false, .slice none 0 0]) (by simp [results, Try.results16, go_sem, c10, c11]) rfl ⟨newO_bad _ _, N10⟩
end Go.Proofs.Ythfbchkonklmkaa

/-
  What is drawn: the source, its answers, bytes; the laws' own small helpers (Dr without the field's texts).
-/
namespace Go.Proofs.Ythfbchkonklmkaa
open Go.RowKit

/-- Of what was there nothing but block g has turned. -/
structure But (g : Nat) (w w' : World) : Prop where
  os : w'.os = w.os
  tape : w'.tape = w.tape
  output : w'.output = w.output
  size : w.heap.size ≤ w'.heap.size
  block : ∀ k, k < w.heap.size → k ≠ g → w'.heap[k]? = w.heap[k]?

theorem But.of {g : Nat} {a b c : World} (h : Below a.heap.size a b) (k : Only g b c) : But g a c :=
  ⟨k.os.trans h.os, k.tape.trans h.tape, k.output.trans h.output, by rw [k.size]; exact h.size, fun i hi hne => (k.block i hne).trans (h.block i hi)⟩

theorem But.below {g B : Nat} {w w' : World} (h : But g w w') (hB : B ≤ g) (hs : B ≤ w.heap.size) : Below B w w' := ⟨h.os, h.tape, h.output, h.size, fun k hk => h.block k (by omega) (by omega)⟩

theorem Own.but {w w' : World} {g g' : Nat} {a : Option Addr} {k : IntKind} {xs : List Int} (h : Own w g a k xs) (ho : But g' w w') (hne : 0 < xs.length → g ≠ g') : Own w' g a k xs := by
  by_cases h0 : 0 < xs.length
  · exact h.of_block (ho.block g (h.rd.lt h0) (hne h0))
  · exact fun h1 => absurd h1 h0

set_option maxHeartbeats 400000 in
theorem lwCopy_any (w : World) (g : Nat) (a : Option Addr) (cap : Nat) (xs : List Int) (hr : Rd w g a .u8 xs) (hc : a = none → cap = 0) (hn : xs.length ≤ 1048576) :
    Calls Try.prog 22 #[.slice a xs.length cap] w fun e w' => NewRow w.heap.size w' e .u8 xs ∧ Below w.heap.size w w' := by
  obtain ⟨i0, hi, hz0, hz1, hz2⟩ := info_parts Try.info5
  have hown : (w.alloc (.cells #[] 5)).ownsRow w.heap.size 5 1 (.slice (some ⟨w.heap.size, 0, none⟩) 0 0) 0 [] := World.ownsRow_lit w #[] 0 (Nat.le_refl _) (by unfold maxLen; omega) (by simp)
  have hal : Below w.heap.size w (w.alloc (.cells #[] 5)) := (Below.refl _ _).alloc (Nat.le_refl _) _
  cases a with
  | none =>
    obtain rfl : xs = [] := by
      by_cases h0 : 0 < xs.length
      · obtain ⟨off, h, _⟩ := hr h0
        simp at h
      · exact List.eq_nil_of_length_eq_zero (by omega)
    obtain rfl := hc rfl
    go_enter Try.func22, Try.ntmps22
    go_wp2_with (at_builtin; refine wpList_append_own_none rfl _ _ 22 rfl w.heap.size 5 i0 1 Try.underlying22 hi _ 0 [] rfl hown rfl ?_)
    go_ret
    exact ⟨⟨_, _, w.heap.size, rfl, Own.nil _ _ _ _, by simp, Nat.zero_le _, Nat.le_refl _⟩, hal⟩
  | some ad =>
    have hcell : ∀ j u, (xs.map (Value.int .u8))[j]? = some u → (w.alloc (.cells #[] 5)).cell? (ad.add j) = some u := by
      intro j u hj
      have hjl : j < xs.length := by
        have := (List.getElem?_eq_some_iff.1 hj).1
        simpa using this
      obtain ⟨off, ha, hcc⟩ := (hr.up hal) (by omega)
      simp only [Option.some.injEq] at ha
      subst ha
      rw [Addr.add_mid, hcc j hjl]
      simpa [hjl] using hj
    have hone : ∀ u ∈ xs.map (Value.int .u8), u.oneCell' = true := by
      intro u hu
      obtain ⟨x, _, rfl⟩ := List.mem_map.1 hu
      rfl
    go_enter Try.func22, Try.ntmps22
    go_wp2_with (at_builtin; refine wpList_append_own _ rfl _ _ 22 rfl w.heap.size 5 i0 (.int .u8 0) 1 1 Try.underlying22 hi hz0 hz1 hz2 rfl (by decide) (.slice (some ⟨w.heap.size, 0, none⟩) 0 0) 0 [] rfl hown ad xs.length cap (xs.map (Value.int .u8)) rfl (by simp) hcell hone (by unfold maxLen; omega) (by omega) (by simp) ?_; intro v' w1 hown' hgrow _)
    simp only [Nat.zero_add, List.nil_append] at hown'
    obtain ⟨a', c', g', rfl, h1, h2, h3, h4⟩ := Own.of_ownsRow hown'
    have hB : Below w.heap.size w w1 := hal.grown hgrow (by simp) (by intro k hk; simp [Value.ownBlock] at hk; omega)
    clear hown' hgrow hown
    go_wp2
    go_ret
    exact ⟨⟨_, _, g', rfl, h1, h2, h3, h4⟩, hB⟩

/-- The text of bytes. -/
def str (xs : List Int) : ByteArray := xs.foldl (fun r n => r.push (UInt8.ofNat n.toNat)) ByteArray.empty

theorem conv_run (w : World) (g : Nat) (a : Option Addr) (c : Nat) (xs : List Int) (hr : Rd w g a .u8 xs) : (convert 22 9 (.slice a xs.length c)).run Try.prog w = .ok (.string (str xs)) w := by
  rw [run_convert_bytes_string w 22 9 5 a xs.length c Try.underlying22 Try.underlying5 Try.underlying9]
  cases a with
  | none =>
    obtain rfl : xs = [] := by
      by_cases h0 : 0 < xs.length
      · obtain ⟨off, h, _⟩ := hr h0
        simp at h
      · exact List.eq_nil_of_length_eq_zero (by omega)
    simp [Conv.bytesToString, str]
  | some ad =>
    have hl := run_loadCells_list (P := Try.prog) w ad (xs.map (Value.int .u8)) (fun j v hj => by
      have hjl : j < xs.length := by
        have := (List.getElem?_eq_some_iff.1 hj).1
        simpa using this
      obtain ⟨off, ha, hcc⟩ := hr (by omega)
      simp only [Option.some.injEq] at ha
      subst ha
      rw [add_mid, hcc j hjl]
      simpa [hjl] using hj)
    rw [List.length_map] at hl
    exact run_bytesToString w ad xs.length c xs hl

set_option maxHeartbeats 400000 in
theorem lwSame_same (w : World) (g g' : Nat) (a b : Option Addr) (ca cb : Nat) (xs : List Int) (ha : Rd w g a .u8 xs) (hb : Rd w g' b .u8 xs) :
    Calls Try.prog 23 #[.slice a xs.length ca, .slice b xs.length cb] w fun e w' => e = .returned (.bool true) ∧ w' = w := by
  have h1 := conv_run w g a ca xs ha
  have h2 := conv_run w g' b cb xs hb
  generalize str xs = s at *
  go_enter Try.func23, Try.ntmps23
  go_wp2
  go_ret
  exact ⟨by simp, rfl⟩

/-- The source of what is drawn: its code, and how often it was asked. -/
structure Src (w : World) (s : Nat) (a : Option Addr) (n c : Nat) (at_ : Int) : Prop where
  code : w.cell? ⟨s, 0, none⟩ = some (.slice a n c)
  at_ : w.cell? ⟨s, 1, none⟩ = some (.int .i64 at_)
  free : w.frozen? ⟨s, 1, none⟩ = false

theorem Src.lt {w : World} {s : Nat} {a : Option Addr} {n c : Nat} {t : Int} (h : Src w s a n c t) : s < w.heap.size := block_lt_of_cell h.code

theorem Src.of_block {w w' : World} {s : Nat} {a : Option Addr} {n c : Nat} {t : Int} (h : Src w s a n c t) (hb : w'.heap[s]? = w.heap[s]?) : Src w' s a n c t :=
  ⟨(World.cell?_of_block (a := ⟨s, 0, none⟩) hb).trans h.code, (World.cell?_of_block (a := ⟨s, 1, none⟩) hb).trans h.at_, (World.frozen?_of_block (a := ⟨s, 1, none⟩) hb).trans h.free⟩

theorem Src.up {w w' : World} {s : Nat} {a : Option Addr} {n c : Nat} {t : Int} (h : Src w s a n c t) (hb : Below w.heap.size w w') : Src w' s a n c t := h.of_block (hb.block s h.lt)

theorem Src.step {w : World} {s : Nat} {a : Option Addr} {n c : Nat} {t : Int} (h : Src w s a n c t) (u : Int) (m : Nat) : Src ((w.setCell ⟨s, 1, none⟩ (.int .i64 u)).drewN m) s a n c u := by
  refine ⟨?_, ?_, ?_⟩
  · rw [World.cell?_drewN, World.cell?_setCell_other (h := by simp)]; exact h.code
  · rw [World.cell?_drewN, World.cell?_setCell_same _ _ _ h.at_]
  · rw [World.frozen?_drewN, World.frozen?_setCell]; exact h.free

theorem Only.step (w : World) (s : Nat) (u : Value) (m : Nat) : Only s w ((w.setCell ⟨s, 1, none⟩ u).drewN m) := (Only.setCell w s 1 u).trans (Only.drewN _ _ _)

set_option maxHeartbeats 2000000 in
theorem l1Next_any (w : World) (s g : Nat) (a : Option Addr) (c : Nat) (xs : List Int) (t n : Int) (hs : Src w s a xs.length c t) (hr : Rd w g a .u8 xs) (hne : 0 < xs.length → g ≠ s) (hb : Byt xs) (hl : xs.length ≤ 1048576)
    (t0 : 0 ≤ t) (t1 : t ≤ 1048576) (n0 : 1 ≤ n) (n1 : n ≤ 1048576) :
    Calls Try.prog 47 #[.pointer (some ⟨s, 0, none⟩), .int .i64 n] w fun e w' => ∃ r, e = .returned (.int .i64 r) ∧ (0 ≤ r ∧ r < n) ∧ Src w' s a xs.length c (t + 1) ∧ Only s w w' := by
  have c0 := hs.code
  have c1 := hs.at_
  have f1 := hs.free
  have k1 : (w.setCell ⟨s, 1, none⟩ (.int .i64 (t + 1))).cell? ⟨s, 1, none⟩ = some (.int .i64 (t + 1)) := World.cell?_setCell_same _ _ _ hs.at_
  have k0 : (w.setCell ⟨s, 1, none⟩ (.int .i64 (t + 1))).cell? ⟨s, 0, none⟩ = some (.slice a xs.length c) := by rw [World.cell?_setCell_other (h := by simp)]; exact hs.code
  have tn : decide (n < 1) = false := by simp; omega
  by_cases h0 : xs.length = 0
  · have hk : ((xs.length : Int) == 0) = true := by simp [h0]
    have r0 := Int.emod_nonneg (t * 7) (show n ≠ 0 by omega)
    have r1 := Int.emod_lt_of_pos (t * 7) (show 0 < n by omega)
    have S := hs.step (t + 1) 0
    have O := Only.step w s (.int .i64 (t + 1)) 0
    clear h0
    go_enter Try.func47, Try.ntmps47
    go_wp2
    go_ret
    exact ⟨_, rfl, ⟨r0, r1⟩, S, O⟩
  · have hk : ((xs.length : Int) == 0) = false := beq_eq_false_iff_ne.2 (by omega)
    obtain ⟨off, rfl, hc⟩ := hr (by omega)
    have gs : g ≠ s := hne (by omega)
    obtain ⟨i1, hi1⟩ := Int.eq_ofNat_of_zero_le (Int.emod_nonneg t (show (xs.length : Int) ≠ 0 by omega))
    have li1 : (i1 : Int) < (xs.length : Int) := by rw [← hi1]; exact Int.emod_lt_of_pos _ (by omega)
    obtain ⟨i2, hi2⟩ := Int.eq_ofNat_of_zero_le (Int.emod_nonneg (t + 1) (show (xs.length : Int) ≠ 0 by omega))
    have li2 : (i2 : Int) < (xs.length : Int) := by rw [← hi2]; exact Int.emod_lt_of_pos _ (by omega)
    obtain ⟨q, hq⟩ : ∃ q, t / (xs.length : Int) = q := ⟨_, rfl⟩
    have q0 : 0 ≤ q := by rw [← hq]; exact Int.ediv_nonneg t0 (by omega)
    have q1 : q ≤ 1048576 := by rw [← hq]; exact Int.le_trans (Int.ediv_le_self _ t0) t1
    have x1 : (w.setCell ⟨s, 1, none⟩ (.int .i64 (t + 1))).cell? ⟨g, off + i1, none⟩ = some (.int .u8 (xs.getD i1 0)) := by rw [World.cell?_setCell_other (h := fun e => gs (by simpa using (congrArg Addr.block e).symm))]; exact hc i1 (by omega)
    have x2 : (w.setCell ⟨s, 1, none⟩ (.int .i64 (t + 1))).cell? ⟨g, off + i2, none⟩ = some (.int .u8 (xs.getD i2 0)) := by rw [World.cell?_setCell_other (h := fun e => gs (by simpa using (congrArg Addr.block e).symm))]; exact hc i2 (by omega)
    have b1 := hb i1
    have b2 := hb i2
    have S := fun m => hs.step (t + 1) m
    have O := fun m => Only.step w s (.int .i64 (t + 1)) m
    generalize xs.getD i1 0 = x at *
    generalize xs.getD i2 0 = y at *
    clear hc hs hr h0
    by_cases hn : n ≤ 200
    · have tn2 : decide (200 < n) = false := by simp; omega
      have r0 := Int.emod_nonneg (x + q * 37) (show n ≠ 0 by omega)
      have r1 := Int.emod_lt_of_pos (x + q * 37) (show 0 < n by omega)
      clear x2 hi2 li2 b2
      go_enter Try.func47, Try.ntmps47
      go_wp2
      go_quiet (fail)
      go_wp2
      go_ret
      exact ⟨_, rfl, ⟨r0, r1⟩, S _, O _⟩
    · have tn2 : decide (200 < n) = true := by simp; omega
      have r0 := Int.emod_nonneg ((x + q * 37) * 251 + y * 13 + t) (show n ≠ 0 by omega)
      have r1 := Int.emod_lt_of_pos ((x + q * 37) * 251 + y * 13 + t) (show 0 < n by omega)
      go_enter Try.func47, Try.ntmps47
      go_wp2
      go_quiet (fail)
      go_wp2
      go_quiet (fail)
      go_wp2
      go_ret
      exact ⟨_, rfl, ⟨r0, r1⟩, S _, O _⟩

theorem But.refl (g : Nat) (w : World) : But g w w := ⟨rfl, rfl, rfl, Nat.le_refl _, fun _ _ _ => rfl⟩

theorem But.only {g : Nat} {a b c : World} (h : But g a b) (k : Only g b c) : But g a c :=
  ⟨k.os.trans h.os, k.tape.trans h.tape, k.output.trans h.output, by rw [k.size]; exact h.size, fun i hi hne => (k.block i hne).trans (h.block i hi hne)⟩

theorem But.grown {g : Nat} {a b c : World} {row : Option Nat} (h : But g a b) (k : b.grownBy c row) (hr : ∀ i, row = some i → a.heap.size ≤ i) : But g a c :=
  ⟨k.os.trans h.os, k.tape.trans h.tape, k.output.trans h.output, Nat.le_trans h.size k.size, fun i hi hne => (k.block i (Nat.lt_of_lt_of_le hi h.size) (fun e => by have := hr i e.symm; omega)).trans (h.block i hi hne)⟩

theorem But.trans {g : Nat} {a b c : World} (h : But g a b) (k : But g b c) : But g a c :=
  ⟨k.os.trans h.os, k.tape.trans h.tape, k.output.trans h.output, Nat.le_trans h.size k.size, fun i hi hne => (k.block i (Nat.lt_of_lt_of_le hi h.size) hne).trans (h.block i hi hne)⟩

theorem But.ofBelow {g : Nat} {a b : World} (h : Below a.heap.size a b) : But g a b := ⟨h.os, h.tape, h.output, h.size, fun i hi _ => h.block i hi⟩

theorem But.ofOnly {g : Nat} {a b : World} (h : Only g a b) : But g a b := (But.refl g a).only h

theorem Rd.but {w w' : World} {g g' : Nat} {a : Option Addr} {k : IntKind} {xs : List Int} (h : Rd w g a k xs) (ho : But g' w w') (hne : 0 < xs.length → g ≠ g') : Rd w' g a k xs := by
  by_cases h0 : 0 < xs.length
  · exact h.of_block (ho.block g (h.lt h0) (hne h0))
  · exact fun h1 => absurd h1 h0

theorem Only.grown {g : Nat} {a b : World} (h : Only g a b) : a.grownBy b (some g) := ⟨h.os, h.tape, h.output, Nat.le_of_eq h.size.symm, fun k _ hne => h.block k (fun e => hne (by rw [e]))⟩

theorem byt_snoc {ys : List Int} (h : Byt ys) (x : Int) (h0 : 0 ≤ x) (h1 : x < 256) : Byt (ys ++ [x]) := by
  intro i
  by_cases hi : i < ys.length
  · have := h i
    simpa [List.getElem?_append, hi] using this
  · by_cases e : i = ys.length
    · subst e; simp; exact ⟨h0, h1⟩
    · rw [List.getD_eq_getElem?_getD, List.getElem?_eq_none (by simp; omega)]
      decide

set_option maxHeartbeats 2000000 in
theorem l1DrawBytes_any (w : World) (s g : Nat) (a : Option Addr) (c : Nat) (xs : List Int) (t : Int) (n : Nat) (hs : Src w s a xs.length c t) (hr : Rd w g a .u8 xs) (hne : 0 < xs.length → g ≠ s) (hb : Byt xs) (hl : xs.length ≤ 1048576)
    (t0 : 0 ≤ t) (t1 : t + (n : Int) ≤ 1048576) :
    Calls Try.prog 46 #[.pointer (some ⟨s, 0, none⟩), .int .i64 n] w fun e w' => ∃ ys, ys.length = n ∧ Byt ys ∧ NewRow w.heap.size w' e .u8 ys ∧ Src w' s a xs.length c (t + (n : Int)) ∧ But s w w' := by
  obtain ⟨i0, hi, hz0, hz1, hz2⟩ := info_parts Try.info5
  have hown0 : (w.alloc (.cells #[] 5)).ownsRow w.heap.size 5 1 (.slice (some ⟨w.heap.size, 0, none⟩) 0 0) 0 [] := World.ownsRow_lit w #[] 0 (Nat.le_refl _) (by unfold maxLen; omega) (by simp)
  have hal : Below w.heap.size w (w.alloc (.cells #[] 5)) := (Below.refl _ _).alloc (Nat.le_refl _) _
  have hsl := hs.lt
  go_enter Try.func46, Try.ntmps46
  go_wp2
  go_loopw [5, 6] (fun v i wr => ∃ (k : Nat) (ys : List Int), k ≤ n ∧ i = .int .i64 k ∧ Hid (ys.length = k) ∧ Byt ys ∧ wr.ownsRow w.heap.size 5 1 v k (ys.map (Value.int .u8)) ∧ Src wr s a xs.length c (t + (k : Int)) ∧ But s w wr) (fun _ i _ => n - (intOf i).toNat)
  case atStart => exact ⟨0, [], Nat.zero_le _, rfl, rfl, byt_nil, hown0, by simpa using hs.up hal, But.ofBelow hal⟩
  case round =>
    obtain ⟨k, ys, hk, rfl, hyl, hyb, hown, hS, hN⟩ := hrel
    have hr' := hr.but hN hne
    by_cases hlt : k < n
    · have hob := hown.lt
      go_wp2_with fail
      refine (l1Next_any wr s g a c xs (t + (k : Int)) 256 hS hr' hne hb hl (by omega) (by omega) (by decide) (by decide)).mono ?_
      rintro e w1 ⟨r, rfl, ⟨r0, r1⟩, S1, O1⟩
      have N1 := hN.only O1
      have hown1 := hown.kept O1.grown (by
        cases hv : Value.ownBlock _ with
        | none => exact .inl rfl
        | some q => exact .inr (fun e => by have := (hob q hv).1; simp at e; omega))
      have m1 : r % 256 = r := by omega
      have sz := N1.size
      clear hown hS hN O1 hr'
      go_wp2_with (at_builtin; refine wpList_append_own _ rfl _ _ 22 rfl w.heap.size 5 i0 (.int .u8 0) 1 1 Try.underlying22 hi hz0 hz1 hz2 rfl (by decide) _ k (ys.map (Value.int .u8)) rfl (hown1.alloc _) ⟨w1.heap.size, 0, none⟩ 1 1 [.int .u8 r] rfl rfl ?c1 ?c2 ?c3 ?c4 ?c5 ?_)
      case c1 =>
        intro j u hj
        match j, hj with
        | 0, hj => simp at hj; subst hj; simp [Addr.add]
      case c2 => intro u hu; simp at hu; subst hu; rfl
      case c3 => unfold maxLen; omega
      case c4 => omega
      case c5 => simp; omega
      · intro v' w2 hown2 hgrow _
        have nA : But s w (w1.alloc (.cells #[.int .u8 r] 5)) := N1.trans (But.ofBelow ((Below.refl _ _).alloc (Nat.le_refl _) _))
        have N2 := nA.grown hgrow (fun i hi => (hob i hi).1)
        have S2 : Src w2 s a xs.length c (t + ((k + 1 : Nat) : Int)) := by
          have := (S1.up ((Below.refl _ _).alloc (Nat.le_refl _) (.cells #[.int .u8 r] 5))).of_block (hgrow.block s (by simp; omega) (fun e => by have := (hob s e.symm).1; omega))
          rw [show t + ((k + 1 : Nat) : Int) = t + (k : Int) + 1 by omega]
          exact this
        have hown3 : w2.ownsRow w.heap.size 5 1 v' (k + 1) ((ys ++ [r]).map (Value.int .u8)) := by simpa using hown2
        have hl3 : Hid ((ys ++ [r]).length = k + 1) := by show _ = _; have := hyl.out; simp; omega
        have hb3 := byt_snoc hyb r r0 r1
        clear hown1 hown2 hgrow N1 S1 nA hob
        go_wp2
        go_roundw
        case rel => exact ⟨k + 1, ys ++ [r], by omega, by go_num, hl3, hb3, hown3, S2, N2⟩
        case measure => simp [intOf]; omega
    · obtain rfl : k = n := by omega
      have hown' := hown
      rw [← hyl.out] at hown'
      obtain ⟨a', c', g', hv, o1, o2, o3, o4⟩ := Own.of_ownsRow hown'
      subst hv
      clear hown hown'
      go_wp2
      go_ret
      exact ⟨ys, hyl.out, hyb, ⟨_, _, g', rfl, o1, o2, o3, o4⟩, hS, hN⟩

theorem But.setCell {g b off : Nat} {a w : World} {u : Value} (h : But g a w) (hb : a.heap.size ≤ b) : But g a (w.setCell ⟨b, off, none⟩ u) :=
  ⟨h.os, h.tape, h.output, by simpa [World.setCell] using h.size, fun k hk hne => (heap_setCell_other w ⟨b, off, none⟩ k u (by show k ≠ b; omega)).trans (h.block k hk hne)⟩

set_option maxHeartbeats 400000 in
theorem l1Source_any (w : World) (a : Option Addr) (n c : Nat) (hn : n ≤ 1048576) :
    Calls Try.prog 43 #[.slice a n c] w fun e w' => e = .returned (.pointer (some ⟨w.heap.size, 0, none⟩)) ∧ Src w' w.heap.size a n c 0 ∧ Below w.heap.size w w' := by
  by_cases h : 12 < (n : Int) / 16
  · have t1 : decide (12 < (n : Int) / 16) = true := by simp; omega
    go_enter Try.func43, Try.ntmps43
    go_wp2
    go_ret
    exact ⟨rfl, ⟨by simp [World.cell?_alloc_at], by simp [World.cell?_alloc_at], by simp [World.frozen?_alloc_at]⟩, (Below.refl _ _).alloc (Nat.le_refl _) _⟩
  · have t1 : decide (12 < (n : Int) / 16) = false := by simp; omega
    go_enter Try.func43, Try.ntmps43
    go_wp2
    go_ret
    exact ⟨rfl, ⟨by simp [World.cell?_alloc_at], by simp [World.cell?_alloc_at], by simp [World.frozen?_alloc_at]⟩, (Below.refl _ _).alloc (Nat.le_refl _) _⟩

set_option maxHeartbeats 400000 in
theorem l1Chance_any (w : World) (s g : Nat) (a : Option Addr) (c : Nat) (xs : List Int) (t n : Int) (hs : Src w s a xs.length c t) (hr : Rd w g a .u8 xs) (hne : 0 < xs.length → g ≠ s) (hb : Byt xs) (hl : xs.length ≤ 1048576)
    (t0 : 0 ≤ t) (t1 : t ≤ 1048576) (n0 : 1 ≤ n) (n1 : n ≤ 1048576) :
    Calls Try.prog 70 #[.pointer (some ⟨s, 0, none⟩), .int .i64 n] w fun e w' => ∃ b, e = .returned (.bool b) ∧ Src w' s a xs.length c (t + 1) ∧ Only s w w' := by
  go_enter Try.func70, Try.ntmps70
  go_wp2_with fail
  refine (l1Next_any w s g a c xs t n hs hr hne hb hl t0 t1 n0 n1).mono ?_
  rintro e w1 ⟨r, rfl, _, S1, O1⟩
  go_wp2
  go_ret
  exact ⟨_, rfl, S1, O1⟩

/-- A row that the call made: where it lies, and that it may be read again. -/
def Row (w : World) (g : Nat) (a : Option Addr) (c : Nat) (xs : List Int) : Prop := Own w g a .u8 xs ∧ (a = none → c = 0) ∧ xs.length ≤ c

end Go.Proofs.Ythfbchkonklmkaa

/-
  Texts held against each other: cut out of DrS and Sa16.
-/
namespace Go.Proofs.Ythfbchkonklmkaa
open Go.RowKit

theorem str_data : ∀ (xs : List Int) (acc : ByteArray), (xs.foldl (fun r n => r.push (UInt8.ofNat n.toNat)) acc).data = acc.data ++ (xs.map (fun n => UInt8.ofNat n.toNat)).toArray
  | [], acc => by simp
  | x :: r, acc => by
    rw [List.foldl_cons, str_data r]
    simp [ByteArray.push]

theorem toList_inj {s t : ByteArray} (h : s.toList = t.toList) : s = t := by
  rw [ByteArray.toList_eq, ByteArray.toList_eq] at h
  have := Array.ext' h
  cases s; cases t; simp_all

theorem str_inj {xs ys : List Int} (hx : Byt xs) (hy : Byt ys) (h : str xs = str ys) : xs = ys := by
  have h1 : (xs.map (fun n => UInt8.ofNat n.toNat)) = (ys.map (fun n => UInt8.ofNat n.toNat)) := by
    have := congrArg ByteArray.data h
    unfold str at this
    rw [str_data, str_data] at this
    simpa using this
  have hl : xs.length = ys.length := by have := congrArg List.length h1; simpa using this
  refine eq_of_getD hl (fun i hi => ?_)
  have h2 : (xs.map (fun n => UInt8.ofNat n.toNat))[i]? = (ys.map (fun n => UInt8.ofNat n.toNat))[i]? := by rw [h1]
  have a := hx i
  have b := hy i
  have hi' : i < ys.length := by omega
  simp [hi, hi'] at h2 a b ⊢
  have h3 := congrArg UInt8.toNat h2
  simp at h3
  omega

set_option maxHeartbeats 1000000 in
theorem lwSame_diff (w : World) (g g' : Nat) (a b : Option Addr) (ca cb : Nat) (xs ys : List Int) (ha : Rd w g a .u8 xs) (hb : Rd w g' b .u8 ys) (hx : Byt xs) (hy : Byt ys) (hne : xs ≠ ys) :
    Calls Try.prog 23 #[.slice a xs.length ca, .slice b ys.length cb] w fun e w' => e = .returned (.bool false) ∧ w' = w := by
  have h1 := conv_run w g a ca xs ha
  have h2 := conv_run w g' b cb ys hb
  have h3 : str xs ≠ str ys := fun h => hne (str_inj hx hy h)
  clear hne
  generalize str xs = s at *
  generalize str ys = t at *
  have H3 := hide h3
  clear h3
  go_enter Try.func23, Try.ntmps23
  go_wp2
  go_ret
  have e : (s.toList == t.toList) = false := by
    cases h : (s.toList == t.toList)
    · rfl
    · exact absurd (toList_inj (beq_iff_eq.1 h)) H3.out
  exact ⟨by rw [← e]; rfl, rfl⟩

set_option maxHeartbeats 400000 in
theorem l1Same_same (w : World) (g g' : Nat) (a b : Option Addr) (ca cb : Nat) (xs : List Int) (ha : Rd w g a .u8 xs) (hb : Rd w g' b .u8 xs) :
    Calls Try.prog 42 #[.slice a xs.length ca, .slice b xs.length cb] w fun e w' => e = .returned (.bool true) ∧ w' = w := by
  have h1 := conv_run w g a ca xs ha
  have h2 := conv_run w g' b cb xs hb
  generalize str xs = s at *
  go_enter Try.func42, Try.ntmps42
  go_wp2
  go_ret
  exact ⟨by simp, rfl⟩

set_option maxHeartbeats 1000000 in
theorem l1Same_diff (w : World) (g g' : Nat) (a b : Option Addr) (ca cb : Nat) (xs ys : List Int) (ha : Rd w g a .u8 xs) (hb : Rd w g' b .u8 ys) (hx : Byt xs) (hy : Byt ys) (hne : xs ≠ ys) :
    Calls Try.prog 42 #[.slice a xs.length ca, .slice b ys.length cb] w fun e w' => e = .returned (.bool false) ∧ w' = w := by
  have h1 := conv_run w g a ca xs ha
  have h2 := conv_run w g' b cb ys hb
  have h3 : str xs ≠ str ys := fun h => hne (str_inj hx hy h)
  clear hne
  generalize str xs = s at *
  generalize str ys = t at *
  have H3 := hide h3
  clear h3
  go_enter Try.func42, Try.ntmps42
  go_wp2
  go_ret
  have e : (s.toList == t.toList) = false := by
    cases h : (s.toList == t.toList)
    · rfl
    · exact absurd (toList_inj (beq_iff_eq.1 h)) H3.out
  exact ⟨by rw [← e]; rfl, rfl⟩

theorem l1Same_any (w : World) (g g' : Nat) (a b : Option Addr) (ca cb : Nat) (xs ys : List Int) (ha : Rd w g a .u8 xs) (hb : Rd w g' b .u8 ys) (hx : Byt xs) (hy : Byt ys) :
    Calls Try.prog 42 #[.slice a xs.length ca, .slice b ys.length cb] w fun e w' => e = .returned (.bool (decide (xs = ys))) ∧ w' = w := by
  by_cases h : xs = ys
  · subst h
    simpa using l1Same_same w g g' a b ca cb xs ha hb
  · have := l1Same_diff w g g' a b ca cb xs ys ha hb hx hy h
    simpa [h] using this

end Go.Proofs.Ythfbchkonklmkaa

/-
  The model's Open (written by gens/pzg.py).
-/
namespace Go.Proofs.Ythfbchkonklmkaa
open Go Go.RowKit

theorem opT_opS (sd : List Int) : opT sd ++ opS sd = sd := List.take_append_drop _ _
theorem seal_back {key non ex sd : List Int} (hk : fitK key non = true) (db : Byt sd) : decide (seA key non ex (xt key non (opT sd)) = sd) = decide (ssB (nsW key non) ex (opT sd) = opS sd) := by
  have h : seA key non ex (xt key non (opT sd)) = opT sd ++ ssB (nsW key non) ex (opT sd) := by
    unfold seA
    rw [if_pos hk, xt_xt key non (show Byt (opT sd) from byt_take db _)]
  rw [h]
  by_cases e : ssB (nsW key non) ex (opT sd) = opS sd
  · rw [decide_eq_true e, e, opT_opS]; simp
  · rw [decide_eq_false e]
    refine decide_eq_false fun k => e ?_
    have k2 : opT sd ++ ssB (nsW key non) ex (opT sd) = opT sd ++ opS sd := k.trans (opT_opS sd).symm
    exact List.append_cancel_left k2
set_option maxRecDepth 100000 in
set_option maxHeartbeats 16000000 in
theorem specOpen_any (w : World) (g : Nat) (a : Option Addr) (c : Nat) (key : List Int) (hr : Rd w g a .u8 key) (hb : Byt key) (hc : key.length ≤ c) (g' : Nat) (a' : Option Addr) (c' : Nat) (non : List Int) (hr' : Rd w g' a' .u8 non) (hb' : Byt non) (hc' : non.length ≤ c')
    (ge : Nat) (ae : Option Addr) (ce : Nat) (ex : List Int) (he : Rd w ge ae .u8 ex) (eb : Byt ex) (en : ae = none → ce = 0)
    (g2 : Nat) (a2 : Option Addr) (c2 : Nat) (sd : List Int) (hr2 : Rd w g2 a2 .u8 sd) (db : Byt sd) (dc : sd.length ≤ c2) (hs : ex.length + sd.length ≤ 4000000) :
    Calls Try.prog 15 #[.slice a key.length c, .slice a' non.length c', .slice ae ex.length ce, .slice a2 sd.length c2] w fun e w' => NewO w.heap.size w' e (opB key non ex sd) (opL key non ex sd) ∧ Below w.heap.size w w' := by
  have n0 : Below w.heap.size w (w.alloc (.cells #[.bool false, .slice none 0 0] 30)) := (Below.refl _ _).alloc (Nat.le_refl _) _
  have H0 : (w.alloc (.cells #[.bool false, .slice none 0 0] 30)).heap[w.heap.size]? = some (.cells #[.bool false, .slice none 0 0] 30 (0, 0)) := heap_alloc_last w _
  have FT := fun W => hide (fits_any W a a' c c' key non 0)
  by_cases h1 : fitK key non = true
  · simp only [fit0 h1] at FT
    by_cases h16 : 16 ≤ sd.length
    · have OB : Hid (opB key non ex sd = decide (ssB (nsW key non) ex (opT sd) = opS sd)) := by show _ = _; unfold opB; rw [h1, decide_eq_true h16]; rfl
      have OLt : Hid (opL key non ex sd = if decide (ssB (nsW key non) ex (opT sd) = opS sd) = true then xt key non (opT sd) else []) := by show _ = _; unfold opL; rw [OB.out]
      rw [OLt.out, OB.out, ← seal_back h1 db]
      have TL : Hid ((opT sd).length = sd.length - 16) := by show _ = _; unfold opT; rw [List.length_take]; omega
      have RT : Rd w g2 a2 .u8 (opT sd) := hr2.take _
      have TB : Byt (opT sd) := byt_take db _
      have XS := fun W (n : Below w.heap.size w W) => hide (specXorR_core W g a c key (hr.up n) hb hc 1 (by omega) (by omega) g' a' c' non (hr'.up n) hb' hc' g2 a2 c2 (opT sd) (RT.up n) (by rw [TL.out]; omega) (fit1 h1) (by rw [TL.out]; omega))
      have XT : Hid (fill (sxF key 1 non (opT sd)) (opT sd).length = xt key non (opT sd)) := (sx_fill key 1 non (opT sd)).symm
      simp only [XT.out] at XS
      simp only [TL.out] at XS
      have XB := hide (xt_byt key non TB)
      have XL : Hid ((xt key non (opT sd)).length = sd.length - 16) := by show _ = _; rw [xt_len]; exact TL.out
      generalize xt key non (opT sd) = T at *
      have SE := fun W (n : Below w.heap.size w W) g3 a3 c3 (h : Rd W g3 a3 .u8 T) => hide (specSeal_any W g a c key (hr.up n) hb hc g' a' c' non (hr'.up n) hb' hc' ge ae ce ex (he.up n) eb en g3 a3 c3 T h XB.out (by rw [XL.out]; omega))
      have MB := hide (seA_byt (key := key) (non := non) (ex := ex) XB.out)
      have DB := hide db
      generalize seA key non ex T = M at *
      obtain ⟨ob, hob⟩ : ∃ b, b = decide (M = sd) := ⟨_, rfl⟩
      rw [← hob]
      obtain ⟨ol, hol⟩ : ∃ l, l = if ob = true then T else [] := ⟨_, rfl⟩
      rw [← hol]
      have HOB := hide hob
      have HOL := hide hol
      have n16 : ¬ (sd.length : Int) < 16 := by omega
      have m16 : (sd.length : Int) - 16 = ((sd.length - 16 : Nat) : Int) := by omega
      have mle : ((sd.length - 16 : Nat) : Int) ≤ (c2 : Int) := by omega
      have big : (sd.length : Int) ≤ 4000000 := by omega
      have HR2 := hide hr2
      clear hob hol OB OLt XT TB RT hr2 db dc hs h1 XB XL h16
      generalize sd.length - 16 = m at *
      go_enter Try.func15, Try.ntmps15
      go_upto_region 1 with fail
      generalize w.alloc (.cells #[.bool false, .slice none 0 0] 30) = w1 at *
      go_wp2_with fail
      refine (FT w1).out.mono ?_
      rintro e w2 ⟨rfl, h⟩
      have h := h.symm
      subst h
      go_wp2_with fail
      refine (XS w1 n0).out.mono ?_
      rintro e w3 ⟨⟨v3, rfl, R3⟩, n3⟩
      obtain ⟨a3, c3, g3, rfl, o3, p3, q3, r3⟩ := R3.own
      have l1 := (Array.getElem?_eq_some_iff.1 H0).1
      have H3 := (n3.block w.heap.size l1).trans H0
      have N3 := nxt n0 n3
      have SE3 := SE w3 N3 g3 a3 c3 o3.rd
      have s0 := n0.size
      clear FT XS R3 n3 H0 SE
      go_wp2_with fail
      refine SE3.out.mono ?_
      rintro e w4 ⟨⟨v4, rfl, R4⟩, n4⟩
      obtain ⟨a4, c4, g4, rfl, o4, -, -, -⟩ := R4.own
      have l3 := (Array.getElem?_eq_some_iff.1 H3).1
      have H4 := (n4.block w.heap.size l3).trans H3
      have N4 := nxt N3 n4
      have o3' := o3.up n4
      have SA := hide (l1Same_any w4 g4 g2 a4 a2 c4 c2 M sd o4.rd (HR2.out.up N4) MB.out DB.out)
      rw [← HOB.out] at SA
      clear SE3 R4 n4 H3 o3 o4 HOB HR2 MB DB
      go_wp2_with fail
      refine SA.out.mono ?_
      rintro e w5 ⟨rfl, h⟩
      have h := h.symm
      subst h
      obtain ⟨c80, c81, f80, f81⟩ := blk_two H4
      clear SA H4
      cases ob with
      | true =>
        have EL : Hid (ol = T) := by show _ = _; rw [HOL.out, if_pos rfl]
        have O1 := (Only.setCell w4 w.heap.size 0 (.bool true)).trans (Only.setCell _ w.heap.size 1 (.slice a3 T.length c3))
        have o10 := o3'.only O1 (fun _ => by omega)
        have N10 := N4.trans (O1.below (Nat.le_refl _))
        clear HOL O1
        go_wp2
        exact bodyPost_ret (v := .agg #[.bool true, .slice a3 T.length c3]) (by simp [results, Try.results15, go_sem, c80, c81]) rfl ⟨by rw [EL.out]; exact ⟨a3, c3, g3, rfl, o10, p3, q3, by omega⟩, N10⟩
      | false =>
        have EL : Hid (ol = []) := by show _ = _; rw [HOL.out, if_neg (by decide)]
        have O1 := (Only.setCell w4 w.heap.size 0 (.bool false)).trans (Only.setCell _ w.heap.size 1 (.slice none 0 0))
        have N10 := N4.trans (O1.below (Nat.le_refl _))
        clear HOL O1
        go_wp2
        exact bodyPost_ret (v := .agg #[.bool false, .slice none 0 0]) (by simp [results, Try.results15, go_sem, c80, c81]) rfl ⟨by rw [EL.out]; exact newO_bad _ _, N10⟩
    · have OB : Hid (opB key non ex sd = false) := by show _ = _; unfold opB; rw [decide_eq_false h16]; simp
      have OLt : Hid (opL key non ex sd = []) := by show _ = _; unfold opL; rw [if_neg (by rw [OB.out]; decide)]
      rw [OLt.out, OB.out]
      have lt : (sd.length : Int) < 16 := by omega
      clear OB OLt
      go_enter Try.func15, Try.ntmps15
      go_upto_region 1 with fail
      generalize w.alloc (.cells #[.bool false, .slice none 0 0] 30) = w1 at *
      go_wp2_with fail
      refine (FT w1).out.mono ?_
      rintro e w2 ⟨rfl, h⟩
      have h := h.symm
      subst h
      obtain ⟨c10, c11, f10, f11⟩ := blk_two H0
      have O1 := (Only.setCell w1 w.heap.size 0 (.bool false)).trans (Only.setCell _ w.heap.size 1 (.slice none 0 0))
      have N10 := n0.trans (O1.below (Nat.le_refl _))
      clear FT O1
      go_wp2
      exact bodyPost_ret (v := .agg #[.bool false, .slice none 0 0]) (by simp [results, Try.results15, go_sem, c10, c11]) rfl ⟨newO_bad _ _, N10⟩
  · have h1' : fitK key non = false := by simpa using h1
    simp only [fit0' h1'] at FT
    have OB : Hid (opB key non ex sd = false) := by show _ = _; unfold opB; rw [h1']; rfl
    have OLt : Hid (opL key non ex sd = []) := by show _ = _; unfold opL; rw [if_neg (by rw [OB.out]; decide)]
    rw [OLt.out, OB.out]
    clear OB OLt h1 h1'
    go_enter Try.func15, Try.ntmps15
    go_upto_region 1 with fail
    generalize w.alloc (.cells #[.bool false, .slice none 0 0] 30) = w1 at *
    go_wp2_with fail
    refine (FT w1).out.mono ?_
    rintro e w2 ⟨rfl, h⟩
    have h := h.symm
    subst h
    obtain ⟨c10, c11, f10, f11⟩ := blk_two H0
    have O1 := (Only.setCell w1 w.heap.size 0 (.bool false)).trans (Only.setCell _ w.heap.size 1 (.slice none 0 0))
    have N10 := n0.trans (O1.below (Nat.le_refl _))
    clear FT O1
    go_wp2
    exact bodyPost_ret (v := .agg #[.bool false, .slice none 0 0]) (by simp [results, Try.results15, go_sem, c10, c11]) rfl ⟨newO_bad _ _, N10⟩
end Go.Proofs.Ythfbchkonklmkaa

/-
  What is drawn for the cipher: keys, nonces, counters, texts; DrawStreamXor (written by gens/dr8.py).
-/
namespace Go.Proofs.Ythfbchkonklmkaa
open Go.RowKit

set_option maxHeartbeats 2000000 in
theorem l8DrawKey_any (w : World) (s g : Nat) (a : Option Addr) (c : Nat) (xs : List Int) (t : Int) (hs : Src w s a xs.length c t) (hr : Rd w g a .u8 xs) (hne : 0 < xs.length → g ≠ s) (hb : Byt xs) (hl : xs.length ≤ 1048576)
    (t0 : 0 ≤ t) (t1 : t ≤ 100000) :
    Calls Try.prog 44 #[.pointer (some ⟨s, 0, none⟩)] w fun e w' => ∃ (ys : List Int) (t' : Int), ys.length ≤ 40 ∧ Byt ys ∧ NewRow w.heap.size w' e .u8 ys ∧ t ≤ t' ∧ t' ≤ t + 300 ∧ Src w' s a xs.length c t' ∧ But s w w' := by
  have NX := fun W t n h1 h2 => l1Next_any W s g a c xs t n h1 h2 hne hb hl
  have CH := fun W t n h1 h2 => l1Chance_any W s g a c xs t n h1 h2 hne hb hl
  have DB := fun W t n h1 h2 => l1DrawBytes_any W s g a c xs t n h1 h2 hne hb hl
  go_enter Try.func44, Try.ntmps44
  go_wp2_with fail
  refine (CH w t 25 hs hr t0 (by omega) (by decide) (by decide)).mono ?_
  rintro e w1 ⟨b, rfl, S1, O1⟩
  have r1 := hr.but (But.ofOnly O1) hne
  have B1 : But s w w1 := But.ofOnly O1
  have z1 := hide O1.size
  cases b with
  | true =>
    go_wp2_with fail
    refine (NX w1 (t + 1) 2 S1 r1 (by omega) (by omega) (by decide) (by decide)).mono ?_
    rintro e w2 ⟨r, rfl, ⟨h0, h1⟩, S2, O2⟩
    obtain ⟨n, hn⟩ := Int.eq_ofNat_of_zero_le (show 0 ≤ 31 + 2 * r by omega)
    have r2 := r1.but (But.ofOnly O2) hne
    have n9 : n < 36 := by omega
    have D := hide (DB w2 (t + 1 + 1) n S2 r2 (by omega) (by omega))
    rw [← hn] at D
    have z2 := hide O2.size
    have HN := hide hn
    clear hn
    go_wp2_with fail
    refine D.out.mono ?_
    rintro e w3 ⟨ys, hy, by', ⟨a3, c3, g3, rfl, o3, p3, q3, r3⟩, S3, B3⟩
    have HY := hide hy
    clear hy D
    go_wp2
    go_ret
    exact ⟨ys, t + 1 + 1 + (n : Int), by rw [HY.out]; omega, by', ⟨a3, c3, g3, rfl, o3, p3, q3, by have := z1.out; have := z2.out; omega⟩, by omega, by omega, by have := HN.out; rw [← this]; exact S3, (B1.only O2).trans B3⟩
  | false =>
    go_wp2_with fail
    refine (DB w1 (t + 1) 32 S1 r1 (by omega) (by omega)).mono ?_
    rintro e w4 ⟨ys, hy, by', ⟨a3, c3, g3, rfl, o3, p3, q3, r3⟩, S4, B4⟩
    have HY := hide hy
    clear hy
    go_wp2
    go_ret
    exact ⟨ys, t + 1 + 32, by rw [HY.out]; omega, by', ⟨a3, c3, g3, rfl, o3, p3, q3, by have := z1.out; omega⟩, by omega, by omega, S4, B1.trans B4⟩
set_option maxHeartbeats 2000000 in
theorem l8DrawNonce_any (w : World) (s g : Nat) (a : Option Addr) (c : Nat) (xs : List Int) (t : Int) (hs : Src w s a xs.length c t) (hr : Rd w g a .u8 xs) (hne : 0 < xs.length → g ≠ s) (hb : Byt xs) (hl : xs.length ≤ 1048576)
    (t0 : 0 ≤ t) (t1 : t ≤ 100000) :
    Calls Try.prog 45 #[.pointer (some ⟨s, 0, none⟩)] w fun e w' => ∃ (ys : List Int) (t' : Int), ys.length ≤ 40 ∧ Byt ys ∧ NewRow w.heap.size w' e .u8 ys ∧ t ≤ t' ∧ t' ≤ t + 300 ∧ Src w' s a xs.length c t' ∧ But s w w' := by
  have NX := fun W t n h1 h2 => l1Next_any W s g a c xs t n h1 h2 hne hb hl
  have CH := fun W t n h1 h2 => l1Chance_any W s g a c xs t n h1 h2 hne hb hl
  have DB := fun W t n h1 h2 => l1DrawBytes_any W s g a c xs t n h1 h2 hne hb hl
  go_enter Try.func45, Try.ntmps45
  go_wp2_with fail
  refine (CH w t 25 hs hr t0 (by omega) (by decide) (by decide)).mono ?_
  rintro e w1 ⟨b, rfl, S1, O1⟩
  have r1 := hr.but (But.ofOnly O1) hne
  have B1 : But s w w1 := But.ofOnly O1
  have z1 := hide O1.size
  cases b with
  | true =>
    go_wp2_with fail
    refine (NX w1 (t + 1) 2 S1 r1 (by omega) (by omega) (by decide) (by decide)).mono ?_
    rintro e w2 ⟨r, rfl, ⟨h0, h1⟩, S2, O2⟩
    obtain ⟨n, hn⟩ := Int.eq_ofNat_of_zero_le (show 0 ≤ 11 + 2 * r by omega)
    have r2 := r1.but (But.ofOnly O2) hne
    have n9 : n < 36 := by omega
    have D := hide (DB w2 (t + 1 + 1) n S2 r2 (by omega) (by omega))
    rw [← hn] at D
    have z2 := hide O2.size
    have HN := hide hn
    clear hn
    go_wp2_with fail
    refine D.out.mono ?_
    rintro e w3 ⟨ys, hy, by', ⟨a3, c3, g3, rfl, o3, p3, q3, r3⟩, S3, B3⟩
    have HY := hide hy
    clear hy D
    go_wp2
    go_ret
    exact ⟨ys, t + 1 + 1 + (n : Int), by rw [HY.out]; omega, by', ⟨a3, c3, g3, rfl, o3, p3, q3, by have := z1.out; have := z2.out; omega⟩, by omega, by omega, by have := HN.out; rw [← this]; exact S3, (B1.only O2).trans B3⟩
  | false =>
    go_wp2_with fail
    refine (DB w1 (t + 1) 12 S1 r1 (by omega) (by omega)).mono ?_
    rintro e w4 ⟨ys, hy, by', ⟨a3, c3, g3, rfl, o3, p3, q3, r3⟩, S4, B4⟩
    have HY := hide hy
    clear hy
    go_wp2
    go_ret
    exact ⟨ys, t + 1 + 12, by rw [HY.out]; omega, by', ⟨a3, c3, g3, rfl, o3, p3, q3, by have := z1.out; omega⟩, by omega, by omega, S4, B1.trans B4⟩
set_option maxHeartbeats 4000000 in
theorem l8DrawText_any (w : World) (s g : Nat) (a : Option Addr) (c : Nat) (xs : List Int) (t : Int) (hs : Src w s a xs.length c t) (hr : Rd w g a .u8 xs) (hne : 0 < xs.length → g ≠ s) (hb : Byt xs) (hl : xs.length ≤ 1048576)
    (t0 : 0 ≤ t) (t1 : t ≤ 100000) :
    Calls Try.prog 48 #[.pointer (some ⟨s, 0, none⟩)] w fun e w' => ∃ (ys : List Int) (t' : Int), ys.length ≤ 5300 ∧ Byt ys ∧ NewRow w.heap.size w' e .u8 ys ∧ t ≤ t' ∧ t' ≤ t + 5400 ∧ Src w' s a xs.length c t' ∧ But s w w' := by
  have NX := fun W t n h1 h2 => l1Next_any W s g a c xs t n h1 h2 hne hb hl
  have DB := fun W t n h1 h2 => l1DrawBytes_any W s g a c xs t n h1 h2 hne hb hl
  go_enter Try.func48, Try.ntmps48
  go_wp2_with fail
  refine (NX w t 4 hs hr t0 (by omega) (by decide) (by decide)).mono ?_
  rintro e w1 ⟨k, rfl, ⟨k0, k1⟩, S1, O1⟩
  have r1 := hr.but (But.ofOnly O1) hne
  have B1 : But s w w1 := But.ofOnly O1
  have z1 := hide O1.size
  by_cases c0 : k = 0
  · subst c0
    go_wp2_with fail
    refine (NX w1 (t + 1) 20 S1 r1 (by omega) (by omega) (by decide) (by decide)).mono ?_
    rintro e w8 ⟨rr, rfl, ⟨h0, h1⟩, S8, O8⟩
    obtain ⟨n, hn⟩ := Int.eq_ofNat_of_zero_le (show 0 ≤ 16 * rr by omega)
    have r8 := r1.but (But.ofOnly O8) hne
    have n9 : n ≤ 5300 := by omega
    have D := hide (DB w8 (t + 1 + 1) n S8 r8 (by omega) (by omega))
    rw [← hn] at D
    have z8 := hide O8.size
    have HN := hide hn
    clear hn
    go_wp2_with fail
    refine D.out.mono ?_
    rintro e w9 ⟨ys, hy, by', ⟨a3, c3, g3, rfl, o3, p3, q3, r3⟩, S9, B9⟩
    have HY := hide hy
    clear hy D
    go_wp2
    go_ret
    exact ⟨ys, t + 1 + 1 + (n : Int), by rw [HY.out]; omega, by', ⟨a3, c3, g3, rfl, o3, p3, q3, by have := z8.out; have := z1.out; omega⟩, by omega, by omega, by have := HN.out; rw [← this]; exact S9, (B1.only O8).trans B9⟩
  · have d0 : decide (k = 0) = false := by simpa using c0
    by_cases c1 : k = 1
    · subst c1
      go_wp2_with fail
      refine (NX w1 (t + 1) 10 S1 r1 (by omega) (by omega) (by decide) (by decide)).mono ?_
      rintro e w8 ⟨rr, rfl, ⟨h0, h1⟩, S8, O8⟩
      obtain ⟨n, hn⟩ := Int.eq_ofNat_of_zero_le (show 0 ≤ 60 + rr by omega)
      have r8 := r1.but (But.ofOnly O8) hne
      have n9 : n ≤ 5300 := by omega
      have D := hide (DB w8 (t + 1 + 1) n S8 r8 (by omega) (by omega))
      rw [← hn] at D
      have z8 := hide O8.size
      have HN := hide hn
      clear hn
      go_wp2_with fail
      refine D.out.mono ?_
      rintro e w9 ⟨ys, hy, by', ⟨a3, c3, g3, rfl, o3, p3, q3, r3⟩, S9, B9⟩
      have HY := hide hy
      clear hy D
      go_wp2
      go_ret
      exact ⟨ys, t + 1 + 1 + (n : Int), by rw [HY.out]; omega, by', ⟨a3, c3, g3, rfl, o3, p3, q3, by have := z8.out; have := z1.out; omega⟩, by omega, by omega, by have := HN.out; rw [← this]; exact S9, (B1.only O8).trans B9⟩
    · have d1 : decide (k = 1) = false := by simpa using c1
      by_cases c2 : k = 2
      · subst c2
        go_wp2_with fail
        refine (NX w1 (t + 1) 9 S1 r1 (by omega) (by omega) (by decide) (by decide)).mono ?_
        rintro e w2 ⟨q, rfl, ⟨q0, q1⟩, S2, O2⟩
        have r2 := r1.but (But.ofOnly O2) hne
        have B2 := B1.only O2
        have z2 := hide O2.size
        by_cases c4 : q = 4
        · subst c4
          go_wp2_with fail
          refine (NX w2 (t + 1 + 1) 1200 S2 r2 (by omega) (by omega) (by decide) (by decide)).mono ?_
          rintro e w8 ⟨rr, rfl, ⟨h0, h1⟩, S8, O8⟩
          obtain ⟨n, hn⟩ := Int.eq_ofNat_of_zero_le (show 0 ≤ 4000 + rr by omega)
          have r8 := r2.but (But.ofOnly O8) hne
          have n9 : n ≤ 5300 := by omega
          have D := hide (DB w8 (t + 1 + 1 + 1) n S8 r8 (by omega) (by omega))
          rw [← hn] at D
          have z8 := hide O8.size
          have HN := hide hn
          clear hn
          go_wp2_with fail
          refine D.out.mono ?_
          rintro e w9 ⟨ys, hy, by', ⟨a3, c3, g3, rfl, o3, p3, q3, r3⟩, S9, B9⟩
          have HY := hide hy
          clear hy D
          go_wp2
          go_ret
          exact ⟨ys, t + 1 + 1 + 1 + (n : Int), by rw [HY.out]; omega, by', ⟨a3, c3, g3, rfl, o3, p3, q3, by have := z8.out; have := z1.out; have := z2.out; omega⟩, by omega, by omega, by have := HN.out; rw [← this]; exact S9, (B2.only O8).trans B9⟩
        · have d4 : decide (q = 4) = false := by simpa using c4
          go_wp2_with fail
          refine (NX w2 (t + 1 + 1) 300 S2 r2 (by omega) (by omega) (by decide) (by decide)).mono ?_
          rintro e w8 ⟨rr, rfl, ⟨h0, h1⟩, S8, O8⟩
          obtain ⟨n, hn⟩ := Int.eq_ofNat_of_zero_le (show 0 ≤ rr by omega)
          have r8 := r2.but (But.ofOnly O8) hne
          have n9 : n ≤ 5300 := by omega
          have D := hide (DB w8 (t + 1 + 1 + 1) n S8 r8 (by omega) (by omega))
          rw [← hn] at D
          have z8 := hide O8.size
          have HN := hide hn
          clear hn
          go_wp2_with fail
          refine D.out.mono ?_
          rintro e w9 ⟨ys, hy, by', ⟨a3, c3, g3, rfl, o3, p3, q3, r3⟩, S9, B9⟩
          have HY := hide hy
          clear hy D
          go_wp2
          go_ret
          exact ⟨ys, t + 1 + 1 + 1 + (n : Int), by rw [HY.out]; omega, by', ⟨a3, c3, g3, rfl, o3, p3, q3, by have := z8.out; have := z1.out; have := z2.out; omega⟩, by omega, by omega, by have := HN.out; rw [← this]; exact S9, (B2.only O8).trans B9⟩
      · have d2 : decide (k = 2) = false := by simpa using c2
        go_wp2_with fail
        refine (NX w1 (t + 1) 300 S1 r1 (by omega) (by omega) (by decide) (by decide)).mono ?_
        rintro e w8 ⟨rr, rfl, ⟨h0, h1⟩, S8, O8⟩
        obtain ⟨n, hn⟩ := Int.eq_ofNat_of_zero_le (show 0 ≤ rr by omega)
        have r8 := r1.but (But.ofOnly O8) hne
        have n9 : n ≤ 5300 := by omega
        have D := hide (DB w8 (t + 1 + 1) n S8 r8 (by omega) (by omega))
        rw [← hn] at D
        have z8 := hide O8.size
        have HN := hide hn
        clear hn
        go_wp2_with fail
        refine D.out.mono ?_
        rintro e w9 ⟨ys, hy, by', ⟨a3, c3, g3, rfl, o3, p3, q3, r3⟩, S9, B9⟩
        have HY := hide hy
        clear hy D
        go_wp2
        go_ret
        exact ⟨ys, t + 1 + 1 + (n : Int), by rw [HY.out]; omega, by', ⟨a3, c3, g3, rfl, o3, p3, q3, by have := z8.out; have := z1.out; omega⟩, by omega, by omega, by have := HN.out; rw [← this]; exact S9, (B1.only O8).trans B9⟩
end Go.Proofs.Ythfbchkonklmkaa

/-
  Drawn bytes that may be appended to: cut out of DrQ.
-/
namespace Go.Proofs.Ythfbchkonklmkaa
open Go.RowKit

set_option maxHeartbeats 2000000 in
theorem l1DrawBytesR_any (w : World) (s g : Nat) (a : Option Addr) (c : Nat) (xs : List Int) (t : Int) (n : Nat) (hs : Src w s a xs.length c t) (hr : Rd w g a .u8 xs) (hne : 0 < xs.length → g ≠ s) (hb : Byt xs) (hl : xs.length ≤ 1048576)
    (t0 : 0 ≤ t) (t1 : t + (n : Int) ≤ 1048576) :
    Calls Try.prog 46 #[.pointer (some ⟨s, 0, none⟩), .int .i64 n] w fun e w' => ∃ ys, ys.length = n ∧ Byt ys ∧ (∃ v, e = .returned v ∧ RowB w' w.heap.size v ys) ∧ Src w' s a xs.length c (t + (n : Int)) ∧ But s w w' := by
  obtain ⟨i0, hi, hz0, hz1, hz2⟩ := info_parts Try.info5
  have hown0 : (w.alloc (.cells #[] 5)).ownsRow w.heap.size 5 1 (.slice (some ⟨w.heap.size, 0, none⟩) 0 0) 0 [] := World.ownsRow_lit w #[] 0 (Nat.le_refl _) (by unfold maxLen; omega) (by simp)
  have hal : Below w.heap.size w (w.alloc (.cells #[] 5)) := (Below.refl _ _).alloc (Nat.le_refl _) _
  have hsl := hs.lt
  go_enter Try.func46, Try.ntmps46
  go_wp2
  go_loopw [5, 6] (fun v i wr => ∃ (k : Nat) (ys : List Int), k ≤ n ∧ i = .int .i64 k ∧ Hid (ys.length = k) ∧ Byt ys ∧ wr.ownsRow w.heap.size 5 1 v k (ys.map (Value.int .u8)) ∧ Src wr s a xs.length c (t + (k : Int)) ∧ But s w wr) (fun _ i _ => n - (intOf i).toNat)
  case atStart => exact ⟨0, [], Nat.zero_le _, rfl, rfl, byt_nil, hown0, by simpa using hs.up hal, But.ofBelow hal⟩
  case round =>
    obtain ⟨k, ys, hk, rfl, hyl, hyb, hown, hS, hN⟩ := hrel
    have hr' := hr.but hN hne
    by_cases hlt : k < n
    · have hob := hown.lt
      go_wp2_with fail
      refine (l1Next_any wr s g a c xs (t + (k : Int)) 256 hS hr' hne hb hl (by omega) (by omega) (by decide) (by decide)).mono ?_
      rintro e w1 ⟨r, rfl, ⟨r0, r1⟩, S1, O1⟩
      have N1 := hN.only O1
      have hown1 := hown.kept O1.grown (by
        cases hv : Value.ownBlock _ with
        | none => exact .inl rfl
        | some q => exact .inr (fun e => by have := (hob q hv).1; simp at e; omega))
      have m1 : r % 256 = r := by omega
      have sz := N1.size
      clear hown hS hN O1 hr'
      go_wp2_with (at_builtin; refine wpList_append_own _ rfl _ _ 22 rfl w.heap.size 5 i0 (.int .u8 0) 1 1 Try.underlying22 hi hz0 hz1 hz2 rfl (by decide) _ k (ys.map (Value.int .u8)) rfl (hown1.alloc _) ⟨w1.heap.size, 0, none⟩ 1 1 [.int .u8 r] rfl rfl ?c1 ?c2 ?c3 ?c4 ?c5 ?_)
      case c1 =>
        intro j u hj
        match j, hj with
        | 0, hj => simp at hj; subst hj; simp [Addr.add]
      case c2 => intro u hu; simp at hu; subst hu; rfl
      case c3 => unfold maxLen; omega
      case c4 => omega
      case c5 => simp; omega
      · intro v' w2 hown2 hgrow _
        have nA : But s w (w1.alloc (.cells #[.int .u8 r] 5)) := N1.trans (But.ofBelow ((Below.refl _ _).alloc (Nat.le_refl _) _))
        have N2 := nA.grown hgrow (fun i hi => (hob i hi).1)
        have S2 : Src w2 s a xs.length c (t + ((k + 1 : Nat) : Int)) := by
          have := (S1.up ((Below.refl _ _).alloc (Nat.le_refl _) (.cells #[.int .u8 r] 5))).of_block (hgrow.block s (by simp; omega) (fun e => by have := (hob s e.symm).1; omega))
          rw [show t + ((k + 1 : Nat) : Int) = t + (k : Int) + 1 by omega]
          exact this
        have hown3 : w2.ownsRow w.heap.size 5 1 v' (k + 1) ((ys ++ [r]).map (Value.int .u8)) := by simpa using hown2
        have hl3 : Hid ((ys ++ [r]).length = k + 1) := by show _ = _; have := hyl.out; simp; omega
        have hb3 := byt_snoc hyb r r0 r1
        clear hown1 hown2 hgrow N1 S1 nA hob
        go_wp2
        go_roundw
        case rel => exact ⟨k + 1, ys ++ [r], by omega, by go_num, hl3, hb3, hown3, S2, N2⟩
        case measure => simp [intOf]; omega
    · obtain rfl : k = n := by omega
      have hown' := hown
      rw [← hyl.out] at hown'
      have RB : RowB _ w.heap.size _ ys := hown'
      clear hown hown'
      go_wp2
      go_ret
      exact ⟨ys, hyl.out, hyb, ⟨_, rfl, RB⟩, hS, hN⟩

end Go.Proofs.Ythfbchkonklmkaa

/-
  What FnSealOpen draws (written by gens/dr9.py).
-/
namespace Go.Proofs.Ythfbchkonklmkaa
open Go Go.RowKit

/-- A list that was drawn and may be read. -/
structure DL (w : World) (v : Value) (xs : List Int) (m : Nat) : Prop where
  byt : Byt xs
  len : xs.length ≤ m
  row : ∃ (a : Option Addr) (c g : Nat), v = .slice a xs.length c ∧ Rd w g a .u8 xs ∧ (a = none → c = 0) ∧ xs.length ≤ c
set_option maxHeartbeats 2000000 in
theorem drawSeal_any (w : World) (g : Nat) (a : Option Addr) (c : Nat) (xs : List Int) (hr : Rd w g a .u8 xs) (hb : Byt xs) (hl : xs.length ≤ 1048576) :
    Calls Try.prog 20 #[.slice a xs.length c] w fun e w' => ∃ (ks ns es ds : List Int) (v1 v2 v3 v4 : Value), e = .returned (.tuple #[v1, v2, v3, v4]) ∧ DL w' v1 ks 40 ∧ DL w' v2 ns 40 ∧ DL w' v3 es 50 ∧ DL w' v4 ds 5400 ∧ Below w.heap.size w w' := by
  go_enter Try.func20, Try.ntmps20
  go_wp2_with fail
  refine (l1Source_any w a xs.length c hl).mono ?_
  rintro e w1 ⟨rfl, S1, n1⟩
  have hne : 0 < xs.length → g ≠ w.heap.size := fun h => by have := hr.lt h; omega
  have y1 : w.heap.size < w1.heap.size := S1.lt
  go_wp2_with fail
  refine (l8DrawKey_any w1 w.heap.size g a c xs 0 S1 (hr.up n1) hne hb hl (by omega) (by omega)).mono ?_
  rintro e w2 ⟨ks, t2, kl, kb, ⟨a2, c2, g2, rfl, o2, p2, q2, r2⟩, h0, h1, S2, B2⟩
  have N2 : Below w.heap.size w w2 := n1.trans (B2.below (Nat.le_refl _) n1.size)
  have y2 := B2.size
  go_wp2_with fail
  refine (l8DrawNonce_any w2 w.heap.size g a c xs t2 S2 (hr.up N2) hne hb hl (by omega) (by omega)).mono ?_
  rintro e w3 ⟨ns, t3, nl, nb, ⟨a3, c3, g3, rfl, o3, p3, q3, r3⟩, h2, h3, S3, B3⟩
  have N3 : Below w.heap.size w w3 := N2.trans (B3.below (Nat.le_refl _) N2.size)
  have o2 := o2.but B3 (fun _ => by omega)
  have y3 := B3.size
  go_wp2_with fail
  refine (l1Next_any w3 w.heap.size g a c xs t3 40 S3 (hr.up N3) hne hb hl (by omega) (by omega) (by omega) (by omega)).mono ?_
  rintro e w4 ⟨r4, rfl, ⟨r40, r41⟩, S4, O4⟩
  have N4 : Below w.heap.size w w4 := N3.trans (O4.below (Nat.le_refl _))
  have o2 := o2.but (But.ofOnly O4) (fun _ => by omega)
  have o3 := o3.but (But.ofOnly O4) (fun _ => by omega)
  have y4 := O4.size
  obtain ⟨k4, rfl⟩ := Int.eq_ofNat_of_zero_le r40
  go_wp2_with fail
  refine (l1DrawBytes_any w4 w.heap.size g a c xs (t3 + 1) k4 S4 (hr.up N4) hne hb hl (by omega) (by omega)).mono ?_
  rintro e w5 ⟨es, el, eb, ⟨a5, c5, g5, rfl, o5, p5, q5, r5'⟩, S5, B5'⟩
  have N5 : Below w.heap.size w w5 := N4.trans (B5'.below (Nat.le_refl _) N4.size)
  have o2 := o2.but B5' (fun _ => by omega)
  have o3 := o3.but B5' (fun _ => by omega)
  have y5 := B5'.size
  have EL := hide el
  clear el
  go_wp2_with fail
  refine (l8DrawText_any w5 w.heap.size g a c xs (t3 + 1 + (k4 : Int)) S5 (hr.up N5) hne hb hl (by omega) (by omega)).mono ?_
  rintro e w6 ⟨ds, t6, dl, db, ⟨a6, c6, g6, rfl, o6, p6, q6, r6⟩, h6, h7, S6, B6⟩
  have N6 : Below w.heap.size w w6 := N5.trans (B6.below (Nat.le_refl _) N5.size)
  have o2 := o2.but B6 (fun _ => by omega)
  have o3 := o3.but B6 (fun _ => by omega)
  have o5 := o5.but B6 (fun _ => by omega)
  clear S1 S2 S3 S4 S5 S6 B2 B3 O4 B5' B6
  go_wp2
  refine bodyPost_ret (v := .tuple #[.slice a2 ks.length c2, .slice a3 ns.length c3, .slice a5 es.length c5, .slice a6 ds.length c6]) (by simp [results, Try.results20, go_sem]) rfl ?_
  exact ⟨ks, ns, es, ds, _, _, _, _, rfl, ⟨kb, kl, a2, c2, g2, rfl, o2.rd, p2, q2⟩, ⟨nb, nl, a3, c3, g3, rfl, o3.rd, p3, q3⟩, ⟨eb, by have := EL.out; omega, a5, c5, g5, rfl, o5.rd, p5, q5⟩, ⟨db, by omega, a6, c6, g6, rfl, o6.rd, p6, q6⟩, N6⟩

theorem RowB.but {w w' : World} {base q : Nat} {v : Value} {xs : List Int} (h : RowB w base v xs) (ho : But q w w') (hq : ∀ k, v.ownBlock = some k → k ≠ q) : RowB w' base v xs := by
  refine ⟨h.1, ?_⟩
  rcases h.2 with h' | ⟨g, cap, cur, rfl, hbg, hg, hnc, hcm, hcs, ht⟩
  · exact .inl h'
  · exact .inr ⟨g, cap, cur, rfl, hbg, by rw [ho.block g (Array.getElem?_eq_some_iff.1 hg).1 (hq g rfl)]; exact hg, hnc, hcm, hcs, ht⟩
theorem byt_put {xs : List Int} (h : Byt xs) (i : Nat) {x : Int} (hx : 0 ≤ x ∧ x < 256) : Byt (xs.set i x) := fun j => by
  by_cases e : i = j
  · subst e
    by_cases hl : i < xs.length
    · rw [getD_set_self _ _ _ hl]; exact hx
    · rw [List.set_eq_of_length_le (by omega)]; exact h i
  · rw [getD_set_ne _ _ _ _ e]; exact h j
theorem xor8_byt {x y : Int} (hx : 0 ≤ x ∧ x < 256) (hy : 0 ≤ y ∧ y < 256) : 0 ≤ bits BinOp.xor IntKind.u8 x y ∧ bits BinOp.xor IntKind.u8 x y < 256 := xr_byt hx hy
set_option maxRecDepth 100000 in
set_option maxHeartbeats 16000000 in
theorem drawOpen_any (w : World) (g : Nat) (a : Option Addr) (c : Nat) (xs : List Int) (hr : Rd w g a .u8 xs) (hb : Byt xs) (hl : xs.length ≤ 1048576) :
    Calls Try.prog 25 #[.slice a xs.length c] w fun e w' => ∃ (ks ns es ss : List Int) (v1 v2 v3 v4 : Value), e = .returned (.tuple #[v1, v2, v3, v4]) ∧ DL w' v1 ks 40 ∧ DL w' v2 ns 40 ∧ DL w' v3 es 50 ∧ DL w' v4 ss 5400 ∧ Below w.heap.size w w' := by
  obtain ⟨i0, hi, hz0, hz1, hz2⟩ := info_parts Try.info5
  go_enter Try.func25, Try.ntmps25
  go_wp2_with fail
  refine (l1Source_any w a xs.length c hl).mono ?_
  rintro e w1 ⟨rfl, S1, n1⟩
  have hne : 0 < xs.length → g ≠ w.heap.size := fun h => by have := hr.lt h; omega
  have y1 : w.heap.size < w1.heap.size := S1.lt
  go_wp2_with fail
  refine (l8DrawKey_any w1 w.heap.size g a c xs 0 S1 (hr.up n1) hne hb hl (by omega) (by omega)).mono ?_
  rintro e w2 ⟨ks, t2, kl, kb, ⟨a2, c2, g2, rfl, o2, p2, q2, r2⟩, h0, h1, S2, B2⟩
  have N2 : Below w.heap.size w w2 := n1.trans (B2.below (Nat.le_refl _) n1.size)
  have y2 := B2.size
  have l2 : 0 < ks.length → g2 < w2.heap.size := fun h => o2.rd.lt h
  go_wp2_with fail
  refine (l8DrawNonce_any w2 w.heap.size g a c xs t2 S2 (hr.up N2) hne hb hl (by omega) (by omega)).mono ?_
  rintro e w3 ⟨ns, t3, nl, nb, ⟨a3, c3, g3, rfl, o3, p3, q3, r3⟩, h2, h3, S3, B3⟩
  have N3 : Below w.heap.size w w3 := N2.trans (B3.below (Nat.le_refl _) N2.size)
  have o2 := o2.but B3 (fun _ => by omega)
  have y3 := B3.size
  have l3 : 0 < ns.length → g3 < w3.heap.size := fun h => o3.rd.lt h
  go_wp2_with fail
  refine (l1Next_any w3 w.heap.size g a c xs t3 40 S3 (hr.up N3) hne hb hl (by omega) (by omega) (by omega) (by omega)).mono ?_
  rintro e w4 ⟨r4, rfl, ⟨r40, r41⟩, S4, O4⟩
  have N4 : Below w.heap.size w w4 := N3.trans (O4.below (Nat.le_refl _))
  have o2 := o2.but (But.ofOnly O4) (fun _ => by omega)
  have o3 := o3.but (But.ofOnly O4) (fun _ => by omega)
  have y4 := O4.size
  obtain ⟨k4, rfl⟩ := Int.eq_ofNat_of_zero_le r40
  go_wp2_with fail
  refine (l1DrawBytesR_any w4 w.heap.size g a c xs (t3 + 1) k4 S4 (hr.up N4) hne hb hl (by omega) (by omega)).mono ?_
  rintro e w5 ⟨es, el, eb, ⟨v5, rfl, R5⟩, S5, B5'⟩
  have N5 : Below w.heap.size w w5 := N4.trans (B5'.below (Nat.le_refl _) N4.size)
  have o2 := o2.but B5' (fun _ => by omega)
  have o3 := o3.but B5' (fun _ => by omega)
  have y5 := B5'.size
  have EL := hide el
  clear el
  obtain ⟨a5, c5, g5, rfl, o5, p5, q5, r5'⟩ := R5.own
  have l5 : 0 < es.length → g5 < w5.heap.size := fun h => o5.rd.lt h
  have L5 : ∀ k, (Value.slice a5 es.length c5).ownBlock = some k → w4.heap.size ≤ k ∧ k < w5.heap.size := fun k hk => World.ownsRow.lt R5 k hk
  go_wp2_with fail
  refine (l8DrawText_any w5 w.heap.size g a c xs (t3 + 1 + (k4 : Int)) S5 (hr.up N5) hne hb hl (by omega) (by omega)).mono ?_
  rintro e w6 ⟨ds, t6, dl, db, ⟨a6, c6, g6, rfl, o6, p6, q6, r6⟩, h6, h7, S6, B6⟩
  have N6 : Below w.heap.size w w6 := N5.trans (B6.below (Nat.le_refl _) N5.size)
  have o2 := o2.but B6 (fun _ => by omega)
  have o3 := o3.but B6 (fun _ => by omega)
  have o5 := o5.but B6 (fun _ => by omega)
  have R5 := R5.but B6 (fun k hk => by have := L5 k hk; omega)
  have y6 := B6.size
  go_wp2_with fail
  refine (specSeal_any w6 g2 a2 c2 ks o2.rd kb q2 g3 a3 c3 ns o3.rd nb q3 g5 a5 c5 es o5.rd eb p5 g6 a6 c6 ds o6.rd db (by have := EL.out; omega)).mono ?_
  rintro e w7 ⟨⟨v7, rfl, R7⟩, n7⟩
  have ml := seA_len ks ns es ds
  have mb := seA_byt (key := ks) (non := ns) (ex := es) db
  generalize seA ks ns es ds = M at *
  obtain ⟨a7, c7, g7, rfl, o7, p7, q7, r7⟩ := R7.own
  have N7 := nxt N6 n7
  have o2 := o2.up n7
  have o3 := o3.up n7
  have o5 := o5.up n7
  have R5 := R5.up n7
  have S7 := S6.up n7
  have y7 := n7.size
  go_wp2_with fail
  refine (l1Next_any w7 w.heap.size g a c xs t6 8 S7 (hr.up N7) hne hb hl (by omega) (by omega) (by omega) (by omega)).mono ?_
  rintro e w8 ⟨kk, rfl, ⟨k0, k1⟩, S8, O8⟩
  have N8 : Below w.heap.size w w8 := N7.trans (O8.below (Nat.le_refl _))
  have o2 := o2.but (But.ofOnly O8) (fun _ => by omega)
  have o3 := o3.but (But.ofOnly O8) (fun _ => by omega)
  have o5 := o5.but (But.ofOnly O8) (fun _ => by omega)
  have R5 := R5.but (But.ofOnly O8) (fun k hk => by have := L5 k hk; omega)
  have o7 := o7.but (But.ofOnly O8) (fun _ => by omega)
  have y8 := O8.size
  have hr8 := hr.up N8
  have ELo : es.length ≤ 40 := by have := EL.out; omega
  have HEL := hide ELo
  have HML := hide (show M.length ≤ 5400 by omega)
  clear S1 S2 S3 S4 S5 S6 S7 B2 B3 O4 B5' B6 O8 n7 R7 o6 ELo EL ml r40 q6 p6 db dl
  have mlI : (M.length : Int) ≤ 5400 := by have := HML.out; omega
  by_cases c0 : kk = 0
  · subst c0
    by_cases m0 : 0 < M.length
    · have mI : (0 : Int) < (M.length : Int) := by omega
      go_wp2_with fail
      refine (l1Next_any w8 w.heap.size g a c xs (t6 + 1) (M.length : Int) S8 hr8 hne hb hl (by omega) (by omega) (by omega) (by omega)).mono ?_
      rintro e w9 ⟨r9, rfl, ⟨r90, r91⟩, S9, O9⟩
      have N9 : Below w.heap.size w w9 := N8.trans (O9.below (Nat.le_refl _))
      have o2 := o2.but (But.ofOnly O9) (fun _ => by omega)
      have o3 := o3.but (But.ofOnly O9) (fun _ => by omega)
      have o5 := o5.but (But.ofOnly O9) (fun _ => by omega)
      have o7 := o7.but (But.ofOnly O9) (fun _ => by omega)
      have y9 := O9.size
      have hr9 := hr.up N9
      obtain ⟨p, rfl⟩ := Int.eq_ofNat_of_zero_le r90
      have pl : p < M.length := by omega
      obtain ⟨om, rfl, hcm⟩ := o7 m0
      obtain ⟨cx, fx⟩ := hcm p pl
      have xb := mb p
      have NX : ∀ W, (∃ n, W = w9.drewN n) → Calls Try.prog 47 #[.pointer (some ⟨w.heap.size, 0, none⟩), .int .i64 255] W fun e w' => ∃ r, e = .returned (.int .i64 r) ∧ (0 ≤ r ∧ r < 255) ∧ Only w.heap.size w9 w' := by
        rintro W ⟨n, rfl⟩
        have h := l1Next_any (w9.drewN n) w.heap.size g a c xs (t6 + 1 + 1) 255 ⟨S9.code, S9.at_, S9.free⟩ hr9 hne hb hl (by omega) (by omega) (by omega) (by omega)
        exact h.mono (by rintro e w' ⟨r, rfl, hr, _, O⟩; exact ⟨r, rfl, hr, (Only.drewN w9 w.heap.size n).trans O⟩)
      have gms : g7 ≠ w.heap.size := by omega
      have KC : ∀ w', Only w.heap.size w9 w' → w'.cell? ⟨g7, om + p, none⟩ = some (.int .u8 (M.getD p 0)) ∧ w'.frozen? ⟨g7, om + p, none⟩ = false := fun w' O => ⟨(World.cell?_of_block (a := ⟨g7, om + p, none⟩) (O.block g7 gms)).trans cx, (World.frozen?_of_block (a := ⟨g7, om + p, none⟩) (O.block g7 gms)).trans fx⟩
      have NX' := hide NX
      have KC' := hide KC
      have FINf : ∀ w' y, Only w.heap.size w9 w' → (0 ≤ y ∧ y < 256) → Hid (DL (w'.setCell ⟨g7, om + p, none⟩ (.int .u8 (bits BinOp.xor IntKind.u8 (M.getD p 0) y))) (.slice a2 ks.length c2) ks 40 ∧ DL (w'.setCell ⟨g7, om + p, none⟩ (.int .u8 (bits BinOp.xor IntKind.u8 (M.getD p 0) y))) (.slice a3 ns.length c3) ns 40 ∧ DL (w'.setCell ⟨g7, om + p, none⟩ (.int .u8 (bits BinOp.xor IntKind.u8 (M.getD p 0) y))) (.slice a5 es.length c5) es 50 ∧ DL (w'.setCell ⟨g7, om + p, none⟩ (.int .u8 (bits BinOp.xor IntKind.u8 (M.getD p 0) y))) (.slice (some ⟨g7, om, none⟩) M.length c7) (M.set p (bits BinOp.xor IntKind.u8 (M.getD p 0) y)) 5400 ∧ Below w.heap.size w (w'.setCell ⟨g7, om + p, none⟩ (.int .u8 (bits BinOp.xor IntKind.u8 (M.getD p 0) y)))) := fun w' y O hy => by
        have O2 := Only.setCell w' g7 (om + p) (.int .u8 (bits BinOp.xor IntKind.u8 (M.getD p 0) y))
        have u2 := (o2.but (But.ofOnly O) (fun _ => by omega)).but (But.ofOnly O2) (fun h => by have := l2 h; omega)
        have u3 := (o3.but (But.ofOnly O) (fun _ => by omega)).but (But.ofOnly O2) (fun h => by have := l3 h; omega)
        have u5 := (o5.but (But.ofOnly O) (fun _ => by omega)).but (But.ofOnly O2) (fun h => by have := l5 h; omega)
        have u7 := (o7.but (But.ofOnly O) (fun _ => gms)).store p pl (bits BinOp.xor IntKind.u8 (M.getD p 0) y)
        have sl : (M.set p (bits BinOp.xor IntKind.u8 (M.getD p 0) y)).length = M.length := by simp
        exact ⟨⟨kb, kl, a2, c2, g2, rfl, u2.rd, p2, q2⟩, ⟨nb, nl, a3, c3, g3, rfl, u3.rd, p3, q3⟩, ⟨eb, by have := HEL.out; omega, a5, c5, g5, rfl, u5.rd, p5, q5⟩, ⟨byt_put mb p (xor8_byt xb hy), by rw [sl]; exact HML.out, some ⟨g7, om, none⟩, c7, g7, by rw [sl], u7.rd, by simp, by rw [sl]; exact q7⟩, (N9.trans (O.below (Nat.le_refl _))).trans (O2.below (by omega))⟩
      have pI : (p : Int) < (M.length : Int) := by omega
      clear NX KC S8 S9 O9 hcm o2 o3 o5 o7 R5 L5 hr8 hr9 N8 N9
      generalize M.getD p 0 = x at *
      go_wp2_with fail
      go_region_with (go_at_call 47; refine ((unhide NX') _ ?_).mono ?_; exact ⟨1, rfl⟩; rintro e w10 ⟨r10, rfl, ⟨r100, r101⟩, O10⟩; obtain ⟨cx', fx'⟩ := (unhide KC') w10 O10; have v10 : (1 + r10) % 256 = 1 + r10 := by omega)
      all_goals
        have F := hide (FINf w10 (1 + r10) O10 ⟨by omega, by omega⟩).out
        clear cx' fx' cx fx NX' KC' FINf O10
        go_wp2
        obtain ⟨F1, F2, F3, F4, F5⟩ := F.out
        refine bodyPost_ret (v := .tuple #[.slice a2 ks.length c2, .slice a3 ns.length c3, .slice a5 es.length c5, .slice (some ⟨g7, om, none⟩) M.length c7]) (by simp [results, Try.results25, go_sem]) rfl ?_
        exact ⟨ks, ns, es, _, _, _, _, _, rfl, F1, F2, F3, F4, F5⟩
    · have mI : ¬ (0 : Int) < (M.length : Int) := by omega
      go_wp2
      refine bodyPost_ret (v := .tuple #[.slice a2 ks.length c2, .slice a3 ns.length c3, .slice a5 es.length c5, .slice a7 M.length c7]) (by simp [results, Try.results25, go_sem]) rfl ?_
      exact ⟨ks, ns, es, M, _, _, _, _, rfl, ⟨kb, kl, a2, c2, g2, rfl, o2.rd, p2, q2⟩, ⟨nb, nl, a3, c3, g3, rfl, o3.rd, p3, q3⟩, ⟨eb, by have := HEL.out; omega, a5, c5, g5, rfl, o5.rd, p5, q5⟩, ⟨mb, HML.out, a7, c7, g7, rfl, o7.rd, p7, q7⟩, N8⟩
  · have d0 : decide (kk = 0) = false := by simpa using c0
    by_cases c1 : kk = 1
    · subst c1
      by_cases m0 : 0 < M.length
      · have mI : (0 : Int) < (M.length : Int) := by omega
        go_wp2_with fail
        refine (l1Next_any w8 w.heap.size g a c xs (t6 + 1) (M.length : Int) S8 hr8 hne hb hl (by omega) (by omega) (by omega) (by omega)).mono ?_
        rintro e w9 ⟨r9, rfl, ⟨r90, r91⟩, S9, O9⟩
        have N9 : Below w.heap.size w w9 := N8.trans (O9.below (Nat.le_refl _))
        have o2 := o2.but (But.ofOnly O9) (fun _ => by omega)
        have o3 := o3.but (But.ofOnly O9) (fun _ => by omega)
        have o5 := o5.but (But.ofOnly O9) (fun _ => by omega)
        have o7 := o7.but (But.ofOnly O9) (fun _ => by omega)
        obtain ⟨p, rfl⟩ := Int.eq_ofNat_of_zero_le r90
        have tl : (M.take p).length = p := by rw [List.length_take]; omega
        have tb := byt_take mb p
        have R7 := o7.rd.take p
        have TLl := hide tl
        have pc : (p : Int) ≤ (c7 : Int) := by omega
        have pc' : (p : Int) ≤ (M.length : Int) := by omega
        clear S8 S9 O9 o7 R5 L5 hr8 N8 tl
        go_wp2
        refine bodyPost_ret (v := .tuple #[.slice a2 ks.length c2, .slice a3 ns.length c3, .slice a5 es.length c5, .slice a7 p c7]) (by simp [results, Try.results25, go_sem]) rfl ?_
        exact ⟨ks, ns, es, M.take p, _, _, _, _, rfl, ⟨kb, kl, a2, c2, g2, rfl, o2.rd, p2, q2⟩, ⟨nb, nl, a3, c3, g3, rfl, o3.rd, p3, q3⟩, ⟨eb, by have := HEL.out; omega, a5, c5, g5, rfl, o5.rd, p5, q5⟩, ⟨tb, by rw [TLl.out]; have := HML.out; omega, a7, c7, g7, by rw [TLl.out], R7, p7, by rw [TLl.out]; omega⟩, N9⟩
      · have mI : ¬ (0 : Int) < (M.length : Int) := by omega
        go_wp2
        refine bodyPost_ret (v := .tuple #[.slice a2 ks.length c2, .slice a3 ns.length c3, .slice a5 es.length c5, .slice a7 M.length c7]) (by simp [results, Try.results25, go_sem]) rfl ?_
        exact ⟨ks, ns, es, M, _, _, _, _, rfl, ⟨kb, kl, a2, c2, g2, rfl, o2.rd, p2, q2⟩, ⟨nb, nl, a3, c3, g3, rfl, o3.rd, p3, q3⟩, ⟨eb, by have := HEL.out; omega, a5, c5, g5, rfl, o5.rd, p5, q5⟩, ⟨mb, HML.out, a7, c7, g7, rfl, o7.rd, p7, q7⟩, N8⟩
    · have d1 : decide (kk = 1) = false := by simpa using c1
      by_cases c2' : kk = 2
      · subst c2'
        have n9 : Below w8.heap.size w8 (w8.alloc (.cells #[.int .u8 0] 5)) := (Below.refl _ _).alloc (Nat.le_refl _) _
        have B9 := blk_lit1 w8 .u8 5 0
        have z9 : (w8.alloc (.cells #[.int .u8 0] 5)).heap.size = w8.heap.size + 1 := by simp
        have R9 := R5.up n9
        have u2 := o2.up n9
        have u3 := o3.up n9
        have u7 := o7.up n9
        have N9 := nxt N8 n9
        generalize hw9 : w8.alloc (.cells #[.int .u8 0] 5) = w9 at *
        obtain ⟨v', w10, hap, R10, G10, -⟩ := append_anyH (P := Try.prog) w9 22 i0 Try.underlying22 hi hz0 hz1 hz2 w4.heap.size _ es R9 w8.heap.size 0 1 [0] B9.own0.rd (by have := HEL.out; simp; omega) (by omega)
        rw [show ([0] : List Int).length = 1 from rfl] at hap
        have HAP := hide hap
        clear hap
        have G2 : ∀ k, k < w9.heap.size → (k < w4.heap.size ∨ w5.heap.size ≤ k) → w10.heap[k]? = w9.heap[k]? := fun k h1 h2 => G10.block k h1 (fun e => by have := L5 k e.symm; omega)
        have x2 : Own w10 g2 a2 .u8 ks := by
          by_cases h : 0 < ks.length
          · exact u2.of_block (G2 g2 (by have := l2 h; omega) (.inl (by have := l2 h; omega)))
          · rw [List.eq_nil_of_length_eq_zero (show ks.length = 0 by omega)]; exact Own.nil _ _ _ _
        have x3 : Own w10 g3 a3 .u8 ns := by
          by_cases h : 0 < ns.length
          · exact u3.of_block (G2 g3 (by have := l3 h; omega) (.inl (by have := l3 h; omega)))
          · rw [List.eq_nil_of_length_eq_zero (show ns.length = 0 by omega)]; exact Own.nil _ _ _ _
        have x7 : Own w10 g7 a7 .u8 M := by
          by_cases h : 0 < M.length
          · exact u7.of_block (G2 g7 (u7.rd.lt h) (.inr (by omega)))
          · rw [List.eq_nil_of_length_eq_zero (show M.length = 0 by omega)]; exact Own.nil _ _ _ _
        have N10 : Below w.heap.size w w10 := N9.trans ⟨G10.os, G10.tape, G10.output, G10.size, fun k hk => G2 k (by omega) (.inl (by omega))⟩
        have eb10 : Byt (es ++ [0]) := byt_app1 eb 0 (by decide) (by decide)
        have el10 : (es ++ [0]).length ≤ 50 := by have := HEL.out; simp; omega
        generalize es ++ [0] = es' at R10 eb10 el10
        obtain ⟨a10, c10, g10, rfl, o10, p10, q10, -⟩ := R10.own
        have HE10 := hide el10
        have HEB := hide eb10
        have HX := hide (And.intro x2.rd (And.intro x3.rd (And.intro x7.rd o10.rd)))
        subst hw9
        clear R9 u2 u3 u7 N9 n9 B9 z9 G10 G2 R10 el10 eb10 S8 R5 L5 o2 o3 o5 o7 x2 x3 x7 o10 hr8 N8
        have HP := hide (And.intro p2 (And.intro q2 (And.intro p3 (And.intro q3 (And.intro p7 (And.intro q7 (And.intro p10 q10)))))))
        clear l2 l3 l5 p2 p3 p5 p7 q2 q3 q5 q7 r2 r3 r7 p10 q10 hne hr hb hl h0 h1 h2 h3 h6 h7 y1 y2 y3 y4 y5 y6 y7 y8 r41 k0 k1
        go_wp2_with (at_builtin; refine Lib.wpList_append_run _ rfl _ _ 22 22 rfl _ _ rfl rfl _ _ HAP.out ?_)
        refine bodyPost_ret (v := .tuple #[.slice a2 ks.length c2, .slice a3 ns.length c3, .slice a10 es'.length c10, .slice a7 M.length c7]) (by simp [results, Try.results25, go_sem]) rfl ?_
        obtain ⟨p2, q2, p3, q3, p7, q7, p10, q10⟩ := HP.out
        exact ⟨ks, ns, es', M, _, _, _, _, rfl, ⟨kb, kl, a2, c2, g2, rfl, HX.out.1, p2, q2⟩, ⟨nb, nl, a3, c3, g3, rfl, HX.out.2.1, p3, q3⟩, ⟨HEB.out, HE10.out, a10, c10, g10, rfl, HX.out.2.2.2, p10, q10⟩, ⟨mb, HML.out, a7, c7, g7, rfl, HX.out.2.2.1, p7, q7⟩, N10⟩
      · have d2 : decide (kk = 2) = false := by simpa using c2'
        by_cases c3' : kk = 3 ∧ 0 < ks.length
        · obtain ⟨c3', h0k⟩ := c3'
          subst c3'
          have kI : (0 : Int) < (ks.length : Int) := by omega
          obtain ⟨ok, rfl, hck⟩ := o2 h0k
          obtain ⟨ck, fk⟩ := hck 0 h0k
          rw [Nat.add_zero] at ck fk
          have xb := kb 0
          have U2 := o2.store 0 h0k ((ks.getD 0 0 + 1) % 256)
          have O9 := Only.setCell w8 g2 (ok + 0) (.int .u8 ((ks.getD 0 0 + 1) % 256))
          have lg := l2 h0k
          have x3 := o3.only O9 (fun _ => by omega)
          have x5 := o5.only O9 (fun _ => by omega)
          have x7 := o7.only O9 (fun _ => by omega)
          have N9 := N8.trans (O9.below (B := w.heap.size) (by omega))
          rw [Nat.add_zero] at U2 x3 x5 x7 N9
          have kb9 := byt_put kb 0 (x := (ks.getD 0 0 + 1) % 256) ⟨by omega, by omega⟩
          have sl : Hid ((ks.set 0 ((ks.getD 0 0 + 1) % 256)).length = ks.length) := by show _ = _; simp
          have U2r := U2.rd
          clear S8 R5 L5 o2 o3 o5 o7 O9 hck
          generalize ks.getD 0 0 = kx at *
          go_wp2
          refine bodyPost_ret (v := .tuple #[.slice (some ⟨g2, ok, none⟩) ks.length c2, .slice a3 ns.length c3, .slice a5 es.length c5, .slice a7 M.length c7]) (by simp [results, Try.results25, go_sem]) rfl ?_
          exact ⟨_, ns, es, M, _, _, _, _, rfl, ⟨kb9, by rw [sl.out]; exact kl, some ⟨g2, ok, none⟩, c2, g2, by rw [sl.out], U2r, by simp, by rw [sl.out]; exact q2⟩, ⟨nb, nl, a3, c3, g3, rfl, x3.rd, p3, q3⟩, ⟨eb, by have := HEL.out; omega, a5, c5, g5, rfl, x5.rd, p5, q5⟩, ⟨mb, HML.out, a7, c7, g7, rfl, x7.rd, p7, q7⟩, N9⟩
        · by_cases c4 : kk = 3
          · subst c4
            have kI : ¬ (0 : Int) < (ks.length : Int) := by omega
            go_wp2
            refine bodyPost_ret (v := .tuple #[.slice a2 ks.length c2, .slice a3 ns.length c3, .slice a5 es.length c5, .slice a7 M.length c7]) (by simp [results, Try.results25, go_sem]) rfl ?_
            exact ⟨ks, ns, es, M, _, _, _, _, rfl, ⟨kb, kl, a2, c2, g2, rfl, o2.rd, p2, q2⟩, ⟨nb, nl, a3, c3, g3, rfl, o3.rd, p3, q3⟩, ⟨eb, by have := HEL.out; omega, a5, c5, g5, rfl, o5.rd, p5, q5⟩, ⟨mb, HML.out, a7, c7, g7, rfl, o7.rd, p7, q7⟩, N8⟩
          · have d3 : decide (kk = 3) = false := by simpa using c4
            go_wp2
            refine bodyPost_ret (v := .tuple #[.slice a2 ks.length c2, .slice a3 ns.length c3, .slice a5 es.length c5, .slice a7 M.length c7]) (by simp [results, Try.results25, go_sem]) rfl ?_
            exact ⟨ks, ns, es, M, _, _, _, _, rfl, ⟨kb, kl, a2, c2, g2, rfl, o2.rd, p2, q2⟩, ⟨nb, nl, a3, c3, g3, rfl, o3.rd, p3, q3⟩, ⟨eb, by have := HEL.out; omega, a5, c5, g5, rfl, o5.rd, p5, q5⟩, ⟨mb, HML.out, a7, c7, g7, rfl, o7.rd, p7, q7⟩, N8⟩
end Go.Proofs.Ythfbchkonklmkaa

/-
  The laws lwAt and lw32.
-/
namespace Go.Proofs.Ythfbchkonklmkaa
open Go.RowKit

set_option maxHeartbeats 2000000 in
theorem lwAt_any (w : World) (g : Nat) (a : Option Addr) (c : Nat) (xs : List Int) (i n : Int) (hr : Rd w g a .u8 xs) (hb : Byt xs) (hl : xs.length ≤ 1048576) (i0 : 0 ≤ i) (i1 : i ≤ 1000) (n0 : 2 ≤ n) (n1 : n ≤ 1048576) :
    Calls Try.prog 24 #[.slice a xs.length c, .int .i64 i, .int .i64 n] w fun e w' => ∃ r : Nat, e = .returned (.int .i64 (r : Int)) ∧ (r : Int) < n ∧ ∃ m, w' = w.drewN m := by
  have tn : decide (n ≤ 1) = false := by simp; omega
  by_cases h0 : xs.length = 0
  · have hk : ((xs.length : Int) == 0) = true := by simp [h0]
    obtain ⟨r, hr'⟩ := Int.eq_ofNat_of_zero_le (Int.emod_nonneg (i * 7) (show n ≠ 0 by omega))
    have r1 := Int.emod_lt_of_pos (i * 7) (show 0 < n by omega)
    rw [hr'] at r1
    have HR := hide hr'
    clear h0 hr'
    go_enter Try.func24, Try.ntmps24
    go_wp2
    go_ret
    exact ⟨r, congrArg (fun v => Ending.returned (.int .i64 v)) HR.out, r1, 0, rfl⟩
  · have hk : ((xs.length : Int) == 0) = false := beq_eq_false_iff_ne.2 (by omega)
    obtain ⟨off, rfl, hc⟩ := hr (by omega)
    obtain ⟨j1, hi1⟩ := Int.eq_ofNat_of_zero_le (Int.emod_nonneg i (show (xs.length : Int) ≠ 0 by omega))
    have li1 : (j1 : Int) < (xs.length : Int) := by rw [← hi1]; exact Int.emod_lt_of_pos _ (by omega)
    obtain ⟨j2, hi2⟩ := Int.eq_ofNat_of_zero_le (Int.emod_nonneg (i + 1) (show (xs.length : Int) ≠ 0 by omega))
    have li2 : (j2 : Int) < (xs.length : Int) := by rw [← hi2]; exact Int.emod_lt_of_pos _ (by omega)
    obtain ⟨q, hq⟩ : ∃ q, i / (xs.length : Int) = q := ⟨_, rfl⟩
    have q0 : 0 ≤ q := by rw [← hq]; exact Int.ediv_nonneg i0 (by omega)
    have q1 : q ≤ 1000 := by rw [← hq]; exact Int.le_trans (Int.ediv_le_self _ i0) i1
    have x1 := hc j1 (by omega)
    have x2 := hc j2 (by omega)
    have b1 := hb j1
    have b2 := hb j2
    generalize xs.getD j1 0 = x at *
    generalize xs.getD j2 0 = y at *
    clear hc hr h0
    by_cases hn : n ≤ 200
    · have tn2 : decide (200 < n) = false := by simp; omega
      obtain ⟨r, hr'⟩ := Int.eq_ofNat_of_zero_le (Int.emod_nonneg (x + q) (show n ≠ 0 by omega))
      have r1 := Int.emod_lt_of_pos (x + q) (show 0 < n by omega)
      rw [hr'] at r1
      have HR := hide hr'
      clear x2 hi2 li2 b2 hr'
      go_enter Try.func24, Try.ntmps24
      go_wp2
      go_quiet (fail)
      go_wp2
      go_ret
      exact ⟨r, congrArg (fun v => Ending.returned (.int .i64 v)) HR.out, r1, _, rfl⟩
    · have tn2 : decide (200 < n) = true := by simp; omega
      obtain ⟨r, hr'⟩ := Int.eq_ofNat_of_zero_le (Int.emod_nonneg ((x + q) * 37 + y) (show n ≠ 0 by omega))
      have r1 := Int.emod_lt_of_pos ((x + q) * 37 + y) (show 0 < n by omega)
      rw [hr'] at r1
      have HR := hide hr'
      clear hr'
      go_enter Try.func24, Try.ntmps24
      go_wp2
      go_quiet (fail)
      go_wp2
      go_ret
      exact ⟨r, congrArg (fun v => Ending.returned (.int .i64 v)) HR.out, r1, _, rfl⟩

set_option maxHeartbeats 2000000 in
theorem lwAt_small (w : World) (a : Option Addr) (c m : Nat) (i n : Int) (n1 : n ≤ 1) : Calls Try.prog 24 #[.slice a m c, .int .i64 i, .int .i64 n] w fun e w' => e = .returned (.int .i64 0) ∧ w' = w := by
  have tn : decide (n ≤ 1) = true := by simpa using n1
  go_enter Try.func24, Try.ntmps24
  go_wp2
  go_ret
  exact ⟨rfl, rfl⟩

/-- 'copy' into a block that is known whole, of as much as fits. -/
theorem copy_min {P : Program} (w : World) (ty rt e : TypeId) (hu : P.underlying ty = some (.slice e)) (hsz : (P.info? e).map (·.size) = some 1) {g : Nat} {k : IntKind} {zs : List Int} (hB : Blk w g k zs)
    (gs : Nat) (sp : Option Addr) (ys : List Int) (hr : Rd w gs sp k ys) (dc sc : Nat) :
    ∃ w2, (Builtin.copy_ #[ty, ty] rt #[.slice (some ⟨g, 0, none⟩) zs.length dc, .slice sp ys.length sc]).run P w = .ok (goInt (ys.take zs.length).length) w2 ∧ Blk w2 g k (ys.take zs.length ++ zs.drop (ys.take zs.length).length) ∧ Only g w w2 := by
  by_cases h0 : 0 < ys.length
  · obtain ⟨off, rfl, hc⟩ := hr h0
    obtain ⟨t, hB⟩ := hB
    have hrun := run_copy_row (P := P) w ty ty rt e g 0 zs.length dc ⟨gs, off, none⟩ ys.length sc _ t ((ys.take zs.length).map (Value.int k)) hu hsz hB (by simp [Nat.min_comm])
      (fun j v hj => by
        have hjl : j < (ys.take zs.length).length := by
          have := (List.getElem?_eq_some_iff.1 hj).1
          simpa using this
        have hj1 : j < ys.length := by simp at hjl; omega
        have hj2 : j < zs.length := by simp at hjl; omega
        rw [add_mid, hc j hj1]
        simpa [hj1, hj2, List.getElem?_take] using hj) (by simp; omega) (oneCells _ _)
    rw [List.length_map] at hrun
    refine ⟨_, hrun, ⟨t, ?_⟩, ⟨rfl, rfl, rfl, by simp, fun i hi => setRow_other w g i _ hi⟩⟩
    rw [setRow_heap w g _ _ t _ hB]
    simp
  · obtain rfl : ys = [] := List.eq_nil_of_length_eq_zero (by omega)
    exact ⟨w, by simpa using run_copy_none (P := P) w ty ty rt e _ _ _ _ _ _ hu hsz (by simp), by simpa using hB, Only.refl _ _⟩

/-- Thirty-two bytes of a list. -/
def to32 (xs : List Int) : List Int := xs.take 32 ++ (List.replicate 32 0).drop (xs.take 32).length

theorem to32_len (xs : List Int) : (to32 xs).length = 32 := by
  unfold to32
  rw [List.length_append, List.length_drop, List.length_replicate, List.length_take]
  omega

theorem to32_byt {xs : List Int} (h : Byt xs) : Byt (to32 xs) := by
  intro i
  unfold to32
  by_cases hi : i < (xs.take 32).length
  · have h1 := h i
    have h2 : i < 32 := by simp at hi; omega
    have e : (xs.take 32 ++ (List.replicate 32 (0 : Int)).drop (xs.take 32).length).getD i 0 = xs.getD i 0 := by
      rw [List.getD_eq_getElem?_getD, List.getElem?_append, if_pos hi, List.getElem?_take, if_pos h2, List.getD_eq_getElem?_getD]
    rw [e]; exact h1
  · rw [List.getD_eq_getElem?_getD, List.getElem?_append, if_neg hi, List.getElem?_drop, List.getElem?_replicate]
    split <;> simp

set_option maxRecDepth 100000 in
set_option maxHeartbeats 1000000 in
theorem lw32_any (w : World) (g : Nat) (a : Option Addr) (c : Nat) (xs : List Int) (ha : Rd w g a .u8 xs) :
    Calls Try.prog 21 #[.slice a xs.length c] w fun e w' => e = .returned (.slice (some ⟨w.heap.size, 0, none⟩) 32 32) ∧ Blk w' w.heap.size .u8 (to32 xs) ∧ Below w.heap.size w w' := by
  obtain ⟨i0, hi, hz0, hz1, hz2⟩ := info_parts Try.info5
  have hsz : (Try.prog.info? 5).map (·.size) = some 1 := by rw [hi]; simp [hz1]
  go_enter Try.func21, Try.ntmps21
  go_wp2_with (at_make; refine wpList_make_full _ rfl _ _ 22 rfl w.heap.size 5 i0 (.int .u8 0) 1 Try.underlying22 hi hz0 hz1 .i64 .i64 _ _ 32 rfl rfl rfl rfl (by rw [hz2]; omega) (by unfold maxLen; omega) (Nat.le_refl _) ?_; intro w1 hown hgrow)
  have hB := Blk.of_made hown
  have hN : Below w.heap.size w w1 := (Below.refl _ _).grown hgrow (Nat.le_refl _) (by simp)
  obtain ⟨w2, hrun, hB2, hO⟩ := copy_min (P := Try.prog) w1 22 3 5 Try.underlying22 hsz hB g a xs (ha.up hN) 32 c
  rw [List.length_replicate] at hrun
  have hN2 := hN.trans (hO.below (Nat.le_refl _))
  rw [hrun]
  clear hown hgrow hB hN hO hrun
  go_wp2
  go_ret
  exact ⟨rfl, hB2, hN2⟩

end Go.Proofs.Ythfbchkonklmkaa

/-
  Numbers and calls for FnSealOpen (written by gens/lso.py).
-/
namespace Go.Proofs.Ythfbchkonklmkaa
open Go Go.RowKit

theorem opT_seA {key non ex plain : List Int} (h : fitK key non = true) : opT (seA key non ex plain) = xt key non plain ∧ opS (seA key non ex plain) = ssB (nsW key non) ex (xt key non plain) ∧ (seA key non ex plain).length = plain.length + 16 := by
  have e : seA key non ex plain = xt key non plain ++ ssB (nsW key non) ex (xt key non plain) := by unfold seA; rw [if_pos h]
  have l : (seA key non ex plain).length = plain.length + 16 := by rw [e, List.length_append, xt_len, ssB_len]
  have d : (seA key non ex plain).length - 16 = (xt key non plain).length := by rw [l, xt_len]; omega
  refine ⟨?_, ?_, l⟩
  · unfold opT
    rw [d, e, List.take_left]
  · unfold opS
    rw [d, e, List.drop_left]
theorem open_seal {key non ex plain : List Int} (h : fitK key non = true) (hb : Byt plain) : opB key non ex (seA key non ex plain) = true ∧ opL key non ex (seA key non ex plain) = plain := by
  obtain ⟨h1, h2, h3⟩ := opT_seA (ex := ex) (plain := plain) h
  have B : opB key non ex (seA key non ex plain) = true := by
    unfold opB
    rw [h, h1, h2, h3, decide_eq_true (show 16 ≤ plain.length + 16 by omega)]
    simp
  refine ⟨B, ?_⟩
  unfold opL
  rw [if_pos B, h1, xt_xt key non hb]
theorem open_bad {key non ex M : List Int} (p : Nat) (x : Int) (hp : M.length - 16 ≤ p) (hl : p < M.length) (hx : x ≠ M.getD p 0) (h : opB key non ex M = true) : opB key non ex (M.set p x) = false := by
  unfold opB at h
  simp only [Bool.and_eq_true, decide_eq_true_eq] at h
  obtain ⟨h1, h2, h3⟩ := h
  have t : opT (M.set p x) = opT M := by
    unfold opT
    rw [List.length_set]
    exact List.take_set_of_le hp
  have s : opS (M.set p x) ≠ opS M := fun e => by
    have g := congrArg (fun l => l.getD (p - (M.length - 16)) 0) e
    unfold opS at g
    rw [List.length_set] at g
    simp only [List.getD_eq_getElem?_getD, List.getElem?_drop] at g
    rw [show M.length - 16 + (p - (M.length - 16)) = p by omega, ← List.getD_eq_getElem?_getD, ← List.getD_eq_getElem?_getD, getD_set_self _ _ _ hl] at g
    exact hx g
  unfold opB
  rw [t, h3, decide_eq_false (show ¬ opS M = opS (M.set p x) from fun e => s e.symm)]
  simp
theorem open_short {key non ex M : List Int} (h : M.length < 16) : opB key non ex M = false := by
  unfold opB
  rw [decide_eq_false (show ¬ 16 ≤ M.length by omega)]
  simp
theorem open_back {key non ex sd : List Int} (hb : Byt sd) (h : opB key non ex sd = true) : seA key non ex (opL key non ex sd) = sd := by
  have e : opL key non ex sd = xt key non (opT sd) := by unfold opL; rw [if_pos h]
  have k := h
  unfold opB at k
  simp only [Bool.and_eq_true, decide_eq_true_eq] at k
  have b := seal_back (ex := ex) k.1 hb
  rw [decide_eq_true k.2.2] at b
  rw [e]
  exact of_decide_eq_true b
theorem opL_byt {key non ex sd : List Int} (hb : Byt sd) : Byt (opL key non ex sd) := by
  unfold opL
  split
  · exact xt_byt _ _ (byt_take hb _)
  · exact byt_nil
theorem xor_ne {x y : Int} (hx : 0 ≤ x ∧ x < 256) (hy : 1 ≤ y ∧ y < 256) : bits BinOp.xor IntKind.u8 x y ≠ x := fun e => by
  have h := xr_xr hx (b := y) ⟨by omega, by omega⟩
  have e' : xr x y = x := e
  rw [e'] at h
  have z := xr_xr (d := y) (b := x) ⟨by omega, by omega⟩ hx
  have c : xr y x = xr x y := by
    obtain ⟨m, rfl⟩ := Int.eq_ofNat_of_zero_le hx.1
    obtain ⟨n, rfl⟩ := Int.eq_ofNat_of_zero_le (show 0 ≤ y by omega)
    unfold xr
    rw [u8_xor_nat n m (by omega) (by omega), u8_xor_nat m n (by omega) (by omega), Nat.xor_comm]
  rw [c, e'] at z
  have z0 : xr x x = 0 := by
    obtain ⟨m, rfl⟩ := Int.eq_ofNat_of_zero_le hx.1
    unfold xr
    rw [u8_xor_nat m m (by omega) (by omega), Nat.xor_self]
    rfl
  omega
/-- A slice that may be read. -/
def DR (w : World) (v : Value) (xs : List Int) : Prop := ∃ (a : Option Addr) (c g : Nat), v = .slice a xs.length c ∧ Rd w g a .u8 xs ∧ (a = none → c = 0) ∧ xs.length ≤ c
theorem DR.up {w w' : World} {v : Value} {xs : List Int} (h : DR w v xs) (n : Below w.heap.size w w') : DR w' v xs := by
  obtain ⟨a, c, g, e, r, p, q⟩ := h
  exact ⟨a, c, g, e, r.up n, p, q⟩
theorem DR.of {w : World} {B : Nat} {e : Ending} {xs : List Int} (h : NewRow B w e .u8 xs) : ∃ v, e = .returned v ∧ DR w v xs := by
  obtain ⟨a, c, g, e, o, p, q, _⟩ := h
  exact ⟨_, e, a, c, g, rfl, o.rd, p, q⟩
theorem copyC (w : World) (v : Value) (xs : List Int) (h : DR w v xs) (hn : xs.length ≤ 1048576) : Calls Try.prog 22 #[v] w fun e w' => ∃ v', e = .returned v' ∧ DR w' v' xs ∧ Below w.heap.size w w' := by
  obtain ⟨a, c, g, rfl, r, p, q⟩ := h
  exact (lwCopy_any w g a c xs r p hn).mono (by rintro e w' ⟨h, n⟩; obtain ⟨v', e', d⟩ := DR.of h; exact ⟨v', e', d, n⟩)
theorem sealC (w : World) (v1 v2 v3 v4 : Value) (ks ns es ds : List Int) (h1 : DR w v1 ks) (h2 : DR w v2 ns) (h3 : DR w v3 es) (h4 : DR w v4 ds) (b1 : Byt ks) (b2 : Byt ns) (b3 : Byt es) (b4 : Byt ds) (hs : es.length + ds.length ≤ 4000000) :
    Calls Try.prog 14 #[v1, v2, v3, v4] w fun e w' => ∃ v', e = .returned v' ∧ DR w' v' (seA ks ns es ds) ∧ Below w.heap.size w w' := by
  obtain ⟨a1, c1, g1, rfl, r1, p1, q1⟩ := h1
  obtain ⟨a2, c2, g2, rfl, r2, p2, q2⟩ := h2
  obtain ⟨a3, c3, g3, rfl, r3, p3, q3⟩ := h3
  obtain ⟨a4, c4, g4, rfl, r4, p4, q4⟩ := h4
  exact (implSeal_any w g1 a1 c1 ks r1 b1 q1 g2 a2 c2 ns r2 b2 q2 g3 a3 c3 es r3 b3 p3 g4 a4 c4 ds r4 b4 hs).mono (by rintro e w' ⟨⟨v, rfl, R⟩, n⟩; obtain ⟨a, c, g, rfl, o, p, q, _⟩ := R.own; exact ⟨_, rfl, ⟨a, c, g, rfl, o.rd, p, q⟩, n⟩)
theorem openC (w : World) (v1 v2 v3 v4 : Value) (ks ns es ds : List Int) (h1 : DR w v1 ks) (h2 : DR w v2 ns) (h3 : DR w v3 es) (h4 : DR w v4 ds) (b1 : Byt ks) (b2 : Byt ns) (b3 : Byt es) (b4 : Byt ds) (hs : es.length + ds.length ≤ 4000000) :
    Calls Try.prog 16 #[v1, v2, v3, v4] w fun e w' => ∃ v', e = .returned (.agg #[.bool (opB ks ns es ds), v']) ∧ DR w' v' (opL ks ns es ds) ∧ Below w.heap.size w w' := by
  obtain ⟨a1, c1, g1, rfl, r1, p1, q1⟩ := h1
  obtain ⟨a2, c2, g2, rfl, r2, p2, q2⟩ := h2
  obtain ⟨a3, c3, g3, rfl, r3, p3, q3⟩ := h3
  obtain ⟨a4, c4, g4, rfl, r4, p4, q4⟩ := h4
  exact (implOpen_any w g1 a1 c1 ks r1 b1 q1 g2 a2 c2 ns r2 b2 q2 g3 a3 c3 es r3 b3 p3 g4 a4 c4 ds r4 b4 q4 hs).mono (by rintro e w' ⟨⟨a, c, g, rfl, o, p, q, _⟩, n⟩; exact ⟨_, rfl, ⟨a, c, g, rfl, o.rd, p, q⟩, n⟩)
theorem specOpenC (w : World) (v1 v2 v3 v4 : Value) (ks ns es ds : List Int) (h1 : DR w v1 ks) (h2 : DR w v2 ns) (h3 : DR w v3 es) (h4 : DR w v4 ds) (b1 : Byt ks) (b2 : Byt ns) (b3 : Byt es) (b4 : Byt ds) (hs : es.length + ds.length ≤ 4000000) :
    Calls Try.prog 15 #[v1, v2, v3, v4] w fun e w' => ∃ (a : Option Addr) (n c : Nat), e = .returned (.agg #[.bool (opB ks ns es ds), .slice a n c]) ∧ Below w.heap.size w w' := by
  obtain ⟨a1, c1, g1, rfl, r1, p1, q1⟩ := h1
  obtain ⟨a2, c2, g2, rfl, r2, p2, q2⟩ := h2
  obtain ⟨a3, c3, g3, rfl, r3, p3, q3⟩ := h3
  obtain ⟨a4, c4, g4, rfl, r4, p4, q4⟩ := h4
  exact (specOpen_any w g1 a1 c1 ks r1 b1 q1 g2 a2 c2 ns r2 b2 q2 g3 a3 c3 es r3 b3 p3 g4 a4 c4 ds r4 b4 q4 hs).mono (by rintro e w' ⟨⟨a, c, g, rfl, o, p, q, _⟩, n⟩; exact ⟨_, _, _, rfl, n⟩)
theorem sameC (w : World) (v1 v2 : Value) (xs : List Int) (h1 : DR w v1 xs) (h2 : DR w v2 xs) : Calls Try.prog 23 #[v1, v2] w fun e w' => e = .returned (.bool true) ∧ w' = w := by
  obtain ⟨a1, c1, g1, rfl, r1, p1, q1⟩ := h1
  obtain ⟨a2, c2, g2, rfl, r2, p2, q2⟩ := h2
  exact lwSame_same w g1 g2 a1 a2 c1 c2 xs r1 r2
end Go.Proofs.Ythfbchkonklmkaa

/-
  The laws' helpers on bytes, for longer lists (out of Help, by gens/lex9.py).
-/
namespace Go.Proofs.Ythfbchkonklmkaa
open Go.RowKit

set_option maxHeartbeats 400000 in
theorem eqByteS_big (w : World) (g g' : Nat) (a b : Option Addr) (ca cb : Nat) (xs : List Int) (ha : Rd w g a .u8 xs) (hb : Rd w g' b .u8 xs) (hn : xs.length ≤ 4194304) :
    Calls Try.prog 10 #[.slice a xs.length ca, .slice b xs.length cb] w fun e w' => e = .returned (.bool true) ∧ Below w.heap.size w w' := by
  go_enter Try.func10, Try.ntmps10
  go_wp2
  go_loopw [5] (fun i wr => ∃ (k n : Nat), k ≤ xs.length ∧ i = .int .i64 k ∧ wr = w.drewN n) (fun i _ => xs.length - (intOf i).toNat)
  case atStart => exact ⟨0, 0, Nat.zero_le _, rfl, rfl⟩
  case round =>
    obtain ⟨k, n, hk, rfl, rfl⟩ := hrel
    by_cases hlt : k < xs.length
    · obtain ⟨off, rfl, hc⟩ := ha (by omega)
      obtain ⟨off', rfl, hc'⟩ := hb (by omega)
      have h1 := hc k hlt
      have h2 := hc' k hlt
      have hlt' : (k : Int) < (xs.length : Int) := by omega
      generalize xs.getD k 0 = x at *
      clear hc hc'
      go_wp2
      go_quiet (fail)
      go_wp2
      go_roundw
      case rel => exact ⟨k + 1, _, by omega, by go_num, rfl⟩
      case measure => simp [intOf]; omega
    · obtain rfl : k = xs.length := by omega
      go_wp2
      go_ret
      exact ⟨rfl, below_drewN (Below.refl _ _) _⟩

set_option maxHeartbeats 400000 in
theorem markByteS_big (w : World) (g : Nat) (a : Option Addr) (ca : Nat) (xs : List Int) (k : Int) (ha : Own w g a .u8 xs) (hn : xs.length ≤ 4194304) (k0 : 0 ≤ k) (k1 : k ≤ 1099511627776) :
    Calls Try.prog 11 #[.slice a xs.length ca, .int .i64 k] w fun e w' => e = .returned (.int .i64 (k + (xs.length : Int))) ∧ Own w' g a .u8 (marks k xs.length) ∧ Only g w w' := by
  go_enter Try.func11, Try.ntmps11
  go_wp2
  go_loopw [1, 5] (fun q i wr => ∃ (j : Nat) (ys : List Int), j ≤ xs.length ∧ i = .int .i64 j ∧ q = .int .i64 (k + (j : Int)) ∧ MarkTo k ys xs.length j ∧ Own wr g a .u8 ys ∧ Only g w wr) (fun _ i _ => xs.length - (intOf i).toNat)
  case atStart => exact ⟨0, xs, Nat.zero_le _, rfl, by go_num, ⟨rfl, fun i h => absurd h (by omega)⟩, ha, Only.refl _ _⟩
  case round =>
    obtain ⟨j, ys, hj, rfl, rfl, hm, hB, hN⟩ := hrel
    by_cases hlt : j < xs.length
    · have hl : j < ys.length := by rw [hm.1]; exact hlt
      obtain ⟨off, rfl, hc⟩ := hB (by omega)
      have R := hm.step hlt
      obtain ⟨h1, h2⟩ := hc j hl
      have hB' := hB.store j hl ((k + (j : Int)) % 256)
      have hN' := hN.trans (Only.setCell wr g (off + j) (.int .u8 ((k + (j : Int)) % 256)))
      clear hB hN hc hm ha
      go_wp2
      go_roundw
      case rel => exact ⟨j + 1, _, by omega, by go_num, by go_num, R, hB', hN'⟩
      case measure => simp [intOf]; omega
    · obtain rfl : j = xs.length := by omega
      go_wp2
      go_ret
      refine ⟨rfl, ?_, hN⟩
      rw [← hm.all]
      exact hB

set_option maxHeartbeats 400000 in
theorem heldByteS_big (w : World) (g : Nat) (a : Option Addr) (ca n : Nat) (k : Int) (ha : Rd w g a .u8 (marks k n)) (hn : n ≤ 4194304) (k0 : 0 ≤ k) (k1 : k ≤ 1099511627776) :
    Calls Try.prog 12 #[.slice a n ca, .int .i64 k] w fun e w' => e = .returned (.int .i64 (k + (n : Int))) ∧ w' = w := by
  go_enter Try.func12, Try.ntmps12
  go_wp2
  go_loop [1, 5] (fun q i => ∃ (j : Nat), j ≤ n ∧ i = .int .i64 j ∧ q = .int .i64 (k + (j : Int))) (fun _ i => n - (intOf i).toNat)
  case atStart => exact ⟨0, Nat.zero_le _, rfl, by go_num⟩
  case round =>
    obtain ⟨j, hj, rfl, rfl⟩ := hrel
    by_cases hlt : j < n
    · obtain ⟨off, rfl, hc⟩ := ha (by rw [marks_len]; omega)
      have h1 := hc j (by rw [marks_len]; exact hlt)
      rw [marks_get k n j hlt] at h1
      clear hc
      go_wp2
      go_round
      case rel => exact ⟨j + 1, by omega, by go_num, by go_num⟩
      case measure => simp [intOf]; omega
    · obtain rfl : j = n := by omega
      go_wp2
      go_ret
      exact ⟨rfl, rfl⟩
theorem row_new {w : World} {n : FuncId} {args : Array Value} {xs : List Int} (h : Calls Try.prog n args w fun e w' => (∃ v, e = .returned v ∧ RowB w' w.heap.size v xs) ∧ Below w.heap.size w w') :
    Calls Try.prog n args w fun e w' => NewRow w.heap.size w' e .u8 xs ∧ Below w.heap.size w w' :=
  h.mono (by rintro e w' ⟨⟨v, rfl, R⟩, n⟩; obtain ⟨a, c, g, rfl, o, p, q, r⟩ := R.own; exact ⟨⟨a, c, g, rfl, o, p, q, r⟩, n⟩)
end Go.Proofs.Ythfbchkonklmkaa

/-
  The laws' helpers on what Open answers (written by gens/reso.py).
-/
namespace Go.Proofs.Ythfbchkonklmkaa
open Go Go.RowKit

theorem two_kept {w w1 : World} {x y : Value} {t : TypeId} (n : Below (w.alloc (.cells #[x, y] t)).heap.size (w.alloc (.cells #[x, y] t)) w1) :
    w1.cell? ⟨w.heap.size, 0, none⟩ = some x ∧ w1.cell? ⟨w.heap.size, 1, none⟩ = some y ∧ w1.frozen? ⟨w.heap.size, 0, none⟩ = false ∧ w1.frozen? ⟨w.heap.size, 1, none⟩ = false ∧ w.heap.size < w1.heap.size := by
  have hs : w.heap.size < (w.alloc (.cells #[x, y] t)).heap.size := by simp
  refine ⟨?_, ?_, ?_, ?_, by have := n.size; omega⟩
  · rw [n.cell (p := ⟨w.heap.size, 0, none⟩) hs]; simp [World.cell?_alloc_at]
  · rw [n.cell (p := ⟨w.heap.size, 1, none⟩) hs]; simp [World.cell?_alloc_at]
  · rw [n.frozen (p := ⟨w.heap.size, 0, none⟩) hs]; simp [World.frozen?_alloc_at]
  · rw [n.frozen (p := ⟨w.heap.size, 1, none⟩) hs]; simp [World.frozen?_alloc_at]

/-- A block of two cells, known and free. -/
structure Two (w : World) (p : Nat) (x y : Value) : Prop where
  c0 : w.cell? ⟨p, 0, none⟩ = some x
  c1 : w.cell? ⟨p, 1, none⟩ = some y
  f0 : w.frozen? ⟨p, 0, none⟩ = false
  f1 : w.frozen? ⟨p, 1, none⟩ = false
theorem Two.lt {w : World} {p : Nat} {x y : Value} (h : Two w p x y) : p < w.heap.size := block_lt_of_cell h.c0
theorem Two.of_block {w w' : World} {p : Nat} {x y : Value} (h : Two w p x y) (hb : w'.heap[p]? = w.heap[p]?) : Two w' p x y :=
  ⟨(World.cell?_of_block (a := ⟨p, 0, none⟩) hb).trans h.c0, (World.cell?_of_block (a := ⟨p, 1, none⟩) hb).trans h.c1, (World.frozen?_of_block (a := ⟨p, 0, none⟩) hb).trans h.f0, (World.frozen?_of_block (a := ⟨p, 1, none⟩) hb).trans h.f1⟩
theorem Two.up {w w' : World} {p : Nat} {x y : Value} (h : Two w p x y) (n : Below w.heap.size w w') : Two w' p x y := h.of_block (n.block p h.lt)
theorem Two.only {w w' : World} {p g : Nat} {x y : Value} (h : Two w p x y) (n : Only g w w') (hne : p ≠ g) : Two w' p x y := h.of_block (n.block p hne)
theorem Two.new (w : World) (x y : Value) (t : TypeId) : Two (w.alloc (.cells #[x, y] t)) w.heap.size x y := by
  obtain ⟨k1, k2, k3, k4, _⟩ := two_kept (Below.refl (w.alloc (.cells #[x, y] t)).heap.size (w.alloc (.cells #[x, y] t)))
  exact ⟨k1, k2, k3, k4⟩


theorem NewO.at {B B' : Nat} {w : World} {e : Ending} {b : Bool} {ys : List Int} (h : NewO B w e b ys) (h1 : B' ≤ B) (h2 : B' < w.heap.size) :
    ∃ (a : Option Addr) (c g : Nat), e = .returned (.agg #[.bool b, .slice a ys.length c]) ∧ Own w g a .u8 ys ∧ B' ≤ g ∧ g < w.heap.size ∧ (0 < ys.length → B ≤ g) := by
  obtain ⟨a, c, g, he, o, _, _, hg⟩ := h
  by_cases h0 : 0 < ys.length
  · exact ⟨a, c, g, he, o, by omega, o.rd.lt h0, fun _ => hg⟩
  · obtain rfl : ys = [] := List.eq_nil_of_length_eq_zero (by omega)
    exact ⟨a, c, B', he, Own.nil _ _ _ _, Nat.le_refl _, h2, fun h => absurd h (by simp)⟩
set_option maxHeartbeats 1000000 in
theorem eqOpenResult_same (w : World) (t : Bool) (g g' : Nat) (a b : Option Addr) (ca cb : Nat) (ys : List Int) (ha : Rd w g a .u8 ys) (hb : Rd w g' b .u8 ys) (hn : ys.length ≤ 1048576) :
    Calls Try.prog 17 #[.agg #[.bool t, .slice a ys.length ca], .agg #[.bool t, .slice b ys.length cb]] w fun e w' => e = .returned (.bool true) ∧ Below w.heap.size w w' := by
  have n1 : Below w.heap.size w (w.alloc (.cells #[.bool t, .slice a ys.length ca] 30)) := (Below.refl _ _).alloc (Nat.le_refl _) _
  have n2 : Below w.heap.size w ((w.alloc (.cells #[.bool t, .slice a ys.length ca] 30)).alloc (.cells #[.bool t, .slice b ys.length cb] 30)) := n1.alloc (by simp) _
  cases t
  all_goals
    go_enter Try.func17, Try.ntmps17
    go_wp2_with fail
    refine (eqByteS_same _ g g' a b ca cb ys (ha.up n2) (hb.up n2) hn).mono ?_
    rintro e w3 ⟨rfl, n3⟩
    go_wp2
    go_ret
    exact ⟨rfl, nxt n2 n3⟩
set_option maxHeartbeats 1000000 in
theorem markOpenResult_any (w : World) (t : Bool) (g : Nat) (a : Option Addr) (ca : Nat) (ys : List Int) (k : Int) (ha : Own w g a .u8 ys) (hn : ys.length ≤ 1048576) (k0 : 0 ≤ k) (k1 : k ≤ 1099511627776) :
    Calls Try.prog 18 #[.agg #[.bool t, .slice a ys.length ca], .int .i64 k] w fun e w' => e = .returned (.int .i64 (k + (ys.length : Int))) ∧ Own w' g a .u8 (marks k ys.length) ∧ ∃ w1, Below w.heap.size w w1 ∧ Only g w1 w' := by
  have n1 : Below w.heap.size w (w.alloc (.cells #[.bool t, .slice a ys.length ca] 30)) := (Below.refl _ _).alloc (Nat.le_refl _) _
  go_enter Try.func18, Try.ntmps18
  go_wp2_with fail
  refine (markByteS_any _ g a ca ys k (ha.up n1) hn k0 k1).mono ?_
  rintro e w2 ⟨rfl, o2, O2⟩
  go_wp2
  go_ret
  exact ⟨rfl, o2, _, n1, O2⟩
set_option maxHeartbeats 1000000 in
theorem heldOpenResult_any (w : World) (t : Bool) (g : Nat) (a : Option Addr) (ca n : Nat) (k : Int) (ha : Rd w g a .u8 (marks k n)) (hn : n ≤ 1048576) (k0 : 0 ≤ k) (k1 : k ≤ 1099511627776) :
    Calls Try.prog 19 #[.agg #[.bool t, .slice a n ca], .int .i64 k] w fun e w' => e = .returned (.int .i64 (k + (n : Int))) ∧ Below w.heap.size w w' := by
  have n1 : Below w.heap.size w (w.alloc (.cells #[.bool t, .slice a n ca] 30)) := (Below.refl _ _).alloc (Nat.le_refl _) _
  have t1 : decide (k + (n : Int) < 0) = false := by simp; omega
  go_enter Try.func19, Try.ntmps19
  go_wp2_with fail
  refine (heldByteS_any _ g a ca n k (ha.up n1) hn k0 k1).mono ?_
  rintro e w2 ⟨rfl, rfl⟩
  go_wp2
  go_ret
  exact ⟨rfl, n1⟩
end Go.Proofs.Ythfbchkonklmkaa

/-
  The law FnSealOpen (written by gens/lso2.py).
-/
namespace Go.Proofs.Ythfbchkonklmkaa
open Go Go.RowKit

/-- An integer within two bounds; a byte with one of 1 to 255 laid over it. -/
def Fact.iv (k : IntKind) (a b : Int) : Fact := ⟨fun v _ => ∃ y, v = .int k y ∧ a ≤ y ∧ y ≤ b, fun _ h => h⟩
def Fact.xv (x : Int) : Fact := ⟨fun v _ => ∃ y, v = .int .u8 (bits BinOp.xor IntKind.u8 x y) ∧ 1 ≤ y ∧ y ≤ 255, fun _ h => h⟩
theorem fldO (w : World) (b : Bool) (v : Value) : (Instr.field 30 (.agg #[.bool b, v]) 0).run Try.prog w = .ok (.bool b) w := by kernel_rfl
theorem copyC_own (w : World) (v : Value) (xs : List Int) (h : DR w v xs) (hn : xs.length ≤ 1048576) : Calls Try.prog 22 #[v] w fun e w' => ∃ (a : Option Addr) (c g : Nat), e = .returned (.slice a xs.length c) ∧ Own w' g a .u8 xs ∧ (a = none → c = 0) ∧ xs.length ≤ c ∧ w.heap.size ≤ g ∧ Below w.heap.size w w' := by
  obtain ⟨a, c, g, rfl, r, p, q⟩ := h
  exact (lwCopy_any w g a c xs r p hn).mono (by rintro e w' ⟨⟨a, c, g, rfl, o, p, q, b⟩, n⟩; exact ⟨a, c, g, rfl, o, p, q, b, n⟩)
theorem to32_take (xs : List Int) : ((to32 xs).take 12).length = 12 := by rw [List.length_take, to32_len]; rfl
set_option maxRecDepth 100000 in
set_option maxHeartbeats 16000000 in
theorem sealOpen_law (w : World) (g0 : Nat) (a0 : Option Addr) (c0 : Nat) (X0 : List Int) (hX0 : Rd w g0 a0 .u8 X0) (bX0 : Byt X0) (g1 : Nat) (a1 : Option Addr) (c1 : Nat) (X1 : List Int) (hX1 : Rd w g1 a1 .u8 X1) (bX1 : Byt X1) :
    Calls Try.prog 6 #[.slice a0 X0.length c0, .slice a1 X1.length c1] w fun e w' => e = .returned (.bool true) ∧ Below w.heap.size w w' := by
  by_cases q0 : X0.length ≤ 1048576
  · have u0 : decide ((1048576 : Int) < (X0.length : Int)) = false := by simp; omega
    by_cases q1 : X1.length ≤ 1048576
    · have u1 : decide ((1048576 : Int) < (X1.length : Int)) = false := by simp; omega
      go_enter Try.func6, Try.ntmps6
      have N : Below w.heap.size w w := Below.refl _ _
      go_wp2_with fail
      refine (drawSeal_any w g0 a0 c0 X0 hX0 bX0 q0).mono ?_
      rintro e w1 ⟨ks, ns, es, ds, x1, x2, x3, x4, rfl, D1, D2, D3, D4, m1⟩
      have k1 := D1.row
      have n1 := D2.row
      have E := D3.row
      have P := D4.row
      have kb := D1.byt
      have nb := D2.byt
      have eb := D3.byt
      have pb := D4.byt
      have el := D3.len
      have pl := D4.len
      clear D1 D2 D3 D4
      replace N := nxt N m1
      clear m1
      change DR w1 x3 es at E
      change DR w1 x4 ds at P
      obtain ⟨a2, c2, g2, rfl, r2, p2, s2⟩ := k1
      obtain ⟨a3, c3, g3, rfl, r3, p3, s3⟩ := n1
      go_wp2_with fail
      refine (lw32_any w1 g2 a2 c2 ks r2).mono ?_
      rintro e w2 ⟨rfl, BK, m2⟩
      have r3 := r3.up m2
      have K : DR w2 (.slice (some ⟨w1.heap.size, 0, none⟩) 32 32) (to32 ks) := ⟨some ⟨w1.heap.size, 0, none⟩, 32, w1.heap.size, by rw [to32_len], BK.own0.rd, by simp, by rw [to32_len]; exact Nat.le_refl _⟩
      clear BK
      replace E := E.up m2
      replace P := P.up m2
      replace N := nxt N m2
      clear m2
      go_wp2_with fail
      refine (lw32_any w2 g3 a3 c3 ns r3).mono ?_
      rintro e w3 ⟨rfl, BN, m3⟩
      have Q : DR w3 (.slice (some ⟨w2.heap.size, 0, none⟩) 12 32) ((to32 ns).take 12) := ⟨some ⟨w2.heap.size, 0, none⟩, 32, w2.heap.size, by rw [to32_take], BN.own0.rd.take 12, by simp, by rw [to32_take]; decide⟩
      clear BN r2 r3
      replace E := E.up m3
      replace P := P.up m3
      replace K := K.up m3
      replace N := nxt N m3
      clear m3
      have fk : fitK (to32 ks) ((to32 ns).take 12) = true := by unfold fitK; rw [to32_len, to32_take]; rfl
      have kl : (to32 ks).length ≤ 1048576 := by rw [to32_len]; decide
      have ql : ((to32 ns).take 12).length ≤ 1048576 := by rw [to32_take]; decide
      replace kb := to32_byt kb
      replace nb := byt_take (to32_byt nb) 12
      generalize to32 ks = key at *
      generalize (to32 ns).take 12 = non at *
      obtain ⟨op1, op2⟩ := open_seal (ex := es) (plain := ds) fk pb
      obtain ⟨-, -, sl⟩ := opT_seA (ex := es) (plain := ds) fk
      have mb := seA_byt (key := key) (non := non) (ex := es) pb
      obtain ⟨M, hM⟩ : ∃ M, M = seA key non es ds := ⟨_, rfl⟩
      rw [← hM] at op1 op2 sl mb
      have HM := hide hM
      have BAD := fun p x h1 h2 h3 => hide (open_bad (key := key) (non := non) (ex := es) (M := M) p x h1 h2 h3 op1)
      have SL := hide sl
      have OP1 := hide op1
      have OP2 := hide op2
      clear hM op1 op2 fk sl
      go_wp2_with fail
      refine (copyC w3 _ key K (kl)).mono ?_
      rintro e w4 ⟨vK1, rfl, K1, m4⟩
      replace E := E.up m4
      replace P := P.up m4
      replace K := K.up m4
      replace Q := Q.up m4
      replace N := nxt N m4
      clear m4
      go_wp2_with fail
      refine (copyC w4 _ non Q (ql)).mono ?_
      rintro e w5 ⟨vQ1, rfl, Q1, m5⟩
      replace E := E.up m5
      replace P := P.up m5
      replace K := K.up m5
      replace Q := Q.up m5
      replace K1 := K1.up m5
      replace N := nxt N m5
      clear m5
      go_wp2_with fail
      refine (copyC w5 _ es E (by omega)).mono ?_
      rintro e w6 ⟨vE1, rfl, E1, m6⟩
      replace E := E.up m6
      replace P := P.up m6
      replace K := K.up m6
      replace Q := Q.up m6
      replace K1 := K1.up m6
      replace Q1 := Q1.up m6
      replace N := nxt N m6
      clear m6
      go_wp2_with fail
      refine (copyC w6 _ ds P (by omega)).mono ?_
      rintro e w7 ⟨vP1, rfl, P1, m7⟩
      replace E := E.up m7
      replace P := P.up m7
      replace K := K.up m7
      replace Q := Q.up m7
      replace K1 := K1.up m7
      replace Q1 := Q1.up m7
      replace E1 := E1.up m7
      replace N := nxt N m7
      clear m7
      go_wp2_with fail
      refine (sealC w7 _ _ _ _ key non es ds K1 Q1 E1 P1 kb nb eb pb (by omega)).mono ?_
      rintro e w8 ⟨vS, rfl, S, m8⟩
      rw [← HM.out] at S
      replace E := E.up m8
      replace P := P.up m8
      replace K := K.up m8
      replace Q := Q.up m8
      replace K1 := K1.up m8
      replace Q1 := Q1.up m8
      replace E1 := E1.up m8
      replace P1 := P1.up m8
      replace N := nxt N m8
      clear m8
      clear K1 Q1 E1 P1
      have ml : M.length ≤ 6000 := by have := SL.out; omega
      go_wp2_with fail
      refine (copyC w8 _ key K (kl)).mono ?_
      rintro e w9 ⟨vK2, rfl, K2, m9⟩
      replace E := E.up m9
      replace P := P.up m9
      replace K := K.up m9
      replace Q := Q.up m9
      replace S := S.up m9
      replace N := nxt N m9
      clear m9
      go_wp2_with fail
      refine (copyC w9 _ non Q (ql)).mono ?_
      rintro e w10 ⟨vQ2, rfl, Q2, m10⟩
      replace E := E.up m10
      replace P := P.up m10
      replace K := K.up m10
      replace Q := Q.up m10
      replace S := S.up m10
      replace K2 := K2.up m10
      replace N := nxt N m10
      clear m10
      go_wp2_with fail
      refine (copyC w10 _ es E (by omega)).mono ?_
      rintro e w11 ⟨vE2, rfl, E2, m11⟩
      replace E := E.up m11
      replace P := P.up m11
      replace K := K.up m11
      replace Q := Q.up m11
      replace S := S.up m11
      replace K2 := K2.up m11
      replace Q2 := Q2.up m11
      replace N := nxt N m11
      clear m11
      go_wp2_with fail
      refine (copyC w11 _ M S (by omega)).mono ?_
      rintro e w12 ⟨vS2, rfl, S2, m12⟩
      replace E := E.up m12
      replace P := P.up m12
      replace K := K.up m12
      replace Q := Q.up m12
      replace S := S.up m12
      replace K2 := K2.up m12
      replace Q2 := Q2.up m12
      replace E2 := E2.up m12
      replace N := nxt N m12
      clear m12
      go_wp2_with fail
      refine (openC w12 _ _ _ _ key non es M K2 Q2 E2 S2 kb nb eb mb (by omega)).mono ?_
      rintro e w13 ⟨vO, rfl, O, m13⟩
      rw [OP1.out]
      rw [OP2.out] at O
      replace E := E.up m13
      replace P := P.up m13
      replace K := K.up m13
      replace Q := Q.up m13
      replace S := S.up m13
      replace K2 := K2.up m13
      replace Q2 := Q2.up m13
      replace E2 := E2.up m13
      replace S2 := S2.up m13
      replace N := nxt N m13
      clear m13
      clear K2 Q2 E2 S2
      obtain ⟨sa, cs, gs, rfl, rs, ps, qs⟩ := S
      obtain ⟨ap, cp, gp, rfl, rp, pp, qp⟩ := P
      have lM : (M.length : Int) = (ds.length : Int) + 16 := by have := SL.out; omega
      have P : DR w13 (.slice ap ds.length cp) ds := ⟨ap, cp, gp, rfl, rp, pp, qp⟩
      have S : DR w13 (.slice sa M.length cs) M := ⟨sa, cs, gs, rfl, rs, ps, qs⟩
      obtain ⟨ao, co, go, rfl, ro, po, qo⟩ := O
      have O : DR w13 (.slice ao ds.length co) ds := ⟨ao, co, go, rfl, ro, po, qo⟩
      clear ro po qo
      have T := Two.new w13 (.bool true) (.slice ao ds.length co) 30
      have m14 : Below w13.heap.size w13 (w13.alloc (.cells #[.bool true, .slice ao ds.length co] 30)) := (Below.refl _ _).alloc (Nat.le_refl _) _
      replace E := E.up m14
      replace P := P.up m14
      replace K := K.up m14
      replace Q := Q.up m14
      replace S := S.up m14
      replace O := O.up m14
      replace N := nxt N m14
      have Tc0 := T.c0
      have Tc1 := T.c1
      have HPs := hide (And.intro ps (And.intro qs (And.intro pp qp)))
      have bigM : (M.length : Int) ≤ 6000 := by omega
      clear rs rp ps qs pp qp
      go_wp2_with fail
      generalize w13.alloc (.cells #[.bool true, .slice ao ds.length co] 30) = w14 at *
      clear m14 Tc0 Tc1 lM
      refine (sameC w14 _ _ ds O P).mono ?_
      rintro e w' ⟨rfl, h⟩
      have h := h.symm
      subst h
      go_wp2_with fail
      refine (copyC_own w14 _ M S (by omega)).mono ?_
      rintro e w15 ⟨ab, cb, gb, rfl, ob, pb', qb, lb, mB⟩
      have zb := mB.size
      go_wp2_with fail
      refine (lwAt_any w15 g1 a1 c1 X1 0 16 (hX1.up (nxt N mB)) bX1 q1 (by omega) (by omega) (by omega) (by omega)).mono ?_
      rintro e w' ⟨r, rfl, r16, mm, rfl⟩
      have nd := below_drewN (Below.refl w15.heap.size w15) mm
      have mC := nxt mB nd
      have ob := ob.up nd
      have zc := nd.size
      have Nc := nxt N mC
      generalize w15.drewN mm = wb at *
      clear nd mB
      obtain ⟨p, hp⟩ : ∃ p : Nat, p = M.length - 1 - r := ⟨_, rfl⟩
      have M16 : 16 ≤ M.length := by have := SL.out; omega
      have pl' : p < M.length := by omega
      have pm : M.length - 16 ≤ p := by omega
      have pI : (M.length : Int) - 1 - (r : Int) = (p : Int) := by omega
      have pJ : (p : Int) < (M.length : Int) := by omega
      clear hp
      obtain ⟨om, rfl, hcm⟩ := ob (by omega)
      obtain ⟨cx, fx⟩ := hcm p pl'
      have xb := mb p
      have gbl := ob.rd.lt (by omega)
      have NX : ∀ V, Below wb.heap.size wb V → Hid (Calls Try.prog 24 #[.slice a1 X1.length c1, .int .i64 1, .int .i64 255] V fun e w' => ∃ r : Int, e = .returned (.int .i64 r) ∧ (0 ≤ r ∧ r < 255) ∧ Below V.heap.size V w') := fun V n =>
        (lwAt_any V g1 a1 c1 X1 1 255 (hX1.up (nxt Nc n)) bX1 q1 (by omega) (by omega) (by omega) (by omega)).mono (by rintro e w' ⟨r, rfl, h, m, rfl⟩; exact ⟨(r : Int), rfl, ⟨by omega, h⟩, below_drewN (Below.refl _ _) m⟩)
      have KC : ∀ V, Below wb.heap.size wb V → Hid (V.cell? ⟨gb, om + p, none⟩ = some (.int .u8 (M.getD p 0)) ∧ V.frozen? ⟨gb, om + p, none⟩ = false) := fun V n => ⟨(World.cell?_of_block (a := ⟨gb, om + p, none⟩) (n.block gb gbl)).trans cx, (World.frozen?_of_block (a := ⟨gb, om + p, none⟩) (n.block gb gbl)).trans fx⟩
      have FIN : ∀ (u : World) (y : Int), Below wb.heap.size wb u → (1 ≤ y ∧ y < 256) → Hid (Below w14.heap.size w14 (u.setCell ⟨gb, om + p, none⟩ (.int .u8 (bits BinOp.xor IntKind.u8 (M.getD p 0) y))) ∧ DR (u.setCell ⟨gb, om + p, none⟩ (.int .u8 (bits BinOp.xor IntKind.u8 (M.getD p 0) y))) (.slice (some ⟨gb, om, none⟩) M.length cb) (M.set p (bits BinOp.xor IntKind.u8 (M.getD p 0) y)) ∧ Byt (M.set p (bits BinOp.xor IntKind.u8 (M.getD p 0) y)) ∧ opB key non es (M.set p (bits BinOp.xor IntKind.u8 (M.getD p 0) y)) = false ∧ (M.set p (bits BinOp.xor IntKind.u8 (M.getD p 0) y)).length = M.length) := fun u' y nd hy => by
        have O2 := Only.setCell u' gb (om + p) (.int .u8 (bits BinOp.xor IntKind.u8 (M.getD p 0) y))
        have u := (ob.up nd).store p pl' (bits BinOp.xor IntKind.u8 (M.getD p 0) y)
        have sl : (M.set p (bits BinOp.xor IntKind.u8 (M.getD p 0) y)).length = M.length := by simp
        exact ⟨(nxt mC nd).trans (O2.below lb), ⟨some ⟨gb, om, none⟩, cb, gb, by rw [sl], u.rd, by simp, by rw [sl]; exact qb⟩, byt_put mb p (xor8_byt xb ⟨by omega, by omega⟩), (BAD p _ pm pl' (xor_ne xb hy)).out, sl⟩
      have FIN' := hide FIN
      have HQB := hide qb
      have bigX : (M.length : Int) ≤ 6000 := by omega
      clear FIN hcm ob BAD cx fx
      generalize M.getD p 0 = x at *
      go_wp2_with fail
      refine region_store 12 _ (fun i => [Fact.eq (.slice (some ⟨gb, om, none⟩) M.length cb), Fact.eq (.int .i64 (p : Int)), Fact.eq (.slice (some ⟨gb, om, none⟩) M.length cb), Fact.eq (.int .i64 (p : Int)), Fact.eq (.pointer (some ⟨gb, om + p, none⟩)), Fact.eq (.int .u8 x), Fact.eq (.slice a1 X1.length c1), Fact.iv .i64 0 254, Fact.iv .i64 1 255, Fact.iv .u8 1 255, Fact.xv x, Fact.eq (.pointer (some ⟨gb, om + p, none⟩))].getD i Fact.no) (by kernel_rfl) (by kernel_rfl) rfl rfl ?_ ?_
      · intro i hi
        obtain rfl | rfl | rfl | rfl | rfl | rfl | rfl | rfl | rfl | rfl | rfl | rfl : i = 0 ∨ i = 1 ∨ i = 2 ∨ i = 3 ∨ i = 4 ∨ i = 5 ∨ i = 6 ∨ i = 7 ∨ i = 8 ∨ i = 9 ∨ i = 10 ∨ i = 11 := by omega
        · refine step_pure rfl fun f u hb hw hf => ?_
          have e1 : f.tmps[13]?.getD undef = .slice (some ⟨gb, om, none⟩) M.length cb := gdv (hb.2.2 13 (by kernel_rfl))
          exact ⟨.slice (some ⟨gb, om, none⟩) M.length cb, by simp [go_sem, e1], rfl⟩
        · refine step_pure rfl fun f u hb hw hf => ?_
          have e1 : f.tmps[14]?.getD undef = .int .i64 (p : Int) := gdv (hb.2.2 14 (by kernel_rfl))
          exact ⟨.int .i64 (p : Int), by simp [go_sem, e1], rfl⟩
        · refine step_pure rfl fun f u hb hw hf => ?_
          have e1 : f.tmps[13]?.getD undef = .slice (some ⟨gb, om, none⟩) M.length cb := gdv (hb.2.2 13 (by kernel_rfl))
          exact ⟨.slice (some ⟨gb, om, none⟩) M.length cb, by simp [go_sem, e1], rfl⟩
        · refine step_pure rfl fun f u hb hw hf => ?_
          have e1 : f.tmps[14]?.getD undef = .int .i64 (p : Int) := gdv (hb.2.2 14 (by kernel_rfl))
          exact ⟨.int .i64 (p : Int), by simp [go_sem, e1], rfl⟩
        · refine step_pure rfl fun f u hb hw hf => ?_
          have e1 : f.tmps[86]?.getD undef = .slice (some ⟨gb, om, none⟩) M.length cb := gdv (hf 2 86 (by kernel_rfl))
          have e2 : f.tmps[87]?.getD undef = .int .i64 (p : Int) := gdv (hf 3 87 (by kernel_rfl))
          exact ⟨.pointer (some ⟨gb, om + p, none⟩), by simp [go_sem, e1, e2, pJ], rfl⟩
        · refine step_pure rfl fun f u hb hw hf => ?_
          have e1 : f.tmps[88]?.getD undef = .pointer (some ⟨gb, om + p, none⟩) := gdv (hf 4 88 (by kernel_rfl))
          have hc := (KC u hw).out.1
          exact ⟨.int .u8 x, by simp [go_sem, e1, hc], rfl⟩
        · refine step_pure rfl fun f u hb hw hf => ?_
          have e1 : f.tmps[1]?.getD undef = .slice a1 X1.length c1 := gdv (hb.2.2 1 (by kernel_rfl))
          exact ⟨.slice a1 X1.length c1, by simp [go_sem, e1], rfl⟩
        · refine step_callv rfl 24 _ _ rfl (by kernel_rfl) fun f u hb hw hf => ?_
          have e1 : f.tmps.getD 90 undef = .slice a1 X1.length c1 := hf 6 90 (by kernel_rfl)
          show Calls Try.prog 24 #[f.tmps.getD 90 undef, .int .i64 1, .int .i64 255] u _
          rw [e1]
          exact (NX u hw).out.mono (by rintro e w' ⟨r, rfl, h, n⟩; exact ⟨_, rfl, n, r, rfl, by omega, by omega⟩)
        · refine step_pure rfl fun f u hb hw hf => ?_
          obtain ⟨y, e1, y0, y1⟩ := hf 7 91 (by kernel_rfl)
          have e2 : f.tmps[91]?.getD undef = .int .i64 y := gdv e1
          have wy : IntKind.i64.wrap (1 + y) = 1 + y := by rw [IntKind.wrap_i64]; omega
          exact ⟨.int .i64 (1 + y), by simp [go_sem, e2, wy], 1 + y, rfl, by omega, by omega⟩
        · refine step_pure rfl fun f u hb hw hf => ?_
          obtain ⟨y, e1, y0, y1⟩ := hf 8 92 (by kernel_rfl)
          have e2 : f.tmps[92]?.getD undef = .int .i64 y := gdv e1
          have wy : IntKind.u8.wrap y = y := by rw [IntKind.wrap_u8]; omega
          exact ⟨.int .u8 y, by simp [go_sem, e2, wy], y, rfl, by omega, by omega⟩
        · refine step_pure rfl fun f u hb hw hf => ?_
          have e1 : f.tmps[89]?.getD undef = .int .u8 x := gdv (hf 5 89 (by kernel_rfl))
          obtain ⟨y, e2, y0, y1⟩ := hf 9 93 (by kernel_rfl)
          have e3 : f.tmps[93]?.getD undef = .int .u8 y := gdv e2
          exact ⟨.int .u8 (bits BinOp.xor IntKind.u8 x y), by simp [go_sem, e1, e3], y, rfl, by omega, by omega⟩
        · refine step_pure rfl fun f u hb hw hf => ?_
          have e1 : f.tmps[84]?.getD undef = .slice (some ⟨gb, om, none⟩) M.length cb := gdv (hf 0 84 (by kernel_rfl))
          have e2 : f.tmps[85]?.getD undef = .int .i64 (p : Int) := gdv (hf 1 85 (by kernel_rfl))
          exact ⟨.pointer (some ⟨gb, om + p, none⟩), by simp [go_sem, e1, e2, pJ], rfl⟩
      · intro f u hb' hw hf
        have e95 : f.tmps[95]?.getD undef = .pointer (some ⟨gb, om + p, none⟩) := gdv (hf 11 95 (by kernel_rfl))
        obtain ⟨y, e94', y0, y1⟩ := hf 10 94 (by kernel_rfl)
        have e94 : f.tmps[94]?.getD undef = .int .u8 (bits BinOp.xor IntKind.u8 x y) := gdv e94'
        obtain ⟨hcz, hfz⟩ := (KC u hw).out
        obtain ⟨mZ, BD, bdb, bdo, bdl⟩ := ((unhide FIN') u y hw ⟨by omega, by omega⟩).out
        obtain ⟨vs, hvs⟩ : ∃ vs : Nat → Value, ∀ d, f.tmps.getD d undef = vs d := ⟨_, fun _ => rfl⟩
        have ea := puts_of (md := .any) (n := 158) (k := 12) (by kernel_rfl) rfl hb' vs hvs
        unfold Oper.wp
        simp [go_sem, e95, e94, hcz, hfz]
        rw [ea]
        clear ea hvs e95 e94 e94' hf hb' hcz hfz KC NX FIN'
        simp only [puts, Act.put, List.setIfInBounds_toArray, List.set_cons_succ, List.set_cons_zero]
        have HBO := hide bdo
        have HBL := hide bdl
        clear bdo bdl
        generalize M.set p (bits BinOp.xor IntKind.u8 x y) = M' at *
        generalize u.setCell ⟨gb, om + p, none⟩ (.int .u8 (bits BinOp.xor IntKind.u8 x y)) = wz at *
        clear Nc mC
        replace E := E.up mZ
        replace P := P.up mZ
        replace K := K.up mZ
        replace Q := Q.up mZ
        replace S := S.up mZ
        replace O := O.up mZ
        replace T := T.up mZ
        replace N := nxt N mZ
        clear mZ
        go_wp2_with fail
        refine (copyC wz _ key K (kl)).mono ?_
        rintro e w16 ⟨vK3, rfl, K3, m16⟩
        replace E := E.up m16
        replace P := P.up m16
        replace K := K.up m16
        replace Q := Q.up m16
        replace S := S.up m16
        replace O := O.up m16
        replace T := T.up m16
        replace BD := BD.up m16
        replace N := nxt N m16
        clear m16
        go_wp2_with fail
        refine (copyC w16 _ non Q (ql)).mono ?_
        rintro e w17 ⟨vQ3, rfl, Q3, m17⟩
        replace E := E.up m17
        replace P := P.up m17
        replace K := K.up m17
        replace Q := Q.up m17
        replace S := S.up m17
        replace O := O.up m17
        replace T := T.up m17
        replace BD := BD.up m17
        replace K3 := K3.up m17
        replace N := nxt N m17
        clear m17
        go_wp2_with fail
        refine (copyC w17 _ es E (by omega)).mono ?_
        rintro e w18 ⟨vE3, rfl, E3, m18⟩
        replace E := E.up m18
        replace P := P.up m18
        replace K := K.up m18
        replace Q := Q.up m18
        replace S := S.up m18
        replace O := O.up m18
        replace T := T.up m18
        replace BD := BD.up m18
        replace K3 := K3.up m18
        replace Q3 := Q3.up m18
        replace N := nxt N m18
        clear m18
        go_wp2_with fail
        refine (openC w18 _ _ _ _ key non es M' K3 Q3 E3 BD kb nb eb bdb (by have := HBL.out; omega)).mono ?_
        rintro e w19 ⟨vO3, rfl, O3, m19⟩
        rw [HBO.out]
        obtain ⟨ao3, co3, go3, rfl, -, -, -⟩ := O3
        generalize (opL key non es M').length = l3
        have hfd := fldO
        replace E := E.up m19
        replace P := P.up m19
        replace K := K.up m19
        replace Q := Q.up m19
        replace S := S.up m19
        replace O := O.up m19
        replace T := T.up m19
        replace BD := BD.up m19
        replace K3 := K3.up m19
        replace Q3 := Q3.up m19
        replace E3 := E3.up m19
        replace N := nxt N m19
        clear m19
        clear K3 Q3 E3 BD
        go_wp2_with fail
        refine (copyC w19 _ key K (kl)).mono ?_
        rintro e w20 ⟨vK4, rfl, K4, m20⟩
        replace E := E.up m20
        replace P := P.up m20
        replace K := K.up m20
        replace Q := Q.up m20
        replace S := S.up m20
        replace O := O.up m20
        replace T := T.up m20
        replace N := nxt N m20
        clear m20
        go_wp2_with fail
        refine (copyC w20 _ non Q (ql)).mono ?_
        rintro e w21 ⟨vQ4, rfl, Q4, m21⟩
        replace E := E.up m21
        replace P := P.up m21
        replace K := K.up m21
        replace Q := Q.up m21
        replace S := S.up m21
        replace O := O.up m21
        replace T := T.up m21
        replace K4 := K4.up m21
        replace N := nxt N m21
        clear m21
        go_wp2_with fail
        refine (copyC w21 _ es E (by omega)).mono ?_
        rintro e w22 ⟨vE4, rfl, E4, m22⟩
        replace E := E.up m22
        replace P := P.up m22
        replace K := K.up m22
        replace Q := Q.up m22
        replace S := S.up m22
        replace O := O.up m22
        replace T := T.up m22
        replace K4 := K4.up m22
        replace Q4 := Q4.up m22
        replace N := nxt N m22
        clear m22
        go_wp2_with fail
        refine (lwAt_any w22 g1 a1 c1 X1 2 16 (hX1.up N) bX1 q1 (by omega) (by omega) (by omega) (by omega)).mono ?_
        rintro e w' ⟨t, rfl, t16, mm2, rfl⟩
        have nd2 := below_drewN (Below.refl w22.heap.size w22) mm2
        replace E := E.up nd2
        replace P := P.up nd2
        replace K := K.up nd2
        replace Q := Q.up nd2
        replace S := S.up nd2
        replace O := O.up nd2
        replace T := T.up nd2
        replace K4 := K4.up nd2
        replace Q4 := Q4.up nd2
        replace E4 := E4.up nd2
        replace N := nxt N nd2
        generalize w22.drewN mm2 = wd at *
        clear nd2
        obtain ⟨sa', cs', gs', es', rs', ps', qs'⟩ := S
        simp only [Value.slice.injEq, true_and] at es'
        obtain ⟨rfl, rfl⟩ := es'
        have tl : (M.take t).length = t := by rw [List.length_take]; omega
        have S5 : DR wd (.slice sa t cs) (M.take t) := ⟨sa, cs, gs', by rw [tl], rs'.take t, ps', by rw [tl]; omega⟩
        have tb := byt_take mb t
        have SH := hide (open_short (key := key) (non := non) (ex := es) (M := M.take t) (by rw [tl]; omega))
        have tc : (t : Int) ≤ (cs : Int) := by omega
        have TL := hide tl
        clear tl rs' ps' qs'
        generalize M.take t = MT at *
        go_wp2_with fail
        refine (copyC wd _ MT S5 (by rw [TL.out]; omega)).mono ?_
        rintro e w23 ⟨vS6, rfl, S6, m23⟩
        replace E := E.up m23
        replace P := P.up m23
        replace K := K.up m23
        replace Q := Q.up m23
        replace O := O.up m23
        replace T := T.up m23
        replace K4 := K4.up m23
        replace Q4 := Q4.up m23
        replace E4 := E4.up m23
        replace S5 := S5.up m23
        replace N := nxt N m23
        clear m23
        go_wp2_with fail
        refine (openC w23 _ _ _ _ key non es MT K4 Q4 E4 S6 kb nb eb tb (by rw [TL.out]; omega)).mono ?_
        rintro e w24 ⟨vO4, rfl, O4, m24⟩
        rw [SH.out]
        obtain ⟨ao4, co4, go4, rfl, -, -, -⟩ := O4
        generalize (opL key non es MT).length = l4
        replace E := E.up m24
        replace P := P.up m24
        replace K := K.up m24
        replace Q := Q.up m24
        replace O := O.up m24
        replace T := T.up m24
        replace K4 := K4.up m24
        replace Q4 := Q4.up m24
        replace E4 := E4.up m24
        replace S5 := S5.up m24
        replace S6 := S6.up m24
        replace N := nxt N m24
        clear m24
        clear K4 Q4 E4 S6 S5
        clear K Q E P O T
        go_wp2_with fail
        refine (drawOpen_any w24 g1 a1 c1 X1 (hX1.up N) bX1 q1).mono ?_
        rintro e w25 ⟨ks2, ns2, es2, ss2, y1, y2, y3, y4, rfl, F1, F2, F3, F4, m25⟩
        replace N := nxt N m25
        clear m25
        have k2 := F1.row
        have n2 := F2.row
        have e2 := F3.row
        have z2 := F4.row
        have kb2 := F1.byt
        have nb2 := F2.byt
        have eb2 := F3.byt
        have sb2 := F4.byt
        have kl2 := F1.len
        have nl2 := F2.len
        have el2 := F3.len
        have sl2 := F4.len
        clear F1 F2 F3 F4
        change DR w25 y1 ks2 at k2
        change DR w25 y2 ns2 at n2
        change DR w25 y3 es2 at e2
        change DR w25 y4 ss2 at z2
        go_wp2_with fail
        refine (copyC w25 _ ks2 k2 (by omega)).mono ?_
        rintro e w26 ⟨vk3, rfl, k3, m26⟩
        replace k2 := k2.up m26
        replace n2 := n2.up m26
        replace e2 := e2.up m26
        replace z2 := z2.up m26
        replace N := nxt N m26
        clear m26
        go_wp2_with fail
        refine (copyC w26 _ ns2 n2 (by omega)).mono ?_
        rintro e w27 ⟨vn3, rfl, n3, m27⟩
        replace k2 := k2.up m27
        replace n2 := n2.up m27
        replace e2 := e2.up m27
        replace z2 := z2.up m27
        replace k3 := k3.up m27
        replace N := nxt N m27
        clear m27
        go_wp2_with fail
        refine (copyC w27 _ es2 e2 (by omega)).mono ?_
        rintro e w28 ⟨ve3, rfl, e3, m28⟩
        replace k2 := k2.up m28
        replace n2 := n2.up m28
        replace e2 := e2.up m28
        replace z2 := z2.up m28
        replace k3 := k3.up m28
        replace n3 := n3.up m28
        replace N := nxt N m28
        clear m28
        go_wp2_with fail
        refine (copyC w28 _ ss2 z2 (by omega)).mono ?_
        rintro e w29 ⟨vz3, rfl, z3, m29⟩
        replace k2 := k2.up m29
        replace n2 := n2.up m29
        replace e2 := e2.up m29
        replace z2 := z2.up m29
        replace k3 := k3.up m29
        replace n3 := n3.up m29
        replace e3 := e3.up m29
        replace N := nxt N m29
        clear m29
        go_wp2_with fail
        refine (openC w29 _ _ _ _ ks2 ns2 es2 ss2 k3 n3 e3 z3 kb2 nb2 eb2 sb2 (by omega)).mono ?_
        rintro e w30 ⟨vO5, rfl, O5, m30⟩
        replace k2 := k2.up m30
        replace n2 := n2.up m30
        replace e2 := e2.up m30
        replace z2 := z2.up m30
        replace k3 := k3.up m30
        replace n3 := n3.up m30
        replace e3 := e3.up m30
        replace z3 := z3.up m30
        replace N := nxt N m30
        clear m30
        clear k3 n3 e3 z3
        have OLb := opL_byt (key := ks2) (non := ns2) (ex := es2) sb2
        have OLl := opL_len ks2 ns2 es2 ss2
        have BK2 := fun h => hide (open_back (key := ks2) (non := ns2) (ex := es2) sb2 h)
        generalize opL ks2 ns2 es2 ss2 = PL at *
        obtain ⟨ob2, hob2⟩ : ∃ b, b = opB ks2 ns2 es2 ss2 := ⟨_, rfl⟩
        obtain ⟨a5', c5', g5', rfl, r5', p5', q5'⟩ := O5
        have O5 : DR w30 (.slice a5' PL.length c5') PL := ⟨a5', c5', g5', rfl, r5', p5', q5'⟩
        clear r5' p5' q5'
        have SOc := fun W (n : Below w30.heap.size w30 W) => hide (specOpenC W y1 y2 y3 y4 ks2 ns2 es2 ss2 (k2.up n) (n2.up n) (e2.up n) (z2.up n) kb2 nb2 eb2 sb2 (by omega))
        simp only [← hob2] at SOc BK2 ⊢
        clear hob2
        have T2 := Two.new w30 (.bool ob2) (.slice a5' PL.length c5') 30
        have m31 : Below w30.heap.size w30 (w30.alloc (.cells #[.bool ob2, .slice a5' PL.length c5'] 30)) := (Below.refl _ _).alloc (Nat.le_refl _) _
        replace k2 := k2.up m31
        replace n2 := n2.up m31
        replace e2 := e2.up m31
        replace z2 := z2.up m31
        replace O5 := O5.up m31
        replace N := nxt N m31
        have T2c0 := T2.c0
        have T2c1 := T2.c1
        go_wp2_with fail
        generalize w30.alloc (.cells #[.bool ob2, .slice a5' PL.length c5'] 30) = w31 at *
        clear T2c0 T2c1
        have SO : ∀ V, (∃ n, V = w31.drewN n) → Calls Try.prog 15 #[y1, y2, y3, y4] V fun e w' => ∃ (a : Option Addr) (n c : Nat), e = .returned (.agg #[.bool ob2, .slice a n c]) ∧ Below w31.heap.size w31 w' := by
          rintro V ⟨n, rfl⟩
          have nd := below_drewN (Below.refl w31.heap.size w31) n
          exact (SOc _ (m31.trans (nd.mono m31.size))).out.mono (by rintro e w' ⟨a, n1, c, rfl, n'⟩; exact ⟨a, n1, c, rfl, nxt nd n'⟩)
        have SO' := hide SO
        have T20 := T2.c0
        have T21 := T2.c1
        clear SO SOc
        go_region_with (go_at_call 15; refine ((unhide SO') _ ?_).mono ?_; exact ⟨1, rfl⟩; rintro e wX ⟨aX, lX, cX, rfl, nX⟩; have T2X := T2.up nX; have T20' := T2X.c0; have T21' := T2X.c1)
        all_goals
          have NX := nxt N nX
          cases ob2 with
          | false =>
            go_wp2
            go_ret
            exact ⟨rfl, NX⟩
          | true =>
            have BK := BK2 rfl
            go_wp2_with fail
            refine (sealC wX _ _ _ _ ks2 ns2 es2 PL (k2.up nX) (n2.up nX) (e2.up nX) (O5.up nX) kb2 nb2 eb2 OLb (by omega)).mono ?_
            rintro e wY ⟨vY, rfl, DY, nY⟩
            rw [BK.out] at DY
            go_wp2_with fail
            refine (sameC wY _ _ ss2 DY ((z2.up nX).up nY)).mono ?_
            rintro e w' ⟨rfl, h⟩
            have h := h.symm
            subst h
            go_wp2
            go_ret
            exact ⟨rfl, nxt NX nY⟩
    · have u1 : decide ((1048576 : Int) < (X1.length : Int)) = true := by simp; omega
      go_enter Try.func6, Try.ntmps6
      go_wp2
      go_ret
      exact ⟨rfl, Below.refl _ _⟩
  · have u0 : decide ((1048576 : Int) < (X0.length : Int)) = true := by simp; omega
    go_enter Try.func6, Try.ntmps6
    go_wp2
    go_ret
    exact ⟨rfl, Below.refl _ _⟩
end Go.Proofs.Ythfbchkonklmkaa
