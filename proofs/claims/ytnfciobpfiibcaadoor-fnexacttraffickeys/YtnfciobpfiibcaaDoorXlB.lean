
/-
  The info of a label: the program's and the model's (written by gens/xlb.py).
-/
import Derived.Test.YtnfciobpfiibcaaDoorXlA
import Derived.Test.YtnfciobpfiibcaaDoorHeR
import Derived.Test.YtnfciobpfiibcaaDoorPdS
namespace Go.Proofs.YtnfciobpfiibcaaDoor
set_option maxRecDepth 100000
open Go Go.RowKit

set_option maxHeartbeats 1000000 in
theorem l1BigR_any (w : World) (v : Int) (t : Nat) (h0 : 0 ≤ v) (h1 : v < 9223372036854775808) (ht : t ≤ 1048576) :
    Calls Tryd.prog 73 #[.int .i64 v, .int .i64 (t : Int)] w fun e w' => e = .returned (.slice (some ⟨w.heap.size, 0, none⟩) t t) ∧ RowB w' w.heap.size (.slice (some ⟨w.heap.size, 0, none⟩) t t) (bigL v t) ∧ Below w.heap.size w w' := by
  obtain ⟨i0, hi, hz0, hz1, hz2⟩ := info_parts Tryd.info5
  go_enter Tryd.func73, Tryd.ntmps73
  go_wp2_with (at_make; refine wpList_make_full _ rfl _ _ 22 rfl w.heap.size 5 i0 (.int .u8 0) 1 Tryd.underlying22 hi hz0 hz1 .i64 .i64 _ _ t rfl rfl rfl rfl (by rw [hz2]; omega) (by unfold maxLen; omega) (Nat.le_refl _) ?_; intro w1 hown hgrow)
  have hB0 := Blk.of_made hown
  have T0 := Ty5.of_made hown
  have hN0 : Below w.heap.size w w1 := (Below.refl _ _).grown hgrow (Nat.le_refl _) (by simp)
  clear hown hgrow
  go_loopw [0, 6] (fun q i wr => ∃ (k : Nat) (u j : Int) (ys : List Int), k ≤ t ∧ q = .int .i64 u ∧ i = .int .i64 j ∧ j + (k : Int) + 1 = (t : Int) ∧ 0 ≤ u ∧ u < 9223372036854775808 ∧ Hid (u = v / 256 ^ k) ∧ BigTo v t ys k ∧ Blk wr w.heap.size .u8 ys ∧ Ty5 wr w.heap.size ∧ Below w.heap.size w wr) (fun _ i _ => (intOf i + 1).toNat)
  case atStart => exact ⟨0, v, (t : Int) - 1, _, Nat.zero_le _, rfl, by go_num, by omega, h0, h1, by show _ = _; simp, BigTo.zero v t, hB0, T0, hN0⟩
  case round =>
    obtain ⟨k, u, j, ys, hk, rfl, rfl, hj, u0, u1, hu, hT, hB, hTy, hN⟩ := hrel
    by_cases hlt : 0 ≤ j
    · obtain ⟨p, rfl⟩ := Int.eq_ofNat_of_zero_le hlt
      have R := hT.step (by omega)
      rw [show t - 1 - k = p by omega, ← hu.out] at R
      have hl : p < ys.length := by rw [hT.1]; omega
      have hcy := hB.cell hl
      have hfy := hB.free p
      have hB' := hB.store p (u % 256)
      have hTy' := hTy.set p (.int .u8 (u % 256))
      have hN' : Below w.heap.size w (wr.setCell ⟨w.heap.size, p, none⟩ (.int .u8 (u % 256))) := hN.setCell (Nat.le_refl _) _
      have hu' : Hid (u / 256 = v / 256 ^ (k + 1)) := by show _ = _; rw [hu.out, div256]
      have p1 : (p : Int) < (t : Int) := by omega
      have HJ := hide hj
      clear hB hN hu hT hj
      go_wp2
      go_roundw
      case rel => exact ⟨k + 1, u / 256, (p : Int) - 1, _, by have := HJ.out; omega, by go_num, by go_num, by have := HJ.out; omega, by omega, by omega, hu', R, hB', hTy', hN'⟩
      case measure => simp [intOf]
    · obtain rfl : k = t := by omega
      have K := hide hT.all
      obtain rfl : j = -1 := by omega
      clear hj hu hT
      go_wp2
      go_ret
      have RB := RowB.of_blk (B := w.heap.size) hB hTy (Nat.le_refl _) (by rw [K.out, bigL_len]; exact ht)
      rw [K.out, bigL_len] at RB
      exact ⟨rfl, RB, hN⟩
def chanB : ByteArray := ⟨#[99, 104, 97, 110, 32]⟩
/-- The info. -/
def infoL (s : ByteArray) (ctx : List Int) (N : Nat) : List Int := [(N : Int) / 256, (N : Int) % 256, 5 + (s.size : Int)] ++ (strL (chanB ++ s) ++ ([(ctx.length : Int)] ++ ctx))
theorem chan_size (s : ByteArray) : (chanB ++ s).size = s.size + 5 := by
  rw [ByteArray.size_append, show chanB.size = 5 from rfl]
  omega
theorem infoL_len (s : ByteArray) (ctx : List Int) (N : Nat) : (infoL s ctx N).length = 3 + (s.size + 5) + 1 + ctx.length := by
  unfold infoL
  simp only [List.length_append, strL_len, chan_size, List.length_cons, List.length_nil]
  omega
theorem infoL_byt {s : ByteArray} {ctx : List Int} {N : Nat} (hs : s.size ≤ 200) (hc : Byt ctx) (hl : ctx.length ≤ 255) (hN : N ≤ 8160) : Byt (infoL s ctx N) := by
  unfold infoL
  refine byt_apd (byt_cons (by omega) (by omega) (byt_cons (by omega) (by omega) (byt_cons (by omega) (by omega) byt_nil))) (byt_apd (strL_byt _) (byt_apd (byt_cons (by omega) (by omega) byt_nil) hc))
theorem cat4 (a b c d : Lst) : cat [a, b, c, d] = a.xs ++ (b.xs ++ (c.xs ++ d.xs)) := by simp [cat]
theorem lsts_four (w : World) (t : TypeId) (a b c d : Lst) : Lsts (w.alloc (.cells #[.slice a.a a.xs.length a.c, .slice b.a b.xs.length b.c, .slice c.a c.xs.length c.c, .slice d.a d.xs.length d.c] t)) w.heap.size [a, b, c, d] := by
  intro j x hj
  match j, hj with
  | 0, hj => simp at hj; subst hj; simp [World.cell?_alloc_at]
  | 1, hj => simp at hj; subst hj; simp [World.cell?_alloc_at]
  | 2, hj => simp at hj; subst hj; simp [World.cell?_alloc_at]
  | 3, hj => simp at hj; subst hj; simp [World.cell?_alloc_at]
theorem blk_lit3 (w : World) (k : IntKind) (e : TypeId) (x y z : Int) : Blk (w.alloc (.cells #[.int k x, .int k y, .int k z] e)) w.heap.size k [x, y, z] := by
  refine ⟨e, ?_⟩
  show (w.heap.push _)[w.heap.size]? = _
  simp
set_option maxHeartbeats 4000000 in
theorem labelInfo_any (w : World) (s : ByteArray) (hs : s.size ≤ 200) (g : Nat) (a : Option Addr) (c : Nat) (ctx : List Int) (hr : Rd w g a .u8 ctx) (hl : ctx.length ≤ 255) (hc : a = none → c = 0) (N : Nat) (hN : N ≤ 8160) :
    Calls Tryd.prog 78 #[.string s, .slice a ctx.length c, .int .i64 (N : Int)] w fun e w' => NewRow w.heap.size w' e .u8 (infoL s ctx N) ∧ Below w.heap.size w w' := by
  have hN0 : (0 : Int) ≤ (N : Int) := by omega
  have hN1 : (N : Int) ≤ 8160 := by omega
  have sz := hide (chan_size s)
  obtain ⟨rs, hrs⟩ : ∃ l, l = infoL s ctx N := ⟨_, rfl⟩
  have HR := hide hrs
  rw [← hrs]
  clear hrs
  go_enter Tryd.func78, Tryd.ntmps78
  go_upto_region 3 with fail
  change Code.wp _ _ _ _ (w.alloc (.cells #[.int .u8 ((N : Int) / 256), .int .u8 ((N : Int) % 256), .int .u8 (5 + (s.size : Int))] 5))
  have n0 : Below w.heap.size w (w.alloc (.cells #[.int .u8 ((N : Int) / 256), .int .u8 ((N : Int) % 256), .int .u8 (5 + (s.size : Int))] 5)) := (Below.refl _ _).alloc (Nat.le_refl _) _
  have B0 := blk_lit3 w .u8 5 ((N : Int) / 256) ((N : Int) % 256) (5 + (s.size : Int))
  have z0 : (w.alloc (.cells #[.int .u8 ((N : Int) / 256), .int .u8 ((N : Int) % 256), .int .u8 (5 + (s.size : Int))] 5)).heap.size = w.heap.size + 1 := by simp
  generalize w.alloc (.cells #[.int .u8 ((N : Int) / 256), .int .u8 ((N : Int) % 256), .int .u8 (5 + (s.size : Int))] 5) = wa at *
  obtain ⟨cv, wb, hcv, rb, cb, n1, z1⟩ := conv_bytes wa (chanB ++ s)
  have sl := hide (strL_len (chanB ++ s))
  rw [← sl.out] at hcv
  have hcv' : (convert 9 22 (.string ({ data := #[99, 104, 97, 110, 32] } ++ s))).run Tryd.prog wa = .ok (.slice (some ⟨wa.heap.size, 0, none⟩) (strL (chanB ++ s)).length cv) wb := hcv
  have N1 := nxt n0 n1
  have cl : (ctx.length : Int) ≤ 255 := by omega
  have n2 : Below wb.heap.size wb (wb.alloc (.cells #[.int .u8 (ctx.length : Int)] 5)) := (Below.refl _ _).alloc (Nat.le_refl _) _
  have B2 := blk_lit1 wb .u8 5 (ctx.length : Int)
  have z2 : (wb.alloc (.cells #[.int .u8 (ctx.length : Int)] 5)).heap.size = wb.heap.size + 1 := by simp
  obtain ⟨WB, hWB⟩ : ∃ l, l = strL (chanB ++ s) := ⟨_, rfl⟩
  rw [← hWB] at rb hcv' sl
  have EW : Hid (rs = [(N : Int) / 256, (N : Int) % 256, 5 + (s.size : Int)] ++ (WB ++ ([(ctx.length : Int)] ++ ctx))) := by show _ = _; rw [HR.out, hWB]; rfl
  clear hWB hcv
  go_wp2_with (refine wpList_conv_run wa rfl 9 22 (.tmp 21) rfl _ rfl _ _ hcv' ?_)
  rw [z0] at rb z1
  rw [z1] at B2 z2
  have U2 := fun (x : List Int) (q : Nat) (ad : Option Addr) (h : Rd w q ad .u8 x) => h.up (nxt N1 n2)
  generalize wb.alloc (.cells #[.int .u8 (ctx.length : Int)] 5) = wc at *
  have n3 : Below wc.heap.size wc (wc.alloc (.cells #[.slice (some ⟨w.heap.size, 0, none⟩) 3 3, .slice (some ⟨w.heap.size + 1, 0, none⟩) WB.length cv, .slice (some ⟨w.heap.size + 1 + 1, 0, none⟩) 1 1, .slice a ctx.length c] 22)) := (Below.refl _ _).alloc (Nat.le_refl _) _
  have LS := lsts_four wc 22 ⟨w.heap.size, some ⟨w.heap.size, 0, none⟩, 3, [(N : Int) / 256, (N : Int) % 256, 5 + (s.size : Int)]⟩ ⟨w.heap.size + 1, some ⟨w.heap.size + 1, 0, none⟩, cv, WB⟩ ⟨w.heap.size + 1 + 1, some ⟨w.heap.size + 1 + 1, 0, none⟩, 1, [(ctx.length : Int)]⟩ ⟨g, a, c, ctx⟩
  have LS' : Lsts (wc.alloc (.cells #[.slice (some ⟨w.heap.size, 0, none⟩) 3 3, .slice (some ⟨w.heap.size + 1, 0, none⟩) WB.length cv, .slice (some ⟨w.heap.size + 1 + 1, 0, none⟩) 1 1, .slice a ctx.length c] 22)) wc.heap.size [⟨w.heap.size, some ⟨w.heap.size, 0, none⟩, 3, [(N : Int) / 256, (N : Int) % 256, 5 + (s.size : Int)]⟩, ⟨w.heap.size + 1, some ⟨w.heap.size + 1, 0, none⟩, cv, WB⟩, ⟨w.heap.size + 1 + 1, some ⟨w.heap.size + 1 + 1, 0, none⟩, 1, [(ctx.length : Int)]⟩, ⟨g, a, c, ctx⟩] := LS
  rw [z2] at LS'
  generalize wc.alloc (.cells #[.slice (some ⟨w.heap.size, 0, none⟩) 3 3, .slice (some ⟨w.heap.size + 1, 0, none⟩) WB.length cv, .slice (some ⟨w.heap.size + 1 + 1, 0, none⟩) 1 1, .slice a ctx.length c] 22) = wd at *
  have N3 := nxt (nxt N1 n2) n3
  have CC := concat_any wd (w.heap.size + 1 + 1 + 1) 4 4 _ rfl (by omega) LS' (by
    intro x hx
    simp only [List.mem_cons, List.not_mem_nil, or_false] at hx
    rcases hx with rfl | rfl | rfl | rfl
    · exact ⟨(((B0.up n1).up n2).up n3).own0.rd, by simp⟩
    · exact ⟨(rb.up n2).up n3, by simp⟩
    · exact ⟨(B2.up n3).own0.rd, by simp⟩
    · exact ⟨(U2 _ _ _ hr).up n3, hc⟩) (by rw [cat4]; simp) (by rw [cat4]; simp only [List.length_append, List.length_cons, List.length_nil]; have := sl.out; have := sz.out; omega)
  rw [cat4] at CC
  have CH : Hid (Calls Tryd.prog 93 #[.slice (some ⟨w.heap.size + 1 + 1 + 1, 0, none⟩) 4 4] wd fun e w' => NewRow wd.heap.size w' e .u8 rs ∧ Below wd.heap.size wd w') := by
    show Calls _ _ _ _ _
    rw [EW.out]
    exact CC
  clear CC LS LS' B0 B2 rb U2 hcv'
  refine CH.out.mono ?_
  rintro r we ⟨⟨a4, c4, g4, rfl, o4, p4, q4, r4⟩, n4⟩
  have y3 := N3.size
  go_wp2
  go_ret
  exact ⟨⟨a4, c4, g4, rfl, o4, p4, q4, by omega⟩, nxt N3 n4⟩
theorem big2 (N : Nat) (hN : N ≤ 8160) : bigL (N : Int) 2 = [(N : Int) / 256, (N : Int) % 256] := by
  unfold bigL
  simp [List.range_succ]
  omega
set_option maxHeartbeats 4000000 in
theorem l7Label_any (w : World) (s : ByteArray) (hs : s.size ≤ 200) (g : Nat) (a : Option Addr) (c : Nat) (ctx : List Int) (hr : Rd w g a .u8 ctx) (hl : ctx.length ≤ 255) (hc : a = none → c = 0) (N : Nat) (hN : N ≤ 8160) :
    Calls Tryd.prog 57 #[.string s, .slice a ctx.length c, .int .i64 (N : Int)] w fun e w' => NewRow w.heap.size w' e .u8 (infoL s ctx N) ∧ Below w.heap.size w w' := by
  obtain ⟨i0, hi, hz0, hz1, hz2⟩ := info_parts Tryd.info5
  have sz := hide (chan_size s)
  have sl := hide (strL_len (chanB ++ s))
  have BG := l1BigR_any w (N : Int) 2 (by omega) (by omega) (by decide)
  rw [big2 N hN] at BG
  have BGH := hide BG
  clear BG
  obtain ⟨rs, hrs⟩ : ∃ l, l = infoL s ctx N := ⟨_, rfl⟩
  have HR := hide hrs
  rw [← hrs]
  clear hrs
  have s1 : (s.size : Int) ≤ 200 := by omega
  have cl : (ctx.length : Int) ≤ 255 := by omega
  go_enter Tryd.func57, Tryd.ntmps57
  go_wp2_with fail
  refine BGH.out.mono ?_
  rintro r w1 ⟨rfl, R1, n1⟩
  -- the label's length
  have n2 : Below w1.heap.size w1 (w1.alloc (.cells #[.int .u8 ((s.size : Int) + 5)] 5)) := (Below.refl _ _).alloc (Nat.le_refl _) _
  obtain ⟨v3, w3, hap3, R3, n3⟩ := append_any (P := Tryd.prog) (w1.alloc (.cells #[.int .u8 ((s.size : Int) + 5)] 5)) 22 i0 Tryd.underlying22 hi hz0 hz1 hz2 w.heap.size w.heap.size _ _ (R1.up n2) _ _ 1 [(s.size : Int) + 5] (blk_lit1 w1 .u8 5 ((s.size : Int) + 5)).own0.rd (by simp) (by simp) (Nat.le_refl _) (nxt n1 n2).size
  have N3 := (nxt n1 n2).trans n3
  obtain ⟨l3, hl3⟩ : ∃ l, l = [(N : Int) / 256, (N : Int) % 256] ++ [(s.size : Int) + 5] := ⟨_, rfl⟩
  have ll3 : l3.length = 3 := by rw [hl3]; rfl
  rw [← hl3] at R3
  -- the label
  obtain ⟨cv, w4, hcv, rb, cb, n4, z4⟩ := conv_bytes w3 (chanB ++ s)
  rw [← sl.out] at hcv
  have hcv' : (convert 9 22 (.string ({ data := #[99, 104, 97, 110, 32] } ++ s))).run Tryd.prog w3 = .ok (.slice (some ⟨w3.heap.size, 0, none⟩) (strL (chanB ++ s)).length cv) w4 := hcv
  have N4 := nxt N3 n4
  obtain ⟨WB, hWB⟩ : ∃ l, l = strL (chanB ++ s) := ⟨_, rfl⟩
  rw [← hWB] at rb hcv' sl
  obtain ⟨v5, w5, hap5, R5, n5⟩ := append_any (P := Tryd.prog) w4 22 i0 Tryd.underlying22 hi hz0 hz1 hz2 w.heap.size w.heap.size _ l3 (R3.up n4) w3.heap.size (some ⟨w3.heap.size, 0, none⟩) cv WB rb (by simp) (by have := sl.out; have := sz.out; omega) (Nat.le_refl _) N4.size
  have N5 := N4.trans n5
  obtain ⟨l5, hl5⟩ : ∃ l, l = l3 ++ WB := ⟨_, rfl⟩
  have ll5 : l5.length ≤ 300 := by rw [hl5, List.length_append]; have := sl.out; have := sz.out; omega
  rw [← hl5] at R5
  -- the context's length, the context
  have n6 : Below w5.heap.size w5 (w5.alloc (.cells #[.int .u8 (ctx.length : Int)] 5)) := (Below.refl _ _).alloc (Nat.le_refl _) _
  obtain ⟨v7, w7, hap7, R7, n7⟩ := append_any (P := Tryd.prog) (w5.alloc (.cells #[.int .u8 (ctx.length : Int)] 5)) 22 i0 Tryd.underlying22 hi hz0 hz1 hz2 w.heap.size w.heap.size _ l5 (R5.up n6) _ _ 1 [(ctx.length : Int)] (blk_lit1 w5 .u8 5 (ctx.length : Int)).own0.rd (by simp) (by simp; omega) (Nat.le_refl _) (nxt N5 n6).size
  have N7 := (nxt N5 n6).trans n7
  obtain ⟨l7, hl7⟩ : ∃ l, l = l5 ++ [(ctx.length : Int)] := ⟨_, rfl⟩
  have ll7 : l7.length ≤ 301 := by rw [hl7, List.length_append]; simp; omega
  rw [← hl7] at R7
  obtain ⟨v8, w8, hap8, R8, n8⟩ := append_any (P := Tryd.prog) w7 22 i0 Tryd.underlying22 hi hz0 hz1 hz2 w.heap.size w.heap.size _ l7 R7 g a c ctx (hr.up N7) hc (by omega) (Nat.le_refl _) N7.size
  have N8 := N7.trans n8
  have EW : l7 ++ ctx = rs := by
    rw [HR.out, hl7, hl5, hl3, hWB]
    unfold infoL
    simp only [List.append_assoc, List.cons_append, List.nil_append, Int.add_comm]
  rw [EW] at R8
  clear EW hl7 hl5 hl3 hWB hcv R1 R3 R5 R7 n1 n2 n3 n4 n5 n6 n7 n8
  go_wp2_with (first
    | (at_builtin; first | (refine Lib.wpList_append_run _ rfl _ _ 22 22 rfl _ _ rfl rfl _ _ hap3 ?_) | (refine Lib.wpList_append_run _ rfl _ _ 22 22 rfl _ _ rfl rfl _ _ hap5 ?_) | (refine Lib.wpList_append_run _ rfl _ _ 22 22 rfl _ _ rfl rfl _ _ hap7 ?_) | (refine Lib.wpList_append_run _ rfl _ _ 22 22 rfl _ _ rfl rfl _ _ hap8 ?_))
    | (refine wpList_conv_run w3 rfl 9 22 (.tmp 19) rfl _ rfl _ _ hcv' ?_))
  obtain ⟨a9, c9, g9, rfl, o9, p9, q9, r9⟩ := R8.own
  go_ret
  exact ⟨⟨a9, c9, g9, rfl, o9, p9, q9, r9⟩, N8⟩
end Go.Proofs.YtnfciobpfiibcaaDoor
