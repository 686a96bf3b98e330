import Derived.Test.YtdnkgmlidhepbaaGreatGC7
import Derived.Test.YtdnkgmlidhepbaaGreatGC3
import Derived.Test.YtdnkgmlidhepbaaGreatGC1
import Derived.Maps.AppendAt
import Derived.Lib.Bytealg
namespace Go.Proofs.YtdnkgmlidhepbaaGreat
open Go Go.RowKit
def hpA (xs : List Int) : Nat := 65 + 1 + (beN xs 65 1).toNat
def hpB (xs : List Int) : Nat := ppT xs (hpA xs + 1) (xs.getD (hpA xs) 0).toNat
def hpN (xs : List Int) : Nat := (beN xs (hpB xs) 2).toNat
def hpC (xs : List Int) : Nat := hpB xs + 2 + hpN xs
def HeG (xs : List Int) : Prop := hpA xs < xs.length ∧ hpC xs ≤ xs.length ∧ (0 < hpN xs → hpC xs + 37 ≤ xs.length)
theorem RowT.base' {w : World} {b b' : Nat} {v : Value} {ls : List (List UInt8)} (h : RowT w b v ls) (l : b' ≤ b) : RowT w b' v ls := by
  refine ⟨h.1, ?_⟩
  rcases h.2 with h' | ⟨g, cap, cur, rfl, hbg, hg, hnc, hcm, hcs, ht⟩
  · exact .inl h'
  · exact .inr ⟨g, cap, cur, rfl, by omega, hg, hnc, hcm, hcs, ht⟩
set_option maxRecDepth 100000 in
set_option maxHeartbeats 8000000 in
theorem helRead_any (w : World) (q p g : Nat) (a : Option Addr) (c : Nat) (xs : List Int) (t : TypeId) (hq : RwC w q [.int .i64 0, .slice none 0 0, .slice none 0 0, .string ⟨#[]⟩, .slice none 0 0, .slice none 0 0, .int .i64 0, .int .i64 0, .slice none 0 0] t) (hqp : q ≠ p) (hC : Cur w p (.slice a xs.length c) ((0 : Nat) : Int)) (hpl : p < w.heap.size) (hr : Rd w g a .u8 xs) (hb : Byt xs) (hgp : 0 < xs.length → g ≠ p) (hgq : 0 < xs.length → g ≠ q) (hc0 : a = none → c = 0) (hc : xs.length ≤ c) (hn : xs.length ≤ 1048576) :
    Calls Tryz.prog 89 #[.pointer (some ⟨q, 0, none⟩), .pointer (some ⟨p, 0, none⟩)] w fun e w' => ((HeG xs ∧ e = .returned (.tuple #[]) ∧ ∃ G1 G2 rv G5 x6 x7 x8, RwC w' q [.int .i64 (beN xs 0 1), .slice (some ⟨G1, 0, none⟩) 32 32, .slice (some ⟨G2, 0, none⟩) 32 32, .string ⟨⟨txB (tkB xs 66 (beN xs 65 1).toNat)⟩⟩, rv, .slice (some ⟨G5, 0, none⟩) (hpN xs) (hpN xs), .int .i64 x6, .int .i64 x7, x8] t ∧ Blk w' G1 .u8 (tkB xs 1 32) ∧ w.heap.size ≤ G1 ∧ Blk w' G2 .u8 (tkB xs 33 32) ∧ w.heap.size ≤ G2 ∧ G1 < G2 ∧ (∃ F1, G2 < F1 ∧ F1 ≤ G5 ∧ RowT w' F1 rv (txT xs (hpA xs + 1) (xs.getD (hpA xs) 0).toNat) ∧ ∀ k, rv.ownBlock = some k → k < G5) ∧ Blk w' G5 .u8 (tkB xs (hpB xs + 2) (hpN xs)) ∧ w.heap.size ≤ G5 ∧ ((hpN xs = 0 ∧ x6 = 0 ∧ x7 = 0 ∧ x8 = .slice none 0 0) ∨ (0 < hpN xs ∧ x6 = beN xs (hpC xs) 4 ∧ x7 = beN xs (hpC xs + 4) 1 ∧ ∃ G8, x8 = .slice (some ⟨G8, 0, none⟩) 32 32 ∧ Blk w' G8 .u8 (tkB xs (hpC xs + 5) 32) ∧ G5 < G8))) ∨ (¬ HeG xs ∧ Pan e)) ∧ Kq p q w w' := by
  have FR := hide (firstRead_any w q p g a c xs t [.string ⟨#[]⟩, .slice none 0 0, .slice none 0 0, .int .i64 0, .int .i64 0, .slice none 0 0] hq hqp hC hpl hr hb hgp hgq hc0 hc hn)
  have hql := hq.lt
  have EA : Hid (hpA xs = 65 + 1 + (beN xs 65 1).toNat) := rfl
  have EB : Hid (hpB xs = ppT xs (hpA xs + 1) (xs.getD (hpA xs) 0).toNat) := rfl
  have EN : Hid (hpN xs = (beN xs (hpB xs) 2).toNat) := rfl
  have EC : Hid (hpC xs = hpB xs + 2 + hpN xs) := rfl
  have lAB : hpA xs + 1 ≤ hpB xs := by rw [EB.out]; exact ppT_le xs (hpA xs + 1) 0 _ (Nat.zero_le _)
  have HG : Hid (HeG xs ↔ hpA xs < xs.length ∧ hpC xs ≤ xs.length ∧ (0 < hpN xs → hpC xs + 37 ≤ xs.length)) := Iff.rfl
  clear hq hC
  go_enter Tryz.func89, Tryz.ntmps89
  go_wp2_with fail
  refine FR.out.mono ?_
  rintro e w1 ⟨⟨h1, rfl, G1, G2, Q, C, B1, l1, B2, l2, o12⟩ | ⟨h1, t', v', rfl⟩, T⟩
  rotate_left
  · have H : Hid (¬ HeG xs) := fun h => by have := HG.out.1 h; have := EA.out; have := EB.out; have := EN.out; have := EC.out; omega
    go_wp2
    exact ⟨rfl, .inr ⟨H.out, t', v', rfl⟩, T⟩
  have T : Tch [p, q] w w1 := T
  have hr := hr.tchK T (fun h0 => by have := hgp h0; have := hgq h0; simp; omega)
  clear FR
  have NM := hide (short_any w1 p g a c xs 65 C hr hb hgp hc0 hc hn (by omega))
  go_wp2_with fail
  refine NM.out.mono ?_
  rintro e v1 ⟨⟨hs, rfl, C'⟩ | ⟨h1, t', v', rfl⟩, K⟩
  rotate_left
  · have H : Hid (¬ HeG xs) := fun h => by have := HG.out.1 h; have := EA.out; have := EB.out; have := EN.out; have := EC.out; omega
    go_wp2
    exact ⟨rfl, .inr ⟨H.out, t', v', rfl⟩, (T.trans K.tch).mono (by simp)⟩
  have Q1 : RwC v1 q [.int .i64 (beN xs 0 1), .slice (some ⟨G1, 0, none⟩) 32 32, .slice (some ⟨G2, 0, none⟩) 32 32, .string ⟨#[]⟩, .slice none 0 0, .slice none 0 0, .int .i64 0, .int .i64 0, .slice none 0 0] t := Q.kp K hqp
  have cc : v1.cell? ⟨q, 3, none⟩ = some (.string ⟨#[]⟩) := Q1.cell 3
  have ff := Q1.free 3
  have O := Only.setCell v1 q 3 (.string ⟨⟨txB (tkB xs 66 (beN xs 65 1).toNat)⟩⟩)
  have Q2 : RwC (v1.setCell ⟨q, 3, none⟩ (.string ⟨⟨txB (tkB xs 66 (beN xs 65 1).toNat)⟩⟩)) q [.int .i64 (beN xs 0 1), .slice (some ⟨G1, 0, none⟩) 32 32, .slice (some ⟨G2, 0, none⟩) 32 32, .string ⟨⟨txB (tkB xs 66 (beN xs 65 1).toNat)⟩⟩, .slice none 0 0, .slice none 0 0, .int .i64 0, .int .i64 0, .slice none 0 0] t := Q1.set 3 _
  have T2 : Tch [p, q] w (v1.setCell ⟨q, 3, none⟩ (.string ⟨⟨txB (tkB xs 66 (beN xs 65 1).toNat)⟩⟩)) := ((T.trans K.tch).trans (Tch.of_only O)).mono (by simp)
  have C2 := C'.only' O (by omega)
  have R2 := (hr.of_block' (fun h => K.block g (hr.lt h) (hgp h))).of_block' (fun h => O.block g (hgq h))
  replace B1 := (B1.kp K (by omega)).of_block (O.block _ (by omega))
  replace B2 := (B2.kp K (by omega)).of_block (O.block _ (by omega))
  have sT := T.size
  clear NM Q Q1 T K O C C' hr
  go_upto_region 2 with fail
  generalize v1.setCell ⟨q, 3, none⟩ (.string ⟨⟨txB (tkB xs 66 (beN xs 65 1).toNat)⟩⟩) = w2 at *
  have Q := Q2
  have T := T2
  have C := C2
  have hr := R2
  clear Q2 T2 C2 R2 cc ff
  rw [← EA.out] at C hs
  have NM := hide (shorts_any w2 p g a c xs (hpA xs) C (by have := T.size; omega) hr hb hgp hc0 hc hn (by omega))
  go_wp2_with fail
  refine NM.out.mono ?_
  rintro e v2 ⟨⟨ht1, ht2, ⟨rv, rfl, RT⟩, C'⟩ | ⟨h2, t', v', rfl⟩, K⟩
  rotate_left
  · have H : Hid (¬ HeG xs) := fun h => by have := HG.out.1 h; have := EA.out; have := EB.out; have := EN.out; have := EC.out; omega
    go_wp2
    exact ⟨rfl, .inr ⟨H.out, t', v', rfl⟩, (T.trans K.tch).mono (by simp)⟩
  obtain ⟨ra, rl, rc, hrv⟩ : ∃ ra rl rc, rv = .slice ra rl rc := by
    rcases RT.2 with ⟨h', _⟩ | ⟨g', cap, cur, h', _⟩
    · exact ⟨_, _, _, h'⟩
    · exact ⟨_, _, _, h'⟩
  subst hrv
  obtain ⟨F1, g2F, wF, F1v, RT⟩ : ∃ F1, G2 < F1 ∧ w.heap.size ≤ F1 ∧ F1 ≤ v2.heap.size ∧ RowT v2 F1 (.slice ra rl rc) (txT xs (hpA xs + 1) (xs.getD (hpA xs) 0).toNat) := ⟨w2.heap.size, B2.lt, T.size, K.size, RT⟩
  have Q1 : RwC v2 q [.int .i64 (beN xs 0 1), .slice (some ⟨G1, 0, none⟩) 32 32, .slice (some ⟨G2, 0, none⟩) 32 32, .string ⟨⟨txB (tkB xs 66 (beN xs 65 1).toNat)⟩⟩, .slice none 0 0, .slice none 0 0, .int .i64 0, .int .i64 0, .slice none 0 0] t := Q.kp K hqp
  have cc : v2.cell? ⟨q, 4, none⟩ = some (.slice none 0 0) := Q1.cell 4
  have ff := Q1.free 4
  have O := Only.setCell v2 q 4 (.slice ra rl rc)
  have Q2 : RwC (v2.setCell ⟨q, 4, none⟩ (.slice ra rl rc)) q [.int .i64 (beN xs 0 1), .slice (some ⟨G1, 0, none⟩) 32 32, .slice (some ⟨G2, 0, none⟩) 32 32, .string ⟨⟨txB (tkB xs 66 (beN xs 65 1).toNat)⟩⟩, .slice ra rl rc, .slice none 0 0, .int .i64 0, .int .i64 0, .slice none 0 0] t := Q1.set 4 _
  have T2 : Tch [p, q] w (v2.setCell ⟨q, 4, none⟩ (.slice ra rl rc)) := ((T.trans K.tch).trans (Tch.of_only O)).mono (by simp)
  have C2 := C'.only' O (by omega)
  have R2 := (hr.of_block' (fun h => K.block g (hr.lt h) (hgp h))).of_block' (fun h => O.block g (hgq h))
  replace B1 := (B1.kp K (by omega)).of_block (O.block _ (by omega))
  replace B2 := (B2.kp K (by omega)).of_block (O.block _ (by omega))
  replace RT := RT.onl O (by omega)
  have FV : F1 ≤ (v2.setCell ⟨q, 4, none⟩ (.slice ra rl rc)).heap.size := by rw [O.size]; exact F1v
  clear F1v
  have sT := T.size
  clear NM Q Q1 T K O C C' hr
  go_upto_region 3 with fail
  generalize v2.setCell ⟨q, 4, none⟩ (.slice ra rl rc) = w3 at *
  have Q := Q2
  have T := T2
  have C := C2
  have hr := R2
  clear Q2 T2 C2 R2 cc ff
  rw [← EB.out] at C ht2
  have NM := hide (long_any w3 p g a c xs (hpB xs) C hr hb hgp hc0 hc hn (by omega))
  go_wp2_with fail
  refine NM.out.mono ?_
  rintro e v3 ⟨⟨hl1, ⟨G5, rfl, B5, l5⟩, C'⟩ | ⟨h3, t', v', rfl⟩, K⟩
  rotate_left
  · have H : Hid (¬ HeG xs) := fun h => by have := HG.out.1 h; have := EA.out; have := EB.out; have := EN.out; have := EC.out; omega
    go_wp2
    exact ⟨rfl, .inr ⟨H.out, t', v', rfl⟩, (T.trans K.tch).mono (by simp)⟩
  have l5' : w.heap.size ≤ G5 := Nat.le_trans T.size l5
  have F5 : F1 ≤ G5 := Nat.le_trans FV l5
  have rvG : Hid (∀ k, Value.ownBlock (.slice ra rl rc) = some k → k < G5) := fun k hk => Nat.lt_of_lt_of_le (World.ownsRow.lt RT k hk).2 l5
  clear l5 FV
  have Q1 : RwC v3 q [.int .i64 (beN xs 0 1), .slice (some ⟨G1, 0, none⟩) 32 32, .slice (some ⟨G2, 0, none⟩) 32 32, .string ⟨⟨txB (tkB xs 66 (beN xs 65 1).toNat)⟩⟩, .slice ra rl rc, .slice none 0 0, .int .i64 0, .int .i64 0, .slice none 0 0] t := Q.kp K hqp
  have cc : v3.cell? ⟨q, 5, none⟩ = some (.slice none 0 0) := Q1.cell 5
  have ff := Q1.free 5
  have O := Only.setCell v3 q 5 (.slice (some ⟨G5, 0, none⟩) (beN xs (hpB xs) 2).toNat (beN xs (hpB xs) 2).toNat)
  have Q2 : RwC (v3.setCell ⟨q, 5, none⟩ (.slice (some ⟨G5, 0, none⟩) (beN xs (hpB xs) 2).toNat (beN xs (hpB xs) 2).toNat)) q [.int .i64 (beN xs 0 1), .slice (some ⟨G1, 0, none⟩) 32 32, .slice (some ⟨G2, 0, none⟩) 32 32, .string ⟨⟨txB (tkB xs 66 (beN xs 65 1).toNat)⟩⟩, .slice ra rl rc, .slice (some ⟨G5, 0, none⟩) (beN xs (hpB xs) 2).toNat (beN xs (hpB xs) 2).toNat, .int .i64 0, .int .i64 0, .slice none 0 0] t := Q1.set 5 _
  have T2 : Tch [p, q] w (v3.setCell ⟨q, 5, none⟩ (.slice (some ⟨G5, 0, none⟩) (beN xs (hpB xs) 2).toNat (beN xs (hpB xs) 2).toNat)) := ((T.trans K.tch).trans (Tch.of_only O)).mono (by simp)
  have C2 := C'.only' O (by omega)
  have R2 := (hr.of_block' (fun h => K.block g (hr.lt h) (hgp h))).of_block' (fun h => O.block g (hgq h))
  replace B1 := (B1.kp K (by omega)).of_block (O.block _ (by omega))
  replace B2 := (B2.kp K (by omega)).of_block (O.block _ (by omega))
  replace RT := (RT.kp K (by omega)).onl O (by omega)
  replace B5 := B5.of_block (O.block _ (by omega))
  have sT := T.size
  clear NM Q Q1 T K O C C' hr
  go_upto_region 4 with fail
  generalize v3.setCell ⟨q, 5, none⟩ (.slice (some ⟨G5, 0, none⟩) (beN xs (hpB xs) 2).toNat (beN xs (hpB xs) 2).toNat) = w4 at *
  have Q := Q2
  have T := T2
  have C := C2
  have hr := R2
  clear Q2 T2 C2 R2 cc ff
  rw [← EN.out] at Q B5 C hl1
  try rw [← EN.out]
  rw [← EC.out] at C hl1
  have c5 : w4.cell? ⟨q, 5, none⟩ = some (.slice (some ⟨G5, 0, none⟩) (hpN xs) (hpN xs)) := Q.cell 5
  by_cases hz : hpN xs = 0
  · have z0 : decide ((0 : Int) < (hpN xs : Int)) = false := decide_eq_false (by omega)
    have FIN : Hid (HeG xs) := HG.out.2 ⟨by omega, by omega, fun h => by omega⟩
    go_wp2
    go_end0
    exact ⟨.inl ⟨FIN.out, rfl, G1, G2, .slice ra rl rc, G5, 0, 0, .slice none 0 0, Q, B1, l1, B2, l2, o12, ⟨F1, g2F, F5, RT, rvG.out⟩, B5, l5', .inl ⟨hz, rfl, rfl, rfl⟩⟩, T⟩
  have hpos : 0 < hpN xs := by omega
  have z0 : decide ((0 : Int) < (hpN xs : Int)) = true := decide_eq_true (by omega)
  go_upto_region 5 with fail
  clear c5 z0
  by_cases h4 : hpC xs + 4 ≤ xs.length
  rotate_left
  · have NB := hide (number_bad w4 p g a c xs (hpC xs) 4 C hr hgp (by omega) (by omega) (by omega) (by omega))
    have H : Hid (¬ HeG xs) := fun h => by have := (HG.out.1 h).2.2 hpos; have := EC.out; omega
    go_wp2_with fail
    refine NB.out.mono ?_
    rintro e v4 ⟨⟨t', v', rfl⟩, O2⟩
    go_wp2
    exact ⟨rfl, .inr ⟨H.out, t', v', rfl⟩, (T.trans (Tch.of_only O2)).mono (by simp)⟩
  have NM := hide (numberG_any w4 p g a c xs (hpC xs) 4 C hr hb hgp (by omega) (by omega) (by omega))
  rw [nmV_small hb (hpC xs) 4 (by decide)] at NM
  go_wp2_with fail
  refine NM.out.mono ?_
  rintro e v4 ⟨rfl, C', O1⟩
  have K := O1.kp
  clear O1
  have Q1 : RwC v4 q [.int .i64 (beN xs 0 1), .slice (some ⟨G1, 0, none⟩) 32 32, .slice (some ⟨G2, 0, none⟩) 32 32, .string ⟨⟨txB (tkB xs 66 (beN xs 65 1).toNat)⟩⟩, .slice ra rl rc, .slice (some ⟨G5, 0, none⟩) (hpN xs) (hpN xs), .int .i64 0, .int .i64 0, .slice none 0 0] t := Q.kp K hqp
  have cc : v4.cell? ⟨q, 6, none⟩ = some (.int .i64 0) := Q1.cell 6
  have ff := Q1.free 6
  have O := Only.setCell v4 q 6 (.int .i64 (beN xs (hpC xs) 4))
  have Q2 : RwC (v4.setCell ⟨q, 6, none⟩ (.int .i64 (beN xs (hpC xs) 4))) q [.int .i64 (beN xs 0 1), .slice (some ⟨G1, 0, none⟩) 32 32, .slice (some ⟨G2, 0, none⟩) 32 32, .string ⟨⟨txB (tkB xs 66 (beN xs 65 1).toNat)⟩⟩, .slice ra rl rc, .slice (some ⟨G5, 0, none⟩) (hpN xs) (hpN xs), .int .i64 (beN xs (hpC xs) 4), .int .i64 0, .slice none 0 0] t := Q1.set 6 _
  have T2 : Tch [p, q] w (v4.setCell ⟨q, 6, none⟩ (.int .i64 (beN xs (hpC xs) 4))) := ((T.trans K.tch).trans (Tch.of_only O)).mono (by simp)
  have C2 := C'.only' O (by omega)
  have R2 := (hr.of_block' (fun h => K.block g (hr.lt h) (hgp h))).of_block' (fun h => O.block g (hgq h))
  replace B1 := (B1.kp K (by omega)).of_block (O.block _ (by omega))
  replace B2 := (B2.kp K (by omega)).of_block (O.block _ (by omega))
  replace RT := (RT.kp K (by omega)).onl O (by omega)
  replace B5 := (B5.kp K (by omega)).of_block (O.block _ (by omega))
  have sT := T.size
  clear NM Q Q1 T K O C C' hr
  go_upto_region 6 with fail
  generalize v4.setCell ⟨q, 6, none⟩ (.int .i64 (beN xs (hpC xs) 4)) = w5 at *
  have Q := Q2
  have T := T2
  have C := C2
  have hr := R2
  clear Q2 T2 C2 R2 cc ff
  by_cases h5 : hpC xs + 4 + 1 ≤ xs.length
  rotate_left
  · have NB := hide (number_bad w5 p g a c xs (hpC xs + 4) 1 C hr hgp (by omega) (by omega) (by omega) (by omega))
    have H : Hid (¬ HeG xs) := fun h => by have := (HG.out.1 h).2.2 hpos; have := EC.out; omega
    go_wp2_with fail
    refine NB.out.mono ?_
    rintro e v5 ⟨⟨t', v', rfl⟩, O2⟩
    go_wp2
    exact ⟨rfl, .inr ⟨H.out, t', v', rfl⟩, (T.trans (Tch.of_only O2)).mono (by simp)⟩
  have NM := hide (numberG_any w5 p g a c xs (hpC xs + 4) 1 C hr hb hgp (by omega) (by omega) (by omega))
  rw [nmV_small hb (hpC xs + 4) 1 (by decide)] at NM
  go_wp2_with fail
  refine NM.out.mono ?_
  rintro e v5 ⟨rfl, C', O1⟩
  have K := O1.kp
  clear O1
  have Q1 : RwC v5 q [.int .i64 (beN xs 0 1), .slice (some ⟨G1, 0, none⟩) 32 32, .slice (some ⟨G2, 0, none⟩) 32 32, .string ⟨⟨txB (tkB xs 66 (beN xs 65 1).toNat)⟩⟩, .slice ra rl rc, .slice (some ⟨G5, 0, none⟩) (hpN xs) (hpN xs), .int .i64 (beN xs (hpC xs) 4), .int .i64 0, .slice none 0 0] t := Q.kp K hqp
  have cc : v5.cell? ⟨q, 7, none⟩ = some (.int .i64 0) := Q1.cell 7
  have ff := Q1.free 7
  have O := Only.setCell v5 q 7 (.int .i64 (beN xs (hpC xs + 4) 1))
  have Q2 : RwC (v5.setCell ⟨q, 7, none⟩ (.int .i64 (beN xs (hpC xs + 4) 1))) q [.int .i64 (beN xs 0 1), .slice (some ⟨G1, 0, none⟩) 32 32, .slice (some ⟨G2, 0, none⟩) 32 32, .string ⟨⟨txB (tkB xs 66 (beN xs 65 1).toNat)⟩⟩, .slice ra rl rc, .slice (some ⟨G5, 0, none⟩) (hpN xs) (hpN xs), .int .i64 (beN xs (hpC xs) 4), .int .i64 (beN xs (hpC xs + 4) 1), .slice none 0 0] t := Q1.set 7 _
  have T2 : Tch [p, q] w (v5.setCell ⟨q, 7, none⟩ (.int .i64 (beN xs (hpC xs + 4) 1))) := ((T.trans K.tch).trans (Tch.of_only O)).mono (by simp)
  have C2 := C'.only' O (by omega)
  have R2 := (hr.of_block' (fun h => K.block g (hr.lt h) (hgp h))).of_block' (fun h => O.block g (hgq h))
  replace B1 := (B1.kp K (by omega)).of_block (O.block _ (by omega))
  replace B2 := (B2.kp K (by omega)).of_block (O.block _ (by omega))
  replace RT := (RT.kp K (by omega)).onl O (by omega)
  replace B5 := (B5.kp K (by omega)).of_block (O.block _ (by omega))
  have sT := T.size
  clear NM Q Q1 T K O C C' hr
  go_upto_region 7 with fail
  generalize v5.setCell ⟨q, 7, none⟩ (.int .i64 (beN xs (hpC xs + 4) 1)) = w6 at *
  have Q := Q2
  have T := T2
  have C := C2
  have hr := R2
  clear Q2 T2 C2 R2 cc ff
  have C : Cur w6 p (.slice a xs.length c) ((hpC xs + 5 : Nat) : Int) := C
  have l8 := B5.lt
  by_cases h6 : hpC xs + 5 + 32 ≤ xs.length
  rotate_left
  · have NB := hide (takeList_bad w6 p a xs.length c (hpC xs + 5) 32 C (by omega) hn (by omega))
    have H : Hid (¬ HeG xs) := fun h => by have := (HG.out.1 h).2.2 hpos; have := EC.out; omega
    go_wp2_with fail
    refine NB.out.mono ?_
    rintro e v6 ⟨⟨t', v', rfl⟩, O2⟩
    go_wp2
    exact ⟨rfl, .inr ⟨H.out, t', v', rfl⟩, (T.trans (Tch.of_only O2)).mono (by simp)⟩
  have NM := hide (takeList_any w6 p g a c xs (hpC xs + 5) 32 C hr hc0 hc hn (by omega) (by omega))
  rw [tkB_take xs (hpC xs + 5) 32 (by omega)] at NM
  go_wp2_with fail
  refine NM.out.mono ?_
  rintro e v6 ⟨rfl, B8, C', K⟩
  have Q1 : RwC v6 q [.int .i64 (beN xs 0 1), .slice (some ⟨G1, 0, none⟩) 32 32, .slice (some ⟨G2, 0, none⟩) 32 32, .string ⟨⟨txB (tkB xs 66 (beN xs 65 1).toNat)⟩⟩, .slice ra rl rc, .slice (some ⟨G5, 0, none⟩) (hpN xs) (hpN xs), .int .i64 (beN xs (hpC xs) 4), .int .i64 (beN xs (hpC xs + 4) 1), .slice none 0 0] t := Q.kp K hqp
  have cc : v6.cell? ⟨q, 8, none⟩ = some (.slice none 0 0) := Q1.cell 8
  have ff := Q1.free 8
  have O := Only.setCell v6 q 8 (.slice (some ⟨w6.heap.size, 0, none⟩) 32 32)
  have Q2 : RwC (v6.setCell ⟨q, 8, none⟩ (.slice (some ⟨w6.heap.size, 0, none⟩) 32 32)) q [.int .i64 (beN xs 0 1), .slice (some ⟨G1, 0, none⟩) 32 32, .slice (some ⟨G2, 0, none⟩) 32 32, .string ⟨⟨txB (tkB xs 66 (beN xs 65 1).toNat)⟩⟩, .slice ra rl rc, .slice (some ⟨G5, 0, none⟩) (hpN xs) (hpN xs), .int .i64 (beN xs (hpC xs) 4), .int .i64 (beN xs (hpC xs + 4) 1), .slice (some ⟨w6.heap.size, 0, none⟩) 32 32] t := Q1.set 8 _
  have T2 : Tch [p, q] w (v6.setCell ⟨q, 8, none⟩ (.slice (some ⟨w6.heap.size, 0, none⟩) 32 32)) := ((T.trans K.tch).trans (Tch.of_only O)).mono (by simp)
  have C2 := C'.only' O (by omega)
  have R2 := (hr.of_block' (fun h => K.block g (hr.lt h) (hgp h))).of_block' (fun h => O.block g (hgq h))
  replace B1 := (B1.kp K (by omega)).of_block (O.block _ (by omega))
  replace B2 := (B2.kp K (by omega)).of_block (O.block _ (by omega))
  replace RT := (RT.kp K (by omega)).onl O (by omega)
  replace B5 := (B5.kp K (by omega)).of_block (O.block _ (by omega))
  replace B8 := B8.of_block (O.block _ (by omega))
  have sT := T.size
  clear NM Q Q1 T K O C C' hr
  have FIN : Hid (HeG xs) := HG.out.2 ⟨by omega, by omega, fun h => by omega⟩
  go_wp2
  go_end0
  exact ⟨.inl ⟨FIN.out, rfl, G1, G2, .slice ra rl rc, G5, _, _, _, Q2, B1, l1, B2, l2, o12, ⟨F1, g2F, F5, RT, rvG.out⟩, B5, l5', .inr ⟨hpos, rfl, rfl, _, rfl, B8, l8⟩⟩, T2⟩
end Go.Proofs.YtdnkgmlidhepbaaGreat
namespace Go.Proofs.YtdnkgmlidhepbaaGreat
open Go Go.RowKit
structure Plc where
  a : Option Addr
  c : Nat
  q : Nat
def plc0 : Plc := ⟨none, 0, 0⟩
def blC (x : List Int) (q : Plc) : Value := .slice q.a x.length q.c
def blCs : List (List Int) → List Plc → List Value
  | x :: xs, q :: qs => blC x q :: blCs xs qs
  | _, _ => []
theorem blCs_snoc : ∀ (its : List (List Int)) (bs : List Plc) (x : List Int) (q : Plc), bs.length = its.length → blCs (its ++ [x]) (bs ++ [q]) = blCs its bs ++ [blC x q]
  | [], [], x, q, _ => rfl
  | [], _ :: _, _, _, h => by simp at h
  | _ :: _, [], _, _, h => by simp at h
  | y :: its, p :: bs, x, q, h => by
    show blC y p :: blCs (its ++ [x]) (bs ++ [q]) = (blC y p :: blCs its bs) ++ [blC x q]
    rw [blCs_snoc its bs x q (by simpa using h)]
    rfl
theorem blCs_at : ∀ (its : List (List Int)) (bs : List Plc) (i : Nat), bs.length = its.length → i < its.length → (blCs its bs)[i]? = some (.slice (bs.getD i plc0).a (its.getD i []).length (bs.getD i plc0).c)
  | [], _, i, _, hi => by simp at hi
  | _ :: _, [], _, h, _ => by simp at h
  | y :: its, p :: bs, 0, h, hi => rfl
  | y :: its, p :: bs, i + 1, h, hi => by
    show (blCs its bs)[i]? = _
    rw [blCs_at its bs i (by simpa using h) (by simpa using hi)]
    simp
structure Lie (w : World) (x : List Int) (p : Plc) : Prop where
  o : Own w p.q p.a .u8 x
  n : p.a = none → p.c = 0
  c : x.length ≤ p.c
theorem Lie.of {w w' : World} {x : List Int} {p : Plc} (h : Lie w x p) (hb : 0 < x.length → w'.heap[p.q]? = w.heap[p.q]?) : Lie w' x p := by
  refine ⟨?_, h.n, h.c⟩
  by_cases h0 : 0 < x.length
  · exact h.o.of_block (hb h0)
  · exact fun h1 => absurd h1 h0
structure BRow (w : World) (B : Nat) (v : Value) (its : List (List Int)) (bs : List Plc) : Prop where
  o : w.ownsRow B 63 1 v its.length (blCs its bs)
  l : bs.length = its.length
  b : ∀ i, i < its.length → Lie w (its.getD i []) (bs.getD i plc0)
  h : ∀ i, i < its.length → 0 < (its.getD i []).length → B ≤ (bs.getD i plc0).q ∧ v.ownBlock ≠ some (bs.getD i plc0).q
  d : ∀ i j, i < its.length → j < its.length → i ≠ j → 0 < (its.getD i []).length → 0 < (its.getD j []).length → (bs.getD i plc0).q ≠ (bs.getD j plc0).q
theorem bInfo : (Tryz.prog.info? 63).map (fun i => (i.zero, i.size, i.bytes)) = some (some (.agg #[.slice none 0 0]), 1, 24) := by kernel_rfl
theorem bUnd : Tryz.prog.underlying 24 = some (.slice 63) := Tryz.underlying24
theorem BRow.nil (w : World) (B : Nat) : BRow w B (.slice none 0 0) [] [] :=
  ⟨⟨rfl, .inl ⟨rfl, rfl⟩⟩, rfl, fun i h => absurd h (by simp), fun i h => absurd h (by simp), fun i j h => absurd h (by simp)⟩
theorem BRow.lt {w : World} {B : Nat} {v : Value} {its : List (List Int)} {bs : List Plc} (h : BRow w B v its bs) {i : Nat} (hi : i < its.length) (h0 : 0 < (its.getD i []).length) : (bs.getD i plc0).q < w.heap.size := (h.b i hi).o.rd.lt h0
theorem BRow.of {w w' : World} {B : Nat} {v : Value} {its : List (List Int)} {bs : List Plc} (h : BRow w B v its bs) (hb : ∀ k, k < w.heap.size → B ≤ k → w'.heap[k]? = w.heap[k]?) : BRow w' B v its bs := by
  refine ⟨⟨h.o.1, ?_⟩, h.l, fun i hi => ?_, h.h, h.d⟩
  · rcases h.o.2 with h' | ⟨g, cap, cur, rfl, hbg, hg, hnc, hcm, hcs, ht⟩
    · exact .inl h'
    · exact .inr ⟨g, cap, cur, rfl, hbg, by rw [hb g ((Array.getElem?_eq_some_iff.1 hg).1) hbg]; exact hg, hnc, hcm, hcs, ht⟩
  · exact (h.b i hi).of fun h0 => hb _ (h.lt hi h0) (h.h i hi h0).1
theorem BRow.app {w : World} {B : Nat} {v : Value} {its : List (List Int)} {bs : List Plc} (h : BRow w B v its bs) (x : List Int) (q : Plc) (hB : B ≤ w.heap.size) (hq : Lie w x q) (M : Nat) (hBM : B ≤ M) (hM1 : ∀ i, i < its.length → 0 < (its.getD i []).length → (bs.getD i plc0).q < M) (hM2 : ∀ k, v.ownBlock = some k → k < M) (hqM : M ≤ q.q) (hl : its.length ≤ 1048576) :
    ∃ v' w', (Builtin.append_ #[24, 24] 24 #[v, .slice (some ⟨w.heap.size, 0, none⟩) 1 1]).run Tryz.prog (w.alloc (.cells #[.slice q.a x.length q.c] 63)) = .ok v' w' ∧ BRow w' B v' (its ++ [x]) (bs ++ [q]) ∧ (∀ k, k < w.heap.size → v.ownBlock ≠ some k → w'.heap[k]? = w.heap[k]?) ∧ Below B w w' ∧ (∀ p, p < w.heap.size → v.ownBlock ≠ some p → v'.ownBlock ≠ some p) := by
  obtain ⟨i, hi, hz, hs, hby⟩ := info_parts bInfo
  have na : Below w.heap.size w (w.alloc (.cells #[.slice q.a x.length q.c] 63)) := (Below.refl _ _).alloc (Nat.le_refl _) _
  have h0 : (w.alloc (.cells #[.slice q.a x.length q.c] 63)).ownsRow B 63 1 v its.length (blCs its bs) := h.o.alloc _
  have hcell : ∀ j u, ([blC x q])[j]? = some u → (w.alloc (.cells #[.slice q.a x.length q.c] 63)).cell? ((⟨w.heap.size, 0, none⟩ : Addr).add j) = some u := by
    intro j u hj
    have e : (w.alloc (.cells #[.slice q.a x.length q.c] 63)).heap[w.heap.size]? = some (.cells #[.slice q.a x.length q.c] 63) := heap_alloc_new w _
    rw [Addr.add_mid, Nat.zero_add, cell_of_row _ _ j _ _ (0, 0) e]
    simpa [blC] using hj
  obtain ⟨v', w', h1, h2, h3, h4, h5⟩ := run_append_own_at (P := Tryz.prog) (w.alloc (.cells #[.slice q.a x.length q.c] 63)) B 24 24 63 i (.agg #[.slice none 0 0]) 1 24 bUnd hi hz hs hby rfl (by decide) v its.length (blCs its bs) h0 ⟨w.heap.size, 0, none⟩ 1 1 ([blC x q]) (by simp [blC]) hcell (fun u hu => by
    simp only [blC, List.mem_cons, List.not_mem_nil, or_false] at hu
    subst hu; rfl) (by unfold maxLen; omega) (by omega) (Nat.le_trans hB na.size)
  have z : (w.alloc (.cells #[.slice q.a x.length q.c] 63)).heap.size = w.heap.size + 1 := by simp
  have keep : ∀ k, k < w.heap.size → v.ownBlock ≠ some k → w'.heap[k]? = w.heap[k]? := fun k hk hne => (h3.block k (by omega) (fun e => hne e.symm)).trans (na.block k hk)
  have ob := h.o.lt
  have A1 : ∀ j, j < its.length → (bs ++ [q]).getD j plc0 = bs.getD j plc0 := fun j hj => by
    have : j < bs.length := by rw [h.l]; exact hj
    simp [List.getD, List.getElem?_append_left this]
  have A2 : ∀ j, j < its.length → (its ++ [x]).getD j [] = its.getD j [] := fun j hj => by simp [List.getD, List.getElem?_append_left hj]
  have A3 : (bs ++ [q]).getD its.length plc0 = q := by rw [← h.l]; simp
  have A4 : (its ++ [x]).getD its.length [] = x := by simp
  have hqr : v.ownBlock ≠ some q.q := fun e => by have := hM2 _ e; omega
  have LT : ∀ p, p < w.heap.size → v.ownBlock ≠ some p → v'.ownBlock ≠ some p := fun p hp hn => by
    rcases h5 with h5 | h5
    · rw [h5]; exact hn
    · rw [h5]
      intro e
      have e := Option.some.inj e
      omega
  refine ⟨v', w', h1, ⟨?_, by simp [h.l], fun j hj => ?_, fun j hj h0' => ?_, fun j k hj hk hne hj0 hk0 => ?_⟩, keep, ((Below.refl B w).alloc hB _).grown h3 (by omega) (fun k hk => (ob k hk).1), LT⟩
  · show w'.ownsRow B 63 1 v' (its ++ [x]).length (blCs (its ++ [x]) (bs ++ [q]))
    rw [blCs_snoc its bs x q h.l, List.length_append]
    exact h2
  · by_cases hj' : j < its.length
    · rw [A1 j hj', A2 j hj']
      exact (h.b j hj').of fun h0' => keep _ (h.lt hj' h0') (h.h j hj' h0').2
    · have ej : j = its.length := by simp at hj; omega
      subst ej
      rw [A3, A4]
      exact hq.of fun h0' => keep _ (hq.o.rd.lt h0') hqr
  · by_cases hj' : j < its.length
    · rw [A2 j hj'] at h0'
      rw [A1 j hj']
      exact ⟨(h.h j hj' h0').1, LT _ (h.lt hj' h0') (h.h j hj' h0').2⟩
    · have ej : j = its.length := by simp at hj; omega
      subst ej
      rw [A4] at h0'
      rw [A3]
      exact ⟨by omega, LT _ (hq.o.rd.lt h0') hqr⟩
  · by_cases hj' : j < its.length
    · rw [A2 j hj'] at hj0
      rw [A1 j hj']
      by_cases hk' : k < its.length
      · rw [A2 k hk'] at hk0
        rw [A1 k hk']
        exact h.d j k hj' hk' hne hj0 hk0
      · have ek : k = its.length := by simp at hk; omega
        subst ek
        rw [A3]
        have := hM1 j hj' hj0
        omega
    · have ej : j = its.length := by simp at hj; omega
      subst ej
      have hk' : k < its.length := by simp at hk; omega
      rw [A2 k hk'] at hk0
      rw [A1 k hk', A3]
      have := hM1 k hk' hk0
      omega
theorem BRow.cells {w : World} {B : Nat} {v : Value} {its : List (List Int)} {bs : List Plc} (h : BRow w B v its bs) (h0 : 0 < its.length) : ∃ g c, v = .slice (some ⟨g, 0, none⟩) its.length c ∧ B ≤ g ∧ g < w.heap.size ∧ v.ownBlock = some g ∧ (∀ i, i < its.length → w.cell? ⟨g, i, none⟩ = some (.slice (bs.getD i plc0).a (its.getD i []).length (bs.getD i plc0).c)) := by
  rcases h.o.2 with ⟨_, h'⟩ | ⟨g, cap, cur, rfl, hb, hg, hnc, hcm, hcs, ht⟩
  · omega
  · refine ⟨g, cap, rfl, hb, (Array.getElem?_eq_some_iff.1 hg).1, rfl, fun i hi => ?_⟩
    rw [cell_of_row w g _ cur _ (0, 0) hg]
    have : (cur.toList.take (its.length * 1))[i]? = (blCs its bs)[i]? := by rw [ht]
    rw [List.getElem?_take, if_pos (by omega), blCs_at its bs i h.l hi] at this
    simpa using this
theorem BRow.slice {w : World} {B : Nat} {v : Value} {its : List (List Int)} {bs : List Plc} (h : BRow w B v its bs) : ∃ a c, v = .slice a its.length c ∧ (a = none → c = 0) := by
  rcases h.o.2 with ⟨h1, h'⟩ | ⟨g, cap, cur, rfl, hb, hg, hnc, hcm, hcs, ht⟩
  · exact ⟨none, 0, by rw [h1, h'], fun _ => rfl⟩
  · exact ⟨_, cap, rfl, fun e => by cases e⟩
structure NoB (p : Nat) (v : Value) (its : List (List Int)) (bs : List Plc) : Prop where
  o : v.ownBlock ≠ some p
  b : ∀ i, i < its.length → 0 < (its.getD i []).length → (bs.getD i plc0).q ≠ p
theorem NoB.nil (p : Nat) : NoB p (.slice none 0 0) [] [] := ⟨(fun e => nomatch e), fun i h => absurd h (by simp)⟩
theorem BRow.ofN {w w' : World} {B p : Nat} {v : Value} {its : List (List Int)} {bs : List Plc} (h : BRow w B v its bs) (np : NoB p v its bs) (hb : ∀ k, k < w.heap.size → B ≤ k → k ≠ p → w'.heap[k]? = w.heap[k]?) : BRow w' B v its bs := by
  refine ⟨⟨h.o.1, ?_⟩, h.l, fun i hi => ?_, h.h, h.d⟩
  · rcases h.o.2 with h' | ⟨g, cap, cur, rfl, hbg, hg, hnc, hcm, hcs, ht⟩
    · exact .inl h'
    · exact .inr ⟨g, cap, cur, rfl, hbg, by rw [hb g ((Array.getElem?_eq_some_iff.1 hg).1) hbg (fun e => np.o (by rw [e]; rfl))]; exact hg, hnc, hcm, hcs, ht⟩
  · exact (h.b i hi).of fun h0 => hb _ (h.lt hi h0) (h.h i hi h0).1 (np.b i hi h0)
theorem NoB.app {p : Nat} {v v' : Value} {its : List (List Int)} {bs : List Plc} (h : NoB p v its bs) (l : bs.length = its.length) (ho : v'.ownBlock ≠ some p) (x : List Int) (q : Plc) (hq : q.q ≠ p) : NoB p v' (its ++ [x]) (bs ++ [q]) := by
  refine ⟨ho, fun j hj h0 => ?_⟩
  by_cases hj' : j < its.length
  · have A1 : (bs ++ [q]).getD j plc0 = bs.getD j plc0 := by
      have : j < bs.length := by rw [l]; exact hj'
      simp [List.getD, List.getElem?_append_left this]
    have A2 : (its ++ [x]).getD j [] = its.getD j [] := by simp [List.getD, List.getElem?_append_left hj']
    rw [A2] at h0
    rw [A1]
    exact h.b j hj' h0
  · have ej : j = its.length := by simp at hj; omega
    subst ej
    rw [← l]
    simpa using hq
theorem BRow.base {w : World} {B C : Nat} {v : Value} {its : List (List Int)} {bs : List Plc} (R : BRow w B v its bs) (hC : C ≤ B) : BRow w C v its bs :=
  ⟨⟨R.o.1, by
      rcases R.o.2 with h' | ⟨g, cap, cur, e1, hbg, h3⟩
      · exact .inl h'
      · exact .inr ⟨g, cap, cur, e1, by omega, h3⟩⟩, R.l, R.b, fun i hi h0 => ⟨by have := (R.h i hi h0).1; omega, (R.h i hi h0).2⟩, R.d⟩
end Go.Proofs.YtdnkgmlidhepbaaGreat
namespace Go.Proofs.YtdnkgmlidhepbaaGreat
open Go Go.RowKit
end Go.Proofs.YtdnkgmlidhepbaaGreat
namespace Go.Proofs.YtdnkgmlidhepbaaGreat
open Go Go.RowKit
end Go.Proofs.YtdnkgmlidhepbaaGreat
