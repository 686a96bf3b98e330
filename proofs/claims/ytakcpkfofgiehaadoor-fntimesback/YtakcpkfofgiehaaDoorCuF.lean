
/-
  The cursor's time.
-/
import Derived.Test.YtakcpkfofgiehaaDoorCuE
import Derived.Test.YtakcpkfofgiehaaDoorTmD
namespace Go.Proofs.YtakcpkfofgiehaaDoor
set_option maxRecDepth 100000
open Go Go.RowKit

theorem GT.part {b : List Int} (h : GT b) (i n : Nat) (hn : i + n ≤ 14) : DgA b i n := ⟨by have := h.1; omega, fun j hj => by
  have := h.2.1 (i + j) (by rw [List.length_take, h.1]; omega)
  rwa [List.getD_eq_getElem?_getD, List.getElem?_take, if_pos (by omega), ← List.getD_eq_getElem?_getD] at this⟩
theorem gt_mk {b : List Int} (h0 : DgB b 0 4 1970 9999) (h1 : DgB b 4 2 1 12) (h2 : DgB b 6 2 1 (mdI (dvP b 0 4) (dvP b 4 2))) (h3 : DgB b 8 2 0 23) (h4 : DgB b 10 2 0 59) (h5 : DgB b 12 2 0 59) (h14 : b.getD 14 0 = 90) (hl : b.length = 15) : GT b := by
  refine ⟨hl, fun i hi => ?_, h0.2, h1.2, h2.2, h3.2.2, h4.2.2, h5.2.2, h14⟩
  rw [List.length_take, hl] at hi
  have hi : i < 14 := by omega
  rw [List.getD_eq_getElem?_getD, List.getElem?_take, if_pos hi, ← List.getD_eq_getElem?_getD]
  by_cases c0 : i < 4
  · have := h0.1.2 i c0
    rwa [Nat.zero_add] at this
  by_cases c1 : i < 6
  · have := h1.1.2 (i - 4) (by omega)
    rwa [show 4 + (i - 4) = i by omega] at this
  by_cases c2 : i < 8
  · have := h2.1.2 (i - 6) (by omega)
    rwa [show 6 + (i - 6) = i by omega] at this
  by_cases c3 : i < 10
  · have := h3.1.2 (i - 8) (by omega)
    rwa [show 8 + (i - 8) = i by omega] at this
  by_cases c4 : i < 12
  · have := h4.1.2 (i - 10) (by omega)
    rwa [show 10 + (i - 10) = i by omega] at this
  · have := h5.1.2 (i - 12) (by omega)
    rwa [show 12 + (i - 12) = i by omega] at this
theorem GT.b0 {b : List Int} (h : GT b) : DgB b 0 4 1970 9999 := ⟨h.part 0 4 (by omega), h.2.2.1⟩
theorem GT.b1 {b : List Int} (h : GT b) : DgB b 4 2 1 12 := ⟨h.part 4 2 (by omega), h.2.2.2.1⟩
theorem GT.b2 {b : List Int} (h : GT b) : DgB b 6 2 1 (mdI (dvP b 0 4) (dvP b 4 2)) := ⟨h.part 6 2 (by omega), h.2.2.2.2.1⟩
theorem DgA.pos {b : List Int} {i n : Nat} (h : DgA b i n) : 0 ≤ dvP b i n := by rw [h.dv]; exact (h.bd n (Nat.le_refl _)).1
theorem GT.b3 {b : List Int} (h : GT b) : DgB b 8 2 0 23 := ⟨h.part 8 2 (by omega), (h.part 8 2 (by omega)).pos, h.2.2.2.2.2.1⟩
theorem GT.b4 {b : List Int} (h : GT b) : DgB b 10 2 0 59 := ⟨h.part 10 2 (by omega), (h.part 10 2 (by omega)).pos, h.2.2.2.2.2.2.1⟩
theorem GT.b5 {b : List Int} (h : GT b) : DgB b 12 2 0 59 := ⟨h.part 12 2 (by omega), (h.part 12 2 (by omega)).pos, h.2.2.2.2.2.2.2.1⟩
theorem GT.z {b : List Int} (h : GT b) : b.getD 14 0 = 90 := h.2.2.2.2.2.2.2.2
theorem digits_v (w : World) (p g : Nat) (a : Option Addr) (c : Nat) (xs : List Int) (i n : Nat) (lo hi v : Int) (hv : dvP xs i n = v) (k : Nat) (hk : i + n = k) (hC : Cur w p (.slice a xs.length c) (i : Int)) (hr : Rd w g a .u8 xs) (hb : Byt xs) (hg : 0 < xs.length → g ≠ p) (hl : xs.length ≤ 1048576) (hi0 : i ≤ xs.length) (hn : n ≤ 4) :
    Calls Tryd.prog 37 #[.pointer (some ⟨p, 0, none⟩), .int .i64 (n : Int), .int .i64 lo, .int .i64 hi] w fun e w' => ((Hid (DgB xs i n lo hi) ∧ e = .returned (.int .i64 v) ∧ Cur w' p (.slice a xs.length c) (k : Int) ∧ Rd w' g a .u8 xs) ∨ (Hid (¬ DgB xs i n lo hi) ∧ Pan e)) ∧ Only p w w' := by
  subst hv
  subst hk
  exact (digits_any w p g a c xs i n lo hi hC hr hb hg hl hi0 hn).mono fun e w' ⟨h, o⟩ => ⟨h.elim (fun h => .inl ⟨h.1, h.2.1, h.2.2, hr.only o hg⟩) (fun h => .inr ⟨h.1, h.2⟩), o⟩
theorem HasM.only {w w' : World} {p : Nat} (h : HasM w) (o : Only p w w') (hp : 0 ≠ p) : HasM w' := h.of_block (o.block _ hp)

set_option maxHeartbeats 2000000 in
theorem time_any (w : World) (p g : Nat) (a : Option Addr) (c : Nat) (xs : List Int) (hC : Cur w p (.slice a xs.length c) ((0 : Nat) : Int)) (hr : Rd w g a .u8 xs) (hb : Byt xs) (hg : 0 < xs.length → g ≠ p) (hl : xs.length ≤ 1048576) (hM : HasM w) (hp : 0 ≠ p) :
    Calls Tryd.prog 27 #[.pointer (some ⟨p, 0, none⟩)] w fun e w' => ((GT xs ∧ e = .returned (.int .i64 (TV xs))) ∨ (¬ GT xs ∧ Pan e)) ∧ Kp p w w' := by
  generalize hy : dvP xs 0 4 = y
  generalize hm : dvP xs 4 2 = mm
  generalize hd : dvP xs 6 2 = dd
  generalize hh : dvP xs 8 2 = hh'
  generalize hi : dvP xs 10 2 = ii
  generalize hs : dvP xs 12 2 = ss
  have LT : Hid (∀ i n lo hi, DgB xs i n lo hi → i + n ≤ xs.length) := fun i n lo hi d => d.1.1
  have D1 := hide (digits_v w p g a c xs 0 4 1970 9999 y hy 4 rfl hC hr hb hg hl (by omega) (by omega))
  have D2 := fun W C R h => hide (digits_v W p g a c xs 4 2 1 12 mm hm 6 rfl C R hb hg hl h (by omega))
  have D3 := fun W C R h q => hide (digits_v W p g a c xs 6 2 1 q dd hd 8 rfl C R hb hg hl h (by omega))
  have D4 := fun W C R h => hide (digits_v W p g a c xs 8 2 0 23 hh' hh 10 rfl C R hb hg hl h (by omega))
  have D5 := fun W C R h => hide (digits_v W p g a c xs 10 2 0 59 ii hi 12 rfl C R hb hg hl h (by omega))
  have D6 := fun W C R h => hide (digits_v W p g a c xs 12 2 0 59 ss hs 14 rfl C R hb hg hl h (by omega))
  have TK := fun W C R => hide (take_any W p g a c xs 14 C R (by omega))
  have AE := fun W C => hide (atEnd_any W p a xs.length c 15 C)
  have HY := hide hy
  have HMM := hide hm
  have HD := hide hd
  have HH := hide hh
  have HI := hide hi
  have HS := hide hs
  clear hy hm hd hh hi hs hC hr hb hg hl
  go_enter Tryd.func27, Tryd.ntmps27
  go_wp2_with fail
  refine D1.out.mono ?_
  rintro r w1 ⟨⟨B1, rfl, C1, R1⟩ | ⟨B1, t, v, rfl⟩, O1⟩
  rotate_left
  · go_wp2
    exact ⟨rfl, .inr ⟨fun G => B1.out G.b0, t, v, rfl⟩, O1.kp⟩
  have E2 := D2 w1 C1 R1 (LT.out _ _ _ _ B1.out)
  clear D1 D2
  go_wp2_with fail
  refine E2.out.mono ?_
  rintro r w2 ⟨⟨B2, rfl, C2, R2⟩ | ⟨B2, t, v, rfl⟩, O2⟩
  rotate_left
  · go_wp2
    exact ⟨rfl, .inr ⟨fun G => B2.out G.b1, t, v, rfl⟩, (O1.trans O2).kp⟩
  have OO2 := O1.trans O2
  have M2 := hM.only OO2 hp
  clear O1 O2 E2 C1 R1
  obtain ⟨m, rfl⟩ : ∃ m : Nat, mm = (m : Int) + 1 := ⟨(mm - 1).toNat, by have := B2.out.2; rw [HMM.out] at this; omega⟩
  have y0 : 1970 ≤ y := by have := B1.out.2; rw [HY.out] at this; omega
  have y1 : y ≤ 9999 := by have := B1.out.2; rw [HY.out] at this; omega
  have m0 : m < 12 := by have := B2.out.2; rw [HMM.out] at this; omega
  have ML := hide (monthLength_any w2 y m M2 (by omega) m0)
  have E3 := D3 w2 C2 R2 (LT.out _ _ _ _ B2.out) (mdI y ((m : Int) + 1))
  clear D3
  have MB := mdI_bd y ((m : Int) + 1)
  generalize hmd : mdI y ((m : Int) + 1) = md at *
  have HMD := hide hmd
  clear hmd
  go_wp2_with fail
  refine ML.out.mono ?_
  rintro r w3 ⟨rfl, h⟩
  have h := h.symm
  subst h
  go_wp2_with fail
  refine E3.out.mono ?_
  rintro r w3 ⟨⟨B3, rfl, C3, R3⟩ | ⟨B3, t, v, rfl⟩, O3⟩
  rotate_left
  · go_wp2
    exact ⟨rfl, .inr ⟨fun G => B3.out (by have := G.b2; rwa [HY.out, HMM.out, HMD.out] at this), t, v, rfl⟩, (OO2.trans O3).kp⟩
  have OO3 := OO2.trans O3
  have E4 := D4 w3 C3 R3 (LT.out _ _ _ _ B3.out)
  clear OO2 O3 E3 C2 R2 D4 ML M2
  go_wp2_with fail
  refine E4.out.mono ?_
  rintro r w4 ⟨⟨B4, rfl, C4, R4⟩ | ⟨B4, t, v, rfl⟩, O4⟩
  rotate_left
  · go_wp2
    exact ⟨rfl, .inr ⟨fun G => B4.out G.b3, t, v, rfl⟩, (OO3.trans O4).kp⟩
  have OO4 := OO3.trans O4
  have E5 := D5 w4 C4 R4 (LT.out _ _ _ _ B4.out)
  clear OO3 O4 E4 C3 R3 D5
  go_wp2_with fail
  refine E5.out.mono ?_
  rintro r w5 ⟨⟨B5, rfl, C5, R5⟩ | ⟨B5, t, v, rfl⟩, O5⟩
  rotate_left
  · go_wp2
    exact ⟨rfl, .inr ⟨fun G => B5.out G.b4, t, v, rfl⟩, (OO4.trans O5).kp⟩
  have OO5 := OO4.trans O5
  have E6 := D6 w5 C5 R5 (LT.out _ _ _ _ B5.out)
  clear OO4 O5 E5 C4 R4 D6
  go_wp2_with fail
  refine E6.out.mono ?_
  rintro r w6 ⟨⟨B6, rfl, C6, R6⟩ | ⟨B6, t, v, rfl⟩, O6⟩
  rotate_left
  · go_wp2
    exact ⟨rfl, .inr ⟨fun G => B6.out G.b5, t, v, rfl⟩, (OO5.trans O6).kp⟩
  have OO6 := OO5.trans O6
  have T7 := TK w6 C6 R6
  clear OO5 O6 E6 C5 R5 TK
  generalize hz : xs.getD 14 0 = z at *
  have HZ := hide hz
  clear hz
  go_wp2_with fail
  refine T7.out.mono ?_
  rintro r w7 ⟨⟨l7, rfl, C7⟩ | ⟨l7, t, v, rfl⟩, O7⟩
  rotate_left
  · go_wp2
    exact ⟨rfl, .inr ⟨fun G => by have := G.1; omega, t, v, rfl⟩, (OO6.trans O7).kp⟩
  have OO7 := OO6.trans O7
  have L7 := hide l7
  clear OO6 O7 T7 C6 R6 l7
  by_cases cz : z = 90
  · subst cz
    have A8 := AE w7 C7
    clear AE
    by_cases c15 : 15 = xs.length
    · rw [decide_eq_true c15] at A8
      have C15 := hide c15
      clear c15
      go_wp2_with fail
      refine A8.out.mono ?_
      rintro r w8 ⟨rfl, q, rfl⟩
      have OO8 := OO7.trans (Only.drewN _ p q)
      have M8 := hM.only OO8 hp
      obtain ⟨x, rfl⟩ : ∃ x : Int, dd = x + 1 := ⟨dd - 1, by omega⟩
      have x0 : 0 ≤ x := by have := B3.out.2; rw [HD.out] at this; omega
      have x1 : x ≤ 31 := by have := B3.out.2; rw [HD.out] at this; omega
      have h0 : 0 ≤ hh' := by have := B4.out.2; rw [HH.out] at this; omega
      have h1 : hh' ≤ 23 := by have := B4.out.2; rw [HH.out] at this; omega
      have i0 : 0 ≤ ii := by have := B5.out.2; rw [HI.out] at this; omega
      have i1 : ii ≤ 59 := by have := B5.out.2; rw [HI.out] at this; omega
      have s0 : 0 ≤ ss := by have := B6.out.2; rw [HS.out] at this; omega
      have s1 : ss ≤ 59 := by have := B6.out.2; rw [HS.out] at this; omega
      have G : Hid (GT xs) := gt_mk B1.out B2.out (by rw [HY.out, HMM.out, HMD.out]; exact B3.out) B4.out B5.out B6.out HZ.out C15.out.symm
      have DY := hide (days_any (w7.drewN q) y m x M8 y0 y1 m0 x0 x1)
      have a0 := dyA_ge y y0
      have a1 := dyA_le y y0
      have b0 := mdS_mono y 0 m
      rw [Nat.zero_add] at b0
      have b1 := mdS_mono y m (12 - m)
      rw [show m + (12 - m) = 12 by omega, mdS_all] at b1
      have b2 := ydI_bd y
      have b3 : mdS y 0 = 0 := rfl
      have FV : Hid (TV xs = (dyA y + mdS y m + x) * 86400 + hh' * 3600 + ii * 60 + ss) := by
        show _ = _
        unfold TV
        rw [HY.out, HMM.out, HD.out, HH.out, HI.out, HS.out, show ((m : Int) + 1 - 1).toNat = m by omega, show x + 1 - 1 = x by omega]
      have n0 : 0 ≤ dyA y + mdS y m + x := by omega
      have n1 : dyA y + mdS y m + x ≤ 4000000 := by omega
      clear a0 a1 b0 b1 b2 b3 A8 M8 C7 OO7
      generalize dyA y + mdS y m + x = N at *
      go_wp2_with fail
      refine DY.out.mono ?_
      rintro r w9 ⟨rfl, N9⟩
      go_wp2
      go_ret
      exact ⟨.inl ⟨G.out, by rw [FV.out]; rfl⟩, OO8.kp.trans (below_kp N9)⟩
    · rw [decide_eq_false c15] at A8
      have C15 := hide c15
      clear c15
      go_wp2_with fail
      refine A8.out.mono ?_
      rintro r w8 ⟨rfl, q, rfl⟩
      go_wp2
      exact ⟨rfl, .inr ⟨fun G => C15.out G.1.symm, _, _, rfl⟩, (OO7.trans (Only.drewN _ p q)).kp⟩
  · have t1 : (z == 90) = false := by simp; omega
    have t2 : decide (z = 90) = false := by simp; omega
    have N := hide cz
    clear cz
    go_wp2
    exact ⟨rfl, .inr ⟨fun G => N.out (by rw [← HZ.out]; exact G.z), _, _, rfl⟩, OO7.kp⟩
end Go.Proofs.YtakcpkfofgiehaaDoor
