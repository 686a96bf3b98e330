
/-
  The cursor's short text, and a ticket's state; the program's (written by gens/dsb.py).
-/
import Derived.Test.YtjdbnlbmhnpifaaDsA
import Derived.Test.YtjdbnlbmhnpifaaDsS
namespace Go.Proofs.Ytjdbnlbmhnpifaa
open Go Go.RowKit

theorem RwC.kp {w w' : World} {q p : Nat} {cs : List Value} {t : TypeId} (h : RwC w q cs t) (n : Kp p w w') (hq : q ≠ p) : RwC w' q cs t := (n.block q h.lt hq).trans h
theorem Blk.kp {w w' : World} {q p : Nat} {k : IntKind} {ys : List Int} (h : Blk w q k ys) (n : Kp p w w') (hq : q ≠ p) : Blk w' q k ys := h.of_block (n.block q h.lt hq)
theorem Kp.onl {p q : Nat} {a b c : World} (h : Kp p a b) (k : Only q b c) (hq : a.heap.size ≤ q) : Kp p a c :=
  ⟨k.os.trans h.os, k.tape.trans h.tape, k.output.trans h.output, by rw [k.size]; exact h.size, fun i hi hp => (k.block i (by omega)).trans (h.block i hi hp)⟩
set_option maxHeartbeats 2000000 in
theorem short_any (w : World) (p g : Nat) (a : Option Addr) (c : Nat) (xs : List Int) (i : Nat) (hC : Cur w p (.slice a xs.length c) i) (hr : Rd w g a .u8 xs) (hb : Byt xs) (hgp : 0 < xs.length → g ≠ p) (hc0 : a = none → c = 0) (hc : xs.length ≤ c) (hn : xs.length ≤ 1048576) (hi : i ≤ xs.length) :
    Calls Try.prog 47 #[.pointer (some ⟨p, 0, none⟩)] w fun e w' => ((i + 1 + (beN xs i 1).toNat ≤ xs.length ∧ e = .returned (.string ⟨⟨txB (tkB xs (i + 1) (beN xs i 1).toNat)⟩⟩) ∧ Cur w' p (.slice a xs.length c) ((i + 1 + (beN xs i 1).toNat : Nat) : Int)) ∨ (xs.length < i + 1 + (beN xs i 1).toNat ∧ Pan e)) ∧ Kp p w w' := by
  by_cases h1 : i + 1 ≤ xs.length
  · have NM := hide (numberG_any w p g a c xs i 1 hC hr hb hgp h1 (by omega) (by omega))
    rw [nmV_small hb i 1 (by decide)] at NM
    have r := beN_rng hb i 1
    obtain ⟨n, hn1⟩ := Int.eq_ofNat_of_zero_le r.1
    have e1 : (beN xs i 1).toNat = n := by omega
    rw [e1]
    rw [hn1] at NM
    clear hn1 e1 r hC
    go_enter Try.func47, Try.ntmps47
    go_wp2_with fail
    refine NM.out.mono ?_
    rintro e w1 ⟨rfl, C1, O1⟩
    clear NM
    have hr1 := hr.of_block' (fun h => O1.block g (hgp h))
    by_cases h2 : i + 1 + n ≤ xs.length
    · have TL := hide (takeList_any w1 p g a c xs (i + 1) n C1 hr1 hc0 hc hn h1 h2)
      rw [tkB_take xs (i + 1) n h2] at TL
      have H2 := hide h2
      clear C1 hr1 h2
      go_wp2_with fail
      refine TL.out.mono ?_
      rintro e w2 ⟨rfl, B2, C2, K2⟩
      have cv := conv_run w2 _ _ n _ B2.own0.rd
      rw [tkB_len, str_is] at cv
      have KK := O1.kp.trans K2
      clear TL B2 K2 O1
      go_wp2
      go_ret
      exact ⟨.inl ⟨H2.out, rfl, C2⟩, KK⟩
    · have TL := hide (takeList_bad w1 p a xs.length c (i + 1) n C1 (by omega) hn h1)
      have H2 := hide (show xs.length < i + 1 + n by omega)
      clear C1 hr1 h2
      go_wp2_with fail
      refine TL.out.mono ?_
      rintro e w2 ⟨⟨t, v, rfl⟩, O2⟩
      go_wp2
      exact ⟨rfl, .inr ⟨H2.out, t, v, rfl⟩, O1.kp.trans O2.kp⟩
  · have NM := hide (number_bad w p g a c xs i 1 hC hr hgp hi (by omega) (by omega) (by omega))
    have H2 := hide (show xs.length < i + 1 + (beN xs i 1).toNat by omega)
    clear hC h1
    go_enter Try.func47, Try.ntmps47
    go_wp2_with fail
    refine NM.out.mono ?_
    rintro e w2 ⟨⟨t, v, rfl⟩, O2⟩
    go_wp2
    exact ⟨rfl, .inr ⟨H2.out, t, v, rfl⟩, O2.kp⟩
set_option maxHeartbeats 16000000 in
theorem state_any (w : World) (p g : Nat) (a : Option Addr) (c : Nat) (b : List Int) (hC : Cur w p (.slice a b.length c) ((0 : Nat) : Int)) (hr : Rd w g a .u8 b) (hb : Byt b) (hgp : 0 < b.length → g ≠ p) (hc0 : a = none → c = 0) (hc : b.length ≤ c) (hn : b.length ≤ 1048576) :
    Calls Try.prog 39 #[.pointer (some ⟨p, 0, none⟩)] w fun e w' => ((82 + dn1 b + dn2 b ≤ b.length ∧ ∃ gX gY, e = .returned (.agg #[.slice (some ⟨gX, 0, none⟩) 32 32, .slice (some ⟨gY, 0, none⟩) 32 32, .int .i64 (dM b), .int .i64 (dL b), .string ⟨⟨dH b⟩⟩, .string ⟨⟨dP b⟩⟩, .int .i64 (dE b)]) ∧ Blk w' gX .u8 (dX b) ∧ Blk w' gY .u8 (dY b) ∧ w.heap.size ≤ gX ∧ gX < gY) ∨ (¬ 82 + dn1 b + dn2 b ≤ b.length ∧ Pan e)) ∧ Kp p w w' := by
  obtain ⟨dR, hdR, hrowR⟩ := rowTs
  have pl := hC.lt
  have z1 : (w.alloc (.cells #[.slice none 0 0, .slice none 0 0, .int .i64 0, .int .i64 0, .string ⟨#[]⟩, .string ⟨#[]⟩, .int .i64 0] 27)).heap.size = w.heap.size + 1 := by simp
  have n1 : Below w.heap.size w (w.alloc (.cells #[.slice none 0 0, .slice none 0 0, .int .i64 0, .int .i64 0, .string ⟨#[]⟩, .string ⟨#[]⟩, .int .i64 0] 27)) := (Below.refl _ _).alloc (Nat.le_refl _) _
  have n2 : Below (w.alloc (.cells #[.slice none 0 0, .slice none 0 0, .int .i64 0, .int .i64 0, .string ⟨#[]⟩, .string ⟨#[]⟩, .int .i64 0] 27)).heap.size (w.alloc (.cells #[.slice none 0 0, .slice none 0 0, .int .i64 0, .int .i64 0, .string ⟨#[]⟩, .string ⟨#[]⟩, .int .i64 0] 27)) ((w.alloc (.cells #[.slice none 0 0, .slice none 0 0, .int .i64 0, .int .i64 0, .string ⟨#[]⟩, .string ⟨#[]⟩, .int .i64 0] 27)).alloc (.cells #[.slice none 0 0, .slice none 0 0, .int .i64 0, .int .i64 0, .string ⟨#[]⟩, .string ⟨#[]⟩, .int .i64 0] 27)) := (Below.refl _ _).alloc (Nat.le_refl _) _
  have Q0 : RwC (w.alloc (.cells #[.slice none 0 0, .slice none 0 0, .int .i64 0, .int .i64 0, .string ⟨#[]⟩, .string ⟨#[]⟩, .int .i64 0] 27)) w.heap.size [.slice none 0 0, .slice none 0 0, .int .i64 0, .int .i64 0, .string ⟨#[]⟩, .string ⟨#[]⟩, .int .i64 0] 27 := RwC.new w _ _
  have T0 : RwC ((w.alloc (.cells #[.slice none 0 0, .slice none 0 0, .int .i64 0, .int .i64 0, .string ⟨#[]⟩, .string ⟨#[]⟩, .int .i64 0] 27)).alloc (.cells #[.slice none 0 0, .slice none 0 0, .int .i64 0, .int .i64 0, .string ⟨#[]⟩, .string ⟨#[]⟩, .int .i64 0] 27)) (w.alloc (.cells #[.slice none 0 0, .slice none 0 0, .int .i64 0, .int .i64 0, .string ⟨#[]⟩, .string ⟨#[]⟩, .int .i64 0] 27)).heap.size [.slice none 0 0, .slice none 0 0, .int .i64 0, .int .i64 0, .string ⟨#[]⟩, .string ⟨#[]⟩, .int .i64 0] 27 := RwC.new _ _ _
  replace Q0 := Q0.up n2
  have N := nxt n1 n2
  rw [z1] at T0
  have zt : w.heap.size + 1 < ((w.alloc (.cells #[.slice none 0 0, .slice none 0 0, .int .i64 0, .int .i64 0, .string ⟨#[]⟩, .string ⟨#[]⟩, .int .i64 0] 27)).alloc (.cells #[.slice none 0 0, .slice none 0 0, .int .i64 0, .int .i64 0, .string ⟨#[]⟩, .string ⟨#[]⟩, .int .i64 0] 27)).heap.size := T0.lt
  have C0 := hC.up N
  have K : Kp p w ((w.alloc (.cells #[.slice none 0 0, .slice none 0 0, .int .i64 0, .int .i64 0, .string ⟨#[]⟩, .string ⟨#[]⟩, .int .i64 0] 27)).alloc (.cells #[.slice none 0 0, .slice none 0 0, .int .i64 0, .int .i64 0, .string ⟨#[]⟩, .string ⟨#[]⟩, .int .i64 0] 27)) := below_kp N
  have L1 := hide (dn1_is hb)
  have L2 := hide (dn2_is hb)
  have E1 : Hid ((beN b 80 1).toNat = dn1 b) := rfl
  have E2 : Hid ((beN b (81 + dn1 b) 1).toNat = dn2 b) := rfl
  clear n1 n2 z1 hC N
  go_enter Try.func39, Try.ntmps39
  go_wp2_with fail
  generalize (w.alloc (.cells #[.slice none 0 0, .slice none 0 0, .int .i64 0, .int .i64 0, .string ⟨#[]⟩, .string ⟨#[]⟩, .int .i64 0] 27)).alloc (.cells #[.slice none 0 0, .slice none 0 0, .int .i64 0, .int .i64 0, .string ⟨#[]⟩, .string ⟨#[]⟩, .int .i64 0] 27) = v0 at *
  have hrk := hr.kp K hgp
  by_cases h0 : 0 + 32 ≤ b.length
  · skip
    have ST := hide (takeList_any v0 p g a c b (0) 32 C0 hrk hc0 hc hn (by omega) h0)
    rw [tkB_take b (0) 32 h0] at ST
    clear hrk
    refine ST.out.mono ?_
    rintro e x0 ⟨rfl, B0, C1, KS⟩
    clear ST
    have zx0 := KS.size
    replace K := K.trans KS
    replace Q0 := Q0.kp KS (by omega)
    replace T0 := T0.kp KS (by omega)
    clear KS C0
    obtain ⟨gX, hgX⟩ : ∃ q, q = v0.heap.size := ⟨_, rfl⟩
    rw [← hgX] at B0 ⊢
    have BX : Blk x0 gX .u8 (dX b) := B0
    have lgX := BX.lt
    have ygX : w.heap.size + 1 < gX := by omega
    clear hgX B0
    replace C1 : Cur x0 p (.slice a b.length c) ((32 : Nat) : Int) := by have := C1; rwa [show 0 + 32 = 32 by omega] at this
    have tc : x0.cell? ⟨w.heap.size + 1, 0, none⟩ = some (.slice none 0 0) := T0.cell 0
    have tf := T0.free 0
    have OS := Only.setCell x0 (w.heap.size + 1) 0 (.slice (some ⟨gX, 0, none⟩) 32 32)
    have T1 : RwC (x0.setCell ⟨w.heap.size + 1, 0, none⟩ (.slice (some ⟨gX, 0, none⟩) 32 32)) (w.heap.size + 1) [.slice (some ⟨gX, 0, none⟩) 32 32, .slice none 0 0, .int .i64 0, .int .i64 0, .string ⟨#[]⟩, .string ⟨#[]⟩, .int .i64 0] 27 := T0.set 0 _
    have C2 := C1.onl OS (by omega)
    have Q1 := Q0.onl OS (by omega)
    have BXn := BX.of_block (OS.block gX (by omega))
    have K1 := K.onl OS (by omega)
    have zs0 : x0.heap.size ≤ (x0.setCell ⟨w.heap.size + 1, 0, none⟩ (.slice (some ⟨gX, 0, none⟩) 32 32)).heap.size := Nat.le_of_eq OS.size.symm
    clear K Q0 T0 C1 OS BX
    go_wp2_with fail
    generalize x0.setCell ⟨w.heap.size + 1, 0, none⟩ (.slice (some ⟨gX, 0, none⟩) 32 32) = u0 at *
    clear tc tf
    have C0 := C2
    have Q0 := Q1
    have T0 := T1
    have K := K1
    clear C2 Q1 T1 K1
    have BX := BXn
    clear BXn
    have hrk := hr.kp K hgp
    by_cases h1 : 32 + 32 ≤ b.length
    · skip
      have ST := hide (takeList_any u0 p g a c b (32) 32 C0 hrk hc0 hc hn (by omega) h1)
      rw [tkB_take b (32) 32 h1] at ST
      skip
      clear hrk
      refine ST.out.mono ?_
      rintro e x1 ⟨rfl, B1, C1, KS⟩
      clear ST
      have zx1 := KS.size
      replace K := K.trans KS
      replace Q0 := Q0.kp KS (by omega)
      replace T0 := T0.kp KS (by omega)
      replace BX := BX.kp KS (by omega)
      clear KS C0
      obtain ⟨gY, hgY⟩ : ∃ q, q = u0.heap.size := ⟨_, rfl⟩
      rw [← hgY] at B1 ⊢
      have BY : Blk x1 gY .u8 (dY b) := B1
      have lgY := BY.lt
      have ygY : gX < gY := by omega
      clear hgY B1
      replace C1 : Cur x1 p (.slice a b.length c) ((64 : Nat) : Int) := by have := C1; rwa [show 32 + 32 = 64 by omega] at this
      have tc : x1.cell? ⟨w.heap.size + 1, 1, none⟩ = some (.slice none 0 0) := T0.cell 1
      have tf := T0.free 1
      have OS := Only.setCell x1 (w.heap.size + 1) 1 (.slice (some ⟨gY, 0, none⟩) 32 32)
      have T1 : RwC (x1.setCell ⟨w.heap.size + 1, 1, none⟩ (.slice (some ⟨gY, 0, none⟩) 32 32)) (w.heap.size + 1) [.slice (some ⟨gX, 0, none⟩) 32 32, .slice (some ⟨gY, 0, none⟩) 32 32, .int .i64 0, .int .i64 0, .string ⟨#[]⟩, .string ⟨#[]⟩, .int .i64 0] 27 := T0.set 1 _
      have C2 := C1.onl OS (by omega)
      have Q1 := Q0.onl OS (by omega)
      have BXn := BX.of_block (OS.block gX (by omega))
      have BYn := BY.of_block (OS.block gY (by omega))
      have K1 := K.onl OS (by omega)
      have zs1 : x1.heap.size ≤ (x1.setCell ⟨w.heap.size + 1, 1, none⟩ (.slice (some ⟨gY, 0, none⟩) 32 32)).heap.size := Nat.le_of_eq OS.size.symm
      clear K Q0 T0 C1 OS BX BY
      go_wp2_with fail
      generalize x1.setCell ⟨w.heap.size + 1, 1, none⟩ (.slice (some ⟨gY, 0, none⟩) 32 32) = u1 at *
      clear tc tf
      have C0 := C2
      have Q0 := Q1
      have T0 := T1
      have K := K1
      clear C2 Q1 T1 K1
      have BX := BXn
      clear BXn
      have BY := BYn
      clear BYn
      have hrk := hr.kp K hgp
      by_cases h2 : 64 + 8 ≤ b.length
      · skip
        have ST := hide (numberG_any u1 p g a c b (64) 8 C0 hrk hb hgp h2 (by omega) (by omega))
        skip
        clear hrk
        refine ST.out.mono ?_
        rintro e x2 ⟨rfl, C1, OS⟩
        have KS := OS.kp
        clear ST OS
        have zx2 := KS.size
        replace K := K.trans KS
        replace Q0 := Q0.kp KS (by omega)
        replace T0 := T0.kp KS (by omega)
        replace BX := BX.kp KS (by omega)
        replace BY := BY.kp KS (by omega)
        clear KS C0
        rw [show nmV b (64) 8 = dM b from rfl]
        replace C1 : Cur x2 p (.slice a b.length c) ((72 : Nat) : Int) := by have := C1; rwa [show 64 + 8 = 72 by omega] at this
        have tc : x2.cell? ⟨w.heap.size + 1, 2, none⟩ = some (.int .i64 0) := T0.cell 2
        have tf := T0.free 2
        have OS := Only.setCell x2 (w.heap.size + 1) 2 (.int .i64 (dM b))
        have T1 : RwC (x2.setCell ⟨w.heap.size + 1, 2, none⟩ (.int .i64 (dM b))) (w.heap.size + 1) [.slice (some ⟨gX, 0, none⟩) 32 32, .slice (some ⟨gY, 0, none⟩) 32 32, .int .i64 (dM b), .int .i64 0, .string ⟨#[]⟩, .string ⟨#[]⟩, .int .i64 0] 27 := T0.set 2 _
        have C2 := C1.onl OS (by omega)
        have Q1 := Q0.onl OS (by omega)
        have BXn := BX.of_block (OS.block gX (by omega))
        have BYn := BY.of_block (OS.block gY (by omega))
        have K1 := K.onl OS (by omega)
        have zs2 : x2.heap.size ≤ (x2.setCell ⟨w.heap.size + 1, 2, none⟩ (.int .i64 (dM b))).heap.size := Nat.le_of_eq OS.size.symm
        clear K Q0 T0 C1 OS BX BY
        go_wp2_with fail
        generalize x2.setCell ⟨w.heap.size + 1, 2, none⟩ (.int .i64 (dM b)) = u2 at *
        clear tc tf
        have C0 := C2
        have Q0 := Q1
        have T0 := T1
        have K := K1
        clear C2 Q1 T1 K1
        have BX := BXn
        clear BXn
        have BY := BYn
        clear BYn
        have hrk := hr.kp K hgp
        by_cases h3 : 72 + 4 ≤ b.length
        · skip
          have ST := hide (numberG_any u2 p g a c b (72) 4 C0 hrk hb hgp h3 (by omega) (by omega))
          skip
          clear hrk
          refine ST.out.mono ?_
          rintro e x3 ⟨rfl, C1, OS⟩
          have KS := OS.kp
          clear ST OS
          have zx3 := KS.size
          replace K := K.trans KS
          replace Q0 := Q0.kp KS (by omega)
          replace T0 := T0.kp KS (by omega)
          replace BX := BX.kp KS (by omega)
          replace BY := BY.kp KS (by omega)
          clear KS C0
          rw [show nmV b (72) 4 = dL b from rfl]
          replace C1 : Cur x3 p (.slice a b.length c) ((76 : Nat) : Int) := by have := C1; rwa [show 72 + 4 = 76 by omega] at this
          have tc : x3.cell? ⟨w.heap.size + 1, 3, none⟩ = some (.int .i64 0) := T0.cell 3
          have tf := T0.free 3
          have OS := Only.setCell x3 (w.heap.size + 1) 3 (.int .i64 (dL b))
          have T1 : RwC (x3.setCell ⟨w.heap.size + 1, 3, none⟩ (.int .i64 (dL b))) (w.heap.size + 1) [.slice (some ⟨gX, 0, none⟩) 32 32, .slice (some ⟨gY, 0, none⟩) 32 32, .int .i64 (dM b), .int .i64 (dL b), .string ⟨#[]⟩, .string ⟨#[]⟩, .int .i64 0] 27 := T0.set 3 _
          have C2 := C1.onl OS (by omega)
          have Q1 := Q0.onl OS (by omega)
          have BXn := BX.of_block (OS.block gX (by omega))
          have BYn := BY.of_block (OS.block gY (by omega))
          have K1 := K.onl OS (by omega)
          have zs3 : x3.heap.size ≤ (x3.setCell ⟨w.heap.size + 1, 3, none⟩ (.int .i64 (dL b))).heap.size := Nat.le_of_eq OS.size.symm
          clear K Q0 T0 C1 OS BX BY
          go_wp2_with fail
          generalize x3.setCell ⟨w.heap.size + 1, 3, none⟩ (.int .i64 (dL b)) = u3 at *
          clear tc tf
          have C0 := C2
          have Q0 := Q1
          have T0 := T1
          have K := K1
          clear C2 Q1 T1 K1
          have BX := BXn
          clear BXn
          have BY := BYn
          clear BYn
          have hrk := hr.kp K hgp
          by_cases h4 : 76 + 4 ≤ b.length
          · skip
            have ST := hide (numberG_any u3 p g a c b (76) 4 C0 hrk hb hgp h4 (by omega) (by omega))
            skip
            clear hrk
            refine ST.out.mono ?_
            rintro e x4 ⟨rfl, C1, OS⟩
            have KS := OS.kp
            clear ST OS
            have zx4 := KS.size
            replace K := K.trans KS
            replace Q0 := Q0.kp KS (by omega)
            replace T0 := T0.kp KS (by omega)
            replace BX := BX.kp KS (by omega)
            replace BY := BY.kp KS (by omega)
            clear KS C0
            rw [show nmV b (76) 4 = dE b from rfl]
            replace C1 : Cur x4 p (.slice a b.length c) ((80 : Nat) : Int) := by have := C1; rwa [show 76 + 4 = 80 by omega] at this
            have tc : x4.cell? ⟨w.heap.size + 1, 6, none⟩ = some (.int .i64 0) := T0.cell 6
            have tf := T0.free 6
            have OS := Only.setCell x4 (w.heap.size + 1) 6 (.int .i64 (dE b))
            have T1 : RwC (x4.setCell ⟨w.heap.size + 1, 6, none⟩ (.int .i64 (dE b))) (w.heap.size + 1) [.slice (some ⟨gX, 0, none⟩) 32 32, .slice (some ⟨gY, 0, none⟩) 32 32, .int .i64 (dM b), .int .i64 (dL b), .string ⟨#[]⟩, .string ⟨#[]⟩, .int .i64 (dE b)] 27 := T0.set 6 _
            have C2 := C1.onl OS (by omega)
            have Q1 := Q0.onl OS (by omega)
            have BXn := BX.of_block (OS.block gX (by omega))
            have BYn := BY.of_block (OS.block gY (by omega))
            have K1 := K.onl OS (by omega)
            have zs4 : x4.heap.size ≤ (x4.setCell ⟨w.heap.size + 1, 6, none⟩ (.int .i64 (dE b))).heap.size := Nat.le_of_eq OS.size.symm
            clear K Q0 T0 C1 OS BX BY
            go_wp2_with fail
            generalize x4.setCell ⟨w.heap.size + 1, 6, none⟩ (.int .i64 (dE b)) = u4 at *
            clear tc tf
            have C0 := C2
            have Q0 := Q1
            have T0 := T1
            have K := K1
            clear C2 Q1 T1 K1
            have BX := BXn
            clear BXn
            have BY := BYn
            clear BYn
            have hrk := hr.kp K hgp
            have ST := hide (short_any u4 p g a c b (80) C0 hrk hb hgp hc0 hc hn (by omega))
            rw [E1.out] at ST
            skip
            clear hrk
            refine ST.out.mono ?_
            rintro e x5 ⟨hs, KS⟩
            clear ST
            rcases hs with ⟨h5, rfl, C1⟩ | ⟨h5, t, v, rfl⟩
            rotate_left
            · have H2 := hide (show ¬ 82 + dn1 b + dn2 b ≤ b.length by omega)
              go_wp2
              exact ⟨rfl, .inr ⟨H2.out, t, v, rfl⟩, K.trans KS⟩
            have zx5 := KS.size
            replace K := K.trans KS
            replace Q0 := Q0.kp KS (by omega)
            replace T0 := T0.kp KS (by omega)
            replace BX := BX.kp KS (by omega)
            replace BY := BY.kp KS (by omega)
            clear KS C0
            rw [show txB (tkB b (80 + 1) (dn1 b)) = dH b from rfl]
            replace C1 : Cur x5 p (.slice a b.length c) ((81 + dn1 b : Nat) : Int) := by have := C1; rwa [show 80 + 1 + dn1 b = 81 + dn1 b by omega] at this
            have tc : x5.cell? ⟨w.heap.size + 1, 4, none⟩ = some (.string ⟨#[]⟩) := T0.cell 4
            have tf := T0.free 4
            have OS := Only.setCell x5 (w.heap.size + 1) 4 (.string ⟨⟨dH b⟩⟩)
            have T1 : RwC (x5.setCell ⟨w.heap.size + 1, 4, none⟩ (.string ⟨⟨dH b⟩⟩)) (w.heap.size + 1) [.slice (some ⟨gX, 0, none⟩) 32 32, .slice (some ⟨gY, 0, none⟩) 32 32, .int .i64 (dM b), .int .i64 (dL b), .string ⟨⟨dH b⟩⟩, .string ⟨#[]⟩, .int .i64 (dE b)] 27 := T0.set 4 _
            have C2 := C1.onl OS (by omega)
            have Q1 := Q0.onl OS (by omega)
            have BXn := BX.of_block (OS.block gX (by omega))
            have BYn := BY.of_block (OS.block gY (by omega))
            have K1 := K.onl OS (by omega)
            have zs5 : x5.heap.size ≤ (x5.setCell ⟨w.heap.size + 1, 4, none⟩ (.string ⟨⟨dH b⟩⟩)).heap.size := Nat.le_of_eq OS.size.symm
            clear K Q0 T0 C1 OS BX BY
            go_wp2_with fail
            generalize x5.setCell ⟨w.heap.size + 1, 4, none⟩ (.string ⟨⟨dH b⟩⟩) = u5 at *
            clear tc tf
            have C0 := C2
            have Q0 := Q1
            have T0 := T1
            have K := K1
            clear C2 Q1 T1 K1
            have BX := BXn
            clear BXn
            have BY := BYn
            clear BYn
            have hrk := hr.kp K hgp
            have ST := hide (short_any u5 p g a c b (81 + dn1 b) C0 hrk hb hgp hc0 hc hn (by omega))
            rw [E2.out] at ST
            skip
            clear hrk
            refine ST.out.mono ?_
            rintro e x6 ⟨hs, KS⟩
            clear ST
            rcases hs with ⟨h6, rfl, C1⟩ | ⟨h6, t, v, rfl⟩
            rotate_left
            · have H2 := hide (show ¬ 82 + dn1 b + dn2 b ≤ b.length by omega)
              go_wp2
              exact ⟨rfl, .inr ⟨H2.out, t, v, rfl⟩, K.trans KS⟩
            have zx6 := KS.size
            replace K := K.trans KS
            replace Q0 := Q0.kp KS (by omega)
            replace T0 := T0.kp KS (by omega)
            replace BX := BX.kp KS (by omega)
            replace BY := BY.kp KS (by omega)
            clear KS C0
            rw [show txB (tkB b (81 + dn1 b + 1) (dn2 b)) = dP b from by unfold dP; rw [show 81 + dn1 b + 1 = 82 + dn1 b by omega]]
            replace C1 : Cur x6 p (.slice a b.length c) ((82 + dn1 b + dn2 b : Nat) : Int) := by have := C1; rwa [show 81 + dn1 b + 1 + dn2 b = 82 + dn1 b + dn2 b by omega] at this
            have tc : x6.cell? ⟨w.heap.size + 1, 5, none⟩ = some (.string ⟨#[]⟩) := T0.cell 5
            have tf := T0.free 5
            have OS := Only.setCell x6 (w.heap.size + 1) 5 (.string ⟨⟨dP b⟩⟩)
            have T1 : RwC (x6.setCell ⟨w.heap.size + 1, 5, none⟩ (.string ⟨⟨dP b⟩⟩)) (w.heap.size + 1) [.slice (some ⟨gX, 0, none⟩) 32 32, .slice (some ⟨gY, 0, none⟩) 32 32, .int .i64 (dM b), .int .i64 (dL b), .string ⟨⟨dH b⟩⟩, .string ⟨⟨dP b⟩⟩, .int .i64 (dE b)] 27 := T0.set 5 _
            have C2 := C1.onl OS (by omega)
            have Q1 := Q0.onl OS (by omega)
            have BXn := BX.of_block (OS.block gX (by omega))
            have BYn := BY.of_block (OS.block gY (by omega))
            have K1 := K.onl OS (by omega)
            have zs6 : x6.heap.size ≤ (x6.setCell ⟨w.heap.size + 1, 5, none⟩ (.string ⟨⟨dP b⟩⟩)).heap.size := Nat.le_of_eq OS.size.symm
            clear K Q0 T0 C1 OS BX BY
            have t0 : (x6.setCell ⟨w.heap.size + 1, 5, none⟩ (.string ⟨⟨dP b⟩⟩)).cell? ⟨w.heap.size + 1, 0, none⟩ = some (.slice (some ⟨gX, 0, none⟩) 32 32) := T1.cell 0
            have qc0 : (x6.setCell ⟨w.heap.size + 1, 5, none⟩ (.string ⟨⟨dP b⟩⟩)).cell? ⟨w.heap.size, 0, none⟩ = some (.slice none 0 0) := Q1.cell 0
            have qf0 := Q1.free 0
            have t1 : (x6.setCell ⟨w.heap.size + 1, 5, none⟩ (.string ⟨⟨dP b⟩⟩)).cell? ⟨w.heap.size + 1, 1, none⟩ = some (.slice (some ⟨gY, 0, none⟩) 32 32) := T1.cell 1
            have qc1 : (x6.setCell ⟨w.heap.size + 1, 5, none⟩ (.string ⟨⟨dP b⟩⟩)).cell? ⟨w.heap.size, 1, none⟩ = some (.slice none 0 0) := Q1.cell 1
            have qf1 := Q1.free 1
            have t2 : (x6.setCell ⟨w.heap.size + 1, 5, none⟩ (.string ⟨⟨dP b⟩⟩)).cell? ⟨w.heap.size + 1, 2, none⟩ = some (.int .i64 (dM b)) := T1.cell 2
            have qc2 : (x6.setCell ⟨w.heap.size + 1, 5, none⟩ (.string ⟨⟨dP b⟩⟩)).cell? ⟨w.heap.size, 2, none⟩ = some (.int .i64 0) := Q1.cell 2
            have qf2 := Q1.free 2
            have t3 : (x6.setCell ⟨w.heap.size + 1, 5, none⟩ (.string ⟨⟨dP b⟩⟩)).cell? ⟨w.heap.size + 1, 3, none⟩ = some (.int .i64 (dL b)) := T1.cell 3
            have qc3 : (x6.setCell ⟨w.heap.size + 1, 5, none⟩ (.string ⟨⟨dP b⟩⟩)).cell? ⟨w.heap.size, 3, none⟩ = some (.int .i64 0) := Q1.cell 3
            have qf3 := Q1.free 3
            have t4 : (x6.setCell ⟨w.heap.size + 1, 5, none⟩ (.string ⟨⟨dP b⟩⟩)).cell? ⟨w.heap.size + 1, 4, none⟩ = some (.string ⟨⟨dH b⟩⟩) := T1.cell 4
            have qc4 : (x6.setCell ⟨w.heap.size + 1, 5, none⟩ (.string ⟨⟨dP b⟩⟩)).cell? ⟨w.heap.size, 4, none⟩ = some (.string ⟨#[]⟩) := Q1.cell 4
            have qf4 := Q1.free 4
            have t5 : (x6.setCell ⟨w.heap.size + 1, 5, none⟩ (.string ⟨⟨dP b⟩⟩)).cell? ⟨w.heap.size + 1, 5, none⟩ = some (.string ⟨⟨dP b⟩⟩) := T1.cell 5
            have qc5 : (x6.setCell ⟨w.heap.size + 1, 5, none⟩ (.string ⟨⟨dP b⟩⟩)).cell? ⟨w.heap.size, 5, none⟩ = some (.string ⟨#[]⟩) := Q1.cell 5
            have qf5 := Q1.free 5
            have t6 : (x6.setCell ⟨w.heap.size + 1, 5, none⟩ (.string ⟨⟨dP b⟩⟩)).cell? ⟨w.heap.size + 1, 6, none⟩ = some (.int .i64 (dE b)) := T1.cell 6
            have qc6 : (x6.setCell ⟨w.heap.size + 1, 5, none⟩ (.string ⟨⟨dP b⟩⟩)).cell? ⟨w.heap.size, 6, none⟩ = some (.int .i64 0) := Q1.cell 6
            have qf6 := Q1.free 6
            have RF : RwC ((((((((x6.setCell ⟨w.heap.size + 1, 5, none⟩ (.string ⟨⟨dP b⟩⟩)).setCell ⟨w.heap.size, 0, none⟩ (.slice (some ⟨gX, 0, none⟩) 32 32)).setCell ⟨w.heap.size, 1, none⟩ (.slice (some ⟨gY, 0, none⟩) 32 32)).setCell ⟨w.heap.size, 2, none⟩ (.int .i64 (dM b))).setCell ⟨w.heap.size, 3, none⟩ (.int .i64 (dL b))).setCell ⟨w.heap.size, 4, none⟩ (.string ⟨⟨dH b⟩⟩)).setCell ⟨w.heap.size, 5, none⟩ (.string ⟨⟨dP b⟩⟩)).setCell ⟨w.heap.size, 6, none⟩ (.int .i64 (dE b))) w.heap.size [.slice (some ⟨gX, 0, none⟩) 32 32, .slice (some ⟨gY, 0, none⟩) 32 32, .int .i64 (dM b), .int .i64 (dL b), .string ⟨⟨dH b⟩⟩, .string ⟨⟨dP b⟩⟩, .int .i64 (dE b)] 27 := (((((((Q1.set 0 (.slice (some ⟨gX, 0, none⟩) 32 32)).set 1 (.slice (some ⟨gY, 0, none⟩) 32 32)).set 2 (.int .i64 (dM b))).set 3 (.int .i64 (dL b))).set 4 (.string ⟨⟨dH b⟩⟩)).set 5 (.string ⟨⟨dP b⟩⟩)).set 6 (.int .i64 (dE b)))
            have OF : Only w.heap.size (x6.setCell ⟨w.heap.size + 1, 5, none⟩ (.string ⟨⟨dP b⟩⟩)) ((((((((x6.setCell ⟨w.heap.size + 1, 5, none⟩ (.string ⟨⟨dP b⟩⟩)).setCell ⟨w.heap.size, 0, none⟩ (.slice (some ⟨gX, 0, none⟩) 32 32)).setCell ⟨w.heap.size, 1, none⟩ (.slice (some ⟨gY, 0, none⟩) 32 32)).setCell ⟨w.heap.size, 2, none⟩ (.int .i64 (dM b))).setCell ⟨w.heap.size, 3, none⟩ (.int .i64 (dL b))).setCell ⟨w.heap.size, 4, none⟩ (.string ⟨⟨dH b⟩⟩)).setCell ⟨w.heap.size, 5, none⟩ (.string ⟨⟨dP b⟩⟩)).setCell ⟨w.heap.size, 6, none⟩ (.int .i64 (dE b))) := (((((((Only.refl w.heap.size (x6.setCell ⟨w.heap.size + 1, 5, none⟩ (.string ⟨⟨dP b⟩⟩))).trans (Only.setCell _ w.heap.size 0 _)).trans (Only.setCell _ w.heap.size 1 _)).trans (Only.setCell _ w.heap.size 2 _)).trans (Only.setCell _ w.heap.size 3 _)).trans (Only.setCell _ w.heap.size 4 _)).trans (Only.setCell _ w.heap.size 5 _)).trans (Only.setCell _ w.heap.size 6 _)
            have RR := RF.rangeG
            have KF := hide (K1.onl OF (Nat.le_refl _))
            have BX2 := hide (BXn.of_block (OF.block gX (by omega)))
            have BY2 := hide (BYn.of_block (OF.block gY (by omega)))
            have H6 := hide (show 82 + dn1 b + dn2 b ≤ b.length by omega)
            clear RF OF
            go_wp2
            exact bodyPost_ret (v := .agg #[.slice (some ⟨gX, 0, none⟩) 32 32, .slice (some ⟨gY, 0, none⟩) 32 32, .int .i64 (dM b), .int .i64 (dL b), .string ⟨⟨dH b⟩⟩, .string ⟨⟨dP b⟩⟩, .int .i64 (dE b)]) (results_cellG Try.results39 _ _ w.heap.size _ dR rfl RR hdR hrowR iTs) rfl ⟨.inl ⟨H6.out, gX, gY, rfl, BX2.out, BY2.out, by omega, by omega⟩, KF.out⟩
          · have H2 := hide (show ¬ 82 + dn1 b + dn2 b ≤ b.length by omega)
            have ST := hide (number_bad u3 p g a c b (76) 4 C0 hrk hgp (by omega) (by omega) (by omega) (by omega))
            refine ST.out.mono ?_
            rintro e xb ⟨⟨t, v, rfl⟩, OB⟩
            go_wp2
            exact ⟨rfl, .inr ⟨H2.out, t, v, rfl⟩, K.trans OB.kp⟩
        · have H2 := hide (show ¬ 82 + dn1 b + dn2 b ≤ b.length by omega)
          have ST := hide (number_bad u2 p g a c b (72) 4 C0 hrk hgp (by omega) (by omega) (by omega) (by omega))
          refine ST.out.mono ?_
          rintro e xb ⟨⟨t, v, rfl⟩, OB⟩
          go_wp2
          exact ⟨rfl, .inr ⟨H2.out, t, v, rfl⟩, K.trans OB.kp⟩
      · have H2 := hide (show ¬ 82 + dn1 b + dn2 b ≤ b.length by omega)
        have ST := hide (number_bad u1 p g a c b (64) 8 C0 hrk hgp (by omega) (by omega) (by omega) (by omega))
        refine ST.out.mono ?_
        rintro e xb ⟨⟨t, v, rfl⟩, OB⟩
        go_wp2
        exact ⟨rfl, .inr ⟨H2.out, t, v, rfl⟩, K.trans OB.kp⟩
    · have H2 := hide (show ¬ 82 + dn1 b + dn2 b ≤ b.length by omega)
      have ST := hide (takeList_bad u0 p a b.length c (32) 32 C0 (by omega) hn (by omega))
      refine ST.out.mono ?_
      rintro e xb ⟨⟨t, v, rfl⟩, OB⟩
      go_wp2
      exact ⟨rfl, .inr ⟨H2.out, t, v, rfl⟩, K.trans OB.kp⟩
  · have H2 := hide (show ¬ 82 + dn1 b + dn2 b ≤ b.length by omega)
    have ST := hide (takeList_bad v0 p a b.length c (0) 32 C0 (by omega) hn (by omega))
    refine ST.out.mono ?_
    rintro e xb ⟨⟨t, v, rfl⟩, OB⟩
    go_wp2
    exact ⟨rfl, .inr ⟨H2.out, t, v, rfl⟩, K.trans OB.kp⟩
end Go.Proofs.Ytjdbnlbmhnpifaa
