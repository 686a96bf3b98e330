
/-
  The model's Mac; Extract of both.
-/
import Derived.Test.YtnfciobpfiibcaaDoorMkD
namespace Go.Proofs.YtnfciobpfiibcaaDoor
set_option maxRecDepth 100000
open Go Go.RowKit

theorem specHash_L (w : World) (g : Nat) (a : Option Addr) (c : Nat) (xs : List Int) (hr : Rd w g a .u8 xs) (hb : Byt xs) (hc : a = none → c = 0) (hn : xs.length ≤ 549755813888) :
    Calls Tryd.prog 50 #[.slice a xs.length c] w fun e w' => NewRow w.heap.size w' e .u8 (hashL32 xs) ∧ Below w.heap.size w w' := specHash_32 w g a c xs hr hb hc hn
set_option maxHeartbeats 4000000 in
theorem specMac_any (w : World) (g : Nat) (a : Option Addr) (c : Nat) (ks : List Int) (hr : Rd w g a .u8 ks) (hk : Byt ks) (hc : a = none → c = 0) (hn : ks.length ≤ 1048576) (gd : Nat) (ad : Option Addr) (cd : Nat) (xs : List Int) (hd : Rd w gd ad .u8 xs) (hx : Byt xs) (hcd : ad = none → cd = 0) (hnd : xs.length ≤ 274877906944) :
    Calls Tryd.prog 42 #[.slice a ks.length c, .slice ad xs.length cd] w fun e w' => NewRow w.heap.size w' e .u8 (macL ks xs) ∧ Below w.heap.size w w' := by
  obtain ⟨i0, hi, hz0, hz1, hz2⟩ := info_parts Tryd.info5
  obtain ⟨rs, hrs⟩ : ∃ l, l = macL ks xs := ⟨_, rfl⟩
  have HR := hide hrs
  rw [← hrs]
  clear hrs
  have CP := hide (l1Copy_row w g a c ks hr hc (by omega))
  by_cases hlong : 64 < ks.length
  · have t1 : decide ((64 : Int) < (ks.length : Int)) = true := by simp; omega
    have KE : Hid (keyL ks = hashL32 ks) := by show _ = _; unfold keyL; rw [if_pos hlong]
    go_enter Tryd.func42, Tryd.ntmps42
    go_wp2_with fail
    refine CP.out.mono ?_
    rintro r w1 ⟨v, rfl, R1, n1⟩
    obtain ⟨a1, c1, g1, rfl, o1, p1, q1, r1⟩ := R1.own
    clear CP R1
    have SH := hide (specHash_L w1 g1 a1 c1 ks o1.rd hk p1 (by omega))
    go_wp2_with fail
    refine SH.out.mono ?_
    rintro r w2 ⟨⟨a2, c2, g2, rfl, o2, p2, q2, r2⟩, n2⟩
    have N2 := nxt n1 n2
    have kb := hash_byt32 ks
    have kl : (hashL32 ks).length ≤ 1048576 := by rw [hash_len32]; decide
    obtain ⟨kk, hkk⟩ : ∃ l, l = hashL32 ks := ⟨_, rfl⟩
    rw [← hkk] at o2 q2 kb kl ⊢
    have KK : Hid (kk = keyL ks) := by show _ = _; rw [hkk, KE.out]
    clear SH hkk KE n2 o1 n1
    have X1 := hide (l7Xor_any w2 g2 a2 c2 kk o2.rd kb 92 (.inr rfl) (by omega))
    go_wp2_with fail
    refine X1.out.mono ?_
    rintro r w3 ⟨v3, rfl, R3, n3⟩
    have N3 := nxt N2 n3
    have X2 := hide (l7Xor_any w3 g2 a2 c2 kk (o2.up n3).rd kb 54 (.inl rfl) (by omega))
    go_wp2_with fail
    refine X2.out.mono ?_
    rintro r w4 ⟨v4, rfl, R4, n4⟩
    have N4 := nxt N3 n4
    clear X1 X2
    have b5 := maskL_byt kb (m := 92) (.inr rfl)
    have b4 := maskL_byt kb (m := 54) (.inl rfl)
    have l5 := hide (maskL_len kk 92)
    have l4 := hide (maskL_len kk 54)
    obtain ⟨m5, hm5⟩ : ∃ l, l = maskL kk 92 := ⟨_, rfl⟩
    obtain ⟨m4, hm4⟩ : ∃ l, l = maskL kk 54 := ⟨_, rfl⟩
    rw [← hm5] at b5 l5 R3
    rw [← hm4] at b4 l4 R4
    have RS : Hid (rs = hashL32 (m5 ++ hashL32 (m4 ++ xs))) := by show _ = _; rw [HR.out, hm5, hm4]; unfold macL; rw [← KK.out]
    clear hm5 hm4
    obtain ⟨v5, w5, hap5, R5, n5⟩ := append_any (P := Tryd.prog) w4 22 i0 Tryd.underlying22 hi hz0 hz1 hz2 w3.heap.size w3.heap.size _ m4 R4 gd ad cd xs (hd.up N4) hcd (by rw [l4.out]; omega) (Nat.le_refl _) n4.size
    have N35 : Below w3.heap.size w3 w5 := n4.trans n5
    have N5 := nxt N3 N35
    have R3' := R3.up N35
    clear R3 R4 n4 n5 N4
    obtain ⟨xx, hxx⟩ : ∃ l, l = m4 ++ xs := ⟨_, rfl⟩
    have bx : Byt xx := by rw [hxx]; exact byt_apd b4 hx
    have lx : xx.length ≤ 549755813888 := by rw [hxx, List.length_append, l4.out]; omega
    rw [← hxx] at R5 RS
    clear hxx
    obtain ⟨a5, c5, g5, rfl, o5, p5, q5, r5⟩ := R5.own
    have SH5 := hide (specHash_L w5 g5 a5 c5 xx o5.rd bx p5 lx)
    go_wp2_with (at_builtin; refine Lib.wpList_append_run _ rfl _ _ 22 22 rfl _ _ rfl rfl _ _ hap5 ?_)
    clear hap5 R5
    refine SH5.out.mono ?_
    rintro r w6 ⟨⟨a6, c6, g6, rfl, o6, p6, q6, r6⟩, n6⟩
    have N6 := nxt N5 n6
    have b6 := hash_byt32 xx
    have l6 := hide (hash_len32 xx)
    obtain ⟨h6, hh6⟩ : ∃ l, l = hashL32 xx := ⟨_, rfl⟩
    rw [← hh6] at o6 q6 b6 l6 RS ⊢
    clear hh6 SH5
    obtain ⟨v7, w7, hap7, R7, n7⟩ := append_any (P := Tryd.prog) w6 22 i0 Tryd.underlying22 hi hz0 hz1 hz2 w2.heap.size w2.heap.size _ m5 (R3'.up n6) g6 a6 c6 h6 o6.rd p6 (by rw [l5.out, l6.out]; omega) (Nat.le_refl _) (by have := n3.size; have := N35.size; have := n6.size; omega)
    have N7 : Below w.heap.size w w7 := N6.trans ⟨n7.os, n7.tape, n7.output, n7.size, fun b hb => n7.block b (by have := N2.size; omega)⟩
    clear R3' N35
    obtain ⟨x7, hx7⟩ : ∃ l, l = m5 ++ h6 := ⟨_, rfl⟩
    have b7 : Byt x7 := by rw [hx7]; exact byt_apd b5 b6
    have l7 : x7.length ≤ 549755813888 := by rw [hx7, List.length_append, l5.out, l6.out]; omega
    rw [← hx7] at R7 RS
    clear hx7
    obtain ⟨a7, c7, g7, rfl, o7, p7, q7, r7⟩ := R7.own
    have SH7 := specHash_L w7 g7 a7 c7 x7 o7.rd b7 p7 l7
    rw [← RS.out] at SH7
    have SH := hide SH7
    have y2 := N2.size
    have y6 := N6.size
    have y7 := N7.size
    clear SH7
    go_wp2_with (at_builtin; refine Lib.wpList_append_run _ rfl _ _ 22 22 rfl _ _ rfl rfl _ _ hap7 ?_)
    refine SH.out.mono ?_
    rintro r w8 ⟨⟨a8, c8, g8, rfl, o8, p8, q8, r8⟩, n8⟩
    go_wp2
    go_ret
    exact ⟨⟨a8, c8, g8, rfl, o8, p8, q8, by omega⟩, nxt N7 n8⟩
  · have t1 : decide ((64 : Int) < (ks.length : Int)) = false := by simp; omega
    have KK : Hid (ks = keyL ks) := by show _ = _; unfold keyL; rw [if_neg hlong]
    go_enter Tryd.func42, Tryd.ntmps42
    go_wp2_with fail
    refine CP.out.mono ?_
    rintro r w2 ⟨v, rfl, R1, N2⟩
    obtain ⟨a2, c2, g2, rfl, o2, p2, q2, r2⟩ := R1.own
    clear CP R1
    have X1 := hide (l7Xor_any w2 g2 a2 c2 ks o2.rd hk 92 (.inr rfl) (by omega))
    go_wp2_with fail
    refine X1.out.mono ?_
    rintro r w3 ⟨v3, rfl, R3, n3⟩
    have N3 := nxt N2 n3
    have X2 := hide (l7Xor_any w3 g2 a2 c2 ks (o2.up n3).rd hk 54 (.inl rfl) (by omega))
    go_wp2_with fail
    refine X2.out.mono ?_
    rintro r w4 ⟨v4, rfl, R4, n4⟩
    have N4 := nxt N3 n4
    clear X1 X2
    have b5 := maskL_byt hk (m := 92) (.inr rfl)
    have b4 := maskL_byt hk (m := 54) (.inl rfl)
    have l5 := hide (maskL_len ks 92)
    have l4 := hide (maskL_len ks 54)
    obtain ⟨m5, hm5⟩ : ∃ l, l = maskL ks 92 := ⟨_, rfl⟩
    obtain ⟨m4, hm4⟩ : ∃ l, l = maskL ks 54 := ⟨_, rfl⟩
    rw [← hm5] at b5 l5 R3
    rw [← hm4] at b4 l4 R4
    have RS : Hid (rs = hashL32 (m5 ++ hashL32 (m4 ++ xs))) := by show _ = _; rw [HR.out, hm5, hm4]; unfold macL; rw [← KK.out]
    clear hm5 hm4
    obtain ⟨v5, w5, hap5, R5, n5⟩ := append_any (P := Tryd.prog) w4 22 i0 Tryd.underlying22 hi hz0 hz1 hz2 w3.heap.size w3.heap.size _ m4 R4 gd ad cd xs (hd.up N4) hcd (by rw [l4.out]; omega) (Nat.le_refl _) n4.size
    have N35 : Below w3.heap.size w3 w5 := n4.trans n5
    have N5 := nxt N3 N35
    have R3' := R3.up N35
    clear R3 R4 n4 n5 N4
    obtain ⟨xx, hxx⟩ : ∃ l, l = m4 ++ xs := ⟨_, rfl⟩
    have bx : Byt xx := by rw [hxx]; exact byt_apd b4 hx
    have lx : xx.length ≤ 549755813888 := by rw [hxx, List.length_append, l4.out]; omega
    rw [← hxx] at R5 RS
    clear hxx
    obtain ⟨a5, c5, g5, rfl, o5, p5, q5, r5⟩ := R5.own
    have SH5 := hide (specHash_L w5 g5 a5 c5 xx o5.rd bx p5 lx)
    go_wp2_with (at_builtin; refine Lib.wpList_append_run _ rfl _ _ 22 22 rfl _ _ rfl rfl _ _ hap5 ?_)
    clear hap5 R5
    refine SH5.out.mono ?_
    rintro r w6 ⟨⟨a6, c6, g6, rfl, o6, p6, q6, r6⟩, n6⟩
    have N6 := nxt N5 n6
    have b6 := hash_byt32 xx
    have l6 := hide (hash_len32 xx)
    obtain ⟨h6, hh6⟩ : ∃ l, l = hashL32 xx := ⟨_, rfl⟩
    rw [← hh6] at o6 q6 b6 l6 RS ⊢
    clear hh6 SH5
    obtain ⟨v7, w7, hap7, R7, n7⟩ := append_any (P := Tryd.prog) w6 22 i0 Tryd.underlying22 hi hz0 hz1 hz2 w2.heap.size w2.heap.size _ m5 (R3'.up n6) g6 a6 c6 h6 o6.rd p6 (by rw [l5.out, l6.out]; omega) (Nat.le_refl _) (by have := n3.size; have := N35.size; have := n6.size; omega)
    have N7 : Below w.heap.size w w7 := N6.trans ⟨n7.os, n7.tape, n7.output, n7.size, fun b hb => n7.block b (by have := N2.size; omega)⟩
    clear R3' N35
    obtain ⟨x7, hx7⟩ : ∃ l, l = m5 ++ h6 := ⟨_, rfl⟩
    have b7 : Byt x7 := by rw [hx7]; exact byt_apd b5 b6
    have l7 : x7.length ≤ 549755813888 := by rw [hx7, List.length_append, l5.out, l6.out]; omega
    rw [← hx7] at R7 RS
    clear hx7
    obtain ⟨a7, c7, g7, rfl, o7, p7, q7, r7⟩ := R7.own
    have SH7 := specHash_L w7 g7 a7 c7 x7 o7.rd b7 p7 l7
    rw [← RS.out] at SH7
    have SH := hide SH7
    have y2 := N2.size
    have y6 := N6.size
    have y7 := N7.size
    clear SH7
    go_wp2_with (at_builtin; refine Lib.wpList_append_run _ rfl _ _ 22 22 rfl _ _ rfl rfl _ _ hap7 ?_)
    refine SH.out.mono ?_
    rintro r w8 ⟨⟨a8, c8, g8, rfl, o8, p8, q8, r8⟩, n8⟩
    go_wp2
    go_ret
    exact ⟨⟨a8, c8, g8, rfl, o8, p8, q8, by omega⟩, nxt N7 n8⟩
set_option maxHeartbeats 400000 in
theorem specExtract_any (w : World) (g : Nat) (a : Option Addr) (c : Nat) (ks : List Int) (hr : Rd w g a .u8 ks) (hk : Byt ks) (hc : a = none → c = 0) (hn : ks.length ≤ 1048576) (gd : Nat) (ad : Option Addr) (cd : Nat) (xs : List Int) (hd : Rd w gd ad .u8 xs) (hx : Byt xs) (hcd : ad = none → cd = 0) (hnd : xs.length ≤ 274877906944) :
    Calls Tryd.prog 34 #[.slice a ks.length c, .slice ad xs.length cd] w fun e w' => NewRow w.heap.size w' e .u8 (macL ks xs) ∧ Below w.heap.size w w' := by
  have M := hide (specMac_any w g a c ks hr hk hc hn gd ad cd xs hd hx hcd hnd)
  obtain ⟨rs, hrs⟩ : ∃ l, l = macL ks xs := ⟨_, rfl⟩
  rw [← hrs] at M ⊢
  clear hrs
  go_enter Tryd.func34, Tryd.ntmps34
  go_wp2_with fail
  refine M.out.mono ?_
  rintro r w1 ⟨⟨a1, c1, g1, rfl, o1, p1, q1, r1⟩, n1⟩
  go_wp2
  go_ret
  exact ⟨⟨a1, c1, g1, rfl, o1, p1, q1, r1⟩, n1⟩
set_option maxHeartbeats 400000 in
theorem implExtract_any (w : World) (g : Nat) (a : Option Addr) (c : Nat) (ks : List Int) (hr : Rd w g a .u8 ks) (hk : Byt ks) (hc : ks.length ≤ c) (hn : ks.length ≤ 1048576) (gd : Nat) (ad : Option Addr) (cd : Nat) (xs : List Int) (hd : Rd w gd ad .u8 xs) (hx : Byt xs) (hcd : xs.length ≤ cd) (hnd : xs.length ≤ 549755813888)
    (hS : HasT w 0 stLh) (hT : HasT w 1 kL) :
    Calls Tryd.prog 55 #[.slice a ks.length c, .slice ad xs.length cd] w fun e w' => NewRow w.heap.size w' e .u8 (macL ks xs) ∧ Below w.heap.size w w' := by
  have M := hide (implMac_any w g a c ks hr hk hc hn gd ad cd xs hd hx hcd hnd hS hT)
  obtain ⟨rs, hrs⟩ : ∃ l, l = macL ks xs := ⟨_, rfl⟩
  rw [← hrs] at M ⊢
  clear hrs
  go_enter Tryd.func55, Tryd.ntmps55
  go_wp2_with fail
  refine M.out.mono ?_
  rintro r w1 ⟨⟨a1, c1, g1, rfl, o1, p1, q1, r1⟩, n1⟩
  go_wp2
  go_ret
  exact ⟨⟨a1, c1, g1, rfl, o1, p1, q1, r1⟩, n1⟩
end Go.Proofs.YtnfciobpfiibcaaDoor
