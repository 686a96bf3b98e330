import Derived.Test.YtdnkgmlidhepbaaGreatGCxMeL
import Derived.Deep.RegionHeld3
namespace Go.Proofs.YtdnkgmlidhepbaaGreat
open Go Go.RowKit
set_option maxHeartbeats 1000000 in
theorem heldMessageS_0 (w : World) (a : Option Addr) (c : Nat) (k : Int) :
    Calls Tryz.prog 32 #[.slice a 0 c, .int .i64 k] w fun e w' => e = .returned (.int .i64 k) ∧ w' = w := by
  go_enter Tryz.func32, Tryz.ntmps32
  go_wp2
  go_loopw [1, 5] (fun x i wr => x = .int .i64 k ∧ i = .int .i64 0 ∧ wr = w) (fun _ _ _ => 0)
  case atStart => exact ⟨rfl, rfl, rfl⟩
  case round =>
    obtain ⟨rfl, rfl, rfl⟩ := hrel
    go_wp2
    go_ret
    exact ⟨rfl, rfl⟩
set_option maxRecDepth 100000 in
set_option maxHeartbeats 16000000 in
theorem heldMessageS_row (w : World) (a : Option Addr) (c : Nat) (ms : List Msg) (es : List El) (ha : 0 < ms.length → ∃ g, a = some ⟨g, 0, none⟩) (h : MkR w (.slice a ms.length c) ms es) (hce : ∀ i, i < ms.length → 0 < (ms.getD i msg0).ce.length → ∃ g, (es.getD i el0).p.a11 = some ⟨g, 0, none⟩) (sm : ∀ i, i < ms.length → SmM (ms.getD i msg0)) (hl : ms.length ≤ 262144) :
    Calls Tryz.prog 32 #[.slice a ms.length c, .int .i64 1] w fun e w' => e = .returned (.int .i64 (kS ms ms.length : Int)) ∧ Below w.heap.size w w' := by
  by_cases h0 : ¬ 0 < ms.length
  · have z : ms.length = 0 := by omega
    have e1 : kS ms ms.length = 1 := by rw [z]; rfl
    rw [e1, z]
    refine (heldMessageS_0 w a c 1).mono ?_
    rintro e w' ⟨rfl, rfl⟩
    exact ⟨rfl, Below.refl _ _⟩
  have h0 : 0 < ms.length := by omega
  obtain ⟨g, rfl⟩ := ha h0
  obtain ⟨hg, hc, hM⟩ := h g c rfl h0
  have SM := hide sm
  have KB := hide (kS_bd sm)
  have R0 := hide hc
  have M0 := hide hM
  have CC := hide hce
  clear h sm hc hM hce h0 ha
  obtain ⟨n, hn⟩ : ∃ n, n = ms.length := ⟨_, rfl⟩
  rw [← hn] at hl ⊢
  have HN := hide hn
  clear hn
  go_enter Tryz.func32, Tryz.ntmps32
  go_wp2
  go_loopw [1, 5] (fun x i wr => ∃ j : Nat, j ≤ n ∧ i = .int .i64 j ∧ x = .int .i64 (kS ms j : Int) ∧ Hid (Below w.heap.size w wr)) (fun _ i _ => n - (intOf i).toNat)
  case atStart => exact ⟨0, Nat.zero_le _, rfl, rfl, Below.refl _ _⟩
  case round =>
    obtain ⟨j, hj, rfl, rfl, hN⟩ := hrel
    by_cases hlt : j < n
    · have hlt' : j < ms.length := by rw [← HN.out]; exact hlt
      have t0 : (j : Int) < (n : Int) := by omega
      have sm := SM.out j hlt'
      have kb := KB.out j (by omega)
      have KN : Hid (kS ms (j + 1) = gG (kS ms j) (ms.getD j msg0)) := rfl
      have HH := hide ((M0.out j hlt').up hN.out)
      have hce := hide (CC.out j hlt')
      have RA : wr.rangeAt g (j * 13) (mkV (es.getD j el0).p (ms.getD j msg0) (kS ms j)) := fun f u hu => (World.cell?_of_block (a := ⟨g, j * 13 + f, none⟩) (hN.out.block g hg)).trans (R0.out j hlt' f u hu)
      obtain ⟨k, hk⟩ : ∃ k, k = kS ms j := ⟨_, rfl⟩
      rw [← hk] at kb KN HH RA ⊢
      clear hk
      generalize ms.getD j msg0 = m at *
      generalize (es.getD j el0).p = p at *
      generalize (es.getD j el0).bs = bs at *
      have la := sm.a
      have lc := sm.c
      have lz := hide sm.z
      have lf := sm.f
      have kbd : k ≤ 838860801 * 1000 := by omega
      have eF := gF_is k sm
      have bE := gE_bd k sm
      have bF := gF_bd k sm
      clear kb sm
      obtain ⟨k1, f1⟩ : ∃ x, Hid (k + 1 = x) := ⟨_, rfl⟩
      obtain ⟨k2, f1b⟩ : ∃ x, Hid (k1 + 1 = x) := ⟨_, rfl⟩
      obtain ⟨n2, f2⟩ : ∃ x, Hid (k2 + m.r.length = x) := ⟨_, rfl⟩
      obtain ⟨n3, f3⟩ : ∃ x, Hid (n2 + m.s.length = x) := ⟨_, rfl⟩
      obtain ⟨n4, f4⟩ : ∃ x, Hid (n3 + 1 = x) := ⟨_, rfl⟩
      obtain ⟨n5, f5⟩ : ∃ x, Hid (n4 + m.pr.length = x) := ⟨_, rfl⟩
      obtain ⟨n6, f6⟩ : ∃ x, Hid (n5 + m.ti.length = x) := ⟨_, rfl⟩
      obtain ⟨n7, f7⟩ : ∃ x, Hid (n6 + 1 = x) := ⟨_, rfl⟩
      obtain ⟨n8, f8⟩ : ∃ x, Hid (n7 + 1 = x) := ⟨_, rfl⟩
      obtain ⟨n9, f9⟩ : ∃ x, Hid (n8 + m.bi.length = x) := ⟨_, rfl⟩
      obtain ⟨n10, f10⟩ : ∃ x, Hid (n9 + 1 = x) := ⟨_, rfl⟩
      have qA : Hid (gA k m = n2) := by show _ = _; unfold gA; have := f1.out; have := f1b.out; have := f2.out; omega
      have qB : Hid (gB k m = n3) := by show _ = _; unfold gB; rw [qA.out]; exact f3.out
      have qC : Hid (gC k m = n5) := by show _ = _; unfold gC; rw [qB.out]; have := f4.out; have := f5.out; omega
      have qD : Hid (gD k m = n6) := by show _ = _; unfold gD; rw [qC.out]; exact f6.out
      have qE : Hid (gE k m = n9) := by show _ = _; unfold gE; rw [qD.out]; have := f7.out; have := f8.out; have := f9.out; omega
      rw [qE.out] at eF bE
      rw [show n9 + 1 = n10 from f10.out] at eF
      obtain ⟨n11, qF⟩ : ∃ x, Hid (gF k m = x) := ⟨_, rfl⟩
      rw [qF.out] at eF bF
      obtain ⟨n12, f12⟩ : ∃ x, Hid (n11 + m.pf.length = x) := ⟨_, rfl⟩
      have qG : Hid (gG k m = n12) := by show _ = _; unfold gG; rw [qF.out]; exact f12.out
      have EF := hide eF
      clear eF
      have l9 : n9 ≤ 838861706 * 1000 := by omega
      have o9 : n2 ≤ n9 ∧ n3 ≤ n9 ∧ n4 ≤ n9 ∧ n5 ≤ n9 ∧ n6 ≤ n9 ∧ n7 ≤ n9 ∧ n8 ≤ n9 ∧ k1 ≤ n9 ∧ k2 ≤ n9 := by
        have := f1.out; have := f1b.out; have := f2.out; have := f3.out; have := f4.out; have := f5.out; have := f6.out; have := f7.out; have := f8.out; have := f9.out
        omega
      have l10 : n10 ≤ 838861707 * 1000 := by have := f10.out; omega
      have l11 : n11 ≤ 840910801 * 1000 := by omega
      have e1 : (k : Int) + 1 = (k1 : Int) := by have := f1.out; omega
      have e1b : (k1 : Int) + 1 = (k2 : Int) := by have := f1b.out; omega
      have e4 : (n3 : Int) + 1 = (n4 : Int) := by have := f4.out; omega
      have e7 : (n6 : Int) + 1 = (n7 : Int) := by have := f7.out; omega
      have e8 : (n7 : Int) + 1 = (n8 : Int) := by have := f8.out; omega
      have e10 : (n9 : Int) + 1 = (n10 : Int) := by have := f10.out; omega
      obtain ⟨r3, h3⟩ : ∃ r, r = n9 % 3 := ⟨_, rfl⟩
      have e3 : Int.tmod (n9 : Int) 3 = (r3 : Int) := by rw [Int.tmod_eq_emod_of_nonneg (by omega)]; omega
      have e3' : (n9 : Int) % 3 = (r3 : Int) := by omega
      obtain ⟨b3, hb3⟩ : ∃ b, b = decide (n9 % 3 = 0) := ⟨_, rfl⟩
      have d3 : decide ((r3 : Int) = 0) = b3 := by rw [hb3, h3]; congr 1; simp only [eq_iff_iff]; omega
      have d3' : ((r3 : Int) == 0) = b3 := by rw [← d3]; rfl
      have HB3 := hide hb3
      clear hb3 h3 bE bF
      have LL : mkV p m k = [.int .i64 (k : Int), .int .i64 (k1 : Int), .slice p.a2 m.r.length p.c2, .slice p.a3 m.s.length p.c3, .string ⟨⟨mtF n3⟩⟩, .slice p.a5 m.pr.length p.c5, .slice p.a6 m.ti.length p.c6, .int .i64 (n6 : Int), .int .i64 (n7 : Int), .slice p.a9 m.bi.length p.c9, .bool b3, .slice p.a11 m.ce.length p.c11, .slice p.a12 m.pf.length p.c12] := by
        unfold mkV
        rw [qB.out, qD.out, qE.out, HB3.out, show k + 1 = k1 from f1.out, show n6 + 1 = n7 from f7.out]
      rw [LL] at RA
      have GL : Hid (g < wr.heap.size) := Nat.lt_of_lt_of_le hg hN.out.size
      clear LL
      have C0 : Hid (wr.cell? ⟨g, j * 13, none⟩ = some (.int .i64 (k : Int))) := RA 0 _ rfl
      have C1 : Hid (wr.cell? ⟨g, j * 13 + 1, none⟩ = some (.int .i64 (k1 : Int))) := RA 1 _ rfl
      have C2 : Hid (wr.cell? ⟨g, j * 13 + 2, none⟩ = some (.slice p.a2 m.r.length p.c2)) := RA 2 _ rfl
      have C3 : Hid (wr.cell? ⟨g, j * 13 + 3, none⟩ = some (.slice p.a3 m.s.length p.c3)) := RA 3 _ rfl
      have C4 : Hid (wr.cell? ⟨g, j * 13 + 4, none⟩ = some (.string ⟨⟨mtF n3⟩⟩)) := RA 4 _ rfl
      have C5 : Hid (wr.cell? ⟨g, j * 13 + 5, none⟩ = some (.slice p.a5 m.pr.length p.c5)) := RA 5 _ rfl
      have C6 : Hid (wr.cell? ⟨g, j * 13 + 6, none⟩ = some (.slice p.a6 m.ti.length p.c6)) := RA 6 _ rfl
      have C7 : Hid (wr.cell? ⟨g, j * 13 + 7, none⟩ = some (.int .i64 (n6 : Int))) := RA 7 _ rfl
      have C8 : Hid (wr.cell? ⟨g, j * 13 + 8, none⟩ = some (.int .i64 (n7 : Int))) := RA 8 _ rfl
      have C9 : Hid (wr.cell? ⟨g, j * 13 + 9, none⟩ = some (.slice p.a9 m.bi.length p.c9)) := RA 9 _ rfl
      have C10 : Hid (wr.cell? ⟨g, j * 13 + 10, none⟩ = some (.bool b3)) := RA 10 _ rfl
      have C11 : Hid (wr.cell? ⟨g, j * 13 + 11, none⟩ = some (.slice p.a11 m.ce.length p.c11)) := RA 11 _ rfl
      have C12 : Hid (wr.cell? ⟨g, j * 13 + 12, none⟩ = some (.slice p.a12 m.pf.length p.c12)) := RA 12 _ rfl
      clear RA
      have S := Below.refl wr.heap.size wr
      have d0 := (World.cell?_of_block (a := ⟨g, j * 13, none⟩) (S.block g GL.out)).trans C0.out
      have d1 := (World.cell?_of_block (a := ⟨g, j * 13 + 1, none⟩) (S.block g GL.out)).trans C1.out
      have d2 := (World.cell?_of_block (a := ⟨g, j * 13 + 2, none⟩) (S.block g GL.out)).trans C2.out
      have t2 : decide ((n2 : Int) < 0) = false := decide_eq_false (by omega)
      have M := hide (heldByteS_any wr p.g2 p.a2 p.c2 m.r.length (k2 : Int) (by rw [show k2 = k + 2 by have := f1.out; have := f1b.out; omega]; exact HH.out.r.up S) (by omega) (by omega) (by omega))
      rw [show (k2 : Int) + (m.r.length : Int) = (n2 : Int) by have := f2.out; omega] at M
      go_wp2_with fail
      refine M.out.mono ?_
      rintro e w2 ⟨rfl, hw⟩
      have S' : Below wr.heap.size wr w2 := by rw [hw]; exact S
      clear S hw
      have S := S'
      clear S' M d2
      clear d0 d1
      have d3 := (World.cell?_of_block (a := ⟨g, j * 13 + 3, none⟩) (S.block g GL.out)).trans C3.out
      have t3 : decide ((n3 : Int) < 0) = false := decide_eq_false (by omega)
      have M := hide (heldByteS_any w2 p.g3 p.a3 p.c3 m.s.length (n2 : Int) (by rw [← qA.out]; exact HH.out.s.up S) (by omega) (by omega) (by omega))
      rw [show (n2 : Int) + (m.s.length : Int) = (n3 : Int) by have := f3.out; omega] at M
      go_wp2_with fail
      refine M.out.mono ?_
      rintro e w3 ⟨rfl, hw⟩
      have S' : Below wr.heap.size wr w3 := by rw [hw]; exact S
      clear S hw
      have S := S'
      clear S' M d3
      have d4 := (World.cell?_of_block (a := ⟨g, j * 13 + 4, none⟩) (S.block g GL.out)).trans C4.out
      have MT : Hid (∀ W, Below w3.heap.size w3 W → Calls Tryz.prog 62 #[.int .i64 (n3 : Int)] W fun e w' => e = .returned (.string ⟨⟨mtF n3⟩⟩) ∧ w'.cell? ⟨g, j * 13 + 4, none⟩ = some (.string ⟨⟨mtF n3⟩⟩) ∧ Below w3.heap.size w3 w') := fun W m => (markText_is W n3 (by omega)).mono (by
        rintro e w' ⟨rfl, n'⟩
        have N' := nxt m n'
        exact ⟨rfl, (World.cell?_of_block (a := ⟨g, j * 13 + 4, none⟩) (N'.block g (Nat.lt_of_lt_of_le GL.out S.size))).trans d4, N'⟩)
      have nd : Below w3.heap.size w3 w3.drew := (Below.refl _ _).drew
      go_upto_region 16 with fail
      go_region_held3 (fun W => W.cell? ⟨g, j * 13 + 4, none⟩ = some (.string ⟨⟨mtF n3⟩⟩))
        (first | go_keep | exact S4)
        (first
          | (go_at_call 62; refine ((unhide MT) _ nd).mono ?_; rintro r w4 ⟨rfl, S4, m4⟩)
          | fail)
      have S' := nxt S m4
      clear S MT nd d4
      have S := S'
      clear S' S4 m4
      have d5 := (World.cell?_of_block (a := ⟨g, j * 13 + 5, none⟩) (S.block g GL.out)).trans C5.out
      have t5 : decide ((n5 : Int) < 0) = false := decide_eq_false (by omega)
      have M := hide (heldStringS_gen w4 p.g5 p.a5 p.c5 n4 m.pr.length (by rw [← f4.out, ← qB.out]; exact HH.out.pr.up S) (by omega) (by omega))
      rw [f5.out] at M
      go_wp2_with fail
      refine M.out.mono ?_
      rintro e w5 ⟨rfl, nn⟩
      have S' := nxt S nn
      clear S nn
      have S := S'
      clear S' M d5
      have d6 := (World.cell?_of_block (a := ⟨g, j * 13 + 6, none⟩) (S.block g GL.out)).trans C6.out
      have t6 : decide ((n6 : Int) < 0) = false := decide_eq_false (by omega)
      have M := hide (heldByteS_any w5 p.g6 p.a6 p.c6 m.ti.length (n5 : Int) (by rw [← qC.out]; exact HH.out.ti.up S) (by omega) (by omega) (by omega))
      rw [show (n5 : Int) + (m.ti.length : Int) = (n6 : Int) by have := f6.out; omega] at M
      go_wp2_with fail
      refine M.out.mono ?_
      rintro e w6 ⟨rfl, hw⟩
      have S' : Below wr.heap.size wr w6 := by rw [hw]; exact S
      clear S hw
      have S := S'
      clear S' M d6
      have d7 := (World.cell?_of_block (a := ⟨g, j * 13 + 7, none⟩) (S.block g GL.out)).trans C7.out
      have d8 := (World.cell?_of_block (a := ⟨g, j * 13 + 8, none⟩) (S.block g GL.out)).trans C8.out
      have d9 := (World.cell?_of_block (a := ⟨g, j * 13 + 9, none⟩) (S.block g GL.out)).trans C9.out
      have t9 : decide ((n9 : Int) < 0) = false := decide_eq_false (by omega)
      have M := hide (heldByteS_any w6 p.g9 p.a9 p.c9 m.bi.length (n8 : Int) (by rw [show n8 = gD k m + 2 by rw [qD.out]; have := f7.out; have := f8.out; omega]; exact HH.out.bi.up S) (by omega) (by omega) (by omega))
      rw [show (n8 : Int) + (m.bi.length : Int) = (n9 : Int) by have := f9.out; omega] at M
      go_wp2_with fail
      refine M.out.mono ?_
      rintro e w9 ⟨rfl, hw⟩
      have S' : Below wr.heap.size wr w9 := by rw [hw]; exact S
      clear S hw
      have S := S'
      clear S' M d9
      clear d7 d8
      have d10 := (World.cell?_of_block (a := ⟨g, j * 13 + 10, none⟩) (S.block g GL.out)).trans C10.out
      have d11 := (World.cell?_of_block (a := ⟨g, j * 13 + 11, none⟩) (S.block g GL.out)).trans C11.out
      have t11 : decide ((n11 : Int) < 0) = false := decide_eq_false (by omega)
      have M := hide (heldBlobS_gen w9 (.slice p.a11 m.ce.length p.c11) m.ce bs (n10 : Int) ⟨_, _, rfl, hce.out⟩ (by rw [← f10.out, ← qE.out]; exact HH.out.ce.up S) lc lz.out (by omega) (by omega))
      rw [EF.out] at M
      go_wp2_with fail
      refine M.out.mono ?_
      rintro e w11 ⟨rfl, hw⟩
      have S' : Below wr.heap.size wr w11 := by rw [hw]; exact S
      clear S hw
      have S := S'
      clear S' M d11
      clear d10
      have d12 := (World.cell?_of_block (a := ⟨g, j * 13 + 12, none⟩) (S.block g GL.out)).trans C12.out
      have t12 : decide ((n12 : Int) < 0) = false := decide_eq_false (by omega)
      have M := hide (heldByteS_any w11 p.g12 p.a12 p.c12 m.pf.length (n11 : Int) (by rw [← qF.out]; exact HH.out.pf.up S) (by omega) (by omega) (by omega))
      rw [show (n11 : Int) + (m.pf.length : Int) = (n12 : Int) by have := f12.out; omega] at M
      go_wp2_with fail
      refine M.out.mono ?_
      rintro e w12 ⟨rfl, hw⟩
      have S' : Below wr.heap.size wr w12 := by rw [hw]; exact S
      clear S hw
      have S := S'
      clear S' M d12
      have KF : Hid (kS ms (j + 1) = n12) := by show _ = _; rw [KN.out]; unfold gG; rw [qF.out]; exact f12.out
      have FIN := hide (nxt hN.out S)
      clear S HH
      go_wp2
      go_roundw
      case rel => exact ⟨j + 1, by omega, by go_num, by rw [KF.out], FIN⟩
      case measure => simp [intOf]; omega
    · obtain rfl : j = n := by omega
      have RE := hide hN.out
      clear hN M0 R0 SM KB CC
      go_wp2
      go_ret
      exact ⟨rfl, RE.out⟩
end Go.Proofs.YtdnkgmlidhepbaaGreat
