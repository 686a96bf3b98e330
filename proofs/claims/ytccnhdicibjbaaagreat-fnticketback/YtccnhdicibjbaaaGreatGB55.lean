import Derived.Test.YtccnhdicibjbaaaGreatGB52
import Derived.Test.YtccnhdicibjbaaaGreatGB54
import Derived.Test.YtccnhdicibjbaaaGreatGB51
import Derived.Test.YtccnhdicibjbaaaGreatGB31
import Derived.Deep.RegionHeld3
import Derived.Deep.RegionWith
namespace Go.Proofs.YtccnhdicibjbaaaGreat
open Go Go.RowKit
theorem DR.ofRow {w : World} {B : Nat} {v : Value} {xs : List Int} (h : RowB w B v xs) : DR w v xs := by
  obtain ⟨a, c, g, e, r, z, k, -⟩ := h.rd
  exact ⟨a, c, g, e, r, z, k⟩
theorem DR.ofBlk {w : World} {g n c : Nat} {xs : List Int} (h : Blk w g .u8 xs) (hn : n = (xs.take n).length) (hc : n ≤ c) : DR w (.slice (some ⟨g, 0, none⟩) n c) (xs.take n) :=
  ⟨some ⟨g, 0, none⟩, c, g, by rw [← hn], h.own0.rd.takeA n, (fun h => nomatch h), by rw [← hn]; exact hc⟩
def OpnF (xs : List Int) : Mk.Fact := ⟨fun v w => ∃ v', v = .agg #[.bool true, v'] ∧ DR w v' xs, fun n h => by
  obtain ⟨v', e, a, c, g, e', r, z, l⟩ := h
  exact ⟨v', e, a, c, g, e', Mk.rd_gm r n, z, l⟩⟩
theorem rangeAt_tail {w : World} {q : Nat} {x : Value} {cs : List Value} (h : w.rangeAt q 0 (x :: cs)) : w.rangeAt q 1 cs := fun j v hj => by
  have := h (j + 1) v (by simpa using hj)
  rwa [show 0 + (j + 1) = 1 + j by omega] at this
theorem fdOr (b : Bool) (v : Value) (w : World) : (Instr.field 38 (.agg #[.bool b, v]) 1).run Tryz.prog w = .ok v w := by kernel_rfl
theorem fdSr (b : Bool) (v1 v2 v3 v4 v5 v6 v7 : Value) (w : World) : (Instr.field 30 (.agg #[.bool b, v1, v2, v3, v4, v5, v6, v7]) 0).run Tryz.prog w = .ok (.bool b) w := by kernel_rfl
set_option maxRecDepth 100000 in
set_option maxHeartbeats 16000000 in
theorem ticketBack_law (w : World) (g0 : Nat) (a0 : Option Addr) (c0 : Nat) (X0 : List Int) (hX0 : Rd w g0 a0 .u8 X0) (bX0 : Byt X0) (g1 : Nat) (a1 : Option Addr) (c1 : Nat) (X1 : List Int) (hX1 : Rd w g1 a1 .u8 X1) (bX1 : Byt X1) :
    Calls Tryz.prog 3 #[.slice a0 X0.length c0, .slice a1 X1.length c1] w fun e w' => e = .returned (.bool true) ∧ Below w.heap.size w w' := by
  by_cases q0 : X0.length ≤ 1048576
  · have u0 : decide ((1048576 : Int) < (X0.length : Int)) = false := by simp; omega
    by_cases q1 : X1.length ≤ 1048576
    · have u1 : decide ((1048576 : Int) < (X1.length : Int)) = false := by simp; omega
      have DS := hide (drawSealTicket_any w g0 a0 c0 X0 hX0 bX0 q0)
      go_enter Tryz.func3, Tryz.ntmps3
      go_wp2_with fail
      refine DS.out.mono ?_
      rintro e w1 ⟨ks0, ns0, v1, v2, v3, rfl, ⟨-, bk0, ⟨ak, ck, gk, ek, ok, -⟩⟩, ⟨-, bn0, ⟨an, cn, gn, en, on, -⟩⟩, ⟨ax, cx, gx, X, ay, cy, gy, Y, md, li, ho, pr, ea, rfl, ⟨oX, zX, -, -, bX, -⟩, ⟨oY, zY, -, -, bY, -⟩, lh, lp⟩, N1⟩
      cases ek
      cases en
      have hh : ho.length ≤ 1048576 := by omega
      have hp : pr.length ≤ 1048576 := by omega
      have S1 : SD w1 ax cx X ay cy Y := ⟨gx, gy, oX.rd, zX, bX, oY.rd, zY, bY⟩
      have nA : Below w1.heap.size w1 (w1.alloc (.cells #[.slice ax X.length cx, .slice ay Y.length cy, .int .i64 md, .int .i64 li, .string ⟨⟨ho⟩⟩, .string ⟨⟨pr⟩⟩, .int .i64 ea] 24)) := (Below.refl _ _).alloc (Nat.le_refl _) _
      have T7 : RwC (w1.alloc (.cells #[.slice ax X.length cx, .slice ay Y.length cy, .int .i64 md, .int .i64 li, .string ⟨⟨ho⟩⟩, .string ⟨⟨pr⟩⟩, .int .i64 ea] 24)) w1.heap.size [.slice ax X.length cx, .slice ay Y.length cy, .int .i64 md, .int .i64 li, .string ⟨⟨ho⟩⟩, .string ⟨⟨pr⟩⟩, .int .i64 ea] 24 := RwC.new w1 _ _
      have S2 := S1.up nA
      have N2 := nxt N1 nA
      have rk := ok.rd.up nA
      have rn := on.rd.up nA
      obtain ⟨p7, hp7⟩ : ∃ q, q = w1.heap.size := ⟨_, rfl⟩
      rw [← hp7] at T7
      clear DS ok on oX oY zX zY lh lp S1 N1
      go_wp2_with fail
      rw [← hp7]
      clear hp7
      generalize w1.alloc (.cells #[.slice ax X.length cx, .slice ay Y.length cy, .int .i64 md, .int .i64 li, .string ⟨⟨ho⟩⟩, .string ⟨⟨pr⟩⟩, .int .i64 ea] 24) = w2 at *
      clear nA
      refine (lw32_any w2 gk ak ck ks0 rk).mono ?_
      rintro e w3 ⟨rfl, BK, m3⟩
      have K32 : Hid ((to32 ks0).length = 32) := to32_len _
      have bK := to32_byt bk0
      have DK : DR w3 (.slice (some ⟨w2.heap.size, 0, none⟩) 32 32) (to32 ks0) := ⟨some ⟨w2.heap.size, 0, none⟩, 32, w2.heap.size, by rw [K32.out], BK.own0.rd, (fun h => nomatch h), by rw [K32.out]; exact Nat.le_refl _⟩
      replace S2 := S2.up m3
      replace N2 := nxt N2 m3
      replace T7 := T7.up m3
      replace rn := rn.up m3
      obtain ⟨vk, hvk⟩ : ∃ v, v = Value.slice (some ⟨w2.heap.size, 0, none⟩) 32 32 := ⟨_, rfl⟩
      rw [← hvk] at DK
      rw [← hvk]
      generalize to32 ks0 = K at *
      clear m3 BK rk bk0 hvk
      go_wp2_with fail
      refine (lw32_any w3 gn an cn ns0 rn).mono ?_
      rintro e w4 ⟨rfl, BN, m4⟩
      have bN : Byt ((to32 ns0).take 12) := byt_takeT (to32_byt bn0) 12
      have lN : Hid (((to32 ns0).take 12).length = 12) := by show _ = _; rw [List.length_take, to32_len]; rfl
      have DN : DR w4 (.slice (some ⟨w3.heap.size, 0, none⟩) 12 32) ((to32 ns0).take 12) := DR.ofBlk BN lN.out.symm (by decide)
      replace S2 := S2.up m4
      replace N2 := nxt N2 m4
      replace T7 := T7.up m4
      replace DK := DK.up m4
      obtain ⟨vn, hvn⟩ : ∃ v, v = Value.slice (some ⟨w3.heap.size, 0, none⟩) 12 32 := ⟨_, rfl⟩
      rw [← hvn] at DN
      generalize (to32 ns0).take 12 = Nn at *
      clear m4 BN rn bn0
      go_upto_region 6 with fail
      rw [← hvn]
      clear hvn
      have CY : Hid (∀ W, Below w4.heap.size w4 W → (W.cell? ⟨p7, 0, none⟩ = some (.slice ax X.length cx) ∧ W.cell? ⟨p7, 1, none⟩ = some (.slice ay Y.length cy) ∧ W.cell? ⟨p7, 2, none⟩ = some (.int .i64 md) ∧ W.cell? ⟨p7, 3, none⟩ = some (.int .i64 li) ∧ W.cell? ⟨p7, 4, none⟩ = some (.string ⟨⟨ho⟩⟩) ∧ W.cell? ⟨p7, 5, none⟩ = some (.string ⟨⟨pr⟩⟩) ∧ W.cell? ⟨p7, 6, none⟩ = some (.int .i64 ea))) := fun W m => ⟨(T7.up m).cell 0, (T7.up m).cell 1, (T7.up m).cell 2, (T7.up m).cell 3, (T7.up m).cell 4, (T7.up m).cell 5, (T7.up m).cell 6⟩
      have CK : Hid (∀ W, Below w4.heap.size w4 W → Calls Tryz.prog 7 #[vk] W fun e w' => ∃ v', e = .returned v' ∧ DR w' v' K ∧ Below W.heap.size W w') := fun W m => copyC W vk K (DK.up m) (by rw [K32.out]; decide)
      have CN : Hid (∀ W, Below w4.heap.size w4 W → Calls Tryz.prog 7 #[vn] W fun e w' => ∃ v', e = .returned v' ∧ DR w' v' Nn ∧ Below W.heap.size W w') := fun W m => copyC W vn Nn (DN.up m) (by rw [lN.out]; decide)
      have SC : Hid (∀ W va vb, Below w4.heap.size w4 W → DR W va K → DR W vb Nn → Calls Tryz.prog 6 #[va, vb, .agg #[.slice ax X.length cx, .slice ay Y.length cy, .int .i64 md, .int .i64 li, .string ⟨⟨ho⟩⟩, .string ⟨⟨pr⟩⟩, .int .i64 ea]] W fun e w' => ∃ v', e = .returned v' ∧ DR w' v' (slA K Nn (esA X Y md li ho pr ea)) ∧ Below W.heap.size W w') := fun W va vb m h1 h2 => slC W va vb K Nn h1 h2 bK bN md li ho pr ea ax cx X ay cy Y (S2.up m) hh hp
      have nd : Below w4.heap.size w4 w4.drew := (Below.refl _ _).drew
      have C35 := hide ((unhide CK) w4.drew nd)
      go_region_held3 (fun W => W.cell? ⟨p7, 0, none⟩ = some (.slice ax X.length cx) ∧ W.cell? ⟨p7, 1, none⟩ = some (.slice ay Y.length cy) ∧ W.cell? ⟨p7, 2, none⟩ = some (.int .i64 md) ∧ W.cell? ⟨p7, 3, none⟩ = some (.int .i64 li) ∧ W.cell? ⟨p7, 4, none⟩ = some (.string ⟨⟨ho⟩⟩) ∧ W.cell? ⟨p7, 5, none⟩ = some (.string ⟨⟨pr⟩⟩) ∧ W.cell? ⟨p7, 6, none⟩ = some (.int .i64 ea))
        (first | exact (unhide CY) _ nd | exact (unhide CY) _ b35 | exact (unhide CY) _ b37 | exact (unhide CY) _ b39)
        (first
          | (go_at_call 7; refine C35.out.mono ?_; rintro rr w35 ⟨v35, rfl, D35, n35⟩; (have b35 := nxt nd n35); (have C37 := hide ((unhide CN) w35 b35)))
          | (go_at_call 7; refine C37.out.mono ?_; rintro rr w37 ⟨v37, rfl, D37, n37⟩; (have b37 := nxt b35 n37); (replace D35 := D35.up n37); (have C39 := hide ((unhide SC) w37 v35 v37 b37 D35 D37)))
          | (go_at_call 6; refine C39.out.mono ?_; rintro rr w39 ⟨v39, rfl, D39, n39⟩; (have b39 := nxt b37 n39))
          | fail)
      clear CY CK CN SC nd C35 C37 C39 D35 D37 n35 n37 n39 b35 b37
      replace S2 := S2.up b39
      replace T7 := T7.up b39
      replace DK := DK.up b39
      replace N2 := nxt N2 b39
      clear b39 DN
      have TB := hide (ticket_back (key := K) (non := Nn) (md := md) (li := li) (ho := ho) (pr := pr) (ea := ea) K32.out lN.out bX bY)
      have lT : (slA K Nn (esA X Y md li ho pr ea)).length ≤ 300 := slA_len K Nn _ (esA_len X Y md li ho pr ea)
      have bT : Byt (slA K Nn (esA X Y md li ho pr ea)) := slA_byt bN (byt_esA bX bY md li ho pr ea)
      obtain ⟨TT, hTT⟩ : ∃ l, l = slA K Nn (esA X Y md li ho pr ea) := ⟨_, rfl⟩
      rw [← hTT] at TB lT bT D39
      clear hTT
      obtain ⟨a39, c39, g39, rfl, r39, z39, k39⟩ := D39
      have t39 : decide ((400 : Int) < (TT.length : Int)) = false := by simp; omega
      have CK := hide (copyC w39 vk K DK (by rw [K32.out]; decide))
      go_wp2_with fail
      refine CK.out.mono ?_
      rintro e w41 ⟨v41, rfl, D41, n41⟩
      have D39 : DR w41 (.slice a39 TT.length c39) TT := ⟨a39, c39, g39, rfl, r39.up n41, z39, k39⟩
      replace S2 := S2.up n41
      replace T7 := T7.up n41
      replace DK := DK.up n41
      replace N2 := nxt N2 n41
      have CT := hide (copyC w41 _ TT D39 (by omega))
      clear n41 CK r39
      go_wp2_with fail
      refine CT.out.mono ?_
      rintro e w43 ⟨v43, rfl, D43, n43⟩
      replace S2 := S2.up n43
      replace T7 := T7.up n43
      replace DK := DK.up n43
      replace D41 := D41.up n43
      replace N2 := nxt N2 n43
      clear CT n43 D39
      have OC := hide (otC w43 v41 v43 K TT D41 D43 bK bT (by omega) (otP_byt bT))
      clear D41 D43
      by_cases hf : sfV X.length Y.length md li ho pr.length ea = 0
      · skip
        have e1 : dsB (otP K TT) = true := by rw [TB.out.1]; exact decide_eq_true hf
        have e2 := TB.out.2 hf
        go_wp2_with fail
        refine OC.out.mono ?_
        rintro e w44 ⟨h44, n44⟩
        obtain ⟨bx, ex, by', ey, rfl, SO⟩ : ∃ bx ex by' ey, e = .returned (.agg #[.bool true, .slice bx X.length ex, .slice by' Y.length ey, .int .i64 md, .int .i64 li, .string ⟨⟨ho⟩⟩, .string ⟨⟨pr⟩⟩, .int .i64 ea]) ∧ SD w44 bx ex X by' ey Y := by
          rcases h44 with ⟨h, -⟩ | ⟨-, bx, ex, by', ey, h1, h2⟩
          · rw [h] at e1
            cases e1
          · obtain ⟨d1, d2, d3, d4, d5, d6, d7, -⟩ := ds_es hf
            rw [e2, d1, d2, d3, d4, d5, d6, d7] at h1
            rw [e2, d1, d2] at h2
            exact ⟨bx, ex, by', ey, h1, h2⟩
        clear e1 e2 h44
        replace S2 := S2.up n44
        replace T7 := T7.up n44
        replace DK := DK.up n44
        replace N2 := nxt N2 n44
        have nB : Below w44.heap.size w44 (w44.alloc (.cells #[.bool true, .slice bx X.length ex, .slice by' Y.length ey, .int .i64 md, .int .i64 li, .string ⟨⟨ho⟩⟩, .string ⟨⟨pr⟩⟩, .int .i64 ea] 30)) := (Below.refl _ _).alloc (Nat.le_refl _) _
        have T11 : RwC (w44.alloc (.cells #[.bool true, .slice bx X.length ex, .slice by' Y.length ey, .int .i64 md, .int .i64 li, .string ⟨⟨ho⟩⟩, .string ⟨⟨pr⟩⟩, .int .i64 ea] 30)) w44.heap.size [.bool true, .slice bx X.length ex, .slice by' Y.length ey, .int .i64 md, .int .i64 li, .string ⟨⟨ho⟩⟩, .string ⟨⟨pr⟩⟩, .int .i64 ea] 30 := RwC.new w44 _ _
        replace S2 := S2.up nB
        replace T7 := T7.up nB
        replace DK := DK.up nB
        replace N2 := nxt N2 nB
        replace SO := SO.up nB
        obtain ⟨p11, hp11⟩ : ∃ q, q = w44.heap.size := ⟨_, rfl⟩
        rw [← hp11] at T11
        clear OC n44
        go_upto_region 8 with fail
        rw [← hp11]
        clear hp11 nB
        generalize w44.alloc (.cells #[.bool true, .slice bx X.length ex, .slice by' Y.length ey, .int .i64 md, .int .i64 li, .string ⟨⟨ho⟩⟩, .string ⟨⟨pr⟩⟩, .int .i64 ea] 30) = wa at *
        have CY : Hid (∀ W, Below wa.heap.size wa W → (W.cell? ⟨p7, 0, none⟩ = some (.slice ax X.length cx) ∧ W.cell? ⟨p7, 1, none⟩ = some (.slice ay Y.length cy) ∧ W.cell? ⟨p7, 2, none⟩ = some (.int .i64 md) ∧ W.cell? ⟨p7, 3, none⟩ = some (.int .i64 li) ∧ W.cell? ⟨p7, 4, none⟩ = some (.string ⟨⟨ho⟩⟩) ∧ W.cell? ⟨p7, 5, none⟩ = some (.string ⟨⟨pr⟩⟩) ∧ W.cell? ⟨p7, 6, none⟩ = some (.int .i64 ea) ∧ W.cell? ⟨p11, 0, none⟩ = some (.bool true) ∧ W.cell? ⟨p11, 1, none⟩ = some (.slice bx X.length ex) ∧ W.cell? ⟨p11, 2, none⟩ = some (.slice by' Y.length ey) ∧ W.cell? ⟨p11, 3, none⟩ = some (.int .i64 md) ∧ W.cell? ⟨p11, 4, none⟩ = some (.int .i64 li) ∧ W.cell? ⟨p11, 5, none⟩ = some (.string ⟨⟨ho⟩⟩) ∧ W.cell? ⟨p11, 6, none⟩ = some (.string ⟨⟨pr⟩⟩) ∧ W.cell? ⟨p11, 7, none⟩ = some (.int .i64 ea))) := fun W m => ⟨(T7.up m).cell 0, (T7.up m).cell 1, (T7.up m).cell 2, (T7.up m).cell 3, (T7.up m).cell 4, (T7.up m).cell 5, (T7.up m).cell 6, (T11.up m).cell 0, (T11.up m).cell 1, (T11.up m).cell 2, (T11.up m).cell 3, (T11.up m).cell 4, (T11.up m).cell 5, (T11.up m).cell 6, (T11.up m).cell 7⟩
        have SF : Hid (∀ W, Calls Tryz.prog 9 #[.agg #[.slice ax X.length cx, .slice ay Y.length cy, .int .i64 md, .int .i64 li, .string ⟨⟨ho⟩⟩, .string ⟨⟨pr⟩⟩, .int .i64 ea]] W fun e w' => e = .returned (.int .i64 0) ∧ Below W.heap.size W w') := fun W => hf ▸ specState_any W md li ho pr ea ax X.length cx ay Y.length cy hh hp
        have nd : Below wa.heap.size wa wa.drew := (Below.refl _ _).drew
        have SS : Hid (∀ W, Below wa.heap.size wa W → Calls Tryz.prog 10 #[.agg #[.slice bx X.length ex, .slice by' Y.length ey, .int .i64 md, .int .i64 li, .string ⟨⟨ho⟩⟩, .string ⟨⟨pr⟩⟩, .int .i64 ea], .agg #[.slice ax X.length cx, .slice ay Y.length cy, .int .i64 md, .int .i64 li, .string ⟨⟨ho⟩⟩, .string ⟨⟨pr⟩⟩, .int .i64 ea]] W fun e w' => e = .returned (.bool true) ∧ Below W.heap.size W w') := fun W m => ssC W md li ho pr ea bx ax by' ay ex cx ey cy X Y (SO.up m) (S2.up m)
        go_region_held3 (fun W => W.cell? ⟨p7, 0, none⟩ = some (.slice ax X.length cx) ∧ W.cell? ⟨p7, 1, none⟩ = some (.slice ay Y.length cy) ∧ W.cell? ⟨p7, 2, none⟩ = some (.int .i64 md) ∧ W.cell? ⟨p7, 3, none⟩ = some (.int .i64 li) ∧ W.cell? ⟨p7, 4, none⟩ = some (.string ⟨⟨ho⟩⟩) ∧ W.cell? ⟨p7, 5, none⟩ = some (.string ⟨⟨pr⟩⟩) ∧ W.cell? ⟨p7, 6, none⟩ = some (.int .i64 ea) ∧ W.cell? ⟨p11, 0, none⟩ = some (.bool true) ∧ W.cell? ⟨p11, 1, none⟩ = some (.slice bx X.length ex) ∧ W.cell? ⟨p11, 2, none⟩ = some (.slice by' Y.length ey) ∧ W.cell? ⟨p11, 3, none⟩ = some (.int .i64 md) ∧ W.cell? ⟨p11, 4, none⟩ = some (.int .i64 li) ∧ W.cell? ⟨p11, 5, none⟩ = some (.string ⟨⟨ho⟩⟩) ∧ W.cell? ⟨p11, 6, none⟩ = some (.string ⟨⟨pr⟩⟩) ∧ W.cell? ⟨p11, 7, none⟩ = some (.int .i64 ea))
          (first | exact (unhide CY) _ nd | exact (unhide CY) _ b48 | exact (unhide CY) _ b58)
          (first
            | (go_at_call 9; refine ((unhide SF) _).mono ?_; rintro rr w48 ⟨rfl, n48⟩; (have b48 := nxt nd n48))
            | (go_at_call 10; refine ((unhide SS) _ b48).mono ?_; rintro rr w58 ⟨rfl, n58⟩; (have b58 := nxt b48 n58))
            | fail)
        have NX := nxt N2 b58
        clear N2 n48 n58 b48 b58 CY SF SS nd T7 T11 S2 SO DK
        have DO := hide (drawOpenTicket_any w58 g1 a1 c1 X1 (hX1.up NX) bX1 q1)
        go_wp2_with fail
        refine DO.out.mono ?_
        rintro e wc ⟨vK, vT, rfl, ⟨KK, TK, RK, RT, bKK, bTK, lKK, lTK⟩, nc⟩
        have N3 := nxt NX nc
        have dK := DR.ofRow RK
        have dT2 := DR.ofRow RT
        obtain ⟨aT, cT, gT, rfl, rT, zT, kT⟩ := dT2
        have dT2 : DR wc (.slice aT TK.length cT) TK := ⟨aT, cT, gT, rfl, rT, zT, kT⟩
        obtain ⟨aK, cK, gK, rfl, rK, zK, kK⟩ := dK
        have dK : DR wc (.slice aK KK.length cK) KK := ⟨aK, cK, gK, rfl, rK, zK, kK⟩
        clear DO nc NX RK RT rK
        have CK := hide (copyC wc _ KK dK (by omega))
        go_wp2_with fail
        refine CK.out.mono ?_
        rintro e wd ⟨vd, rfl, Dd, nd1⟩
        replace dK := dK.up nd1
        replace dT2 := dT2.up nd1
        replace rT := rT.up nd1
        replace N3 := nxt N3 nd1
        have CT := hide (copyC wd _ TK dT2 (by omega))
        clear CK nd1
        go_wp2_with fail
        refine CT.out.mono ?_
        rintro e we ⟨ve, rfl, De, ne1⟩
        replace dK := dK.up ne1
        replace dT2 := dT2.up ne1
        replace rT := rT.up ne1
        replace Dd := Dd.up ne1
        replace N3 := nxt N3 ne1
        have OC := hide (otC we vd ve KK TK Dd De bKK bTK (by omega) (otP_byt bTK))
        clear CT ne1 Dd De
        have TS := hide (fun h => ticket_sealed (key := KK) bTK h)
        have SO2 := hide (fun W d1 d2 => specOtC W (.slice aK KK.length cK) (.slice aT TK.length cT) KK TK d1 d2 bKK bTK (by omega) (otP_byt bTK))
        obtain ⟨PP, hPP⟩ : ∃ l, l = otP KK TK := ⟨_, rfl⟩
        rw [← hPP] at OC TS SO2
        have bPP : Hid (Byt PP) := by show Byt _; rw [hPP]; exact otP_byt bTK
        clear hPP
        cases gd : dsB PP with
        | false =>
          go_wp2_with fail
          refine OC.out.mono ?_
          rintro e wf ⟨hf, nf⟩
          obtain ⟨bx, nx, ex, by', ny, ey, md', li', ho', pr', ea', rfl⟩ : ∃ bx nx ex by' ny ey md' li' ho' pr' ea', e = .returned (.agg #[.bool false, .slice bx nx ex, .slice by' ny ey, .int .i64 md', .int .i64 li', .string ho', .string pr', .int .i64 ea']) := by
            rcases hf with ⟨-, x1, x2, md', li', ho', pr', ea', x8, x9, x10, x11, x12, x13, rfl, rfl, h⟩ | ⟨h, -⟩
            · exact ⟨_, _, _, _, _, _, _, _, _, _, _, h⟩
            · rw [h] at gd
              cases gd
          clear hf
          have nB : Below wf.heap.size wf (wf.alloc (.cells #[.bool false, .slice bx nx ex, .slice by' ny ey, .int .i64 md', .int .i64 li', .string ho', .string pr', .int .i64 ea'] 30)) := (Below.refl _ _).alloc (Nat.le_refl _) _
          have T14 : RwC (wf.alloc (.cells #[.bool false, .slice bx nx ex, .slice by' ny ey, .int .i64 md', .int .i64 li', .string ho', .string pr', .int .i64 ea'] 30)) wf.heap.size [.bool false, .slice bx nx ex, .slice by' ny ey, .int .i64 md', .int .i64 li', .string ho', .string pr', .int .i64 ea'] 30 := RwC.new wf _ _
          replace dK := (dK.up nf).up nB
          replace dT2 := (dT2.up nf).up nB
          replace rT := (rT.up nf).up nB
          replace N3 := nxt (nxt N3 nf) nB
          obtain ⟨p14, hp14⟩ : ∃ q, q = wf.heap.size := ⟨_, rfl⟩
          rw [← hp14] at T14
          clear OC nf
          go_upto_region 12 with fail
          rw [← hp14]
          clear hp14 nB
          generalize wf.alloc (.cells #[.bool false, .slice bx nx ex, .slice by' ny ey, .int .i64 md', .int .i64 li', .string ho', .string pr', .int .i64 ea'] 30) = wa2 at *
          have SP : Hid (∀ W, Below wa2.heap.size wa2 W → Calls Tryz.prog 12 #[.slice aK KK.length cK, .slice aT TK.length cT] W fun e w' => ∃ v, e = .returned v ∧ Below W.heap.size W w' ∧ ∃ v1 v2 v3 v4 v5 v6 v7, v = .agg #[.bool false, v1, v2, v3, v4, v5, v6, v7]) := fun W m => (SO2.out W (dK.up m) (dT2.up m)).mono (by
            rintro e w' ⟨h, n⟩
            rcases h with ⟨h, x1, x2, md', li', ho', pr', ea', x8, x9, x10, x11, x12, x13, rfl, rfl, rfl⟩ | ⟨h, bx, ex, by', ey, rfl, -⟩
            · exact ⟨_, rfl, n, _, _, _, _, _, _, _, rfl⟩
            · rw [h] at gd; cases gd)
          refine region_end 7 (fun i => [Fact.eq (.pointer (some ⟨p14, 0, none⟩)), Fact.eq (.bool false), Fact.eq (.slice aK KK.length cK), Fact.eq (.slice aT TK.length cT), (⟨fun v _ => ∃ v1 v2 v3 v4 v5 v6 v7, v = .agg #[.bool false, v1, v2, v3, v4, v5, v6, v7], fun _ h => h⟩ : Fact), Fact.eq (.bool false), Fact.eq (.bool false)].getD i Fact.no) (by kernel_rfl) (by kernel_rfl) rfl ?_ ?_
          · intro i hi
            obtain rfl | rfl | rfl | rfl | rfl | rfl | rfl : i = 0 ∨ i = 1 ∨ i = 2 ∨ i = 3 ∨ i = 4 ∨ i = 5 ∨ i = 6 := by omega
            · refine step_pure rfl fun a ww hb hw hf => ?_
              have e14 : a.tmps[14]?.getD undef = .pointer (some ⟨p14, 0, none⟩) := gdv (hb.2.2 14 (by kernel_rfl))
              exact ⟨.pointer (some ⟨p14, 0, none⟩), by simp [go_sem, e14], rfl⟩
            · refine step_pure rfl fun a ww hb hw hf => ?_
              have e77 : a.tmps[77]?.getD undef = .pointer (some ⟨p14, 0, none⟩) := gdv (hf 0 77 (by kernel_rfl))
              have hc := (T14.up hw).c0
              exact ⟨.bool false, by simp [go_sem, e77, hc], rfl⟩
            · refine step_pure rfl fun a ww hb hw hf => ?_
              have e12 : a.tmps[12]?.getD undef = .slice aK KK.length cK := gdv (hb.2.2 12 (by kernel_rfl))
              exact ⟨.slice aK KK.length cK, by simp [go_sem, e12], rfl⟩
            · refine step_pure rfl fun a ww hb hw hf => ?_
              have e13 : a.tmps[13]?.getD undef = .slice aT TK.length cT := gdv (hb.2.2 13 (by kernel_rfl))
              exact ⟨.slice aT TK.length cT, by simp [go_sem, e13], rfl⟩
            · refine step_callv rfl 12 _ _ rfl (by kernel_rfl) fun a w' hb hw hf => ?_
              have e1 : a.tmps.getD 79 undef = .slice aK KK.length cK := hf 2 79 (by kernel_rfl)
              have e2 : a.tmps.getD 80 undef = .slice aT TK.length cT := hf 3 80 (by kernel_rfl)
              show Calls Tryz.prog 12 #[a.tmps.getD 79 undef, a.tmps.getD 80 undef] w' _
              rw [e1, e2]
              exact (unhide SP) w' hw
            · refine step_pure rfl fun a w' hb hw hf => ?_
              obtain ⟨v1, v2, v3, v4, v5, v6, v7, e1⟩ := hf 4 81 (by kernel_rfl)
              have e1 := gdv e1
              have h1 := fdSr false v1 v2 v3 v4 v5 v6 v7 w'
              exact ⟨.bool false, by simp [go_sem, e1, h1], rfl⟩
            · refine step_pure rfl fun a ww hb hw hf => ?_
              have e78 : a.tmps[78]?.getD undef = .bool false := gdv (hf 1 78 (by kernel_rfl))
              have e82 : a.tmps[82]?.getD undef = .bool false := gdv (hf 5 82 (by kernel_rfl))
              exact ⟨.bool false, by simp [go_sem, e78, e82], rfl⟩
          intro A wg hb' hw hF
          have e2 := hF 6 83 (by kernel_rfl)
          obtain ⟨vs, hvs⟩ : ∃ vs : Nat → Value, ∀ d, A.tmps.getD d undef = vs d := ⟨_, fun _ => rfl⟩
          rw [hvs] at e2
          rw [puts_of (md := .any) (k := 7) (by kernel_rfl) rfl hb' vs hvs]
          clear hb' hF hvs
          have e3 : vs 83 = .bool false := e2
          clear e2
          simp only [puts, e3, Act.put, List.setIfInBounds_toArray, List.set_cons_succ, List.set_cons_zero]
          clear e3
          replace N3 := nxt N3 hw
          replace T14 := T14.up hw
          have x0 := T14.c0
          clear SP SO2 TS dK dT2 rT hw T14
          go_wp2
          go_quiet (fail)
          go_wp2
          go_ret
          exact ⟨rfl, below_drewN N3 _⟩
        | true =>
          go_wp2_with fail
          refine OC.out.mono ?_
          rintro e wf ⟨hf, nf⟩
          obtain ⟨bx, ex, by', ey, rfl, SO⟩ : ∃ bx ex by' ey, e = .returned (.agg #[.bool true, .slice bx (dX PP).length ex, .slice by' (dY PP).length ey, .int .i64 (dM PP), .int .i64 (dL PP), .string ⟨⟨dH PP⟩⟩, .string ⟨⟨dP PP⟩⟩, .int .i64 (dE PP)]) ∧ SD wf bx ex (dX PP) by' ey (dY PP) := by
            rcases hf with ⟨h, -⟩ | ⟨-, bx, ex, by', ey, h1, h2⟩
            · rw [h] at gd
              cases gd
            · exact ⟨bx, ex, by', ey, h1, h2⟩
          clear hf
          have nB : Below wf.heap.size wf (wf.alloc (.cells #[.bool true, .slice bx (dX PP).length ex, .slice by' (dY PP).length ey, .int .i64 (dM PP), .int .i64 (dL PP), .string ⟨⟨dH PP⟩⟩, .string ⟨⟨dP PP⟩⟩, .int .i64 (dE PP)] 30)) := (Below.refl _ _).alloc (Nat.le_refl _) _
          have T14 : RwC (wf.alloc (.cells #[.bool true, .slice bx (dX PP).length ex, .slice by' (dY PP).length ey, .int .i64 (dM PP), .int .i64 (dL PP), .string ⟨⟨dH PP⟩⟩, .string ⟨⟨dP PP⟩⟩, .int .i64 (dE PP)] 30)) wf.heap.size [.bool true, .slice bx (dX PP).length ex, .slice by' (dY PP).length ey, .int .i64 (dM PP), .int .i64 (dL PP), .string ⟨⟨dH PP⟩⟩, .string ⟨⟨dP PP⟩⟩, .int .i64 (dE PP)] 30 := RwC.new wf _ _
          replace dK := (dK.up nf).up nB
          replace dT2 := (dT2.up nf).up nB
          replace rT := (rT.up nf).up nB
          replace N3 := nxt (nxt N3 nf) nB
          replace SO := SO.up nB
          obtain ⟨p14, hp14⟩ : ∃ q, q = wf.heap.size := ⟨_, rfl⟩
          rw [← hp14] at T14
          clear OC nf
          go_upto_region 12 with fail
          rw [← hp14]
          clear hp14 nB
          generalize wf.alloc (.cells #[.bool true, .slice bx (dX PP).length ex, .slice by' (dY PP).length ey, .int .i64 (dM PP), .int .i64 (dL PP), .string ⟨⟨dH PP⟩⟩, .string ⟨⟨dP PP⟩⟩, .int .i64 (dE PP)] 30) = wa2 at *
          have SP : Hid (∀ W, Below wa2.heap.size wa2 W → Calls Tryz.prog 12 #[.slice aK KK.length cK, .slice aT TK.length cT] W fun e w' => ∃ v, e = .returned v ∧ Below W.heap.size W w' ∧ ∃ v1 v2 v3 v4 v5 v6 v7, v = .agg #[.bool true, v1, v2, v3, v4, v5, v6, v7]) := fun W m => (SO2.out W (dK.up m) (dT2.up m)).mono (by
            rintro e w' ⟨h, n⟩
            rcases h with ⟨h, x1, x2, md', li', ho', pr', ea', x8, x9, x10, x11, x12, x13, rfl, rfl, rfl⟩ | ⟨h, bx, ex, by', ey, rfl, -⟩
            · rw [h] at gd; cases gd
            · exact ⟨_, rfl, n, _, _, _, _, _, _, _, rfl⟩)
          refine region_end 7 (fun i => [Fact.eq (.pointer (some ⟨p14, 0, none⟩)), Fact.eq (.bool true), Fact.eq (.slice aK KK.length cK), Fact.eq (.slice aT TK.length cT), (⟨fun v _ => ∃ v1 v2 v3 v4 v5 v6 v7, v = .agg #[.bool true, v1, v2, v3, v4, v5, v6, v7], fun _ h => h⟩ : Fact), Fact.eq (.bool true), Fact.eq (.bool false)].getD i Fact.no) (by kernel_rfl) (by kernel_rfl) rfl ?_ ?_
          · intro i hi
            obtain rfl | rfl | rfl | rfl | rfl | rfl | rfl : i = 0 ∨ i = 1 ∨ i = 2 ∨ i = 3 ∨ i = 4 ∨ i = 5 ∨ i = 6 := by omega
            · refine step_pure rfl fun a ww hb hw hf => ?_
              have e14 : a.tmps[14]?.getD undef = .pointer (some ⟨p14, 0, none⟩) := gdv (hb.2.2 14 (by kernel_rfl))
              exact ⟨.pointer (some ⟨p14, 0, none⟩), by simp [go_sem, e14], rfl⟩
            · refine step_pure rfl fun a ww hb hw hf => ?_
              have e77 : a.tmps[77]?.getD undef = .pointer (some ⟨p14, 0, none⟩) := gdv (hf 0 77 (by kernel_rfl))
              have hc := (T14.up hw).c0
              exact ⟨.bool true, by simp [go_sem, e77, hc], rfl⟩
            · refine step_pure rfl fun a ww hb hw hf => ?_
              have e12 : a.tmps[12]?.getD undef = .slice aK KK.length cK := gdv (hb.2.2 12 (by kernel_rfl))
              exact ⟨.slice aK KK.length cK, by simp [go_sem, e12], rfl⟩
            · refine step_pure rfl fun a ww hb hw hf => ?_
              have e13 : a.tmps[13]?.getD undef = .slice aT TK.length cT := gdv (hb.2.2 13 (by kernel_rfl))
              exact ⟨.slice aT TK.length cT, by simp [go_sem, e13], rfl⟩
            · refine step_callv rfl 12 _ _ rfl (by kernel_rfl) fun a w' hb hw hf => ?_
              have e1 : a.tmps.getD 79 undef = .slice aK KK.length cK := hf 2 79 (by kernel_rfl)
              have e2 : a.tmps.getD 80 undef = .slice aT TK.length cT := hf 3 80 (by kernel_rfl)
              show Calls Tryz.prog 12 #[a.tmps.getD 79 undef, a.tmps.getD 80 undef] w' _
              rw [e1, e2]
              exact (unhide SP) w' hw
            · refine step_pure rfl fun a w' hb hw hf => ?_
              obtain ⟨v1, v2, v3, v4, v5, v6, v7, e1⟩ := hf 4 81 (by kernel_rfl)
              have e1 := gdv e1
              have h1 := fdSr true v1 v2 v3 v4 v5 v6 v7 w'
              exact ⟨.bool true, by simp [go_sem, e1, h1], rfl⟩
            · refine step_pure rfl fun a ww hb hw hf => ?_
              have e78 : a.tmps[78]?.getD undef = .bool true := gdv (hf 1 78 (by kernel_rfl))
              have e82 : a.tmps[82]?.getD undef = .bool true := gdv (hf 5 82 (by kernel_rfl))
              exact ⟨.bool false, by simp [go_sem, e78, e82], rfl⟩
          intro A wg hb' hw hF
          have e2 := hF 6 83 (by kernel_rfl)
          obtain ⟨vs, hvs⟩ : ∃ vs : Nat → Value, ∀ d, A.tmps.getD d undef = vs d := ⟨_, fun _ => rfl⟩
          rw [hvs] at e2
          rw [puts_of (md := .any) (k := 7) (by kernel_rfl) rfl hb' vs hvs]
          clear hb' hF hvs
          have e3 : vs 83 = .bool false := e2
          clear e2
          simp only [puts, e3, Act.put, List.setIfInBounds_toArray, List.set_cons_succ, List.set_cons_zero]
          clear e3
          replace N3 := nxt N3 hw
          replace T14 := T14.up hw
          obtain ⟨h12, -, hO, hPo, hSl, hEs⟩ := TS.out gd
          have l28 : 28 ≤ TK.length := by
            rcases Nat.lt_or_ge (otS TK).length 16 with h | h
            · have := open_short (key := KK) (non := otN TK) (ex := tkM) (M := otS TK) h
              rw [hO] at this
              cases this
            · unfold otS at h
              rw [List.length_drop] at h
              omega
          have lN : Hid ((otN TK).length = 12) := by show _ = _; unfold otN; rw [List.length_take]; omega
          have lS : Hid ((otS TK).length = TK.length - 12) := by show _ = _; unfold otS; rw [List.length_drop]
          replace dK := dK.up hw
          replace rT := rT.up hw
          replace SO := SO.up hw
          obtain ⟨oT, eT, -⟩ := id rT (by omega)
          subst eT
          have hc1 : ¬ (cT = 12) := by omega
          have hc2 : (12 : Int) ≤ (cT : Int) := by omega
          have hc3 : (12 : Int) ≤ (TK.length : Int) := by omega
          have bN2 : Byt (otN TK) := byt_takeT bTK 12
          have bS2 : Byt (otS TK) := byt_dropT bTK 12
          have lhh : (dH PP).length ≤ 1048576 := by rw [dH_len]; have := (dn1_is bPP.out).2; omega
          have lpp : (dP PP).length ≤ 1048576 := by rw [dP_len]; have := (dn2_is bPP.out).2; omega
          have dT12 : Hid (∀ W, Below wg.heap.size wg W → DR W (.slice (some ⟨gT, oT, none⟩) 12 cT) (otN TK)) := fun W m => ⟨some ⟨gT, oT, none⟩, cT, gT, by rw [lN.out], (rT.up m).takeA 12, (fun h => nomatch h), by rw [lN.out]; omega⟩
          have dS12 : Hid (∀ W, Below wg.heap.size wg W → DR W (.slice (some ⟨gT, oT + 12, none⟩) (TK.length - 12) (cT - 12)) (otS TK)) := fun W m => ⟨some ⟨gT, oT + 12, none⟩, cT - 12, gT, by rw [lS.out], by
            obtain ⟨o, eo, r⟩ := (rT.up m).dropA 12 (by omega)
            simp only [Option.some.injEq, Addr.mk.injEq, and_true, true_and] at eo
            subst eo
            exact r, (fun h => nomatch h), by rw [lS.out]; omega⟩
          have dTT : Hid (∀ W, Below wg.heap.size wg W → DR W (.slice (some ⟨gT, oT, none⟩) TK.length cT) TK) := fun W m => ⟨some ⟨gT, oT, none⟩, cT, gT, rfl, rT.up m, (fun h => nomatch h), kT⟩
          replace T14 := T14
          have SL : Hid (∀ W va vb, Below wg.heap.size wg W → DR W va KK → DR W vb (otN TK) → Calls Tryz.prog 6 #[va, vb, .agg #[.slice bx (dX PP).length ex, .slice by' (dY PP).length ey, .int .i64 (dM PP), .int .i64 (dL PP), .string ⟨⟨dH PP⟩⟩, .string ⟨⟨dP PP⟩⟩, .int .i64 (dE PP)]] W fun e w' => ∃ v, e = .returned v ∧ Mk.Gm wg.heap.size W w' ∧ DR w' v TK) := fun W va vb m h1 h2 => by
            have h := slC W va vb KK (otN TK) h1 h2 bKK bN2 (dM PP) (dL PP) (dH PP) (dP PP) (dE PP) bx ex (dX PP) by' ey (dY PP) (SO.up m) lhh lpp
            rw [hEs, hSl] at h
            exact h.mono (by rintro e w' ⟨v, rfl, d, n⟩; exact ⟨v, rfl, Mk.Gm.of_below n, d⟩)
          have OP : Hid (∀ W va vb vc vd, Below wg.heap.size wg W → DR W va KK → DR W vb (otN TK) → DR W vc tkM → DR W vd (otS TK) → Calls Tryz.prog 14 #[va, vb, vc, vd] W fun e w' => ∃ v, e = .returned v ∧ Mk.Gm wg.heap.size W w' ∧ ∃ v', v = .agg #[.bool true, v'] ∧ DR w' v' PP) := fun W va vb vc vd m h1 h2 h3 h4 => by
            refine (openC W va vb vc vd KK (otN TK) tkM (otS TK) h1 h2 h3 h4 bKK bN2 tkM_byt bS2 (by rw [lS.out]; show 6 + _ ≤ _; omega)).mono ?_
            rintro e w' ⟨v, rfl, d, n⟩
            rw [hO]
            rw [← hPo] at d
            exact ⟨_, rfl, Mk.Gm.of_below n, v, rfl, d⟩
          have EN : Hid (∀ W, Below wg.heap.size wg W → Calls Tryz.prog 15 #[.agg #[.slice bx (dX PP).length ex, .slice by' (dY PP).length ey, .int .i64 (dM PP), .int .i64 (dL PP), .string ⟨⟨dH PP⟩⟩, .string ⟨⟨dP PP⟩⟩, .int .i64 (dE PP)]] W fun e w' => ∃ v, e = .returned v ∧ Mk.Gm wg.heap.size W w' ∧ DR w' v PP) := fun W m => by
            have h := enC W (dM PP) (dL PP) (dH PP) (dP PP) (dE PP) bx ex (dX PP) by' ey (dY PP) (SO.up m) lhh lpp
            rw [hEs] at h
            exact h.mono (by rintro e w' ⟨v, rfl, d, n⟩; exact ⟨v, rfl, Mk.Gm.of_below n, d⟩)
          have SM : Hid (∀ W va vb zs, DR W va zs → DR W vb zs → Calls Tryz.prog 13 #[va, vb] W fun e w' => ∃ v, e = .returned v ∧ Mk.Gm wg.heap.size W w' ∧ v = .bool true) := fun W va vb zs h1 h2 => (sameC W va vb zs h1 h2).mono (by rintro e w' ⟨rfl, rfl⟩; exact ⟨_, rfl, Mk.Gm.refl _ _, rfl⟩)
          have RG : Hid (∀ W, Mk.Gm wg.heap.size wg W → W.rangeAt p14 1 [.slice bx (dX PP).length ex, .slice by' (dY PP).length ey, .int .i64 (dM PP), .int .i64 (dL PP), .string ⟨⟨dH PP⟩⟩, .string ⟨⟨dP PP⟩⟩, .int .i64 (dE PP)]) := fun W m => (rangeAt_tail ((T14.up m.below0).rangeG))
          have DKH := hide (fun W (m : Mk.Gm wg.heap.size wg W) => dK.up m.below0)
          obtain ⟨dSt, hdSt, hrowSt⟩ := rowTs
          clear SP SO2 TS dK dT2 SO hEs hSl hPo hO bKK bTK bN2 bS2 lhh lpp hw rT
          go_upto_region 14 with fail
          refine Mk.region_guard (fun i => [Mk.Fact.eq (.pointer (some ⟨p14, 0, none⟩)), Mk.Fact.eq (.bool true), Mk.Fact.eq (.bool false), Mk.Fact.eq (.bool false), Mk.Fact.eq (.slice aK KK.length cK), Mk.Fact.eq (.slice (some ⟨gT, oT, none⟩) TK.length cT), Mk.Fact.eq (.slice (some ⟨gT, oT, none⟩) 12 cT), Mk.Fact.eq (.pointer (some ⟨p14, 1, none⟩)), Mk.Fact.eq (.agg #[.slice bx (dX PP).length ex, .slice by' (dY PP).length ey, .int .i64 (dM PP), .int .i64 (dL PP), .string ⟨⟨dH PP⟩⟩, .string ⟨⟨dP PP⟩⟩, .int .i64 (dE PP)]), Mk.DrF TK, Mk.Fact.eq (.slice (some ⟨gT, oT, none⟩) TK.length cT), Mk.Fact.eq (.bool true), Mk.Fact.eq (.bool true), Mk.Fact.eq (.slice aK KK.length cK), Mk.Fact.eq (.slice (some ⟨gT, oT, none⟩) TK.length cT), Mk.Fact.eq (.slice (some ⟨gT, oT, none⟩) 12 cT), Mk.LitF wg.heap.size tkM, Mk.DrF tkM, Mk.Fact.eq (.slice (some ⟨gT, oT, none⟩) TK.length cT), Mk.Fact.eq (.slice (some ⟨gT, oT + 12, none⟩) (TK.length - 12) (cT - 12)), OpnF PP, Mk.DrF PP, Mk.Fact.eq (.pointer (some ⟨p14, 1, none⟩)), Mk.Fact.eq (.agg #[.slice bx (dX PP).length ex, .slice by' (dY PP).length ey, .int .i64 (dM PP), .int .i64 (dL PP), .string ⟨⟨dH PP⟩⟩, .string ⟨⟨dP PP⟩⟩, .int .i64 (dE PP)]), Mk.DrF PP, Mk.Fact.eq (.bool true), Mk.Fact.eq (.bool true), Mk.Fact.eq (.bool true), Mk.Fact.eq (.bool true)].getD i Mk.Fact.no) (by kernel_rfl) (by kernel_rfl) ?_ ?_ ?_
          · intro i hi
            have hiN : i < 29 := hi
            obtain rfl | rfl | rfl | rfl | rfl | rfl | rfl | rfl | rfl | rfl | rfl | rfl | rfl | rfl | rfl | rfl | rfl | rfl | rfl | rfl | rfl | rfl | rfl | rfl | rfl | rfl | rfl | rfl | rfl : i = 0 ∨ i = 1 ∨ i = 2 ∨ i = 3 ∨ i = 4 ∨ i = 5 ∨ i = 6 ∨ i = 7 ∨ i = 8 ∨ i = 9 ∨ i = 10 ∨ i = 11 ∨ i = 12 ∨ i = 13 ∨ i = 14 ∨ i = 15 ∨ i = 16 ∨ i = 17 ∨ i = 18 ∨ i = 19 ∨ i = 20 ∨ i = 21 ∨ i = 22 ∨ i = 23 ∨ i = 24 ∨ i = 25 ∨ i = 26 ∨ i = 27 ∨ i = 28 := by omega
            · refine Mk.step_pure rfl fun a ww hb hw hf => ?_
              have e14 : a.tmps[14]?.getD undef = .pointer (some ⟨p14, 0, none⟩) := Mk.gdv (hb.2.2 14 (by kernel_rfl))
              exact ⟨.pointer (some ⟨p14, 0, none⟩), by simp [go_sem, e14], rfl⟩
            · refine Mk.step_pure rfl fun a ww hb hw hf => ?_
              have e84 : a.tmps[84]?.getD undef = .pointer (some ⟨p14, 0, none⟩) := Mk.gdv (hf 0 84 (by kernel_rfl))
              have hc := (T14.up hw.below0).c0
              exact ⟨.bool true, by simp [go_sem, e84, hc], rfl⟩
            · refine Mk.step_pure rfl fun a ww hb hw hf => ?_
              have e85 : a.tmps[85]?.getD undef = .bool true := Mk.gdv (hf 1 85 (by kernel_rfl))
              exact ⟨.bool false, by simp [go_sem, e85], rfl⟩
            · refine Mk.step_pure rfl fun a ww hb hw hf => ?_
              have e86 : a.tmps[86]?.getD undef = .bool false := Mk.gdv (hf 2 86 (by kernel_rfl))
              exact ⟨.bool false, by simp [go_sem, e86], rfl⟩
            · refine Mk.step_pure rfl fun a ww hb hw hf => ?_
              have e12 : a.tmps[12]?.getD undef = .slice aK KK.length cK := Mk.gdv (hb.2.2 12 (by kernel_rfl))
              exact ⟨.slice aK KK.length cK, by simp [go_sem, e12], rfl⟩
            · refine Mk.step_pure rfl fun a ww hb hw hf => ?_
              have e13 : a.tmps[13]?.getD undef = .slice (some ⟨gT, oT, none⟩) TK.length cT := Mk.gdv (hb.2.2 13 (by kernel_rfl))
              exact ⟨.slice (some ⟨gT, oT, none⟩) TK.length cT, by simp [go_sem, e13], rfl⟩
            · refine Mk.step_pure rfl fun a ww hb hw hf => ?_
              have e89 : a.tmps[89]?.getD undef = .slice (some ⟨gT, oT, none⟩) TK.length cT := Mk.gdv (hf 5 89 (by kernel_rfl))
              exact ⟨.slice (some ⟨gT, oT, none⟩) 12 cT, by simp [go_sem, e89, hc2], rfl⟩
            · refine Mk.step_pure rfl fun a ww hb hw hf => ?_
              have e14 : a.tmps[14]?.getD undef = .pointer (some ⟨p14, 0, none⟩) := Mk.gdv (hb.2.2 14 (by kernel_rfl))
              exact ⟨.pointer (some ⟨p14, 1, none⟩), by simp [go_sem, e14], rfl⟩
            · refine Mk.step_load rfl 24 (.tmp 91) rfl dSt 7 hdSt hrowSt iTs fun a w' hb hw hf => ?_
              have e1 : a.tmps.getD 91 undef = .pointer (some ⟨p14, 1, none⟩) := hf 7 91 (by kernel_rfl)
              exact ⟨p14, 1, [.slice bx (dX PP).length ex, .slice by' (dY PP).length ey, .int .i64 (dM PP), .int .i64 (dL PP), .string ⟨⟨dH PP⟩⟩, .string ⟨⟨dP PP⟩⟩, .int .i64 (dE PP)], e1, (unhide RG) w' hw, rfl, rfl⟩
            · refine Mk.step_callv rfl 6 _ _ rfl (by kernel_rfl) fun a w' hb hw hf => ?_
              have e88 : a.tmps.getD 88 undef = .slice aK KK.length cK := hf 4 88 (by kernel_rfl)
              have e90 : a.tmps.getD 90 undef = .slice (some ⟨gT, oT, none⟩) 12 cT := hf 6 90 (by kernel_rfl)
              have e92 : a.tmps.getD 92 undef = .agg #[.slice bx (dX PP).length ex, .slice by' (dY PP).length ey, .int .i64 (dM PP), .int .i64 (dL PP), .string ⟨⟨dH PP⟩⟩, .string ⟨⟨dP PP⟩⟩, .int .i64 (dE PP)] := hf 8 92 (by kernel_rfl)
              show Calls Tryz.prog 6 #[a.tmps.getD 88 undef, a.tmps.getD 90 undef, a.tmps.getD 92 undef] w' _
              rw [e88, e90, e92]
              exact (unhide SL) w' _ _ hw.below0 (DKH.out w' hw) ((unhide dT12) w' hw.below0)
            · refine Mk.step_pure rfl fun a ww hb hw hf => ?_
              have e13 : a.tmps[13]?.getD undef = .slice (some ⟨gT, oT, none⟩) TK.length cT := Mk.gdv (hb.2.2 13 (by kernel_rfl))
              exact ⟨.slice (some ⟨gT, oT, none⟩) TK.length cT, by simp [go_sem, e13], rfl⟩
            · refine Mk.step_callv rfl 13 _ _ rfl (by kernel_rfl) fun a w' hb hw hf => ?_
              have d93 := hf 9 93 (by kernel_rfl)
              have e94 : a.tmps.getD 94 undef = .slice (some ⟨gT, oT, none⟩) TK.length cT := hf 10 94 (by kernel_rfl)
              show Calls Tryz.prog 13 #[a.tmps.getD 93 undef, a.tmps.getD 94 undef] w' _
              rw [e94]
              exact (unhide SM) w' _ _ TK d93 ((unhide dTT) w' hw.below0)
            · refine Mk.step_pure rfl fun a ww hb hw hf => ?_
              have e95 : a.tmps[95]?.getD undef = .bool true := Mk.gdv (hf 11 95 (by kernel_rfl))
              exact ⟨.bool true, by simp [go_sem, e95], rfl⟩
            · refine Mk.step_pure rfl fun a ww hb hw hf => ?_
              have e12 : a.tmps[12]?.getD undef = .slice aK KK.length cK := Mk.gdv (hb.2.2 12 (by kernel_rfl))
              exact ⟨.slice aK KK.length cK, by simp [go_sem, e12], rfl⟩
            · refine Mk.step_pure rfl fun a ww hb hw hf => ?_
              have e13 : a.tmps[13]?.getD undef = .slice (some ⟨gT, oT, none⟩) TK.length cT := Mk.gdv (hb.2.2 13 (by kernel_rfl))
              exact ⟨.slice (some ⟨gT, oT, none⟩) TK.length cT, by simp [go_sem, e13], rfl⟩
            · refine Mk.step_pure rfl fun a ww hb hw hf => ?_
              have e98 : a.tmps[98]?.getD undef = .slice (some ⟨gT, oT, none⟩) TK.length cT := Mk.gdv (hf 14 98 (by kernel_rfl))
              exact ⟨.slice (some ⟨gT, oT, none⟩) 12 cT, by simp [go_sem, e98, hc2], rfl⟩
            · refine Mk.step_lit rfl tkM (fun a w' => ?_) rfl
              simp only [execOp]
              kernel_rfl
            · exact Mk.step_mark rfl 22 Tryz.underlying22 Tryz.underlying5 tkM rfl 16 100 rfl rfl (by kernel_rfl) rfl
            · refine Mk.step_pure rfl fun a ww hb hw hf => ?_
              have e13 : a.tmps[13]?.getD undef = .slice (some ⟨gT, oT, none⟩) TK.length cT := Mk.gdv (hb.2.2 13 (by kernel_rfl))
              exact ⟨.slice (some ⟨gT, oT, none⟩) TK.length cT, by simp [go_sem, e13], rfl⟩
            · refine Mk.step_pure rfl fun a ww hb hw hf => ?_
              have e102 : a.tmps[102]?.getD undef = .slice (some ⟨gT, oT, none⟩) TK.length cT := Mk.gdv (hf 18 102 (by kernel_rfl))
              exact ⟨.slice (some ⟨gT, oT + 12, none⟩) (TK.length - 12) (cT - 12), by simp [go_sem, e102, hc1, hc3], rfl⟩
            · refine Mk.step_callv rfl 14 _ _ rfl (by kernel_rfl) fun a w' hb hw hf => ?_
              have e97 : a.tmps.getD 97 undef = .slice aK KK.length cK := hf 13 97 (by kernel_rfl)
              have e99 : a.tmps.getD 99 undef = .slice (some ⟨gT, oT, none⟩) 12 cT := hf 15 99 (by kernel_rfl)
              have d101 := hf 17 101 (by kernel_rfl)
              have e103 : a.tmps.getD 103 undef = .slice (some ⟨gT, oT + 12, none⟩) (TK.length - 12) (cT - 12) := hf 19 103 (by kernel_rfl)
              show Calls Tryz.prog 14 #[a.tmps.getD 97 undef, a.tmps.getD 99 undef, a.tmps.getD 101 undef, a.tmps.getD 103 undef] w' _
              rw [e97, e99, e103]
              exact (unhide OP) w' _ _ _ _ hw.below0 (DKH.out w' hw) ((unhide dT12) w' hw.below0) d101 ((unhide dS12) w' hw.below0)
            · refine Mk.step_pure rfl fun a w' hb hw hf => ?_
              obtain ⟨v', e1, d1⟩ := hf 20 104 (by kernel_rfl)
              have e1 := Mk.gdv e1
              have h1 := fdOr true v' w'
              exact ⟨v', by simp [go_sem, e1, h1], d1⟩
            · refine Mk.step_pure rfl fun a ww hb hw hf => ?_
              have e14 : a.tmps[14]?.getD undef = .pointer (some ⟨p14, 0, none⟩) := Mk.gdv (hb.2.2 14 (by kernel_rfl))
              exact ⟨.pointer (some ⟨p14, 1, none⟩), by simp [go_sem, e14], rfl⟩
            · refine Mk.step_load rfl 24 (.tmp 106) rfl dSt 7 hdSt hrowSt iTs fun a w' hb hw hf => ?_
              have e1 : a.tmps.getD 106 undef = .pointer (some ⟨p14, 1, none⟩) := hf 22 106 (by kernel_rfl)
              exact ⟨p14, 1, [.slice bx (dX PP).length ex, .slice by' (dY PP).length ey, .int .i64 (dM PP), .int .i64 (dL PP), .string ⟨⟨dH PP⟩⟩, .string ⟨⟨dP PP⟩⟩, .int .i64 (dE PP)], e1, (unhide RG) w' hw, rfl, rfl⟩
            · refine Mk.step_callv rfl 15 _ _ rfl (by kernel_rfl) fun a w' hb hw hf => ?_
              have e107 : a.tmps.getD 107 undef = .agg #[.slice bx (dX PP).length ex, .slice by' (dY PP).length ey, .int .i64 (dM PP), .int .i64 (dL PP), .string ⟨⟨dH PP⟩⟩, .string ⟨⟨dP PP⟩⟩, .int .i64 (dE PP)] := hf 23 107 (by kernel_rfl)
              show Calls Tryz.prog 15 #[a.tmps.getD 107 undef] w' _
              rw [e107]
              exact (unhide EN) w' hw.below0
            · refine Mk.step_callv rfl 13 _ _ rfl (by kernel_rfl) fun a w' hb hw hf => ?_
              have d105 := hf 21 105 (by kernel_rfl)
              have d108 := hf 24 108 (by kernel_rfl)
              show Calls Tryz.prog 13 #[a.tmps.getD 105 undef, a.tmps.getD 108 undef] w' _
              exact (unhide SM) w' _ _ PP d105 d108
            · refine Mk.step_pure rfl fun a ww hb hw hf => ?_
              have e96 : a.tmps[96]?.getD undef = .bool true := Mk.gdv (hf 12 96 (by kernel_rfl))
              have e109 : a.tmps[109]?.getD undef = .bool true := Mk.gdv (hf 25 109 (by kernel_rfl))
              exact ⟨.bool true, by simp [go_sem, e96, e109], rfl⟩
            · refine Mk.step_pure rfl fun a ww hb hw hf => ?_
              have e87 : a.tmps[87]?.getD undef = .bool false := Mk.gdv (hf 3 87 (by kernel_rfl))
              have e110 : a.tmps[110]?.getD undef = .bool true := Mk.gdv (hf 26 110 (by kernel_rfl))
              exact ⟨.bool true, by simp [go_sem, e87, e110], rfl⟩
            · refine Mk.step_pure rfl fun a ww hb hw hf => ?_
              have e111 : a.tmps[111]?.getD undef = .bool true := Mk.gdv (hf 27 111 (by kernel_rfl))
              exact ⟨.bool true, by simp [go_sem, e111], rfl⟩
          · intro i o ho A WW hf
            have hiN : i < 29 := (Array.getElem?_eq_some_iff.1 ho).1
            obtain rfl | rfl | rfl | rfl | rfl | rfl | rfl | rfl | rfl | rfl | rfl | rfl | rfl | rfl | rfl | rfl | rfl | rfl | rfl | rfl | rfl | rfl | rfl | rfl | rfl | rfl | rfl | rfl | rfl : i = 0 ∨ i = 1 ∨ i = 2 ∨ i = 3 ∨ i = 4 ∨ i = 5 ∨ i = 6 ∨ i = 7 ∨ i = 8 ∨ i = 9 ∨ i = 10 ∨ i = 11 ∨ i = 12 ∨ i = 13 ∨ i = 14 ∨ i = 15 ∨ i = 16 ∨ i = 17 ∨ i = 18 ∨ i = 19 ∨ i = 20 ∨ i = 21 ∨ i = 22 ∨ i = 23 ∨ i = 24 ∨ i = 25 ∨ i = 26 ∨ i = 27 ∨ i = 28 := by omega
            · cases ho; exact Mk.wanted_none rfl
            · cases ho; exact Mk.wanted_none rfl
            · cases ho; exact Mk.wanted_none rfl
            · cases ho; exact Mk.wanted_none rfl
            · cases ho; exact Mk.wanted_some rfl (by kernel_rfl) (hf 3 87 (by kernel_rfl))
            · cases ho; exact Mk.wanted_some rfl (by kernel_rfl) (hf 3 87 (by kernel_rfl))
            · cases ho; exact Mk.wanted_some rfl (by kernel_rfl) (hf 3 87 (by kernel_rfl))
            · cases ho; exact Mk.wanted_some rfl (by kernel_rfl) (hf 3 87 (by kernel_rfl))
            · cases ho; exact Mk.wanted_some rfl (by kernel_rfl) (hf 3 87 (by kernel_rfl))
            · cases ho; exact Mk.wanted_some rfl (by kernel_rfl) (hf 3 87 (by kernel_rfl))
            · cases ho; exact Mk.wanted_some rfl (by kernel_rfl) (hf 3 87 (by kernel_rfl))
            · cases ho; exact Mk.wanted_some rfl (by kernel_rfl) (hf 3 87 (by kernel_rfl))
            · cases ho; exact Mk.wanted_some rfl (by kernel_rfl) (hf 3 87 (by kernel_rfl))
            · cases ho; exact Mk.wanted_some rfl (by kernel_rfl) (hf 12 96 (by kernel_rfl))
            · cases ho; exact Mk.wanted_some rfl (by kernel_rfl) (hf 12 96 (by kernel_rfl))
            · cases ho; exact Mk.wanted_some rfl (by kernel_rfl) (hf 12 96 (by kernel_rfl))
            · cases ho; exact Mk.wanted_some rfl (by kernel_rfl) (hf 12 96 (by kernel_rfl))
            · cases ho; exact Mk.wanted_some rfl (by kernel_rfl) (hf 12 96 (by kernel_rfl))
            · cases ho; exact Mk.wanted_some rfl (by kernel_rfl) (hf 12 96 (by kernel_rfl))
            · cases ho; exact Mk.wanted_some rfl (by kernel_rfl) (hf 12 96 (by kernel_rfl))
            · cases ho; exact Mk.wanted_some rfl (by kernel_rfl) (hf 12 96 (by kernel_rfl))
            · cases ho; exact Mk.wanted_some rfl (by kernel_rfl) (hf 12 96 (by kernel_rfl))
            · cases ho; exact Mk.wanted_some rfl (by kernel_rfl) (hf 12 96 (by kernel_rfl))
            · cases ho; exact Mk.wanted_some rfl (by kernel_rfl) (hf 12 96 (by kernel_rfl))
            · cases ho; exact Mk.wanted_some rfl (by kernel_rfl) (hf 12 96 (by kernel_rfl))
            · cases ho; exact Mk.wanted_some rfl (by kernel_rfl) (hf 12 96 (by kernel_rfl))
            · cases ho; exact Mk.wanted_some rfl (by kernel_rfl) (hf 3 87 (by kernel_rfl))
            · cases ho; exact Mk.wanted_none rfl
            · cases ho; exact Mk.wanted_none rfl
          intro A wh hb' hw hF
          have e2 := hF 28 4 (by kernel_rfl)
          obtain ⟨vs, hvs⟩ : ∃ vs : Nat → Value, ∀ d, A.tmps.getD d undef = vs d := ⟨_, fun _ => rfl⟩
          rw [hvs] at e2
          rw [Mk.puts_guard (md := .any) (by kernel_rfl) rfl hb' vs hvs]
          clear hb' hF hvs
          have e3 : vs 4 = .bool true := e2
          clear e2
          simp only [Mk.puts, e3, Act.put, List.setIfInBounds_toArray, List.set_cons_succ, List.set_cons_zero]
          clear e3
          have FIN := hide (nxt N3 hw.below0)
          clear SL OP EN SM RG DKH dTT dS12 dT12 T14 hw
          go_wp2
          go_ret
          exact ⟨rfl, FIN.out⟩
      · skip
        have e1 : dsB (otP K TT) = false := by rw [TB.out.1]; exact decide_eq_false hf
        go_wp2_with fail
        refine OC.out.mono ?_
        rintro e w44 ⟨h44, n44⟩
        obtain ⟨bx, nx, ex, by', ny, ey, md', li', ho', pr', ea', rfl⟩ : ∃ bx nx ex by' ny ey md' li' ho' pr' ea', e = .returned (.agg #[.bool false, .slice bx nx ex, .slice by' ny ey, .int .i64 md', .int .i64 li', .string ho', .string pr', .int .i64 ea']) := by
          rcases h44 with ⟨-, x1, x2, md', li', ho', pr', ea', x8, x9, x10, x11, x12, x13, rfl, rfl, h⟩ | ⟨h, -⟩
          · exact ⟨_, _, _, _, _, _, _, _, _, _, _, h⟩
          · rw [h] at e1
            cases e1
        clear e1 h44
        replace S2 := S2.up n44
        replace T7 := T7.up n44
        replace DK := DK.up n44
        replace N2 := nxt N2 n44
        have nB : Below w44.heap.size w44 (w44.alloc (.cells #[.bool false, .slice bx nx ex, .slice by' ny ey, .int .i64 md', .int .i64 li', .string ho', .string pr', .int .i64 ea'] 30)) := (Below.refl _ _).alloc (Nat.le_refl _) _
        have T11 : RwC (w44.alloc (.cells #[.bool false, .slice bx nx ex, .slice by' ny ey, .int .i64 md', .int .i64 li', .string ho', .string pr', .int .i64 ea'] 30)) w44.heap.size [.bool false, .slice bx nx ex, .slice by' ny ey, .int .i64 md', .int .i64 li', .string ho', .string pr', .int .i64 ea'] 30 := RwC.new w44 _ _
        replace S2 := S2.up nB
        replace T7 := T7.up nB
        replace DK := DK.up nB
        replace N2 := nxt N2 nB
        obtain ⟨p11, hp11⟩ : ∃ q, q = w44.heap.size := ⟨_, rfl⟩
        rw [← hp11] at T11
        clear OC n44
        go_upto_region 8 with fail
        rw [← hp11]
        clear hp11 nB
        generalize w44.alloc (.cells #[.bool false, .slice bx nx ex, .slice by' ny ey, .int .i64 md', .int .i64 li', .string ho', .string pr', .int .i64 ea'] 30) = wa at *
        obtain ⟨sv, hsv⟩ : ∃ n, n = sfV X.length Y.length md li ho pr.length ea := ⟨_, rfl⟩
        have sv0 : decide (sv = 0) = false := decide_eq_false (by rw [hsv]; exact hf)
        have sv1 : (sv == 0) = false := beq_eq_false_iff_ne.2 (by rw [hsv]; exact hf)
        have sv2 : ¬ sv = 0 := by rw [hsv]; exact hf
        have CY : Hid (∀ W, Below wa.heap.size wa W → (W.cell? ⟨p7, 0, none⟩ = some (.slice ax X.length cx) ∧ W.cell? ⟨p7, 1, none⟩ = some (.slice ay Y.length cy) ∧ W.cell? ⟨p7, 2, none⟩ = some (.int .i64 md) ∧ W.cell? ⟨p7, 3, none⟩ = some (.int .i64 li) ∧ W.cell? ⟨p7, 4, none⟩ = some (.string ⟨⟨ho⟩⟩) ∧ W.cell? ⟨p7, 5, none⟩ = some (.string ⟨⟨pr⟩⟩) ∧ W.cell? ⟨p7, 6, none⟩ = some (.int .i64 ea) ∧ W.cell? ⟨p11, 0, none⟩ = some (.bool false) ∧ W.cell? ⟨p11, 1, none⟩ = some (.slice bx nx ex) ∧ W.cell? ⟨p11, 2, none⟩ = some (.slice by' ny ey) ∧ W.cell? ⟨p11, 3, none⟩ = some (.int .i64 md') ∧ W.cell? ⟨p11, 4, none⟩ = some (.int .i64 li') ∧ W.cell? ⟨p11, 5, none⟩ = some (.string ho') ∧ W.cell? ⟨p11, 6, none⟩ = some (.string pr') ∧ W.cell? ⟨p11, 7, none⟩ = some (.int .i64 ea'))) := fun W m => ⟨(T7.up m).cell 0, (T7.up m).cell 1, (T7.up m).cell 2, (T7.up m).cell 3, (T7.up m).cell 4, (T7.up m).cell 5, (T7.up m).cell 6, (T11.up m).cell 0, (T11.up m).cell 1, (T11.up m).cell 2, (T11.up m).cell 3, (T11.up m).cell 4, (T11.up m).cell 5, (T11.up m).cell 6, (T11.up m).cell 7⟩
        have SF : Hid (∀ W, Calls Tryz.prog 9 #[.agg #[.slice ax X.length cx, .slice ay Y.length cy, .int .i64 md, .int .i64 li, .string ⟨⟨ho⟩⟩, .string ⟨⟨pr⟩⟩, .int .i64 ea]] W fun e w' => e = .returned (.int .i64 sv) ∧ Below W.heap.size W w') := fun W => hsv ▸ specState_any W md li ho pr ea ax X.length cx ay Y.length cy hh hp
        have nd : Below wa.heap.size wa wa.drew := (Below.refl _ _).drew
        clear hsv hf
        obtain ⟨dT, hdT, hrowT⟩ := rowTs
        have lTi : ¬ (400 : Int) < (TT.length : Int) := by omega
        refine Mk.region_guardW (fun i => [true, true, true, true, true, true, true, true, true, true, false, false, false, false, false, true, true, true, true, true, true, true].getD i true) (fun i => [Mk.Fact.eq (.pointer (some ⟨p11, 0, none⟩)), Mk.Fact.eq (.bool false), Mk.Fact.eq (.agg #[.slice ax X.length cx, .slice ay Y.length cy, .int .i64 md, .int .i64 li, .string ⟨⟨ho⟩⟩, .string ⟨⟨pr⟩⟩, .int .i64 ea]), Mk.Fact.eq (.int .i64 sv), Mk.Fact.eq (.bool false), Mk.Fact.eq (.bool false), Mk.Fact.eq (.bool false), Mk.Fact.eq (.pointer (some ⟨p11, 0, none⟩)), Mk.Fact.eq (.bool false), Mk.Fact.eq (.bool false), Mk.Fact.eq undef, Mk.Fact.eq undef, Mk.Fact.eq undef, Mk.Fact.eq undef, Mk.Fact.eq undef, Mk.Fact.eq (.bool false), Mk.Fact.eq (.bool false), Mk.Fact.eq (.bool false), Mk.Fact.eq (.slice a39 TT.length c39), Mk.Fact.eq (.int .i64 (TT.length : Int)), Mk.Fact.eq (.bool false), Mk.Fact.eq (.bool false)].getD i Mk.Fact.no) (by kernel_rfl) (by kernel_rfl) ?_ ?_ ?_
        · intro i hi hwn
          have hiN : i < 22 := hi
          obtain rfl | rfl | rfl | rfl | rfl | rfl | rfl | rfl | rfl | rfl | rfl | rfl | rfl | rfl | rfl | rfl | rfl | rfl | rfl | rfl | rfl | rfl : i = 0 ∨ i = 1 ∨ i = 2 ∨ i = 3 ∨ i = 4 ∨ i = 5 ∨ i = 6 ∨ i = 7 ∨ i = 8 ∨ i = 9 ∨ i = 10 ∨ i = 11 ∨ i = 12 ∨ i = 13 ∨ i = 14 ∨ i = 15 ∨ i = 16 ∨ i = 17 ∨ i = 18 ∨ i = 19 ∨ i = 20 ∨ i = 21 := by omega
          · refine Mk.step_pure rfl fun a ww hb hw hf => ?_
            have e11 : a.tmps[11]?.getD undef = .pointer (some ⟨p11, 0, none⟩) := Mk.gdv (hb.2.2 11 (by kernel_rfl))
            exact ⟨.pointer (some ⟨p11, 0, none⟩), by simp [go_sem, e11], rfl⟩
          · refine Mk.step_pure rfl fun a ww hb hw hf => ?_
            have e45 : a.tmps[45]?.getD undef = .pointer (some ⟨p11, 0, none⟩) := Mk.gdv (hf 0 45 (by kernel_rfl))
            have hc := (T11.up hw.below0).c0
            exact ⟨.bool false, by simp [go_sem, e45, hc], rfl⟩
          · refine Mk.step_load rfl 24 (.tmp 7) rfl dT 7 hdT hrowT iTs fun a w' hb hw hf => ?_
            have e7 : a.tmps.getD 7 undef = .pointer (some ⟨p7, 0, none⟩) := hb.2.2 7 (by kernel_rfl)
            exact ⟨p7, 0, [.slice ax X.length cx, .slice ay Y.length cy, .int .i64 md, .int .i64 li, .string ⟨⟨ho⟩⟩, .string ⟨⟨pr⟩⟩, .int .i64 ea], e7, (T7.up hw.below0).rangeG, rfl, rfl⟩
          · refine Mk.step_callv rfl 9 _ _ rfl (by kernel_rfl) fun a ww hb hw hf => ?_
            have e47 : a.tmps.getD 47 undef = .agg #[.slice ax X.length cx, .slice ay Y.length cy, .int .i64 md, .int .i64 li, .string ⟨⟨ho⟩⟩, .string ⟨⟨pr⟩⟩, .int .i64 ea] := hf 2 47 (by kernel_rfl)
            show Calls Tryz.prog 9 #[a.tmps.getD 47 undef] ww _
            rw [e47]
            exact ((unhide SF) ww).mono (by rintro e w' ⟨rfl, n⟩; exact ⟨_, rfl, Mk.Gm.of_below n, rfl⟩)
          · refine Mk.step_pure rfl fun a ww hb hw hf => ?_
            have e48 : a.tmps[48]?.getD undef = .int .i64 sv := Mk.gdv (hf 3 48 (by kernel_rfl))
            exact ⟨.bool false, by simp [go_sem, e48, sv1], rfl⟩
          · refine Mk.step_pure rfl fun a ww hb hw hf => ?_
            have e46 : a.tmps[46]?.getD undef = .bool false := Mk.gdv (hf 1 46 (by kernel_rfl))
            have e49 : a.tmps[49]?.getD undef = .bool false := Mk.gdv (hf 4 49 (by kernel_rfl))
            exact ⟨.bool false, by simp [go_sem, e46, e49], rfl⟩
          · refine Mk.step_pure rfl fun a ww hb hw hf => ?_
            have e50 : a.tmps[50]?.getD undef = .bool false := Mk.gdv (hf 5 50 (by kernel_rfl))
            exact ⟨.bool false, by simp [go_sem, e50], rfl⟩
          · refine Mk.step_pure rfl fun a ww hb hw hf => ?_
            have e11 : a.tmps[11]?.getD undef = .pointer (some ⟨p11, 0, none⟩) := Mk.gdv (hb.2.2 11 (by kernel_rfl))
            exact ⟨.pointer (some ⟨p11, 0, none⟩), by simp [go_sem, e11], rfl⟩
          · refine Mk.step_pure rfl fun a ww hb hw hf => ?_
            have e52 : a.tmps[52]?.getD undef = .pointer (some ⟨p11, 0, none⟩) := Mk.gdv (hf 7 52 (by kernel_rfl))
            have hc := (T11.up hw.below0).c0
            exact ⟨.bool false, by simp [go_sem, e52, hc], rfl⟩
          · refine Mk.step_pure rfl fun a ww hb hw hf => ?_
            have e53 : a.tmps[53]?.getD undef = .bool false := Mk.gdv (hf 8 53 (by kernel_rfl))
            exact ⟨.bool false, by simp [go_sem, e53], rfl⟩
          · exact absurd hwn (by decide)
          · exact absurd hwn (by decide)
          · exact absurd hwn (by decide)
          · exact absurd hwn (by decide)
          · exact absurd hwn (by decide)
          · refine Mk.step_pure rfl fun a w' hb hw hf => ?_
            have e54 : a.tmps[54]?.getD undef = .bool false := Mk.gdv (hf 9 54 (by kernel_rfl))
            exact ⟨.bool false, by simp [go_sem, e54], rfl⟩
          · refine Mk.step_pure rfl fun a ww hb hw hf => ?_
            have e51 : a.tmps[51]?.getD undef = .bool false := Mk.gdv (hf 6 51 (by kernel_rfl))
            have e60 : a.tmps[60]?.getD undef = .bool false := Mk.gdv (hf 15 60 (by kernel_rfl))
            exact ⟨.bool false, by simp [go_sem, e51, e60], rfl⟩
          · refine Mk.step_pure rfl fun a ww hb hw hf => ?_
            have e61 : a.tmps[61]?.getD undef = .bool false := Mk.gdv (hf 16 61 (by kernel_rfl))
            exact ⟨.bool false, by simp [go_sem, e61], rfl⟩
          · refine Mk.step_pure rfl fun a ww hb hw hf => ?_
            have e10 : a.tmps[10]?.getD undef = .slice a39 TT.length c39 := Mk.gdv (hb.2.2 10 (by kernel_rfl))
            exact ⟨.slice a39 TT.length c39, by simp [go_sem, e10], rfl⟩
          · refine Mk.step_pure rfl fun a ww hb hw hf => ?_
            have e63 : a.tmps[63]?.getD undef = .slice a39 TT.length c39 := Mk.gdv (hf 18 63 (by kernel_rfl))
            exact ⟨.int .i64 (TT.length : Int), by simp [go_sem, e63], rfl⟩
          · refine Mk.step_pure rfl fun a ww hb hw hf => ?_
            have e64 : a.tmps[64]?.getD undef = .int .i64 (TT.length : Int) := Mk.gdv (hf 19 64 (by kernel_rfl))
            exact ⟨.bool false, by simp [go_sem, e64, lTi], rfl⟩
          · refine Mk.step_pure rfl fun a ww hb hw hf => ?_
            have e62 : a.tmps[62]?.getD undef = .bool false := Mk.gdv (hf 17 62 (by kernel_rfl))
            have e65 : a.tmps[65]?.getD undef = .bool false := Mk.gdv (hf 20 65 (by kernel_rfl))
            exact ⟨.bool false, by simp [go_sem, e62, e65], rfl⟩
        · intro i o ho A WW hf
          have hiN : i < 22 := (Array.getElem?_eq_some_iff.1 ho).1
          obtain rfl | rfl | rfl | rfl | rfl | rfl | rfl | rfl | rfl | rfl | rfl | rfl | rfl | rfl | rfl | rfl | rfl | rfl | rfl | rfl | rfl | rfl : i = 0 ∨ i = 1 ∨ i = 2 ∨ i = 3 ∨ i = 4 ∨ i = 5 ∨ i = 6 ∨ i = 7 ∨ i = 8 ∨ i = 9 ∨ i = 10 ∨ i = 11 ∨ i = 12 ∨ i = 13 ∨ i = 14 ∨ i = 15 ∨ i = 16 ∨ i = 17 ∨ i = 18 ∨ i = 19 ∨ i = 20 ∨ i = 21 := by omega
          · cases ho; exact .inl ⟨rfl, Mk.wanted_none rfl⟩
          · cases ho; exact .inl ⟨rfl, Mk.wanted_none rfl⟩
          · cases ho; exact .inl ⟨rfl, Mk.wanted_none rfl⟩
          · cases ho; exact .inl ⟨rfl, Mk.wanted_none rfl⟩
          · cases ho; exact .inl ⟨rfl, Mk.wanted_none rfl⟩
          · cases ho; exact .inl ⟨rfl, Mk.wanted_none rfl⟩
          · cases ho; exact .inl ⟨rfl, Mk.wanted_none rfl⟩
          · cases ho; exact .inl ⟨rfl, Mk.wanted_some rfl (by kernel_rfl) (hf 6 51 (by kernel_rfl))⟩
          · cases ho; exact .inl ⟨rfl, Mk.wanted_some rfl (by kernel_rfl) (hf 6 51 (by kernel_rfl))⟩
          · cases ho; exact .inl ⟨rfl, Mk.wanted_some rfl (by kernel_rfl) (hf 6 51 (by kernel_rfl))⟩
          · cases ho; exact .inr ⟨Mk.wanted_off rfl (by kernel_rfl) (hf 9 54 (by kernel_rfl)) (by decide), rfl⟩
          · cases ho; exact .inr ⟨Mk.wanted_off rfl (by kernel_rfl) (hf 9 54 (by kernel_rfl)) (by decide), rfl⟩
          · cases ho; exact .inr ⟨Mk.wanted_off rfl (by kernel_rfl) (hf 9 54 (by kernel_rfl)) (by decide), rfl⟩
          · cases ho; exact .inr ⟨Mk.wanted_off rfl (by kernel_rfl) (hf 9 54 (by kernel_rfl)) (by decide), rfl⟩
          · cases ho; exact .inr ⟨Mk.wanted_off rfl (by kernel_rfl) (hf 9 54 (by kernel_rfl)) (by decide), rfl⟩
          · cases ho; exact .inl ⟨rfl, Mk.wanted_some rfl (by kernel_rfl) (hf 6 51 (by kernel_rfl))⟩
          · cases ho; exact .inl ⟨rfl, Mk.wanted_none rfl⟩
          · cases ho; exact .inl ⟨rfl, Mk.wanted_none rfl⟩
          · cases ho; exact .inl ⟨rfl, Mk.wanted_some rfl (by kernel_rfl) (hf 17 62 (by kernel_rfl))⟩
          · cases ho; exact .inl ⟨rfl, Mk.wanted_some rfl (by kernel_rfl) (hf 17 62 (by kernel_rfl))⟩
          · cases ho; exact .inl ⟨rfl, Mk.wanted_some rfl (by kernel_rfl) (hf 17 62 (by kernel_rfl))⟩
          · cases ho; exact .inl ⟨rfl, Mk.wanted_none rfl⟩
        intro A wb hb' hw hF
        have e2 := hF 21 66 (by kernel_rfl)
        obtain ⟨vs, hvs⟩ : ∃ vs : Nat → Value, ∀ d, A.tmps.getD d undef = vs d := ⟨_, fun _ => rfl⟩
        rw [hvs] at e2
        rw [Mk.puts_guard (md := .any) (by kernel_rfl) rfl hb' vs hvs]
        clear hb' hF hvs
        have e3 : vs 66 = .bool false := e2
        clear e2
        simp only [Mk.puts, e3, Act.put, List.setIfInBounds_toArray, List.set_cons_succ, List.set_cons_zero]
        clear e3
        have NX := nxt N2 hw.below0
        clear N2 hw T7 T11 S2 DK CY SF nd
        have DO := hide (drawOpenTicket_any wb g1 a1 c1 X1 (hX1.up NX) bX1 q1)
        go_wp2_with fail
        refine DO.out.mono ?_
        rintro e wc ⟨vK, vT, rfl, ⟨KK, TK, RK, RT, bKK, bTK, lKK, lTK⟩, nc⟩
        have N3 := nxt NX nc
        have dK := DR.ofRow RK
        have dT2 := DR.ofRow RT
        obtain ⟨aT, cT, gT, rfl, rT, zT, kT⟩ := dT2
        have dT2 : DR wc (.slice aT TK.length cT) TK := ⟨aT, cT, gT, rfl, rT, zT, kT⟩
        obtain ⟨aK, cK, gK, rfl, rK, zK, kK⟩ := dK
        have dK : DR wc (.slice aK KK.length cK) KK := ⟨aK, cK, gK, rfl, rK, zK, kK⟩
        clear DO nc NX RK RT rK
        have CK := hide (copyC wc _ KK dK (by omega))
        go_wp2_with fail
        refine CK.out.mono ?_
        rintro e wd ⟨vd, rfl, Dd, nd1⟩
        replace dK := dK.up nd1
        replace dT2 := dT2.up nd1
        replace rT := rT.up nd1
        replace N3 := nxt N3 nd1
        have CT := hide (copyC wd _ TK dT2 (by omega))
        clear CK nd1
        go_wp2_with fail
        refine CT.out.mono ?_
        rintro e we ⟨ve, rfl, De, ne1⟩
        replace dK := dK.up ne1
        replace dT2 := dT2.up ne1
        replace rT := rT.up ne1
        replace Dd := Dd.up ne1
        replace N3 := nxt N3 ne1
        have OC := hide (otC we vd ve KK TK Dd De bKK bTK (by omega) (otP_byt bTK))
        clear CT ne1 Dd De
        have TS := hide (fun h => ticket_sealed (key := KK) bTK h)
        have SO2 := hide (fun W d1 d2 => specOtC W (.slice aK KK.length cK) (.slice aT TK.length cT) KK TK d1 d2 bKK bTK (by omega) (otP_byt bTK))
        obtain ⟨PP, hPP⟩ : ∃ l, l = otP KK TK := ⟨_, rfl⟩
        rw [← hPP] at OC TS SO2
        have bPP : Hid (Byt PP) := by show Byt _; rw [hPP]; exact otP_byt bTK
        clear hPP
        cases gd : dsB PP with
        | false =>
          go_wp2_with fail
          refine OC.out.mono ?_
          rintro e wf ⟨hf, nf⟩
          obtain ⟨bx, nx, ex, by', ny, ey, md', li', ho', pr', ea', rfl⟩ : ∃ bx nx ex by' ny ey md' li' ho' pr' ea', e = .returned (.agg #[.bool false, .slice bx nx ex, .slice by' ny ey, .int .i64 md', .int .i64 li', .string ho', .string pr', .int .i64 ea']) := by
            rcases hf with ⟨-, x1, x2, md', li', ho', pr', ea', x8, x9, x10, x11, x12, x13, rfl, rfl, h⟩ | ⟨h, -⟩
            · exact ⟨_, _, _, _, _, _, _, _, _, _, _, h⟩
            · rw [h] at gd
              cases gd
          clear hf
          have nB : Below wf.heap.size wf (wf.alloc (.cells #[.bool false, .slice bx nx ex, .slice by' ny ey, .int .i64 md', .int .i64 li', .string ho', .string pr', .int .i64 ea'] 30)) := (Below.refl _ _).alloc (Nat.le_refl _) _
          have T14 : RwC (wf.alloc (.cells #[.bool false, .slice bx nx ex, .slice by' ny ey, .int .i64 md', .int .i64 li', .string ho', .string pr', .int .i64 ea'] 30)) wf.heap.size [.bool false, .slice bx nx ex, .slice by' ny ey, .int .i64 md', .int .i64 li', .string ho', .string pr', .int .i64 ea'] 30 := RwC.new wf _ _
          replace dK := (dK.up nf).up nB
          replace dT2 := (dT2.up nf).up nB
          replace rT := (rT.up nf).up nB
          replace N3 := nxt (nxt N3 nf) nB
          obtain ⟨p14, hp14⟩ : ∃ q, q = wf.heap.size := ⟨_, rfl⟩
          rw [← hp14] at T14
          clear OC nf
          go_upto_region 12 with fail
          rw [← hp14]
          clear hp14 nB
          generalize wf.alloc (.cells #[.bool false, .slice bx nx ex, .slice by' ny ey, .int .i64 md', .int .i64 li', .string ho', .string pr', .int .i64 ea'] 30) = wa2 at *
          have SP : Hid (∀ W, Below wa2.heap.size wa2 W → Calls Tryz.prog 12 #[.slice aK KK.length cK, .slice aT TK.length cT] W fun e w' => ∃ v, e = .returned v ∧ Below W.heap.size W w' ∧ ∃ v1 v2 v3 v4 v5 v6 v7, v = .agg #[.bool false, v1, v2, v3, v4, v5, v6, v7]) := fun W m => (SO2.out W (dK.up m) (dT2.up m)).mono (by
            rintro e w' ⟨h, n⟩
            rcases h with ⟨h, x1, x2, md', li', ho', pr', ea', x8, x9, x10, x11, x12, x13, rfl, rfl, rfl⟩ | ⟨h, bx, ex, by', ey, rfl, -⟩
            · exact ⟨_, rfl, n, _, _, _, _, _, _, _, rfl⟩
            · rw [h] at gd; cases gd)
          refine region_end 7 (fun i => [Fact.eq (.pointer (some ⟨p14, 0, none⟩)), Fact.eq (.bool false), Fact.eq (.slice aK KK.length cK), Fact.eq (.slice aT TK.length cT), (⟨fun v _ => ∃ v1 v2 v3 v4 v5 v6 v7, v = .agg #[.bool false, v1, v2, v3, v4, v5, v6, v7], fun _ h => h⟩ : Fact), Fact.eq (.bool false), Fact.eq (.bool false)].getD i Fact.no) (by kernel_rfl) (by kernel_rfl) rfl ?_ ?_
          · intro i hi
            obtain rfl | rfl | rfl | rfl | rfl | rfl | rfl : i = 0 ∨ i = 1 ∨ i = 2 ∨ i = 3 ∨ i = 4 ∨ i = 5 ∨ i = 6 := by omega
            · refine step_pure rfl fun a ww hb hw hf => ?_
              have e14 : a.tmps[14]?.getD undef = .pointer (some ⟨p14, 0, none⟩) := gdv (hb.2.2 14 (by kernel_rfl))
              exact ⟨.pointer (some ⟨p14, 0, none⟩), by simp [go_sem, e14], rfl⟩
            · refine step_pure rfl fun a ww hb hw hf => ?_
              have e77 : a.tmps[77]?.getD undef = .pointer (some ⟨p14, 0, none⟩) := gdv (hf 0 77 (by kernel_rfl))
              have hc := (T14.up hw).c0
              exact ⟨.bool false, by simp [go_sem, e77, hc], rfl⟩
            · refine step_pure rfl fun a ww hb hw hf => ?_
              have e12 : a.tmps[12]?.getD undef = .slice aK KK.length cK := gdv (hb.2.2 12 (by kernel_rfl))
              exact ⟨.slice aK KK.length cK, by simp [go_sem, e12], rfl⟩
            · refine step_pure rfl fun a ww hb hw hf => ?_
              have e13 : a.tmps[13]?.getD undef = .slice aT TK.length cT := gdv (hb.2.2 13 (by kernel_rfl))
              exact ⟨.slice aT TK.length cT, by simp [go_sem, e13], rfl⟩
            · refine step_callv rfl 12 _ _ rfl (by kernel_rfl) fun a w' hb hw hf => ?_
              have e1 : a.tmps.getD 79 undef = .slice aK KK.length cK := hf 2 79 (by kernel_rfl)
              have e2 : a.tmps.getD 80 undef = .slice aT TK.length cT := hf 3 80 (by kernel_rfl)
              show Calls Tryz.prog 12 #[a.tmps.getD 79 undef, a.tmps.getD 80 undef] w' _
              rw [e1, e2]
              exact (unhide SP) w' hw
            · refine step_pure rfl fun a w' hb hw hf => ?_
              obtain ⟨v1, v2, v3, v4, v5, v6, v7, e1⟩ := hf 4 81 (by kernel_rfl)
              have e1 := gdv e1
              have h1 := fdSr false v1 v2 v3 v4 v5 v6 v7 w'
              exact ⟨.bool false, by simp [go_sem, e1, h1], rfl⟩
            · refine step_pure rfl fun a ww hb hw hf => ?_
              have e78 : a.tmps[78]?.getD undef = .bool false := gdv (hf 1 78 (by kernel_rfl))
              have e82 : a.tmps[82]?.getD undef = .bool false := gdv (hf 5 82 (by kernel_rfl))
              exact ⟨.bool false, by simp [go_sem, e78, e82], rfl⟩
          intro A wg hb' hw hF
          have e2 := hF 6 83 (by kernel_rfl)
          obtain ⟨vs, hvs⟩ : ∃ vs : Nat → Value, ∀ d, A.tmps.getD d undef = vs d := ⟨_, fun _ => rfl⟩
          rw [hvs] at e2
          rw [puts_of (md := .any) (k := 7) (by kernel_rfl) rfl hb' vs hvs]
          clear hb' hF hvs
          have e3 : vs 83 = .bool false := e2
          clear e2
          simp only [puts, e3, Act.put, List.setIfInBounds_toArray, List.set_cons_succ, List.set_cons_zero]
          clear e3
          replace N3 := nxt N3 hw
          replace T14 := T14.up hw
          have x0 := T14.c0
          clear SP SO2 TS dK dT2 rT hw T14
          go_wp2
          go_quiet (fail)
          go_wp2
          go_ret
          exact ⟨rfl, below_drewN N3 _⟩
        | true =>
          go_wp2_with fail
          refine OC.out.mono ?_
          rintro e wf ⟨hf, nf⟩
          obtain ⟨bx, ex, by', ey, rfl, SO⟩ : ∃ bx ex by' ey, e = .returned (.agg #[.bool true, .slice bx (dX PP).length ex, .slice by' (dY PP).length ey, .int .i64 (dM PP), .int .i64 (dL PP), .string ⟨⟨dH PP⟩⟩, .string ⟨⟨dP PP⟩⟩, .int .i64 (dE PP)]) ∧ SD wf bx ex (dX PP) by' ey (dY PP) := by
            rcases hf with ⟨h, -⟩ | ⟨-, bx, ex, by', ey, h1, h2⟩
            · rw [h] at gd
              cases gd
            · exact ⟨bx, ex, by', ey, h1, h2⟩
          clear hf
          have nB : Below wf.heap.size wf (wf.alloc (.cells #[.bool true, .slice bx (dX PP).length ex, .slice by' (dY PP).length ey, .int .i64 (dM PP), .int .i64 (dL PP), .string ⟨⟨dH PP⟩⟩, .string ⟨⟨dP PP⟩⟩, .int .i64 (dE PP)] 30)) := (Below.refl _ _).alloc (Nat.le_refl _) _
          have T14 : RwC (wf.alloc (.cells #[.bool true, .slice bx (dX PP).length ex, .slice by' (dY PP).length ey, .int .i64 (dM PP), .int .i64 (dL PP), .string ⟨⟨dH PP⟩⟩, .string ⟨⟨dP PP⟩⟩, .int .i64 (dE PP)] 30)) wf.heap.size [.bool true, .slice bx (dX PP).length ex, .slice by' (dY PP).length ey, .int .i64 (dM PP), .int .i64 (dL PP), .string ⟨⟨dH PP⟩⟩, .string ⟨⟨dP PP⟩⟩, .int .i64 (dE PP)] 30 := RwC.new wf _ _
          replace dK := (dK.up nf).up nB
          replace dT2 := (dT2.up nf).up nB
          replace rT := (rT.up nf).up nB
          replace N3 := nxt (nxt N3 nf) nB
          replace SO := SO.up nB
          obtain ⟨p14, hp14⟩ : ∃ q, q = wf.heap.size := ⟨_, rfl⟩
          rw [← hp14] at T14
          clear OC nf
          go_upto_region 12 with fail
          rw [← hp14]
          clear hp14 nB
          generalize wf.alloc (.cells #[.bool true, .slice bx (dX PP).length ex, .slice by' (dY PP).length ey, .int .i64 (dM PP), .int .i64 (dL PP), .string ⟨⟨dH PP⟩⟩, .string ⟨⟨dP PP⟩⟩, .int .i64 (dE PP)] 30) = wa2 at *
          have SP : Hid (∀ W, Below wa2.heap.size wa2 W → Calls Tryz.prog 12 #[.slice aK KK.length cK, .slice aT TK.length cT] W fun e w' => ∃ v, e = .returned v ∧ Below W.heap.size W w' ∧ ∃ v1 v2 v3 v4 v5 v6 v7, v = .agg #[.bool true, v1, v2, v3, v4, v5, v6, v7]) := fun W m => (SO2.out W (dK.up m) (dT2.up m)).mono (by
            rintro e w' ⟨h, n⟩
            rcases h with ⟨h, x1, x2, md', li', ho', pr', ea', x8, x9, x10, x11, x12, x13, rfl, rfl, rfl⟩ | ⟨h, bx, ex, by', ey, rfl, -⟩
            · rw [h] at gd; cases gd
            · exact ⟨_, rfl, n, _, _, _, _, _, _, _, rfl⟩)
          refine region_end 7 (fun i => [Fact.eq (.pointer (some ⟨p14, 0, none⟩)), Fact.eq (.bool true), Fact.eq (.slice aK KK.length cK), Fact.eq (.slice aT TK.length cT), (⟨fun v _ => ∃ v1 v2 v3 v4 v5 v6 v7, v = .agg #[.bool true, v1, v2, v3, v4, v5, v6, v7], fun _ h => h⟩ : Fact), Fact.eq (.bool true), Fact.eq (.bool false)].getD i Fact.no) (by kernel_rfl) (by kernel_rfl) rfl ?_ ?_
          · intro i hi
            obtain rfl | rfl | rfl | rfl | rfl | rfl | rfl : i = 0 ∨ i = 1 ∨ i = 2 ∨ i = 3 ∨ i = 4 ∨ i = 5 ∨ i = 6 := by omega
            · refine step_pure rfl fun a ww hb hw hf => ?_
              have e14 : a.tmps[14]?.getD undef = .pointer (some ⟨p14, 0, none⟩) := gdv (hb.2.2 14 (by kernel_rfl))
              exact ⟨.pointer (some ⟨p14, 0, none⟩), by simp [go_sem, e14], rfl⟩
            · refine step_pure rfl fun a ww hb hw hf => ?_
              have e77 : a.tmps[77]?.getD undef = .pointer (some ⟨p14, 0, none⟩) := gdv (hf 0 77 (by kernel_rfl))
              have hc := (T14.up hw).c0
              exact ⟨.bool true, by simp [go_sem, e77, hc], rfl⟩
            · refine step_pure rfl fun a ww hb hw hf => ?_
              have e12 : a.tmps[12]?.getD undef = .slice aK KK.length cK := gdv (hb.2.2 12 (by kernel_rfl))
              exact ⟨.slice aK KK.length cK, by simp [go_sem, e12], rfl⟩
            · refine step_pure rfl fun a ww hb hw hf => ?_
              have e13 : a.tmps[13]?.getD undef = .slice aT TK.length cT := gdv (hb.2.2 13 (by kernel_rfl))
              exact ⟨.slice aT TK.length cT, by simp [go_sem, e13], rfl⟩
            · refine step_callv rfl 12 _ _ rfl (by kernel_rfl) fun a w' hb hw hf => ?_
              have e1 : a.tmps.getD 79 undef = .slice aK KK.length cK := hf 2 79 (by kernel_rfl)
              have e2 : a.tmps.getD 80 undef = .slice aT TK.length cT := hf 3 80 (by kernel_rfl)
              show Calls Tryz.prog 12 #[a.tmps.getD 79 undef, a.tmps.getD 80 undef] w' _
              rw [e1, e2]
              exact (unhide SP) w' hw
            · refine step_pure rfl fun a w' hb hw hf => ?_
              obtain ⟨v1, v2, v3, v4, v5, v6, v7, e1⟩ := hf 4 81 (by kernel_rfl)
              have e1 := gdv e1
              have h1 := fdSr true v1 v2 v3 v4 v5 v6 v7 w'
              exact ⟨.bool true, by simp [go_sem, e1, h1], rfl⟩
            · refine step_pure rfl fun a ww hb hw hf => ?_
              have e78 : a.tmps[78]?.getD undef = .bool true := gdv (hf 1 78 (by kernel_rfl))
              have e82 : a.tmps[82]?.getD undef = .bool true := gdv (hf 5 82 (by kernel_rfl))
              exact ⟨.bool false, by simp [go_sem, e78, e82], rfl⟩
          intro A wg hb' hw hF
          have e2 := hF 6 83 (by kernel_rfl)
          obtain ⟨vs, hvs⟩ : ∃ vs : Nat → Value, ∀ d, A.tmps.getD d undef = vs d := ⟨_, fun _ => rfl⟩
          rw [hvs] at e2
          rw [puts_of (md := .any) (k := 7) (by kernel_rfl) rfl hb' vs hvs]
          clear hb' hF hvs
          have e3 : vs 83 = .bool false := e2
          clear e2
          simp only [puts, e3, Act.put, List.setIfInBounds_toArray, List.set_cons_succ, List.set_cons_zero]
          clear e3
          replace N3 := nxt N3 hw
          replace T14 := T14.up hw
          obtain ⟨h12, -, hO, hPo, hSl, hEs⟩ := TS.out gd
          have l28 : 28 ≤ TK.length := by
            rcases Nat.lt_or_ge (otS TK).length 16 with h | h
            · have := open_short (key := KK) (non := otN TK) (ex := tkM) (M := otS TK) h
              rw [hO] at this
              cases this
            · unfold otS at h
              rw [List.length_drop] at h
              omega
          have lN : Hid ((otN TK).length = 12) := by show _ = _; unfold otN; rw [List.length_take]; omega
          have lS : Hid ((otS TK).length = TK.length - 12) := by show _ = _; unfold otS; rw [List.length_drop]
          replace dK := dK.up hw
          replace rT := rT.up hw
          replace SO := SO.up hw
          obtain ⟨oT, eT, -⟩ := id rT (by omega)
          subst eT
          have hc1 : ¬ (cT = 12) := by omega
          have hc2 : (12 : Int) ≤ (cT : Int) := by omega
          have hc3 : (12 : Int) ≤ (TK.length : Int) := by omega
          have bN2 : Byt (otN TK) := byt_takeT bTK 12
          have bS2 : Byt (otS TK) := byt_dropT bTK 12
          have lhh : (dH PP).length ≤ 1048576 := by rw [dH_len]; have := (dn1_is bPP.out).2; omega
          have lpp : (dP PP).length ≤ 1048576 := by rw [dP_len]; have := (dn2_is bPP.out).2; omega
          have dT12 : Hid (∀ W, Below wg.heap.size wg W → DR W (.slice (some ⟨gT, oT, none⟩) 12 cT) (otN TK)) := fun W m => ⟨some ⟨gT, oT, none⟩, cT, gT, by rw [lN.out], (rT.up m).takeA 12, (fun h => nomatch h), by rw [lN.out]; omega⟩
          have dS12 : Hid (∀ W, Below wg.heap.size wg W → DR W (.slice (some ⟨gT, oT + 12, none⟩) (TK.length - 12) (cT - 12)) (otS TK)) := fun W m => ⟨some ⟨gT, oT + 12, none⟩, cT - 12, gT, by rw [lS.out], by
            obtain ⟨o, eo, r⟩ := (rT.up m).dropA 12 (by omega)
            simp only [Option.some.injEq, Addr.mk.injEq, and_true, true_and] at eo
            subst eo
            exact r, (fun h => nomatch h), by rw [lS.out]; omega⟩
          have dTT : Hid (∀ W, Below wg.heap.size wg W → DR W (.slice (some ⟨gT, oT, none⟩) TK.length cT) TK) := fun W m => ⟨some ⟨gT, oT, none⟩, cT, gT, rfl, rT.up m, (fun h => nomatch h), kT⟩
          replace T14 := T14
          have SL : Hid (∀ W va vb, Below wg.heap.size wg W → DR W va KK → DR W vb (otN TK) → Calls Tryz.prog 6 #[va, vb, .agg #[.slice bx (dX PP).length ex, .slice by' (dY PP).length ey, .int .i64 (dM PP), .int .i64 (dL PP), .string ⟨⟨dH PP⟩⟩, .string ⟨⟨dP PP⟩⟩, .int .i64 (dE PP)]] W fun e w' => ∃ v, e = .returned v ∧ Mk.Gm wg.heap.size W w' ∧ DR w' v TK) := fun W va vb m h1 h2 => by
            have h := slC W va vb KK (otN TK) h1 h2 bKK bN2 (dM PP) (dL PP) (dH PP) (dP PP) (dE PP) bx ex (dX PP) by' ey (dY PP) (SO.up m) lhh lpp
            rw [hEs, hSl] at h
            exact h.mono (by rintro e w' ⟨v, rfl, d, n⟩; exact ⟨v, rfl, Mk.Gm.of_below n, d⟩)
          have OP : Hid (∀ W va vb vc vd, Below wg.heap.size wg W → DR W va KK → DR W vb (otN TK) → DR W vc tkM → DR W vd (otS TK) → Calls Tryz.prog 14 #[va, vb, vc, vd] W fun e w' => ∃ v, e = .returned v ∧ Mk.Gm wg.heap.size W w' ∧ ∃ v', v = .agg #[.bool true, v'] ∧ DR w' v' PP) := fun W va vb vc vd m h1 h2 h3 h4 => by
            refine (openC W va vb vc vd KK (otN TK) tkM (otS TK) h1 h2 h3 h4 bKK bN2 tkM_byt bS2 (by rw [lS.out]; show 6 + _ ≤ _; omega)).mono ?_
            rintro e w' ⟨v, rfl, d, n⟩
            rw [hO]
            rw [← hPo] at d
            exact ⟨_, rfl, Mk.Gm.of_below n, v, rfl, d⟩
          have EN : Hid (∀ W, Below wg.heap.size wg W → Calls Tryz.prog 15 #[.agg #[.slice bx (dX PP).length ex, .slice by' (dY PP).length ey, .int .i64 (dM PP), .int .i64 (dL PP), .string ⟨⟨dH PP⟩⟩, .string ⟨⟨dP PP⟩⟩, .int .i64 (dE PP)]] W fun e w' => ∃ v, e = .returned v ∧ Mk.Gm wg.heap.size W w' ∧ DR w' v PP) := fun W m => by
            have h := enC W (dM PP) (dL PP) (dH PP) (dP PP) (dE PP) bx ex (dX PP) by' ey (dY PP) (SO.up m) lhh lpp
            rw [hEs] at h
            exact h.mono (by rintro e w' ⟨v, rfl, d, n⟩; exact ⟨v, rfl, Mk.Gm.of_below n, d⟩)
          have SM : Hid (∀ W va vb zs, DR W va zs → DR W vb zs → Calls Tryz.prog 13 #[va, vb] W fun e w' => ∃ v, e = .returned v ∧ Mk.Gm wg.heap.size W w' ∧ v = .bool true) := fun W va vb zs h1 h2 => (sameC W va vb zs h1 h2).mono (by rintro e w' ⟨rfl, rfl⟩; exact ⟨_, rfl, Mk.Gm.refl _ _, rfl⟩)
          have RG : Hid (∀ W, Mk.Gm wg.heap.size wg W → W.rangeAt p14 1 [.slice bx (dX PP).length ex, .slice by' (dY PP).length ey, .int .i64 (dM PP), .int .i64 (dL PP), .string ⟨⟨dH PP⟩⟩, .string ⟨⟨dP PP⟩⟩, .int .i64 (dE PP)]) := fun W m => (rangeAt_tail ((T14.up m.below0).rangeG))
          have DKH := hide (fun W (m : Mk.Gm wg.heap.size wg W) => dK.up m.below0)
          obtain ⟨dSt, hdSt, hrowSt⟩ := rowTs
          clear SP SO2 TS dK dT2 SO hEs hSl hPo hO bKK bTK bN2 bS2 lhh lpp hw rT
          go_upto_region 14 with fail
          refine Mk.region_guard (fun i => [Mk.Fact.eq (.pointer (some ⟨p14, 0, none⟩)), Mk.Fact.eq (.bool true), Mk.Fact.eq (.bool false), Mk.Fact.eq (.bool false), Mk.Fact.eq (.slice aK KK.length cK), Mk.Fact.eq (.slice (some ⟨gT, oT, none⟩) TK.length cT), Mk.Fact.eq (.slice (some ⟨gT, oT, none⟩) 12 cT), Mk.Fact.eq (.pointer (some ⟨p14, 1, none⟩)), Mk.Fact.eq (.agg #[.slice bx (dX PP).length ex, .slice by' (dY PP).length ey, .int .i64 (dM PP), .int .i64 (dL PP), .string ⟨⟨dH PP⟩⟩, .string ⟨⟨dP PP⟩⟩, .int .i64 (dE PP)]), Mk.DrF TK, Mk.Fact.eq (.slice (some ⟨gT, oT, none⟩) TK.length cT), Mk.Fact.eq (.bool true), Mk.Fact.eq (.bool true), Mk.Fact.eq (.slice aK KK.length cK), Mk.Fact.eq (.slice (some ⟨gT, oT, none⟩) TK.length cT), Mk.Fact.eq (.slice (some ⟨gT, oT, none⟩) 12 cT), Mk.LitF wg.heap.size tkM, Mk.DrF tkM, Mk.Fact.eq (.slice (some ⟨gT, oT, none⟩) TK.length cT), Mk.Fact.eq (.slice (some ⟨gT, oT + 12, none⟩) (TK.length - 12) (cT - 12)), OpnF PP, Mk.DrF PP, Mk.Fact.eq (.pointer (some ⟨p14, 1, none⟩)), Mk.Fact.eq (.agg #[.slice bx (dX PP).length ex, .slice by' (dY PP).length ey, .int .i64 (dM PP), .int .i64 (dL PP), .string ⟨⟨dH PP⟩⟩, .string ⟨⟨dP PP⟩⟩, .int .i64 (dE PP)]), Mk.DrF PP, Mk.Fact.eq (.bool true), Mk.Fact.eq (.bool true), Mk.Fact.eq (.bool true), Mk.Fact.eq (.bool true)].getD i Mk.Fact.no) (by kernel_rfl) (by kernel_rfl) ?_ ?_ ?_
          · intro i hi
            have hiN : i < 29 := hi
            obtain rfl | rfl | rfl | rfl | rfl | rfl | rfl | rfl | rfl | rfl | rfl | rfl | rfl | rfl | rfl | rfl | rfl | rfl | rfl | rfl | rfl | rfl | rfl | rfl | rfl | rfl | rfl | rfl | rfl : i = 0 ∨ i = 1 ∨ i = 2 ∨ i = 3 ∨ i = 4 ∨ i = 5 ∨ i = 6 ∨ i = 7 ∨ i = 8 ∨ i = 9 ∨ i = 10 ∨ i = 11 ∨ i = 12 ∨ i = 13 ∨ i = 14 ∨ i = 15 ∨ i = 16 ∨ i = 17 ∨ i = 18 ∨ i = 19 ∨ i = 20 ∨ i = 21 ∨ i = 22 ∨ i = 23 ∨ i = 24 ∨ i = 25 ∨ i = 26 ∨ i = 27 ∨ i = 28 := by omega
            · refine Mk.step_pure rfl fun a ww hb hw hf => ?_
              have e14 : a.tmps[14]?.getD undef = .pointer (some ⟨p14, 0, none⟩) := Mk.gdv (hb.2.2 14 (by kernel_rfl))
              exact ⟨.pointer (some ⟨p14, 0, none⟩), by simp [go_sem, e14], rfl⟩
            · refine Mk.step_pure rfl fun a ww hb hw hf => ?_
              have e84 : a.tmps[84]?.getD undef = .pointer (some ⟨p14, 0, none⟩) := Mk.gdv (hf 0 84 (by kernel_rfl))
              have hc := (T14.up hw.below0).c0
              exact ⟨.bool true, by simp [go_sem, e84, hc], rfl⟩
            · refine Mk.step_pure rfl fun a ww hb hw hf => ?_
              have e85 : a.tmps[85]?.getD undef = .bool true := Mk.gdv (hf 1 85 (by kernel_rfl))
              exact ⟨.bool false, by simp [go_sem, e85], rfl⟩
            · refine Mk.step_pure rfl fun a ww hb hw hf => ?_
              have e86 : a.tmps[86]?.getD undef = .bool false := Mk.gdv (hf 2 86 (by kernel_rfl))
              exact ⟨.bool false, by simp [go_sem, e86], rfl⟩
            · refine Mk.step_pure rfl fun a ww hb hw hf => ?_
              have e12 : a.tmps[12]?.getD undef = .slice aK KK.length cK := Mk.gdv (hb.2.2 12 (by kernel_rfl))
              exact ⟨.slice aK KK.length cK, by simp [go_sem, e12], rfl⟩
            · refine Mk.step_pure rfl fun a ww hb hw hf => ?_
              have e13 : a.tmps[13]?.getD undef = .slice (some ⟨gT, oT, none⟩) TK.length cT := Mk.gdv (hb.2.2 13 (by kernel_rfl))
              exact ⟨.slice (some ⟨gT, oT, none⟩) TK.length cT, by simp [go_sem, e13], rfl⟩
            · refine Mk.step_pure rfl fun a ww hb hw hf => ?_
              have e89 : a.tmps[89]?.getD undef = .slice (some ⟨gT, oT, none⟩) TK.length cT := Mk.gdv (hf 5 89 (by kernel_rfl))
              exact ⟨.slice (some ⟨gT, oT, none⟩) 12 cT, by simp [go_sem, e89, hc2], rfl⟩
            · refine Mk.step_pure rfl fun a ww hb hw hf => ?_
              have e14 : a.tmps[14]?.getD undef = .pointer (some ⟨p14, 0, none⟩) := Mk.gdv (hb.2.2 14 (by kernel_rfl))
              exact ⟨.pointer (some ⟨p14, 1, none⟩), by simp [go_sem, e14], rfl⟩
            · refine Mk.step_load rfl 24 (.tmp 91) rfl dSt 7 hdSt hrowSt iTs fun a w' hb hw hf => ?_
              have e1 : a.tmps.getD 91 undef = .pointer (some ⟨p14, 1, none⟩) := hf 7 91 (by kernel_rfl)
              exact ⟨p14, 1, [.slice bx (dX PP).length ex, .slice by' (dY PP).length ey, .int .i64 (dM PP), .int .i64 (dL PP), .string ⟨⟨dH PP⟩⟩, .string ⟨⟨dP PP⟩⟩, .int .i64 (dE PP)], e1, (unhide RG) w' hw, rfl, rfl⟩
            · refine Mk.step_callv rfl 6 _ _ rfl (by kernel_rfl) fun a w' hb hw hf => ?_
              have e88 : a.tmps.getD 88 undef = .slice aK KK.length cK := hf 4 88 (by kernel_rfl)
              have e90 : a.tmps.getD 90 undef = .slice (some ⟨gT, oT, none⟩) 12 cT := hf 6 90 (by kernel_rfl)
              have e92 : a.tmps.getD 92 undef = .agg #[.slice bx (dX PP).length ex, .slice by' (dY PP).length ey, .int .i64 (dM PP), .int .i64 (dL PP), .string ⟨⟨dH PP⟩⟩, .string ⟨⟨dP PP⟩⟩, .int .i64 (dE PP)] := hf 8 92 (by kernel_rfl)
              show Calls Tryz.prog 6 #[a.tmps.getD 88 undef, a.tmps.getD 90 undef, a.tmps.getD 92 undef] w' _
              rw [e88, e90, e92]
              exact (unhide SL) w' _ _ hw.below0 (DKH.out w' hw) ((unhide dT12) w' hw.below0)
            · refine Mk.step_pure rfl fun a ww hb hw hf => ?_
              have e13 : a.tmps[13]?.getD undef = .slice (some ⟨gT, oT, none⟩) TK.length cT := Mk.gdv (hb.2.2 13 (by kernel_rfl))
              exact ⟨.slice (some ⟨gT, oT, none⟩) TK.length cT, by simp [go_sem, e13], rfl⟩
            · refine Mk.step_callv rfl 13 _ _ rfl (by kernel_rfl) fun a w' hb hw hf => ?_
              have d93 := hf 9 93 (by kernel_rfl)
              have e94 : a.tmps.getD 94 undef = .slice (some ⟨gT, oT, none⟩) TK.length cT := hf 10 94 (by kernel_rfl)
              show Calls Tryz.prog 13 #[a.tmps.getD 93 undef, a.tmps.getD 94 undef] w' _
              rw [e94]
              exact (unhide SM) w' _ _ TK d93 ((unhide dTT) w' hw.below0)
            · refine Mk.step_pure rfl fun a ww hb hw hf => ?_
              have e95 : a.tmps[95]?.getD undef = .bool true := Mk.gdv (hf 11 95 (by kernel_rfl))
              exact ⟨.bool true, by simp [go_sem, e95], rfl⟩
            · refine Mk.step_pure rfl fun a ww hb hw hf => ?_
              have e12 : a.tmps[12]?.getD undef = .slice aK KK.length cK := Mk.gdv (hb.2.2 12 (by kernel_rfl))
              exact ⟨.slice aK KK.length cK, by simp [go_sem, e12], rfl⟩
            · refine Mk.step_pure rfl fun a ww hb hw hf => ?_
              have e13 : a.tmps[13]?.getD undef = .slice (some ⟨gT, oT, none⟩) TK.length cT := Mk.gdv (hb.2.2 13 (by kernel_rfl))
              exact ⟨.slice (some ⟨gT, oT, none⟩) TK.length cT, by simp [go_sem, e13], rfl⟩
            · refine Mk.step_pure rfl fun a ww hb hw hf => ?_
              have e98 : a.tmps[98]?.getD undef = .slice (some ⟨gT, oT, none⟩) TK.length cT := Mk.gdv (hf 14 98 (by kernel_rfl))
              exact ⟨.slice (some ⟨gT, oT, none⟩) 12 cT, by simp [go_sem, e98, hc2], rfl⟩
            · refine Mk.step_lit rfl tkM (fun a w' => ?_) rfl
              simp only [execOp]
              kernel_rfl
            · exact Mk.step_mark rfl 22 Tryz.underlying22 Tryz.underlying5 tkM rfl 16 100 rfl rfl (by kernel_rfl) rfl
            · refine Mk.step_pure rfl fun a ww hb hw hf => ?_
              have e13 : a.tmps[13]?.getD undef = .slice (some ⟨gT, oT, none⟩) TK.length cT := Mk.gdv (hb.2.2 13 (by kernel_rfl))
              exact ⟨.slice (some ⟨gT, oT, none⟩) TK.length cT, by simp [go_sem, e13], rfl⟩
            · refine Mk.step_pure rfl fun a ww hb hw hf => ?_
              have e102 : a.tmps[102]?.getD undef = .slice (some ⟨gT, oT, none⟩) TK.length cT := Mk.gdv (hf 18 102 (by kernel_rfl))
              exact ⟨.slice (some ⟨gT, oT + 12, none⟩) (TK.length - 12) (cT - 12), by simp [go_sem, e102, hc1, hc3], rfl⟩
            · refine Mk.step_callv rfl 14 _ _ rfl (by kernel_rfl) fun a w' hb hw hf => ?_
              have e97 : a.tmps.getD 97 undef = .slice aK KK.length cK := hf 13 97 (by kernel_rfl)
              have e99 : a.tmps.getD 99 undef = .slice (some ⟨gT, oT, none⟩) 12 cT := hf 15 99 (by kernel_rfl)
              have d101 := hf 17 101 (by kernel_rfl)
              have e103 : a.tmps.getD 103 undef = .slice (some ⟨gT, oT + 12, none⟩) (TK.length - 12) (cT - 12) := hf 19 103 (by kernel_rfl)
              show Calls Tryz.prog 14 #[a.tmps.getD 97 undef, a.tmps.getD 99 undef, a.tmps.getD 101 undef, a.tmps.getD 103 undef] w' _
              rw [e97, e99, e103]
              exact (unhide OP) w' _ _ _ _ hw.below0 (DKH.out w' hw) ((unhide dT12) w' hw.below0) d101 ((unhide dS12) w' hw.below0)
            · refine Mk.step_pure rfl fun a w' hb hw hf => ?_
              obtain ⟨v', e1, d1⟩ := hf 20 104 (by kernel_rfl)
              have e1 := Mk.gdv e1
              have h1 := fdOr true v' w'
              exact ⟨v', by simp [go_sem, e1, h1], d1⟩
            · refine Mk.step_pure rfl fun a ww hb hw hf => ?_
              have e14 : a.tmps[14]?.getD undef = .pointer (some ⟨p14, 0, none⟩) := Mk.gdv (hb.2.2 14 (by kernel_rfl))
              exact ⟨.pointer (some ⟨p14, 1, none⟩), by simp [go_sem, e14], rfl⟩
            · refine Mk.step_load rfl 24 (.tmp 106) rfl dSt 7 hdSt hrowSt iTs fun a w' hb hw hf => ?_
              have e1 : a.tmps.getD 106 undef = .pointer (some ⟨p14, 1, none⟩) := hf 22 106 (by kernel_rfl)
              exact ⟨p14, 1, [.slice bx (dX PP).length ex, .slice by' (dY PP).length ey, .int .i64 (dM PP), .int .i64 (dL PP), .string ⟨⟨dH PP⟩⟩, .string ⟨⟨dP PP⟩⟩, .int .i64 (dE PP)], e1, (unhide RG) w' hw, rfl, rfl⟩
            · refine Mk.step_callv rfl 15 _ _ rfl (by kernel_rfl) fun a w' hb hw hf => ?_
              have e107 : a.tmps.getD 107 undef = .agg #[.slice bx (dX PP).length ex, .slice by' (dY PP).length ey, .int .i64 (dM PP), .int .i64 (dL PP), .string ⟨⟨dH PP⟩⟩, .string ⟨⟨dP PP⟩⟩, .int .i64 (dE PP)] := hf 23 107 (by kernel_rfl)
              show Calls Tryz.prog 15 #[a.tmps.getD 107 undef] w' _
              rw [e107]
              exact (unhide EN) w' hw.below0
            · refine Mk.step_callv rfl 13 _ _ rfl (by kernel_rfl) fun a w' hb hw hf => ?_
              have d105 := hf 21 105 (by kernel_rfl)
              have d108 := hf 24 108 (by kernel_rfl)
              show Calls Tryz.prog 13 #[a.tmps.getD 105 undef, a.tmps.getD 108 undef] w' _
              exact (unhide SM) w' _ _ PP d105 d108
            · refine Mk.step_pure rfl fun a ww hb hw hf => ?_
              have e96 : a.tmps[96]?.getD undef = .bool true := Mk.gdv (hf 12 96 (by kernel_rfl))
              have e109 : a.tmps[109]?.getD undef = .bool true := Mk.gdv (hf 25 109 (by kernel_rfl))
              exact ⟨.bool true, by simp [go_sem, e96, e109], rfl⟩
            · refine Mk.step_pure rfl fun a ww hb hw hf => ?_
              have e87 : a.tmps[87]?.getD undef = .bool false := Mk.gdv (hf 3 87 (by kernel_rfl))
              have e110 : a.tmps[110]?.getD undef = .bool true := Mk.gdv (hf 26 110 (by kernel_rfl))
              exact ⟨.bool true, by simp [go_sem, e87, e110], rfl⟩
            · refine Mk.step_pure rfl fun a ww hb hw hf => ?_
              have e111 : a.tmps[111]?.getD undef = .bool true := Mk.gdv (hf 27 111 (by kernel_rfl))
              exact ⟨.bool true, by simp [go_sem, e111], rfl⟩
          · intro i o ho A WW hf
            have hiN : i < 29 := (Array.getElem?_eq_some_iff.1 ho).1
            obtain rfl | rfl | rfl | rfl | rfl | rfl | rfl | rfl | rfl | rfl | rfl | rfl | rfl | rfl | rfl | rfl | rfl | rfl | rfl | rfl | rfl | rfl | rfl | rfl | rfl | rfl | rfl | rfl | rfl : i = 0 ∨ i = 1 ∨ i = 2 ∨ i = 3 ∨ i = 4 ∨ i = 5 ∨ i = 6 ∨ i = 7 ∨ i = 8 ∨ i = 9 ∨ i = 10 ∨ i = 11 ∨ i = 12 ∨ i = 13 ∨ i = 14 ∨ i = 15 ∨ i = 16 ∨ i = 17 ∨ i = 18 ∨ i = 19 ∨ i = 20 ∨ i = 21 ∨ i = 22 ∨ i = 23 ∨ i = 24 ∨ i = 25 ∨ i = 26 ∨ i = 27 ∨ i = 28 := by omega
            · cases ho; exact Mk.wanted_none rfl
            · cases ho; exact Mk.wanted_none rfl
            · cases ho; exact Mk.wanted_none rfl
            · cases ho; exact Mk.wanted_none rfl
            · cases ho; exact Mk.wanted_some rfl (by kernel_rfl) (hf 3 87 (by kernel_rfl))
            · cases ho; exact Mk.wanted_some rfl (by kernel_rfl) (hf 3 87 (by kernel_rfl))
            · cases ho; exact Mk.wanted_some rfl (by kernel_rfl) (hf 3 87 (by kernel_rfl))
            · cases ho; exact Mk.wanted_some rfl (by kernel_rfl) (hf 3 87 (by kernel_rfl))
            · cases ho; exact Mk.wanted_some rfl (by kernel_rfl) (hf 3 87 (by kernel_rfl))
            · cases ho; exact Mk.wanted_some rfl (by kernel_rfl) (hf 3 87 (by kernel_rfl))
            · cases ho; exact Mk.wanted_some rfl (by kernel_rfl) (hf 3 87 (by kernel_rfl))
            · cases ho; exact Mk.wanted_some rfl (by kernel_rfl) (hf 3 87 (by kernel_rfl))
            · cases ho; exact Mk.wanted_some rfl (by kernel_rfl) (hf 3 87 (by kernel_rfl))
            · cases ho; exact Mk.wanted_some rfl (by kernel_rfl) (hf 12 96 (by kernel_rfl))
            · cases ho; exact Mk.wanted_some rfl (by kernel_rfl) (hf 12 96 (by kernel_rfl))
            · cases ho; exact Mk.wanted_some rfl (by kernel_rfl) (hf 12 96 (by kernel_rfl))
            · cases ho; exact Mk.wanted_some rfl (by kernel_rfl) (hf 12 96 (by kernel_rfl))
            · cases ho; exact Mk.wanted_some rfl (by kernel_rfl) (hf 12 96 (by kernel_rfl))
            · cases ho; exact Mk.wanted_some rfl (by kernel_rfl) (hf 12 96 (by kernel_rfl))
            · cases ho; exact Mk.wanted_some rfl (by kernel_rfl) (hf 12 96 (by kernel_rfl))
            · cases ho; exact Mk.wanted_some rfl (by kernel_rfl) (hf 12 96 (by kernel_rfl))
            · cases ho; exact Mk.wanted_some rfl (by kernel_rfl) (hf 12 96 (by kernel_rfl))
            · cases ho; exact Mk.wanted_some rfl (by kernel_rfl) (hf 12 96 (by kernel_rfl))
            · cases ho; exact Mk.wanted_some rfl (by kernel_rfl) (hf 12 96 (by kernel_rfl))
            · cases ho; exact Mk.wanted_some rfl (by kernel_rfl) (hf 12 96 (by kernel_rfl))
            · cases ho; exact Mk.wanted_some rfl (by kernel_rfl) (hf 12 96 (by kernel_rfl))
            · cases ho; exact Mk.wanted_some rfl (by kernel_rfl) (hf 3 87 (by kernel_rfl))
            · cases ho; exact Mk.wanted_none rfl
            · cases ho; exact Mk.wanted_none rfl
          intro A wh hb' hw hF
          have e2 := hF 28 4 (by kernel_rfl)
          obtain ⟨vs, hvs⟩ : ∃ vs : Nat → Value, ∀ d, A.tmps.getD d undef = vs d := ⟨_, fun _ => rfl⟩
          rw [hvs] at e2
          rw [Mk.puts_guard (md := .any) (by kernel_rfl) rfl hb' vs hvs]
          clear hb' hF hvs
          have e3 : vs 4 = .bool true := e2
          clear e2
          simp only [Mk.puts, e3, Act.put, List.setIfInBounds_toArray, List.set_cons_succ, List.set_cons_zero]
          clear e3
          have FIN := hide (nxt N3 hw.below0)
          clear SL OP EN SM RG DKH dTT dS12 dT12 T14 hw
          go_wp2
          go_ret
          exact ⟨rfl, FIN.out⟩
    · have u1 : decide ((1048576 : Int) < (X1.length : Int)) = true := by simp; omega
      go_enter Tryz.func3, Tryz.ntmps3
      go_wp2
      go_ret
      exact ⟨rfl, Below.refl _ _⟩
  · have u0 : decide ((1048576 : Int) < (X0.length : Int)) = true := by simp; omega
    go_enter Tryz.func3, Tryz.ntmps3
    go_wp2
    go_ret
    exact ⟨rfl, Below.refl _ _⟩
end Go.Proofs.YtccnhdicibjbaaaGreat
