
/-
  The law of areas: its walk.
-/
import Derived.Test.YtheggghidhjplaaArF
namespace Go.Proofs.Ytheggghidhjplaa
open Go Go.RowKit

theorem any_takeL {ls : List (List UInt8)} {q : List UInt8 → Bool} {k : Nat} (hk : k < ls.length) : (ls.take (k + 1)).any q = ((ls.take k).any q || q (ls.getD k [])) := any_take hk
/-- The law, behind the row of hosts. -/
def HostsOk (w5 : World) (q6 q7 q10 : Nat) (pm ex H : List (List UInt8)) : Prop := RdT w5 q6 (some ⟨q6, 0, none⟩) pm ∧ RdT w5 q7 (some ⟨q7, 0, none⟩) ex ∧ RdT w5 q10 (some ⟨q10, 0, none⟩) H
set_option maxRecDepth 100000 in
set_option maxHeartbeats 32000000 in
theorem areasHold_law (w : World) (g : Nat) (a : Option Addr) (c : Nat) (xs : List Int) (hr : Rd w g a .u8 xs) (hb : Byt xs) (g' : Nat) (a' : Option Addr) (c' : Nat) (ys : List Int) (_ : Rd w g' a' .u8 ys) (_ : Byt ys) :
    Calls Try.prog 9 #[.slice a xs.length c, .slice a' ys.length c'] w fun e w' => e = .returned (.bool true) ∧ Below w.heap.size w w' := by
  by_cases h1 : 1048576 < xs.length
  · have t1 : decide ((1048576 : Int) < (xs.length : Int)) = true := decide_eq_true (by omega)
    go_enter Try.func9, Try.ntmps9
    go_wp2
    go_ret
    exact ⟨rfl, Below.refl _ _⟩
  · have t1 : decide ((1048576 : Int) < (xs.length : Int)) = false := decide_eq_false (by omega)
    by_cases h2 : 1048576 < ys.length
    · have t2 : decide ((1048576 : Int) < (ys.length : Int)) = true := decide_eq_true (by omega)
      go_enter Try.func9, Try.ntmps9
      go_wp2
      go_ret
      exact ⟨rfl, Below.refl _ _⟩
    · have t2 : decide ((1048576 : Int) < (ys.length : Int)) = false := decide_eq_false (by omega)
      have DR := hide (drawOutside_any w g a c xs hr hb (by omega))
      clear hr hb h1 h2
      go_enter Try.func9, Try.ntmps9
      go_wp2_with fail
      refine DR.out.mono ?_
      rintro e w1 ⟨⟨p, v6, v7, q6, q7, pm, ex, rfl, lp, r6, r7, b6, b7, k6, k7⟩, n1⟩
      have N1 := hide n1
      obtain ⟨c6, rfl⟩ := r6.e
      obtain ⟨c7, rfl⟩ := r7.e
      have R6 := hide r6.rd
      have R7 := hide r7.rd
      have M6 : Hid (∀ l ∈ pm, l.length ≤ 9223372036854775807) := fun l h => by have := b6 l h; omega
      have M7 : Hid (∀ l ∈ ex, l.length ≤ 9223372036854775807) := fun l h => by have := b7 l h; omega
      have B6 := hide b6
      have B7 := hide b7
      clear r6 r7 n1 DR b6 b7
      have sp := tx_size p
      -- copies
      have z1 : Below w1.heap.size w1 (w1.alloc (.cells #[] 9)) := (Below.refl _ _).alloc (Nat.le_refl _) _
      have E1 : RowAt (w1.alloc (.cells #[] 9)) w1.heap.size (.slice (some ⟨w1.heap.size, 0, none⟩) 0 0) [] := RowAt.new w1 [] (by simp)
      have rdc : ∀ {W : World} {q : Nat} {ms : List (List UInt8)}, RdT W q (some ⟨q, 0, none⟩) ms → ∀ i, i < ms.length → W.cell? ⟨q, 0 + i, none⟩ = some (tx (ms.getD i [])) := fun h i hi => by
        obtain ⟨o, e, hc⟩ := h (by omega)
        obtain rfl : o = 0 := by simpa using e.symm
        exact hc i hi
      obtain ⟨v2, w2, g2, hap1, A2, B2, _⟩ := appendT (w1.alloc (.cells #[] 9)) 28 _ [] pm w1.heap.size q6 0 c6 E1 (rdc (R6.out.up z1)) (by simp; omega)
      have y2 : Below w1.heap.size w1 w2 := z1.trans (B2.below (Nat.le_refl _) z1.size)
      have z2 : Below w2.heap.size w2 (w2.alloc (.cells #[] 9)) := (Below.refl _ _).alloc (Nat.le_refl _) _
      have E2 : RowAt (w2.alloc (.cells #[] 9)) w2.heap.size (.slice (some ⟨w2.heap.size, 0, none⟩) 0 0) [] := RowAt.new w2 [] (by simp)
      obtain ⟨v3, w3, g3, hap2, A3, B3, _⟩ := appendT (w2.alloc (.cells #[] 9)) 28 _ [] ex w2.heap.size q7 0 c7 E2 (rdc ((R7.out.up y2).up z2)) (by simp; omega)
      have y3 : Below w2.heap.size w2 w3 := z2.trans (B3.below (Nat.le_refl _) z2.size)
      obtain ⟨d2, rfl⟩ := A2.e
      obtain ⟨d3, rfl⟩ := A3.e
      have A2' := hide (A2.up y3).rd
      have A3' := hide A3.rd
      have N3 := hide (nxt (nxt N1.out y2) y3)
      have Y3 := hide (nxt y2 y3)
      rw [List.nil_append] at A2' A3' hap1 hap2
      clear z1 E1 A2 B2 y2 z2 E2 A3 B3 y3
      have IM := hide (implPatternOutside_any w3 p g2 _ d2 pm g3 _ d3 ex (by omega) A2'.out A3'.out (by omega) (by omega) M6.out M7.out)
      have SP := hide (fun W h1 h2 => specPatternOutside_any W p q6 (some ⟨q6, 0, none⟩) c6 pm q7 (some ⟨q7, 0, none⟩) c7 ex (by omega) h1 h2 (by omega) (by omega) M6.out M7.out)
      have AO := hide (fun h (hm : nmB p h = true) (ho : poB p pm ex = false) => areas_ok hm ho)
      have MT := hide (fun (hp : patF p = 0) (hl : p.length ≤ 120) => met_ok pm ex hp hl)
      generalize hoz : poB p pm ex = z at *
      clear hoz
      have zz : (z != z) = false := by cases z <;> rfl
      go_wp2_with (first | (at_builtin; refine Lib.wpList_append_run _ rfl _ _ 28 28 rfl _ _ rfl rfl _ _ hap1 ?_; clear hap1) | (at_builtin; refine Lib.wpList_append_run _ rfl _ _ 28 28 rfl _ _ rfl rfl _ _ hap2 ?_; clear hap2) | fail)
      refine IM.out.mono ?_
      rintro e w4 ⟨rfl, n4⟩
      have Y4 := hide (nxt Y3.out n4)
      have N4 := hide (nxt N3.out n4)
      clear n4 IM A2' A3' Y3 N3 rdc
      go_wp2_with fail
      refine (SP.out w4 (R6.out.up Y4.out) (R7.out.up Y4.out)).mono ?_
      rintro e w5 ⟨rfl, n5⟩
      have Y5 := nxt Y4.out n5
      have N5 := hide (nxt N4.out n5)
      have R6' := hide (R6.out.up Y5)
      have R7' := hide (R7.out.up Y5)
      clear n5 Y5 Y4 N4 R6 R7 SP
      have bl : Hid ((bsL p).length ≤ 300) := by
        show (bsL p).length ≤ 300
        unfold bsL
        split
        · rw [List.length_drop]; omega
        · omega
      -- the pattern's name
      have x2 : Hid (2 < p.length → (ByteArray.mk ⟨p⟩).extract 2 p.length = ByteArray.mk ⟨p.drop 2⟩) := fun h2 => by
        have := ByteArray.extract_mk p 2 p.length
        rw [List.take_of_length_le (by rw [List.length_drop]; omega)] at this
        exact this
      go_upto_region 8 with fail
      go_cut [52] (fun v wc => v = .bool (decide (2 < p.length) && star p) ∧ wc = w5)
      case first =>
        by_cases h2 : 2 < p.length
        · have t3 : decide ((2 : Int) < (p.length : Int)) = true := decide_eq_true (by omega)
          have x1 : (ByteArray.mk ⟨p⟩).extract 0 2 = ByteArray.mk ⟨p.take 2⟩ := by
            have := ByteArray.extract_mk p 0 2
            simpa using this
          have t4 : (2 : Int) ≤ (p.length : Int) := by omega
          have s1 : Hid ((decide (2 < p.length) && star p) = (p.take 2 == [42, 46])) := by
            show _ = _
            rw [decide_eq_true h2, beq_dec]
            rfl
          clear h2
          go_wp2_with fail
          go_meet
          exact ⟨by rw [s1.out], rfl⟩
        · have t3 : decide ((2 : Int) < (p.length : Int)) = false := decide_eq_false (by omega)
          have s1 : Hid ((decide (2 < p.length) && star p) = false) := by
            show _ = _
            rw [decide_eq_false h2]
            rfl
          clear h2
          go_wp2_with fail
          go_meet
          exact ⟨by rw [s1.out], rfl⟩
      case rest =>
        obtain ⟨rfl, hw⟩ := hcut
        subst hw
        have eB : Hid (bsL p = if (decide (2 < p.length) && star p) = true then p.drop 2 else p) := by
          show _ = _
          unfold bsL
          simp only [Bool.and_eq_true, decide_eq_true_eq]
        have hB : Hid ((decide (2 < p.length) && star p) = true → 2 < p.length) := fun h => by
          simp only [Bool.and_eq_true, decide_eq_true_eq] at h
          exact h.1
        generalize (decide (2 < p.length) && star p) = cb at *
        go_upto_if 52 with fail
        go_cut [9] (fun v wd => v = .string ⟨⟨bsL p⟩⟩ ∧ wd = wc)
        case first =>
          cases cb with
          | true =>
            have h2 := hB.out rfl
            have x3 := x2.out h2
            have t4 : (2 : Int) ≤ (p.length : Int) := by omega
            have e1 : Hid (bsL p = p.drop 2) := by show _ = _; rw [eB.out]; rfl
            clear eB hB h2
            go_wp2_with fail
            go_meet
            exact ⟨by rw [e1.out], rfl⟩
          | false =>
            have e1 : Hid (bsL p = p) := by show _ = _; rw [eB.out]; rfl
            clear eB hB
            go_wp2_with fail
            go_meet
            exact ⟨by rw [e1.out], rfl⟩
        case rest =>
          clear eB hB x2
          obtain ⟨rfl, hw⟩ := hcut
          subst hw
          obtain ⟨b, hb⟩ : ∃ b, b = bsL p := ⟨_, rfl⟩
          rw [← hb] at bl MT ⊢
          clear hb
          have lb := bl.out
          have a1 : ∀ W : World, (Op.stringOp .add (ByteArray.mk #[113, 46]) (ByteArray.mk ⟨b⟩)).run Try.prog W = .ok (.string ⟨⟨113 :: 46 :: b⟩⟩) W := fun W => tx_add W [113, 46] b (by simp; omega)
          have a2 : ∀ W : World, (Op.stringOp .add (ByteArray.mk #[120, 46]) (ByteArray.mk ⟨b⟩)).run Try.prog W = .ok (.string ⟨⟨120 :: 46 :: b⟩⟩) W := fun W => tx_add W [120, 46] b (by simp; omega)
          have a3 : ∀ W : World, (Op.stringOp .add (ByteArray.mk #[97, 46, 98, 46]) (ByteArray.mk ⟨b⟩)).run Try.prog W = .ok (.string ⟨⟨97 :: 46 :: 98 :: 46 :: b⟩⟩) W := fun W => tx_add W [97, 46, 98, 46] b (by simp; omega)
          have a4 : ∀ W : World, (Op.stringOp .add (ByteArray.mk #[48, 45, 49, 46]) (ByteArray.mk ⟨b⟩)).run Try.prog W = .ok (.string ⟨⟨48 :: 45 :: 49 :: 46 :: b⟩⟩) W := fun W => tx_add W [48, 45, 49, 46] b (by simp; omega)
          have rdc : ∀ {W : World} {q : Nat} {ms : List (List UInt8)}, RdT W q (some ⟨q, 0, none⟩) ms → ∀ i, i < ms.length → W.cell? ⟨q, 0 + i, none⟩ = some (tx (ms.getD i [])) := fun h i hi => by
            obtain ⟨o, e, hc⟩ := h (by omega)
            obtain rfl : o = 0 := by simpa using e.symm
            exact hc i hi
          have n6 : Below wc.heap.size wc (wc.alloc (.cells #[.string ⟨⟨b⟩⟩, .string ⟨⟨113 :: 46 :: b⟩⟩, .string ⟨⟨120 :: 46 :: b⟩⟩, .string ⟨⟨97 :: 46 :: 98 :: 46 :: b⟩⟩, .string ⟨⟨48 :: 45 :: 49 :: 46 :: b⟩⟩] 9)) := (Below.refl _ _).alloc (Nat.le_refl _) _
          have E6 : RowAt (wc.alloc (.cells #[.string ⟨⟨b⟩⟩, .string ⟨⟨113 :: 46 :: b⟩⟩, .string ⟨⟨120 :: 46 :: b⟩⟩, .string ⟨⟨97 :: 46 :: 98 :: 46 :: b⟩⟩, .string ⟨⟨48 :: 45 :: 49 :: 46 :: b⟩⟩] 9)) wc.heap.size (.slice (some ⟨wc.heap.size, 0, none⟩) 5 5) (hoL b) := RowAt.new wc (hoL b) (by simp [hoL])
          obtain ⟨v7, w7, g7, hap3, A7, B7', hg7⟩ := appendT (wc.alloc (.cells #[.string ⟨⟨b⟩⟩, .string ⟨⟨113 :: 46 :: b⟩⟩, .string ⟨⟨120 :: 46 :: b⟩⟩, .string ⟨⟨97 :: 46 :: 98 :: 46 :: b⟩⟩, .string ⟨⟨48 :: 45 :: 49 :: 46 :: b⟩⟩] 9)) 28 _ (hoL b) ex wc.heap.size q7 0 c7 E6 (rdc (R7'.out.up n6)) (by simp [hoL]; omega)
          obtain ⟨E, hE⟩ : ∃ E, E = hoL b ++ ex := ⟨_, rfl⟩
          rw [← hE] at A7
          have y7 : Below wc.heap.size wc w7 := n6.trans (B7'.below (Nat.le_refl _) n6.size)
          have q7l : wc.heap.size ≤ g7 := by
            rcases hg7 with rfl | rfl
            · exact Nat.le_refl _
            · exact n6.size
          obtain ⟨v8, w8, g8, hap4, A8, B8', hg8⟩ := appendT w7 28 v7 E pm g7 q6 0 c6 A7 (rdc (R6'.out.up y7)) (by rw [hE]; simp [hoL]; omega)
          obtain ⟨H, hH⟩ : ∃ H, H = E ++ pm := ⟨_, rfl⟩
          rw [← hH] at A8
          have y8 : Below wc.heap.size wc w8 := y7.trans (B8'.below q7l y7.size)
          have N8 := hide (nxt N5.out y8)
          have S6 := hide (R6'.out.up y8)
          have S7 := hide (R7'.out.up y8)
          have S8 := hide A8.rd
          obtain ⟨d8, rfl⟩ := A8.e
          obtain ⟨d7, rfl⟩ := A7.e
          have LH : Hid (∀ l ∈ H, l.length ≤ 9223372036854775807) := fun l h => by
            rw [hH, hE] at h
            rcases List.mem_append.1 h with h | h
            · rcases List.mem_append.1 h with h | h
              · simp only [hoL, List.mem_cons, List.not_mem_nil, or_false] at h
                rcases h with rfl | rfl | rfl | rfl | rfl <;> first | omega | (simp only [List.length_cons]; omega)
              · exact M7.out l h
            · exact M6.out l h
          have HL : Hid (H.length ≤ 1000) := by
            show _ ≤ _
            rw [hH, hE]
            simp [hoL]
            omega
          rw [← hE, ← hH] at MT
          clear hE hH
          clear n6 E6 A7 B7' hg7 y7 q7l A8 B8' hg8 y8 R6' R7' N5 rdc B6 B7
          go_wp2_with (first | (at_builtin; refine Lib.wpList_append_run _ rfl _ _ 28 28 rfl _ _ rfl rfl _ _ hap3 ?_; clear hap3) | (at_builtin; refine Lib.wpList_append_run _ rfl _ _ 28 28 rfl _ _ rfl rfl _ _ hap4 ?_; clear hap4) | fail)
          clear a1 a2 a3 a4 lb bl
          have L6 : Hid (pm.length ≤ 8) := k6
          have L7 : Hid (ex.length ≤ 8) := k7
          clear k6 k7
          go_wp2
          go_loopw [11, 12, 13, 14, 15] (fun m i _ _ _ wr => Below w8.heap.size w8 wr ∧ ∃ k : Nat, k ≤ H.length ∧ i = .int .i64 k ∧ m = .bool ((H.take k).any (nmB p))) (fun _ i _ _ _ _ => H.length - (intOf i).toNat)
          case atStart => exact ⟨Below.refl _ _, 0, by omega, rfl, by simp⟩
          case round =>
            obtain ⟨nb, k, hk, rfl, rfl⟩ := hrel
            have NB := hide nb
            have hl1 := HL.out
            by_cases hlt : k < H.length
            · have t3 : (k : Int) < (H.length : Int) := by omega
              obtain ⟨o8, e8, hc8⟩ := (S8.out.up nb) (by omega)
              obtain rfl : o8 = 0 := by simpa using e8.symm
              have ch := hc8 k hlt
              rw [Nat.zero_add] at ch
              have CH := hide (fun W (h : Below wr.heap.size wr W) => (h.cell (block_lt_of_cell ch)).trans ch)
              have hx : (H.getD k []).length ≤ 9223372036854775807 := LH.out _ (by simp [hlt])
              have NM := hide (implNameMatches_any wr p (H.getD k []) (by omega) hx)
              have AT := hide (any_take (q := nmB p) hlt)
              have NI := hide (fun W l (hl : l.length ≤ 9223372036854775807) => implNameInside_any W (H.getD k []) l hx hl)
              have AOh := hide (AO.out (H.getD k []))
              clear nb e8 hc8 hx
              generalize H.getD k [] = h at *
              unfold tx at ch CH
              generalize (H.take k).any (nmB p) = mm at *
              cases hz : nmB p h with
              | false =>
                rw [hz] at NM AT
                clear hz
                go_wp2_with fail
                refine NM.out.mono ?_
                rintro e wm ⟨rfl, nm⟩
                have NB2 := hide (nxt NB.out nm)
                clear nm
                go_wp2
                go_roundw
                case rel => exact ⟨NB2.out, k + 1, by omega, by go_num, by rw [AT.out, Bool.or_false]⟩
                case measure => simp [intOf]; omega
              | true =>
                rw [hz] at NM AT
                have AOm := hide (AOh.out hz)
                clear hz AOh
                have AT2 := hide (show (H.take (k + 1)).any (nmB p) = true by rw [AT.out, Bool.or_true])
                clear AT
                cases z with
                | true =>
                  go_wp2_with fail
                  refine NM.out.mono ?_
                  rintro e wm ⟨rfl, nm⟩
                  have NB2 := hide (nxt NB.out nm)
                  clear nm
                  go_wp2
                  go_roundw
                  case rel => exact ⟨NB2.out, k + 1, by omega, by go_num, by rw [AT2.out]⟩
                  case measure => simp [intOf]; omega
                | false =>
                  have AO2 := hide (AOm.out rfl)
                  clear AOm
                  have e0 : Hid (((pm.length : Int) == 0) = (decide (pm = []) || (pm.take 0).any (niB h))) := by
                    show _ = _
                    cases pm with
                    | nil => rfl
                    | cons x y => simp; omega
                  go_wp2_with fail
                  refine NM.out.mono ?_
                  rintro e wm ⟨rfl, nm⟩
                  have NB2 := hide (nxt NB.out nm)
                  have cm := CH.out wm nm
                  have CM := hide (fun W (h : Below wm.heap.size wm W) => (h.cell (block_lt_of_cell cm)).trans cm)
                  have T6 := hide (S6.out.up NB2.out)
                  have T7 := hide (S7.out.up NB2.out)
                  clear nm ch CH NB NM cm
                  go_wp2
                  go_loopw [13, 14] (fun v i wz => Below wm.heap.size wm wz ∧ ∃ j : Nat, j ≤ pm.length ∧ i = .int .i64 j ∧ v = .bool (decide (pm = []) || (pm.take j).any (niB h))) (fun _ i _ => pm.length - (intOf i).toNat)
                  case atStart => exact ⟨Below.refl _ _, 0, by omega, rfl, by rw [← e0.out]⟩
                  case round =>
                    clear e0
                    have lpm := L6.out
                    obtain ⟨nz, j, hj, rfl, rfl⟩ := hrel
                    have NZ := hide nz
                    by_cases hlj : j < pm.length
                    · have t4 : (j : Int) < (pm.length : Int) := by omega
                      obtain ⟨o6, e6, hc6⟩ := (T6.out.up nz) (by omega)
                      obtain rfl : o6 = 0 := by simpa using e6.symm
                      have c6' := hc6 j hlj
                      rw [Nat.zero_add] at c6'
                      have ch := CM.out wr nz
                      have AJ := hide (any_take (q := niB h) hlj)
                      have NJ := hide (fun W => NI.out W (pm.getD j []) (M6.out _ (by simp [hlj])))
                      clear e6 hc6 nz
                      generalize pm.getD j [] = x at *
                      unfold tx at c6'
                      obtain ⟨nn, hnn⟩ : ∃ b, b = niB h x := ⟨_, rfl⟩
                      rw [← hnn] at NJ AJ
                      obtain ⟨cb, hcb⟩ : ∃ b, b = (decide (pm = []) || (pm.take j).any (niB h)) := ⟨_, rfl⟩
                      have CE : Hid ((decide (pm = []) || (pm.take (j + 1)).any (niB h)) = (cb || nn)) := by
                        show _ = _
                        rw [AJ.out, ← Bool.or_assoc, ← hcb]
                      rw [← hcb]
                      clear hcb hnn AJ
                      cases cb with
                      | true =>
                        go_wp2
                        go_quiet (fail)
                        go_wp2
                        go_roundw
                        case rel => exact ⟨below_drewN NZ.out _, j + 1, by omega, by go_num, by rw [CE.out]; rfl⟩
                        case measure => simp [intOf]; omega
                      | false =>
                        go_wp2
                        go_quiet ((go_at_call 14; refine ((unhide NJ) _).mono ?_; rintro e w' ⟨rfl, rfl⟩; exact ⟨rfl, _, rfl⟩))
                        go_wp2
                        go_roundw
                        case rel => exact ⟨below_drewN NZ.out _, j + 1, by omega, by go_num, by rw [CE.out]; rfl⟩
                        case measure => simp [intOf]; omega
                    · obtain rfl : j = pm.length := by omega
                      rw [List.take_length]
                      obtain ⟨I, hI⟩ : ∃ b, b = (decide (pm = []) || pm.any (niB h)) := ⟨_, rfl⟩
                      rw [← hI] at AO2 ⊢
                      clear hI
                      have e1 : Hid (I = (I && !(ex.take 0).any (niB h))) := by
                        show _ = _
                        simp
                      have T7' := hide (T7.out.up nz)
                      have CM' := hide (CM.out wr nz)
                      have NB3 := hide (nxt NB2.out nz)
                      clear nz T6 T7 CM NB2 NZ
                      obtain ⟨wk, hwk⟩ : ∃ W, W = wr := ⟨_, rfl⟩
                      rw [← hwk] at T7' CM' NB3 ⊢
                      clear hwk
                      have CK := hide (fun W (h : Below wk.heap.size wk W) => (h.cell (block_lt_of_cell CM'.out)).trans CM'.out)
                      clear CM'
                      go_wp2
                      go_loopw [13, 15] (fun v i wz => Below wk.heap.size wk wz ∧ ∃ j : Nat, j ≤ ex.length ∧ i = .int .i64 j ∧ v = .bool (I && !(ex.take j).any (niB h))) (fun _ i _ => ex.length - (intOf i).toNat)
                      case atStart => exact ⟨Below.refl _ _, 0, by omega, rfl, by rw [← e1.out]⟩
                      case round =>
                        clear e1
                        have lex := L7.out
                        obtain ⟨nz, j, hj, rfl, rfl⟩ := hrel
                        have NZ := hide nz
                        by_cases hlj : j < ex.length
                        · have t4 : (j : Int) < (ex.length : Int) := by omega
                          obtain ⟨o6, e6, hc6⟩ := (T7'.out.up nz) (by omega)
                          obtain rfl : o6 = 0 := by simpa using e6.symm
                          have c6' := hc6 j hlj
                          rw [Nat.zero_add] at c6'
                          have ch := CK.out wr nz
                          have AJ := hide (any_take (q := niB h) hlj)
                          have NJ := hide (fun W => NI.out W (ex.getD j []) (M7.out _ (by simp [hlj])))
                          clear e6 hc6 nz
                          generalize ex.getD j [] = x at *
                          unfold tx at c6'
                          obtain ⟨nn, hnn⟩ : ∃ b, b = niB h x := ⟨_, rfl⟩
                          rw [← hnn] at NJ AJ
                          obtain ⟨cb, hcb⟩ : ∃ b, b = (I && !(ex.take j).any (niB h)) := ⟨_, rfl⟩
                          have CE : Hid ((I && !(ex.take (j + 1)).any (niB h)) = (cb && !nn)) := by
                            show _ = _
                            rw [AJ.out, Bool.not_or, ← Bool.and_assoc, ← hcb]
                          rw [← hcb]
                          clear hcb hnn AJ
                          cases cb with
                          | false =>
                            go_wp2
                            go_quiet (fail)
                            go_wp2
                            go_roundw
                            case rel => exact ⟨below_drewN NZ.out _, j + 1, by omega, by go_num, by rw [CE.out]; rfl⟩
                            case measure => simp [intOf]; omega
                          | true =>
                            go_wp2
                            go_quiet ((go_at_call 14; refine ((unhide NJ) _).mono ?_; rintro e w' ⟨rfl, rfl⟩; exact ⟨rfl, _, rfl⟩))
                            go_wp2
                            go_roundw
                            case rel => exact ⟨below_drewN NZ.out _, j + 1, by omega, by go_num, by rw [CE.out]; rfl⟩
                            case measure => simp [intOf]; omega
                        · obtain rfl : j = ex.length := by omega
                          rw [List.take_length, AO2.out]
                          have NB4 := hide (nxt NB3.out nz)
                          clear nz
                          go_wp2
                          go_roundw
                          case rel => exact ⟨NB4.out, k + 1, by omega, by go_num, by rw [AT2.out]⟩
                          case measure => simp [intOf]; omega
            · obtain rfl : k = H.length := by omega
              rw [List.take_length]
              have NW := hide (nxt N8.out nb)
              have SFp := hide (fun W => specPatternFault_any W p (by omega))
              clear nb
              cases hm : H.any (nmB p) with
              | true =>
                clear hm
                go_wp2
                go_ret
                exact ⟨rfl, NW.out⟩
              | false =>
                have hf : ¬ (patF p = 0 ∧ p.length ≤ 120) := fun h => by
                  have := MT.out h.1 h.2
                  rw [hm] at this
                  cases this
                clear hm
                by_cases f1 : patF p = 0
                · rw [f1] at SFp
                  have t9 : decide ((120 : Int) < (p.length : Int)) = true := decide_eq_true (by omega)
                  clear hf f1
                  go_wp2_with fail
                  refine (SFp.out wr).mono ?_
                  rintro e wy ⟨rfl, ny⟩
                  have NY := hide (nxt NW.out ny)
                  clear ny
                  go_wp2
                  go_ret
                  exact ⟨rfl, NY.out⟩
                · have t8 : (patF p == 0) = false := by simpa using f1
                  have t8' : (patF p != 0) = true := by simpa using f1
                  clear hf f1 MT
                  generalize patF p = qf at *
                  go_wp2_with fail
                  refine (SFp.out wr).mono ?_
                  rintro e wy ⟨rfl, ny⟩
                  have NY := hide (nxt NW.out ny)
                  clear ny
                  go_wp2
                  go_ret
                  exact ⟨rfl, NY.out⟩
end Go.Proofs.Ytheggghidhjplaa
