
/-
  The model's PatternOutside, and the law.
-/
import Derived.Test.YtheggghidhjplaaNmE
namespace Go.Proofs.Ytheggghidhjplaa
open Go Go.RowKit

set_option maxHeartbeats 1000000 in
theorem l11Bas_any (w : World) (l : List UInt8) (hl : l.length ≤ 9223372036854775807) :
    Calls Try.prog 57 #[.string ⟨⟨l⟩⟩] w fun e w' => e = .returned (.string ⟨⟨bas l⟩⟩) ∧ w' = w := by
  cases hs : star l with
  | true =>
    have := l11Base_any w l hl hs
    unfold bas
    rw [if_pos hs]
    exact this
  | false =>
    have SS := hide (l11Star_any w l hl)
    rw [hs] at SS
    have EQ : Hid (bas l = l) := by
      show _ = _
      unfold bas
      rw [if_neg (by rw [hs]; decide)]
    go_enter Try.func57, Try.ntmps57
    go_wp2_with fail
    refine SS.out.mono ?_
    rintro e w1 ⟨rfl, rfl⟩
    go_wp2
    go_ret
    exact ⟨by rw [EQ.out]; rfl, rfl⟩
set_option maxHeartbeats 4000000 in
theorem specPatternOutside_any (w : World) (p : List UInt8) (g : Nat) (a : Option Addr) (c : Nat) (pm : List (List UInt8)) (g' : Nat) (a' : Option Addr) (c' : Nat) (ex : List (List UInt8)) (hp : p.length ≤ 9223372036854775807) (hr : RdT w g a pm) (hr' : RdT w g' a' ex)
    (l1 : pm.length ≤ 1048576) (l2 : ex.length ≤ 1048576) (m1 : ∀ l ∈ pm, l.length ≤ 9223372036854775807) (m2 : ∀ l ∈ ex, l.length ≤ 9223372036854775807) :
    Calls Try.prog 21 #[.string ⟨⟨p⟩⟩, .slice a pm.length c, .slice a' ex.length c'] w fun e w' => e = .returned (.bool (poB p pm ex)) ∧ Below w.heap.size w w' := by
  have PF := hide (fun w => specPatternFault_any w p hp)
  by_cases f1 : patF p = 0
  · rw [f1] at PF
    have TP := hide (fun w => l11Bas_any w p hp)
    have SS := hide (fun w => l11Star_any w p hp)
    have EQ : Hid (poB p pm ex = ((decide (pm ≠ []) && !pm.any (niB (bas p))) || ex.any fun a => niB (bas p) a || (star p && nmB p a))) := by
      show _ = _
      unfold poB
      rw [decide_eq_false (fun k => k f1)]
      rfl
    have bl : (bas p).length ≤ 9223372036854775807 := by
      unfold bas
      split
      · rw [List.length_drop]; omega
      · exact hp
    clear f1
    generalize bas p = n at *
    have e0 : Hid (((pm.length : Int) == 0) = (decide (pm = []) || (pm.take 0).any (niB n))) := by
      show _ = _
      cases pm with
      | nil => rfl
      | cons x y => simp; omega
    go_enter Try.func21, Try.ntmps21
    go_wp2_with fail
    refine (PF.out w).mono ?_
    rintro e w1 ⟨rfl, n1⟩
    go_wp2_with fail
    refine (TP.out _).mono ?_
    rintro e w2 ⟨rfl, h1⟩
    subst h1
    have N2 := hide n1
    clear n1 PF TP
    go_wp2
    go_loopw [8, 9] (fun b i wr => Below w.heap.size w wr ∧ ∃ k : Nat, k ≤ pm.length ∧ i = .int .i64 k ∧ b = .bool (decide (pm = []) || (pm.take k).any (niB n))) (fun _ i _ => pm.length - (intOf i).toNat)
    case atStart => exact ⟨N2.out, 0, by omega, rfl, by rw [← e0.out]⟩
    case round =>
      obtain ⟨nb, k, hk, rfl, rfl⟩ := hrel
      have HN := hide nb
      by_cases hlt : k < pm.length
      · have t2 : (k : Int) < (pm.length : Int) := by omega
        obtain ⟨off, rfl, hcl⟩ := (hr.up nb) (by omega)
        have c1 := hcl k hlt
        have hx : (pm.getD k []).length ≤ 9223372036854775807 := m1 _ (by simp [hlt])
        have AT := hide (any_take (q := niB n) hlt)
        have NI := hide (specNameInside_any wr n (pm.getD k []) bl hx)
        clear nb hcl hx
        generalize pm.getD k [] = x at *
        unfold tx at c1
        generalize decide (pm = []) = d at *
        generalize (pm.take k).any (niB n) = y at *
        cases hz : niB n x with
        | false =>
          rw [hz] at NI AT
          clear hz
          go_wp2_with fail
          refine NI.out.mono ?_
          rintro e w3 ⟨rfl, n3⟩
          have N4 := hide (nxt HN.out n3)
          clear n3 HN
          go_wp2
          go_roundw
          case rel => exact ⟨N4.out, k + 1, by omega, by go_num, by rw [AT.out, Bool.or_false]⟩
          case measure => simp [intOf]; omega
        | true =>
          rw [hz] at NI AT
          clear hz
          go_wp2_with fail
          refine NI.out.mono ?_
          rintro e w3 ⟨rfl, n3⟩
          have N4 := hide (nxt HN.out n3)
          clear n3 HN
          go_wp2
          go_roundw
          case rel => exact ⟨N4.out, k + 1, by omega, by go_num, by rw [AT.out, Bool.or_true, Bool.or_true]⟩
          case measure => simp [intOf]; omega
      · obtain rfl : k = pm.length := by omega
        rw [List.take_length]
        have E2 : Hid (poB p pm ex = (!(decide (pm = []) || pm.any (niB n)) || ex.any fun a => niB n a || (star p && nmB p a))) := by
          show _ = _
          rw [EQ.out]
          cases pm with
          | nil => rfl
          | cons x y => simp
        clear EQ e0 nb
        generalize (decide (pm = []) || pm.any (niB n)) = d at *
        cases d with
        | false =>
          go_wp2
          go_ret
          exact ⟨by rw [E2.out]; rfl, HN.out⟩
        | true =>
          have E3 := hide (show poB p pm ex = ex.any fun a => niB n a || (star p && nmB p a) by rw [E2.out]; rfl)
          clear E2
          go_wp2
          go_loopw [10] (fun i wr => Below w.heap.size w wr ∧ ∃ k : Nat, k ≤ ex.length ∧ i = .int .i64 k ∧ Hid ((ex.take k).any (fun a => niB n a || (star p && nmB p a)) = false)) (fun i _ => ex.length - (intOf i).toNat)
          case atStart => exact ⟨HN.out, 0, by omega, rfl, by show _ = _; simp⟩
          case round =>
            clear HN
            obtain ⟨nb, k, hk, rfl, hA⟩ := hrel
            have HN := hide nb
            by_cases hlt : k < ex.length
            · have t2 : (k : Int) < (ex.length : Int) := by omega
              obtain ⟨off, rfl, hcl⟩ := (hr'.up nb) (by omega)
              have c1 := hcl k hlt
              have hx : (ex.getD k []).length ≤ 9223372036854775807 := m2 _ (by simp [hlt])
              have AT := hide (any_take (q := fun a => niB n a || (star p && nmB p a)) hlt)
              have AO := hide (fun h => any_of (q := fun a => niB n a || (star p && nmB p a)) hlt h)
              rw [hA.out] at AT
              have NI := hide (specNameInside_any wr n (ex.getD k []) bl hx)
              have NM := hide (fun W => specNameMatches_any W p (ex.getD k []) hp hx)
              clear hA nb hx
              have CL := hide hcl
              clear hcl
              have C2 := hide (fun W (hb : Below wr.heap.size wr W) => (hb.cell (block_lt_of_cell c1)).trans c1)
              generalize ex.getD k [] = x at *
              unfold tx at c1 C2
              cases hz : niB n x with
              | true =>
                rw [hz] at NI
                have AO' := hide (AO.out (by simp only [hz]; rfl))
                clear hz AO AT
                go_wp2_with fail
                refine NI.out.mono ?_
                rintro e w3 ⟨rfl, n3⟩
                have N4 := hide (nxt HN.out n3)
                clear n3 HN
                go_wp2
                go_ret
                exact ⟨by rw [E3.out, AO'.out]; rfl, N4.out⟩
              | false =>
                rw [hz] at NI
                go_wp2_with fail
                refine NI.out.mono ?_
                rintro e w3 ⟨rfl, n3⟩
                have N4 := hide (nxt HN.out n3)
                have c3 := C2.out w3 n3
                clear n3 HN
                cases hs : star p with
                | false =>
                  have AT' := hide (show (ex.take (k + 1)).any (fun a => niB n a || (star p && nmB p a)) = false by rw [AT.out]; simp only [hz, hs]; rfl)
                  have SS' := hide (SS.out w3)
                  rw [hs] at SS'
                  clear AO AT hz hs
                  go_wp2_with fail
                  refine SS'.out.mono ?_
                  rintro e w5 ⟨rfl, h5⟩
                  have h5' := h5.symm
                  subst h5'
                  go_wp2
                  go_roundw
                  case rel => exact ⟨N4.out, k + 1, by omega, by go_num, AT'.out⟩
                  case measure => simp [intOf]; omega
                | true =>
                  have SS' := hide (SS.out w3)
                  rw [hs] at SS'
                  have NM' := hide (NM.out w3)
                  have t3 : (k : Int) < (ex.length : Int) := t2
                  cases hm : nmB p x with
                  | true =>
                    rw [hm] at NM'
                    have AO' := hide (AO.out (by simp only [hz, hs, hm]; rfl))
                    clear AO AT hz hs hm
                    go_wp2_with fail
                    refine SS'.out.mono ?_
                    rintro e w5 ⟨rfl, h5⟩
                    have h5' := h5.symm
                    subst h5'
                    go_wp2_with fail
                    refine NM'.out.mono ?_
                    rintro e w6 ⟨rfl, n6⟩
                    have N7 := hide (nxt N4.out n6)
                    clear n6 N4
                    go_wp2
                    go_ret
                    exact ⟨by rw [E3.out, AO'.out]; rfl, N7.out⟩
                  | false =>
                    rw [hm] at NM'
                    have AT' := hide (show (ex.take (k + 1)).any (fun a => niB n a || (star p && nmB p a)) = false by rw [AT.out]; simp only [hz, hm, Bool.and_false]; rfl)
                    clear AO AT hz hs hm
                    go_wp2_with fail
                    refine SS'.out.mono ?_
                    rintro e w5 ⟨rfl, h5⟩
                    have h5' := h5.symm
                    subst h5'
                    go_wp2_with fail
                    refine NM'.out.mono ?_
                    rintro e w6 ⟨rfl, n6⟩
                    have N7 := hide (nxt N4.out n6)
                    clear n6 N4
                    go_wp2
                    go_roundw
                    case rel => exact ⟨N7.out, k + 1, by omega, by go_num, AT'.out⟩
                    case measure => simp [intOf]; omega
            · obtain rfl : k = ex.length := by omega
              rw [List.take_length] at hA
              have E4 := hide (show poB p pm ex = false by rw [E3.out, hA.out])
              clear nb E3 hA
              go_wp2
              go_ret
              exact ⟨by rw [E4.out]; rfl, HN.out⟩
  · have EQ : Hid (poB p pm ex = true) := by
      show _ = _
      unfold poB
      rw [decide_eq_true f1]
      rfl
    have t2 : (patF p == 0) = false := by simpa using f1
    have t3 : (patF p != 0) = true := by simpa using f1
    generalize patF p = z at *
    go_enter Try.func21, Try.ntmps21
    go_wp2_with fail
    refine (PF.out _).mono ?_
    rintro e w1 ⟨rfl, n1⟩
    go_wp2
    go_ret
    exact ⟨by rw [EQ.out]; rfl, n1⟩
/-- What the row's frame tells of a row of texts that came in. -/
theorem rdT_of_row {w : World} {a : Option Addr} {len cap : Nat} {ss : List ByteArray}
    (h : (a = none ∧ len = 0 ∧ cap = 0 ∧ ss = []) ∨ ∃ x, a = some x ∧ len ≤ cap ∧ cap ≤ maxLen ∧ ss.length = cap ∧ (∀ i, i < ss.length → w.cell? (x.add i) = some (.string (ss.getD i ByteArray.empty))) ∧ ∀ s ∈ ss, s.size ≤ maxLen) :
    ∃ (g : Nat) (ls : List (List UInt8)), ls.length = len ∧ RdT w g a ls ∧ ls.length ≤ 9223372036854775807 ∧ ∀ l ∈ ls, l.length ≤ 9223372036854775807 := by
  rcases h with ⟨rfl, rfl, rfl, rfl⟩ | ⟨x, rfl, hl, hm, hz, hc, hw⟩
  · exact ⟨0, [], rfl, RdT.nil _ _ _, by simp, fun l h => by cases h⟩
  · have hlen : ((ss.take len).map (fun s : ByteArray => s.data.toList)).length = len := by simp; omega
    refine ⟨x.block, (ss.take len).map (fun s : ByteArray => s.data.toList), hlen, ?_, by rw [hlen]; unfold maxLen at hm; omega, ?_⟩
    · intro h0
      rw [hlen] at h0
      obtain ⟨b, off, spot⟩ := x
      have h1 := hc 0 (by omega)
      have hs : spot = none := by simpa [Addr.add] using World.cell?_spot h1
      subst hs
      refine ⟨off, rfl, fun i hi => ?_⟩
      rw [hlen] at hi
      have h2 := hc i (by omega)
      have e : (⟨b, off, none⟩ : Addr).add i = ⟨b, off + i, none⟩ := by
        unfold Addr.add
        split <;> simp_all
      rw [e] at h2
      show w.cell? ⟨b, off + i, none⟩ = _
      rw [h2]
      have hi2 : i < ss.length := by omega
      simp [hi, hi2, tx]
    · intro l hl'
      obtain ⟨s, hs, rfl⟩ := List.mem_map.1 hl'
      have := hw s (List.mem_of_mem_take hs)
      unfold maxLen at this
      exact this
theorem leftT_bound {L : Int} {ls : List (List UInt8)} (h : ¬ leftT L ls < 0) : (ls.length : Int) + sumT ls ≤ L ∧ leftT L ls ≤ L := by
  unfold leftT at *
  split at h
  · exact absurd (by decide) h
  · rename_i k
    rw [if_neg k]
    omega
set_option maxHeartbeats 4000000 in
theorem patternOutside_law (w : World) (s : ByteArray) (hs : s.size ≤ 9223372036854775807) (g : Nat) (a : Option Addr) (c : Nat) (pm : List (List UInt8)) (hr : RdT w g a pm) (l1 : pm.length ≤ 9223372036854775807) (m1 : ∀ l ∈ pm, l.length ≤ 9223372036854775807)
    (g' : Nat) (a' : Option Addr) (c' : Nat) (ex : List (List UInt8)) (hr' : RdT w g' a' ex) (l2 : ex.length ≤ 9223372036854775807) (m2 : ∀ l ∈ ex, l.length ≤ 9223372036854775807) :
    Calls Try.prog 6 #[.string s, .slice a pm.length c, .slice a' ex.length c'] w fun e w' => e = .returned (.bool true) ∧ Below w.heap.size w w' := by
  obtain ⟨⟨p⟩⟩ := s
  have hsz := tx_size p
  rw [hsz] at hs
  by_cases h : 1048576 < p.length
  · have t0 : decide ((1048576 : Int) < (p.length : Int)) = true := by simp; omega
    go_enter Try.func6, Try.ntmps6
    go_wp2
    go_ret
    exact ⟨rfl, Below.refl _ _⟩
  · have t0 : decide ((1048576 : Int) < (p.length : Int)) = false := by simp; omega
    have Z1 := hide (szStringS_any w g a c pm 1048576 hr l1 m1 (by omega) (by omega))
    by_cases h1 : leftT 1048576 pm < 0
    · have t1 : decide (leftT 1048576 pm < 0) = true := decide_eq_true h1
      clear h1
      generalize leftT 1048576 pm = L1 at *
      go_enter Try.func6, Try.ntmps6
      go_wp2_with fail
      refine Z1.out.mono ?_
      rintro e w1 ⟨rfl, k1⟩
      have k1' := k1.symm
      subst k1'
      go_wp2
      go_ret
      exact ⟨rfl, Below.refl _ _⟩
    · have t1 : decide (leftT 1048576 pm < 0) = false := decide_eq_false h1
      obtain ⟨b1, b2⟩ := leftT_bound h1
      have Z2 := hide (szStringS_any w g' a' c' ex (leftT 1048576 pm) hr' l2 m2 (by omega) (by omega))
      generalize leftT 1048576 pm = L1 at *
      by_cases h2 : leftT L1 ex < 0
      · have t2 : decide (leftT L1 ex < 0) = true := decide_eq_true h2
        clear h1 h2 b1 b2
        generalize leftT L1 ex = L2 at *
        go_enter Try.func6, Try.ntmps6
        go_wp2_with fail
        refine Z1.out.mono ?_
        rintro e w1 ⟨rfl, k1⟩
        have k1' := k1.symm
        subst k1'
        go_wp2_with fail
        refine Z2.out.mono ?_
        rintro e w1 ⟨rfl, k1⟩
        have k1' := k1.symm
        subst k1'
        go_wp2
        go_ret
        exact ⟨rfl, Below.refl _ _⟩
      · have t2 : decide (leftT L1 ex < 0) = false := decide_eq_false h2
        obtain ⟨b3, b4⟩ := leftT_bound h2
        have d1 : pm.length ≤ 1048576 := by omega
        have d2 : ex.length ≤ 1048576 := by omega
        clear h1 h2 b1 b2 b3 b4 l1 l2
        generalize leftT L1 ex = L2 at *
        have SP := hide (fun W q1 q2 r1 r2 (x1 : RdT W q1 r1 pm) (x2 : RdT W q2 r2 ex) => specPatternOutside_any W p q1 r1 pm.length pm q2 r2 ex.length ex hs x1 x2 d1 d2 m1 m2)
        have IM := hide (fun W q1 q2 r1 r2 (x1 : RdT W q1 r1 pm) (x2 : RdT W q2 r2 ex) => implPatternOutside_any W p q1 r1 pm.length pm q2 r2 ex.length ex hs x1 x2 d1 d2 m1 m2)
        have T1 := hide (fun W (x : RdT W g a pm) => toStringS_any W g a c pm x d1)
        have T2 := hide (fun W (x : RdT W g' a' ex) => toStringS_any W g' a' c' ex x d2)
        have EP := hide (fun W q1 q2 r1 r2 (x1 : RdT W q1 r1 pm) (x2 : RdT W q2 r2 pm) => eqStringS_same W q1 q2 r1 r2 pm.length pm.length pm x1 x2 d1)
        have EE := hide (fun W q1 q2 r1 r2 (x1 : RdT W q1 r1 ex) (x2 : RdT W q2 r2 ex) => eqStringS_same W q1 q2 r1 r2 ex.length ex.length ex x1 x2 d2)
        have HR := hide hr
        have HR' := hide hr'
        clear hr hr' m1 m2 d1 d2
        generalize poB p pm ex = z at *
        go_enter Try.func6, Try.ntmps6
        go_wp2_with fail
        refine Z1.out.mono ?_
        rintro e w1 ⟨rfl, k1⟩
        have k1' := k1.symm
        subst k1'
        go_wp2_with fail
        refine Z2.out.mono ?_
        rintro e w1 ⟨rfl, k1⟩
        have k1' := k1.symm
        subst k1'
        clear Z1 Z2
        go_wp2_with fail
        refine (T1.out w HR.out).mono ?_
        rintro e w1 ⟨rfl, B1, n1⟩
        go_wp2_with fail
        refine (T2.out w1 (HR'.out.up n1)).mono ?_
        rintro e w2 ⟨rfl, B2, n2⟩
        have N2 := nxt n1 n2
        go_wp2_with fail
        refine (SP.out w2 _ _ _ _ (B1.up n2).rd B2.rd).mono ?_
        rintro e w3 ⟨rfl, n3⟩
        have N3 := nxt N2 n3
        clear B1 B2 n1 n2 n3 N2 SP
        go_wp2_with fail
        refine (T1.out w3 (HR.out.up N3)).mono ?_
        rintro e w4 ⟨rfl, B4, n4⟩
        have N4 := nxt N3 n4
        go_wp2_with fail
        refine (T2.out w4 (HR'.out.up N4)).mono ?_
        rintro e w5 ⟨rfl, B5, n5⟩
        have N5 := nxt N4 n5
        have B4' := B4.up n5
        go_wp2_with fail
        refine (IM.out w5 _ _ _ _ B4'.rd B5.rd).mono ?_
        rintro e w6 ⟨rfl, n6⟩
        have N6 := nxt N5 n6
        have R4 := hide (B4'.up n6).rd
        have R5 := hide (B5.up n6).rd
        clear B4 B4' B5 n4 n5 n6 N3 N4 N5
        have zz : (z != z) = false := by cases z <;> rfl
        have N6h := hide N6
        clear N6
        go_wp2_with fail
        refine (T1.out w6 (HR.out.up N6h.out)).mono ?_
        rintro e w7 ⟨rfl, B7, n7⟩
        have N7 := hide (nxt N6h.out n7)
        have R4' := R4.out.up n7
        have R5' := hide (R5.out.up n7)
        clear R4 R5 n7 N6h
        go_wp2_with fail
        refine (EP.out w7 _ _ _ _ R4' B7.rd).mono ?_
        rintro e w8 ⟨rfl, n8⟩
        have N8 := hide (nxt N7.out n8)
        have R5b := hide (R5'.out.up n8)
        clear R4' B7 n8 N7 R5'
        go_wp2_with fail
        refine (T2.out w8 (HR'.out.up N8.out)).mono ?_
        rintro e w9 ⟨rfl, B9, n9⟩
        have N9 := hide (nxt N8.out n9)
        have R5c := R5b.out.up n9
        clear n9 N8 R5b
        go_wp2_with fail
        refine (EE.out w9 _ _ _ _ R5c B9.rd).mono ?_
        rintro e w10 ⟨rfl, n10⟩
        have N10 := hide (nxt N9.out n10)
        clear n10 N9
        go_wp2
        go_ret
        exact ⟨rfl, N10.out⟩
end Go.Proofs.Ytheggghidhjplaa
