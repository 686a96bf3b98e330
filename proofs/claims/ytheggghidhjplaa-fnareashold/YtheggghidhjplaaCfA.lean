
/-
  The program's tests on a certificate's fields.
-/
import Derived.Test.YtheggghidhjplaaCfN
import Derived.Laws.Cover1
namespace Go.Proofs.Ytheggghidhjplaa
open Go Go.RowKit

theorem toList_tx (l : List UInt8) : (ByteArray.mk ⟨l⟩).toList = l := by simp
set_option maxHeartbeats 1000000 in
theorem isSerial_any (w : World) (g : Nat) (a : Option Addr) (c : Nat) (xs : List Int) (hr : Rd w g a .u8 xs) :
    Calls Try.prog 116 #[.slice a xs.length c] w fun e w' => e = .returned (.bool (decide (1 ≤ xs.length) && decide (xs.length ≤ 20) && decide (xs.getD 0 0 ≠ 0))) ∧ w' = w := by
  by_cases h1 : 1 ≤ xs.length
  · have t1 : decide ((1 : Int) ≤ (xs.length : Int)) = true := decide_eq_true (by omega)
    by_cases h2 : xs.length ≤ 20
    · have t2 : decide ((xs.length : Int) ≤ 20) = true := decide_eq_true (by omega)
      obtain ⟨off, rfl, hc⟩ := hr (by omega)
      have c1 := hc 0 (by omega)
      have t3 : (0 : Int) < (xs.length : Int) := by omega
      have EQ : Hid ((decide (1 ≤ xs.length) && decide (xs.length ≤ 20) && decide (xs.getD 0 0 ≠ 0)) = (xs.getD 0 0 != 0)) := by
        show _ = _
        rw [decide_eq_true h1, decide_eq_true h2]
        generalize xs.getD 0 0 = x
        by_cases e : x = 0 <;> simp [e]
      rw [Nat.add_zero] at c1
      rw [EQ.out]
      clear EQ hc h1 h2
      generalize xs.getD 0 0 = x at *
      go_enter Try.func116, Try.ntmps116
      go_wp2
      go_ret
      exact ⟨rfl, rfl⟩
    · have t2 : decide ((xs.length : Int) ≤ 20) = false := decide_eq_false (by omega)
      have EQ : Hid ((decide (1 ≤ xs.length) && decide (xs.length ≤ 20) && decide (xs.getD 0 0 ≠ 0)) = false) := by
        show _ = _
        rw [decide_eq_false h2]
        simp
      rw [EQ.out]
      clear EQ h1 h2
      go_enter Try.func116, Try.ntmps116
      go_wp2
      go_ret
      exact ⟨rfl, rfl⟩
  · have t1 : decide ((1 : Int) ≤ (xs.length : Int)) = false := decide_eq_false (by omega)
    have EQ : Hid ((decide (1 ≤ xs.length) && decide (xs.length ≤ 20) && decide (xs.getD 0 0 ≠ 0)) = false) := by
      show _ = _
      rw [decide_eq_false h1]
      rfl
    rw [EQ.out]
    clear EQ h1
    go_enter Try.func116, Try.ntmps116
    go_wp2
    go_ret
    exact ⟨rfl, rfl⟩
theorem all_take {l : List UInt8} {q : UInt8 → Bool} {k : Nat} (hk : k < l.length) : (l.take (k + 1)).all q = ((l.take k).all q && q (l.getD k 0)) := by
  have e : l.take (k + 1) = l.take k ++ [l.getD k 0] := by
    rw [List.take_succ_eq_append_getElem hk]
    congr 2
    simp [hk]
  rw [e]
  simp
theorem all_not {l : List UInt8} {q : UInt8 → Bool} {k : Nat} (hk : k < l.length) (h : q (l.getD k 0) = false) : l.all q = false := by
  rw [List.all_eq_false]
  exact ⟨l.getD k 0, by simp [hk], by rw [h]; decide⟩
set_option maxHeartbeats 1000000 in
theorem isTitle_any (w : World) (l : List UInt8) (hl : l.length ≤ 9223372036854775807) :
    Calls Try.prog 117 #[.string ⟨⟨l⟩⟩] w fun e w' => e = .returned (.bool (ttl l)) ∧ w' = w := by
  have hsz := tx_size l
  by_cases h0 : l.length < 1
  · have eN : Hid (ttl l = false) := by
      show _ = _
      unfold ttl
      rw [decide_eq_false (by omega)]
      rfl
    have eq0 : l.isEmpty = true := by cases l with | nil => rfl | cons a b => simp at h0
    go_enter Try.func117, Try.ntmps117
    go_wp2
    go_ret
    exact ⟨by rw [eN.out]; rfl, rfl⟩
  · have eq0 : l.isEmpty = false := by cases l with | nil => simp at h0 | cons a b => rfl
    by_cases h1 : 64 < l.length
    · have eN : Hid (ttl l = false) := by
        show _ = _
        unfold ttl
        rw [decide_eq_false (show ¬ l.length ≤ 64 by omega)]
        simp
      have t1 : decide ((64 : Int) < (l.length : Int)) = true := by simp; omega
      go_enter Try.func117, Try.ntmps117
      go_wp2
      go_ret
      exact ⟨by rw [eN.out]; rfl, rfl⟩
    · have eN : Hid (ttl l = l.all titB) := by
        show _ = _
        unfold ttl
        rw [decide_eq_true (show 1 ≤ l.length by omega), decide_eq_true (show l.length ≤ 64 by omega)]
        rfl
      have t1 : decide ((64 : Int) < (l.length : Int)) = false := by simp; omega
      go_enter Try.func117, Try.ntmps117
      go_wp2
      go_loopw [13] (fun i wr => wr = w ∧ ∃ k : Nat, k ≤ l.length ∧ i = .int .i64 k ∧ Hid ((l.take k).all titB = true)) (fun i _ => l.length - (intOf i).toNat)
      case atStart => exact ⟨rfl, 0, by omega, rfl, by show _ = _; simp⟩
      case round =>
        obtain ⟨e1, k, hk, rfl, hA⟩ := hrel
        subst e1
        by_cases hlt : k < l.length
        · have t2 : (k : Int) < (l.length : Int) := by omega
          have ix := fun w => run_tx (P := Try.prog) w 9 l k Try.underlying9 hlt
          have AT := hide (all_take (q := titB) hlt)
          have AN := hide (fun h => all_not (q := titB) hlt h)
          rw [hA.out] at AT
          clear hA
          generalize l.getD k 0 = x at *
          by_cases q1 : (x.toNat : Int) < 32
          · have d1 : decide ((x.toNat : Int) < 32) = true := decide_eq_true q1
            have E2 := hide (AN.out (by unfold titB; rw [decide_eq_false (by omega)]; rfl))
            clear AT AN q1
            generalize (x.toNat : Int) = y at *
            go_wp2
            go_ret
            exact ⟨by rw [eN.out, E2.out]; rfl, rfl⟩
          · have d1 : decide ((x.toNat : Int) < 32) = false := decide_eq_false q1
            by_cases q2 : 126 < (x.toNat : Int)
            · have d2 : decide (126 < (x.toNat : Int)) = true := decide_eq_true q2
              have E2 := hide (AN.out (by unfold titB; rw [decide_eq_false (show ¬ (x.toNat : Int) ≤ 126 by omega)]; simp))
              clear AT AN q1 q2
              generalize (x.toNat : Int) = y at *
              go_wp2
              go_ret
              exact ⟨by rw [eN.out, E2.out]; rfl, rfl⟩
            · have d2 : decide (126 < (x.toNat : Int)) = false := decide_eq_false q2
              have E2 := hide (show (l.take (k + 1)).all titB = true by rw [AT.out]; unfold titB; rw [decide_eq_true (show (32 : Int) ≤ (x.toNat : Int) by omega), decide_eq_true (show (x.toNat : Int) ≤ 126 by omega)]; rfl)
              clear AT AN q1 q2
              generalize (x.toNat : Int) = y at *
              go_wp2
              go_roundw
              case rel => exact ⟨by simp, k + 1, by omega, by go_num, E2.out⟩
              case measure => simp [intOf]; omega
        · obtain rfl : k = l.length := by omega
          rw [List.take_length] at hA
          have E2 := hide (show ttl l = true by rw [eN.out, hA.out])
          clear hA
          go_wp2
          go_ret
          exact ⟨by rw [E2.out]; rfl, rfl⟩
set_option maxHeartbeats 1000000 in
theorem isField_any (w : World) (a : Option Addr) (c n : Nat) :
    Calls Try.prog 118 #[.slice a n c] w fun e w' => e = .returned (.bool (decide (n = 32))) ∧ w' = w := by
  have e : decide (n = 32) = ((n : Int) == 32) := by
    rw [Bool.eq_iff_iff]
    simp
    omega
  rw [e]
  go_enter Try.func118, Try.ntmps118
  go_wp2
  go_ret
  exact ⟨rfl, rfl⟩
set_option maxHeartbeats 2000000 in
theorem risN_any (w : World) (g : Nat) (a : Option Addr) (c : Nat) (ls : List (List UInt8)) (hr : RdT w g a ls) (hm : ∀ l ∈ ls, l.length ≤ 9223372036854775807) (hn : ls.length ≤ 9223372036854775807) :
    Calls Try.prog 119 #[.slice a ls.length c, .func (.func 19) #[] #[]] w fun e w' => e = .returned (.bool (ris nameF ls)) ∧ w' = w := by
  by_cases h0 : 16 < ls.length
  · have t0 : decide ((16 : Int) < (ls.length : Int)) = true := decide_eq_true (by omega)
    have EQ : Hid (ris nameF ls = false) := by
      show _ = _
      unfold ris
      rw [decide_eq_false (by omega)]
      rfl
    go_enter Try.func119, Try.ntmps119
    go_wp2
    go_ret
    exact ⟨by rw [EQ.out]; rfl, rfl⟩
  · have t0 : decide ((16 : Int) < (ls.length : Int)) = false := decide_eq_false (by omega)
    have EQ : Hid (ris nameF ls = risK nameF ls ls.length) := by
      show _ = _
      unfold ris
      rw [decide_eq_true (by omega)]
      rfl
    have M := fun k (h : k ≤ ls.length) h' => hide (risK_mono (F := nameF) (ls := ls) h h')
    go_enter Try.func119, Try.ntmps119
    go_wp2
    go_loopw [12] (fun i wr => wr = w ∧ ∃ k : Nat, k ≤ ls.length ∧ i = .int .i64 k ∧ Hid (risK nameF ls k = true)) (fun i _ => ls.length - (intOf i).toNat)
    case atStart => exact ⟨rfl, 0, by omega, rfl, rfl⟩
    case round =>
      obtain ⟨e1, k, hk, rfl, hA⟩ := hrel
      subst e1
      by_cases hlt : k < ls.length
      · have t2 : (k : Int) < (ls.length : Int) := by omega
        obtain ⟨off, rfl, hc⟩ := hr (by omega)
        have c1 := hc k hlt
        have hx : (ls.getD k []).length ≤ 9223372036854775807 := hm _ (by simp [hlt])
        have CC := hide (implNameFault_any wr (ls.getD k []) hx)
        have RS : Hid (risK nameF ls (k + 1) = (decide (nameF (ls.getD k []) = 0) && (decide (k = 0) || Op.bytesLess (ls.getD (k - 1) []) (ls.getD k [])))) := by
          show (risK nameF ls k && _ && _) = _
          rw [hA.out, Bool.true_and]
        have FL := fun h' => hide (show ris nameF ls = false by rw [EQ.out]; exact (M (k + 1) (by omega) h').out)
        have HC := hide hc
        clear hA M hc
        by_cases f0 : nameF (ls.getD k []) = 0
        · rw [f0] at CC RS
          by_cases k0 : k = 0
          · subst k0
            rw [Nat.add_zero] at c1
            rw [show ((0 : Nat) : Int) = 0 from rfl] at t2 ⊢
            have R2 := hide (show risK nameF ls 1 = true by rw [RS.out]; rfl)
            clear RS FL f0
            have d0 : decide ((0 : Int) < 0) = false := rfl
            generalize ls.getD 0 [] = x at *
            unfold tx at c1
            go_wp2_with fail
            refine CC.out.mono ?_
            rintro e w1 ⟨rfl, h1⟩
            have h1' := h1.symm
            subst h1'
            go_wp2
            go_roundw
            case rel => exact ⟨by simp, 1, by omega, by go_num, R2.out⟩
            case measure => simp [intOf]; omega
          · have c2 := HC.out (k - 1) (by omega)
            have d0 : decide ((0 : Int) < (k : Int)) = true := decide_eq_true (by omega)
            have d0' : 0 < k := by omega
            have s1 : IntKind.i64.wrap ((k : Int) - 1) = ((k - 1 : Nat) : Int) := by rw [IntKind.wrap_i64]; omega
            have b1 : ((k - 1 : Nat) : Int) < (ls.length : Int) := by omega
            have TL := hide (less_total (ls.getD (k - 1) []) (ls.getD k []))
            rw [decide_eq_false k0, Bool.false_or, decide_eq_true (rfl : (0 : Int) = 0), Bool.true_and] at RS
            generalize ls.getD k [] = x at *
            generalize ls.getD (k - 1) [] = y at *
            generalize k - 1 = k1 at *
            unfold tx at c1 c2
            have bx : (ByteArray.mk ⟨x⟩).toList = x := toList_tx x
            have by' : (ByteArray.mk ⟨y⟩).toList = y := toList_tx y
            cases hz : Op.bytesLess y x with
            | true =>
              rw [hz] at RS TL
              have R2 := hide RS.out
              have d1 : (Op.bytesLess x y || x == y) = false := TL.out
              clear RS FL f0 hz TL k0
              go_wp2_with fail
              refine CC.out.mono ?_
              rintro e w1 ⟨rfl, h1⟩
              have h1' := h1.symm
              subst h1'
              go_wp2
              go_roundw
              case rel => exact ⟨by simp, k + 1, by omega, by go_num, R2.out⟩
              case measure => simp [intOf]; omega
            | false =>
              rw [hz] at RS TL
              have R2 := FL RS.out
              have d1 : (Op.bytesLess x y || x == y) = true := TL.out
              clear RS FL f0 hz TL k0
              go_wp2_with fail
              refine CC.out.mono ?_
              rintro e w1 ⟨rfl, h1⟩
              have h1' := h1.symm
              subst h1'
              go_wp2
              go_ret
              exact ⟨by rw [R2.out]; rfl, rfl⟩
        · have t4 : (nameF (ls.getD k []) == 0) = false := by simpa using f0
          have t5 : (nameF (ls.getD k []) != 0) = true := by simpa using f0
          have R2 := FL (by rw [RS.out, decide_eq_false f0]; rfl)
          clear RS FL
          generalize nameF (ls.getD k []) = z at *
          generalize ls.getD k [] = x at *
          unfold tx at c1
          go_wp2_with fail
          refine CC.out.mono ?_
          rintro e w1 ⟨rfl, h1⟩
          have h1' := h1.symm
          subst h1'
          go_wp2
          go_ret
          exact ⟨by rw [R2.out]; rfl, rfl⟩
      · obtain rfl : k = ls.length := by omega
        have R2 := hide (show ris nameF ls = true by rw [EQ.out, hA.out])
        clear hA M
        go_wp2
        go_ret
        exact ⟨by rw [R2.out]; rfl, rfl⟩
set_option maxHeartbeats 2000000 in
theorem risP_any (w : World) (g : Nat) (a : Option Addr) (c : Nat) (ls : List (List UInt8)) (hr : RdT w g a ls) (hm : ∀ l ∈ ls, l.length ≤ 9223372036854775807) (hn : ls.length ≤ 9223372036854775807) :
    Calls Try.prog 119 #[.slice a ls.length c, .func (.func 58) #[] #[]] w fun e w' => e = .returned (.bool (ris patF ls)) ∧ w' = w := by
  by_cases h0 : 16 < ls.length
  · have t0 : decide ((16 : Int) < (ls.length : Int)) = true := decide_eq_true (by omega)
    have EQ : Hid (ris patF ls = false) := by
      show _ = _
      unfold ris
      rw [decide_eq_false (by omega)]
      rfl
    go_enter Try.func119, Try.ntmps119
    go_wp2
    go_ret
    exact ⟨by rw [EQ.out]; rfl, rfl⟩
  · have t0 : decide ((16 : Int) < (ls.length : Int)) = false := decide_eq_false (by omega)
    have EQ : Hid (ris patF ls = risK patF ls ls.length) := by
      show _ = _
      unfold ris
      rw [decide_eq_true (by omega)]
      rfl
    have M := fun k (h : k ≤ ls.length) h' => hide (risK_mono (F := patF) (ls := ls) h h')
    go_enter Try.func119, Try.ntmps119
    go_wp2
    go_loopw [12] (fun i wr => wr = w ∧ ∃ k : Nat, k ≤ ls.length ∧ i = .int .i64 k ∧ Hid (risK patF ls k = true)) (fun i _ => ls.length - (intOf i).toNat)
    case atStart => exact ⟨rfl, 0, by omega, rfl, rfl⟩
    case round =>
      obtain ⟨e1, k, hk, rfl, hA⟩ := hrel
      subst e1
      by_cases hlt : k < ls.length
      · have t2 : (k : Int) < (ls.length : Int) := by omega
        obtain ⟨off, rfl, hc⟩ := hr (by omega)
        have c1 := hc k hlt
        have hx : (ls.getD k []).length ≤ 9223372036854775807 := hm _ (by simp [hlt])
        have CC := hide (implPatternFault_any wr (ls.getD k []) hx)
        have RS : Hid (risK patF ls (k + 1) = (decide (patF (ls.getD k []) = 0) && (decide (k = 0) || Op.bytesLess (ls.getD (k - 1) []) (ls.getD k [])))) := by
          show (risK patF ls k && _ && _) = _
          rw [hA.out, Bool.true_and]
        have FL := fun h' => hide (show ris patF ls = false by rw [EQ.out]; exact (M (k + 1) (by omega) h').out)
        have HC := hide hc
        clear hA M hc
        by_cases f0 : patF (ls.getD k []) = 0
        · rw [f0] at CC RS
          by_cases k0 : k = 0
          · subst k0
            rw [Nat.add_zero] at c1
            rw [show ((0 : Nat) : Int) = 0 from rfl] at t2 ⊢
            have R2 := hide (show risK patF ls 1 = true by rw [RS.out]; rfl)
            clear RS FL f0
            have d0 : decide ((0 : Int) < 0) = false := rfl
            generalize ls.getD 0 [] = x at *
            unfold tx at c1
            go_wp2_with fail
            refine CC.out.mono ?_
            rintro e w1 ⟨rfl, h1⟩
            have h1' := h1.symm
            subst h1'
            go_wp2
            go_roundw
            case rel => exact ⟨by simp, 1, by omega, by go_num, R2.out⟩
            case measure => simp [intOf]; omega
          · have c2 := HC.out (k - 1) (by omega)
            have d0 : decide ((0 : Int) < (k : Int)) = true := decide_eq_true (by omega)
            have d0' : 0 < k := by omega
            have s1 : IntKind.i64.wrap ((k : Int) - 1) = ((k - 1 : Nat) : Int) := by rw [IntKind.wrap_i64]; omega
            have b1 : ((k - 1 : Nat) : Int) < (ls.length : Int) := by omega
            have TL := hide (less_total (ls.getD (k - 1) []) (ls.getD k []))
            rw [decide_eq_false k0, Bool.false_or, decide_eq_true (rfl : (0 : Int) = 0), Bool.true_and] at RS
            generalize ls.getD k [] = x at *
            generalize ls.getD (k - 1) [] = y at *
            generalize k - 1 = k1 at *
            unfold tx at c1 c2
            have bx : (ByteArray.mk ⟨x⟩).toList = x := toList_tx x
            have by' : (ByteArray.mk ⟨y⟩).toList = y := toList_tx y
            cases hz : Op.bytesLess y x with
            | true =>
              rw [hz] at RS TL
              have R2 := hide RS.out
              have d1 : (Op.bytesLess x y || x == y) = false := TL.out
              clear RS FL f0 hz TL k0
              go_wp2_with fail
              refine CC.out.mono ?_
              rintro e w1 ⟨rfl, h1⟩
              have h1' := h1.symm
              subst h1'
              go_wp2
              go_roundw
              case rel => exact ⟨by simp, k + 1, by omega, by go_num, R2.out⟩
              case measure => simp [intOf]; omega
            | false =>
              rw [hz] at RS TL
              have R2 := FL RS.out
              have d1 : (Op.bytesLess x y || x == y) = true := TL.out
              clear RS FL f0 hz TL k0
              go_wp2_with fail
              refine CC.out.mono ?_
              rintro e w1 ⟨rfl, h1⟩
              have h1' := h1.symm
              subst h1'
              go_wp2
              go_ret
              exact ⟨by rw [R2.out]; rfl, rfl⟩
        · have t4 : (patF (ls.getD k []) == 0) = false := by simpa using f0
          have t5 : (patF (ls.getD k []) != 0) = true := by simpa using f0
          have R2 := FL (by rw [RS.out, decide_eq_false f0]; rfl)
          clear RS FL
          generalize patF (ls.getD k []) = z at *
          generalize ls.getD k [] = x at *
          unfold tx at c1
          go_wp2_with fail
          refine CC.out.mono ?_
          rintro e w1 ⟨rfl, h1⟩
          have h1' := h1.symm
          subst h1'
          go_wp2
          go_ret
          exact ⟨by rw [R2.out]; rfl, rfl⟩
      · obtain rfl : k = ls.length := by omega
        have R2 := hide (show ris patF ls = true by rw [EQ.out, hA.out])
        clear hA M
        go_wp2
        go_ret
        exact ⟨by rw [R2.out]; rfl, rfl⟩
end Go.Proofs.Ytheggghidhjplaa
