
/-
  The program's PatternFault.
-/
import Derived.Test.YtheggghidhjplaaLpA
namespace Go.Proofs.Ytheggghidhjplaa
open Go Go.RowKit

theorem idx_dot : ∀ l : List UInt8, Lib.indexByte l 46 < 0 ↔ dot l = false
  | [] => by simp [Lib.indexByte, dot]
  | c :: l => by
    have ih := idx_dot l
    have ge := Lib.indexByte_ge l 46
    have e : dot (c :: l) = (decide ((c.toNat : Int) = 46) || dot l) := by simp [dot]
    rw [e]
    unfold Lib.indexByte
    by_cases h : c = 46
    · subst h
      simp
    · have h1 : ¬ ((c.toNat : Int) = 46) := fun k => h (by
        have : c.toNat = 46 := by omega
        exact UInt8.toNat.inj (by rw [this]; rfl))
      have h2 : (c == 46) = false := by simpa using h
      rw [h2, decide_eq_false h1, Bool.false_or, ← ih]
      simp only [Bool.false_eq_true, if_false]
      split
      · rename_i k
        have : Lib.indexByte l 46 = -1 := by simpa using k
        omega
      · rename_i k
        have : Lib.indexByte l 46 ≠ -1 := by simpa using k
        omega

theorem call_idx (l : List UInt8) (w : World) : (callFunc 136 #[.string ⟨⟨l⟩⟩, .int .u8 46]).run Try.prog w = .ok (.value (.int .i64 (Lib.indexByte l 46))) w := by
  rw [run_callFunc_extern Try.func136 (by kernel_rfl) (by kernel_rfl) (by kernel_rfl) (e := Extern.BytealgIndexByte.indexByte) (by kernel_rfl), Lib.run_indexByteString]
  rfl

set_option maxHeartbeats 1000000 in
theorem hasPrefix_any (w : World) (l : List UInt8) (hl : l.length ≤ 9223372036854775807) :
    Calls Try.prog 130 #[.string ⟨⟨l⟩⟩, .string ⟨#[42, 46]⟩] w fun e w' => e = .returned (.bool (star l)) ∧ w' = w := by
  have hsz := tx_size l
  by_cases h : 2 ≤ l.length
  · have t1 : decide ((2 : Int) ≤ (l.length : Int)) = true := by simp; omega
    have ex : (ByteArray.mk ⟨l⟩).extract 0 2 = ByteArray.mk (l.take 2).toArray := by
      have := ByteArray.extract_mk l 0 2
      simpa using this
    have hs : Hid (star l = ((l.take 2) == [42, 46])) := by
      show _ = _
      unfold star
      rw [Bool.eq_iff_iff]
      simp
    go_enter Try.func130, Try.ntmps130
    go_wp2
    go_ret
    refine ⟨?_, rfl⟩
    rw [hs.out]
    simp
  · have t1 : decide ((2 : Int) ≤ (l.length : Int)) = false := by simp; omega
    have hs : Hid (star l = false) := by
      show _ = _
      cases k : star l with
      | false => rfl
      | true => exact absurd (star_len k) h
    go_enter Try.func130, Try.ntmps130
    go_wp2
    go_ret
    exact ⟨by rw [hs.out]; rfl, rfl⟩
set_option maxHeartbeats 1000000 in
theorem indexByte_any (w : World) (l : List UInt8) :
    Calls Try.prog 99 #[.string ⟨⟨l⟩⟩, .int .u8 46] w fun e w' => e = .returned (.int .i64 (Lib.indexByte l 46)) ∧ w' = w := by
  have C : ∀ w, Calls Try.prog 129 #[.string ⟨⟨l⟩⟩, .int .u8 46] w fun e w' => e = .returned (.int .i64 (Lib.indexByte l 46)) ∧ w' = w := by
    intro w
    have K := fun w => call_idx l w
    generalize Lib.indexByte l 46 = z at *
    go_enter Try.func129, Try.ntmps129
    go_wp2
    go_ret
    exact ⟨rfl, rfl⟩
  have C' := hide C
  clear C
  go_enter Try.func99, Try.ntmps99
  go_wp2_with fail
  refine (C'.out w).mono ?_
  rintro e w1 ⟨rfl, rfl⟩
  go_wp2
  go_ret
  exact ⟨rfl, rfl⟩
set_option maxHeartbeats 1000000 in
theorem cutPrefix_any (w : World) (l : List UInt8) (hl : l.length ≤ 9223372036854775807) :
    Calls Try.prog 59 #[.string ⟨⟨l⟩⟩, .string ⟨#[42, 46]⟩] w fun e w' => e = .returned (.tuple #[.string ⟨⟨if star l = true then l.drop 2 else l⟩⟩, .bool (star l)]) ∧ w' = w := by
  have hsz := tx_size l
  have C : ∀ w, Calls Try.prog 100 #[.string ⟨⟨l⟩⟩, .string ⟨#[42, 46]⟩] w fun e w' => e = .returned (.tuple #[.string ⟨⟨if star l = true then l.drop 2 else l⟩⟩, .bool (star l)]) ∧ w' = w := by
    intro w
    have HP := hide (hasPrefix_any w l hl)
    cases hs : star l with
    | false =>
      rw [hs] at HP
      go_enter Try.func100, Try.ntmps100
      go_wp2_with fail
      refine HP.out.mono ?_
      rintro e w1 ⟨rfl, rfl⟩
      go_wp2
      exact bodyPost_ret (v := .tuple #[.string ⟨⟨l⟩⟩, .bool false]) (by simp [results, Try.results100, go_sem]) rfl ⟨rfl, rfl⟩
    | true =>
      rw [hs] at HP
      have h2 := star_len hs
      have ex : (ByteArray.mk ⟨l⟩).extract 2 l.length = ByteArray.mk ⟨l.drop 2⟩ := by
        have := ByteArray.extract_mk l 2 l.length
        rw [List.take_of_length_le (by rw [List.length_drop]; omega)] at this
        exact this
      have t1 : (2 : Int) ≤ (l.length : Int) := by omega
      go_enter Try.func100, Try.ntmps100
      go_wp2_with fail
      refine HP.out.mono ?_
      rintro e w1 ⟨rfl, rfl⟩
      go_wp2
      exact bodyPost_ret (v := .tuple #[.string ⟨⟨l.drop 2⟩⟩, .bool true]) (by simp [results, Try.results100, go_sem]) rfl ⟨rfl, rfl⟩
  have C' := hide C
  clear C
  generalize (if star l = true then l.drop 2 else l) = n at *
  generalize star l = b at *
  go_enter Try.func59, Try.ntmps59
  go_wp2_with fail
  refine (C'.out w).mono ?_
  rintro e w1 ⟨rfl, rfl⟩
  go_wp2
  exact bodyPost_ret (v := .tuple #[.string ⟨⟨n⟩⟩, .bool b]) (by simp [results, Try.results59, go_sem]) rfl ⟨rfl, rfl⟩

set_option maxHeartbeats 2000000 in
theorem implPatternFault_any (w : World) (l : List UInt8) (hl : l.length ≤ 9223372036854775807) :
    Calls Try.prog 58 #[.string ⟨⟨l⟩⟩] w fun e w' => e = .returned (.int .i64 (patF l)) ∧ w' = w := by
  have hsz := tx_size l
  have CP := hide (fun w => cutPrefix_any w l hl)
  cases hs : star l with
  | false =>
    have EQ : Hid (patF l = nameF l) := by show _ = _; unfold patF; rw [if_neg (by rw [hs]; decide)]
    rw [hs] at CP
    simp only [Bool.false_eq_true, if_false] at CP
    have NF := hide (fun w => implNameFault_any w l hl)
    generalize nameF l = r at *
    go_enter Try.func58, Try.ntmps58
    go_wp2_with fail
    refine (CP.out w).mono ?_
    rintro e w1 ⟨rfl, h1⟩
    have h1' := h1.symm
    subst h1'
    go_wp2_with fail
    refine (NF.out w).mono ?_
    rintro e w1 ⟨rfl, h2⟩
    have h2' := h2.symm
    subst h2'
    go_wp2
    go_ret
    exact ⟨by rw [EQ.out]; rfl, rfl⟩
  | true =>
    rw [hs] at CP
    simp only [if_true] at CP
    have NF := hide (fun w => implNameFault_any w (l.drop 2) (by rw [List.length_drop]; omega))
    have IB := hide (fun w => indexByte_any w (l.drop 2))
    have ID := hide (idx_dot (l.drop 2))
    have P0 : Hid (patF l = if 128 < l.length then 1 else if nameF (l.drop 2) ≠ 0 then nameF (l.drop 2) else if dot (l.drop 2) = true then 0 else 6) := by
      show _ = _
      unfold patF
      rw [if_pos hs]
    generalize l.drop 2 = n at *
    by_cases h1 : 128 < l.length
    · have t1 : decide ((128 : Int) < (l.length : Int)) = true := by simp; omega
      have EQ := hide (show patF l = 1 by rw [P0.out, if_pos h1])
      clear P0
      go_enter Try.func58, Try.ntmps58
      go_wp2_with fail
      refine (CP.out w).mono ?_
      rintro e w1 ⟨rfl, h1⟩
      have h1' := h1.symm
      subst h1'
      go_wp2
      go_ret
      exact ⟨by rw [EQ.out]; rfl, rfl⟩
    · have t1 : decide ((128 : Int) < (l.length : Int)) = false := by simp; omega
      have P1 := hide (show patF l = if nameF n ≠ 0 then nameF n else if dot n = true then 0 else 6 by rw [P0.out, if_neg h1])
      clear P0
      go_enter Try.func58, Try.ntmps58
      go_wp2_with fail
      refine (CP.out w).mono ?_
      rintro e w1 ⟨rfl, h1⟩
      have h1' := h1.symm
      subst h1'
      go_wp2_with fail
      refine (NF.out w).mono ?_
      rintro e w1 ⟨rfl, h2⟩
      have h2' := h2.symm
      subst h2'
      clear NF CP h1 h2
      by_cases h3 : nameF n = 0
      · rw [h3] at P1 ⊢
        have P2 := hide (show patF l = if dot n = true then 0 else 6 by rw [P1.out, if_neg (by decide)])
        clear P1 h3
        go_wp2_with fail
        refine (IB.out w).mono ?_
        rintro e w1 ⟨rfl, h2⟩
        have h2' := h2.symm
        subst h2'
        cases hd : dot n with
        | false =>
          have lt := ID.out.2 hd
          have EQ := hide (show patF l = 6 by rw [P2.out, if_neg (by rw [hd]; decide)])
          have t2 : decide (Lib.indexByte n 46 < 0) = true := decide_eq_true lt
          clear P2 ID IB hd h2
          generalize Lib.indexByte n 46 = z at *
          go_wp2
          go_ret
          exact ⟨by rw [EQ.out]; rfl, rfl⟩
        | true =>
          have lt : ¬ Lib.indexByte n 46 < 0 := fun k => by have := ID.out.1 k; rw [hd] at this; cases this
          have EQ := hide (show patF l = 0 by rw [P2.out, if_pos hd])
          have t2 : decide (Lib.indexByte n 46 < 0) = false := decide_eq_false lt
          clear P2 ID IB hd h2
          generalize Lib.indexByte n 46 = z at *
          go_wp2
          go_ret
          exact ⟨by rw [EQ.out]; rfl, rfl⟩
      · have EQ := hide (show patF l = nameF n by rw [P1.out, if_pos h3])
        have t2 : (nameF n == 0) = false := by simpa using h3
        clear P1
        generalize nameF n = z at *
        go_wp2
        go_ret
        exact ⟨by rw [EQ.out]; rfl, rfl⟩
end Go.Proofs.Ytheggghidhjplaa
