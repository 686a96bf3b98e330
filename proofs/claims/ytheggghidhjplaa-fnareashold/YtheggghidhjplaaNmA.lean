
/-
  The program's NameMatches and NameInside.
-/
import Derived.Test.YtheggghidhjplaaNmN
namespace Go.Proofs.Ytheggghidhjplaa
open Go Go.RowKit

theorem suf_iff (n a : List UInt8) : decide (n.drop (n.length - a.length) = a) = a.isSuffixOf n := by
  rw [Bool.eq_iff_iff, decide_eq_true_eq, List.isSuffixOf_iff_suffix]
  constructor
  · intro e
    have := List.take_append_drop (n.length - a.length) n
    rw [e] at this
    exact ⟨_, this⟩
  · rintro ⟨x, rfl⟩
    simp
theorem suf_none (n a : List UInt8) (h : n.length < a.length) : a.isSuffixOf n = false := by
  cases k : a.isSuffixOf n with
  | false => rfl
  | true =>
    have := (List.isSuffixOf_iff_suffix.1 k).length_le
    omega
theorem beq_dec (a b : List UInt8) : (a == b) = decide (a = b) := by
  rw [Bool.eq_iff_iff]
  simp

set_option maxHeartbeats 1000000 in
theorem litIndex_any (w : World) (l : List UInt8) :
    Calls Try.prog 131 #[.string ⟨⟨l⟩⟩, .string ⟨#[46]⟩] w fun e w' => e = .returned (.int .i64 (Lib.indexByte l 46)) ∧ w' = w := by
  have hsz := tx_size l
  by_cases h : l = [46]
  · have e0 : Hid (Lib.indexByte l 46 = 0) := by
      subst h
      exact rfl
    have e1 : (([46] : List UInt8) == l) = true := by
      rw [h]
      rfl
    clear h
    go_enter Try.func131, Try.ntmps131
    go_wp2
    go_ret
    exact ⟨by rw [e0.out]; rfl, rfl⟩
  · have e1 : (([46] : List UInt8) == l) = false := by
      rw [beq_eq_false_iff_ne]
      exact fun k => h k.symm
    have IB : ∀ w, Hid (Calls Try.prog 129 #[.string ⟨⟨l⟩⟩, .int .u8 46] w fun e w' => e = .returned (.int .i64 (Lib.indexByte l 46)) ∧ w' = w) := by
      intro w
      have K := fun w => call_idx l w
      show Calls _ _ _ _ _
      generalize Lib.indexByte l 46 = z at *
      go_enter Try.func129, Try.ntmps129
      go_wp2
      go_ret
      exact ⟨rfl, rfl⟩
    generalize Lib.indexByte l 46 = z at *
    go_enter Try.func131, Try.ntmps131
    go_wp2_with fail
    refine (IB w).out.mono ?_
    rintro e w1 ⟨rfl, rfl⟩
    go_wp2
    go_ret
    exact ⟨rfl, rfl⟩
/-- What stands ahead of the first point. -/
def ahd (h : List UInt8) : List UInt8 := if 0 ≤ Lib.indexByte h 46 then h.take (Lib.indexByte h 46).toNat else h
set_option maxHeartbeats 1000000 in
theorem cut_any (w : World) (l : List UInt8) (hl : l.length ≤ 9223372036854775807) :
    Calls Try.prog 60 #[.string ⟨⟨l⟩⟩, .string ⟨#[46]⟩] w fun e w' => e = .returned (.tuple #[.string ⟨⟨ahd l⟩⟩, .string ⟨⟨beh l⟩⟩, .bool (decide (0 ≤ Lib.indexByte l 46))]) ∧ Below w.heap.size w w' := by
  have hsz := tx_size l
  have C : ∀ w, Hid (Calls Try.prog 101 #[.string ⟨⟨l⟩⟩, .string ⟨#[46]⟩] w fun e w' => e = .returned (.tuple #[.string ⟨⟨ahd l⟩⟩, .string ⟨⟨beh l⟩⟩, .bool (decide (0 ≤ Lib.indexByte l 46))]) ∧ Below w.heap.size w w') := by
    intro w
    show Calls _ _ _ _ _
    have LI := hide (litIndex_any w l)
    by_cases k : 0 ≤ Lib.indexByte l 46
    · have A1 : ahd l = l.take (Lib.indexByte l 46).toNat := if_pos k
      have A2 : beh l = l.drop ((Lib.indexByte l 46).toNat + 1) := if_pos k
      rw [A1, A2, decide_eq_true k]
      have lt := (idx_split l k).1
      obtain ⟨i, hi⟩ : ∃ i : Nat, Lib.indexByte l 46 = (i : Int) := ⟨(Lib.indexByte l 46).toNat, by omega⟩
      rw [hi] at LI lt ⊢
      simp only [Int.toNat_natCast] at lt ⊢
      clear A1 A2 k hi
      have x1 : (ByteArray.mk ⟨l⟩).extract 0 i = ByteArray.mk ⟨l.take i⟩ := by
        have := ByteArray.extract_mk l 0 i
        simpa using this
      have x2 : (ByteArray.mk ⟨l⟩).extract (i + 1) l.length = ByteArray.mk ⟨l.drop (i + 1)⟩ := by
        have := ByteArray.extract_mk l (i + 1) l.length
        rw [List.take_of_length_le (by rw [List.length_drop]; omega)] at this
        exact this
      have t0 : (0 : Int) ≤ (i : Int) := by omega
      have t1 : (i : Int) ≤ (l.length : Int) := by omega
      have t2 : (i : Int) + 1 ≤ (l.length : Int) := by omega
      have t3 : (0 : Int) ≤ (i : Int) + 1 := by omega
      have e2 : ((i : Int) + 1).toNat = i + 1 := by omega
      have e3 : IntKind.i64.wrap ((i : Int) + 1) = (i : Int) + 1 := by rw [IntKind.wrap_i64]; omega
      go_enter Try.func101, Try.ntmps101
      go_wp2_with fail
      refine LI.out.mono ?_
      rintro e w1 ⟨rfl, rfl⟩
      go_wp2
      go_region
      go_wp2
      exact bodyPost_ret (v := .tuple #[.string ⟨⟨l.take i⟩⟩, .string ⟨⟨l.drop (i + 1)⟩⟩, .bool true]) (by simp [results, Try.results101, go_sem]) rfl ⟨rfl, below_drewN (Below.refl _ _) _⟩
    · have A1 : ahd l = l := if_neg k
      have A2 : beh l = [] := if_neg k
      rw [A1, A2, decide_eq_false k]
      have t0 : decide ((0 : Int) ≤ Lib.indexByte l 46) = false := decide_eq_false k
      clear A1 A2 k
      generalize Lib.indexByte l 46 = z at *
      go_enter Try.func101, Try.ntmps101
      go_wp2_with fail
      refine LI.out.mono ?_
      rintro e w1 ⟨rfl, rfl⟩
      go_wp2
      exact bodyPost_ret (v := .tuple #[.string ⟨⟨l⟩⟩, .string ⟨⟨[]⟩⟩, .bool false]) (by simp [results, Try.results101, go_sem]) rfl ⟨rfl, Below.refl _ _⟩
  generalize ahd l = a at *
  generalize beh l = b at *
  generalize decide (0 ≤ Lib.indexByte l 46) = c at *
  go_enter Try.func60, Try.ntmps60
  go_wp2_with fail
  refine (C w).out.mono ?_
  rintro e w1 ⟨rfl, n1⟩
  go_wp2
  exact bodyPost_ret (v := .tuple #[.string ⟨⟨a⟩⟩, .string ⟨⟨b⟩⟩, .bool c]) (by simp [results, Try.results60, go_sem]) rfl ⟨rfl, n1⟩
set_option maxHeartbeats 1000000 in
theorem hasSuffix_any (w : World) (l a : List UInt8) (hl : l.length ≤ 9223372036854775807) (ha : a.length ≤ 9223372036854775807) :
    Calls Try.prog 55 #[.string ⟨⟨l⟩⟩, .string ⟨⟨a⟩⟩] w fun e w' => e = .returned (.bool (a.isSuffixOf l)) ∧ w' = w := by
  have hsz := tx_size l
  have hsa := tx_size a
  have C : ∀ w, Hid (Calls Try.prog 98 #[.string ⟨⟨l⟩⟩, .string ⟨⟨a⟩⟩] w fun e w' => e = .returned (.bool (a.isSuffixOf l)) ∧ w' = w) := by
    intro w
    show Calls _ _ _ _ _
    by_cases h : a.length ≤ l.length
    · have t1 : decide ((a.length : Int) ≤ (l.length : Int)) = true := by simp; omega
      have ex : (ByteArray.mk ⟨l⟩).extract (l.length - a.length) l.length = ByteArray.mk ⟨l.drop (l.length - a.length)⟩ := by
        have := ByteArray.extract_mk l (l.length - a.length) l.length
        rw [List.take_of_length_le (by rw [List.length_drop]; omega)] at this
        exact this
      have hs : Hid (a.isSuffixOf l = (l.drop (l.length - a.length) == a)) := by
        show _ = _
        rw [beq_dec, suf_iff]
      have e1 : IntKind.i64.wrap ((l.length : Int) - (a.length : Int)) = ((l.length - a.length : Nat) : Int) := by
        rw [IntKind.wrap_i64]
        omega
      have t2 : ((l.length - a.length : Nat) : Int) ≤ (l.length : Int) := by omega
      go_enter Try.func98, Try.ntmps98
      go_wp2
      go_ret
      refine ⟨?_, rfl⟩
      rw [hs.out]
      simp
    · have t1 : decide ((a.length : Int) ≤ (l.length : Int)) = false := by simp; omega
      have hs : Hid (a.isSuffixOf l = false) := suf_none l a (by omega)
      go_enter Try.func98, Try.ntmps98
      go_wp2
      go_ret
      exact ⟨by rw [hs.out]; rfl, rfl⟩
  generalize a.isSuffixOf l = c at *
  go_enter Try.func55, Try.ntmps55
  go_wp2_with fail
  refine (C w).out.mono ?_
  rintro e w1 ⟨rfl, rfl⟩
  go_wp2
  go_ret
  exact ⟨rfl, rfl⟩
end Go.Proofs.Ytheggghidhjplaa
