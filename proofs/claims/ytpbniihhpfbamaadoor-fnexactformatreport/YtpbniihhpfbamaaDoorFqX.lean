
/-
  The model's words of a line, and its line.
-/
import Derived.Test.YtpbniihhpfbamaaDoorFqV
namespace Go.Proofs.YtpbniihhpfbamaaDoor
set_option maxRecDepth 100000
open Go Go.RowKit

theorem min_it : itL (-9223372036854775808) = [45, 57, 50, 50, 51, 51, 55, 50, 48, 51, 54, 56, 53, 52, 55, 55, 53, 56, 48, 56] := by
  rw [itL, show (-9223372036854775808 : Int) = -((9223372036854775808 : Nat) : Int) from rfl, Lib.itoa_neg _ (by decide), Lib.decDigits_eq, Lib.nDigits_unique 18 9223372036854775808 (by decide) (by decide)]
  decide +kernel
theorem l20Number_any (w : World) (n : Int) (i : I64 n) : Calls Tryd.prog 13 #[.int .i64 n] w fun e w' => e = .returned (tx (itL n)) ∧ Below w.heap.size w w' := by
  by_cases h0 : 0 ≤ n
  · obtain ⟨N, rfl⟩ : ∃ N : Nat, n = (N : Int) := ⟨n.toNat, by omega⟩
    rw [itL, Lib.itoa_nonneg]
    exact l20NumberN w N (by have := i.2; omega)
  by_cases hm : n = -9223372036854775808
  · subst hm
    rw [min_it]
    clear h0 i
    go_enter Tryd.func13, Tryd.ntmps13
    go_wp2
    go_ret
    exact ⟨rfl, Below.refl _ _⟩
  · obtain ⟨N, rfl⟩ : ∃ N : Nat, n = -(N : Int) := ⟨(-n).toNat, by omega⟩
    have i1 := i.1
    have t1 : (-(N : Int) == -9223372036854775808) = false := beq_eq_false_iff_ne.2 hm
    have t2 : decide (-(N : Int) < 0) = true := decide_eq_true (by omega)
    have t2' : decide ((0 : Int) < (N : Int)) = true := decide_eq_true (by omega)
    have t3 : (0 : Int) < (N : Int) := by omega
    have ng : IntKind.i64.wrap (N : Int) = (N : Int) := by rw [IntKind.wrap_i64]; omega
    have CN := hide (l20NumberN w N (by omega))
    have e1 : itL (-(N : Int)) = [45] ++ Lib.decDigits N := by rw [itL, Lib.itoa_neg _ (by omega)]; rfl
    have dl : (Lib.decDigits N).length ≤ 20 := by rw [Lib.decDigits_length]; exact Lib.nDigits_le20 N (by omega)
    have AD : ∀ W : World, (Op.stringOp .add (ByteArray.mk ⟨[45]⟩) (ByteArray.mk ⟨Lib.decDigits N⟩)).run Tryd.prog W = .ok (.string ⟨⟨[45] ++ Lib.decDigits N⟩⟩) W := fun W => tx_add W _ _ (by simp; omega)
    rw [e1]
    generalize [45] ++ Lib.decDigits N = T at *
    generalize Lib.decDigits N = D at *
    clear e1 dl i
    go_enter Tryd.func13, Tryd.ntmps13
    go_wp2_with fail
    refine CN.out.mono ?_
    rintro e w1 ⟨rfl, n1⟩
    have NN := hide n1
    clear n1 CN
    unfold tx
    go_wp2
    go_ret
    exact ⟨rfl, NN.out⟩
theorem l20Flag_any (w : World) (b : Bool) : Calls Tryd.prog 32 #[.bool b] w fun e w' => e = .returned (tx (flT b)) ∧ Below w.heap.size w w' := by
  cases b with
  | true =>
    go_enter Tryd.func32, Tryd.ntmps32
    go_wp2
    go_ret
    exact ⟨rfl, Below.refl _ _⟩
  | false =>
    go_enter Tryd.func32, Tryd.ntmps32
    go_wp2
    go_ret
    exact ⟨rfl, Below.refl _ _⟩
theorem lnL_one (x : List UInt8) : lnL [x] = x := Lib.join_one x [32]
theorem lnL_snoc {ls : List (List UInt8)} {k : Nat} (hk : k + 1 < ls.length) : lnL (ls.take (k + 2)) = (lnL (ls.take (k + 1)) ++ [32]) ++ ls.getD (k + 1) [] := by
  cases ls with
  | nil => simp at hk
  | cons x r =>
    have hr : k < r.length := by simpa using hk
    have e : r[k]? = some (r.getD k []) := by rw [List.getD_eq_getElem?_getD, List.getElem?_eq_getElem hr]; rfl
    show Lib.join ((x :: r).take (k + 2)) [32] = (Lib.join ((x :: r).take (k + 1)) [32] ++ [32]) ++ r.getD k []
    rw [List.take_succ_cons, List.take_succ_cons, Lib.join_cons, Lib.join_cons, Lib.joinTail_take_succ [32] r k _ e, List.append_assoc, List.append_assoc, List.append_assoc]
theorem lnL_snoc' {ls : List (List UInt8)} {k : Nat} (h0 : 0 < k) (hk : k < ls.length) : lnL (ls.take (k + 1)) = (lnL (ls.take k) ++ [32]) ++ ls.getD k [] := by
  obtain ⟨j, rfl⟩ : ∃ j, k = j + 1 := ⟨k - 1, by omega⟩
  exact lnL_snoc hk
theorem lnL_take_le (ls : List (List UInt8)) (k : Nat) : (lnL (ls.take k)).length ≤ (lnL ls).length := by
  cases k with
  | zero => simp [lnL, Lib.join_nil]
  | succ k =>
    cases ls with
    | nil => simp
    | cons x r =>
      show (Lib.join ((x :: r).take (k + 1)) [32]).length ≤ (Lib.join (x :: r) [32]).length
      rw [List.take_succ_cons, Lib.join_cons, Lib.join_cons, List.length_append, List.length_append]
      have := Lib.joinTail_take_le [32] r k
      omega
/-- Where the model's loop over words stands. -/
def LnR (ls : List (List UInt8)) (k : Nat) (out : List UInt8) : Prop := out = lnL (ls.take k)
set_option maxHeartbeats 1000000 in
theorem l20Line_any (w : World) (q n : Nat) (ls : List (List UInt8)) (hB : BlkT w q ls) (hn : ls.length = n) (h1 : n ≤ 1000) (hl : (lnL ls).length ≤ 140737488355328) :
    Calls Tryd.prog 12 #[.slice (some ⟨q, 0, none⟩) n n] w fun e w' => e = .returned (tx (lnL ls ++ [10])) ∧ Below w.heap.size w w' := by
  have ST : Hid (LnR ls 0 []) := rfl
  have HL := hide hl
  have HN := hide hn
  have HB := hide hB
  clear hl hn hB
  go_enter Tryd.func12, Tryd.ntmps12
  go_wp2
  go_loopw [3, 4] (fun s i wr => ∃ (k : Nat) (out : List UInt8), s = .string ⟨⟨out⟩⟩ ∧ i = .int .i64 k ∧ k ≤ n ∧ Hid (LnR ls k out) ∧ wr = w) (fun _ i _ => n - (intOf i).toNat)
  case atStart => exact ⟨0, [], rfl, rfl, Nat.zero_le _, ST, rfl⟩
  case round =>
    clear ST
    obtain ⟨k, out, rfl, rfl, hk, D, rfl⟩ := hrel
    have ol : out.length ≤ 140737488355328 := by
      have := lnL_take_le ls k
      rw [← show out = _ from D.out] at this
      have := HL.out
      omega
    by_cases hkn : k < n
    · have x1 : decide ((k : Int) < (n : Int)) = true := decide_eq_true (by omega)
      have hc : wr.cell? ⟨q, k, none⟩ = some (.string ⟨⟨ls.getD k []⟩⟩) := HB.out.cell (by have := HN.out; omega)
      have wl : (ls.getD k []).length ≤ 140737488355328 := by
        have e := lnL_take_le ls (k + 1)
        have := HL.out
        have hn := HN.out
        cases k with
        | zero =>
          cases ls with
          | nil => simp at hn; omega
          | cons x r =>
            rw [List.take_succ_cons, List.take_zero, lnL_one] at e
            show x.length ≤ _
            omega
        | succ j =>
          rw [lnL_snoc (by omega), List.length_append] at e
          omega
      by_cases h0 : k = 0
      · subst h0
        have e0 : out = [] := D.out
        subst e0
        have D2 : Hid (LnR ls 1 ([] ++ ls.getD 0 [])) := by
          show _ = _
          have hn := HN.out
          cases ls with
          | nil => simp at hn; omega
          | cons x r =>
            rw [List.take_succ_cons, List.take_zero, lnL_one]
            rfl
        have AD : ∀ W : World, (Op.stringOp .add (ByteArray.mk ⟨[]⟩) (ByteArray.mk ⟨ls.getD 0 []⟩)).run Tryd.prog W = .ok (.string ⟨⟨[] ++ ls.getD 0 []⟩⟩) W := fun W => tx_add W _ _ (by rw [List.length_nil]; omega)
        clear D
        generalize [] ++ ls.getD 0 [] = o2 at *
        generalize ls.getD 0 [] = x at *
        go_wp2
        go_roundw
        case rel => exact ⟨1, o2, rfl, rfl, by omega, D2, by trivial⟩
        case measure => simp [intOf]; omega
      · have x2 : decide ((0 : Int) < (k : Int)) = true := decide_eq_true (by omega)
        have x2' : (0 : Int) < (k : Int) := by omega
        have D2 : Hid (LnR ls (k + 1) ((out ++ [32]) ++ ls.getD k [])) := by
          show _ = _
          rw [lnL_snoc' (by omega) (by have := HN.out; omega), show out = _ from D.out]
        have A1 : ∀ W : World, (Op.stringOp .add (ByteArray.mk ⟨out⟩) (ByteArray.mk ⟨[32]⟩)).run Tryd.prog W = .ok (.string ⟨⟨out ++ [32]⟩⟩) W := fun W => tx_add W _ _ (by rw [List.length_singleton]; omega)
        have A2 : ∀ W : World, (Op.stringOp .add (ByteArray.mk ⟨out ++ [32]⟩) (ByteArray.mk ⟨ls.getD k []⟩)).run Tryd.prog W = .ok (.string ⟨⟨(out ++ [32]) ++ ls.getD k []⟩⟩) W := fun W => tx_add W _ _ (by rw [List.length_append, List.length_singleton]; omega)
        clear D ol wl
        generalize (out ++ [32]) ++ ls.getD k [] = o2 at *
        generalize out ++ [32] = o1 at *
        generalize ls.getD k [] = x at *
        go_wp2
        go_roundw
        case rel => exact ⟨k + 1, o2, rfl, by simp, by omega, D2, by trivial⟩
        case measure => simp [intOf]; omega
    · have x1 : decide ((k : Int) < (n : Int)) = false := decide_eq_false (by omega)
      have E : Hid (out = lnL ls) := by
        show _ = _
        rw [show out = _ from D.out, List.take_of_length_le (by have := HN.out; omega)]
      have AD : ∀ W : World, (Op.stringOp .add (ByteArray.mk ⟨out⟩) (ByteArray.mk ⟨[10]⟩)).run Tryd.prog W = .ok (.string ⟨⟨out ++ [10]⟩⟩) W := fun W => tx_add W _ _ (by simp; omega)
      have E2 : Hid (out ++ [10] = lnL ls ++ [10]) := congrArg (· ++ [10]) E.out
      clear D E
      generalize out ++ [10] = o2 at *
      go_wp2
      go_ret
      exact ⟨by rw [← E2.out]; rfl, Below.refl _ _⟩
end Go.Proofs.YtpbniihhpfbamaaDoor
