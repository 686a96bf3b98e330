
/-
  The words of a line: the program's and the model's.
-/
import Derived.Test.YtpbniihhpfbamaaDoorFqS
import Derived.Test.YtpbniihhpfbamaaDoorFqN
import Derived.Test.YtpbniihhpfbamaaDoorHxR
import Derived.Test.YtpbniihhpfbamaaDoorNmB
import Derived.Lib.AppendIntMem
namespace Go.Proofs.YtpbniihhpfbamaaDoor
set_option maxRecDepth 100000
open Go Go.RowKit

/-- The table that FormatInt reads. -/
def HasW (w : World) : Prop := Lib.TabIs Tryd.prog w "internal/strconv.uint64pow10" .u64 Lib.pow10Tab
theorem HasW.up {w w' : World} (h : HasW w) (n : Below w.heap.size w w') : HasW w' := Lib.tabBelow_of_tabIs h w' n
theorem numberWord_any (w : World) (hW : HasW w) (n : Int) (i : I64 n) : Calls Tryd.prog 24 #[.int .i64 n] w fun e w' => e = .returned (tx (itL n)) ∧ Below w.heap.size w w' := by
  have FI := hide (Tryd.strconv_FormatInt_10 n i.1 i.2 w hW)
  go_enter Tryd.func24, Tryd.ntmps24
  go_wp2_with (go_at_call 41; refine FI.out.mono ?_; rintro e w1 ⟨rfl, k, os, rfl⟩)
  have HB := hide (Lib.below_grow w.heap.size w (Nat.le_refl _) k os)
  go_wp2
  go_ret
  exact ⟨rfl, HB.out⟩
theorem flagWord_any (w : World) (hW : HasW w) (b : Bool) : Calls Tryd.prog 75 #[.bool b] w fun e w' => e = .returned (tx (flT b)) ∧ Below w.heap.size w w' := by
  have N1 := hide (numberWord_any w hW 1 (by unfold I64; omega))
  have N0 := hide (numberWord_any w hW 0 (by unfold I64; omega))
  have e1 : itL 1 = [49] := by rw [itL, show (1 : Int) = ((1 : Nat) : Int) from rfl, Lib.itoa_nonneg, Lib.decDigits_one (by decide)]; rfl
  have e0 : itL 0 = [48] := by rw [itL, show (0 : Int) = ((0 : Nat) : Int) from rfl, Lib.itoa_nonneg, Lib.decDigits_one (by decide)]; rfl
  rw [e1] at N1
  rw [e0] at N0
  clear e1 e0
  cases b with
  | true =>
    go_enter Tryd.func75, Tryd.ntmps75
    go_wp2_with fail
    refine N1.out.mono ?_
    rintro e w1 ⟨rfl, n1⟩
    have NN := hide n1
    clear n1
    unfold tx
    go_wp2
    go_ret
    exact ⟨rfl, NN.out⟩
  | false =>
    go_enter Tryd.func75, Tryd.ntmps75
    go_wp2_with fail
    refine N0.out.mono ?_
    rintro e w1 ⟨rfl, n1⟩
    have NN := hide n1
    clear n1
    unfold tx
    go_wp2
    go_ret
    exact ⟨rfl, NN.out⟩
theorem mk_toL (s : ByteArray) : s = ⟨⟨s.data.toList⟩⟩ := rfl
theorem textWord_any (w : World) (s : ByteArray) (hs : s.size ≤ 1048576) : Calls Tryd.prog 63 #[.string s] w fun e w' => e = .returned (tx (heT (byL s))) ∧ Below w.heap.size w w' := by
  have sl : s.data.toList.length ≤ 1048576 := hs
  obtain ⟨v, w1, hc, hR, n1⟩ := convS w s.data.toList sl
  rw [← mk_toL] at hc
  obtain ⟨a, c, g, rfl, R⟩ := hR.rd
  have CL := hide (implEncodeHex_any w1 g a c (byL s) R (byL_byt s) (by rw [byL_len]; exact hs))
  have hc' : (convert 9 23 (.string s)).run Tryd.prog w = .ok (.slice a (byL s).length c) w1 := hc
  clear hc hR R
  generalize (byL s).length = m at *
  go_enter Tryd.func63, Tryd.ntmps63
  go_wp2_with fail
  refine CL.out.mono ?_
  rintro e w2 ⟨rfl, n2⟩
  have NN := hide (n1.trans (n2.mono n1.size))
  clear n2 n1
  go_wp2
  go_ret
  exact ⟨rfl, NN.out⟩
/-- The words' row, joined. -/
theorem lineOf_any (w : World) (q : Nat) (ls : List (List UInt8)) (n : Nat) (hn : ls.length = n) (h0 : 0 < n) (hB : BlkT w q ls) (hl : (lnL ls).length ≤ 140737488355328) (hk : ls.length ≤ 1000) :
    Calls Tryd.prog 23 #[.slice (some ⟨q, 0, none⟩) n n] w fun e w' => e = .returned (tx (lnL ls)) ∧ Below w.heap.size w w' := by
  subst hn
  have m1 : (ls.map fun l => (⟨⟨l⟩⟩ : ByteArray)).map (·.data.toList) = ls := by
    rw [List.map_map]
    exact List.map_id ls
  have JN := Tryd.strings_Join q 0 ls.length (ls.map fun l => ⟨⟨l⟩⟩) ⟨#[32]⟩ w (fun j x hj => by
    rw [List.getElem?_map] at hj
    cases e : ls[j]? with
    | none => rw [e] at hj; cases hj
    | some l =>
      rw [e] at hj
      simp only [Option.map_some, Option.some.injEq] at hj
      subst hj
      have hjl := (List.getElem?_eq_some_iff.1 e).1
      rw [Nat.zero_add, hB.cell hjl, List.getD_eq_getElem?_getD, e]
      rfl) hB.lt (by simp; omega) (by simp) (by rw [m1]; exact hl)
  rw [m1, List.length_map] at JN
  have JN' : Hid (Calls Tryd.prog 40 #[.slice (some ⟨q, 0, none⟩) ls.length ls.length, .string ⟨#[32]⟩] w fun e w' => e = .returned (tx (lnL ls)) ∧ Below w.heap.size w w') := JN
  clear JN m1 hB hl hk
  generalize lnL ls = T at *
  generalize ls.length = n at *
  go_enter Tryd.func23, Tryd.ntmps23
  go_wp2_with (go_at_call 40; refine JN'.out.mono ?_; rintro e w1 ⟨rfl, n1⟩)
  have NN := hide n1
  clear n1
  unfold tx
  go_wp2
  go_ret
  exact ⟨rfl, NN.out⟩
end Go.Proofs.YtpbniihhpfbamaaDoor
