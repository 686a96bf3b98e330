import Derived.Test.YtdnkgmlidhepbaaGreatGC1
import Derived.Laws.Bits64b
import Derived.Deep.Cut
import Derived.Test.YtdnkgmlidhepbaaGreatRows
import Derived.WalkSpells
import Derived.Deep.QuietTactic
import Derived.BigQuiet
import Derived.WalkMore
import Derived.Laws.AppendOwnNone
import Derived.Maps.AppendAt
import Derived.Lib.AppendZeros
namespace Go.Proofs.YtdnkgmlidhepbaaGreat
open Go Go.RowKit
theorem ofInt64 (v : Int) : ((BitVec.ofInt 64 v).toNat : Int) = v % 18446744073709551616 := by
  rw [BitVec.toNat_ofInt]
  rw [Int.toNat_of_nonneg (Int.emod_nonneg _ (by decide))]
  rfl
theorem wrap_i64 (n : Int) : IntKind.i64.wrap n = (n + 9223372036854775808) % 18446744073709551616 - 9223372036854775808 := by
  simp [IntKind.wrap, IntKind.signed, IntKind.bits]
  omega
theorem or_byte (v x : Int) (h0 : -9223372036854775808 ≤ v * 256) (h1 : v * 256 < 9223372036854775808) (x0 : 0 ≤ x) (x1 : x < 256) : bits .or .i64 (v * 256) x = v * 256 + x := by
  have e : bits .or .i64 (v * 256) x = IntKind.i64.wrap ((BitVec.ofInt 64 (v * 256) ||| BitVec.ofInt 64 x).toNat : Int) := rfl
  rw [e, wrap_i64, BitVec.toNat_or]
  have a := ofInt64 (v * 256)
  have b := ofInt64 x
  obtain ⟨m, hm⟩ : ∃ m, (BitVec.ofInt 64 (v * 256)).toNat = 2 ^ 8 * m := ⟨(BitVec.ofInt 64 (v * 256)).toNat / 256, by omega⟩
  obtain ⟨y, hy⟩ : ∃ y, (BitVec.ofInt 64 x).toNat = y := ⟨_, rfl⟩
  rw [hm, hy, ← Nat.two_pow_add_eq_or_of_lt (by omega)]
  rw [hm] at a
  rw [hy] at b
  omega
end Go.Proofs.YtdnkgmlidhepbaaGreat
namespace Go.Proofs.YtdnkgmlidhepbaaGreat
open Go Go.RowKit
def beN (xs : List Int) (i : Nat) : Nat → Int
  | 0 => 0
  | k + 1 => beN xs i k * 256 + xs.getD (i + k) 0
theorem beN_rng {xs : List Int} (h : Byt xs) (i : Nat) : ∀ k, 0 ≤ beN xs i k ∧ beN xs i k < 256 ^ k
  | 0 => ⟨Int.le_refl _, by simp [beN]⟩
  | k + 1 => by
    have ih := beN_rng h i k
    have b := h (i + k)
    rw [beN, Int.pow_succ]
    omega
theorem Rd.of_block' {w w' : World} {g : Nat} {a : Option Addr} {k : IntKind} {xs : List Int} (h : Rd w g a k xs) (hb : 0 < xs.length → w'.heap[g]? = w.heap[g]?) : Rd w' g a k xs := by
  by_cases h0 : 0 < xs.length
  · exact h.of_block (hb h0)
  · exact fun q => absurd q h0
end Go.Proofs.YtdnkgmlidhepbaaGreat
namespace Go.Proofs.YtdnkgmlidhepbaaGreat
open Go Go.RowKit
def isAg (n : Int) : Bool := decide (0 ≤ n) && decide (n ≤ 4294967295)
end Go.Proofs.YtdnkgmlidhepbaaGreat
namespace Go.Proofs.YtdnkgmlidhepbaaGreat
def okB (c : UInt8) : Bool := (decide (97 ≤ (c.toNat : Int)) && decide ((c.toNat : Int) ≤ 122)) || (decide (48 ≤ (c.toNat : Int)) && decide ((c.toNat : Int) ≤ 57)) || decide ((c.toNat : Int) = 45)
def bad (l : List UInt8) : Bool := l.any fun c => !okB c
def lbF (l : List UInt8) : Int := if l.length = 0 then 2 else if 63 < l.length then 3 else if bad l = true then 4 else if ((l.getD 0 0).toNat : Int) = 45 ∨ ((l.getD (l.length - 1) 0).toNat : Int) = 45 then 5 else 0
def ff : List (List UInt8) → Int
  | [] => 0
  | l :: ls => if lbF l = 0 then ff ls else lbF l
def stp (p : List (List UInt8) × List UInt8) (c : UInt8) : List (List UInt8) × List UInt8 := if (c.toNat : Int) = 46 then (p.1 ++ [p.2], []) else (p.1, p.2 ++ [c])
def lst (l : List UInt8) : List (List UInt8) × List UInt8 := l.foldl stp ([], [])
def labs (l : List UInt8) : List (List UInt8) := (lst l).1 ++ [(lst l).2]
def nameF (l : List UInt8) : Int := if l.length < 1 ∨ 128 < l.length then 1 else ff (labs l)
theorem lst_snoc (l : List UInt8) (c : UInt8) : lst (l ++ [c]) = stp (lst l) c := by simp [lst]
theorem lst_dot (l : List UInt8) (c : UInt8) (h : (c.toNat : Int) = 46) : lst (l ++ [c]) = (labs l, []) := by
  rw [lst_snoc]
  exact if_pos h
theorem lst_in (l : List UInt8) (c : UInt8) (h : (c.toNat : Int) ≠ 46) : lst (l ++ [c]) = ((lst l).1, (lst l).2 ++ [c]) := by
  rw [lst_snoc]
  exact if_neg h
theorem ff_app (a b : List (List UInt8)) : ff (a ++ b) = if ff a = 0 then ff b else ff a := by
  induction a with
  | nil => simp [ff]
  | cons x a ih =>
    show (if lbF x = 0 then ff (a ++ b) else lbF x) = if (if lbF x = 0 then ff a else lbF x) = 0 then ff b else (if lbF x = 0 then ff a else lbF x)
    by_cases h : lbF x = 0
    · simp only [if_pos h]
      exact ih
    · simp only [if_neg h]
theorem ff_one (l : List UInt8) : ff [l] = lbF l := by
  show (if lbF l = 0 then ff [] else lbF l) = lbF l
  split
  · rename_i h
    rw [h]
    rfl
  · rfl
theorem snoc_ind {P : List UInt8 → Prop} (h0 : P []) (hs : ∀ l c, P l → P (l ++ [c])) : ∀ l, P l := by
  intro l
  have : ∀ n, n ≤ l.length → P (l.take n) := by
    intro n
    induction n with
    | zero => intro _; simpa using h0
    | succ n ih =>
      intro hn
      have e : l.take (n + 1) = l.take n ++ [l[n]] := by rw [List.take_succ_eq_append_getElem]
      rw [e]
      exact hs _ _ (ih (by omega))
  have := this l.length (Nat.le_refl _)
  rwa [List.take_length] at this
theorem lst_pre (a b : List UInt8) : ∃ t, (lst (a ++ b)).1 = (lst a).1 ++ t := by
  revert b
  refine snoc_ind (P := fun b => ∃ t, (lst (a ++ b)).1 = (lst a).1 ++ t) ⟨[], by simp⟩ ?_
  rintro l c ⟨t, ih⟩
  rw [← List.append_assoc, lst_snoc]
  unfold stp
  split
  · exact ⟨t ++ [(lst (a ++ l)).2], by rw [ih, List.append_assoc]⟩
  · exact ⟨t, ih⟩
theorem lst_cur : ∀ l : List UInt8, ∃ s, s + (lst l).2.length = l.length ∧ (lst l).2 = l.drop s := by
  refine snoc_ind ⟨0, rfl, rfl⟩ ?_
  rintro l c ⟨s, h1, h2⟩
  rw [lst_snoc]
  unfold stp
  split
  · exact ⟨l.length + 1, by simp, by simp⟩
  · refine ⟨s, by simp; omega, ?_⟩
    simp only
    rw [List.drop_append_of_le_length (by omega), ← h2]
theorem ff_cut {a b : List UInt8} (h : ff (lst a).1 ≠ 0) : ff (lst (a ++ b)).1 = ff (lst a).1 := by
  obtain ⟨t, e⟩ := lst_pre a b
  rw [e, ff_app, if_neg h]
theorem bad_snoc (l : List UInt8) (c : UInt8) : bad (l ++ [c]) = (bad l || !okB c) := by simp [bad]
def tx (l : List UInt8) : Value := .string ⟨⟨l⟩⟩
theorem tx_size (l : List UInt8) : (ByteArray.mk ⟨l⟩).size = l.length := rfl
theorem tx_at (l : List UInt8) (i : Nat) (h : i < l.length) : (ByteArray.mk ⟨l⟩)[i]'h = l.getD i 0 := by
  simp only [List.getD, List.getElem?_eq_getElem h, Option.getD_some]
  rfl
theorem run_tx {P : Program} (w : World) (t : TypeId) (l : List UInt8) (i : Nat) (hu : P.underlying t = some .string) (h : i < l.length) : (Instr.index t (.string ⟨⟨l⟩⟩) (.int .i64 (i : Int))).run P w = .ok (.int .u8 ((l.getD i 0).toNat : Int)) w := by
  have hi : 0 ≤ (i : Int) ∧ (i : Int) < ((ByteArray.mk ⟨l⟩).size : Int) := ⟨by omega, by rw [tx_size]; omega⟩
  rw [run_index_string w t _ .i64 i hu, dif_pos hi]
  have e : (i : Int).toNat = i := by omega
  have := tx_at l i h
  simp only [e, this]
theorem run_tx_cut {P : Program} (w : World) (t : TypeId) (l : List UInt8) (i j : Nat) (hu : P.underlying t = some .string) (h : i ≤ j) (hj : j ≤ l.length) : (Instr.slice t (.string ⟨⟨l⟩⟩) (some (.int .i64 (i : Int))) (some (.int .i64 (j : Int))) none).run P w = .ok (.string ⟨⟨(l.drop i).take (j - i)⟩⟩) w := by
  rw [run_slice_string w t _ .i64 .i64 i j hu (by omega) (by omega) (by rw [tx_size]; omega)]
  have := ByteArray.extract_mk l i j
  simp only [Int.toNat_natCast]
  rw [show (ByteArray.mk ⟨l⟩) = ByteArray.mk l.toArray from rfl, this]
end Go.Proofs.YtdnkgmlidhepbaaGreat
namespace Go.Proofs.YtdnkgmlidhepbaaGreat
open Go Go.RowKit
set_option maxRecDepth 100000 in
set_option maxHeartbeats 1000000 in
theorem isLabelByte_any (w : World) (c : UInt8) :
    Calls Tryz.prog 112 #[.int .u8 (c.toNat : Int)] w fun e w' => e = .returned (.bool (okB c)) ∧ w' = w := by
  have hb : okB c = ((decide (97 ≤ (c.toNat : Int)) && decide ((c.toNat : Int) ≤ 122)) || (decide (48 ≤ (c.toNat : Int)) && decide ((c.toNat : Int) ≤ 57)) || decide ((c.toNat : Int) = 45)) := rfl
  generalize okB c = b at *
  generalize (c.toNat : Int) = x at *
  have HB := hide hb
  clear hb
  by_cases h1 : 97 ≤ x <;> by_cases h2 : x ≤ 122 <;> by_cases h3 : 48 ≤ x <;> by_cases h4 : x ≤ 57 <;> by_cases h5 : x = 45
  all_goals first | (exfalso; omega) | skip
  all_goals (
    go_enter Tryz.func112, Tryz.ntmps112
    go_wp2
    go_ret
    refine ⟨?_, rfl⟩
    rw [HB.out]
    show Ending.returned (Value.bool _) = Ending.returned (Value.bool _)
    congr 2
    rw [Bool.eq_iff_iff]
    first | (simp; done) | (simp; omega))
set_option maxRecDepth 100000 in
set_option maxHeartbeats 1000000 in
theorem labelFault_any (w : World) (l : List UInt8) (hl : l.length ≤ 1000000) :
    Calls Tryz.prog 111 #[.string ⟨⟨l⟩⟩, .bool (bad l)] w fun e w' => e = .returned (.int .i64 (lbF l)) ∧ w' = w := by
  have hsz := tx_size l
  have eq0 : l.isEmpty = decide (l.length = 0) := by cases l <;> simp
  unfold lbF
  by_cases h0 : l.length = 0
  · rw [if_pos h0]
    have t0 : decide (l.length = 0) = true := decide_eq_true h0
    rw [t0] at eq0
    go_enter Tryz.func111, Tryz.ntmps111
    go_wp2
    go_ret
    exact ⟨rfl, rfl⟩
  · rw [if_neg h0]
    have t0 : decide (l.length = 0) = false := decide_eq_false h0
    rw [t0] at eq0
    have ix0 : ∀ w, (Instr.index 9 (.string ⟨⟨l⟩⟩) (.int .i64 0)).run Tryz.prog w = .ok (.int .u8 ((l.getD 0 0).toNat : Int)) w := fun w => run_tx (P := Tryz.prog) w 9 l 0 Tryz.underlying9 (by omega)
    have ix1 := fun w => run_tx (P := Tryz.prog) w 9 l (l.length - 1) Tryz.underlying9 (by omega)
    have e1 : ((l.length - 1 : Nat) : Int) = (l.length : Int) - 1 := by omega
    rw [e1] at ix1
    by_cases h1 : 63 < l.length
    · rw [if_pos h1]
      have t1 : decide ((63 : Int) < (l.length : Int)) = true := by simp; omega
      go_enter Tryz.func111, Tryz.ntmps111
      go_wp2
      go_ret
      exact ⟨rfl, rfl⟩
    · rw [if_neg h1]
      have t1 : decide ((63 : Int) < (l.length : Int)) = false := by simp; omega
      by_cases h2 : bad l = true
      · rw [if_pos h2, h2]
        go_enter Tryz.func111, Tryz.ntmps111
        go_wp2
        go_ret
        exact ⟨rfl, rfl⟩
      · rw [if_neg h2, Bool.eq_false_iff.2 h2]
        generalize ((l.getD 0 0).toNat : Int) = x at *
        generalize ((l.getD (l.length - 1) 0).toNat : Int) = y at *
        by_cases h3 : x = 45
        · rw [if_pos (.inl h3)]
          subst h3
          go_enter Tryz.func111, Tryz.ntmps111
          go_wp2
          go_ret
          exact ⟨rfl, rfl⟩
        · by_cases h4 : y = 45
          · rw [if_pos (.inr h4)]
            subst h4
            go_enter Tryz.func111, Tryz.ntmps111
            go_wp2
            go_ret
            exact ⟨rfl, rfl⟩
          · rw [if_neg (by rintro (h | h) <;> contradiction)]
            have b1 : (x == 45) = false := by simpa using h3
            have b2 : (y == 45) = false := by simpa using h4
            go_enter Tryz.func111, Tryz.ntmps111
            go_wp2
            go_ret
            exact ⟨rfl, rfl⟩
set_option maxRecDepth 100000 in
set_option maxHeartbeats 4000000 in
theorem labelsFault_any (w : World) (t : List UInt8) (hl : t.length ≤ 1000000) :
    Calls Tryz.prog 108 #[.string ⟨⟨t⟩⟩] w fun e w' => e = .returned (.int .i64 (ff (lst t).1)) ∧ w' = w := by
  have hsz := tx_size t
  go_enter Tryz.func108, Tryz.ntmps108
  go_wp2
  go_step3
  go_wp2
  go_step3
  go_wp2
  go_loopw [3, 4, 5, 10] (fun f s b i wr => wr = w ∧ ∃ k s' : Nat, k ≤ t.length ∧ i = .int .i64 k ∧ f = .int .i64 0 ∧ s = .int .i64 s' ∧ b = .bool (bad (lst (t.take k)).2) ∧ ff (lst (t.take k)).1 = 0 ∧ s' + (lst (t.take k)).2.length = k) (fun _ _ _ i _ => t.length - (intOf i).toNat)
  case atStart => exact ⟨rfl, 0, 0, by omega, rfl, rfl, rfl, rfl, rfl, rfl⟩
  case round =>
    obtain ⟨rfl, k, s', hk, rfl, rfl, rfl, rfl, hff, hs⟩ := hrel
    by_cases hlt : k < t.length
    · have t1 : (k : Int) < (t.length : Int) := by omega
      have ix := fun w => run_tx (P := Tryz.prog) w 9 t k Tryz.underlying9 hlt
      have e : t.take (k + 1) = t.take k ++ [t.getD k 0] := by
        rw [List.take_succ_eq_append_getElem hlt]
        congr 2
        simp [hlt]
      obtain ⟨c, hc⟩ : ∃ c, c = t.getD k 0 := ⟨_, rfl⟩
      rw [← hc] at ix e
      clear hc
      have cur := lst_cur (t.take k)
      obtain ⟨s2, q1, q2⟩ := cur
      rw [List.length_take, Nat.min_eq_left (by omega)] at q1
      obtain rfl : s2 = s' := by omega
      have CU : (t.drop s2).take (k - s2) = (lst (t.take k)).2 := by
        rw [q2, List.drop_take]
      by_cases h46 : (c.toNat : Int) = 46
      · have L := lst_dot (t.take k) c h46
        rw [← e] at L
        have cut := fun w => run_tx_cut (P := Tryz.prog) w 9 t s2 k Tryz.underlying9 (by omega) (by omega)
        rw [CU] at cut
        have LF := hide (fun w => labelFault_any w (lst (t.take k)).2 (by omega))
        have FF : Hid (ff (lst (t.take (k + 1))).1 = lbF (lst (t.take k)).2) := by
          show _ = _
          rw [L]
          show ff (labs (t.take k)) = _
          unfold labs
          rw [ff_app, if_pos hff, ff_one]
        have E1 : Hid ((lst (t.take (k + 1))).2 = []) := by show _ = _; rw [L]
        have HC := hide (fun h => ff_cut (a := t.take (k + 1)) (b := t.drop (k + 1)) h)
        rw [List.take_append_drop] at HC
        clear L CU q1 q2 e hff
        generalize (lst (t.take k)).2 = cur at *
        have b46 : ((c.toNat : Int) == 46) = true := by rw [h46]; rfl
        generalize (c.toNat : Int) = x at *
        subst h46
        go_wp2_with fail
        refine (LF.out _).mono ?_
        rintro e w1 ⟨rfl, h1⟩
        have h1' := h1.symm
        subst h1'
        clear LF cut ix h1
        by_cases hf : lbF cur = 0
        · rw [hf] at FF ⊢
          clear HC hf hs
          go_wp2
          go_roundw
          case rel => exact ⟨trivial, k + 1, k + 1, by omega, by go_num, rfl, by go_num, by rw [E1.out]; rfl, FF.out, by rw [E1.out]; simp⟩
          case measure => simp [intOf]; omega
        · have b0 : (lbF cur != 0) = true := by simpa using hf
          have EQ : Hid (ff (lst t).1 = lbF cur) := by
            show _ = _
            rw [HC.out (by rw [FF.out]; exact hf), FF.out]
          clear FF E1 HC
          generalize lbF cur = z at *
          go_wp2
          rw [Exit.noGoto_ret]
          go_ret
          exact ⟨by rw [EQ.out]; rfl, rfl⟩
      · have L := lst_in (t.take k) c h46
        rw [← e] at L
        have IB := hide (fun w => isLabelByte_any w c)
        have b46 : ((c.toNat : Int) == 46) = false := by simpa using h46
        have R1 : Hid (bad (lst (t.take (k + 1))).2 = (bad (lst (t.take k)).2 || !okB c)) := by
          show _ = _
          rw [L]
          exact bad_snoc _ _
        have R2 : Hid (ff (lst (t.take (k + 1))).1 = 0) := by
          show _ = _
          rw [L]
          exact hff
        have R3 : Hid (s2 + (lst (t.take (k + 1))).2.length = k + 1) := by
          show _ = _
          rw [L]
          simp only [List.length_append, List.length_cons, List.length_nil]
          omega
        clear L CU q1 q2 e hff hs
        generalize bad (lst (t.take k)).2 = st at *
        generalize (c.toNat : Int) = x at *
        cases st with
        | true =>
          go_wp2
          go_roundw
          case rel => exact ⟨trivial, k + 1, s2, by omega, by go_num, rfl, rfl, by rw [R1.out]; rfl, R2.out, R3.out⟩
          case measure => simp [intOf]; omega
        | false =>
          go_wp2_with fail
          refine (IB.out _).mono ?_
          rintro e w1 ⟨rfl, h1⟩
          have h1' := h1.symm
          subst h1'
          clear h1
          go_wp2
          go_roundw
          case rel => exact ⟨trivial, k + 1, s2, by omega, by go_num, rfl, rfl, by rw [R1.out]; rfl, R2.out, R3.out⟩
          case measure => simp [intOf]; omega
    · obtain rfl : k = t.length := by omega
      rw [List.take_length] at hff
      have HF := hide hff
      clear hs hff
      go_wp2
      rw [Exit.noGoto_ret]
      go_ret
      exact ⟨by rw [HF.out]; rfl, rfl⟩
end Go.Proofs.YtdnkgmlidhepbaaGreat
namespace Go.Proofs.YtdnkgmlidhepbaaGreat
open Go Go.RowKit
set_option maxRecDepth 100000 in
set_option maxHeartbeats 1000000 in
theorem implNameFault_any (w : World) (l : List UInt8) (hl : l.length ≤ 9223372036854775807) :
    Calls Tryz.prog 98 #[.string ⟨⟨l⟩⟩] w fun e w' => e = .returned (.int .i64 (nameF l)) ∧ w' = w := by
  have hsz := tx_size l
  by_cases h0 : l.length < 1
  · have eN : Hid (nameF l = 1) := by show _ = _; unfold nameF; rw [if_pos (.inl h0)]
    have eq0 : l.isEmpty = true := by cases l with | nil => rfl | cons a b => simp at h0
    go_enter Tryz.func98, Tryz.ntmps98
    go_wp2
    go_ret
    exact ⟨by rw [eN.out]; rfl, rfl⟩
  · have eq0 : l.isEmpty = false := by cases l with | nil => simp at h0 | cons a b => rfl
    by_cases h1 : 128 < l.length
    · have eN : Hid (nameF l = 1) := by show _ = _; unfold nameF; rw [if_pos (.inr h1)]
      have t1 : decide ((128 : Int) < (l.length : Int)) = true := by simp; omega
      go_enter Tryz.func98, Tryz.ntmps98
      go_wp2
      go_ret
      exact ⟨by rw [eN.out]; rfl, rfl⟩
    · have eN : Hid (nameF l = ff (lst (l ++ [46])).1) := by
        show _ = _
        unfold nameF
        rw [if_neg (by omega), lst_dot l 46 (by decide)]
      have t1 : decide ((128 : Int) < (l.length : Int)) = false := by simp; omega
      have LF := hide (fun w => labelsFault_any w (l ++ [46]) (by simp; omega))
      have ad : ∀ w : World, (Op.stringOp .add (ByteArray.mk ⟨l⟩) (ByteArray.mk #[46])).run Tryz.prog w = .ok (.string ⟨⟨l ++ [46]⟩⟩) w := by
        intro w
        rw [run_string_add_sum w _ _ (by rw [tx_size]; show l.length + 1 ≤ _; omega)]
        have := ByteArray.mk_append_mk l [46]
        exact congrArg (fun s => Result.ok (Value.string s) w) this
      go_enter Tryz.func98, Tryz.ntmps98
      go_wp2_with fail
      refine (LF.out w).mono ?_
      rintro e w1 ⟨rfl, rfl⟩
      go_wp2
      go_ret
      exact ⟨by rw [eN.out]; rfl, rfl⟩
end Go.Proofs.YtdnkgmlidhepbaaGreat
namespace Go.Proofs.YtdnkgmlidhepbaaGreat
open Go Go.RowKit
def RowT (w : World) (base : Nat) (v : Value) (ls : List (List UInt8)) : Prop := w.ownsRow base 9 1 v ls.length (ls.map tx)
set_option maxRecDepth 100000 in
theorem infoTx : (Tryz.prog.info? 9).map (fun i => (i.zero, i.size, i.bytes)) = some (some (.string ⟨#[]⟩), 1, 16) := by kernel_rfl
set_option maxRecDepth 100000 in
theorem undTx : Tryz.prog.underlying 23 = some (.slice 9) := Tryz.underlying23
theorem RowT.lit1 (w : World) (l : List UInt8) : RowT (w.alloc (.cells #[tx l] 9)) w.heap.size (.slice (some ⟨w.heap.size, 0, none⟩) 1 1) [l] :=
  World.ownsRow_lit w #[tx l] 1 (Nat.le_refl _) (by unfold maxLen; omega) (by simp)
set_option maxRecDepth 100000 in
theorem append_tx (w : World) (ty : TypeId) (base : Nat) (v : Value) (ls : List (List UInt8)) (hown : RowT w base v ls) (l : List UInt8) (hl : ls.length ≤ 1000000) (hbase : base ≤ w.heap.size) :
    ∃ v' w', (Builtin.append_ #[23, 23] ty #[v, .slice (some ⟨w.heap.size, 0, none⟩) 1 1]).run Tryz.prog (w.alloc (.cells #[tx l] 9)) = .ok v' w' ∧ RowT w' base v' (ls ++ [l]) ∧ Below base w w' := by
  obtain ⟨i, hi, hz, hs, hb⟩ := info_parts infoTx
  have h0 : RowT (w.alloc (.cells #[tx l] 9)) base v ls := World.ownsRow.alloc hown _
  have m1 : Below base w (w.alloc (.cells #[tx l] 9)) := (Below.refl _ _).alloc hbase _
  obtain ⟨v', w', h1, h2, h3, _⟩ := run_append_own (P := Tryz.prog) (w.alloc (.cells #[tx l] 9)) base 23 ty 9 i (.string ⟨#[]⟩) 1 16 undTx hi hz hs hb rfl (by decide) v ls.length (ls.map tx) h0 ⟨w.heap.size, 0, none⟩ 1 1 [tx l] (by simp) (cell_one_new w (tx l) 9) (by simp [tx, Value.oneCell']) (by unfold maxLen; omega) (by omega) (by simp; omega)
  refine ⟨v', w', h1, ?_, m1.grown h3 (by simp; omega) (fun k hk => by have := (World.ownsRow.lt h0 k hk).1; omega)⟩
  show w'.ownsRow base 9 1 v' (ls ++ [l]).length ((ls ++ [l]).map tx)
  rw [List.length_append, List.map_append]
  exact h2
theorem RowT.cells {w : World} {base : Nat} {v : Value} {ls : List (List UInt8)} (h : RowT w base v ls) (h0 : 0 < ls.length) : ∃ g c, v = .slice (some ⟨g, 0, none⟩) ls.length c ∧ base ≤ g ∧ g < w.heap.size ∧ (∀ i, i < ls.length → w.cell? ⟨g, i, none⟩ = some (tx (ls.getD i []))) ∧ ∀ i, w.frozen? ⟨g, i, none⟩ = false := by
  rcases h.2 with ⟨_, h'⟩ | ⟨g, cap, cur, rfl, hb, hg, hnc, hcm, hcs, ht⟩
  · omega
  · refine ⟨g, cap, rfl, hb, (Array.getElem?_eq_some_iff.1 hg).1, fun i hi => ?_, fun i => frozen_of_row w g i cur 9 hg⟩
    rw [cell_of_row w g i cur 9 (0, 0) hg]
    have : (cur.toList.take (ls.length * 1))[i]? = (ls.map tx)[i]? := by rw [ht]
    rw [List.getElem?_take, if_pos (by omega)] at this
    simpa [hi] using this
theorem set_snoc {α : Type} : ∀ (a : List α) (x y : α), (a ++ [x]).set a.length y = a ++ [y]
  | [], _, _ => rfl
  | b :: a, x, y => congrArg (List.cons b) (set_snoc a x y)
theorem RowT.setLast {w : World} {base g c : Nat} {ls : List (List UInt8)} {l : List UInt8} (h : RowT w base (.slice (some ⟨g, 0, none⟩) (ls.length + 1) c) (ls ++ [l])) (l' : List UInt8) (n : Nat) : RowT ((w.drewN n).setCell ⟨g, ls.length, none⟩ (tx l')) base (.slice (some ⟨g, 0, none⟩) (ls.length + 1) c) (ls ++ [l']) := by
  refine ⟨by simp, ?_⟩
  rcases h.2 with ⟨h', _⟩ | ⟨g', cap, cur, e, hb, hg, hnc, hcm, hcs, ht⟩
  · simp at h'
  · simp only [Value.slice.injEq, Option.some.injEq, Addr.mk.injEq, and_true] at e
    obtain ⟨rfl, e2, rfl⟩ := e
    refine .inr ⟨g, c, cur.setIfInBounds ls.length (tx l'), by simp, hb, ?_, by simpa using hnc, hcm, by simpa using hcs, ?_⟩
    · exact heap_setCell_same (w.drewN n) g ls.length cur 9 (tx l') hg
    · simp only [List.length_append, List.length_cons, List.length_nil, Nat.mul_one, List.map_append, List.map_cons, List.map_nil] at ht ⊢
      rw [Array.toList_setIfInBounds, List.take_set, ht]
      have e3 : ls.length = (ls.map tx).length := by simp
      rw [e3]
      exact set_snoc _ _ _
theorem RowT.up {w w' : World} {base : Nat} {v : Value} {ls : List (List UInt8)} (h : RowT w base v ls) (hb : Below w.heap.size w w') : RowT w' base v ls := by
  refine ⟨h.1, ?_⟩
  rcases h.2 with h' | ⟨g, cap, cur, rfl, hbg, hg, hnc, hcm, hcs, ht⟩
  · exact .inl h'
  · exact .inr ⟨g, cap, cur, rfl, hbg, by rw [hb.block g ((Array.getElem?_eq_some_iff.1 hg).1)]; exact hg, hnc, hcm, hcs, ht⟩
def NewT1 (B : Nat) (w' : World) (e : Ending) (ls : List (List UInt8)) : Prop := ∃ v, e = .returned v ∧ RowT w' B v ls
theorem labs_snoc (l : List UInt8) (c : UInt8) : labs (l ++ [c]) = if (c.toNat : Int) = 46 then labs l ++ [[]] else (lst l).1 ++ [(lst l).2 ++ [c]] := by
  unfold labs
  rw [lst_snoc]
  unfold stp
  split <;> simp
theorem lst_len (l : List UInt8) : (lst l).1.length ≤ l.length := by
  revert l
  refine snoc_ind (by simp [lst]) ?_
  intro l c ih
  rw [lst_snoc]
  unfold stp
  split
  · simp; omega
  · simp; omega
set_option maxRecDepth 100000 in
theorem buildT (w : World) (l : List UInt8) : (Instr.buildSlice 23 1 #[(0, .string ⟨⟨l⟩⟩)]).run Tryz.prog w = .ok (.slice (some ⟨w.heap.size, 0, none⟩) 1 1) (w.alloc (.cells #[tx l] 9)) := by kernel_rfl
set_option maxRecDepth 100000 in
set_option maxHeartbeats 4000000 in
theorem l11Labels_any (w : World) (t : List UInt8) (hl : t.length ≤ 128) :
    Calls Tryz.prog 63 #[.string ⟨⟨t⟩⟩] w fun e w' => NewT1 w.heap.size w' e (labs t) ∧ Below w.heap.size w w' := by
  have hsz := tx_size t
  have B0 := fun w => buildT w []
  have R0 := RowT.lit1 w []
  have n0 : Below w.heap.size w (w.alloc (.cells #[tx []] 9)) := (Below.refl _ _).alloc (Nat.le_refl _) _
  go_enter Tryz.func63, Tryz.ntmps63
  go_wp2
  have R0' : RowT (w.alloc (.cells #[Value.string ⟨#[]⟩] 9)) w.heap.size (.slice (some ⟨w.heap.size, 0, none⟩) 1 1) [[]] := R0
  have n0' : Below w.heap.size w (w.alloc (.cells #[Value.string ⟨#[]⟩] 9)) := n0
  clear R0 n0 B0
  generalize w.alloc (.cells #[Value.string ⟨#[]⟩] 9) = w1 at *
  go_loopw [3, 4] (fun o i wr => ∃ k : Nat, k ≤ t.length ∧ i = .int .i64 k ∧ RowT wr w.heap.size o (labs (t.take k)) ∧ Below w.heap.size w wr) (fun _ i _ => t.length - (intOf i).toNat)
  case atStart => exact ⟨0, by omega, rfl, R0', n0'⟩
  case round =>
    clear R0' n0'
    obtain ⟨k, hk, rfl, R, N⟩ := hrel
    by_cases hlt : k < t.length
    · have t1 : (k : Int) < (t.length : Int) := by omega
      have ix := fun w => run_tx (P := Tryz.prog) w 9 t k Tryz.underlying9 hlt
      have e : t.take (k + 1) = t.take k ++ [t.getD k 0] := by
        rw [List.take_succ_eq_append_getElem hlt]
        congr 2
        simp [hlt]
      have LS := labs_snoc (t.take k) (t.getD k 0)
      rw [← e] at LS
      have ll := lst_len (t.take k)
      rw [List.length_take, Nat.min_eq_left (by omega)] at ll
      have cut0 : (t.drop k).take (k + 1 - k) = [t.getD k 0] := by
        have eg : t.getD k 0 = t[k] := by simp [hlt]
        rw [eg, show k + 1 - k = 1 by omega, List.drop_eq_getElem_cons hlt]
        rfl
      obtain ⟨c, hc⟩ : ∃ c, c = t.getD k 0 := ⟨_, rfl⟩
      rw [← hc] at ix LS cut0
      clear hc e
      by_cases h46 : (c.toNat : Int) = 46
      · rw [if_pos h46] at LS
        have hL : (labs (t.take k)).length ≤ 1000000 := by unfold labs; simp; omega
        obtain ⟨v', w2, h1, R2, N2⟩ := append_tx wr 23 w.heap.size _ _ R [] hL (N.size)
        rw [← LS] at R2
        have h1' : (Builtin.append_ #[23, 23] 23 #[u3, .slice (some ⟨wr.heap.size, 0, none⟩) 1 1]).run Tryz.prog (wr.alloc (.cells #[Value.string ⟨#[]⟩] 9)) = .ok v' w2 := h1
        have RR := hide R2
        have NN := hide (N.trans N2)
        clear h1 R2 N2 R N LS hL cut0
        have b46 : ((c.toNat : Int) == 46) = true := by rw [h46]; rfl
        generalize (c.toNat : Int) = x at *
        subst h46
        go_wp2_with (at_builtin; refine Lib.wpList_append_run _ rfl _ _ 23 23 rfl _ _ rfl rfl _ _ h1' ?_)
        clear h1'
        go_wp2
        go_roundw
        case rel => exact ⟨k + 1, by omega, by go_num, RR.out, NN.out⟩
        case measure => simp [intOf]; omega
      · rw [if_neg h46] at LS
        have b46 : ((c.toNat : Int) == 46) = false := by simpa using h46
        generalize (c.toNat : Int) = x at *
        unfold labs at R
        obtain ⟨g, cp, rfl, hg, hgl, hc, hf⟩ := R.cells (by simp)
        have cl := hc (lst (t.take k)).1.length (by simp)
        have fl := hf (lst (t.take k)).1.length
        have eg : ((lst (t.take k)).1 ++ [(lst (t.take k)).2]).getD (lst (t.take k)).1.length [] = (lst (t.take k)).2 := by simp
        rw [eg] at cl
        have el : ((lst (t.take k)).1 ++ [(lst (t.take k)).2]).length = (lst (t.take k)).1.length + 1 := by simp
        rw [el] at R ⊢
        have RS := fun n => hide (RowT.setLast R ((lst (t.take k)).2 ++ [c]) n)
        rw [← LS] at RS
        have NS : ∀ n, Hid (Below w.heap.size w ((wr.drewN n).setCell ⟨g, (lst (t.take k)).1.length, none⟩ (tx ((lst (t.take k)).2 ++ [c])))) := fun n => (below_drewN N n).setCell hg _
        have ex : (ByteArray.mk ⟨t⟩).extract k (k + 1) = ByteArray.mk ⟨[c]⟩ := by
          have := ByteArray.extract_mk t k (k + 1)
          rw [cut0] at this
          exact this
        have lc : (lst (t.take k)).2.length ≤ 128 := by
          obtain ⟨s, h1, _⟩ := lst_cur (t.take k)
          rw [List.length_take] at h1
          omega
        have ap : ByteArray.mk ⟨(lst (t.take k)).2⟩ ++ ByteArray.mk ⟨[c]⟩ = ByteArray.mk ⟨(lst (t.take k)).2 ++ [c]⟩ := ByteArray.mk_append_mk (lst (t.take k)).2 [c]
        have sz1 : ¬ ((lst (t.take k)).2.length + 1 > 9223372036854775807) := by omega
        clear hc hf eg el R N LS cut0 hgl
        generalize (lst (t.take k)).2 = cur at *
        generalize (lst (t.take k)).1.length = m at *
        unfold tx at cl RS NS
        go_wp2
        go_region
        go_wp2
        go_roundw
        case rel => exact ⟨k + 1, by omega, by go_num, (RS _).out, (NS _).out⟩
        case measure => simp [intOf]; omega
    · obtain rfl : k = t.length := by omega
      rw [List.take_length] at R
      have RR := hide R
      have NN := hide N
      clear R N
      go_wp2
      go_ret
      exact ⟨⟨_, rfl, RR.out⟩, NN.out⟩
end Go.Proofs.YtdnkgmlidhepbaaGreat
