import Derived.Test.YtccnhdicibjbaaaGreatGB46
import Derived.Laws.Bits64b
import Derived.Deep.Cut
import Derived.Test.YtccnhdicibjbaaaGreatGB1
import Derived.Test.YtccnhdicibjbaaaGreatRows
import Derived.WalkSpells
import Derived.Deep.QuietTactic
import Derived.BigQuiet
import Derived.WalkMore
import Derived.Laws.AppendOwnNone
import Derived.Maps.AppendAt
import Derived.Lib.AppendZeros
import Derived.Deep.MidRow
import Derived.Test.YtccnhdicibjbaaaGreatGB2
import Derived.Deep.DeepCutAuto
import Derived.Test.YtccnhdicibjbaaaGreatGB5
import Derived.Test.YtccnhdicibjbaaaGreatGB3
import Derived.Lib.AppendStr
import Derived.Test.YtccnhdicibjbaaaGreatGB4
import Derived.Test.YtccnhdicibjbaaaGreatGB7
import Derived.Laws.BytesString
namespace Go.Proofs.YtccnhdicibjbaaaGreat
open Go Go.RowKit
theorem ofInt64 (v : Int) : ((BitVec.ofInt 64 v).toNat : Int) = v % 18446744073709551616 := by
  rw [BitVec.toNat_ofInt]
  rw [Int.toNat_of_nonneg (Int.emod_nonneg _ (by decide))]
  rfl
theorem wrap_i64 (n : Int) : IntKind.i64.wrap n = (n + 9223372036854775808) % 18446744073709551616 - 9223372036854775808 := by
  simp [IntKind.wrap, IntKind.signed, IntKind.bits]
  omega
theorem or_byte (v x : Int) (h0 : -9223372036854775808 ≤ v * 256) (h1 : v * 256 < 9223372036854775808) (x0 : 0 ≤ x) (x1 : x < 256) : bits .or .i64 (v * 256) x = v * 256 + x := by
  have e : bits .or .i64 (v * 256) x = IntKind.i64.wrap ((BitVec.ofInt 64 (v * 256) ||| BitVec.ofInt 64 x).toNat : Int) := rfl
  rw [e, wrap_i64, BitVec.toNat_or]
  have a := ofInt64 (v * 256)
  have b := ofInt64 x
  obtain ⟨m, hm⟩ : ∃ m, (BitVec.ofInt 64 (v * 256)).toNat = 2 ^ 8 * m := ⟨(BitVec.ofInt 64 (v * 256)).toNat / 256, by omega⟩
  obtain ⟨y, hy⟩ : ∃ y, (BitVec.ofInt 64 x).toNat = y := ⟨_, rfl⟩
  rw [hm, hy, ← Nat.two_pow_add_eq_or_of_lt (by omega)]
  rw [hm] at a
  rw [hy] at b
  omega
end Go.Proofs.YtccnhdicibjbaaaGreat
namespace Go.Proofs.YtccnhdicibjbaaaGreat
open Go Go.RowKit
def beN (xs : List Int) (i : Nat) : Nat → Int
  | 0 => 0
  | k + 1 => beN xs i k * 256 + xs.getD (i + k) 0
theorem beN_rng {xs : List Int} (h : Byt xs) (i : Nat) : ∀ k, 0 ≤ beN xs i k ∧ beN xs i k < 256 ^ k
  | 0 => ⟨Int.le_refl _, by simp [beN]⟩
  | k + 1 => by
    have ih := beN_rng h i k
    have b := h (i + k)
    rw [beN, Int.pow_succ]
    omega
theorem Rd.of_block' {w w' : World} {g : Nat} {a : Option Addr} {k : IntKind} {xs : List Int} (h : Rd w g a k xs) (hb : 0 < xs.length → w'.heap[g]? = w.heap[g]?) : Rd w' g a k xs := by
  by_cases h0 : 0 < xs.length
  · exact h.of_block (hb h0)
  · exact fun q => absurd q h0
end Go.Proofs.YtccnhdicibjbaaaGreat
namespace Go.Proofs.YtccnhdicibjbaaaGreat
open Go Go.RowKit
def isAg (n : Int) : Bool := decide (0 ≤ n) && decide (n ≤ 4294967295)
theorem isAg_iff (n : Int) : isAg n = true ↔ 0 ≤ n ∧ n ≤ 4294967295 := by simp [isAg]
set_option maxRecDepth 100000 in
theorem isAge_any (w : World) (n : Int) : Calls Tryz.prog 68 #[.int .i64 n] w fun e w' => e = .returned (.bool (isAg n)) ∧ w' = w := by
  by_cases h : 0 ≤ n
  · have u : decide (0 ≤ n) = true := decide_eq_true h
    unfold isAg
    rw [u]
    go_enter Tryz.func68, Tryz.ntmps68
    go_wp2
    go_ret
    exact ⟨by simp, rfl⟩
  · have u : decide (0 ≤ n) = false := decide_eq_false h
    unfold isAg
    rw [u]
    go_enter Tryz.func68, Tryz.ntmps68
    go_wp2
    go_ret
    exact ⟨by simp, rfl⟩
end Go.Proofs.YtccnhdicibjbaaaGreat
namespace Go.Proofs.YtccnhdicibjbaaaGreat
def okB (c : UInt8) : Bool := (decide (97 ≤ (c.toNat : Int)) && decide ((c.toNat : Int) ≤ 122)) || (decide (48 ≤ (c.toNat : Int)) && decide ((c.toNat : Int) ≤ 57)) || decide ((c.toNat : Int) = 45)
def bad (l : List UInt8) : Bool := l.any fun c => !okB c
def lbF (l : List UInt8) : Int := if l.length = 0 then 2 else if 63 < l.length then 3 else if bad l = true then 4 else if ((l.getD 0 0).toNat : Int) = 45 ∨ ((l.getD (l.length - 1) 0).toNat : Int) = 45 then 5 else 0
def ff : List (List UInt8) → Int
  | [] => 0
  | l :: ls => if lbF l = 0 then ff ls else lbF l
def stp (p : List (List UInt8) × List UInt8) (c : UInt8) : List (List UInt8) × List UInt8 := if (c.toNat : Int) = 46 then (p.1 ++ [p.2], []) else (p.1, p.2 ++ [c])
def lst (l : List UInt8) : List (List UInt8) × List UInt8 := l.foldl stp ([], [])
def labs (l : List UInt8) : List (List UInt8) := (lst l).1 ++ [(lst l).2]
def nameF (l : List UInt8) : Int := if l.length < 1 ∨ 128 < l.length then 1 else ff (labs l)
theorem lst_snoc (l : List UInt8) (c : UInt8) : lst (l ++ [c]) = stp (lst l) c := by simp [lst]
theorem lst_dot (l : List UInt8) (c : UInt8) (h : (c.toNat : Int) = 46) : lst (l ++ [c]) = (labs l, []) := by
  rw [lst_snoc]
  exact if_pos h
theorem lst_in (l : List UInt8) (c : UInt8) (h : (c.toNat : Int) ≠ 46) : lst (l ++ [c]) = ((lst l).1, (lst l).2 ++ [c]) := by
  rw [lst_snoc]
  exact if_neg h
theorem ff_app (a b : List (List UInt8)) : ff (a ++ b) = if ff a = 0 then ff b else ff a := by
  induction a with
  | nil => simp [ff]
  | cons x a ih =>
    show (if lbF x = 0 then ff (a ++ b) else lbF x) = if (if lbF x = 0 then ff a else lbF x) = 0 then ff b else (if lbF x = 0 then ff a else lbF x)
    by_cases h : lbF x = 0
    · simp only [if_pos h]
      exact ih
    · simp only [if_neg h]
theorem ff_one (l : List UInt8) : ff [l] = lbF l := by
  show (if lbF l = 0 then ff [] else lbF l) = lbF l
  split
  · rename_i h
    rw [h]
    rfl
  · rfl
theorem snoc_ind {P : List UInt8 → Prop} (h0 : P []) (hs : ∀ l c, P l → P (l ++ [c])) : ∀ l, P l := by
  intro l
  have : ∀ n, n ≤ l.length → P (l.take n) := by
    intro n
    induction n with
    | zero => intro _; simpa using h0
    | succ n ih =>
      intro hn
      have e : l.take (n + 1) = l.take n ++ [l[n]] := by rw [List.take_succ_eq_append_getElem]
      rw [e]
      exact hs _ _ (ih (by omega))
  have := this l.length (Nat.le_refl _)
  rwa [List.take_length] at this
theorem lst_pre (a b : List UInt8) : ∃ t, (lst (a ++ b)).1 = (lst a).1 ++ t := by
  revert b
  refine snoc_ind (P := fun b => ∃ t, (lst (a ++ b)).1 = (lst a).1 ++ t) ⟨[], by simp⟩ ?_
  rintro l c ⟨t, ih⟩
  rw [← List.append_assoc, lst_snoc]
  unfold stp
  split
  · exact ⟨t ++ [(lst (a ++ l)).2], by rw [ih, List.append_assoc]⟩
  · exact ⟨t, ih⟩
theorem lst_cur : ∀ l : List UInt8, ∃ s, s + (lst l).2.length = l.length ∧ (lst l).2 = l.drop s := by
  refine snoc_ind ⟨0, rfl, rfl⟩ ?_
  rintro l c ⟨s, h1, h2⟩
  rw [lst_snoc]
  unfold stp
  split
  · exact ⟨l.length + 1, by simp, by simp⟩
  · refine ⟨s, by simp; omega, ?_⟩
    simp only
    rw [List.drop_append_of_le_length (by omega), ← h2]
theorem ff_cut {a b : List UInt8} (h : ff (lst a).1 ≠ 0) : ff (lst (a ++ b)).1 = ff (lst a).1 := by
  obtain ⟨t, e⟩ := lst_pre a b
  rw [e, ff_app, if_neg h]
theorem bad_snoc (l : List UInt8) (c : UInt8) : bad (l ++ [c]) = (bad l || !okB c) := by simp [bad]
def tx (l : List UInt8) : Value := .string ⟨⟨l⟩⟩
theorem tx_size (l : List UInt8) : (ByteArray.mk ⟨l⟩).size = l.length := rfl
theorem tx_at (l : List UInt8) (i : Nat) (h : i < l.length) : (ByteArray.mk ⟨l⟩)[i]'h = l.getD i 0 := by
  simp only [List.getD, List.getElem?_eq_getElem h, Option.getD_some]
  rfl
theorem run_tx {P : Program} (w : World) (t : TypeId) (l : List UInt8) (i : Nat) (hu : P.underlying t = some .string) (h : i < l.length) : (Instr.index t (.string ⟨⟨l⟩⟩) (.int .i64 (i : Int))).run P w = .ok (.int .u8 ((l.getD i 0).toNat : Int)) w := by
  have hi : 0 ≤ (i : Int) ∧ (i : Int) < ((ByteArray.mk ⟨l⟩).size : Int) := ⟨by omega, by rw [tx_size]; omega⟩
  rw [run_index_string w t _ .i64 i hu, dif_pos hi]
  have e : (i : Int).toNat = i := by omega
  have := tx_at l i h
  simp only [e, this]
theorem run_tx_cut {P : Program} (w : World) (t : TypeId) (l : List UInt8) (i j : Nat) (hu : P.underlying t = some .string) (h : i ≤ j) (hj : j ≤ l.length) : (Instr.slice t (.string ⟨⟨l⟩⟩) (some (.int .i64 (i : Int))) (some (.int .i64 (j : Int))) none).run P w = .ok (.string ⟨⟨(l.drop i).take (j - i)⟩⟩) w := by
  rw [run_slice_string w t _ .i64 .i64 i j hu (by omega) (by omega) (by rw [tx_size]; omega)]
  have := ByteArray.extract_mk l i j
  simp only [Int.toNat_natCast]
  rw [show (ByteArray.mk ⟨l⟩) = ByteArray.mk l.toArray from rfl, this]
end Go.Proofs.YtccnhdicibjbaaaGreat
namespace Go.Proofs.YtccnhdicibjbaaaGreat
open Go Go.RowKit
set_option maxRecDepth 100000 in
set_option maxHeartbeats 1000000 in
theorem isLabelByte_any (w : World) (c : UInt8) :
    Calls Tryz.prog 104 #[.int .u8 (c.toNat : Int)] w fun e w' => e = .returned (.bool (okB c)) ∧ w' = w := by
  have hb : okB c = ((decide (97 ≤ (c.toNat : Int)) && decide ((c.toNat : Int) ≤ 122)) || (decide (48 ≤ (c.toNat : Int)) && decide ((c.toNat : Int) ≤ 57)) || decide ((c.toNat : Int) = 45)) := rfl
  generalize okB c = b at *
  generalize (c.toNat : Int) = x at *
  have HB := hide hb
  clear hb
  by_cases h1 : 97 ≤ x <;> by_cases h2 : x ≤ 122 <;> by_cases h3 : 48 ≤ x <;> by_cases h4 : x ≤ 57 <;> by_cases h5 : x = 45
  all_goals first | (exfalso; omega) | skip
  all_goals (
    go_enter Tryz.func104, Tryz.ntmps104
    go_wp2
    go_ret
    refine ⟨?_, rfl⟩
    rw [HB.out]
    show Ending.returned (Value.bool _) = Ending.returned (Value.bool _)
    congr 2
    rw [Bool.eq_iff_iff]
    first | (simp; done) | (simp; omega))
set_option maxRecDepth 100000 in
set_option maxHeartbeats 1000000 in
theorem labelFault_any (w : World) (l : List UInt8) (hl : l.length ≤ 1000000) :
    Calls Tryz.prog 103 #[.string ⟨⟨l⟩⟩, .bool (bad l)] w fun e w' => e = .returned (.int .i64 (lbF l)) ∧ w' = w := by
  have hsz := tx_size l
  have eq0 : l.isEmpty = decide (l.length = 0) := by cases l <;> simp
  unfold lbF
  by_cases h0 : l.length = 0
  · rw [if_pos h0]
    have t0 : decide (l.length = 0) = true := decide_eq_true h0
    rw [t0] at eq0
    go_enter Tryz.func103, Tryz.ntmps103
    go_wp2
    go_ret
    exact ⟨rfl, rfl⟩
  · rw [if_neg h0]
    have t0 : decide (l.length = 0) = false := decide_eq_false h0
    rw [t0] at eq0
    have ix0 : ∀ w, (Instr.index 9 (.string ⟨⟨l⟩⟩) (.int .i64 0)).run Tryz.prog w = .ok (.int .u8 ((l.getD 0 0).toNat : Int)) w := fun w => run_tx (P := Tryz.prog) w 9 l 0 Tryz.underlying9 (by omega)
    have ix1 := fun w => run_tx (P := Tryz.prog) w 9 l (l.length - 1) Tryz.underlying9 (by omega)
    have e1 : ((l.length - 1 : Nat) : Int) = (l.length : Int) - 1 := by omega
    rw [e1] at ix1
    by_cases h1 : 63 < l.length
    · rw [if_pos h1]
      have t1 : decide ((63 : Int) < (l.length : Int)) = true := by simp; omega
      go_enter Tryz.func103, Tryz.ntmps103
      go_wp2
      go_ret
      exact ⟨rfl, rfl⟩
    · rw [if_neg h1]
      have t1 : decide ((63 : Int) < (l.length : Int)) = false := by simp; omega
      by_cases h2 : bad l = true
      · rw [if_pos h2, h2]
        go_enter Tryz.func103, Tryz.ntmps103
        go_wp2
        go_ret
        exact ⟨rfl, rfl⟩
      · rw [if_neg h2, Bool.eq_false_iff.2 h2]
        generalize ((l.getD 0 0).toNat : Int) = x at *
        generalize ((l.getD (l.length - 1) 0).toNat : Int) = y at *
        by_cases h3 : x = 45
        · rw [if_pos (.inl h3)]
          subst h3
          go_enter Tryz.func103, Tryz.ntmps103
          go_wp2
          go_ret
          exact ⟨rfl, rfl⟩
        · by_cases h4 : y = 45
          · rw [if_pos (.inr h4)]
            subst h4
            go_enter Tryz.func103, Tryz.ntmps103
            go_wp2
            go_ret
            exact ⟨rfl, rfl⟩
          · rw [if_neg (by rintro (h | h) <;> contradiction)]
            have b1 : (x == 45) = false := by simpa using h3
            have b2 : (y == 45) = false := by simpa using h4
            go_enter Tryz.func103, Tryz.ntmps103
            go_wp2
            go_ret
            exact ⟨rfl, rfl⟩
set_option maxRecDepth 100000 in
set_option maxHeartbeats 4000000 in
theorem labelsFault_any (w : World) (t : List UInt8) (hl : t.length ≤ 1000000) :
    Calls Tryz.prog 87 #[.string ⟨⟨t⟩⟩] w fun e w' => e = .returned (.int .i64 (ff (lst t).1)) ∧ w' = w := by
  have hsz := tx_size t
  go_enter Tryz.func87, Tryz.ntmps87
  go_wp2
  go_step3
  go_wp2
  go_step3
  go_wp2
  go_loopw [3, 4, 5, 10] (fun f s b i wr => wr = w ∧ ∃ k s' : Nat, k ≤ t.length ∧ i = .int .i64 k ∧ f = .int .i64 0 ∧ s = .int .i64 s' ∧ b = .bool (bad (lst (t.take k)).2) ∧ ff (lst (t.take k)).1 = 0 ∧ s' + (lst (t.take k)).2.length = k) (fun _ _ _ i _ => t.length - (intOf i).toNat)
  case atStart => exact ⟨rfl, 0, 0, by omega, rfl, rfl, rfl, rfl, rfl, rfl⟩
  case round =>
    obtain ⟨rfl, k, s', hk, rfl, rfl, rfl, rfl, hff, hs⟩ := hrel
    by_cases hlt : k < t.length
    · have t1 : (k : Int) < (t.length : Int) := by omega
      have ix := fun w => run_tx (P := Tryz.prog) w 9 t k Tryz.underlying9 hlt
      have e : t.take (k + 1) = t.take k ++ [t.getD k 0] := by
        rw [List.take_succ_eq_append_getElem hlt]
        congr 2
        simp [hlt]
      obtain ⟨c, hc⟩ : ∃ c, c = t.getD k 0 := ⟨_, rfl⟩
      rw [← hc] at ix e
      clear hc
      have cur := lst_cur (t.take k)
      obtain ⟨s2, q1, q2⟩ := cur
      rw [List.length_take, Nat.min_eq_left (by omega)] at q1
      obtain rfl : s2 = s' := by omega
      have CU : (t.drop s2).take (k - s2) = (lst (t.take k)).2 := by
        rw [q2, List.drop_take]
      by_cases h46 : (c.toNat : Int) = 46
      · have L := lst_dot (t.take k) c h46
        rw [← e] at L
        have cut := fun w => run_tx_cut (P := Tryz.prog) w 9 t s2 k Tryz.underlying9 (by omega) (by omega)
        rw [CU] at cut
        have LF := hide (fun w => labelFault_any w (lst (t.take k)).2 (by omega))
        have FF : Hid (ff (lst (t.take (k + 1))).1 = lbF (lst (t.take k)).2) := by
          show _ = _
          rw [L]
          show ff (labs (t.take k)) = _
          unfold labs
          rw [ff_app, if_pos hff, ff_one]
        have E1 : Hid ((lst (t.take (k + 1))).2 = []) := by show _ = _; rw [L]
        have HC := hide (fun h => ff_cut (a := t.take (k + 1)) (b := t.drop (k + 1)) h)
        rw [List.take_append_drop] at HC
        clear L CU q1 q2 e hff
        generalize (lst (t.take k)).2 = cur at *
        have b46 : ((c.toNat : Int) == 46) = true := by rw [h46]; rfl
        generalize (c.toNat : Int) = x at *
        subst h46
        go_wp2_with fail
        refine (LF.out _).mono ?_
        rintro e w1 ⟨rfl, h1⟩
        have h1' := h1.symm
        subst h1'
        clear LF cut ix h1
        by_cases hf : lbF cur = 0
        · rw [hf] at FF ⊢
          clear HC hf hs
          go_wp2
          go_roundw
          case rel => exact ⟨trivial, k + 1, k + 1, by omega, by go_num, rfl, by go_num, by rw [E1.out]; rfl, FF.out, by rw [E1.out]; simp⟩
          case measure => simp [intOf]; omega
        · have b0 : (lbF cur != 0) = true := by simpa using hf
          have EQ : Hid (ff (lst t).1 = lbF cur) := by
            show _ = _
            rw [HC.out (by rw [FF.out]; exact hf), FF.out]
          clear FF E1 HC
          generalize lbF cur = z at *
          go_wp2
          rw [Exit.noGoto_ret]
          go_ret
          exact ⟨by rw [EQ.out]; rfl, rfl⟩
      · have L := lst_in (t.take k) c h46
        rw [← e] at L
        have IB := hide (fun w => isLabelByte_any w c)
        have b46 : ((c.toNat : Int) == 46) = false := by simpa using h46
        have R1 : Hid (bad (lst (t.take (k + 1))).2 = (bad (lst (t.take k)).2 || !okB c)) := by
          show _ = _
          rw [L]
          exact bad_snoc _ _
        have R2 : Hid (ff (lst (t.take (k + 1))).1 = 0) := by
          show _ = _
          rw [L]
          exact hff
        have R3 : Hid (s2 + (lst (t.take (k + 1))).2.length = k + 1) := by
          show _ = _
          rw [L]
          simp only [List.length_append, List.length_cons, List.length_nil]
          omega
        clear L CU q1 q2 e hff hs
        generalize bad (lst (t.take k)).2 = st at *
        generalize (c.toNat : Int) = x at *
        cases st with
        | true =>
          go_wp2
          go_roundw
          case rel => exact ⟨trivial, k + 1, s2, by omega, by go_num, rfl, rfl, by rw [R1.out]; rfl, R2.out, R3.out⟩
          case measure => simp [intOf]; omega
        | false =>
          go_wp2_with fail
          refine (IB.out _).mono ?_
          rintro e w1 ⟨rfl, h1⟩
          have h1' := h1.symm
          subst h1'
          clear h1
          go_wp2
          go_roundw
          case rel => exact ⟨trivial, k + 1, s2, by omega, by go_num, rfl, rfl, by rw [R1.out]; rfl, R2.out, R3.out⟩
          case measure => simp [intOf]; omega
    · obtain rfl : k = t.length := by omega
      rw [List.take_length] at hff
      have HF := hide hff
      clear hs hff
      go_wp2
      rw [Exit.noGoto_ret]
      go_ret
      exact ⟨by rw [HF.out]; rfl, rfl⟩
end Go.Proofs.YtccnhdicibjbaaaGreat
namespace Go.Proofs.YtccnhdicibjbaaaGreat
open Go Go.RowKit
set_option maxRecDepth 100000 in
set_option maxHeartbeats 1000000 in
theorem implNameFault_any (w : World) (l : List UInt8) (hl : l.length ≤ 9223372036854775807) :
    Calls Tryz.prog 67 #[.string ⟨⟨l⟩⟩] w fun e w' => e = .returned (.int .i64 (nameF l)) ∧ w' = w := by
  have hsz := tx_size l
  by_cases h0 : l.length < 1
  · have eN : Hid (nameF l = 1) := by show _ = _; unfold nameF; rw [if_pos (.inl h0)]
    have eq0 : l.isEmpty = true := by cases l with | nil => rfl | cons a b => simp at h0
    go_enter Tryz.func67, Tryz.ntmps67
    go_wp2
    go_ret
    exact ⟨by rw [eN.out]; rfl, rfl⟩
  · have eq0 : l.isEmpty = false := by cases l with | nil => simp at h0 | cons a b => rfl
    by_cases h1 : 128 < l.length
    · have eN : Hid (nameF l = 1) := by show _ = _; unfold nameF; rw [if_pos (.inr h1)]
      have t1 : decide ((128 : Int) < (l.length : Int)) = true := by simp; omega
      go_enter Tryz.func67, Tryz.ntmps67
      go_wp2
      go_ret
      exact ⟨by rw [eN.out]; rfl, rfl⟩
    · have eN : Hid (nameF l = ff (lst (l ++ [46])).1) := by
        show _ = _
        unfold nameF
        rw [if_neg (by omega), lst_dot l 46 (by decide)]
      have t1 : decide ((128 : Int) < (l.length : Int)) = false := by simp; omega
      have LF := hide (fun w => labelsFault_any w (l ++ [46]) (by simp; omega))
      have ad : ∀ w : World, (Op.stringOp .add (ByteArray.mk ⟨l⟩) (ByteArray.mk #[46])).run Tryz.prog w = .ok (.string ⟨⟨l ++ [46]⟩⟩) w := by
        intro w
        rw [run_string_add_sum w _ _ (by rw [tx_size]; show l.length + 1 ≤ _; omega)]
        have := ByteArray.mk_append_mk l [46]
        exact congrArg (fun s => Result.ok (Value.string s) w) this
      go_enter Tryz.func67, Tryz.ntmps67
      go_wp2_with fail
      refine (LF.out w).mono ?_
      rintro e w1 ⟨rfl, rfl⟩
      go_wp2
      go_ret
      exact ⟨by rw [eN.out]; rfl, rfl⟩
end Go.Proofs.YtccnhdicibjbaaaGreat
namespace Go.Proofs.YtccnhdicibjbaaaGreat
open Go Go.RowKit
def RowT (w : World) (base : Nat) (v : Value) (ls : List (List UInt8)) : Prop := w.ownsRow base 9 1 v ls.length (ls.map tx)
set_option maxRecDepth 100000 in
theorem infoTx : (Tryz.prog.info? 9).map (fun i => (i.zero, i.size, i.bytes)) = some (some (.string ⟨#[]⟩), 1, 16) := by kernel_rfl
set_option maxRecDepth 100000 in
theorem undTx : Tryz.prog.underlying 73 = some (.slice 9) := Tryz.underlying73
theorem RowT.lit1 (w : World) (l : List UInt8) : RowT (w.alloc (.cells #[tx l] 9)) w.heap.size (.slice (some ⟨w.heap.size, 0, none⟩) 1 1) [l] :=
  World.ownsRow_lit w #[tx l] 1 (Nat.le_refl _) (by unfold maxLen; omega) (by simp)
set_option maxRecDepth 100000 in
theorem append_tx (w : World) (ty : TypeId) (base : Nat) (v : Value) (ls : List (List UInt8)) (hown : RowT w base v ls) (l : List UInt8) (hl : ls.length ≤ 1000000) (hbase : base ≤ w.heap.size) :
    ∃ v' w', (Builtin.append_ #[73, 73] ty #[v, .slice (some ⟨w.heap.size, 0, none⟩) 1 1]).run Tryz.prog (w.alloc (.cells #[tx l] 9)) = .ok v' w' ∧ RowT w' base v' (ls ++ [l]) ∧ Below base w w' := by
  obtain ⟨i, hi, hz, hs, hb⟩ := info_parts infoTx
  have h0 : RowT (w.alloc (.cells #[tx l] 9)) base v ls := World.ownsRow.alloc hown _
  have m1 : Below base w (w.alloc (.cells #[tx l] 9)) := (Below.refl _ _).alloc hbase _
  obtain ⟨v', w', h1, h2, h3, _⟩ := run_append_own (P := Tryz.prog) (w.alloc (.cells #[tx l] 9)) base 73 ty 9 i (.string ⟨#[]⟩) 1 16 undTx hi hz hs hb rfl (by decide) v ls.length (ls.map tx) h0 ⟨w.heap.size, 0, none⟩ 1 1 [tx l] (by simp) (cell_one_new w (tx l) 9) (by simp [tx, Value.oneCell']) (by unfold maxLen; omega) (by omega) (by simp; omega)
  refine ⟨v', w', h1, ?_, m1.grown h3 (by simp; omega) (fun k hk => by have := (World.ownsRow.lt h0 k hk).1; omega)⟩
  show w'.ownsRow base 9 1 v' (ls ++ [l]).length ((ls ++ [l]).map tx)
  rw [List.length_append, List.map_append]
  exact h2
theorem RowT.cells {w : World} {base : Nat} {v : Value} {ls : List (List UInt8)} (h : RowT w base v ls) (h0 : 0 < ls.length) : ∃ g c, v = .slice (some ⟨g, 0, none⟩) ls.length c ∧ base ≤ g ∧ g < w.heap.size ∧ (∀ i, i < ls.length → w.cell? ⟨g, i, none⟩ = some (tx (ls.getD i []))) ∧ ∀ i, w.frozen? ⟨g, i, none⟩ = false := by
  rcases h.2 with ⟨_, h'⟩ | ⟨g, cap, cur, rfl, hb, hg, hnc, hcm, hcs, ht⟩
  · omega
  · refine ⟨g, cap, rfl, hb, (Array.getElem?_eq_some_iff.1 hg).1, fun i hi => ?_, fun i => frozen_of_row w g i cur 9 hg⟩
    rw [cell_of_row w g i cur 9 (0, 0) hg]
    have : (cur.toList.take (ls.length * 1))[i]? = (ls.map tx)[i]? := by rw [ht]
    rw [List.getElem?_take, if_pos (by omega)] at this
    simpa [hi] using this
theorem set_snoc {α : Type} : ∀ (a : List α) (x y : α), (a ++ [x]).set a.length y = a ++ [y]
  | [], _, _ => rfl
  | b :: a, x, y => congrArg (List.cons b) (set_snoc a x y)
theorem RowT.setLast {w : World} {base g c : Nat} {ls : List (List UInt8)} {l : List UInt8} (h : RowT w base (.slice (some ⟨g, 0, none⟩) (ls.length + 1) c) (ls ++ [l])) (l' : List UInt8) (n : Nat) : RowT ((w.drewN n).setCell ⟨g, ls.length, none⟩ (tx l')) base (.slice (some ⟨g, 0, none⟩) (ls.length + 1) c) (ls ++ [l']) := by
  refine ⟨by simp, ?_⟩
  rcases h.2 with ⟨h', _⟩ | ⟨g', cap, cur, e, hb, hg, hnc, hcm, hcs, ht⟩
  · simp at h'
  · simp only [Value.slice.injEq, Option.some.injEq, Addr.mk.injEq, and_true] at e
    obtain ⟨rfl, e2, rfl⟩ := e
    refine .inr ⟨g, c, cur.setIfInBounds ls.length (tx l'), by simp, hb, ?_, by simpa using hnc, hcm, by simpa using hcs, ?_⟩
    · exact heap_setCell_same (w.drewN n) g ls.length cur 9 (tx l') hg
    · simp only [List.length_append, List.length_cons, List.length_nil, Nat.mul_one, List.map_append, List.map_cons, List.map_nil] at ht ⊢
      rw [Array.toList_setIfInBounds, List.take_set, ht]
      have e3 : ls.length = (ls.map tx).length := by simp
      rw [e3]
      exact set_snoc _ _ _
theorem RowT.up {w w' : World} {base : Nat} {v : Value} {ls : List (List UInt8)} (h : RowT w base v ls) (hb : Below w.heap.size w w') : RowT w' base v ls := by
  refine ⟨h.1, ?_⟩
  rcases h.2 with h' | ⟨g, cap, cur, rfl, hbg, hg, hnc, hcm, hcs, ht⟩
  · exact .inl h'
  · exact .inr ⟨g, cap, cur, rfl, hbg, by rw [hb.block g ((Array.getElem?_eq_some_iff.1 hg).1)]; exact hg, hnc, hcm, hcs, ht⟩
def NewT1 (B : Nat) (w' : World) (e : Ending) (ls : List (List UInt8)) : Prop := ∃ v, e = .returned v ∧ RowT w' B v ls
theorem labs_snoc (l : List UInt8) (c : UInt8) : labs (l ++ [c]) = if (c.toNat : Int) = 46 then labs l ++ [[]] else (lst l).1 ++ [(lst l).2 ++ [c]] := by
  unfold labs
  rw [lst_snoc]
  unfold stp
  split <;> simp
theorem lst_len (l : List UInt8) : (lst l).1.length ≤ l.length := by
  revert l
  refine snoc_ind (by simp [lst]) ?_
  intro l c ih
  rw [lst_snoc]
  unfold stp
  split
  · simp; omega
  · simp; omega
set_option maxRecDepth 100000 in
theorem buildT (w : World) (l : List UInt8) : (Instr.buildSlice 73 1 #[(0, .string ⟨⟨l⟩⟩)]).run Tryz.prog w = .ok (.slice (some ⟨w.heap.size, 0, none⟩) 1 1) (w.alloc (.cells #[tx l] 9)) := by kernel_rfl
set_option maxRecDepth 100000 in
set_option maxHeartbeats 4000000 in
theorem l11Labels_any (w : World) (t : List UInt8) (hl : t.length ≤ 128) :
    Calls Tryz.prog 48 #[.string ⟨⟨t⟩⟩] w fun e w' => NewT1 w.heap.size w' e (labs t) ∧ Below w.heap.size w w' := by
  have hsz := tx_size t
  have B0 := fun w => buildT w []
  have R0 := RowT.lit1 w []
  have n0 : Below w.heap.size w (w.alloc (.cells #[tx []] 9)) := (Below.refl _ _).alloc (Nat.le_refl _) _
  go_enter Tryz.func48, Tryz.ntmps48
  go_wp2
  have R0' : RowT (w.alloc (.cells #[Value.string ⟨#[]⟩] 9)) w.heap.size (.slice (some ⟨w.heap.size, 0, none⟩) 1 1) [[]] := R0
  have n0' : Below w.heap.size w (w.alloc (.cells #[Value.string ⟨#[]⟩] 9)) := n0
  clear R0 n0 B0
  generalize w.alloc (.cells #[Value.string ⟨#[]⟩] 9) = w1 at *
  go_loopw [3, 4] (fun o i wr => ∃ k : Nat, k ≤ t.length ∧ i = .int .i64 k ∧ RowT wr w.heap.size o (labs (t.take k)) ∧ Below w.heap.size w wr) (fun _ i _ => t.length - (intOf i).toNat)
  case atStart => exact ⟨0, by omega, rfl, R0', n0'⟩
  case round =>
    clear R0' n0'
    obtain ⟨k, hk, rfl, R, N⟩ := hrel
    by_cases hlt : k < t.length
    · have t1 : (k : Int) < (t.length : Int) := by omega
      have ix := fun w => run_tx (P := Tryz.prog) w 9 t k Tryz.underlying9 hlt
      have e : t.take (k + 1) = t.take k ++ [t.getD k 0] := by
        rw [List.take_succ_eq_append_getElem hlt]
        congr 2
        simp [hlt]
      have LS := labs_snoc (t.take k) (t.getD k 0)
      rw [← e] at LS
      have ll := lst_len (t.take k)
      rw [List.length_take, Nat.min_eq_left (by omega)] at ll
      have cut0 : (t.drop k).take (k + 1 - k) = [t.getD k 0] := by
        have eg : t.getD k 0 = t[k] := by simp [hlt]
        rw [eg, show k + 1 - k = 1 by omega, List.drop_eq_getElem_cons hlt]
        rfl
      obtain ⟨c, hc⟩ : ∃ c, c = t.getD k 0 := ⟨_, rfl⟩
      rw [← hc] at ix LS cut0
      clear hc e
      by_cases h46 : (c.toNat : Int) = 46
      · rw [if_pos h46] at LS
        have hL : (labs (t.take k)).length ≤ 1000000 := by unfold labs; simp; omega
        obtain ⟨v', w2, h1, R2, N2⟩ := append_tx wr 73 w.heap.size _ _ R [] hL (N.size)
        rw [← LS] at R2
        have h1' : (Builtin.append_ #[73, 73] 73 #[u3, .slice (some ⟨wr.heap.size, 0, none⟩) 1 1]).run Tryz.prog (wr.alloc (.cells #[Value.string ⟨#[]⟩] 9)) = .ok v' w2 := h1
        have RR := hide R2
        have NN := hide (N.trans N2)
        clear h1 R2 N2 R N LS hL cut0
        have b46 : ((c.toNat : Int) == 46) = true := by rw [h46]; rfl
        generalize (c.toNat : Int) = x at *
        subst h46
        go_wp2_with (at_builtin; refine Lib.wpList_append_run _ rfl _ _ 73 73 rfl _ _ rfl rfl _ _ h1' ?_)
        clear h1'
        go_wp2
        go_roundw
        case rel => exact ⟨k + 1, by omega, by go_num, RR.out, NN.out⟩
        case measure => simp [intOf]; omega
      · rw [if_neg h46] at LS
        have b46 : ((c.toNat : Int) == 46) = false := by simpa using h46
        generalize (c.toNat : Int) = x at *
        unfold labs at R
        obtain ⟨g, cp, rfl, hg, hgl, hc, hf⟩ := R.cells (by simp)
        have cl := hc (lst (t.take k)).1.length (by simp)
        have fl := hf (lst (t.take k)).1.length
        have eg : ((lst (t.take k)).1 ++ [(lst (t.take k)).2]).getD (lst (t.take k)).1.length [] = (lst (t.take k)).2 := by simp
        rw [eg] at cl
        have el : ((lst (t.take k)).1 ++ [(lst (t.take k)).2]).length = (lst (t.take k)).1.length + 1 := by simp
        rw [el] at R ⊢
        have RS := fun n => hide (RowT.setLast R ((lst (t.take k)).2 ++ [c]) n)
        rw [← LS] at RS
        have NS : ∀ n, Hid (Below w.heap.size w ((wr.drewN n).setCell ⟨g, (lst (t.take k)).1.length, none⟩ (tx ((lst (t.take k)).2 ++ [c])))) := fun n => (below_drewN N n).setCell hg _
        have ex : (ByteArray.mk ⟨t⟩).extract k (k + 1) = ByteArray.mk ⟨[c]⟩ := by
          have := ByteArray.extract_mk t k (k + 1)
          rw [cut0] at this
          exact this
        have lc : (lst (t.take k)).2.length ≤ 128 := by
          obtain ⟨s, h1, _⟩ := lst_cur (t.take k)
          rw [List.length_take] at h1
          omega
        have ap : ByteArray.mk ⟨(lst (t.take k)).2⟩ ++ ByteArray.mk ⟨[c]⟩ = ByteArray.mk ⟨(lst (t.take k)).2 ++ [c]⟩ := ByteArray.mk_append_mk (lst (t.take k)).2 [c]
        have sz1 : ¬ ((lst (t.take k)).2.length + 1 > 9223372036854775807) := by omega
        clear hc hf eg el R N LS cut0 hgl
        generalize (lst (t.take k)).2 = cur at *
        generalize (lst (t.take k)).1.length = m at *
        unfold tx at cl RS NS
        go_wp2
        go_region
        go_wp2
        go_roundw
        case rel => exact ⟨k + 1, by omega, by go_num, (RS _).out, (NS _).out⟩
        case measure => simp [intOf]; omega
    · obtain rfl : k = t.length := by omega
      rw [List.take_length] at R
      have RR := hide R
      have NN := hide N
      clear R N
      go_wp2
      go_ret
      exact ⟨⟨_, rfl, RR.out⟩, NN.out⟩
end Go.Proofs.YtccnhdicibjbaaaGreat
namespace Go.Proofs.YtccnhdicibjbaaaGreat
open Go Go.RowKit
theorem ff_take {ls : List (List UInt8)} {k : Nat} (hk : k < ls.length) (h : ff (ls.take k) = 0) : ff (ls.take (k + 1)) = lbF (ls.getD k []) ∧ (lbF (ls.getD k []) ≠ 0 → ff ls = lbF (ls.getD k [])) := by
  have e : ls.take (k + 1) = ls.take k ++ [ls.getD k []] := by
    rw [List.take_succ_eq_append_getElem hk]
    congr 2
    simp [hk]
  have e1 : ff (ls.take (k + 1)) = lbF (ls.getD k []) := by rw [e, ff_app, if_pos h, ff_one]
  refine ⟨e1, fun hne => ?_⟩
  rw [← List.take_append_drop (k + 1) ls, ff_app, e1, if_neg hne]
  rw [List.take_append_drop]
theorem bad_take {l : List UInt8} {m : Nat} (hm : m < l.length) : bad (l.take (m + 1)) = (bad (l.take m) || !okB (l.getD m 0)) := by
  have e : l.take (m + 1) = l.take m ++ [l.getD m 0] := by
    rw [List.take_succ_eq_append_getElem hm]
    congr 2
    simp [hm]
  rw [e, bad_snoc]
theorem bad_of {l : List UInt8} {m : Nat} (hm : m < l.length) (h : okB (l.getD m 0) = false) : bad l = true := by
  unfold bad
  rw [List.any_eq_true]
  refine ⟨l.getD m 0, ?_, by rw [h]; rfl⟩
  simp [hm]
set_option maxRecDepth 100000 in
set_option maxHeartbeats 8000000 in
theorem specNameFault_any (w : World) (t : List UInt8) (hl : t.length ≤ 9223372036854775807) :
    Calls Tryz.prog 24 #[.string ⟨⟨t⟩⟩] w fun e w' => e = .returned (.int .i64 (nameF t)) ∧ Below w.heap.size w w' := by
  have hsz := tx_size t
  by_cases h0 : t.length < 1
  · have eN : Hid (nameF t = 1) := by show _ = _; unfold nameF; rw [if_pos (.inl h0)]
    have t0 : decide ((t.length : Int) < 1) = true := by simp; omega
    go_enter Tryz.func24, Tryz.ntmps24
    go_wp2
    go_ret
    exact ⟨by rw [eN.out]; rfl, Below.refl _ _⟩
  · have t0 : decide ((t.length : Int) < 1) = false := by simp; omega
    by_cases h1 : 128 < t.length
    · have eN : Hid (nameF t = 1) := by show _ = _; unfold nameF; rw [if_pos (.inr h1)]
      have t1 : decide ((128 : Int) < (t.length : Int)) = true := by simp; omega
      go_enter Tryz.func24, Tryz.ntmps24
      go_wp2
      go_ret
      exact ⟨by rw [eN.out]; rfl, Below.refl _ _⟩
    · have eN : Hid (nameF t = ff (labs t)) := by show _ = _; unfold nameF; rw [if_neg (by omega)]
      have t1 : decide ((128 : Int) < (t.length : Int)) = false := by simp; omega
      have LL := hide (fun w => l11Labels_any w t (by omega))
      have ln : (labs t).length ≤ 129 ∧ 0 < (labs t).length := by
        have := lst_len t
        unfold labs
        simp
        omega
      go_enter Tryz.func24, Tryz.ntmps24
      go_wp2_with fail
      refine (LL.out w).mono ?_
      rintro e W ⟨⟨v, rfl, R⟩, N⟩
      obtain ⟨g, cp, rfl, hg, hgl, hc, hf⟩ := R.cells ln.2
      clear LL R hf hgl hg
      have HN := hide N
      have HC := hide hc
      clear N hc
      generalize labs t = ls at *
      go_wp2
      go_loopw [4] (fun i wr => wr = W ∧ ∃ k : Nat, k ≤ ls.length ∧ i = .int .i64 k ∧ ff (ls.take k) = 0) (fun i _ => ls.length - (intOf i).toNat)
      case atStart => exact ⟨rfl, 0, by omega, rfl, rfl⟩
      case round =>
        obtain ⟨h1', k, hk, rfl, hff⟩ := hrel
        subst h1'
        by_cases hlt : k < ls.length
        · have t2 : (k : Int) < (ls.length : Int) := by omega
          have ck := HC.out k hlt
          obtain ⟨f1, f2⟩ := ff_take hlt hff
          generalize ls.getD k [] = l at *
          unfold tx at ck
          have lsz := tx_size l
          by_cases l0 : l.length = 0
          · have u0 : ((l.length : Int) == 0) = true := by simpa using l0
            have EQ : Hid (ff ls = 2) := by
              have e : lbF l = 2 := by unfold lbF; rw [if_pos l0]
              show _ = _
              rw [f2 (by rw [e]; decide), e]
            clear f1 f2 hff
            go_wp2
            go_ret
            exact ⟨by rw [eN.out, EQ.out]; rfl, HN.out⟩
          · have u0 : ((l.length : Int) == 0) = false := by simpa using l0
            by_cases l1 : 63 < l.length
            · have u1 : decide ((63 : Int) < (l.length : Int)) = true := by simp; omega
              have EQ : Hid (ff ls = 3) := by
                have e : lbF l = 3 := by unfold lbF; rw [if_neg l0, if_pos l1]
                show _ = _
                rw [f2 (by rw [e]; decide), e]
              clear f1 f2 hff
              go_wp2
              go_ret
              exact ⟨by rw [eN.out, EQ.out]; rfl, HN.out⟩
            · have u1 : decide ((63 : Int) < (l.length : Int)) = false := by simp; omega
              have F1 := hide f1
              have F2 := hide f2
              clear f1 f2 hff
              go_wp2
              go_loopw [6] (fun j w2 => w2 = wr ∧ ∃ m : Nat, m ≤ l.length ∧ j = .int .i64 m ∧ bad (l.take m) = false) (fun j _ => l.length - (intOf j).toNat)
              case atStart => exact ⟨rfl, 0, by omega, rfl, rfl⟩
              case round =>
                obtain ⟨h2', m, hm, rfl, hb⟩ := hrel
                subst h2'
                by_cases hml : m < l.length
                · have v1 : (m : Int) < (l.length : Int) := by omega
                  have ix := fun w => run_tx (P := Tryz.prog) w 9 l m Tryz.underlying9 hml
                  have BT := hide (bad_take hml)
                  have BO := hide (bad_of (m := m) hml)
                  have HB := hide (show okB (l.getD m 0) = ((decide (97 ≤ ((l.getD m 0).toNat : Int)) && decide (((l.getD m 0).toNat : Int) ≤ 122)) || (decide (48 ≤ ((l.getD m 0).toNat : Int)) && decide (((l.getD m 0).toNat : Int) ≤ 57)) || decide (((l.getD m 0).toNat : Int) = 45)) from rfl)
                  have hbH := hide hb
                  clear hb
                  generalize l.getD m 0 = c at *
                  generalize (c.toNat : Int) = x at *
                  by_cases hok : okB c = true
                  · have RL := hide (show bad (l.take (m + 1)) = false by rw [BT.out, hbH.out, hok]; rfl)
                    rw [hok] at HB
                    clear BT BO hbH hok
                    have hx : ((97 ≤ x ∧ x ≤ 122) ∨ (48 ≤ x ∧ x ≤ 57)) ∨ x = 45 := by
                      have h := HB.out
                      simpa using h.symm
                    clear HB
                    rcases hx with (⟨a1, a2⟩ | ⟨a1, a2⟩) | rfl
                    · skip
                      go_wp2
                      go_roundw
                      case rel => exact ⟨trivial, m + 1, by omega, by go_num, RL.out⟩
                      case measure => simp [intOf]; omega
                    · have a3 : decide (97 ≤ x) = false := by simp; omega
                      go_wp2
                      go_roundw
                      case rel => exact ⟨trivial, m + 1, by omega, by go_num, RL.out⟩
                      case measure => simp [intOf]; omega
                    · skip
                      go_wp2
                      go_roundw
                      case rel => exact ⟨trivial, m + 1, by omega, by go_num, RL.out⟩
                      case measure => simp [intOf]; omega
                  · have hok' : okB c = false := by simpa using hok
                    have EQ : Hid (ff ls = 4) := by
                      have e : lbF l = 4 := by unfold lbF; rw [if_neg l0, if_neg l1, if_pos (BO.out hok')]
                      show _ = _
                      rw [F2.out (by rw [e]; decide), e]
                    rw [hok'] at HB
                    clear BT BO hbH hok hok' F1 F2
                    have hx : ¬ (((97 ≤ x ∧ x ≤ 122) ∨ (48 ≤ x ∧ x ≤ 57)) ∨ x = 45) := by
                      have h := HB.out
                      intro k
                      have : (decide (97 ≤ x) && decide (x ≤ 122) || decide (48 ≤ x) && decide (x ≤ 57) || decide (x = 45)) = true := by simpa using k
                      rw [this] at h
                      cases h
                    clear HB
                    have b5 : (x == 45) = false := by
                      have : ¬ x = 45 := fun h => hx (.inr h)
                      simpa using this
                    by_cases a1 : 97 ≤ x
                    · have a2 : decide (x ≤ 122) = false := by simp; omega
                      have a4 : decide (x ≤ 57) = false := by simp; omega
                      have a3 : (48 : Int) ≤ x := by omega
                      clear hx
                      go_wp2
                      go_ret
                      exact ⟨by rw [eN.out, EQ.out]; rfl, HN.out⟩
                    · have a0 : decide (97 ≤ x) = false := by simp; omega
                      by_cases a3 : 48 ≤ x
                      · have a4 : decide (x ≤ 57) = false := by simp; omega
                        clear hx
                        go_wp2
                        go_ret
                        exact ⟨by rw [eN.out, EQ.out]; rfl, HN.out⟩
                      · have a4 : decide (48 ≤ x) = false := by simp; omega
                        clear hx
                        go_wp2
                        go_ret
                        exact ⟨by rw [eN.out, EQ.out]; rfl, HN.out⟩
                · obtain rfl : m = l.length := by omega
                  rw [List.take_length] at hb
                  have ix0 : ∀ w, (Instr.index 9 (.string ⟨⟨l⟩⟩) (.int .i64 0)).run Tryz.prog w = .ok (.int .u8 ((l.getD 0 0).toNat : Int)) w := fun w => run_tx (P := Tryz.prog) w 9 l 0 Tryz.underlying9 (by omega)
                  have ix1 := fun w => run_tx (P := Tryz.prog) w 9 l (l.length - 1) Tryz.underlying9 (by omega)
                  have e1 : ((l.length - 1 : Nat) : Int) = (l.length : Int) - 1 := by omega
                  rw [e1] at ix1
                  have e5 : lbF l = if ((l.getD 0 0).toNat : Int) = 45 ∨ ((l.getD (l.length - 1) 0).toNat : Int) = 45 then 5 else 0 := by
                    unfold lbF
                    rw [if_neg l0, if_neg l1, if_neg (by rw [hb]; decide)]
                  have E5 := hide e5
                  clear e5 hb e1
                  generalize ((l.getD 0 0).toNat : Int) = x at *
                  generalize ((l.getD (l.length - 1) 0).toNat : Int) = y at *
                  by_cases h3 : x = 45
                  · subst h3
                    have EQ : Hid (ff ls = 5) := by
                      have e : lbF l = 5 := by rw [E5.out, if_pos (.inl rfl)]
                      show _ = _
                      rw [F2.out (by rw [e]; decide), e]
                    clear F1 F2 E5
                    go_wp2
                    go_ret
                    exact ⟨by rw [eN.out, EQ.out]; rfl, HN.out⟩
                  · have b1 : (x == 45) = false := by simpa using h3
                    by_cases h4 : y = 45
                    · subst h4
                      have EQ : Hid (ff ls = 5) := by
                        have e : lbF l = 5 := by rw [E5.out, if_pos (.inr rfl)]
                        show _ = _
                        rw [F2.out (by rw [e]; decide), e]
                      clear F1 F2 E5
                      go_wp2
                      go_ret
                      exact ⟨by rw [eN.out, EQ.out]; rfl, HN.out⟩
                    · have b2 : (y == 45) = false := by simpa using h4
                      have RL := hide (show ff (ls.take (k + 1)) = 0 by rw [F1.out, E5.out, if_neg (by rintro (h | h) <;> contradiction)])
                      clear F1 F2 E5
                      go_wp2
                      go_roundw
                      case rel => exact ⟨trivial, k + 1, by omega, by go_num, RL.out⟩
                      case measure => simp [intOf]; omega
        · obtain rfl : k = ls.length := by omega
          rw [List.take_length] at hff
          have HF := hide hff
          clear hff
          go_wp2
          go_ret
          exact ⟨by rw [eN.out, HF.out]; rfl, HN.out⟩
end Go.Proofs.YtccnhdicibjbaaaGreat
namespace Go.Proofs.YtccnhdicibjbaaaGreat
open Go Go.RowKit
def RwC (w : World) (q : Nat) (cs : List Value) (t : TypeId) : Prop := w.heap[q]? = some (.cells cs.toArray t (0, 0))
theorem RwC.new (w : World) (cs : List Value) (t : TypeId) : RwC (w.alloc (.cells cs.toArray t)) w.heap.size cs t := heap_alloc_new w _
theorem RwC.lt {w : World} {q : Nat} {cs : List Value} {t : TypeId} (h : RwC w q cs t) : q < w.heap.size := (Array.getElem?_eq_some_iff.1 h).1
theorem RwC.up {w w' : World} {q : Nat} {cs : List Value} {t : TypeId} (h : RwC w q cs t) (n : Below w.heap.size w w') : RwC w' q cs t := (n.block q h.lt).trans h
theorem RwC.cell {w : World} {q : Nat} {cs : List Value} {t : TypeId} (h : RwC w q cs t) (i : Nat) : w.cell? ⟨q, i, none⟩ = cs[i]? := by
  rw [cell_of_row w q i _ _ (0, 0) h]
  simp
theorem RwC.free {w : World} {q : Nat} {cs : List Value} {t : TypeId} (h : RwC w q cs t) (i : Nat) : w.frozen? ⟨q, i, none⟩ = false := frozen_of_row w q i _ t h
theorem RwC.set {w : World} {q : Nat} {cs : List Value} {t : TypeId} (h : RwC w q cs t) (i : Nat) (v : Value) : RwC (w.setCell ⟨q, i, none⟩ v) q (cs.set i v) t := by
  show (w.heap.modify q _)[q]? = _
  rw [Array.getElem?_modify, if_pos rfl, show w.heap[q]? = _ from h]
  simp
theorem RwC.push {w : World} {q : Nat} {cs : List Value} {t : TypeId} (h : RwC w q cs t) (o : Obj) : RwC (w.alloc o) q cs t := h.up ((Below.refl _ _).alloc (Nat.le_refl _) o)
structure TMs (w W : World) (tL tM : TypeId) (src zer cs : List Value) : Prop where
  S : RwC W w.heap.size src tL
  U : RwC W (w.heap.size + 1) zer tM
  T : RwC W (w.heap.size + 1 + 1) cs tM
  N : Below w.heap.size w W
theorem TMs.new (w : World) (tL tM : TypeId) (src zer : List Value) : TMs w (((w.alloc (.cells src.toArray tL)).alloc (.cells zer.toArray tM)).alloc (.cells zer.toArray tM)) tL tM src zer zer := by
  have z1 : (w.alloc (.cells src.toArray tL)).heap.size = w.heap.size + 1 := by simp
  have n1 : Below w.heap.size w (w.alloc (.cells src.toArray tL)) := (Below.refl _ _).alloc (Nat.le_refl _) _
  have s1 := RwC.new w src tL
  generalize w.alloc (.cells src.toArray tL) = a at *
  have z2 : (a.alloc (.cells zer.toArray tM)).heap.size = a.heap.size + 1 := by simp
  have n2 : Below a.heap.size a (a.alloc (.cells zer.toArray tM)) := (Below.refl _ _).alloc (Nat.le_refl _) _
  have s2 := RwC.new a zer tM
  generalize a.alloc (.cells zer.toArray tM) = b at *
  have n3 : Below b.heap.size b (b.alloc (.cells zer.toArray tM)) := (Below.refl _ _).alloc (Nat.le_refl _) _
  have s3 := RwC.new b zer tM
  rw [z2, z1] at s3
  rw [z1] at s2
  exact ⟨(s1.up n2).up n3, s2.up n3, s3, nxt (nxt n1 n2) n3⟩
theorem TMs.up {w W W' : World} {tL tM : TypeId} {src zer cs : List Value} (h : TMs w W tL tM src zer cs) (m : Below W.heap.size W W') : TMs w W' tL tM src zer cs := ⟨h.S.up m, h.U.up m, h.T.up m, nxt h.N m⟩
theorem RwC.onl {w w' : World} {q r : Nat} {cs : List Value} {t : TypeId} (h : RwC w q cs t) (O : Only r w w') (hne : q ≠ r) : RwC w' q cs t := (O.block q hne).trans h
theorem TMs.set {w W : World} {tL tM : TypeId} {src zer cs : List Value} (h : TMs w W tL tM src zer cs) (i : Nat) (v : Value) : TMs w (W.setCell ⟨w.heap.size + 1 + 1, i, none⟩ v) tL tM src zer (cs.set i v) := by
  have O := Only.setCell W (w.heap.size + 1 + 1) i v
  exact ⟨h.S.onl O (by omega), h.U.onl O (by omega), h.T.set i v, h.N.trans (O.below (by omega))⟩
theorem only_setG (w : World) (q : Nat) : ∀ (vs : List Value) (o : Nat), Only q w (w.setCells q o vs)
  | [], _ => Only.refl _ _
  | v :: vs, o => (Only.setCell w q o v).trans (only_setG _ q vs (o + 1))
theorem RwC.thereG {w : World} {q : Nat} {cs : List Value} {t : TypeId} (h : RwC w q cs t) : w.there q 0 cs.length := fun j hj => by
  rw [Nat.zero_add, h.cell j, h.free j]
  exact ⟨by simp [hj], rfl⟩
theorem results_cellG {P : Program} {fn : Func} {p : Tmp} {ty : TypeId} (h : fn.results = #[.cell p ty]) (tmps : Array Value) (w : World) (g : Nat) (cs : List Value) (d : TypeDesc)
    (hp : tmps.getD p undef = .pointer (some ⟨g, 0, none⟩)) (hc : w.rangeAt g 0 cs) (hu : P.underlying ty = some d) (hd : d.isRow = true) (hi : (P.info? ty).map (·.size) = some cs.length) :
    (results fn tmps).run P w = .ok (.agg cs.toArray) w := by
  have hp' : tmps[p]?.getD undef = .pointer (some ⟨g, 0, none⟩) := by simpa using hp
  simp [results, h, hp', asAddr, run_loadVar_mid w g 0 ty cs d hc hu hd hi]
theorem RwC.rangeG {w : World} {q : Nat} {cs : List Value} {t : TypeId} (h : RwC w q cs t) : w.rangeAt q 0 cs := fun j v hj => by
  rw [Nat.zero_add]
  exact (h.cell j).trans hj
end Go.Proofs.YtccnhdicibjbaaaGreat
namespace Go.Proofs.YtccnhdicibjbaaaGreat
open Go Go.RowKit
structure Tch (S : List Nat) (w w' : World) : Prop where
  os : w'.os = w.os
  tape : w'.tape = w.tape
  output : w'.output = w.output
  size : w.heap.size ≤ w'.heap.size
  block : ∀ b, b < w.heap.size → b ∉ S → w'.heap[b]? = w.heap[b]?
theorem Tch.of_below {w w' : World} {S : List Nat} (h : Below w.heap.size w w') : Tch S w w' := ⟨h.os, h.tape, h.output, h.size, fun b hb _ => h.block b hb⟩
theorem Tch.of_only {w w' : World} {g : Nat} (h : Only g w w') : Tch [g] w w' := ⟨h.os, h.tape, h.output, Nat.le_of_eq h.size.symm, fun b _ hn => h.block b (by simpa using hn)⟩
theorem Tch.trans {a b c : World} {S T : List Nat} (h : Tch S a b) (k : Tch T b c) : Tch (S ++ T) a c :=
  ⟨k.os.trans h.os, k.tape.trans h.tape, k.output.trans h.output, Nat.le_trans h.size k.size, fun x hx hn => (k.block x (Nat.lt_of_lt_of_le hx h.size) (fun m => hn (List.mem_append_right _ m))).trans (h.block x hx (fun m => hn (List.mem_append_left _ m)))⟩
theorem Tch.below {w w' : World} {S : List Nat} {B : Nat} (h : Tch S w w') (hB : B ≤ w.heap.size) (hS : ∀ s ∈ S, B ≤ s) : Below B w w' := ⟨h.os, h.tape, h.output, h.size, fun k hk => h.block k (by omega) (fun m => by have := hS k m; omega)⟩
theorem Tch.mono {w w' : World} {S T : List Nat} (h : Tch S w w') (hs : ∀ s ∈ S, s ∈ T) : Tch T w w' := ⟨h.os, h.tape, h.output, h.size, fun b hb hn => h.block b hb (fun m => hn (hs b m))⟩
theorem RwC.c0 {w : World} {q : Nat} {x : Value} {cs : List Value} {t : TypeId} (h : RwC w q (x :: cs) t) : w.cell? ⟨q, 0, none⟩ = some x := h.cell 0
theorem RwC.c1 {w : World} {q : Nat} {x y : Value} {cs : List Value} {t : TypeId} (h : RwC w q (x :: y :: cs) t) : w.cell? ⟨q, 1, none⟩ = some y := h.cell 1
theorem RwC.c2 {w : World} {q : Nat} {x y z : Value} {cs : List Value} {t : TypeId} (h : RwC w q (x :: y :: z :: cs) t) : w.cell? ⟨q, 2, none⟩ = some z := h.cell 2
end Go.Proofs.YtccnhdicibjbaaaGreat
namespace Go.Proofs.YtccnhdicibjbaaaGreat
open Go Go.RowKit
def isTm (n : Int) : Bool := decide (0 ≤ n) && decide (n ≤ 253402300799)
def isLi (n : Int) : Bool := decide (1 ≤ n) && decide (n ≤ 604800)
theorem isTm_iff (n : Int) : isTm n = true ↔ 0 ≤ n ∧ n ≤ 253402300799 := by simp [isTm]
theorem isLi_iff (n : Int) : isLi n = true ↔ 1 ≤ n ∧ n ≤ 604800 := by simp [isLi]
set_option maxRecDepth 100000 in
theorem isTime_any (w : World) (n : Int) : Calls Tryz.prog 65 #[.int .i64 n] w fun e w' => e = .returned (.bool (isTm n)) ∧ w' = w := by
  by_cases h : 0 ≤ n
  · have u : decide (0 ≤ n) = true := decide_eq_true h
    unfold isTm
    rw [u]
    go_enter Tryz.func65, Tryz.ntmps65
    go_wp2
    go_ret
    exact ⟨by simp, rfl⟩
  · have u : decide (0 ≤ n) = false := decide_eq_false h
    unfold isTm
    rw [u]
    go_enter Tryz.func65, Tryz.ntmps65
    go_wp2
    go_ret
    exact ⟨by simp, rfl⟩
set_option maxRecDepth 100000 in
theorem isLife_any (w : World) (n : Int) : Calls Tryz.prog 66 #[.int .i64 n] w fun e w' => e = .returned (.bool (isLi n)) ∧ w' = w := by
  by_cases h : 1 ≤ n
  · have u : decide (1 ≤ n) = true := decide_eq_true h
    unfold isLi
    rw [u]
    go_enter Tryz.func66, Tryz.ntmps66
    go_wp2
    go_ret
    exact ⟨by simp, rfl⟩
  · have u : decide (1 ≤ n) = false := decide_eq_false h
    unfold isLi
    rw [u]
    go_enter Tryz.func66, Tryz.ntmps66
    go_wp2
    go_ret
    exact ⟨by simp, rfl⟩
def sfV (n n' : Nat) (md li : Int) (ho : List UInt8) (p : Nat) (ea : Int) : Int :=
  if n ≠ 32 ∨ n' ≠ 32 then 1 else if isTm md = false then 2 else if isLi li = false then 3 else if nameF ho ≠ 0 then 4 else if 32 < p then 5 else if isAg ea = false then 6 else 0
set_option maxRecDepth 100000 in
set_option maxHeartbeats 2000000 in
theorem implState_any (w : World) (md li : Int) (ho pr : List UInt8) (ea : Int) (a : Option Addr) (n c : Nat) (a' : Option Addr) (n' c' : Nat) (hh : ho.length ≤ 1048576) (hp : pr.length ≤ 1048576) :
    Calls Tryz.prog 39 #[.agg #[.slice a n c, .slice a' n' c', .int .i64 md, .int .i64 li, .string ⟨⟨ho⟩⟩, .string ⟨⟨pr⟩⟩, .int .i64 ea]] w fun e w' => e = .returned (.int .i64 (sfV n n' md li ho pr.length ea)) ∧ Below w.heap.size w w' := by
  have n1 : Below w.heap.size w (w.alloc (.cells #[.slice a n c, .slice a' n' c', .int .i64 md, .int .i64 li, .string ⟨⟨ho⟩⟩, .string ⟨⟨pr⟩⟩, .int .i64 ea] 24)) := (Below.refl _ _).alloc (Nat.le_refl _) _
  have P0 : RwC (w.alloc (.cells #[.slice a n c, .slice a' n' c', .int .i64 md, .int .i64 li, .string ⟨⟨ho⟩⟩, .string ⟨⟨pr⟩⟩, .int .i64 ea] 24)) w.heap.size [.slice a n c, .slice a' n' c', .int .i64 md, .int .i64 li, .string ⟨⟨ho⟩⟩, .string ⟨⟨pr⟩⟩, .int .i64 ea] 24 := RwC.new w _ _
  have e : Hid (sfV n n' md li ho pr.length ea = if n ≠ 32 ∨ n' ≠ 32 then 1 else if isTm md = false then 2 else if isLi li = false then 3 else if nameF ho ≠ 0 then 4 else if 32 < pr.length then 5 else if isAg ea = false then 6 else 0) := rfl
  generalize sfV n n' md li ho pr.length ea = R at *
  have hs := tx_size ho
  have hs' := tx_size pr
  have TI := fun W => isTime_any W md
  have LI := fun W => isLife_any W li
  have NM := fun W => implNameFault_any W ho (by omega)
  have AG := fun W => isAge_any W ea
  generalize nameF ho = nf at *
  by_cases h0 : n ≠ 32
  · skip
    have hi0 : ¬ (n : Int) = 32 := by omega
    have e' : Hid (R = 1) := by show _ = _; rw [e.out, if_pos (show n ≠ 32 ∨ n' ≠ 32 by omega)]
    clear e
    go_enter Tryz.func39, Tryz.ntmps39
    go_wp2
    go_ret
    exact ⟨by rw [e'.out]; rfl, n1⟩
  · skip
    obtain rfl : n = 32 := by omega
    by_cases h1 : n' ≠ 32
    · skip
      have hi1 : ¬ (n' : Int) = 32 := by omega
      have e' : Hid (R = 1) := by show _ = _; rw [e.out, if_pos (show (32 : Nat) ≠ 32 ∨ n' ≠ 32 by omega)]
      clear e
      go_enter Tryz.func39, Tryz.ntmps39
      go_wp2
      go_ret
      exact ⟨by rw [e'.out]; rfl, n1⟩
    · skip
      obtain rfl : n' = 32 := by omega
      by_cases h2 : isTm md = false
      · skip
        simp only [h2] at TI
        have e' : Hid (R = 2) := by show _ = _; rw [e.out, if_neg (show ¬ ((32 : Nat) ≠ 32 ∨ (32 : Nat) ≠ 32) by omega), if_pos h2]
        clear e
        go_enter Tryz.func39, Tryz.ntmps39
        go_wp2_with fail
        refine (TI _).mono ?_
        rintro e1 w1 ⟨rfl, rfl⟩
        go_wp2
        go_ret
        exact ⟨by rw [e'.out]; rfl, n1⟩
      · skip
        simp only [show isTm md = true by simpa using h2] at TI
        by_cases h3 : isLi li = false
        · skip
          simp only [h3] at LI
          have e' : Hid (R = 3) := by show _ = _; rw [e.out, if_neg (show ¬ ((32 : Nat) ≠ 32 ∨ (32 : Nat) ≠ 32) by omega), if_neg h2, if_pos h3]
          clear e
          go_enter Tryz.func39, Tryz.ntmps39
          go_wp2_with fail
          refine (TI _).mono ?_
          rintro e1 w1 ⟨rfl, rfl⟩
          go_wp2_with fail
          refine (LI _).mono ?_
          rintro e1 w1 ⟨rfl, rfl⟩
          go_wp2
          go_ret
          exact ⟨by rw [e'.out]; rfl, n1⟩
        · skip
          simp only [show isLi li = true by simpa using h3] at LI
          by_cases h4 : nf ≠ 0
          · skip
            have hz : ¬ nf = 0 := h4
            have e' : Hid (R = 4) := by show _ = _; rw [e.out, if_neg (show ¬ ((32 : Nat) ≠ 32 ∨ (32 : Nat) ≠ 32) by omega), if_neg h2, if_neg h3, if_pos h4]
            clear e
            go_enter Tryz.func39, Tryz.ntmps39
            go_wp2_with fail
            refine (TI _).mono ?_
            rintro e1 w1 ⟨rfl, rfl⟩
            go_wp2_with fail
            refine (LI _).mono ?_
            rintro e1 w1 ⟨rfl, rfl⟩
            go_wp2_with fail
            refine (NM _).mono ?_
            rintro e1 w1 ⟨rfl, rfl⟩
            go_wp2
            go_ret
            exact ⟨by rw [e'.out]; rfl, n1⟩
          · skip
            obtain rfl : nf = 0 := by simpa using h4
            by_cases h5 : 32 < pr.length
            · skip
              have hl5 : decide ((32 : Int) < (pr.length : Int)) = true := by simp; omega
              have e' : Hid (R = 5) := by show _ = _; rw [e.out, if_neg (show ¬ ((32 : Nat) ≠ 32 ∨ (32 : Nat) ≠ 32) by omega), if_neg h2, if_neg h3, if_neg h4, if_pos h5]
              clear e
              go_enter Tryz.func39, Tryz.ntmps39
              go_wp2_with fail
              refine (TI _).mono ?_
              rintro e1 w1 ⟨rfl, rfl⟩
              go_wp2_with fail
              refine (LI _).mono ?_
              rintro e1 w1 ⟨rfl, rfl⟩
              go_wp2_with fail
              refine (NM _).mono ?_
              rintro e1 w1 ⟨rfl, rfl⟩
              go_wp2
              go_ret
              exact ⟨by rw [e'.out]; rfl, n1⟩
            · skip
              have hl5 : decide ((32 : Int) < (pr.length : Int)) = false := by simp; omega
              by_cases h6 : isAg ea = false
              · skip
                simp only [h6] at AG
                have e' : Hid (R = 6) := by show _ = _; rw [e.out, if_neg (show ¬ ((32 : Nat) ≠ 32 ∨ (32 : Nat) ≠ 32) by omega), if_neg h2, if_neg h3, if_neg h4, if_neg h5, if_pos h6]
                clear e
                go_enter Tryz.func39, Tryz.ntmps39
                go_wp2_with fail
                refine (TI _).mono ?_
                rintro e1 w1 ⟨rfl, rfl⟩
                go_wp2_with fail
                refine (LI _).mono ?_
                rintro e1 w1 ⟨rfl, rfl⟩
                go_wp2_with fail
                refine (NM _).mono ?_
                rintro e1 w1 ⟨rfl, rfl⟩
                go_wp2_with fail
                refine (AG _).mono ?_
                rintro e1 w1 ⟨rfl, rfl⟩
                go_wp2
                go_ret
                exact ⟨by rw [e'.out]; rfl, n1⟩
              · skip
                simp only [show isAg ea = true by simpa using h6] at AG
                have e' : Hid (R = 0) := by show _ = _; rw [e.out, if_neg (show ¬ ((32 : Nat) ≠ 32 ∨ (32 : Nat) ≠ 32) by omega), if_neg h2, if_neg h3, if_neg h4, if_neg h5, if_neg h6]
                clear e
                go_enter Tryz.func39, Tryz.ntmps39
                go_wp2_with fail
                refine (TI _).mono ?_
                rintro e1 w1 ⟨rfl, rfl⟩
                go_wp2_with fail
                refine (LI _).mono ?_
                rintro e1 w1 ⟨rfl, rfl⟩
                go_wp2_with fail
                refine (NM _).mono ?_
                rintro e1 w1 ⟨rfl, rfl⟩
                go_wp2_with fail
                refine (AG _).mono ?_
                rintro e1 w1 ⟨rfl, rfl⟩
                go_wp2
                go_ret
                exact ⟨by rw [e'.out]; rfl, n1⟩
set_option maxRecDepth 100000 in
set_option maxHeartbeats 2000000 in
theorem specState_any (w : World) (md li : Int) (ho pr : List UInt8) (ea : Int) (a : Option Addr) (n c : Nat) (a' : Option Addr) (n' c' : Nat) (hh : ho.length ≤ 1048576) (hp : pr.length ≤ 1048576) :
    Calls Tryz.prog 9 #[.agg #[.slice a n c, .slice a' n' c', .int .i64 md, .int .i64 li, .string ⟨⟨ho⟩⟩, .string ⟨⟨pr⟩⟩, .int .i64 ea]] w fun e w' => e = .returned (.int .i64 (sfV n n' md li ho pr.length ea)) ∧ Below w.heap.size w w' := by
  have n1 : Below w.heap.size w (w.alloc (.cells #[.slice a n c, .slice a' n' c', .int .i64 md, .int .i64 li, .string ⟨⟨ho⟩⟩, .string ⟨⟨pr⟩⟩, .int .i64 ea] 24)) := (Below.refl _ _).alloc (Nat.le_refl _) _
  have P0 : RwC (w.alloc (.cells #[.slice a n c, .slice a' n' c', .int .i64 md, .int .i64 li, .string ⟨⟨ho⟩⟩, .string ⟨⟨pr⟩⟩, .int .i64 ea] 24)) w.heap.size [.slice a n c, .slice a' n' c', .int .i64 md, .int .i64 li, .string ⟨⟨ho⟩⟩, .string ⟨⟨pr⟩⟩, .int .i64 ea] 24 := RwC.new w _ _
  have e : Hid (sfV n n' md li ho pr.length ea = if n ≠ 32 ∨ n' ≠ 32 then 1 else if isTm md = false then 2 else if isLi li = false then 3 else if nameF ho ≠ 0 then 4 else if 32 < pr.length then 5 else if isAg ea = false then 6 else 0) := rfl
  generalize sfV n n' md li ho pr.length ea = R at *
  have hs := tx_size ho
  have hs' := tx_size pr
  have NM := fun W => specNameFault_any W ho (by omega)
  have itm := isTm_iff md
  have ili := isLi_iff li
  have iag := isAg_iff ea
  generalize nameF ho = nf at *
  by_cases h0 : n ≠ 32
  · skip
    have hi0 : ¬ (n : Int) = 32 := by omega
    have e' : Hid (R = 1) := by show _ = _; rw [e.out, if_pos (show n ≠ 32 ∨ n' ≠ 32 by omega)]
    clear e
    go_enter Tryz.func9, Tryz.ntmps9
    go_wp2
    go_ret
    exact ⟨by rw [e'.out]; rfl, n1⟩
  · skip
    obtain rfl : n = 32 := by omega
    by_cases h1 : n' ≠ 32
    · skip
      have hi1 : ¬ (n' : Int) = 32 := by omega
      have e' : Hid (R = 1) := by show _ = _; rw [e.out, if_pos (show (32 : Nat) ≠ 32 ∨ n' ≠ 32 by omega)]
      clear e
      go_enter Tryz.func9, Tryz.ntmps9
      go_wp2
      go_ret
      exact ⟨by rw [e'.out]; rfl, n1⟩
    · skip
      obtain rfl : n' = 32 := by omega
      by_cases h2 : isTm md = false
      · skip
        by_cases hl : md < 0
        · skip
          have e' : Hid (R = 2) := by show _ = _; rw [e.out, if_neg (show ¬ ((32 : Nat) ≠ 32 ∨ (32 : Nat) ≠ 32) by omega), if_pos h2]
          clear e
          go_enter Tryz.func9, Tryz.ntmps9
          go_wp2
          go_ret
          exact ⟨by rw [e'.out]; rfl, n1⟩
        · have hg : 253402300799 < md := by
            have : ¬ (0 ≤ md ∧ md ≤ 253402300799) := fun q => by rw [itm.2 q] at h2; cases h2
            omega
          have e' : Hid (R = 2) := by show _ = _; rw [e.out, if_neg (show ¬ ((32 : Nat) ≠ 32 ∨ (32 : Nat) ≠ 32) by omega), if_pos h2]
          clear e
          go_enter Tryz.func9, Tryz.ntmps9
          go_wp2
          go_ret
          exact ⟨by rw [e'.out]; rfl, n1⟩
      · skip
        have b2 := itm.1 (show isTm md = true by simpa using h2)
        have c2 := b2.1
        have d2 := b2.2
        by_cases h3 : isLi li = false
        · skip
          by_cases hl : li < 1
          · skip
            have e' : Hid (R = 3) := by show _ = _; rw [e.out, if_neg (show ¬ ((32 : Nat) ≠ 32 ∨ (32 : Nat) ≠ 32) by omega), if_neg h2, if_pos h3]
            clear e
            go_enter Tryz.func9, Tryz.ntmps9
            go_wp2
            go_ret
            exact ⟨by rw [e'.out]; rfl, n1⟩
          · have hg : 604800 < li := by
              have : ¬ (1 ≤ li ∧ li ≤ 604800) := fun q => by rw [ili.2 q] at h3; cases h3
              omega
            have e' : Hid (R = 3) := by show _ = _; rw [e.out, if_neg (show ¬ ((32 : Nat) ≠ 32 ∨ (32 : Nat) ≠ 32) by omega), if_neg h2, if_pos h3]
            clear e
            go_enter Tryz.func9, Tryz.ntmps9
            go_wp2
            go_ret
            exact ⟨by rw [e'.out]; rfl, n1⟩
        · skip
          have b3 := ili.1 (show isLi li = true by simpa using h3)
          have c3 := b3.1
          have d3 := b3.2
          by_cases h4 : nf ≠ 0
          · skip
            have hz : ¬ nf = 0 := h4
            have e' : Hid (R = 4) := by show _ = _; rw [e.out, if_neg (show ¬ ((32 : Nat) ≠ 32 ∨ (32 : Nat) ≠ 32) by omega), if_neg h2, if_neg h3, if_pos h4]
            clear e
            go_enter Tryz.func9, Tryz.ntmps9
            go_wp2_with fail
            generalize w.alloc (.cells #[.slice a 32 c, .slice a' 32 c', .int .i64 md, .int .i64 li, .string ⟨⟨ho⟩⟩, .string ⟨⟨pr⟩⟩, .int .i64 ea] 24) = wa at *
            refine (NM _).mono ?_
            rintro e1 w1 ⟨rfl, m1⟩
            replace n1 := nxt n1 m1
            replace P0 := P0.up m1
            have p5 : w1.cell? ⟨w.heap.size, 5, none⟩ = some (.string ⟨⟨pr⟩⟩) := P0.cell 5
            have p6 : w1.cell? ⟨w.heap.size, 6, none⟩ = some (.int .i64 ea) := P0.cell 6
            go_wp2
            go_ret
            exact ⟨by rw [e'.out]; rfl, n1⟩
          · skip
            obtain rfl : nf = 0 := by simpa using h4
            by_cases h5 : 32 < pr.length
            · skip
              have hl5 : decide ((32 : Int) < (pr.length : Int)) = true := by simp; omega
              have e' : Hid (R = 5) := by show _ = _; rw [e.out, if_neg (show ¬ ((32 : Nat) ≠ 32 ∨ (32 : Nat) ≠ 32) by omega), if_neg h2, if_neg h3, if_neg h4, if_pos h5]
              clear e
              go_enter Tryz.func9, Tryz.ntmps9
              go_wp2_with fail
              generalize w.alloc (.cells #[.slice a 32 c, .slice a' 32 c', .int .i64 md, .int .i64 li, .string ⟨⟨ho⟩⟩, .string ⟨⟨pr⟩⟩, .int .i64 ea] 24) = wa at *
              refine (NM _).mono ?_
              rintro e1 w1 ⟨rfl, m1⟩
              replace n1 := nxt n1 m1
              replace P0 := P0.up m1
              have p5 : w1.cell? ⟨w.heap.size, 5, none⟩ = some (.string ⟨⟨pr⟩⟩) := P0.cell 5
              have p6 : w1.cell? ⟨w.heap.size, 6, none⟩ = some (.int .i64 ea) := P0.cell 6
              go_wp2
              go_ret
              exact ⟨by rw [e'.out]; rfl, n1⟩
            · skip
              have hl5 : decide ((32 : Int) < (pr.length : Int)) = false := by simp; omega
              by_cases h6 : isAg ea = false
              · skip
                by_cases hl : ea < 0
                · skip
                  have e' : Hid (R = 6) := by show _ = _; rw [e.out, if_neg (show ¬ ((32 : Nat) ≠ 32 ∨ (32 : Nat) ≠ 32) by omega), if_neg h2, if_neg h3, if_neg h4, if_neg h5, if_pos h6]
                  clear e
                  go_enter Tryz.func9, Tryz.ntmps9
                  go_wp2_with fail
                  generalize w.alloc (.cells #[.slice a 32 c, .slice a' 32 c', .int .i64 md, .int .i64 li, .string ⟨⟨ho⟩⟩, .string ⟨⟨pr⟩⟩, .int .i64 ea] 24) = wa at *
                  refine (NM _).mono ?_
                  rintro e1 w1 ⟨rfl, m1⟩
                  replace n1 := nxt n1 m1
                  replace P0 := P0.up m1
                  have p5 : w1.cell? ⟨w.heap.size, 5, none⟩ = some (.string ⟨⟨pr⟩⟩) := P0.cell 5
                  have p6 : w1.cell? ⟨w.heap.size, 6, none⟩ = some (.int .i64 ea) := P0.cell 6
                  go_wp2
                  go_ret
                  exact ⟨by rw [e'.out]; rfl, n1⟩
                · have hg : 4294967295 < ea := by
                    have : ¬ (0 ≤ ea ∧ ea ≤ 4294967295) := fun q => by rw [iag.2 q] at h6; cases h6
                    omega
                  have e' : Hid (R = 6) := by show _ = _; rw [e.out, if_neg (show ¬ ((32 : Nat) ≠ 32 ∨ (32 : Nat) ≠ 32) by omega), if_neg h2, if_neg h3, if_neg h4, if_neg h5, if_pos h6]
                  clear e
                  go_enter Tryz.func9, Tryz.ntmps9
                  go_wp2_with fail
                  generalize w.alloc (.cells #[.slice a 32 c, .slice a' 32 c', .int .i64 md, .int .i64 li, .string ⟨⟨ho⟩⟩, .string ⟨⟨pr⟩⟩, .int .i64 ea] 24) = wa at *
                  refine (NM _).mono ?_
                  rintro e1 w1 ⟨rfl, m1⟩
                  replace n1 := nxt n1 m1
                  replace P0 := P0.up m1
                  have p5 : w1.cell? ⟨w.heap.size, 5, none⟩ = some (.string ⟨⟨pr⟩⟩) := P0.cell 5
                  have p6 : w1.cell? ⟨w.heap.size, 6, none⟩ = some (.int .i64 ea) := P0.cell 6
                  go_wp2
                  go_ret
                  exact ⟨by rw [e'.out]; rfl, n1⟩
              · skip
                have b6 := iag.1 (show isAg ea = true by simpa using h6)
                have c6 := b6.1
                have d6 := b6.2
                have e' : Hid (R = 0) := by show _ = _; rw [e.out, if_neg (show ¬ ((32 : Nat) ≠ 32 ∨ (32 : Nat) ≠ 32) by omega), if_neg h2, if_neg h3, if_neg h4, if_neg h5, if_neg h6]
                clear e
                go_enter Tryz.func9, Tryz.ntmps9
                go_wp2_with fail
                generalize w.alloc (.cells #[.slice a 32 c, .slice a' 32 c', .int .i64 md, .int .i64 li, .string ⟨⟨ho⟩⟩, .string ⟨⟨pr⟩⟩, .int .i64 ea] 24) = wa at *
                refine (NM _).mono ?_
                rintro e1 w1 ⟨rfl, m1⟩
                replace n1 := nxt n1 m1
                replace P0 := P0.up m1
                have p5 : w1.cell? ⟨w.heap.size, 5, none⟩ = some (.string ⟨⟨pr⟩⟩) := P0.cell 5
                have p6 : w1.cell? ⟨w.heap.size, 6, none⟩ = some (.int .i64 ea) := P0.cell 6
                go_wp2
                go_ret
                exact ⟨by rw [e'.out]; rfl, n1⟩
end Go.Proofs.YtccnhdicibjbaaaGreat
namespace Go.Proofs.YtccnhdicibjbaaaGreat
open Go.RowKit
def bigL (v : Int) (t : Nat) : List Int := (List.range t).map fun j => v / 256 ^ (t - 1 - j) % 256
theorem bigL_len (v : Int) (t : Nat) : (bigL v t).length = t := by simp [bigL]
theorem bigL_get (v : Int) (t j : Nat) (h : j < t) : (bigL v t).getD j 0 = v / 256 ^ (t - 1 - j) % 256 := by simp [bigL, h]
def BigTo (v : Int) (t : Nat) (ys : List Int) (k : Nat) : Prop := ys.length = t ∧ ∀ j, t - k ≤ j → j < t → ys.getD j 0 = v / 256 ^ (t - 1 - j) % 256
theorem BigTo.zero (v : Int) (t : Nat) : BigTo v t (List.replicate t 0) 0 := ⟨by simp, fun j h h' => absurd h (by omega)⟩
theorem BigTo.step {v : Int} {t : Nat} {ys : List Int} {k : Nat} (h : BigTo v t ys k) (hk : k < t) : BigTo v t (ys.set (t - 1 - k) (v / 256 ^ k % 256)) (k + 1) := by
  refine ⟨by simpa using h.1, fun j hj hj' => ?_⟩
  by_cases e : t - 1 - k = j
  · subst e
    rw [getD_set_self _ _ _ (by rw [h.1]; omega), show t - 1 - (t - 1 - k) = k by omega]
  · rw [getD_set_ne _ _ _ _ e]
    exact h.2 j (by omega) hj'
theorem BigTo.all {v : Int} {t : Nat} {ys : List Int} (h : BigTo v t ys t) : ys = bigL v t :=
  eq_of_getD (by rw [h.1, bigL_len]) (fun i hi => by rw [h.1] at hi; rw [h.2 i (by omega) hi, bigL_get v t i hi])
theorem div256 (v : Int) (k : Nat) : v / 256 ^ k / 256 = v / 256 ^ (k + 1) := by
  have h0 := p256_pos k
  rw [Int.ediv_ediv_of_nonneg (by omega), ← Int.pow_succ]
theorem getD_apd_right (xs ys : List Int) (i : Nat) (h : xs.length ≤ i) : (xs ++ ys).getD i 0 = ys.getD (i - xs.length) 0 := by
  rw [List.getD_eq_getElem?_getD, List.getElem?_append_right h, ← List.getD_eq_getElem?_getD]
def padZ (n : Int) (B t : Nat) : Nat := (((B : Int) - (n + 1 + (t : Int)) % (B : Int)) % (B : Int)).toNat
def padL (n : Int) (B t : Nat) : List Int := 128 :: (List.replicate (padZ n B t) 0 ++ bigL (8 * n) t)
theorem padL_len (n : Int) (B t : Nat) : (padL n B t).length = 1 + padZ n B t + t := by
  unfold padL
  simp [bigL_len]
  omega
def padS (n : Int) (B t : Nat) : Nat := 1 + padZ n B t + t
def PadTo (n : Int) (s : Nat) (ys : List Int) (k : Nat) : Prop :=
  ys.length = s ∧ ys.getD 0 0 = 128 ∧ (∀ j, 0 < j → j < s - k → ys.getD j 0 = 0) ∧ ∀ j, s - k ≤ j → j < s → ys.getD j 0 = 8 * n / 256 ^ (s - 1 - j) % 256
theorem PadTo.zero (n : Int) (s : Nat) (h : 0 < s) : PadTo n s ((List.replicate s 0).set 0 128) 0 := by
  refine ⟨by simp, ?_, fun j h0 hj => ?_, fun j hj hj' => absurd hj (by omega)⟩
  · rw [getD_set_self _ _ _ (by simpa using h)]
  · rw [getD_set_ne _ _ _ _ (by omega)]
    rw [List.getD_eq_getElem?_getD, List.getElem?_replicate]
    split <;> rfl
theorem PadTo.step {n : Int} {s : Nat} {ys : List Int} {k : Nat} (h : PadTo n s ys k) (hk : k + 1 < s) : PadTo n s (ys.set (s - 1 - k) (8 * n / 256 ^ k % 256)) (k + 1) := by
  obtain ⟨h1, h2, h3, h4⟩ := h
  refine ⟨by simpa using h1, ?_, fun j h0 hj => ?_, fun j hj hj' => ?_⟩
  · rw [getD_set_ne _ _ _ _ (by omega)]
    exact h2
  · rw [getD_set_ne _ _ _ _ (by omega)]
    exact h3 j h0 (by omega)
  · by_cases e : s - 1 - k = j
    · subst e
      rw [getD_set_self _ _ _ (by rw [h1]; omega), show s - 1 - (s - 1 - k) = k by omega]
    · rw [getD_set_ne _ _ _ _ e]
      exact h4 j (by omega) hj'
theorem PadTo.all {n : Int} {B t : Nat} {ys : List Int} (h0 : 0 ≤ n) (h1 : n ≤ 1099511627776) (ht : t = 8 ∨ t = 16) (h : PadTo n (padS n B t) ys 8) : ys = padL n B t := by
  obtain ⟨a1, a2, a3, a4⟩ := h
  refine eq_of_getD (by rw [a1, padL_len]; rfl) (fun i hi => ?_)
  rw [a1] at hi
  have hs : padS n B t = 1 + padZ n B t + t := rfl
  unfold padL
  cases i with
  | zero => rw [a2]; rfl
  | succ i =>
    rw [List.getD_cons_succ]
    by_cases c : i < padZ n B t
    · rw [a3 _ (by omega) (by omega), List.getD_eq_getElem?_getD, List.getElem?_append_left (by simpa using c), List.getElem?_replicate, if_pos c]
      rfl
    · rw [getD_apd_right (List.replicate (padZ n B t) 0) _ i (by simpa using c), List.length_replicate, bigL_get _ _ _ (by omega)]
      by_cases d : padS n B t - 8 ≤ i + 1
      · rw [a4 _ d hi, show padS n B t - 1 - (i + 1) = t - 1 - (i - padZ n B t) by omega]
      · rw [a3 _ (by omega) (by omega)]
        obtain ⟨e, he⟩ : ∃ e, t - 1 - (i - padZ n B t) = 8 + e := ⟨t - 1 - (i - padZ n B t) - 8, by omega⟩
        rw [he, Int.pow_add]
        have hp := p256_pos e
        have hz : 8 * n / ((256 : Int) ^ 8 * 256 ^ e) = 0 := by
          refine Int.ediv_eq_zero_of_lt (by omega) ?_
          have : (256 : Int) ^ 8 * 1 ≤ 256 ^ 8 * 256 ^ e := Int.mul_le_mul_of_nonneg_left (by omega) (by decide)
          have : (256 : Int) ^ 8 = 18446744073709551616 := by decide
          omega
        rw [hz]
        rfl
end Go.Proofs.YtccnhdicibjbaaaGreat
namespace Go.Proofs.YtccnhdicibjbaaaGreat
open Go Go.RowKit
def txL (l : List UInt8) : List Int := l.map fun b => (b.toNat : Int)
theorem txL_len (l : List UInt8) : (txL l).length = l.length := by simp [txL]
theorem appendT_any {P : Program} (w : World) (ty : TypeId) (i : TypeInfo) (ht : P.underlying 22 = some (.slice 5)) (hu : P.underlying 9 = some .string) (hi : P.info? 5 = some i) (hz : i.zero = some (.int .u8 0)) (hsize : i.size = 1) (hby : i.bytes = 1)
    (base B : Nat) (v : Value) (xs : List Int) (hown : RowB w base v xs) (l : List UInt8) (hl : xs.length + l.length ≤ 1099511627776) (hB : B ≤ base) (hbase : base ≤ w.heap.size) :
    ∃ v' w', (Builtin.append_ #[22, 9] ty #[v, .string ⟨⟨l⟩⟩]).run P w = .ok v' w' ∧ RowB w' base v' (xs ++ txL l) ∧ Below B w w' := by
  have hs : (ByteArray.mk ⟨l⟩).size = l.length := rfl
  obtain ⟨v', w', h1, h2, h3, _⟩ := Lib.run_append_own_string (P := P) w base 22 9 ty 5 i ht hu hi hz hsize hby v xs.length (xs.map (Value.int .u8)) hown ⟨⟨l⟩⟩ (by rw [hs]; unfold maxLen; omega) (by rw [hs]; omega) hbase
  refine ⟨v', w', h1, ?_, (Below.refl B w).grown h3 (by omega) (fun k hk => by have := (World.ownsRow.lt hown k hk).1; omega)⟩
  show w'.ownsRow base 5 1 v' (xs ++ txL l).length ((xs ++ txL l).map (Value.int .u8))
  rw [List.length_append, List.map_append, txL_len]
  have e : (txL l).map (Value.int .u8) = Lib.strCells ⟨⟨l⟩⟩ := by simp [txL, Lib.strCells]
  rw [e]
  exact h2
end Go.Proofs.YtccnhdicibjbaaaGreat
namespace Go.Proofs.YtccnhdicibjbaaaGreat
open Go Go.RowKit
theorem bigL_takeN (n : Int) (t k : Nat) (h : k < t) : (bigL n t).take (k + 1) = (bigL n t).take k ++ [n / 256 ^ (t - 1 - k) % 256] := by
  rw [List.take_add_one]
  simp [bigL, h]
theorem RowB.nilN (w : World) (base : Nat) : RowB w base (.slice none 0 0) [] := ⟨rfl, .inl ⟨rfl, rfl⟩⟩
set_option maxHeartbeats 4000000 in
theorem appendNum_any (w : World) (base : Nat) (v : Value) (xs : List Int) (R0 : RowB w base v xs) (hb : base ≤ w.heap.size) (n : Int) (t : Nat) (ht : t ≤ 8) (hl : xs.length ≤ 1073741824) :
    Calls Tryz.prog 40 #[v, .int .i64 n, .int .i64 (t : Int)] w fun e w' => ∃ v', e = .returned v' ∧ RowB w' base v' (xs ++ bigL n t) ∧ Below base w w' := by
  obtain ⟨i0, hi, hz0, hz1, hz2⟩ := info_parts Tryz.info5
  go_enter Tryz.func40, Tryz.ntmps40
  go_wp2
  go_loopw [0, 7, 9] (fun l _ i wr => ∃ k : Nat, k ≤ t ∧ i = .int .i64 k ∧ RowB wr base l (xs ++ (bigL n t).take k) ∧ Below base w wr) (fun _ _ i _ => t - (intOf i).toNat)
  case atStart => exact ⟨0, Nat.zero_le _, rfl, by simpa using R0, Below.refl _ _⟩
  case round =>
    obtain ⟨k, hk, rfl, R, hN⟩ := hrel
    by_cases hlt : k < t
    · have hs := hN.size
      have bt := bigL_takeN n t k hlt
      obtain ⟨x, hx⟩ : ∃ x, x = n / 256 ^ (t - 1 - k) % 256 := ⟨_, rfl⟩
      rw [← hx] at bt
      have BT := hide bt
      clear bt
      have n2 : Below wr.heap.size wr (wr.alloc (.cells #[.int .u8 x] 5)) := (Below.refl _ _).alloc (Nat.le_refl _) _
      obtain ⟨v3, w3, hap3, R3, n3⟩ := append_any (P := Tryz.prog) (wr.alloc (.cells #[.int .u8 x] 5)) 22 i0 Tryz.underlying22 hi hz0 hz1 hz2 base base _ _ (R.up n2) _ _ 1 [x] (blk_lit1 wr .u8 5 x).own0.rd (by simp) (by simp; omega) (Nat.le_refl _) (by simp; omega)
      rw [List.append_assoc, ← BT.out] at R3
      have N3 := (hN.trans (n2.mono (by omega))).trans n3
      clear R n2 n3 hN BT
      have k1 : (k : Int) < (t : Int) := by omega
      obtain ⟨d, hd⟩ : ∃ d, d = t - 1 - k := ⟨_, rfl⟩
      rw [← hd] at hx
      rcases (by omega : d = 0 ∨ d = 1 ∨ d = 2 ∨ d = 3 ∨ d = 4 ∨ d = 5 ∨ d = 6 ∨ d = 7) with rfl | rfl | rfl | rfl | rfl | rfl | rfl | rfl
      · have he : (t : Int) - 1 - (k : Int) = 0 := by omega
        clear hd
        simp at hx
        replace hx := hx.symm
        go_wp2_with (at_builtin; refine Lib.wpList_append_run _ rfl _ _ 22 22 rfl _ _ rfl rfl _ _ hap3 ?_)
        clear hap3
        go_roundw
        case rel => exact ⟨k + 1, by omega, by go_num, R3, N3⟩
        case measure => simp [intOf]; omega
      · have he : (t : Int) - 1 - (k : Int) = 1 := by omega
        clear hd
        simp at hx
        replace hx := hx.symm
        go_wp2_with (at_builtin; refine Lib.wpList_append_run _ rfl _ _ 22 22 rfl _ _ rfl rfl _ _ hap3 ?_)
        clear hap3
        go_roundw
        case rel => exact ⟨k + 1, by omega, by go_num, R3, N3⟩
        case measure => simp [intOf]; omega
      · have he : (t : Int) - 1 - (k : Int) = 2 := by omega
        clear hd
        simp at hx
        replace hx := hx.symm
        go_wp2_with (at_builtin; refine Lib.wpList_append_run _ rfl _ _ 22 22 rfl _ _ rfl rfl _ _ hap3 ?_)
        clear hap3
        go_roundw
        case rel => exact ⟨k + 1, by omega, by go_num, R3, N3⟩
        case measure => simp [intOf]; omega
      · have he : (t : Int) - 1 - (k : Int) = 3 := by omega
        clear hd
        simp at hx
        replace hx := hx.symm
        go_wp2_with (at_builtin; refine Lib.wpList_append_run _ rfl _ _ 22 22 rfl _ _ rfl rfl _ _ hap3 ?_)
        clear hap3
        go_roundw
        case rel => exact ⟨k + 1, by omega, by go_num, R3, N3⟩
        case measure => simp [intOf]; omega
      · have he : (t : Int) - 1 - (k : Int) = 4 := by omega
        clear hd
        simp at hx
        replace hx := hx.symm
        go_wp2_with (at_builtin; refine Lib.wpList_append_run _ rfl _ _ 22 22 rfl _ _ rfl rfl _ _ hap3 ?_)
        clear hap3
        go_roundw
        case rel => exact ⟨k + 1, by omega, by go_num, R3, N3⟩
        case measure => simp [intOf]; omega
      · have he : (t : Int) - 1 - (k : Int) = 5 := by omega
        clear hd
        simp at hx
        replace hx := hx.symm
        go_wp2_with (at_builtin; refine Lib.wpList_append_run _ rfl _ _ 22 22 rfl _ _ rfl rfl _ _ hap3 ?_)
        clear hap3
        go_roundw
        case rel => exact ⟨k + 1, by omega, by go_num, R3, N3⟩
        case measure => simp [intOf]; omega
      · have he : (t : Int) - 1 - (k : Int) = 6 := by omega
        clear hd
        simp at hx
        replace hx := hx.symm
        go_wp2_with (at_builtin; refine Lib.wpList_append_run _ rfl _ _ 22 22 rfl _ _ rfl rfl _ _ hap3 ?_)
        clear hap3
        go_roundw
        case rel => exact ⟨k + 1, by omega, by go_num, R3, N3⟩
        case measure => simp [intOf]; omega
      · have he : (t : Int) - 1 - (k : Int) = 7 := by omega
        clear hd
        simp at hx
        replace hx := hx.symm
        go_wp2_with (at_builtin; refine Lib.wpList_append_run _ rfl _ _ 22 22 rfl _ _ rfl rfl _ _ hap3 ?_)
        clear hap3
        go_roundw
        case rel => exact ⟨k + 1, by omega, by go_num, R3, N3⟩
        case measure => simp [intOf]; omega
    · obtain rfl : k = t := by omega
      rw [List.take_of_length_le (by rw [bigL_len]; exact Nat.le_refl _)] at R
      go_wp2
      go_ret
      exact ⟨_, rfl, R, hN⟩
end Go.Proofs.YtccnhdicibjbaaaGreat
namespace Go.Proofs.YtccnhdicibjbaaaGreat
open Go Go.RowKit
def shL (l : List UInt8) : List Int := bigL (l.length : Int) 1 ++ txL l
theorem shL_len (l : List UInt8) : (shL l).length = l.length + 1 := by simp [shL, bigL_len, txL_len]; omega
set_option maxRecDepth 100000 in
set_option maxHeartbeats 1000000 in
theorem appendShort_any (w : World) (base : Nat) (v : Value) (xs : List Int) (R0 : RowB w base v xs) (hb : base ≤ w.heap.size) (l : List UInt8) (hl : xs.length ≤ 1073741824) (hz : l.length ≤ 1048576) :
    Calls Tryz.prog 41 #[v, .string ⟨⟨l⟩⟩] w fun e w' => ∃ v', e = .returned v' ∧ RowB w' base v' (xs ++ shL l) ∧ Below base w w' := by
  obtain ⟨i0, hi, hz0, hz1, hz2⟩ := info_parts Tryz.info5
  have C1 := hide (appendNum_any w base v xs R0 hb (l.length : Int) 1 (by omega) hl)
  have sz := tx_size l
  go_enter Tryz.func41, Tryz.ntmps41
  go_wp2_with fail
  refine C1.out.mono ?_
  rintro r w1 ⟨v1, rfl, R1, n1⟩
  have s1 := n1.size
  obtain ⟨v2, w2, hap, R2, n2⟩ := appendT_any (P := Tryz.prog) w1 22 i0 Tryz.underlying22 Tryz.underlying9 hi hz0 hz1 hz2 base base _ _ R1 l (by rw [List.length_append, bigL_len]; omega) (Nat.le_refl _) (by omega)
  rw [List.append_assoc] at R2
  have N2 := n1.trans n2
  clear R1 n1 n2 C1 R0
  go_wp2_with (at_builtin; refine Lib.wpList_append_run _ rfl _ _ 22 9 rfl _ _ rfl rfl _ _ hap ?_)
  go_ret
  exact ⟨_, rfl, R2, N2⟩
end Go.Proofs.YtccnhdicibjbaaaGreat
namespace Go.Proofs.YtccnhdicibjbaaaGreat
open Go Go.RowKit
theorem lsts_twoS (w : World) (t : TypeId) (l0 l1 : Lst) : Lsts (w.alloc (.cells #[.slice l0.a l0.xs.length l0.c, .slice l1.a l1.xs.length l1.c] t)) w.heap.size [l0, l1] := fun j l h => by
  have R := RwC.new w [.slice l0.a l0.xs.length l0.c, .slice l1.a l1.xs.length l1.c] t
  rcases (by have := (List.getElem?_eq_some_iff.1 h).1; simp at this; omega : j = 0 ∨ j = 1) with rfl | rfl
  · simp at h; subst h; exact R.cell 0
  · simp at h; subst h; exact R.cell 1
theorem cat2S (l0 l1 : Lst) : cat [l0, l1] = l0.xs ++ l1.xs := by simp [cat]
theorem RwC.at_base {w w' : World} {q B : Nat} {cs : List Value} {t : TypeId} (h : RwC w q cs t) (n : Below B w w') (hq : q < B) : RwC w' q cs t := (n.block q hq).trans h
theorem nameF_lenE {l : List UInt8} (h : nameF l = 0) : 1 ≤ l.length ∧ l.length ≤ 128 := by
  unfold nameF at h
  by_cases q : l.length < 1 ∨ 128 < l.length
  · rw [if_pos q] at h; exact absurd h (by decide)
  · omega
theorem sf0 {n n' : Nat} {md li : Int} {ho : List UInt8} {p : Nat} {ea : Int} (h : sfV n n' md li ho p ea = 0) : n = 32 ∧ n' = 32 ∧ (0 ≤ md ∧ md ≤ 253402300799) ∧ (1 ≤ li ∧ li ≤ 604800) ∧ (1 ≤ ho.length ∧ ho.length ≤ 128) ∧ p ≤ 32 ∧ (0 ≤ ea ∧ ea ≤ 4294967295) := by
  unfold sfV at h
  by_cases h0 : n ≠ 32 ∨ n' ≠ 32
  · rw [if_pos h0] at h; exact absurd h (by decide)
  rw [if_neg h0] at h
  by_cases h1 : isTm md = false
  · rw [if_pos h1] at h; exact absurd h (by decide)
  rw [if_neg h1] at h
  by_cases h2 : isLi li = false
  · rw [if_pos h2] at h; exact absurd h (by decide)
  rw [if_neg h2] at h
  by_cases h3 : nameF ho ≠ 0
  · rw [if_pos h3] at h; exact absurd h (by decide)
  rw [if_neg h3] at h
  by_cases h4 : 32 < p
  · rw [if_pos h4] at h; exact absurd h (by decide)
  rw [if_neg h4] at h
  by_cases h5 : isAg ea = false
  · rw [if_pos h5] at h; exact absurd h (by decide)
  exact ⟨by omega, by omega, (isTm_iff md).1 (by simpa using h1), (isLi_iff li).1 (by simpa using h2), nameF_lenE (by simpa using h3), by omega, (isAg_iff ea).1 (by simpa using h5)⟩
def esL (X Y : List Int) (md li : Int) (ho pr : List UInt8) (ea : Int) : List Int := X ++ Y ++ bigL md 8 ++ bigL li 4 ++ bigL ea 4 ++ shL ho ++ shL pr
def esA (X Y : List Int) (md li : Int) (ho pr : List UInt8) (ea : Int) : List Int := if sfV X.length Y.length md li ho pr.length ea = 0 then esL X Y md li ho pr ea else []
theorem esL_len (X Y : List Int) (md li : Int) (ho pr : List UInt8) (ea : Int) : (esL X Y md li ho pr ea).length = X.length + Y.length + ho.length + pr.length + 18 := by
  unfold esL
  simp only [List.length_append, bigL_len, shL_len]
  omega
theorem esA_len (X Y : List Int) (md li : Int) (ho pr : List UInt8) (ea : Int) : (esA X Y md li ho pr ea).length ≤ 242 := by
  unfold esA
  by_cases h : sfV X.length Y.length md li ho pr.length ea = 0
  · have := sf0 h
    rw [if_pos h, esL_len]
    omega
  · rw [if_neg h]; simp
set_option maxRecDepth 100000 in
set_option maxHeartbeats 4000000 in
theorem implEnS_any (w : World) (md li : Int) (ho pr : List UInt8) (ea : Int) (g : Nat) (a : Option Addr) (c : Nat) (X : List Int) (hr : Rd w g a .u8 X) (hz : a = none → c = 0) (g' : Nat) (a' : Option Addr) (c' : Nat) (Y : List Int) (hr' : Rd w g' a' .u8 Y) (hz' : a' = none → c' = 0) (hh : ho.length ≤ 1048576) (hp : pr.length ≤ 1048576) :
    Calls Tryz.prog 15 #[.agg #[.slice a X.length c, .slice a' Y.length c', .int .i64 md, .int .i64 li, .string ⟨⟨ho⟩⟩, .string ⟨⟨pr⟩⟩, .int .i64 ea]] w fun e w' => ∃ v, e = .returned v ∧ RowB w' w.heap.size v (esA X Y md li ho pr ea) ∧ Below w.heap.size w w' := by
  have n1 : Below w.heap.size w (w.alloc (.cells #[.slice a X.length c, .slice a' Y.length c', .int .i64 md, .int .i64 li, .string ⟨⟨ho⟩⟩, .string ⟨⟨pr⟩⟩, .int .i64 ea] 24)) := (Below.refl _ _).alloc (Nat.le_refl _) _
  have P0 : RwC (w.alloc (.cells #[.slice a X.length c, .slice a' Y.length c', .int .i64 md, .int .i64 li, .string ⟨⟨ho⟩⟩, .string ⟨⟨pr⟩⟩, .int .i64 ea] 24)) w.heap.size [.slice a X.length c, .slice a' Y.length c', .int .i64 md, .int .i64 li, .string ⟨⟨ho⟩⟩, .string ⟨⟨pr⟩⟩, .int .i64 ea] 24 := RwC.new w _ _
  have SF := fun W => hide (implState_any W md li ho pr ea a X.length c a' Y.length c' hh hp)
  by_cases h0 : sfV X.length Y.length md li ho pr.length ea = 0
  · have e1 : Hid (esA X Y md li ho pr ea = esL X Y md li ho pr ea) := by show _ = _; unfold esA; rw [if_pos h0]
    have LS := hide (sf0 h0)
    rw [h0] at SF
    have N := n1
    have lq : w.heap.size < (w.alloc (.cells #[.slice a X.length c, .slice a' Y.length c', .int .i64 md, .int .i64 li, .string ⟨⟨ho⟩⟩, .string ⟨⟨pr⟩⟩, .int .i64 ea] 24)).heap.size := by simp
    rw [e1.out]
    clear e1 h0 hh hp
    go_enter Tryz.func15, Tryz.ntmps15
    go_wp2_with fail
    generalize w.alloc (.cells #[.slice a X.length c, .slice a' Y.length c', .int .i64 md, .int .i64 li, .string ⟨⟨ho⟩⟩, .string ⟨⟨pr⟩⟩, .int .i64 ea] 24) = wa at *
    refine (SF _).out.mono ?_
    rintro e w1 ⟨rfl, m1⟩
    replace N := nxt N m1
    replace P0 := P0.up m1
    replace lq := Nat.lt_of_lt_of_le lq m1.size
    have D0 := hr.up N
    have D1 := hr'.up N
    have n3 : Below w1.heap.size w1 (w1.alloc (.cells #[.slice a X.length c, .slice a' Y.length c'] 22)) := (Below.refl _ _).alloc (Nat.le_refl _) _
    have LT := lsts_twoS w1 22 ⟨g, a, c, X⟩ ⟨g', a', c', Y⟩
    have CC := concatB_any (w1.alloc (.cells #[.slice a X.length c, .slice a' Y.length c'] 22)) w1.heap.size 2 2 [⟨g, a, c, X⟩, ⟨g', a', c', Y⟩] rfl (by omega) LT (by
      intro x hx
      simp only [List.mem_cons, List.not_mem_nil, or_false] at hx
      rcases hx with rfl | rfl
      · exact ⟨D0.up n3, hz⟩
      · exact ⟨D1.up n3, hz'⟩) (by rw [cat2S, List.length_append]; have := LS.out; show 0 < X.length + Y.length; omega) (by rw [cat2S, List.length_append]; have := LS.out; show X.length + Y.length ≤ _; omega)
    rw [cat2S] at CC
    replace CC := hide CC
    have p0 : w1.cell? ⟨w.heap.size, 0, none⟩ = some (.slice a X.length c) := P0.cell 0
    have p1 : w1.cell? ⟨w.heap.size, 1, none⟩ = some (.slice a' Y.length c') := P0.cell 1
    clear D0 D1 LT hr hr' hz hz' SF m1 n1
    go_wp2_with fail
    refine CC.out.mono ?_
    rintro e w2 ⟨⟨v2, rfl, R2⟩, m2⟩
    have N2 := nxt n3 m2
    have zz := n3.size
    replace P0 := P0.up N2
    replace N := nxt N N2
    clear p0 p1 CC
    have zb := m2.size
    generalize hB : (w1.alloc (.cells #[.slice a X.length c, .slice a' Y.length c'] 22)).heap.size = B at *
    have hq : w.heap.size < B := by omega
    clear hB zz n3 m2 N2
    have AN := hide (appendNum_any w2 B v2 (X ++ Y) R2 (by omega) md 8 (by omega) (by simp only [List.length_append]; have := LS.out; omega))
    have p2 : w2.cell? ⟨w.heap.size, 2, none⟩ = some (.int .i64 md) := P0.cell 2
    go_wp2_with fail
    refine AN.out.mono ?_
    rintro e w3 ⟨v3, rfl, R3, m3⟩
    have z3 := m3.size
    replace P0 := P0.at_base m3 hq
    replace N := N.trans (m3.mono (by omega))
    clear AN p2 R2 m3
    have AN := hide (appendNum_any w3 B v3 (X ++ Y ++ bigL md 8) R3 (by omega) li 4 (by omega) (by simp only [List.length_append, bigL_len]; have := LS.out; omega))
    have p3 : w3.cell? ⟨w.heap.size, 3, none⟩ = some (.int .i64 li) := P0.cell 3
    go_wp2_with fail
    refine AN.out.mono ?_
    rintro e w4 ⟨v4, rfl, R4, m4⟩
    have z4 := m4.size
    replace P0 := P0.at_base m4 hq
    replace N := N.trans (m4.mono (by omega))
    clear AN p3 R3 m4
    have AN := hide (appendNum_any w4 B v4 (X ++ Y ++ bigL md 8 ++ bigL li 4) R4 (by omega) ea 4 (by omega) (by simp only [List.length_append, bigL_len]; have := LS.out; omega))
    have p6 : w4.cell? ⟨w.heap.size, 6, none⟩ = some (.int .i64 ea) := P0.cell 6
    go_wp2_with fail
    refine AN.out.mono ?_
    rintro e w5 ⟨v5, rfl, R5, m5⟩
    have z5 := m5.size
    replace P0 := P0.at_base m5 hq
    replace N := N.trans (m5.mono (by omega))
    clear AN p6 R4 m5
    have AN := hide (appendShort_any w5 B v5 (X ++ Y ++ bigL md 8 ++ bigL li 4 ++ bigL ea 4) R5 (by omega) ho (by simp only [List.length_append, bigL_len]; have := LS.out; omega) (by have := LS.out; omega))
    have p4 : w5.cell? ⟨w.heap.size, 4, none⟩ = some (.string ⟨⟨ho⟩⟩) := P0.cell 4
    go_wp2_with fail
    refine AN.out.mono ?_
    rintro e w6 ⟨v6, rfl, R6, m6⟩
    have z6 := m6.size
    replace P0 := P0.at_base m6 hq
    replace N := N.trans (m6.mono (by omega))
    clear AN p4 R5 m6
    have AN := hide (appendShort_any w6 B v6 (X ++ Y ++ bigL md 8 ++ bigL li 4 ++ bigL ea 4 ++ shL ho) R6 (by omega) pr (by simp only [List.length_append, bigL_len, shL_len]; have := LS.out; omega) (by have := LS.out; omega))
    have p5 : w6.cell? ⟨w.heap.size, 5, none⟩ = some (.string ⟨⟨pr⟩⟩) := P0.cell 5
    go_wp2_with fail
    refine AN.out.mono ?_
    rintro e w7 ⟨v7, rfl, R7, m7⟩
    have z7 := m7.size
    replace P0 := P0.at_base m7 hq
    replace N := N.trans (m7.mono (by omega))
    clear AN p5 R6 m7
    go_wp2
    go_ret
    exact ⟨_, rfl, R7.base (by omega), N⟩
  · have e1 : Hid (esA X Y md li ho pr ea = []) := by show _ = _; unfold esA; rw [if_neg h0]
    rw [e1.out]
    generalize sfV X.length Y.length md li ho pr.length ea = R at *
    clear e1 hr hr' hz hz' hh hp
    go_enter Tryz.func15, Tryz.ntmps15
    go_wp2_with fail
    generalize w.alloc (.cells #[.slice a X.length c, .slice a' Y.length c', .int .i64 md, .int .i64 li, .string ⟨⟨ho⟩⟩, .string ⟨⟨pr⟩⟩, .int .i64 ea] 24) = wa at *
    refine (SF _).out.mono ?_
    rintro e w1 ⟨rfl, m1⟩
    have N := nxt n1 m1
    go_wp2
    go_ret
    exact ⟨_, rfl, RowB.nilN _ _, N⟩
end Go.Proofs.YtccnhdicibjbaaaGreat
namespace Go.Proofs.YtccnhdicibjbaaaGreat
open Go Go.RowKit
def tkB (xs : List Int) (i n : Nat) : List Int := fill (fun k => xs.getD (i + k) 0) n
theorem tkB_len (xs : List Int) (i n : Nat) : (tkB xs i n).length = n := fill_len _ _
theorem tkB_get (xs : List Int) (i n k : Nat) (h : k < n) : (tkB xs i n).getD k 0 = xs.getD (i + k) 0 := fill_get _ _ _ h
theorem tkB_byt {xs : List Int} (h : Byt xs) (i n : Nat) : Byt (tkB xs i n) := fun k => by
  by_cases hk : k < n
  · rw [tkB_get _ _ _ _ hk]; exact h _
  · rw [List.getD_eq_getElem?_getD, List.getElem?_eq_none (by rw [tkB_len]; omega)]
    exact ⟨by simp, by simp⟩
def NewI (p : Nat) (w w' : World) : Prop := w'.os = w.os ∧ w'.tape = w.tape ∧ w'.output = w.output ∧ w.heap.size ≤ w'.heap.size ∧ ∀ b, b < w.heap.size → b ≠ p → w'.heap[b]? = w.heap[b]?
theorem NewI.below {p B : Nat} {w w' : World} (h : NewI p w w') (hB : B ≤ p) (hw : B ≤ w.heap.size) : Below B w w' := ⟨h.1, h.2.1, h.2.2.1, h.2.2.2.1, fun k hk => h.2.2.2.2 k (by omega) (by omega)⟩
theorem NewI.block {p b : Nat} {w w' : World} (h : NewI p w w') (hb : b < w.heap.size) (hne : b ≠ p) : w'.heap[b]? = w.heap[b]? := h.2.2.2.2 b hb hne
theorem NewI.refl (p : Nat) (w : World) : NewI p w w := ⟨rfl, rfl, rfl, Nat.le_refl _, fun _ _ _ => rfl⟩
theorem NewI.trans {p : Nat} {a b c : World} (h : NewI p a b) (k : NewI p b c) : NewI p a c :=
  ⟨k.1.trans h.1, k.2.1.trans h.2.1, k.2.2.1.trans h.2.2.1, Nat.le_trans h.2.2.2.1 k.2.2.2.1, fun x hx hn => (k.2.2.2.2 x (Nat.lt_of_lt_of_le hx h.2.2.2.1) hn).trans (h.2.2.2.2 x hx hn)⟩
theorem NewI.of_below {p : Nat} {w w' : World} (h : Below w.heap.size w w') : NewI p w w' := ⟨h.os, h.tape, h.output, h.size, fun b hb _ => h.block b hb⟩
theorem NewI.of_only {p : Nat} {w w' : World} (h : Only p w w') : NewI p w w' := ⟨h.os, h.tape, h.output, Nat.le_of_eq h.size.symm, fun b _ hn => h.block b hn⟩
set_option maxRecDepth 100000 in
set_option maxHeartbeats 2000000 in
theorem l13Take_any (w : World) (p g : Nat) (a : Option Addr) (c : Nat) (xs : List Int) (i n : Nat) (hC : Cur w p (.slice a xs.length c) i) (hr : Rd w g a .u8 xs) (hi : i ≤ 4194304) (hn : n ≤ 3000) (hl : xs.length ≤ 4194304) :
    Calls Tryz.prog 57 #[.pointer (some ⟨p, 0, none⟩), .int .i64 (n : Int)] w fun e w' => e = .returned (.slice (some ⟨w.heap.size, 0, none⟩) n n) ∧ Blk w' w.heap.size .u8 (tkB xs i n) ∧ Cur w' p (.slice a xs.length c) ((i + n : Nat) : Int) ∧ NewI p w w' := by
  obtain ⟨i0, hi0, hz0, hz1, hz2⟩ := info_parts Tryz.info5
  have pl := hC.lt
  go_enter Tryz.func57, Tryz.ntmps57
  go_wp2_with (at_make; refine wpList_make_full _ rfl _ _ 22 rfl w.heap.size 5 i0 (.int .u8 0) 1 Tryz.underlying22 hi0 hz0 hz1 .i64 .i64 _ _ n rfl rfl rfl rfl (by rw [hz2]; omega) (by unfold maxLen; omega) (Nat.le_refl _) ?_; intro w1 hown hgrow)
  have hB0 := Blk.of_made hown
  have hN0 : Below w.heap.size w w1 := (Below.refl _ _).grown hgrow (Nat.le_refl _) (by simp)
  clear hown hgrow
  go_loopw [6] (fun j wr => ∃ (k : Nat) (ys : List Int), k ≤ n ∧ j = .int .i64 (k : Int) ∧ Hid (FillTo (fun k => xs.getD (i + k) 0) ys n k) ∧ Hid (∀ j, k ≤ j → ys.getD j 0 = 0) ∧ Blk wr w.heap.size .u8 ys ∧ Below w.heap.size w wr) (fun j _ => n - (intOf j).toNat)
  case atStart => exact ⟨0, _, Nat.zero_le _, rfl, ⟨by simp, fun j hj => absurd hj (by omega)⟩, (fun j _ => by rw [List.getD_eq_getElem?_getD, List.getElem?_replicate]; split <;> rfl), hB0, hN0⟩
  case round =>
    clear hB0 hN0
    obtain ⟨k, ys, hk, rfl, F, Z, B, N⟩ := hrel
    have C := hC.up N
    have c0 := C.c0
    have c1 := C.c1
    have f1 := C.f1
    by_cases hlt : k < n
    · have k0 : (k : Int) < (n : Int) := by omega
      have k1 : decide ((k : Int) < (n : Int)) = true := by simp; omega
      have kl : k < ys.length := by rw [F.out.1]; exact hlt
      by_cases hx : i + k < xs.length
      · have x0 : (i : Int) + (k : Int) < (xs.length : Int) := by omega
        have x1 : decide ((i : Int) + (k : Int) < (xs.length : Int)) = true := decide_eq_true x0
        obtain ⟨off, rfl, hc⟩ := hr.up N (by omega)
        have hcx := hc (i + k) hx
        clear hc
        have hfy := B.free k
        have hcy := B.cell kl
        have F' := hide (F.out.step hlt)
        have Z' : Hid (∀ j, k + 1 ≤ j → (ys.set k (xs.getD (i + k) 0)).getD j 0 = 0) := fun j hj => by rw [getD_set_ne _ _ _ _ (by omega)]; exact Z.out j (by omega)
        have B' := fun m q => hide (show Blk (((wr.drewN m).setCell ⟨w.heap.size, k, none⟩ (.int .u8 (xs.getD (i + k) 0))).drewN q) w.heap.size .u8 (ys.set k (xs.getD (i + k) 0)) from Blk.store (show Blk (wr.drewN m) w.heap.size .u8 ys from B) k (xs.getD (i + k) 0))
        have N' := fun m q => hide (show Below w.heap.size w (((wr.drewN m).setCell ⟨w.heap.size, k, none⟩ (.int .u8 (xs.getD (i + k) 0))).drewN q) from below_drewN ((below_drewN N m).trans ((Only.setCell _ _ _ _).below (Nat.le_refl _))) q)
        generalize xs.getD (i + k) 0 = x at *
        go_wp2
        go_quiet (fail)
        go_wp2
        go_region
        all_goals
          go_wp2
          go_roundw
          case rel => exact ⟨k + 1, _, by omega, by go_num, F', Z', (B' _ 0).out, (N' _ 0).out⟩
          case measure => simp [intOf]; omega
      · have x0 : ¬ (i : Int) + (k : Int) < (xs.length : Int) := by omega
        have x1 : decide ((i : Int) + (k : Int) < (xs.length : Int)) = false := decide_eq_false x0
        have F' : Hid (FillTo (fun k => xs.getD (i + k) 0) ys n (k + 1)) := by
          refine ⟨F.out.1, fun j hj => ?_⟩
          by_cases hjk : j < k
          · exact F.out.2 j hjk
          · obtain rfl : j = k := by omega
            show ys.getD j 0 = xs.getD (i + j) 0
            rw [Z.out j (Nat.le_refl _), List.getD_eq_getElem?_getD, List.getElem?_eq_none (by omega)]
            rfl
        have Z' : Hid (∀ j, k + 1 ≤ j → ys.getD j 0 = 0) := fun j hj => Z.out j (by omega)
        have B' := fun m => hide (show Blk (wr.drewN m) w.heap.size .u8 ys from B)
        have N' := fun m => hide (show Below w.heap.size w (wr.drewN m) from below_drewN N m)
        go_wp2
        go_quiet (fail)
        go_wp2
        go_roundw
        case rel => exact ⟨k + 1, _, by omega, by go_num, F', Z', (B' _).out, (N' _).out⟩
        case measure => simp [intOf]; omega
    · obtain rfl : k = n := by omega
      have k0 : ¬ (k : Int) < (k : Int) := by omega
      obtain rfl : ys = tkB xs i k := F.out.all
      have c2 := hide (show Cur (wr.setCell ⟨p, 1, none⟩ (.int .i64 ((i : Int) + (k : Int)))) p (.slice a xs.length c) ((i + k : Nat) : Int) from by have := C.store ((i : Int) + (k : Int)); rwa [show ((i : Int) + (k : Int)) = ((i + k : Nat) : Int) by omega] at this ⊢)
      have B2 := hide (show Blk (wr.setCell ⟨p, 1, none⟩ (.int .i64 ((i : Int) + (k : Int)))) w.heap.size .u8 (tkB xs i k) from B.of_block ((Only.setCell wr p 1 _).block _ (by omega)))
      have N2 := hide ((NewI.of_below (p := p) N).trans (NewI.of_only (Only.setCell wr p 1 (.int .i64 ((i : Int) + (k : Int))))))
      go_wp2
      go_ret
      exact ⟨rfl, B2.out, c2.out, N2.out⟩
def nmV (xs : List Int) (i n : Nat) : Int := wrap64 (beN xs i n)
set_option maxRecDepth 100000 in
set_option maxHeartbeats 2000000 in
theorem l13Number_any (w : World) (p g : Nat) (a : Option Addr) (c : Nat) (xs : List Int) (i n : Nat) (hC : Cur w p (.slice a xs.length c) i) (hr : Rd w g a .u8 xs) (hb : Byt xs) (hi : i ≤ 4194304) (hn : n ≤ 8) (hl : xs.length ≤ 4194304) :
    Calls Tryz.prog 58 #[.pointer (some ⟨p, 0, none⟩), .int .i64 (n : Int)] w fun e w' => e = .returned (.int .i64 (nmV xs i n)) ∧ Cur w' p (.slice a xs.length c) ((i + n : Nat) : Int) ∧ NewI p w w' := by
  have TK := hide (l13Take_any w p g a c xs i n hC hr hi (by omega) hl)
  have pl := hC.lt
  clear hC hr
  go_enter Tryz.func58, Tryz.ntmps58
  go_wp2_with fail
  refine TK.out.mono ?_
  rintro e w1 ⟨rfl, B, C, N⟩
  clear TK
  go_wp2
  go_loopw [5, 7] (fun v j wr => ∃ k : Nat, k ≤ n ∧ v = .int .i64 (nmV xs i k) ∧ j = .int .i64 (k : Int) ∧ wr = w1) (fun _ j _ => n - (intOf j).toNat)
  case atStart => exact ⟨0, Nat.zero_le _, by rw [show nmV xs i 0 = 0 by unfold nmV wrap64 beN; decide], rfl, rfl⟩
  case round =>
    obtain ⟨k, hk, rfl, rfl, rfl⟩ := hrel
    by_cases hlt : k < n
    · have k0 : (k : Int) < (n : Int) := by omega
      have kl : k < (tkB xs i n).length := by rw [tkB_len]; exact hlt
      have hc := B.cell kl
      rw [tkB_get _ _ _ _ hlt] at hc
      have bx := hb (i + k)
      have x0 := bx.1
      have x1 := bx.2
      have e : Hid (nmV xs i (k + 1) = wrap64 (wrap64 (nmV xs i k * 256) + xs.getD (i + k) 0)) := by
        show nmV xs i (k + 1) = _
        unfold nmV wrap64
        simp only [beN]
        omega
      clear bx
      generalize xs.getD (i + k) 0 = x at *
      generalize nmV xs i k = m at *
      go_wp2
      go_roundw
      case rel => exact ⟨k + 1, by omega, by rw [e.out], by go_num, trivial⟩
      case measure => simp [intOf]; omega
    · obtain rfl : k = n := by omega
      go_wp2
      go_ret
      exact ⟨rfl, C, N⟩
theorem nmV_small {xs : List Int} (hb : Byt xs) (i n : Nat) (hn : n ≤ 7) : nmV xs i n = beN xs i n := by
  have r := beN_rng hb i n
  have r1 : beN xs i n < 72057594037927936 := by
    rcases (by omega : n = 0 ∨ n = 1 ∨ n = 2 ∨ n = 3 ∨ n = 4 ∨ n = 5 ∨ n = 6 ∨ n = 7) with rfl | rfl | rfl | rfl | rfl | rfl | rfl | rfl
    all_goals (have := r.2; simp at this; omega)
  unfold nmV wrap64
  omega
end Go.Proofs.YtccnhdicibjbaaaGreat
namespace Go.Proofs.YtccnhdicibjbaaaGreat
open Go.RowKit
structure But (g : Nat) (w w' : World) : Prop where
  os : w'.os = w.os
  tape : w'.tape = w.tape
  output : w'.output = w.output
  size : w.heap.size ≤ w'.heap.size
  block : ∀ k, k < w.heap.size → k ≠ g → w'.heap[k]? = w.heap[k]?
theorem But.of {g : Nat} {a b c : World} (h : Below a.heap.size a b) (k : Only g b c) : But g a c :=
  ⟨k.os.trans h.os, k.tape.trans h.tape, k.output.trans h.output, by rw [k.size]; exact h.size, fun i hi hne => (k.block i hne).trans (h.block i hi)⟩
theorem But.below {g B : Nat} {w w' : World} (h : But g w w') (hB : B ≤ g) (hs : B ≤ w.heap.size) : Below B w w' := ⟨h.os, h.tape, h.output, h.size, fun k hk => h.block k (by omega) (by omega)⟩
theorem Own.but {w w' : World} {g g' : Nat} {a : Option Addr} {k : IntKind} {xs : List Int} (h : Own w g a k xs) (ho : But g' w w') (hne : 0 < xs.length → g ≠ g') : Own w' g a k xs := by
  by_cases h0 : 0 < xs.length
  · exact h.of_block (ho.block g (h.rd.lt h0) (hne h0))
  · exact fun h1 => absurd h1 h0
set_option maxHeartbeats 400000 in
theorem lwCopy_any (w : World) (g : Nat) (a : Option Addr) (cap : Nat) (xs : List Int) (hr : Rd w g a .u8 xs) (hc : a = none → cap = 0) (hn : xs.length ≤ 1048576) :
    Calls Tryz.prog 7 #[.slice a xs.length cap] w fun e w' => NewRow w.heap.size w' e .u8 xs ∧ Below w.heap.size w w' := by
  obtain ⟨i0, hi, hz0, hz1, hz2⟩ := info_parts Tryz.info5
  have hown : (w.alloc (.cells #[] 5)).ownsRow w.heap.size 5 1 (.slice (some ⟨w.heap.size, 0, none⟩) 0 0) 0 [] := World.ownsRow_lit w #[] 0 (Nat.le_refl _) (by unfold maxLen; omega) (by simp)
  have hal : Below w.heap.size w (w.alloc (.cells #[] 5)) := (Below.refl _ _).alloc (Nat.le_refl _) _
  cases a with
  | none =>
    obtain rfl : xs = [] := by
      by_cases h0 : 0 < xs.length
      · obtain ⟨off, h, _⟩ := hr h0
        simp at h
      · exact List.eq_nil_of_length_eq_zero (by omega)
    obtain rfl := hc rfl
    go_enter Tryz.func7, Tryz.ntmps7
    go_wp2_with (at_builtin; refine wpList_append_own_none rfl _ _ 22 rfl w.heap.size 5 i0 1 Tryz.underlying22 hi _ 0 [] rfl hown rfl ?_)
    go_ret
    exact ⟨⟨_, _, w.heap.size, rfl, Own.nil _ _ _ _, by simp, Nat.zero_le _, Nat.le_refl _⟩, hal⟩
  | some ad =>
    have hcell : ∀ j u, (xs.map (Value.int .u8))[j]? = some u → (w.alloc (.cells #[] 5)).cell? (ad.add j) = some u := by
      intro j u hj
      have hjl : j < xs.length := by
        have := (List.getElem?_eq_some_iff.1 hj).1
        simpa using this
      obtain ⟨off, ha, hcc⟩ := (hr.up hal) (by omega)
      simp only [Option.some.injEq] at ha
      subst ha
      rw [Addr.add_mid, hcc j hjl]
      simpa [hjl] using hj
    have hone : ∀ u ∈ xs.map (Value.int .u8), u.oneCell' = true := by
      intro u hu
      obtain ⟨x, _, rfl⟩ := List.mem_map.1 hu
      rfl
    go_enter Tryz.func7, Tryz.ntmps7
    go_wp2_with (at_builtin; refine wpList_append_own _ rfl _ _ 22 rfl w.heap.size 5 i0 (.int .u8 0) 1 1 Tryz.underlying22 hi hz0 hz1 hz2 rfl (by decide) (.slice (some ⟨w.heap.size, 0, none⟩) 0 0) 0 [] rfl hown ad xs.length cap (xs.map (Value.int .u8)) rfl (by simp) hcell hone (by unfold maxLen; omega) (by omega) (by simp) ?_; intro v' w1 hown' hgrow _)
    simp only [Nat.zero_add, List.nil_append] at hown'
    obtain ⟨a', c', g', rfl, h1, h2, h3, h4⟩ := Own.of_ownsRow hown'
    have hB : Below w.heap.size w w1 := hal.grown hgrow (by simp) (by intro k hk; simp [Value.ownBlock] at hk; omega)
    clear hown' hgrow hown
    go_wp2
    go_ret
    exact ⟨⟨_, _, g', rfl, h1, h2, h3, h4⟩, hB⟩
def str (xs : List Int) : ByteArray := xs.foldl (fun r n => r.push (UInt8.ofNat n.toNat)) ByteArray.empty
theorem conv_run (w : World) (g : Nat) (a : Option Addr) (c : Nat) (xs : List Int) (hr : Rd w g a .u8 xs) : (convert 22 9 (.slice a xs.length c)).run Tryz.prog w = .ok (.string (str xs)) w := by
  rw [run_convert_bytes_string w 22 9 5 a xs.length c Tryz.underlying22 Tryz.underlying5 Tryz.underlying9]
  cases a with
  | none =>
    obtain rfl : xs = [] := by
      by_cases h0 : 0 < xs.length
      · obtain ⟨off, h, _⟩ := hr h0
        simp at h
      · exact List.eq_nil_of_length_eq_zero (by omega)
    simp [Conv.bytesToString, str]
  | some ad =>
    have hl := run_loadCells_list (P := Tryz.prog) w ad (xs.map (Value.int .u8)) (fun j v hj => by
      have hjl : j < xs.length := by
        have := (List.getElem?_eq_some_iff.1 hj).1
        simpa using this
      obtain ⟨off, ha, hcc⟩ := hr (by omega)
      simp only [Option.some.injEq] at ha
      subst ha
      rw [add_mid, hcc j hjl]
      simpa [hjl] using hj)
    rw [List.length_map] at hl
    exact run_bytesToString w ad xs.length c xs hl
set_option maxHeartbeats 400000 in
theorem lwSame_same (w : World) (g g' : Nat) (a b : Option Addr) (ca cb : Nat) (xs : List Int) (ha : Rd w g a .u8 xs) (hb : Rd w g' b .u8 xs) :
    Calls Tryz.prog 13 #[.slice a xs.length ca, .slice b xs.length cb] w fun e w' => e = .returned (.bool true) ∧ w' = w := by
  have h1 := conv_run w g a ca xs ha
  have h2 := conv_run w g' b cb xs hb
  generalize str xs = s at *
  go_enter Tryz.func13, Tryz.ntmps13
  go_wp2
  go_ret
  exact ⟨by simp, rfl⟩
structure Src (w : World) (s : Nat) (a : Option Addr) (n c : Nat) (at_ : Int) : Prop where
  code : w.cell? ⟨s, 0, none⟩ = some (.slice a n c)
  at_ : w.cell? ⟨s, 1, none⟩ = some (.int .i64 at_)
  free : w.frozen? ⟨s, 1, none⟩ = false
theorem Src.lt {w : World} {s : Nat} {a : Option Addr} {n c : Nat} {t : Int} (h : Src w s a n c t) : s < w.heap.size := block_lt_of_cell h.code
theorem Src.of_block {w w' : World} {s : Nat} {a : Option Addr} {n c : Nat} {t : Int} (h : Src w s a n c t) (hb : w'.heap[s]? = w.heap[s]?) : Src w' s a n c t :=
  ⟨(World.cell?_of_block (a := ⟨s, 0, none⟩) hb).trans h.code, (World.cell?_of_block (a := ⟨s, 1, none⟩) hb).trans h.at_, (World.frozen?_of_block (a := ⟨s, 1, none⟩) hb).trans h.free⟩
theorem Src.up {w w' : World} {s : Nat} {a : Option Addr} {n c : Nat} {t : Int} (h : Src w s a n c t) (hb : Below w.heap.size w w') : Src w' s a n c t := h.of_block (hb.block s h.lt)
theorem Src.step {w : World} {s : Nat} {a : Option Addr} {n c : Nat} {t : Int} (h : Src w s a n c t) (u : Int) (m : Nat) : Src ((w.setCell ⟨s, 1, none⟩ (.int .i64 u)).drewN m) s a n c u := by
  refine ⟨?_, ?_, ?_⟩
  · rw [World.cell?_drewN, World.cell?_setCell_other (h := by simp)]; exact h.code
  · rw [World.cell?_drewN, World.cell?_setCell_same _ _ _ h.at_]
  · rw [World.frozen?_drewN, World.frozen?_setCell]; exact h.free
theorem Only.step (w : World) (s : Nat) (u : Value) (m : Nat) : Only s w ((w.setCell ⟨s, 1, none⟩ u).drewN m) := (Only.setCell w s 1 u).trans (Only.drewN _ _ _)
set_option maxHeartbeats 2000000 in
theorem l1Next_any (w : World) (s g : Nat) (a : Option Addr) (c : Nat) (xs : List Int) (t n : Int) (hs : Src w s a xs.length c t) (hr : Rd w g a .u8 xs) (hne : 0 < xs.length → g ≠ s) (hb : Byt xs) (hl : xs.length ≤ 1048576)
    (t0 : 0 ≤ t) (t1 : t ≤ 1048576) (n0 : 1 ≤ n) (n1 : n ≤ 1099511627776) :
    Calls Tryz.prog 28 #[.pointer (some ⟨s, 0, none⟩), .int .i64 n] w fun e w' => ∃ r, e = .returned (.int .i64 r) ∧ (0 ≤ r ∧ r < n) ∧ Src w' s a xs.length c (t + 1) ∧ Only s w w' := by
  have c0 := hs.code
  have c1 := hs.at_
  have f1 := hs.free
  have k1 : (w.setCell ⟨s, 1, none⟩ (.int .i64 (t + 1))).cell? ⟨s, 1, none⟩ = some (.int .i64 (t + 1)) := World.cell?_setCell_same _ _ _ hs.at_
  have k0 : (w.setCell ⟨s, 1, none⟩ (.int .i64 (t + 1))).cell? ⟨s, 0, none⟩ = some (.slice a xs.length c) := by rw [World.cell?_setCell_other (h := by simp)]; exact hs.code
  have tn : decide (n < 1) = false := by simp; omega
  by_cases h0 : xs.length = 0
  · have hk : ((xs.length : Int) == 0) = true := by simp [h0]
    have r0 := Int.emod_nonneg (t * 7) (show n ≠ 0 by omega)
    have r1 := Int.emod_lt_of_pos (t * 7) (show 0 < n by omega)
    have S := hs.step (t + 1) 0
    have O := Only.step w s (.int .i64 (t + 1)) 0
    clear h0
    go_enter Tryz.func28, Tryz.ntmps28
    go_wp2
    go_ret
    exact ⟨_, rfl, ⟨r0, r1⟩, S, O⟩
  · have hk : ((xs.length : Int) == 0) = false := beq_eq_false_iff_ne.2 (by omega)
    obtain ⟨off, rfl, hc⟩ := hr (by omega)
    have gs : g ≠ s := hne (by omega)
    obtain ⟨i1, hi1⟩ := Int.eq_ofNat_of_zero_le (Int.emod_nonneg t (show (xs.length : Int) ≠ 0 by omega))
    have li1 : (i1 : Int) < (xs.length : Int) := by rw [← hi1]; exact Int.emod_lt_of_pos _ (by omega)
    obtain ⟨i2, hi2⟩ := Int.eq_ofNat_of_zero_le (Int.emod_nonneg (t + 1) (show (xs.length : Int) ≠ 0 by omega))
    have li2 : (i2 : Int) < (xs.length : Int) := by rw [← hi2]; exact Int.emod_lt_of_pos _ (by omega)
    obtain ⟨q, hq⟩ : ∃ q, t / (xs.length : Int) = q := ⟨_, rfl⟩
    have q0 : 0 ≤ q := by rw [← hq]; exact Int.ediv_nonneg t0 (by omega)
    have q1 : q ≤ 1048576 := by rw [← hq]; exact Int.le_trans (Int.ediv_le_self _ t0) t1
    have x1 : (w.setCell ⟨s, 1, none⟩ (.int .i64 (t + 1))).cell? ⟨g, off + i1, none⟩ = some (.int .u8 (xs.getD i1 0)) := by rw [World.cell?_setCell_other (h := fun e => gs (by simpa using (congrArg Addr.block e).symm))]; exact hc i1 (by omega)
    have x2 : (w.setCell ⟨s, 1, none⟩ (.int .i64 (t + 1))).cell? ⟨g, off + i2, none⟩ = some (.int .u8 (xs.getD i2 0)) := by rw [World.cell?_setCell_other (h := fun e => gs (by simpa using (congrArg Addr.block e).symm))]; exact hc i2 (by omega)
    have b1 := hb i1
    have b2 := hb i2
    have S := fun m => hs.step (t + 1) m
    have O := fun m => Only.step w s (.int .i64 (t + 1)) m
    generalize xs.getD i1 0 = x at *
    generalize xs.getD i2 0 = y at *
    clear hc hs hr h0
    by_cases hn : n ≤ 200
    · have tn2 : decide (200 < n) = false := by simp; omega
      have r0 := Int.emod_nonneg (x + q * 37) (show n ≠ 0 by omega)
      have r1 := Int.emod_lt_of_pos (x + q * 37) (show 0 < n by omega)
      clear x2 hi2 li2 b2
      go_enter Tryz.func28, Tryz.ntmps28
      go_wp2
      go_quiet (fail)
      go_wp2
      go_ret
      exact ⟨_, rfl, ⟨r0, r1⟩, S _, O _⟩
    · have tn2 : decide (200 < n) = true := by simp; omega
      have r0 := Int.emod_nonneg ((x + q * 37) * 251 + y * 13 + t) (show n ≠ 0 by omega)
      have r1 := Int.emod_lt_of_pos ((x + q * 37) * 251 + y * 13 + t) (show 0 < n by omega)
      go_enter Tryz.func28, Tryz.ntmps28
      go_wp2
      go_quiet (fail)
      go_wp2
      go_quiet (fail)
      go_wp2
      go_ret
      exact ⟨_, rfl, ⟨r0, r1⟩, S _, O _⟩
theorem But.refl (g : Nat) (w : World) : But g w w := ⟨rfl, rfl, rfl, Nat.le_refl _, fun _ _ _ => rfl⟩
theorem But.only {g : Nat} {a b c : World} (h : But g a b) (k : Only g b c) : But g a c :=
  ⟨k.os.trans h.os, k.tape.trans h.tape, k.output.trans h.output, by rw [k.size]; exact h.size, fun i hi hne => (k.block i hne).trans (h.block i hi hne)⟩
theorem But.grown {g : Nat} {a b c : World} {row : Option Nat} (h : But g a b) (k : b.grownBy c row) (hr : ∀ i, row = some i → a.heap.size ≤ i) : But g a c :=
  ⟨k.os.trans h.os, k.tape.trans h.tape, k.output.trans h.output, Nat.le_trans h.size k.size, fun i hi hne => (k.block i (Nat.lt_of_lt_of_le hi h.size) (fun e => by have := hr i e.symm; omega)).trans (h.block i hi hne)⟩
theorem But.trans {g : Nat} {a b c : World} (h : But g a b) (k : But g b c) : But g a c :=
  ⟨k.os.trans h.os, k.tape.trans h.tape, k.output.trans h.output, Nat.le_trans h.size k.size, fun i hi hne => (k.block i (Nat.lt_of_lt_of_le hi h.size) hne).trans (h.block i hi hne)⟩
theorem But.ofBelow {g : Nat} {a b : World} (h : Below a.heap.size a b) : But g a b := ⟨h.os, h.tape, h.output, h.size, fun i hi _ => h.block i hi⟩
theorem But.ofOnly {g : Nat} {a b : World} (h : Only g a b) : But g a b := (But.refl g a).only h
theorem Rd.but {w w' : World} {g g' : Nat} {a : Option Addr} {k : IntKind} {xs : List Int} (h : Rd w g a k xs) (ho : But g' w w') (hne : 0 < xs.length → g ≠ g') : Rd w' g a k xs := by
  by_cases h0 : 0 < xs.length
  · exact h.of_block (ho.block g (h.lt h0) (hne h0))
  · exact fun h1 => absurd h1 h0
theorem Only.grown {g : Nat} {a b : World} (h : Only g a b) : a.grownBy b (some g) := ⟨h.os, h.tape, h.output, Nat.le_of_eq h.size.symm, fun k _ hne => h.block k (fun e => hne (by rw [e]))⟩
theorem byt_snoc {ys : List Int} (h : Byt ys) (x : Int) (h0 : 0 ≤ x) (h1 : x < 256) : Byt (ys ++ [x]) := by
  intro i
  by_cases hi : i < ys.length
  · have := h i
    simpa [List.getElem?_append, hi] using this
  · by_cases e : i = ys.length
    · subst e; simp; exact ⟨h0, h1⟩
    · rw [List.getD_eq_getElem?_getD, List.getElem?_eq_none (by simp; omega)]
      decide
set_option maxHeartbeats 2000000 in
theorem l1DrawBytes_any (w : World) (s g : Nat) (a : Option Addr) (c : Nat) (xs : List Int) (t : Int) (n : Nat) (hs : Src w s a xs.length c t) (hr : Rd w g a .u8 xs) (hne : 0 < xs.length → g ≠ s) (hb : Byt xs) (hl : xs.length ≤ 1048576)
    (t0 : 0 ≤ t) (t1 : t + (n : Int) ≤ 1048576) :
    Calls Tryz.prog 25 #[.pointer (some ⟨s, 0, none⟩), .int .i64 n] w fun e w' => ∃ ys, ys.length = n ∧ Byt ys ∧ NewRow w.heap.size w' e .u8 ys ∧ Src w' s a xs.length c (t + (n : Int)) ∧ But s w w' := by
  obtain ⟨i0, hi, hz0, hz1, hz2⟩ := info_parts Tryz.info5
  have hown0 : (w.alloc (.cells #[] 5)).ownsRow w.heap.size 5 1 (.slice (some ⟨w.heap.size, 0, none⟩) 0 0) 0 [] := World.ownsRow_lit w #[] 0 (Nat.le_refl _) (by unfold maxLen; omega) (by simp)
  have hal : Below w.heap.size w (w.alloc (.cells #[] 5)) := (Below.refl _ _).alloc (Nat.le_refl _) _
  have hsl := hs.lt
  go_enter Tryz.func25, Tryz.ntmps25
  go_wp2
  go_loopw [5, 6] (fun v i wr => ∃ (k : Nat) (ys : List Int), k ≤ n ∧ i = .int .i64 k ∧ Hid (ys.length = k) ∧ Byt ys ∧ wr.ownsRow w.heap.size 5 1 v k (ys.map (Value.int .u8)) ∧ Src wr s a xs.length c (t + (k : Int)) ∧ But s w wr) (fun _ i _ => n - (intOf i).toNat)
  case atStart => exact ⟨0, [], Nat.zero_le _, rfl, rfl, byt_nil, hown0, by simpa using hs.up hal, But.ofBelow hal⟩
  case round =>
    obtain ⟨k, ys, hk, rfl, hyl, hyb, hown, hS, hN⟩ := hrel
    have hr' := hr.but hN hne
    by_cases hlt : k < n
    · have hob := hown.lt
      go_wp2_with fail
      refine (l1Next_any wr s g a c xs (t + (k : Int)) 256 hS hr' hne hb hl (by omega) (by omega) (by decide) (by decide)).mono ?_
      rintro e w1 ⟨r, rfl, ⟨r0, r1⟩, S1, O1⟩
      have N1 := hN.only O1
      have hown1 := hown.kept O1.grown (by
        cases hv : Value.ownBlock _ with
        | none => exact .inl rfl
        | some q => exact .inr (fun e => by have := (hob q hv).1; simp at e; omega))
      have m1 : r % 256 = r := by omega
      have sz := N1.size
      clear hown hS hN O1 hr'
      go_wp2_with (at_builtin; refine wpList_append_own _ rfl _ _ 22 rfl w.heap.size 5 i0 (.int .u8 0) 1 1 Tryz.underlying22 hi hz0 hz1 hz2 rfl (by decide) _ k (ys.map (Value.int .u8)) rfl (hown1.alloc _) ⟨w1.heap.size, 0, none⟩ 1 1 [.int .u8 r] rfl rfl ?c1 ?c2 ?c3 ?c4 ?c5 ?_)
      case c1 =>
        intro j u hj
        match j, hj with
        | 0, hj => simp at hj; subst hj; simp [Addr.add]
      case c2 => intro u hu; simp at hu; subst hu; rfl
      case c3 => unfold maxLen; omega
      case c4 => omega
      case c5 => simp; omega
      · intro v' w2 hown2 hgrow _
        have nA : But s w (w1.alloc (.cells #[.int .u8 r] 5)) := N1.trans (But.ofBelow ((Below.refl _ _).alloc (Nat.le_refl _) _))
        have N2 := nA.grown hgrow (fun i hi => (hob i hi).1)
        have S2 : Src w2 s a xs.length c (t + ((k + 1 : Nat) : Int)) := by
          have := (S1.up ((Below.refl _ _).alloc (Nat.le_refl _) (.cells #[.int .u8 r] 5))).of_block (hgrow.block s (by simp; omega) (fun e => by have := (hob s e.symm).1; omega))
          rw [show t + ((k + 1 : Nat) : Int) = t + (k : Int) + 1 by omega]
          exact this
        have hown3 : w2.ownsRow w.heap.size 5 1 v' (k + 1) ((ys ++ [r]).map (Value.int .u8)) := by simpa using hown2
        have hl3 : Hid ((ys ++ [r]).length = k + 1) := by show _ = _; have := hyl.out; simp; omega
        have hb3 := byt_snoc hyb r r0 r1
        clear hown1 hown2 hgrow N1 S1 nA hob
        go_wp2
        go_roundw
        case rel => exact ⟨k + 1, ys ++ [r], by omega, by go_num, hl3, hb3, hown3, S2, N2⟩
        case measure => simp [intOf]; omega
    · obtain rfl : k = n := by omega
      have hown' := hown
      rw [← hyl.out] at hown'
      obtain ⟨a', c', g', hv, o1, o2, o3, o4⟩ := Own.of_ownsRow hown'
      subst hv
      clear hown hown'
      go_wp2
      go_ret
      exact ⟨ys, hyl.out, hyb, ⟨_, _, g', rfl, o1, o2, o3, o4⟩, hS, hN⟩
theorem But.setCell {g b off : Nat} {a w : World} {u : Value} (h : But g a w) (hb : a.heap.size ≤ b) : But g a (w.setCell ⟨b, off, none⟩ u) :=
  ⟨h.os, h.tape, h.output, by simpa [World.setCell] using h.size, fun k hk hne => (heap_setCell_other w ⟨b, off, none⟩ k u (by show k ≠ b; omega)).trans (h.block k hk hne)⟩
set_option maxHeartbeats 400000 in
theorem l1Source_any (w : World) (a : Option Addr) (n c : Nat) (hn : n ≤ 1048576) :
    Calls Tryz.prog 16 #[.slice a n c] w fun e w' => e = .returned (.pointer (some ⟨w.heap.size, 0, none⟩)) ∧ Src w' w.heap.size a n c 0 ∧ Below w.heap.size w w' := by
  by_cases h : 12 < (n : Int) / 16
  · have t1 : decide (12 < (n : Int) / 16) = true := by simp; omega
    go_enter Tryz.func16, Tryz.ntmps16
    go_wp2
    go_ret
    exact ⟨rfl, ⟨by simp [World.cell?_alloc_at], by simp [World.cell?_alloc_at], by simp [World.frozen?_alloc_at]⟩, (Below.refl _ _).alloc (Nat.le_refl _) _⟩
  · have t1 : decide (12 < (n : Int) / 16) = false := by simp; omega
    go_enter Tryz.func16, Tryz.ntmps16
    go_wp2
    go_ret
    exact ⟨rfl, ⟨by simp [World.cell?_alloc_at], by simp [World.cell?_alloc_at], by simp [World.frozen?_alloc_at]⟩, (Below.refl _ _).alloc (Nat.le_refl _) _⟩
set_option maxHeartbeats 400000 in
theorem l1Chance_any (w : World) (s g : Nat) (a : Option Addr) (c : Nat) (xs : List Int) (t n : Int) (hs : Src w s a xs.length c t) (hr : Rd w g a .u8 xs) (hne : 0 < xs.length → g ≠ s) (hb : Byt xs) (hl : xs.length ≤ 1048576)
    (t0 : 0 ≤ t) (t1 : t ≤ 1048576) (n0 : 1 ≤ n) (n1 : n ≤ 1048576) :
    Calls Tryz.prog 42 #[.pointer (some ⟨s, 0, none⟩), .int .i64 n] w fun e w' => ∃ b, e = .returned (.bool b) ∧ Src w' s a xs.length c (t + 1) ∧ Only s w w' := by
  go_enter Tryz.func42, Tryz.ntmps42
  go_wp2_with fail
  refine (l1Next_any w s g a c xs t n hs hr hne hb hl t0 t1 n0 (by omega)).mono ?_
  rintro e w1 ⟨r, rfl, _, S1, O1⟩
  go_wp2
  go_ret
  exact ⟨_, rfl, S1, O1⟩
end Go.Proofs.YtccnhdicibjbaaaGreat
namespace Go.Proofs.YtccnhdicibjbaaaGreat
open Go.RowKit
theorem str_data : ∀ (xs : List Int) (acc : ByteArray), (xs.foldl (fun r n => r.push (UInt8.ofNat n.toNat)) acc).data = acc.data ++ (xs.map (fun n => UInt8.ofNat n.toNat)).toArray
  | [], acc => by simp
  | x :: r, acc => by
    rw [List.foldl_cons, str_data r]
    simp [ByteArray.push]
theorem toList_inj {s t : ByteArray} (h : s.toList = t.toList) : s = t := by
  rw [ByteArray.toList_eq, ByteArray.toList_eq] at h
  have := Array.ext' h
  cases s; cases t; simp_all
theorem str_inj {xs ys : List Int} (hx : Byt xs) (hy : Byt ys) (h : str xs = str ys) : xs = ys := by
  have h1 : (xs.map (fun n => UInt8.ofNat n.toNat)) = (ys.map (fun n => UInt8.ofNat n.toNat)) := by
    have := congrArg ByteArray.data h
    unfold str at this
    rw [str_data, str_data] at this
    simpa using this
  have hl : xs.length = ys.length := by have := congrArg List.length h1; simpa using this
  refine eq_of_getD hl (fun i hi => ?_)
  have h2 : (xs.map (fun n => UInt8.ofNat n.toNat))[i]? = (ys.map (fun n => UInt8.ofNat n.toNat))[i]? := by rw [h1]
  have a := hx i
  have b := hy i
  have hi' : i < ys.length := by omega
  simp [hi, hi'] at h2 a b ⊢
  have h3 := congrArg UInt8.toNat h2
  simp at h3
  omega
set_option maxHeartbeats 400000 in
theorem l1Same_same (w : World) (g g' : Nat) (a b : Option Addr) (ca cb : Nat) (xs : List Int) (ha : Rd w g a .u8 xs) (hb : Rd w g' b .u8 xs) :
    Calls Tryz.prog 56 #[.slice a xs.length ca, .slice b xs.length cb] w fun e w' => e = .returned (.bool true) ∧ w' = w := by
  have h1 := conv_run w g a ca xs ha
  have h2 := conv_run w g' b cb xs hb
  generalize str xs = s at *
  go_enter Tryz.func56, Tryz.ntmps56
  go_wp2
  go_ret
  exact ⟨by simp, rfl⟩
set_option maxHeartbeats 1000000 in
theorem l1Same_diff (w : World) (g g' : Nat) (a b : Option Addr) (ca cb : Nat) (xs ys : List Int) (ha : Rd w g a .u8 xs) (hb : Rd w g' b .u8 ys) (hx : Byt xs) (hy : Byt ys) (hne : xs ≠ ys) :
    Calls Tryz.prog 56 #[.slice a xs.length ca, .slice b ys.length cb] w fun e w' => e = .returned (.bool false) ∧ w' = w := by
  have h1 := conv_run w g a ca xs ha
  have h2 := conv_run w g' b cb ys hb
  have h3 : str xs ≠ str ys := fun h => hne (str_inj hx hy h)
  clear hne
  generalize str xs = s at *
  generalize str ys = t at *
  have H3 := hide h3
  clear h3
  go_enter Tryz.func56, Tryz.ntmps56
  go_wp2
  go_ret
  have e : (s.toList == t.toList) = false := by
    cases h : (s.toList == t.toList)
    · rfl
    · exact absurd (toList_inj (beq_iff_eq.1 h)) H3.out
  exact ⟨by rw [← e]; rfl, rfl⟩
theorem l1Same_any (w : World) (g g' : Nat) (a b : Option Addr) (ca cb : Nat) (xs ys : List Int) (ha : Rd w g a .u8 xs) (hb : Rd w g' b .u8 ys) (hx : Byt xs) (hy : Byt ys) :
    Calls Tryz.prog 56 #[.slice a xs.length ca, .slice b ys.length cb] w fun e w' => e = .returned (.bool (decide (xs = ys))) ∧ w' = w := by
  by_cases h : xs = ys
  · subst h
    simpa using l1Same_same w g g' a b ca cb xs ha hb
  · have := l1Same_diff w g g' a b ca cb xs ys ha hb hx hy h
    simpa [h] using this
end Go.Proofs.YtccnhdicibjbaaaGreat
namespace Go.Proofs.YtccnhdicibjbaaaGreat
open Go Go.RowKit
def txB (xs : List Int) : List UInt8 := xs.map fun n => UInt8.ofNat n.toNat
theorem txB_len (xs : List Int) : (txB xs).length = xs.length := by simp [txB]
theorem str_is (xs : List Int) : str xs = ⟨⟨txB xs⟩⟩ := by
  have h := str_data xs ByteArray.empty
  have e : (str xs).data = ⟨txB xs⟩ := by
    unfold str
    rw [h]
    show (#[] : Array UInt8) ++ (txB xs).toArray = _
    simp
  calc str xs = ⟨(str xs).data⟩ := rfl
    _ = _ := by rw [e]
theorem tkB_take (xs : List Int) (i n : Nat) (h : i + n ≤ xs.length) : (xs.drop i).take n = tkB xs i n := by
  apply eq_of_getD
  · rw [List.length_take, List.length_drop, tkB_len]; omega
  · intro k hk
    rw [List.length_take, List.length_drop] at hk
    rw [tkB_get _ _ _ _ (by omega), List.getD_eq_getElem?_getD, List.getElem?_take, if_pos (by omega), List.getElem?_drop, ← List.getD_eq_getElem?_getD]
def dn1 (b : List Int) : Nat := (beN b 80 1).toNat
def dn2 (b : List Int) : Nat := (beN b (81 + dn1 b) 1).toNat
def dX (b : List Int) : List Int := tkB b 0 32
def dY (b : List Int) : List Int := tkB b 32 32
def dM (b : List Int) : Int := nmV b 64 8
def dL (b : List Int) : Int := nmV b 72 4
def dE (b : List Int) : Int := nmV b 76 4
def dH (b : List Int) : List UInt8 := txB (tkB b 81 (dn1 b))
def dP (b : List Int) : List UInt8 := txB (tkB b (82 + dn1 b) (dn2 b))
theorem dn1_is {b : List Int} (h : Byt b) : (dn1 b : Int) = beN b 80 1 ∧ dn1 b ≤ 255 := by
  have r := beN_rng h 80 1
  have r1 : beN b 80 1 < 256 := by have := r.2; simpa using this
  unfold dn1
  omega
theorem dn2_is {b : List Int} (h : Byt b) : (dn2 b : Int) = beN b (81 + dn1 b) 1 ∧ dn2 b ≤ 255 := by
  have r := beN_rng h (81 + dn1 b) 1
  have r1 : beN b (81 + dn1 b) 1 < 256 := by have := r.2; simpa using this
  unfold dn2
  omega
theorem dH_len (b : List Int) : (dH b).length = dn1 b := by unfold dH; rw [txB_len, tkB_len]
theorem dP_len (b : List Int) : (dP b).length = dn2 b := by unfold dP; rw [txB_len, tkB_len]
theorem dX_len (b : List Int) : (dX b).length = 32 := tkB_len _ _ _
theorem dY_len (b : List Int) : (dY b).length = 32 := tkB_len _ _ _
def dsB (b : List Int) : Bool := decide (sfV (dX b).length (dY b).length (dM b) (dL b) (dH b) (dP b).length (dE b) = 0) && decide (esA (dX b) (dY b) (dM b) (dL b) (dH b) (dP b) (dE b) = b)
theorem dsB_len {b : List Int} (h : dsB b = true) : 82 + dn1 b + dn2 b = b.length := by
  unfold dsB at h
  simp only [Bool.and_eq_true, decide_eq_true_eq] at h
  obtain ⟨h0, h1⟩ := h
  unfold esA at h1
  rw [if_pos h0] at h1
  have := congrArg List.length h1
  rw [esL_len, dH_len, dP_len, dX_len, dY_len] at this
  omega
theorem dsB_form {b : List Int} (h : 82 + dn1 b + dn2 b ≤ b.length) : dsB b = decide (esA (dX b) (dY b) (dM b) (dL b) (dH b) (dP b) (dE b) = b) := by
  unfold dsB
  by_cases h0 : sfV (dX b).length (dY b).length (dM b) (dL b) (dH b) (dP b).length (dE b) = 0
  · simp [h0]
  · have e : esA (dX b) (dY b) (dM b) (dL b) (dH b) (dP b) (dE b) = [] := by unfold esA; rw [if_neg h0]
    rw [e]
    have : ¬ ([] : List Int) = b := fun q => by rw [← q] at h; simp at h
    simp [h0, this]
theorem dsB_short {b : List Int} (h : ¬ 82 + dn1 b + dn2 b ≤ b.length) : dsB b = false := by
  cases e : dsB b
  · rfl
  · exact absurd (dsB_len e) (by omega)
end Go.Proofs.YtccnhdicibjbaaaGreat
