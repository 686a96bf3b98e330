
/-
  A certificate's fields, and what is wrong with them: no Go in it.
-/
import Derived.Test.YtheggghidhjplaaNmF
namespace Go.Proofs.Ytheggghidhjplaa
open Go Go.RowKit

/-- What a certificate holds. -/
structure Crt where
  ser : List Int
  iss : List UInt8
  sub : List UInt8
  frm : Int
  unt : Int
  key : List Int
  hos : List (List UInt8)
  aut : Bool
  lim : Int
  use : Int
  prm : List (List UInt8)
  exc : List (List UInt8)
  sig : List Int
def titB (c : UInt8) : Bool := decide (32 ≤ (c.toNat : Int)) && decide ((c.toNat : Int) ≤ 126)
def ttl (l : List UInt8) : Bool := decide (1 ≤ l.length) && decide (l.length ≤ 64) && l.all titB
/-- The first k are without a fault, and each comes behind the one ahead of it. -/
def risK (F : List UInt8 → Int) (ls : List (List UInt8)) : Nat → Bool
  | 0 => true
  | k + 1 => risK F ls k && decide (F (ls.getD k []) = 0) && (decide (k = 0) || Op.bytesLess (ls.getD (k - 1) []) (ls.getD k []))
def ris (F : List UInt8 → Int) (ls : List (List UInt8)) : Bool := decide (ls.length ≤ 16) && risK F ls ls.length
theorem risK_mono {F : List UInt8 → Int} {ls : List (List UInt8)} {k n : Nat} (h : k ≤ n) (hk : risK F ls k = false) : risK F ls n = false := by
  induction n with
  | zero =>
    obtain rfl : k = 0 := by omega
    exact hk
  | succ n ih =>
    by_cases e : k = n + 1
    · subst e
      exact hk
    · have := ih (by omega)
      show (risK F ls n && _ && _) = false
      rw [this]
      rfl
theorem less_total (a b : List UInt8) : (Op.bytesLess b a || b == a) = !Op.bytesLess a b := by
  induction a generalizing b with
  | nil =>
    cases b with
    | nil => rfl
    | cons y b => rfl
  | cons x a ih =>
    cases b with
    | nil => rfl
    | cons y b =>
      have := ih b
      show ((decide (y < x) || (y == x && Op.bytesLess b a)) || ((y == x) && (b == a))) = !(decide (x < y) || (x == y && Op.bytesLess a b))
      by_cases e : x = y
      · subst e
        have h1 : decide (x < x) = false := decide_eq_false (fun h => by have := UInt8.lt_iff_toNat_lt.1 h; omega)
        rw [h1, beq_self_eq_true, Bool.false_or, Bool.true_and, Bool.true_and, Bool.false_or, Bool.true_and]
        exact this
      · have e1 : (x == y) = false := by simpa using e
        have e2 : (y == x) = false := by simpa using fun h => e h.symm
        rw [e1, e2, Bool.false_and, Bool.false_and, Bool.false_and, Bool.or_false, Bool.or_false, Bool.or_false]
        have hne : x.toNat ≠ y.toNat := fun h => e (UInt8.toNat.inj h)
        by_cases l : x < y
        · have l' := UInt8.lt_iff_toNat_lt.1 l
          rw [decide_eq_true l, decide_eq_false (fun h => by have := UInt8.lt_iff_toNat_lt.1 h; omega)]
          rfl
        · have l' : ¬ x.toNat < y.toNat := fun h => l (UInt8.lt_iff_toNat_lt.2 h)
          rw [decide_eq_false l, decide_eq_true (UInt8.lt_iff_toNat_lt.2 (by omega))]
          rfl
def r1 (C : Crt) : Bool := decide (1 ≤ C.ser.length) && decide (C.ser.length ≤ 20) && decide (C.ser.getD 0 0 ≠ 0)
def r4 (C : Crt) : Bool := decide (0 ≤ C.frm) && decide (C.frm ≤ C.unt) && decide (C.unt ≤ 253402300799)
def r5 (C : Crt) : Bool := decide (C.key.length = 32)
def r7 (C : Crt) : Bool := decide (-1 ≤ C.lim) && decide (C.lim ≤ 16) && (C.aut || (decide (C.lim = -1) && decide (C.prm.length = 0) && decide (C.exc.length = 0)))
def r8 (C : Crt) : Bool := decide (1 ≤ C.use) && decide (C.use ≤ 7) && (decide (4 ≤ C.use) == C.aut)
def r9 (C : Crt) : Bool := ris nameF C.prm && ris nameF C.exc
def r10 (C : Crt) : Bool := decide (C.sig.length = 64)
/-- Does a rule hold? -/
def rul (C : Crt) (r : Nat) : Bool :=
  if r = 1 then r1 C else if r = 2 then ttl C.iss else if r = 3 then ttl C.sub else if r = 4 then r4 C else if r = 5 then r5 C else if r = 6 then ris patF C.hos else if r = 7 then r7 C else if r = 8 then r8 C else if r = 9 then r9 C else r10 C
/-- The first that does not, from rule r on, n of them. -/
def fstR (C : Crt) : Nat → Nat → Int
  | 0, _ => 0
  | n + 1, r => if rul C r = true then fstR C n (r + 1) else (r : Int)
def bodF (C : Crt) : Int := fstR C 9 1
def cerF (C : Crt) : Int := fstR C 10 1
theorem fstR_pre (C : Crt) (n m r : Nat) (h : fstR C n r ≠ 0) : fstR C (n + m) r = fstR C n r := by
  induction n generalizing r with
  | zero => exact absurd rfl h
  | succ n ih =>
    rw [show n + 1 + m = (n + m) + 1 by omega]
    unfold fstR at h ⊢
    split at h
    · rename_i k
      rw [if_pos k, if_pos k]
      exact ih _ h
    · rename_i k
      rw [if_neg k, if_neg k]
theorem fstR_suc (C : Crt) (n r : Nat) (h : fstR C n r = 0) (hr : 0 < r) : fstR C (n + 1) r = if rul C (r + n) = true then 0 else ((r + n : Nat) : Int) := by
  induction n generalizing r with
  | zero => rfl
  | succ n ih =>
    unfold fstR at h
    split at h
    · rename_i k
      have := ih (r + 1) h (by omega)
      show (if rul C r = true then fstR C (n + 1) (r + 1) else (r : Int)) = _
      rw [if_pos k, this, show r + 1 + n = r + (n + 1) by omega]
    · exfalso
      omega
theorem cerF_eq (C : Crt) : cerF C = if bodF C = 0 then (if r10 C = true then 0 else 10) else bodF C := by
  unfold cerF bodF
  split
  · rename_i h
    rw [fstR_suc C 9 1 h (by omega)]
    rfl
  · rename_i h
    exact fstR_pre C 9 1 1 h
/-- The sizes are such as Go can have. -/
structure OkC (C : Crt) : Prop where
  ser : C.ser.length ≤ 9223372036854775807
  iss : C.iss.length ≤ 9223372036854775807
  sub : C.sub.length ≤ 9223372036854775807
  key : C.key.length ≤ 9223372036854775807
  hos : C.hos.length ≤ 9223372036854775807
  prm : C.prm.length ≤ 9223372036854775807
  exc : C.exc.length ≤ 9223372036854775807
  sig : C.sig.length ≤ 9223372036854775807
  hosM : ∀ l ∈ C.hos, l.length ≤ 9223372036854775807
  prmM : ∀ l ∈ C.prm, l.length ≤ 9223372036854775807
  excM : ∀ l ∈ C.exc, l.length ≤ 9223372036854775807
end Go.Proofs.Ytheggghidhjplaa
