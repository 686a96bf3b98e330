
/-
  A block of words of 64 bits, as numbers (written by gens/hn.py).
-/
import Derived.Test.YtnfciobpfiibcaaDoorHx64
import Derived.Test.YtnfciobpfiibcaaDoorHsT
namespace Go.Proofs.YtnfciobpfiibcaaDoor
set_option maxRecDepth 100000
open Go Go.RowKit

def Ok64 (s : S8) : Prop := Wd64 s.a ∧ Wd64 s.b ∧ Wd64 s.c ∧ Wd64 s.d ∧ Wd64 s.e ∧ Wd64 s.f ∧ Wd64 s.g ∧ Wd64 s.h
/-- The words of a block and those made of them. -/
def wF64 (b : Nat → Int) : Nat → Nat → Int
  | 0, _ => 0
  | n + 1, i => if i < 16 then b i else (sg164 (wF64 b n (i - 2)) + wF64 b n (i - 7) + sg064 (wF64 b n (i - 15)) + wF64 b n (i - 16)) % 18446744073709551616
def wS64 (b : Nat → Int) (i : Nat) : Int := wF64 b (1 + i) i
theorem wF_same64 (b : Nat → Int) : ∀ n m i : Nat, i < n → i < m → wF64 b n i = wF64 b m i
  | 0, _, _, h, _ => absurd h (by omega)
  | _ + 1, 0, _, _, k => absurd k (by omega)
  | n + 1, m + 1, i, h, k => by
    rw [wF64, wF64]
    by_cases c : i < 16
    · rw [if_pos c, if_pos c]
    · rw [if_neg c, if_neg c, wF_same64 b n m (i - 2) (by omega) (by omega), wF_same64 b n m (i - 7) (by omega) (by omega), wF_same64 b n m (i - 15) (by omega) (by omega), wF_same64 b n m (i - 16) (by omega) (by omega)]
theorem wS_eq64 (b : Nat → Int) (i : Nat) : wS64 b i = if i < 16 then b i else (sg164 (wS64 b (i - 2)) + wS64 b (i - 7) + sg064 (wS64 b (i - 15)) + wS64 b (i - 16)) % 18446744073709551616 := by
  have e : wS64 b i = wF64 b (i + 1) i := wF_same64 b _ _ i (by omega) (by omega)
  rw [e, wF64]
  by_cases c : i < 16
  · rw [if_pos c, if_pos c]
  · rw [if_neg c, if_neg c, wF_same64 b i (1 + (i - 2)) (i - 2) (by omega) (by omega), wF_same64 b i (1 + (i - 7)) (i - 7) (by omega) (by omega), wF_same64 b i (1 + (i - 15)) (i - 15) (by omega) (by omega), wF_same64 b i (1 + (i - 16)) (i - 16) (by omega) (by omega)]
    rfl
theorem wS_low64 (b : Nat → Int) {i : Nat} (h : i < 16) : wS64 b i = b i := by rw [wS_eq64, if_pos h]
theorem wS_go64 (b : Nat → Int) {i : Nat} (h : 16 ≤ i) : wS64 b i = (sg164 (wS64 b (i - 2)) + wS64 b (i - 7) + sg064 (wS64 b (i - 15)) + wS64 b (i - 16)) % 18446744073709551616 := by
  conv => lhs; rw [wS_eq64]
  rw [if_neg (by omega)]
theorem wS_wd64 {b : Nat → Int} (hb : ∀ i, i < 16 → Wd64 (b i)) (i : Nat) : Wd64 (wS64 b i) := by
  by_cases h : i < 16
  · rw [wS_low64 b h]
    exact hb i h
  · rw [wS_go64 b (by omega)]
    exact mod_wd64 _
/-- Sixteen of them, the newest in the place of the oldest. -/
def Roll64 (b : Nat → Int) (ys : List Int) (n : Nat) : Prop := ys.length = 16 ∧ ∀ m, m < n → n ≤ m + 16 → ys.getD (m % 16) 0 = wS64 b m
theorem Roll.first64 {b : Nat → Int} {ys : List Int} (hl : ys.length = 16) (h : ∀ i, i < 16 → ys.getD i 0 = b i) : Roll64 b ys 16 :=
  ⟨hl, fun m hm _ => by rw [Nat.mod_eq_of_lt hm, h m hm, wS_low64 b hm]⟩
theorem Roll.step64 {b : Nat → Int} {ys : List Int} {i : Nat} (h : Roll64 b ys i) (hi : 16 ≤ i) :
    Roll64 b (ys.set (i % 16) (extv64 (ys.getD (i % 16) 0) (ys.getD ((i - 2) % 16) 0) (ys.getD ((i - 7) % 16) 0) (ys.getD ((i - 15) % 16) 0))) (i + 1) := by
  have e0 := h.2 (i - 16) (by omega) (by omega)
  have e2 := h.2 (i - 2) (by omega) (by omega)
  have e7 := h.2 (i - 7) (by omega) (by omega)
  have e15 := h.2 (i - 15) (by omega) (by omega)
  rw [show (i - 16) % 16 = i % 16 by omega] at e0
  rw [e0, e2, e7, e15]
  have ev : extv64 (wS64 b (i - 16)) (wS64 b (i - 2)) (wS64 b (i - 7)) (wS64 b (i - 15)) = wS64 b i := by
    rw [wS_go64 b hi]
    unfold extv64
    omega
  rw [ev]
  refine ⟨by rw [List.length_set]; exact h.1, fun m hm hm' => ?_⟩
  by_cases c : m = i
  · subst c
    rw [getD_set_self _ _ _ (by rw [h.1]; omega)]
  · rw [getD_set_ne _ _ _ _ (by omega)]
    exact h.2 m (by omega) (by omega)

def tS64 (k w : Int) (s : S8) : Int := (s.h + gg164 s.e + ch64 s.e s.f s.g + k + w) % 18446744073709551616
def uS64 (s : S8) : Int := (gg064 s.a + mj64 s.a s.b s.c) % 18446744073709551616
def stp64 (k w : Int) (s : S8) : S8 := ⟨(tS64 k w s + uS64 s) % 18446744073709551616, s.a, s.b, s.c, (s.d + tS64 k w s) % 18446744073709551616, s.e, s.f, s.g⟩
theorem stp_ok64 {k w : Int} {s : S8} (h : Ok64 s) : Ok64 (stp64 k w s) :=
  ⟨mod_wd64 _, h.1, h.2.1, h.2.2.1, mod_wd64 _, h.2.2.2.2.1, h.2.2.2.2.2.1, h.2.2.2.2.2.2.1⟩
def rnds64 (K w : Nat → Int) : Nat → S8 → S8
  | 0, s => s
  | n + 1, s => stp64 (K n) (w n) (rnds64 K w n s)
theorem rnds_ok64 {K w : Nat → Int} {s : S8} (h : Ok64 s) : ∀ n, Ok64 (rnds64 K w n s)
  | 0 => h
  | n + 1 => stp_ok64 (rnds_ok64 h n)
def K64 (i : Nat) : Int := kL.getD i 0
theorem K_wd64 (i : Nat) (h : i < 80) : Wd64 (K64 i) := by
  have := kL_lt ⟨i, by omega⟩
  have h2 : kL.getD (⟨i, by omega⟩ : Fin 80).val 0 = kL.getD i 0 := rfl
  rw [h2] at this
  unfold K64 Wd64
  omega
def add64 (s r : S8) : S8 := ⟨(s.a + r.a) % 18446744073709551616, (s.b + r.b) % 18446744073709551616, (s.c + r.c) % 18446744073709551616, (s.d + r.d) % 18446744073709551616, (s.e + r.e) % 18446744073709551616, (s.f + r.f) % 18446744073709551616, (s.g + r.g) % 18446744073709551616, (s.h + r.h) % 18446744073709551616⟩
theorem add_ok64 (s r : S8) : Ok64 (add64 s r) := ⟨mod_wd64 _, mod_wd64 _, mod_wd64 _, mod_wd64 _, mod_wd64 _, mod_wd64 _, mod_wd64 _, mod_wd64 _⟩
/-- The words behind a block. -/
def blk64 (s : S8) (b : Nat → Int) : S8 := add64 s (rnds64 K64 (wS64 b) 80 s)
theorem blk_ok64 (s : S8) (b : Nat → Int) : Ok64 (blk64 s b) := add_ok64 _ _
end Go.Proofs.YtnfciobpfiibcaaDoor
