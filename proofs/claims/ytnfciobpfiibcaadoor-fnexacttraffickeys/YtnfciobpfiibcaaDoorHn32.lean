
/-
  A block of words of 32 bits, as numbers (written by gens/hn.py).
-/
import Derived.Test.YtnfciobpfiibcaaDoorHx32
import Derived.Test.YtnfciobpfiibcaaDoorHsT
namespace Go.Proofs.YtnfciobpfiibcaaDoor
set_option maxRecDepth 100000
open Go Go.RowKit

def Ok32 (s : S8) : Prop := Wd32 s.a ∧ Wd32 s.b ∧ Wd32 s.c ∧ Wd32 s.d ∧ Wd32 s.e ∧ Wd32 s.f ∧ Wd32 s.g ∧ Wd32 s.h
/-- The words of a block and those made of them. -/
def wF32 (b : Nat → Int) : Nat → Nat → Int
  | 0, _ => 0
  | n + 1, i => if i < 16 then b i else (sg132 (wF32 b n (i - 2)) + wF32 b n (i - 7) + sg032 (wF32 b n (i - 15)) + wF32 b n (i - 16)) % 4294967296
def wS32 (b : Nat → Int) (i : Nat) : Int := wF32 b (1 + i) i
theorem wF_same32 (b : Nat → Int) : ∀ n m i : Nat, i < n → i < m → wF32 b n i = wF32 b m i
  | 0, _, _, h, _ => absurd h (by omega)
  | _ + 1, 0, _, _, k => absurd k (by omega)
  | n + 1, m + 1, i, h, k => by
    rw [wF32, wF32]
    by_cases c : i < 16
    · rw [if_pos c, if_pos c]
    · rw [if_neg c, if_neg c, wF_same32 b n m (i - 2) (by omega) (by omega), wF_same32 b n m (i - 7) (by omega) (by omega), wF_same32 b n m (i - 15) (by omega) (by omega), wF_same32 b n m (i - 16) (by omega) (by omega)]
theorem wS_eq32 (b : Nat → Int) (i : Nat) : wS32 b i = if i < 16 then b i else (sg132 (wS32 b (i - 2)) + wS32 b (i - 7) + sg032 (wS32 b (i - 15)) + wS32 b (i - 16)) % 4294967296 := by
  have e : wS32 b i = wF32 b (i + 1) i := wF_same32 b _ _ i (by omega) (by omega)
  rw [e, wF32]
  by_cases c : i < 16
  · rw [if_pos c, if_pos c]
  · rw [if_neg c, if_neg c, wF_same32 b i (1 + (i - 2)) (i - 2) (by omega) (by omega), wF_same32 b i (1 + (i - 7)) (i - 7) (by omega) (by omega), wF_same32 b i (1 + (i - 15)) (i - 15) (by omega) (by omega), wF_same32 b i (1 + (i - 16)) (i - 16) (by omega) (by omega)]
    rfl
theorem wS_low32 (b : Nat → Int) {i : Nat} (h : i < 16) : wS32 b i = b i := by rw [wS_eq32, if_pos h]
theorem wS_go32 (b : Nat → Int) {i : Nat} (h : 16 ≤ i) : wS32 b i = (sg132 (wS32 b (i - 2)) + wS32 b (i - 7) + sg032 (wS32 b (i - 15)) + wS32 b (i - 16)) % 4294967296 := by
  conv => lhs; rw [wS_eq32]
  rw [if_neg (by omega)]
theorem wS_wd32 {b : Nat → Int} (hb : ∀ i, i < 16 → Wd32 (b i)) (i : Nat) : Wd32 (wS32 b i) := by
  by_cases h : i < 16
  · rw [wS_low32 b h]
    exact hb i h
  · rw [wS_go32 b (by omega)]
    exact mod_wd32 _
/-- Sixteen of them, the newest in the place of the oldest. -/
def Roll32 (b : Nat → Int) (ys : List Int) (n : Nat) : Prop := ys.length = 16 ∧ ∀ m, m < n → n ≤ m + 16 → ys.getD (m % 16) 0 = wS32 b m
theorem Roll.first32 {b : Nat → Int} {ys : List Int} (hl : ys.length = 16) (h : ∀ i, i < 16 → ys.getD i 0 = b i) : Roll32 b ys 16 :=
  ⟨hl, fun m hm _ => by rw [Nat.mod_eq_of_lt hm, h m hm, wS_low32 b hm]⟩
theorem Roll.step32 {b : Nat → Int} {ys : List Int} {i : Nat} (h : Roll32 b ys i) (hi : 16 ≤ i) :
    Roll32 b (ys.set (i % 16) (extv32 (ys.getD (i % 16) 0) (ys.getD ((i - 2) % 16) 0) (ys.getD ((i - 7) % 16) 0) (ys.getD ((i - 15) % 16) 0))) (i + 1) := by
  have e0 := h.2 (i - 16) (by omega) (by omega)
  have e2 := h.2 (i - 2) (by omega) (by omega)
  have e7 := h.2 (i - 7) (by omega) (by omega)
  have e15 := h.2 (i - 15) (by omega) (by omega)
  rw [show (i - 16) % 16 = i % 16 by omega] at e0
  rw [e0, e2, e7, e15]
  have ev : extv32 (wS32 b (i - 16)) (wS32 b (i - 2)) (wS32 b (i - 7)) (wS32 b (i - 15)) = wS32 b i := by
    rw [wS_go32 b hi]
    unfold extv32
    omega
  rw [ev]
  refine ⟨by rw [List.length_set]; exact h.1, fun m hm hm' => ?_⟩
  by_cases c : m = i
  · subst c
    rw [getD_set_self _ _ _ (by rw [h.1]; omega)]
  · rw [getD_set_ne _ _ _ _ (by omega)]
    exact h.2 m (by omega) (by omega)

def tS32 (k w : Int) (s : S8) : Int := (s.h + gg132 s.e + ch32 s.e s.f s.g + k + w) % 4294967296
def uS32 (s : S8) : Int := (gg032 s.a + mj32 s.a s.b s.c) % 4294967296
def stp32 (k w : Int) (s : S8) : S8 := ⟨(tS32 k w s + uS32 s) % 4294967296, s.a, s.b, s.c, (s.d + tS32 k w s) % 4294967296, s.e, s.f, s.g⟩
theorem stp_ok32 {k w : Int} {s : S8} (h : Ok32 s) : Ok32 (stp32 k w s) :=
  ⟨mod_wd32 _, h.1, h.2.1, h.2.2.1, mod_wd32 _, h.2.2.2.2.1, h.2.2.2.2.2.1, h.2.2.2.2.2.2.1⟩
def rnds32 (K w : Nat → Int) : Nat → S8 → S8
  | 0, s => s
  | n + 1, s => stp32 (K n) (w n) (rnds32 K w n s)
theorem rnds_ok32 {K w : Nat → Int} {s : S8} (h : Ok32 s) : ∀ n, Ok32 (rnds32 K w n s)
  | 0 => h
  | n + 1 => stp_ok32 (rnds_ok32 h n)
def K32 (i : Nat) : Int := kL.getD i 0 / 4294967296
theorem K_wd32 (i : Nat) (h : i < 64) : Wd32 (K32 i) := by
  have := kL_lt ⟨i, by omega⟩
  have h2 : kL.getD (⟨i, by omega⟩ : Fin 80).val 0 = kL.getD i 0 := rfl
  rw [h2] at this
  unfold K32 Wd32
  omega
def add32 (s r : S8) : S8 := ⟨(s.a + r.a) % 4294967296, (s.b + r.b) % 4294967296, (s.c + r.c) % 4294967296, (s.d + r.d) % 4294967296, (s.e + r.e) % 4294967296, (s.f + r.f) % 4294967296, (s.g + r.g) % 4294967296, (s.h + r.h) % 4294967296⟩
theorem add_ok32 (s r : S8) : Ok32 (add32 s r) := ⟨mod_wd32 _, mod_wd32 _, mod_wd32 _, mod_wd32 _, mod_wd32 _, mod_wd32 _, mod_wd32 _, mod_wd32 _⟩
/-- The words behind a block. -/
def blk32 (s : S8) (b : Nat → Int) : S8 := add32 s (rnds32 K32 (wS32 b) 64 s)
theorem blk_ok32 (s : S8) (b : Nat → Int) : Ok32 (blk32 s b) := add_ok32 _ _
end Go.Proofs.YtnfciobpfiibcaaDoor
