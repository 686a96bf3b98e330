import Derived.Test.YtkglcainhkbgbaaGreatDoorSG26
namespace Go.Proofs.YtkglcainhkbgbaaGreatDoor
set_option maxRecDepth 100000
open Go.RowKit
theorem s16_upd (p : Nat → Int) (q : Nat) (v : Int) : ∀ n, s16 (fun k => if k = q then v else p k) n = s16 p n + if q < n then (v - p q) * 65536 ^ q else 0
  | 0 => by simp [s16]
  | n + 1 => by
    rw [s16, s16, s16_upd p q v n]
    by_cases e : n = q
    · subst e
      rw [if_pos rfl, if_neg (by omega), if_pos (by omega), Int.sub_mul]; omega
    · rw [if_neg e]
      by_cases h : q < n
      · rw [if_pos h, if_pos (by omega)]; omega
      · rw [if_neg h, if_neg (by omega)]; omega
theorem getD_set_fun (cs : List Int) (q : Nat) (v : Int) (hq : q < cs.length) : (fun k => (cs.set q v).getD k 0) = fun k => if k = q then v else cs.getD k 0 := by
  funext k
  by_cases e : k = q
  · subst e; rw [if_pos rfl, getD_set_self _ _ _ hq]
  · rw [if_neg e, getD_set_ne _ _ _ _ (by omega)]
def Cl (a b : Nat → Int) (cs : List Int) (i j : Nat) : Prop :=
  cs.length = 32 ∧ (∀ k, 0 ≤ cs.getD k 0 ∧ cs.getD k 0 ≤ ((i * 16 + j : Nat) : Int) * 4294967296) ∧ s16 (fun k => cs.getD k 0) 32 = s16 a i * s16 b 16 + a i * 65536 ^ i * s16 b j
theorem Cl.step {a b : Nat → Int} {cs : List Int} {i j : Nat} (h : Cl a b cs i j) (ha : L16 a) (hb : L16 b) (hi : i < 16) (hj : j < 16) (v : Int) (hv : v = cs.getD (i + j) 0 + a i * b j) : Cl a b (cs.set (i + j) v) i (j + 1) := by
  obtain ⟨h1, h2, h3⟩ := h
  have xi := ha i hi
  have yj := hb j hj
  have m := mul_bd (A := 65535) (B := 65535) ⟨xi.1, by omega⟩ ⟨yj.1, by omega⟩
  refine ⟨by simpa using h1, fun k => ?_, ?_⟩
  · have hk := h2 k
    have hij := h2 (i + j)
    by_cases e : i + j = k
    · subst e
      rw [getD_set_self _ _ _ (by omega), hv]; omega
    · rw [getD_set_ne _ _ _ _ e]; omega
  · have hs : s16 b (j + 1) = s16 b j + b j * 65536 ^ j := rfl
    rw [getD_set_fun _ _ _ (by omega), s16_upd, if_pos (by omega), h3, hv, hs, Int.pow_add]
    generalize (65536 : Int) ^ i = p
    generalize (65536 : Int) ^ j = q
    generalize cs.getD (i + j) 0 = c
    grind
theorem Cl.row {a b : Nat → Int} {cs : List Int} {i : Nat} (h : Cl a b cs i 16) : Cl a b cs (i + 1) 0 := by
  obtain ⟨h1, h2, h3⟩ := h
  refine ⟨h1, fun k => by have := h2 k; omega, ?_⟩
  have hs : s16 a (i + 1) = s16 a i + a i * 65536 ^ i := rfl
  have h0 : s16 b 0 = 0 := rfl
  rw [h3, hs, h0]
  generalize (65536 : Int) ^ i = p
  grind
theorem Cl.zero (a b : Nat → Int) : Cl a b (List.replicate 32 0) 0 0 := by
  have e : (fun k => (List.replicate 32 (0 : Int)).getD k 0) = fun _ => 0 := by
    funext k
    by_cases h : k < 32
    · rw [List.getD_eq_getElem?_getD, List.getElem?_replicate, if_pos h]; rfl
    · rw [List.getD_eq_getElem?_getD, List.getElem?_eq_none (by simp; omega)]; rfl
  refine ⟨by simp, fun k => ?_, ?_⟩
  · have h : (List.replicate 32 (0 : Int)).getD k 0 = 0 := congrFun e k
    rw [h]; omega
  · rw [e]; simp [s16]
end Go.Proofs.YtkglcainhkbgbaaGreatDoor
