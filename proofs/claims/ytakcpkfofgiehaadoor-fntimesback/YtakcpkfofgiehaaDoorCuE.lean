
/-
  The cursor's digits.
-/
import Derived.Test.YtakcpkfofgiehaaDoorCuL
import Derived.Test.YtakcpkfofgiehaaDoorCuT
import Derived.Test.YtakcpkfofgiehaaDoorDtN
namespace Go.Proofs.YtakcpkfofgiehaaDoor
set_option maxRecDepth 100000
open Go Go.RowKit

theorem curI_def (w : World) (p : Nat) (l : Value) (i : Nat) (h : Cur w p l (i : Int)) : w.cell? ⟨p, 1, none⟩ = some (.int .i64 (i : Int)) := h.c1
theorem dvK_drop (b : List Int) (i n : Nat) : ∀ j, j ≤ n → dvK ((b.drop i).take n) j = dvK (b.drop i) j
  | 0, _ => rfl
  | j + 1, h => by
    show dvK _ j * 10 + (((b.drop i).take n).getD j 0 - 48) = dvK _ j * 10 + ((b.drop i).getD j 0 - 48)
    rw [dvK_drop b i n j (by omega), List.getD_eq_getElem?_getD, List.getElem?_take, if_pos (by omega), ← List.getD_eq_getElem?_getD]
theorem drop_getD (b : List Int) (i j : Nat) : (b.drop i).getD j 0 = b.getD (i + j) 0 := by
  rw [List.getD_eq_getElem?_getD, List.getD_eq_getElem?_getD, List.getElem?_drop]
/-- n digits from place i on are digits, and there. -/
def DgA (b : List Int) (i n : Nat) : Prop := i + n ≤ b.length ∧ ∀ j, j < n → 48 ≤ b.getD (i + j) 0 ∧ b.getD (i + j) 0 ≤ 57
theorem DgA.bd {b : List Int} {i n : Nat} (h : DgA b i n) : ∀ j, j ≤ n → 0 ≤ dvK (b.drop i) j ∧ dvK (b.drop i) j < 10 ^ j
  | 0, _ => by simp [dvK]
  | j + 1, hj => by
    have ih := h.bd j (by omega)
    have hx := h.2 j (by omega)
    show 0 ≤ dvK (b.drop i) j * 10 + ((b.drop i).getD j 0 - 48) ∧ dvK (b.drop i) j * 10 + ((b.drop i).getD j 0 - 48) < _
    rw [drop_getD, Int.pow_succ]
    omega
theorem DgA.dv {b : List Int} {i n : Nat} (h : DgA b i n) : dvP b i n = dvK (b.drop i) n := by
  unfold dvP Proofs.YtakcpkfofgiehaaDoor.dv
  rw [show ((b.drop i).take n).length = n by rw [List.length_take, List.length_drop]; have := h.1; omega]
  exact dvK_drop b i n n (Nat.le_refl _)

theorem DgA.step {b : List Int} {i j : Nat} (h : DgA b i j) (h1 : i + j < b.length) (h2 : 48 ≤ b.getD (i + j) 0) (h3 : b.getD (i + j) 0 ≤ 57) : DgA b i (j + 1) := ⟨by omega, fun k hk => by
  by_cases e : k = j
  · subst e; exact ⟨h2, h3⟩
  · exact h.2 k (by omega)⟩
theorem DgA.not1 {b : List Int} {i j n : Nat} (hj : j < n) (h : b.length ≤ i + j) : ¬ DgA b i n := fun d => by have := d.1; omega
theorem DgA.not2 {b : List Int} {i j n : Nat} (hj : j < n) (h : b.getD (i + j) 0 < 48 ∨ 57 < b.getD (i + j) 0) : ¬ DgA b i n := fun d => by have := d.2 j hj; omega
/-- A number of n digits within these bounds. -/
def DgB (b : List Int) (i n : Nat) (lo hi : Int) : Prop := DgA b i n ∧ lo ≤ dvP b i n ∧ dvP b i n ≤ hi
theorem p10_4 {j : Nat} (h : j ≤ 4) : (10 : Int) ^ j ≤ 10000 := by
  match j, h with
  | 0, _ => decide
  | 1, _ => decide
  | 2, _ => decide
  | 3, _ => decide
  | 4, _ => decide

set_option maxHeartbeats 2000000 in
theorem digits_any (w : World) (p g : Nat) (a : Option Addr) (c : Nat) (xs : List Int) (i n : Nat) (lo hi : Int) (hC : Cur w p (.slice a xs.length c) (i : Int)) (hr : Rd w g a .u8 xs) (hb : Byt xs) (hg : 0 < xs.length → g ≠ p) (hl : xs.length ≤ 1048576) (hi0 : i ≤ xs.length) (hn : n ≤ 4) :
    Calls Tryd.prog 37 #[.pointer (some ⟨p, 0, none⟩), .int .i64 (n : Int), .int .i64 lo, .int .i64 hi] w fun e w' => ((DgB xs i n lo hi ∧ e = .returned (.int .i64 (dvP xs i n)) ∧ Cur w' p (.slice a xs.length c) ((i + n : Nat) : Int)) ∨ (¬ DgB xs i n lo hi ∧ Pan e)) ∧ Only p w w' := by
  have DV : Hid (DgA xs i n → dvP xs i n = dvK (xs.drop i) n) := fun d => d.dv
  have BD : Hid (∀ j, j ≤ n → DgA xs i j → 0 ≤ dvK (xs.drop i) j ∧ dvK (xs.drop i) j < 10000) := fun j hj d => by
    have := d.bd j (Nat.le_refl _)
    have := p10_4 (show j ≤ 4 by omega)
    omega
  have ST : Hid (∀ j, dvK (xs.drop i) (j + 1) = 10 * dvK (xs.drop i) j + (xs.getD (i + j) 0 - 48)) := fun j => by
    show dvK (xs.drop i) j * 10 + ((xs.drop i).getD j 0 - 48) = _
    rw [drop_getD]
    omega
  have F0 : dvK (xs.drop i) 0 = 0 := rfl
  generalize dvK (xs.drop i) = f at *
  have F0 := hide F0
  have HN := hide hn
  have HI := hide hi0
  have HL := hide hl
  clear hn hi0 hl
  go_enter Tryd.func37, Tryd.ntmps37
  go_wp2
  go_loopw [9, 12] (fun u v wr => ∃ j : Nat, j ≤ n ∧ v = .int .i64 (j : Int) ∧ u = .int .i64 (f j) ∧ Hid (DgA xs i j) ∧ Cur wr p (.slice a xs.length c) ((i + j : Nat) : Int) ∧ Only p w wr) (fun _ v _ => n - (intOf v).toNat)
  case atStart => exact ⟨0, Nat.zero_le _, rfl, by rw [F0.out], ⟨HI.out, fun j h => absurd h (by omega)⟩, hC, Only.refl _ _⟩
  case round =>
    obtain ⟨j, hj, rfl, rfl, hD, Cj, Oj⟩ := hrel
    by_cases hlt : j < n
    · have t1 : decide ((j : Int) < (n : Int)) = true := by simp; omega
      have TK := hide (take_any wr p g a c xs (i + j) Cj (hr.only Oj hg) (by have := HL.out; omega))
      have st := hide (ST.out j)
      have bd := BD.out j hj hD.out
      have j4 : j < 4 := by have := HN.out; omega
      have bx := hb (i + j)
      have d1 := hide (fun h2 h3 h1 => hD.out.step (j := j) h1 h2 h3)
      have d2 := hide (fun h => DgA.not2 (b := xs) (i := i) hlt h)
      generalize xs.getD (i + j) 0 = x at *
      go_wp2_with fail
      refine TK.out.mono ?_
      rintro r w1 ⟨⟨h1, rfl, C1⟩ | ⟨h1, t, v, rfl⟩, O1⟩
      · have H1 := hide h1
        clear h1 TK Cj
        have OO := Oj.trans O1
        by_cases g1 : x < 48
        · have t2 : decide (x < 48) = true := by simp; omega
          go_wp2
          exact ⟨rfl, .inr ⟨fun d => d2.out (.inl g1) d.1, _, _, rfl⟩, OO⟩
        · have t2 : decide (x < 48) = false := by simp; omega
          by_cases g2 : 57 < x
          · have t3 : decide (57 < x) = true := by simp; omega
            go_wp2
            exact ⟨rfl, .inr ⟨fun d => d2.out (.inr g2) d.1, _, _, rfl⟩, OO⟩
          · have t3 : decide (57 < x) = false := by simp; omega
            have D1 := hide (d1.out (by omega) (by omega) H1.out)
            go_wp2
            go_roundw
            case rel => exact ⟨j + 1, by omega, by simp, by rw [st.out], D1, C1, OO⟩
            case measure => show n - (intOf (.int .i64 ((j : Int) + 1))).toNat < n - (intOf (.int .i64 (j : Int))).toNat; simp [intOf]; omega
      · have N1 := hide (DgA.not1 (b := xs) (i := i) hlt h1)
        clear TK h1
        go_wp2
        exact ⟨rfl, .inr ⟨fun d => N1.out d.1, t, v, rfl⟩, Oj.trans O1⟩
    · obtain rfl : j = n := by omega
      have t1 : decide ((j : Int) < (j : Int)) = false := by simp
      have dv := hide (DV.out hD.out)
      by_cases g1 : f j < lo
      · have t2 : decide (f j < lo) = true := by simp; omega
        go_wp2
        exact ⟨rfl, .inr ⟨fun d => by have := d.2.1; rw [dv.out] at this; omega, _, _, rfl⟩, Oj⟩
      · have t2 : decide (f j < lo) = false := by simp; omega
        by_cases g2 : hi < f j
        · have t3 : decide (hi < f j) = true := by simp; omega
          go_wp2
          exact ⟨rfl, .inr ⟨fun d => by have := d.2.2; rw [dv.out] at this; omega, _, _, rfl⟩, Oj⟩
        · have t3 : decide (hi < f j) = false := by simp; omega
          go_wp2
          go_ret
          exact ⟨.inl ⟨⟨hD.out, by rw [dv.out]; omega, by rw [dv.out]; omega⟩, by rw [dv.out]; rfl, Cj⟩, Oj⟩
end Go.Proofs.YtakcpkfofgiehaaDoor
