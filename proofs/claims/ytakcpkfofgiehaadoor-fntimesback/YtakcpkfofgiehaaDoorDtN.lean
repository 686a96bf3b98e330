
/-
  Texts that are times: numbers alone.
-/
import Derived.Test.YtakcpkfofgiehaaDoorTmN
namespace Go.Proofs.YtakcpkfofgiehaaDoor
set_option maxRecDepth 100000

/-- The number of n digits from place i on. -/
def dvP (b : List Int) (i n : Nat) : Int := dv ((b.drop i).take n)
/-- A text is a time; which one. -/
def GT (b : List Int) : Prop := b.length = 15 ∧ Dgt (b.take 14) ∧ (1970 ≤ dvP b 0 4 ∧ dvP b 0 4 ≤ 9999) ∧ (1 ≤ dvP b 4 2 ∧ dvP b 4 2 ≤ 12) ∧ (1 ≤ dvP b 6 2 ∧ dvP b 6 2 ≤ mdI (dvP b 0 4) (dvP b 4 2)) ∧ dvP b 8 2 ≤ 23 ∧ dvP b 10 2 ≤ 59 ∧ dvP b 12 2 ≤ 59 ∧ b.getD 14 0 = 90
def TV (b : List Int) : Int := (dyA (dvP b 0 4) + mdS (dvP b 0 4) (dvP b 4 2 - 1).toNat + (dvP b 6 2 - 1)) * 86400 + dvP b 8 2 * 3600 + dvP b 10 2 * 60 + dvP b 12 2
theorem list15 (b : List Int) (h : b.length = 15) : ∃ c0 c1 c2 c3 c4 c5 c6 c7 c8 c9 c10 c11 c12 c13 c14, b = [c0, c1, c2, c3, c4, c5, c6, c7, c8, c9, c10, c11, c12, c13, c14] := by
  match b, h with
  | [c0, c1, c2, c3, c4, c5, c6, c7, c8, c9, c10, c11, c12, c13, c14], _ => exact ⟨_, _, _, _, _, _, _, _, _, _, _, _, _, _, _, rfl⟩
theorem dv14 (b : List Int) (h : b.length = 15) : dv (b.take 14) = ((((dvP b 0 4 * 100 + dvP b 4 2) * 100 + dvP b 6 2) * 100 + dvP b 8 2) * 100 + dvP b 10 2) * 100 + dvP b 12 2 := by
  obtain ⟨c0, c1, c2, c3, c4, c5, c6, c7, c8, c9, c10, c11, c12, c13, c14, rfl⟩ := list15 b h
  simp [dvP, dv, dvK]
  omega
theorem dgt_part {b : List Int} (h : Dgt (b.take 14)) (hl : 14 ≤ b.length) (i n : Nat) (hn : i + n ≤ 14) : Dgt ((b.drop i).take n) := fun j hj => by
  rw [List.length_take, List.length_drop] at hj
  have hj' : j < n := by omega
  have := h (i + j) (by rw [List.length_take]; omega)
  rw [List.getD_eq_getElem?_getD, List.getElem?_take, if_pos (by omega)] at this
  rw [List.getD_eq_getElem?_getD, List.getElem?_take, if_pos hj', List.getElem?_drop]
  exact this
theorem dvP_bd {b : List Int} {i n : Nat} (h : Dgt ((b.drop i).take n)) (hl : i + n ≤ b.length) : 0 ≤ dvP b i n ∧ dvP b i n < 10 ^ n := by
  have := dvK_bd h ((b.drop i).take n).length (Nat.le_refl _)
  have e : ((b.drop i).take n).length = n := by rw [List.length_take, List.length_drop]; omega
  rw [e] at this
  unfold dvP dv
  rw [e]
  exact this
theorem take14 (b : List Int) (h : b.length = 15) : b = b.take 14 ++ [b.getD 14 0] := by
  obtain ⟨c0, c1, c2, c3, c4, c5, c6, c7, c8, c9, c10, c11, c12, c13, c14, rfl⟩ := list15 b h
  rfl
theorem md_pos (y m : Int) : mdI y m ≤ 31 := (mdI_bd y m).2
/-- The model's way: a text is what its time is told by. -/
theorem gt_iff {b L : List Int} (h15 : b.length = 15) (hD : Dgt (b.take 14)) (hy : 1970 ≤ dvP b 0 4) (hm : 1 ≤ dvP b 4 2 ∧ dvP b 4 2 ≤ 12) (hL : EtIs (TV b) L) : L = b ↔ GT b := by
  have e14 := dv14 b h15
  have t14 : (b.take 14).length = 14 := by rw [List.length_take, h15]; rfl
  have b0 := dvP_bd (dgt_part hD (by omega) 0 4 (by omega)) (by omega)
  have b4 := dvP_bd (dgt_part hD (by omega) 4 2 (by omega)) (by omega)
  have b6 := dvP_bd (dgt_part hD (by omega) 6 2 (by omega)) (by omega)
  have b8 := dvP_bd (dgt_part hD (by omega) 8 2 (by omega)) (by omega)
  have b10 := dvP_bd (dgt_part hD (by omega) 10 2 (by omega)) (by omega)
  have b12 := dvP_bd (dgt_part hD (by omega) 12 2 (by omega)) (by omega)
  constructor
  · intro e
    rcases hL with ⟨ht, y, k, x, hd, rfl⟩ | ⟨_, rfl⟩
    · have y9 := hd.year_le ht.2
      obtain ⟨y0, hk, x0, x1, -⟩ := hd
      have mb := md_pos y (k + 1)
      generalize hs : TV b % 86400 = s at *
      have s0 : 0 ≤ s ∧ s < 86400 := by omega
      have hN : 0 ≤ pts y k x s ∧ pts y k x s < 10 ^ 14 := by unfold pts; omega
      have ht14 : b.take 14 = dgs 14 (pts y k x s) := by
        rw [← e, List.take_append_of_le_length (by rw [dgs_len]; exact Nat.le_refl _), List.take_of_length_le (by rw [dgs_len]; exact Nat.le_refl _)]
      have h90 : b.getD 14 0 = 90 := by rw [← e, getD_app_r _ _ _ (by rw [dgs_len]; exact Nat.le_refl _), dgs_len]; rfl
      have hdv : dv (b.take 14) = pts y k x s := by rw [ht14]; exact dv_dgs hN.1 hN.2
      rw [e14] at hdv
      unfold pts at hdv
      have eY : dvP b 0 4 = y := by omega
      have eM : dvP b 4 2 = k + 1 := by omega
      have eD : dvP b 6 2 = x + 1 := by omega
      refine ⟨h15, hD, by omega, hm, ?_, by omega, by omega, by omega, h90⟩
      rw [eY, eM, eD]
      omega
    · rw [← e] at h15
      simp at h15
  · intro g
    obtain ⟨_, _, gy, gm, gd, gh, gi, gs, g90⟩ := g
    have md := md_pos (dvP b 0 4) (dvP b 4 2)
    have e1 : ((dvP b 4 2 - 1).toNat : Int) + 1 = dvP b 4 2 := by omega
    have hd : IsDay (dyA (dvP b 0 4) + mdS (dvP b 0 4) (dvP b 4 2 - 1).toNat + (dvP b 6 2 - 1)) (dvP b 0 4) (dvP b 4 2 - 1).toNat (dvP b 6 2 - 1) := ⟨gy.1, by omega, by omega, by rw [e1]; omega, rfl⟩
    have hyr := hd.year
    have h10 := dyA_mono (show dvP b 0 4 + 1 ≤ 10000 by omega)
    have hge := dyA_ge (dvP b 0 4) gy.1
    have h10k : dyA 10000 = 2932897 := by decide
    obtain ⟨dd, hdd⟩ : ∃ dd, dd = dyA (dvP b 0 4) + mdS (dvP b 0 4) (dvP b 4 2 - 1).toNat + (dvP b 6 2 - 1) := ⟨_, rfl⟩
    have hTV : TV b = dd * 86400 + dvP b 8 2 * 3600 + dvP b 10 2 * 60 + dvP b 12 2 := by rw [hdd]; rfl
    rw [← hdd] at hd hyr
    have q1 : TV b / 86400 = dd := by omega
    have q2 : TV b % 86400 = dvP b 8 2 * 3600 + dvP b 10 2 * 60 + dvP b 12 2 := by omega
    have hE : EtIs (TV b) b := by
      refine .inl ⟨by omega, dvP b 0 4, (dvP b 4 2 - 1).toNat, dvP b 6 2 - 1, by rw [q1]; exact hd, ?_⟩
      have hp : pts (dvP b 0 4) (dvP b 4 2 - 1).toNat (dvP b 6 2 - 1) (TV b % 86400) = dv (b.take 14) := by
        rw [e14, q2]
        unfold pts
        omega
      rw [hp]
      have := dgs_dv hD
      rw [t14] at this
      rw [this, ← g90]
      exact take14 b h15
    exact hL.uniq hE
def gtD (b : List Int) : Decidable (GT b) := by unfold GT Dgt; infer_instance
def tmB (b : List Int) : Bool := @decide (GT b) (gtD b)
def tmV (b : List Int) : Int := if tmB b = true then TV b else 0
theorem tmB_yes {b : List Int} (h : GT b) : tmB b = true := @decide_eq_true _ (gtD b) h
theorem tmB_no {b : List Int} (h : ¬ GT b) : tmB b = false := @decide_eq_false _ (gtD b) h
end Go.Proofs.YtakcpkfofgiehaaDoor
