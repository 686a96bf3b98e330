import Derived.Test.YtkpomobhjkikeaaGreatDoorSS6
namespace Go.Proofs.YtkpomobhjkikeaaGreatDoor
set_option maxRecDepth 100000
def SubTo (xs us ys : List Int) (i : Nat) (c : Int) : Prop :=
  ys.length = xs.length ∧ Byt ys ∧ (0 ≤ c ∧ c ≤ 1) ∧ lo ys i + lo us i = lo xs i + c * 256 ^ i
theorem SubTo.step {xs us ys : List Int} {i : Nat} {c : Int} (h : SubTo xs us ys i c) (hi : i < xs.length) (v c' : Int) (hv : v = dig xs i - dig us i - c + 256 * c') (h0 : 0 ≤ v) (h1 : v < 256) (hc' : 0 ≤ c' ∧ c' ≤ 1) :
    SubTo xs us (ys.set (xs.length - 1 - i) v) (i + 1) c' := by
  obtain ⟨h2, h3, h4, h5⟩ := h
  refine ⟨by simpa using h2, byt_set h3 _ _ h0 h1, hc', ?_⟩
  rw [← h2, lo_set ys i _ (by omega), lo, lo, Int.pow_succ]
  have e : v * 256 ^ i + dig us i * 256 ^ i + c * 256 ^ i = dig xs i * 256 ^ i + c' * (256 ^ i * 256) := by
    rw [hv, ← Int.add_mul, ← Int.add_mul, Int.mul_comm (256 ^ i) 256, ← Int.mul_assoc, ← Int.add_mul]
    congr 1
    omega
  omega
theorem SubTo.done {xs us ys : List Int} {c : Int} (h : SubTo xs us ys xs.length c) (hu : us.length ≤ xs.length) (hle : bval us ≤ bval xs) : bval ys = bval xs - bval us := by
  obtain ⟨h1, h2, h3, h4⟩ := h
  have hb := (lo_bd h2 xs.length).2
  rw [lo_all ys _ (by omega), lo_all xs _ (Nat.le_refl _), lo_all us _ hu] at h4
  rw [lo_all ys _ (by omega)] at hb
  rcases (show c = 0 ∨ c = 1 by omega) with rfl | rfl
  · omega
  · omega
def TakeTo (zs ms ys : List Int) (T : Int) (i : Nat) (b c : Int) : Prop :=
  ys.length = zs.length ∧ Lmb ys ∧ (0 ≤ b ∧ b ≤ 1) ∧ (0 ≤ c ∧ c < 4294967296) ∧ llo ys i + T * llo ms i = llo zs i + (b + c) * 4294967296 ^ i ∧ ∀ j, i ≤ j → ys.getD j 0 = zs.getD j 0
theorem TakeTo.zero {zs : List Int} (ms : List Int) (T : Int) (h : Lmb zs) : TakeTo zs ms zs T 0 0 0 := ⟨rfl, h, ⟨by omega, by omega⟩, ⟨by omega, by omega⟩, by simp [llo], fun _ _ => rfl⟩
theorem TakeTo.step {zs ms ys : List Int} {T : Int} {i : Nat} {b c : Int} (h : TakeTo zs ms ys T i b c) (hi : i < zs.length) (y b' c' l : Int) (h1 : c + T * ms.getD i 0 = c' * 4294967296 + l) (h2 : y = zs.getD i 0 - l - b + b' * 4294967296)
    (y0 : 0 ≤ y) (y1 : y < 4294967296) (hb : 0 ≤ b' ∧ b' ≤ 1) (hc : 0 ≤ c' ∧ c' < 4294967296) : TakeTo zs ms (ys.set i y) T (i + 1) b' c' := by
  obtain ⟨e1, e2, e3, e4, e5, e6⟩ := h
  refine ⟨by simpa using e1, lmb_set e2 _ _ y0 y1, hb, hc, ?_, fun j hj => by rw [getD_set_ne _ _ _ _ (by omega)]; exact e6 j (by omega)⟩
  rw [llo_set ys i _ (by omega), llo, llo, Int.pow_succ, Int.mul_add, ← Int.mul_assoc T]
  have e : y * 4294967296 ^ i + T * ms.getD i 0 * 4294967296 ^ i + (b + c) * 4294967296 ^ i = zs.getD i 0 * 4294967296 ^ i + (b' + c') * (4294967296 ^ i * 4294967296) := by
    rw [Int.mul_comm (4294967296 ^ i) 4294967296, ← Int.mul_assoc, ← Int.add_mul, ← Int.add_mul, ← Int.add_mul]
    congr 1
    omega
  omega
theorem TakeTo.done {zs ms ys : List Int} {T : Int} {b c : Int} (h : TakeTo zs ms ys T zs.length b c) (hm : ms.length ≤ zs.length) : lval ys + T * lval ms = lval zs + (b + c) * 4294967296 ^ zs.length := by
  obtain ⟨h1, h2, h3, h4, h5, h6⟩ := h
  rw [llo_all ys _ (by omega), llo_all zs _ (Nat.le_refl _), llo_all ms _ hm] at h5
  exact h5
end Go.Proofs.YtkpomobhjkikeaaGreatDoor
