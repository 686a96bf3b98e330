import Derived.Test.YtkpomobhjkikeaaGreatDoorSS13
namespace Go.Proofs.YtkpomobhjkikeaaGreatDoor
set_option maxRecDepth 100000
abbrev PO : Int := 1361129467683753853853498429727072845819
def kr (c : Int) (u : Nat → Int) : Nat → Int
  | 0 => c
  | k + 1 => (kr c u k + u k) / 67108864
def kf (c : Int) (u : Nat → Int) (k : Nat) : Int := (kr c u k + u k) % 67108864
def kv (u : Nat → Int) : Nat → Int
  | 0 => 0
  | k + 1 => kv u k + u k * 67108864 ^ k
theorem kr_sum (c : Int) (u : Nat → Int) : ∀ k, kv (kf c u) k + kr c u k * 67108864 ^ k = c + kv u k
  | 0 => by simp [kv, kr]
  | k + 1 => by
    have ih := kr_sum c u k
    have h : kr c u k + u k = kf c u k + 67108864 * kr c u (k + 1) := by
      rw [kf, kr]; omega
    have h2 : (kr c u k + u k) * 67108864 ^ k = (kf c u k + 67108864 * kr c u (k + 1)) * 67108864 ^ k := by rw [h]
    rw [Int.add_mul, Int.add_mul] at h2
    rw [kv, kv, Int.pow_succ]
    have h3 : kr c u (k + 1) * (67108864 ^ k * 67108864) = 67108864 * kr c u (k + 1) * 67108864 ^ k := by
      rw [Int.mul_comm (67108864 ^ k) 67108864, ← Int.mul_assoc, Int.mul_comm (kr c u (k + 1))]
    rw [h3]
    omega
theorem kv_congr {u v : Nat → Int} : ∀ k, (∀ j, j < k → u j = v j) → kv u k = kv v k
  | 0, _ => rfl
  | k + 1, h => by rw [kv, kv, kv_congr k (fun j hj => h j (by omega)), h k (by omega)]
theorem kf_bd (c : Int) (u : Nat → Int) (k : Nat) : 0 ≤ kf c u k ∧ kf c u k < 67108864 := by
  unfold kf; omega
theorem kr_bd {c : Int} {u : Nat → Int} {M : Int} (hc : 0 ≤ c) (hcM : c ≤ M) (hM : 0 ≤ M) (hu : ∀ j, 0 ≤ u j ∧ u j ≤ 67108863 * M) : ∀ k, 0 ≤ kr c u k ∧ kr c u k ≤ M
  | 0 => ⟨hc, hcM⟩
  | k + 1 => by
    have ih := kr_bd hc hcM hM hu k
    have := hu k
    rw [kr]
    omega
def Km (u : Nat → Int) : Prop := ∀ j, j < 5 → 0 ≤ u j ∧ u j < 67108864
theorem Km.bd {u : Nat → Int} (h : Km u) : 0 ≤ kv u 5 ∧ kv u 5 < 1361129467683753853853498429727072845824 := by
  have h0 := h 0 (by omega); have h1 := h 1 (by omega); have h2 := h 2 (by omega); have h3 := h 3 (by omega); have h4 := h 4 (by omega)
  simp only [kv]
  omega
def kt1 (u : Nat → Int) (j : Nat) : Int := if j = 0 then kf 0 u 0 + 5 * kr 0 u 5 else kf 0 u j
def ktl (u : Nat → Int) : Nat → Int := kf (5 * kr 5 (kt1 u) 5) (kt1 u)
theorem kt1_val (u : Nat → Int) : kv (kt1 u) 5 = kv (kf 0 u) 5 + 5 * kr 0 u 5 := by
  simp [kv, kt1]; omega
theorem ktl_ok {u : Nat → Int} (hu : ∀ j, 0 ≤ u j ∧ u j < 1073741824) : Km (ktl u) ∧ kv (ktl u) 5 = kv u 5 % PO := by
  refine ⟨fun j _ => kf_bd _ _ _, ?_⟩
  have h1 := kr_sum 0 u 5
  have b1 := kr_bd (c := 0) (u := u) (M := 17) (by omega) (by omega) (by omega) (fun j => by have := hu j; omega) 5
  have L1 := Km.bd (u := kf 0 u) (fun j _ => kf_bd _ _ _)
  have hv := kt1_val u
  have b2 : ∀ j, 0 ≤ kt1 u j ∧ kt1 u j ≤ 67108948 := fun j => by
    have := kf_bd 0 u j
    have := kf_bd 0 u 0
    unfold kt1
    split <;> omega
  have h2 := kr_sum 5 (kt1 u) 5
  have L2 := Km.bd (u := kf 5 (kt1 u)) (fun j _ => kf_bd _ _ _)
  have h3 := kr_sum (5 * kr 5 (kt1 u) 5) (kt1 u) 5
  have L3 := Km.bd (u := kf (5 * kr 5 (kt1 u) 5) (kt1 u)) (fun j _ => kf_bd _ _ _)
  have e3 : kv (ktl u) 5 = kv (kf (5 * kr 5 (kt1 u) 5) (kt1 u)) 5 := rfl
  rw [e3]
  generalize kv (kf 0 u) 5 = A at *
  generalize kr 0 u 5 = c at *
  generalize kv (kt1 u) 5 = V at *
  generalize kv (kf 5 (kt1 u)) 5 = B at *
  generalize kr 5 (kt1 u) 5 = r at *
  generalize kv (kf (5 * r) (kt1 u)) 5 = E at *
  generalize kr (5 * r) (kt1 u) 5 = d at *
  generalize kv u 5 = U at *
  show E = U % 1361129467683753853853498429727072845819
  have hr : r = 0 ∨ r = 1 := by omega
  have hd : d = r := by omega
  omega
def rn5 (f : Nat → Int) (j : Nat) : Int := if j < 4 then 5 * f (j + 1) else f (j - 4)
def kol (e f : Nat → Int) (k : Nat) : Nat → Int
  | 0 => 0
  | i + 1 => kol e f k i + e i * rn5 f (4 + k - i)
theorem kol_mod (e f : Nat → Int) : ∃ q, kv (fun k => kol e f k 5) 5 + PO * q = kv e 5 * kv f 5 := by
  refine ⟨e 1 * f 4 + e 2 * f 3 + e 3 * f 2 + e 4 * f 1 + 67108864 * (e 2 * f 4 + e 3 * f 3 + e 4 * f 2) + 67108864 ^ 2 * (e 3 * f 4 + e 4 * f 3) + 67108864 ^ 3 * (e 4 * f 4), ?_⟩
  simp only [kv, kol, rn5]
  simp
  generalize e 0 = e0, e 1 = e1, e 2 = e2, e 3 = e3, e 4 = e4, f 0 = f0, f 1 = f1, f 2 = f2, f 3 = f3, f 4 = f4
  grind
def Kw (u : Nat → Int) : Prop := ∀ j, j < 5 → 0 ≤ u j ∧ u j ≤ 268435456
def KpP (u : Nat → Int) : Prop := ∀ j, j < 5 → 0 ≤ u j ∧ u j ≤ 67109376
theorem rn5_bd {f : Nat → Int} (h : Km f) (j : Nat) (hj : j < 9) : 0 ≤ rn5 f j ∧ rn5 f j ≤ 335544320 := by
  unfold rn5
  split
  · have := h (j + 1) (by omega); omega
  · have := h (j - 4) (by omega); omega
theorem mulk_bd {a b A B : Int} (ha : 0 ≤ a ∧ a ≤ A) (hb : 0 ≤ b ∧ b ≤ B) : 0 ≤ a * b ∧ a * b ≤ A * B :=
  ⟨Int.mul_nonneg ha.1 hb.1, Int.mul_le_mul ha.2 hb.2 hb.1 (by omega)⟩
theorem kol_bd {e f : Nat → Int} (he : Kw e) (hf : Km f) (k : Nat) (hk : k < 5) : ∀ i, i ≤ 5 → 0 ≤ kol e f k i ∧ kol e f k i ≤ i * 90071992547409920
  | 0, _ => by simp [kol]
  | i + 1, h => by
    have ih := kol_bd he hf k hk i (by omega)
    have h1 := he i (by omega)
    have := mulk_bd (A := 268435456) ⟨h1.1, by omega⟩ (rn5_bd hf (4 + k - i) (by omega))
    rw [kol]
    omega
def kols (e f : Nat → Int) (k : Nat) : Int := if k < 5 then kol e f k 5 else 0
theorem kols_bd {e f : Nat → Int} (he : Kw e) (hf : Km f) (k : Nat) : 0 ≤ kols e f k ∧ kols e f k ≤ 450359962737049600 := by
  unfold kols
  split
  · have := kol_bd he hf k (by omega) 5 (by omega); omega
  · omega
theorem kols_kr {e f : Nat → Int} (he : Kw e) (hf : Km f) (k : Nat) : 0 ≤ kr 0 (kols e f) k ∧ kr 0 (kols e f) k ≤ 6710886502 :=
  kr_bd (M := 6710886502) (by omega) (by omega) (by omega) (fun j => by have := kols_bd he hf j; omega) k
def kcm (e f : Nat → Int) : Int := kf 0 (kols e f) 0 + 5 * kr 0 (kols e f) 5
def kmu (e f : Nat → Int) : Nat → Int
  | 0 => kcm e f % 67108864
  | 1 => kf 0 (kols e f) 1 + kcm e f / 67108864
  | j + 2 => kf 0 (kols e f) (j + 2)
theorem kcm_bd {e f : Nat → Int} (he : Kw e) (hf : Km f) : 0 ≤ kcm e f ∧ kcm e f ≤ 33621541373 := by
  have := kols_kr he hf 5
  have := kf_bd 0 (kols e f) 0
  unfold kcm
  omega
theorem kmu_ok {e f : Nat → Int} (he : Kw e) (hf : Km f) : KpP (kmu e f) ∧ kv (kmu e f) 5 % PO = kv e 5 * kv f 5 % PO := by
  have hc := kcm_bd he hf
  refine ⟨fun j hj => ?_, ?_⟩
  · have := kf_bd 0 (kols e f) j
    obtain rfl | rfl | rfl | rfl | rfl : j = 0 ∨ j = 1 ∨ j = 2 ∨ j = 3 ∨ j = 4 := by omega
    all_goals simp only [kmu, Nat.reduceAdd]; omega
  · obtain ⟨q, hq⟩ := kol_mod e f
    have h1 := kr_sum 0 (kols e f) 5
    have h2 : kv (kols e f) 5 = kv (fun k => kol e f k 5) 5 := kv_congr 5 (fun j hj => by simp [kols, hj])
    have h3 : kv (kmu e f) 5 = kv (kf 0 (kols e f)) 5 + 5 * kr 0 (kols e f) 5 := by
      simp only [kv, kmu, kcm, Nat.reduceAdd]
      omega
    rw [← hq, h3]
    rw [h2] at h1
    generalize kv (fun k => kol e f k 5) 5 = U at *
    generalize kv (kf 0 (kols e f)) 5 = A at *
    generalize kr 0 (kols e f) 5 = c at *
    have h4 : A + 5 * c = U + 1361129467683753853853498429727072845819 * (-c) := by omega
    rw [h4]
    show (U + 1361129467683753853853498429727072845819 * (-c)) % 1361129467683753853853498429727072845819 = (U + 1361129467683753853853498429727072845819 * q) % 1361129467683753853853498429727072845819
    rw [Int.add_mul_emod_self_left, Int.add_mul_emod_self_left]
def kad (e f : Nat → Int) (j : Nat) : Int := e j + f j
theorem kad_ok {e f : Nat → Int} (he : KpP e) (hf : Km f) : Kw (kad e f) ∧ kv (kad e f) 5 = kv e 5 + kv f 5 := by
  refine ⟨fun j hj => ?_, ?_⟩
  · have := he j hj; have := hf j hj; unfold kad; omega
  · simp only [kv, kad]; omega
def l4 (b : Nat → Int) (o : Nat) : Int := b o + b (o + 1) * 256 + b (o + 2) * 65536 + b (o + 3) * 16777216
def knm (b : Nat → Int) : Nat → Int
  | 0 => l4 b 0 % 67108864
  | 1 => l4 b 3 / 4 % 67108864
  | 2 => l4 b 6 / 16 % 67108864
  | 3 => l4 b 9 / 64 % 67108864
  | 4 => l4 b 13 % 67108864
  | _ => 0
theorem knm_ok {b : Nat → Int} (h : Bt b) (h16 : b 16 < 4) : Km (knm b) ∧ kv (knm b) 5 = lsum b 17 := by
  refine ⟨fun j hj => ?_, ?_⟩
  · obtain rfl | rfl | rfl | rfl | rfl : j = 0 ∨ j = 1 ∨ j = 2 ∨ j = 3 ∨ j = 4 := by omega
    all_goals simp only [knm]; omega
  · have h0 := h 0; have h1 := h 1; have h2 := h 2; have h3 := h 3; have h4 := h 4; have h5 := h 5; have h6 := h 6; have h7 := h 7; have h8 := h 8; have h9 := h 9; have h10 := h 10; have h11 := h 11; have h12 := h 12; have h13 := h 13; have h14 := h 14; have h15 := h 15; have h16' := h 16
    have e0 : knm b 0 = b 0 + b 1 * 256 + b 2 * 65536 + b 3 % 4 * 16777216 := by simp only [knm, l4, Nat.reduceAdd]; omega
    have e1 : knm b 1 = b 3 / 4 + b 4 * 64 + b 5 * 16384 + b 6 % 16 * 4194304 := by simp only [knm, l4, Nat.reduceAdd]; omega
    have e2 : knm b 2 = b 6 / 16 + b 7 * 16 + b 8 * 4096 + b 9 % 64 * 1048576 := by simp only [knm, l4, Nat.reduceAdd]; omega
    have e3 : knm b 3 = b 9 / 64 + b 10 * 4 + b 11 * 1024 + b 12 * 262144 := by simp only [knm, l4, Nat.reduceAdd]; omega
    have e4 : knm b 4 = b 13 + b 14 * 256 + b 15 * 65536 + b 16 * 16777216 := by simp only [knm, l4, Nat.reduceAdd]; omega
    simp only [kv, lsum, e0, e1, e2, e3, e4]
    have d3 : b 3 = b 3 / 4 * 4 + b 3 % 4 := by omega
    have d6 : b 6 = b 6 / 16 * 16 + b 6 % 16 := by omega
    have d9 : b 9 = b 9 / 64 * 64 + b 9 % 64 := by omega
    generalize b 3 / 4 = x3 at *
    generalize b 3 % 4 = y3 at *
    generalize b 6 / 16 = x6 at *
    generalize b 6 % 16 = y6 at *
    generalize b 9 / 64 = x9 at *
    generalize b 9 % 64 = y9 at *
    rw [d3, d6, d9]
    clear h0 h1 h2 h3 h4 h5 h6 h7 h8 h9 h10 h11 h12 h13 h14 h15 h16' h16 e0 e1 e2 e3 e4 d3 d6 d9
    omega
def klo (u : Nat → Int) : Int := u 0 + u 1 * 67108864 + u 2 * 4503599627370496 % 18446744073709551616
def khi (u : Nat → Int) : Int := u 2 / 4096 + u 3 * 16384 + u 4 * 1099511627776 % 18446744073709551616
theorem klo_bd {u : Nat → Int} (h : Km u) : 0 ≤ klo u ∧ klo u < 18446744073709551616 := by
  have h0 := h 0 (by omega); have h1 := h 1 (by omega); have h2 := h 2 (by omega)
  unfold klo
  omega
theorem khi_bd {u : Nat → Int} (h : Km u) : 0 ≤ khi u ∧ khi u < 18446744073709551616 := by
  have h2 := h 2 (by omega); have h3 := h 3 (by omega); have h4 := h 4 (by omega)
  unfold khi
  omega
theorem words_kv {u : Nat → Int} (h : Km u) : (klo u + khi u * 18446744073709551616) % 340282366920938463463374607431768211456 = kv u 5 % 340282366920938463463374607431768211456 := by
  have h0 := h 0 (by omega); have h1 := h 1 (by omega); have h2 := h 2 (by omega); have h3 := h 3 (by omega); have h4 := h 4 (by omega)
  simp only [klo, khi, kv]
  generalize u 0 = a at *
  generalize u 1 = b at *
  generalize u 2 = c at *
  generalize u 3 = d at *
  generalize u 4 = e at *
  have c2 : c * 4503599627370496 % 18446744073709551616 = c % 4096 * 4503599627370496 := by omega
  have e2 : e * 1099511627776 % 18446744073709551616 = e % 16777216 * 1099511627776 := by omega
  rw [c2, e2]
  omega
def slo (u : Nat → Int) (l : Int) : Int := (l + klo u) % 18446744073709551616
def shi (u : Nat → Int) (l h : Int) : Int := (h + khi u + (l + klo u) / 18446744073709551616) % 18446744073709551616
theorem sum_ok {u : Nat → Int} (hu : Km u) (l h : Int) : slo u l + shi u l h * 18446744073709551616 = (kv u 5 + (l + h * 18446744073709551616)) % 340282366920938463463374607431768211456 := by
  have := words_kv hu
  unfold slo shi
  generalize klo u = a at *
  generalize khi u = b at *
  generalize kv u 5 = v at *
  omega
def b16 (lo hi : Int) (i : Nat) : Int := if i < 8 then lo / 256 ^ i % 256 else hi / 256 ^ (i - 8) % 256
theorem b16_ok (lo hi : Int) (l0 : 0 ≤ lo) (l1 : lo < 18446744073709551616) (i : Nat) (h : i < 16) : b16 lo hi i = byt (lo + hi * 18446744073709551616) i := by
  unfold b16 byt
  rcases (show i = 0 ∨ i = 1 ∨ i = 2 ∨ i = 3 ∨ i = 4 ∨ i = 5 ∨ i = 6 ∨ i = 7 ∨ i = 8 ∨ i = 9 ∨ i = 10 ∨ i = 11 ∨ i = 12 ∨ i = 13 ∨ i = 14 ∨ i = 15 by omega) with e | e | e | e | e | e | e | e | e | e | e | e | e | e | e | e
  all_goals
    subst e
    simp
    omega
theorem byt_mod (v : Int) (i : Nat) (h : i < 16) : byt (v % 340282366920938463463374607431768211456) i = byt v i := by
  unfold byt
  rcases (show i = 0 ∨ i = 1 ∨ i = 2 ∨ i = 3 ∨ i = 4 ∨ i = 5 ∨ i = 6 ∨ i = 7 ∨ i = 8 ∨ i = 9 ∨ i = 10 ∨ i = 11 ∨ i = 12 ∨ i = 13 ∨ i = 14 ∨ i = 15 by omega) with e | e | e | e | e | e | e | e | e | e | e | e | e | e | e | e
  all_goals
    subst e
    simp
    try omega
end Go.Proofs.YtkpomobhjkikeaaGreatDoor
