import Derived.Test.YteedfhljbdnmnaaGreatDoorGT42
import Derived.Test.YteedfhljbdnmnaaGreatDoorGT36
namespace Go.Proofs.YteedfhljbdnmnaaGreatDoor
set_option maxRecDepth 100000
section
variable {P d i x D X y v : Int}
theorem on_one (hD : D = d * (x - 1) ^ 2 + (x + 1) ^ 2) (hi : P ∣ i ^ 2 - (-1)) (hX : P ∣ X * D - 2 * i * v) (hy : P ∣ y * (x + 1) - (x - 1)) (hv : P ∣ v ^ 2 - x * D) : P ∣ ((-1) * X ^ 2 + y ^ 2 - 1 - d * X ^ 2 * y ^ 2) * ((x + 1) ^ 2 * D ^ 2) := by
  have S1 : P ∣ (X * D) ^ 2 + 4 * x * D := dv3 hX hi hv (c1 := X * D + 2 * i * v) (c2 := 4 * v ^ 2) (c3 := -4) (by grind)
  have S2 : P ∣ (y * (x + 1)) ^ 2 - (x - 1) ^ 2 := dv2 hy hy (c1 := y * (x + 1) + (x - 1)) (c2 := 0) (by grind)
  refine dv2 S1 S2 (c1 := -(x + 1) ^ 2 - d * (y * (x + 1)) ^ 2) (c2 := D ^ 2 + 4 * x * D * d) ?_
  subst hD
  grind
theorem on_two (hD : D = d * (x - 1) ^ 2 + (x + 1) ^ 2) (hi : P ∣ i ^ 2 - (-1)) (hX : P ∣ X * D - i * v) (hy : P ∣ y * (x - 1) - (x + 1)) (hv : P ∣ v ^ 2 - 2 * (x * D)) : P ∣ (2 * d * X ^ 2 + y ^ 2 - 1 - (-2) * X ^ 2 * y ^ 2) * ((x - 1) ^ 2 * D ^ 2) := by
  have S1 : P ∣ (X * D) ^ 2 + 2 * x * D := dv3 hX hi hv (c1 := X * D + i * v) (c2 := v ^ 2) (c3 := -1) (by grind)
  have S2 : P ∣ (y * (x - 1)) ^ 2 - (x + 1) ^ 2 := dv2 hy hy (c1 := y * (x - 1) + (x + 1)) (c2 := 0) (by grind)
  refine dv2 S1 S2 (c1 := 2 * d * (x - 1) ^ 2 + 2 * (y * (x - 1)) ^ 2) (c2 := D ^ 2 - 4 * x * D) ?_
  subst hD
  grind
theorem D_nz (hP : Pri P) (hd : NSq P d) (hi : P ∣ i ^ 2 - (-1)) (hD : D = d * (x - 1) ^ 2 + (x + 1) ^ 2) (hin : ¬ P ∣ i) : ¬ P ∣ D := fun h => by
  have k : P ∣ (x + 1) ^ 2 - d * (i * (x - 1)) ^ 2 := dv2 h hi (c1 := 1) (c2 := -(d * (x - 1) ^ 2)) (by subst hD; grind)
  have h1 : P ∣ x - 1 := (hP.mul (hd _ _ k)).resolve_left hin
  have h2 : P ∣ (x + 1) * (x + 1) := dv2 h h1 (c1 := 1) (c2 := -(d * (x - 1))) (by subst hD; grind)
  have h3 : P ∣ x + 1 := (hP.mul h2).elim id id
  exact hP.two (dv2 h3 h1 (c1 := 1) (c2 := -1) (by omega))
theorem x1_nz (hP : Pri P) (hd : NSq P d) (hi : P ∣ i ^ 2 - (-1)) (hD : D = d * (x - 1) ^ 2 + (x + 1) ^ 2) (hin : ¬ P ∣ i) (hv : P ∣ v ^ 2 - x * D) : ¬ P ∣ x + 1 := fun h => by
  have k : P ∣ v ^ 2 - d * (2 * i) ^ 2 := dv3 hv h hi (c1 := 1) (c2 := d * (x + 1) ^ 2 - 5 * d * (x + 1) + 8 * d + (x + 1) ^ 2 - (x + 1)) (c3 := -(4 * d)) (by subst hD; grind)
  exact nz_mul hP hP.two hin (hd _ _ k)
theorem x2_nz (hP : Pri P) (h2 : NSq P 2) (hD : D = d * (x - 1) ^ 2 + (x + 1) ^ 2) (hv : P ∣ v ^ 2 - 2 * (x * D)) : ¬ P ∣ x - 1 := fun h => by
  have k : P ∣ v ^ 2 - 2 * 2 ^ 2 := dv2 hv h (c1 := 1) (c2 := 2 * (d * (x - 1) ^ 2 + (x - 1) ^ 2 + 5 * (x - 1) + 8 + d * (x - 1))) (by subst hD; grind)
  exact hP.two (h2 _ _ k)
end
theorem point_of {x : Int} (hx : ¬ PP ∣ x) : (∃ p, OnP PP (-1) d0 p ∧ Rep PP 1 (x, 1) p.2) ∨ ∃ p, OnP PP (2 * d0) (-2) p ∧ Rep PP (-1) (x, 1) p.2 := by
  obtain ⟨D, hD⟩ : ∃ D, D = d0 * (x - 1) ^ 2 + (x + 1) ^ 2 := ⟨_, rfl⟩
  have nD := D_nz pri_PP nsqd i0_sq hD i0_nz
  have hf := einv_ok D nD
  have hi := i0_sq
  have hin := i0_nz
  have hd := nsqd
  have n1 := pri_PP.one
  rcases sq_or (nz_mul pri_PP hx nD) with ⟨v, hv⟩ | ⟨v, hv⟩
  · left
    have n := x1_nz pri_PP hd hi hD hin hv
    have he := einv_ok _ n
    refine ⟨(2 * i0 * v * einv D, (x - 1) * einv (x + 1)), ?_, ?_, fun h => n1 h.2⟩
    · generalize i0 = i at *
      generalize d0 = d at *
      generalize einv D = f at *
      generalize einv (x + 1) = e at *
      have hX : PP ∣ 2 * i * v * f * D - 2 * i * v := dv2 hf hf (c1 := 2 * i * v) (c2 := 0) (by grind)
      have hy : PP ∣ (x - 1) * e * (x + 1) - (x - 1) := dv2 he he (c1 := x - 1) (c2 := 0) (by grind)
      have G := on_one hD hi hX hy hv
      have nn : ¬ PP ∣ (x + 1) ^ 2 * D ^ 2 := nz_mul pri_PP (nz_pow pri_PP n 2) (nz_pow pri_PP nD 2)
      exact cancel pri_PP nn G
    · generalize einv (x + 1) = e at *
      exact dv2 he he (c1 := -(x - 1)) (c2 := 0) (by grind)
  · right
    have n := x2_nz pri_PP nsq2 hD hv
    have he := einv_ok _ n
    refine ⟨(i0 * v * einv D, (x + 1) * einv (x - 1)), ?_, ?_, fun h => n1 h.2⟩
    · show PP ∣ _
      generalize i0 = i at *
      generalize d0 = d at *
      generalize einv D = f at *
      generalize einv (x - 1) = e at *
      have hX : PP ∣ i * v * f * D - i * v := dv2 hf hf (c1 := i * v) (c2 := 0) (by grind)
      have hy : PP ∣ (x + 1) * e * (x - 1) - (x + 1) := dv2 he he (c1 := x + 1) (c2 := 0) (by grind)
      have G := on_two hD hi hX hy hv
      have nn : ¬ PP ∣ (x - 1) ^ 2 * D ^ 2 := nz_mul pri_PP (nz_pow pri_PP n 2) (nz_pow pri_PP nD 2)
      exact cancel pri_PP nn G
    · generalize einv (x - 1) = e at *
      exact dv2 he he (c1 := -(x + 1)) (c2 := 0) (by grind)
end Go.Proofs.YteedfhljbdnmnaaGreatDoor
namespace Go.Proofs.YteedfhljbdnmnaaGreatDoor
set_option maxRecDepth 100000
section
variable {P a d b s : Int} {inv : Int → Int}
theorem Rep.cg {w : Int × Int} {y y' : Int} (h : Rep P s w y) (e : P ∣ y - y') : Rep P s w y' :=
  ⟨dv2 h.1 e (c1 := 1) (c2 := w.1 + s * w.2) (by grind), h.2⟩
theorem Sm.res {x1 y1 x2 y2 x3 y3 x4 y4 : Int} (h : Sm P a d x1 y1 x2 y2 x3 y3) (hx : P ∣ x3 - x4) (hy : P ∣ y3 - y4) : Sm P a d x1 y1 x2 y2 x4 y4 :=
  ⟨dv2 h.x hx (c1 := 1) (c2 := -(1 + d * x1 * x2 * y1 * y2)) (by grind), dv2 h.y hy (c1 := 1) (c2 := -(1 - d * x1 * x2 * y1 * y2)) (by grind)⟩
def eneg (p : Int × Int) : Int × Int := (-p.1, p.2)
theorem eadd_negs (p q : Int × Int) : eadd a d inv (eneg p) (eneg q) = eneg (eadd a d inv p q) := by
  unfold eadd eneg
  have e1 : 1 + d * -p.1 * -q.1 * p.2 * q.2 = 1 + d * p.1 * q.1 * p.2 * q.2 := by grind
  have e2 : 1 - d * -p.1 * -q.1 * p.2 * q.2 = 1 - d * p.1 * q.1 * p.2 * q.2 := by grind
  simp only [e1, e2]
  congr 1
  · grind
  · grind
theorem step_back (H : Crv P a d inv) {A p : Int × Int} (hA : OnP P a d A) (hp : OnP P a d p) : Pe P (eadd a d inv A (eneg (eadd a d inv A p))) (eneg p) := by
  rw [← eadd_negs]
  have nA : OnP P a d (eneg A) := neg_on hA
  have np : OnP P a d (eneg p) := neg_on hp
  have e1 := (eadd_assoc H hA nA np).symm
  have e2 := eadd_cg H (eadd_on H hA nA) np (eadd_neg H hA) (Pe.refl (eneg p))
  have e3 := eadd_comm H (p := (0, 1)) (q := eneg p) zero_on np
  exact e1.trans (e2.trans (e3.trans (eadd_zero H np)))
end
structure Up (a d s : Int) (p : Int × Int) (n : Nat) (t : Two4) : Prop where
  l : Rep PP s (t.a, t.b) (emul a d einv n p).2
  r : Rep PP s (t.c, t.d) (emul a d einv (n + 1) p).2
section
variable {a d b s x : Int} {p : Int × Int}
theorem Up.zero (H : Crv PP a d einv) (hp : OnP PP a d p) (hr : Rep PP s (x, 1) p.2) : Up a d s p 0 ⟨1, 0, x, 1⟩ := by
  refine ⟨⟨⟨0, ?_⟩, fun h => pri_PP.one h.1⟩, ?_⟩
  · show 1 * (1 - 1) - s * 0 * (1 + 1) = PP * 0
    grind
  · have e : Pe PP (eadd a d einv (0, 1) p) p := (eadd_comm H zero_on hp).trans (eadd_zero H hp)
    exact hr.cg (e.symm.2)
theorem Up.step (H : Crv PP a d einv) (M : Mon PP a d b s 121665) (hp : OnP PP a d p) (hr : Rep PP s (x, 1) p.2) (hx : ¬ PP ∣ x) {n : Nat} {t : Two4} (h : Up a d s p n t) (bit : Bool) : Up a d s p (2 * n + bit.toNat) (lrnd x bit t) := by
  have hA := emul_on H hp n
  have hB := emul_on H hp (n + 1)
  have hs := M.s1
  -- the double of any multiple
  have D : ∀ (m : Nat) (u v : Int), Rep PP s (u, v) (emul a d einv m p).2 → Rep PP s (dU u v, dV u v) (emul a d einv (2 * m) p).2 := fun m u v hw => by
    have hm := emul_on H hp m
    have g := Rep.dbl H.pri H.cpl M hw hm (eadd_sm H hm hm)
    have e : Pe PP (eadd a d einv (emul a d einv m p) (emul a d einv m p)) (emul a d einv (2 * m) p) := by
      rw [Nat.two_mul]
      exact (emul_add H hp m m).symm
    have k : ldbl 121665 (u, v) = (dU u v, dV u v) := by
      unfold ldbl dU dV dW
      simp only [Prod.mk.injEq, true_and]
      grind
    rw [k] at g
    exact g.cg e.2
  -- the sum of both
  have S : Rep PP s (sU t.a t.b t.c t.d, sV x t.a t.b t.c t.d) (emul a d einv (2 * n + 1) p).2 := by
    have hd := (eadd_sm H hA (neg_on hB)).res (step_back H hA hp).1 (step_back H hA hp).2
    have hxr : PP ∣ x * (1 - p.2) - s * (1 + p.2) := dv2 hr.1 hr.1 (c1 := 1) (c2 := 0) (by grind)
    have hn : ¬ PP ∣ 1 - p.2 := fun k => by
      have h2 : PP ∣ 2 := by
        have q : PP ∣ s * 2 := dv2 hxr k (c1 := -1) (c2 := x + s) (by grind)
        rcases hs with e | e
        · rw [e] at q; simpa using q
        · rw [e] at q
          exact dv2 q q (c1 := -1) (c2 := 0) (by grind)
      exact pri_PP.two h2
    have g := Rep.sum H.pri H.cpl hs h.l h.r hA hB (eadd_sm H hA hB) hd hxr hn hx
    have e : Pe PP (eadd a d einv (emul a d einv n p) (emul a d einv (n + 1) p)) (emul a d einv (2 * n + 1) p) := by
      rw [show 2 * n + 1 = n + (n + 1) by omega]
      exact (emul_add H hp n (n + 1)).symm
    exact g.cg e.2
  cases bit
  · exact ⟨D n _ _ h.l, S⟩
  · refine ⟨S, ?_⟩
    have g := D (n + 1) _ _ h.r
    rw [show 2 * (n + 1) = 2 * n + 1 + 1 by omega] at g
    exact g
def bnum (bit : Nat → Bool) : Nat → Nat
  | 0 => 0
  | n + 1 => 2 * bnum bit n + (bit n).toNat
theorem up_all (H : Crv PP a d einv) (M : Mon PP a d b s 121665) (hp : OnP PP a d p) (hr : Rep PP s (x, 1) p.2) (hx : ¬ PP ∣ x) (bit : Nat → Bool) : ∀ n, Up a d s p (bnum bit n) (lrnds x bit n)
  | 0 => Up.zero H hp hr
  | n + 1 => Up.step H M hp hr hx (up_all H M hp hr hx bit n) (bit n)
theorem bnum_k (K : Nat) (m : Nat) : ∀ n, n ≤ m → bnum (fun i => kbit (K : Int) (m - 1 - i)) n = K / 2 ^ (m - n) % 2 ^ n
  | 0, _ => by simp [bnum, Nat.mod_one]
  | n + 1, h => by
    have ih := bnum_k K m n (by omega)
    show 2 * bnum _ n + (kbit (K : Int) (m - 1 - n)).toNat = _
    rw [ih]
    have e1 : m - n = (m - (n + 1)) + 1 := by omega
    have e2 : m - 1 - n = m - (n + 1) := by omega
    rw [e1, e2]
    generalize m - (n + 1) = j
    have b : (kbit (K : Int) j).toNat = K / 2 ^ j % 2 := by
      unfold kbit
      have c : (K : Int) / 2 ^ j % 2 = ((K / 2 ^ j % 2 : Nat) : Int) := by simp
      rw [c]
      rcases (show K / 2 ^ j % 2 = 0 ∨ K / 2 ^ j % 2 = 1 by omega) with z | z
      · rw [z]; rfl
      · rw [z]; rfl
    rw [b, Nat.pow_succ, ← Nat.div_div_eq_div_mul]
    generalize K / 2 ^ j = q
    rw [Nat.pow_succ, Nat.mul_comm (2 ^ n) 2, Nat.mod_mul]
    omega
theorem end_zero {u v y : Int} (hs : s = 1 ∨ s = -1) (h : Rep PP s (u, v) y) (hz : (u * v ^ eInv) % PP = 0) : PP ∣ 1 - y ∨ PP ∣ 1 + y := by
  have h1 : PP ∣ u * (1 - y) - s * v * (1 + y) := h.1
  rcases pri_PP.mul (PP_dvd.2 hz) with k | k
  · right
    have nv : ¬ PP ∣ v := fun q => h.2 ⟨k, q⟩
    have g : PP ∣ (1 + y) * v := by
      rcases hs with e | e <;> subst e
      · exact dv2 h1 k (c1 := -1) (c2 := 1 - y) (by grind)
      · exact dv2 h1 k (c1 := 1) (c2 := -(1 - y)) (by grind)
    exact cancel pri_PP nv g
  · left
    have hv : PP ∣ v := by
      by_cases q : PP ∣ v
      · exact q
      · exact absurd k (nz_pow pri_PP q _)
    have nu : ¬ PP ∣ u := fun q => h.2 ⟨q, hv⟩
    exact cancel pri_PP nu (dv2 h1 hv (c1 := 1) (c2 := s * (1 + y)) (by grind))
theorem end_some {u v y : Int} (h : Rep PP s (u, v) y) (hz : ¬ (u * v ^ eInv) % PP = 0) : Rep PP s (u * v ^ eInv % PP, 1) y := by
  refine ⟨?_, fun k => pri_PP.one k.2⟩
  have h1 : PP ∣ u * (1 - y) - s * v * (1 + y) := h.1
  have nv : ¬ PP ∣ v := fun q => hz (by rw [Int.mul_emod, zpow q]; simp)
  have hi := einv_ok v nv
  have hm : PP ∣ u * v ^ eInv % PP - u * einv v := dvd_cong (Int.emod_emod_of_dvd _ (Int.dvd_refl _))
  show PP ∣ u * v ^ eInv % PP * (1 - y) - s * 1 * (1 + y)
  generalize u * v ^ eInv % PP = m at *
  generalize einv v = f at *
  exact dv3 h1 hi hm (c1 := f) (c2 := s * (1 + y)) (c3 := 1 - y) (by grind)
theorem end_one {u v y : Int} (hs : s = 1 ∨ s = -1) (h : Rep PP s (u, v) y) (hy : PP ∣ 1 - y) : u * v ^ eInv % PP = 0 := by
  have h1 : PP ∣ u * (1 - y) - s * v * (1 + y) := h.1
  have g : PP ∣ 2 * v := by
    rcases hs with e | e <;> subst e
    · exact dv2 h1 hy (c1 := -1) (c2 := u + v) (by grind)
    · exact dv2 h1 hy (c1 := 1) (c2 := v - u) (by grind)
  have hv : PP ∣ v := (pri_PP.mul g).resolve_left pri_PP.two
  rw [Int.mul_emod, zpow hv]
  simp
theorem end_same {u v u' v' y y' : Int} (hs : s = 1 ∨ s = -1) (h : Rep PP s (u, v) y) (h' : Rep PP s (u', v') y') (e : PP ∣ y - y') : u * v ^ eInv % PP = u' * v' ^ eInv % PP := by
  have h2 : Rep PP s (u', v') y := h'.cg (dv2 e e (c1 := -1) (c2 := 0) (by grind))
  by_cases hy : PP ∣ 1 - y
  · rw [end_one hs h hy, end_one hs h2 hy]
  · have h1 : PP ∣ u * (1 - y) - s * v * (1 + y) := h.1
    have h3 : PP ∣ u' * (1 - y) - s * v' * (1 + y) := h2.1
    have nv : ¬ PP ∣ v := fun q => h.2 ⟨cancel pri_PP hy (dv2 h1 q (c1 := 1) (c2 := s * (1 + y)) (by grind)), q⟩
    have nv' : ¬ PP ∣ v' := fun q => h2.2 ⟨cancel pri_PP hy (dv2 h3 q (c1 := 1) (c2 := s * (1 + y)) (by grind)), q⟩
    have i1 := einv_ok v nv
    have i2 := einv_ok v' nv'
    refine cong_dvd ?_
    show PP ∣ u * einv v - u' * einv v'
    generalize einv v = f at *
    generalize einv v' = g at *
    refine cancel pri_PP hy ?_
    have g1 : PP ∣ u * f * (1 - y) - s * (1 + y) := dv2 h1 i1 (c1 := f) (c2 := s * (1 + y)) (by grind)
    have g2 : PP ∣ u' * g * (1 - y) - s * (1 + y) := dv2 h3 i2 (c1 := g) (c2 := s * (1 + y)) (by grind)
    exact dv2 g1 g2 (c1 := 1) (c2 := -1) (by grind)
end
end Go.Proofs.YteedfhljbdnmnaaGreatDoor
namespace Go.Proofs.YteedfhljbdnmnaaGreatDoor
set_option maxRecDepth 100000
def ladS' (x K : Int) : Int := ladE x (fun i => kbit K (255 - i)) 256
def L (x : Int) (K : Nat) : Int := ladS' x (K : Int) % PP
structure Clp (K : Nat) : Prop where
  lo : 28948022309329048855892746252171976963317496166410141009864396001978282409984 ≤ K
  hi : K < 57896044618658097711785492504343953926634992332820282019728792003956564819968
  ev : K % 8 = 0
theorem L_255 {K : Nat} (h : Clp K) (x : Int) : L x K = ladE x (fun i => kbit (K : Int) (254 - i)) 255 % PP := by
  unfold L ladS'
  refine lad_same x (fun i => kbit (K : Int) (254 - i)) (fun i => kbit (K : Int) (255 - i)) ?_ (fun i => by rw [show 255 - (i + 1) = 254 - i by omega]) ?_ 254
  · have k1 := h.lo
    have k2 := h.hi
    unfold kbit
    have : (K : Int) / 2 ^ (255 - 0) = 0 := Int.ediv_eq_zero_of_lt (by omega) (by have h : (2 : Int) ^ (255 - 0) = 57896044618658097711785492504343953926634992332820282019728792003956564819968 := by decide
                                                                                  rw [h]; omega)
    rw [this]
    rfl
  · have k1 := h.lo
    have k2 := h.hi
    unfold kbit
    have : (K : Int) / 2 ^ (254 - 0) = 1 := by
      have h : (2 : Int) ^ (254 - 0) = 28948022309329048855892746252171976963317496166410141009864396001978282409984 := by decide
      rw [h]
      omega
    rw [this]
    rfl
theorem L_zero {K : Nat} (h : Clp K) {x : Int} (hx : PP ∣ x) : L x K = 0 := by
  have k1 := h.lo
  have k2 := h.hi
  rw [L_255 h]
  unfold ladE
  have z := (lrnds_zero hx (fun i => kbit (K : Int) (254 - i)) (by
    show kbit (K : Int) 254 = true
    unfold kbit
    have : (K : Int) / 2 ^ 254 = 1 := by
      have h : (2 : Int) ^ 254 = 28948022309329048855892746252171976963317496166410141009864396001978282409984 := by decide
      rw [h]
      omega
    rw [this]
    rfl) 254).1
  rw [Int.mul_emod, zpow z]
  simp
theorem L_bd (x : Int) (K : Nat) : 0 ≤ L x K ∧ L x K < PP := ⟨Int.emod_nonneg _ (by decide), Int.emod_lt_of_pos _ (by decide)⟩
theorem L_nz {x : Int} {K : Nat} (h : ¬ L x K = 0) : ¬ PP ∣ L x K := fun k => by
  have b := L_bd x K
  have := PP_dvd.1 k
  rw [Int.emod_eq_of_lt b.1 b.2] at this
  exact h this
section
variable {a d b s x : Int} {p : Int × Int}
theorem L_rep (H : Crv PP a d einv) (M : Mon PP a d b s 121665) (hp : OnP PP a d p) (hr : Rep PP s (x, 1) p.2) (hx : ¬ PP ∣ x) {K : Nat} (hK : K < 2 ^ 256) : ∃ u v, Rep PP s (u, v) (emul a d einv K p).2 ∧ L x K = u * v ^ eInv % PP := by
  have U := (up_all H M hp hr hx (fun i => kbit (K : Int) (255 - i)) 256).l
  have e := bnum_k K 256 256 (Nat.le_refl _)
  have e' : bnum (fun i => kbit (K : Int) (255 - i)) 256 = K := by
    refine e.trans ?_
    rw [Nat.sub_self, Nat.pow_zero, Nat.div_one, Nat.mod_eq_of_lt hK]
  rw [e'] at U
  exact ⟨_, _, U, rfl⟩
theorem two_small (H : Crv PP a d einv) (M : Mon PP a d b s 121665) {A : Int × Int} (hA : OnP PP a d A) (hy : PP ∣ 1 - A.2 ∨ PP ∣ 1 + A.2) : Pe PP (eadd a d einv A A) (0, 1) := by
  have hx : PP ∣ A.1 := by
    have h1 : PP ∣ 1 - A.2 ^ 2 := by
      rcases hy with h | h
      · exact dv2 h h (c1 := 1 + A.2) (c2 := 0) (by grind)
      · exact dv2 h h (c1 := 1 - A.2) (c2 := 0) (by grind)
    have ho : PP ∣ a * A.1 ^ 2 + A.2 ^ 2 - 1 - d * A.1 ^ 2 * A.2 ^ 2 := hA
    have h2 : PP ∣ (A.1 * A.1) * (a - d) := dv2 ho h1 (c1 := 1) (c2 := 1 - d * A.1 ^ 2) (by grind)
    exact (pri_PP.mul (cancel pri_PP M.ad h2)).elim id id
  have one : PP ∣ einv 1 * 1 - 1 := einv_ok 1 pri_PP.one
  have key : ∀ e : Int, e * e = 1 → Pe PP (eadd a d einv (0, e) (0, e)) (0, 1) := fun e he => by
    unfold eadd
    refine ⟨?_, ?_⟩
    · show PP ∣ (0 * e + e * 0) * _ - 0
      exact ⟨0, by simp⟩
    · show PP ∣ (e * e - a * 0 * 0) * einv (1 - d * 0 * 0 * e * e) - 1
      have q : (1 : Int) - d * 0 * 0 * e * e = 1 := by simp
      rw [q, he]
      exact dv2 one one (c1 := 1) (c2 := 0) (by grind)
  rcases hy with h | h
  · have pe : Pe PP A (0, 1) := ⟨dv2 hx hx (c1 := 1) (c2 := 0) (by grind), dv2 h h (c1 := -1) (c2 := 0) (by grind)⟩
    exact (eadd_cg H hA hA pe pe).trans (key 1 (by decide))
  · have pe : Pe PP A (0, -1) := ⟨dv2 hx hx (c1 := 1) (c2 := 0) (by grind), dv2 h h (c1 := 1) (c2 := 0) (by grind)⟩
    exact (eadd_cg H hA hA pe pe).trans (key (-1) (by decide))
theorem emul_zero' (H : Crv PP a d einv) : ∀ n, Pe PP (emul a d einv n (0, 1)) (0, 1)
  | 0 => Pe.refl _
  | n + 1 => (eadd_cg H (emul_on H zero_on n) zero_on (emul_zero' H n) (Pe.refl _)).trans (eadd_zero H zero_on)
theorem emul_two (H : Crv PP a d einv) {A : Int × Int} (hA : OnP PP a d A) : Pe PP (emul a d einv 2 A) (eadd a d einv A A) :=
  eadd_cg H (emul_on H hA 1) hA ((eadd_comm H zero_on hA).trans (eadd_zero H hA)) (Pe.refl _)
theorem even_small (H : Crv PP a d einv) (M : Mon PP a d b s 121665) {A : Int × Int} (hA : OnP PP a d A) (hy : PP ∣ 1 - A.2 ∨ PP ∣ 1 + A.2) {K : Nat} (hK : K % 2 = 0) : Pe PP (emul a d einv K A) (0, 1) := by
  obtain ⟨j, rfl⟩ : ∃ j, K = 2 * j := ⟨K / 2, by omega⟩
  have e1 := emul_mul H hA 2 j
  have e2 := emul_cg H (emul_on H hA 2) ((emul_two H hA).trans (two_small H M hA hy)) j
  exact e1.trans (e2.trans (emul_zero' H j))
theorem L_half (H : Crv PP a d einv) (M : Mon PP a d b s 121665) (hp : OnP PP a d p) (hr : Rep PP s (x, 1) p.2) (hx : ¬ PP ∣ x) {K K' : Nat} (hK : Clp K) (hK' : Clp K') (z : L x K = 0) : L (L x K') K = 0 := by
  have b1 : K < 2 ^ 256 := Nat.lt_trans hK.hi (by decide)
  have b2 : K' < 2 ^ 256 := Nat.lt_trans hK'.hi (by decide)
  by_cases z' : L x K' = 0
  · rw [z']
    exact L_zero hK (Int.dvd_zero _)
  · obtain ⟨u, v, R, e⟩ := L_rep H M hp hr hx b1
    obtain ⟨u', v', R', e'⟩ := L_rep H M hp hr hx b2
    have Q := end_some R' (by rw [← e']; exact z')
    rw [← e'] at Q
    have oq := emul_on H hp K'
    obtain ⟨u2, v2, R2, e2⟩ := L_rep H M oq Q (L_nz z') b1
    rw [e2]
    have sm := end_zero M.s1 R (by rw [← e]; exact z)
    have g := even_small H M (emul_on H hp K) sm (K := K') (by have := hK'.ev; omega)
    have c := (emul_mul H hp K' K).symm.trans (by rw [Nat.mul_comm]; exact (emul_mul H hp K K').trans g)
    exact end_one M.s1 R2 (dv2 c.2 c.2 (c1 := -1) (c2 := 0) (by grind))
theorem L_comm_on (H : Crv PP a d einv) (M : Mon PP a d b s 121665) (hp : OnP PP a d p) (hr : Rep PP s (x, 1) p.2) (hx : ¬ PP ∣ x) {K K' : Nat} (hK : Clp K) (hK' : Clp K') : L (L x K') K = L (L x K) K' := by
  have b1 : K < 2 ^ 256 := Nat.lt_trans hK.hi (by decide)
  have b2 : K' < 2 ^ 256 := Nat.lt_trans hK'.hi (by decide)
  by_cases z : L x K = 0
  · rw [L_half H M hp hr hx hK hK' z, z, L_zero hK' (Int.dvd_zero _)]
  · by_cases z' : L x K' = 0
    · rw [L_half H M hp hr hx hK' hK z', z', L_zero hK (Int.dvd_zero _)]
    · obtain ⟨u, v, R, e⟩ := L_rep H M hp hr hx b1
      obtain ⟨u', v', R', e'⟩ := L_rep H M hp hr hx b2
      have Q := end_some R (by rw [← e]; exact z)
      have Q' := end_some R' (by rw [← e']; exact z')
      rw [← e] at Q
      rw [← e'] at Q'
      obtain ⟨u2, v2, R2, e2⟩ := L_rep H M (emul_on H hp K') Q' (L_nz z') b1
      obtain ⟨u3, v3, R3, e3⟩ := L_rep H M (emul_on H hp K) Q (L_nz z) b2
      rw [e2, e3]
      have c := (emul_mul H hp K' K).symm.trans (by rw [Nat.mul_comm]; exact emul_mul H hp K K')
      exact end_same M.s1 R2 R3 c.2
end
theorem L_comm (x : Int) {K K' : Nat} (hK : Clp K) (hK' : Clp K') : L (L x K') K = L (L x K) K' := by
  by_cases hx : PP ∣ x
  · rw [L_zero hK' hx, L_zero hK hx, L_zero hK (Int.dvd_zero _), L_zero hK' (Int.dvd_zero _)]
  · rcases point_of hx with ⟨p, hp, hr⟩ | ⟨p, hp, hr⟩
    · exact L_comm_on crv1 mon1 hp hr hx hK hK'
    · exact L_comm_on crv2 mon2 hp hr hx hK hK'
end Go.Proofs.YteedfhljbdnmnaaGreatDoor
namespace Go.Proofs.YteedfhljbdnmnaaGreatDoor
set_option maxRecDepth 100000
theorem prmq_2551 : Prm 2551 := prime_by_trial (k := 49) (by decide) (by decide) (by decide)
theorem prmq_1224481 : Prm 1224481 := cert_one (f := 21) (h := 921659) (by decide +kernel) (by decide +kernel) prmq_2551 (by decide +kernel) (by decide +kernel) (by decide +kernel) (by decide +kernel) (by decide +kernel)
theorem prmq_3797 : Prm 3797 := prime_by_trial (k := 60) (by decide) (by decide) (by decide)
theorem prmq_531581 : Prm 531581 := cert_one (f := 20) (h := 32301) (by decide +kernel) (by decide +kernel) prmq_3797 (by decide +kernel) (by decide +kernel) (by decide +kernel) (by decide +kernel) (by decide +kernel)
theorem prmq_125755973217n16 : Prm 1257559732178653 := cert_two (f := 51) (h := 1252739704402215) (i := 1139842034583224) (by decide +kernel) (by decide +kernel) prmq_1224481 prmq_531581 (by decide +kernel) (by decide +kernel) (by decide +kernel) (by decide +kernel) (by decide +kernel) (by decide +kernel) (by decide +kernel) (by decide +kernel) (by decide +kernel)
theorem prmq_443415561566n19 : Prm 4434155615661930479 := cert_one (f := 62) (h := 415787812636281767) (by decide +kernel) (by decide +kernel) prmq_125755973217n16 (by decide +kernel) (by decide +kernel) (by decide +kernel) (by decide +kernel) (by decide +kernel)
theorem prmq_172054593956n27 : Prm 172054593956031949258510691 := cert_one (f := 88) (h := 81982237619807054769897707) (by decide +kernel) (by decide +kernel) prmq_443415561566n19 (by decide +kernel) (by decide +kernel) (by decide +kernel) (by decide +kernel) (by decide +kernel)
theorem prmq_197573303058n41 : Prm 19757330305831588566944191468367130476339 := cert_one (f := 134) (h := 9148758478138211201771971577098600188172) (by decide +kernel) (by decide +kernel) prmq_172054593956n27 (by decide +kernel) (by decide +kernel) (by decide +kernel) (by decide +kernel) (by decide +kernel)
theorem prmq_276602624281n42 : Prm 276602624281642239937218680557139826668747 := cert_one (f := 138) (h := 16384) (by decide +kernel) (by decide +kernel) prmq_197573303058n41 (by decide +kernel) (by decide +kernel) (by decide +kernel) (by decide +kernel) (by decide +kernel)
theorem prmq_723700557733n76 : Prm 7237005577332262213973186563042994240857116359379907606001950938285454250989 := cert_one (f := 253) (h := 2975531125133123119648879457563281269120703404158613135195788908093573672641) (by decide +kernel) (by decide +kernel) prmq_276602624281n42 (by decide +kernel) (by decide +kernel) (by decide +kernel) (by decide +kernel) (by decide +kernel)
abbrev Q25519 : Nat := 7237005577332262213973186563042994240857116359379907606001950938285454250989
theorem prm_Q : Prm Q25519 := prmq_723700557733n76
def nY (a b c d : Nat) : Nat := (c + P25519 - d) * (a + b) % P25519
def nZ (a b c d : Nat) : Nat := (c + d) * (a + P25519 - b) % P25519
def nsU (a b c d : Nat) : Nat := (nY a b c d + nZ a b c d) * (nY a b c d + nZ a b c d) % P25519
def nsV (x a b c d : Nat) : Nat := x * ((nY a b c d + P25519 - nZ a b c d) * (nY a b c d + P25519 - nZ a b c d)) % P25519
def nS (a b : Nat) : Nat := (a + b) * (a + b) % P25519
def nT (a b : Nat) : Nat := (a + P25519 - b) * (a + P25519 - b) % P25519
def ndU (a b : Nat) : Nat := nS a b * nT a b % P25519
def nW (a b : Nat) : Nat := (nS a b + P25519 - nT a b) % P25519
def ndV (a b : Nat) : Nat := nW a b * (nS a b + nW a b * 121665) % P25519
def nlad (x K : Nat) : Nat → Nat → Nat → Nat → Nat → Nat
  | 0, _, b, _, _ => b
  | j + 1, a, b, c, d => if K / 2 ^ j % 2 = 1 then nlad x K j (nsU a b c d) (nsV x a b c d) (ndU c d) (ndV c d) else nlad x K j (ndU a b) (ndV a b) (nsU a b c d) (nsV x a b c d)
structure Cg (n : Nat) (i : Int) : Prop where
  c : PP ∣ (n : Int) - i
  l : n < P25519
theorem cg_mod {n : Nat} {i : Int} (h : PP ∣ (n : Int) - i) : Cg (n % P25519) i := by
  refine ⟨?_, Nat.mod_lt _ (by decide)⟩
  have e : ((n % P25519 : Nat) : Int) = (n : Int) % PP := by rw [Int.natCast_emod]; rfl
  rw [e]
  have k : PP ∣ (n : Int) % PP - n := dvd_cong (Int.emod_emod_of_dvd _ (Int.dvd_refl _))
  exact dv2 k h (c1 := 1) (c2 := 1) (by grind)
section
variable {a b c d : Nat} {A B C D : Int}
theorem cg_sub (ha : Cg a A) (hb : Cg b B) : PP ∣ ((a + P25519 - b : Nat) : Int) - (A - B) := by
  have l := hb.l
  have e : ((a + P25519 - b : Nat) : Int) = (a : Int) + PP - b := by
    rw [PP_nat]
    generalize P25519 = q at *
    omega
  rw [e]
  exact dv3 ha.c hb.c (Int.dvd_refl PP) (c1 := 1) (c2 := -1) (c3 := 1) (by grind)
theorem cg_add (ha : Cg a A) (hb : Cg b B) : PP ∣ ((a + b : Nat) : Int) - (A + B) := by
  rw [Int.natCast_add]
  exact dv2 ha.c hb.c (c1 := 1) (c2 := 1) (by grind)
theorem cg_mul {m n : Nat} {M N : Int} (hm : PP ∣ (m : Int) - M) (hn : PP ∣ (n : Int) - N) : PP ∣ ((m * n : Nat) : Int) - M * N := by
  rw [Int.natCast_mul]
  exact dv2 hm hn (c1 := n) (c2 := M) (by grind)
theorem cg_Y (ha : Cg a A) (hb : Cg b B) (hc : Cg c C) (hd : Cg d D) : Cg (nY a b c d) (sY A B C D) := cg_mod (cg_mul (cg_sub hc hd) (cg_add ha hb))
theorem cg_Z (ha : Cg a A) (hb : Cg b B) (hc : Cg c C) (hd : Cg d D) : Cg (nZ a b c d) (sZ A B C D) := cg_mod (cg_mul (cg_add hc hd) (cg_sub ha hb))
theorem cg_sU (ha : Cg a A) (hb : Cg b B) (hc : Cg c C) (hd : Cg d D) : Cg (nsU a b c d) (sU A B C D) :=
  cg_mod (cg_mul (cg_add (cg_Y ha hb hc hd) (cg_Z ha hb hc hd)) (cg_add (cg_Y ha hb hc hd) (cg_Z ha hb hc hd)))
theorem cg_sV {x : Nat} {X : Int} (hx : Cg x X) (ha : Cg a A) (hb : Cg b B) (hc : Cg c C) (hd : Cg d D) : Cg (nsV x a b c d) (sV X A B C D) :=
  cg_mod (cg_mul hx.c (cg_mul (cg_sub (cg_Y ha hb hc hd) (cg_Z ha hb hc hd)) (cg_sub (cg_Y ha hb hc hd) (cg_Z ha hb hc hd))))
theorem cg_S (ha : Cg a A) (hb : Cg b B) : Cg (nS a b) ((A + B) * (A + B)) := cg_mod (cg_mul (cg_add ha hb) (cg_add ha hb))
theorem cg_T (ha : Cg a A) (hb : Cg b B) : Cg (nT a b) ((A - B) * (A - B)) := cg_mod (cg_mul (cg_sub ha hb) (cg_sub ha hb))
theorem cg_dU (ha : Cg a A) (hb : Cg b B) : Cg (ndU a b) (dU A B) := cg_mod (cg_mul (cg_S ha hb).c (cg_T ha hb).c)
theorem cg_W (ha : Cg a A) (hb : Cg b B) : Cg (nW a b) (dW A B) := cg_mod (cg_sub (cg_S ha hb) (cg_T ha hb))
theorem cg_dV (ha : Cg a A) (hb : Cg b B) : Cg (ndV a b) (dV A B) := by
  have k : PP ∣ ((nW a b * 121665 : Nat) : Int) - dW A B * 121665 := cg_mul (n := 121665) (N := 121665) (cg_W ha hb).c ⟨0, by simp⟩
  have s : PP ∣ ((nS a b + nW a b * 121665 : Nat) : Int) - ((A + B) * (A + B) + dW A B * 121665) := by
    rw [Int.natCast_add]
    exact dv2 (cg_S ha hb).c k (c1 := 1) (c2 := 1) (by grind)
  exact cg_mod (cg_mul (cg_W ha hb).c s)
end
def lrest (x : Int) (K : Nat) : Nat → Two4 → Two4
  | 0, s => s
  | j + 1, s => lrest x K j (lrnd x (kbit (K : Int) j) s)
theorem lrest_is (x : Int) (K m : Nat) : ∀ n, n ≤ m → lrest x K m ⟨1, 0, x, 1⟩ = lrest x K (m - n) (lrnds x (fun i => kbit (K : Int) (m - 1 - i)) n)
  | 0, _ => rfl
  | n + 1, h => by
    rw [lrest_is x K m n (by omega), show m - n = (m - (n + 1)) + 1 by omega]
    show lrest x K (m - (n + 1)) (lrnd x (kbit (K : Int) (m - (n + 1))) _) = lrest x K (m - (n + 1)) (lrnd x (kbit (K : Int) (m - 1 - n)) _)
    rw [show m - 1 - n = m - (n + 1) by omega]
theorem kbit_n (K j : Nat) : kbit (K : Int) j = decide (K / 2 ^ j % 2 = 1) := by
  unfold kbit
  have c : (K : Int) / 2 ^ j % 2 = ((K / 2 ^ j % 2 : Nat) : Int) := by simp
  rw [c]
  rcases (show K / 2 ^ j % 2 = 0 ∨ K / 2 ^ j % 2 = 1 by omega) with z | z <;> rw [z] <;> rfl
theorem nlad_ok {x : Nat} {X : Int} (hx : Cg x X) (K : Nat) : ∀ (j a b c d : Nat) (s : Two4), Cg a s.a → Cg b s.b → Cg c s.c → Cg d s.d → Cg (nlad x K j a b c d) (lrest X K j s).b
  | 0, a, b, c, d, s, ha, hb, hc, hd => hb
  | j + 1, a, b, c, d, s, ha, hb, hc, hd => by
    show Cg (if K / 2 ^ j % 2 = 1 then _ else _) (lrest X K j (lrnd X (kbit (K : Int) j) s)).b
    rw [kbit_n]
    by_cases h : K / 2 ^ j % 2 = 1
    · rw [if_pos h, decide_eq_true h]
      exact nlad_ok hx K j _ _ _ _ (lrnd X true s) (cg_sU ha hb hc hd) (cg_sV hx ha hb hc hd) (cg_dU hc hd) (cg_dV hc hd)
    · rw [if_neg h, decide_eq_false h]
      exact nlad_ok hx K j _ _ _ _ (lrnd X false s) (cg_dU ha hb) (cg_dV ha hb) (cg_sU ha hb hc hd) (cg_sV hx ha hb hc hd)
theorem nlad_Q : nlad 9 Q25519 256 1 0 9 1 = 0 := by decide +kernel
theorem cg_small {n : Nat} (h : n < P25519) : Cg n (n : Int) := ⟨⟨0, by simp⟩, h⟩
theorem nine_Q : PP ∣ (lrnds 9 (fun i => kbit (Q25519 : Int) (255 - i)) 256).b := by
  have h := nlad_ok (x := 9) (X := 9) (cg_small (by decide)) Q25519 256 1 0 9 1 ⟨1, 0, 9, 1⟩ (cg_small (by decide)) (cg_small (by decide)) (cg_small (by decide)) (cg_small (by decide))
  rw [nlad_Q, lrest_is 9 Q25519 256 256 (Nat.le_refl _), Nat.sub_self] at h
  have k := h.c
  exact dv2 k k (c1 := -1) (c2 := 0) (by show _ = _; grind [lrest])
section
variable {a d b s x : Int} {p : Int × Int}
theorem order_kill (H : Crv PP a d einv) (hp : OnP PP a d p) {q M : Nat} (hq : Prm q) (h1 : Pe PP (emul a d einv q p) (0, 1)) (h2 : Pe PP (emul a d einv M p) (0, 1)) (hM : ¬ q ∣ M) : Pe PP p (0, 1) := by
  have f := hq.fermat hM
  have q2 := hq.1
  obtain ⟨e, he⟩ : ∃ e, q - 1 = e + 1 := ⟨q - 2, by omega⟩
  rw [he] at f
  obtain ⟨c, hc⟩ : ∃ c, M ^ (e + 1) = q * c + 1 := ⟨M ^ (e + 1) / q, by have := Nat.div_add_mod (M ^ (e + 1)) q; omega⟩
  have z1 : Pe PP (emul a d einv (M * M ^ e) p) (0, 1) := (emul_mul H hp M (M ^ e)).trans ((emul_cg H (emul_on H hp M) h2 _).trans (emul_zero' H _))
  rw [Nat.mul_comm, ← Nat.pow_succ, hc] at z1
  have z2 : Pe PP (emul a d einv (q * c) p) (0, 1) := (emul_mul H hp q c).trans ((emul_cg H (emul_on H hp q) h1 _).trans (emul_zero' H _))
  have z3 : Pe PP (emul a d einv (q * c + 1) p) (eadd a d einv (0, 1) p) := eadd_cg H (emul_on H hp (q * c)) hp z2 (Pe.refl p)
  have z4 := (eadd_comm H (p := (0, 1)) zero_on hp).trans (eadd_zero H hp)
  exact (z3.trans z4).symm.trans z1
theorem is_zero (M : Mon PP a d b s 121665) {A : Int × Int} (hA : OnP PP a d A) (hy : PP ∣ 1 - A.2) : Pe PP A (0, 1) := by
  have h1 : PP ∣ 1 - A.2 ^ 2 := dv2 hy hy (c1 := 1 + A.2) (c2 := 0) (by grind)
  have ho : PP ∣ a * A.1 ^ 2 + A.2 ^ 2 - 1 - d * A.1 ^ 2 * A.2 ^ 2 := hA
  have h2 : PP ∣ (A.1 * A.1) * (a - d) := dv2 ho h1 (c1 := 1) (c2 := 1 - d * A.1 ^ 2) (by grind)
  have hx : PP ∣ A.1 := (pri_PP.mul (cancel pri_PP M.ad h2)).elim id id
  exact ⟨dv2 hx hx (c1 := 1) (c2 := 0) (by grind), dv2 hy hy (c1 := -1) (c2 := 0) (by grind)⟩
theorem nine_order (H : Crv PP a d einv) (M : Mon PP a d b s 121665) (hp : OnP PP a d p) (hr : Rep PP s (9, 1) p.2) : Pe PP (emul a d einv Q25519 p) (0, 1) := by
  have U := (up_all H M hp hr (by decide) (fun i => kbit (Q25519 : Int) (255 - i)) 256).l
  have e := bnum_k Q25519 256 256 (Nat.le_refl _)
  have e' : bnum (fun i => kbit (Q25519 : Int) (255 - i)) 256 = Q25519 := by
    refine e.trans ?_
    rw [Nat.sub_self, Nat.pow_zero, Nat.div_one, Nat.mod_eq_of_lt (by decide)]
  rw [e'] at U
  have hb := nine_Q
  generalize (lrnds 9 (fun i => kbit (Q25519 : Int) (255 - i)) 256).a = u at *
  generalize (lrnds 9 (fun i => kbit (Q25519 : Int) (255 - i)) 256).b = v at *
  have nu : ¬ PP ∣ u := fun k => U.2 ⟨k, hb⟩
  have h1 : PP ∣ u * (1 - (emul a d einv Q25519 p).2) - s * v * (1 + (emul a d einv Q25519 p).2) := U.1
  refine is_zero M (emul_on H hp _) ?_
  generalize (emul a d einv Q25519 p).2 = y at *
  exact cancel pri_PP nu (dv2 h1 hb (c1 := 1) (c2 := s * (1 + y)) (by grind))
theorem Clp.free {K : Nat} (h : Clp K) : ¬ Q25519 ∣ K := fun k => by
  have h1 := h.lo
  have h2 := h.hi
  have h3 := h.ev
  have e : Q25519 ∣ 8 * (K / 8) := by rw [show 8 * (K / 8) = K by omega]; exact k
  rcases prm_Q.mul e with q | q
  · exact absurd (Nat.le_of_dvd (by decide) q) (by decide)
  · have h4 : 7237005577332262213973186563042994240857116359379907606001950938285454250989 ≤ K / 8 := Nat.le_of_dvd (by omega) q
    omega
theorem nine_on (H : Crv PP a d einv) (M : Mon PP a d b s 121665) (hp : OnP PP a d p) (hr : Rep PP s (9, 1) p.2) {K K' : Nat} (hK : Clp K) (hK' : Clp K') : ¬ L (L 9 K') K = 0 := by
  have b1 : K < 2 ^ 256 := Nat.lt_trans hK.hi (by decide)
  have b2 : K' < 2 ^ 256 := Nat.lt_trans hK'.hi (by decide)
  have oq := nine_order H M hp hr
  -- p is not zero
  have np : ¬ Pe PP p (0, 1) := fun k => by
    have h1 : PP ∣ 9 * (1 - p.2) - s * 1 * (1 + p.2) := hr.1
    have h2 : PP ∣ p.2 - 1 := k.2
    have g : PP ∣ 2 * 1 := by
      rcases M.s1 with e | e <;> subst e
      · exact dv2 h1 h2 (c1 := -1) (c2 := -10) (by grind)
      · exact dv2 h1 h2 (c1 := 1) (c2 := 8) (by grind)
    exact pri_PP.two (by simpa using g)
  have kill : ∀ m, Pe PP (emul a d einv m p) (0, 1) → ¬ Q25519 ∣ m → False := fun m h1 h2 => np (order_kill H hp prm_Q oq h1 h2)
  have two : ∀ m, (PP ∣ 1 - (emul a d einv m p).2 ∨ PP ∣ 1 + (emul a d einv m p).2) → Pe PP (emul a d einv (m * 2) p) (0, 1) := fun m hy =>
    (emul_mul H hp m 2).trans ((emul_two H (emul_on H hp m)).trans (two_small H M (emul_on H hp m) hy))
  have n2 : ¬ Q25519 ∣ 2 := fun q => absurd (Nat.le_of_dvd (by decide) q) (by decide)
  obtain ⟨u', v', R', e'⟩ := L_rep H M hp hr (by decide) b2
  have z' : ¬ L 9 K' = 0 := fun z => by
    refine kill _ (two K' (end_zero M.s1 R' (by rw [← e']; exact z))) (fun q => ?_)
    rcases prm_Q.mul q with r | r
    · exact hK'.free r
    · exact n2 r
  intro z
  have Q := end_some R' (by rw [← e']; exact z')
  rw [← e'] at Q
  obtain ⟨u2, v2, R2, e2⟩ := L_rep H M (emul_on H hp K') Q (L_nz z') b1
  have sm := end_zero M.s1 (R2.cg (emul_mul H hp K' K).symm.2) (by rw [← e2]; exact z)
  refine kill _ (two (K' * K) sm) (fun q => ?_)
  rcases prm_Q.mul q with r | r
  · rcases prm_Q.mul r with t | t
    · exact hK'.free t
    · exact hK.free t
  · exact n2 r
end
theorem nine_shared {K K' : Nat} (hK : Clp K) (hK' : Clp K') : ¬ L (L 9 K') K = 0 := by
  rcases point_of (x := 9) (by decide) with ⟨p, hp, hr⟩ | ⟨p, hp, hr⟩
  · exact nine_on crv1 mon1 hp hr hK hK'
  · exact nine_on crv2 mon2 hp hr hK hK'
end Go.Proofs.YteedfhljbdnmnaaGreatDoor
namespace Go.Proofs.YteedfhljbdnmnaaGreatDoor
set_option maxRecDepth 100000
open Go Go.RowKit
def toLad (xs ys : List Int) : List Int := if validP xs ys = true then fill (byt ((1 + num ys) * iv (1 - num ys) % PP)) 32 else []
theorem valid_y {xs ys : List Int} (h : validP xs ys = true) : canN ys = true := by
  unfold validP at h
  simp only [Bool.and_eq_true] at h
  exact h.1.2
set_option maxHeartbeats 2000000 in
theorem pointToLadder_any (w : World) (g g' : Nat) (a a' : Option Addr) (c c' : Nat) (xs ys : List Int) (hx : Rd w g a .u8 xs) (hy : Rd w g' a' .u8 ys) (bx : Byt xs) (by' : Byt ys) :
    Calls Tryz.prog 87 #[.agg #[.slice a xs.length c, .slice a' ys.length c']] w fun r w' => NewRow w.heap.size w' r .u8 (toLad xs ys) ∧ Below w.heap.size w w' := by
  have T := two_cells w (.slice a xs.length c) (.slice a' ys.length c') 107
  have N : Below w.heap.size w (w.alloc (.cells #[.slice a xs.length c, .slice a' ys.length c'] 107)) := (Below.refl _ _).alloc (Nat.le_refl _) _
  obtain ⟨CX, CY⟩ := T
  have CN := fun W h h' => pointValid_any W g g' a a' c c' xs ys h h' bx by'
  go_enter Tryz.func87, Tryz.ntmps87
  go_upto_region 1 with fail
  generalize w.alloc (.cells #[.slice a xs.length c, .slice a' ys.length c'] 107) = wa at *
  have RX := hx.up N
  have RY := hy.up N
  clear hx hy
  cases hk : validP xs ys with
  | false =>
    have VP : toLad xs ys = [] := by unfold toLad; rw [hk]; rfl
    replace VP := hide VP
    simp only [hk] at CN
    go_wp2_with fail
    refine (CN wa RX RY).mono ?_
    rintro e w1 ⟨rfl, n1⟩
    have N1 := nxt N n1
    clear CN
    go_wp2
    go_ret
    rw [VP.out]
    have z := N1.size
    exact ⟨⟨_, 0, w1.heap.size, rfl, fun h => absurd h (by simp), fun _ => rfl, Nat.le_refl _, by omega⟩, N1.alloc N1.size _⟩
  | true =>
    have VP : toLad xs ys = fill (byt ((1 + num ys) * iv (1 - num ys) % PP)) 32 := by unfold toLad; rw [if_pos hk]
    replace VP := hide VP
    have LY := hide (can_len (valid_y hk))
    simp only [hk] at CN
    go_wp2_with fail
    refine (CN wa RX RY).mono ?_
    rintro e wr ⟨rfl, n1⟩
    replace CX := (n1.cell (block_lt_of_cell CX)).trans CX
    replace CY := (n1.cell (block_lt_of_cell CY)).trans CY
    replace RY := RY.up n1
    replace N := nxt N n1
    have OY := hide (of_ok RY by' LY.out)
    clear CN n1 hk RX
    go_upto_region 3 with fail
    refine region_new16 4 3 2 3 10 _ (fun i => [Fact.eq (.pointer (some ⟨w.heap.size, 1, none⟩)), Fact.eq (.slice a' ys.length c'), EL (num ys), NB wr 16].getD i Fact.no) (num ys) (by kernel_rfl) rfl rfl rfl (by kernel_rfl) (by kernel_rfl) rfl rfl ?_ ?_
    · intro i hi
      obtain rfl | rfl | rfl | rfl : i = 0 ∨ i = 1 ∨ i = 2 ∨ i = 3 := by omega
      · exact step_fld rfl 107 1 1 rfl (by kernel_rfl) _ _ rfl (fyP _) rfl
      · exact step_lds rfl 8 0 rfl (by kernel_rfl) _ _ rfl _ _ _ CY rfl
      · exact step_of rfl 9 1 rfl (by kernel_rfl) OY.out rfl rfl
      · exact step_new16 rfl rfl rfl
    intro vs3 q3 W3 v3 h3 n3 E3' T3
    replace N := nxt N n3
    clear n3 T3
    simp only [puts, v3, Act.put, List.setIfInBounds_toArray, List.set_cons_succ, List.set_cons_zero]
    clear v3
    go_upto_region 4 with fail
    refine region_end 10 (fun i => [EL 1, EL (num ys), EL ((1) + (num ys)), EL 1, EL (num ys), EL ((1) - (num ys)), EL (iv ((1) - (num ys))), EL (((1) + (num ys)) * (iv ((1) - (num ys)))), RN W3 (fun xs => xs = fill (byt ((((1) + (num ys)) * (iv ((1) - (num ys)))) % PP)) 32), RN W3 (fun xs => xs = fill (byt ((((1) + (num ys)) * (iv ((1) - (num ys)))) % PP)) 32)].getD i Fact.no) (by kernel_rfl) (by kernel_rfl) rfl ?_ ?_
    · intro i hi
      obtain rfl | rfl | rfl | rfl | rfl | rfl | rfl | rfl | rfl | rfl : i = 0 ∨ i = 1 ∨ i = 2 ∨ i = 3 ∨ i = 4 ∨ i = 5 ∨ i = 6 ∨ i = 7 ∨ i = 8 ∨ i = 9 := by omega
      · exact step_small rfl 1 (by omega) rfl rfl
      · exact step_el rfl 131 3 rfl Go.Proofs.YteedfhljbdnmnaaGreatDoor.u50 i50 (by kernel_rfl) _ _ rfl _ E3' rfl
      · exact step_add rfl 11 12 0 1 _ _ rfl (by kernel_rfl) (by kernel_rfl) rfl rfl rfl
      · exact step_small rfl 1 (by omega) rfl rfl
      · exact step_el rfl 131 3 rfl Go.Proofs.YteedfhljbdnmnaaGreatDoor.u50 i50 (by kernel_rfl) _ _ rfl _ E3' rfl
      · exact step_sub rfl 14 15 3 4 _ _ rfl (by kernel_rfl) (by kernel_rfl) rfl rfl rfl
      · exact step_inv rfl 16 5 _ rfl (by kernel_rfl) rfl rfl
      · exact step_mul rfl 13 17 2 6 _ _ rfl (by kernel_rfl) (by kernel_rfl) rfl rfl rfl
      · exact step_bytes rfl 18 7 _ rfl (by kernel_rfl) rfl rfl
      · exact step_move rfl 19 8 (by exact Or.inr rfl) (by kernel_rfl) rfl
    intro A W hb hw hF
    have e2 := hF 9 2 (by kernel_rfl)
    obtain ⟨vs, hvs⟩ : ∃ vs : Nat → Value, ∀ d, A.tmps.getD d undef = vs d := ⟨_, fun _ => rfl⟩
    rw [hvs] at e2
    rw [puts_of (md := .any) (k := 10) (by kernel_rfl) rfl hb vs hvs]
    have N9 := nxt N hw
    have z := N.size
    clear hb hF hvs hw
    obtain ⟨zs, b, d, h, e3, o3, l3, rfl, k1, k2⟩ := e2
    simp only [puts, e3, Act.put, List.setIfInBounds_toArray, List.set_cons_succ, List.set_cons_zero]
    go_wp2
    go_ret
    exact ⟨by rw [VP.out]; exact ⟨b, d, h, rfl, o3, k1, k2, by omega⟩, N9⟩
end Go.Proofs.YteedfhljbdnmnaaGreatDoor
namespace Go.Proofs.YteedfhljbdnmnaaGreatDoor
set_option maxRecDepth 100000
open Go Go.RowKit
abbrev W3 : Type := Int × Int × Int
def wsum (p q : W3) (d : Int) : W3 := (wX p.1 p.2.1 p.2.2 q.1 q.2.1 q.2.2 d, wY p.1 p.2.1 p.2.2 q.1 q.2.1 q.2.2 d, wZ p.1 p.2.1 p.2.2 q.1 q.2.1 q.2.2 d)
def stp (d : Int) (p : W3) : Nat → W3
  | 0 => p
  | i + 1 => wsum (stp d p i) (stp d p i) d
def acc (d : Int) (p : W3) (b : Nat → Int) : Nat → W3
  | 0 => (0, 1, 1)
  | i + 1 => if b i = 1 then wsum (acc d p b i) (stp d p i) d else acc d p b i
def bitOf (top : List Int) (i : Nat) : Int := dig top (i / 8) / 2 ^ (i % 8) % 2
theorem Own.butQ {W W' : World} {g q : Nat} {a : Option Addr} {k : IntKind} {xs : List Int} (h : Own W g a k xs) (b : ButQ q W W') (hne : 0 < xs.length → g ≠ q) : Own W' g a k xs := fun h0 => h.of_block (b.1 g (hne h0) (h.rd.lt h0)) h0
theorem en_sum : enters Tryz.prog 143 = true := by kernel_rfl
theorem of_up {W W' : World} {a : Option Addr} {xs : List Int} (h : OfOk W a xs) (n : Below W.heap.size W W') : OfOk W' a xs := by
  obtain ⟨g, r, b, l⟩ := h
  exact ⟨g, r.up n, b, l⟩
theorem Elt.lt {W : World} {q o : Nat} {A : Int} (h : Elt W q o A) : q < W.heap.size := by
  obtain ⟨_, _, l, _⟩ := h
  exact l
section
variable {ops : Array Oper} {Q : Exit → Act → World → Prop} {md : Region.Mode} {F : Nat → Fact} {a0 : Act} {w0 : World} {i : Nat} {o : Oper} {ts : Array TypeId}
theorem step_e3 (hi : ops[i]? = some o) (p : Nat) (hop : o.op = .load 143 (.tmp p)) (hp : apart ops p = true) (q : Nat) (h0 : a0.tmps.getD p undef = .pointer (some ⟨q, 0, none⟩)) {A B C : Int} (hE : Elt3 w0 q A B C) (hF : F i = E3 A B C) : StepOk Tryz.prog md ops Q F a0 w0 i := by
  obtain ⟨fs, hfs⟩ := u144
  refine step_load hi _ _ hop _ 48 hfs rfl i144 fun a w hb hw _ => ?_
  obtain ⟨x, y, z, r, _, hx, hy, hz⟩ := hE.up hw
  exact ⟨q, 0, _, (based_at hb p hp).trans h0, r, c48_len x y z, by rw [hF]; exact ⟨x, y, z, rfl, hx, hy, hz⟩⟩
theorem step_sum (hi : ops[i]? = some o) (p q r j k l : Nat) (A B C A' B' C' D : Int) (hop : o.op = .call { callee := .value (.func 143), args := #[.tmp p, .tmp q, .tmp r], argTypes := ts })
    (hj : waits md ops i j p = true) (hk : waits md ops i k q = true) (hl : waits md ops i l r = true) (hFj : F j = E3 A B C) (hFk : F k = E3 A' B' C') (hFl : F l = EL D)
    (hFi : F i = E3 (wX A B C A' B' C' D) (wY A B C A' B' C' D) (wZ A B C A' B' C' D)) : StepOk Tryz.prog md ops Q F a0 w0 i := by
  refine step_call hi _ _ ts hop en_sum fun a w _ _ hF => ?_
  have ea := hF j p hj
  have eb := hF k q hk
  have ec := hF l r hl
  rw [hFj] at ea
  rw [hFk] at eb
  rw [hFl] at ec
  obtain ⟨x, y, z, e1, hx, hy, hz⟩ := ea
  obtain ⟨x', y', z', e2, hx', hy', hz'⟩ := eb
  obtain ⟨e, e3, he⟩ := ec
  show Calls Tryz.prog 143 #[a.tmps.getD p undef, a.tmps.getD q undef, a.tmps.getD r undef] w _
  rw [e1, e2, e3]
  refine (l5Sum_any w x y z x' y' z' e A B C A' B' C' D hx hy hz hx' hy' hz' he).mono ?_
  rintro r w' ⟨u, v, t, rfl, hu, hv, ht, hn⟩
  exact ⟨_, rfl, hn, by rw [hFi]; exact ⟨u, v, t, rfl, hu, hv, ht⟩⟩
end
set_option maxHeartbeats 4000000 in
theorem l5Times_any (w : World) (g gx gy : Nat) (a ax ay : Option Addr) (ck cx cy : Nat) (ks xs ys : List Int) (hk : Rd w g a .u8 ks) (bk : Byt ks) (lk : ks.length ≤ 4096) (hx : Rd w gx ax .u8 xs) (hy : Rd w gy ay .u8 ys) (bx : Byt xs) (by' : Byt ys) (lx : xs.length = 32) (ly : ys.length = 32) :
    Calls Tryz.prog 127 #[.slice a ks.length ck, .agg #[.slice ax xs.length cx, .slice ay ys.length cy]] w fun r w' => ∃ (top : List Int) (p : W3) (x y z : Nat → Int), Canon top (lsum (fun j => ks.getD j 0) ks.length) ∧ p = acc dE (num xs, num ys, 1) (bitOf top) (8 * top.length) ∧ r = .returned (ag48 x y z) ∧
      (L16 x ∧ s16 x 16 % PP = p.1 % PP) ∧ (L16 y ∧ s16 y 16 % PP = p.2.1 % PP) ∧ (L16 z ∧ s16 z 16 % PP = p.2.2 % PP) ∧ Below w.heap.size w w' := by
  have T := two_cells w (.slice ax xs.length cx) (.slice ay ys.length cy) 107
  have m1 : Below w.heap.size w (w.alloc (.cells #[.slice ax xs.length cx, .slice ay ys.length cy] 107)) := (Below.refl _ _).alloc (Nat.le_refl _) _
  have s1 : (w.alloc (.cells #[.slice ax xs.length cx, .slice ay ys.length cy] 107)).heap.size = w.heap.size + 1 := by simp
  obtain ⟨CX, CY⟩ := T
  have LX := hide lx
  have LY := hide ly
  clear lx ly
  go_enter Tryz.func127, Tryz.ntmps127
  go_upto_region 1 with fail
  generalize w.alloc (.cells #[.slice ax xs.length cx, .slice ay ys.length cy] 107) = wa at *
  have TR : (wa.alloc zObj48).there wa.heap.size 0 48 := there_new wa _ _
  have m2 : Below wa.heap.size wa (wa.alloc zObj48) := (Below.refl _ _).alloc (Nat.le_refl _) _
  rw [s1] at TR
  replace CX := (m2.cell (block_lt_of_cell CX)).trans CX
  replace CY := (m2.cell (block_lt_of_cell CY)).trans CY
  have N := nxt m1 m2
  obtain ⟨wr, hwr⟩ : ∃ W, W = wa.alloc zObj48 := ⟨_, rfl⟩
  rw [← hwr] at TR N CX CY
  change Code.wp _ _ _ _ (wa.alloc zObj48)
  rw [← hwr]
  clear hwr m1 m2 s1
  have RK := hk.up N
  have OX := hide (of_ok (hx.up N) bx LX.out)
  have OY := hide (of_ok (hy.up N) by' LY.out)
  clear hk hx hy
  refine region_new16 2 1 0 5 10 _ (fun i => [EL dE, NB wr 16].getD i Fact.no) (dE) (by kernel_rfl) rfl rfl rfl (by kernel_rfl) (by kernel_rfl) rfl rfl ?_ ?_
  · intro i hi
    obtain rfl | rfl : i = 0 ∨ i = 1 := by omega
    · exact step_d rfl rfl rfl
    · exact step_new16 rfl rfl rfl
  intro vs1 q5 W1 v5 h5 n1 E5 T5
  have z5 : w.heap.size + 1 < wr.heap.size := there_lt (by omega) TR
  replace CX := (n1.cell (block_lt_of_cell CX)).trans CX
  replace CY := (n1.cell (block_lt_of_cell CY)).trans CY
  replace TR := there_up (by omega) TR n1
  replace RK := RK.up n1
  replace OX := hide (of_up OX.out n1)
  replace OY := hide (of_up OY.out n1)
  replace N := nxt N n1
  have y5 := E5.lt
  clear n1 T5
  simp only [puts, v5, Act.put, List.setIfInBounds_toArray, List.set_cons_succ, List.set_cons_zero]
  clear v5
  go_upto_region 2 with fail
  refine region_new48 5 4 3 6 14 _ (fun i => [EL 0, EL 1, EL 1, E3 (0) (1) (1), NB W1 48].getD i Fact.no) (0) (1) (1) (by kernel_rfl) rfl rfl rfl (by kernel_rfl) (by kernel_rfl) rfl rfl ?_ ?_
  · intro i hi
    obtain rfl | rfl | rfl | rfl | rfl : i = 0 ∨ i = 1 ∨ i = 2 ∨ i = 3 ∨ i = 4 := by omega
    · exact step_small rfl 0 (by omega) rfl rfl
    · exact step_small rfl 1 (by omega) rfl rfl
    · exact step_small rfl 1 (by omega) rfl rfl
    · exact step_b48 rfl 11 12 13 0 1 2 _ _ _ rfl (by kernel_rfl) (by kernel_rfl) (by kernel_rfl) rfl rfl rfl rfl
    · exact step_new48 rfl rfl rfl
  intro vs2 q6 W2 v6 h6 n2 E6 T6
  replace CX := (n2.cell (block_lt_of_cell CX)).trans CX
  replace CY := (n2.cell (block_lt_of_cell CY)).trans CY
  replace TR := there_up (by omega) TR n2
  replace RK := RK.up n2
  replace OX := hide (of_up OX.out n2)
  replace OY := hide (of_up OY.out n2)
  replace E5 := E5.up n2
  replace N := nxt N n2
  have y6 := there_lt (by omega) T6
  clear n2
  simp only [puts, v6, Act.put, List.setIfInBounds_toArray, List.set_cons_succ, List.set_cons_zero]
  clear v6
  go_upto_region 3 with fail
  refine region_new48 9 8 7 7 22 _ (fun i => [Fact.eq (.pointer (some ⟨w.heap.size, 0, none⟩)), Fact.eq (.slice ax xs.length cx), EL (num xs), Fact.eq (.pointer (some ⟨w.heap.size, 1, none⟩)), Fact.eq (.slice ay ys.length cy), EL (num ys), EL 1, E3 (num xs) (num ys) (1), NB W2 48].getD i Fact.no) (num xs) (num ys) (1) (by kernel_rfl) rfl rfl rfl (by kernel_rfl) (by kernel_rfl) rfl rfl ?_ ?_
  · intro i hi
    obtain rfl | rfl | rfl | rfl | rfl | rfl | rfl | rfl | rfl : i = 0 ∨ i = 1 ∨ i = 2 ∨ i = 3 ∨ i = 4 ∨ i = 5 ∨ i = 6 ∨ i = 7 ∨ i = 8 := by omega
    · exact step_fld rfl 107 3 0 rfl (by kernel_rfl) _ _ rfl (fxP _) rfl
    · exact step_lds rfl 15 0 rfl (by kernel_rfl) _ _ rfl _ _ _ CX rfl
    · exact step_of rfl 16 1 rfl (by kernel_rfl) OX.out rfl rfl
    · exact step_fld rfl 107 3 1 rfl (by kernel_rfl) _ _ rfl (fyP _) rfl
    · exact step_lds rfl 18 3 rfl (by kernel_rfl) _ _ rfl _ _ _ CY rfl
    · exact step_of rfl 19 4 rfl (by kernel_rfl) OY.out rfl rfl
    · exact step_small rfl 1 (by omega) rfl rfl
    · exact step_b48 rfl 17 20 21 2 5 6 _ _ _ rfl (by kernel_rfl) (by kernel_rfl) (by kernel_rfl) rfl rfl rfl rfl
    · exact step_new48 rfl rfl rfl
  intro vs3 q7 Wv v7 h7 n3 E7 T7
  replace TR := there_up (by omega) TR n3
  replace RK := RK.up n3
  replace E5 := E5.up n3
  replace E6 := E6.up n3
  replace T6 := there_up (by omega) T6 n3
  replace N := nxt N n3
  have y7 := there_lt (by omega) T7
  clear n3 CX CY OX OY LX LY
  simp only [puts, v7, Act.put, List.setIfInBounds_toArray, List.set_cons_succ, List.set_cons_zero]
  clear v7
  go_wp2_with fail
  refine (l2Num_any Wv g a ck ks RK bk (by omega)).mono ?_
  rintro r W4 ⟨top, CT, lt', ⟨aT, cT, gT, rfl, oT, pT, qT, hT⟩, n4⟩
  replace TR := there_up (by omega) TR n4
  replace E5 := E5.up n4
  replace E6 := E6.up n4
  replace E7 := E7.up n4
  replace T6 := there_up (by omega) T6 n4
  replace T7 := there_up (by omega) T7 n4
  replace N := nxt N n4
  clear n4 RK
  go_wp2
  have HC := hide CT
  have TB : Byt top := CT.1
  clear CT
  have g6 : q5 < q6 := by omega
  have g7 : q6 < q7 := by omega
  have gg : q7 < gT := by omega
  have gr : w.heap.size + 1 < q5 := by omega
  have tl : top.length ≤ 4096 := by omega
  clear h5 z5 y5 h6 y6 h7 y7 hT
  obtain ⟨p, hp⟩ : ∃ p : W3, p = (num xs, num ys, 1) := ⟨_, rfl⟩
  have E6' : Elt3 W4 q6 (acc dE p (bitOf top) 0).1 (acc dE p (bitOf top) 0).2.1 (acc dE p (bitOf top) 0).2.2 := E6
  have E7' : Elt3 W4 q7 (stp dE p 0).1 (stp dE p 0).2.1 (stp dE p 0).2.2 := by rw [hp]; exact E7
  clear E6 E7
  go_loopw [9] (fun i wr => ∃ k : Nat, k ≤ 8 * top.length ∧ i = .int .i64 k ∧ Elt3 wr q6 (acc dE p (bitOf top) k).1 (acc dE p (bitOf top) k).2.1 (acc dE p (bitOf top) k).2.2 ∧ wr.there q6 0 48 ∧ Elt3 wr q7 (stp dE p k).1 (stp dE p k).2.1 (stp dE p k).2.2 ∧ wr.there q7 0 48 ∧ Elt wr q5 0 dE ∧ Own wr gT aT .u8 top ∧ wr.there (w.heap.size + 1) 0 48 ∧ Below w.heap.size w wr) (fun i _ => 8 * top.length - (intOf i).toNat)
  case atStart => exact ⟨0, Nat.zero_le _, rfl, E6', T6, E7', T7, E5, oT, TR, N⟩
  case round =>
    clear E6' E7' T6 T7 E5 oT TR N
    obtain ⟨k, hk, rfl, E6, T6, E7, T7, E5, oT, TR, N⟩ := hrel
    by_cases hlt : k < 8 * top.length
    · have k5 : (k : Int) < (top.length : Int) * 8 := by omega
      obtain ⟨j, hj⟩ : ∃ j : Nat, k / 8 = j := ⟨_, rfl⟩
      obtain ⟨m, hm⟩ : ∃ m : Nat, k % 8 = m := ⟨_, rfl⟩
      have p1 : (k : Int) / 8 = (j : Int) := by omega
      have p3 : (k : Int) % 8 = (m : Int) := by omega
      have p4 : m ≤ 7 := by omega
      have DG := l1Digit_any wr gT aT cT top (j : Int) oT.rd TB (by omega) (by omega) (by omega)
      rw [Int.toNat_natCast] at DG
      have BT : Hid (bitOf top k = dig top j / 2 ^ m % 2) := by show _ = _; unfold bitOf; rw [hj, hm]
      have xb := dig_byt TB j
      have pm := p2pos m
      have v0 : 0 ≤ dig top j / 2 ^ m := Int.ediv_nonneg xb.1 (by omega)
      have v1 : dig top j / 2 ^ m < 256 := Int.lt_of_le_of_lt (Int.ediv_le_self _ xb.1) (by omega)
      have e1 := and1 _ v0 v1
      generalize dig top j = x at *
      clear hj hm
      have AC := hide (show acc dE p (bitOf top) (k + 1) = if bitOf top k = 1 then wsum (acc dE p (bitOf top) k) (stp dE p k) dE else acc dE p (bitOf top) k from rfl)
      have ST := hide (show stp dE p (k + 1) = wsum (stp dE p k) (stp dE p k) dE from rfl)
      obtain ⟨ac, hac⟩ : ∃ c, c = acc dE p (bitOf top) k := ⟨_, rfl⟩
      obtain ⟨st, hst⟩ : ∃ c, c = stp dE p k := ⟨_, rfl⟩
      rw [← hac] at E6 AC
      rw [← hst] at E7 ST AC
      clear hac hst
      by_cases hbit : x / 2 ^ m % 2 = 1
      · have tb1 : (x / 2 ^ m % 2 == 1) = true := by simp [hbit]
        have AC' := hide (AC.out.trans (if_pos (BT.out.trans hbit)))
        clear AC BT hbit
        go_upto_region 9 with (go_at_call 109; refine DG.mono ?_; rintro r w' ⟨rfl, rfl⟩)
        clear DG
        refine region_put48 4 3 6 45 _ (fun i => [E3 (ac.1) (ac.2.1) (ac.2.2), E3 (st.1) (st.2.1) (st.2.2), EL (dE), E3 (wX (ac.1) (ac.2.1) (ac.2.2) (st.1) (st.2.1) (st.2.2) (dE)) (wY (ac.1) (ac.2.1) (ac.2.2) (st.1) (st.2.1) (st.2.2) (dE)) (wZ (ac.1) (ac.2.1) (ac.2.2) (st.1) (st.2.1) (st.2.2) (dE))].getD i Fact.no) (wX (ac.1) (ac.2.1) (ac.2.2) (st.1) (st.2.1) (st.2.2) (dE)) (wY (ac.1) (ac.2.1) (ac.2.2) (st.1) (st.2.1) (st.2.2) (dE)) (wZ (ac.1) (ac.2.1) (ac.2.2) (st.1) (st.2.1) (st.2.2) (dE)) _ (by kernel_rfl) rfl rfl rfl (by kernel_rfl) rfl T6 (by kernel_rfl) rfl ?_ ?_
        · intro i hi
          obtain rfl | rfl | rfl | rfl : i = 0 ∨ i = 1 ∨ i = 2 ∨ i = 3 := by omega
          · exact step_e3 rfl 6 rfl (by kernel_rfl) _ rfl E6 rfl
          · exact step_e3 rfl 7 rfl (by kernel_rfl) _ rfl E7 rfl
          · exact step_el rfl 131 5 rfl Go.Proofs.YteedfhljbdnmnaaGreatDoor.u50 i50 (by kernel_rfl) _ _ rfl _ E5 rfl
          · exact step_sum rfl 42 43 44 0 1 2 _ _ _ _ _ _ _ rfl (by kernel_rfl) (by kernel_rfl) (by kernel_rfl) rfl rfl rfl rfl
        intro vs9 Wa w9 na bq E6n T6n nb
        replace N := nb w w.heap.size (nxt N na) (by omega)
        replace E7 := E7.but bq (by omega)
        replace T7 := there_but (by omega) T7 bq (by omega)
        replace E5 := E5.but bq (by omega)
        replace oT := oT.butQ bq (fun _ => by omega)
        replace TR := there_but (by omega) TR bq (by omega)
        clear na bq nb E6 T6
        simp only [puts, Act.put, List.setIfInBounds_toArray, List.set_cons_succ, List.set_cons_zero]
        go_upto_region 10 with fail
        refine region_put48 4 3 7 49 _ (fun i => [E3 (st.1) (st.2.1) (st.2.2), E3 (st.1) (st.2.1) (st.2.2), EL (dE), E3 (wX (st.1) (st.2.1) (st.2.2) (st.1) (st.2.1) (st.2.2) (dE)) (wY (st.1) (st.2.1) (st.2.2) (st.1) (st.2.1) (st.2.2) (dE)) (wZ (st.1) (st.2.1) (st.2.2) (st.1) (st.2.1) (st.2.2) (dE))].getD i Fact.no) (wX (st.1) (st.2.1) (st.2.2) (st.1) (st.2.1) (st.2.2) (dE)) (wY (st.1) (st.2.1) (st.2.2) (st.1) (st.2.1) (st.2.2) (dE)) (wZ (st.1) (st.2.1) (st.2.2) (st.1) (st.2.1) (st.2.2) (dE)) _ (by kernel_rfl) rfl rfl rfl (by kernel_rfl) rfl T7 (by kernel_rfl) rfl ?_ ?_
        · intro i hi
          obtain rfl | rfl | rfl | rfl : i = 0 ∨ i = 1 ∨ i = 2 ∨ i = 3 := by omega
          · exact step_e3 rfl 7 rfl (by kernel_rfl) _ rfl E7 rfl
          · exact step_e3 rfl 7 rfl (by kernel_rfl) _ rfl E7 rfl
          · exact step_el rfl 131 5 rfl Go.Proofs.YteedfhljbdnmnaaGreatDoor.u50 i50 (by kernel_rfl) _ _ rfl _ E5 rfl
          · exact step_sum rfl 46 47 48 0 1 2 _ _ _ _ _ _ _ rfl (by kernel_rfl) (by kernel_rfl) (by kernel_rfl) rfl rfl rfl rfl
        intro vs10 Wb w10 na bq E7n T7n nb
        replace N := nb w w.heap.size (nxt N na) (by omega)
        replace E6n := E6n.but bq (by omega)
        replace T6n := there_but (by omega) T6n bq (by omega)
        replace E5 := E5.but bq (by omega)
        replace oT := oT.butQ bq (fun _ => by omega)
        replace TR := there_but (by omega) TR bq (by omega)
        clear na bq nb E7 T7
        simp only [puts, Act.put, List.setIfInBounds_toArray, List.set_cons_succ, List.set_cons_zero]
        go_wp2
        go_roundw
        case rel => exact ⟨k + 1, by omega, by go_num, by rw [AC'.out]; exact E6n, T6n, by rw [ST.out]; exact E7n, T7n, E5, oT, TR, N⟩
        case measure => simp [intOf]; omega
      · have tb1 : (x / 2 ^ m % 2 == 1) = false := by simp [hbit]
        have AC' := hide (AC.out.trans (if_neg (fun h => hbit (BT.out.symm.trans h))))
        clear AC BT hbit
        go_upto_region 10 with (go_at_call 109; refine DG.mono ?_; rintro r w' ⟨rfl, rfl⟩)
        clear DG
        refine region_put48 4 3 7 49 _ (fun i => [E3 (st.1) (st.2.1) (st.2.2), E3 (st.1) (st.2.1) (st.2.2), EL (dE), E3 (wX (st.1) (st.2.1) (st.2.2) (st.1) (st.2.1) (st.2.2) (dE)) (wY (st.1) (st.2.1) (st.2.2) (st.1) (st.2.1) (st.2.2) (dE)) (wZ (st.1) (st.2.1) (st.2.2) (st.1) (st.2.1) (st.2.2) (dE))].getD i Fact.no) (wX (st.1) (st.2.1) (st.2.2) (st.1) (st.2.1) (st.2.2) (dE)) (wY (st.1) (st.2.1) (st.2.2) (st.1) (st.2.1) (st.2.2) (dE)) (wZ (st.1) (st.2.1) (st.2.2) (st.1) (st.2.1) (st.2.2) (dE)) _ (by kernel_rfl) rfl rfl rfl (by kernel_rfl) rfl T7 (by kernel_rfl) rfl ?_ ?_
        · intro i hi
          obtain rfl | rfl | rfl | rfl : i = 0 ∨ i = 1 ∨ i = 2 ∨ i = 3 := by omega
          · exact step_e3 rfl 7 rfl (by kernel_rfl) _ rfl E7 rfl
          · exact step_e3 rfl 7 rfl (by kernel_rfl) _ rfl E7 rfl
          · exact step_el rfl 131 5 rfl Go.Proofs.YteedfhljbdnmnaaGreatDoor.u50 i50 (by kernel_rfl) _ _ rfl _ E5 rfl
          · exact step_sum rfl 46 47 48 0 1 2 _ _ _ _ _ _ _ rfl (by kernel_rfl) (by kernel_rfl) (by kernel_rfl) rfl rfl rfl rfl
        intro vs10 Wb w10 na bq E7n T7n nb
        replace N := nb w w.heap.size (nxt N na) (by omega)
        replace E6 := E6.but bq (by omega)
        replace T6 := there_but (by omega) T6 bq (by omega)
        replace E5 := E5.but bq (by omega)
        replace oT := oT.butQ bq (fun _ => by omega)
        replace TR := there_but (by omega) TR bq (by omega)
        clear na bq nb E7 T7
        simp only [puts, Act.put, List.setIfInBounds_toArray, List.set_cons_succ, List.set_cons_zero]
        go_wp2
        go_roundw
        case rel => exact ⟨k + 1, by omega, by go_num, by rw [AC'.out]; exact E6, T6, by rw [ST.out]; exact E7n, T7n, E5, oT, TR, N⟩
        case measure => simp [intOf]; omega
    · obtain rfl : k = 8 * top.length := by omega
      have k5 : decide (((8 * top.length : Nat) : Int) < (top.length : Int) * 8) = false := by simp; omega
      obtain ⟨ac, hac⟩ : ∃ c, c = acc dE p (bitOf top) (8 * top.length) := ⟨_, rfl⟩
      rw [← hac] at E6
      have HAC := hide hac
      clear hac
      go_upto_region 11 with fail
      refine region_put48 1 0 4 50 _ (fun i => [E3 (ac.1) (ac.2.1) (ac.2.2)].getD i Fact.no) (ac.1) (ac.2.1) (ac.2.2) _ (by kernel_rfl) rfl rfl rfl (by kernel_rfl) rfl TR (by kernel_rfl) rfl ?_ ?_
      · intro i hi
        obtain rfl : i = 0 := by omega
        exact step_e3 rfl 6 rfl (by kernel_rfl) _ rfl E6 rfl
      intro vs11 Wb w11 na bq E4n T4n nb
      have NS := nb w w.heap.size (nxt N na) (by omega)
      clear na bq nb E6 E7 T6 T7 E5 oT TR N T4n
      simp only [puts, Act.put, List.setIfInBounds_toArray, List.set_cons_succ, List.set_cons_zero]
      obtain ⟨x, y, z, rg, _, hx, hy, hz⟩ := E4n
      have lz : (c48 x y z).length = 48 := c48_len x y z
      go_wp2
      obtain ⟨fs, hfs⟩ := u144
      exact bodyPost_ret (v := ag48 x y z) (results_cell_mid Tryz.results127 _ _ (w.heap.size + 1) (c48 x y z) _ rfl rg hfs rfl (by rw [lz]; exact i144)) rfl ⟨top, ac, x, y, z, HC.out, by rw [HAC.out, hp], rfl, hx, hy, hz, NS⟩
end Go.Proofs.YteedfhljbdnmnaaGreatDoor
namespace Go.Proofs.YteedfhljbdnmnaaGreatDoor
set_option maxRecDepth 100000
open Go Go.RowKit
def RT (A : Int) : Fact := ⟨fun v _ => ∃ t, v = .tuple #[.bool (rootB A), ag16 t] ∧ L16 t ∧ s16 t 16 % PP = rootV A % PP, fun _ h => h⟩
theorem en_root : enters Tryz.prog 124 = true := by kernel_rfl
section
variable {ops : Array Oper} {Q : Exit → Act → World → Prop} {md : Region.Mode} {F : Nat → Fact} {a0 : Act} {w0 : World} {i : Nat} {o : Oper} {ts : Array TypeId}
theorem step_root (hi : ops[i]? = some o) (p j : Nat) (A : Int) (hop : o.op = .call { callee := .value (.func 124), args := #[.tmp p], argTypes := ts })
    (hj : waits md ops i j p = true) (hFj : F j = EL A) (hFi : F i = RT A) : StepOk Tryz.prog md ops Q F a0 w0 i := by
  refine step_call hi _ _ ts hop en_root fun a w _ _ hF => ?_
  have ea := hF j p hj
  rw [hFj] at ea
  obtain ⟨t, e1, L1, V1⟩ := ea
  show Calls Tryz.prog 124 #[a.tmps.getD p undef] w _
  rw [e1]
  refine (l2RootF_any w t L1 A V1).mono ?_
  rintro r w' ⟨u, rfl, L, V, hn⟩
  rw [hFi]
  exact ⟨_, rfl, hn, u, rfl, L, V⟩
theorem step_ext0 {P : Program} (hi : ops[i]? = some o) (p j : Nat) (A : Int) (hop : o.op = .extract (.tmp p) 0) (hj : waits md ops i j p = true) (hFj : F j = RT A) (hFi : F i = Fact.eq (.bool (rootB A))) : StepOk P md ops Q F a0 w0 i := by
  refine step_pure hi fun a w _ _ hf => ⟨.bool (rootB A), ?_, by rw [hFi]; exact rfl⟩
  have e := hf j p hj
  rw [hFj] at e
  obtain ⟨t, e, _⟩ := e
  have e' : a.eval (.tmp p) = .tuple #[.bool (rootB A), ag16 t] := e
  simp only [execOp, hop, e']
  rfl
theorem step_ext1 {P : Program} (hi : ops[i]? = some o) (p j : Nat) (A : Int) (hop : o.op = .extract (.tmp p) 1) (hj : waits md ops i j p = true) (hFj : F j = RT A) (hFi : F i = EL (rootV A)) : StepOk P md ops Q F a0 w0 i := by
  refine step_pure hi fun a w _ _ hf => ?_
  have e := hf j p hj
  rw [hFj] at e
  obtain ⟨t, e, L, V⟩ := e
  have e' : a.eval (.tmp p) = .tuple #[.bool (rootB A), ag16 t] := e
  refine ⟨ag16 t, ?_, by rw [hFi]; exact ⟨t, rfl, L, V⟩⟩
  simp only [execOp, hop, e']
  rfl
end
section
variable {ops : Array Oper} {Q : Exit → Act → World → Prop} {a0 : Act} {w : World} {id : Nat} {draw : Bool}
theorem region_new16F (k jA jV pA pV : Nat) (o : Oper) (F : Nat → Fact) (A : Int) (hT : textOk .any ops a0.tmps.size k = true) (hk : ops[k]? = some o) (hd : o.dst = none) (hop : o.op = .store 131 (.tmp pA) (.tmp pV))
    (wA : writes ops jA pA = true) (wV : writes ops jV pV = true) (FA : F jA = NB w 16) (FV : F jV = EL A) (steps : ∀ i, i < k → StepOk Tryz.prog .any ops Q F a0 w i)
    (fin : ∀ (vs : Nat → Value) (q : Nat) (W : World), vs pA = .pointer (some ⟨q, 0, none⟩) → w.heap.size ≤ q → Below w.heap.size w W → Elt W q 0 A → W.there q 0 16 → (∀ i d, writes ops i d = true → ∃ Wp, (F i).p (vs d) Wp) → Q .normal (puts vs a0 ops.toList) W) :
    (Code.region id ops draw).wp Tryz.prog Q a0 w := by
  refine region_store k o F (by kernel_rfl) hT hk hd steps fun a W hb hw hF => ?_
  have h1 := hF jA pA wA
  have h2 := hF jV pV wV
  rw [FA] at h1
  rw [FV] at h2
  obtain ⟨_, q, eq, th, hq⟩ := h1
  obtain ⟨t, ev, L, V⟩ := h2
  refine wp_store_mid 131 (.tmp pA) (.tmp pV) hop q 0 (a16 t) eq ev (by rw [a16_size]; exact th) (by rw [a16_size]; exact i50) (a16_one t) ?_
  obtain ⟨vs, hvs⟩ : ∃ vs : Nat → Value, ∀ d, a.tmps.getD d undef = vs d := ⟨_, fun _ => rfl⟩
  rw [hd]
  show Q .normal a _
  rw [puts_of hT rfl hb vs hvs]
  exact fin vs q _ ((hvs pA).symm.trans eq) hq (below_setCells hq _ _ _ hw) (set_elt th L V) (World.there_setCells th _ _ _) (fun i d h => ⟨W, by rw [← hvs]; exact hF i d h⟩)
end
end Go.Proofs.YteedfhljbdnmnaaGreatDoor
namespace Go.Proofs.YteedfhljbdnmnaaGreatDoor
set_option maxRecDepth 100000
open Go Go.RowKit
theorem en_int : enters Tryz.prog 79 = true := by kernel_rfl
theorem en_little : enters Tryz.prog 78 = true := by kernel_rfl
theorem en_times : enters Tryz.prog 127 = true := by kernel_rfl
theorem en_plain : enters Tryz.prog 126 = true := by kernel_rfl
theorem en_zero : enters Tryz.prog 125 = true := by kernel_rfl
def E3any : Fact := ⟨fun v _ => ∃ x y z, v = ag48 x y z ∧ L16 x ∧ L16 y ∧ L16 z, fun _ h => h⟩
def PtOk (xs ys : List Int) : Prop := (Byt xs ∧ xs.length = 32) ∧ (Byt ys ∧ ys.length = 32)
theorem bytes_5 (v : Int) (n : Nat) : Byt (fill (byt v) n) := fun i => by
  by_cases hi : i < n
  · rw [fill_get _ _ _ hi]; unfold byt; omega
  · rw [List.getD_eq_getElem?_getD, List.getElem?_eq_none (by rw [fill_len]; omega)]; simp
theorem dig_bytes_5 {xs : List Int} (h : Byt xs) (n : Nat) : Byt (fill (dig xs) n) := fun i => by
  by_cases hi : i < n
  · rw [fill_get _ _ _ hi]
    have := dig_byt h i
    omega
  · rw [List.getD_eq_getElem?_getD, List.getElem?_eq_none (by rw [fill_len]; omega)]; simp
section
variable {ops : Array Oper} {Q : Exit → Act → World → Prop} {md : Region.Mode} {F : Nat → Fact} {a0 : Act} {w0 : World} {i : Nat} {o : Oper} {ts : Array TypeId}
theorem step_mv0 {P : Program} (hi : ops[i]? = some o) (p : Nat) (hop : (match o.op with | .move (.tmp q) => q == p | .assign (.tmp q) => q == p | _ => false) = true) (hp : apart ops p = true) {v : Value} (h0 : a0.tmps.getD p undef = v) (hF : F i = Fact.eq v) : StepOk P md ops Q F a0 w0 i := by
  refine step_pure hi fun a w hb _ _ => ⟨v, ?_, by rw [hF]; exact rfl⟩
  have e := (based_at hb p hp).trans h0
  cases ho : o.op with
  | move x =>
    cases x with
    | tmp q =>
      rw [ho] at hop
      obtain rfl : q = p := by simpa using hop
      simp [execOp, ho, e]
    | _ => rw [ho] at hop; simp at hop
  | assign x =>
    cases x with
    | tmp q =>
      rw [ho] at hop
      obtain rfl : q = p := by simpa using hop
      simp [execOp, ho, e]
    | _ => rw [ho] at hop; simp at hop
  | _ => rw [ho] at hop; simp at hop
theorem step_int (hi : ops[i]? = some o) (p j : Nat) (v : Int) (hv : 0 ≤ v ∧ v ≤ 255) (hop : o.op = .call { callee := .value (.func 79), args := #[.tmp p], argTypes := ts })
    (hj : waits md ops i j p = true) (hFj : F j = Fact.eq (.int .i64 v)) (hFi : F i = RN w0 (fun xs => xs.length ≤ 1 ∧ Byt xs)) : StepOk Tryz.prog md ops Q F a0 w0 i := by
  refine step_call hi _ _ ts hop en_int fun a w _ hw hF => ?_
  have ea := hF j p hj
  rw [hFj] at ea
  have e1 : a.tmps.getD p undef = .int .i64 v := ea
  show Calls Tryz.prog 79 #[a.tmps.getD p undef] w _
  rw [e1]
  refine (l1Int_any w v hv.1 hv.2).mono ?_
  rintro r w' ⟨ys, hl, hb, ⟨b, c, g, rfl, ow, k1, k2, hg⟩, hn⟩
  rw [hFi]
  exact ⟨_, rfl, hn, ys, b, c, g, rfl, ow, Nat.le_trans hw.size hg, ⟨hl, hb⟩, k1, k2⟩
theorem step_lit (hi : ops[i]? = some o) (p j : Nat) (hop : o.op = .call { callee := .value (.func 78), args := #[.tmp p, .const (.int .i64 32)], argTypes := ts })
    (hj : waits md ops i j p = true) (hFj : F j = RN w0 (fun xs => xs.length ≤ 1 ∧ Byt xs)) (hFi : F i = RN w0 (fun xs => xs.length = 32 ∧ Byt xs)) : StepOk Tryz.prog md ops Q F a0 w0 i := by
  refine step_call hi _ _ ts hop en_little fun a w _ hw hF => ?_
  have ea := hF j p hj
  rw [hFj] at ea
  obtain ⟨xs, b, c, g, e1, ow, hg, ⟨hl, hb⟩, k1, k2⟩ := ea
  show Calls Tryz.prog 78 #[a.tmps.getD p undef, .int .i64 32] w _
  rw [e1]
  refine (l1Little_any w g b c xs 32 ow.rd hb (by omega) (by omega)).mono ?_
  rintro r w' ⟨rfl, B, hn⟩
  rw [hFi]
  refine ⟨_, rfl, hn, fill (dig xs) 32, _, 32, w.heap.size, by rw [fill_len], B.own0, hw.size, ⟨fill_len _ _, ?_⟩, by simp, by rw [fill_len]; omega⟩
  exact dig_bytes_5 hb 32
theorem step_times (hi : ops[i]? = some o) (p q j k : Nat) {f g : List Int} (hop : o.op = .call { callee := .value (.func 127), args := #[.tmp p, .tmp q], argTypes := ts })
    (hj : waits md ops i j p = true) (hk : waits md ops i k q = true) (hFj : F j = RN w0 (fun xs => xs.length = 32 ∧ Byt xs)) (hFk : F k = PT w0 (fun xs ys => xs = f ∧ ys = g)) (hFi : F i = E3any) (hf : PtOk f g := by exact ⟨⟨bytes_5 _ _, fill_len _ _⟩, bytes_5 _ _, fill_len _ _⟩) : StepOk Tryz.prog md ops Q F a0 w0 i := by
  refine step_call hi _ _ ts hop en_times fun a w _ _ hF => ?_
  have ea := hF j p hj
  have eb := hF k q hk
  rw [hFj] at ea
  rw [hFk] at eb
  obtain ⟨ks, b, c, h, e1, ow, _, ⟨hl, hb⟩, _, _⟩ := ea
  obtain ⟨xs, ys, b1, b2, c1, c2, h1, h2, e2, o1, o2, _, _, rfl, rfl⟩ := eb
  show Calls Tryz.prog 127 #[a.tmps.getD p undef, a.tmps.getD q undef] w _
  rw [e1, e2]
  refine (l5Times_any w h h1 h2 b b1 b2 c c1 c2 ks xs ys ow.rd hb (by omega) o1.rd o2.rd hf.1.1 hf.2.1 hf.1.2 hf.2.2).mono ?_
  rintro r w' ⟨top, P, x, y, z, _, _, rfl, hx, hy, hz, hn⟩
  rw [hFi]
  exact ⟨_, rfl, hn, x, y, z, rfl, hx.1, hy.1, hz.1⟩
theorem step_plain (hi : ops[i]? = some o) (p j : Nat) (hop : o.op = .call { callee := .value (.func 126), args := #[.tmp p], argTypes := ts })
    (hj : waits md ops i j p = true) (hFj : F j = E3any) (hFi : F i = PT w0 PtOk) : StepOk Tryz.prog md ops Q F a0 w0 i := by
  refine step_call hi _ _ ts hop en_plain fun a w _ hw hF => ?_
  have ea := hF j p hj
  rw [hFj] at ea
  obtain ⟨x, y, z, e1, hx, hy, hz⟩ := ea
  show Calls Tryz.prog 126 #[a.tmps.getD p undef] w _
  rw [e1]
  refine (l5Plain_any w x y z _ _ _ ⟨hx, rfl⟩ ⟨hy, rfl⟩ ⟨hz, rfl⟩).mono ?_
  rintro r w' ⟨⟨b, b', c, c', g, g', rfl, o1, o2, l1, l2⟩, hn⟩
  rw [hFi]
  exact ⟨_, rfl, hn, _, _, b, b', c, c', g, g', rfl, o1, o2, Nat.le_trans hw.size l1, Nat.le_trans hw.size l2, ⟨bytes_5 _ _, fill_len _ _⟩, bytes_5 _ _, fill_len _ _⟩
theorem step_zero (hi : ops[i]? = some o) (hop : o.op = .call { callee := .value (.func 125), args := #[], argTypes := ts }) (hFi : F i = PT w0 PtOk) : StepOk Tryz.prog md ops Q F a0 w0 i := by
  refine step_call hi _ _ ts hop en_zero fun a w _ hw _ => ?_
  refine (pointZero_any w).mono ?_
  rintro r w' ⟨⟨b, b', c, c', g, g', rfl, o1, o2, l1, l2⟩, hn⟩
  rw [hFi]
  exact ⟨_, rfl, hn, _, _, b, b', c, c', g, g', rfl, o1, o2, Nat.le_trans hw.size l1, Nat.le_trans hw.size l2, ⟨bytes_5 _ _, fill_len _ _⟩, bytes_5 _ _, fill_len _ _⟩
end
set_option maxHeartbeats 4000000 in
theorem l5Small_any (w : World) (k : Int) (k0 : 0 ≤ k) (k1 : k ≤ 255) :
    Calls Tryz.prog 88 #[.int .i64 k] w fun r w' => ∃ xs ys, NewPt w.heap.size w' r xs ys ∧ (Byt xs ∧ xs.length = 32) ∧ (Byt ys ∧ ys.length = 32) ∧ Below w.heap.size w w' := by
  go_enter Tryz.func88, Tryz.ntmps88
  go_upto_region 1 with fail
  change Code.wp _ _ _ _ (w.alloc pObj)
  have TR := there_p w
  have N : Below w.heap.size w (w.alloc pObj) := (Below.refl _ _).alloc (Nat.le_refl _) _
  generalize w.alloc pObj = wr at *
  have zr := there_lt (by omega) TR
  refine region_new16 2 1 0 3 10 _ (fun i => [EL dE, NB wr 16].getD i Fact.no) (dE) (by kernel_rfl) rfl rfl rfl (by kernel_rfl) (by kernel_rfl) rfl rfl ?_ ?_
  · intro i hi
    obtain rfl | rfl : i = 0 ∨ i = 1 := by omega
    · exact step_d rfl rfl rfl
    · exact step_new16 rfl rfl rfl
  intro vs1 q3 W1 v3 h3 n1 E3' T3
  have mn1 := n1.size
  replace TR := there_up (by omega) TR n1
  replace N := nxt N n1
  clear n1 T3
  simp only [puts, v3, Act.put, List.setIfInBounds_toArray, List.set_cons_succ, List.set_cons_zero]
  clear v3
  go_upto_region 2 with fail
  refine region_new16 9 7 6 5 17 _ (fun i => [EL 0, EL 1, EL ((0) - (1)), RT ((0) - (1)), RT ((0) - (1)), Fact.eq (.bool (rootB ((0) - (1)))), EL (rootV ((0) - (1))), NB W1 16, Fact.eq (.bool (rootB ((0) - (1))))].getD i Fact.no) (rootV ((0) - (1))) (by kernel_rfl) rfl rfl rfl (by kernel_rfl) (by kernel_rfl) rfl rfl ?_ ?_
  · intro i hi
    obtain rfl | rfl | rfl | rfl | rfl | rfl | rfl | rfl | rfl : i = 0 ∨ i = 1 ∨ i = 2 ∨ i = 3 ∨ i = 4 ∨ i = 5 ∨ i = 6 ∨ i = 7 ∨ i = 8 := by omega
    · exact step_small rfl 0 (by omega) rfl rfl
    · exact step_small rfl 1 (by omega) rfl rfl
    · exact step_sub rfl 12 13 0 1 _ _ rfl (by kernel_rfl) (by kernel_rfl) rfl rfl rfl
    · exact step_root rfl 14 2 _ rfl (by kernel_rfl) rfl rfl
    · exact step_move rfl 15 3 (by exact Or.inl rfl) (by kernel_rfl) rfl
    · exact step_ext0 rfl 11 4 _ rfl (by kernel_rfl) rfl rfl
    · exact step_ext1 rfl 11 4 _ rfl (by kernel_rfl) rfl rfl
    · exact step_new16 rfl rfl rfl
    · exact step_move rfl 16 5 (by exact Or.inr rfl) (by kernel_rfl) rfl
  intro vs2 q5 W2 v5 h5 n2 E5 T5
  have y5 := E5.lt
  have mn2 := n2.size
  replace E3' := E3'.up n2
  replace TR := there_up (by omega) TR n2
  replace N := nxt N n2
  clear n2 T5
  simp only [puts, v5, Act.put, List.setIfInBounds_toArray, List.set_cons_succ, List.set_cons_zero]
  clear v5
  go_upto_region 3 with fail
  refine region_new16 9 7 6 7 24 _ (fun i => [EL 1, EL (dE), EL ((1) + (dE)), RT ((1) + (dE)), RT ((1) + (dE)), Fact.eq (.bool (rootB ((1) + (dE)))), EL (rootV ((1) + (dE))), NB W2 16, Fact.eq (.bool (rootB ((1) + (dE))))].getD i Fact.no) (rootV ((1) + (dE))) (by kernel_rfl) rfl rfl rfl (by kernel_rfl) (by kernel_rfl) rfl rfl ?_ ?_
  · intro i hi
    obtain rfl | rfl | rfl | rfl | rfl | rfl | rfl | rfl | rfl : i = 0 ∨ i = 1 ∨ i = 2 ∨ i = 3 ∨ i = 4 ∨ i = 5 ∨ i = 6 ∨ i = 7 ∨ i = 8 := by omega
    · exact step_small rfl 1 (by omega) rfl rfl
    · exact step_el rfl 131 3 rfl Go.Proofs.YteedfhljbdnmnaaGreatDoor.u50 i50 (by kernel_rfl) _ _ rfl _ E3' rfl
    · exact step_add rfl 19 20 0 1 _ _ rfl (by kernel_rfl) (by kernel_rfl) rfl rfl rfl
    · exact step_root rfl 21 2 _ rfl (by kernel_rfl) rfl rfl
    · exact step_move rfl 22 3 (by exact Or.inl rfl) (by kernel_rfl) rfl
    · exact step_ext0 rfl 18 4 _ rfl (by kernel_rfl) rfl rfl
    · exact step_ext1 rfl 18 4 _ rfl (by kernel_rfl) rfl rfl
    · exact step_new16 rfl rfl rfl
    · exact step_move rfl 23 5 (by exact Or.inr rfl) (by kernel_rfl) rfl
  intro vs3 q7 W3' v7 h7 n3 E7 T7
  have mn3 := n3.size
  replace E3' := E3'.up n3
  replace E5 := E5.up n3
  replace TR := there_up (by omega) TR n3
  replace N := nxt N n3
  clear n3 T7
  simp only [puts, v7, Act.put, List.setIfInBounds_toArray, List.set_cons_succ, List.set_cons_zero]
  clear v7
  go_upto_region 4 with fail
  refine region_new16F 12 10 9 9 34 _ (fun i => [EL 1, EL (rootV ((1) + (dE))), EL ((1) + (rootV ((1) + (dE)))), EL (dE), EL (iv (dE)), EL (((1) + (rootV ((1) + (dE)))) * (iv (dE))), RT (((1) + (rootV ((1) + (dE)))) * (iv (dE))), RT (((1) + (rootV ((1) + (dE)))) * (iv (dE))), Fact.eq (.bool (rootB (((1) + (rootV ((1) + (dE)))) * (iv (dE))))), EL (rootV (((1) + (rootV ((1) + (dE)))) * (iv (dE)))), NB W3' 16, Fact.eq (.bool (rootB (((1) + (rootV ((1) + (dE)))) * (iv (dE)))))].getD i Fact.no) (rootV (((1) + (rootV ((1) + (dE)))) * (iv (dE)))) (by kernel_rfl) rfl rfl rfl (by kernel_rfl) (by kernel_rfl) rfl rfl ?_ ?_
  · intro i hi
    obtain rfl | rfl | rfl | rfl | rfl | rfl | rfl | rfl | rfl | rfl | rfl | rfl : i = 0 ∨ i = 1 ∨ i = 2 ∨ i = 3 ∨ i = 4 ∨ i = 5 ∨ i = 6 ∨ i = 7 ∨ i = 8 ∨ i = 9 ∨ i = 10 ∨ i = 11 := by omega
    · exact step_small rfl 1 (by omega) rfl rfl
    · exact step_el rfl 131 7 rfl Go.Proofs.YteedfhljbdnmnaaGreatDoor.u50 i50 (by kernel_rfl) _ _ rfl _ E7 rfl
    · exact step_add rfl 26 27 0 1 _ _ rfl (by kernel_rfl) (by kernel_rfl) rfl rfl rfl
    · exact step_el rfl 131 3 rfl Go.Proofs.YteedfhljbdnmnaaGreatDoor.u50 i50 (by kernel_rfl) _ _ rfl _ E3' rfl
    · exact step_inv rfl 29 3 _ rfl (by kernel_rfl) rfl rfl
    · exact step_mul rfl 28 30 2 4 _ _ rfl (by kernel_rfl) (by kernel_rfl) rfl rfl rfl
    · exact step_root rfl 31 5 _ rfl (by kernel_rfl) rfl rfl
    · exact step_move rfl 32 6 (by exact Or.inl rfl) (by kernel_rfl) rfl
    · exact step_ext0 rfl 25 7 _ rfl (by kernel_rfl) rfl rfl
    · exact step_ext1 rfl 25 7 _ rfl (by kernel_rfl) rfl rfl
    · exact step_new16 rfl rfl rfl
    · exact step_move rfl 33 8 (by exact Or.inr rfl) (by kernel_rfl) rfl
  intro vs4 q9 W4 v9 h9 n4 E9 T9 hF
  obtain ⟨_, v8⟩ := hF 11 8 (by kernel_rfl)
  clear hF
  have mn4 := n4.size
  replace E3' := E3'.up n4
  replace E5 := E5.up n4
  replace E7 := E7.up n4
  replace TR := there_up (by omega) TR n4
  replace N := nxt N n4
  have y9 := E9.lt
  have y3 := E3'.lt
  have r5 : q5 ≠ q9 := by omega
  clear n4
  change vs4 8 = .bool (rootB _) at v8
  simp only [puts, v9, v8, Act.put, List.setIfInBounds_toArray, List.set_cons_succ, List.set_cons_zero]
  clear v9 v8
  cases rootB (((1) + (rootV ((1) + (dE)))) * (iv (dE))) with
  | true =>
    go_upto_region 9 with fail
    refine region_putP 12 11 2 61 _ (fun i => [Fact.eq (.int .i64 k), RN W4 (fun xs => xs.length ≤ 1 ∧ Byt xs), RN W4 (fun xs => xs.length = 32 ∧ Byt xs), EL (rootV (((1) + (rootV ((1) + (dE)))) * (iv (dE)))), RN W4 (fun xs => xs = fill (byt ((rootV (((1) + (rootV ((1) + (dE)))) * (iv (dE)))) % PP)) 32), EL (rootV (((1) + (rootV ((1) + (dE)))) * (iv (dE)))), EL (rootV ((0) - (1))), EL ((rootV (((1) + (rootV ((1) + (dE)))) * (iv (dE)))) * (rootV ((0) - (1)))), RN W4 (fun xs => xs = fill (byt (((rootV (((1) + (rootV ((1) + (dE)))) * (iv (dE)))) * (rootV ((0) - (1)))) % PP)) 32), PT W4 (fun xs ys => xs = fill (byt ((rootV (((1) + (rootV ((1) + (dE)))) * (iv (dE)))) % PP)) 32 ∧ ys = fill (byt (((rootV (((1) + (rootV ((1) + (dE)))) * (iv (dE)))) * (rootV ((0) - (1)))) % PP)) 32), E3any, PT W4 PtOk].getD i Fact.no) PtOk _ (by kernel_rfl) rfl rfl rfl (by kernel_rfl) rfl TR (by kernel_rfl) rfl ?_ ?_
    · intro i hi
      obtain rfl | rfl | rfl | rfl | rfl | rfl | rfl | rfl | rfl | rfl | rfl | rfl : i = 0 ∨ i = 1 ∨ i = 2 ∨ i = 3 ∨ i = 4 ∨ i = 5 ∨ i = 6 ∨ i = 7 ∨ i = 8 ∨ i = 9 ∨ i = 10 ∨ i = 11 := by omega
      · exact step_mv0 rfl 0 (by kernel_rfl) (by kernel_rfl) rfl rfl
      · exact step_int rfl 50 0 k ⟨k0, k1⟩ rfl (by kernel_rfl) rfl rfl
      · exact step_lit rfl 51 1 rfl (by kernel_rfl) rfl rfl
      · exact step_el rfl 131 9 rfl Go.Proofs.YteedfhljbdnmnaaGreatDoor.u50 i50 (by kernel_rfl) _ _ rfl _ E9 rfl
      · exact step_bytes rfl 53 3 _ rfl (by kernel_rfl) rfl rfl
      · exact step_el rfl 131 9 rfl Go.Proofs.YteedfhljbdnmnaaGreatDoor.u50 i50 (by kernel_rfl) _ _ rfl _ E9 rfl
      · exact step_el rfl 131 5 rfl Go.Proofs.YteedfhljbdnmnaaGreatDoor.u50 i50 (by kernel_rfl) _ _ rfl _ E5 rfl
      · exact step_mul rfl 55 56 5 6 _ _ rfl (by kernel_rfl) (by kernel_rfl) rfl rfl rfl
      · exact step_bytes rfl 57 7 _ rfl (by kernel_rfl) rfl rfl
      · exact step_bp rfl 54 58 4 8 _ _ rfl (by kernel_rfl) (by kernel_rfl) rfl rfl rfl
      · exact step_times rfl 52 59 2 9 rfl (by kernel_rfl) (by kernel_rfl) rfl rfl rfl
      · exact step_plain rfl 60 10 rfl (by kernel_rfl) rfl rfl
    intro vs9 W W' xs ys a a' c c' g g' n bq rg o1 o2 l1 l2 hp nb
    have NS := nb w w.heap.size (nxt N n) (by omega)
    simp only [puts, Act.put, List.setIfInBounds_toArray, List.set_cons_succ, List.set_cons_zero]
    have z1 := N.size
    clear N n bq nb TR
    go_wp2
    obtain ⟨fs, hfs⟩ := uP
    exact bodyPost_ret (v := .agg #[_, _]) (results_cell_mid Tryz.results88 _ _ w.heap.size _ _ rfl rg hfs rfl iP) rfl ⟨xs, ys, ⟨a, a', c, c', g, g', rfl, o1, o2, by omega, by omega⟩, hp.1, hp.2, NS⟩
  | false =>
    go_upto_region 6 with fail
    refine region_put16F 11 9 9 46 _ (fun i => [EL 1, EL (rootV ((1) + (dE))), EL ((1) - (rootV ((1) + (dE)))), EL (dE), EL (iv (dE)), EL (((1) - (rootV ((1) + (dE)))) * (iv (dE))), RT (((1) - (rootV ((1) + (dE)))) * (iv (dE))), RT (((1) - (rootV ((1) + (dE)))) * (iv (dE))), Fact.eq (.bool (rootB (((1) - (rootV ((1) + (dE)))) * (iv (dE))))), EL (rootV (((1) - (rootV ((1) + (dE)))) * (iv (dE)))), Fact.eq (.bool (rootB (((1) - (rootV ((1) + (dE)))) * (iv (dE)))))].getD i Fact.no) (rootV (((1) - (rootV ((1) + (dE)))) * (iv (dE)))) _ (by kernel_rfl) rfl rfl rfl (by kernel_rfl) rfl T9 (by kernel_rfl) rfl ?_ ?_
    · intro i hi
      obtain rfl | rfl | rfl | rfl | rfl | rfl | rfl | rfl | rfl | rfl | rfl : i = 0 ∨ i = 1 ∨ i = 2 ∨ i = 3 ∨ i = 4 ∨ i = 5 ∨ i = 6 ∨ i = 7 ∨ i = 8 ∨ i = 9 ∨ i = 10 := by omega
      · exact step_small rfl 1 (by omega) rfl rfl
      · exact step_el rfl 131 7 rfl Go.Proofs.YteedfhljbdnmnaaGreatDoor.u50 i50 (by kernel_rfl) _ _ rfl _ E7 rfl
      · exact step_sub rfl 38 39 0 1 _ _ rfl (by kernel_rfl) (by kernel_rfl) rfl rfl rfl
      · exact step_el rfl 131 3 rfl Go.Proofs.YteedfhljbdnmnaaGreatDoor.u50 i50 (by kernel_rfl) _ _ rfl _ E3' rfl
      · exact step_inv rfl 41 3 _ rfl (by kernel_rfl) rfl rfl
      · exact step_mul rfl 40 42 2 4 _ _ rfl (by kernel_rfl) (by kernel_rfl) rfl rfl rfl
      · exact step_root rfl 43 5 _ rfl (by kernel_rfl) rfl rfl
      · exact step_move rfl 44 6 (by exact Or.inl rfl) (by kernel_rfl) rfl
      · exact step_ext0 rfl 37 7 _ rfl (by kernel_rfl) rfl rfl
      · exact step_ext1 rfl 37 7 _ rfl (by kernel_rfl) rfl rfl
      · exact step_move rfl 45 8 (by exact Or.inr rfl) (by kernel_rfl) rfl
    intro vs6 Wa W6 na bq E9n T9n nb hF
    obtain ⟨_, v8⟩ := hF 10 8 (by kernel_rfl)
    clear hF
    replace TR := there_but (by omega) TR bq (by omega)
    replace E5 := E5.but bq r5
    replace N := nb w w.heap.size (nxt N na) (by omega)
    clear bq nb na E9 E7 E3'
    have E9 := E9n
    change vs6 8 = .bool (rootB _) at v8
    simp only [puts, v8, Act.put, List.setIfInBounds_toArray, List.set_cons_succ, List.set_cons_zero]
    clear v8
    cases rootB (((1) - (rootV ((1) + (dE)))) * (iv (dE))) with
    | true =>
      go_upto_region 9 with fail
      refine region_putP 12 11 2 61 _ (fun i => [Fact.eq (.int .i64 k), RN W6 (fun xs => xs.length ≤ 1 ∧ Byt xs), RN W6 (fun xs => xs.length = 32 ∧ Byt xs), EL (rootV (((1) - (rootV ((1) + (dE)))) * (iv (dE)))), RN W6 (fun xs => xs = fill (byt ((rootV (((1) - (rootV ((1) + (dE)))) * (iv (dE)))) % PP)) 32), EL (rootV (((1) - (rootV ((1) + (dE)))) * (iv (dE)))), EL (rootV ((0) - (1))), EL ((rootV (((1) - (rootV ((1) + (dE)))) * (iv (dE)))) * (rootV ((0) - (1)))), RN W6 (fun xs => xs = fill (byt (((rootV (((1) - (rootV ((1) + (dE)))) * (iv (dE)))) * (rootV ((0) - (1)))) % PP)) 32), PT W6 (fun xs ys => xs = fill (byt ((rootV (((1) - (rootV ((1) + (dE)))) * (iv (dE)))) % PP)) 32 ∧ ys = fill (byt (((rootV (((1) - (rootV ((1) + (dE)))) * (iv (dE)))) * (rootV ((0) - (1)))) % PP)) 32), E3any, PT W6 PtOk].getD i Fact.no) PtOk _ (by kernel_rfl) rfl rfl rfl (by kernel_rfl) rfl TR (by kernel_rfl) rfl ?_ ?_
      · intro i hi
        obtain rfl | rfl | rfl | rfl | rfl | rfl | rfl | rfl | rfl | rfl | rfl | rfl : i = 0 ∨ i = 1 ∨ i = 2 ∨ i = 3 ∨ i = 4 ∨ i = 5 ∨ i = 6 ∨ i = 7 ∨ i = 8 ∨ i = 9 ∨ i = 10 ∨ i = 11 := by omega
        · exact step_mv0 rfl 0 (by kernel_rfl) (by kernel_rfl) rfl rfl
        · exact step_int rfl 50 0 k ⟨k0, k1⟩ rfl (by kernel_rfl) rfl rfl
        · exact step_lit rfl 51 1 rfl (by kernel_rfl) rfl rfl
        · exact step_el rfl 131 9 rfl Go.Proofs.YteedfhljbdnmnaaGreatDoor.u50 i50 (by kernel_rfl) _ _ rfl _ E9 rfl
        · exact step_bytes rfl 53 3 _ rfl (by kernel_rfl) rfl rfl
        · exact step_el rfl 131 9 rfl Go.Proofs.YteedfhljbdnmnaaGreatDoor.u50 i50 (by kernel_rfl) _ _ rfl _ E9 rfl
        · exact step_el rfl 131 5 rfl Go.Proofs.YteedfhljbdnmnaaGreatDoor.u50 i50 (by kernel_rfl) _ _ rfl _ E5 rfl
        · exact step_mul rfl 55 56 5 6 _ _ rfl (by kernel_rfl) (by kernel_rfl) rfl rfl rfl
        · exact step_bytes rfl 57 7 _ rfl (by kernel_rfl) rfl rfl
        · exact step_bp rfl 54 58 4 8 _ _ rfl (by kernel_rfl) (by kernel_rfl) rfl rfl rfl
        · exact step_times rfl 52 59 2 9 rfl (by kernel_rfl) (by kernel_rfl) rfl rfl rfl
        · exact step_plain rfl 60 10 rfl (by kernel_rfl) rfl rfl
      intro vs9 W W' xs ys a a' c c' g g' n bq rg o1 o2 l1 l2 hp nb
      have NS := nb w w.heap.size (nxt N n) (by omega)
      simp only [puts, Act.put, List.setIfInBounds_toArray, List.set_cons_succ, List.set_cons_zero]
      have z1 := N.size
      clear N n bq nb TR
      go_wp2
      obtain ⟨fs, hfs⟩ := uP
      exact bodyPost_ret (v := .agg #[_, _]) (results_cell_mid Tryz.results88 _ _ w.heap.size _ _ rfl rg hfs rfl iP) rfl ⟨xs, ys, ⟨a, a', c, c', g, g', rfl, o1, o2, by omega, by omega⟩, hp.1, hp.2, NS⟩
    | false =>
      go_upto_region 8 with fail
      refine region_putP 1 0 2 49 _ (fun i => [PT W6 PtOk].getD i Fact.no) PtOk _ (by kernel_rfl) rfl rfl rfl (by kernel_rfl) rfl TR (by kernel_rfl) rfl ?_ ?_
      · intro i hi
        obtain rfl : i = 0 := by omega
        exact step_zero rfl rfl rfl
      intro vs9 W W' xs ys a a' c c' g g' n bq rg o1 o2 l1 l2 hp nb
      have NS := nb w w.heap.size (nxt N n) (by omega)
      simp only [puts, Act.put, List.setIfInBounds_toArray, List.set_cons_succ, List.set_cons_zero]
      have z1 := N.size
      clear N n bq nb TR
      go_wp2
      obtain ⟨fs, hfs⟩ := uP
      exact bodyPost_ret (v := .agg #[_, _]) (results_cell_mid Tryz.results88 _ _ w.heap.size _ _ rfl rg hfs rfl iP) rfl ⟨xs, ys, ⟨a, a', c, c', g, g', rfl, o1, o2, by omega, by omega⟩, hp.1, hp.2, NS⟩
end Go.Proofs.YteedfhljbdnmnaaGreatDoor
