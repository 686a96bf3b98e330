import Derived.Test.YthapcapiiknjdaaDoorGP21

/-
  Every first coordinate but 0 belongs to a point of one of the two curves.
-/
namespace Go.Proofs.YthapcapiiknjdaaDoor
set_option maxRecDepth 100000

section
variable {P d i x D X y v : Int}
theorem on_one (hD : D = d * (x - 1) ^ 2 + (x + 1) ^ 2) (hi : P ∣ i ^ 2 - (-1)) (hX : P ∣ X * D - 2 * i * v) (hy : P ∣ y * (x + 1) - (x - 1)) (hv : P ∣ v ^ 2 - x * D) : P ∣ ((-1) * X ^ 2 + y ^ 2 - 1 - d * X ^ 2 * y ^ 2) * ((x + 1) ^ 2 * D ^ 2) := by
  have S1 : P ∣ (X * D) ^ 2 + 4 * x * D := dv3 hX hi hv (c1 := X * D + 2 * i * v) (c2 := 4 * v ^ 2) (c3 := -4) (by grind)
  have S2 : P ∣ (y * (x + 1)) ^ 2 - (x - 1) ^ 2 := dv2 hy hy (c1 := y * (x + 1) + (x - 1)) (c2 := 0) (by grind)
  refine dv2 S1 S2 (c1 := -(x + 1) ^ 2 - d * (y * (x + 1)) ^ 2) (c2 := D ^ 2 + 4 * x * D * d) ?_
  subst hD
  grind
theorem on_two (hD : D = d * (x - 1) ^ 2 + (x + 1) ^ 2) (hi : P ∣ i ^ 2 - (-1)) (hX : P ∣ X * D - i * v) (hy : P ∣ y * (x - 1) - (x + 1)) (hv : P ∣ v ^ 2 - 2 * (x * D)) : P ∣ (2 * d * X ^ 2 + y ^ 2 - 1 - (-2) * X ^ 2 * y ^ 2) * ((x - 1) ^ 2 * D ^ 2) := by
  have S1 : P ∣ (X * D) ^ 2 + 2 * x * D := dv3 hX hi hv (c1 := X * D + i * v) (c2 := v ^ 2) (c3 := -1) (by grind)
  have S2 : P ∣ (y * (x - 1)) ^ 2 - (x + 1) ^ 2 := dv2 hy hy (c1 := y * (x - 1) + (x + 1)) (c2 := 0) (by grind)
  refine dv2 S1 S2 (c1 := 2 * d * (x - 1) ^ 2 + 2 * (y * (x - 1)) ^ 2) (c2 := D ^ 2 - 4 * x * D) ?_
  subst hD
  grind
theorem D_nz (hP : Pri P) (hd : NSq P d) (hi : P ∣ i ^ 2 - (-1)) (hD : D = d * (x - 1) ^ 2 + (x + 1) ^ 2) (hin : ¬ P ∣ i) : ¬ P ∣ D := fun h => by
  have k : P ∣ (x + 1) ^ 2 - d * (i * (x - 1)) ^ 2 := dv2 h hi (c1 := 1) (c2 := -(d * (x - 1) ^ 2)) (by subst hD; grind)
  have h1 : P ∣ x - 1 := (hP.mul (hd _ _ k)).resolve_left hin
  have h2 : P ∣ (x + 1) * (x + 1) := dv2 h h1 (c1 := 1) (c2 := -(d * (x - 1))) (by subst hD; grind)
  have h3 : P ∣ x + 1 := (hP.mul h2).elim id id
  exact hP.two (dv2 h3 h1 (c1 := 1) (c2 := -1) (by omega))
theorem x1_nz (hP : Pri P) (hd : NSq P d) (hi : P ∣ i ^ 2 - (-1)) (hD : D = d * (x - 1) ^ 2 + (x + 1) ^ 2) (hin : ¬ P ∣ i) (hv : P ∣ v ^ 2 - x * D) : ¬ P ∣ x + 1 := fun h => by
  have k : P ∣ v ^ 2 - d * (2 * i) ^ 2 := dv3 hv h hi (c1 := 1) (c2 := d * (x + 1) ^ 2 - 5 * d * (x + 1) + 8 * d + (x + 1) ^ 2 - (x + 1)) (c3 := -(4 * d)) (by subst hD; grind)
  exact nz_mul hP hP.two hin (hd _ _ k)
theorem x2_nz (hP : Pri P) (h2 : NSq P 2) (hD : D = d * (x - 1) ^ 2 + (x + 1) ^ 2) (hv : P ∣ v ^ 2 - 2 * (x * D)) : ¬ P ∣ x - 1 := fun h => by
  have k : P ∣ v ^ 2 - 2 * 2 ^ 2 := dv2 hv h (c1 := 1) (c2 := 2 * (d * (x - 1) ^ 2 + (x - 1) ^ 2 + 5 * (x - 1) + 8 + d * (x - 1))) (by subst hD; grind)
  exact hP.two (h2 _ _ k)
end
theorem point_of {x : Int} (hx : ¬ PP ∣ x) : (∃ p, OnP PP (-1) d0 p ∧ Rep PP 1 (x, 1) p.2) ∨ ∃ p, OnP PP (2 * d0) (-2) p ∧ Rep PP (-1) (x, 1) p.2 := by
  obtain ⟨D, hD⟩ : ∃ D, D = d0 * (x - 1) ^ 2 + (x + 1) ^ 2 := ⟨_, rfl⟩
  have nD := D_nz pri_PP nsqd i0_sq hD i0_nz
  have hf := einv_ok D nD
  have hi := i0_sq
  have hin := i0_nz
  have hd := nsqd
  have n1 := pri_PP.one
  rcases sq_or (nz_mul pri_PP hx nD) with ⟨v, hv⟩ | ⟨v, hv⟩
  · left
    have n := x1_nz pri_PP hd hi hD hin hv
    have he := einv_ok _ n
    refine ⟨(2 * i0 * v * einv D, (x - 1) * einv (x + 1)), ?_, ?_, fun h => n1 h.2⟩
    · generalize i0 = i at *
      generalize d0 = d at *
      generalize einv D = f at *
      generalize einv (x + 1) = e at *
      have hX : PP ∣ 2 * i * v * f * D - 2 * i * v := dv2 hf hf (c1 := 2 * i * v) (c2 := 0) (by grind)
      have hy : PP ∣ (x - 1) * e * (x + 1) - (x - 1) := dv2 he he (c1 := x - 1) (c2 := 0) (by grind)
      have G := on_one hD hi hX hy hv
      have nn : ¬ PP ∣ (x + 1) ^ 2 * D ^ 2 := nz_mul pri_PP (nz_pow pri_PP n 2) (nz_pow pri_PP nD 2)
      exact cancel pri_PP nn G
    · generalize einv (x + 1) = e at *
      exact dv2 he he (c1 := -(x - 1)) (c2 := 0) (by grind)
  · right
    have n := x2_nz pri_PP nsq2 hD hv
    have he := einv_ok _ n
    refine ⟨(i0 * v * einv D, (x + 1) * einv (x - 1)), ?_, ?_, fun h => n1 h.2⟩
    · show PP ∣ _
      generalize i0 = i at *
      generalize d0 = d at *
      generalize einv D = f at *
      generalize einv (x - 1) = e at *
      have hX : PP ∣ i * v * f * D - i * v := dv2 hf hf (c1 := i * v) (c2 := 0) (by grind)
      have hy : PP ∣ (x + 1) * e * (x - 1) - (x + 1) := dv2 he he (c1 := x + 1) (c2 := 0) (by grind)
      have G := on_two hD hi hX hy hv
      have nn : ¬ PP ∣ (x - 1) ^ 2 * D ^ 2 := nz_mul pri_PP (nz_pow pri_PP n 2) (nz_pow pri_PP nD 2)
      exact cancel pri_PP nn G
    · generalize einv (x - 1) = e at *
      exact dv2 he he (c1 := -(x + 1)) (c2 := 0) (by grind)
end Go.Proofs.YthapcapiiknjdaaDoor

/-
  The ladder climbs a point: the pairs stand for its multiples; what it answers at the end.
-/
namespace Go.Proofs.YthapcapiiknjdaaDoor
set_option maxRecDepth 100000

section
variable {P a d b s : Int} {inv : Int → Int}
theorem Rep.cg {w : Int × Int} {y y' : Int} (h : Rep P s w y) (e : P ∣ y - y') : Rep P s w y' :=
  ⟨dv2 h.1 e (c1 := 1) (c2 := w.1 + s * w.2) (by grind), h.2⟩
theorem Sm.res {x1 y1 x2 y2 x3 y3 x4 y4 : Int} (h : Sm P a d x1 y1 x2 y2 x3 y3) (hx : P ∣ x3 - x4) (hy : P ∣ y3 - y4) : Sm P a d x1 y1 x2 y2 x4 y4 :=
  ⟨dv2 h.x hx (c1 := 1) (c2 := -(1 + d * x1 * x2 * y1 * y2)) (by grind), dv2 h.y hy (c1 := 1) (c2 := -(1 - d * x1 * x2 * y1 * y2)) (by grind)⟩
def eneg (p : Int × Int) : Int × Int := (-p.1, p.2)
theorem eadd_negs (p q : Int × Int) : eadd a d inv (eneg p) (eneg q) = eneg (eadd a d inv p q) := by
  unfold eadd eneg
  have e1 : 1 + d * -p.1 * -q.1 * p.2 * q.2 = 1 + d * p.1 * q.1 * p.2 * q.2 := by grind
  have e2 : 1 - d * -p.1 * -q.1 * p.2 * q.2 = 1 - d * p.1 * q.1 * p.2 * q.2 := by grind
  simp only [e1, e2]
  congr 1
  · grind
  · grind
theorem Pe.neg {p q : Int × Int} (h : Pe P p q) : Pe P (eneg p) (eneg q) := ⟨dv2 h.1 h.1 (c1 := -1) (c2 := 0) (by show -p.1 - -q.1 = _; grind), h.2⟩
/-- N p less (N + 1) p is -p. -/
theorem step_back (H : Crv P a d inv) {A p : Int × Int} (hA : OnP P a d A) (hp : OnP P a d p) : Pe P (eadd a d inv A (eneg (eadd a d inv A p))) (eneg p) := by
  rw [← eadd_negs]
  have nA : OnP P a d (eneg A) := neg_on hA
  have np : OnP P a d (eneg p) := neg_on hp
  have e1 := (eadd_assoc H hA nA np).symm
  have e2 := eadd_cg H (eadd_on H hA nA) np (eadd_neg H hA) (Pe.refl (eneg p))
  have e3 := eadd_comm H (p := (0, 1)) (q := eneg p) zero_on np
  exact e1.trans (e2.trans (e3.trans (eadd_zero H np)))
end

/-- The two pairs stand for n p and (n + 1) p. -/
structure Up (a d s : Int) (p : Int × Int) (n : Nat) (t : Two4) : Prop where
  l : Rep PP s (t.a, t.b) (emul a d einv n p).2
  r : Rep PP s (t.c, t.d) (emul a d einv (n + 1) p).2
section
variable {a d b s x : Int} {p : Int × Int}
theorem Up.zero (H : Crv PP a d einv) (hp : OnP PP a d p) (hr : Rep PP s (x, 1) p.2) : Up a d s p 0 ⟨1, 0, x, 1⟩ := by
  refine ⟨⟨⟨0, ?_⟩, fun h => pri_PP.one h.1⟩, ?_⟩
  · show 1 * (1 - 1) - s * 0 * (1 + 1) = PP * 0
    grind
  · have e : Pe PP (eadd a d einv (0, 1) p) p := (eadd_comm H zero_on hp).trans (eadd_zero H hp)
    exact hr.cg (e.symm.2)
theorem Up.step (H : Crv PP a d einv) (M : Mon PP a d b s 121665) (hp : OnP PP a d p) (hr : Rep PP s (x, 1) p.2) (hx : ¬ PP ∣ x) {n : Nat} {t : Two4} (h : Up a d s p n t) (bit : Bool) : Up a d s p (2 * n + bit.toNat) (lrnd x bit t) := by
  have hA := emul_on H hp n
  have hB := emul_on H hp (n + 1)
  have hs := M.s1
  -- the double of any multiple
  have D : ∀ (m : Nat) (u v : Int), Rep PP s (u, v) (emul a d einv m p).2 → Rep PP s (dU u v, dV u v) (emul a d einv (2 * m) p).2 := fun m u v hw => by
    have hm := emul_on H hp m
    have g := Rep.dbl H.pri H.cpl M hw hm (eadd_sm H hm hm)
    have e : Pe PP (eadd a d einv (emul a d einv m p) (emul a d einv m p)) (emul a d einv (2 * m) p) := by
      rw [Nat.two_mul]
      exact (emul_add H hp m m).symm
    have k : ldbl 121665 (u, v) = (dU u v, dV u v) := by
      unfold ldbl dU dV dW
      simp only [Prod.mk.injEq, true_and]
      grind
    rw [k] at g
    exact g.cg e.2
  -- the sum of both
  have S : Rep PP s (sU t.a t.b t.c t.d, sV x t.a t.b t.c t.d) (emul a d einv (2 * n + 1) p).2 := by
    have hd := (eadd_sm H hA (neg_on hB)).res (step_back H hA hp).1 (step_back H hA hp).2
    have hxr : PP ∣ x * (1 - p.2) - s * (1 + p.2) := dv2 hr.1 hr.1 (c1 := 1) (c2 := 0) (by grind)
    have hn : ¬ PP ∣ 1 - p.2 := fun k => by
      have h2 : PP ∣ 2 := by
        have q : PP ∣ s * 2 := dv2 hxr k (c1 := -1) (c2 := x + s) (by grind)
        rcases hs with e | e
        · rw [e] at q; simpa using q
        · rw [e] at q
          exact dv2 q q (c1 := -1) (c2 := 0) (by grind)
      exact pri_PP.two h2
    have g := Rep.sum H.pri H.cpl hs h.l h.r hA hB (eadd_sm H hA hB) hd hxr hn hx
    have e : Pe PP (eadd a d einv (emul a d einv n p) (emul a d einv (n + 1) p)) (emul a d einv (2 * n + 1) p) := by
      rw [show 2 * n + 1 = n + (n + 1) by omega]
      exact (emul_add H hp n (n + 1)).symm
    exact g.cg e.2
  cases bit
  · exact ⟨D n _ _ h.l, S⟩
  · refine ⟨S, ?_⟩
    have g := D (n + 1) _ _ h.r
    rw [show 2 * (n + 1) = 2 * n + 1 + 1 by omega] at g
    exact g
/-- The number of n bits, the highest first. -/
def bnum (bit : Nat → Bool) : Nat → Nat
  | 0 => 0
  | n + 1 => 2 * bnum bit n + (bit n).toNat
theorem up_all (H : Crv PP a d einv) (M : Mon PP a d b s 121665) (hp : OnP PP a d p) (hr : Rep PP s (x, 1) p.2) (hx : ¬ PP ∣ x) (bit : Nat → Bool) : ∀ n, Up a d s p (bnum bit n) (lrnds x bit n)
  | 0 => Up.zero H hp hr
  | n + 1 => Up.step H M hp hr hx (up_all H M hp hr hx bit n) (bit n)
theorem bnum_k (K : Nat) (m : Nat) : ∀ n, n ≤ m → bnum (fun i => kbit (K : Int) (m - 1 - i)) n = K / 2 ^ (m - n) % 2 ^ n
  | 0, _ => by simp [bnum, Nat.mod_one]
  | n + 1, h => by
    have ih := bnum_k K m n (by omega)
    show 2 * bnum _ n + (kbit (K : Int) (m - 1 - n)).toNat = _
    rw [ih]
    have e1 : m - n = (m - (n + 1)) + 1 := by omega
    have e2 : m - 1 - n = m - (n + 1) := by omega
    rw [e1, e2]
    generalize m - (n + 1) = j
    have b : (kbit (K : Int) j).toNat = K / 2 ^ j % 2 := by
      unfold kbit
      have c : (K : Int) / 2 ^ j % 2 = ((K / 2 ^ j % 2 : Nat) : Int) := by simp
      rw [c]
      rcases (show K / 2 ^ j % 2 = 0 ∨ K / 2 ^ j % 2 = 1 by omega) with z | z
      · rw [z]; rfl
      · rw [z]; rfl
    rw [b, Nat.pow_succ, ← Nat.div_div_eq_div_mul]
    generalize K / 2 ^ j = q
    rw [Nat.pow_succ, Nat.mul_comm (2 ^ n) 2, Nat.mod_mul]
    omega
/-- What the ladder says at its end. -/
theorem end_zero {u v y : Int} (hs : s = 1 ∨ s = -1) (h : Rep PP s (u, v) y) (hz : (u * v ^ eInv) % PP = 0) : PP ∣ 1 - y ∨ PP ∣ 1 + y := by
  have h1 : PP ∣ u * (1 - y) - s * v * (1 + y) := h.1
  rcases pri_PP.mul (PP_dvd.2 hz) with k | k
  · right
    have nv : ¬ PP ∣ v := fun q => h.2 ⟨k, q⟩
    have g : PP ∣ (1 + y) * v := by
      rcases hs with e | e <;> subst e
      · exact dv2 h1 k (c1 := -1) (c2 := 1 - y) (by grind)
      · exact dv2 h1 k (c1 := 1) (c2 := -(1 - y)) (by grind)
    exact cancel pri_PP nv g
  · left
    have hv : PP ∣ v := by
      by_cases q : PP ∣ v
      · exact q
      · exact absurd k (nz_pow pri_PP q _)
    have nu : ¬ PP ∣ u := fun q => h.2 ⟨q, hv⟩
    exact cancel pri_PP nu (dv2 h1 hv (c1 := 1) (c2 := s * (1 + y)) (by grind))
theorem end_some {u v y : Int} (h : Rep PP s (u, v) y) (hz : ¬ (u * v ^ eInv) % PP = 0) : Rep PP s (u * v ^ eInv % PP, 1) y := by
  refine ⟨?_, fun k => pri_PP.one k.2⟩
  have h1 : PP ∣ u * (1 - y) - s * v * (1 + y) := h.1
  have nv : ¬ PP ∣ v := fun q => hz (by rw [Int.mul_emod, zpow q]; simp)
  have hi := einv_ok v nv
  have hm : PP ∣ u * v ^ eInv % PP - u * einv v := dvd_cong (Int.emod_emod_of_dvd _ (Int.dvd_refl _))
  show PP ∣ u * v ^ eInv % PP * (1 - y) - s * 1 * (1 + y)
  generalize u * v ^ eInv % PP = m at *
  generalize einv v = f at *
  exact dv3 h1 hi hm (c1 := f) (c2 := s * (1 + y)) (c3 := 1 - y) (by grind)
theorem end_one {u v y : Int} (hs : s = 1 ∨ s = -1) (h : Rep PP s (u, v) y) (hy : PP ∣ 1 - y) : u * v ^ eInv % PP = 0 := by
  have h1 : PP ∣ u * (1 - y) - s * v * (1 + y) := h.1
  have g : PP ∣ 2 * v := by
    rcases hs with e | e <;> subst e
    · exact dv2 h1 hy (c1 := -1) (c2 := u + v) (by grind)
    · exact dv2 h1 hy (c1 := 1) (c2 := v - u) (by grind)
  have hv : PP ∣ v := (pri_PP.mul g).resolve_left pri_PP.two
  rw [Int.mul_emod, zpow hv]
  simp
theorem end_same {u v u' v' y y' : Int} (hs : s = 1 ∨ s = -1) (h : Rep PP s (u, v) y) (h' : Rep PP s (u', v') y') (e : PP ∣ y - y') : u * v ^ eInv % PP = u' * v' ^ eInv % PP := by
  have h2 : Rep PP s (u', v') y := h'.cg (dv2 e e (c1 := -1) (c2 := 0) (by grind))
  by_cases hy : PP ∣ 1 - y
  · rw [end_one hs h hy, end_one hs h2 hy]
  · have h1 : PP ∣ u * (1 - y) - s * v * (1 + y) := h.1
    have h3 : PP ∣ u' * (1 - y) - s * v' * (1 + y) := h2.1
    have nv : ¬ PP ∣ v := fun q => h.2 ⟨cancel pri_PP hy (dv2 h1 q (c1 := 1) (c2 := s * (1 + y)) (by grind)), q⟩
    have nv' : ¬ PP ∣ v' := fun q => h2.2 ⟨cancel pri_PP hy (dv2 h3 q (c1 := 1) (c2 := s * (1 + y)) (by grind)), q⟩
    have i1 := einv_ok v nv
    have i2 := einv_ok v' nv'
    refine cong_dvd ?_
    show PP ∣ u * einv v - u' * einv v'
    generalize einv v = f at *
    generalize einv v' = g at *
    refine cancel pri_PP hy ?_
    have g1 : PP ∣ u * f * (1 - y) - s * (1 + y) := dv2 h1 i1 (c1 := f) (c2 := s * (1 + y)) (by grind)
    have g2 : PP ∣ u' * g * (1 - y) - s * (1 + y) := dv2 h3 i2 (c1 := g) (c2 := s * (1 + y)) (by grind)
    exact dv2 g1 g2 (c1 := 1) (c2 := -1) (by grind)
end
end Go.Proofs.YthapcapiiknjdaaDoor

/-
  The ladder commutes.
-/
namespace Go.Proofs.YthapcapiiknjdaaDoor
set_option maxRecDepth 100000

def ladS' (x K : Int) : Int := ladE x (fun i => kbit K (255 - i)) 256
def L (x : Int) (K : Nat) : Int := ladS' x (K : Int) % PP
/-- A clamped number. -/
structure Clp (K : Nat) : Prop where
  lo : 28948022309329048855892746252171976963317496166410141009864396001978282409984 ≤ K
  hi : K < 57896044618658097711785492504343953926634992332820282019728792003956564819968
  ev : K % 8 = 0
theorem L_255 {K : Nat} (h : Clp K) (x : Int) : L x K = ladE x (fun i => kbit (K : Int) (254 - i)) 255 % PP := by
  unfold L ladS'
  refine lad_same x (fun i => kbit (K : Int) (254 - i)) (fun i => kbit (K : Int) (255 - i)) ?_ (fun i => by rw [show 255 - (i + 1) = 254 - i by omega]) ?_ 254
  · have k1 := h.lo
    have k2 := h.hi
    unfold kbit
    have : (K : Int) / 2 ^ (255 - 0) = 0 := Int.ediv_eq_zero_of_lt (by omega) (by have h : (2 : Int) ^ (255 - 0) = 57896044618658097711785492504343953926634992332820282019728792003956564819968 := by decide
                                                                                  rw [h]; omega)
    rw [this]
    rfl
  · have k1 := h.lo
    have k2 := h.hi
    unfold kbit
    have : (K : Int) / 2 ^ (254 - 0) = 1 := by
      have h : (2 : Int) ^ (254 - 0) = 28948022309329048855892746252171976963317496166410141009864396001978282409984 := by decide
      rw [h]
      omega
    rw [this]
    rfl
theorem L_zero {K : Nat} (h : Clp K) {x : Int} (hx : PP ∣ x) : L x K = 0 := by
  have k1 := h.lo
  have k2 := h.hi
  rw [L_255 h]
  unfold ladE
  have z := (lrnds_zero hx (fun i => kbit (K : Int) (254 - i)) (by
    show kbit (K : Int) 254 = true
    unfold kbit
    have : (K : Int) / 2 ^ 254 = 1 := by
      have h : (2 : Int) ^ 254 = 28948022309329048855892746252171976963317496166410141009864396001978282409984 := by decide
      rw [h]
      omega
    rw [this]
    rfl) 254).1
  rw [Int.mul_emod, zpow z]
  simp
theorem L_bd (x : Int) (K : Nat) : 0 ≤ L x K ∧ L x K < PP := ⟨Int.emod_nonneg _ (by decide), Int.emod_lt_of_pos _ (by decide)⟩
theorem L_nz {x : Int} {K : Nat} (h : ¬ L x K = 0) : ¬ PP ∣ L x K := fun k => by
  have b := L_bd x K
  have := PP_dvd.1 k
  rw [Int.emod_eq_of_lt b.1 b.2] at this
  exact h this
section
variable {a d b s x : Int} {p : Int × Int}
theorem L_rep (H : Crv PP a d einv) (M : Mon PP a d b s 121665) (hp : OnP PP a d p) (hr : Rep PP s (x, 1) p.2) (hx : ¬ PP ∣ x) {K : Nat} (hK : K < 2 ^ 256) : ∃ u v, Rep PP s (u, v) (emul a d einv K p).2 ∧ L x K = u * v ^ eInv % PP := by
  have U := (up_all H M hp hr hx (fun i => kbit (K : Int) (255 - i)) 256).l
  have e := bnum_k K 256 256 (Nat.le_refl _)
  have e' : bnum (fun i => kbit (K : Int) (255 - i)) 256 = K := by
    refine e.trans ?_
    rw [Nat.sub_self, Nat.pow_zero, Nat.div_one, Nat.mod_eq_of_lt hK]
  rw [e'] at U
  exact ⟨_, _, U, rfl⟩
/-- A point of which nothing is left behind a doubling. -/
theorem two_small (H : Crv PP a d einv) (M : Mon PP a d b s 121665) {A : Int × Int} (hA : OnP PP a d A) (hy : PP ∣ 1 - A.2 ∨ PP ∣ 1 + A.2) : Pe PP (eadd a d einv A A) (0, 1) := by
  have hx : PP ∣ A.1 := by
    have h1 : PP ∣ 1 - A.2 ^ 2 := by
      rcases hy with h | h
      · exact dv2 h h (c1 := 1 + A.2) (c2 := 0) (by grind)
      · exact dv2 h h (c1 := 1 - A.2) (c2 := 0) (by grind)
    have ho : PP ∣ a * A.1 ^ 2 + A.2 ^ 2 - 1 - d * A.1 ^ 2 * A.2 ^ 2 := hA
    have h2 : PP ∣ (A.1 * A.1) * (a - d) := dv2 ho h1 (c1 := 1) (c2 := 1 - d * A.1 ^ 2) (by grind)
    exact (pri_PP.mul (cancel pri_PP M.ad h2)).elim id id
  have one : PP ∣ einv 1 * 1 - 1 := einv_ok 1 pri_PP.one
  have key : ∀ e : Int, e * e = 1 → Pe PP (eadd a d einv (0, e) (0, e)) (0, 1) := fun e he => by
    unfold eadd
    refine ⟨?_, ?_⟩
    · show PP ∣ (0 * e + e * 0) * _ - 0
      exact ⟨0, by simp⟩
    · show PP ∣ (e * e - a * 0 * 0) * einv (1 - d * 0 * 0 * e * e) - 1
      have q : (1 : Int) - d * 0 * 0 * e * e = 1 := by simp
      rw [q, he]
      exact dv2 one one (c1 := 1) (c2 := 0) (by grind)
  rcases hy with h | h
  · have pe : Pe PP A (0, 1) := ⟨dv2 hx hx (c1 := 1) (c2 := 0) (by grind), dv2 h h (c1 := -1) (c2 := 0) (by grind)⟩
    exact (eadd_cg H hA hA pe pe).trans (key 1 (by decide))
  · have pe : Pe PP A (0, -1) := ⟨dv2 hx hx (c1 := 1) (c2 := 0) (by grind), dv2 h h (c1 := 1) (c2 := 0) (by grind)⟩
    exact (eadd_cg H hA hA pe pe).trans (key (-1) (by decide))
theorem emul_zero' (H : Crv PP a d einv) : ∀ n, Pe PP (emul a d einv n (0, 1)) (0, 1)
  | 0 => Pe.refl _
  | n + 1 => (eadd_cg H (emul_on H zero_on n) zero_on (emul_zero' H n) (Pe.refl _)).trans (eadd_zero H zero_on)
theorem emul_two (H : Crv PP a d einv) {A : Int × Int} (hA : OnP PP a d A) : Pe PP (emul a d einv 2 A) (eadd a d einv A A) :=
  eadd_cg H (emul_on H hA 1) hA ((eadd_comm H zero_on hA).trans (eadd_zero H hA)) (Pe.refl _)
theorem even_small (H : Crv PP a d einv) (M : Mon PP a d b s 121665) {A : Int × Int} (hA : OnP PP a d A) (hy : PP ∣ 1 - A.2 ∨ PP ∣ 1 + A.2) {K : Nat} (hK : K % 2 = 0) : Pe PP (emul a d einv K A) (0, 1) := by
  obtain ⟨j, rfl⟩ : ∃ j, K = 2 * j := ⟨K / 2, by omega⟩
  have e1 := emul_mul H hA 2 j
  have e2 := emul_cg H (emul_on H hA 2) ((emul_two H hA).trans (two_small H M hA hy)) j
  exact e1.trans (e2.trans (emul_zero' H j))
theorem L_half (H : Crv PP a d einv) (M : Mon PP a d b s 121665) (hp : OnP PP a d p) (hr : Rep PP s (x, 1) p.2) (hx : ¬ PP ∣ x) {K K' : Nat} (hK : Clp K) (hK' : Clp K') (z : L x K = 0) : L (L x K') K = 0 := by
  have b1 : K < 2 ^ 256 := Nat.lt_trans hK.hi (by decide)
  have b2 : K' < 2 ^ 256 := Nat.lt_trans hK'.hi (by decide)
  by_cases z' : L x K' = 0
  · rw [z']
    exact L_zero hK (Int.dvd_zero _)
  · obtain ⟨u, v, R, e⟩ := L_rep H M hp hr hx b1
    obtain ⟨u', v', R', e'⟩ := L_rep H M hp hr hx b2
    have Q := end_some R' (by rw [← e']; exact z')
    rw [← e'] at Q
    have oq := emul_on H hp K'
    obtain ⟨u2, v2, R2, e2⟩ := L_rep H M oq Q (L_nz z') b1
    rw [e2]
    have sm := end_zero M.s1 R (by rw [← e]; exact z)
    have g := even_small H M (emul_on H hp K) sm (K := K') (by have := hK'.ev; omega)
    have c := (emul_mul H hp K' K).symm.trans (by rw [Nat.mul_comm]; exact (emul_mul H hp K K').trans g)
    exact end_one M.s1 R2 (dv2 c.2 c.2 (c1 := -1) (c2 := 0) (by grind))
theorem L_comm_on (H : Crv PP a d einv) (M : Mon PP a d b s 121665) (hp : OnP PP a d p) (hr : Rep PP s (x, 1) p.2) (hx : ¬ PP ∣ x) {K K' : Nat} (hK : Clp K) (hK' : Clp K') : L (L x K') K = L (L x K) K' := by
  have b1 : K < 2 ^ 256 := Nat.lt_trans hK.hi (by decide)
  have b2 : K' < 2 ^ 256 := Nat.lt_trans hK'.hi (by decide)
  by_cases z : L x K = 0
  · rw [L_half H M hp hr hx hK hK' z, z, L_zero hK' (Int.dvd_zero _)]
  · by_cases z' : L x K' = 0
    · rw [L_half H M hp hr hx hK' hK z', z', L_zero hK (Int.dvd_zero _)]
    · obtain ⟨u, v, R, e⟩ := L_rep H M hp hr hx b1
      obtain ⟨u', v', R', e'⟩ := L_rep H M hp hr hx b2
      have Q := end_some R (by rw [← e]; exact z)
      have Q' := end_some R' (by rw [← e']; exact z')
      rw [← e] at Q
      rw [← e'] at Q'
      obtain ⟨u2, v2, R2, e2⟩ := L_rep H M (emul_on H hp K') Q' (L_nz z') b1
      obtain ⟨u3, v3, R3, e3⟩ := L_rep H M (emul_on H hp K) Q (L_nz z) b2
      rw [e2, e3]
      have c := (emul_mul H hp K' K).symm.trans (by rw [Nat.mul_comm]; exact emul_mul H hp K K')
      exact end_same M.s1 R2 R3 c.2
end
theorem L_comm (x : Int) {K K' : Nat} (hK : Clp K) (hK' : Clp K') : L (L x K') K = L (L x K) K' := by
  by_cases hx : PP ∣ x
  · rw [L_zero hK' hx, L_zero hK hx, L_zero hK (Int.dvd_zero _), L_zero hK' (Int.dvd_zero _)]
  · rcases point_of hx with ⟨p, hp, hr⟩ | ⟨p, hp, hr⟩
    · exact L_comm_on crv1 mon1 hp hr hx hK hK'
    · exact L_comm_on crv2 mon2 hp hr hx hK hK'
end Go.Proofs.YthapcapiiknjdaaDoor

/-
  The point of 9 has the order of the group, a prime: what two ends share is never 0.
-/
namespace Go.Proofs.YthapcapiiknjdaaDoor
set_option maxRecDepth 100000

theorem prmq_2551 : Prm 2551 := prime_by_trial (k := 49) (by decide) (by decide) (by decide)
theorem prmq_1224481 : Prm 1224481 := cert_one (f := 21) (h := 921659) (by decide +kernel) (by decide +kernel) prmq_2551 (by decide +kernel) (by decide +kernel) (by decide +kernel) (by decide +kernel) (by decide +kernel)
theorem prmq_3797 : Prm 3797 := prime_by_trial (k := 60) (by decide) (by decide) (by decide)
theorem prmq_531581 : Prm 531581 := cert_one (f := 20) (h := 32301) (by decide +kernel) (by decide +kernel) prmq_3797 (by decide +kernel) (by decide +kernel) (by decide +kernel) (by decide +kernel) (by decide +kernel)
theorem prmq_125755973217n16 : Prm 1257559732178653 := cert_two (f := 51) (h := 1252739704402215) (i := 1139842034583224) (by decide +kernel) (by decide +kernel) prmq_1224481 prmq_531581 (by decide +kernel) (by decide +kernel) (by decide +kernel) (by decide +kernel) (by decide +kernel) (by decide +kernel) (by decide +kernel) (by decide +kernel) (by decide +kernel)
theorem prmq_443415561566n19 : Prm 4434155615661930479 := cert_one (f := 62) (h := 415787812636281767) (by decide +kernel) (by decide +kernel) prmq_125755973217n16 (by decide +kernel) (by decide +kernel) (by decide +kernel) (by decide +kernel) (by decide +kernel)
theorem prmq_172054593956n27 : Prm 172054593956031949258510691 := cert_one (f := 88) (h := 81982237619807054769897707) (by decide +kernel) (by decide +kernel) prmq_443415561566n19 (by decide +kernel) (by decide +kernel) (by decide +kernel) (by decide +kernel) (by decide +kernel)
theorem prmq_197573303058n41 : Prm 19757330305831588566944191468367130476339 := cert_one (f := 134) (h := 9148758478138211201771971577098600188172) (by decide +kernel) (by decide +kernel) prmq_172054593956n27 (by decide +kernel) (by decide +kernel) (by decide +kernel) (by decide +kernel) (by decide +kernel)
theorem prmq_276602624281n42 : Prm 276602624281642239937218680557139826668747 := cert_one (f := 138) (h := 16384) (by decide +kernel) (by decide +kernel) prmq_197573303058n41 (by decide +kernel) (by decide +kernel) (by decide +kernel) (by decide +kernel) (by decide +kernel)
theorem prmq_723700557733n76 : Prm 7237005577332262213973186563042994240857116359379907606001950938285454250989 := cert_one (f := 253) (h := 2975531125133123119648879457563281269120703404158613135195788908093573672641) (by decide +kernel) (by decide +kernel) prmq_276602624281n42 (by decide +kernel) (by decide +kernel) (by decide +kernel) (by decide +kernel) (by decide +kernel)

abbrev Q25519 : Nat := 7237005577332262213973186563042994240857116359379907606001950938285454250989
theorem prm_Q : Prm Q25519 := prmq_723700557733n76

/-! ### the ladder by naturals, for the kernel -/
def nY (a b c d : Nat) : Nat := (c + P25519 - d) * (a + b) % P25519
def nZ (a b c d : Nat) : Nat := (c + d) * (a + P25519 - b) % P25519
def nsU (a b c d : Nat) : Nat := (nY a b c d + nZ a b c d) * (nY a b c d + nZ a b c d) % P25519
def nsV (x a b c d : Nat) : Nat := x * ((nY a b c d + P25519 - nZ a b c d) * (nY a b c d + P25519 - nZ a b c d)) % P25519
def nS (a b : Nat) : Nat := (a + b) * (a + b) % P25519
def nT (a b : Nat) : Nat := (a + P25519 - b) * (a + P25519 - b) % P25519
def ndU (a b : Nat) : Nat := nS a b * nT a b % P25519
def nW (a b : Nat) : Nat := (nS a b + P25519 - nT a b) % P25519
def ndV (a b : Nat) : Nat := nW a b * (nS a b + nW a b * 121665) % P25519
def nlad (x K : Nat) : Nat → Nat → Nat → Nat → Nat → Nat
  | 0, _, b, _, _ => b
  | j + 1, a, b, c, d => if K / 2 ^ j % 2 = 1 then nlad x K j (nsU a b c d) (nsV x a b c d) (ndU c d) (ndV c d) else nlad x K j (ndU a b) (ndV a b) (nsU a b c d) (nsV x a b c d)
/-- A natural below P that is this number modulo P. -/
structure Cg (n : Nat) (i : Int) : Prop where
  c : PP ∣ (n : Int) - i
  l : n < P25519
theorem cg_mod {n : Nat} {i : Int} (h : PP ∣ (n : Int) - i) : Cg (n % P25519) i := by
  refine ⟨?_, Nat.mod_lt _ (by decide)⟩
  have e : ((n % P25519 : Nat) : Int) = (n : Int) % PP := by rw [Int.natCast_emod]; rfl
  rw [e]
  have k : PP ∣ (n : Int) % PP - n := dvd_cong (Int.emod_emod_of_dvd _ (Int.dvd_refl _))
  exact dv2 k h (c1 := 1) (c2 := 1) (by grind)
section
variable {a b c d : Nat} {A B C D : Int}
theorem cg_sub (ha : Cg a A) (hb : Cg b B) : PP ∣ ((a + P25519 - b : Nat) : Int) - (A - B) := by
  have l := hb.l
  have e : ((a + P25519 - b : Nat) : Int) = (a : Int) + PP - b := by
    rw [PP_nat]
    generalize P25519 = q at *
    omega
  rw [e]
  exact dv3 ha.c hb.c (Int.dvd_refl PP) (c1 := 1) (c2 := -1) (c3 := 1) (by grind)
theorem cg_add (ha : Cg a A) (hb : Cg b B) : PP ∣ ((a + b : Nat) : Int) - (A + B) := by
  rw [Int.natCast_add]
  exact dv2 ha.c hb.c (c1 := 1) (c2 := 1) (by grind)
theorem cg_mul {m n : Nat} {M N : Int} (hm : PP ∣ (m : Int) - M) (hn : PP ∣ (n : Int) - N) : PP ∣ ((m * n : Nat) : Int) - M * N := by
  rw [Int.natCast_mul]
  exact dv2 hm hn (c1 := n) (c2 := M) (by grind)
theorem cg_Y (ha : Cg a A) (hb : Cg b B) (hc : Cg c C) (hd : Cg d D) : Cg (nY a b c d) (sY A B C D) := cg_mod (cg_mul (cg_sub hc hd) (cg_add ha hb))
theorem cg_Z (ha : Cg a A) (hb : Cg b B) (hc : Cg c C) (hd : Cg d D) : Cg (nZ a b c d) (sZ A B C D) := cg_mod (cg_mul (cg_add hc hd) (cg_sub ha hb))
theorem cg_sU (ha : Cg a A) (hb : Cg b B) (hc : Cg c C) (hd : Cg d D) : Cg (nsU a b c d) (sU A B C D) :=
  cg_mod (cg_mul (cg_add (cg_Y ha hb hc hd) (cg_Z ha hb hc hd)) (cg_add (cg_Y ha hb hc hd) (cg_Z ha hb hc hd)))
theorem cg_sV {x : Nat} {X : Int} (hx : Cg x X) (ha : Cg a A) (hb : Cg b B) (hc : Cg c C) (hd : Cg d D) : Cg (nsV x a b c d) (sV X A B C D) :=
  cg_mod (cg_mul hx.c (cg_mul (cg_sub (cg_Y ha hb hc hd) (cg_Z ha hb hc hd)) (cg_sub (cg_Y ha hb hc hd) (cg_Z ha hb hc hd))))
theorem cg_S (ha : Cg a A) (hb : Cg b B) : Cg (nS a b) ((A + B) * (A + B)) := cg_mod (cg_mul (cg_add ha hb) (cg_add ha hb))
theorem cg_T (ha : Cg a A) (hb : Cg b B) : Cg (nT a b) ((A - B) * (A - B)) := cg_mod (cg_mul (cg_sub ha hb) (cg_sub ha hb))
theorem cg_dU (ha : Cg a A) (hb : Cg b B) : Cg (ndU a b) (dU A B) := cg_mod (cg_mul (cg_S ha hb).c (cg_T ha hb).c)
theorem cg_W (ha : Cg a A) (hb : Cg b B) : Cg (nW a b) (dW A B) := cg_mod (cg_sub (cg_S ha hb) (cg_T ha hb))
theorem cg_dV (ha : Cg a A) (hb : Cg b B) : Cg (ndV a b) (dV A B) := by
  have k : PP ∣ ((nW a b * 121665 : Nat) : Int) - dW A B * 121665 := cg_mul (n := 121665) (N := 121665) (cg_W ha hb).c ⟨0, by simp⟩
  have s : PP ∣ ((nS a b + nW a b * 121665 : Nat) : Int) - ((A + B) * (A + B) + dW A B * 121665) := by
    rw [Int.natCast_add]
    exact dv2 (cg_S ha hb).c k (c1 := 1) (c2 := 1) (by grind)
  exact cg_mod (cg_mul (cg_W ha hb).c s)
end
def lrest (x : Int) (K : Nat) : Nat → Two4 → Two4
  | 0, s => s
  | j + 1, s => lrest x K j (lrnd x (kbit (K : Int) j) s)
theorem lrest_is (x : Int) (K m : Nat) : ∀ n, n ≤ m → lrest x K m ⟨1, 0, x, 1⟩ = lrest x K (m - n) (lrnds x (fun i => kbit (K : Int) (m - 1 - i)) n)
  | 0, _ => rfl
  | n + 1, h => by
    rw [lrest_is x K m n (by omega), show m - n = (m - (n + 1)) + 1 by omega]
    show lrest x K (m - (n + 1)) (lrnd x (kbit (K : Int) (m - (n + 1))) _) = lrest x K (m - (n + 1)) (lrnd x (kbit (K : Int) (m - 1 - n)) _)
    rw [show m - 1 - n = m - (n + 1) by omega]
theorem kbit_n (K j : Nat) : kbit (K : Int) j = decide (K / 2 ^ j % 2 = 1) := by
  unfold kbit
  have c : (K : Int) / 2 ^ j % 2 = ((K / 2 ^ j % 2 : Nat) : Int) := by simp
  rw [c]
  rcases (show K / 2 ^ j % 2 = 0 ∨ K / 2 ^ j % 2 = 1 by omega) with z | z <;> rw [z] <;> rfl
theorem nlad_ok {x : Nat} {X : Int} (hx : Cg x X) (K : Nat) : ∀ (j a b c d : Nat) (s : Two4), Cg a s.a → Cg b s.b → Cg c s.c → Cg d s.d → Cg (nlad x K j a b c d) (lrest X K j s).b
  | 0, a, b, c, d, s, ha, hb, hc, hd => hb
  | j + 1, a, b, c, d, s, ha, hb, hc, hd => by
    show Cg (if K / 2 ^ j % 2 = 1 then _ else _) (lrest X K j (lrnd X (kbit (K : Int) j) s)).b
    rw [kbit_n]
    by_cases h : K / 2 ^ j % 2 = 1
    · rw [if_pos h, decide_eq_true h]
      exact nlad_ok hx K j _ _ _ _ (lrnd X true s) (cg_sU ha hb hc hd) (cg_sV hx ha hb hc hd) (cg_dU hc hd) (cg_dV hc hd)
    · rw [if_neg h, decide_eq_false h]
      exact nlad_ok hx K j _ _ _ _ (lrnd X false s) (cg_dU ha hb) (cg_dV ha hb) (cg_sU ha hb hc hd) (cg_sV hx ha hb hc hd)
theorem nlad_Q : nlad 9 Q25519 256 1 0 9 1 = 0 := by decide +kernel
theorem cg_small {n : Nat} (h : n < P25519) : Cg n (n : Int) := ⟨⟨0, by simp⟩, h⟩
/-- The ladder by Q at 9 ends with nothing below. -/
theorem nine_Q : PP ∣ (lrnds 9 (fun i => kbit (Q25519 : Int) (255 - i)) 256).b := by
  have h := nlad_ok (x := 9) (X := 9) (cg_small (by decide)) Q25519 256 1 0 9 1 ⟨1, 0, 9, 1⟩ (cg_small (by decide)) (cg_small (by decide)) (cg_small (by decide)) (cg_small (by decide))
  rw [nlad_Q, lrest_is 9 Q25519 256 256 (Nat.le_refl _), Nat.sub_self] at h
  have k := h.c
  exact dv2 k k (c1 := -1) (c2 := 0) (by show _ = _; grind [lrest])

section
variable {a d b s x : Int} {p : Int × Int}
theorem order_kill (H : Crv PP a d einv) (hp : OnP PP a d p) {q M : Nat} (hq : Prm q) (h1 : Pe PP (emul a d einv q p) (0, 1)) (h2 : Pe PP (emul a d einv M p) (0, 1)) (hM : ¬ q ∣ M) : Pe PP p (0, 1) := by
  have f := hq.fermat hM
  have q2 := hq.1
  obtain ⟨e, he⟩ : ∃ e, q - 1 = e + 1 := ⟨q - 2, by omega⟩
  rw [he] at f
  obtain ⟨c, hc⟩ : ∃ c, M ^ (e + 1) = q * c + 1 := ⟨M ^ (e + 1) / q, by have := Nat.div_add_mod (M ^ (e + 1)) q; omega⟩
  have z1 : Pe PP (emul a d einv (M * M ^ e) p) (0, 1) := (emul_mul H hp M (M ^ e)).trans ((emul_cg H (emul_on H hp M) h2 _).trans (emul_zero' H _))
  rw [Nat.mul_comm, ← Nat.pow_succ, hc] at z1
  have z2 : Pe PP (emul a d einv (q * c) p) (0, 1) := (emul_mul H hp q c).trans ((emul_cg H (emul_on H hp q) h1 _).trans (emul_zero' H _))
  have z3 : Pe PP (emul a d einv (q * c + 1) p) (eadd a d einv (0, 1) p) := eadd_cg H (emul_on H hp (q * c)) hp z2 (Pe.refl p)
  have z4 := (eadd_comm H (p := (0, 1)) zero_on hp).trans (eadd_zero H hp)
  exact (z3.trans z4).symm.trans z1
theorem is_zero (M : Mon PP a d b s 121665) {A : Int × Int} (hA : OnP PP a d A) (hy : PP ∣ 1 - A.2) : Pe PP A (0, 1) := by
  have h1 : PP ∣ 1 - A.2 ^ 2 := dv2 hy hy (c1 := 1 + A.2) (c2 := 0) (by grind)
  have ho : PP ∣ a * A.1 ^ 2 + A.2 ^ 2 - 1 - d * A.1 ^ 2 * A.2 ^ 2 := hA
  have h2 : PP ∣ (A.1 * A.1) * (a - d) := dv2 ho h1 (c1 := 1) (c2 := 1 - d * A.1 ^ 2) (by grind)
  have hx : PP ∣ A.1 := (pri_PP.mul (cancel pri_PP M.ad h2)).elim id id
  exact ⟨dv2 hx hx (c1 := 1) (c2 := 0) (by grind), dv2 hy hy (c1 := -1) (c2 := 0) (by grind)⟩
theorem nine_order (H : Crv PP a d einv) (M : Mon PP a d b s 121665) (hp : OnP PP a d p) (hr : Rep PP s (9, 1) p.2) : Pe PP (emul a d einv Q25519 p) (0, 1) := by
  have U := (up_all H M hp hr (by decide) (fun i => kbit (Q25519 : Int) (255 - i)) 256).l
  have e := bnum_k Q25519 256 256 (Nat.le_refl _)
  have e' : bnum (fun i => kbit (Q25519 : Int) (255 - i)) 256 = Q25519 := by
    refine e.trans ?_
    rw [Nat.sub_self, Nat.pow_zero, Nat.div_one, Nat.mod_eq_of_lt (by decide)]
  rw [e'] at U
  have hb := nine_Q
  generalize (lrnds 9 (fun i => kbit (Q25519 : Int) (255 - i)) 256).a = u at *
  generalize (lrnds 9 (fun i => kbit (Q25519 : Int) (255 - i)) 256).b = v at *
  have nu : ¬ PP ∣ u := fun k => U.2 ⟨k, hb⟩
  have h1 : PP ∣ u * (1 - (emul a d einv Q25519 p).2) - s * v * (1 + (emul a d einv Q25519 p).2) := U.1
  refine is_zero M (emul_on H hp _) ?_
  generalize (emul a d einv Q25519 p).2 = y at *
  exact cancel pri_PP nu (dv2 h1 hb (c1 := 1) (c2 := s * (1 + y)) (by grind))
theorem Clp.free {K : Nat} (h : Clp K) : ¬ Q25519 ∣ K := fun k => by
  have h1 := h.lo
  have h2 := h.hi
  have h3 := h.ev
  have e : Q25519 ∣ 8 * (K / 8) := by rw [show 8 * (K / 8) = K by omega]; exact k
  rcases prm_Q.mul e with q | q
  · exact absurd (Nat.le_of_dvd (by decide) q) (by decide)
  · have h4 : 7237005577332262213973186563042994240857116359379907606001950938285454250989 ≤ K / 8 := Nat.le_of_dvd (by omega) q
    omega
theorem nine_on (H : Crv PP a d einv) (M : Mon PP a d b s 121665) (hp : OnP PP a d p) (hr : Rep PP s (9, 1) p.2) {K K' : Nat} (hK : Clp K) (hK' : Clp K') : ¬ L (L 9 K') K = 0 := by
  have b1 : K < 2 ^ 256 := Nat.lt_trans hK.hi (by decide)
  have b2 : K' < 2 ^ 256 := Nat.lt_trans hK'.hi (by decide)
  have oq := nine_order H M hp hr
  -- p is not zero
  have np : ¬ Pe PP p (0, 1) := fun k => by
    have h1 : PP ∣ 9 * (1 - p.2) - s * 1 * (1 + p.2) := hr.1
    have h2 : PP ∣ p.2 - 1 := k.2
    have g : PP ∣ 2 * 1 := by
      rcases M.s1 with e | e <;> subst e
      · exact dv2 h1 h2 (c1 := -1) (c2 := -10) (by grind)
      · exact dv2 h1 h2 (c1 := 1) (c2 := 8) (by grind)
    exact pri_PP.two (by simpa using g)
  have kill : ∀ m, Pe PP (emul a d einv m p) (0, 1) → ¬ Q25519 ∣ m → False := fun m h1 h2 => np (order_kill H hp prm_Q oq h1 h2)
  have two : ∀ m, (PP ∣ 1 - (emul a d einv m p).2 ∨ PP ∣ 1 + (emul a d einv m p).2) → Pe PP (emul a d einv (m * 2) p) (0, 1) := fun m hy =>
    (emul_mul H hp m 2).trans ((emul_two H (emul_on H hp m)).trans (two_small H M (emul_on H hp m) hy))
  have n2 : ¬ Q25519 ∣ 2 := fun q => absurd (Nat.le_of_dvd (by decide) q) (by decide)
  obtain ⟨u', v', R', e'⟩ := L_rep H M hp hr (by decide) b2
  have z' : ¬ L 9 K' = 0 := fun z => by
    refine kill _ (two K' (end_zero M.s1 R' (by rw [← e']; exact z))) (fun q => ?_)
    rcases prm_Q.mul q with r | r
    · exact hK'.free r
    · exact n2 r
  intro z
  have Q := end_some R' (by rw [← e']; exact z')
  rw [← e'] at Q
  obtain ⟨u2, v2, R2, e2⟩ := L_rep H M (emul_on H hp K') Q (L_nz z') b1
  have sm := end_zero M.s1 (R2.cg (emul_mul H hp K' K).symm.2) (by rw [← e2]; exact z)
  refine kill _ (two (K' * K) sm) (fun q => ?_)
  rcases prm_Q.mul q with r | r
  · rcases prm_Q.mul r with t | t
    · exact hK'.free t
    · exact hK.free t
  · exact n2 r
end
theorem nine_shared {K K' : Nat} (hK : Clp K) (hK' : Clp K') : ¬ L (L 9 K') K = 0 := by
  rcases point_of (x := 9) (by decide) with ⟨p, hp, hr⟩ | ⟨p, hp, hr⟩
  · exact nine_on crv1 mon1 hp hr hK hK'
  · exact nine_on crv2 mon2 hp hr hK hK'
end Go.Proofs.YthapcapiiknjdaaDoor
