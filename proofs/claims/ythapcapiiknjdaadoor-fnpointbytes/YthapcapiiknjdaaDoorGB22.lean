import Derived.Test.YthapcapiiknjdaaDoorGB21

/-
  Every first coordinate but 0 belongs to a point of one of the two curves.
-/
namespace Go.Proofs.YthapcapiiknjdaaDoor
set_option maxRecDepth 100000

section
variable {P d i x D X y v : Int}
end
end Go.Proofs.YthapcapiiknjdaaDoor

/-
  The ladder climbs a point: the pairs stand for its multiples; what it answers at the end.
-/
namespace Go.Proofs.YthapcapiiknjdaaDoor
set_option maxRecDepth 100000

section
variable {P a d b s : Int} {inv : Int → Int}
theorem Rep.cg {w : Int × Int} {y y' : Int} (h : Rep P s w y) (e : P ∣ y - y') : Rep P s w y' :=
  ⟨dv2 h.1 e (c1 := 1) (c2 := w.1 + s * w.2) (by grind), h.2⟩
theorem Sm.res {x1 y1 x2 y2 x3 y3 x4 y4 : Int} (h : Sm P a d x1 y1 x2 y2 x3 y3) (hx : P ∣ x3 - x4) (hy : P ∣ y3 - y4) : Sm P a d x1 y1 x2 y2 x4 y4 :=
  ⟨dv2 h.x hx (c1 := 1) (c2 := -(1 + d * x1 * x2 * y1 * y2)) (by grind), dv2 h.y hy (c1 := 1) (c2 := -(1 - d * x1 * x2 * y1 * y2)) (by grind)⟩
def eneg (p : Int × Int) : Int × Int := (-p.1, p.2)
theorem eadd_negs (p q : Int × Int) : eadd a d inv (eneg p) (eneg q) = eneg (eadd a d inv p q) := by
  unfold eadd eneg
  have e1 : 1 + d * -p.1 * -q.1 * p.2 * q.2 = 1 + d * p.1 * q.1 * p.2 * q.2 := by grind
  have e2 : 1 - d * -p.1 * -q.1 * p.2 * q.2 = 1 - d * p.1 * q.1 * p.2 * q.2 := by grind
  simp only [e1, e2]
  congr 1
  · grind
  · grind
/-- N p less (N + 1) p is -p. -/
theorem step_back (H : Crv P a d inv) {A p : Int × Int} (hA : OnP P a d A) (hp : OnP P a d p) : Pe P (eadd a d inv A (eneg (eadd a d inv A p))) (eneg p) := by
  rw [← eadd_negs]
  have nA : OnP P a d (eneg A) := neg_on hA
  have np : OnP P a d (eneg p) := neg_on hp
  have e1 := (eadd_assoc H hA nA np).symm
  have e2 := eadd_cg H (eadd_on H hA nA) np (eadd_neg H hA) (Pe.refl (eneg p))
  have e3 := eadd_comm H (p := (0, 1)) (q := eneg p) zero_on np
  exact e1.trans (e2.trans (e3.trans (eadd_zero H np)))
end

/-- The two pairs stand for n p and (n + 1) p. -/
structure Up (a d s : Int) (p : Int × Int) (n : Nat) (t : Two4) : Prop where
  l : Rep PP s (t.a, t.b) (emul a d einv n p).2
  r : Rep PP s (t.c, t.d) (emul a d einv (n + 1) p).2
section
variable {a d b s x : Int} {p : Int × Int}
theorem Up.zero (H : Crv PP a d einv) (hp : OnP PP a d p) (hr : Rep PP s (x, 1) p.2) : Up a d s p 0 ⟨1, 0, x, 1⟩ := by
  refine ⟨⟨⟨0, ?_⟩, fun h => pri_PP.one h.1⟩, ?_⟩
  · show 1 * (1 - 1) - s * 0 * (1 + 1) = PP * 0
    grind
  · have e : Pe PP (eadd a d einv (0, 1) p) p := (eadd_comm H zero_on hp).trans (eadd_zero H hp)
    exact hr.cg (e.symm.2)
theorem Up.step (H : Crv PP a d einv) (M : Mon PP a d b s 121665) (hp : OnP PP a d p) (hr : Rep PP s (x, 1) p.2) (hx : ¬ PP ∣ x) {n : Nat} {t : Two4} (h : Up a d s p n t) (bit : Bool) : Up a d s p (2 * n + bit.toNat) (lrnd x bit t) := by
  have hA := emul_on H hp n
  have hB := emul_on H hp (n + 1)
  have hs := M.s1
  -- the double of any multiple
  have D : ∀ (m : Nat) (u v : Int), Rep PP s (u, v) (emul a d einv m p).2 → Rep PP s (dU u v, dV u v) (emul a d einv (2 * m) p).2 := fun m u v hw => by
    have hm := emul_on H hp m
    have g := Rep.dbl H.pri H.cpl M hw hm (eadd_sm H hm hm)
    have e : Pe PP (eadd a d einv (emul a d einv m p) (emul a d einv m p)) (emul a d einv (2 * m) p) := by
      rw [Nat.two_mul]
      exact (emul_add H hp m m).symm
    have k : ldbl 121665 (u, v) = (dU u v, dV u v) := by
      unfold ldbl dU dV dW
      simp only [Prod.mk.injEq, true_and]
      grind
    rw [k] at g
    exact g.cg e.2
  -- the sum of both
  have S : Rep PP s (sU t.a t.b t.c t.d, sV x t.a t.b t.c t.d) (emul a d einv (2 * n + 1) p).2 := by
    have hd := (eadd_sm H hA (neg_on hB)).res (step_back H hA hp).1 (step_back H hA hp).2
    have hxr : PP ∣ x * (1 - p.2) - s * (1 + p.2) := dv2 hr.1 hr.1 (c1 := 1) (c2 := 0) (by grind)
    have hn : ¬ PP ∣ 1 - p.2 := fun k => by
      have h2 : PP ∣ 2 := by
        have q : PP ∣ s * 2 := dv2 hxr k (c1 := -1) (c2 := x + s) (by grind)
        rcases hs with e | e
        · rw [e] at q; simpa using q
        · rw [e] at q
          exact dv2 q q (c1 := -1) (c2 := 0) (by grind)
      exact pri_PP.two h2
    have g := Rep.sum H.pri H.cpl hs h.l h.r hA hB (eadd_sm H hA hB) hd hxr hn hx
    have e : Pe PP (eadd a d einv (emul a d einv n p) (emul a d einv (n + 1) p)) (emul a d einv (2 * n + 1) p) := by
      rw [show 2 * n + 1 = n + (n + 1) by omega]
      exact (emul_add H hp n (n + 1)).symm
    exact g.cg e.2
  cases bit
  · exact ⟨D n _ _ h.l, S⟩
  · refine ⟨S, ?_⟩
    have g := D (n + 1) _ _ h.r
    rw [show 2 * (n + 1) = 2 * n + 1 + 1 by omega] at g
    exact g
end
end Go.Proofs.YthapcapiiknjdaaDoor

/-
  The ladder commutes.
-/
namespace Go.Proofs.YthapcapiiknjdaaDoor
set_option maxRecDepth 100000

def ladS' (x K : Int) : Int := ladE x (fun i => kbit K (255 - i)) 256
def L (x : Int) (K : Nat) : Int := ladS' x (K : Int) % PP
/-- A clamped number. -/
structure Clp (K : Nat) : Prop where
  lo : 28948022309329048855892746252171976963317496166410141009864396001978282409984 ≤ K
  hi : K < 57896044618658097711785492504343953926634992332820282019728792003956564819968
  ev : K % 8 = 0
section
variable {a d b s x : Int} {p : Int × Int}
end
end Go.Proofs.YthapcapiiknjdaaDoor

/-
  The point of 9 has the order of the group, a prime: what two ends share is never 0.
-/
namespace Go.Proofs.YthapcapiiknjdaaDoor
set_option maxRecDepth 100000

theorem prmq_2551 : Prm 2551 := prime_by_trial (k := 49) (by decide) (by decide) (by decide)
theorem prmq_1224481 : Prm 1224481 := cert_one (f := 21) (h := 921659) (by decide +kernel) (by decide +kernel) prmq_2551 (by decide +kernel) (by decide +kernel) (by decide +kernel) (by decide +kernel) (by decide +kernel)
theorem prmq_3797 : Prm 3797 := prime_by_trial (k := 60) (by decide) (by decide) (by decide)
theorem prmq_531581 : Prm 531581 := cert_one (f := 20) (h := 32301) (by decide +kernel) (by decide +kernel) prmq_3797 (by decide +kernel) (by decide +kernel) (by decide +kernel) (by decide +kernel) (by decide +kernel)
theorem prmq_125755973217n16 : Prm 1257559732178653 := cert_two (f := 51) (h := 1252739704402215) (i := 1139842034583224) (by decide +kernel) (by decide +kernel) prmq_1224481 prmq_531581 (by decide +kernel) (by decide +kernel) (by decide +kernel) (by decide +kernel) (by decide +kernel) (by decide +kernel) (by decide +kernel) (by decide +kernel) (by decide +kernel)
theorem prmq_443415561566n19 : Prm 4434155615661930479 := cert_one (f := 62) (h := 415787812636281767) (by decide +kernel) (by decide +kernel) prmq_125755973217n16 (by decide +kernel) (by decide +kernel) (by decide +kernel) (by decide +kernel) (by decide +kernel)
theorem prmq_172054593956n27 : Prm 172054593956031949258510691 := cert_one (f := 88) (h := 81982237619807054769897707) (by decide +kernel) (by decide +kernel) prmq_443415561566n19 (by decide +kernel) (by decide +kernel) (by decide +kernel) (by decide +kernel) (by decide +kernel)
theorem prmq_197573303058n41 : Prm 19757330305831588566944191468367130476339 := cert_one (f := 134) (h := 9148758478138211201771971577098600188172) (by decide +kernel) (by decide +kernel) prmq_172054593956n27 (by decide +kernel) (by decide +kernel) (by decide +kernel) (by decide +kernel) (by decide +kernel)
theorem prmq_276602624281n42 : Prm 276602624281642239937218680557139826668747 := cert_one (f := 138) (h := 16384) (by decide +kernel) (by decide +kernel) prmq_197573303058n41 (by decide +kernel) (by decide +kernel) (by decide +kernel) (by decide +kernel) (by decide +kernel)
theorem prmq_723700557733n76 : Prm 7237005577332262213973186563042994240857116359379907606001950938285454250989 := cert_one (f := 253) (h := 2975531125133123119648879457563281269120703404158613135195788908093573672641) (by decide +kernel) (by decide +kernel) prmq_276602624281n42 (by decide +kernel) (by decide +kernel) (by decide +kernel) (by decide +kernel) (by decide +kernel)

abbrev Q25519 : Nat := 7237005577332262213973186563042994240857116359379907606001950938285454250989
theorem prm_Q : Prm Q25519 := prmq_723700557733n76

/-! ### the ladder by naturals, for the kernel -/
def nS (a b : Nat) : Nat := (a + b) * (a + b) % P25519
section
variable {a b c d : Nat} {A B C D : Int}
end

section
variable {a d b s x : Int} {p : Int × Int}
theorem Clp.free {K : Nat} (h : Clp K) : ¬ Q25519 ∣ K := fun k => by
  have h1 := h.lo
  have h2 := h.hi
  have h3 := h.ev
  have e : Q25519 ∣ 8 * (K / 8) := by rw [show 8 * (K / 8) = K by omega]; exact k
  rcases prm_Q.mul e with q | q
  · exact absurd (Nat.le_of_dvd (by decide) q) (by decide)
  · have h4 : 7237005577332262213973186563042994240857116359379907606001950938285454250989 ≤ K / 8 := Nat.le_of_dvd (by omega) q
    omega
end
end Go.Proofs.YthapcapiiknjdaaDoor
