import Derived.Test.YtblkjpmkikhpbaaDoorGL36
import Derived.Test.YtblkjpmkikhpbaaDoorGL29
import Derived.Test.YtblkjpmkikhpbaaDoorGL7
import Derived.Test.YtblkjpmkikhpbaaDoorGL22

/-
  Edwards curves modulo a prime: the sums are a group. Numbers alone.
-/
namespace Go.Proofs.YtblkjpmkikhpbaaDoor
set_option maxRecDepth 100000

/-- A prime, as far as it is wanted. -/
structure Pri (P : Int) : Prop where
  mul : ∀ {x y : Int}, P ∣ x * y → P ∣ x ∨ P ∣ y
  one : ¬ P ∣ 1
  two : ¬ P ∣ 2

section
variable {P a d : Int}
/-- (x, y) lies on the curve. -/
def On (P a d x y : Int) : Prop := P ∣ a * x ^ 2 + y ^ 2 - 1 - d * x ^ 2 * y ^ 2
/-- (x3, y3) is the sum of the two others. -/
structure Sm (P a d x1 y1 x2 y2 x3 y3 : Int) : Prop where
  x : P ∣ x3 * (1 + d * x1 * x2 * y1 * y2) - (x1 * y2 + y1 * x2)
  y : P ∣ y3 * (1 - d * x1 * x2 * y1 * y2) - (y1 * y2 - a * x1 * x2)
/-- The denominators of sums never vanish. -/
structure Cpl (P a d : Int) : Prop where
  p : ∀ {x1 y1 x2 y2 : Int}, On P a d x1 y1 → On P a d x2 y2 → ¬ P ∣ 1 + d * x1 * x2 * y1 * y2
  q : ∀ {x1 y1 x2 y2 : Int}, On P a d x1 y1 → On P a d x2 y2 → ¬ P ∣ 1 - d * x1 * x2 * y1 * y2

/-- A combination of what P divides. -/
theorem dv2 {e f c1 c2 t : Int} (he : P ∣ e) (hf : P ∣ f) (h : t = c1 * e + c2 * f) : P ∣ t := by
  rw [h]
  exact Int.dvd_add (Int.dvd_mul_of_dvd_right he) (Int.dvd_mul_of_dvd_right hf)
theorem dv3 {e f g c1 c2 c3 t : Int} (he : P ∣ e) (hf : P ∣ f) (hg : P ∣ g) (h : t = c1 * e + c2 * f + c3 * g) : P ∣ t := by
  rw [h]
  exact Int.dvd_add (Int.dvd_add (Int.dvd_mul_of_dvd_right he) (Int.dvd_mul_of_dvd_right hf)) (Int.dvd_mul_of_dvd_right hg)
/-- What is cancelled. -/
theorem cancel (hP : Pri P) {x c : Int} (hc : ¬ P ∣ c) (h : P ∣ x * c) : P ∣ x := (hP.mul h).resolve_right hc
theorem nz_mul (hP : Pri P) {x y : Int} (hx : ¬ P ∣ x) (hy : ¬ P ∣ y) : ¬ P ∣ x * y := fun h => (hP.mul h).elim hx hy

/-- The sum lies on the curve. -/
theorem Sm.on (hP : Pri P) (hC : Cpl P a d) {x1 y1 x2 y2 x3 y3 : Int} (h1 : On P a d x1 y1) (h2 : On P a d x2 y2) (h : Sm P a d x1 y1 x2 y2 x3 y3) : On P a d x3 y3 := by
  have hp := hC.p h1 h2
  have hq := hC.q h1 h2
  have cl := dv2 h1 h2 (ed_close x1 y1 x2 y2 a d)
  obtain ⟨hx, hy⟩ := h
  unfold On
  generalize x1 * y2 + y1 * x2 = X at *
  generalize y1 * y2 - a * x1 * x2 = Y at *
  have e1 : 1 + d * x1 * x2 * y1 * y2 + (1 - d * x1 * x2 * y1 * y2) = 2 := by omega
  generalize 1 + d * x1 * x2 * y1 * y2 = p at *
  generalize 1 - d * x1 * x2 * y1 * y2 = q at *
  refine cancel hP (nz_mul hP (nz_mul hP hp hp) (nz_mul hP hq hq)) (dv3 hx hy cl (c1 := (a - d * y3 ^ 2) * q * q * (x3 * p + X)) (c2 := (p * p - d * X ^ 2) * (y3 * q + Y)) (c3 := 1) ?_)
  grind
/-- Two sums of the same are the same. -/
theorem Sm.uniq (hP : Pri P) (hC : Cpl P a d) {x1 y1 x2 y2 x3 y3 x4 y4 : Int} (h1 : On P a d x1 y1) (h2 : On P a d x2 y2) (h : Sm P a d x1 y1 x2 y2 x3 y3) (k : Sm P a d x1 y1 x2 y2 x4 y4) : P ∣ x3 - x4 ∧ P ∣ y3 - y4 := by
  constructor
  · refine cancel hP (hC.p h1 h2) (dv2 h.x k.x (c1 := 1) (c2 := -1) ?_)
    grind
  · refine cancel hP (hC.q h1 h2) (dv2 h.y k.y (c1 := 1) (c2 := -1) ?_)
    grind
theorem Sm.comm {x1 y1 x2 y2 x3 y3 : Int} (h : Sm P a d x1 y1 x2 y2 x3 y3) : Sm P a d x2 y2 x1 y1 x3 y3 := by
  obtain ⟨hx, hy⟩ := h
  constructor
  · have e : x3 * (1 + d * x2 * x1 * y2 * y1) - (x2 * y1 + y2 * x1) = x3 * (1 + d * x1 * x2 * y1 * y2) - (x1 * y2 + y1 * x2) := by grind
    rw [e]; exact hx
  · have e : y3 * (1 - d * x2 * x1 * y2 * y1) - (y2 * y1 - a * x2 * x1) = y3 * (1 - d * x1 * x2 * y1 * y2) - (y1 * y2 - a * x1 * x2) := by grind
    rw [e]; exact hy
/-- One side's denominator and numerator, over the denominators of the inner sum. -/
theorem side_x {P d p q X Y x12 y12 x3 y3 xs : Int} (hx : P ∣ x12 * p - X) (hy : P ∣ y12 * q - Y) (h : P ∣ xs * (1 + d * x12 * x3 * y12 * y3) - (x12 * y3 + y12 * x3)) : P ∣ xs * (p * q + d * X * Y * x3 * y3) - (X * y3 * q + Y * x3 * p) :=
  dv3 hx hy h (c1 := y3 * q - xs * d * x3 * y3 * q * y12) (c2 := x3 * p - xs * d * x3 * y3 * X) (c3 := p * q) (by grind)
theorem side_y {P a d p q X Y x12 y12 x3 y3 ys : Int} (hx : P ∣ x12 * p - X) (hy : P ∣ y12 * q - Y) (h : P ∣ ys * (1 - d * x12 * x3 * y12 * y3) - (y12 * y3 - a * x12 * x3)) : P ∣ ys * (p * q - d * X * Y * x3 * y3) - (Y * y3 * p - a * X * x3 * q) :=
  dv3 hx hy h (c1 := ys * d * x3 * y3 * q * y12 - a * x3 * q) (c2 := y3 * p + ys * d * x3 * y3 * X) (c3 := p * q) (by grind)
theorem den_p (hP : Pri P) {d p q X Y x12 y12 x3 y3 : Int} (hp : ¬ P ∣ p) (hq : ¬ P ∣ q) (hx : P ∣ x12 * p - X) (hy : P ∣ y12 * q - Y) (h : ¬ P ∣ 1 + d * x12 * x3 * y12 * y3) : ¬ P ∣ p * q + d * X * Y * x3 * y3 := fun k =>
  nz_mul hP (nz_mul hP hp hq) h (dv3 hx hy k (c1 := d * x3 * y3 * q * y12) (c2 := d * x3 * y3 * X) (c3 := 1) (by grind))
theorem den_q (hP : Pri P) {d p q X Y x12 y12 x3 y3 : Int} (hp : ¬ P ∣ p) (hq : ¬ P ∣ q) (hx : P ∣ x12 * p - X) (hy : P ∣ y12 * q - Y) (h : ¬ P ∣ 1 - d * x12 * x3 * y12 * y3) : ¬ P ∣ p * q - d * X * Y * x3 * y3 := fun k =>
  nz_mul hP (nz_mul hP hp hq) h (dv3 hx hy k (c1 := -(d * x3 * y3 * q * y12)) (c2 := -(d * x3 * y3 * X)) (c3 := 1) (by grind))
/-- Sums may be grouped. -/
theorem Sm.assoc (hP : Pri P) (hC : Cpl P a d) {x1 y1 x2 y2 x3 y3 u v s t xl yl xr yr : Int} (h1 : On P a d x1 y1) (h2 : On P a d x2 y2) (h3 : On P a d x3 y3)
    (h12 : Sm P a d x1 y1 x2 y2 u v) (h23 : Sm P a d x2 y2 x3 y3 s t) (hl : Sm P a d u v x3 y3 xl yl) (hr : Sm P a d x1 y1 s t xr yr) : P ∣ xl - xr ∧ P ∣ yl - yr := by
  have o12 := h12.on hP hC h1 h2
  have o23 := h23.on hP hC h2 h3
  have hr' := hr.comm
  have DL := den_p hP (hC.p h1 h2) (hC.q h1 h2) h12.x h12.y (hC.p o12 h3)
  have DR := den_p hP (hC.p h2 h3) (hC.q h2 h3) h23.x h23.y (hC.p o23 h1)
  have EL := den_q hP (hC.p h1 h2) (hC.q h1 h2) h12.x h12.y (hC.q o12 h3)
  have ER := den_q hP (hC.p h2 h3) (hC.q h2 h3) h23.x h23.y (hC.q o23 h1)
  have SL := side_x h12.x h12.y hl.x
  have SR := side_x h23.x h23.y hr'.x
  have TL := side_y h12.x h12.y hl.y
  have TR := side_y h23.x h23.y hr'.y
  have AX := dv3 h1 h2 h3 (ed_assoc_x x1 y1 x2 y2 x3 y3 a d)
  have AY := dv3 h1 h2 h3 (ed_assoc_y x1 y1 x2 y2 x3 y3 a d)
  clear h12 h23 hl hr hr' o12 o23 h1 h2 h3
  generalize 1 + d * x1 * x2 * y1 * y2 = p at *
  generalize 1 - d * x1 * x2 * y1 * y2 = q at *
  generalize 1 + d * x2 * x3 * y2 * y3 = p' at *
  generalize 1 - d * x2 * x3 * y2 * y3 = q' at *
  generalize x1 * y2 + y1 * x2 = X at *
  generalize y1 * y2 - a * x1 * x2 = Y at *
  generalize x2 * y3 + y2 * x3 = X' at *
  generalize y2 * y3 - a * x2 * x3 = Y' at *
  constructor
  · refine cancel hP (nz_mul hP DL DR) (dv3 SL SR AX (c1 := p' * q' + d * X' * Y' * x1 * y1) (c2 := -(p * q + d * X * Y * x3 * y3)) (c3 := 1) ?_)
    grind
  · refine cancel hP (nz_mul hP EL ER) (dv3 TL TR AY (c1 := p' * q' - d * X' * Y' * x1 * y1) (c2 := -(p * q - d * X * Y * x3 * y3)) (c3 := 1) ?_)
    grind
/-- d is no square. -/
def NSq (P d : Int) : Prop := ∀ r t : Int, P ∣ r ^ 2 - d * t ^ 2 → P ∣ t
theorem cpl_eta (hP : Pri P) {s : Int} (hs : P ∣ s ^ 2 - a) (hd : NSq P d) {x1 y1 x2 y2 h : Int} (hh : h * h = 1) (h1 : On P a d x1 y1) (h2 : On P a d x2 y2) (k : P ∣ d * x1 * x2 * y1 * y2 - h) : False := by
  have k1 : P ∣ x1 * y1 * (s * x2 + y2) := by
    refine hd (s * x1 + h * y1) _ ?_
    have e := dv3 h1 h2 k (c1 := 1) (c2 := -(d * x1 ^ 2 * y1 ^ 2)) (c3 := -(2 * s * x1 * y1) - (d * x1 * x2 * y1 * y2 + h)) rfl
    refine dv2 e hs (c1 := 1) (c2 := x1 ^ 2 - d * x1 ^ 2 * y1 ^ 2 * x2 ^ 2) ?_
    grind
  have k2 : P ∣ x1 * y1 * (s * x2 - y2) := by
    refine hd (s * x1 - h * y1) _ ?_
    have e := dv3 h1 h2 k (c1 := 1) (c2 := -(d * x1 ^ 2 * y1 ^ 2)) (c3 := 2 * s * x1 * y1 - (d * x1 * x2 * y1 * y2 + h)) rfl
    refine dv2 e hs (c1 := 1) (c2 := x1 ^ 2 - d * x1 ^ 2 * y1 ^ 2 * x2 ^ 2) ?_
    grind
  have no : ∀ z c : Int, P ∣ z → d * x1 * x2 * y1 * y2 = z * c → False := fun z c hz e => hP.one (by
    have := dv2 k hz (c1 := -h) (c2 := h * c) (t := 1) (by grind)
    exact this)
  have k3 : P ∣ 2 * (x1 * y1 * y2) := dv2 k1 k2 (c1 := 1) (c2 := -1) (by grind)
  rcases hP.mul k3 with z | z
  · exact hP.two z
  · exact no _ (d * x2) z (by grind)
/-- Where a is a square and d is none, no denominator vanishes. -/
theorem cpl_of (hP : Pri P) {s : Int} (hs : P ∣ s ^ 2 - a) (hd : NSq P d) : Cpl P a d := by
  constructor
  · intro x1 y1 x2 y2 h1 h2 k
    refine cpl_eta hP hs hd (h := -1) (by decide) h1 h2 ?_
    have e : d * x1 * x2 * y1 * y2 - -1 = 1 + d * x1 * x2 * y1 * y2 := by omega
    rw [e]
    exact k
  · intro x1 y1 x2 y2 h1 h2 k
    refine cpl_eta hP hs hd (h := 1) (by decide) h1 h2 ?_
    have e : d * x1 * x2 * y1 * y2 - 1 = -(1 - d * x1 * x2 * y1 * y2) := by omega
    rw [e]
    exact Int.dvd_neg.mpr k

/-! ### the group -/
/-- The same point. -/
def Pe (P : Int) (p q : Int × Int) : Prop := P ∣ p.1 - q.1 ∧ P ∣ p.2 - q.2
theorem Pe.refl (p : Int × Int) : Pe P p p := ⟨⟨0, by omega⟩, ⟨0, by omega⟩⟩
theorem Pe.symm {p q : Int × Int} (h : Pe P p q) : Pe P q p := by
  obtain ⟨⟨u, hu⟩, v, hv⟩ := h
  exact ⟨⟨-u, by rw [Int.mul_neg, ← hu]; omega⟩, ⟨-v, by rw [Int.mul_neg, ← hv]; omega⟩⟩
theorem Pe.trans {p q r : Int × Int} (h : Pe P p q) (k : Pe P q r) : Pe P p r := by
  constructor
  · have := Int.dvd_add h.1 k.1
    rwa [show p.1 - q.1 + (q.1 - r.1) = p.1 - r.1 by omega] at this
  · have := Int.dvd_add h.2 k.2
    rwa [show p.2 - q.2 + (q.2 - r.2) = p.2 - r.2 by omega] at this
/-- What a curve with its inverses gives. -/
structure Crv (P a d : Int) (inv : Int → Int) : Prop where
  pri : Pri P
  cpl : Cpl P a d
  inv : ∀ c, ¬ P ∣ c → P ∣ inv c * c - 1
def eadd (a d : Int) (inv : Int → Int) (p q : Int × Int) : Int × Int :=
  ((p.1 * q.2 + p.2 * q.1) * inv (1 + d * p.1 * q.1 * p.2 * q.2), (p.2 * q.2 - a * p.1 * q.1) * inv (1 - d * p.1 * q.1 * p.2 * q.2))
def OnP (P a d : Int) (p : Int × Int) : Prop := On P a d p.1 p.2
variable {inv : Int → Int}
theorem eadd_sm (H : Crv P a d inv) {p q : Int × Int} (hp : OnP P a d p) (hq : OnP P a d q) : Sm P a d p.1 p.2 q.1 q.2 (eadd a d inv p q).1 (eadd a d inv p q).2 := by
  have i1 := H.inv _ (H.cpl.p hp hq)
  have i2 := H.inv _ (H.cpl.q hp hq)
  constructor
  · refine dv2 i1 i1 (c1 := p.1 * q.2 + p.2 * q.1) (c2 := 0) ?_
    unfold eadd
    grind
  · refine dv2 i2 i2 (c1 := p.2 * q.2 - a * p.1 * q.1) (c2 := 0) ?_
    unfold eadd
    grind
theorem eadd_on (H : Crv P a d inv) {p q : Int × Int} (hp : OnP P a d p) (hq : OnP P a d q) : OnP P a d (eadd a d inv p q) := (eadd_sm H hp hq).on H.pri H.cpl hp hq
theorem On.cg {x y x' y' : Int} (h : On P a d x y) (hx : P ∣ x - x') (hy : P ∣ y - y') : On P a d x' y' := by
  refine dv3 h hx hy (c1 := 1) (c2 := -((a - d * y' ^ 2) * (x + x'))) (c3 := -((1 - d * x ^ 2) * (y + y'))) ?_
  grind
theorem Sm.cg {x1 y1 x2 y2 x3 y3 u1 v1 u2 v2 : Int} (h : Sm P a d x1 y1 x2 y2 x3 y3) (hx1 : P ∣ x1 - u1) (hy1 : P ∣ y1 - v1) (hx2 : P ∣ x2 - u2) (hy2 : P ∣ y2 - v2) : Sm P a d u1 v1 u2 v2 x3 y3 := by
  constructor
  · have h1 := dv3 h.x hx1 hy1 (c1 := 1) (c2 := -(x3 * d * x2 * y1 * y2 - y2)) (c3 := -(x3 * d * u1 * x2 * y2 - x2)) rfl
    refine dv3 h1 hx2 hy2 (c1 := 1) (c2 := -(x3 * d * u1 * v1 * y2 - v1)) (c3 := -(x3 * d * u1 * v1 * u2 - u1)) ?_
    grind
  · have h1 := dv3 h.y hx1 hy1 (c1 := 1) (c2 := y3 * d * x2 * y1 * y2 - a * x2) (c3 := y3 * d * u1 * x2 * y2 + y2) rfl
    refine dv3 h1 hx2 hy2 (c1 := 1) (c2 := y3 * d * u1 * v1 * y2 - a * u1) (c3 := y3 * d * u1 * v1 * u2 + v1) ?_
    grind
theorem eadd_cg (H : Crv P a d inv) {p q p' q' : Int × Int} (hp : OnP P a d p) (hq : OnP P a d q) (ep : Pe P p p') (eq : Pe P q q') : Pe P (eadd a d inv p q) (eadd a d inv p' q') := by
  have hp' : OnP P a d p' := On.cg hp ep.1 ep.2
  have hq' : OnP P a d q' := On.cg hq eq.1 eq.2
  exact Sm.uniq H.pri H.cpl hp' hq' ((eadd_sm H hp hq).cg ep.1 ep.2 eq.1 eq.2) (eadd_sm H hp' hq')
theorem eadd_comm (H : Crv P a d inv) {p q : Int × Int} (hp : OnP P a d p) (hq : OnP P a d q) : Pe P (eadd a d inv p q) (eadd a d inv q p) := Sm.uniq H.pri H.cpl hq hp (eadd_sm H hp hq).comm (eadd_sm H hq hp)
theorem eadd_assoc (H : Crv P a d inv) {p q r : Int × Int} (hp : OnP P a d p) (hq : OnP P a d q) (hr : OnP P a d r) : Pe P (eadd a d inv (eadd a d inv p q) r) (eadd a d inv p (eadd a d inv q r)) :=
  Sm.assoc H.pri H.cpl hp hq hr (eadd_sm H hp hq) (eadd_sm H hq hr) (eadd_sm H (eadd_on H hp hq) hr) (eadd_sm H hp (eadd_on H hq hr))
theorem zero_on : OnP P a d (0, 1) := ⟨0, by simp⟩
theorem eadd_zero (H : Crv P a d inv) {p : Int × Int} (hp : OnP P a d p) : Pe P (eadd a d inv p (0, 1)) p :=
  Sm.uniq H.pri H.cpl hp zero_on (eadd_sm H hp zero_on) ⟨⟨0, by simp⟩, ⟨0, by simp⟩⟩
theorem neg_on {p : Int × Int} (hp : OnP P a d p) : OnP P a d (-p.1, p.2) := by
  have e : a * (-p.1) ^ 2 + p.2 ^ 2 - 1 - d * (-p.1) ^ 2 * p.2 ^ 2 = a * p.1 ^ 2 + p.2 ^ 2 - 1 - d * p.1 ^ 2 * p.2 ^ 2 := by grind
  show P ∣ _
  rw [e]
  exact hp
theorem eadd_neg (H : Crv P a d inv) {p : Int × Int} (hp : OnP P a d p) : Pe P (eadd a d inv p (-p.1, p.2)) (0, 1) := by
  refine Sm.uniq H.pri H.cpl hp (neg_on hp) (eadd_sm H hp (neg_on hp)) ⟨⟨0, ?_⟩, ?_⟩
  · simp only
    grind
  · refine dv2 hp hp (c1 := -1) (c2 := 0) ?_
    simp only
    grind

/-- n times a point. -/
def emul (a d : Int) (inv : Int → Int) : Nat → Int × Int → Int × Int
  | 0, _ => (0, 1)
  | n + 1, p => eadd a d inv (emul a d inv n p) p
theorem emul_on (H : Crv P a d inv) {p : Int × Int} (hp : OnP P a d p) : ∀ n, OnP P a d (emul a d inv n p)
  | 0 => zero_on
  | n + 1 => eadd_on H (emul_on H hp n) hp
theorem emul_add (H : Crv P a d inv) {p : Int × Int} (hp : OnP P a d p) (m : Nat) : ∀ n, Pe P (emul a d inv (m + n) p) (eadd a d inv (emul a d inv m p) (emul a d inv n p))
  | 0 => (eadd_zero H (emul_on H hp m)).symm
  | n + 1 => (eadd_cg H (emul_on H hp (m + n)) hp (emul_add H hp m n) (Pe.refl p)).trans (eadd_assoc H (emul_on H hp m) (emul_on H hp n) hp)
theorem emul_cg (H : Crv P a d inv) {p q : Int × Int} (hp : OnP P a d p) (e : Pe P p q) : ∀ n, Pe P (emul a d inv n p) (emul a d inv n q)
  | 0 => Pe.refl _
  | n + 1 => eadd_cg H (emul_on H hp n) hp (emul_cg H hp e n) e
theorem emul_mul (H : Crv P a d inv) {p : Int × Int} (hp : OnP P a d p) (n : Nat) : ∀ m, Pe P (emul a d inv (n * m) p) (emul a d inv m (emul a d inv n p))
  | 0 => Pe.refl _
  | m + 1 => by
    rw [Nat.mul_succ]
    exact (emul_add H hp (n * m) n).trans (eadd_cg H (emul_on H hp (n * m)) (emul_on H hp n) (emul_mul H hp n m) (Pe.refl _))
end
end Go.Proofs.YtblkjpmkikhpbaaDoor

/-
  Squares modulo P: which numbers have a root. Numbers alone.
-/
namespace Go.Proofs.YtblkjpmkikhpbaaDoor
set_option maxRecDepth 100000

def eQ : Nat := 14474011154664524427946373126085988481658748083205070504932198000989141204987
def eH : Nat := 28948022309329048855892746252171976963317496166410141009864396001978282409974
theorem PP_nat : (PP : Int) = ((P25519 : Nat) : Int) := rfl
theorem pwm (x : Int) : ∀ e : Nat, (x % PP) ^ e % PP = x ^ e % PP
  | 0 => by rw [Int.pow_zero, Int.pow_zero]
  | e + 1 => by
    rw [Int.pow_succ, Int.pow_succ, Int.mul_emod, pwm x e, Int.emod_emod_of_dvd _ (Int.dvd_refl _), ← Int.mul_emod]
/-- A product that is 0 has a factor that is. -/
theorem PP_mul {x y : Int} (h : x * y % PP = 0) : x % PP = 0 ∨ y % PP = 0 := by
  have hd : (PP : Int) ∣ x * y := Int.dvd_of_emod_eq_zero h
  have h2 : P25519 ∣ x.natAbs * y.natAbs := by
    have := Int.natAbs_dvd_natAbs.mpr hd
    rwa [Int.natAbs_mul] at this
  rcases prm_P.mul h2 with k | k
  · exact .inl (Int.emod_eq_zero_of_dvd (Int.natAbs_dvd_natAbs.mp (by exact k)))
  · exact .inr (Int.emod_eq_zero_of_dvd (Int.natAbs_dvd_natAbs.mp (by exact k)))
theorem PP_fermat {x : Int} (h0 : 0 < x) (h1 : x < PP) : x ^ (2 * eH) % PP = 1 := by
  obtain ⟨n, rfl⟩ := Int.eq_ofNat_of_zero_le (show 0 ≤ x by omega)
  have hn : ¬ P25519 ∣ n := fun hd => by
    have h := Nat.le_of_dvd (by omega) hd
    have := PP_nat
    omega
  have f := prm_P.fermat hn
  have e : P25519 - 1 = 2 * eH := by decide +kernel
  rw [e] at f
  rw [PP_nat, ← Int.natCast_pow, ← Int.natCast_emod, f]
  rfl
/-- The roots of one are one and minus one. -/
theorem one_roots {y : Int} (h0 : 0 ≤ y) (h1 : y < PP) (h : y * y % PP = 1) : y = 1 ∨ y = PP - 1 := by
  have e : (y - 1) * (y + 1) = y * y - 1 := by grind
  have z : (y - 1) * (y + 1) % PP = 0 := by
    rw [e, Int.sub_emod, h]
    decide
  have hP : (PP : Int) = 57896044618658097711785492504343953926634992332820282019728792003956564819949 := rfl
  rcases PP_mul z with k | k
  · left
    clear h z e
    rw [hP] at h1 k
    omega
  · right
    clear h z e
    rw [hP] at h1 k ⊢
    omega
theorem half_one {x : Int} (h0 : 0 < x) (h1 : x < PP) : x ^ eH % PP = 1 ∨ x ^ eH % PP = PP - 1 := by
  refine one_roots (Int.emod_nonneg _ (by decide)) (Int.emod_lt_of_pos _ (by decide)) ?_
  rw [pow_sq]
  exact PP_fermat h0 h1
theorem rt_sq (A : Int) : rtR A * rtR A % PP = (A ^ eQ % PP) * A % PP := by
  unfold rtR
  rw [pow_sq, show 2 * eRt = eQ + 1 by decide +kernel, Int.pow_succ, Int.mul_emod, Int.mul_emod (A ^ eQ % PP) A, Int.emod_emod]
theorem neg_neg_P {A : Int} (h0 : 0 ≤ A) (h1 : A < PP) : (0 - (0 - A) % PP) % PP = A := by
  have hP : (PP : Int) = 57896044618658097711785492504343953926634992332820282019728792003956564819949 := rfl
  rw [hP] at h1 ⊢
  omega
theorem neg_mul_P (A : Int) : (PP - 1) * A = PP * A + (0 - A) := by
  generalize PP = p
  rw [Int.sub_mul, Int.one_mul]
  omega
theorem has_of {A : Int} (h0 : 0 < A) (h1 : A < PP) (h : A ^ eH % PP = 1) : r1I A * r1I A % PP = A := by
  have q : A ^ eQ % PP = 1 ∨ A ^ eQ % PP = PP - 1 := by
    refine one_roots (Int.emod_nonneg _ (by decide)) (Int.emod_lt_of_pos _ (by decide)) ?_
    rw [pow_sq, show 2 * eQ = eH by decide +kernel]
    exact h
  have s := rt_sq A
  rcases q with q | q
  · rw [q, Int.one_mul, Int.emod_eq_of_lt (Int.le_of_lt h0) h1] at s
    refine (same_root (Int.le_of_lt h0) h1).1.mpr ?_
    rw [show r1S A = rtR A by rw [r1S, if_pos s]]
    exact s
  · rw [q, neg_mul_P, Int.mul_add_emod_self_left] at s
    rw [show r1I A = rtR A * iM % PP by rw [r1I, if_pos s], turn_sq, neg_modP _ _ s]
    exact neg_neg_P (Int.le_of_lt h0) h1
theorem pow_of_sq {R : Int} (h0 : 0 < R) (h1 : R < PP) : (R * R % PP) ^ eH % PP = 1 := by
  rw [pwm, show R * R = R ^ 2 by rw [Int.pow_succ, Int.pow_succ, Int.pow_zero, Int.one_mul], ← Int.pow_mul]
  exact PP_fermat h0 h1
theorem of_has {A : Int} (h0 : 0 < A) (h : r1I A * r1I A % PP = A) : A ^ eH % PP = 1 := by
  have b := r1I_bd A
  have r0 : 0 < r1I A := by
    rcases Int.lt_or_eq_of_le b.1 with k | k
    · exact k
    · rw [← k] at h
      rw [Int.zero_mul] at h
      have : (0 : Int) % PP = 0 := by decide
      rw [this] at h
      exact absurd h0 (by rw [← h]; decide)
  have k := pow_of_sq r0 b.2
  rw [h] at k
  exact k
/-- A square has a root. -/
theorem sq_has {x : Int} (h0 : 0 ≤ x) (h1 : x < PP) : r1I (x * x % PP) * r1I (x * x % PP) % PP = x * x % PP := by
  by_cases hx : x = 0
  · subst hx
    rw [Int.mul_zero, show (0 : Int) % PP = 0 by decide]
    have : r1I 0 = 0 := by rw [r1I, rtR_zero]; simp
    rw [this]
    rfl
  · have s0 : 0 ≤ x * x % PP := Int.emod_nonneg _ (by decide)
    have s1 : x * x % PP < PP := Int.emod_lt_of_pos _ (by decide)
    have s2 : ¬ x * x % PP = 0 := fun e => by
      rcases PP_mul e with k | k
      all_goals
        rw [Int.emod_eq_of_lt h0 h1] at k
        exact hx k
    have x0 : 0 < x := by omega
    have y0 : 0 < x * x % PP := by omega
    exact has_of y0 s1 (pow_of_sq x0 h1)
theorem two_half : (2 : Int) ^ eH % PP = PP - 1 := by
  have h : pm P25519 255 2 eH = P25519 - 1 := by decide +kernel
  rw [pm_eq _ _ _ _ (by decide +kernel)] at h
  have h' : (((2 : Nat) ^ eH % P25519 : Nat) : Int) = ((P25519 - 1 : Nat) : Int) := by rw [h]
  rw [Int.natCast_emod, Int.natCast_pow] at h'
  rw [PP_nat]
  exact h'
theorem dbl (A : Int) (e : Nat) (h : (2 : Int) ^ e % PP = PP - 1) : ((A + A) % PP) ^ e % PP = (PP - 1) * (A ^ e % PP) % PP := by
  rw [pwm, ← Int.two_mul, Int.mul_pow, Int.mul_emod, h]
theorem just_gen {P Q : Prop} {u v : Int} (e : v = (PP - 1) * u % PP) (k : u = 1 ∨ u = PP - 1) (O1 : P → u = 1) (H1 : u = 1 → P) (O2 : Q → v = 1) (H2 : v = 1 → Q) : P ↔ ¬ Q := by
  rcases k with rfl | rfl
  · refine ⟨fun _ c => ?_, fun _ => H1 rfl⟩
    exact absurd ((O2 c).symm.trans e) (by decide +kernel)
  · refine ⟨fun c => ?_, fun c => absurd (H2 (e.trans (by decide +kernel))) c⟩
    exact absurd (O1 c) (by decide +kernel)
theorem dbl_ne {A : Int} (h0 : 0 < A) (h1 : A < PP) : ¬ (A + A) % PP = 0 := fun h => by
  rw [← Int.two_mul] at h
  rcases PP_mul h with k | k
  · exact absurd k (by decide +kernel)
  · rw [Int.emod_eq_of_lt (Int.le_of_lt h0) h1] at k
    rw [k] at h0
    exact absurd h0 (by decide)
theorem dbl_pos {A : Int} (h0 : 0 < A) (h1 : A < PP) : 0 < (A + A) % PP := by
  have n := dbl_ne h0 h1
  have d0 : 0 ≤ (A + A) % PP := Int.emod_nonneg _ (by decide)
  generalize (A + A) % PP = D at *
  omega
/-- Of a number and its double just one has a root. -/
theorem just_one {A : Int} (h0 : 0 < A) (h1 : A < PP) : r1I A * r1I A % PP = A ↔ ¬ r1I ((A + A) % PP) * r1I ((A + A) % PP) % PP = (A + A) % PP := by
  have d1 : (A + A) % PP < PP := Int.emod_lt_of_pos _ (by decide)
  have dp := dbl_pos h0 h1
  have e := dbl A eH two_half
  have k := half_one h0 h1
  have O1 := of_has h0
  have H1 := has_of h0 h1
  have O2 := of_has dp
  have H2 := has_of dp d1
  exact just_gen e k O1 H1 O2 H2
/-- The root that is told is even, and its square is the same. -/
theorem neg_P {r : Int} (h0 : 0 < r) (h1 : r < PP) : (0 - r) % PP = PP - r := by
  have e : (0 - r) = (PP - r) + PP * (-1) := by generalize PP = p; omega
  rw [e, Int.add_mul_emod_self_left, Int.emod_eq_of_lt]
  · generalize PP = p at *; omega
  · generalize PP = p at *; omega
theorem fin2_bd {r : Int} (h0 : 0 ≤ r) (h1 : r < PP) : 0 ≤ fin2 r ∧ fin2 r < PP ∧ fin2 r % 2 = 0 := by
  unfold fin2
  split
  · exact ⟨h0, h1, by assumption⟩
  · have hp : PP % 2 = 1 := by decide
    rw [neg_P (by omega) h1]
    generalize PP = p at *
    omega
theorem fin2_sq (r : Int) : fin2 r * fin2 r % PP = r * r % PP := by
  unfold fin2
  split
  · rfl
  · rw [← Int.mul_emod]
    congr 1
    grind
theorem fin2_zero : fin2 (r1I 0) = 0 := by
  have : r1I 0 = 0 := by rw [r1I, rtR_zero]; simp
  rw [this]
  rfl
end Go.Proofs.YtblkjpmkikhpbaaDoor
