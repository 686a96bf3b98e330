import Derived.Test.YteedfhljbdnmnaaGreatDoorGT40
import Derived.Test.YteedfhljbdnmnaaGreatDoorGT38
import Derived.Test.YteedfhljbdnmnaaGreatDoorGT10
import Derived.Test.YteedfhljbdnmnaaGreatDoorGT32
import Derived.Test.YteedfhljbdnmnaaGreatDoorGT24
import Derived.Test.YteedfhljbdnmnaaGreatDoorGT25
import Derived.Test.YteedfhljbdnmnaaGreatDoorGT39
import Derived.Deep.RegionWith
import Derived.Deep.DeepCutAuto
import Derived.Test.YteedfhljbdnmnaaGreatDoorGT6
import Derived.Test.YteedfhljbdnmnaaGreatDoorGT35
import Derived.Test.YteedfhljbdnmnaaGreatDoorGT30
namespace Go.Proofs.YteedfhljbdnmnaaGreatDoor
set_option maxRecDepth 100000
structure Pri (P : Int) : Prop where
  mul : ∀ {x y : Int}, P ∣ x * y → P ∣ x ∨ P ∣ y
  one : ¬ P ∣ 1
  two : ¬ P ∣ 2
section
variable {P a d : Int}
def On (P a d x y : Int) : Prop := P ∣ a * x ^ 2 + y ^ 2 - 1 - d * x ^ 2 * y ^ 2
structure Sm (P a d x1 y1 x2 y2 x3 y3 : Int) : Prop where
  x : P ∣ x3 * (1 + d * x1 * x2 * y1 * y2) - (x1 * y2 + y1 * x2)
  y : P ∣ y3 * (1 - d * x1 * x2 * y1 * y2) - (y1 * y2 - a * x1 * x2)
structure Cpl (P a d : Int) : Prop where
  p : ∀ {x1 y1 x2 y2 : Int}, On P a d x1 y1 → On P a d x2 y2 → ¬ P ∣ 1 + d * x1 * x2 * y1 * y2
  q : ∀ {x1 y1 x2 y2 : Int}, On P a d x1 y1 → On P a d x2 y2 → ¬ P ∣ 1 - d * x1 * x2 * y1 * y2
theorem dv2 {e f c1 c2 t : Int} (he : P ∣ e) (hf : P ∣ f) (h : t = c1 * e + c2 * f) : P ∣ t := by
  rw [h]
  exact Int.dvd_add (Int.dvd_mul_of_dvd_right he) (Int.dvd_mul_of_dvd_right hf)
theorem dv3 {e f g c1 c2 c3 t : Int} (he : P ∣ e) (hf : P ∣ f) (hg : P ∣ g) (h : t = c1 * e + c2 * f + c3 * g) : P ∣ t := by
  rw [h]
  exact Int.dvd_add (Int.dvd_add (Int.dvd_mul_of_dvd_right he) (Int.dvd_mul_of_dvd_right hf)) (Int.dvd_mul_of_dvd_right hg)
theorem cancel (hP : Pri P) {x c : Int} (hc : ¬ P ∣ c) (h : P ∣ x * c) : P ∣ x := (hP.mul h).resolve_right hc
theorem nz_mul (hP : Pri P) {x y : Int} (hx : ¬ P ∣ x) (hy : ¬ P ∣ y) : ¬ P ∣ x * y := fun h => (hP.mul h).elim hx hy
theorem Sm.on (hP : Pri P) (hC : Cpl P a d) {x1 y1 x2 y2 x3 y3 : Int} (h1 : On P a d x1 y1) (h2 : On P a d x2 y2) (h : Sm P a d x1 y1 x2 y2 x3 y3) : On P a d x3 y3 := by
  have hp := hC.p h1 h2
  have hq := hC.q h1 h2
  have cl := dv2 h1 h2 (ed_close x1 y1 x2 y2 a d)
  obtain ⟨hx, hy⟩ := h
  unfold On
  generalize x1 * y2 + y1 * x2 = X at *
  generalize y1 * y2 - a * x1 * x2 = Y at *
  have e1 : 1 + d * x1 * x2 * y1 * y2 + (1 - d * x1 * x2 * y1 * y2) = 2 := by omega
  generalize 1 + d * x1 * x2 * y1 * y2 = p at *
  generalize 1 - d * x1 * x2 * y1 * y2 = q at *
  refine cancel hP (nz_mul hP (nz_mul hP hp hp) (nz_mul hP hq hq)) (dv3 hx hy cl (c1 := (a - d * y3 ^ 2) * q * q * (x3 * p + X)) (c2 := (p * p - d * X ^ 2) * (y3 * q + Y)) (c3 := 1) ?_)
  grind
theorem Sm.uniq (hP : Pri P) (hC : Cpl P a d) {x1 y1 x2 y2 x3 y3 x4 y4 : Int} (h1 : On P a d x1 y1) (h2 : On P a d x2 y2) (h : Sm P a d x1 y1 x2 y2 x3 y3) (k : Sm P a d x1 y1 x2 y2 x4 y4) : P ∣ x3 - x4 ∧ P ∣ y3 - y4 := by
  constructor
  · refine cancel hP (hC.p h1 h2) (dv2 h.x k.x (c1 := 1) (c2 := -1) ?_)
    grind
  · refine cancel hP (hC.q h1 h2) (dv2 h.y k.y (c1 := 1) (c2 := -1) ?_)
    grind
theorem Sm.comm {x1 y1 x2 y2 x3 y3 : Int} (h : Sm P a d x1 y1 x2 y2 x3 y3) : Sm P a d x2 y2 x1 y1 x3 y3 := by
  obtain ⟨hx, hy⟩ := h
  constructor
  · have e : x3 * (1 + d * x2 * x1 * y2 * y1) - (x2 * y1 + y2 * x1) = x3 * (1 + d * x1 * x2 * y1 * y2) - (x1 * y2 + y1 * x2) := by grind
    rw [e]; exact hx
  · have e : y3 * (1 - d * x2 * x1 * y2 * y1) - (y2 * y1 - a * x2 * x1) = y3 * (1 - d * x1 * x2 * y1 * y2) - (y1 * y2 - a * x1 * x2) := by grind
    rw [e]; exact hy
theorem side_x {P d p q X Y x12 y12 x3 y3 xs : Int} (hx : P ∣ x12 * p - X) (hy : P ∣ y12 * q - Y) (h : P ∣ xs * (1 + d * x12 * x3 * y12 * y3) - (x12 * y3 + y12 * x3)) : P ∣ xs * (p * q + d * X * Y * x3 * y3) - (X * y3 * q + Y * x3 * p) :=
  dv3 hx hy h (c1 := y3 * q - xs * d * x3 * y3 * q * y12) (c2 := x3 * p - xs * d * x3 * y3 * X) (c3 := p * q) (by grind)
theorem side_y {P a d p q X Y x12 y12 x3 y3 ys : Int} (hx : P ∣ x12 * p - X) (hy : P ∣ y12 * q - Y) (h : P ∣ ys * (1 - d * x12 * x3 * y12 * y3) - (y12 * y3 - a * x12 * x3)) : P ∣ ys * (p * q - d * X * Y * x3 * y3) - (Y * y3 * p - a * X * x3 * q) :=
  dv3 hx hy h (c1 := ys * d * x3 * y3 * q * y12 - a * x3 * q) (c2 := y3 * p + ys * d * x3 * y3 * X) (c3 := p * q) (by grind)
theorem den_p (hP : Pri P) {d p q X Y x12 y12 x3 y3 : Int} (hp : ¬ P ∣ p) (hq : ¬ P ∣ q) (hx : P ∣ x12 * p - X) (hy : P ∣ y12 * q - Y) (h : ¬ P ∣ 1 + d * x12 * x3 * y12 * y3) : ¬ P ∣ p * q + d * X * Y * x3 * y3 := fun k =>
  nz_mul hP (nz_mul hP hp hq) h (dv3 hx hy k (c1 := d * x3 * y3 * q * y12) (c2 := d * x3 * y3 * X) (c3 := 1) (by grind))
theorem den_q (hP : Pri P) {d p q X Y x12 y12 x3 y3 : Int} (hp : ¬ P ∣ p) (hq : ¬ P ∣ q) (hx : P ∣ x12 * p - X) (hy : P ∣ y12 * q - Y) (h : ¬ P ∣ 1 - d * x12 * x3 * y12 * y3) : ¬ P ∣ p * q - d * X * Y * x3 * y3 := fun k =>
  nz_mul hP (nz_mul hP hp hq) h (dv3 hx hy k (c1 := -(d * x3 * y3 * q * y12)) (c2 := -(d * x3 * y3 * X)) (c3 := 1) (by grind))
theorem Sm.assoc (hP : Pri P) (hC : Cpl P a d) {x1 y1 x2 y2 x3 y3 u v s t xl yl xr yr : Int} (h1 : On P a d x1 y1) (h2 : On P a d x2 y2) (h3 : On P a d x3 y3)
    (h12 : Sm P a d x1 y1 x2 y2 u v) (h23 : Sm P a d x2 y2 x3 y3 s t) (hl : Sm P a d u v x3 y3 xl yl) (hr : Sm P a d x1 y1 s t xr yr) : P ∣ xl - xr ∧ P ∣ yl - yr := by
  have o12 := h12.on hP hC h1 h2
  have o23 := h23.on hP hC h2 h3
  have hr' := hr.comm
  have DL := den_p hP (hC.p h1 h2) (hC.q h1 h2) h12.x h12.y (hC.p o12 h3)
  have DR := den_p hP (hC.p h2 h3) (hC.q h2 h3) h23.x h23.y (hC.p o23 h1)
  have EL := den_q hP (hC.p h1 h2) (hC.q h1 h2) h12.x h12.y (hC.q o12 h3)
  have ER := den_q hP (hC.p h2 h3) (hC.q h2 h3) h23.x h23.y (hC.q o23 h1)
  have SL := side_x h12.x h12.y hl.x
  have SR := side_x h23.x h23.y hr'.x
  have TL := side_y h12.x h12.y hl.y
  have TR := side_y h23.x h23.y hr'.y
  have AX := dv3 h1 h2 h3 (ed_assoc_x x1 y1 x2 y2 x3 y3 a d)
  have AY := dv3 h1 h2 h3 (ed_assoc_y x1 y1 x2 y2 x3 y3 a d)
  clear h12 h23 hl hr hr' o12 o23 h1 h2 h3
  generalize 1 + d * x1 * x2 * y1 * y2 = p at *
  generalize 1 - d * x1 * x2 * y1 * y2 = q at *
  generalize 1 + d * x2 * x3 * y2 * y3 = p' at *
  generalize 1 - d * x2 * x3 * y2 * y3 = q' at *
  generalize x1 * y2 + y1 * x2 = X at *
  generalize y1 * y2 - a * x1 * x2 = Y at *
  generalize x2 * y3 + y2 * x3 = X' at *
  generalize y2 * y3 - a * x2 * x3 = Y' at *
  constructor
  · refine cancel hP (nz_mul hP DL DR) (dv3 SL SR AX (c1 := p' * q' + d * X' * Y' * x1 * y1) (c2 := -(p * q + d * X * Y * x3 * y3)) (c3 := 1) ?_)
    grind
  · refine cancel hP (nz_mul hP EL ER) (dv3 TL TR AY (c1 := p' * q' - d * X' * Y' * x1 * y1) (c2 := -(p * q - d * X * Y * x3 * y3)) (c3 := 1) ?_)
    grind
def NSq (P d : Int) : Prop := ∀ r t : Int, P ∣ r ^ 2 - d * t ^ 2 → P ∣ t
theorem cpl_eta (hP : Pri P) {s : Int} (hs : P ∣ s ^ 2 - a) (hd : NSq P d) {x1 y1 x2 y2 h : Int} (hh : h * h = 1) (h1 : On P a d x1 y1) (h2 : On P a d x2 y2) (k : P ∣ d * x1 * x2 * y1 * y2 - h) : False := by
  have k1 : P ∣ x1 * y1 * (s * x2 + y2) := by
    refine hd (s * x1 + h * y1) _ ?_
    have e := dv3 h1 h2 k (c1 := 1) (c2 := -(d * x1 ^ 2 * y1 ^ 2)) (c3 := -(2 * s * x1 * y1) - (d * x1 * x2 * y1 * y2 + h)) rfl
    refine dv2 e hs (c1 := 1) (c2 := x1 ^ 2 - d * x1 ^ 2 * y1 ^ 2 * x2 ^ 2) ?_
    grind
  have k2 : P ∣ x1 * y1 * (s * x2 - y2) := by
    refine hd (s * x1 - h * y1) _ ?_
    have e := dv3 h1 h2 k (c1 := 1) (c2 := -(d * x1 ^ 2 * y1 ^ 2)) (c3 := 2 * s * x1 * y1 - (d * x1 * x2 * y1 * y2 + h)) rfl
    refine dv2 e hs (c1 := 1) (c2 := x1 ^ 2 - d * x1 ^ 2 * y1 ^ 2 * x2 ^ 2) ?_
    grind
  have no : ∀ z c : Int, P ∣ z → d * x1 * x2 * y1 * y2 = z * c → False := fun z c hz e => hP.one (by
    have := dv2 k hz (c1 := -h) (c2 := h * c) (t := 1) (by grind)
    exact this)
  have k3 : P ∣ 2 * (x1 * y1 * y2) := dv2 k1 k2 (c1 := 1) (c2 := -1) (by grind)
  rcases hP.mul k3 with z | z
  · exact hP.two z
  · exact no _ (d * x2) z (by grind)
theorem cpl_of (hP : Pri P) {s : Int} (hs : P ∣ s ^ 2 - a) (hd : NSq P d) : Cpl P a d := by
  constructor
  · intro x1 y1 x2 y2 h1 h2 k
    refine cpl_eta hP hs hd (h := -1) (by decide) h1 h2 ?_
    have e : d * x1 * x2 * y1 * y2 - -1 = 1 + d * x1 * x2 * y1 * y2 := by omega
    rw [e]
    exact k
  · intro x1 y1 x2 y2 h1 h2 k
    refine cpl_eta hP hs hd (h := 1) (by decide) h1 h2 ?_
    have e : d * x1 * x2 * y1 * y2 - 1 = -(1 - d * x1 * x2 * y1 * y2) := by omega
    rw [e]
    exact Int.dvd_neg.mpr k
def Pe (P : Int) (p q : Int × Int) : Prop := P ∣ p.1 - q.1 ∧ P ∣ p.2 - q.2
theorem Pe.refl (p : Int × Int) : Pe P p p := ⟨⟨0, by omega⟩, ⟨0, by omega⟩⟩
theorem Pe.symm {p q : Int × Int} (h : Pe P p q) : Pe P q p := by
  obtain ⟨⟨u, hu⟩, v, hv⟩ := h
  exact ⟨⟨-u, by rw [Int.mul_neg, ← hu]; omega⟩, ⟨-v, by rw [Int.mul_neg, ← hv]; omega⟩⟩
theorem Pe.trans {p q r : Int × Int} (h : Pe P p q) (k : Pe P q r) : Pe P p r := by
  constructor
  · have := Int.dvd_add h.1 k.1
    rwa [show p.1 - q.1 + (q.1 - r.1) = p.1 - r.1 by omega] at this
  · have := Int.dvd_add h.2 k.2
    rwa [show p.2 - q.2 + (q.2 - r.2) = p.2 - r.2 by omega] at this
structure Crv (P a d : Int) (inv : Int → Int) : Prop where
  pri : Pri P
  cpl : Cpl P a d
  inv : ∀ c, ¬ P ∣ c → P ∣ inv c * c - 1
def eadd (a d : Int) (inv : Int → Int) (p q : Int × Int) : Int × Int :=
  ((p.1 * q.2 + p.2 * q.1) * inv (1 + d * p.1 * q.1 * p.2 * q.2), (p.2 * q.2 - a * p.1 * q.1) * inv (1 - d * p.1 * q.1 * p.2 * q.2))
def OnP (P a d : Int) (p : Int × Int) : Prop := On P a d p.1 p.2
variable {inv : Int → Int}
theorem eadd_sm (H : Crv P a d inv) {p q : Int × Int} (hp : OnP P a d p) (hq : OnP P a d q) : Sm P a d p.1 p.2 q.1 q.2 (eadd a d inv p q).1 (eadd a d inv p q).2 := by
  have i1 := H.inv _ (H.cpl.p hp hq)
  have i2 := H.inv _ (H.cpl.q hp hq)
  constructor
  · refine dv2 i1 i1 (c1 := p.1 * q.2 + p.2 * q.1) (c2 := 0) ?_
    unfold eadd
    grind
  · refine dv2 i2 i2 (c1 := p.2 * q.2 - a * p.1 * q.1) (c2 := 0) ?_
    unfold eadd
    grind
theorem eadd_on (H : Crv P a d inv) {p q : Int × Int} (hp : OnP P a d p) (hq : OnP P a d q) : OnP P a d (eadd a d inv p q) := (eadd_sm H hp hq).on H.pri H.cpl hp hq
theorem On.cg {x y x' y' : Int} (h : On P a d x y) (hx : P ∣ x - x') (hy : P ∣ y - y') : On P a d x' y' := by
  refine dv3 h hx hy (c1 := 1) (c2 := -((a - d * y' ^ 2) * (x + x'))) (c3 := -((1 - d * x ^ 2) * (y + y'))) ?_
  grind
theorem Sm.cg {x1 y1 x2 y2 x3 y3 u1 v1 u2 v2 : Int} (h : Sm P a d x1 y1 x2 y2 x3 y3) (hx1 : P ∣ x1 - u1) (hy1 : P ∣ y1 - v1) (hx2 : P ∣ x2 - u2) (hy2 : P ∣ y2 - v2) : Sm P a d u1 v1 u2 v2 x3 y3 := by
  constructor
  · have h1 := dv3 h.x hx1 hy1 (c1 := 1) (c2 := -(x3 * d * x2 * y1 * y2 - y2)) (c3 := -(x3 * d * u1 * x2 * y2 - x2)) rfl
    refine dv3 h1 hx2 hy2 (c1 := 1) (c2 := -(x3 * d * u1 * v1 * y2 - v1)) (c3 := -(x3 * d * u1 * v1 * u2 - u1)) ?_
    grind
  · have h1 := dv3 h.y hx1 hy1 (c1 := 1) (c2 := y3 * d * x2 * y1 * y2 - a * x2) (c3 := y3 * d * u1 * x2 * y2 + y2) rfl
    refine dv3 h1 hx2 hy2 (c1 := 1) (c2 := y3 * d * u1 * v1 * y2 - a * u1) (c3 := y3 * d * u1 * v1 * u2 + v1) ?_
    grind
theorem eadd_cg (H : Crv P a d inv) {p q p' q' : Int × Int} (hp : OnP P a d p) (hq : OnP P a d q) (ep : Pe P p p') (eq : Pe P q q') : Pe P (eadd a d inv p q) (eadd a d inv p' q') := by
  have hp' : OnP P a d p' := On.cg hp ep.1 ep.2
  have hq' : OnP P a d q' := On.cg hq eq.1 eq.2
  exact Sm.uniq H.pri H.cpl hp' hq' ((eadd_sm H hp hq).cg ep.1 ep.2 eq.1 eq.2) (eadd_sm H hp' hq')
theorem eadd_comm (H : Crv P a d inv) {p q : Int × Int} (hp : OnP P a d p) (hq : OnP P a d q) : Pe P (eadd a d inv p q) (eadd a d inv q p) := Sm.uniq H.pri H.cpl hq hp (eadd_sm H hp hq).comm (eadd_sm H hq hp)
theorem eadd_assoc (H : Crv P a d inv) {p q r : Int × Int} (hp : OnP P a d p) (hq : OnP P a d q) (hr : OnP P a d r) : Pe P (eadd a d inv (eadd a d inv p q) r) (eadd a d inv p (eadd a d inv q r)) :=
  Sm.assoc H.pri H.cpl hp hq hr (eadd_sm H hp hq) (eadd_sm H hq hr) (eadd_sm H (eadd_on H hp hq) hr) (eadd_sm H hp (eadd_on H hq hr))
theorem zero_on : OnP P a d (0, 1) := ⟨0, by simp⟩
theorem eadd_zero (H : Crv P a d inv) {p : Int × Int} (hp : OnP P a d p) : Pe P (eadd a d inv p (0, 1)) p :=
  Sm.uniq H.pri H.cpl hp zero_on (eadd_sm H hp zero_on) ⟨⟨0, by simp⟩, ⟨0, by simp⟩⟩
theorem neg_on {p : Int × Int} (hp : OnP P a d p) : OnP P a d (-p.1, p.2) := by
  have e : a * (-p.1) ^ 2 + p.2 ^ 2 - 1 - d * (-p.1) ^ 2 * p.2 ^ 2 = a * p.1 ^ 2 + p.2 ^ 2 - 1 - d * p.1 ^ 2 * p.2 ^ 2 := by grind
  show P ∣ _
  rw [e]
  exact hp
theorem eadd_neg (H : Crv P a d inv) {p : Int × Int} (hp : OnP P a d p) : Pe P (eadd a d inv p (-p.1, p.2)) (0, 1) := by
  refine Sm.uniq H.pri H.cpl hp (neg_on hp) (eadd_sm H hp (neg_on hp)) ⟨⟨0, ?_⟩, ?_⟩
  · simp only
    grind
  · refine dv2 hp hp (c1 := -1) (c2 := 0) ?_
    simp only
    grind
def emul (a d : Int) (inv : Int → Int) : Nat → Int × Int → Int × Int
  | 0, _ => (0, 1)
  | n + 1, p => eadd a d inv (emul a d inv n p) p
theorem emul_on (H : Crv P a d inv) {p : Int × Int} (hp : OnP P a d p) : ∀ n, OnP P a d (emul a d inv n p)
  | 0 => zero_on
  | n + 1 => eadd_on H (emul_on H hp n) hp
theorem emul_add (H : Crv P a d inv) {p : Int × Int} (hp : OnP P a d p) (m : Nat) : ∀ n, Pe P (emul a d inv (m + n) p) (eadd a d inv (emul a d inv m p) (emul a d inv n p))
  | 0 => (eadd_zero H (emul_on H hp m)).symm
  | n + 1 => (eadd_cg H (emul_on H hp (m + n)) hp (emul_add H hp m n) (Pe.refl p)).trans (eadd_assoc H (emul_on H hp m) (emul_on H hp n) hp)
theorem emul_cg (H : Crv P a d inv) {p q : Int × Int} (hp : OnP P a d p) (e : Pe P p q) : ∀ n, Pe P (emul a d inv n p) (emul a d inv n q)
  | 0 => Pe.refl _
  | n + 1 => eadd_cg H (emul_on H hp n) hp (emul_cg H hp e n) e
theorem emul_mul (H : Crv P a d inv) {p : Int × Int} (hp : OnP P a d p) (n : Nat) : ∀ m, Pe P (emul a d inv (n * m) p) (emul a d inv m (emul a d inv n p))
  | 0 => Pe.refl _
  | m + 1 => by
    rw [Nat.mul_succ]
    exact (emul_add H hp (n * m) n).trans (eadd_cg H (emul_on H hp (n * m)) (emul_on H hp n) (emul_mul H hp n m) (Pe.refl _))
end
end Go.Proofs.YteedfhljbdnmnaaGreatDoor
namespace Go.Proofs.YteedfhljbdnmnaaGreatDoor
set_option maxRecDepth 100000
def eQ : Nat := 14474011154664524427946373126085988481658748083205070504932198000989141204987
def eH : Nat := 28948022309329048855892746252171976963317496166410141009864396001978282409974
theorem PP_nat : (PP : Int) = ((P25519 : Nat) : Int) := rfl
theorem pwm (x : Int) : ∀ e : Nat, (x % PP) ^ e % PP = x ^ e % PP
  | 0 => by rw [Int.pow_zero, Int.pow_zero]
  | e + 1 => by
    rw [Int.pow_succ, Int.pow_succ, Int.mul_emod, pwm x e, Int.emod_emod_of_dvd _ (Int.dvd_refl _), ← Int.mul_emod]
theorem PP_mul {x y : Int} (h : x * y % PP = 0) : x % PP = 0 ∨ y % PP = 0 := by
  have hd : (PP : Int) ∣ x * y := Int.dvd_of_emod_eq_zero h
  have h2 : P25519 ∣ x.natAbs * y.natAbs := by
    have := Int.natAbs_dvd_natAbs.mpr hd
    rwa [Int.natAbs_mul] at this
  rcases prm_P.mul h2 with k | k
  · exact .inl (Int.emod_eq_zero_of_dvd (Int.natAbs_dvd_natAbs.mp (by exact k)))
  · exact .inr (Int.emod_eq_zero_of_dvd (Int.natAbs_dvd_natAbs.mp (by exact k)))
theorem PP_fermat {x : Int} (h0 : 0 < x) (h1 : x < PP) : x ^ (2 * eH) % PP = 1 := by
  obtain ⟨n, rfl⟩ := Int.eq_ofNat_of_zero_le (show 0 ≤ x by omega)
  have hn : ¬ P25519 ∣ n := fun hd => by
    have h := Nat.le_of_dvd (by omega) hd
    have := PP_nat
    omega
  have f := prm_P.fermat hn
  have e : P25519 - 1 = 2 * eH := by decide +kernel
  rw [e] at f
  rw [PP_nat, ← Int.natCast_pow, ← Int.natCast_emod, f]
  rfl
theorem one_roots {y : Int} (h0 : 0 ≤ y) (h1 : y < PP) (h : y * y % PP = 1) : y = 1 ∨ y = PP - 1 := by
  have e : (y - 1) * (y + 1) = y * y - 1 := by grind
  have z : (y - 1) * (y + 1) % PP = 0 := by
    rw [e, Int.sub_emod, h]
    decide
  have hP : (PP : Int) = 57896044618658097711785492504343953926634992332820282019728792003956564819949 := rfl
  rcases PP_mul z with k | k
  · left
    clear h z e
    rw [hP] at h1 k
    omega
  · right
    clear h z e
    rw [hP] at h1 k ⊢
    omega
theorem half_one {x : Int} (h0 : 0 < x) (h1 : x < PP) : x ^ eH % PP = 1 ∨ x ^ eH % PP = PP - 1 := by
  refine one_roots (Int.emod_nonneg _ (by decide)) (Int.emod_lt_of_pos _ (by decide)) ?_
  rw [pow_sq]
  exact PP_fermat h0 h1
theorem rt_sq (A : Int) : rtR A * rtR A % PP = (A ^ eQ % PP) * A % PP := by
  unfold rtR
  rw [pow_sq, show 2 * eRt = eQ + 1 by decide +kernel, Int.pow_succ, Int.mul_emod, Int.mul_emod (A ^ eQ % PP) A, Int.emod_emod]
theorem neg_neg_P {A : Int} (h0 : 0 ≤ A) (h1 : A < PP) : (0 - (0 - A) % PP) % PP = A := by
  have hP : (PP : Int) = 57896044618658097711785492504343953926634992332820282019728792003956564819949 := rfl
  rw [hP] at h1 ⊢
  omega
theorem neg_mul_P (A : Int) : (PP - 1) * A = PP * A + (0 - A) := by
  generalize PP = p
  rw [Int.sub_mul, Int.one_mul]
  omega
theorem has_of {A : Int} (h0 : 0 < A) (h1 : A < PP) (h : A ^ eH % PP = 1) : r1I A * r1I A % PP = A := by
  have q : A ^ eQ % PP = 1 ∨ A ^ eQ % PP = PP - 1 := by
    refine one_roots (Int.emod_nonneg _ (by decide)) (Int.emod_lt_of_pos _ (by decide)) ?_
    rw [pow_sq, show 2 * eQ = eH by decide +kernel]
    exact h
  have s := rt_sq A
  rcases q with q | q
  · rw [q, Int.one_mul, Int.emod_eq_of_lt (Int.le_of_lt h0) h1] at s
    refine (same_root (Int.le_of_lt h0) h1).1.mpr ?_
    rw [show r1S A = rtR A by rw [r1S, if_pos s]]
    exact s
  · rw [q, neg_mul_P, Int.mul_add_emod_self_left] at s
    rw [show r1I A = rtR A * iM % PP by rw [r1I, if_pos s], turn_sq, neg_modP _ _ s]
    exact neg_neg_P (Int.le_of_lt h0) h1
theorem two_half : (2 : Int) ^ eH % PP = PP - 1 := by
  have h : pm P25519 255 2 eH = P25519 - 1 := by decide +kernel
  rw [pm_eq _ _ _ _ (by decide +kernel)] at h
  have h' : (((2 : Nat) ^ eH % P25519 : Nat) : Int) = ((P25519 - 1 : Nat) : Int) := by rw [h]
  rw [Int.natCast_emod, Int.natCast_pow] at h'
  rw [PP_nat]
  exact h'
theorem dbl (A : Int) (e : Nat) (h : (2 : Int) ^ e % PP = PP - 1) : ((A + A) % PP) ^ e % PP = (PP - 1) * (A ^ e % PP) % PP := by
  rw [pwm, ← Int.two_mul, Int.mul_pow, Int.mul_emod, h]
end Go.Proofs.YteedfhljbdnmnaaGreatDoor
namespace Go.Proofs.YteedfhljbdnmnaaGreatDoor
set_option maxRecDepth 100000
def clampL (xs : List Int) : List Int := (xs.set 0 (xs.getD 0 0 - xs.getD 0 0 % 8)).set 31 (xs.getD 31 0 % 64 + 64)
theorem clampL_len (xs : List Int) : (clampL xs).length = xs.length := by unfold clampL; simp
theorem clampL_0 {xs : List Int} (hl : xs.length = 32) : (clampL xs).getD 0 0 = xs.getD 0 0 - xs.getD 0 0 % 8 := by
  unfold clampL
  rw [getD_set_ne _ _ _ _ (by omega), getD_set_self _ _ _ (by omega)]
theorem clampL_31 {xs : List Int} (hl : xs.length = 32) : (clampL xs).getD 31 0 = xs.getD 31 0 % 64 + 64 := by
  unfold clampL
  rw [getD_set_self _ _ _ (by rw [List.length_set]; omega)]
theorem clampL_mid {xs : List Int} {j : Nat} (h0 : 0 ≠ j) (h1 : 31 ≠ j) : (clampL xs).getD j 0 = xs.getD j 0 := by
  unfold clampL
  rw [getD_set_ne _ _ _ _ h1, getD_set_ne _ _ _ _ h0]
theorem wv0 (a : Nat → Int) : wv a 32 0 = a 0 + a 1 * 256 + a 2 * 65536 + a 3 * 16777216 + a 4 * 4294967296 + a 5 * 1099511627776 + a 6 * 281474976710656 + a 7 * 72057594037927936 := by
  simp [wv]
theorem wv1 (a : Nat → Int) : wv a 32 1 = a 8 + a 9 * 256 + a 10 * 65536 + a 11 * 16777216 + a 12 * 4294967296 + a 13 * 1099511627776 + a 14 * 281474976710656 + a 15 * 72057594037927936 := by
  simp [wv]
theorem wv2 (a : Nat → Int) : wv a 32 2 = a 16 + a 17 * 256 + a 18 * 65536 + a 19 * 16777216 + a 20 * 4294967296 + a 21 * 1099511627776 + a 22 * 281474976710656 + a 23 * 72057594037927936 := by
  simp [wv]
theorem wv3 (a : Nat → Int) : wv a 32 3 = a 24 + a 25 * 256 + a 26 * 65536 + a 27 * 16777216 + a 28 * 4294967296 + a 29 * 1099511627776 + a 30 * 281474976710656 + a 31 * 72057594037927936 := by
  simp [wv]
theorem clw_is {xs : List Int} (hb : Byt xs) (hl : xs.length = 32) : ∀ j, j < 4 → clw (wv (fun j => xs.getD j 0) 32) j = wv (fun j => (clampL xs).getD j 0) 32 j := by
  intro j hj
  obtain rfl | rfl | rfl | rfl : j = 0 ∨ j = 1 ∨ j = 2 ∨ j = 3 := by omega
  · rw [wv0]
    simp only [clampL_0 hl, clampL_mid (xs := xs) (j := 1) (by omega) (by omega), clampL_mid (xs := xs) (j := 2) (by omega) (by omega), clampL_mid (xs := xs) (j := 3) (by omega) (by omega), clampL_mid (xs := xs) (j := 4) (by omega) (by omega), clampL_mid (xs := xs) (j := 5) (by omega) (by omega), clampL_mid (xs := xs) (j := 6) (by omega) (by omega), clampL_mid (xs := xs) (j := 7) (by omega) (by omega)]
    show wv (fun j => xs.getD j 0) 32 0 - wv (fun j => xs.getD j 0) 32 0 % 8 = _
    rw [wv0]
    omega
  · show wv (fun j => xs.getD j 0) 32 1 = _
    rw [wv1, wv1]
    simp only [clampL_mid (xs := xs) (j := 8) (by omega) (by omega), clampL_mid (xs := xs) (j := 9) (by omega) (by omega), clampL_mid (xs := xs) (j := 10) (by omega) (by omega), clampL_mid (xs := xs) (j := 11) (by omega) (by omega), clampL_mid (xs := xs) (j := 12) (by omega) (by omega), clampL_mid (xs := xs) (j := 13) (by omega) (by omega), clampL_mid (xs := xs) (j := 14) (by omega) (by omega), clampL_mid (xs := xs) (j := 15) (by omega) (by omega)]
  · show wv (fun j => xs.getD j 0) 32 2 = _
    rw [wv2, wv2]
    simp only [clampL_mid (xs := xs) (j := 16) (by omega) (by omega), clampL_mid (xs := xs) (j := 17) (by omega) (by omega), clampL_mid (xs := xs) (j := 18) (by omega) (by omega), clampL_mid (xs := xs) (j := 19) (by omega) (by omega), clampL_mid (xs := xs) (j := 20) (by omega) (by omega), clampL_mid (xs := xs) (j := 21) (by omega) (by omega), clampL_mid (xs := xs) (j := 22) (by omega) (by omega), clampL_mid (xs := xs) (j := 23) (by omega) (by omega)]
  · rw [wv3]
    simp only [clampL_31 hl, clampL_mid (xs := xs) (j := 24) (by omega) (by omega), clampL_mid (xs := xs) (j := 25) (by omega) (by omega), clampL_mid (xs := xs) (j := 26) (by omega) (by omega), clampL_mid (xs := xs) (j := 27) (by omega) (by omega), clampL_mid (xs := xs) (j := 28) (by omega) (by omega), clampL_mid (xs := xs) (j := 29) (by omega) (by omega), clampL_mid (xs := xs) (j := 30) (by omega) (by omega)]
    show wv (fun j => xs.getD j 0) 32 3 % 4611686018427387904 + 4611686018427387904 = _
    rw [wv3]
    have b24 := hb 24
    have b25 := hb 25
    have b26 := hb 26
    have b27 := hb 27
    have b28 := hb 28
    have b29 := hb 29
    have b30 := hb 30
    have b31 := hb 31
    generalize xs.getD 24 0 = x24 at *
    generalize xs.getD 25 0 = x25 at *
    generalize xs.getD 26 0 = x26 at *
    generalize xs.getD 27 0 = x27 at *
    generalize xs.getD 28 0 = x28 at *
    generalize xs.getD 29 0 = x29 at *
    generalize xs.getD 30 0 = x30 at *
    generalize xs.getD 31 0 = x31 at *
    omega
theorem clw_num {xs : List Int} (hb : Byt xs) (hl : xs.length = 32) : wval (clw (wv (fun j => xs.getD j 0) 32)) = num (clampL xs) := by
  have e : wval (clw (wv (fun j => xs.getD j 0) 32)) = wval (wv (fun j => (clampL xs).getD j 0) 32) := by
    unfold wval
    rw [clw_is hb hl 0 (by omega), clw_is hb hl 1 (by omega), clw_is hb hl 2 (by omega), clw_is hb hl 3 (by omega)]
  rw [e, wv_sum _ 32 (by omega)]
  unfold num
  rw [clampL_len, hl]
def kbit (K : Int) (n : Nat) : Bool := decide (K / 2 ^ n % 2 = 1)
theorem wbit_k {W : Nat → Int} (hW : W4 W) {n : Nat} (hn : n < 256) : wbit W n = kbit (wval W) n := by
  have h0 := hW 0 (by omega)
  have h1 := hW 1 (by omega)
  have h2 := hW 2 (by omega)
  have h3 := hW 3 (by omega)
  have key : wval W / 2 ^ n % 2 = W (n / 64) / 2 ^ (n % 64) % 2 := by
    rcases (show n / 64 = 0 ∨ n / 64 = 1 ∨ n / 64 = 2 ∨ n / 64 = 3 by omega) with e | e | e | e
    · rw [e]
      exact bit_of (n := 64) (k := 0) (l := 0) (h := W 1 + W 2 * 18446744073709551616 + W 3 * 340282366920938463463374607431768211456) (by omega) (by omega) (by unfold wval; omega) (by omega) (by decide)
    · rw [e]
      exact bit_of (n := 64) (k := 1) (l := W 0) (h := W 2 + W 3 * 18446744073709551616) (by omega) (by omega) (by unfold wval; omega) (by omega) (by simpa using h0.2)
    · rw [e]
      exact bit_of (n := 64) (k := 2) (l := W 0 + W 1 * 18446744073709551616) (h := W 3) (by omega) (by omega) (by unfold wval; omega) (by omega) (by simp only [show (2 : Int) ^ (64 * 2) = 340282366920938463463374607431768211456 from rfl]; omega)
    · rw [e]
      exact bit_of (n := 64) (k := 3) (l := W 0 + W 1 * 18446744073709551616 + W 2 * 340282366920938463463374607431768211456) (h := 0) (by omega) (by omega) (by unfold wval; omega) (by omega) (by simp only [show (2 : Int) ^ (64 * 3) = 6277101735386680763835789423207666416102355444464034512896 from rfl]; omega)
  unfold wbit kbit
  rw [key]
theorem clampL_bd {xs : List Int} (hb : Byt xs) (hl : xs.length = 32) : 28948022309329048855892746252171976963317496166410141009864396001978282409984 ≤ num (clampL xs) ∧ num (clampL xs) < 57896044618658097711785492504343953926634992332820282019728792003956564819968 ∧ num (clampL xs) % 8 = 0 := by
  rw [← clw_num hb hl]
  have hW : W4 (wv (fun j => xs.getD j 0) 32) := fun j _ => wv_lt hb 32 j
  have h0 := hW 0 (by omega)
  have h1 := hW 1 (by omega)
  have h2 := hW 2 (by omega)
  have h3 := hW 3 (by omega)
  generalize wv (fun j => xs.getD j 0) 32 = W at *
  have e0 : clw W 0 = W 0 - W 0 % 8 := rfl
  have e1 : clw W 1 = W 1 := rfl
  have e2 : clw W 2 = W 2 := rfl
  have e3 : clw W 3 = W 3 % 4611686018427387904 + 4611686018427387904 := rfl
  unfold wval
  rw [e0, e1, e2, e3]
  omega
theorem PP_dvd {x : Int} : PP ∣ x ↔ x % PP = 0 := ⟨Int.emod_eq_zero_of_dvd, Int.dvd_of_emod_eq_zero⟩
theorem pri_PP : Pri PP := by
  refine ⟨fun {x y} h => ?_, by decide, by decide⟩
  have h' : P25519 ∣ x.natAbs * y.natAbs := by
    rw [← Int.natAbs_mul]
    exact Int.ofNat_dvd_left.1 h
  rcases prm_P.mul h' with k | k
  · exact Or.inl (Int.ofNat_dvd_left.2 k)
  · exact Or.inr (Int.ofNat_dvd_left.2 k)
def Two4.scale (l m : Int) (s : Two4) : Two4 := ⟨l * s.a, l * s.b, m * s.c, m * s.d⟩
theorem dU_sc (l u v : Int) : dU (l * u) (l * v) = l ^ 4 * dU u v := by unfold dU; grind
theorem dV_sc (l u v : Int) : dV (l * u) (l * v) = l ^ 4 * dV u v := by unfold dV dW; grind
theorem sU_sc (l m u v u' v' : Int) : sU (l * u) (l * v) (m * u') (m * v') = (l * m) ^ 2 * sU u v u' v' := by unfold sU sY sZ; grind
theorem sV_sc (l m x u v u' v' : Int) : sV x (l * u) (l * v) (m * u') (m * v') = (l * m) ^ 2 * sV x u v u' v' := by unfold sV sY sZ; grind
theorem lrnd_scale (x : Int) (b : Bool) (l m : Int) (s : Two4) : lrnd x b (s.scale l m) = (lrnd x b s).scale (pick b ((l * m) ^ 2) (l ^ 4)) (pick b (m ^ 4) ((l * m) ^ 2)) := by
  cases b
  · show Two4.mk _ _ _ _ = Two4.mk _ _ _ _
    simp only [pick, Two4.scale]
    simp only [Bool.false_eq_true, if_false]
    rw [dU_sc, dV_sc, sU_sc, sV_sc]
    rfl
  · show Two4.mk _ _ _ _ = Two4.mk _ _ _ _
    simp only [pick, Two4.scale]
    simp only [if_true]
    rw [dU_sc, dV_sc, sU_sc, sV_sc]
    rfl
theorem nz_pow (hP : Pri PP) {x : Int} (h : ¬ PP ∣ x) : ∀ n : Nat, ¬ PP ∣ x ^ n
  | 0 => by rw [Int.pow_zero]; exact hP.one
  | n + 1 => by rw [Int.pow_succ]; exact nz_mul hP (nz_pow hP h n) h
theorem lrnds_ahead (x : Int) (bt bt' : Nat → Bool) (h0 : bt' 0 = false) (hs : ∀ i, bt' (i + 1) = bt i) : ∀ n, ∃ l m, lrnds x bt' (n + 1) = (lrnds x bt n).scale l m ∧ (¬ PP ∣ x → ¬ PP ∣ l ∧ ¬ PP ∣ m)
  | 0 => by
    refine ⟨1, 4 * x, ?_, fun h => ⟨by decide, nz_mul pri_PP (by decide) h⟩⟩
    show lrnd x (bt' 0) ⟨1, 0, x, 1⟩ = _
    rw [h0]
    show Two4.mk (dU 1 0) (dV 1 0) (sU 1 0 x 1) (sV x 1 0 x 1) = Two4.mk (1 * 1) (1 * 0) (4 * x * x) (4 * x * 1)
    congr 1
    · unfold sU sY sZ; grind
    · unfold sV sY sZ; grind
  | n + 1 => by
    obtain ⟨l, m, e, k⟩ := lrnds_ahead x bt bt' h0 hs n
    refine ⟨pick (bt n) ((l * m) ^ 2) (l ^ 4), pick (bt n) (m ^ 4) ((l * m) ^ 2), ?_, fun h => ?_⟩
    · show lrnd x (bt' (n + 1)) (lrnds x bt' (n + 1)) = _
      rw [hs, e, lrnd_scale]
      rfl
    · obtain ⟨k1, k2⟩ := k h
      have k3 := nz_mul pri_PP k1 k2
      cases bt n
      · exact ⟨nz_pow pri_PP k1 4, nz_pow pri_PP k3 2⟩
      · exact ⟨nz_pow pri_PP k3 2, nz_pow pri_PP k2 4⟩
theorem lrnd_zero {x : Int} (hx : PP ∣ x) (b : Bool) {s : Two4} (hb : PP ∣ s.b) (hd : PP ∣ s.d) : PP ∣ (lrnd x b s).b ∧ PP ∣ (lrnd x b s).d := by
  have w1 : PP ∣ dV s.a s.b := Int.dvd_mul_of_dvd_left (by
    show PP ∣ dW s.a s.b
    rw [show dW s.a s.b = 4 * s.a * s.b by unfold dW; grind]
    exact Int.dvd_mul_of_dvd_right hb)
  have w2 : PP ∣ dV s.c s.d := Int.dvd_mul_of_dvd_left (by
    show PP ∣ dW s.c s.d
    rw [show dW s.c s.d = 4 * s.c * s.d by unfold dW; grind]
    exact Int.dvd_mul_of_dvd_right hd)
  have w3 : PP ∣ sV x s.a s.b s.c s.d := Int.dvd_mul_of_dvd_left hx
  cases b
  · exact ⟨w1, w3⟩
  · exact ⟨w3, w2⟩
theorem lrnds_zero {x : Int} (hx : PP ∣ x) (bt : Nat → Bool) (h0 : bt 0 = true) : ∀ n, PP ∣ (lrnds x bt (n + 1)).b ∧ PP ∣ (lrnds x bt (n + 1)).d
  | 0 => by
    show PP ∣ (lrnd x (bt 0) ⟨1, 0, x, 1⟩).b ∧ PP ∣ (lrnd x (bt 0) ⟨1, 0, x, 1⟩).d
    rw [h0]
    refine ⟨Int.dvd_mul_of_dvd_left hx, ?_⟩
    show PP ∣ dW x 1 * _
    refine Int.dvd_mul_of_dvd_left ?_
    rw [show dW x 1 = 4 * x by unfold dW; grind]
    exact Int.dvd_mul_of_dvd_right hx
  | n + 1 => by
    obtain ⟨h1, h2⟩ := lrnds_zero hx bt h0 n
    exact lrnd_zero hx _ h1 h2
theorem fer {l : Int} (h : ¬ PP ∣ l) : l ^ (eInv + 1) % PP = 1 := by
  have h1 : 0 < l % PP := by
    have := Int.emod_nonneg l (show PP ≠ 0 by decide)
    rcases Int.lt_or_eq_of_le this with k | k
    · exact k
    · exact absurd (PP_dvd.2 k.symm) h
  have h2 := Int.emod_lt_of_pos l (show (0 : Int) < PP by decide)
  rw [← pwm l]
  obtain ⟨n, hn⟩ := Int.eq_ofNat_of_zero_le (show 0 ≤ l % PP by omega)
  rw [hn] at h1 h2 ⊢
  have hd : ¬ P25519 ∣ n := fun hd => by
    have h := Nat.le_of_dvd (by omega) hd
    have : ((P25519 : Nat) : Int) = PP := rfl
    omega
  have f := prm_P.fermat hd
  rw [← eInv_P] at f
  rw [PP_nat, ← Int.natCast_pow, ← Int.natCast_emod, f]
  rfl
theorem zpow {b : Int} (h : PP ∣ b) : b ^ eInv % PP = 0 := by
  rw [show eInv = eInv - 1 + 1 from rfl, Int.pow_succ]
  exact PP_dvd.1 (Int.dvd_mul_of_dvd_right h)
theorem lrnds_congr (x : Int) (f g : Nat → Bool) : ∀ n, (∀ i, i < n → g i = f i) → lrnds x f n = lrnds x g n
  | 0, _ => rfl
  | n + 1, h => by
    show lrnd x (f n) (lrnds x f n) = lrnd x (g n) (lrnds x g n)
    rw [lrnds_congr x f g n (fun i hi => h i (by omega)), h n (by omega)]
theorem regroup (l a p q : Int) : l * a * (p * q) = p * l * (a * q) := by grind
theorem lad_same (x : Int) (bt bt' : Nat → Bool) (h0 : bt' 0 = false) (hs : ∀ i, bt' (i + 1) = bt i) (h1 : bt 0 = true) (n : Nat) : ladE x bt' (n + 2) % PP = ladE x bt (n + 1) % PP := by
  obtain ⟨l, m, e, k⟩ := lrnds_ahead x bt bt' h0 hs (n + 1)
  unfold ladE
  rw [e]
  show l * (lrnds x bt (n + 1)).a * (l * (lrnds x bt (n + 1)).b) ^ eInv % PP = _
  by_cases hx : PP ∣ x
  · have z := (lrnds_zero hx bt h1 n).1
    rw [Int.mul_emod, zpow (Int.dvd_mul_of_dvd_right z), Int.mul_emod _ ((lrnds x bt (n + 1)).b ^ eInv), zpow z]
    simp
  · have f := fer (k hx).1
    generalize (lrnds x bt (n + 1)).a = a at *
    generalize (lrnds x bt (n + 1)).b = b at *
    rw [Int.mul_pow, regroup, ← Int.pow_succ, Int.mul_emod, f, Int.one_mul, Int.emod_emod_of_dvd _ (Int.dvd_refl _)]
end Go.Proofs.YteedfhljbdnmnaaGreatDoor
namespace Go.Proofs.YteedfhljbdnmnaaGreatDoor
set_option maxRecDepth 100000
open Go.RowKit
end Go.Proofs.YteedfhljbdnmnaaGreatDoor
namespace Go.Proofs.YteedfhljbdnmnaaGreatDoor
set_option maxRecDepth 100000
open Go.RowKit
abbrev z5 (W : World) : World := W.alloc (.cells #[.int .u64 0, .int .u64 0, .int .u64 0, .int .u64 0, .int .u64 0] 42)
theorem bl1 (W : World) : Below W.heap.size W (z5 W) := (Below.refl _ _).alloc (Nat.le_refl _) _
theorem bl2 (W : World) : Below W.heap.size W (z5 (z5 W)) := nxt (bl1 W) (bl1 _)
abbrev c5 (u : Nat → Int) : Obj := .cells #[.int .u64 (u 0), .int .u64 (u 1), .int .u64 (u 2), .int .u64 (u 3), .int .u64 (u 4)] 42
abbrev l5 (u : Nat → Int) : List Int := [u 0, u 1, u 2, u 3, u 4]
end Go.Proofs.YteedfhljbdnmnaaGreatDoor
namespace Go.Proofs.YteedfhljbdnmnaaGreatDoor
set_option maxRecDepth 100000
open Go.RowKit
end Go.Proofs.YteedfhljbdnmnaaGreatDoor
namespace Go.Proofs.YteedfhljbdnmnaaGreatDoor
set_option maxRecDepth 100000
open Go.RowKit
end Go.Proofs.YteedfhljbdnmnaaGreatDoor
namespace Go.Proofs.YteedfhljbdnmnaaGreatDoor
set_option maxRecDepth 100000
open Go.RowKit
end Go.Proofs.YteedfhljbdnmnaaGreatDoor
namespace Go.Proofs.YteedfhljbdnmnaaGreatDoor
set_option maxRecDepth 100000
open Go Go.RowKit
def c32 (a b : Nat → Int) : List Value := (a16 a).toList ++ (a16 b).toList
def Is16 (t : Nat → Int) (A : Int) : Prop := L16 t ∧ s16 t 16 % PP = A % PP
def Elt2 (W : World) (q : Nat) (A B : Int) : Prop := ∃ a b, W.rangeAt q 0 (c32 a b) ∧ q < W.heap.size ∧ Is16 a A ∧ Is16 b B
theorem Elt2.lt {W : World} {q : Nat} {A B : Int} (h : Elt2 W q A B) : q < W.heap.size := by
  obtain ⟨_, _, _, l, _⟩ := h
  exact l
theorem Elt2.x {W : World} {q : Nat} {A B : Int} (h : Elt2 W q A B) : Elt W q 0 A := by
  obtain ⟨a, b, r, l, ha, _⟩ := h
  refine ⟨a, fun j v hv => r j v ?_, l, ha⟩
  have hj : j < 16 := by have := (List.getElem?_eq_some_iff.1 hv).1; rw [a16_len] at this; exact this
  unfold c32
  rw [List.getElem?_append_left (by rw [a16_len]; exact hj)]
  exact hv
theorem Elt2.y {W : World} {q : Nat} {A B : Int} (h : Elt2 W q A B) : Elt W q 16 B := by
  obtain ⟨a, b, r, l, _, hb⟩ := h
  refine ⟨b, fun j v hv => ?_, l, hb⟩
  have hj : j < 16 := by have := (List.getElem?_eq_some_iff.1 hv).1; rw [a16_len] at this; exact this
  have q := r (16 + j) v (by
    unfold c32
    rw [List.getElem?_append_right (by rw [a16_len]; omega), a16_len, show 16 + j - 16 = j by omega]
    exact hv)
  simpa using q
theorem Elt2.up {W W' : World} {q : Nat} {A B : Int} (h : Elt2 W q A B) (n : Below W.heap.size W W') : Elt2 W' q A B := by
  obtain ⟨a, b, r, l, h⟩ := h
  exact ⟨a, b, fun j v hv => (World.cell?_of_block (a := ⟨q, 0 + j, none⟩) (n.block q l)).trans (r j v hv), Nat.lt_of_lt_of_le l n.size, h⟩
theorem Elt2.but {W W' : World} {g q : Nat} {A B : Int} (h : Elt2 W g A B) (k : ButQ q W W') (hne : g ≠ q) : Elt2 W' g A B := by
  obtain ⟨a, b, r, l, h⟩ := h
  exact ⟨a, b, fun j v hv => (World.cell?_of_block (a := ⟨g, 0 + j, none⟩) (k.1 g hne l)).trans (r j v hv), Nat.lt_of_lt_of_le l k.2, h⟩
section
variable {ops : Array Oper} {Q : Exit → Act → World → Prop} {a0 : Act} {w : World} {id : Nat} {draw : Bool}
end
section
variable {ops : Array Oper} {Q : Exit → Act → World → Prop} {md : Region.Mode} {F : Nat → Fact} {a0 : Act} {w0 : World} {i : Nat} {o : Oper} {ts : Array TypeId}
end
end Go.Proofs.YteedfhljbdnmnaaGreatDoor
namespace Go.Proofs.YteedfhljbdnmnaaGreatDoor
set_option maxRecDepth 100000
open Go Go.RowKit
def wA (pZ qZ : Int) : Int := pZ * qZ
def wF (pX pY qX qY d : Int) : Int := d * ((pX * qX) * (pY * qY))
def wL (pX pY pZ qX qY qZ d : Int) : Int := wA pZ qZ * wA pZ qZ - wF pX pY qX qY d
def wM (pX pY pZ qX qY qZ d : Int) : Int := wA pZ qZ * wA pZ qZ + wF pX pY qX qY d
def wX (pX pY pZ qX qY qZ d : Int) : Int := wA pZ qZ * wL pX pY pZ qX qY qZ d * ((pX + pY) * (qX + qY) - pX * qX - pY * qY)
def wY (pX pY pZ qX qY qZ d : Int) : Int := wA pZ qZ * wM pX pY pZ qX qY qZ d * (pY * qY + pX * qX)
def wZ (pX pY pZ qX qY qZ d : Int) : Int := wL pX pY pZ qX qY qZ d * wM pX pY pZ qX qY qZ d
theorem elt3_new (W : World) (t : TypeId) {a b c : Nat → Int} {A B C : Int} (ha : L16 a ∧ s16 a 16 % PP = A % PP) (hb : L16 b ∧ s16 b 16 % PP = B % PP) (hc : L16 c ∧ s16 c 16 % PP = C % PP) :
    Elt3 (W.alloc (.cells (c48 a b c).toArray t)) W.heap.size A B C := by
  have e : (W.alloc (.cells (c48 a b c).toArray t)).heap[W.heap.size]? = some (.cells (c48 a b c).toArray t) := heap_alloc_last _ _
  refine ⟨a, b, c, fun j v hv => ?_, by simp, ha, hb, hc⟩
  unfold World.cell?
  simp only
  rw [e]
  simpa using hv
theorem elt_new (W : World) (t : TypeId) {a : Nat → Int} {A : Int} (ha : L16 a ∧ s16 a 16 % PP = A % PP) : Elt (W.alloc (.cells (a16 a) t)) W.heap.size 0 A :=
  Elt.ofR (R16.ofBlk (blk16 W t a)) ha.1 ha.2
set_option maxHeartbeats 4000000 in
theorem l5Sum_any (w : World) (a b c a' b' c' e : Nat → Int) (pX pY pZ qX qY qZ d : Int) (ha : L16 a ∧ s16 a 16 % PP = pX % PP) (hb : L16 b ∧ s16 b 16 % PP = pY % PP) (hc : L16 c ∧ s16 c 16 % PP = pZ % PP)
    (ha' : L16 a' ∧ s16 a' 16 % PP = qX % PP) (hb' : L16 b' ∧ s16 b' 16 % PP = qY % PP) (hc' : L16 c' ∧ s16 c' 16 % PP = qZ % PP) (he : L16 e ∧ s16 e 16 % PP = d % PP) :
    Calls Tryz.prog 143 #[ag48 a b c, ag48 a' b' c', ag16 e] w fun r w' => ∃ x y z, r = .returned (ag48 x y z) ∧ (L16 x ∧ s16 x 16 % PP = wX pX pY pZ qX qY qZ d % PP) ∧ (L16 y ∧ s16 y 16 % PP = wY pX pY pZ qX qY qZ d % PP) ∧ (L16 z ∧ s16 z 16 % PP = wZ pX pY pZ qX qY qZ d % PP) ∧ Below w.heap.size w w' := by
  show Calls Tryz.prog 143 #[.agg (c48 a b c).toArray, .agg (c48 a' b' c').toArray, .agg (a16 e)] w _
  have H1 := elt3_new w 143 ha hb hc
  have m1 : Below w.heap.size w (w.alloc (.cells (c48 a b c).toArray 143)) := (Below.refl _ _).alloc (Nat.le_refl _) _
  have s1 : (w.alloc (.cells (c48 a b c).toArray 143)).heap.size = w.heap.size + 1 := by simp
  have H2 := fun W => elt3_new W 143 ha' hb' hc'
  have H3 := fun W => elt_new W 131 he
  obtain ⟨V1, hV1⟩ : ∃ V, V = (c48 a b c).toArray := ⟨_, rfl⟩
  obtain ⟨V2, hV2⟩ : ∃ V, V = (c48 a' b' c').toArray := ⟨_, rfl⟩
  obtain ⟨V3, hV3⟩ : ∃ V, V = a16 e := ⟨_, rfl⟩
  rw [← hV1] at H1 m1 s1 ⊢
  simp only [← hV2] at H2 ⊢
  simp only [← hV3] at H3 ⊢
  clear hV1 hV2 hV3 ha hb hc ha' hb' hc' he
  go_enter Tryz.func143, Tryz.ntmps143
  go_upto_region 1 with fail
  generalize w.alloc (.cells V1 143) = wa at *
  have H2' := H2 wa
  have m2 : Below wa.heap.size wa (wa.alloc (.cells V2 143)) := (Below.refl _ _).alloc (Nat.le_refl _) _
  have s2 : (wa.alloc (.cells V2 143)).heap.size = wa.heap.size + 1 := by simp
  rw [s1] at H2' s2
  generalize wa.alloc (.cells V2 143) = wb at *
  have H3' := H3 wb
  have m3 : Below wb.heap.size wb (wb.alloc (.cells V3 131)) := (Below.refl _ _).alloc (Nat.le_refl _) _
  have s3 : (wb.alloc (.cells V3 131)).heap.size = wb.heap.size + 1 := by simp
  rw [s2] at H3' s3
  generalize wb.alloc (.cells V3 131) = wc at *
  have TR : (wc.alloc zObj48).there wc.heap.size 0 48 := there_new wc _ _
  have m4 : Below wc.heap.size wc (wc.alloc zObj48) := (Below.refl _ _).alloc (Nat.le_refl _) _
  rw [s3] at TR
  have HP := ((H1.up m2).up m3).up m4
  have HQ := (H2'.up m3).up m4
  have HD := H3'.up m4
  have N := nxt (nxt (nxt m1 m2) m3) m4
  clear H1 H2 H3 H2' H3' m1 m2 m3 s1 s2 s3 m4
  obtain ⟨wr, hwr⟩ : ∃ W, W = wc.alloc zObj48 := ⟨_, rfl⟩
  rw [← hwr] at TR HP HQ HD N
  change Code.wp _ _ _ _ (wc.alloc zObj48)
  rw [← hwr]
  clear hwr
  refine region_new16 6 5 4 7 19 _ (fun i => [Fact.eq (.pointer (some ⟨w.heap.size, 32, none⟩)), EL (pZ), Fact.eq (.pointer (some ⟨w.heap.size + 1, 32, none⟩)), EL (qZ), EL ((pZ) * (qZ)), NB wr 16].getD i Fact.no) ((pZ) * (qZ)) (by kernel_rfl) rfl rfl rfl (by kernel_rfl) (by kernel_rfl) rfl rfl ?_ ?_
  · intro i hi
    obtain rfl | rfl | rfl | rfl | rfl | rfl : i = 0 ∨ i = 1 ∨ i = 2 ∨ i = 3 ∨ i = 4 ∨ i = 5 := by omega
    · exact step_fld rfl 143 3 2 rfl (by kernel_rfl) _ _ rfl (fz48 _) rfl
    · exact step_elf rfl 131 15 0 rfl Go.Proofs.YteedfhljbdnmnaaGreatDoor.u50 i50 (by kernel_rfl) _ _ rfl _ HP.z rfl
    · exact step_fld rfl 143 4 2 rfl (by kernel_rfl) _ _ rfl (fz48 _) rfl
    · exact step_elf rfl 131 17 2 rfl Go.Proofs.YteedfhljbdnmnaaGreatDoor.u50 i50 (by kernel_rfl) _ _ rfl _ HQ.z rfl
    · exact step_mul rfl 16 18 1 3 _ _ rfl (by kernel_rfl) (by kernel_rfl) rfl rfl rfl
    · exact step_new16 rfl rfl rfl
  intro vs1 q7 W1 v7 h1 n1 E7 T1
  clear T1
  replace HP := HP.up n1
  replace HQ := HQ.up n1
  replace HD := HD.up n1
  replace N := nxt N n1
  replace TR := there_up (by omega) TR n1
  clear n1
  obtain ⟨x7, g7⟩ : ∃ e, e = (pZ) * (qZ) := ⟨_, rfl⟩
  rw [← g7] at E7
  simp only [puts, v7, Act.put, List.setIfInBounds_toArray, List.set_cons_succ, List.set_cons_zero]
  clear v7
  go_upto_region 2 with fail
  refine region_new16 4 3 2 8 22 _ (fun i => [EL (x7), EL (x7), EL ((x7) * (x7)), NB W1 16].getD i Fact.no) ((x7) * (x7)) (by kernel_rfl) rfl rfl rfl (by kernel_rfl) (by kernel_rfl) rfl rfl ?_ ?_
  · intro i hi
    obtain rfl | rfl | rfl | rfl : i = 0 ∨ i = 1 ∨ i = 2 ∨ i = 3 := by omega
    · exact step_el rfl 131 7 rfl Go.Proofs.YteedfhljbdnmnaaGreatDoor.u50 i50 (by kernel_rfl) _ _ rfl _ E7 rfl
    · exact step_el rfl 131 7 rfl Go.Proofs.YteedfhljbdnmnaaGreatDoor.u50 i50 (by kernel_rfl) _ _ rfl _ E7 rfl
    · exact step_mul rfl 20 21 0 1 _ _ rfl (by kernel_rfl) (by kernel_rfl) rfl rfl rfl
    · exact step_new16 rfl rfl rfl
  intro vs2 q8 W2 v8 h2 n2 E8 T2
  clear T2
  replace HP := HP.up n2
  replace HQ := HQ.up n2
  replace HD := HD.up n2
  replace E7 := E7.up n2
  replace N := nxt N n2
  replace TR := there_up (by omega) TR n2
  clear n2
  obtain ⟨x8, g8⟩ : ∃ e, e = (x7) * (x7) := ⟨_, rfl⟩
  rw [← g8] at E8
  simp only [puts, v8, Act.put, List.setIfInBounds_toArray, List.set_cons_succ, List.set_cons_zero]
  clear v8
  go_upto_region 3 with fail
  refine region_new16 6 5 4 9 27 _ (fun i => [Fact.eq (.pointer (some ⟨w.heap.size, 0, none⟩)), EL (pX), Fact.eq (.pointer (some ⟨w.heap.size + 1, 0, none⟩)), EL (qX), EL ((pX) * (qX)), NB W2 16].getD i Fact.no) ((pX) * (qX)) (by kernel_rfl) rfl rfl rfl (by kernel_rfl) (by kernel_rfl) rfl rfl ?_ ?_
  · intro i hi
    obtain rfl | rfl | rfl | rfl | rfl | rfl : i = 0 ∨ i = 1 ∨ i = 2 ∨ i = 3 ∨ i = 4 ∨ i = 5 := by omega
    · exact step_fld rfl 143 3 0 rfl (by kernel_rfl) _ _ rfl (fx48 _) rfl
    · exact step_elf rfl 131 23 0 rfl Go.Proofs.YteedfhljbdnmnaaGreatDoor.u50 i50 (by kernel_rfl) _ _ rfl _ HP.x rfl
    · exact step_fld rfl 143 4 0 rfl (by kernel_rfl) _ _ rfl (fx48 _) rfl
    · exact step_elf rfl 131 25 2 rfl Go.Proofs.YteedfhljbdnmnaaGreatDoor.u50 i50 (by kernel_rfl) _ _ rfl _ HQ.x rfl
    · exact step_mul rfl 24 26 1 3 _ _ rfl (by kernel_rfl) (by kernel_rfl) rfl rfl rfl
    · exact step_new16 rfl rfl rfl
  intro vs3 q9 W3 v9 h3 n3 E9 T3
  clear T3
  replace HP := HP.up n3
  replace HQ := HQ.up n3
  replace HD := HD.up n3
  replace E7 := E7.up n3
  replace E8 := E8.up n3
  replace N := nxt N n3
  replace TR := there_up (by omega) TR n3
  clear n3
  obtain ⟨x9, g9⟩ : ∃ e, e = (pX) * (qX) := ⟨_, rfl⟩
  rw [← g9] at E9
  simp only [puts, v9, Act.put, List.setIfInBounds_toArray, List.set_cons_succ, List.set_cons_zero]
  clear v9
  go_upto_region 4 with fail
  refine region_new16 6 5 4 10 32 _ (fun i => [Fact.eq (.pointer (some ⟨w.heap.size, 16, none⟩)), EL (pY), Fact.eq (.pointer (some ⟨w.heap.size + 1, 16, none⟩)), EL (qY), EL ((pY) * (qY)), NB W3 16].getD i Fact.no) ((pY) * (qY)) (by kernel_rfl) rfl rfl rfl (by kernel_rfl) (by kernel_rfl) rfl rfl ?_ ?_
  · intro i hi
    obtain rfl | rfl | rfl | rfl | rfl | rfl : i = 0 ∨ i = 1 ∨ i = 2 ∨ i = 3 ∨ i = 4 ∨ i = 5 := by omega
    · exact step_fld rfl 143 3 1 rfl (by kernel_rfl) _ _ rfl (fy48 _) rfl
    · exact step_elf rfl 131 28 0 rfl Go.Proofs.YteedfhljbdnmnaaGreatDoor.u50 i50 (by kernel_rfl) _ _ rfl _ HP.y rfl
    · exact step_fld rfl 143 4 1 rfl (by kernel_rfl) _ _ rfl (fy48 _) rfl
    · exact step_elf rfl 131 30 2 rfl Go.Proofs.YteedfhljbdnmnaaGreatDoor.u50 i50 (by kernel_rfl) _ _ rfl _ HQ.y rfl
    · exact step_mul rfl 29 31 1 3 _ _ rfl (by kernel_rfl) (by kernel_rfl) rfl rfl rfl
    · exact step_new16 rfl rfl rfl
  intro vs4 q10 W4 v10 h4 n4 E10 T4
  clear T4
  replace HP := HP.up n4
  replace HQ := HQ.up n4
  replace HD := HD.up n4
  replace E7 := E7.up n4
  replace E8 := E8.up n4
  replace E9 := E9.up n4
  replace N := nxt N n4
  replace TR := there_up (by omega) TR n4
  clear n4
  obtain ⟨x10, g10⟩ : ∃ e, e = (pY) * (qY) := ⟨_, rfl⟩
  rw [← g10] at E10
  simp only [puts, v10, Act.put, List.setIfInBounds_toArray, List.set_cons_succ, List.set_cons_zero]
  clear v10
  go_upto_region 5 with fail
  refine region_new16 6 5 4 11 37 _ (fun i => [EL (d), EL (x9), EL (x10), EL ((x9) * (x10)), EL ((d) * ((x9) * (x10))), NB W4 16].getD i Fact.no) ((d) * ((x9) * (x10))) (by kernel_rfl) rfl rfl rfl (by kernel_rfl) (by kernel_rfl) rfl rfl ?_ ?_
  · intro i hi
    obtain rfl | rfl | rfl | rfl | rfl | rfl : i = 0 ∨ i = 1 ∨ i = 2 ∨ i = 3 ∨ i = 4 ∨ i = 5 := by omega
    · exact step_el rfl 131 5 rfl Go.Proofs.YteedfhljbdnmnaaGreatDoor.u50 i50 (by kernel_rfl) _ _ rfl _ HD rfl
    · exact step_el rfl 131 9 rfl Go.Proofs.YteedfhljbdnmnaaGreatDoor.u50 i50 (by kernel_rfl) _ _ rfl _ E9 rfl
    · exact step_el rfl 131 10 rfl Go.Proofs.YteedfhljbdnmnaaGreatDoor.u50 i50 (by kernel_rfl) _ _ rfl _ E10 rfl
    · exact step_mul rfl 34 35 1 2 _ _ rfl (by kernel_rfl) (by kernel_rfl) rfl rfl rfl
    · exact step_mul rfl 33 36 0 3 _ _ rfl (by kernel_rfl) (by kernel_rfl) rfl rfl rfl
    · exact step_new16 rfl rfl rfl
  intro vs5 q11 W5 v11 h5 n5 E11 T5
  clear T5
  replace HP := HP.up n5
  replace HQ := HQ.up n5
  replace HD := HD.up n5
  replace E7 := E7.up n5
  replace E8 := E8.up n5
  replace E9 := E9.up n5
  replace E10 := E10.up n5
  replace N := nxt N n5
  replace TR := there_up (by omega) TR n5
  clear n5
  obtain ⟨x11, g11⟩ : ∃ e, e = (d) * ((x9) * (x10)) := ⟨_, rfl⟩
  rw [← g11] at E11
  simp only [puts, v11, Act.put, List.setIfInBounds_toArray, List.set_cons_succ, List.set_cons_zero]
  clear v11
  go_upto_region 6 with fail
  refine region_new16 4 3 2 12 40 _ (fun i => [EL (x8), EL (x11), EL ((x8) - (x11)), NB W5 16].getD i Fact.no) ((x8) - (x11)) (by kernel_rfl) rfl rfl rfl (by kernel_rfl) (by kernel_rfl) rfl rfl ?_ ?_
  · intro i hi
    obtain rfl | rfl | rfl | rfl : i = 0 ∨ i = 1 ∨ i = 2 ∨ i = 3 := by omega
    · exact step_el rfl 131 8 rfl Go.Proofs.YteedfhljbdnmnaaGreatDoor.u50 i50 (by kernel_rfl) _ _ rfl _ E8 rfl
    · exact step_el rfl 131 11 rfl Go.Proofs.YteedfhljbdnmnaaGreatDoor.u50 i50 (by kernel_rfl) _ _ rfl _ E11 rfl
    · exact step_sub rfl 38 39 0 1 _ _ rfl (by kernel_rfl) (by kernel_rfl) rfl rfl rfl
    · exact step_new16 rfl rfl rfl
  intro vs6 q12 W6 v12 h6 n6 E12 T6
  clear T6
  replace HP := HP.up n6
  replace HQ := HQ.up n6
  replace HD := HD.up n6
  replace E7 := E7.up n6
  replace E8 := E8.up n6
  replace E9 := E9.up n6
  replace E10 := E10.up n6
  replace E11 := E11.up n6
  replace N := nxt N n6
  replace TR := there_up (by omega) TR n6
  clear n6
  obtain ⟨x12, g12⟩ : ∃ e, e = (x8) - (x11) := ⟨_, rfl⟩
  rw [← g12] at E12
  simp only [puts, v12, Act.put, List.setIfInBounds_toArray, List.set_cons_succ, List.set_cons_zero]
  clear v12
  go_upto_region 7 with fail
  refine region_new16 4 3 2 13 43 _ (fun i => [EL (x8), EL (x11), EL ((x8) + (x11)), NB W6 16].getD i Fact.no) ((x8) + (x11)) (by kernel_rfl) rfl rfl rfl (by kernel_rfl) (by kernel_rfl) rfl rfl ?_ ?_
  · intro i hi
    obtain rfl | rfl | rfl | rfl : i = 0 ∨ i = 1 ∨ i = 2 ∨ i = 3 := by omega
    · exact step_el rfl 131 8 rfl Go.Proofs.YteedfhljbdnmnaaGreatDoor.u50 i50 (by kernel_rfl) _ _ rfl _ E8 rfl
    · exact step_el rfl 131 11 rfl Go.Proofs.YteedfhljbdnmnaaGreatDoor.u50 i50 (by kernel_rfl) _ _ rfl _ E11 rfl
    · exact step_add rfl 41 42 0 1 _ _ rfl (by kernel_rfl) (by kernel_rfl) rfl rfl rfl
    · exact step_new16 rfl rfl rfl
  intro vs7 q13 W7 v13 h7 n7 E13 T7
  clear T7
  replace HP := HP.up n7
  replace HQ := HQ.up n7
  replace HD := HD.up n7
  replace E7 := E7.up n7
  replace E8 := E8.up n7
  replace E9 := E9.up n7
  replace E10 := E10.up n7
  replace E11 := E11.up n7
  replace E12 := E12.up n7
  replace N := nxt N n7
  replace TR := there_up (by omega) TR n7
  clear n7
  obtain ⟨x13, g13⟩ : ∃ e, e = (x8) + (x11) := ⟨_, rfl⟩
  rw [← g13] at E13
  simp only [puts, v13, Act.put, List.setIfInBounds_toArray, List.set_cons_succ, List.set_cons_zero]
  clear v13
  go_upto_region 8 with fail
  refine region_new16 16 15 14 14 58 _ (fun i => [Fact.eq (.pointer (some ⟨w.heap.size, 0, none⟩)), EL (pX), Fact.eq (.pointer (some ⟨w.heap.size, 16, none⟩)), EL (pY), EL ((pX) + (pY)), Fact.eq (.pointer (some ⟨w.heap.size + 1, 0, none⟩)), EL (qX), Fact.eq (.pointer (some ⟨w.heap.size + 1, 16, none⟩)), EL (qY), EL ((qX) + (qY)), EL (((pX) + (pY)) * ((qX) + (qY))), EL (x9), EL ((((pX) + (pY)) * ((qX) + (qY))) - (x9)), EL (x10), EL (((((pX) + (pY)) * ((qX) + (qY))) - (x9)) - (x10)), NB W7 16].getD i Fact.no) (((((pX) + (pY)) * ((qX) + (qY))) - (x9)) - (x10)) (by kernel_rfl) rfl rfl rfl (by kernel_rfl) (by kernel_rfl) rfl rfl ?_ ?_
  · intro i hi
    obtain rfl | rfl | rfl | rfl | rfl | rfl | rfl | rfl | rfl | rfl | rfl | rfl | rfl | rfl | rfl | rfl : i = 0 ∨ i = 1 ∨ i = 2 ∨ i = 3 ∨ i = 4 ∨ i = 5 ∨ i = 6 ∨ i = 7 ∨ i = 8 ∨ i = 9 ∨ i = 10 ∨ i = 11 ∨ i = 12 ∨ i = 13 ∨ i = 14 ∨ i = 15 := by omega
    · exact step_fld rfl 143 3 0 rfl (by kernel_rfl) _ _ rfl (fx48 _) rfl
    · exact step_elf rfl 131 44 0 rfl Go.Proofs.YteedfhljbdnmnaaGreatDoor.u50 i50 (by kernel_rfl) _ _ rfl _ HP.x rfl
    · exact step_fld rfl 143 3 1 rfl (by kernel_rfl) _ _ rfl (fy48 _) rfl
    · exact step_elf rfl 131 46 2 rfl Go.Proofs.YteedfhljbdnmnaaGreatDoor.u50 i50 (by kernel_rfl) _ _ rfl _ HP.y rfl
    · exact step_add rfl 45 47 1 3 _ _ rfl (by kernel_rfl) (by kernel_rfl) rfl rfl rfl
    · exact step_fld rfl 143 4 0 rfl (by kernel_rfl) _ _ rfl (fx48 _) rfl
    · exact step_elf rfl 131 49 5 rfl Go.Proofs.YteedfhljbdnmnaaGreatDoor.u50 i50 (by kernel_rfl) _ _ rfl _ HQ.x rfl
    · exact step_fld rfl 143 4 1 rfl (by kernel_rfl) _ _ rfl (fy48 _) rfl
    · exact step_elf rfl 131 51 7 rfl Go.Proofs.YteedfhljbdnmnaaGreatDoor.u50 i50 (by kernel_rfl) _ _ rfl _ HQ.y rfl
    · exact step_add rfl 50 52 6 8 _ _ rfl (by kernel_rfl) (by kernel_rfl) rfl rfl rfl
    · exact step_mul rfl 48 53 4 9 _ _ rfl (by kernel_rfl) (by kernel_rfl) rfl rfl rfl
    · exact step_el rfl 131 9 rfl Go.Proofs.YteedfhljbdnmnaaGreatDoor.u50 i50 (by kernel_rfl) _ _ rfl _ E9 rfl
    · exact step_sub rfl 54 55 10 11 _ _ rfl (by kernel_rfl) (by kernel_rfl) rfl rfl rfl
    · exact step_el rfl 131 10 rfl Go.Proofs.YteedfhljbdnmnaaGreatDoor.u50 i50 (by kernel_rfl) _ _ rfl _ E10 rfl
    · exact step_sub rfl 56 57 12 13 _ _ rfl (by kernel_rfl) (by kernel_rfl) rfl rfl rfl
    · exact step_new16 rfl rfl rfl
  intro vs8 q14 W8 v14 h8 n8 E14 T8
  clear T8
  replace HP := HP.up n8
  replace HQ := HQ.up n8
  replace HD := HD.up n8
  replace E7 := E7.up n8
  replace E8 := E8.up n8
  replace E9 := E9.up n8
  replace E10 := E10.up n8
  replace E11 := E11.up n8
  replace E12 := E12.up n8
  replace E13 := E13.up n8
  replace N := nxt N n8
  replace TR := there_up (by omega) TR n8
  clear n8
  obtain ⟨x14, g14⟩ : ∃ e, e = ((((pX) + (pY)) * ((qX) + (qY))) - (x9)) - (x10) := ⟨_, rfl⟩
  rw [← g14] at E14
  simp only [puts, v14, Act.put, List.setIfInBounds_toArray, List.set_cons_succ, List.set_cons_zero]
  clear v14
  go_upto_region 9 with fail
  refine region_put48 16 15 6 74 _ (fun i => [EL (x7), EL (x12), EL ((x7) * (x12)), EL (x14), EL (((x7) * (x12)) * (x14)), EL (x7), EL (x13), EL ((x7) * (x13)), EL (x10), EL (x9), EL ((x10) + (x9)), EL (((x7) * (x13)) * ((x10) + (x9))), EL (x12), EL (x13), EL ((x12) * (x13)), E3 (((x7) * (x12)) * (x14)) (((x7) * (x13)) * ((x10) + (x9))) ((x12) * (x13))].getD i Fact.no) (((x7) * (x12)) * (x14)) (((x7) * (x13)) * ((x10) + (x9))) ((x12) * (x13)) _ (by kernel_rfl) rfl rfl rfl (by kernel_rfl) rfl TR (by kernel_rfl) rfl ?_ ?_
  · intro i hi
    obtain rfl | rfl | rfl | rfl | rfl | rfl | rfl | rfl | rfl | rfl | rfl | rfl | rfl | rfl | rfl | rfl : i = 0 ∨ i = 1 ∨ i = 2 ∨ i = 3 ∨ i = 4 ∨ i = 5 ∨ i = 6 ∨ i = 7 ∨ i = 8 ∨ i = 9 ∨ i = 10 ∨ i = 11 ∨ i = 12 ∨ i = 13 ∨ i = 14 ∨ i = 15 := by omega
    · exact step_el rfl 131 7 rfl Go.Proofs.YteedfhljbdnmnaaGreatDoor.u50 i50 (by kernel_rfl) _ _ rfl _ E7 rfl
    · exact step_el rfl 131 12 rfl Go.Proofs.YteedfhljbdnmnaaGreatDoor.u50 i50 (by kernel_rfl) _ _ rfl _ E12 rfl
    · exact step_mul rfl 59 60 0 1 _ _ rfl (by kernel_rfl) (by kernel_rfl) rfl rfl rfl
    · exact step_el rfl 131 14 rfl Go.Proofs.YteedfhljbdnmnaaGreatDoor.u50 i50 (by kernel_rfl) _ _ rfl _ E14 rfl
    · exact step_mul rfl 61 62 2 3 _ _ rfl (by kernel_rfl) (by kernel_rfl) rfl rfl rfl
    · exact step_el rfl 131 7 rfl Go.Proofs.YteedfhljbdnmnaaGreatDoor.u50 i50 (by kernel_rfl) _ _ rfl _ E7 rfl
    · exact step_el rfl 131 13 rfl Go.Proofs.YteedfhljbdnmnaaGreatDoor.u50 i50 (by kernel_rfl) _ _ rfl _ E13 rfl
    · exact step_mul rfl 64 65 5 6 _ _ rfl (by kernel_rfl) (by kernel_rfl) rfl rfl rfl
    · exact step_el rfl 131 10 rfl Go.Proofs.YteedfhljbdnmnaaGreatDoor.u50 i50 (by kernel_rfl) _ _ rfl _ E10 rfl
    · exact step_el rfl 131 9 rfl Go.Proofs.YteedfhljbdnmnaaGreatDoor.u50 i50 (by kernel_rfl) _ _ rfl _ E9 rfl
    · exact step_add rfl 67 68 8 9 _ _ rfl (by kernel_rfl) (by kernel_rfl) rfl rfl rfl
    · exact step_mul rfl 66 69 7 10 _ _ rfl (by kernel_rfl) (by kernel_rfl) rfl rfl rfl
    · exact step_el rfl 131 12 rfl Go.Proofs.YteedfhljbdnmnaaGreatDoor.u50 i50 (by kernel_rfl) _ _ rfl _ E12 rfl
    · exact step_el rfl 131 13 rfl Go.Proofs.YteedfhljbdnmnaaGreatDoor.u50 i50 (by kernel_rfl) _ _ rfl _ E13 rfl
    · exact step_mul rfl 71 72 12 13 _ _ rfl (by kernel_rfl) (by kernel_rfl) rfl rfl rfl
    · exact step_b48 rfl 63 70 73 4 11 14 _ _ _ rfl (by kernel_rfl) (by kernel_rfl) (by kernel_rfl) rfl rfl rfl rfl
  intro vs9 Wa Wb na bq E9' T9 nb
  have NS := nb w w.heap.size (nxt N na) (by omega)
  simp only [puts, Act.put, List.setIfInBounds_toArray, List.set_cons_succ, List.set_cons_zero]
  clear HP HQ HD E7 E8 E9 E10 E11 E12 E13 E14 TR T9 bq nb na N
  go_wp2
  obtain ⟨x, y, z, rg, _, hx, hy, hz⟩ := E9'
  have lz : (c48 x y z).length = 48 := c48_len x y z
  subst g7 g8 g9 g10 g11 g12 g13 g14
  obtain ⟨fs, hfs⟩ := u144
  exact bodyPost_ret (v := ag48 x y z) (results_cell_mid Tryz.results143 _ _ (w.heap.size + 1 + 1 + 1) (c48 x y z) _ rfl rg hfs rfl (by rw [lz]; exact i144)) rfl ⟨x, y, z, rfl, hx, hy, hz, NS⟩
end Go.Proofs.YteedfhljbdnmnaaGreatDoor
namespace Go.Proofs.YteedfhljbdnmnaaGreatDoor
set_option maxRecDepth 100000
open Go Go.RowKit
end Go.Proofs.YteedfhljbdnmnaaGreatDoor
namespace Go.Proofs.YteedfhljbdnmnaaGreatDoor
set_option maxRecDepth 100000
open Go Go.RowKit
def dE : Int := (0 - 121665) * iv 121666
theorem there_z (W : World) : (W.alloc zObj).there W.heap.size 0 16 := there_new W _ _
def RN (w0 : World) (p : List Int → Prop) : Fact := ⟨fun v w => ∃ (xs : List Int) (a : Option Addr) (c g : Nat), v = .slice a xs.length c ∧ Own w g a .u8 xs ∧ w0.heap.size ≤ g ∧ p xs ∧ (a = none → c = 0) ∧ xs.length ≤ c, fun n h => by
  obtain ⟨xs, a, c, g, e, o, q⟩ := h
  exact ⟨xs, a, c, g, e, o.up n, q⟩⟩
def PT (w0 : World) (p : List Int → List Int → Prop) : Fact := ⟨fun v w => ∃ (xs ys : List Int) (a a' : Option Addr) (c c' g g' : Nat), v = .agg #[.slice a xs.length c, .slice a' ys.length c'] ∧ Own w g a .u8 xs ∧ Own w g' a' .u8 ys ∧ w0.heap.size ≤ g ∧ w0.heap.size ≤ g' ∧ p xs ys, fun n h => by
  obtain ⟨xs, ys, a, a', c, c', g, g', e, o, o', q⟩ := h
  exact ⟨xs, ys, a, a', c, c', g, g', e, o.up n, o'.up n, q⟩⟩
theorem buP (w : World) (a a' : Option Addr) (m m' c c' : Nat) : (Instr.build 107 #[(0, .slice a m c), (1, .slice a' m' c')]).run Tryz.prog w = .ok (.agg #[.slice a m c, .slice a' m' c']) w := by kernel_rfl
theorem iP : (Tryz.prog.info? 107).map (·.size) = some 2 := by kernel_rfl
theorem uP : ∃ fs, Tryz.prog.underlying 107 = some (.struct fs) := ⟨_, Tryz.underlying107⟩
theorem en_bytes : enters Tryz.prog 117 = true := by kernel_rfl
theorem en_d : enters Tryz.prog 123 = true := by kernel_rfl
theorem en_of : enters Tryz.prog 116 = true := by kernel_rfl
section
variable {ops : Array Oper} {Q : Exit → Act → World → Prop} {md : Region.Mode} {F : Nat → Fact} {a0 : Act} {w0 : World} {i : Nat} {o : Oper} {ts : Array TypeId}
theorem step_bytes (hi : ops[i]? = some o) (p j : Nat) (A : Int) (hop : o.op = .call { callee := .value (.func 117), args := #[.tmp p], argTypes := ts })
    (hj : waits md ops i j p = true) (hFj : F j = EL A) (hFi : F i = RN w0 (fun xs => xs = fill (byt (A % PP)) 32)) : StepOk Tryz.prog md ops Q F a0 w0 i := by
  refine step_call hi _ _ ts hop en_bytes fun a w _ hw hF => ?_
  have ea := hF j p hj
  rw [hFj] at ea
  obtain ⟨t, e1, L1, V1⟩ := ea
  show Calls Tryz.prog 117 #[a.tmps.getD p undef] w _
  rw [e1]
  refine (l2Bytes_any w t L1).mono ?_
  rintro r w' ⟨⟨b, c, g, rfl, ow, k1, k2, hg⟩, hn⟩
  rw [hFi]
  exact ⟨_, rfl, hn, _, b, c, g, rfl, ow, Nat.le_trans hw.size hg, by rw [V1], k1, k2⟩
theorem step_bp (hi : ops[i]? = some o) (p q j k : Nat) (f g : List Int → Prop) (hop : o.op = .build 107 #[(0, .tmp p), (1, .tmp q)])
    (hj : waits md ops i j p = true) (hk : waits md ops i k q = true) (hFj : F j = RN w0 f) (hFk : F k = RN w0 g) (hFi : F i = PT w0 (fun xs ys => f xs ∧ g ys)) : StepOk Tryz.prog md ops Q F a0 w0 i := by
  refine step_pure hi fun a w _ _ hf => ?_
  have h1 := hf j p hj
  have h2 := hf k q hk
  rw [hFj] at h1
  rw [hFk] at h2
  obtain ⟨xs, b, c, h, e1, o1, l1, p1, _, _⟩ := h1
  obtain ⟨ys, b', c', h', e2, o2, l2, p2, _, _⟩ := h2
  refine ⟨.agg #[.slice b xs.length c, .slice b' ys.length c'], ?_, by rw [hFi]; exact ⟨xs, ys, b, b', c, c', h, h', rfl, o1, o2, l1, l2, p1, p2⟩⟩
  have g1 : a.eval (.tmp p) = .slice b xs.length c := e1
  have g2 : a.eval (.tmp q) = .slice b' ys.length c' := e2
  have gg : (#[(0, Operand.tmp p), (1, Operand.tmp q)].map fun (n, x) => (n, a.eval x)) = #[(0, Value.slice b xs.length c), (1, .slice b' ys.length c')] := by simp [g1, g2]
  simp only [execOp, hop, gg]
  rw [Sem.run_bind, buP]
  rfl
end
section
variable {ops : Array Oper} {Q : Exit → Act → World → Prop} {a0 : Act} {w : World} {id : Nat} {draw : Bool}
theorem region_putP (k jV pD pV : Nat) (o : Oper) (F : Nat → Fact) (p : List Int → List Int → Prop) (q : Nat) (hT : textOk .any ops a0.tmps.size k = true) (hk : ops[k]? = some o) (hd : o.dst = none) (hop : o.op = .store 107 (.tmp pD) (.tmp pV))
    (hp : apart ops pD = true) (h0 : a0.tmps.getD pD undef = .pointer (some ⟨q, 0, none⟩)) (ht : w.there q 0 2)
    (wV : writes ops jV pV = true) (FV : F jV = PT w p) (steps : ∀ i, i < k → StepOk Tryz.prog .any ops Q F a0 w i)
    (fin : ∀ (vs : Nat → Value) (W W' : World) (xs ys : List Int) (a a' : Option Addr) (c c' g g' : Nat), Below w.heap.size w W → ButQ q w W' → W'.rangeAt q 0 [.slice a xs.length c, .slice a' ys.length c'] → Own W' g a .u8 xs → Own W' g' a' .u8 ys → w.heap.size ≤ g → w.heap.size ≤ g' → p xs ys → (∀ (w1 : World) (B : Nat), Below B w1 W → B ≤ q → Below B w1 W') → Q .normal (puts vs a0 ops.toList) W') :
    (Code.region id ops draw).wp Tryz.prog Q a0 w := by
  refine region_store k o F (by kernel_rfl) hT hk hd steps fun a W hb hw hF => ?_
  have h2 := hF jV pV wV
  rw [FV] at h2
  obtain ⟨xs, ys, b, b', c, c', g, g', ev, o1, o2, l1, l2, hpp⟩ := h2
  have th := there_up (by omega) ht hw
  refine wp_store_mid 107 (.tmp pD) (.tmp pV) hop q 0 #[.slice b xs.length c, .slice b' ys.length c'] ((based_at hb pD hp).trans h0) ev th iP (by simp [Value.oneCell']) ?_
  obtain ⟨vs, hvs⟩ : ∃ vs : Nat → Value, ∀ d, a.tmps.getD d undef = vs d := ⟨_, fun _ => rfl⟩
  rw [hd]
  show Q .normal a _
  rw [puts_of hT rfl hb vs hvs]
  have lq := there_lt (by omega) ht
  refine fin vs W _ xs ys b b' c c' g g' hw (but_set hw _) (World.rangeAt_setCells_same W q 0 _ th) ?_ ?_ l1 l2 hpp (fun w1 B n hB => below_setCells hB _ _ _ n)
  · exact fun h0 => o1.of_block (setCells_other (by omega) _ 0 W) h0
  · exact fun h0 => o2.of_block (setCells_other (by omega) _ 0 W) h0
end
set_option maxHeartbeats 1000000 in
theorem l5D_any (w : World) : Calls Tryz.prog 123 #[] w fun r w' => ∃ t, r = .returned (ag16 t) ∧ L16 t ∧ s16 t 16 % PP = dE % PP ∧ Below w.heap.size w w' := by
  go_enter Tryz.func123, Tryz.ntmps123
  go_upto_region 1 with fail
  change Code.wp _ _ _ _ (w.alloc zObj)
  have TR := there_z w
  have N : Below w.heap.size w (w.alloc zObj) := (Below.refl _ _).alloc (Nat.le_refl _) _
  generalize w.alloc zObj = wr at *
  refine region_put16 6 5 0 6 _ (fun i => [EL 0, EL 121665, EL ((0) - (121665)), EL 121666, EL (iv (121666)), EL (((0) - (121665)) * (iv (121666)))].getD i Fact.no) (((0) - (121665)) * (iv (121666))) _ (by kernel_rfl) rfl rfl rfl (by kernel_rfl) rfl TR (by kernel_rfl) rfl ?_ ?_
  · intro i hi
    obtain rfl | rfl | rfl | rfl | rfl | rfl : i = 0 ∨ i = 1 ∨ i = 2 ∨ i = 3 ∨ i = 4 ∨ i = 5 := by omega
    · exact step_small rfl 0 (by omega) rfl rfl
    · exact step_small rfl 121665 (by omega) rfl rfl
    · exact step_sub rfl 1 2 0 1 _ _ rfl (by kernel_rfl) (by kernel_rfl) rfl rfl rfl
    · exact step_small rfl 121666 (by omega) rfl rfl
    · exact step_inv rfl 4 3 _ rfl (by kernel_rfl) rfl rfl
    · exact step_mul rfl 3 5 2 4 _ _ rfl (by kernel_rfl) (by kernel_rfl) rfl rfl rfl
  intro vs W W' n bq E T nb
  have NS := nb w w.heap.size (nxt N n) (Nat.le_refl _)
  simp only [puts, Act.put, List.setIfInBounds_toArray, List.set_cons_succ, List.set_cons_zero]
  obtain ⟨t, rg, _, L, V⟩ := E
  clear N n bq nb T TR
  go_wp2
  exact bodyPost_ret (v := .agg (a16 t)) (results_cell_mid Tryz.results123 _ _ w.heap.size (a16 t).toList (.array 16 2) rfl rg Go.Proofs.YteedfhljbdnmnaaGreatDoor.u50 rfl (by rw [a16_len]; exact i50)) rfl ⟨t, rfl, L, V, NS⟩
theorem step_d {ops : Array Oper} {Q : Exit → Act → World → Prop} {md : Region.Mode} {F : Nat → Fact} {a0 : Act} {w0 : World} {i : Nat} {o : Oper} {ts : Array TypeId} (hi : ops[i]? = some o) (hop : o.op = .call { callee := .value (.func 123), args := #[], argTypes := ts })
    (hFi : F i = EL dE) : StepOk Tryz.prog md ops Q F a0 w0 i := by
  refine step_call hi _ _ ts hop en_d fun a w _ _ _ => ?_
  refine (l5D_any w).mono ?_
  rintro r w' ⟨s, rfl, L, V, hb⟩
  exact ⟨_, rfl, hb, by rw [hFi]; exact ⟨s, rfl, L, V⟩⟩
end Go.Proofs.YteedfhljbdnmnaaGreatDoor
namespace Go.Proofs.YteedfhljbdnmnaaGreatDoor
set_option maxRecDepth 100000
open Go Go.RowKit
abbrev pObj : Obj := .cells [Value.slice none 0 0, .slice none 0 0].toArray 107
theorem there_p (W : World) : (W.alloc pObj).there W.heap.size 0 2 := there_new W _ _
def NewPt (B : Nat) (w' : World) (e : Ending) (xs ys : List Int) : Prop :=
  ∃ (a a' : Option Addr) (c c' g g' : Nat), e = .returned (.agg #[.slice a xs.length c, .slice a' ys.length c']) ∧ Own w' g a .u8 xs ∧ Own w' g' a' .u8 ys ∧ B ≤ g ∧ B ≤ g'
set_option maxHeartbeats 1000000 in
theorem pointZero_any (w : World) : Calls Tryz.prog 125 #[] w fun r w' => NewPt w.heap.size w' r (fill (byt (0 % PP)) 32) (fill (byt (1 % PP)) 32) ∧ Below w.heap.size w w' := by
  go_enter Tryz.func125, Tryz.ntmps125
  go_upto_region 1 with fail
  change Code.wp _ _ _ _ (w.alloc pObj)
  have TR := there_p w
  have N : Below w.heap.size w (w.alloc pObj) := (Below.refl _ _).alloc (Nat.le_refl _) _
  generalize w.alloc pObj = wr at *
  refine region_putP 5 4 0 5 _ (fun i => [EL 0, RN wr (fun xs => xs = fill (byt ((0) % PP)) 32), EL 1, RN wr (fun xs => xs = fill (byt ((1) % PP)) 32), PT wr (fun xs ys => xs = fill (byt ((0) % PP)) 32 ∧ ys = fill (byt ((1) % PP)) 32)].getD i Fact.no) (fun xs ys => xs = fill (byt ((0) % PP)) 32 ∧ ys = fill (byt ((1) % PP)) 32) _ (by kernel_rfl) rfl rfl rfl (by kernel_rfl) rfl TR (by kernel_rfl) rfl ?_ ?_
  · intro i hi
    obtain rfl | rfl | rfl | rfl | rfl : i = 0 ∨ i = 1 ∨ i = 2 ∨ i = 3 ∨ i = 4 := by omega
    · exact step_small rfl 0 (by omega) rfl rfl
    · exact step_bytes rfl 1 0 _ rfl (by kernel_rfl) rfl rfl
    · exact step_small rfl 1 (by omega) rfl rfl
    · exact step_bytes rfl 3 2 _ rfl (by kernel_rfl) rfl rfl
    · exact step_bp rfl 2 4 1 3 _ _ rfl (by kernel_rfl) (by kernel_rfl) rfl rfl rfl
  rintro vs W W' xs ys a a' c c' g g' n bq rg o1 o2 l1 l2 ⟨rfl, rfl⟩ nb
  have NS := nb w w.heap.size (nxt N n) (Nat.le_refl _)
  simp only [puts, Act.put, List.setIfInBounds_toArray, List.set_cons_succ, List.set_cons_zero]
  have z1 := N.size
  clear N n bq nb TR
  go_wp2
  obtain ⟨fs, hfs⟩ := uP
  exact bodyPost_ret (v := .agg #[_, _]) (results_cell_mid Tryz.results125 _ _ w.heap.size _ _ rfl rg hfs rfl iP) rfl ⟨⟨a, a', c, c', g, g', rfl, o1, o2, by omega, by omega⟩, NS⟩
set_option maxHeartbeats 2000000 in
theorem l5Plain_any (w : World) (x y z : Nat → Int) (pX pY pZ : Int) (hx : L16 x ∧ s16 x 16 % PP = pX % PP) (hy : L16 y ∧ s16 y 16 % PP = pY % PP) (hz : L16 z ∧ s16 z 16 % PP = pZ % PP) :
    Calls Tryz.prog 126 #[ag48 x y z] w fun r w' => NewPt w.heap.size w' r (fill (byt (pX * iv pZ % PP)) 32) (fill (byt (pY * iv pZ % PP)) 32) ∧ Below w.heap.size w w' := by
  show Calls Tryz.prog 126 #[.agg (c48 x y z).toArray] w _
  have H1 := elt3_new w 143 hx hy hz
  have m1 : Below w.heap.size w (w.alloc (.cells (c48 x y z).toArray 143)) := (Below.refl _ _).alloc (Nat.le_refl _) _
  have s1 : (w.alloc (.cells (c48 x y z).toArray 143)).heap.size = w.heap.size + 1 := by simp
  obtain ⟨V1, hV1⟩ : ∃ V, V = (c48 x y z).toArray := ⟨_, rfl⟩
  rw [← hV1] at H1 m1 s1 ⊢
  clear hV1 hx hy hz
  go_enter Tryz.func126, Tryz.ntmps126
  go_upto_region 1 with fail
  generalize w.alloc (.cells V1 143) = wa at *
  change Code.wp _ _ _ _ (wa.alloc pObj)
  have TR := there_p wa
  have m2 : Below wa.heap.size wa (wa.alloc pObj) := (Below.refl _ _).alloc (Nat.le_refl _) _
  rw [s1] at TR
  have HP := H1.up m2
  have N := nxt m1 m2
  clear H1 m1 m2 s1
  generalize wa.alloc pObj = wr at *
  refine region_new16 4 3 2 3 6 _ (fun i => [Fact.eq (.pointer (some ⟨w.heap.size, 32, none⟩)), EL (pZ), EL (iv (pZ)), NB wr 16].getD i Fact.no) (iv (pZ)) (by kernel_rfl) rfl rfl rfl (by kernel_rfl) (by kernel_rfl) rfl rfl ?_ ?_
  · intro i hi
    obtain rfl | rfl | rfl | rfl : i = 0 ∨ i = 1 ∨ i = 2 ∨ i = 3 := by omega
    · exact step_fld rfl 143 1 2 rfl (by kernel_rfl) _ _ rfl (fz48 _) rfl
    · exact step_elf rfl 131 4 0 rfl Go.Proofs.YteedfhljbdnmnaaGreatDoor.u50 i50 (by kernel_rfl) _ _ rfl _ HP.z rfl
    · exact step_inv rfl 5 1 _ rfl (by kernel_rfl) rfl rfl
    · exact step_new16 rfl rfl rfl
  intro vs1 q3 W1 v3 h3 n1 E3' T1
  replace HP := HP.up n1
  replace N := nxt N n1
  replace TR := there_up (by omega) TR n1
  clear n1 T1
  simp only [puts, v3, Act.put, List.setIfInBounds_toArray, List.set_cons_succ, List.set_cons_zero]
  clear v3
  go_upto_region 2 with fail
  refine region_putP 11 10 2 17 _ (fun i => [Fact.eq (.pointer (some ⟨w.heap.size, 0, none⟩)), EL (pX), EL (iv (pZ)), EL ((pX) * (iv (pZ))), RN W1 (fun xs => xs = fill (byt (((pX) * (iv (pZ))) % PP)) 32), Fact.eq (.pointer (some ⟨w.heap.size, 16, none⟩)), EL (pY), EL (iv (pZ)), EL ((pY) * (iv (pZ))), RN W1 (fun xs => xs = fill (byt (((pY) * (iv (pZ))) % PP)) 32), PT W1 (fun xs ys => xs = fill (byt (((pX) * (iv (pZ))) % PP)) 32 ∧ ys = fill (byt (((pY) * (iv (pZ))) % PP)) 32)].getD i Fact.no) (fun xs ys => xs = fill (byt (((pX) * (iv (pZ))) % PP)) 32 ∧ ys = fill (byt (((pY) * (iv (pZ))) % PP)) 32) _ (by kernel_rfl) rfl rfl rfl (by kernel_rfl) rfl TR (by kernel_rfl) rfl ?_ ?_
  · intro i hi
    obtain rfl | rfl | rfl | rfl | rfl | rfl | rfl | rfl | rfl | rfl | rfl : i = 0 ∨ i = 1 ∨ i = 2 ∨ i = 3 ∨ i = 4 ∨ i = 5 ∨ i = 6 ∨ i = 7 ∨ i = 8 ∨ i = 9 ∨ i = 10 := by omega
    · exact step_fld rfl 143 1 0 rfl (by kernel_rfl) _ _ rfl (fx48 _) rfl
    · exact step_elf rfl 131 7 0 rfl Go.Proofs.YteedfhljbdnmnaaGreatDoor.u50 i50 (by kernel_rfl) _ _ rfl _ HP.x rfl
    · exact step_el rfl 131 3 rfl Go.Proofs.YteedfhljbdnmnaaGreatDoor.u50 i50 (by kernel_rfl) _ _ rfl _ E3' rfl
    · exact step_mul rfl 8 9 1 2 _ _ rfl (by kernel_rfl) (by kernel_rfl) rfl rfl rfl
    · exact step_bytes rfl 10 3 _ rfl (by kernel_rfl) rfl rfl
    · exact step_fld rfl 143 1 1 rfl (by kernel_rfl) _ _ rfl (fy48 _) rfl
    · exact step_elf rfl 131 12 5 rfl Go.Proofs.YteedfhljbdnmnaaGreatDoor.u50 i50 (by kernel_rfl) _ _ rfl _ HP.y rfl
    · exact step_el rfl 131 3 rfl Go.Proofs.YteedfhljbdnmnaaGreatDoor.u50 i50 (by kernel_rfl) _ _ rfl _ E3' rfl
    · exact step_mul rfl 13 14 6 7 _ _ rfl (by kernel_rfl) (by kernel_rfl) rfl rfl rfl
    · exact step_bytes rfl 15 8 _ rfl (by kernel_rfl) rfl rfl
    · exact step_bp rfl 11 16 4 9 _ _ rfl (by kernel_rfl) (by kernel_rfl) rfl rfl rfl
  rintro vs W W' xs ys a a' c c' g g' n bq rg o1 o2 l1 l2 ⟨rfl, rfl⟩ nb
  have NS := nb w w.heap.size (nxt N n) (by omega)
  simp only [puts, Act.put, List.setIfInBounds_toArray, List.set_cons_succ, List.set_cons_zero]
  have z1 := N.size
  clear N n bq nb TR HP E3'
  go_wp2
  obtain ⟨fs, hfs⟩ := uP
  exact bodyPost_ret (v := .agg #[_, _]) (results_cell_mid Tryz.results126 _ _ (w.heap.size + 1) _ _ rfl rg hfs rfl iP) rfl ⟨⟨a, a', c, c', g, g', rfl, o1, o2, by omega, by omega⟩, NS⟩
end Go.Proofs.YteedfhljbdnmnaaGreatDoor
