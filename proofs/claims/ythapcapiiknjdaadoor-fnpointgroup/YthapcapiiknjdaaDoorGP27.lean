import Derived.Test.YthapcapiiknjdaaDoorGP26
import Derived.Test.YthapcapiiknjdaaDoorGP24
import Derived.Test.YthapcapiiknjdaaDoorGP19

/-
  A point is told by its y and the parity of its x. Numbers alone.
-/
namespace Go.Proofs.YthapcapiiknjdaaDoor
set_option maxRecDepth 100000

/-- The even one of x and -x. -/
theorem root_sq {x A : Int} (x0 : 0 ≤ x) (x1 : x < PP) (hA : A % PP = x * x % PP) : rootB A = true ∧ rootV A = if x % 2 = 0 then x else PP - x := by
  have h0 : 0 ≤ A % PP := Int.emod_nonneg _ (by decide)
  have h1 : A % PP < PP := Int.emod_lt_of_pos _ (by decide)
  have S := same_root h0 h1
  have q := sq_has x0 x1
  rw [← hA] at q
  have hb := S.1.mp q
  have rb : rootB A = true := decide_eq_true hb
  refine ⟨rb, ?_⟩
  unfold rootV
  rw [if_pos rb]
  have bd := r1S_bd (A % PP)
  obtain ⟨f0, f1, f2⟩ := fin2_bd bd.1 bd.2
  have fs : fin2 (r1S (A % PP)) * fin2 (r1S (A % PP)) % PP = x * x % PP := (fin2_sq (r1S (A % PP))).trans (hb.trans hA)
  generalize fin2 (r1S (A % PP)) = r at *
  -- r and x have one square
  have d : PP ∣ (r - x) * (r + x) := by
    have k := dvd_cong fs
    exact dv2 k k (c1 := 1) (c2 := 0) (by grind)
  have hp : PP % 2 = 1 := by decide
  have key : r = x ∨ r = PP - x ∨ (r = 0 ∧ x = 0) := by
    rcases pri_PP.mul d with k | k
    · left
      have := cong_dvd k
      rwa [Int.emod_eq_of_lt f0 f1, Int.emod_eq_of_lt x0 x1] at this
    · obtain ⟨c, hc⟩ := k
      have c0 : 0 ≤ c := by
        rcases Int.lt_or_le c 0 with h | h
        · exfalso
          have : PP * c ≤ PP * (-1) := Int.mul_le_mul_of_nonneg_left (by omega) (by decide)
          generalize PP = p at *
          omega
        · exact h
      have c1 : c < 2 := by
        rcases Int.lt_or_le c 2 with h | h
        · exact h
        · exfalso
          have : PP * 2 ≤ PP * c := Int.mul_le_mul_of_nonneg_left h (by decide)
          generalize PP = p at *
          omega
      rcases (show c = 0 ∨ c = 1 by omega) with e | e
      · subst e
        right; right
        rw [Int.mul_zero] at hc
        omega
      · subst e
        right; left
        rw [Int.mul_one] at hc
        generalize PP = p at *
        omega
  clear d fs hb rb q S hA
  generalize PP = p at *
  rcases key with e | e | ⟨e1, e2⟩
  · rw [if_pos (by omega)]
    exact e
  · by_cases c : x % 2 = 0
    · exfalso; omega
    · rw [if_neg c]
      exact e
  · rw [if_pos (by omega)]
    omega
theorem lift_den (y : Int) : ¬ PP ∣ dE * (y * y) + 1 := fun h => by
  have k := dE_is
  have i2 := i0_sq
  have q : PP ∣ 1 ^ 2 - d0 * (i0 * y) ^ 2 := by
    have nd := nsqd
    clear nd
    generalize d0 = d at *
    generalize i0 = i at *
    generalize dE = D at *
    exact dv3 h k i2 (c1 := 1) (c2 := -(y * y)) (c3 := -(d * y ^ 2)) (by grind)
  have r := (pri_PP.mul (nsqd _ _ q)).resolve_left i0_nz
  have : PP ∣ 1 := by
    generalize dE = D at *
    exact dv2 h r (c1 := 1) (c2 := -(D * y)) (by grind)
  exact pri_PP.one this
/-- x lies above y exactly if its square is what y tells. -/
theorem on_lift {x y : Int} : OnP PP (-1) d0 (x, y) ↔ liftZ y % PP = x * x % PP := by
  have n := lift_den y
  have hi := einv_ok _ n
  have k := dE_is
  have e : liftZ y = (y * y - 1) * einv (dE * (y * y) + 1) := rfl
  rw [e]
  constructor
  · intro h
    have h' : PP ∣ (-1) * x ^ 2 + y ^ 2 - 1 - d0 * x ^ 2 * y ^ 2 := h
    refine cong_dvd ?_
    generalize d0 = d at *
    generalize einv (dE * (y * y) + 1) = f at *
    generalize dE = D at *
    exact dv3 h' hi k (c1 := f) (c2 := x * x) (c3 := -(f * x ^ 2 * y ^ 2)) (by grind)
  · intro h
    have h' := dvd_cong h
    show PP ∣ (-1) * x ^ 2 + y ^ 2 - 1 - d0 * x ^ 2 * y ^ 2
    generalize d0 = d at *
    generalize einv (dE * (y * y) + 1) = f at *
    generalize dE = D at *
    exact dv3 h' hi k (c1 := D * (y * y) + 1) (c2 := -(y * y - 1)) (c3 := x ^ 2 * y ^ 2) (by grind)
/-- What is lifted: a point, or none. -/
theorem lift_back {x y : Int} (x0 : 0 ≤ x) (x1 : x < PP) (h : OnP PP (-1) d0 (x, y)) : rootB (liftZ y) = true ∧ rootV (liftZ y) = if x % 2 = 0 then x else PP - x := root_sq x0 x1 (on_lift.1 h)
theorem rootV_bd (A : Int) : 0 ≤ rootV A ∧ rootV A < PP ∧ rootV A % 2 = 0 := by
  unfold rootV
  split
  · have bd := r1S_bd (A % PP)
    exact fin2_bd bd.1 bd.2
  · exact ⟨by omega, by decide, by decide⟩
theorem lift_on {y : Int} (h : rootB (liftZ y) = true) : OnP PP (-1) d0 (rootV (liftZ y), y) := by
  refine on_lift.2 ?_
  have hb := of_decide_eq_true h
  unfold rootV
  rw [if_pos h, fin2_sq, hb]
theorem on_neg {x y : Int} (h : OnP PP (-1) d0 (x, y)) : OnP PP (-1) d0 ((0 - x) % PP, y) := by
  refine on_lift.2 ((on_lift.1 h).trans ?_)
  rw [← Int.mul_emod]
  congr 1
  grind
/-! ### the base -/
abbrev bX : Int := 15112221349535400772501151409588531511454012693041857206046113283949847762202
abbrev bY : Int := 46316835694926478169428394003475163141307993866256225615783033603165251855960
theorem bY_is : PP ∣ 5 * bY - 4 := by decide +kernel
theorem base_on : OnP PP (-1) d0 (bX, bY) := by
  show PP ∣ (-1) * bX ^ 2 + bY ^ 2 - 1 - d0 * bX ^ 2 * bY ^ 2
  decide +kernel
theorem four_fifths : PP ∣ bY - 4 * iv 5 := by
  have h := bY_is
  have i5 : PP ∣ einv 5 * 5 - 1 := einv_ok 5 (by decide)
  have e : iv 5 = einv 5 := rfl
  rw [e]
  generalize einv 5 = f at *
  generalize bY = y at *
  exact dv2 h i5 (c1 := f) (c2 := -y) (by grind)
/-- What is lifted for the base. -/
theorem base_lift : rootB (liftZ (4 * iv 5)) = true ∧ rootV (liftZ (4 * iv 5)) = bX := by
  have o : OnP PP (-1) d0 (bX, 4 * iv 5) := On.cg base_on ⟨0, by omega⟩ four_fifths
  have k := lift_back (by decide) (by decide) o
  exact ⟨k.1, k.2.trans (if_pos (by decide))⟩
theorem base_mod : 4 * iv 5 % PP = bY := by
  rw [← cong_dvd four_fifths]
  decide
/-- The base scaled by the order is zero. -/
theorem base_Q : Pe PP (emul (-1) d0 einv Q25519 (bX, bY)) (0, 1) := by
  refine nine_order crv1 mon1 base_on ⟨?_, fun k => pri_PP.one k.2⟩
  show PP ∣ 9 * (1 - bY) - 1 * 1 * (1 + bY)
  have h := bY_is
  generalize bY = y at *
  exact dv2 h h (c1 := -2) (c2 := 0) (by grind)
end Go.Proofs.YthapcapiiknjdaaDoor

/-
  The group of the curve in canonical coordinates, as the chapter tells its sums. Numbers alone.
-/
namespace Go.Proofs.YthapcapiiknjdaaDoor
set_option maxRecDepth 100000

def pAdd (p q : Int × Int) : Int × Int := (addX p q % PP, addY p q % PP)
/-- Canonical coordinates. -/
structure Cn (p : Int × Int) : Prop where
  x : 0 ≤ p.1 ∧ p.1 < PP
  y : 0 ≤ p.2 ∧ p.2 < PP
theorem cn_mod (x y : Int) : Cn (x % PP, y % PP) := ⟨⟨Int.emod_nonneg _ (by decide), Int.emod_lt_of_pos _ (by decide)⟩, ⟨Int.emod_nonneg _ (by decide), Int.emod_lt_of_pos _ (by decide)⟩⟩
theorem pe_mod (p : Int × Int) : Pe PP (p.1 % PP, p.2 % PP) p := ⟨dvd_cong (Int.emod_emod_of_dvd _ (Int.dvd_refl _)), dvd_cong (Int.emod_emod_of_dvd _ (Int.dvd_refl _))⟩
theorem pe_eq {p q : Int × Int} (hp : Cn p) (hq : Cn q) (h : Pe PP p q) : p = q := by
  have h1 := cong_dvd h.1
  have h2 := cong_dvd h.2
  rw [Int.emod_eq_of_lt hp.x.1 hp.x.2, Int.emod_eq_of_lt hq.x.1 hq.x.2] at h1
  rw [Int.emod_eq_of_lt hp.y.1 hp.y.2, Int.emod_eq_of_lt hq.y.1 hq.y.2] at h2
  exact Prod.ext h1 h2
theorem iv_cg {a b : Int} (h : PP ∣ a - b) : PP ∣ iv a - einv b := dvd_cong (pow_mod (cong_dvd h) _)
theorem pAdd_pe (p q : Int × Int) : Pe PP (pAdd p q) (eadd (-1) d0 einv p q) := by
  refine (pe_mod (addX p q, addY p q)).trans ?_
  have k := dE_is
  have e1 : PP ∣ (1 + addT p q) - (1 + d0 * p.1 * q.1 * p.2 * q.2) := dv2 k k (c1 := p.1 * q.1 * (p.2 * q.2)) (c2 := 0) (by unfold addT; grind)
  have e2 : PP ∣ (1 - addT p q) - (1 - d0 * p.1 * q.1 * p.2 * q.2) := dv2 k k (c1 := -(p.1 * q.1 * (p.2 * q.2))) (c2 := 0) (by unfold addT; grind)
  have i1 := iv_cg e1
  have i2 := iv_cg e2
  unfold eadd addX addY
  refine ⟨?_, ?_⟩
  · show PP ∣ (p.1 * q.2 + p.2 * q.1) * iv (1 + addT p q) - (p.1 * q.2 + p.2 * q.1) * einv (1 + d0 * p.1 * q.1 * p.2 * q.2)
    generalize iv (1 + addT p q) = f at *
    generalize einv (1 + d0 * p.1 * q.1 * p.2 * q.2) = g at *
    exact dv2 i1 i1 (c1 := p.1 * q.2 + p.2 * q.1) (c2 := 0) (by grind)
  · show PP ∣ (p.2 * q.2 + p.1 * q.1) * iv (1 - addT p q) - (p.2 * q.2 - (-1) * p.1 * q.1) * einv (1 - d0 * p.1 * q.1 * p.2 * q.2)
    generalize iv (1 - addT p q) = f at *
    generalize einv (1 - d0 * p.1 * q.1 * p.2 * q.2) = g at *
    exact dv2 i2 i2 (c1 := p.2 * q.2 + p.1 * q.1) (c2 := 0) (by grind)
theorem pAdd_cn (p q : Int × Int) : Cn (pAdd p q) := cn_mod _ _
theorem on_pe {p q : Int × Int} (h : OnP PP (-1) d0 p) (e : Pe PP p q) : OnP PP (-1) d0 q := On.cg h e.1 e.2
theorem pAdd_on {p q : Int × Int} (hp : OnP PP (-1) d0 p) (hq : OnP PP (-1) d0 q) : OnP PP (-1) d0 (pAdd p q) := on_pe (eadd_on crv1 hp hq) (pAdd_pe p q).symm
theorem pAdd_cg {p q p' q' : Int × Int} (hp : OnP PP (-1) d0 p) (hq : OnP PP (-1) d0 q) (ep : Pe PP p p') (eq : Pe PP q q') : pAdd p q = pAdd p' q' :=
  pe_eq (pAdd_cn _ _) (pAdd_cn _ _) ((pAdd_pe p q).trans ((eadd_cg crv1 hp hq ep eq).trans (pAdd_pe p' q').symm))
theorem pAdd_comm {p q : Int × Int} (hp : OnP PP (-1) d0 p) (hq : OnP PP (-1) d0 q) : pAdd p q = pAdd q p :=
  pe_eq (pAdd_cn _ _) (pAdd_cn _ _) ((pAdd_pe p q).trans ((eadd_comm crv1 hp hq).trans (pAdd_pe q p).symm))
theorem pAdd_assoc {p q r : Int × Int} (hp : OnP PP (-1) d0 p) (hq : OnP PP (-1) d0 q) (hr : OnP PP (-1) d0 r) : pAdd (pAdd p q) r = pAdd p (pAdd q r) := by
  refine pe_eq (pAdd_cn _ _) (pAdd_cn _ _) ?_
  have l := (pAdd_pe (pAdd p q) r).trans (eadd_cg crv1 (pAdd_on hp hq) hr (pAdd_pe p q) (Pe.refl r))
  have m := (pAdd_pe p (pAdd q r)).trans (eadd_cg crv1 hp (pAdd_on hq hr) (Pe.refl p) (pAdd_pe q r))
  exact l.trans ((eadd_assoc crv1 hp hq hr).trans m.symm)
theorem pAdd_zero {p : Int × Int} (hp : OnP PP (-1) d0 p) (hc : Cn p) : pAdd p (0, 1) = p := pe_eq (pAdd_cn _ _) hc ((pAdd_pe p (0, 1)).trans (eadd_zero crv1 hp))
theorem zero_cn : Cn (0, 1) := ⟨⟨by decide, by decide⟩, ⟨by decide, by decide⟩⟩
/-- The opposite point. -/
def pNeg (p : Int × Int) : Int × Int := ((0 - p.1) % PP, p.2)
theorem pNeg_pe (p : Int × Int) : Pe PP (pNeg p) (-p.1, p.2) := by
  refine ⟨?_, ⟨0, by show p.2 - p.2 = _; omega⟩⟩
  have h : PP ∣ (0 - p.1) % PP - (0 - p.1) := dvd_cong (Int.emod_emod_of_dvd _ (Int.dvd_refl _))
  show PP ∣ (0 - p.1) % PP - -p.1
  generalize (0 - p.1) % PP = m at *
  exact dv2 h h (c1 := 1) (c2 := 0) (by grind)
theorem pNeg_on {p : Int × Int} (hp : OnP PP (-1) d0 p) : OnP PP (-1) d0 (pNeg p) := on_pe (neg_on hp) (pNeg_pe p).symm
theorem pNeg_cn {p : Int × Int} (hc : Cn p) : Cn (pNeg p) := ⟨⟨Int.emod_nonneg _ (by decide), Int.emod_lt_of_pos _ (by decide)⟩, hc.y⟩
theorem pAdd_neg {p : Int × Int} (hp : OnP PP (-1) d0 p) : pAdd p (pNeg p) = (0, 1) :=
  pe_eq (pAdd_cn _ _) zero_cn ((pAdd_pe p (pNeg p)).trans ((eadd_cg crv1 hp (pNeg_on hp) (Pe.refl p) (pNeg_pe p)).trans (eadd_neg crv1 hp)))
/-- Multiples. -/
def pMul (k : Nat) (p : Int × Int) : Int × Int := ((emul (-1) d0 einv k p).1 % PP, (emul (-1) d0 einv k p).2 % PP)
theorem pMul_pe (k : Nat) (p : Int × Int) : Pe PP (pMul k p) (emul (-1) d0 einv k p) := pe_mod _
theorem pMul_cn (k : Nat) (p : Int × Int) : Cn (pMul k p) := cn_mod _ _
theorem pMul_on {p : Int × Int} (hp : OnP PP (-1) d0 p) (k : Nat) : OnP PP (-1) d0 (pMul k p) := on_pe (emul_on crv1 hp k) (pMul_pe k p).symm
theorem pMul_add {p : Int × Int} (hp : OnP PP (-1) d0 p) (k l : Nat) : pAdd (pMul k p) (pMul l p) = pMul (k + l) p := by
  refine pe_eq (pAdd_cn _ _) (pMul_cn _ _) ?_
  have e := (pAdd_pe (pMul k p) (pMul l p)).trans (eadd_cg crv1 (pMul_on hp k) (pMul_on hp l) (pMul_pe k p) (pMul_pe l p))
  exact e.trans ((emul_add crv1 hp k l).symm.trans (pMul_pe (k + l) p).symm)
theorem base_cn : Cn (bX, bY) := ⟨⟨by decide, by decide⟩, ⟨by decide, by decide⟩⟩
theorem pMul_base_Q : pMul Q25519 (bX, bY) = (0, 1) := pe_eq (pMul_cn _ _) zero_cn ((pMul_pe _ _).trans base_Q)
/-- What the model's l5Times and l5Plain tell. -/
theorem times_plain {p : Int × Int} (hp : OnP PP (-1) d0 p) {top : List Int} (hb : Byt top) {v : Nat} (hv : bval top = (v : Int)) :
    ((acc dE (p.1, p.2, 1) (bitOf top) (8 * top.length)).1 * iv (acc dE (p.1, p.2, 1) (bitOf top) (8 * top.length)).2.2 % PP, (acc dE (p.1, p.2, 1) (bitOf top) (8 * top.length)).2.1 * iv (acc dE (p.1, p.2, 1) (bitOf top) (8 * top.length)).2.2 % PP) = pMul v p := by
  have h := acc_ok hp (bitOf top) (8 * top.length)
  rw [low_all hb hv] at h
  have q := pj_plain h
  unfold pMul
  rw [q.1, q.2]
theorem ladder_of_mul {p : Int × Int} (hp : OnP PP (-1) d0 p) {K : Nat} (hK : Clp K) : toU (pMul K p).2 = L (toU p.2) K := by
  rw [← ladder_of_points hp hK]
  have e := (pMul_pe K p).2
  have e2 : PP ∣ (1 - (pMul K p).2) - (1 - (emul (-1) d0 einv K p).2) := dv2 e e (c1 := -1) (c2 := 0) (by grind)
  have i := iv_cg e2
  have i' : PP ∣ iv (1 - (emul (-1) d0 einv K p).2) - einv (1 - (emul (-1) d0 einv K p).2) := ⟨0, by show einv _ - einv _ = _; omega⟩
  unfold toU
  refine cong_dvd ?_
  generalize (pMul K p).2 = y at *
  generalize (emul (-1) d0 einv K p).2 = z at *
  generalize iv (1 - y) = f at *
  generalize iv (1 - z) = g at *
  generalize einv (1 - z) = h at *
  exact dv3 e i i' (c1 := f) (c2 := 1 + z) (c3 := -(1 + z)) (by grind)
end Go.Proofs.YthapcapiiknjdaaDoor

/-
  Rows of elements, as the program holds its points: as values and in memory.
-/
namespace Go.Proofs.YthapcapiiknjdaaDoor
set_option maxRecDepth 100000
open Go Go.RowKit

def clN : List (Nat → Int) → List Value
  | [] => []
  | e :: es => cl5 e ++ clN es
def agN (es : List (Nat → Int)) : Value := .agg (clN es).toArray
/-- Each of these is five limbs of the number at its place. -/
def IsN : List (Nat → Int) → List Int → Prop
  | [], [] => True
  | e :: es, A :: As => Is5 e A ∧ IsN es As
  | _, _ => False
def EN (As : List Int) : Fact := ⟨fun v _ => ∃ es, v = agN es ∧ IsN es As, fun _ h => h⟩
def RowN (W : World) (q o : Nat) (As : List Int) : Prop := ∃ es, W.rangeAt q o (clN es) ∧ q < W.heap.size ∧ IsN es As
theorem clN_len : ∀ {es : List (Nat → Int)} {As : List Int}, IsN es As → (clN es).length = 5 * As.length
  | [], [], _ => rfl
  | e :: es, A :: As, h => by
    have := clN_len h.2
    simp only [clN, List.length_append, List.length_cons, this]
    simp [cl5]
    omega
  | [], _ :: _, h => h.elim
  | _ :: _, [], h => h.elim
theorem clN_one : ∀ (es : List (Nat → Int)), (clN es).toArray.all (·.oneCell') = true := by
  intro es
  refine all_oneCell_toArray fun v hv => ?_
  induction es with
  | nil => cases hv
  | cons e es ih =>
    rcases List.mem_append.1 hv with h | h
    · exact Array.all_eq_true_iff_forall_mem.1 (cl5_one e) v (by simpa using h)
    · exact ih h
theorem RowN.up {W W' : World} {q o : Nat} {As : List Int} (h : RowN W q o As) (n : Below W.heap.size W W') : RowN W' q o As := by
  obtain ⟨t, r, l, h⟩ := h
  exact ⟨t, fun j v hv => (World.cell?_of_block (a := ⟨q, o + j, none⟩) (n.block q l)).trans (r j v hv), Nat.lt_of_lt_of_le l n.size, h⟩
theorem RowN.but {W W' : World} {g o q : Nat} {As : List Int} (h : RowN W g o As) (k : ButQ q W W') (hne : g ≠ q) : RowN W' g o As := by
  obtain ⟨t, r, l, h⟩ := h
  exact ⟨t, fun j v hv => (World.cell?_of_block (a := ⟨g, o + j, none⟩) (k.1 g hne l)).trans (r j v hv), Nat.lt_of_lt_of_le l k.2, h⟩
theorem RowN.lt {W : World} {q o : Nat} {As : List Int} (h : RowN W q o As) : q < W.heap.size := by
  obtain ⟨_, _, l, _⟩ := h
  exact l
theorem RowN.at0 {W : World} {q o : Nat} {A : Int} {As : List Int} (h : RowN W q o (A :: As)) : Em5 W q o A := by
  obtain ⟨es, r, l, h⟩ := h
  cases es with
  | nil => exact h.elim
  | cons e es =>
    refine ⟨e, fun j v hv => r j v ?_, l, h.1⟩
    show (cl5 e ++ clN es)[j]? = some v
    rw [List.getElem?_append_left (List.getElem?_eq_some_iff.1 hv).1]
    exact hv
theorem RowN.tail {W : World} {q o : Nat} {A : Int} {As : List Int} (h : RowN W q o (A :: As)) : RowN W q (o + 5) As := by
  obtain ⟨es, r, l, h⟩ := h
  cases es with
  | nil => exact h.elim
  | cons e es =>
    refine ⟨es, fun j v hv => ?_, l, h.2⟩
    have q := r (5 + j) v (by
      show (cl5 e ++ clN es)[5 + j]? = some v
      rw [List.getElem?_append_right (by show 5 ≤ _; omega)]
      show (clN es)[5 + j - 5]? = some v
      rw [show 5 + j - 5 = j by omega]
      exact hv)
    rw [show o + 5 + j = o + (5 + j) by omega]
    exact q
theorem RowN.init {W : World} {q o : Nat} {A B C : Int} {As : List Int} (h : RowN W q o (A :: B :: C :: As)) : RowN W q o [A, B, C] := by
  obtain ⟨es, r, l, h⟩ := h
  match es, h with
  | e :: f :: g :: es, h =>
    refine ⟨[e, f, g], fun j v hv => r j v ?_, l, h.1, h.2.1, h.2.2.1, trivial⟩
    have hj : j < 15 := (List.getElem?_eq_some_iff.1 hv).1
    show (cl5 e ++ (cl5 f ++ (cl5 g ++ clN es)))[j]? = some v
    have e1 : cl5 e ++ (cl5 f ++ (cl5 g ++ clN es)) = clN [e, f, g] ++ clN es := by simp [clN]
    rw [e1, List.getElem?_append_left (by show j < 15; exact hj)]
    exact hv
  | [], h => exact h.elim
  | [_], h => exact h.2.elim
  | [_, _], h => exact h.2.2.elim
theorem rowN_new (W : World) (t : TypeId) {es : List (Nat → Int)} {As : List Int} (h : IsN es As) : RowN (W.alloc (.cells (clN es).toArray t)) W.heap.size 0 As := by
  have e : (W.alloc (.cells (clN es).toArray t)).heap[W.heap.size]? = some (.cells (clN es).toArray t) := heap_alloc_last _ _
  refine ⟨es, fun j v hv => ?_, by simp, h⟩
  unfold World.cell?
  simp only
  rw [e]
  simpa using hv
theorem set_rowN {W : World} {q : Nat} {es : List (Nat → Int)} {As : List Int} (th : W.there q 0 (5 * As.length)) (ha : 0 < As.length) (h : IsN es As) : RowN (W.setCells q 0 (clN es)) q 0 As :=
  ⟨es, World.rangeAt_setCells_same W q 0 _ (by rw [clN_len h]; exact th), by rw [heap_size_setCells]; exact there_lt (by omega) th, h⟩
theorem IsN.cg : ∀ {es : List (Nat → Int)} {As Bs : List Int}, IsN es As → As.map (· % PP) = Bs.map (· % PP) → IsN es Bs
  | [], [], [], _, _ => trivial
  | e :: es, A :: As, B :: Bs, h, k => by
    simp only [List.map_cons, List.cons.injEq] at k
    exact ⟨⟨h.1.1, h.1.2.trans k.1⟩, IsN.cg h.2 k.2⟩
  | [], [], _ :: _, _, k => by simp at k
  | _ :: _, _ :: _, [], _, k => by simp at k
  | [], _ :: _, _, h, _ => h.elim
  | _ :: _, [], _, h, _ => h.elim

theorem isN3 {es : List (Nat → Int)} {A B C : Int} (h : IsN es [A, B, C]) : ∃ x y z, es = [x, y, z] ∧ Is5 x A ∧ Is5 y B ∧ Is5 z C := by
  match es, h with
  | [x, y, z], h => exact ⟨x, y, z, rfl, h.1, h.2.1, h.2.2.1⟩
  | [], h => exact h.elim
  | [_], h => exact h.2.elim
  | [_, _], h => exact h.2.2.elim
  | _ :: _ :: _ :: _ :: _, h => exact h.2.2.2.elim
theorem isN2 {es : List (Nat → Int)} {A B : Int} (h : IsN es [A, B]) : ∃ x y, es = [x, y] ∧ Is5 x A ∧ Is5 y B := by
  match es, h with
  | [x, y], h => exact ⟨x, y, rfl, h.1, h.2.1⟩
  | [], h => exact h.elim
  | [_], h => exact h.2.elim
  | _ :: _ :: _ :: _, h => exact h.2.2.elim
theorem isN4 {es : List (Nat → Int)} {A B C D : Int} (h : IsN es [A, B, C, D]) : ∃ x y z t, es = [x, y, z, t] ∧ Is5 x A ∧ Is5 y B ∧ Is5 z C ∧ Is5 t D := by
  match es, h with
  | [x, y, z, t], h => exact ⟨x, y, z, t, rfl, h.1, h.2.1, h.2.2.1, h.2.2.2.1⟩
  | [], h => exact h.elim
  | [_], h => exact h.2.elim
  | [_, _], h => exact h.2.2.elim
  | [_, _, _], h => exact h.2.2.2.elim
  | _ :: _ :: _ :: _ :: _ :: _, h => exact h.2.2.2.2.elim
theorem buA (e f : Nat → Int) (w : World) : (Instr.build 58 #[(0, ag5 e), (1, ag5 f)]).run Tryd.prog w = .ok (agN [e, f]) w := by kernel_rfl
theorem buRN (e f : Nat → Int) (w : World) : (Instr.build 112 #[(0, ag5 e), (1, ag5 f)]).run Tryd.prog w = .ok (agN [e, f]) w := by kernel_rfl
theorem buPr (e f g : Nat → Int) (w : World) : (Instr.build 75 #[(0, ag5 e), (1, ag5 f), (2, ag5 g)]).run Tryd.prog w = .ok (agN [e, f, g]) w := by kernel_rfl
theorem buXt (e f g t : Nat → Int) (w : World) : (Instr.build 77 #[(0, agN [e, f, g]), (1, ag5 t)]).run Tryd.prog w = .ok (agN [e, f, g, t]) w := by kernel_rfl
theorem fxA (q : Nat) (w : World) : (Instr.fieldAt 58 (.pointer (some ⟨q, 0, none⟩)) 0).run Tryd.prog w = .ok (.pointer (some ⟨q, 0, none⟩)) w := by kernel_rfl
theorem fyA (q : Nat) (w : World) : (Instr.fieldAt 58 (.pointer (some ⟨q, 0, none⟩)) 1).run Tryd.prog w = .ok (.pointer (some ⟨q, 5, none⟩)) w := by kernel_rfl
theorem fxJ (q : Nat) (w : World) : (Instr.fieldAt 75 (.pointer (some ⟨q, 0, none⟩)) 0).run Tryd.prog w = .ok (.pointer (some ⟨q, 0, none⟩)) w := by kernel_rfl
theorem fyJ (q : Nat) (w : World) : (Instr.fieldAt 75 (.pointer (some ⟨q, 0, none⟩)) 1).run Tryd.prog w = .ok (.pointer (some ⟨q, 5, none⟩)) w := by kernel_rfl
theorem fzJ (q : Nat) (w : World) : (Instr.fieldAt 75 (.pointer (some ⟨q, 0, none⟩)) 2).run Tryd.prog w = .ok (.pointer (some ⟨q, 10, none⟩)) w := by kernel_rfl
theorem fpX (q : Nat) (w : World) : (Instr.fieldAt 77 (.pointer (some ⟨q, 0, none⟩)) 0).run Tryd.prog w = .ok (.pointer (some ⟨q, 0, none⟩)) w := by kernel_rfl
theorem ftX (q : Nat) (w : World) : (Instr.fieldAt 77 (.pointer (some ⟨q, 0, none⟩)) 1).run Tryd.prog w = .ok (.pointer (some ⟨q, 15, none⟩)) w := by kernel_rfl
theorem iA : (Tryd.prog.info? 58).map (·.size) = some 10 := by kernel_rfl
theorem iJ : (Tryd.prog.info? 75).map (·.size) = some 15 := by kernel_rfl
theorem iX : (Tryd.prog.info? 77).map (·.size) = some 20 := by kernel_rfl
theorem uA : ∃ fs, Tryd.prog.underlying 58 = some (.struct fs) := ⟨_, Tryd.underlying58⟩
theorem uJ : ∃ fs, Tryd.prog.underlying 75 = some (.struct fs) := ⟨_, Tryd.underlying75⟩
theorem uX : ∃ fs, Tryd.prog.underlying 77 = some (.struct fs) := ⟨_, Tryd.underlying77⟩
section
variable {ops : Array Oper} {Q : Exit → Act → World → Prop} {md : Region.Mode} {F : Nat → Fact} {a0 : Act} {w0 : World} {i : Nat} {o : Oper} {ts : Array TypeId}
/-- A row of elements is read, at a known place. -/
theorem step_en (ty : TypeId) (d : TypeDesc) (n : Nat) (hu : Tryd.prog.underlying ty = some d) (hd : d.isRow = true) (hs : (Tryd.prog.info? ty).map (·.size) = some n) (hi : ops[i]? = some o) (p : Nat) (hop : o.op = .load ty (.tmp p)) (hp : apart ops p = true) (q off : Nat) (h0 : a0.tmps.getD p undef = .pointer (some ⟨q, off, none⟩)) (As : List Int) (hn : 5 * As.length = n) (hE : RowN w0 q off As) (hF : F i = EN As) : StepOk Tryd.prog md ops Q F a0 w0 i := by
  refine step_load hi _ _ hop d n hu hd hs fun a w hb hw _ => ?_
  obtain ⟨t, r, _, h⟩ := hE.up hw
  exact ⟨q, off, _, (based_at hb p hp).trans h0, r, (clN_len h).trans hn, by rw [hF]; exact ⟨t, rfl, h⟩⟩
theorem step_enf (ty : TypeId) (d : TypeDesc) (n : Nat) (hu : Tryd.prog.underlying ty = some d) (hd : d.isRow = true) (hs : (Tryd.prog.info? ty).map (·.size) = some n) (hi : ops[i]? = some o) (p j : Nat) (hop : o.op = .load ty (.tmp p)) (hj : waits md ops i j p = true) (q off : Nat) (hFj : F j = Fact.eq (.pointer (some ⟨q, off, none⟩))) (As : List Int) (hn : 5 * As.length = n) (hE : RowN w0 q off As) (hF : F i = EN As) : StepOk Tryd.prog md ops Q F a0 w0 i := by
  refine step_load hi _ _ hop d n hu hd hs fun a w _ hw hf => ?_
  obtain ⟨t, r, _, h⟩ := hE.up hw
  have e := hf j p hj
  rw [hFj] at e
  exact ⟨q, off, _, e, r, (clN_len h).trans hn, by rw [hF]; exact ⟨t, rfl, h⟩⟩
theorem EM_EN {A : Int} {v : Value} {w : World} : (EM A).p v w ↔ (EN [A]).p v w := by
  constructor
  · rintro ⟨e, rfl, h⟩
    exact ⟨[e], by simp [agN, clN, ag5, cl5], h, trivial⟩
  · rintro ⟨es, rfl, h⟩
    match es, h with
    | [e], h => exact ⟨e, by simp [agN, clN, ag5, cl5], h.1⟩
    | _ :: _ :: _, h => exact h.2.elim
theorem step_bA (hi : ops[i]? = some o) (p q j k : Nat) (A B : Int) (hop : o.op = .build 58 #[(0, .tmp p), (1, .tmp q)])
    (hj : waits md ops i j p = true) (hk : waits md ops i k q = true) (hFj : F j = EM A) (hFk : F k = EM B) (hFi : F i = EN [A, B]) : StepOk Tryd.prog md ops Q F a0 w0 i := by
  refine step_pure hi fun a w _ _ hf => ?_
  have h1 := hf j p hj
  have h2 := hf k q hk
  rw [hFj] at h1
  rw [hFk] at h2
  obtain ⟨x, e1, X⟩ := h1
  obtain ⟨y, e2, Y⟩ := h2
  refine ⟨agN [x, y], ?_, by rw [hFi]; exact ⟨[x, y], rfl, X, Y, trivial⟩⟩
  have g1 : a.eval (.tmp p) = ag5 x := e1
  have g2 : a.eval (.tmp q) = ag5 y := e2
  have g : (#[(0, Operand.tmp p), (1, Operand.tmp q)].map fun (n, x) => (n, a.eval x)) = #[(0, ag5 x), (1, ag5 y)] := by simp [g1, g2]
  simp only [execOp, hop, g]
  rw [Sem.run_bind, buA]
  rfl
theorem step_bR (hi : ops[i]? = some o) (p q j k : Nat) (A B : Int) (hop : o.op = .build 112 #[(0, .tmp p), (1, .tmp q)])
    (hj : waits md ops i j p = true) (hk : waits md ops i k q = true) (hFj : F j = EM A) (hFk : F k = EM B) (hFi : F i = EN [A, B]) : StepOk Tryd.prog md ops Q F a0 w0 i := by
  refine step_pure hi fun a w _ _ hf => ?_
  have h1 := hf j p hj
  have h2 := hf k q hk
  rw [hFj] at h1
  rw [hFk] at h2
  obtain ⟨x, e1, X⟩ := h1
  obtain ⟨y, e2, Y⟩ := h2
  refine ⟨agN [x, y], ?_, by rw [hFi]; exact ⟨[x, y], rfl, X, Y, trivial⟩⟩
  have g1 : a.eval (.tmp p) = ag5 x := e1
  have g2 : a.eval (.tmp q) = ag5 y := e2
  have g : (#[(0, Operand.tmp p), (1, Operand.tmp q)].map fun (n, x) => (n, a.eval x)) = #[(0, ag5 x), (1, ag5 y)] := by simp [g1, g2]
  simp only [execOp, hop, g]
  rw [Sem.run_bind, buRN]
  rfl
theorem step_bP (hi : ops[i]? = some o) (p q r j k l : Nat) (A B C : Int) (hop : o.op = .build 75 #[(0, .tmp p), (1, .tmp q), (2, .tmp r)])
    (hj : waits md ops i j p = true) (hk : waits md ops i k q = true) (hl : waits md ops i l r = true) (hFj : F j = EM A) (hFk : F k = EM B) (hFl : F l = EM C) (hFi : F i = EN [A, B, C]) : StepOk Tryd.prog md ops Q F a0 w0 i := by
  refine step_pure hi fun a w _ _ hf => ?_
  have h1 := hf j p hj
  have h2 := hf k q hk
  have h3 := hf l r hl
  rw [hFj] at h1
  rw [hFk] at h2
  rw [hFl] at h3
  obtain ⟨x, e1, X⟩ := h1
  obtain ⟨y, e2, Y⟩ := h2
  obtain ⟨z, e3, Z⟩ := h3
  refine ⟨agN [x, y, z], ?_, by rw [hFi]; exact ⟨[x, y, z], rfl, X, Y, Z, trivial⟩⟩
  have g1 : a.eval (.tmp p) = ag5 x := e1
  have g2 : a.eval (.tmp q) = ag5 y := e2
  have g3 : a.eval (.tmp r) = ag5 z := e3
  have g : (#[(0, Operand.tmp p), (1, Operand.tmp q), (2, Operand.tmp r)].map fun (n, x) => (n, a.eval x)) = #[(0, ag5 x), (1, ag5 y), (2, ag5 z)] := by simp [g1, g2, g3]
  simp only [execOp, hop, g]
  rw [Sem.run_bind, buPr]
  rfl
theorem step_bX (hi : ops[i]? = some o) (p q j k : Nat) (A B C T : Int) (hop : o.op = .build 77 #[(0, .tmp p), (1, .tmp q)])
    (hj : waits md ops i j p = true) (hk : waits md ops i k q = true) (hFj : F j = EN [A, B, C]) (hFk : F k = EM T) (hFi : F i = EN [A, B, C, T]) : StepOk Tryd.prog md ops Q F a0 w0 i := by
  refine step_pure hi fun a w _ _ hf => ?_
  have h1 := hf j p hj
  have h2 := hf k q hk
  rw [hFj] at h1
  rw [hFk] at h2
  obtain ⟨xs, e1, X⟩ := h1
  obtain ⟨t, e2, Y⟩ := h2
  obtain ⟨x, y, z, rfl, hx, hy, hz⟩ := isN3 X
  refine ⟨agN [x, y, z, t], ?_, by rw [hFi]; exact ⟨[x, y, z, t], rfl, hx, hy, hz, Y, trivial⟩⟩
  have g1 : a.eval (.tmp p) = agN [x, y, z] := e1
  have g2 : a.eval (.tmp q) = ag5 t := e2
  have g : (#[(0, Operand.tmp p), (1, Operand.tmp q)].map fun (n, x) => (n, a.eval x)) = #[(0, agN [x, y, z]), (1, ag5 t)] := by simp [g1, g2]
  simp only [execOp, hop, g]
  rw [Sem.run_bind, buXt]
  rfl
theorem step_oneN (hi : ops[i]? = some o) (n : FuncId) (p : Nat) (hop : o.op = .call { callee := .value (.func n), args := #[.tmp p], argTypes := ts }) (he : enters Tryd.prog n = true)
    (j : Nat) (As Bs : List Int) (law : ∀ (w : World) (es : List (Nat → Int)), Below w0.heap.size w0 w → IsN es As → Calls Tryd.prog n #[agN es] w fun r w' => ∃ t, r = .returned (agN t) ∧ IsN t Bs ∧ Below w.heap.size w w')
    (hj : waits md ops i j p = true) (hFj : F j = EN As) (hFi : F i = EN Bs) : StepOk Tryd.prog md ops Q F a0 w0 i := by
  refine step_call hi n _ ts hop he fun a w _ hw hF => ?_
  have ea := hF j p hj
  rw [hFj] at ea
  obtain ⟨t, e1, L1⟩ := ea
  show Calls Tryd.prog n #[a.tmps.getD p undef] w _
  rw [e1]
  refine (law w t hw L1).mono ?_
  rintro r w' ⟨s, rfl, L, hn⟩
  rw [hFi]
  exact ⟨_, rfl, hn, s, rfl, L⟩
theorem step_twoN (hi : ops[i]? = some o) (n : FuncId) (p q : Nat) (hop : o.op = .call { callee := .value (.func n), args := #[.tmp p, .tmp q], argTypes := ts }) (he : enters Tryd.prog n = true)
    (j k : Nat) (As Bs Cs : List Int) (law : ∀ (w : World) (es fs : List (Nat → Int)), Below w0.heap.size w0 w → IsN es As → IsN fs Bs → Calls Tryd.prog n #[agN es, agN fs] w fun r w' => ∃ t, r = .returned (agN t) ∧ IsN t Cs ∧ Below w.heap.size w w')
    (hj : waits md ops i j p = true) (hk : waits md ops i k q = true) (hFj : F j = EN As) (hFk : F k = EN Bs) (hFi : F i = EN Cs) : StepOk Tryd.prog md ops Q F a0 w0 i := by
  refine step_call hi n _ ts hop he fun a w _ hw hF => ?_
  have ea := hF j p hj
  have eb := hF k q hk
  rw [hFj] at ea
  rw [hFk] at eb
  obtain ⟨t, e1, L1⟩ := ea
  obtain ⟨u, e2, L2⟩ := eb
  show Calls Tryd.prog n #[a.tmps.getD p undef, a.tmps.getD q undef] w _
  rw [e1, e2]
  refine (law w t u hw L1 L2).mono ?_
  rintro r w' ⟨s, rfl, L, hn⟩
  rw [hFi]
  exact ⟨_, rfl, hn, s, rfl, L⟩
end
section
variable {ops : Array Oper} {Q : Exit → Act → World → Prop} {a0 : Act} {w : World} {id : Nat} {draw : Bool}
/-- A region that lays a row of elements into a block that was there. -/
theorem region_putN (ty : TypeId) (k jV pD pV : Nat) (o : Oper) (F : Nat → Fact) (As : List Int) (q : Nat) (hT : textOk .any ops a0.tmps.size k = true) (hk : ops[k]? = some o) (hd : o.dst = none) (hop : o.op = .store ty (.tmp pD) (.tmp pV)) (hs : (Tryd.prog.info? ty).map (·.size) = some (5 * As.length)) (ha : 0 < As.length)
    (hp : apart ops pD = true) (h0 : a0.tmps.getD pD undef = .pointer (some ⟨q, 0, none⟩)) (ht : w.there q 0 (5 * As.length)) (wV : writes ops jV pV = true) (FV : F jV = EN As) (steps : ∀ i, i < k → StepOk Tryd.prog .any ops Q F a0 w i)
    (fin : ∀ (vs : Nat → Value) (W W' : World), Below w.heap.size w W → ButQ q w W' → RowN W' q 0 As → (∀ (w1 : World) (B : Nat), Below B w1 W → B ≤ q → Below B w1 W') → W'.there q 0 (5 * As.length) → Q .normal (puts vs a0 ops.toList) W') :
    (Code.region id ops draw).wp Tryd.prog Q a0 w := by
  refine region_store k o F (by kernel_rfl) hT hk hd steps fun a W hb hw hF => ?_
  have h2 := hF jV pV wV
  rw [FV] at h2
  obtain ⟨es, ev, V⟩ := h2
  have th := there_up (by omega) ht hw
  refine wp_store_mid ty (.tmp pD) (.tmp pV) hop q 0 (clN es).toArray ((based_at hb pD hp).trans h0) ev (by show W.there q 0 (clN es).length; rw [clN_len V]; exact th) (by show _ = some (clN es).length; rw [clN_len V]; exact hs) (clN_one es) ?_
  obtain ⟨vs, hvs⟩ : ∃ vs : Nat → Value, ∀ d, a.tmps.getD d undef = vs d := ⟨_, fun _ => rfl⟩
  rw [hd]
  show Q .normal a _
  rw [puts_of hT rfl hb vs hvs]
  exact fin vs W _ hw (but_set hw _) (set_rowN th ha V) (fun w1 B n hB => below_setCells hB _ _ _ n) (World.there_setCells th _ _ _)
/-- A region that makes a block and lays a row of elements there. -/
theorem region_newN (ty : TypeId) (k jA jV pA pV : Nat) (o : Oper) (F : Nat → Fact) (As : List Int) (hT : textOk .any ops a0.tmps.size k = true) (hk : ops[k]? = some o) (hd : o.dst = none) (hop : o.op = .store ty (.tmp pA) (.tmp pV)) (hs : (Tryd.prog.info? ty).map (·.size) = some (5 * As.length)) (ha : 0 < As.length)
    (wA : writes ops jA pA = true) (wV : writes ops jV pV = true) (FA : F jA = NB w (5 * As.length)) (FV : F jV = EN As) (steps : ∀ i, i < k → StepOk Tryd.prog .any ops Q F a0 w i)
    (fin : ∀ (vs : Nat → Value) (q : Nat) (W : World), vs pA = .pointer (some ⟨q, 0, none⟩) → w.heap.size ≤ q → Below w.heap.size w W → RowN W q 0 As → W.there q 0 (5 * As.length) → Q .normal (puts vs a0 ops.toList) W) :
    (Code.region id ops draw).wp Tryd.prog Q a0 w := by
  refine region_store k o F (by kernel_rfl) hT hk hd steps fun a W hb hw hF => ?_
  have h1 := hF jA pA wA
  have h2 := hF jV pV wV
  rw [FA] at h1
  rw [FV] at h2
  obtain ⟨_, q, eq, th, hq⟩ := h1
  obtain ⟨es, ev, V⟩ := h2
  refine wp_store_mid ty (.tmp pA) (.tmp pV) hop q 0 (clN es).toArray eq ev (by show W.there q 0 (clN es).length; rw [clN_len V]; exact th) (by show _ = some (clN es).length; rw [clN_len V]; exact hs) (clN_one es) ?_
  obtain ⟨vs, hvs⟩ : ∃ vs : Nat → Value, ∀ d, a.tmps.getD d undef = vs d := ⟨_, fun _ => rfl⟩
  rw [hd]
  show Q .normal a _
  rw [puts_of hT rfl hb vs hvs]
  exact fin vs q _ ((hvs pA).symm.trans eq) hq (below_setCells hq _ _ _ hw) (set_rowN th ha V) (World.there_setCells th _ _ _)
end
end Go.Proofs.YthapcapiiknjdaaDoor
