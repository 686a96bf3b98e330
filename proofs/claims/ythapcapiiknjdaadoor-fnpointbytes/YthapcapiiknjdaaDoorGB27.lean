import Derived.Test.YthapcapiiknjdaaDoorGB26
import Derived.Test.YthapcapiiknjdaaDoorGB24
import Derived.Test.YthapcapiiknjdaaDoorGB19

/-
  A point is told by its y and the parity of its x. Numbers alone.
-/
namespace Go.Proofs.YthapcapiiknjdaaDoor
set_option maxRecDepth 100000

/-- The even one of x and -x. -/
theorem root_sq {x A : Int} (x0 : 0 ≤ x) (x1 : x < PP) (hA : A % PP = x * x % PP) : rootB A = true ∧ rootV A = if x % 2 = 0 then x else PP - x := by
  have h0 : 0 ≤ A % PP := Int.emod_nonneg _ (by decide)
  have h1 : A % PP < PP := Int.emod_lt_of_pos _ (by decide)
  have S := same_root h0 h1
  have q := sq_has x0 x1
  rw [← hA] at q
  have hb := S.1.mp q
  have rb : rootB A = true := decide_eq_true hb
  refine ⟨rb, ?_⟩
  unfold rootV
  rw [if_pos rb]
  have bd := r1S_bd (A % PP)
  obtain ⟨f0, f1, f2⟩ := fin2_bd bd.1 bd.2
  have fs : fin2 (r1S (A % PP)) * fin2 (r1S (A % PP)) % PP = x * x % PP := (fin2_sq (r1S (A % PP))).trans (hb.trans hA)
  generalize fin2 (r1S (A % PP)) = r at *
  -- r and x have one square
  have d : PP ∣ (r - x) * (r + x) := by
    have k := dvd_cong fs
    exact dv2 k k (c1 := 1) (c2 := 0) (by grind)
  have hp : PP % 2 = 1 := by decide
  have key : r = x ∨ r = PP - x ∨ (r = 0 ∧ x = 0) := by
    rcases pri_PP.mul d with k | k
    · left
      have := cong_dvd k
      rwa [Int.emod_eq_of_lt f0 f1, Int.emod_eq_of_lt x0 x1] at this
    · obtain ⟨c, hc⟩ := k
      have c0 : 0 ≤ c := by
        rcases Int.lt_or_le c 0 with h | h
        · exfalso
          have : PP * c ≤ PP * (-1) := Int.mul_le_mul_of_nonneg_left (by omega) (by decide)
          generalize PP = p at *
          omega
        · exact h
      have c1 : c < 2 := by
        rcases Int.lt_or_le c 2 with h | h
        · exact h
        · exfalso
          have : PP * 2 ≤ PP * c := Int.mul_le_mul_of_nonneg_left h (by decide)
          generalize PP = p at *
          omega
      rcases (show c = 0 ∨ c = 1 by omega) with e | e
      · subst e
        right; right
        rw [Int.mul_zero] at hc
        omega
      · subst e
        right; left
        rw [Int.mul_one] at hc
        generalize PP = p at *
        omega
  clear d fs hb rb q S hA
  generalize PP = p at *
  rcases key with e | e | ⟨e1, e2⟩
  · rw [if_pos (by omega)]
    exact e
  · by_cases c : x % 2 = 0
    · exfalso; omega
    · rw [if_neg c]
      exact e
  · rw [if_pos (by omega)]
    omega
theorem lift_den (y : Int) : ¬ PP ∣ dE * (y * y) + 1 := fun h => by
  have k := dE_is
  have i2 := i0_sq
  have q : PP ∣ 1 ^ 2 - d0 * (i0 * y) ^ 2 := by
    have nd := nsqd
    clear nd
    generalize d0 = d at *
    generalize i0 = i at *
    generalize dE = D at *
    exact dv3 h k i2 (c1 := 1) (c2 := -(y * y)) (c3 := -(d * y ^ 2)) (by grind)
  have r := (pri_PP.mul (nsqd _ _ q)).resolve_left i0_nz
  have : PP ∣ 1 := by
    generalize dE = D at *
    exact dv2 h r (c1 := 1) (c2 := -(D * y)) (by grind)
  exact pri_PP.one this
/-- x lies above y exactly if its square is what y tells. -/
theorem on_lift {x y : Int} : OnP PP (-1) d0 (x, y) ↔ liftZ y % PP = x * x % PP := by
  have n := lift_den y
  have hi := einv_ok _ n
  have k := dE_is
  have e : liftZ y = (y * y - 1) * einv (dE * (y * y) + 1) := rfl
  rw [e]
  constructor
  · intro h
    have h' : PP ∣ (-1) * x ^ 2 + y ^ 2 - 1 - d0 * x ^ 2 * y ^ 2 := h
    refine cong_dvd ?_
    generalize d0 = d at *
    generalize einv (dE * (y * y) + 1) = f at *
    generalize dE = D at *
    exact dv3 h' hi k (c1 := f) (c2 := x * x) (c3 := -(f * x ^ 2 * y ^ 2)) (by grind)
  · intro h
    have h' := dvd_cong h
    show PP ∣ (-1) * x ^ 2 + y ^ 2 - 1 - d0 * x ^ 2 * y ^ 2
    generalize d0 = d at *
    generalize einv (dE * (y * y) + 1) = f at *
    generalize dE = D at *
    exact dv3 h' hi k (c1 := D * (y * y) + 1) (c2 := -(y * y - 1)) (c3 := x ^ 2 * y ^ 2) (by grind)
/-- What is lifted: a point, or none. -/
theorem lift_back {x y : Int} (x0 : 0 ≤ x) (x1 : x < PP) (h : OnP PP (-1) d0 (x, y)) : rootB (liftZ y) = true ∧ rootV (liftZ y) = if x % 2 = 0 then x else PP - x := root_sq x0 x1 (on_lift.1 h)
theorem rootV_bd (A : Int) : 0 ≤ rootV A ∧ rootV A < PP ∧ rootV A % 2 = 0 := by
  unfold rootV
  split
  · have bd := r1S_bd (A % PP)
    exact fin2_bd bd.1 bd.2
  · exact ⟨by omega, by decide, by decide⟩
theorem lift_on {y : Int} (h : rootB (liftZ y) = true) : OnP PP (-1) d0 (rootV (liftZ y), y) := by
  refine on_lift.2 ?_
  have hb := of_decide_eq_true h
  unfold rootV
  rw [if_pos h, fin2_sq, hb]
theorem on_neg {x y : Int} (h : OnP PP (-1) d0 (x, y)) : OnP PP (-1) d0 ((0 - x) % PP, y) := by
  refine on_lift.2 ((on_lift.1 h).trans ?_)
  rw [← Int.mul_emod]
  congr 1
  grind
/-! ### the base -/
abbrev bX : Int := 15112221349535400772501151409588531511454012693041857206046113283949847762202
abbrev bY : Int := 46316835694926478169428394003475163141307993866256225615783033603165251855960
theorem bY_is : PP ∣ 5 * bY - 4 := by decide +kernel
theorem base_on : OnP PP (-1) d0 (bX, bY) := by
  show PP ∣ (-1) * bX ^ 2 + bY ^ 2 - 1 - d0 * bX ^ 2 * bY ^ 2
  decide +kernel
theorem four_fifths : PP ∣ bY - 4 * iv 5 := by
  have h := bY_is
  have i5 : PP ∣ einv 5 * 5 - 1 := einv_ok 5 (by decide)
  have e : iv 5 = einv 5 := rfl
  rw [e]
  generalize einv 5 = f at *
  generalize bY = y at *
  exact dv2 h i5 (c1 := f) (c2 := -y) (by grind)
/-- What is lifted for the base. -/
theorem base_lift : rootB (liftZ (4 * iv 5)) = true ∧ rootV (liftZ (4 * iv 5)) = bX := by
  have o : OnP PP (-1) d0 (bX, 4 * iv 5) := On.cg base_on ⟨0, by omega⟩ four_fifths
  have k := lift_back (by decide) (by decide) o
  exact ⟨k.1, k.2.trans (if_pos (by decide))⟩
theorem base_mod : 4 * iv 5 % PP = bY := by
  rw [← cong_dvd four_fifths]
  decide
end Go.Proofs.YthapcapiiknjdaaDoor

/-
  The group of the curve in canonical coordinates, as the chapter tells its sums. Numbers alone.
-/
namespace Go.Proofs.YthapcapiiknjdaaDoor
set_option maxRecDepth 100000

def pAdd (p q : Int × Int) : Int × Int := (addX p q % PP, addY p q % PP)
/-- Canonical coordinates. -/
structure Cn (p : Int × Int) : Prop where
  x : 0 ≤ p.1 ∧ p.1 < PP
  y : 0 ≤ p.2 ∧ p.2 < PP
theorem cn_mod (x y : Int) : Cn (x % PP, y % PP) := ⟨⟨Int.emod_nonneg _ (by decide), Int.emod_lt_of_pos _ (by decide)⟩, ⟨Int.emod_nonneg _ (by decide), Int.emod_lt_of_pos _ (by decide)⟩⟩
theorem pe_mod (p : Int × Int) : Pe PP (p.1 % PP, p.2 % PP) p := ⟨dvd_cong (Int.emod_emod_of_dvd _ (Int.dvd_refl _)), dvd_cong (Int.emod_emod_of_dvd _ (Int.dvd_refl _))⟩
theorem iv_cg {a b : Int} (h : PP ∣ a - b) : PP ∣ iv a - einv b := dvd_cong (pow_mod (cong_dvd h) _)
theorem pAdd_pe (p q : Int × Int) : Pe PP (pAdd p q) (eadd (-1) d0 einv p q) := by
  refine (pe_mod (addX p q, addY p q)).trans ?_
  have k := dE_is
  have e1 : PP ∣ (1 + addT p q) - (1 + d0 * p.1 * q.1 * p.2 * q.2) := dv2 k k (c1 := p.1 * q.1 * (p.2 * q.2)) (c2 := 0) (by unfold addT; grind)
  have e2 : PP ∣ (1 - addT p q) - (1 - d0 * p.1 * q.1 * p.2 * q.2) := dv2 k k (c1 := -(p.1 * q.1 * (p.2 * q.2))) (c2 := 0) (by unfold addT; grind)
  have i1 := iv_cg e1
  have i2 := iv_cg e2
  unfold eadd addX addY
  refine ⟨?_, ?_⟩
  · show PP ∣ (p.1 * q.2 + p.2 * q.1) * iv (1 + addT p q) - (p.1 * q.2 + p.2 * q.1) * einv (1 + d0 * p.1 * q.1 * p.2 * q.2)
    generalize iv (1 + addT p q) = f at *
    generalize einv (1 + d0 * p.1 * q.1 * p.2 * q.2) = g at *
    exact dv2 i1 i1 (c1 := p.1 * q.2 + p.2 * q.1) (c2 := 0) (by grind)
  · show PP ∣ (p.2 * q.2 + p.1 * q.1) * iv (1 - addT p q) - (p.2 * q.2 - (-1) * p.1 * q.1) * einv (1 - d0 * p.1 * q.1 * p.2 * q.2)
    generalize iv (1 - addT p q) = f at *
    generalize einv (1 - d0 * p.1 * q.1 * p.2 * q.2) = g at *
    exact dv2 i2 i2 (c1 := p.2 * q.2 + p.1 * q.1) (c2 := 0) (by grind)
theorem pAdd_cn (p q : Int × Int) : Cn (pAdd p q) := cn_mod _ _
theorem on_pe {p q : Int × Int} (h : OnP PP (-1) d0 p) (e : Pe PP p q) : OnP PP (-1) d0 q := On.cg h e.1 e.2
theorem pAdd_on {p q : Int × Int} (hp : OnP PP (-1) d0 p) (hq : OnP PP (-1) d0 q) : OnP PP (-1) d0 (pAdd p q) := on_pe (eadd_on crv1 hp hq) (pAdd_pe p q).symm
theorem base_cn : Cn (bX, bY) := ⟨⟨by decide, by decide⟩, ⟨by decide, by decide⟩⟩
end Go.Proofs.YthapcapiiknjdaaDoor

/-
  Rows of elements, as the program holds its points: as values and in memory.
-/
namespace Go.Proofs.YthapcapiiknjdaaDoor
set_option maxRecDepth 100000
open Go Go.RowKit

def clN : List (Nat → Int) → List Value
  | [] => []
  | e :: es => cl5 e ++ clN es
def agN (es : List (Nat → Int)) : Value := .agg (clN es).toArray
/-- Each of these is five limbs of the number at its place. -/
def IsN : List (Nat → Int) → List Int → Prop
  | [], [] => True
  | e :: es, A :: As => Is5 e A ∧ IsN es As
  | _, _ => False
def EN (As : List Int) : Fact := ⟨fun v _ => ∃ es, v = agN es ∧ IsN es As, fun _ h => h⟩
def RowN (W : World) (q o : Nat) (As : List Int) : Prop := ∃ es, W.rangeAt q o (clN es) ∧ q < W.heap.size ∧ IsN es As
theorem clN_len : ∀ {es : List (Nat → Int)} {As : List Int}, IsN es As → (clN es).length = 5 * As.length
  | [], [], _ => rfl
  | e :: es, A :: As, h => by
    have := clN_len h.2
    simp only [clN, List.length_append, List.length_cons, this]
    simp [cl5]
    omega
  | [], _ :: _, h => h.elim
  | _ :: _, [], h => h.elim
theorem clN_one : ∀ (es : List (Nat → Int)), (clN es).toArray.all (·.oneCell') = true := by
  intro es
  refine all_oneCell_toArray fun v hv => ?_
  induction es with
  | nil => cases hv
  | cons e es ih =>
    rcases List.mem_append.1 hv with h | h
    · exact Array.all_eq_true_iff_forall_mem.1 (cl5_one e) v (by simpa using h)
    · exact ih h
theorem RowN.up {W W' : World} {q o : Nat} {As : List Int} (h : RowN W q o As) (n : Below W.heap.size W W') : RowN W' q o As := by
  obtain ⟨t, r, l, h⟩ := h
  exact ⟨t, fun j v hv => (World.cell?_of_block (a := ⟨q, o + j, none⟩) (n.block q l)).trans (r j v hv), Nat.lt_of_lt_of_le l n.size, h⟩
theorem RowN.but {W W' : World} {g o q : Nat} {As : List Int} (h : RowN W g o As) (k : ButQ q W W') (hne : g ≠ q) : RowN W' g o As := by
  obtain ⟨t, r, l, h⟩ := h
  exact ⟨t, fun j v hv => (World.cell?_of_block (a := ⟨g, o + j, none⟩) (k.1 g hne l)).trans (r j v hv), Nat.lt_of_lt_of_le l k.2, h⟩
theorem RowN.lt {W : World} {q o : Nat} {As : List Int} (h : RowN W q o As) : q < W.heap.size := by
  obtain ⟨_, _, l, _⟩ := h
  exact l
theorem RowN.at0 {W : World} {q o : Nat} {A : Int} {As : List Int} (h : RowN W q o (A :: As)) : Em5 W q o A := by
  obtain ⟨es, r, l, h⟩ := h
  cases es with
  | nil => exact h.elim
  | cons e es =>
    refine ⟨e, fun j v hv => r j v ?_, l, h.1⟩
    show (cl5 e ++ clN es)[j]? = some v
    rw [List.getElem?_append_left (List.getElem?_eq_some_iff.1 hv).1]
    exact hv
theorem RowN.tail {W : World} {q o : Nat} {A : Int} {As : List Int} (h : RowN W q o (A :: As)) : RowN W q (o + 5) As := by
  obtain ⟨es, r, l, h⟩ := h
  cases es with
  | nil => exact h.elim
  | cons e es =>
    refine ⟨es, fun j v hv => ?_, l, h.2⟩
    have q := r (5 + j) v (by
      show (cl5 e ++ clN es)[5 + j]? = some v
      rw [List.getElem?_append_right (by show 5 ≤ _; omega)]
      show (clN es)[5 + j - 5]? = some v
      rw [show 5 + j - 5 = j by omega]
      exact hv)
    rw [show o + 5 + j = o + (5 + j) by omega]
    exact q
theorem rowN_new (W : World) (t : TypeId) {es : List (Nat → Int)} {As : List Int} (h : IsN es As) : RowN (W.alloc (.cells (clN es).toArray t)) W.heap.size 0 As := by
  have e : (W.alloc (.cells (clN es).toArray t)).heap[W.heap.size]? = some (.cells (clN es).toArray t) := heap_alloc_last _ _
  refine ⟨es, fun j v hv => ?_, by simp, h⟩
  unfold World.cell?
  simp only
  rw [e]
  simpa using hv
theorem set_rowN {W : World} {q : Nat} {es : List (Nat → Int)} {As : List Int} (th : W.there q 0 (5 * As.length)) (ha : 0 < As.length) (h : IsN es As) : RowN (W.setCells q 0 (clN es)) q 0 As :=
  ⟨es, World.rangeAt_setCells_same W q 0 _ (by rw [clN_len h]; exact th), by rw [heap_size_setCells]; exact there_lt (by omega) th, h⟩
theorem IsN.cg : ∀ {es : List (Nat → Int)} {As Bs : List Int}, IsN es As → As.map (· % PP) = Bs.map (· % PP) → IsN es Bs
  | [], [], [], _, _ => trivial
  | e :: es, A :: As, B :: Bs, h, k => by
    simp only [List.map_cons, List.cons.injEq] at k
    exact ⟨⟨h.1.1, h.1.2.trans k.1⟩, IsN.cg h.2 k.2⟩
  | [], [], _ :: _, _, k => by simp at k
  | _ :: _, _ :: _, [], _, k => by simp at k
  | [], _ :: _, _, h, _ => h.elim
  | _ :: _, [], _, h, _ => h.elim

theorem buA (e f : Nat → Int) (w : World) : (Instr.build 58 #[(0, ag5 e), (1, ag5 f)]).run Tryd.prog w = .ok (agN [e, f]) w := by kernel_rfl
theorem fxA (q : Nat) (w : World) : (Instr.fieldAt 58 (.pointer (some ⟨q, 0, none⟩)) 0).run Tryd.prog w = .ok (.pointer (some ⟨q, 0, none⟩)) w := by kernel_rfl
theorem fyA (q : Nat) (w : World) : (Instr.fieldAt 58 (.pointer (some ⟨q, 0, none⟩)) 1).run Tryd.prog w = .ok (.pointer (some ⟨q, 5, none⟩)) w := by kernel_rfl
theorem iA : (Tryd.prog.info? 58).map (·.size) = some 10 := by kernel_rfl
theorem uA : ∃ fs, Tryd.prog.underlying 58 = some (.struct fs) := ⟨_, Tryd.underlying58⟩
section
variable {ops : Array Oper} {Q : Exit → Act → World → Prop} {md : Region.Mode} {F : Nat → Fact} {a0 : Act} {w0 : World} {i : Nat} {o : Oper} {ts : Array TypeId}
/-- A row of elements is read, at a known place. -/
theorem step_en (ty : TypeId) (d : TypeDesc) (n : Nat) (hu : Tryd.prog.underlying ty = some d) (hd : d.isRow = true) (hs : (Tryd.prog.info? ty).map (·.size) = some n) (hi : ops[i]? = some o) (p : Nat) (hop : o.op = .load ty (.tmp p)) (hp : apart ops p = true) (q off : Nat) (h0 : a0.tmps.getD p undef = .pointer (some ⟨q, off, none⟩)) (As : List Int) (hn : 5 * As.length = n) (hE : RowN w0 q off As) (hF : F i = EN As) : StepOk Tryd.prog md ops Q F a0 w0 i := by
  refine step_load hi _ _ hop d n hu hd hs fun a w hb hw _ => ?_
  obtain ⟨t, r, _, h⟩ := hE.up hw
  exact ⟨q, off, _, (based_at hb p hp).trans h0, r, (clN_len h).trans hn, by rw [hF]; exact ⟨t, rfl, h⟩⟩
theorem step_bA (hi : ops[i]? = some o) (p q j k : Nat) (A B : Int) (hop : o.op = .build 58 #[(0, .tmp p), (1, .tmp q)])
    (hj : waits md ops i j p = true) (hk : waits md ops i k q = true) (hFj : F j = EM A) (hFk : F k = EM B) (hFi : F i = EN [A, B]) : StepOk Tryd.prog md ops Q F a0 w0 i := by
  refine step_pure hi fun a w _ _ hf => ?_
  have h1 := hf j p hj
  have h2 := hf k q hk
  rw [hFj] at h1
  rw [hFk] at h2
  obtain ⟨x, e1, X⟩ := h1
  obtain ⟨y, e2, Y⟩ := h2
  refine ⟨agN [x, y], ?_, by rw [hFi]; exact ⟨[x, y], rfl, X, Y, trivial⟩⟩
  have g1 : a.eval (.tmp p) = ag5 x := e1
  have g2 : a.eval (.tmp q) = ag5 y := e2
  have g : (#[(0, Operand.tmp p), (1, Operand.tmp q)].map fun (n, x) => (n, a.eval x)) = #[(0, ag5 x), (1, ag5 y)] := by simp [g1, g2]
  simp only [execOp, hop, g]
  rw [Sem.run_bind, buA]
  rfl
end
section
variable {ops : Array Oper} {Q : Exit → Act → World → Prop} {a0 : Act} {w : World} {id : Nat} {draw : Bool}
/-- A region that makes a block and lays a row of elements there. -/
theorem region_newN (ty : TypeId) (k jA jV pA pV : Nat) (o : Oper) (F : Nat → Fact) (As : List Int) (hT : textOk .any ops a0.tmps.size k = true) (hk : ops[k]? = some o) (hd : o.dst = none) (hop : o.op = .store ty (.tmp pA) (.tmp pV)) (hs : (Tryd.prog.info? ty).map (·.size) = some (5 * As.length)) (ha : 0 < As.length)
    (wA : writes ops jA pA = true) (wV : writes ops jV pV = true) (FA : F jA = NB w (5 * As.length)) (FV : F jV = EN As) (steps : ∀ i, i < k → StepOk Tryd.prog .any ops Q F a0 w i)
    (fin : ∀ (vs : Nat → Value) (q : Nat) (W : World), vs pA = .pointer (some ⟨q, 0, none⟩) → w.heap.size ≤ q → Below w.heap.size w W → RowN W q 0 As → W.there q 0 (5 * As.length) → Q .normal (puts vs a0 ops.toList) W) :
    (Code.region id ops draw).wp Tryd.prog Q a0 w := by
  refine region_store k o F (by kernel_rfl) hT hk hd steps fun a W hb hw hF => ?_
  have h1 := hF jA pA wA
  have h2 := hF jV pV wV
  rw [FA] at h1
  rw [FV] at h2
  obtain ⟨_, q, eq, th, hq⟩ := h1
  obtain ⟨es, ev, V⟩ := h2
  refine wp_store_mid ty (.tmp pA) (.tmp pV) hop q 0 (clN es).toArray eq ev (by show W.there q 0 (clN es).length; rw [clN_len V]; exact th) (by show _ = some (clN es).length; rw [clN_len V]; exact hs) (clN_one es) ?_
  obtain ⟨vs, hvs⟩ : ∃ vs : Nat → Value, ∀ d, a.tmps.getD d undef = vs d := ⟨_, fun _ => rfl⟩
  rw [hd]
  show Q .normal a _
  rw [puts_of hT rfl hb vs hvs]
  exact fin vs q _ ((hvs pA).symm.trans eq) hq (below_setCells hq _ _ _ hw) (set_rowN th ha V) (World.there_setCells th _ _ _)
end
end Go.Proofs.YthapcapiiknjdaaDoor
