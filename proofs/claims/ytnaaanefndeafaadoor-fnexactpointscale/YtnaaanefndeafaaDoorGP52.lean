import Derived.Test.YtnaaanefndeafaaDoorGP51
import Derived.Test.YtnaaanefndeafaaDoorDr
import Derived.Test.YtnaaanefndeafaaDoorGP49
import Derived.Deep.QuietTactic
import Derived.BigQuiet
import Derived.Test.YtnaaanefndeafaaDoorBase
import Derived.Laws.AppendOwnNone
import Derived.Lib.AppendZeros
import Derived.Deep.MidRow
import Derived.Test.YtnaaanefndeafaaDoorGP47
import Derived.Deep.RegionHeld3

/-
  The model's PointBase.
-/
namespace Go.Proofs.YtnaaanefndeafaaDoor
set_option maxRecDepth 100000
open Go Go.RowKit

set_option maxHeartbeats 2000000 in
theorem specBase_any (w : World) : Calls Tryd.prog 34 #[] w fun r w' => NewPt w.heap.size w' r (liX (4 * iv 5) false) (liY (4 * iv 5) false) ∧ Below w.heap.size w w' := by
  have TZ : Two (w.alloc pObj) w.heap.size (.slice none 0 0) (.slice none 0 0) := Two.new w (.slice none 0 0) (.slice none 0 0) 26
  have N : Below w.heap.size w (w.alloc pObj) := (Below.refl _ _).alloc (Nat.le_refl _) _
  go_enter Tryd.func34, Tryd.ntmps34
  go_upto_region 1 with fail
  change Code.wp _ _ _ _ (w.alloc pObj)
  generalize w.alloc pObj = wr at *
  go_wp2_with fail
  refine (l2SmallB_any wr 4 (by omega)).mono ?_
  rintro r w1 ⟨t4, rfl, L4, V4, n⟩
  replace TZ := TZ.up n
  replace N := nxt N n
  clear n
  go_wp2_with fail
  refine (l2SmallB_any w1 5 (by omega)).mono ?_
  rintro r w2 ⟨t5, rfl, L5, V5, n⟩
  replace TZ := TZ.up n
  replace N := nxt N n
  clear n
  go_wp2_with fail
  refine (l2Inv_any w2 t5 L5).mono ?_
  rintro r w3 ⟨t6, rfl, L6, V6, n⟩
  replace TZ := TZ.up n
  replace N := nxt N n
  clear n
  go_wp2_with fail
  refine (l2Mul_any w3 t4 t6 L4 L6).mono ?_
  rintro r w4 ⟨t7, rfl, L7, V7, n⟩
  replace TZ := TZ.up n
  replace N := nxt N n
  clear n
  have V : s16 t7 16 % PP = 4 * iv 5 % PP := by
    rw [V7]
    exact mod_mul V4 (V6.trans (pow_mod V5 _))
  have z4 := TZ.lt
  have LF := hide (l5Lift_any w4 t7 (4 * iv 5) ⟨L7, V⟩ false)
  clear V4 V5 V6 V7 V L4 L5 L6 L7
  obtain ⟨X, hX⟩ : ∃ X, X = liX (4 * iv 5) false := ⟨_, rfl⟩
  obtain ⟨Y, hY⟩ : ∃ Y, Y = liY (4 * iv 5) false := ⟨_, rfl⟩
  rw [← hX, ← hY] at LF
  have KX := hide hX
  have KY := hide hY
  clear hX hY
  generalize liB (4 * iv 5) false = bb at *
  go_wp2_with fail
  refine LF.out.mono ?_
  rintro r w5 ⟨⟨a1, a2, c1, c2, g1, g2, rfl, o1, o2, l1, l2⟩, n⟩
  replace TZ := TZ.up n
  have z := N.size
  have zz := TZ.lt
  replace N := nxt N n
  clear n LF
  have TN := Two.new w5 (.slice a1 X.length c1) (.slice a2 Y.length c2) 26
  have m : Below w5.heap.size w5 (w5.alloc (.cells #[.slice a1 X.length c1, .slice a2 Y.length c2] 26)) := (Below.refl _ _).alloc (Nat.le_refl _) _
  go_upto_region 2 with fail
  generalize w5.alloc (.cells #[.slice a1 X.length c1, .slice a2 Y.length c2] 26) = w6 at *
  obtain ⟨p0, p1, _, _⟩ := TN
  obtain ⟨y0, y1, f0, f1⟩ := TZ.up m
  replace N := nxt N m
  replace o1 := o1.up m
  replace o2 := o2.up m
  have O := (Only.setCell w6 w.heap.size 0 (.slice a1 X.length c1)).trans (Only.setCell _ w.heap.size 1 (.slice a2 Y.length c2))
  have o1' := o1.only O (fun _ => by omega)
  have o2' := o2.only O (fun _ => by omega)
  have N' := N.trans (O.below (Nat.le_refl _))
  clear TZ m o1 o2 O N
  go_wp2
  refine bodyPost_ret (v := .agg #[.slice a1 X.length c1, .slice a2 Y.length c2]) (by simp [results, Tryd.results34, go_sem, y0, y1]) rfl ⟨?_, N'⟩
  rw [← KX.out, ← KY.out]
  exact ⟨a1, a2, c1, c2, g1, g2, rfl, o1', o2', by omega, by omega⟩
end Go.Proofs.YtnaaanefndeafaaDoor

/-
  The model's PointDecode.
-/
namespace Go.Proofs.YtnaaanefndeafaaDoor
set_option maxRecDepth 100000
open Go Go.RowKit

def low7s (xs : List Int) : List Int := xs.set 31 (xs.getD 31 0 % 128)
def dcB (xs : List Int) : Bool := decide (xs.length = 32) && (canN (low7s xs) && liB (num (low7s xs)) (decide (128 ≤ xs.getD 31 0)))
def dcX (xs : List Int) : List Int := if dcB xs = true then liX (num (low7s xs)) (decide (128 ≤ xs.getD 31 0)) else []
def dcY (xs : List Int) : List Int := if dcB xs = true then liY (num (low7s xs)) (decide (128 ≤ xs.getD 31 0)) else []
def NewPR (B : Nat) (w' : World) (e : Ending) (b : Bool) (xs ys : List Int) : Prop :=
  ∃ (a a' : Option Addr) (c c' g g' : Nat), e = .returned (.agg #[.bool b, .slice a xs.length c, .slice a' ys.length c']) ∧ Own w' g a .u8 xs ∧ Own w' g' a' .u8 ys ∧ B ≤ g ∧ B ≤ g'
theorem newPR_nil {B : Nat} {w : World} : NewPR B w (.returned (.agg #[.bool false, .slice none 0 0, .slice none 0 0])) false [] [] := ⟨none, none, 0, 0, B, B, rfl, Own.nil _ _ _ _, Own.nil _ _ _ _, Nat.le_refl _, Nat.le_refl _⟩
theorem li_nil {A : Int} {odd : Bool} (h : liB A odd = false) : liX A odd = [] ∧ liY A odd = [] := by
  unfold liX liY
  rw [if_neg (by rw [h]; simp), if_neg (by rw [h]; simp)]
  exact ⟨rfl, rfl⟩
/-- What was lifted, as it is answered. -/
def LiF (w0 : World) (A : Int) (odd : Bool) : Fact := ⟨fun v w => ∃ (a a' : Option Addr) (c c' g g' : Nat), v = .tuple #[.bool (liB A odd), .agg #[.slice a (liX A odd).length c, .slice a' (liY A odd).length c']] ∧ Own w g a .u8 (liX A odd) ∧ Own w g' a' .u8 (liY A odd) ∧ w0.heap.size ≤ g ∧ w0.heap.size ≤ g', fun n h => by
  obtain ⟨a, a', c, c', g, g', e, o, o', q⟩ := h
  exact ⟨a, a', c, c', g, g', e, o.up n, o'.up n, q⟩⟩
/-- A point's block made in the region, still empty. -/
def NBp (w0 : World) : Fact := ⟨fun v w => ∃ q, v = .pointer (some ⟨q, 0, none⟩) ∧ w.heap[q]? = some pObj ∧ w0.heap.size ≤ q, fun {v w w'} n h => by
  obtain ⟨q, e, h, l⟩ := h
  exact ⟨q, e, (n.block q (Array.getElem?_eq_some_iff.1 h).1).trans h, l⟩⟩
theorem pObj_there {W : World} {q : Nat} (h : W.heap[q]? = some pObj) : W.there q 0 2 := fun j hj => by
  constructor
  · unfold World.cell?
    simp only
    rw [h]
    obtain rfl | rfl : j = 0 ∨ j = 1 := by omega
    all_goals rfl
  · unfold World.frozen?
    simp only
    rw [h]
    simp
theorem own_ne {W : World} {q g : Nat} {a : Option Addr} {xs : List Int} (h : W.heap[q]? = some pObj) (o : Own W g a .u8 xs) (h0 : 0 < xs.length) : g ≠ q := fun e => by
  obtain ⟨off, _, hc⟩ := o h0
  have c := (hc 0 h0).1
  subst e
  unfold World.cell? at c
  simp only at c
  rw [h] at c
  rcases (show off = 0 ∨ off = 1 ∨ 2 ≤ off by omega) with r | r | r
  · subst r
    simp at c
  · subst r
    simp at c
  · have : ([Value.slice none 0 0, .slice none 0 0].toArray)[off + 0]? = none := by simp; omega
    simp only [this] at c
    simp at c
theorem en_lift : enters Tryd.prog 51 = true := by kernel_rfl
section
variable {ops : Array Oper} {Q : Exit → Act → World → Prop} {md : Region.Mode} {F : Nat → Fact} {a0 : Act} {w0 : World} {i : Nat} {o : Oper} {ts : Array TypeId}
theorem step_mvp {P : Program} (hi : ops[i]? = some o) (p : Nat) (hop : o.op = .move (.tmp p)) (hp : apart ops p = true) {v : Value} (h0 : a0.tmps.getD p undef = v) (hF : F i = Fact.eq v) : StepOk P md ops Q F a0 w0 i := by
  refine step_pure hi fun b w hb hw _ => ⟨v, ?_, by rw [hF]; exact rfl⟩
  have e := (based_at hb p hp).trans h0
  simp [execOp, hop, e]
theorem step_of32 (hi : ops[i]? = some o) (p j : Nat) {a : Option Addr} {c : Nat} {xs : List Int} (hop : o.op = .call { callee := .value (.func 52), args := #[.tmp p], argTypes := ts })
    (hj : waits md ops i j p = true) (hO : OfOk w0 a xs) (hFj : F j = Fact.eq (.slice a 32 c)) (hFi : F i = EL (num xs)) : StepOk Tryd.prog md ops Q F a0 w0 i := by
  have hl : xs.length = 32 := by obtain ⟨_, _, _, h⟩ := hO; exact h
  exact step_of hi p j hop hj hO (hFj.trans (by rw [hl])) hFi
theorem step_at31 (hi : ops[i]? = some o) (p j : Nat) {g off c : Nat} (hop : o.op = .indexAddr 22 (.tmp p) (.const (.int .i64 31))) (hj : waits md ops i j p = true) (hFj : F j = Fact.eq (.slice (some ⟨g, off, none⟩) 32 c)) (hF : F i = Fact.eq (.pointer (some ⟨g, off + 31, none⟩))) : StepOk Tryd.prog md ops Q F a0 w0 i := by
  refine step_pure hi fun a w hb hw hf => ⟨.pointer (some ⟨g, off + 31, none⟩), ?_, by rw [hF]; exact rfl⟩
  have e := hf j p hj
  rw [hFj] at e
  have e' : a.eval (.tmp p) = .slice (some ⟨g, off, none⟩) 32 c := e
  have e2 : a.eval (.const (.int .i64 31)) = .int .i64 31 := rfl
  simp only [execOp, hop, e', e2]
  go_simp
theorem step_ld8 (hi : ops[i]? = some o) (p j : Nat) {q off : Nat} {v : Value} (hop : o.op = .load 5 (.tmp p)) (hj : waits md ops i j p = true) (hFj : F j = Fact.eq (.pointer (some ⟨q, off, none⟩))) (hc : w0.cell? ⟨q, off, none⟩ = some v) (hF : F i = Fact.eq v) : StepOk Tryd.prog md ops Q F a0 w0 i := by
  refine step_pure hi fun a w _ hw hf => ⟨v, ?_, by rw [hF]; exact rfl⟩
  have e := hf j p hj
  rw [hFj] at e
  have e' : a.eval (.tmp p) = .pointer (some ⟨q, off, none⟩) := e
  have c' : w.cell? ⟨q, off, none⟩ = some v := (hw.cell (block_lt_of_cell hc)).trans hc
  simp only [execOp, hop, e']
  go_simp
theorem step_geq (hi : ops[i]? = some o) (p j : Nat) {v : Int} {b : Bool} (hop : o.op = .binOp .geq 5 (.tmp p) (.const (.int .u8 128)) 5) (hj : waits md ops i j p = true) (hFj : F j = Fact.eq (.int .u8 v)) (hb : b = decide (128 ≤ v)) (hF : F i = Fact.eq (.bool b)) : StepOk Tryd.prog md ops Q F a0 w0 i := by
  refine step_pure hi fun a w _ hw hf => ⟨.bool b, ?_, by rw [hF]; exact rfl⟩
  have e := hf j p hj
  rw [hFj] at e
  have e' : a.eval (.tmp p) = .int .u8 v := e
  have e2 : a.eval (.const (.int .u8 128)) = .int .u8 128 := rfl
  subst hb
  simp only [execOp, hop, e', e2]
  go_simp
theorem step_lift (hi : ops[i]? = some o) (p q j k : Nat) {A : Int} {odd : Bool} (hop : o.op = .call { callee := .value (.func 51), args := #[.tmp p, .tmp q], argTypes := ts })
    (hj : waits md ops i j p = true) (hk : waits md ops i k q = true) (hFj : F j = EL A) (hFk : F k = Fact.eq (.bool odd)) (hFi : F i = LiF w0 A odd) : StepOk Tryd.prog md ops Q F a0 w0 i := by
  refine step_call hi _ _ ts hop en_lift fun a w _ hw hF => ?_
  have ea := hF j p hj
  have eb := hF k q hk
  rw [hFj] at ea
  rw [hFk] at eb
  obtain ⟨t, e1, L1, V1⟩ := ea
  have e2 : a.tmps.getD q undef = .bool odd := eb
  show Calls Tryd.prog 51 #[a.tmps.getD p undef, a.tmps.getD q undef] w _
  rw [e1, e2]
  refine (l5Lift_any w t A ⟨L1, V1⟩ odd).mono ?_
  rintro r w' ⟨⟨b, b', c, c', g, g', rfl, o1, o2, l1, l2⟩, hn⟩
  rw [hFi]
  exact ⟨_, rfl, hn, b, b', c, c', g, g', rfl, o1, o2, Nat.le_trans hw.size l1, Nat.le_trans hw.size l2⟩
theorem step_exL0 {P : Program} (hi : ops[i]? = some o) (p j : Nat) {A : Int} {odd : Bool} (hop : o.op = .extract (.tmp p) 0) (hj : waits md ops i j p = true) (hFj : F j = LiF w0 A odd) (hFi : F i = Fact.eq (.bool (liB A odd))) : StepOk P md ops Q F a0 w0 i := by
  refine step_pure hi fun a w _ _ hf => ⟨.bool (liB A odd), ?_, by rw [hFi]; exact rfl⟩
  have e := hf j p hj
  rw [hFj] at e
  obtain ⟨b, b', c, c', g, g', e, _⟩ := e
  have e' : a.eval (.tmp p) = .tuple #[.bool (liB A odd), .agg #[.slice b (liX A odd).length c, .slice b' (liY A odd).length c']] := e
  simp only [execOp, hop, e']
  rfl
theorem step_exL1 {P : Program} (hi : ops[i]? = some o) (p j : Nat) {A : Int} {odd : Bool} (hop : o.op = .extract (.tmp p) 1) (hj : waits md ops i j p = true) (hFj : F j = LiF w0 A odd) (hFi : F i = PT w0 (fun xs zs => xs = liX A odd ∧ zs = liY A odd)) : StepOk P md ops Q F a0 w0 i := by
  refine step_pure hi fun a w _ _ hf => ?_
  have e := hf j p hj
  rw [hFj] at e
  obtain ⟨b, b', c, c', g, g', e, o1, o2, l1, l2⟩ := e
  have e' : a.eval (.tmp p) = .tuple #[.bool (liB A odd), .agg #[.slice b (liX A odd).length c, .slice b' (liY A odd).length c']] := e
  refine ⟨.agg #[.slice b (liX A odd).length c, .slice b' (liY A odd).length c'], ?_, by rw [hFi]; exact ⟨_, _, b, b', c, c', g, g', rfl, o1, o2, l1, l2, rfl, rfl⟩⟩
  simp only [execOp, hop, e']
  rfl
theorem step_newP (hi : ops[i]? = some o) (hop : o.op = .alloc 26) (hF : F i = NBp w0) : StepOk Tryd.prog md ops Q F a0 w0 i := by
  refine step_grow hi fun a w _ hw _ => ⟨.pointer (some ⟨w.heap.size, 0, none⟩), w.alloc pObj, ?_, (Below.refl _ _).alloc (Nat.le_refl _) _, ?_⟩
  · simp only [execOp, hop]
    kernel_rfl
  · rw [hF]
    exact ⟨_, rfl, heap_alloc_last _ _, hw.size⟩
end
section
variable {ops : Array Oper} {Q : Exit → Act → World → Prop} {a0 : Act} {w : World} {id : Nat} {draw : Bool}
/-- A region that makes a point's block and lays one there. -/
theorem region_newPF (k jA jV pA pV : Nat) (o : Oper) (F : Nat → Fact) (p : List Int → List Int → Prop) (hT : textOk .any ops a0.tmps.size k = true) (hk : ops[k]? = some o) (hd : o.dst = none) (hop : o.op = .store 26 (.tmp pA) (.tmp pV))
    (wA : writes ops jA pA = true) (wV : writes ops jV pV = true) (FA : F jA = NBp w) (FV : F jV = PT w p) (steps : ∀ i, i < k → StepOk Tryd.prog .any ops Q F a0 w i)
    (fin : ∀ (vs : Nat → Value) (q : Nat) (W : World) (xs ys : List Int) (a a' : Option Addr) (c c' g g' : Nat), vs pA = .pointer (some ⟨q, 0, none⟩) → w.heap.size ≤ q → Below w.heap.size w W → W.rangeAt q 0 [.slice a xs.length c, .slice a' ys.length c'] → W.there q 0 2 → Own W g a .u8 xs → Own W g' a' .u8 ys → w.heap.size ≤ g → w.heap.size ≤ g' → p xs ys → (∀ i d, writes ops i d = true → ∃ Wp, (F i).p (vs d) Wp) → Q .normal (puts vs a0 ops.toList) W) :
    (Code.region id ops draw).wp Tryd.prog Q a0 w := by
  refine region_store k o F (by kernel_rfl) hT hk hd steps fun a W hb hw hF => ?_
  have h1 := hF jA pA wA
  have h2 := hF jV pV wV
  rw [FA] at h1
  rw [FV] at h2
  obtain ⟨q, eq, hq, lq⟩ := h1
  obtain ⟨xs, ys, b, b', c, c', g, g', ev, o1, o2, l1, l2, hpp⟩ := h2
  have th := pObj_there hq
  refine wp_store_mid 26 (.tmp pA) (.tmp pV) hop q 0 #[.slice b xs.length c, .slice b' ys.length c'] eq ev th iP (by simp [Value.oneCell']) ?_
  obtain ⟨vs, hvs⟩ : ∃ vs : Nat → Value, ∀ d, a.tmps.getD d undef = vs d := ⟨_, fun _ => rfl⟩
  rw [hd]
  show Q .normal a _
  rw [puts_of hT rfl hb vs hvs]
  refine fin vs q _ xs ys b b' c c' g g' ((hvs pA).symm.trans eq) lq (below_setCells lq _ _ _ hw) (World.rangeAt_setCells_same W q 0 _ th) (World.there_setCells th _ _ _) ?_ ?_ l1 l2 hpp (fun i d h => ⟨W, by rw [← hvs]; exact hF i d h⟩)
  · exact fun h0 => o1.of_block (setCells_other (own_ne hq o1 h0) _ 0 W) h0
  · exact fun h0 => o2.of_block (setCells_other (own_ne hq o2 h0) _ 0 W) h0
end
/-- Three cells that may be written. -/
structure Tri (w : World) (p : Nat) (x y z : Value) : Prop where
  c0 : w.cell? ⟨p, 0, none⟩ = some x
  c1 : w.cell? ⟨p, 1, none⟩ = some y
  c2 : w.cell? ⟨p, 2, none⟩ = some z
  f0 : w.frozen? ⟨p, 0, none⟩ = false
  f1 : w.frozen? ⟨p, 1, none⟩ = false
  f2 : w.frozen? ⟨p, 2, none⟩ = false
theorem Tri.lt {w : World} {p : Nat} {x y z : Value} (h : Tri w p x y z) : p < w.heap.size := block_lt_of_cell h.c0
theorem Tri.up {w w' : World} {p : Nat} {x y z : Value} (h : Tri w p x y z) (n : Below w.heap.size w w') : Tri w' p x y z := by
  have hb := n.block p h.lt
  exact ⟨(World.cell?_of_block (a := ⟨p, 0, none⟩) hb).trans h.c0, (World.cell?_of_block (a := ⟨p, 1, none⟩) hb).trans h.c1, (World.cell?_of_block (a := ⟨p, 2, none⟩) hb).trans h.c2, (World.frozen?_of_block (a := ⟨p, 0, none⟩) hb).trans h.f0, (World.frozen?_of_block (a := ⟨p, 1, none⟩) hb).trans h.f1, (World.frozen?_of_block (a := ⟨p, 2, none⟩) hb).trans h.f2⟩
theorem Tri.new (w : World) (x y z : Value) (t : TypeId) : Tri (w.alloc (.cells #[x, y, z] t)) w.heap.size x y z := by
  have e : (w.alloc (.cells #[x, y, z] t)).heap[w.heap.size]? = some (.cells #[x, y, z] t) := heap_alloc_last _ _
  refine ⟨?_, ?_, ?_, ?_, ?_, ?_⟩
  all_goals first
    | (unfold World.cell?; simp only; rw [e]; rfl)
    | (unfold World.frozen?; simp only; rw [e]; simp)
theorem low7s_len (xs : List Int) : (low7s xs).length = xs.length := by unfold low7s; simp
theorem low7s_byt {xs : List Int} (h : Byt xs) : Byt (low7s xs) := by
  intro j
  unfold low7s
  by_cases e : 31 = j
  · subst e
    by_cases c : 31 < xs.length
    · rw [getD_set_self _ _ _ c]
      have := h 31
      show 0 ≤ xs.getD 31 0 % 128 ∧ xs.getD 31 0 % 128 < 256
      omega
    · rw [List.set_eq_of_length_le (by omega)]
      exact h 31
  · rw [getD_set_ne _ _ _ _ e]
    exact h j
abbrev prObj : Obj := .cells #[.bool false, .slice none 0 0, .slice none 0 0] 37

set_option maxHeartbeats 2000000 in
theorem specDecode_any (w : World) (g : Nat) (a : Option Addr) (c : Nat) (xs : List Int) (hr : Rd w g a .u8 xs) (hb : Byt xs) (hc : a = none → c = 0) :
    Calls Tryd.prog 21 #[.slice a xs.length c] w fun r w' => NewPR w.heap.size w' r (dcB xs) (dcX xs) (dcY xs) ∧ Below w.heap.size w w' := by
  have TZ := Tri.new w (.bool false) (.slice none 0 0) (.slice none 0 0) 37
  have N : Below w.heap.size w (w.alloc prObj) := (Below.refl _ _).alloc (Nat.le_refl _) _
  by_cases hl : xs.length = 32
  · have CP := hide (fun W n => l1Copy_any W g a c xs (hr.up n) hc (by omega))
    have LH := hide hl
    have b31' := hb 31
    have DB : Hid (dcB xs = (canN (low7s xs) && liB (num (low7s xs)) (decide (128 ≤ xs.getD 31 0)))) := by show _ = _; unfold dcB; rw [decide_eq_true hl]; rfl
    have DX : Hid (dcX xs = if dcB xs = true then liX (num (low7s xs)) (decide (128 ≤ xs.getD 31 0)) else []) := by show _ = _; rfl
    have DY : Hid (dcY xs = if dcB xs = true then liY (num (low7s xs)) (decide (128 ≤ xs.getD 31 0)) else []) := by show _ = _; rfl
    obtain ⟨o0, rfl, rc⟩ := id hr (by omega)
    have CB0 := hide (rc 31 (by omega))
    have hg := hr.lt (by omega)
    rw [hl] at CP ⊢
    clear hl rc
    go_enter Tryd.func21, Tryd.ntmps21
    go_upto_region 3 with fail
    change Code.wp _ _ _ _ (w.alloc prObj)
    generalize w.alloc prObj = wr at *
    go_wp2_with fail
    refine (CP.out wr N).mono ?_
    rintro r w1 ⟨⟨a1, c1, g1, rfl, o1, p1, q1, r1⟩, n1⟩
    have z1 := TZ.lt
    replace TZ := TZ.up n1
    replace N := nxt N n1
    clear CP n1 p1
    rw [LH.out] at q1 ⊢
    obtain ⟨off, rfl, oc⟩ := id o1 (by rw [LH.out]; decide)
    have x31 := (oc 31 (by rw [LH.out]; decide)).1
    have f31 := (oc 31 (by rw [LH.out]; decide)).2
    have S1 := o1.store 31 (by rw [LH.out]; decide) (xs.getD 31 0 % 128)
    have N2 : Below w.heap.size w (w1.setCell ⟨g1, off + 31, none⟩ (.int .u8 (xs.getD 31 0 % 128))) := N.setCell (by show w.heap.size ≤ g1; omega) _
    have TZ2 : Tri (w1.setCell ⟨g1, off + 31, none⟩ (.int .u8 (xs.getD 31 0 % 128))) w.heap.size (.bool false) (.slice none 0 0) (.slice none 0 0) := by
      have hbk := heap_setCell_other w1 ⟨g1, off + 31, none⟩ w.heap.size (.int .u8 (xs.getD 31 0 % 128)) (by show w.heap.size ≠ g1; omega)
      exact ⟨(World.cell?_of_block (a := ⟨w.heap.size, 0, none⟩) hbk).trans TZ.c0, (World.cell?_of_block (a := ⟨w.heap.size, 1, none⟩) hbk).trans TZ.c1, (World.cell?_of_block (a := ⟨w.heap.size, 2, none⟩) hbk).trans TZ.c2, (World.frozen?_of_block (a := ⟨w.heap.size, 0, none⟩) hbk).trans TZ.f0, (World.frozen?_of_block (a := ⟨w.heap.size, 1, none⟩) hbk).trans TZ.f1, (World.frozen?_of_block (a := ⟨w.heap.size, 2, none⟩) hbk).trans TZ.f2⟩
    have YB := hide (low7s_byt hb)
    have YL := hide ((low7s_len xs).trans LH.out)
    have SO : Hid (Own (w1.setCell ⟨g1, off + 31, none⟩ (.int .u8 (xs.getD 31 0 % 128))) g1 (some ⟨g1, off, none⟩) .u8 (low7s xs)) := S1
    have CB : Hid ((w1.setCell ⟨g1, off + 31, none⟩ (.int .u8 (xs.getD 31 0 % 128))).cell? ⟨g, o0 + 31, none⟩ = some (.int .u8 (xs.getD 31 0))) := (N2.cell hg).trans CB0.out
    clear S1 o1 oc TZ N CB0 LH hb hr
    obtain ⟨ys, hys⟩ : ∃ ys, ys = low7s xs := ⟨_, rfl⟩
    rw [← hys] at YB YL SO DB DX DY
    clear hys
    obtain ⟨b31, h31⟩ : ∃ b, b = xs.getD 31 0 := ⟨_, rfl⟩
    rw [← h31] at x31 N2 TZ2 SO CB DB DX DY b31'
    clear h31
    obtain ⟨odd, hodd⟩ : ∃ o, o = decide (128 ≤ b31) := ⟨_, rfl⟩
    rw [← hodd] at DB DX DY
    have HO := hide hodd
    clear hodd
    have FC := hide (fun W (h : Rd W g1 (some ⟨g1, off, none⟩) .u8 ys) => specFieldCanonical_any W g1 (some ⟨g1, off, none⟩) c1 ys h YB.out)
    rw [YL.out] at FC
    cases hcn : canN ys with
    | false =>
      have KB : Hid (dcB xs = false) := by show _ = _; rw [DB.out, hcn]; rfl
      have KX : Hid (dcX xs = []) := by show _ = _; rw [DX.out, if_neg (by rw [KB.out]; simp)]
      have KY : Hid (dcY xs = []) := by show _ = _; rw [DY.out, if_neg (by rw [KB.out]; simp)]
      rw [hcn] at FC
      clear hcn DB DX DY CB
      go_wp2_with fail
      generalize w1.setCell ⟨g1, off + 31, none⟩ (.int .u8 (b31 % 128)) = w3 at *
      refine (FC.out w3 SO.out.rd).mono ?_
      rintro r w4 ⟨rfl, n⟩
      obtain ⟨y0, y1, y2, u0, u1, u2⟩ := TZ2.up n
      have N4 := nxt N2 n
      clear FC SO n TZ2 N2 x31 f31
      go_wp2
      refine bodyPost_ret (v := .agg #[.bool false, .slice none 0 0, .slice none 0 0]) (by simp [results, Tryd.results21, go_sem, y0, y1, y2]) rfl ⟨by rw [KB.out, KX.out, KY.out]; exact newPR_nil, ?_⟩
      exact ((N4.setCell (Nat.le_refl _) _).setCell (Nat.le_refl _) _).setCell (Nat.le_refl _) _
    | true =>
      rw [hcn] at DB FC
      clear hcn
      go_wp2_with fail
      generalize w1.setCell ⟨g1, off + 31, none⟩ (.int .u8 (b31 % 128)) = w3 at *
      refine (FC.out w3 SO.out.rd).mono ?_
      rintro r w4 ⟨rfl, n⟩
      have OY := hide (of_ok (SO.out.rd.up n) YB.out YL.out)
      replace CB := hide ((n.cell (block_lt_of_cell CB.out)).trans CB.out)
      replace TZ2 := TZ2.up n
      have N4 := nxt N2 n
      clear FC SO n N2 x31 f31
      go_upto_region 7 with fail
      refine region_newPF 12 10 9 5 31 _ (fun i => [Fact.eq (.slice (some ⟨g1, off, none⟩) 32 c1), EL (num ys), Fact.eq (.slice (some ⟨g, o0, none⟩) 32 c), Fact.eq (.pointer (some ⟨g, o0 + 31, none⟩)), Fact.eq (.int .u8 b31), Fact.eq (.bool odd), LiF w4 (num ys) odd, LiF w4 (num ys) odd, Fact.eq (.bool (liB (num ys) odd)), PT w4 (fun xs zs => xs = liX (num ys) odd ∧ zs = liY (num ys) odd), NBp w4, Fact.eq (.bool (liB (num ys) odd))].getD i Fact.no) (fun xs zs => xs = liX (num ys) odd ∧ zs = liY (num ys) odd) (by kernel_rfl) rfl rfl rfl (by kernel_rfl) (by kernel_rfl) rfl rfl ?_ ?_
      · intro i hi
        obtain rfl | rfl | rfl | rfl | rfl | rfl | rfl | rfl | rfl | rfl | rfl | rfl : i = 0 ∨ i = 1 ∨ i = 2 ∨ i = 3 ∨ i = 4 ∨ i = 5 ∨ i = 6 ∨ i = 7 ∨ i = 8 ∨ i = 9 ∨ i = 10 ∨ i = 11 := by omega
        · exact step_mvp rfl 3 rfl (by kernel_rfl) rfl rfl
        · exact step_of32 rfl 23 0 rfl (by kernel_rfl) OY.out rfl rfl
        · exact step_mvp rfl 0 rfl (by kernel_rfl) rfl rfl
        · exact step_at31 rfl 25 2 rfl (by kernel_rfl) rfl rfl
        · exact step_ld8 rfl 26 3 rfl (by kernel_rfl) rfl CB.out rfl
        · exact step_geq rfl 27 4 rfl (by kernel_rfl) rfl HO.out rfl
        · exact step_lift rfl 24 28 1 5 rfl (by kernel_rfl) (by kernel_rfl) rfl rfl rfl
        · exact step_move rfl 29 6 (by exact Or.inl rfl) (by kernel_rfl) rfl
        · exact step_exL0 rfl 22 7 rfl (by kernel_rfl) rfl rfl
        · exact step_exL1 rfl 22 7 rfl (by kernel_rfl) rfl rfl
        · exact step_newP rfl rfl rfl
        · exact step_move rfl 30 8 (by exact Or.inr rfl) (by kernel_rfl) rfl
      rintro vt q5 W7 ps qs b1 b2 d1 d2 h1 h2 v5 l5 n rg th o1 o2 l1 l2 ⟨rfl, rfl⟩ hF
      obtain ⟨_, v4⟩ := hF 11 4 (by kernel_rfl)
      clear hF
      change vt 4 = .bool (liB (num ys) odd) at v4
      have z4 := TZ2.lt
      replace TZ2 := TZ2.up n
      have z0 := N4.size
      replace N4 := nxt N4 n
      clear n OY CB th
      simp only [puts, v5, v4, Act.put, List.setIfInBounds_toArray, List.set_cons_succ, List.set_cons_zero]
      clear v4 v5
      have k0 := rg 0 _ rfl
      have k1 := rg 1 _ rfl
      simp only [Nat.zero_add] at k0 k1
      clear rg
      obtain ⟨y0, y1, y2, u0, u1, u2⟩ := TZ2
      cases hli : liB (num ys) odd with
      | false =>
        have KB : Hid (dcB xs = false) := by show _ = _; rw [DB.out, hli]; rfl
        have KX : Hid (dcX xs = []) := by show _ = _; rw [DX.out, if_neg (by rw [KB.out]; simp)]
        have KY : Hid (dcY xs = []) := by show _ = _; rw [DY.out, if_neg (by rw [KB.out]; simp)]
        clear DB DX DY o1 o2 hli
        go_wp2
        refine bodyPost_ret (v := .agg #[.bool false, .slice none 0 0, .slice none 0 0]) (by simp [results, Tryd.results21, go_sem, y0, y1, y2]) rfl ⟨by rw [KB.out, KX.out, KY.out]; exact newPR_nil, ?_⟩
        exact ((N4.setCell (Nat.le_refl _) _).setCell (Nat.le_refl _) _).setCell (Nat.le_refl _) _
      | true =>
        have KB : Hid (dcB xs = true) := by show _ = _; rw [DB.out, hli]; rfl
        have KX : Hid (dcX xs = liX (num ys) odd) := by show _ = _; rw [DX.out, if_pos KB.out]
        have KY : Hid (dcY xs = liY (num ys) odd) := by show _ = _; rw [DY.out, if_pos KB.out]
        clear DB DX DY hli
        generalize liX (num ys) odd = X at *
        generalize liY (num ys) odd = Y at *
        have O := ((Only.setCell W7 w.heap.size 0 (.bool true)).trans (Only.setCell _ w.heap.size 1 (.slice b1 X.length d1))).trans (Only.setCell _ w.heap.size 2 (.slice b2 Y.length d2))
        have o1' := o1.only O (fun _ => by omega)
        have o2' := o2.only O (fun _ => by omega)
        have N' := N4.trans (O.below (Nat.le_refl _))
        clear o1 o2 O N4
        go_wp2
        refine bodyPost_ret (v := .agg #[.bool true, .slice b1 X.length d1, .slice b2 Y.length d2]) (by simp [results, Tryd.results21, go_sem, y0, y1, y2]) rfl ⟨?_, N'⟩
        rw [KB.out, KX.out, KY.out]
        exact ⟨b1, b2, d1, d2, h1, h2, rfl, o1', o2', by omega, by omega⟩
  · have t : ((xs.length : Int) != 32) = true := by simp; omega
    have KB : Hid (dcB xs = false) := by show _ = _; unfold dcB; rw [decide_eq_false hl]; rfl
    have KX : Hid (dcX xs = []) := by show _ = _; unfold dcX; rw [if_neg (by rw [KB.out]; simp)]
    have KY : Hid (dcY xs = []) := by show _ = _; unfold dcY; rw [if_neg (by rw [KB.out]; simp)]
    obtain ⟨y0, y1, y2, u0, u1, u2⟩ := TZ
    clear hl
    go_enter Tryd.func21, Tryd.ntmps21
    go_upto_region 1 with fail
    change Code.wp _ _ _ _ (w.alloc prObj)
    generalize w.alloc prObj = wr at *
    go_wp2
    refine bodyPost_ret (v := .agg #[.bool false, .slice none 0 0, .slice none 0 0]) (by simp [results, Tryd.results21, go_sem, y0, y1, y2]) rfl ⟨by rw [KB.out, KX.out, KY.out]; exact newPR_nil, ?_⟩
    exact ((N.setCell (Nat.le_refl _) _).setCell (Nat.le_refl _) _).setCell (Nat.le_refl _) _
end Go.Proofs.YtnaaanefndeafaaDoor

/-
  The law of PointAdd.
-/
namespace Go.Proofs.YtnaaanefndeafaaDoor
set_option maxRecDepth 100000
open Go Go.RowKit

theorem two_of {W : World} {q : Nat} {u v : Value} (rg : W.rangeAt q 0 [u, v]) (th : W.there q 0 2) : Two W q u v :=
  ⟨rg 0 u rfl, rg 1 v rfl, (th 0 (by omega)).2, (th 1 (by omega)).2⟩
section
variable {ops : Array Oper} {Q : Exit → Act → World → Prop} {md : Region.Mode} {F : Nat → Fact} {a0 : Act} {w0 : World} {i : Nat} {o : Oper} {ts : Array TypeId}
/-- A call at two points that were copied. -/
theorem step_two_pts (hi : ops[i]? = some o) {n : FuncId} (p q j k : Nat) {X0 Y0 X1 Y1 rx ry : List Int} (hop : o.op = .call { callee := .value (.func n), args := #[.tmp p, .tmp q], argTypes := ts }) (he : enters Tryd.prog n = true)
    (hj : waits md ops i j p = true) (hk : waits md ops i k q = true)
    (law : ∀ (W : World), Below w0.heap.size w0 W → ∀ (p q p' q' : Nat), Blk W p .u8 X0 → Blk W q .u8 Y0 → Blk W p' .u8 X1 → Blk W q' .u8 Y1 → Calls Tryd.prog n #[.agg #[.slice (some ⟨p, 0, none⟩) X0.length X0.length, .slice (some ⟨q, 0, none⟩) Y0.length Y0.length], .agg #[.slice (some ⟨p', 0, none⟩) X1.length X1.length, .slice (some ⟨q', 0, none⟩) Y1.length Y1.length]] W fun r w' => NewPt W.heap.size w' r rx ry ∧ Below W.heap.size W w')
    (hFj : F j = PR X0 Y0) (hFk : F k = PR X1 Y1) (hFi : F i = PT w0 (fun u8 u9 => u8 = rx ∧ u9 = ry)) : StepOk Tryd.prog md ops Q F a0 w0 i := by
  refine step_call hi n _ ts hop he fun A w _ hw hF => ?_
  have ea := hF j p hj
  have eb := hF k q hk
  rw [hFj] at ea
  rw [hFk] at eb
  obtain ⟨p1, q1, e1, b1, b2⟩ := ea
  obtain ⟨p2, q2, e2, b3, b4⟩ := eb
  show Calls Tryd.prog n #[A.tmps.getD p undef, A.tmps.getD q undef] w _
  rw [e1, e2]
  refine (law w hw p1 q1 p2 q2 b1 b2 b3 b4).mono ?_
  rintro r w' ⟨⟨a, a', c, c', g, g', rfl, o1, o2, l1, l2⟩, hn⟩
  rw [hFi]
  have z := hw.size
  exact ⟨_, rfl, hn, rx, ry, a, a', c, c', g, g', rfl, o1, o2, by omega, by omega, rfl, rfl⟩
end
theorem NewP2.pt {B : Nat} {w : World} {e : Ending} {xs ys : List Int} (h : NewP2 B w e xs ys) : NewPt B w e xs ys := by
  obtain ⟨a, c, g, a', c', g', e, o1, o2, l1, l2, _⟩ := h
  exact ⟨a, a', c, c', g, g', e, o1, o2, l1, l2⟩
end Go.Proofs.YtnaaanefndeafaaDoor

/-
  Canonical bytes are those of their number.
-/
namespace Go.Proofs.YtnaaanefndeafaaDoor
set_option maxRecDepth 100000
open Go.RowKit

theorem lsum_inj {a b : Nat → Int} (ha : ∀ j, 0 ≤ a j ∧ a j < 256) (hb : ∀ j, 0 ≤ b j ∧ b j < 256) : ∀ n, lsum a n = lsum b n → ∀ j, j < n → a j = b j
  | 0, _, j, hj => by omega
  | n + 1, h, j, hj => by
    have bd : ∀ (c : Nat → Int), (∀ j, 0 ≤ c j ∧ c j < 256) → ∀ m, 0 ≤ lsum c m ∧ lsum c m < 256 ^ m := by
      intro c hc m
      induction m with
      | zero => simp [lsum]
      | succ m ih =>
        have hm := hc m
        have hp := p256_pos m
        rw [lsum, Int.pow_succ]
        have e1 : c m * 256 ^ m ≤ 255 * 256 ^ m := Int.mul_le_mul_of_nonneg_right (by omega) (Int.le_of_lt hp)
        have e2 : 0 ≤ c m * 256 ^ m := Int.mul_nonneg hm.1 (Int.le_of_lt hp)
        omega
    have h1 := bd a ha n
    have h2 := bd b hb n
    have hp := p256_pos n
    rw [lsum, lsum] at h
    have e : a n = b n := by
      rcases Int.lt_trichotomy (a n) (b n) with c | c | c
      · exfalso
        have : (a n + 1) * 256 ^ n ≤ b n * 256 ^ n := Int.mul_le_mul_of_nonneg_right (by omega) (Int.le_of_lt hp)
        rw [Int.add_mul] at this
        omega
      · exact c
      · exfalso
        have : (b n + 1) * 256 ^ n ≤ a n * 256 ^ n := Int.mul_le_mul_of_nonneg_right (by omega) (Int.le_of_lt hp)
        rw [Int.add_mul] at this
        omega
    rw [e] at h
    rcases Nat.lt_or_ge j n with c | c
    · exact lsum_inj ha hb n (by omega) j c
    · obtain rfl : j = n := by omega
      exact e
theorem valid_y1 {xs ys : List Int} (h : validP xs ys = true) : canN ys = true := by
  unfold validP at h
  simp only [Bool.and_eq_true] at h
  exact h.1.2
theorem valid_x1 {xs ys : List Int} (h : validP xs ys = true) : canN xs = true := by
  unfold validP at h
  simp only [Bool.and_eq_true] at h
  exact h.1.1
theorem num_ge {xs : List Int} (hb : Byt xs) : 0 ≤ num xs := lsum_nonneg (fun j => hb j) _
theorem can_lt {xs : List Int} (h : canN xs = true) : num xs < PP := by
  unfold canN at h
  simp at h
  exact h.2
theorem fill_can {xs : List Int} (hb : Byt xs) (h : canN xs = true) : fill (byt (num xs % PP)) 32 = xs := by
  have l := can_len h
  have e := num_modS (num xs)
  rw [Int.emod_eq_of_lt (num_ge hb) (can_lt h)] at e ⊢
  have k : ∀ j, j < 32 → (fill (byt (num xs)) 32).getD j 0 = xs.getD j 0 := by
    refine lsum_inj (fun j => bytes_L _ _ j) (fun j => hb j) 32 ?_
    have e1 : num (fill (byt (num xs)) 32) = lsum (fun j => (fill (byt (num xs)) 32).getD j 0) 32 := by unfold num; rw [fill_len]
    have e2 : num xs = lsum (fun j => xs.getD j 0) 32 := by unfold num; rw [l]
    rw [← e1, ← e2]
    exact e
  apply List.ext_getElem
  · rw [fill_len, l]
  · intro i h1 h2
    have := k i (by rw [fill_len] at h1; exact h1)
    simpa [List.getD_eq_getElem?_getD, h1, h2] using this
end Go.Proofs.YtnaaanefndeafaaDoor

/-
  The model's PointNegate.
-/
namespace Go.Proofs.YtnaaanefndeafaaDoor
set_option maxRecDepth 100000
open Go Go.RowKit

/-- The opposite point, as bytes; nothing, if there is none. -/
def nsX (xs ys : List Int) : List Int := if validP xs ys = true then fill (byt ((0 - num xs) % PP)) 32 else []
def nsY (xs ys : List Int) : List Int := if validP xs ys = true then ys else []
section
variable {ops : Array Oper} {Q : Exit → Act → World → Prop} {md : Region.Mode} {F : Nat → Fact} {a0 : Act} {w0 : World} {i : Nat} {o : Oper} {ts : Array TypeId}
theorem step_cpy (hi : ops[i]? = some o) (p j : Nat) {a : Option Addr} {c : Nat} {xs : List Int} (hop : o.op = .call { callee := .value (.func 49), args := #[.tmp p], argTypes := ts })
    (hj : waits md ops i j p = true) (hO : OfOk w0 a xs) (hFj : F j = Fact.eq (.slice a xs.length c)) (hFi : F i = RN w0 (fun u9 => u9 = xs)) : StepOk Tryd.prog md ops Q F a0 w0 i := by
  obtain ⟨g, hr, hb, hl⟩ := hO
  refine step_call hi _ _ ts hop (by kernel_rfl) fun A w _ hw hF => ?_
  have ea := hF j p hj
  rw [hFj] at ea
  show Calls Tryd.prog 49 #[A.tmps.getD p undef] w _
  rw [show A.tmps.getD p undef = _ from ea]
  have hs : a = none → c = 0 := fun e => by
    obtain ⟨_, e', _⟩ := hr (by omega)
    rw [e] at e'
    cases e'
  refine (l1Copy_any w g a c xs (hr.up hw) hs (by omega)).mono ?_
  rintro r w' ⟨⟨b, c', g', rfl, ow, k1, k2, hg⟩, hn⟩
  rw [hFi]
  have z := hw.size
  exact ⟨_, rfl, hn, xs, b, c', g', rfl, ow, by omega, rfl, k1, k2⟩
end
end Go.Proofs.YtnaaanefndeafaaDoor

/-
  The model's l5Small.
-/
namespace Go.Proofs.YtnaaanefndeafaaDoor
set_option maxRecDepth 100000
open Go Go.RowKit

theorem en_int : enters Tryd.prog 43 = true := by kernel_rfl
theorem en_little : enters Tryd.prog 42 = true := by kernel_rfl
theorem en_times : enters Tryd.prog 27 = true := by kernel_rfl
theorem en_plain : enters Tryd.prog 26 = true := by kernel_rfl
theorem en_zero : enters Tryd.prog 106 = true := by kernel_rfl
/-- Three elements, whatever they are. -/
def E3any : Fact := ⟨fun v _ => ∃ x y z, v = ag48 x y z ∧ L16 x ∧ L16 y ∧ L16 z, fun _ h => h⟩
/-- Two lists of thirty-two bytes. -/
def PtOk (xs ys : List Int) : Prop := (Byt xs ∧ xs.length = 32) ∧ (Byt ys ∧ ys.length = 32)
theorem bytes_5 (v : Int) (n : Nat) : Byt (fill (byt v) n) := fun i => by
  by_cases hi : i < n
  · rw [fill_get _ _ _ hi]; unfold byt; omega
  · rw [List.getD_eq_getElem?_getD, List.getElem?_eq_none (by rw [fill_len]; omega)]; simp
theorem dig_bytes_5 {xs : List Int} (h : Byt xs) (n : Nat) : Byt (fill (dig xs) n) := fun i => by
  by_cases hi : i < n
  · rw [fill_get _ _ _ hi]
    have := dig_byt h i
    omega
  · rw [List.getD_eq_getElem?_getD, List.getElem?_eq_none (by rw [fill_len]; omega)]; simp
section
variable {ops : Array Oper} {Q : Exit → Act → World → Prop} {md : Region.Mode} {F : Nat → Fact} {a0 : Act} {w0 : World} {i : Nat} {o : Oper} {ts : Array TypeId}
theorem step_mv0 {P : Program} (hi : ops[i]? = some o) (p : Nat) (hop : (match o.op with | .move (.tmp q) => q == p | .assign (.tmp q) => q == p | _ => false) = true) (hp : apart ops p = true) {v : Value} (h0 : a0.tmps.getD p undef = v) (hF : F i = Fact.eq v) : StepOk P md ops Q F a0 w0 i := by
  refine step_pure hi fun a w hb _ _ => ⟨v, ?_, by rw [hF]; exact rfl⟩
  have e := (based_at hb p hp).trans h0
  cases ho : o.op with
  | move x =>
    cases x with
    | tmp q =>
      rw [ho] at hop
      obtain rfl : q = p := by simpa using hop
      simp [execOp, ho, e]
    | _ => rw [ho] at hop; simp at hop
  | assign x =>
    cases x with
    | tmp q =>
      rw [ho] at hop
      obtain rfl : q = p := by simpa using hop
      simp [execOp, ho, e]
    | _ => rw [ho] at hop; simp at hop
  | _ => rw [ho] at hop; simp at hop
theorem step_int (hi : ops[i]? = some o) (p j : Nat) (v : Int) (hv : 0 ≤ v ∧ v ≤ 255) (hop : o.op = .call { callee := .value (.func 43), args := #[.tmp p], argTypes := ts })
    (hj : waits md ops i j p = true) (hFj : F j = Fact.eq (.int .i64 v)) (hFi : F i = RN w0 (fun xs => xs.length ≤ 1 ∧ Byt xs)) : StepOk Tryd.prog md ops Q F a0 w0 i := by
  refine step_call hi _ _ ts hop en_int fun a w _ hw hF => ?_
  have ea := hF j p hj
  rw [hFj] at ea
  have e1 : a.tmps.getD p undef = .int .i64 v := ea
  show Calls Tryd.prog 43 #[a.tmps.getD p undef] w _
  rw [e1]
  refine (l1Int_any w v hv.1 hv.2).mono ?_
  rintro r w' ⟨ys, hl, hb, ⟨b, c, g, rfl, ow, k1, k2, hg⟩, hn⟩
  rw [hFi]
  exact ⟨_, rfl, hn, ys, b, c, g, rfl, ow, Nat.le_trans hw.size hg, ⟨hl, hb⟩, k1, k2⟩
theorem step_lit (hi : ops[i]? = some o) (p j : Nat) (hop : o.op = .call { callee := .value (.func 42), args := #[.tmp p, .const (.int .i64 32)], argTypes := ts })
    (hj : waits md ops i j p = true) (hFj : F j = RN w0 (fun xs => xs.length ≤ 1 ∧ Byt xs)) (hFi : F i = RN w0 (fun xs => xs.length = 32 ∧ Byt xs)) : StepOk Tryd.prog md ops Q F a0 w0 i := by
  refine step_call hi _ _ ts hop en_little fun a w _ hw hF => ?_
  have ea := hF j p hj
  rw [hFj] at ea
  obtain ⟨xs, b, c, g, e1, ow, hg, ⟨hl, hb⟩, k1, k2⟩ := ea
  show Calls Tryd.prog 42 #[a.tmps.getD p undef, .int .i64 32] w _
  rw [e1]
  refine (l1Little_any w g b c xs 32 ow.rd hb (by omega) (by omega)).mono ?_
  rintro r w' ⟨rfl, B, hn⟩
  rw [hFi]
  refine ⟨_, rfl, hn, fill (dig xs) 32, _, 32, w.heap.size, by rw [fill_len], B.own0, hw.size, ⟨fill_len _ _, ?_⟩, by simp, by rw [fill_len]; omega⟩
  exact dig_bytes_5 hb 32
theorem step_times (hi : ops[i]? = some o) (p q j k : Nat) {f g : List Int} (hop : o.op = .call { callee := .value (.func 27), args := #[.tmp p, .tmp q], argTypes := ts })
    (hj : waits md ops i j p = true) (hk : waits md ops i k q = true) (hFj : F j = RN w0 (fun xs => xs.length = 32 ∧ Byt xs)) (hFk : F k = PT w0 (fun xs ys => xs = f ∧ ys = g)) (hFi : F i = E3any) (hf : PtOk f g := by exact ⟨⟨bytes_5 _ _, fill_len _ _⟩, bytes_5 _ _, fill_len _ _⟩) : StepOk Tryd.prog md ops Q F a0 w0 i := by
  refine step_call hi _ _ ts hop en_times fun a w _ _ hF => ?_
  have ea := hF j p hj
  have eb := hF k q hk
  rw [hFj] at ea
  rw [hFk] at eb
  obtain ⟨ks, b, c, h, e1, ow, _, ⟨hl, hb⟩, _, _⟩ := ea
  obtain ⟨xs, ys, b1, b2, c1, c2, h1, h2, e2, o1, o2, _, _, rfl, rfl⟩ := eb
  show Calls Tryd.prog 27 #[a.tmps.getD p undef, a.tmps.getD q undef] w _
  rw [e1, e2]
  refine (l5Times_any w h h1 h2 b b1 b2 c c1 c2 ks xs ys ow.rd hb (by omega) o1.rd o2.rd hf.1.1 hf.2.1 hf.1.2 hf.2.2).mono ?_
  rintro r w' ⟨top, P, x, y, z, _, _, rfl, hx, hy, hz, hn⟩
  rw [hFi]
  exact ⟨_, rfl, hn, x, y, z, rfl, hx.1, hy.1, hz.1⟩
theorem step_plain (hi : ops[i]? = some o) (p j : Nat) (hop : o.op = .call { callee := .value (.func 26), args := #[.tmp p], argTypes := ts })
    (hj : waits md ops i j p = true) (hFj : F j = E3any) (hFi : F i = PT w0 PtOk) : StepOk Tryd.prog md ops Q F a0 w0 i := by
  refine step_call hi _ _ ts hop en_plain fun a w _ hw hF => ?_
  have ea := hF j p hj
  rw [hFj] at ea
  obtain ⟨x, y, z, e1, hx, hy, hz⟩ := ea
  show Calls Tryd.prog 26 #[a.tmps.getD p undef] w _
  rw [e1]
  refine (l5Plain_any w x y z _ _ _ ⟨hx, rfl⟩ ⟨hy, rfl⟩ ⟨hz, rfl⟩).mono ?_
  rintro r w' ⟨⟨b, b', c, c', g, g', rfl, o1, o2, l1, l2⟩, hn⟩
  rw [hFi]
  exact ⟨_, rfl, hn, _, _, b, b', c, c', g, g', rfl, o1, o2, Nat.le_trans hw.size l1, Nat.le_trans hw.size l2, ⟨bytes_5 _ _, fill_len _ _⟩, bytes_5 _ _, fill_len _ _⟩
theorem step_zero (hi : ops[i]? = some o) (hop : o.op = .call { callee := .value (.func 106), args := #[], argTypes := ts }) (hFi : F i = PT w0 PtOk) : StepOk Tryd.prog md ops Q F a0 w0 i := by
  refine step_call hi _ _ ts hop en_zero fun a w _ hw _ => ?_
  refine (pointZero_any w).mono ?_
  rintro r w' ⟨⟨b, b', c, c', g, g', rfl, o1, o2, l1, l2⟩, hn⟩
  rw [hFi]
  exact ⟨_, rfl, hn, _, _, b, b', c, c', g, g', rfl, o1, o2, Nat.le_trans hw.size l1, Nat.le_trans hw.size l2, ⟨bytes_5 _ _, fill_len _ _⟩, bytes_5 _ _, fill_len _ _⟩
end

set_option maxHeartbeats 4000000 in
theorem l5Small_any (w : World) (k : Int) (k0 : 0 ≤ k) (k1 : k ≤ 255) :
    Calls Tryd.prog 83 #[.int .i64 k] w fun r w' => ∃ xs ys, NewPt w.heap.size w' r xs ys ∧ (Byt xs ∧ xs.length = 32) ∧ (Byt ys ∧ ys.length = 32) ∧ Below w.heap.size w w' := by
  go_enter Tryd.func83, Tryd.ntmps83
  go_upto_region 1 with fail
  change Code.wp _ _ _ _ (w.alloc pObj)
  have TR := there_p w
  have N : Below w.heap.size w (w.alloc pObj) := (Below.refl _ _).alloc (Nat.le_refl _) _
  generalize w.alloc pObj = wr at *
  have zr := there_lt (by omega) TR
  refine region_new16 2 1 0 3 10 _ (fun i => [EL dE, NB wr 16].getD i Fact.no) (dE) (by kernel_rfl) rfl rfl rfl (by kernel_rfl) (by kernel_rfl) rfl rfl ?_ ?_
  · intro i hi
    obtain rfl | rfl : i = 0 ∨ i = 1 := by omega
    · exact step_d rfl rfl rfl
    · exact step_new16 rfl rfl rfl
  intro vs1 q3 W1 v3 h3 n1 E3' T3
  have mn1 := n1.size
  replace TR := there_up (by omega) TR n1
  replace N := nxt N n1
  clear n1 T3
  simp only [puts, v3, Act.put, List.setIfInBounds_toArray, List.set_cons_succ, List.set_cons_zero]
  clear v3
  go_upto_region 2 with fail
  refine region_new16 9 7 6 5 17 _ (fun i => [EL 0, EL 1, EL ((0) - (1)), RT ((0) - (1)), RT ((0) - (1)), Fact.eq (.bool (rootB ((0) - (1)))), EL (rootV ((0) - (1))), NB W1 16, Fact.eq (.bool (rootB ((0) - (1))))].getD i Fact.no) (rootV ((0) - (1))) (by kernel_rfl) rfl rfl rfl (by kernel_rfl) (by kernel_rfl) rfl rfl ?_ ?_
  · intro i hi
    obtain rfl | rfl | rfl | rfl | rfl | rfl | rfl | rfl | rfl : i = 0 ∨ i = 1 ∨ i = 2 ∨ i = 3 ∨ i = 4 ∨ i = 5 ∨ i = 6 ∨ i = 7 ∨ i = 8 := by omega
    · exact step_small rfl 0 (by omega) rfl rfl
    · exact step_small rfl 1 (by omega) rfl rfl
    · exact step_sub rfl 12 13 0 1 _ _ rfl (by kernel_rfl) (by kernel_rfl) rfl rfl rfl
    · exact step_root rfl 14 2 _ rfl (by kernel_rfl) rfl rfl
    · exact step_move rfl 15 3 (by exact Or.inl rfl) (by kernel_rfl) rfl
    · exact step_ext0 rfl 11 4 _ rfl (by kernel_rfl) rfl rfl
    · exact step_ext1 rfl 11 4 _ rfl (by kernel_rfl) rfl rfl
    · exact step_new16 rfl rfl rfl
    · exact step_move rfl 16 5 (by exact Or.inr rfl) (by kernel_rfl) rfl
  intro vs2 q5 W2 v5 h5 n2 E5 T5
  have y5 := E5.lt
  have mn2 := n2.size
  replace E3' := E3'.up n2
  replace TR := there_up (by omega) TR n2
  replace N := nxt N n2
  clear n2 T5
  simp only [puts, v5, Act.put, List.setIfInBounds_toArray, List.set_cons_succ, List.set_cons_zero]
  clear v5
  go_upto_region 3 with fail
  refine region_new16 9 7 6 7 24 _ (fun i => [EL 1, EL (dE), EL ((1) + (dE)), RT ((1) + (dE)), RT ((1) + (dE)), Fact.eq (.bool (rootB ((1) + (dE)))), EL (rootV ((1) + (dE))), NB W2 16, Fact.eq (.bool (rootB ((1) + (dE))))].getD i Fact.no) (rootV ((1) + (dE))) (by kernel_rfl) rfl rfl rfl (by kernel_rfl) (by kernel_rfl) rfl rfl ?_ ?_
  · intro i hi
    obtain rfl | rfl | rfl | rfl | rfl | rfl | rfl | rfl | rfl : i = 0 ∨ i = 1 ∨ i = 2 ∨ i = 3 ∨ i = 4 ∨ i = 5 ∨ i = 6 ∨ i = 7 ∨ i = 8 := by omega
    · exact step_small rfl 1 (by omega) rfl rfl
    · exact step_el rfl 43 3 rfl Go.Proofs.YtnaaanefndeafaaDoor.u50 i50 (by kernel_rfl) _ _ rfl _ E3' rfl
    · exact step_add rfl 19 20 0 1 _ _ rfl (by kernel_rfl) (by kernel_rfl) rfl rfl rfl
    · exact step_root rfl 21 2 _ rfl (by kernel_rfl) rfl rfl
    · exact step_move rfl 22 3 (by exact Or.inl rfl) (by kernel_rfl) rfl
    · exact step_ext0 rfl 18 4 _ rfl (by kernel_rfl) rfl rfl
    · exact step_ext1 rfl 18 4 _ rfl (by kernel_rfl) rfl rfl
    · exact step_new16 rfl rfl rfl
    · exact step_move rfl 23 5 (by exact Or.inr rfl) (by kernel_rfl) rfl
  intro vs3 q7 W3' v7 h7 n3 E7 T7
  have mn3 := n3.size
  replace E3' := E3'.up n3
  replace E5 := E5.up n3
  replace TR := there_up (by omega) TR n3
  replace N := nxt N n3
  clear n3 T7
  simp only [puts, v7, Act.put, List.setIfInBounds_toArray, List.set_cons_succ, List.set_cons_zero]
  clear v7
  go_upto_region 4 with fail
  refine region_new16F 12 10 9 9 34 _ (fun i => [EL 1, EL (rootV ((1) + (dE))), EL ((1) + (rootV ((1) + (dE)))), EL (dE), EL (iv (dE)), EL (((1) + (rootV ((1) + (dE)))) * (iv (dE))), RT (((1) + (rootV ((1) + (dE)))) * (iv (dE))), RT (((1) + (rootV ((1) + (dE)))) * (iv (dE))), Fact.eq (.bool (rootB (((1) + (rootV ((1) + (dE)))) * (iv (dE))))), EL (rootV (((1) + (rootV ((1) + (dE)))) * (iv (dE)))), NB W3' 16, Fact.eq (.bool (rootB (((1) + (rootV ((1) + (dE)))) * (iv (dE)))))].getD i Fact.no) (rootV (((1) + (rootV ((1) + (dE)))) * (iv (dE)))) (by kernel_rfl) rfl rfl rfl (by kernel_rfl) (by kernel_rfl) rfl rfl ?_ ?_
  · intro i hi
    obtain rfl | rfl | rfl | rfl | rfl | rfl | rfl | rfl | rfl | rfl | rfl | rfl : i = 0 ∨ i = 1 ∨ i = 2 ∨ i = 3 ∨ i = 4 ∨ i = 5 ∨ i = 6 ∨ i = 7 ∨ i = 8 ∨ i = 9 ∨ i = 10 ∨ i = 11 := by omega
    · exact step_small rfl 1 (by omega) rfl rfl
    · exact step_el rfl 43 7 rfl Go.Proofs.YtnaaanefndeafaaDoor.u50 i50 (by kernel_rfl) _ _ rfl _ E7 rfl
    · exact step_add rfl 26 27 0 1 _ _ rfl (by kernel_rfl) (by kernel_rfl) rfl rfl rfl
    · exact step_el rfl 43 3 rfl Go.Proofs.YtnaaanefndeafaaDoor.u50 i50 (by kernel_rfl) _ _ rfl _ E3' rfl
    · exact step_inv rfl 29 3 _ rfl (by kernel_rfl) rfl rfl
    · exact step_mul rfl 28 30 2 4 _ _ rfl (by kernel_rfl) (by kernel_rfl) rfl rfl rfl
    · exact step_root rfl 31 5 _ rfl (by kernel_rfl) rfl rfl
    · exact step_move rfl 32 6 (by exact Or.inl rfl) (by kernel_rfl) rfl
    · exact step_ext0 rfl 25 7 _ rfl (by kernel_rfl) rfl rfl
    · exact step_ext1 rfl 25 7 _ rfl (by kernel_rfl) rfl rfl
    · exact step_new16 rfl rfl rfl
    · exact step_move rfl 33 8 (by exact Or.inr rfl) (by kernel_rfl) rfl
  intro vs4 q9 W4 v9 h9 n4 E9 T9 hF
  obtain ⟨_, v8⟩ := hF 11 8 (by kernel_rfl)
  clear hF
  have mn4 := n4.size
  replace E3' := E3'.up n4
  replace E5 := E5.up n4
  replace E7 := E7.up n4
  replace TR := there_up (by omega) TR n4
  replace N := nxt N n4
  have y9 := E9.lt
  have y3 := E3'.lt
  have r5 : q5 ≠ q9 := by omega
  clear n4
  change vs4 8 = .bool (rootB _) at v8
  simp only [puts, v9, v8, Act.put, List.setIfInBounds_toArray, List.set_cons_succ, List.set_cons_zero]
  clear v9 v8
  cases rootB (((1) + (rootV ((1) + (dE)))) * (iv (dE))) with
  | true =>
    go_upto_region 9 with fail
    refine region_putP 12 11 2 61 _ (fun i => [Fact.eq (.int .i64 k), RN W4 (fun xs => xs.length ≤ 1 ∧ Byt xs), RN W4 (fun xs => xs.length = 32 ∧ Byt xs), EL (rootV (((1) + (rootV ((1) + (dE)))) * (iv (dE)))), RN W4 (fun xs => xs = fill (byt ((rootV (((1) + (rootV ((1) + (dE)))) * (iv (dE)))) % PP)) 32), EL (rootV (((1) + (rootV ((1) + (dE)))) * (iv (dE)))), EL (rootV ((0) - (1))), EL ((rootV (((1) + (rootV ((1) + (dE)))) * (iv (dE)))) * (rootV ((0) - (1)))), RN W4 (fun xs => xs = fill (byt (((rootV (((1) + (rootV ((1) + (dE)))) * (iv (dE)))) * (rootV ((0) - (1)))) % PP)) 32), PT W4 (fun xs ys => xs = fill (byt ((rootV (((1) + (rootV ((1) + (dE)))) * (iv (dE)))) % PP)) 32 ∧ ys = fill (byt (((rootV (((1) + (rootV ((1) + (dE)))) * (iv (dE)))) * (rootV ((0) - (1)))) % PP)) 32), E3any, PT W4 PtOk].getD i Fact.no) PtOk _ (by kernel_rfl) rfl rfl rfl (by kernel_rfl) rfl TR (by kernel_rfl) rfl ?_ ?_
    · intro i hi
      obtain rfl | rfl | rfl | rfl | rfl | rfl | rfl | rfl | rfl | rfl | rfl | rfl : i = 0 ∨ i = 1 ∨ i = 2 ∨ i = 3 ∨ i = 4 ∨ i = 5 ∨ i = 6 ∨ i = 7 ∨ i = 8 ∨ i = 9 ∨ i = 10 ∨ i = 11 := by omega
      · exact step_mv0 rfl 0 (by kernel_rfl) (by kernel_rfl) rfl rfl
      · exact step_int rfl 50 0 k ⟨k0, k1⟩ rfl (by kernel_rfl) rfl rfl
      · exact step_lit rfl 51 1 rfl (by kernel_rfl) rfl rfl
      · exact step_el rfl 43 9 rfl Go.Proofs.YtnaaanefndeafaaDoor.u50 i50 (by kernel_rfl) _ _ rfl _ E9 rfl
      · exact step_bytes rfl 53 3 _ rfl (by kernel_rfl) rfl rfl
      · exact step_el rfl 43 9 rfl Go.Proofs.YtnaaanefndeafaaDoor.u50 i50 (by kernel_rfl) _ _ rfl _ E9 rfl
      · exact step_el rfl 43 5 rfl Go.Proofs.YtnaaanefndeafaaDoor.u50 i50 (by kernel_rfl) _ _ rfl _ E5 rfl
      · exact step_mul rfl 55 56 5 6 _ _ rfl (by kernel_rfl) (by kernel_rfl) rfl rfl rfl
      · exact step_bytes rfl 57 7 _ rfl (by kernel_rfl) rfl rfl
      · exact step_bp rfl 54 58 4 8 _ _ rfl (by kernel_rfl) (by kernel_rfl) rfl rfl rfl
      · exact step_times rfl 52 59 2 9 rfl (by kernel_rfl) (by kernel_rfl) rfl rfl rfl
      · exact step_plain rfl 60 10 rfl (by kernel_rfl) rfl rfl
    intro vs9 W W' xs ys a a' c c' g g' n bq rg o1 o2 l1 l2 hp nb
    have NS := nb w w.heap.size (nxt N n) (by omega)
    simp only [puts, Act.put, List.setIfInBounds_toArray, List.set_cons_succ, List.set_cons_zero]
    have z1 := N.size
    clear N n bq nb TR
    go_wp2
    obtain ⟨fs, hfs⟩ := uP
    exact bodyPost_ret (v := .agg #[_, _]) (results_cell_mid Tryd.results83 _ _ w.heap.size _ _ rfl rg hfs rfl iP) rfl ⟨xs, ys, ⟨a, a', c, c', g, g', rfl, o1, o2, by omega, by omega⟩, hp.1, hp.2, NS⟩
  | false =>
    go_upto_region 6 with fail
    refine region_put16F 11 9 9 46 _ (fun i => [EL 1, EL (rootV ((1) + (dE))), EL ((1) - (rootV ((1) + (dE)))), EL (dE), EL (iv (dE)), EL (((1) - (rootV ((1) + (dE)))) * (iv (dE))), RT (((1) - (rootV ((1) + (dE)))) * (iv (dE))), RT (((1) - (rootV ((1) + (dE)))) * (iv (dE))), Fact.eq (.bool (rootB (((1) - (rootV ((1) + (dE)))) * (iv (dE))))), EL (rootV (((1) - (rootV ((1) + (dE)))) * (iv (dE)))), Fact.eq (.bool (rootB (((1) - (rootV ((1) + (dE)))) * (iv (dE)))))].getD i Fact.no) (rootV (((1) - (rootV ((1) + (dE)))) * (iv (dE)))) _ (by kernel_rfl) rfl rfl rfl (by kernel_rfl) rfl T9 (by kernel_rfl) rfl ?_ ?_
    · intro i hi
      obtain rfl | rfl | rfl | rfl | rfl | rfl | rfl | rfl | rfl | rfl | rfl : i = 0 ∨ i = 1 ∨ i = 2 ∨ i = 3 ∨ i = 4 ∨ i = 5 ∨ i = 6 ∨ i = 7 ∨ i = 8 ∨ i = 9 ∨ i = 10 := by omega
      · exact step_small rfl 1 (by omega) rfl rfl
      · exact step_el rfl 43 7 rfl Go.Proofs.YtnaaanefndeafaaDoor.u50 i50 (by kernel_rfl) _ _ rfl _ E7 rfl
      · exact step_sub rfl 38 39 0 1 _ _ rfl (by kernel_rfl) (by kernel_rfl) rfl rfl rfl
      · exact step_el rfl 43 3 rfl Go.Proofs.YtnaaanefndeafaaDoor.u50 i50 (by kernel_rfl) _ _ rfl _ E3' rfl
      · exact step_inv rfl 41 3 _ rfl (by kernel_rfl) rfl rfl
      · exact step_mul rfl 40 42 2 4 _ _ rfl (by kernel_rfl) (by kernel_rfl) rfl rfl rfl
      · exact step_root rfl 43 5 _ rfl (by kernel_rfl) rfl rfl
      · exact step_move rfl 44 6 (by exact Or.inl rfl) (by kernel_rfl) rfl
      · exact step_ext0 rfl 37 7 _ rfl (by kernel_rfl) rfl rfl
      · exact step_ext1 rfl 37 7 _ rfl (by kernel_rfl) rfl rfl
      · exact step_move rfl 45 8 (by exact Or.inr rfl) (by kernel_rfl) rfl
    intro vs6 Wa W6 na bq E9n T9n nb hF
    obtain ⟨_, v8⟩ := hF 10 8 (by kernel_rfl)
    clear hF
    replace TR := there_but (by omega) TR bq (by omega)
    replace E5 := E5.but bq r5
    replace N := nb w w.heap.size (nxt N na) (by omega)
    clear bq nb na E9 E7 E3'
    have E9 := E9n
    change vs6 8 = .bool (rootB _) at v8
    simp only [puts, v8, Act.put, List.setIfInBounds_toArray, List.set_cons_succ, List.set_cons_zero]
    clear v8
    cases rootB (((1) - (rootV ((1) + (dE)))) * (iv (dE))) with
    | true =>
      go_upto_region 9 with fail
      refine region_putP 12 11 2 61 _ (fun i => [Fact.eq (.int .i64 k), RN W6 (fun xs => xs.length ≤ 1 ∧ Byt xs), RN W6 (fun xs => xs.length = 32 ∧ Byt xs), EL (rootV (((1) - (rootV ((1) + (dE)))) * (iv (dE)))), RN W6 (fun xs => xs = fill (byt ((rootV (((1) - (rootV ((1) + (dE)))) * (iv (dE)))) % PP)) 32), EL (rootV (((1) - (rootV ((1) + (dE)))) * (iv (dE)))), EL (rootV ((0) - (1))), EL ((rootV (((1) - (rootV ((1) + (dE)))) * (iv (dE)))) * (rootV ((0) - (1)))), RN W6 (fun xs => xs = fill (byt (((rootV (((1) - (rootV ((1) + (dE)))) * (iv (dE)))) * (rootV ((0) - (1)))) % PP)) 32), PT W6 (fun xs ys => xs = fill (byt ((rootV (((1) - (rootV ((1) + (dE)))) * (iv (dE)))) % PP)) 32 ∧ ys = fill (byt (((rootV (((1) - (rootV ((1) + (dE)))) * (iv (dE)))) * (rootV ((0) - (1)))) % PP)) 32), E3any, PT W6 PtOk].getD i Fact.no) PtOk _ (by kernel_rfl) rfl rfl rfl (by kernel_rfl) rfl TR (by kernel_rfl) rfl ?_ ?_
      · intro i hi
        obtain rfl | rfl | rfl | rfl | rfl | rfl | rfl | rfl | rfl | rfl | rfl | rfl : i = 0 ∨ i = 1 ∨ i = 2 ∨ i = 3 ∨ i = 4 ∨ i = 5 ∨ i = 6 ∨ i = 7 ∨ i = 8 ∨ i = 9 ∨ i = 10 ∨ i = 11 := by omega
        · exact step_mv0 rfl 0 (by kernel_rfl) (by kernel_rfl) rfl rfl
        · exact step_int rfl 50 0 k ⟨k0, k1⟩ rfl (by kernel_rfl) rfl rfl
        · exact step_lit rfl 51 1 rfl (by kernel_rfl) rfl rfl
        · exact step_el rfl 43 9 rfl Go.Proofs.YtnaaanefndeafaaDoor.u50 i50 (by kernel_rfl) _ _ rfl _ E9 rfl
        · exact step_bytes rfl 53 3 _ rfl (by kernel_rfl) rfl rfl
        · exact step_el rfl 43 9 rfl Go.Proofs.YtnaaanefndeafaaDoor.u50 i50 (by kernel_rfl) _ _ rfl _ E9 rfl
        · exact step_el rfl 43 5 rfl Go.Proofs.YtnaaanefndeafaaDoor.u50 i50 (by kernel_rfl) _ _ rfl _ E5 rfl
        · exact step_mul rfl 55 56 5 6 _ _ rfl (by kernel_rfl) (by kernel_rfl) rfl rfl rfl
        · exact step_bytes rfl 57 7 _ rfl (by kernel_rfl) rfl rfl
        · exact step_bp rfl 54 58 4 8 _ _ rfl (by kernel_rfl) (by kernel_rfl) rfl rfl rfl
        · exact step_times rfl 52 59 2 9 rfl (by kernel_rfl) (by kernel_rfl) rfl rfl rfl
        · exact step_plain rfl 60 10 rfl (by kernel_rfl) rfl rfl
      intro vs9 W W' xs ys a a' c c' g g' n bq rg o1 o2 l1 l2 hp nb
      have NS := nb w w.heap.size (nxt N n) (by omega)
      simp only [puts, Act.put, List.setIfInBounds_toArray, List.set_cons_succ, List.set_cons_zero]
      have z1 := N.size
      clear N n bq nb TR
      go_wp2
      obtain ⟨fs, hfs⟩ := uP
      exact bodyPost_ret (v := .agg #[_, _]) (results_cell_mid Tryd.results83 _ _ w.heap.size _ _ rfl rg hfs rfl iP) rfl ⟨xs, ys, ⟨a, a', c, c', g, g', rfl, o1, o2, by omega, by omega⟩, hp.1, hp.2, NS⟩
    | false =>
      go_upto_region 8 with fail
      refine region_putP 1 0 2 49 _ (fun i => [PT W6 PtOk].getD i Fact.no) PtOk _ (by kernel_rfl) rfl rfl rfl (by kernel_rfl) rfl TR (by kernel_rfl) rfl ?_ ?_
      · intro i hi
        obtain rfl : i = 0 := by omega
        exact step_zero rfl rfl rfl
      intro vs9 W W' xs ys a a' c c' g g' n bq rg o1 o2 l1 l2 hp nb
      have NS := nb w w.heap.size (nxt N n) (by omega)
      simp only [puts, Act.put, List.setIfInBounds_toArray, List.set_cons_succ, List.set_cons_zero]
      have z1 := N.size
      clear N n bq nb TR
      go_wp2
      obtain ⟨fs, hfs⟩ := uP
      exact bodyPost_ret (v := .agg #[_, _]) (results_cell_mid Tryd.results83 _ _ w.heap.size _ _ rfl rg hfs rfl iP) rfl ⟨xs, ys, ⟨a, a', c, c', g, g', rfl, o1, o2, by omega, by omega⟩, hp.1, hp.2, NS⟩
end Go.Proofs.YtnaaanefndeafaaDoor

/-
  What is drawn from a source, told by the source's bytes.
-/
namespace Go.Proofs.YtnaaanefndeafaaDoor
set_option maxRecDepth 100000
open Go.RowKit

/-- The next number that is drawn. -/
def nxF (xs : List Int) (t n : Int) : Int :=
  if xs.length = 0 then t * 7 % n else
    (if 200 < n then (xs.getD (t % (xs.length : Int)).toNat 0 + t / (xs.length : Int) * 37) * 251 + xs.getD ((t + 1) % (xs.length : Int)).toNat 0 * 13 + t
      else xs.getD (t % (xs.length : Int)).toNat 0 + t / (xs.length : Int) * 37) % n
set_option maxHeartbeats 2000000 in
theorem l1NextV_any (w : World) (s g : Nat) (a : Option Addr) (c : Nat) (xs : List Int) (t n : Int) (hs : Src w s a xs.length c t) (hr : Rd w g a .u8 xs) (hne : 0 < xs.length → g ≠ s) (hb : Byt xs) (hl : xs.length ≤ 4194304)
    (t0 : 0 ≤ t) (t1 : t ≤ 1048576) (n0 : 1 ≤ n) (n1 : n ≤ 1048576) :
    Calls Tryd.prog 39 #[.pointer (some ⟨s, 0, none⟩), .int .i64 n] w fun e w' => e = .returned (.int .i64 (nxF xs t n)) ∧ (0 ≤ nxF xs t n ∧ nxF xs t n < n) ∧ Src w' s a xs.length c (t + 1) ∧ Only s w w' := by
  have c0 := hs.code
  have c1 := hs.at_
  have f1 := hs.free
  have k1 : (w.setCell ⟨s, 1, none⟩ (.int .i64 (t + 1))).cell? ⟨s, 1, none⟩ = some (.int .i64 (t + 1)) := World.cell?_setCell_same _ _ _ hs.at_
  have k0 : (w.setCell ⟨s, 1, none⟩ (.int .i64 (t + 1))).cell? ⟨s, 0, none⟩ = some (.slice a xs.length c) := by rw [World.cell?_setCell_other (h := by simp)]; exact hs.code
  have tn : decide (n < 1) = false := by simp; omega
  by_cases h0 : xs.length = 0
  · have hk : ((xs.length : Int) == 0) = true := by simp [h0]
    have r0 := Int.emod_nonneg (t * 7) (show n ≠ 0 by omega)
    have r1 := Int.emod_lt_of_pos (t * 7) (show 0 < n by omega)
    have V : nxF xs t n = t * 7 % n := by unfold nxF; rw [if_pos h0]
    rw [V]
    clear V
    have S := hs.step (t + 1) 0
    have O := Only.step w s (.int .i64 (t + 1)) 0
    clear h0
    go_enter Tryd.func39, Tryd.ntmps39
    go_wp2
    go_ret
    exact ⟨rfl, ⟨r0, r1⟩, S, O⟩
  · have hk : ((xs.length : Int) == 0) = false := beq_eq_false_iff_ne.2 (by omega)
    obtain ⟨off, rfl, hc⟩ := hr (by omega)
    have gs : g ≠ s := hne (by omega)
    obtain ⟨i1, hi1⟩ := Int.eq_ofNat_of_zero_le (Int.emod_nonneg t (show (xs.length : Int) ≠ 0 by omega))
    have li1 : (i1 : Int) < (xs.length : Int) := by rw [← hi1]; exact Int.emod_lt_of_pos _ (by omega)
    obtain ⟨i2, hi2⟩ := Int.eq_ofNat_of_zero_le (Int.emod_nonneg (t + 1) (show (xs.length : Int) ≠ 0 by omega))
    have li2 : (i2 : Int) < (xs.length : Int) := by rw [← hi2]; exact Int.emod_lt_of_pos _ (by omega)
    obtain ⟨q, hq⟩ : ∃ q, t / (xs.length : Int) = q := ⟨_, rfl⟩
    have q0 : 0 ≤ q := by rw [← hq]; exact Int.ediv_nonneg t0 (by omega)
    have q1 : q ≤ 1048576 := by rw [← hq]; exact Int.le_trans (Int.ediv_le_self _ t0) t1
    have x1 : (w.setCell ⟨s, 1, none⟩ (.int .i64 (t + 1))).cell? ⟨g, off + i1, none⟩ = some (.int .u8 (xs.getD i1 0)) := by rw [World.cell?_setCell_other (h := fun e => gs (by simpa using (congrArg Addr.block e).symm))]; exact hc i1 (by omega)
    have x2 : (w.setCell ⟨s, 1, none⟩ (.int .i64 (t + 1))).cell? ⟨g, off + i2, none⟩ = some (.int .u8 (xs.getD i2 0)) := by rw [World.cell?_setCell_other (h := fun e => gs (by simpa using (congrArg Addr.block e).symm))]; exact hc i2 (by omega)
    have b1 := hb i1
    have b2 := hb i2
    have S := fun m => hs.step (t + 1) m
    have O := fun m => Only.step w s (.int .i64 (t + 1)) m
    have V : nxF xs t n = (if 200 < n then (xs.getD i1 0 + q * 37) * 251 + xs.getD i2 0 * 13 + t else xs.getD i1 0 + q * 37) % n := by
      unfold nxF
      rw [if_neg h0, hi1, hi2, hq]
      rfl
    generalize xs.getD i1 0 = x at *
    generalize xs.getD i2 0 = y at *
    rw [V]
    clear V
    clear hc hs hr h0
    by_cases hn : n ≤ 200
    · have tn2 : decide (200 < n) = false := by simp; omega
      rw [if_neg (by omega : ¬ 200 < n)]
      have r0 := Int.emod_nonneg (x + q * 37) (show n ≠ 0 by omega)
      have r1 := Int.emod_lt_of_pos (x + q * 37) (show 0 < n by omega)
      clear x2 hi2 li2 b2
      go_enter Tryd.func39, Tryd.ntmps39
      go_wp2
      go_quiet (fail)
      go_wp2
      go_ret
      exact ⟨rfl, ⟨r0, r1⟩, S _, O _⟩
    · have tn2 : decide (200 < n) = true := by simp; omega
      rw [if_pos (by omega : 200 < n)]
      have r0 := Int.emod_nonneg ((x + q * 37) * 251 + y * 13 + t) (show n ≠ 0 by omega)
      have r1 := Int.emod_lt_of_pos ((x + q * 37) * 251 + y * 13 + t) (show 0 < n by omega)
      go_enter Tryd.func39, Tryd.ntmps39
      go_wp2
      go_quiet (fail)
      go_wp2
      go_quiet (fail)
      go_wp2
      go_ret
      exact ⟨rfl, ⟨r0, r1⟩, S _, O _⟩

/-- The bytes that are drawn. -/
def dbF (xs : List Int) (t : Int) : Nat → List Int
  | 0 => []
  | k + 1 => dbF xs t k ++ [nxF xs (t + (k : Int)) 256]
theorem dbF_len (xs : List Int) (t : Int) : ∀ k, (dbF xs t k).length = k
  | 0 => rfl
  | k + 1 => by simp [dbF, dbF_len xs t k]
theorem nx_in (xs : List Int) (t : Int) {n : Int} (h : 0 < n) : 0 ≤ nxF xs t n ∧ nxF xs t n < n := by
  unfold nxF
  split
  · exact ⟨Int.emod_nonneg _ (by omega), Int.emod_lt_of_pos _ h⟩
  · exact ⟨Int.emod_nonneg _ (by omega), Int.emod_lt_of_pos _ h⟩
theorem dbF_byt (xs : List Int) (t : Int) : ∀ k, Byt (dbF xs t k)
  | 0 => byt_nil
  | k + 1 => byt_snoc (dbF_byt xs t k) _ (nx_in xs _ (by decide)).1 (nx_in xs _ (by decide)).2
set_option maxHeartbeats 2000000 in
theorem l1DrawBytesV_any (w : World) (s g : Nat) (a : Option Addr) (c : Nat) (xs : List Int) (t : Int) (n : Nat) (hs : Src w s a xs.length c t) (hr : Rd w g a .u8 xs) (hne : 0 < xs.length → g ≠ s) (hb : Byt xs) (hl : xs.length ≤ 4194304)
    (t0 : 0 ≤ t) (t1 : t + (n : Int) ≤ 1048576) :
    Calls Tryd.prog 85 #[.pointer (some ⟨s, 0, none⟩), .int .i64 n] w fun e w' => NewRow w.heap.size w' e .u8 (dbF xs t n) ∧ Src w' s a xs.length c (t + (n : Int)) ∧ But s w w' := by
  obtain ⟨i0, hi, hz0, hz1, hz2⟩ := info_parts Tryd.info5
  have hown0 : (w.alloc (.cells #[] 5)).ownsRow w.heap.size 5 1 (.slice (some ⟨w.heap.size, 0, none⟩) 0 0) 0 [] := World.ownsRow_lit w #[] 0 (Nat.le_refl _) (by unfold maxLen; omega) (by simp)
  have hal : Below w.heap.size w (w.alloc (.cells #[] 5)) := (Below.refl _ _).alloc (Nat.le_refl _) _
  have hsl := hs.lt
  go_enter Tryd.func85, Tryd.ntmps85
  go_wp2
  go_loopw [5, 6] (fun v i wr => ∃ (k : Nat), k ≤ n ∧ i = .int .i64 k ∧ wr.ownsRow w.heap.size 5 1 v k ((dbF xs t k).map (Value.int .u8)) ∧ Src wr s a xs.length c (t + (k : Int)) ∧ But s w wr) (fun _ i _ => n - (intOf i).toNat)
  case atStart => exact ⟨0, Nat.zero_le _, rfl, hown0, by simpa using hs.up hal, But.ofBelow hal⟩
  case round =>
    obtain ⟨k, hk, rfl, hown, hS, hN⟩ := hrel
    have e1 : dbF xs t (k + 1) = dbF xs t k ++ [nxF xs (t + (k : Int)) 256] := rfl
    have hyl : Hid ((dbF xs t k).length = k) := dbF_len xs t k
    obtain ⟨ys, hys⟩ : ∃ ys, ys = dbF xs t k := ⟨_, rfl⟩
    rw [← hys] at hown e1 hyl
    have hr' := hr.but hN hne
    by_cases hlt : k < n
    · have hob := hown.lt
      go_wp2_with fail
      refine (l1NextV_any wr s g a c xs (t + (k : Int)) 256 hS hr' hne hb hl (by omega) (by omega) (by decide) (by decide)).mono ?_
      rintro e w1 ⟨rfl, ⟨r0, r1⟩, S1, O1⟩
      obtain ⟨r, hrr⟩ : ∃ r, r = nxF xs (t + (k : Int)) 256 := ⟨_, rfl⟩
      rw [← hrr] at r0 r1 e1 ⊢
      clear hys hrr
      have N1 := hN.only O1
      have hown1 := hown.kept O1.grown (by
        cases hv : Value.ownBlock _ with
        | none => exact .inl rfl
        | some q => exact .inr (fun e => by have := (hob q hv).1; simp at e; omega))
      have m1 : r % 256 = r := by omega
      have sz := N1.size
      clear hown hS hN O1 hr'
      go_wp2_with (at_builtin; refine wpList_append_own _ rfl _ _ 22 rfl w.heap.size 5 i0 (.int .u8 0) 1 1 Tryd.underlying22 hi hz0 hz1 hz2 rfl (by decide) _ k (ys.map (Value.int .u8)) rfl (hown1.alloc _) ⟨w1.heap.size, 0, none⟩ 1 1 [.int .u8 r] rfl rfl ?c1 ?c2 ?c3 ?c4 ?c5 ?_)
      case c1 =>
        intro j u hj
        match j, hj with
        | 0, hj => simp at hj; subst hj; simp [Addr.add]
      case c2 => intro u hu; simp at hu; subst hu; rfl
      case c3 => unfold maxLen; omega
      case c4 => omega
      case c5 => simp; omega
      · intro v' w2 hown2 hgrow _
        have nA : But s w (w1.alloc (.cells #[.int .u8 r] 5)) := N1.trans (But.ofBelow ((Below.refl _ _).alloc (Nat.le_refl _) _))
        have N2 := nA.grown hgrow (fun i hi => (hob i hi).1)
        have S2 : Src w2 s a xs.length c (t + ((k + 1 : Nat) : Int)) := by
          have := (S1.up ((Below.refl _ _).alloc (Nat.le_refl _) (.cells #[.int .u8 r] 5))).of_block (hgrow.block s (by simp; omega) (fun e => by have := (hob s e.symm).1; omega))
          rw [show t + ((k + 1 : Nat) : Int) = t + (k : Int) + 1 by omega]
          exact this
        have hown3 : w2.ownsRow w.heap.size 5 1 v' (k + 1) ((ys ++ [r]).map (Value.int .u8)) := by simpa using hown2
        rw [← e1] at hown3
        clear hown1 hown2 hgrow N1 S1 nA hob
        go_wp2
        go_roundw
        case rel => exact ⟨k + 1, by omega, by go_num, hown3, S2, N2⟩
        case measure => simp [intOf]; omega
    · obtain rfl : k = n := by omega
      have HY := hide hys
      clear hys e1
      have hown' := hown
      rw [← hyl.out] at hown'
      obtain ⟨a', c', g', hv, o1, o2, o3, o4⟩ := Own.of_ownsRow hown'
      subst hv
      clear hown hown'
      go_wp2
      go_ret
      obtain rfl := HY.out
      exact ⟨⟨_, _, g', rfl, o1, o2, o3, o4⟩, hS, hN⟩

set_option maxHeartbeats 400000 in
theorem l1ChanceV_any (w : World) (s g : Nat) (a : Option Addr) (c : Nat) (xs : List Int) (t n : Int) (hs : Src w s a xs.length c t) (hr : Rd w g a .u8 xs) (hne : 0 < xs.length → g ≠ s) (hb : Byt xs) (hl : xs.length ≤ 4194304)
    (t0 : 0 ≤ t) (t1 : t ≤ 1048576) (n0 : 1 ≤ n) (n1 : n ≤ 1048576) :
    Calls Tryd.prog 44 #[.pointer (some ⟨s, 0, none⟩), .int .i64 n] w fun e w' => e = .returned (.bool (nxF xs t n == 0)) ∧ Src w' s a xs.length c (t + 1) ∧ Only s w w' := by
  go_enter Tryd.func44, Tryd.ntmps44
  go_wp2_with fail
  refine (l1NextV_any w s g a c xs t n hs hr hne hb hl t0 t1 n0 n1).mono ?_
  rintro e w1 ⟨rfl, _, S1, O1⟩
  go_wp2
  go_ret
  exact ⟨rfl, S1, O1⟩

end Go.Proofs.YtnaaanefndeafaaDoor

/-
  The model's numbers of int64, and its l5Small, told as values.
-/
namespace Go.Proofs.YtnaaanefndeafaaDoor
set_option maxRecDepth 100000
open Go Go.RowKit

/-- The bytes of a number below 65536, the highest first. -/
def inF (v : Int) : List Int := if v = 0 then [] else if v < 256 then [v] else [v / 256, v % 256]
def InS (v t : Int) (ys : List Int) : Prop := (ys = [] ∧ t = v) ∨ (ys = [v % 256] ∧ t = v / 256 ∧ 0 < v) ∨ (ys = [v % 256, v / 256] ∧ t = 0 ∧ 256 ≤ v)
theorem InS.go {v t : Int} {ys : List Int} (h : InS v t ys) (h0 : 0 < t) (hv : v < 65536) : InS v (t / 256) (ys ++ [t % 256]) := by
  rcases h with ⟨rfl, rfl⟩ | ⟨rfl, rfl, h1⟩ | ⟨rfl, rfl, h1⟩
  · exact Or.inr (Or.inl ⟨rfl, rfl, h0⟩)
  · refine Or.inr (Or.inr ⟨?_, by omega, by omega⟩)
    rw [show v / 256 % 256 = v / 256 by omega]
    rfl
  · omega
theorem InS.short {v t : Int} {ys : List Int} (h : InS v t ys) (h0 : 0 < t) (hv : v < 65536) : ys.length + 1 ≤ 2 := by
  rcases h with ⟨rfl, rfl⟩ | ⟨rfl, rfl, h1⟩ | ⟨rfl, rfl, h1⟩
  · simp
  · simp
  · omega
theorem InS.turn {v : Int} {ys zs : List Int} (h : InS v 0 ys) (v0 : 0 ≤ v) (hv : v < 65536) (z : TurnTo ys zs ys.length) : zs = inF v := by
  obtain ⟨z1, z2⟩ := z
  unfold inF
  rcases h with ⟨rfl, rfl⟩ | ⟨rfl, h2, h1⟩ | ⟨rfl, _, h1⟩
  · rw [if_pos rfl]
    exact List.eq_nil_of_length_eq_zero z1
  · rw [if_neg (by omega), if_pos (by omega)]
    match zs, z1 with
    | [x], _ =>
      have := z2 0 (by simp)
      simp at this
      rw [this, show v % 256 = v by omega]
  · rw [if_neg (by omega), if_neg (by omega)]
    match zs, z1 with
    | [x, y], _ =>
      have a := z2 0 (by simp)
      have b := z2 1 (by simp)
      simp at a b
      rw [a, b]
theorem inF_byt {v : Int} (h0 : 0 ≤ v) (h1 : v < 65536) : Byt (inF v) ∧ (inF v).length ≤ 2 := by
  unfold inF
  split
  · exact ⟨byt_nil, by simp⟩
  · split
    · exact ⟨byt_snoc (ys := []) byt_nil v h0 (by omega), by simp⟩
    · exact ⟨byt_snoc (ys := [v / 256]) (byt_snoc (ys := []) byt_nil _ (by omega) (by omega)) _ (by omega) (by omega), by simp⟩
set_option maxHeartbeats 2000000 in
theorem l1IntV_any (w : World) (v : Int) (v0 : 0 ≤ v) (v1 : v < 65536) :
    Calls Tryd.prog 43 #[.int .i64 v] w fun e w' => NewRow w.heap.size w' e .u8 (inF v) ∧ Below w.heap.size w w' := by
  obtain ⟨i0, hi, hz0, hz1, hz2⟩ := info_parts Tryd.info5
  have hown0 : (w.alloc (.cells #[] 5)).ownsRow w.heap.size 5 1 (.slice (some ⟨w.heap.size, 0, none⟩) 0 0) 0 [] := World.ownsRow_lit w #[] 0 (Nat.le_refl _) (by unfold maxLen; omega) (by simp)
  have hal : Below w.heap.size w (w.alloc (.cells #[] 5)) := (Below.refl _ _).alloc (Nat.le_refl _) _
  go_enter Tryd.func43, Tryd.ntmps43
  go_wp2
  go_loopw [0, 3] (fun q ov wr => ∃ (k : Nat) (t : Int) (ys : List Int), q = .int .i64 t ∧ 0 ≤ t ∧ t < 65536 ∧ k ≤ 2 ∧ Hid (InS v t ys) ∧ Hid (ys.length = k) ∧ Byt ys ∧ wr.ownsRow w.heap.size 5 1 ov k (ys.map (Value.int .u8)) ∧ Below w.heap.size w wr) (fun q _ _ => (intOf q).toNat)
  case atStart => exact ⟨0, v, [], rfl, v0, v1, by omega, Or.inl ⟨rfl, rfl⟩, rfl, byt_nil, hown0, hal⟩
  case round =>
    obtain ⟨k, t, ys, rfl, ht0, ht1, hk1, hI, hyl, hyb, hown, hN⟩ := hrel
    have hob := hown.lt
    by_cases hlt : 0 < t
    · have hI2 := hide (InS.go hI.out hlt v1)
      have hk2 : k + 1 ≤ 2 := by have := InS.short hI.out hlt v1; rw [hyl.out] at this; exact this
      have c0 : 0 ≤ t % 256 := by omega
      have c1 : t % 256 < 256 := by omega
      obtain ⟨u, hu⟩ : ∃ u, u = t % 256 := ⟨_, rfl⟩
      rw [← hu] at hI2 c0 c1
      have hu2 := hu.symm
      clear hk1 hI hu
      go_wp2_with (at_builtin; refine wpList_append_own _ rfl _ _ 22 rfl w.heap.size 5 i0 (.int .u8 0) 1 1 Tryd.underlying22 hi hz0 hz1 hz2 rfl (by decide) _ k (ys.map (Value.int .u8)) rfl (hown.alloc _) ⟨wr.heap.size, 0, none⟩ 1 1 [.int .u8 u] rfl rfl ?c1 ?c2 ?c3 ?c4 ?c5 ?_)
      case c1 =>
        intro j x hj
        match j, hj with
        | 0, hj => simp at hj; subst hj; simp [Addr.add]
      case c2 => intro x hx; simp at hx; subst hx; rfl
      case c3 => unfold maxLen; omega
      case c4 => omega
      case c5 => simp; have := hN.size; omega
      · intro v' w2 hown2 hgrow _
        have nA : Below w.heap.size w (wr.alloc (.cells #[.int .u8 u] 5)) := hN.alloc hN.size _
        have N2 : Below w.heap.size w w2 := nA.grown hgrow (by simp; have := hN.size; omega) (fun i hi => (hob i hi).1)
        have hown3 : w2.ownsRow w.heap.size 5 1 v' (k + 1) ((ys ++ [u]).map (Value.int .u8)) := by simpa using hown2
        have hl3 : Hid ((ys ++ [u]).length = k + 1) := by show _ = _; have := hyl.out; simp; omega
        have hb3 := byt_snoc hyb u c0 c1
        clear hown hown2 hgrow nA hob
        go_wp2
        go_roundw
        case rel => exact ⟨k + 1, t / 256, ys ++ [u], rfl, by omega, by omega, hk2, hI2, hl3, hb3, hown3, N2⟩
        case measure => simp [intOf]; omega
    · obtain rfl : t = 0 := by omega
      have hown' := hown
      rw [← hyl.out] at hown'
      obtain ⟨a', c', g', hv, o1, o2, o3, o4⟩ := Own.of_ownsRow hown'
      subst hv
      have L : ys.length ≤ 2 := by rw [hyl.out]; exact hk1
      have T := l1Turn_any wr g' a' c' ys o1.rd hyb (by omega)
      have HT := hide T
      clear hown hown' T
      go_wp2_with fail
      refine (unhide HT).mono ?_
      rintro e w3 ⟨zs, zt, zb, ⟨a3, c3, g3, rfl, o31, o32, o33, o34⟩, n3⟩
      have ZI := hide (InS.turn hI.out v0 v1 zt)
      clear zt hI
      have N3 := nxt hN n3
      have sz := hN.size
      go_wp2
      go_ret
      rw [← ZI.out]
      exact ⟨⟨_, _, g3, rfl, o31, o32, o33, by omega⟩, N3⟩

/-- The bytes of a number, the highest first and none of them 0. -/
def topG : Nat → Int → List Int
  | 0, _ => []
  | n + 1, v => if v ≤ 0 then [] else topG n (v / 256) ++ [v % 256]
def topF (v : Int) : List Int := topG v.toNat v
theorem topG_is : ∀ (n : Nat) (v : Int), 0 ≤ v → v.toNat ≤ n → Canon (topG n v) v
  | 0, v, h, k => by
    obtain rfl : v = 0 := by omega
    exact ⟨byt_nil, rfl, fun h => absurd h (by simp [topG])⟩
  | n + 1, v, h, k => by
    rw [topG]
    by_cases c : v ≤ 0
    · rw [if_pos c]
      obtain rfl : v = 0 := by omega
      exact ⟨byt_nil, rfl, fun h => absurd h (by simp)⟩
    · rw [if_neg c]
      obtain ⟨b, e, t⟩ := topG_is n (v / 256) (by omega) (by omega)
      refine ⟨byt_snoc b _ (by omega) (by omega), by rw [bval_snoc, e]; omega, fun _ => ?_⟩
      generalize topG n (v / 256) = ys at *
      cases ys with
      | nil =>
        have e0 : (0 : Int) = v / 256 := e
        show v % 256 ≠ 0
        omega
      | cons x xs => exact t (by simp)
theorem topF_eq {t : List Int} {v : Int} (h : Canon t v) : topF v = t := (topG_is _ _ (h.2.1 ▸ bval_nonneg h.1) (Nat.le_refl _)).uniq h
/-- A point by a number. -/
def tmP (ks xs ys : List Int) : W3 := acc dE (num xs, num ys, 1) (bitOf (topF (lsum (fun j => ks.getD j 0) ks.length))) (8 * (topF (lsum (fun j => ks.getD j 0) ks.length)).length)
def plX (p : W3) : List Int := fill (byt (p.1 * iv p.2.2 % PP)) 32
def plY (p : W3) : List Int := fill (byt (p.2.1 * iv p.2.2 % PP)) 32
def E3F (p : W3) : Fact := ⟨fun v _ => ∃ x y z, v = ag48 x y z ∧ (L16 x ∧ s16 x 16 % PP = p.1 % PP) ∧ (L16 y ∧ s16 y 16 % PP = p.2.1 % PP) ∧ (L16 z ∧ s16 z 16 % PP = p.2.2 % PP), fun _ h => h⟩
section
variable {ops : Array Oper} {Q : Exit → Act → World → Prop} {md : Region.Mode} {F : Nat → Fact} {a0 : Act} {w0 : World} {i : Nat} {o : Oper} {ts : Array TypeId}
theorem step_intV (hi : ops[i]? = some o) (p j : Nat) (v : Int) (hv : 0 ≤ v ∧ v < 65536) (hop : o.op = .call { callee := .value (.func 43), args := #[.tmp p], argTypes := ts })
    (hj : waits md ops i j p = true) (hFj : F j = Fact.eq (.int .i64 v)) (hFi : F i = RN w0 (fun xs => xs = inF v)) : StepOk Tryd.prog md ops Q F a0 w0 i := by
  refine step_call hi _ _ ts hop en_int fun a w _ hw hF => ?_
  have ea := hF j p hj
  rw [hFj] at ea
  have e1 : a.tmps.getD p undef = .int .i64 v := ea
  show Calls Tryd.prog 43 #[a.tmps.getD p undef] w _
  rw [e1]
  refine (l1IntV_any w v hv.1 hv.2).mono ?_
  rintro r w' ⟨⟨b, c, g, rfl, ow, k1, k2, hg⟩, hn⟩
  rw [hFi]
  exact ⟨_, rfl, hn, inF v, b, c, g, rfl, ow, Nat.le_trans hw.size hg, rfl, k1, k2⟩
theorem step_litV (hi : ops[i]? = some o) (p j : Nat) {zs : List Int} (hop : o.op = .call { callee := .value (.func 42), args := #[.tmp p, .const (.int .i64 32)], argTypes := ts })
    (hj : waits md ops i j p = true) (hz : Byt zs ∧ zs.length ≤ 2) (hFj : F j = RN w0 (fun xs => xs = zs)) (hFi : F i = RN w0 (fun xs => xs = fill (dig zs) 32)) : StepOk Tryd.prog md ops Q F a0 w0 i := by
  refine step_call hi _ _ ts hop en_little fun a w _ hw hF => ?_
  have ea := hF j p hj
  rw [hFj] at ea
  obtain ⟨xs, b, c, g, e1, ow, hg, rfl, k1, k2⟩ := ea
  show Calls Tryd.prog 42 #[a.tmps.getD p undef, .int .i64 32] w _
  rw [e1]
  refine (l1Little_any w g b c xs 32 ow.rd hz.1 (by omega) (by omega)).mono ?_
  rintro r w' ⟨rfl, B, hn⟩
  rw [hFi]
  exact ⟨_, rfl, hn, fill (dig xs) 32, _, 32, w.heap.size, by rw [fill_len], B.own0, hw.size, rfl, by simp, by rw [fill_len]; omega⟩
theorem step_timesV (hi : ops[i]? = some o) (p q j k : Nat) {ks f g : List Int} (hop : o.op = .call { callee := .value (.func 27), args := #[.tmp p, .tmp q], argTypes := ts })
    (hj : waits md ops i j p = true) (hk : waits md ops i k q = true) (hks : Byt ks ∧ ks.length ≤ 4096) (hf : PtOk f g) (hFj : F j = RN w0 (fun xs => xs = ks)) (hFk : F k = PT w0 (fun xs ys => xs = f ∧ ys = g)) (hFi : F i = E3F (tmP ks f g)) : StepOk Tryd.prog md ops Q F a0 w0 i := by
  refine step_call hi _ _ ts hop en_times fun a w _ _ hF => ?_
  have ea := hF j p hj
  have eb := hF k q hk
  rw [hFj] at ea
  rw [hFk] at eb
  obtain ⟨ks, b, c, h, e1, ow, _, rfl, _, _⟩ := ea
  obtain ⟨xs, ys, b1, b2, c1, c2, h1, h2, e2, o1, o2, _, _, rfl, rfl⟩ := eb
  show Calls Tryd.prog 27 #[a.tmps.getD p undef, a.tmps.getD q undef] w _
  rw [e1, e2]
  refine (l5Times_any w h h1 h2 b b1 b2 c c1 c2 ks xs ys ow.rd hks.1 hks.2 o1.rd o2.rd hf.1.1 hf.2.1 hf.1.2 hf.2.2).mono ?_
  rintro r w' ⟨top, P, x, y, z, hc, hP, rfl, hx, hy, hz, hn⟩
  rw [hFi]
  have e : tmP ks xs ys = P := by unfold tmP; rw [topF_eq hc, hP]
  rw [e]
  exact ⟨_, rfl, hn, x, y, z, rfl, hx, hy, hz⟩
theorem step_plainV (hi : ops[i]? = some o) (p j : Nat) {P : W3} (hop : o.op = .call { callee := .value (.func 26), args := #[.tmp p], argTypes := ts })
    (hj : waits md ops i j p = true) (hFj : F j = E3F P) (hFi : F i = PT w0 (fun xs ys => xs = plX P ∧ ys = plY P)) : StepOk Tryd.prog md ops Q F a0 w0 i := by
  refine step_call hi _ _ ts hop en_plain fun a w _ hw hF => ?_
  have ea := hF j p hj
  rw [hFj] at ea
  obtain ⟨x, y, z, e1, hx, hy, hz⟩ := ea
  show Calls Tryd.prog 26 #[a.tmps.getD p undef] w _
  rw [e1]
  refine (l5Plain_any w x y z _ _ _ hx hy hz).mono ?_
  rintro r w' ⟨⟨b, b', c, c', g, g', rfl, o1, o2, l1, l2⟩, hn⟩
  rw [hFi]
  exact ⟨_, rfl, hn, _, _, b, b', c, c', g, g', rfl, o1, o2, Nat.le_trans hw.size l1, Nat.le_trans hw.size l2, rfl, rfl⟩
theorem step_zeroV (hi : ops[i]? = some o) (hop : o.op = .call { callee := .value (.func 106), args := #[], argTypes := ts }) (hFi : F i = PT w0 (fun xs ys => xs = fill (byt (0 % PP)) 32 ∧ ys = fill (byt (1 % PP)) 32)) : StepOk Tryd.prog md ops Q F a0 w0 i := by
  refine step_call hi _ _ ts hop en_zero fun a w _ hw _ => ?_
  refine (pointZero_any w).mono ?_
  rintro r w' ⟨⟨b, b', c, c', g, g', rfl, o1, o2, l1, l2⟩, hn⟩
  rw [hFi]
  exact ⟨_, rfl, hn, _, _, b, b', c, c', g, g', rfl, o1, o2, Nat.le_trans hw.size l1, Nat.le_trans hw.size l2, rfl, rfl⟩
end
def sqA : Int := ((1) + (rootV ((1) + (dE)))) * (iv (dE))
def sqB : Int := ((1) - (rootV ((1) + (dE)))) * (iv (dE))
def ptA : List Int × List Int := (fill (byt (rootV sqA % PP)) 32, fill (byt (rootV sqA * rootV (0 - 1) % PP)) 32)
def ptB : List Int × List Int := (fill (byt (rootV sqB % PP)) 32, fill (byt (rootV sqB * rootV (0 - 1) % PP)) 32)
theorem ptA_ok : PtOk ptA.1 ptA.2 := ⟨⟨bytes_5 _ _, fill_len _ _⟩, bytes_5 _ _, fill_len _ _⟩
theorem ptB_ok : PtOk ptB.1 ptB.2 := ⟨⟨bytes_5 _ _, fill_len _ _⟩, bytes_5 _ _, fill_len _ _⟩
/-- One of the eight small points. -/
def smP (k : Int) : List Int × List Int :=
  if rootB sqA = true then (plX (tmP (fill (dig (inF k)) 32) ptA.1 ptA.2), plY (tmP (fill (dig (inF k)) 32) ptA.1 ptA.2))
  else if rootB sqB = true then (plX (tmP (fill (dig (inF k)) 32) ptB.1 ptB.2), plY (tmP (fill (dig (inF k)) 32) ptB.1 ptB.2))
  else (fill (byt (0 % PP)) 32, fill (byt (1 % PP)) 32)
theorem pl_ok (p : W3) : PtOk (plX p) (plY p) := ⟨⟨bytes_5 _ _, fill_len _ _⟩, bytes_5 _ _, fill_len _ _⟩
theorem smP_ok (k : Int) : PtOk (smP k).1 (smP k).2 := by
  unfold smP
  generalize rootB sqA = p
  generalize rootB sqB = q
  cases p
  · cases q
    · exact ⟨⟨bytes_5 _ _, fill_len _ _⟩, bytes_5 _ _, fill_len _ _⟩
    · exact pl_ok _
  · exact pl_ok _
set_option maxHeartbeats 4000000 in
theorem l5SmallV_any (w : World) (k : Int) (k0 : 0 ≤ k) (k1 : k ≤ 255) :
    Calls Tryd.prog 83 #[.int .i64 k] w fun r w' => NewPt w.heap.size w' r (smP k).1 (smP k).2 ∧ Below w.heap.size w w' := by
  go_enter Tryd.func83, Tryd.ntmps83
  go_upto_region 1 with fail
  change Code.wp _ _ _ _ (w.alloc pObj)
  have TR := there_p w
  have N : Below w.heap.size w (w.alloc pObj) := (Below.refl _ _).alloc (Nat.le_refl _) _
  generalize w.alloc pObj = wr at *
  have zr := there_lt (by omega) TR
  refine region_new16 2 1 0 3 10 _ (fun i => [EL dE, NB wr 16].getD i Fact.no) (dE) (by kernel_rfl) rfl rfl rfl (by kernel_rfl) (by kernel_rfl) rfl rfl ?_ ?_
  · intro i hi
    obtain rfl | rfl : i = 0 ∨ i = 1 := by omega
    · exact step_d rfl rfl rfl
    · exact step_new16 rfl rfl rfl
  intro vs1 q3 W1 v3 h3 n1 E3' T3
  have mn1 := n1.size
  replace TR := there_up (by omega) TR n1
  replace N := nxt N n1
  clear n1 T3
  simp only [puts, v3, Act.put, List.setIfInBounds_toArray, List.set_cons_succ, List.set_cons_zero]
  clear v3
  go_upto_region 2 with fail
  refine region_new16 9 7 6 5 17 _ (fun i => [EL 0, EL 1, EL ((0) - (1)), RT ((0) - (1)), RT ((0) - (1)), Fact.eq (.bool (rootB ((0) - (1)))), EL (rootV ((0) - (1))), NB W1 16, Fact.eq (.bool (rootB ((0) - (1))))].getD i Fact.no) (rootV ((0) - (1))) (by kernel_rfl) rfl rfl rfl (by kernel_rfl) (by kernel_rfl) rfl rfl ?_ ?_
  · intro i hi
    obtain rfl | rfl | rfl | rfl | rfl | rfl | rfl | rfl | rfl : i = 0 ∨ i = 1 ∨ i = 2 ∨ i = 3 ∨ i = 4 ∨ i = 5 ∨ i = 6 ∨ i = 7 ∨ i = 8 := by omega
    · exact step_small rfl 0 (by omega) rfl rfl
    · exact step_small rfl 1 (by omega) rfl rfl
    · exact step_sub rfl 12 13 0 1 _ _ rfl (by kernel_rfl) (by kernel_rfl) rfl rfl rfl
    · exact step_root rfl 14 2 _ rfl (by kernel_rfl) rfl rfl
    · exact step_move rfl 15 3 (by exact Or.inl rfl) (by kernel_rfl) rfl
    · exact step_ext0 rfl 11 4 _ rfl (by kernel_rfl) rfl rfl
    · exact step_ext1 rfl 11 4 _ rfl (by kernel_rfl) rfl rfl
    · exact step_new16 rfl rfl rfl
    · exact step_move rfl 16 5 (by exact Or.inr rfl) (by kernel_rfl) rfl
  intro vs2 q5 W2 v5 h5 n2 E5 T5
  have y5 := E5.lt
  have mn2 := n2.size
  replace E3' := E3'.up n2
  replace TR := there_up (by omega) TR n2
  replace N := nxt N n2
  clear n2 T5
  simp only [puts, v5, Act.put, List.setIfInBounds_toArray, List.set_cons_succ, List.set_cons_zero]
  clear v5
  go_upto_region 3 with fail
  refine region_new16 9 7 6 7 24 _ (fun i => [EL 1, EL (dE), EL ((1) + (dE)), RT ((1) + (dE)), RT ((1) + (dE)), Fact.eq (.bool (rootB ((1) + (dE)))), EL (rootV ((1) + (dE))), NB W2 16, Fact.eq (.bool (rootB ((1) + (dE))))].getD i Fact.no) (rootV ((1) + (dE))) (by kernel_rfl) rfl rfl rfl (by kernel_rfl) (by kernel_rfl) rfl rfl ?_ ?_
  · intro i hi
    obtain rfl | rfl | rfl | rfl | rfl | rfl | rfl | rfl | rfl : i = 0 ∨ i = 1 ∨ i = 2 ∨ i = 3 ∨ i = 4 ∨ i = 5 ∨ i = 6 ∨ i = 7 ∨ i = 8 := by omega
    · exact step_small rfl 1 (by omega) rfl rfl
    · exact step_el rfl 43 3 rfl Go.Proofs.YtnaaanefndeafaaDoor.u50 i50 (by kernel_rfl) _ _ rfl _ E3' rfl
    · exact step_add rfl 19 20 0 1 _ _ rfl (by kernel_rfl) (by kernel_rfl) rfl rfl rfl
    · exact step_root rfl 21 2 _ rfl (by kernel_rfl) rfl rfl
    · exact step_move rfl 22 3 (by exact Or.inl rfl) (by kernel_rfl) rfl
    · exact step_ext0 rfl 18 4 _ rfl (by kernel_rfl) rfl rfl
    · exact step_ext1 rfl 18 4 _ rfl (by kernel_rfl) rfl rfl
    · exact step_new16 rfl rfl rfl
    · exact step_move rfl 23 5 (by exact Or.inr rfl) (by kernel_rfl) rfl
  intro vs3 q7 W3' v7 h7 n3 E7 T7
  have mn3 := n3.size
  replace E3' := E3'.up n3
  replace E5 := E5.up n3
  replace TR := there_up (by omega) TR n3
  replace N := nxt N n3
  clear n3 T7
  simp only [puts, v7, Act.put, List.setIfInBounds_toArray, List.set_cons_succ, List.set_cons_zero]
  clear v7
  go_upto_region 4 with fail
  refine region_new16F 12 10 9 9 34 _ (fun i => [EL 1, EL (rootV ((1) + (dE))), EL ((1) + (rootV ((1) + (dE)))), EL (dE), EL (iv (dE)), EL (sqA), RT (sqA), RT (sqA), Fact.eq (.bool (rootB (sqA))), EL (rootV (sqA)), NB W3' 16, Fact.eq (.bool (rootB (sqA)))].getD i Fact.no) (rootV (sqA)) (by kernel_rfl) rfl rfl rfl (by kernel_rfl) (by kernel_rfl) rfl rfl ?_ ?_
  · intro i hi
    obtain rfl | rfl | rfl | rfl | rfl | rfl | rfl | rfl | rfl | rfl | rfl | rfl : i = 0 ∨ i = 1 ∨ i = 2 ∨ i = 3 ∨ i = 4 ∨ i = 5 ∨ i = 6 ∨ i = 7 ∨ i = 8 ∨ i = 9 ∨ i = 10 ∨ i = 11 := by omega
    · exact step_small rfl 1 (by omega) rfl rfl
    · exact step_el rfl 43 7 rfl Go.Proofs.YtnaaanefndeafaaDoor.u50 i50 (by kernel_rfl) _ _ rfl _ E7 rfl
    · exact step_add rfl 26 27 0 1 _ _ rfl (by kernel_rfl) (by kernel_rfl) rfl rfl rfl
    · exact step_el rfl 43 3 rfl Go.Proofs.YtnaaanefndeafaaDoor.u50 i50 (by kernel_rfl) _ _ rfl _ E3' rfl
    · exact step_inv rfl 29 3 _ rfl (by kernel_rfl) rfl rfl
    · exact step_mul rfl 28 30 2 4 _ _ rfl (by kernel_rfl) (by kernel_rfl) rfl rfl rfl
    · exact step_root rfl 31 5 _ rfl (by kernel_rfl) rfl rfl
    · exact step_move rfl 32 6 (by exact Or.inl rfl) (by kernel_rfl) rfl
    · exact step_ext0 rfl 25 7 _ rfl (by kernel_rfl) rfl rfl
    · exact step_ext1 rfl 25 7 _ rfl (by kernel_rfl) rfl rfl
    · exact step_new16 rfl rfl rfl
    · exact step_move rfl 33 8 (by exact Or.inr rfl) (by kernel_rfl) rfl
  intro vs4 q9 W4 v9 h9 n4 E9 T9 hF
  obtain ⟨_, v8⟩ := hF 11 8 (by kernel_rfl)
  clear hF
  have mn4 := n4.size
  replace E3' := E3'.up n4
  replace E5 := E5.up n4
  replace E7 := E7.up n4
  replace TR := there_up (by omega) TR n4
  replace N := nxt N n4
  have y9 := E9.lt
  have y3 := E3'.lt
  have r5 : q5 ≠ q9 := by omega
  clear n4
  change vs4 8 = .bool (rootB _) at v8
  simp only [puts, v9, v8, Act.put, List.setIfInBounds_toArray, List.set_cons_succ, List.set_cons_zero]
  clear v9 v8
  cases hA : rootB (sqA) with
  | true =>
    have HS : Hid (smP k = (plX (tmP (fill (dig (inF k)) 32) ptA.1 ptA.2), plY (tmP (fill (dig (inF k)) 32) ptA.1 ptA.2))) := by show _ = _; unfold smP; rw [if_pos hA]
    clear hA
    go_upto_region 9 with fail
    refine region_putP 12 11 2 61 _ (fun i => [Fact.eq (.int .i64 k), RN W4 (fun xs => xs = inF k), RN W4 (fun xs => xs = fill (dig (inF k)) 32), EL (rootV (sqA)), RN W4 (fun xs => xs = fill (byt ((rootV (sqA)) % PP)) 32), EL (rootV (sqA)), EL (rootV ((0) - (1))), EL ((rootV (sqA)) * (rootV ((0) - (1)))), RN W4 (fun xs => xs = fill (byt (((rootV (sqA)) * (rootV ((0) - (1)))) % PP)) 32), PT W4 (fun xs ys => xs = fill (byt ((rootV (sqA)) % PP)) 32 ∧ ys = fill (byt (((rootV (sqA)) * (rootV ((0) - (1)))) % PP)) 32), E3F (tmP (fill (dig (inF k)) 32) ptA.1 ptA.2), PT W4 (fun xs ys => xs = plX (tmP (fill (dig (inF k)) 32) ptA.1 ptA.2) ∧ ys = plY (tmP (fill (dig (inF k)) 32) ptA.1 ptA.2))].getD i Fact.no) (fun xs ys => xs = plX (tmP (fill (dig (inF k)) 32) ptA.1 ptA.2) ∧ ys = plY (tmP (fill (dig (inF k)) 32) ptA.1 ptA.2)) _ (by kernel_rfl) rfl rfl rfl (by kernel_rfl) rfl TR (by kernel_rfl) rfl ?_ ?_
    · intro i hi
      obtain rfl | rfl | rfl | rfl | rfl | rfl | rfl | rfl | rfl | rfl | rfl | rfl : i = 0 ∨ i = 1 ∨ i = 2 ∨ i = 3 ∨ i = 4 ∨ i = 5 ∨ i = 6 ∨ i = 7 ∨ i = 8 ∨ i = 9 ∨ i = 10 ∨ i = 11 := by omega
      · exact step_mv0 rfl 0 (by kernel_rfl) (by kernel_rfl) rfl rfl
      · exact step_intV rfl 50 0 k ⟨k0, by omega⟩ rfl (by kernel_rfl) rfl rfl
      · exact step_litV rfl 51 1 rfl (by kernel_rfl) (inF_byt k0 (by omega)) rfl rfl
      · exact step_el rfl 43 9 rfl Go.Proofs.YtnaaanefndeafaaDoor.u50 i50 (by kernel_rfl) _ _ rfl _ E9 rfl
      · exact step_bytes rfl 53 3 _ rfl (by kernel_rfl) rfl rfl
      · exact step_el rfl 43 9 rfl Go.Proofs.YtnaaanefndeafaaDoor.u50 i50 (by kernel_rfl) _ _ rfl _ E9 rfl
      · exact step_el rfl 43 5 rfl Go.Proofs.YtnaaanefndeafaaDoor.u50 i50 (by kernel_rfl) _ _ rfl _ E5 rfl
      · exact step_mul rfl 55 56 5 6 _ _ rfl (by kernel_rfl) (by kernel_rfl) rfl rfl rfl
      · exact step_bytes rfl 57 7 _ rfl (by kernel_rfl) rfl rfl
      · exact step_bp rfl 54 58 4 8 _ _ rfl (by kernel_rfl) (by kernel_rfl) rfl rfl rfl
      · exact step_timesV rfl 52 59 2 9 rfl (by kernel_rfl) (by kernel_rfl) ⟨dig_bytes_5 (inF_byt k0 (by omega)).1 32, by rw [fill_len]; omega⟩ ptA_ok rfl rfl rfl
      · exact step_plainV rfl 60 10 rfl (by kernel_rfl) rfl rfl
    rintro vs9 W W' xs ys a a' c c' g g' n bq rg o1 o2 l1 l2 ⟨rfl, rfl⟩ nb
    have NS := nb w w.heap.size (nxt N n) (by omega)
    simp only [puts, Act.put, List.setIfInBounds_toArray, List.set_cons_succ, List.set_cons_zero]
    have z1 := N.size
    clear N n bq nb TR
    go_wp2
    obtain ⟨fs, hfs⟩ := uP
    exact bodyPost_ret (v := .agg #[_, _]) (results_cell_mid Tryd.results83 _ _ w.heap.size _ _ rfl rg hfs rfl iP) rfl ⟨by rw [HS.out]; exact ⟨a, a', c, c', g, g', rfl, o1, o2, by omega, by omega⟩, NS⟩
  | false =>
    have HA := hide hA
    clear hA
    go_upto_region 6 with fail
    refine region_put16F 11 9 9 46 _ (fun i => [EL 1, EL (rootV ((1) + (dE))), EL ((1) - (rootV ((1) + (dE)))), EL (dE), EL (iv (dE)), EL (sqB), RT (sqB), RT (sqB), Fact.eq (.bool (rootB (sqB))), EL (rootV (sqB)), Fact.eq (.bool (rootB (sqB)))].getD i Fact.no) (rootV (sqB)) _ (by kernel_rfl) rfl rfl rfl (by kernel_rfl) rfl T9 (by kernel_rfl) rfl ?_ ?_
    · intro i hi
      obtain rfl | rfl | rfl | rfl | rfl | rfl | rfl | rfl | rfl | rfl | rfl : i = 0 ∨ i = 1 ∨ i = 2 ∨ i = 3 ∨ i = 4 ∨ i = 5 ∨ i = 6 ∨ i = 7 ∨ i = 8 ∨ i = 9 ∨ i = 10 := by omega
      · exact step_small rfl 1 (by omega) rfl rfl
      · exact step_el rfl 43 7 rfl Go.Proofs.YtnaaanefndeafaaDoor.u50 i50 (by kernel_rfl) _ _ rfl _ E7 rfl
      · exact step_sub rfl 38 39 0 1 _ _ rfl (by kernel_rfl) (by kernel_rfl) rfl rfl rfl
      · exact step_el rfl 43 3 rfl Go.Proofs.YtnaaanefndeafaaDoor.u50 i50 (by kernel_rfl) _ _ rfl _ E3' rfl
      · exact step_inv rfl 41 3 _ rfl (by kernel_rfl) rfl rfl
      · exact step_mul rfl 40 42 2 4 _ _ rfl (by kernel_rfl) (by kernel_rfl) rfl rfl rfl
      · exact step_root rfl 43 5 _ rfl (by kernel_rfl) rfl rfl
      · exact step_move rfl 44 6 (by exact Or.inl rfl) (by kernel_rfl) rfl
      · exact step_ext0 rfl 37 7 _ rfl (by kernel_rfl) rfl rfl
      · exact step_ext1 rfl 37 7 _ rfl (by kernel_rfl) rfl rfl
      · exact step_move rfl 45 8 (by exact Or.inr rfl) (by kernel_rfl) rfl
    intro vs6 Wa W6 na bq E9n T9n nb hF
    obtain ⟨_, v8⟩ := hF 10 8 (by kernel_rfl)
    clear hF
    replace TR := there_but (by omega) TR bq (by omega)
    replace E5 := E5.but bq r5
    replace N := nb w w.heap.size (nxt N na) (by omega)
    clear bq nb na E9 E7 E3'
    have E9 := E9n
    change vs6 8 = .bool (rootB _) at v8
    simp only [puts, v8, Act.put, List.setIfInBounds_toArray, List.set_cons_succ, List.set_cons_zero]
    clear v8
    cases hB : rootB (sqB) with
    | true =>
      have HS : Hid (smP k = (plX (tmP (fill (dig (inF k)) 32) ptB.1 ptB.2), plY (tmP (fill (dig (inF k)) 32) ptB.1 ptB.2))) := by show _ = _; unfold smP; rw [if_neg (by rw [HA.out]; simp), if_pos hB]
      clear hB HA
      go_upto_region 9 with fail
      refine region_putP 12 11 2 61 _ (fun i => [Fact.eq (.int .i64 k), RN W6 (fun xs => xs = inF k), RN W6 (fun xs => xs = fill (dig (inF k)) 32), EL (rootV (sqB)), RN W6 (fun xs => xs = fill (byt ((rootV (sqB)) % PP)) 32), EL (rootV (sqB)), EL (rootV ((0) - (1))), EL ((rootV (sqB)) * (rootV ((0) - (1)))), RN W6 (fun xs => xs = fill (byt (((rootV (sqB)) * (rootV ((0) - (1)))) % PP)) 32), PT W6 (fun xs ys => xs = fill (byt ((rootV (sqB)) % PP)) 32 ∧ ys = fill (byt (((rootV (sqB)) * (rootV ((0) - (1)))) % PP)) 32), E3F (tmP (fill (dig (inF k)) 32) ptB.1 ptB.2), PT W6 (fun xs ys => xs = plX (tmP (fill (dig (inF k)) 32) ptB.1 ptB.2) ∧ ys = plY (tmP (fill (dig (inF k)) 32) ptB.1 ptB.2))].getD i Fact.no) (fun xs ys => xs = plX (tmP (fill (dig (inF k)) 32) ptB.1 ptB.2) ∧ ys = plY (tmP (fill (dig (inF k)) 32) ptB.1 ptB.2)) _ (by kernel_rfl) rfl rfl rfl (by kernel_rfl) rfl TR (by kernel_rfl) rfl ?_ ?_
      · intro i hi
        obtain rfl | rfl | rfl | rfl | rfl | rfl | rfl | rfl | rfl | rfl | rfl | rfl : i = 0 ∨ i = 1 ∨ i = 2 ∨ i = 3 ∨ i = 4 ∨ i = 5 ∨ i = 6 ∨ i = 7 ∨ i = 8 ∨ i = 9 ∨ i = 10 ∨ i = 11 := by omega
        · exact step_mv0 rfl 0 (by kernel_rfl) (by kernel_rfl) rfl rfl
        · exact step_intV rfl 50 0 k ⟨k0, by omega⟩ rfl (by kernel_rfl) rfl rfl
        · exact step_litV rfl 51 1 rfl (by kernel_rfl) (inF_byt k0 (by omega)) rfl rfl
        · exact step_el rfl 43 9 rfl Go.Proofs.YtnaaanefndeafaaDoor.u50 i50 (by kernel_rfl) _ _ rfl _ E9 rfl
        · exact step_bytes rfl 53 3 _ rfl (by kernel_rfl) rfl rfl
        · exact step_el rfl 43 9 rfl Go.Proofs.YtnaaanefndeafaaDoor.u50 i50 (by kernel_rfl) _ _ rfl _ E9 rfl
        · exact step_el rfl 43 5 rfl Go.Proofs.YtnaaanefndeafaaDoor.u50 i50 (by kernel_rfl) _ _ rfl _ E5 rfl
        · exact step_mul rfl 55 56 5 6 _ _ rfl (by kernel_rfl) (by kernel_rfl) rfl rfl rfl
        · exact step_bytes rfl 57 7 _ rfl (by kernel_rfl) rfl rfl
        · exact step_bp rfl 54 58 4 8 _ _ rfl (by kernel_rfl) (by kernel_rfl) rfl rfl rfl
        · exact step_timesV rfl 52 59 2 9 rfl (by kernel_rfl) (by kernel_rfl) ⟨dig_bytes_5 (inF_byt k0 (by omega)).1 32, by rw [fill_len]; omega⟩ ptB_ok rfl rfl rfl
        · exact step_plainV rfl 60 10 rfl (by kernel_rfl) rfl rfl
      rintro vs9 W W' xs ys a a' c c' g g' n bq rg o1 o2 l1 l2 ⟨rfl, rfl⟩ nb
      have NS := nb w w.heap.size (nxt N n) (by omega)
      simp only [puts, Act.put, List.setIfInBounds_toArray, List.set_cons_succ, List.set_cons_zero]
      have z1 := N.size
      clear N n bq nb TR
      go_wp2
      obtain ⟨fs, hfs⟩ := uP
      exact bodyPost_ret (v := .agg #[_, _]) (results_cell_mid Tryd.results83 _ _ w.heap.size _ _ rfl rg hfs rfl iP) rfl ⟨by rw [HS.out]; exact ⟨a, a', c, c', g, g', rfl, o1, o2, by omega, by omega⟩, NS⟩
    | false =>
      have HS : Hid (smP k = (fill (byt (0 % PP)) 32, fill (byt (1 % PP)) 32)) := by show _ = _; unfold smP; rw [if_neg (by rw [HA.out]; simp), if_neg (by rw [hB]; simp)]
      clear hB HA
      go_upto_region 8 with fail
      refine region_putP 1 0 2 49 _ (fun i => [PT W6 (fun xs ys => xs = fill (byt (0 % PP)) 32 ∧ ys = fill (byt (1 % PP)) 32)].getD i Fact.no) (fun xs ys => xs = fill (byt (0 % PP)) 32 ∧ ys = fill (byt (1 % PP)) 32) _ (by kernel_rfl) rfl rfl rfl (by kernel_rfl) rfl TR (by kernel_rfl) rfl ?_ ?_
      · intro i hi
        obtain rfl : i = 0 := by omega
        exact step_zeroV rfl rfl rfl
      rintro vs9 W W' xs ys a a' c c' g g' n bq rg o1 o2 l1 l2 ⟨rfl, rfl⟩ nb
      have NS := nb w w.heap.size (nxt N n) (by omega)
      simp only [puts, Act.put, List.setIfInBounds_toArray, List.set_cons_succ, List.set_cons_zero]
      have z1 := N.size
      clear N n bq nb TR
      go_wp2
      obtain ⟨fs, hfs⟩ := uP
      exact bodyPost_ret (v := .agg #[_, _]) (results_cell_mid Tryd.results83 _ _ w.heap.size _ _ rfl rg hfs rfl iP) rfl ⟨by rw [HS.out]; exact ⟨a, a', c, c', g, g', rfl, o1, o2, by omega, by omega⟩, NS⟩
end Go.Proofs.YtnaaanefndeafaaDoor

/-
  The model's l5Find.
-/
namespace Go.Proofs.YtnaaanefndeafaaDoor
set_option maxRecDepth 100000
open Go Go.RowKit

def inc0 (ys : List Int) : List Int := ys.set 0 ((ys.getD 0 0 + 1) % 256)
/-- The first point at or behind these bytes. -/
def fdP : Nat → List Int → List Int × List Int
  | 0, _ => (liX (4 * iv 5) false, liY (4 * iv 5) false)
  | n + 1, ys => if dcB ys = true then (dcX ys, dcY ys) else fdP n (inc0 ys)
theorem inc0_byt {ys : List Int} (h : Byt ys) : Byt (inc0 ys) := by
  intro i
  unfold inc0
  have := h i
  by_cases e : i = 0
  · subst e
    by_cases l : 0 < ys.length
    · simp [List.getD_eq_getElem?_getD, l]
      omega
    · simp [List.getD_eq_getElem?_getD, l]
  · rw [List.getD_eq_getElem?_getD, List.getElem?_set_ne (by omega), ← List.getD_eq_getElem?_getD]
    exact this
theorem inc0_len (ys : List Int) : (inc0 ys).length = ys.length := by unfold inc0; simp
theorem Two.of_block' {w w' : World} {p : Nat} {x y : Value} (h : Two w p x y) (hb : w'.heap[p]? = w.heap[p]?) : Two w' p x y :=
  ⟨(World.cell?_of_block (a := ⟨p, 0, none⟩) hb).trans h.c0, (World.cell?_of_block (a := ⟨p, 1, none⟩) hb).trans h.c1, (World.frozen?_of_block (a := ⟨p, 0, none⟩) hb).trans h.f0, (World.frozen?_of_block (a := ⟨p, 1, none⟩) hb).trans h.f1⟩
set_option maxHeartbeats 4000000 in
theorem l5Find_any (w : World) (g off c : Nat) (bs : List Int) (ho : Own w g (some ⟨g, off, none⟩) .u8 bs) (hb : Byt bs) (hl : bs.length = 32) :
    Calls Tryd.prog 86 #[.slice (some ⟨g, off, none⟩) 32 c] w fun r w' => NewPt w.heap.size w' r (fdP 40 bs).1 (fdP 40 bs).2 ∧ But g w w' := by
  have TZ : Two (w.alloc pObj) w.heap.size (.slice none 0 0) (.slice none 0 0) := Two.new w (.slice none 0 0) (.slice none 0 0) 26
  have N : But g w (w.alloc pObj) := But.ofBelow ((Below.refl _ _).alloc (Nat.le_refl _) _)
  have hg := ho.rd.lt (by omega)
  have ho := ho.up ((Below.refl _ _).alloc (Nat.le_refl _) pObj)
  obtain ⟨R, hR⟩ : ∃ R, R = fdP 40 bs := ⟨_, rfl⟩
  rw [← hR]
  go_enter Tryd.func86, Tryd.ntmps86
  go_upto_region 1 with fail
  change Code.wp _ _ _ _ (w.alloc pObj)
  generalize w.alloc pObj = wz at *
  go_wp2
  go_loopw [3] (fun i wr => ∃ (k : Nat) (ys : List Int), k ≤ 40 ∧ i = .int .i64 k ∧ Hid (R = fdP (40 - k) ys) ∧ Hid (ys.length = 32) ∧ Byt ys ∧ Own wr g (some ⟨g, off, none⟩) .u8 ys ∧ Two wr w.heap.size (.slice none 0 0) (.slice none 0 0) ∧ But g w wr) (fun i _ => 40 - (intOf i).toNat)
  case atStart => exact ⟨0, bs, by omega, rfl, hR, hl, hb, ho, TZ, N⟩
  case round =>
    obtain ⟨k, ys, hk, rfl, HR, HL, yb, yo, T2, NB⟩ := hrel
    by_cases hlt : k < 40
    · have DC := hide (specDecode_any wr g (some ⟨g, off, none⟩) c ys yo.rd yb (fun h => nomatch h))
      have zb := NB.size
      have zt := T2.lt
      rw [HL.out] at DC
      have HS : Hid (R = if dcB ys = true then (dcX ys, dcY ys) else fdP (40 - (k + 1)) (inc0 ys)) := by
        show _ = _
        rw [HR.out, show 40 - k = (40 - (k + 1)) + 1 by omega]
        rfl
      clear HR
      go_wp2_with fail
      refine DC.out.mono ?_
      rintro r w1 ⟨⟨a1, a1', c1, c1', g1, g1', rfl, o1, o1', l1, l1'⟩, n1⟩
      have z1 := n1.size
      replace yo := yo.up n1
      replace T2 := T2.up n1
      have TT := Tri.new w1 (.bool (dcB ys)) (.slice a1 (dcX ys).length c1) (.slice a1' (dcY ys).length c1') 37
      have n2 : Below w1.heap.size w1 (w1.alloc (.cells #[.bool (dcB ys), .slice a1 (dcX ys).length c1, .slice a1' (dcY ys).length c1'] 37)) := (Below.refl _ _).alloc (Nat.le_refl _) _
      replace yo := yo.up n2
      replace T2 := T2.up n2
      replace o1 := o1.up n2
      replace o1' := o1'.up n2
      replace NB := (NB.trans (But.ofBelow n1)).trans (But.ofBelow n2)
      have z2 := n2.size
      clear n1 n2 DC
      cases hd : dcB ys with
      | true =>
        have HR : Hid (R = (dcX ys, dcY ys)) := by show _ = _; rw [HS.out, if_pos hd]
        rw [hd] at TT z2 yo T2 o1 o1' NB
        clear HS hd
        obtain ⟨t0, t1, t2, u0, u1, u2⟩ := TT
        obtain ⟨y0, y1, v0, v1⟩ := T2
        generalize dcX ys = X at *
        generalize dcY ys = Y at *
        have O := fun W => (Only.setCell W w.heap.size 0 (.slice a1 X.length c1)).trans (Only.setCell _ w.heap.size 1 (.slice a1' Y.length c1'))
        go_wp2
        generalize w1.alloc (.cells #[.bool true, .slice a1 X.length c1, .slice a1' Y.length c1'] 37) = W at *
        refine bodyPost_ret (v := .agg #[.slice a1 X.length c1, .slice a1' Y.length c1']) (by simp [results, Tryd.results86, go_sem, y0, y1]) rfl ⟨?_, (NB.setCell (Nat.le_refl _)).setCell (Nat.le_refl _)⟩
        rw [HR.out]
        exact ⟨a1, a1', c1, c1', g1, g1', rfl, o1.only (O W) (fun _ => by omega), o1'.only (O W) (fun _ => by omega), by omega, by omega⟩
      | false =>
        have HR : Hid (R = fdP (40 - (k + 1)) (inc0 ys)) := by show _ = _; rw [HS.out, if_neg (by rw [hd]; simp)]
        rw [hd] at TT z2 yo T2 o1 o1' NB
        clear HS hd
        obtain ⟨t0, t1, t2, u0, u1, u2⟩ := TT
        obtain ⟨off', he, hc⟩ := id yo (by rw [HL.out]; decide)
        obtain rfl : off = off' := by simpa using he
        have x0 := (hc 0 (by rw [HL.out]; decide)).1
        have f0 := (hc 0 (by rw [HL.out]; decide)).2
        rw [Nat.add_zero] at x0 f0
        have b0 := yb 0
        have S1 := yo.store 0 (by rw [HL.out]; decide) ((ys.getD 0 0 + 1) % 256)
        rw [Nat.add_zero] at S1
        have IB := inc0_byt yb
        have IL := hide ((inc0_len ys).trans HL.out)
        have SO : Hid (Own ((w1.alloc (.cells #[.bool false, .slice a1 (dcX ys).length c1, .slice a1' (dcY ys).length c1'] 37)).setCell ⟨g, off, none⟩ (.int .u8 ((ys.getD 0 0 + 1) % 256))) g (some ⟨g, off, none⟩) .u8 (inc0 ys)) := S1
        clear S1 hc he yo o1 o1'
        generalize inc0 ys = zs at *
        generalize ys.getD 0 0 = y at *
        go_wp2
        go_roundw
        case rel => exact ⟨k + 1, zs, by omega, by go_num, HR, IL, IB, SO.out, T2.of_block' (heap_setCell_other _ ⟨g, off, none⟩ w.heap.size _ (by show w.heap.size ≠ g; omega)), NB.only (Only.setCell _ g off _)⟩
        case measure => simp [intOf]; omega
    · obtain rfl : k = 40 := by omega
      have HB : Hid (R = (liX (4 * iv 5) false, liY (4 * iv 5) false)) := HR.out
      have zt := T2.lt
      clear HR
      have SB := hide (specBase_any wr)
      generalize liX (4 * iv 5) false = X at *
      generalize liY (4 * iv 5) false = Y at *
      go_wp2_with fail
      refine SB.out.mono ?_
      rintro r w1 ⟨⟨a1, a1', c1, c1', g1, g1', rfl, o1, o1', l1, l1'⟩, n1⟩
      have T3 := T2.up n1
      have N3 := NB.trans (But.ofBelow n1)
      obtain ⟨y0, y1, v0, v1⟩ := T3
      have O := (Only.setCell w1 w.heap.size 0 (.slice a1 X.length c1)).trans (Only.setCell _ w.heap.size 1 (.slice a1' Y.length c1'))
      go_wp2
      refine bodyPost_ret (v := .agg #[.slice a1 X.length c1, .slice a1' Y.length c1']) (by simp [results, Tryd.results86, go_sem, y0, y1]) rfl ⟨?_, (N3.setCell (Nat.le_refl _)).setCell (Nat.le_refl _)⟩
      rw [HB.out]
      exact ⟨a1, a1', c1, c1', g1, g1', rfl, o1.only O (fun _ => by omega), o1'.only O (fun _ => by omega), by omega, by omega⟩
end Go.Proofs.YtnaaanefndeafaaDoor

/-
  The model's l5Draw, told as a value.
-/
namespace Go.Proofs.YtnaaanefndeafaaDoor
set_option maxRecDepth 100000
open Go Go.RowKit

theorem li_byt (A : Int) (odd : Bool) : Byt (liX A odd) ∧ Byt (liY A odd) := by
  unfold liX liY
  split
  · exact ⟨bytes_5 _ _, bytes_5 _ _⟩
  · exact ⟨byt_nil, byt_nil⟩
theorem Two.put0 {w : World} {p : Nat} {x y : Value} (h : Two w p x y) (u : Value) : Two (w.setCell ⟨p, 0, none⟩ u) p u y :=
  ⟨World.cell?_setCell_same _ _ _ h.c0, by rw [World.cell?_setCell_other (h := by simp)]; exact h.c1, by rw [World.frozen?_setCell]; exact h.f0, by rw [World.frozen?_setCell]; exact h.f1⟩
theorem Two.put1 {w : World} {p : Nat} {x y : Value} (h : Two w p x y) (u : Value) : Two (w.setCell ⟨p, 1, none⟩ u) p x u :=
  ⟨by rw [World.cell?_setCell_other (h := by simp)]; exact h.c0, World.cell?_setCell_same _ _ _ h.c1, by rw [World.frozen?_setCell]; exact h.f0, by rw [World.frozen?_setCell]; exact h.f1⟩
theorem Two.put {w : World} {p : Nat} {x y : Value} (h : Two w p x y) (u v : Value) : Two ((w.setCell ⟨p, 0, none⟩ u).setCell ⟨p, 1, none⟩ v) p u v := (h.put0 u).put1 v
def bsX : List Int := liX (4 * iv 5) false
def bsY : List Int := liY (4 * iv 5) false
theorem bs_byt : Byt bsX ∧ Byt bsY := li_byt _ _
theorem bs_ok : PtOk bsX bsY := by
  have h : liB (4 * iv 5) false = true := by
    unfold liB
    rw [base_lift.1]
    simp
  unfold bsX bsY liX liY
  rw [if_pos h, if_pos h]
  exact ⟨⟨bytes_5 _ _, fill_len _ _⟩, bytes_5 _ _, fill_len _ _⟩
/-- The point that is drawn. -/
def drP (xs : List Int) (t : Int) : List Int × List Int :=
  if nxF xs t 8 = 0 then smP (nxF xs (t + 1) 8)
  else if nxF xs t 8 = 1 then (paX (smP (nxF xs (t + 1) 8)).1 (smP (nxF xs (t + 1) 8)).2 bsX bsY, paY (smP (nxF xs (t + 1) 8)).1 (smP (nxF xs (t + 1) 8)).2 bsX bsY)
  else if nxF xs t 8 < 4 then (plX (tmP (fill (dig (inF (nxF xs (t + 1) 1000))) 32) bsX bsY), plY (tmP (fill (dig (inF (nxF xs (t + 1) 1000))) 32) bsX bsY))
  else if nxF xs t 8 = 4 then
    (if nxF xs (t + 1) 2 = 0 then
      (if nxF xs (t + 1 + 1) 4 = 0 then (dbF xs (t + 1 + 1 + 1) 32, bsY)
       else if nxF xs (t + 1 + 1) 4 = 1 then (bsX, dbF xs (t + 1 + 1 + 1) 31)
       else if nxF xs (t + 1 + 1) 4 = 2 then (fill (dig pbytes) 32, fill (byt (1 % PP)) 32)
       else ([], []))
     else fdP 40 (dbF xs (t + 1 + 1) 32))
  else fdP 40 (dbF xs (t + 1) 32)
set_option maxHeartbeats 4000000 in
theorem l5DrawV_any (w : World) (s g : Nat) (a : Option Addr) (c : Nat) (xs : List Int) (t : Int) (hs : Src w s a xs.length c t) (hr : Rd w g a .u8 xs) (hne : 0 < xs.length → g ≠ s) (hb : Byt xs) (hl : xs.length ≤ 4194304) (t0 : 0 ≤ t) (t1 : t ≤ 10000) :
    Calls Tryd.prog 41 #[.pointer (some ⟨s, 0, none⟩)] w fun r w' => NewPt w.heap.size w' r (drP xs t).1 (drP xs t).2 ∧ But s w w' := by
  have TZ : Two (w.alloc pObj) w.heap.size (.slice none 0 0) (.slice none 0 0) := Two.new w (.slice none 0 0) (.slice none 0 0) 26
  have nz : Below w.heap.size w (w.alloc pObj) := (Below.refl _ _).alloc (Nat.le_refl _) _
  have zs := hs.lt
  have NX := hide (fun W (S : Src W s a xs.length c t) (R : Rd W g a .u8 xs) => l1NextV_any W s g a c xs t 8 S R hne hb hl (by omega) (by omega) (by decide) (by decide))
  have NY := hide (fun W n (S : Src W s a xs.length c (t + 1)) (R : Rd W g a .u8 xs) (h1 : 1 ≤ n) (h2 : n ≤ 1048576) => l1NextV_any W s g a c xs (t + 1) n S R hne hb hl (by omega) (by omega) h1 h2)
  have CH := hide (fun W (S : Src W s a xs.length c (t + 1)) (R : Rd W g a .u8 xs) => l1ChanceV_any W s g a c xs (t + 1) 2 S R hne hb hl (by omega) (by omega) (by decide) (by decide))
  have NW := hide (fun W (S : Src W s a xs.length c (t + 1 + 1)) (R : Rd W g a .u8 xs) => l1NextV_any W s g a c xs (t + 1 + 1) 4 S R hne hb hl (by omega) (by omega) (by decide) (by decide))
  have DB := hide (fun W u (n : Nat) (S : Src W s a xs.length c u) (R : Rd W g a .u8 xs) (h1 : 0 ≤ u) (h2 : u + (n : Int) ≤ 1048576) => l1DrawBytesV_any W s g a c xs u n S R hne hb hl h1 h2)
  obtain ⟨R, hR⟩ : ∃ R, R = drP xs t := ⟨_, rfl⟩
  rw [← hR]
  have k0 := nx_in xs t (show (0 : Int) < 8 by decide)
  unfold drP at hR
  have HR := hide hR
  clear hR
  have S0 := hs.up nz
  have hr0 := hr.up nz
  have N : But s w (w.alloc pObj) := But.ofBelow nz
  clear nz
  go_enter Tryd.func41, Tryd.ntmps41
  go_upto_region 1 with fail
  change Code.wp _ _ _ _ (w.alloc pObj)
  generalize w.alloc pObj = wz at *
  go_wp2_with fail
  refine (NX.out wz S0 hr0).mono ?_
  rintro e w1 ⟨rfl, _, S1, O1⟩
  have zz := TZ.lt
  have z1 := O1.size
  replace TZ := TZ.of_block' (O1.block w.heap.size (by omega))
  replace N := N.only O1
  have hr1 := hr.but N hne
  clear O1 NX S0 hr0 hs
  generalize nxF xs t 8 = k at *
  rcases (show k = 0 ∨ k = 1 ∨ k = 2 ∨ k = 3 ∨ k = 4 ∨ k = 5 ∨ k = 6 ∨ k = 7 by omega) with rfl | rfl | rfl | rfl | rfl | rfl | rfl | rfl
  · have HD : Hid (R = smP (nxF xs (t + 1) 8)) := by show _ = _; rw [HR.out, if_pos rfl]
    clear HR
    go_wp2_with fail
    refine (NY.out w1 8 S1 hr1 (by decide) (by decide)).mono ?_
    rintro e w2 ⟨rfl, ⟨r0, r1⟩, S2, O2⟩
    have z2 := O2.size
    replace TZ := TZ.of_block' (O2.block w.heap.size (by omega))
    replace N := N.only O2
    clear O2 S2 S1 NY CH NW DB
    obtain ⟨j, hj⟩ : ∃ j, j = nxF xs (t + 1) 8 := ⟨_, rfl⟩
    rw [← hj] at r0 r1 HD ⊢
    clear hj
    have SM := hide (l5SmallV_any w2 j r0 (by omega))
    generalize smP j = X at *
    go_wp2_with fail
    refine SM.out.mono ?_
    rintro r w3 ⟨⟨a1, a1', c1, c1', g1, g1', rfl, o1, o1', l1, l1'⟩, n3⟩
    have z3 := n3.size
    replace TZ := TZ.up n3
    replace N := N.trans (But.ofBelow n3)
    clear n3 SM
    obtain ⟨y0, y1, v0, v1⟩ := TZ
    have O := (Only.setCell w3 w.heap.size 0 (.slice a1 X.1.length c1)).trans (Only.setCell _ w.heap.size 1 (.slice a1' X.2.length c1'))
    go_wp2
    refine bodyPost_ret (v := .agg #[.slice a1 X.1.length c1, .slice a1' X.2.length c1']) (by simp [results, Tryd.results41, go_sem, y0, y1]) rfl ⟨?_, (N.setCell (Nat.le_refl _)).setCell (Nat.le_refl _)⟩
    rw [HD.out]
    exact ⟨a1, a1', c1, c1', g1, g1', rfl, o1.only O (fun _ => by omega), o1'.only O (fun _ => by omega), by omega, by omega⟩
  · have HD : Hid (R = (paX (smP (nxF xs (t + 1) 8)).1 (smP (nxF xs (t + 1) 8)).2 bsX bsY, paY (smP (nxF xs (t + 1) 8)).1 (smP (nxF xs (t + 1) 8)).2 bsX bsY)) := by show _ = _; rw [HR.out, if_neg (by decide), if_pos rfl]
    clear HR
    go_wp2_with fail
    refine (NY.out w1 8 S1 hr1 (by decide) (by decide)).mono ?_
    rintro e w2 ⟨rfl, ⟨r0, r1⟩, S2, O2⟩
    have z2 := O2.size
    replace TZ := TZ.of_block' (O2.block w.heap.size (by omega))
    replace N := N.only O2
    clear O2 S2 S1 NY CH NW DB
    obtain ⟨j, hj⟩ : ∃ j, j = nxF xs (t + 1) 8 := ⟨_, rfl⟩
    rw [← hj] at r0 r1 HD ⊢
    clear hj
    have SM := hide (l5SmallV_any w2 j r0 (by omega))
    have SK := hide (smP_ok j)
    generalize smP j = X at *
    go_wp2_with fail
    refine SM.out.mono ?_
    rintro r w3 ⟨⟨a3, a3', c3, c3', g3, g3', rfl, o3, o3', l3, l3'⟩, n3⟩
    have z3 := n3.size
    replace TZ := TZ.up n3
    replace N := N.trans (But.ofBelow n3)
    clear n3 SM
    have SB : Hid (Calls Tryd.prog 34 #[] w3 fun r w' => NewPt w3.heap.size w' r bsX bsY ∧ Below w3.heap.size w3 w') := specBase_any w3
    have BB := hide bs_byt
    generalize bsX = bx at *
    generalize bsY = by' at *
    go_wp2_with fail
    refine SB.out.mono ?_
    rintro r w4 ⟨⟨a4, a4', c4, c4', g4, g4', rfl, o4, o4', l4, l4'⟩, n4⟩
    have z4 := n4.size
    replace TZ := TZ.up n4
    replace N := N.trans (But.ofBelow n4)
    replace o3 := o3.up n4
    replace o3' := o3'.up n4
    clear n4 SB
    have AD := hide (specPointAdd_any w4 g3 g3' g4 g4' a3 a3' a4 a4' c3 c3' c4 c4' X.1 X.2 bx by' o3.rd o3'.rd o4.rd o4'.rd SK.out.1.1 SK.out.2.1 BB.out.1 BB.out.2)
    generalize paX X.1 X.2 bx by' = PX at *
    generalize paY X.1 X.2 bx by' = PY at *
    go_wp2_with fail
    refine AD.out.mono ?_
    rintro r w5 ⟨⟨a1, a1', c1, c1', g1, g1', rfl, o1, o1', l1, l1'⟩, n3⟩
    have z5 := n3.size
    replace TZ := TZ.up n3
    replace N := N.trans (But.ofBelow n3)
    clear n3 AD
    obtain ⟨y0, y1, v0, v1⟩ := TZ
    have O := (Only.setCell w5 w.heap.size 0 (.slice a1 PX.length c1)).trans (Only.setCell _ w.heap.size 1 (.slice a1' PY.length c1'))
    go_wp2
    refine bodyPost_ret (v := .agg #[.slice a1 PX.length c1, .slice a1' PY.length c1']) (by simp [results, Tryd.results41, go_sem, y0, y1]) rfl ⟨?_, (N.setCell (Nat.le_refl _)).setCell (Nat.le_refl _)⟩
    rw [HD.out]
    exact ⟨a1, a1', c1, c1', g1, g1', rfl, o1.only O (fun _ => by omega), o1'.only O (fun _ => by omega), by omega, by omega⟩
  · have HD : Hid (R = (plX (tmP (fill (dig (inF (nxF xs (t + 1) 1000))) 32) bsX bsY), plY (tmP (fill (dig (inF (nxF xs (t + 1) 1000))) 32) bsX bsY))) := by show _ = _; rw [HR.out, if_neg (by decide), if_neg (by decide), if_pos (by decide)]
    clear HR
    go_wp2_with fail
    refine (NY.out w1 1000 S1 hr1 (by decide) (by decide)).mono ?_
    rintro e w2 ⟨rfl, ⟨r0, r1⟩, S2, O2⟩
    have z2 := O2.size
    replace TZ := TZ.of_block' (O2.block w.heap.size (by omega))
    replace N := N.only O2
    clear O2 S2 S1 NY CH NW DB
    obtain ⟨j, hj⟩ : ∃ j, j = nxF xs (t + 1) 1000 := ⟨_, rfl⟩
    rw [← hj] at r0 r1 HD ⊢
    clear hj
    have SI := hide (l1IntV_any w2 j r0 (by omega))
    have IB := hide (inF_byt r0 (by omega))
    clear r0 r1
    generalize inF j = I at *
    go_wp2_with fail
    refine SI.out.mono ?_
    rintro r w3 ⟨⟨a3, c3, g3, rfl, o3, _, _, l3⟩, n3⟩
    have z3 := n3.size
    replace TZ := TZ.up n3
    replace N := N.trans (But.ofBelow n3)
    clear n3 SI
    have SL := hide (l1Little_any w3 g3 a3 c3 I 32 o3.rd IB.out.1 (by have := IB.out.2; omega) (by omega))
    have KB := hide (dig_bytes_5 IB.out.1 32)
    have KL := hide (fill_len (dig I) 32)
    generalize fill (dig I) 32 = K at *
    go_wp2_with fail
    refine SL.out.mono ?_
    rintro r w4 ⟨rfl, B4, n4⟩
    have z4 := n4.size
    replace TZ := TZ.up n4
    replace N := N.trans (But.ofBelow n4)
    clear n4 SL o3
    have SB : Hid (Calls Tryd.prog 34 #[] w4 fun r w' => NewPt w4.heap.size w' r bsX bsY ∧ Below w4.heap.size w4 w') := specBase_any w4
    have BB := hide bs_ok
    generalize bsX = bx at *
    generalize bsY = by' at *
    go_wp2_with fail
    refine SB.out.mono ?_
    rintro r w5 ⟨⟨a5, a5', c5, c5', g5, g5', rfl, o5, o5', l5, l5'⟩, n5⟩
    have z5 := n5.size
    replace TZ := TZ.up n5
    replace N := N.trans (But.ofBelow n5)
    have o4 := B4.own0.up n5
    clear n5 SB B4
    have ST := hide (l5Times_any w5 w3.heap.size g5 g5' (some ⟨w3.heap.size, 0, none⟩) a5 a5' 32 c5 c5' K bx by' o4.rd KB.out (by rw [KL.out]; omega) o5.rd o5'.rd BB.out.1.1 BB.out.2.1 BB.out.1.2 BB.out.2.2)
    rw [KL.out] at ST
    go_wp2_with fail
    refine ST.out.mono ?_
    rintro r w6 ⟨top, p, x, y, z, hc, hP, rfl, hx, hy, hz, n6⟩
    have z6 := n6.size
    replace TZ := TZ.up n6
    replace N := N.trans (But.ofBelow n6)
    have eP : Hid (tmP K bx by' = p) := by show _ = _; unfold tmP; rw [topF_eq (by rw [KL.out]; exact hc), hP]
    clear n6 ST hc hP o4 o5 o5'
    have SP : Hid (Calls Tryd.prog 26 #[ag48 x y z] w6 fun r w' => NewPt w6.heap.size w' r (plX p) (plY p) ∧ Below w6.heap.size w6 w') := l5Plain_any w6 x y z p.1 p.2.1 p.2.2 hx hy hz
    rw [eP.out] at HD
    clear eP hx hy hz
    generalize plX p = PX at *
    generalize plY p = PY at *
    generalize ag48 x y z = V at *
    go_wp2_with fail
    refine SP.out.mono ?_
    rintro r w7 ⟨⟨a1, a1', c1, c1', g1, g1', rfl, o1, o1', l1, l1'⟩, n3⟩
    have z7 := n3.size
    replace TZ := TZ.up n3
    replace N := N.trans (But.ofBelow n3)
    clear n3 SP
    obtain ⟨y0, y1, v0, v1⟩ := TZ
    have O := (Only.setCell w7 w.heap.size 0 (.slice a1 PX.length c1)).trans (Only.setCell _ w.heap.size 1 (.slice a1' PY.length c1'))
    go_wp2
    refine bodyPost_ret (v := .agg #[.slice a1 PX.length c1, .slice a1' PY.length c1']) (by simp [results, Tryd.results41, go_sem, y0, y1]) rfl ⟨?_, (N.setCell (Nat.le_refl _)).setCell (Nat.le_refl _)⟩
    rw [HD.out]
    exact ⟨a1, a1', c1, c1', g1, g1', rfl, o1.only O (fun _ => by omega), o1'.only O (fun _ => by omega), by omega, by omega⟩
  · have HD : Hid (R = (plX (tmP (fill (dig (inF (nxF xs (t + 1) 1000))) 32) bsX bsY), plY (tmP (fill (dig (inF (nxF xs (t + 1) 1000))) 32) bsX bsY))) := by show _ = _; rw [HR.out, if_neg (by decide), if_neg (by decide), if_pos (by decide)]
    clear HR
    go_wp2_with fail
    refine (NY.out w1 1000 S1 hr1 (by decide) (by decide)).mono ?_
    rintro e w2 ⟨rfl, ⟨r0, r1⟩, S2, O2⟩
    have z2 := O2.size
    replace TZ := TZ.of_block' (O2.block w.heap.size (by omega))
    replace N := N.only O2
    clear O2 S2 S1 NY CH NW DB
    obtain ⟨j, hj⟩ : ∃ j, j = nxF xs (t + 1) 1000 := ⟨_, rfl⟩
    rw [← hj] at r0 r1 HD ⊢
    clear hj
    have SI := hide (l1IntV_any w2 j r0 (by omega))
    have IB := hide (inF_byt r0 (by omega))
    clear r0 r1
    generalize inF j = I at *
    go_wp2_with fail
    refine SI.out.mono ?_
    rintro r w3 ⟨⟨a3, c3, g3, rfl, o3, _, _, l3⟩, n3⟩
    have z3 := n3.size
    replace TZ := TZ.up n3
    replace N := N.trans (But.ofBelow n3)
    clear n3 SI
    have SL := hide (l1Little_any w3 g3 a3 c3 I 32 o3.rd IB.out.1 (by have := IB.out.2; omega) (by omega))
    have KB := hide (dig_bytes_5 IB.out.1 32)
    have KL := hide (fill_len (dig I) 32)
    generalize fill (dig I) 32 = K at *
    go_wp2_with fail
    refine SL.out.mono ?_
    rintro r w4 ⟨rfl, B4, n4⟩
    have z4 := n4.size
    replace TZ := TZ.up n4
    replace N := N.trans (But.ofBelow n4)
    clear n4 SL o3
    have SB : Hid (Calls Tryd.prog 34 #[] w4 fun r w' => NewPt w4.heap.size w' r bsX bsY ∧ Below w4.heap.size w4 w') := specBase_any w4
    have BB := hide bs_ok
    generalize bsX = bx at *
    generalize bsY = by' at *
    go_wp2_with fail
    refine SB.out.mono ?_
    rintro r w5 ⟨⟨a5, a5', c5, c5', g5, g5', rfl, o5, o5', l5, l5'⟩, n5⟩
    have z5 := n5.size
    replace TZ := TZ.up n5
    replace N := N.trans (But.ofBelow n5)
    have o4 := B4.own0.up n5
    clear n5 SB B4
    have ST := hide (l5Times_any w5 w3.heap.size g5 g5' (some ⟨w3.heap.size, 0, none⟩) a5 a5' 32 c5 c5' K bx by' o4.rd KB.out (by rw [KL.out]; omega) o5.rd o5'.rd BB.out.1.1 BB.out.2.1 BB.out.1.2 BB.out.2.2)
    rw [KL.out] at ST
    go_wp2_with fail
    refine ST.out.mono ?_
    rintro r w6 ⟨top, p, x, y, z, hc, hP, rfl, hx, hy, hz, n6⟩
    have z6 := n6.size
    replace TZ := TZ.up n6
    replace N := N.trans (But.ofBelow n6)
    have eP : Hid (tmP K bx by' = p) := by show _ = _; unfold tmP; rw [topF_eq (by rw [KL.out]; exact hc), hP]
    clear n6 ST hc hP o4 o5 o5'
    have SP : Hid (Calls Tryd.prog 26 #[ag48 x y z] w6 fun r w' => NewPt w6.heap.size w' r (plX p) (plY p) ∧ Below w6.heap.size w6 w') := l5Plain_any w6 x y z p.1 p.2.1 p.2.2 hx hy hz
    rw [eP.out] at HD
    clear eP hx hy hz
    generalize plX p = PX at *
    generalize plY p = PY at *
    generalize ag48 x y z = V at *
    go_wp2_with fail
    refine SP.out.mono ?_
    rintro r w7 ⟨⟨a1, a1', c1, c1', g1, g1', rfl, o1, o1', l1, l1'⟩, n3⟩
    have z7 := n3.size
    replace TZ := TZ.up n3
    replace N := N.trans (But.ofBelow n3)
    clear n3 SP
    obtain ⟨y0, y1, v0, v1⟩ := TZ
    have O := (Only.setCell w7 w.heap.size 0 (.slice a1 PX.length c1)).trans (Only.setCell _ w.heap.size 1 (.slice a1' PY.length c1'))
    go_wp2
    refine bodyPost_ret (v := .agg #[.slice a1 PX.length c1, .slice a1' PY.length c1']) (by simp [results, Tryd.results41, go_sem, y0, y1]) rfl ⟨?_, (N.setCell (Nat.le_refl _)).setCell (Nat.le_refl _)⟩
    rw [HD.out]
    exact ⟨a1, a1', c1, c1', g1, g1', rfl, o1.only O (fun _ => by omega), o1'.only O (fun _ => by omega), by omega, by omega⟩
  · have HE := HR.out
    rw [if_neg (by decide), if_neg (by decide), if_neg (by decide), if_pos rfl] at HE
    replace HR := hide HE
    clear HE
    go_wp2_with fail
    refine (CH.out w1 S1 hr1).mono ?_
    rintro e w2 ⟨rfl, S2, O2⟩
    have z2 := O2.size
    replace TZ := TZ.of_block' (O2.block w.heap.size (by omega))
    replace N := N.only O2
    have hr2 := hr.but N hne
    clear O2 S1 hr1 CH
    generalize nxF xs (t + 1) 2 = q at *
    by_cases hq : q = 0
    · subst hq
      rw [if_pos rfl] at HR
      have SB : Hid (Calls Tryd.prog 34 #[] w2 fun r w' => NewPt w2.heap.size w' r bsX bsY ∧ Below w2.heap.size w2 w') := specBase_any w2
      rw [show ((0 : Int) == 0) = true from rfl]
      generalize bsX = bx at *
      generalize bsY = by' at *
      go_wp2_with fail
      refine SB.out.mono ?_
      rintro r w3 ⟨⟨a4, a4', c4, c4', g4, g4', rfl, o4, o4', l4, l4'⟩, n3⟩
      have z3 := n3.size
      have TP := Two.new w3 (.slice a4 bx.length c4) (.slice a4' by'.length c4') 26
      have n4 : Below w3.heap.size w3 (w3.alloc (.cells #[.slice a4 bx.length c4, .slice a4' by'.length c4'] 26)) := (Below.refl _ _).alloc (Nat.le_refl _) _
      have zl : w3.heap.size < (w3.alloc (.cells #[.slice a4 bx.length c4, .slice a4' by'.length c4'] 26)).heap.size := TP.lt
      have q4 := hide (fun h => o4.rd.lt h)
      have q4' := hide (fun h => o4'.rd.lt h)
      replace TZ := (TZ.up n3).up n4
      replace N := (N.trans (But.ofBelow n3)).trans (But.ofBelow n4)
      replace S2 := (S2.up n3).up n4
      replace o4 := o4.up n4
      replace o4' := o4'.up n4
      have hr3 := hr.but N hne
      clear n3 n4 SB hr2
      go_wp2_with fail
      generalize w3.alloc (.cells #[.slice a4 bx.length c4, .slice a4' by'.length c4'] 26) = w4 at *
      refine (NW.out w4 S2 hr3).mono ?_
      rintro e w5 ⟨rfl, ⟨r0, r1⟩, S5, O5⟩
      have z5 : w4.heap.size ≤ w5.heap.size := Nat.le_of_eq O5.size.symm
      replace TZ := TZ.of_block' (O5.block w.heap.size (by omega))
      replace TP := TP.of_block' (O5.block w3.heap.size (by omega))
      replace o4 := o4.only O5 (fun _ => by omega)
      replace o4' := o4'.only O5 (fun _ => by omega)
      replace N := N.only O5
      have hr5 := hr.but N hne
      clear O5 S2 hr3 NW NY
      generalize nxF xs (t + 1 + 1) 4 = j at *
      rcases (show j = 0 ∨ j = 1 ∨ j = 2 ∨ j = 3 by omega) with rfl | rfl | rfl | rfl
      · have HD : Hid (R = (dbF xs (t + 1 + 1 + 1) 32, by')) := by show _ = _; rw [HR.out, if_pos rfl]
        clear HR
        go_wp2_with fail
        refine (DB.out w5 (t + 1 + 1 + 1) 32 S5 hr5 (by omega) (by omega)).mono ?_
        rintro e w6 ⟨⟨a6, c6, g6, rfl, o6, _, _, l6⟩, S6, N6⟩
        have z6 := N6.size
        have z6p := TP.lt
        replace TZ := TZ.of_block' (N6.block w.heap.size (by omega) (by omega))
        replace TP := TP.of_block' (N6.block w3.heap.size (by omega) (by omega))
        replace o4 := o4.but N6 (fun _ => by omega)
        replace o4' := o4'.but N6 (fun _ => by omega)
        replace N := N.trans N6
        clear N6 S6 S5 DB
        generalize dbF xs (t + 1 + 1 + 1) 32 = D at *
        have O4 := Only.setCell w6 w3.heap.size 0 (.slice a6 D.length c6)
        have TP' := TP.put0 (.slice a6 D.length c6)
        replace TZ := TZ.of_block' (O4.block w.heap.size (by omega))
        replace N : But s w (w6.setCell ⟨w3.heap.size, 0, none⟩ (.slice a6 D.length c6)) := N.setCell (by omega)
        replace o6 := o6.only O4 (fun _ => by omega)
        replace o4 := o4.only O4 (fun h => by have := q4.out h; omega)
        replace o4' := o4'.only O4 (fun h => by have := q4'.out h; omega)
        obtain ⟨q0, q1, qf0, qf1⟩ := TP
        have TP := TP'
        clear TP' O4
        go_upto_region 19 with fail
        generalize w6.setCell ⟨w3.heap.size, 0, none⟩ (.slice a6 D.length c6) = w9 at *
        obtain ⟨p0, p1, pf0, pf1⟩ := TP
        obtain ⟨y0, y1, v0, v1⟩ := TZ
        have O := (Only.setCell w9 w.heap.size 0 (.slice a6 D.length c6)).trans (Only.setCell _ w.heap.size 1 (.slice a4' by'.length c4'))
        go_wp2
        refine bodyPost_ret (v := .agg #[.slice a6 D.length c6, .slice a4' by'.length c4']) (by simp [results, Tryd.results41, go_sem, y0, y1]) rfl ⟨?_, (N.setCell (Nat.le_refl _)).setCell (Nat.le_refl _)⟩
        rw [HD.out]
        exact ⟨a6, a4', c6, c4', g6, g4', rfl, o6.only O (fun _ => by omega), o4'.only O (fun _ => by omega), by omega, by omega⟩
      · have HD : Hid (R = (bx, dbF xs (t + 1 + 1 + 1) 31)) := by show _ = _; rw [HR.out, if_neg (by decide), if_pos rfl]
        clear HR
        go_wp2_with fail
        refine (DB.out w5 (t + 1 + 1 + 1) 31 S5 hr5 (by omega) (by omega)).mono ?_
        rintro e w6 ⟨⟨a6, c6, g6, rfl, o6, _, _, l6⟩, S6, N6⟩
        have z6 := N6.size
        have z6p := TP.lt
        replace TZ := TZ.of_block' (N6.block w.heap.size (by omega) (by omega))
        replace TP := TP.of_block' (N6.block w3.heap.size (by omega) (by omega))
        replace o4 := o4.but N6 (fun _ => by omega)
        replace o4' := o4'.but N6 (fun _ => by omega)
        replace N := N.trans N6
        clear N6 S6 S5 DB
        generalize dbF xs (t + 1 + 1 + 1) 31 = D at *
        have O4 := Only.setCell w6 w3.heap.size 1 (.slice a6 D.length c6)
        have TP' := TP.put1 (.slice a6 D.length c6)
        replace TZ := TZ.of_block' (O4.block w.heap.size (by omega))
        replace N : But s w (w6.setCell ⟨w3.heap.size, 1, none⟩ (.slice a6 D.length c6)) := N.setCell (by omega)
        replace o6 := o6.only O4 (fun _ => by omega)
        replace o4 := o4.only O4 (fun h => by have := q4.out h; omega)
        replace o4' := o4'.only O4 (fun h => by have := q4'.out h; omega)
        obtain ⟨q0, q1, qf0, qf1⟩ := TP
        have TP := TP'
        clear TP' O4
        go_upto_region 19 with fail
        generalize w6.setCell ⟨w3.heap.size, 1, none⟩ (.slice a6 D.length c6) = w9 at *
        obtain ⟨p0, p1, pf0, pf1⟩ := TP
        obtain ⟨y0, y1, v0, v1⟩ := TZ
        have O := (Only.setCell w9 w.heap.size 0 (.slice a4 bx.length c4)).trans (Only.setCell _ w.heap.size 1 (.slice a6 D.length c6))
        go_wp2
        refine bodyPost_ret (v := .agg #[.slice a4 bx.length c4, .slice a6 D.length c6]) (by simp [results, Tryd.results41, go_sem, y0, y1]) rfl ⟨?_, (N.setCell (Nat.le_refl _)).setCell (Nat.le_refl _)⟩
        rw [HD.out]
        exact ⟨a4, a6, c4, c6, g4, g6, rfl, o4.only O (fun _ => by omega), o6.only O (fun _ => by omega), by omega, by omega⟩
      · obtain ⟨PB, hPB⟩ : ∃ PB, PB = fill (dig pbytes) 32 := ⟨_, rfl⟩
        obtain ⟨QB, hQB⟩ : ∃ QB, QB = fill (byt (1 % PP)) 32 := ⟨_, rfl⟩
        have HD : Hid (R = (PB, QB)) := by show _ = _; rw [HR.out, if_neg (by decide), if_neg (by decide), if_pos rfl, hPB, hQB]
        have L7 : Hid (PB.length = 32) := by show _ = _; rw [hPB, fill_len]
        have HPB := hide hPB.symm
        have HQB := hide hQB.symm
        clear HR hPB hQB
        have PR := hide (l2Prime_any w5)
        have PY := hide pbytes_byt
        have PL := hide pbytes_len
        generalize pbytes = pb at *
        go_wp2_with fail
        refine PR.out.mono ?_
        rintro e w6 ⟨rfl, B6, n6⟩
        have z6 := n6.size
        replace TZ := TZ.up n6
        replace TP := TP.up n6
        replace N := N.trans (But.ofBelow n6)
        clear n6
        have SL := hide (l1Little_any w6 w5.heap.size (some ⟨w5.heap.size, 0, none⟩) 32 pb 32 B6.own0.rd PY.out (by rw [PL.out]; omega) (by omega))
        clear B6
        go_wp2_with fail
        refine SL.out.mono ?_
        rintro e w7 ⟨rfl, B7, n7⟩
        have z7 := n7.size
        replace TZ := TZ.up n7
        replace TP := TP.up n7
        replace N := N.trans (But.ofBelow n7)
        clear n7 SL
        have o7 := B7.own0
        rw [HPB.out] at o7
        clear HPB B7
        go_wp2_with fail
        refine (l2Small_any w7 1 (by decide)).mono ?_
        rintro e w8 ⟨f, rfl, hf, hfv, n8⟩
        have z8 := n8.size
        replace TZ := TZ.up n8
        replace TP := TP.up n8
        replace N := N.trans (But.ofBelow n8)
        replace o7 := o7.up n8
        have SY := hide (l2Bytes_any w8 f hf)
        rw [hfv, HQB.out] at SY
        clear n8 hf hfv HQB
        generalize ag16 f = V at *
        go_wp2_with fail
        refine SY.out.mono ?_
        rintro e wa ⟨⟨a8, c8, g8, rfl, o8, _, _, l8⟩, na⟩
        have za := na.size
        replace TZ := TZ.up na
        replace TP := TP.up na
        replace N := N.trans (But.ofBelow na)
        replace o7 := o7.up na
        clear na SY
        have O4 := (Only.setCell wa w3.heap.size 0 (.slice (some ⟨w6.heap.size, 0, none⟩) 32 32)).trans (Only.setCell _ w3.heap.size 1 (.slice a8 QB.length c8))
        have TP' := TP.put (.slice (some ⟨w6.heap.size, 0, none⟩) 32 32) (.slice a8 QB.length c8)
        replace TZ := TZ.of_block' (O4.block w.heap.size (by omega))
        replace N : But s w ((wa.setCell ⟨w3.heap.size, 0, none⟩ (.slice (some ⟨w6.heap.size, 0, none⟩) 32 32)).setCell ⟨w3.heap.size, 1, none⟩ (.slice a8 QB.length c8)) := (N.setCell (by omega)).setCell (by omega)
        obtain ⟨q0, q1, qf0, qf1⟩ := TP
        have TP := TP'
        clear TP'
        replace o7 := o7.only O4 (fun _ => by omega)
        replace o8 := o8.only O4 (fun _ => by omega)
        clear O4
        go_upto_region 19 with fail
        generalize (wa.setCell ⟨w3.heap.size, 0, none⟩ (.slice (some ⟨w6.heap.size, 0, none⟩) 32 32)).setCell ⟨w3.heap.size, 1, none⟩ (.slice a8 QB.length c8) = w9 at *
        obtain ⟨p0, p1, pf0, pf1⟩ := TP
        obtain ⟨y0, y1, v0, v1⟩ := TZ
        have O := (Only.setCell w9 w.heap.size 0 (.slice (some ⟨w6.heap.size, 0, none⟩) 32 32)).trans (Only.setCell _ w.heap.size 1 (.slice a8 QB.length c8))
        go_wp2
        refine bodyPost_ret (v := .agg #[.slice (some ⟨w6.heap.size, 0, none⟩) 32 32, .slice a8 QB.length c8]) (by simp [results, Tryd.results41, go_sem, y0, y1]) rfl ⟨?_, (N.setCell (Nat.le_refl _)).setCell (Nat.le_refl _)⟩
        rw [HD.out]
        exact ⟨(some ⟨w6.heap.size, 0, none⟩), a8, 32, c8, w6.heap.size, g8, by rw [L7.out], o7.only O (fun _ => by omega), o8.only O (fun _ => by omega), by omega, by omega⟩
      · have HD : Hid (R = ([], [])) := by show _ = _; rw [HR.out, if_neg (by decide), if_neg (by decide), if_neg (by decide)]
        clear HR
        have O4 := (Only.setCell w5 w3.heap.size 0 (.slice none 0 0)).trans (Only.setCell _ w3.heap.size 1 (.slice none 0 0))
        have TP' := TP.put (.slice none 0 0) (.slice none 0 0)
        replace TZ := TZ.of_block' (O4.block w.heap.size (by omega))
        replace N : But s w ((w5.setCell ⟨w3.heap.size, 0, none⟩ (.slice none 0 0)).setCell ⟨w3.heap.size, 1, none⟩ (.slice none 0 0)) := (N.setCell (by omega)).setCell (by omega)
        obtain ⟨q0, q1, qf0, qf1⟩ := TP
        have TP := TP'
        clear TP'
        clear O4
        go_upto_region 19 with fail
        generalize (w5.setCell ⟨w3.heap.size, 0, none⟩ (.slice none 0 0)).setCell ⟨w3.heap.size, 1, none⟩ (.slice none 0 0) = w9 at *
        obtain ⟨p0, p1, pf0, pf1⟩ := TP
        obtain ⟨y0, y1, v0, v1⟩ := TZ
        have O := (Only.setCell w9 w.heap.size 0 (.slice none 0 0)).trans (Only.setCell _ w.heap.size 1 (.slice none 0 0))
        go_wp2
        refine bodyPost_ret (v := .agg #[.slice none 0 0, .slice none 0 0]) (by simp [results, Tryd.results41, go_sem, y0, y1]) rfl ⟨?_, (N.setCell (Nat.le_refl _)).setCell (Nat.le_refl _)⟩
        rw [HD.out]
        exact ⟨none, none, 0, 0, w.heap.size, w.heap.size, rfl, Own.nil _ _ _ _, Own.nil _ _ _ _, by omega, by omega⟩
    · rw [show (q == 0) = false from beq_eq_false_iff_ne.2 hq]
      rw [if_neg hq] at HR
      have HD := HR
      clear HR hq
      go_wp2_with fail
      refine (DB.out w2 (t + 1 + 1) 32 S2 hr2 (by omega) (by omega)).mono ?_
      rintro e w8 ⟨⟨a8, c8, g8, rfl, o8, _, _, l8⟩, S8, N8⟩
      have z8 := N8.size
      have LB := hide (dbF_len xs (t + 1 + 1) 32)
      have BY := hide (dbF_byt xs (t + 1 + 1) 32)
      replace TZ := TZ.of_block' (N8.block w.heap.size (by omega) (by omega))
      replace N := N.trans N8
      clear N8 S8 DB NY NW S2
      generalize dbF xs (t + 1 + 1) 32 = B at *
      rw [LB.out]
      obtain ⟨o8f, ea, _⟩ := id o8 (by rw [LB.out]; decide)
      subst ea
      have zg := o8.rd.lt (by rw [LB.out]; decide)
      have FD := hide (l5Find_any w8 g8 o8f c8 B o8 BY.out LB.out)
      generalize fdP 40 B = X at *
      go_wp2_with fail
      refine FD.out.mono ?_
      rintro r w9 ⟨⟨a1, a1', c1, c1', g1, g1', rfl, o1, o1', l1, l1'⟩, n3⟩
      have z9 := n3.size
      replace TZ := TZ.of_block' (n3.block w.heap.size (by omega) (by omega))
      have N2 : But s w w9 := ⟨n3.os.trans N.os, n3.tape.trans N.tape, n3.output.trans N.output, Nat.le_trans N.size n3.size, fun i hi hn => (n3.block i (by omega) (by omega)).trans (N.block i hi hn)⟩
      clear n3 N FD o8
      obtain ⟨y0, y1, v0, v1⟩ := TZ
      have O := (Only.setCell w9 w.heap.size 0 (.slice a1 X.1.length c1)).trans (Only.setCell _ w.heap.size 1 (.slice a1' X.2.length c1'))
      go_wp2
      refine bodyPost_ret (v := .agg #[.slice a1 X.1.length c1, .slice a1' X.2.length c1']) (by simp [results, Tryd.results41, go_sem, y0, y1]) rfl ⟨?_, (N2.setCell (Nat.le_refl _)).setCell (Nat.le_refl _)⟩
      rw [HD.out]
      exact ⟨a1, a1', c1, c1', g1, g1', rfl, o1.only O (fun _ => by omega), o1'.only O (fun _ => by omega), by omega, by omega⟩
  · have HD : Hid (R = fdP 40 (dbF xs (t + 1) 32)) := by show _ = _; rw [HR.out, if_neg (by decide), if_neg (by decide), if_neg (by decide), if_neg (by decide)]
    clear HR
    go_wp2_with fail
    refine (DB.out w1 (t + 1) 32 S1 hr1 (by omega) (by omega)).mono ?_
    rintro e w8 ⟨⟨a8, c8, g8, rfl, o8, _, _, l8⟩, S8, N8⟩
    have z8 := N8.size
    have LB := hide (dbF_len xs (t + 1) 32)
    have BY := hide (dbF_byt xs (t + 1) 32)
    replace TZ := TZ.of_block' (N8.block w.heap.size (by omega) (by omega))
    replace N := N.trans N8
    clear N8 S8 DB NY CH NW S1
    generalize dbF xs (t + 1) 32 = B at *
    rw [LB.out]
    obtain ⟨o8f, ea, _⟩ := id o8 (by rw [LB.out]; decide)
    subst ea
    have zg := o8.rd.lt (by rw [LB.out]; decide)
    have FD := hide (l5Find_any w8 g8 o8f c8 B o8 BY.out LB.out)
    generalize fdP 40 B = X at *
    go_wp2_with fail
    refine FD.out.mono ?_
    rintro r w9 ⟨⟨a1, a1', c1, c1', g1, g1', rfl, o1, o1', l1, l1'⟩, n3⟩
    have z9 := n3.size
    replace TZ := TZ.of_block' (n3.block w.heap.size (by omega) (by omega))
    have N2 : But s w w9 := ⟨n3.os.trans N.os, n3.tape.trans N.tape, n3.output.trans N.output, Nat.le_trans N.size n3.size, fun i hi hn => (n3.block i (by omega) (by omega)).trans (N.block i hi hn)⟩
    clear n3 N FD o8
    obtain ⟨y0, y1, v0, v1⟩ := TZ
    have O := (Only.setCell w9 w.heap.size 0 (.slice a1 X.1.length c1)).trans (Only.setCell _ w.heap.size 1 (.slice a1' X.2.length c1'))
    go_wp2
    refine bodyPost_ret (v := .agg #[.slice a1 X.1.length c1, .slice a1' X.2.length c1']) (by simp [results, Tryd.results41, go_sem, y0, y1]) rfl ⟨?_, (N2.setCell (Nat.le_refl _)).setCell (Nat.le_refl _)⟩
    rw [HD.out]
    exact ⟨a1, a1', c1, c1', g1, g1', rfl, o1.only O (fun _ => by omega), o1'.only O (fun _ => by omega), by omega, by omega⟩
  · have HD : Hid (R = fdP 40 (dbF xs (t + 1) 32)) := by show _ = _; rw [HR.out, if_neg (by decide), if_neg (by decide), if_neg (by decide), if_neg (by decide)]
    clear HR
    go_wp2_with fail
    refine (DB.out w1 (t + 1) 32 S1 hr1 (by omega) (by omega)).mono ?_
    rintro e w8 ⟨⟨a8, c8, g8, rfl, o8, _, _, l8⟩, S8, N8⟩
    have z8 := N8.size
    have LB := hide (dbF_len xs (t + 1) 32)
    have BY := hide (dbF_byt xs (t + 1) 32)
    replace TZ := TZ.of_block' (N8.block w.heap.size (by omega) (by omega))
    replace N := N.trans N8
    clear N8 S8 DB NY CH NW S1
    generalize dbF xs (t + 1) 32 = B at *
    rw [LB.out]
    obtain ⟨o8f, ea, _⟩ := id o8 (by rw [LB.out]; decide)
    subst ea
    have zg := o8.rd.lt (by rw [LB.out]; decide)
    have FD := hide (l5Find_any w8 g8 o8f c8 B o8 BY.out LB.out)
    generalize fdP 40 B = X at *
    go_wp2_with fail
    refine FD.out.mono ?_
    rintro r w9 ⟨⟨a1, a1', c1, c1', g1, g1', rfl, o1, o1', l1, l1'⟩, n3⟩
    have z9 := n3.size
    replace TZ := TZ.of_block' (n3.block w.heap.size (by omega) (by omega))
    have N2 : But s w w9 := ⟨n3.os.trans N.os, n3.tape.trans N.tape, n3.output.trans N.output, Nat.le_trans N.size n3.size, fun i hi hn => (n3.block i (by omega) (by omega)).trans (N.block i hi hn)⟩
    clear n3 N FD o8
    obtain ⟨y0, y1, v0, v1⟩ := TZ
    have O := (Only.setCell w9 w.heap.size 0 (.slice a1 X.1.length c1)).trans (Only.setCell _ w.heap.size 1 (.slice a1' X.2.length c1'))
    go_wp2
    refine bodyPost_ret (v := .agg #[.slice a1 X.1.length c1, .slice a1' X.2.length c1']) (by simp [results, Tryd.results41, go_sem, y0, y1]) rfl ⟨?_, (N2.setCell (Nat.le_refl _)).setCell (Nat.le_refl _)⟩
    rw [HD.out]
    exact ⟨a1, a1', c1, c1', g1, g1', rfl, o1.only O (fun _ => by omega), o1'.only O (fun _ => by omega), by omega, by omega⟩
  · have HD : Hid (R = fdP 40 (dbF xs (t + 1) 32)) := by show _ = _; rw [HR.out, if_neg (by decide), if_neg (by decide), if_neg (by decide), if_neg (by decide)]
    clear HR
    go_wp2_with fail
    refine (DB.out w1 (t + 1) 32 S1 hr1 (by omega) (by omega)).mono ?_
    rintro e w8 ⟨⟨a8, c8, g8, rfl, o8, _, _, l8⟩, S8, N8⟩
    have z8 := N8.size
    have LB := hide (dbF_len xs (t + 1) 32)
    have BY := hide (dbF_byt xs (t + 1) 32)
    replace TZ := TZ.of_block' (N8.block w.heap.size (by omega) (by omega))
    replace N := N.trans N8
    clear N8 S8 DB NY CH NW S1
    generalize dbF xs (t + 1) 32 = B at *
    rw [LB.out]
    obtain ⟨o8f, ea, _⟩ := id o8 (by rw [LB.out]; decide)
    subst ea
    have zg := o8.rd.lt (by rw [LB.out]; decide)
    have FD := hide (l5Find_any w8 g8 o8f c8 B o8 BY.out LB.out)
    generalize fdP 40 B = X at *
    go_wp2_with fail
    refine FD.out.mono ?_
    rintro r w9 ⟨⟨a1, a1', c1, c1', g1, g1', rfl, o1, o1', l1, l1'⟩, n3⟩
    have z9 := n3.size
    replace TZ := TZ.of_block' (n3.block w.heap.size (by omega) (by omega))
    have N2 : But s w w9 := ⟨n3.os.trans N.os, n3.tape.trans N.tape, n3.output.trans N.output, Nat.le_trans N.size n3.size, fun i hi hn => (n3.block i (by omega) (by omega)).trans (N.block i hi hn)⟩
    clear n3 N FD o8
    obtain ⟨y0, y1, v0, v1⟩ := TZ
    have O := (Only.setCell w9 w.heap.size 0 (.slice a1 X.1.length c1)).trans (Only.setCell _ w.heap.size 1 (.slice a1' X.2.length c1'))
    go_wp2
    refine bodyPost_ret (v := .agg #[.slice a1 X.1.length c1, .slice a1' X.2.length c1']) (by simp [results, Tryd.results41, go_sem, y0, y1]) rfl ⟨?_, (N2.setCell (Nat.le_refl _)).setCell (Nat.le_refl _)⟩
    rw [HD.out]
    exact ⟨a1, a1', c1, c1', g1, g1', rfl, o1.only O (fun _ => by omega), o1'.only O (fun _ => by omega), by omega, by omega⟩
end Go.Proofs.YtnaaanefndeafaaDoor

/-
  The point that a law draws.
-/
namespace Go.Proofs.YtnaaanefndeafaaDoor
set_option maxRecDepth 100000
open Go Go.RowKit

theorem dc_byt (ys : List Int) : Byt (dcX ys) ∧ Byt (dcY ys) := by
  unfold dcX dcY
  by_cases h : dcB ys = true
  · rw [if_pos h, if_pos h]
    exact li_byt _ _
  · rw [if_neg h, if_neg h]
    exact ⟨byt_nil, byt_nil⟩
def BytP (p : List Int × List Int) : Prop := Byt p.1 ∧ Byt p.2
theorem bytP_mk {x y : List Int} (h : Byt x ∧ Byt y) : BytP (x, y) := h
theorem fdP_byt : ∀ n ys, BytP (fdP n ys)
  | 0, _ => by rw [fdP]; exact bytP_mk (li_byt _ _)
  | n + 1, ys => by
    rw [fdP]
    by_cases h : dcB ys = true
    · rw [if_pos h]
      exact bytP_mk (dc_byt ys)
    · rw [if_neg h]
      exact fdP_byt n _
theorem pa_byt (px py qx qy : List Int) : Byt (paX px py qx qy) ∧ Byt (paY px py qx qy) := by
  unfold paX paY
  by_cases h : validP px py = true ∧ validP qx qy = true
  · rw [if_pos h, if_pos h]
    exact ⟨bytes_5 _ _, bytes_5 _ _⟩
  · rw [if_neg h, if_neg h]
    exact ⟨byt_nil, byt_nil⟩
theorem ptok_byt {xs ys : List Int} (h : PtOk xs ys) : Byt xs ∧ Byt ys := ⟨h.1.1, h.2.1⟩
theorem smP_byt (k : Int) : BytP (smP k) := ptok_byt (smP_ok k)
theorem drP_byt (xs : List Int) (t : Int) : BytP (drP xs t) := by
  unfold drP
  by_cases h0 : nxF xs t 8 = 0
  · rw [if_pos h0]; exact smP_byt _
  rw [if_neg h0]
  by_cases h1 : nxF xs t 8 = 1
  · rw [if_pos h1]; exact bytP_mk (pa_byt _ _ _ _)
  rw [if_neg h1]
  by_cases h2 : nxF xs t 8 < 4
  · rw [if_pos h2]; exact bytP_mk (ptok_byt (pl_ok _))
  rw [if_neg h2]
  by_cases h4 : nxF xs t 8 = 4
  · rw [if_pos h4]
    by_cases h5 : nxF xs (t + 1) 2 = 0
    · rw [if_pos h5]
      by_cases j0 : nxF xs (t + 1 + 1) 4 = 0
      · rw [if_pos j0]; exact bytP_mk ⟨dbF_byt _ _ _, bs_byt.2⟩
      rw [if_neg j0]
      by_cases j1 : nxF xs (t + 1 + 1) 4 = 1
      · rw [if_pos j1]; exact bytP_mk ⟨bs_byt.1, dbF_byt _ _ _⟩
      rw [if_neg j1]
      by_cases j2 : nxF xs (t + 1 + 1) 4 = 2
      · rw [if_pos j2]; exact bytP_mk ⟨dig_bytes_5 pbytes_byt 32, bytes_5 _ _⟩
      rw [if_neg j2]
      exact bytP_mk ⟨byt_nil, byt_nil⟩
    · rw [if_neg h5]; exact fdP_byt _ _
  · rw [if_neg h4]; exact fdP_byt _ _
theorem Below.ofBut {w w1 w2 : World} {s : Nat} (h : Below w.heap.size w w1) (k : But s w1 w2) (hs : w.heap.size ≤ s) : Below w.heap.size w w2 :=
  ⟨k.os.trans h.os, k.tape.trans h.tape, k.output.trans h.output, Nat.le_trans h.size k.size, fun i hi => (k.block i (Nat.lt_of_lt_of_le hi h.size) (by omega)).trans (h.block i hi)⟩
set_option maxHeartbeats 400000 in
theorem l1SourceB_any (w : World) (a : Option Addr) (n c : Nat) (hn : n ≤ 4194304) :
    Calls Tryd.prog 38 #[.slice a n c] w fun e w' => e = .returned (.pointer (some ⟨w.heap.size, 0, none⟩)) ∧ Src w' w.heap.size a n c 0 ∧ Below w.heap.size w w' := by
  by_cases h : 12 < (n : Int) / 16
  · have t1 : decide (12 < (n : Int) / 16) = true := by simp; omega
    go_enter Tryd.func38, Tryd.ntmps38
    go_wp2
    go_ret
    exact ⟨rfl, ⟨by simp [World.cell?_alloc_at], by simp [World.cell?_alloc_at], by simp [World.frozen?_alloc_at]⟩, (Below.refl _ _).alloc (Nat.le_refl _) _⟩
  · have t1 : decide (12 < (n : Int) / 16) = false := by simp; omega
    go_enter Tryd.func38, Tryd.ntmps38
    go_wp2
    go_ret
    exact ⟨rfl, ⟨by simp [World.cell?_alloc_at], by simp [World.cell?_alloc_at], by simp [World.frozen?_alloc_at]⟩, (Below.refl _ _).alloc (Nat.le_refl _) _⟩
set_option maxHeartbeats 1000000 in
theorem drawNeg_any (w : World) (g : Nat) (a : Option Addr) (c : Nat) (xs : List Int) (hr : Rd w g a .u8 xs) (hb : Byt xs) (hl : xs.length ≤ 4194304) :
    Calls Tryd.prog 33 #[.slice a xs.length c] w fun r w' => NewPt w.heap.size w' r (drP xs 0).1 (drP xs 0).2 ∧ Below w.heap.size w w' := by
  have TZ : Two (w.alloc pObj) w.heap.size (.slice none 0 0) (.slice none 0 0) := Two.new w (.slice none 0 0) (.slice none 0 0) 26
  have N : Below w.heap.size w (w.alloc pObj) := (Below.refl _ _).alloc (Nat.le_refl _) _
  have DW := hide (fun W (s : Nat) (hs : Src W s a xs.length c 0) (h : Rd W g a .u8 xs) (hn : 0 < xs.length → g ≠ s) => l5DrawV_any W s g a c xs 0 hs h hn hb hl (by decide) (by decide))
  have SO := hide (fun W => l1SourceB_any W a xs.length c hl)
  have hg := hide (fun h => hr.lt h)
  generalize drP xs 0 = X at *
  go_enter Tryd.func33, Tryd.ntmps33
  go_upto_region 1 with fail
  change Code.wp _ _ _ _ (w.alloc pObj)
  generalize w.alloc pObj = wz at *
  go_wp2_with fail
  refine (SO.out wz).mono ?_
  rintro e w1 ⟨rfl, S1, n1⟩
  have zz := TZ.lt
  have z1 := n1.size
  replace TZ := TZ.up n1
  replace N := nxt N n1
  have hr1 := hr.up N
  have sl := S1.lt
  clear n1 SO
  go_wp2_with fail
  refine (DW.out w1 wz.heap.size S1 hr1 (fun h => by have := hg.out h; omega)).mono ?_
  rintro r w2 ⟨⟨a1, a1', c1, c1', g1, g1', rfl, o1, o1', l1, l1'⟩, n2⟩
  replace TZ := TZ.of_block' (n2.block w.heap.size (by omega) (by omega))
  replace N := Below.ofBut N n2 (by omega)
  clear n2 DW S1 hr1
  obtain ⟨y0, y1, v0, v1⟩ := TZ
  have O := (Only.setCell w2 w.heap.size 0 (.slice a1 X.1.length c1)).trans (Only.setCell _ w.heap.size 1 (.slice a1' X.2.length c1'))
  go_wp2
  refine bodyPost_ret (v := .agg #[.slice a1 X.1.length c1, .slice a1' X.2.length c1']) (by simp [results, Tryd.results33, go_sem, y0, y1]) rfl ⟨?_, (N.setCell (Nat.le_refl _) _).setCell (Nat.le_refl _) _⟩
  exact ⟨a1, a1', c1, c1', g1, g1', rfl, o1.only O (fun _ => by omega), o1'.only O (fun _ => by omega), by omega, by omega⟩
/-- The valid point of a code. -/
def lpP (xs : List Int) : List Int × List Int := if validP (drP xs 0).1 (drP xs 0).2 = true then drP xs 0 else (bsX, bsY)
set_option maxHeartbeats 2000000 in
theorem lwPoint_any (w : World) (g : Nat) (a : Option Addr) (c : Nat) (xs : List Int) (hr : Rd w g a .u8 xs) (hb : Byt xs) (hl : xs.length ≤ 4194304) :
    Calls Tryd.prog 15 #[.slice a xs.length c] w fun r w' => NewPt w.heap.size w' r (lpP xs).1 (lpP xs).2 ∧ Below w.heap.size w w' := by
  have TZ : Two (w.alloc pObj) w.heap.size (.slice none 0 0) (.slice none 0 0) := Two.new w (.slice none 0 0) (.slice none 0 0) 26
  have N : Below w.heap.size w (w.alloc pObj) := (Below.refl _ _).alloc (Nat.le_refl _) _
  have DW := hide (fun W (h : Rd W g a .u8 xs) => drawNeg_any W g a c xs h hb hl)
  have XB := hide (drP_byt xs 0)
  obtain ⟨R, hR⟩ : ∃ R, R = lpP xs := ⟨_, rfl⟩
  rw [← hR]
  unfold lpP at hR
  have HR := hide hR
  clear hR
  generalize drP xs 0 = X at *
  go_enter Tryd.func15, Tryd.ntmps15
  go_upto_region 1 with fail
  change Code.wp _ _ _ _ (w.alloc pObj)
  have hr0 := hr.up N
  generalize w.alloc pObj = wz at *
  go_wp2_with fail
  refine (DW.out wz hr0).mono ?_
  rintro r w1 ⟨⟨a1, a1', c1, c1', g1, g1', rfl, o1, o1', l1, l1'⟩, n1⟩
  have zz := TZ.lt
  have z1 := n1.size
  have TP := Two.new w1 (.slice a1 X.1.length c1) (.slice a1' X.2.length c1') 26
  have n2 : Below w1.heap.size w1 (w1.alloc (.cells #[.slice a1 X.1.length c1, .slice a1' X.2.length c1'] 26)) := (Below.refl _ _).alloc (Nat.le_refl _) _
  replace TZ := (TZ.up n1).up n2
  replace N := nxt (nxt N n1) n2
  replace o1 := o1.up n2
  replace o1' := o1'.up n2
  have z2 := n2.size
  clear n1 n2 DW hr0
  have zl := TP.lt
  have VA := hide (pointValid_any _ g1 g1' a1 a1' c1 c1' X.1 X.2 o1.rd o1'.rd XB.out.1 XB.out.2)
  obtain ⟨p0, p1, pf0, pf1⟩ := id TP
  obtain ⟨v, hv⟩ : ∃ v, v = validP X.1 X.2 := ⟨_, rfl⟩
  rw [← hv] at VA HR
  clear hv
  go_wp2_with fail
  generalize w1.alloc (.cells #[.slice a1 X.1.length c1, .slice a1' X.2.length c1'] 26) = w2 at *
  refine VA.out.mono ?_
  rintro e w3 ⟨rfl, n3⟩
  have z3 := n3.size
  replace TZ := TZ.up n3
  replace TP := TP.up n3
  replace N := nxt N n3
  replace o1 := o1.up n3
  replace o1' := o1'.up n3
  clear n3 VA p0 p1 pf0 pf1
  cases v with
  | true =>
    have HD : Hid (R = X) := by show _ = _; rw [HR.out, if_pos rfl]
    clear HR
    obtain ⟨p0, p1, pf0, pf1⟩ := TP
    obtain ⟨y0, y1, v0, v1⟩ := TZ
    have O := (Only.setCell w3 w.heap.size 0 (.slice a1 X.1.length c1)).trans (Only.setCell _ w.heap.size 1 (.slice a1' X.2.length c1'))
    go_wp2
    refine bodyPost_ret (v := .agg #[.slice a1 X.1.length c1, .slice a1' X.2.length c1']) (by simp [results, Tryd.results15, go_sem, y0, y1]) rfl ⟨?_, (N.setCell (Nat.le_refl _) _).setCell (Nat.le_refl _) _⟩
    rw [HD.out]
    exact ⟨a1, a1', c1, c1', g1, g1', rfl, o1.only O (fun _ => by omega), o1'.only O (fun _ => by omega), by omega, by omega⟩
  | false =>
    have HD : Hid (R = (bsX, bsY)) := by show _ = _; rw [HR.out, if_neg (by decide)]
    clear HR o1 o1'
    have SB : Hid (Calls Tryd.prog 34 #[] w3 fun r w' => NewPt w3.heap.size w' r bsX bsY ∧ Below w3.heap.size w3 w') := specBase_any w3
    generalize bsX = bx at *
    generalize bsY = by' at *
    go_wp2_with fail
    refine SB.out.mono ?_
    rintro r w4 ⟨⟨a4, a4', c4, c4', g4, g4', rfl, o4, o4', l4, l4'⟩, n4⟩
    have z4 := n4.size
    replace TZ := TZ.up n4
    replace N := nxt N n4
    clear n4 SB
    obtain ⟨y0, y1, v0, v1⟩ := TZ
    have O := (Only.setCell w4 w.heap.size 0 (.slice a4 bx.length c4)).trans (Only.setCell _ w.heap.size 1 (.slice a4' by'.length c4'))
    go_wp2
    refine bodyPost_ret (v := .agg #[.slice a4 bx.length c4, .slice a4' by'.length c4']) (by simp [results, Tryd.results15, go_sem, y0, y1]) rfl ⟨?_, (N.setCell (Nat.le_refl _) _).setCell (Nat.le_refl _) _⟩
    rw [HD.out]
    exact ⟨a4, a4', c4, c4', g4, g4', rfl, o4.only O (fun _ => by omega), o4'.only O (fun _ => by omega), by omega, by omega⟩
end Go.Proofs.YtnaaanefndeafaaDoor

/-
  The group of the curve in lists of bytes. Numbers alone.
-/
namespace Go.Proofs.YtnaaanefndeafaaDoor
set_option maxRecDepth 100000
open Go Go.RowKit

/-- A point of the curve in canonical coordinates. -/
structure Pv (p : Int × Int) : Prop where
  on : OnP PP (-1) d0 p
  cn : Cn p
def lx (p : Int × Int) : List Int := fill (byt p.1) 32
def ly (p : Int × Int) : List Int := fill (byt p.2) 32
theorem lx_byt (p : Int × Int) : Byt (lx p) := bytes_5 _ _
theorem ly_byt (p : Int × Int) : Byt (ly p) := bytes_5 _ _
theorem lx_len (p : Int × Int) : (lx p).length = 32 := fill_len _ _
theorem ly_len (p : Int × Int) : (ly p).length = 32 := fill_len _ _
theorem num_fill {v : Int} (h0 : 0 ≤ v) (h1 : v < PP) : num (fill (byt v) 32) = v := by
  have e := num_modS v
  rwa [Int.emod_eq_of_lt h0 h1] at e
theorem lx_num {p : Int × Int} (h : Pv p) : num (lx p) = p.1 := num_fill h.cn.x.1 h.cn.x.2
theorem ly_num {p : Int × Int} (h : Pv p) : num (ly p) = p.2 := num_fill h.cn.y.1 h.cn.y.2
theorem can_fill {v : Int} (h0 : 0 ≤ v) (h1 : v < PP) : canN (fill (byt v) 32) = true := by
  unfold canN
  rw [num_fill h0 h1, fill_len, decide_eq_true h1]
  rfl
theorem lv_valid {p : Int × Int} (h : Pv p) : validP (lx p) (ly p) = true := by
  unfold validP
  rw [lx_num h, ly_num h, show canN (lx p) = true from can_fill h.cn.x.1 h.cn.x.2, show canN (ly p) = true from can_fill h.cn.y.1 h.cn.y.2, on_valid h.on]
  rfl
theorem pv_of {xs ys : List Int} (hx : Byt xs) (hy : Byt ys) (h : validP xs ys = true) : Pv (num xs, num ys) ∧ xs = lx (num xs, num ys) ∧ ys = ly (num xs, num ys) := by
  have x1 := valid_x1 h
  have y1 := valid_y1 h
  refine ⟨⟨on_of h, ⟨num_ge hx, can_lt x1⟩, ⟨num_ge hy, can_lt y1⟩⟩, ?_, ?_⟩
  · have e := fill_can hx x1
    rw [Int.emod_eq_of_lt (num_ge hx) (can_lt x1)] at e
    exact e.symm
  · have e := fill_can hy y1
    rw [Int.emod_eq_of_lt (num_ge hy) (can_lt y1)] at e
    exact e.symm
theorem Pv.add {p q : Int × Int} (hp : Pv p) (hq : Pv q) : Pv (pAdd p q) := ⟨pAdd_on hp.on hq.on, pAdd_cn _ _⟩
theorem Pv.neg {p : Int × Int} (hp : Pv p) : Pv (pNeg p) := ⟨pNeg_on hp.on, pNeg_cn hp.cn⟩
theorem pa_of {p q : Int × Int} (hp : Pv p) (hq : Pv q) : paX (lx p) (ly p) (lx q) (ly q) = lx (pAdd p q) ∧ paY (lx p) (ly p) (lx q) (ly q) = ly (pAdd p q) := by
  unfold paX paY
  rw [if_pos ⟨lv_valid hp, lv_valid hq⟩, if_pos ⟨lv_valid hp, lv_valid hq⟩, lx_num hp, ly_num hp, lx_num hq, ly_num hq]
  exact ⟨rfl, rfl⟩
theorem ns_of {p : Int × Int} (hp : Pv p) : nsX (lx p) (ly p) = lx (pNeg p) ∧ nsY (lx p) (ly p) = ly (pNeg p) := by
  unfold nsX nsY
  rw [if_pos (lv_valid hp), if_pos (lv_valid hp), lx_num hp]
  exact ⟨rfl, rfl⟩
def pZero : Int × Int := (0, 1)
theorem pv_zero : Pv pZero := ⟨by show PP ∣ _; decide, zero_cn⟩
theorem ze_of : fill (byt (0 % PP)) 32 = lx pZero ∧ fill (byt (1 % PP)) 32 = ly pZero := ⟨rfl, rfl⟩
theorem pv_base : Pv (bX, bY) := ⟨base_on, base_cn⟩
theorem bs_of : bsX = lx (bX, bY) ∧ bsY = ly (bX, bY) := by
  have h : liB (4 * iv 5) false = true := by
    unfold liB
    rw [base_lift.1]
    simp
  have e1 : bX % PP = bX := Int.emod_eq_of_lt base_cn.x.1 base_cn.x.2
  unfold bsX bsY liX liY
  rw [if_pos h, if_pos h, base_lift.2, base_mod]
  refine ⟨?_, rfl⟩
  show fill (byt (bX % PP)) 32 = _
  rw [e1]
  rfl
/-- The point that is drawn. -/
theorem lpP_is {xs : List Int} : ∃ p, Pv p ∧ lpP xs = (lx p, ly p) := by
  have hb := drP_byt xs 0
  unfold lpP
  generalize drP xs 0 = X at *
  by_cases h : validP X.1 X.2 = true
  · rw [if_pos h]
    obtain ⟨k, e1, e2⟩ := pv_of hb.1 hb.2 h
    exact ⟨_, k, Prod.ext e1 e2⟩
  · rw [if_neg h]
    exact ⟨_, pv_base, by rw [bs_of.1, bs_of.2]⟩
theorem grp_comm {p q : Int × Int} (hp : Pv p) (hq : Pv q) : pAdd p q = pAdd q p := pAdd_comm hp.on hq.on
theorem grp_assoc {p q r : Int × Int} (hp : Pv p) (hq : Pv q) (hr : Pv r) : pAdd (pAdd p q) r = pAdd p (pAdd q r) := pAdd_assoc hp.on hq.on hr.on
theorem grp_zero {p : Int × Int} (hp : Pv p) : pAdd p pZero = p := pAdd_zero hp.on hp.cn
theorem grp_neg {p : Int × Int} (hp : Pv p) : pAdd p (pNeg p) = pZero := pAdd_neg hp.on
end Go.Proofs.YtnaaanefndeafaaDoor

/-
  Two points that are the same, as the laws ask it.
-/
namespace Go.Proofs.YtnaaanefndeafaaDoor
set_option maxRecDepth 100000
open Go Go.RowKit

set_option maxHeartbeats 2000000 in
theorem lwSamePoint_same (w : World) (g g' h h' : Nat) (a b p q : Option Addr) (ca cb cp cq : Nat) (ys ss : List Int) (h1 : Rd w g a .u8 ys) (h2 : Rd w h p .u8 ss) (h3 : Rd w g' b .u8 ys) (h4 : Rd w h' q .u8 ss) :
    Calls Tryd.prog 18 #[.agg #[.slice a ys.length ca, .slice p ss.length cp], .agg #[.slice b ys.length cb, .slice q ss.length cq]] w fun e w' => e = .returned (.bool true) ∧ Below w.heap.size w w' := by
  have n0 : Below w.heap.size w (w.alloc (.cells #[.slice a ys.length ca, .slice p ss.length cp] 26)) := (Below.refl _ _).alloc (Nat.le_refl _) _
  have n1 : Below w.heap.size w ((w.alloc (.cells #[.slice a ys.length ca, .slice p ss.length cp] 26)).alloc (.cells #[.slice b ys.length cb, .slice q ss.length cq] 26)) := n0.alloc (by simp) _
  have L1 := hide (lwSame_same _ g g' a b ca cb ys (h1.up n1) (h3.up n1))
  have L2 := hide (lwSame_same _ h h' p q cp cq ss (h2.up n1) (h4.up n1))
  go_enter Tryd.func18, Tryd.ntmps18
  go_wp2_with fail
  refine L1.out.mono ?_
  rintro e w3 ⟨rfl, rfl⟩
  go_wp2_with fail
  refine L2.out.mono ?_
  rintro e w4 ⟨rfl, rfl⟩
  go_wp2
  go_ret
  exact ⟨rfl, n1⟩
end Go.Proofs.YtnaaanefndeafaaDoor

/-
  The law of PointNegate.
-/
namespace Go.Proofs.YtnaaanefndeafaaDoor
set_option maxRecDepth 100000
open Go Go.RowKit

theorem ngX_eq (xs ys : List Int) : ngX dGo xs ys = nsX xs ys := by
  unfold ngX nsX
  rw [rp_valid]
  by_cases h : validP xs ys = true
  · rw [if_pos h, if_pos h, rpX_of h]
  · rw [if_neg h, if_neg h]
theorem ngY_eq {ys : List Int} (hb : Byt ys) (xs : List Int) : ngY dGo xs ys = nsY xs ys := by
  unfold ngY nsY
  rw [rp_valid]
  by_cases h : validP xs ys = true
  · rw [if_pos h, if_pos h, rpY_of h, fill_can hb (valid_y1 h)]
  · rw [if_neg h, if_neg h]
theorem ns_len1 (xs ys : List Int) : (nsX xs ys).length ≤ 1048576 := by
  unfold nsX
  split
  · rw [fill_len]; omega
  · simp
theorem ns_len2 (xs ys : List Int) : (nsY xs ys).length ≤ 1048576 := by
  unfold nsY
  split
  · rename_i h
    have := (valid_len h).2
    omega
  · simp
end Go.Proofs.YtnaaanefndeafaaDoor

/-
  The law by facts for a region that draws its order, with guarded operations that all are wanted. No program in sight.
-/
namespace Go.Proofs.YtnaaanefndeafaaDoor
set_option maxRecDepth 100000
open Go Go.RowKit

section
variable {P : Program} {ops : Array Oper} {Q : Exit → Act → World → Prop} {md : Region.Mode} {F : Nat → Fact} {a0 : Act} {w0 : World}

def textEnd (md : Region.Mode) (ops : Array Oper) (n : Nat) : Bool :=
  (ops.all fun o => match o.dst with | some d => decide (d < n) | none => true)
  && ((List.range ops.size).all fun i => match ops[i]? with
    | some o => o.after.all (fun e => !Region.binds md e || decide (e.on < i)) && (List.range i).all fun j => match ops[j]? with
      | some x => x.dst.isNone || o.dst != x.dst
      | none => true
    | none => true)
structure TextE (md : Region.Mode) (ops : Array Oper) (n : Nat) : Prop where
  d : ∀ (i : Nat) o d, ops[i]? = some o → o.dst = some d → d < n
  a : ∀ (i : Nat) o, ops[i]? = some o → ∀ e ∈ o.after, Region.binds md e = true → e.on < i
  x : ∀ (i j : Nat) o o' d, ops[i]? = some o → ops[j]? = some o' → i ≠ j → o.dst = some d → o'.dst ≠ some d
theorem textE_of {n : Nat} (h : textEnd md ops n = true) : TextE md ops n := by
  unfold textEnd at h
  simp only [Bool.and_eq_true] at h
  obtain ⟨h1, h2⟩ := h
  rw [Array.all_eq_true_iff_forall_mem] at h1
  rw [List.all_eq_true] at h2
  have H : ∀ (i j : Nat) o o' d, j < i → ops[i]? = some o → ops[j]? = some o' → o.dst = some d → o'.dst ≠ some d := by
    intro i j o o' d hij hi hj hd hd'
    have q := h2 i (List.mem_range.2 (Array.getElem?_eq_some_iff.1 hi).1)
    simp only [hi, Bool.and_eq_true] at q
    have r := List.all_eq_true.1 q.2 j (List.mem_range.2 hij)
    simp only [hj, hd, hd'] at r
    simp at r
  refine ⟨?_, ?_, ?_⟩
  · intro i o d ho hd
    have q := h1 o (Array.mem_of_getElem? ho)
    simpa [hd] using q
  · intro i o ho e he hb
    have q := h2 i (List.mem_range.2 (Array.getElem?_eq_some_iff.1 ho).1)
    simp only [ho, Bool.and_eq_true] at q
    have r := (Array.all_eq_true_iff_forall_mem.1 q.1) e he
    rw [hb] at r
    simpa using r
  · intro i j o o' d hi hj hij hd hd'
    rcases Nat.lt_or_gt_of_ne hij with h | h
    · exact H j i o' o d h hj hi hd' hd
    · exact H i j o o' d h hi hj hd hd'
theorem Held.nextE {n : Nat} (T : TextE md ops n) (hn : n ≤ a0.tmps.size) {listed : Array Bool} {a : Act} {w : World} (H : Held md ops F a0 w0 listed a w) {i : Nat} {o : Oper} (ho : ops[i]? = some o) (hr : i ∈ Region.ready md ops listed)
    {v : Value} {w' : World} (hw : Below w.heap.size w w') (hf : (F i).p v w') : Held md ops F a0 w0 (listed.setIfInBounds i true) (a.put o.dst v) w' := by
  have hi : i < ops.size := (Array.getElem?_eq_some_iff.1 ho).1
  have hz : a.tmps.size = a0.tmps.size := H.b.2.1
  refine ⟨⟨by rw [put_defers]; exact H.b.1, by rw [put_size]; exact hz, fun d hd => ?_⟩, nxt H.n hw, ?_, ?_, by simp [H.s]⟩
  · rw [put_off]
    · exact H.b.2.2 d hd
    · have q := Array.all_eq_true_iff_forall_mem.1 hd o (Array.mem_of_getElem? ho)
      simpa using q
  · intro j oj d hoj hj hd
    by_cases e : i = j
    · subst e
      obtain rfl := Option.some.inj (ho.symm.trans hoj)
      rw [hd, put_at (Nat.lt_of_lt_of_le (T.d i o d ho hd) (hz ▸ hn))]
      exact hf
    · rw [getD_off e] at hj
      rw [put_off (T.x j i oj o d hoj ho (Ne.symm e) hd)]
      exact (F j).up hw (H.f j oj d hoj hj hd)
  · intro j oj hoj hj e he hb
    obtain ⟨_, o', ho', q⟩ := mem_ready.1 hr
    by_cases c : i = e.on
    · rw [← c]
      exact getD_same (by rw [H.s]; exact hi) _
    · rw [getD_off c]
      by_cases e' : i = j
      · subst e'
        obtain rfl := Option.some.inj (ho'.symm.trans hoj)
        exact q e he hb
      · rw [getD_off e'] at hj
        exact H.c j oj hoj hj e he hb
theorem any_end {n : Nat} (T : TextE md ops n) (hn : n ≤ a0.tmps.size) (steps : ∀ i, i < ops.size → StepOk P md ops Q F a0 w0 i)
    (hg : ∀ i o, ops[i]? = some o → ∀ (a : Act) (w : World), (∀ j d, waits md ops i j d = true → (F j).p (a.tmps.getD d undef) w) → Region.wanted o (yielded ops a.tmps) = true)
    (fin : ∀ a w, Based ops a0 a → Below w0.heap.size w0 w → (∀ i o d, ops[i]? = some o → o.dst = some d → (F i).p (a.tmps.getD d undef) w) → Q .normal a w) :
    ∀ (fuel : Nat) (listed : Array Bool) (a : Act) (w : World), left listed ops.size ≤ fuel → Held md ops F a0 w0 listed a w → wpAny P md ops Q fuel listed a w := by
  have done : ∀ (fuel : Nat) (listed : Array Bool) (a : Act) (w : World), Held md ops F a0 w0 listed a w → (∀ i, i < ops.size → listed.getD i false = true) → wpAny P md ops Q fuel listed a w := by
    intro fuel listed a w H hall
    refine wpAny_done ?_ (fin a w H.b H.n (fun i o d ho hd => H.f i o d ho (hall i (Array.getElem?_eq_some_iff.1 ho).1) hd)) fuel
    cases hr : Region.ready md ops listed with
    | nil => rfl
    | cons i t =>
      exfalso
      have hi : i ∈ Region.ready md ops listed := by rw [hr]; simp
      obtain ⟨h0, o, ho, _⟩ := mem_ready.1 hi
      have hlt := (Array.getElem?_eq_some_iff.1 ho).1
      rw [dflt (by rw [H.s]; exact hlt), hall i hlt] at h0
      simp at h0
  intro fuel
  induction fuel with
  | zero =>
    intro listed a w hl H
    exact done 0 listed a w H fun i hi => by
      rw [← dflt (by rw [H.s]; exact hi)]
      exact left_zero (n := ops.size) (by omega) i hi
  | succ fuel ih =>
    intro listed a w hl H
    by_cases hall : ∀ i, i < ops.size → listed.getD i false = true
    · exact done _ listed a w H hall
    · refine ⟨fun hr => ?_, fun i hi => ?_⟩
      · exfalso
        refine hall fun j hj => ?_
        have : ∀ m i, i < m → i < ops.size → listed.getD i false = true := by
          intro m
          induction m with
          | zero => intro i hi; omega
          | succ m ihm =>
            intro i hi hik
            rcases Nat.lt_or_ge i m with h1 | h1
            · exact ihm i h1 hik
            · obtain rfl : i = m := by omega
              cases hc : listed.getD i false
              · exfalso
                obtain ⟨o, ho⟩ : ∃ o, ops[i]? = some o := ⟨ops[i], by simp [hik]⟩
                have hr' : i ∈ Region.ready md ops listed := mem_ready.2 ⟨by rw [dflt (by rw [H.s]; omega)]; exact hc, o, ho, fun e he hb => ihm e.on (T.a i o ho e he hb) (by have := T.a i o ho e he hb; omega)⟩
                rw [hr] at hr'
                simp at hr'
              · rfl
        exact this (j + 1) j (by omega) hj
      · obtain ⟨h0, o, ho, hready⟩ := mem_ready.1 hi
        have hlt := (Array.getElem?_eq_some_iff.1 ho).1
        have hfacts : ∀ j d, waits md ops i j d = true → (F j).p (a.tmps.getD d undef) w := by
          intro j d hjd
          unfold waits at hjd
          rw [ho] at hjd
          cases hoj : ops[j]? with
          | none => rw [hoj] at hjd; simp at hjd
          | some oj =>
            rw [hoj] at hjd
            simp only [Bool.and_eq_true, beq_iff_eq] at hjd
            obtain ⟨e, he, hb⟩ := Array.any_eq_true'.1 hjd.1
            simp only [Bool.and_eq_true, beq_iff_eq] at hb
            exact H.f j oj d hoj (by rw [← hb.2]; exact hready e he hb.1) hjd.2
        have hwant := hg i o ho a w hfacts
        refine wpOp_step ho fun K' hK => ?_
        rw [if_pos hwant]
        have hll := left_set (by rw [H.s]; exact hlt) h0 ops.size hlt
        refine steps i hlt o ho a w H.b H.n hfacts K' fun v w' hw hf => ?_
        exact hK _ _ (ih _ _ _ (by omega) (H.nextE T hn ho hi hw hf))
/-- The same for the region. -/
theorem region_guard {id : Nat} {w : World} (F : Nat → Fact) (hm : P.follows .mixedOrders = true) (hT : textEnd .any ops a0.tmps.size = true) (steps : ∀ i, i < ops.size → StepOk P .any ops Q F a0 w i)
    (hg : ∀ i o, ops[i]? = some o → ∀ (a : Act) (w : World), (∀ j d, waits .any ops i j d = true → (F j).p (a.tmps.getD d undef) w) → Region.wanted o (yielded ops a.tmps) = true)
    (fin : ∀ a W, Based ops a0 a → Below w.heap.size w W → (∀ i d, writes ops i d = true → (F i).p (a.tmps.getD d undef) W) → Q .normal a W) : (Code.region id ops true).wp P Q a0 w := by
  have T := textE_of hT
  have z : ∀ j, (Array.replicate ops.size false).getD j false = false := fun j => by
    rw [Array.getD_eq_getD_getElem?, Array.getElem?_replicate]
    split <;> rfl
  refine wp_region_any hm ?_
  refine any_end (w0 := w) T (Nat.le_refl _) steps hg (fun a W hb hw hf => fin a W hb hw (fun i d hd => ?_)) ops.size _ a0 _ ?_ ⟨⟨rfl, rfl, fun _ _ => rfl⟩, (Below.refl _ _).drew, ?_, ?_, by simp⟩
  · obtain ⟨o, ho, hd'⟩ := writes_is hd
    exact hf i o d ho hd'
  · have : ∀ m, left (Array.replicate ops.size false) m ≤ m := by
      intro m
      induction m with
      | zero => exact Nat.le_refl _
      | succ m ih => unfold left; split <;> omega
    exact this _
  · intro i o d ho hl _
    rw [z] at hl
    simp at hl
  · intro i o ho hl
    rw [z] at hl
    simp at hl
theorem wanted_none {o : Oper} {a : Act} (h : o.guard = none) : Region.wanted o (yielded ops a.tmps) = true := by simp [Region.wanted, h]
theorem wanted_some {o : Oper} {a : Act} {g d : Nat} {v : Bool} (h : o.guard = some (g, v)) (hd : writes ops g d = true) (e : a.tmps.getD d undef = .bool v) : Region.wanted o (yielded ops a.tmps) = true := by
  obtain ⟨og, ho, hd'⟩ := writes_is hd
  have e1 : a.tmps[d]? = some (.bool v) := by
    rw [Array.getD_eq_getD_getElem?] at e
    cases hq : a.tmps[d]? with
    | none => rw [hq] at e; simp [undef] at e
    | some x => rw [hq] at e; simpa using e
  simp [Region.wanted, h, yielded, ho, hd', e1]
theorem puts_guard {n : Nat} (hT : textEnd md ops n = true) (hn : n = a0.tmps.size) {a : Act} (hb : Based ops a0 a) (vs : Nat → Value) (hv : ∀ d, a.tmps.getD d undef = vs d) : a = puts vs a0 ops.toList := by
  have T := textE_of hT
  have hin : ∀ o ∈ ops.toList, ∀ e, o.dst = some e → e < a0.tmps.size := fun o ho e he => by
    obtain ⟨i, hi⟩ := List.getElem?_of_mem ho
    have := T.d i o e (by simpa using hi) he
    rw [hn] at this
    exact this
  obtain ⟨s1, s2⟩ := puts_size vs ops.toList a0
  obtain ⟨ta, da⟩ := a
  obtain ⟨h1, h2, h3⟩ := hb
  have e1 : ta = (puts vs a0 ops.toList).tmps := by
    apply Array.ext
    · rw [s1]; exact h2
    · intro i hi hi'
      have g := puts_get vs i ops.toList a0 hin
      have l : ta[i] = ta.getD i undef := by simp [Array.getD_eq_getD_getElem?, hi]
      have r : (puts vs a0 ops.toList).tmps[i] = (puts vs a0 ops.toList).tmps.getD i undef := by simp only [Array.getD_eq_getD_getElem?, Array.getElem?_eq_getElem hi', Option.getD_some]
      rw [l, r, g]
      by_cases c : ops.toList.any (fun o => o.dst == some i) = true
      · rw [if_pos c]; exact hv i
      · rw [if_neg c]
        refine h3 i ?_
        unfold apart
        rw [Array.all_eq_true_iff_forall_mem]
        intro o ho
        have hne : ¬ (o.dst == some i) = true := fun x => c (List.any_eq_true.2 ⟨o, by simpa using ho, x⟩)
        simpa using hne
  have e2 : da = (puts vs a0 ops.toList).defers := h1.trans s2.symm
  subst e1
  subst e2
  rfl
end
end Go.Proofs.YtnaaanefndeafaaDoor

/-
  Steps on points of the curve, for the laws that draw them.
-/
namespace Go.Proofs.YtnaaanefndeafaaDoor
set_option maxRecDepth 100000
open Go Go.RowKit

/-- A point that may be read. -/
def RP (p : Int × Int) : Fact := ⟨fun v w => ∃ (a a' : Option Addr) (c c' g g' : Nat), v = .agg #[.slice a (lx p).length c, .slice a' (ly p).length c'] ∧ Rd w g a .u8 (lx p) ∧ Rd w g' a' .u8 (ly p), fun n h => by
  obtain ⟨a, a', c, c', g, g', e, o, o'⟩ := h
  exact ⟨a, a', c, c', g, g', e, o.up n, o'.up n⟩⟩
theorem rp_of_new {B : Nat} {w : World} {r : Ending} {p : Int × Int} {xs ys : List Int} (hx : xs = lx p) (hy : ys = ly p) (h : NewPt B w r xs ys) : ∃ v, r = .returned v ∧ (RP p).p v w := by
  subst hx hy
  obtain ⟨a, a', c, c', g, g', rfl, o, o', _⟩ := h
  exact ⟨_, rfl, a, a', c, c', g, g', rfl, o.rd, o'.rd⟩
theorem rp_of_new2 {B : Nat} {w : World} {r : Ending} {p : Int × Int} {xs ys : List Int} (hx : xs = lx p) (hy : ys = ly p) (h : NewP2 B w r xs ys) : ∃ v, r = .returned v ∧ (RP p).p v w := by
  subst hx hy
  obtain ⟨a, c, g, a', c', g', rfl, o, o', _⟩ := h
  exact ⟨_, rfl, a, a', c, c', g, g', rfl, o.rd, o'.rd⟩
section
variable {ops : Array Oper} {Q : Exit → Act → World → Prop} {md : Region.Mode} {F : Nat → Fact} {a0 : Act} {w0 : World} {i : Nat} {o : Oper} {ts : Array TypeId}
theorem step_gsadd (hi : ops[i]? = some o) (p q j k : Nat) {x y : Int × Int} (hx : Pv x) (hy : Pv y) (hop : o.op = .call { callee := .value (.func 84), args := #[.tmp p, .tmp q], argTypes := ts })
    (hj : waits md ops i j p = true) (hk : waits md ops i k q = true) (hFj : F j = RP x) (hFk : F k = RP y) (hFi : F i = RP (pAdd x y)) : StepOk Tryd.prog md ops Q F a0 w0 i := by
  refine step_call hi _ _ ts hop (by kernel_rfl) fun a w _ hw hF => ?_
  have ea := hF j p hj
  have eb := hF k q hk
  rw [hFj] at ea
  rw [hFk] at eb
  obtain ⟨a1, a1', c1, c1', g1, g1', e1, r1, r1'⟩ := ea
  obtain ⟨a2, a2', c2, c2', g2, g2', e2, r2, r2'⟩ := eb
  show Calls Tryd.prog 84 #[a.tmps.getD p undef, a.tmps.getD q undef] w _
  rw [e1, e2]
  refine (specPointAdd_any w g1 g1' g2 g2' a1 a1' a2 a2' c1 c1' c2 c2' (lx x) (ly x) (lx y) (ly y) r1 r1' r2 r2' (lx_byt x) (ly_byt x) (lx_byt y) (ly_byt y)).mono ?_
  rintro r w' ⟨h, hn⟩
  rw [hFi]
  obtain ⟨v, e, hv⟩ := rp_of_new (pa_of hx hy).1 (pa_of hx hy).2 h
  exact ⟨v, e, hn, hv⟩
theorem step_gval (hA : HasA w0) (hi : ops[i]? = some o) (p j : Nat) {x : Int × Int} (hx : Pv x) (hop : o.op = .call { callee := .value (.func 22), args := #[.tmp p], argTypes := ts })
    (hj : waits md ops i j p = true) (hFj : F j = RP x) (hFi : F i = Fact.eq (.bool true)) : StepOk Tryd.prog md ops Q F a0 w0 i := by
  refine step_call hi _ _ ts hop (by kernel_rfl) fun a w _ hw hF => ?_
  have ea := hF j p hj
  rw [hFj] at ea
  obtain ⟨a1, a1', c1, c1', g1, g1', e1, r1, r1'⟩ := ea
  show Calls Tryd.prog 22 #[a.tmps.getD p undef] w _
  rw [e1]
  refine (implValid_any w g1 g1' a1 a1' c1 c1' (lx x) (ly x) r1 r1' (lx_byt x) (ly_byt x) dGo (hA.1.up hw) (hA.2.1.up hw)).mono ?_
  rintro r w' ⟨rfl, hn⟩
  rw [hFi]
  exact ⟨_, rfl, hn, by rw [rp_valid, lv_valid hx]; exact rfl⟩
theorem step_gsame (hi : ops[i]? = some o) (p q j k : Nat) {x : Int × Int} (hop : o.op = .call { callee := .value (.func 18), args := #[.tmp p, .tmp q], argTypes := ts })
    (hj : waits md ops i j p = true) (hk : waits md ops i k q = true) (hFj : F j = RP x) (hFk : F k = RP x) (hFi : F i = Fact.eq (.bool true)) : StepOk Tryd.prog md ops Q F a0 w0 i := by
  refine step_call hi _ _ ts hop (by kernel_rfl) fun a w _ hw hF => ?_
  have ea := hF j p hj
  have eb := hF k q hk
  rw [hFj] at ea
  rw [hFk] at eb
  obtain ⟨a1, a1', c1, c1', g1, g1', e1, r1, r1'⟩ := ea
  obtain ⟨a2, a2', c2, c2', g2, g2', e2, r2, r2'⟩ := eb
  show Calls Tryd.prog 18 #[a.tmps.getD p undef, a.tmps.getD q undef] w _
  rw [e1, e2]
  refine (lwSamePoint_same w g1 g2 g1' g2' a1 a2 a1' a2' c1 c2 c1' c2' (lx x) (ly x) r1 r1' r2 r2').mono ?_
  rintro r w' ⟨rfl, hn⟩
  rw [hFi]
  exact ⟨_, rfl, hn, rfl⟩
theorem step_glw (hi : ops[i]? = some o) (p j : Nat) {x : Int × Int} {g : Nat} {b : Option Addr} {c : Nat} {zs : List Int} (hr : Rd w0 g b .u8 zs) (hb : Byt zs) (hl : zs.length ≤ 4194304) (hx : lpP zs = (lx x, ly x)) (hop : o.op = .call { callee := .value (.func 15), args := #[.tmp p], argTypes := ts })
    (hj : waits md ops i j p = true) (hFj : F j = Fact.eq (.slice b zs.length c)) (hFi : F i = RP x) : StepOk Tryd.prog md ops Q F a0 w0 i := by
  refine step_call hi _ _ ts hop (by kernel_rfl) fun a w _ hw hF => ?_
  have ea := hF j p hj
  rw [hFj] at ea
  show Calls Tryd.prog 15 #[a.tmps.getD p undef] w _
  rw [show a.tmps.getD p undef = _ from ea]
  refine (lwPoint_any w g b c zs (hr.up hw) hb hl).mono ?_
  rintro r w' ⟨h, hn⟩
  rw [hFi]
  rw [hx] at h
  obtain ⟨v, e, hv⟩ := rp_of_new rfl rfl h
  exact ⟨v, e, hn, hv⟩
theorem step_gload (hi : ops[i]? = some o) (p : Nat) (hop : o.op = .load 26 (.tmp p)) (hp : apart ops p = true) (B : Nat) (h0 : a0.tmps.getD p undef = .pointer (some ⟨B, 0, none⟩)) {x : Int × Int} {a a' : Option Addr} {c c' g g' : Nat} (T : Two w0 B (.slice a (lx x).length c) (.slice a' (ly x).length c')) (r : Rd w0 g a .u8 (lx x)) (r' : Rd w0 g' a' .u8 (ly x)) (hF : F i = RP x) : StepOk Tryd.prog md ops Q F a0 w0 i := by
  obtain ⟨fs, hu⟩ := uP
  refine step_load hi _ _ hop _ 2 hu rfl iP fun A w hb hw _ => ?_
  refine ⟨B, 0, [.slice a (lx x).length c, .slice a' (ly x).length c'], (based_at hb p hp).trans h0, fun j v hv => ?_, rfl, by rw [hF]; exact ⟨a, a', c, c', g, g', rfl, r.up hw, r'.up hw⟩⟩
  have T' := T.up hw
  match j, hv with
  | 0, hv => cases hv; exact T'.c0
  | 1, hv => cases hv; exact T'.c1
end
end Go.Proofs.YtnaaanefndeafaaDoor

/-
  A law's copy of a list, still its own to be appended to; a list of the input that is nil holds nothing.
-/
namespace Go.Proofs.YtnaaanefndeafaaDoor
set_option maxRecDepth 100000
open Go.RowKit

set_option maxHeartbeats 400000 in
theorem lwCopyO_any (w : World) (g : Nat) (a : Option Addr) (cap : Nat) (xs : List Int) (hr : Rd w g a .u8 xs) (hc : a = none → cap = 0) (hn : xs.length ≤ 1048576) :
    Calls Tryd.prog 20 #[.slice a xs.length cap] w fun e w' => ∃ v, e = .returned v ∧ w'.ownsRow w.heap.size 5 1 v xs.length (xs.map (Value.int .u8)) ∧ Below w.heap.size w w' := by
  obtain ⟨i0, hi, hz0, hz1, hz2⟩ := info_parts Tryd.info5
  have hown : (w.alloc (.cells #[] 5)).ownsRow w.heap.size 5 1 (.slice (some ⟨w.heap.size, 0, none⟩) 0 0) 0 [] := World.ownsRow_lit w #[] 0 (Nat.le_refl _) (by unfold maxLen; omega) (by simp)
  have hal : Below w.heap.size w (w.alloc (.cells #[] 5)) := (Below.refl _ _).alloc (Nat.le_refl _) _
  cases a with
  | none =>
    obtain rfl : xs = [] := by
      by_cases h0 : 0 < xs.length
      · obtain ⟨off, h, _⟩ := hr h0
        simp at h
      · exact List.eq_nil_of_length_eq_zero (by omega)
    obtain rfl := hc rfl
    go_enter Tryd.func20, Tryd.ntmps20
    go_wp2_with (at_builtin; refine wpList_append_own_none rfl _ _ 22 rfl w.heap.size 5 i0 1 Tryd.underlying22 hi _ 0 [] rfl hown rfl ?_)
    go_ret
    exact ⟨_, rfl, hown, hal⟩
  | some ad =>
    have hcell : ∀ j u, (xs.map (Value.int .u8))[j]? = some u → (w.alloc (.cells #[] 5)).cell? (ad.add j) = some u := by
      intro j u hj
      have hjl : j < xs.length := by
        have := (List.getElem?_eq_some_iff.1 hj).1
        simpa using this
      obtain ⟨off, ha, hcc⟩ := (hr.up hal) (by omega)
      simp only [Option.some.injEq] at ha
      subst ha
      rw [Addr.add_mid, hcc j hjl]
      simpa [hjl] using hj
    have hone : ∀ u ∈ xs.map (Value.int .u8), u.oneCell' = true := by
      intro u hu
      obtain ⟨x, _, rfl⟩ := List.mem_map.1 hu
      rfl
    go_enter Tryd.func20, Tryd.ntmps20
    go_wp2_with (at_builtin; refine wpList_append_own _ rfl _ _ 22 rfl w.heap.size 5 i0 (.int .u8 0) 1 1 Tryd.underlying22 hi hz0 hz1 hz2 rfl (by decide) (.slice (some ⟨w.heap.size, 0, none⟩) 0 0) 0 [] rfl hown ad xs.length cap (xs.map (Value.int .u8)) rfl (by simp) hcell hone (by unfold maxLen; omega) (by omega) (by simp) ?_; intro v' w1 hown' hgrow _)
    simp only [Nat.zero_add, List.nil_append] at hown'
    have hB : Below w.heap.size w w1 := hal.grown hgrow (by simp) (by intro k hk; simp [Value.ownBlock] at hk; omega)
    clear hgrow hown
    go_wp2
    go_ret
    exact ⟨_, rfl, hown', hB⟩
theorem rd_of_row0 {w : World} {a : Option Addr} {len cap : Nat} {zs : List Int}
    (h : (a = none ∧ len = 0 ∧ cap = 0 ∧ zs = []) ∨ ∃ x, a = some x ∧ len ≤ cap ∧ cap ≤ maxLen ∧ zs.length = cap ∧ (∀ i, i < zs.length → w.cell? (x.add i) = some (.int .u8 (zs.getD i 0))) ∧ ∀ n ∈ zs, (Lit.int .u8 n).wf = true) :
    ∃ (g : Nat) (xs : List Int), xs.length = len ∧ Rd w g a .u8 xs ∧ Byt xs ∧ (a = none → cap = 0) := by
  obtain ⟨g, xs, hl, r, b⟩ := rd_of_row h
  refine ⟨g, xs, hl, r, b, fun e => ?_⟩
  rcases h with ⟨_, _, h, _⟩ | ⟨_, h, _⟩
  · exact h
  · rw [h] at e
    exact nomatch e
end Go.Proofs.YtnaaanefndeafaaDoor

/-
  A row of bytes appended to an owned row of bytes, nil ones too, as one equation. No program in sight.
-/
namespace Go.Proofs.YtnaaanefndeafaaDoor
set_option maxRecDepth 100000
open Go.RowKit

/-- A row of bytes that the walk owns. -/
def RowB (w : World) (base : Nat) (v : Value) (xs : List Int) : Prop := w.ownsRow base 5 1 v xs.length (xs.map (Value.int .u8))
theorem RowB.up {w w' : World} {base : Nat} {v : Value} {xs : List Int} (h : RowB w base v xs) (hb : Below w.heap.size w w') : RowB w' base v xs := by
  refine ⟨h.1, ?_⟩
  rcases h.2 with h' | ⟨g, cap, cur, rfl, hbg, hg, hnc, hcm, hcs, ht⟩
  · exact .inl h'
  · exact .inr ⟨g, cap, cur, rfl, hbg, by rw [hb.block g ((Array.getElem?_eq_some_iff.1 hg).1)]; exact hg, hnc, hcm, hcs, ht⟩
theorem RowB.only {w w' : World} {base q : Nat} {v : Value} {xs : List Int} (h : RowB w base v xs) (hb : Only q w w') (hq : q < base) : RowB w' base v xs := by
  refine ⟨h.1, ?_⟩
  rcases h.2 with h' | ⟨g, cap, cur, rfl, hbg, hg, hnc, hcm, hcs, ht⟩
  · exact .inl h'
  · exact .inr ⟨g, cap, cur, rfl, hbg, by rw [hb.block g (by omega)]; exact hg, hnc, hcm, hcs, ht⟩
theorem RowB.base {w : World} {base base' : Nat} {v : Value} {xs : List Int} (h : RowB w base v xs) (hb : base' ≤ base) : RowB w base' v xs := by
  refine ⟨h.1, ?_⟩
  rcases h.2 with h' | ⟨g, cap, cur, rfl, hbg, hg, hnc, hcm, hcs, ht⟩
  · exact .inl h'
  · exact .inr ⟨g, cap, cur, rfl, by omega, hg, hnc, hcm, hcs, ht⟩
theorem RowB.own {w : World} {base : Nat} {v : Value} {xs : List Int} (h : RowB w base v xs) :
    ∃ (a : Option Addr) (c g : Nat), v = .slice a xs.length c ∧ Own w g a .u8 xs ∧ (a = none → c = 0) ∧ xs.length ≤ c ∧ base ≤ g := Own.of_ownsRow h
/-- What an append leaves, with all that is asked of it. -/
theorem append_any {P : Program} (w : World) (ty : TypeId) (i : TypeInfo) (ht : P.underlying 22 = some (.slice 5)) (hi : P.info? 5 = some i) (hz : i.zero = some (.int .u8 0)) (hsize : i.size = 1) (hby : i.bytes = 1)
    (base B : Nat) (v : Value) (xs : List Int) (hown : RowB w base v xs) (g : Nat) (a : Option Addr) (c : Nat) (us : List Int) (hr : Rd w g a .u8 us) (hc : a = none → c = 0) (hl : xs.length + us.length ≤ 1099511627776) (hB : B ≤ base) (hbase : base ≤ w.heap.size) :
    ∃ v' w', (Builtin.append_ #[22, 22] ty #[v, .slice a us.length c]).run P w = .ok v' w' ∧ RowB w' base v' (xs ++ us) ∧ Below B w w' := by
  cases a with
  | none =>
    obtain rfl : us = [] := by
      by_cases h0 : 0 < us.length
      · obtain ⟨off, h, _⟩ := hr h0
        simp at h
      · exact List.eq_nil_of_length_eq_zero (by omega)
    obtain rfl := hc rfl
    exact ⟨v, w, run_append_owned_none (P := P) (w := w) base 22 ty 5 i 1 ht hi v _ _ hown, by rw [List.append_nil]; exact hown, Below.refl _ _⟩
  | some ad =>
    have hcell : ∀ j u, (us.map (Value.int .u8))[j]? = some u → w.cell? (ad.add j) = some u := by
      intro j u hj
      have hjl : j < us.length := by
        have := (List.getElem?_eq_some_iff.1 hj).1
        simpa using this
      obtain ⟨off, ha, hcc⟩ := hr (by omega)
      simp only [Option.some.injEq] at ha
      subst ha
      rw [Addr.add_mid, hcc j hjl]
      simpa [hjl] using hj
    have hone : ∀ u ∈ us.map (Value.int .u8), u.oneCell' = true := by
      intro u hu
      obtain ⟨x, _, rfl⟩ := List.mem_map.1 hu
      rfl
    obtain ⟨v', w', h1, h2, h3, _⟩ := run_append_own (P := P) w base 22 ty 5 i (.int .u8 0) 1 1 ht hi hz hsize hby rfl (by decide) v xs.length (xs.map (Value.int .u8)) hown ad us.length c (us.map (Value.int .u8)) (by simp) hcell hone (by unfold maxLen; omega) (by omega) hbase
    refine ⟨v', w', h1, ?_, (Below.refl B w).grown h3 (by omega) (fun k hk => by have := (World.ownsRow.lt hown k hk).1; omega)⟩
    show w'.ownsRow base 5 1 v' (xs ++ us).length ((xs ++ us).map (Value.int .u8))
    rw [List.length_append, List.map_append]
    exact h2
theorem RowB.lit0 (w : World) : RowB (w.alloc (.cells #[] 5)) w.heap.size (.slice (some ⟨w.heap.size, 0, none⟩) 0 0) [] :=
  World.ownsRow_lit w #[] 0 (Nat.le_refl _) (by unfold maxLen; omega) (by simp)
theorem RowB.lit1 (w : World) (x : Int) : RowB (w.alloc (.cells #[.int .u8 x] 5)) w.heap.size (.slice (some ⟨w.heap.size, 0, none⟩) 1 1) [x] :=
  World.ownsRow_lit w #[.int .u8 x] 1 (Nat.le_refl _) (by unfold maxLen; omega) (by simp)
theorem RowB.rd {w : World} {base : Nat} {v : Value} {xs : List Int} (h : RowB w base v xs) : ∃ (a : Option Addr) (c g : Nat), v = .slice a xs.length c ∧ Rd w g a .u8 xs ∧ (a = none → c = 0) ∧ xs.length ≤ c ∧ base ≤ g := by
  obtain ⟨a, c, g, h1, h2, h3⟩ := h.own
  exact ⟨a, c, g, h1, h2.rd, h3⟩
theorem newRow_e (w : World) (k : IntKind) : NewRow w.heap.size (w.alloc (.cells #[] 5)) (.returned (.slice (some ⟨w.heap.size, 0, none⟩) 0 0)) k [] :=
  ⟨_, 0, w.heap.size, rfl, Own.nil _ _ _ _, by simp, Nat.zero_le _, Nat.le_refl _⟩
theorem newRow_z (w : World) (k : IntKind) : NewRow w.heap.size w (.returned (.slice none 0 0)) k [] :=
  ⟨_, 0, w.heap.size, rfl, Own.nil _ _ _ _, by simp, Nat.zero_le _, Nat.le_refl _⟩
theorem blk_lit1 (w : World) (k : IntKind) (e : TypeId) (x : Int) : Blk (w.alloc (.cells #[.int k x] e)) w.heap.size k [x] := by
  refine ⟨e, ?_⟩
  show (w.heap.push _)[w.heap.size]? = _
  simp
end Go.Proofs.YtnaaanefndeafaaDoor

/-
  The law FnPointGroup (written by gens/lgrp.py).
-/
namespace Go.Proofs.YtnaaanefndeafaaDoor
set_option maxRecDepth 100000
open Go Go.RowKit

theorem byt_two {xs ys : List Int} (h : Byt xs) (k : Byt ys) : Byt (xs ++ ys) := by
  intro j
  rw [List.getD_eq_getElem?_getD]
  by_cases c : j < xs.length
  · rw [List.getElem?_append_left c, ← List.getD_eq_getElem?_getD]
    exact h j
  · rw [List.getElem?_append_right (by omega), ← List.getD_eq_getElem?_getD]
    exact k _

theorem step_pickT {ops : Array Oper} {Q : Exit → Act → World → Prop} {md : Region.Mode} {F : Nat → Fact} {a0 : Act} {w0 : World} {i : Nat} {o : Oper} {P : Program} (hi : ops[i]? = some o) (p q j k : Nat) {v : Value} {x : Value} (hop : o.op = .pick (.tmp p) (.tmp q) (.const x)) (hj : waits md ops i j p = true) (hk : waits md ops i k q = true) (hFj : F j = Fact.eq (.bool true)) (hFk : F k = Fact.eq v) (hFi : F i = Fact.eq v) : StepOk P md ops Q F a0 w0 i := by
  refine step_pure hi fun a w _ _ hf => ⟨v, ?_, by rw [hFi]; exact rfl⟩
  have h1 := hf j p hj
  have h2 := hf k q hk
  rw [hFj] at h1
  rw [hFk] at h2
  have g1 : a.eval (.tmp p) = .bool true := h1
  have g2 : a.eval (.tmp q) = v := h2
  have g3 : a.eval (.const x) = x := rfl
  simp only [execOp, hop, g1, g2, g3]
  rfl
theorem step_pickF {ops : Array Oper} {Q : Exit → Act → World → Prop} {md : Region.Mode} {F : Nat → Fact} {a0 : Act} {w0 : World} {i : Nat} {o : Oper} {P : Program} (hi : ops[i]? = some o) (p q j k : Nat) {v : Value} {x : Value} (hop : o.op = .pick (.tmp p) (.const x) (.tmp q)) (hj : waits md ops i j p = true) (hk : waits md ops i k q = true) (hFj : F j = Fact.eq (.bool false)) (hFk : F k = Fact.eq v) (hFi : F i = Fact.eq v) : StepOk P md ops Q F a0 w0 i := by
  refine step_pure hi fun a w _ _ hf => ⟨v, ?_, by rw [hFi]; exact rfl⟩
  have h1 := hf j p hj
  have h2 := hf k q hk
  rw [hFj] at h1
  rw [hFk] at h2
  have g1 : a.eval (.tmp p) = .bool false := h1
  have g2 : a.eval (.tmp q) = v := h2
  have g3 : a.eval (.const x) = x := rfl
  simp only [execOp, hop, g1, g2, g3]
  rfl
def HasG (w : World) : Prop := HasA w ∧ RowN w 0 0 [0, 1]
theorem HasG.up {w w' : World} (h : HasG w) (n : Below w.heap.size w w') : HasG w' := ⟨⟨h.1.1.up n, h.1.2.1.up n, h.1.2.2.1.up n, h.1.2.2.2.up n⟩, h.2.up n⟩
end Go.Proofs.YtnaaanefndeafaaDoor

/-
  Scaling by digits: rows of multiples, and what they stand for.
-/
namespace Go.Proofs.YtnaaanefndeafaaDoor
set_option maxRecDepth 100000
open Go Go.RowKit

/-- So many times p. -/
def mlP (n : Nat) (p : Int × Int) : Int × Int := emul (-1) d0 einv n p
/-- Four elements that stand for this point. -/
def Ext (es : List (Nat → Int)) (q : Int × Int) : Prop := ∃ X Y Z T, IsN es [X, Y, Z, T] ∧ Ex X Y Z T q
theorem IsN.len : ∀ {es : List (Nat → Int)} {As : List Int}, IsN es As → es.length = As.length
  | [], [], _ => rfl
  | _ :: _, _ :: _, h => by simp [IsN.len h.2]
  | [], _ :: _, h => h.elim
  | _ :: _, [], h => h.elim
theorem Ext.len {es : List (Nat → Int)} {q : Int × Int} (h : Ext es q) : es.length = 4 := by
  obtain ⟨X, Y, Z, T, h, _⟩ := h
  exact h.len
theorem Ext.cg {es : List (Nat → Int)} {q q' : Int × Int} (h : Ext es q) (e : Pe PP q q') : Ext es q' := by
  obtain ⟨X, Y, Z, T, h, k⟩ := h
  exact ⟨X, Y, Z, T, h, k.cg e⟩
theorem mlP_on {p : Int × Int} (hp : OnP PP (-1) d0 p) (n : Nat) : OnP PP (-1) d0 (mlP n p) := emul_on crv1 hp n
theorem mlP_add {p : Int × Int} (hp : OnP PP (-1) d0 p) (m n : Nat) : Pe PP (eadd (-1) d0 einv (mlP m p) (mlP n p)) (mlP (m + n) p) := (emul_add crv1 hp m n).symm
theorem mlP_one {p : Int × Int} (hp : OnP PP (-1) d0 p) : Pe PP (mlP 1 p) p := by
  have z : OnP PP (-1) d0 (0, 1) := emul_on crv1 hp 0
  show Pe PP (eadd (-1) d0 einv (0, 1) p) p
  exact (eadd_comm crv1 z hp).trans (eadd_zero crv1 hp)
theorem clN_app : ∀ (a b : List (Nat → Int)), clN (a ++ b) = clN a ++ clN b
  | [], _ => rfl
  | e :: a, b => by
    show cl5 e ++ clN (a ++ b) = (cl5 e ++ clN a) ++ clN b
    rw [clN_app a b, List.append_assoc]
theorem clN_size : ∀ (a : List (Nat → Int)), (clN a).length = 5 * a.length
  | [] => rfl
  | e :: a => by
    show (cl5 e ++ clN a).length = _
    rw [List.length_append, clN_size a]
    simp [cl5]
    omega
/-- The four elements at place i. -/
def prt (es : List (Nat → Int)) (i : Nat) : List (Nat → Int) := (es.drop (4 * i)).take 4
def putP (es fs : List (Nat → Int)) (i : Nat) : List (Nat → Int) := es.take (4 * i) ++ (fs ++ es.drop (4 * i + 4))
theorem prt_split {es : List (Nat → Int)} {i : Nat} : es = es.take (4 * i) ++ (prt es i ++ es.drop (4 * i + 4)) := by
  unfold prt
  rw [← List.drop_drop, List.take_append_drop, List.take_append_drop]
theorem prt_len {es : List (Nat → Int)} (h : es.length = 64) {i : Nat} (hi : i < 16) : (prt es i).length = 4 := by
  unfold prt
  rw [List.length_take, List.length_drop]
  omega
theorem putP_len {es fs : List (Nat → Int)} (h : es.length = 64) (hf : fs.length = 4) {i : Nat} (hi : i < 16) : (putP es fs i).length = 64 := by
  unfold putP
  rw [List.length_append, List.length_append, List.length_take, List.length_drop]
  omega
theorem prt_put {es fs : List (Nat → Int)} (h : es.length = 64) (hf : fs.length = 4) {i : Nat} (hi : i < 16) : prt (putP es fs i) i = fs := by
  unfold prt putP
  have e : (es.take (4 * i)).length = 4 * i := by rw [List.length_take]; omega
  rw [List.drop_append_of_le_length (by omega), List.drop_eq_nil_of_le (by omega), List.nil_append, List.take_append_of_le_length (by omega), List.take_of_length_le (by omega)]
theorem prt_put_ne {es fs : List (Nat → Int)} (h : es.length = 64) {i j : Nat} (hi : i < 16) (hj : j < i) : prt (putP es fs i) j = prt es j := by
  unfold prt putP
  have e : (es.take (4 * i)).length = 4 * i := by rw [List.length_take]; omega
  rw [List.drop_append_of_le_length (by omega), List.take_append_of_le_length (by rw [List.length_drop]; omega), List.drop_take, List.take_take, Nat.min_eq_left (by omega)]
/-- The first k multiples of p. -/
def MulL (es : List (Nat → Int)) (k : Nat) (p : Int × Int) : Prop := es.length = 64 ∧ ∀ i, i < k → Ext (prt es i) (mlP i p)
theorem MulL.put {es fs : List (Nat → Int)} {k : Nat} {p : Int × Int} (h : MulL es k p) (hk : k < 16) (hf : Ext fs (mlP k p)) : MulL (putP es fs k) (k + 1) p := by
  refine ⟨putP_len h.1 hf.len hk, fun i hi => ?_⟩
  by_cases e : i = k
  · subst e
    rw [prt_put h.1 hf.len hk]
    exact hf
  · rw [prt_put_ne h.1 hk (by omega)]
    exact h.2 i (by omega)
theorem range_of_app {W : World} {q o : Nat} {a b : List Value} (h : W.rangeAt q o (a ++ b)) : W.rangeAt q o a ∧ W.rangeAt q (o + a.length) b := by
  refine ⟨fun j v hv => h j v ?_, fun j v hv => ?_⟩
  · rw [List.getElem?_append_left (List.getElem?_eq_some_iff.1 hv).1]
    exact hv
  · have := h (a.length + j) v (by rw [List.getElem?_append_right (by omega), Nat.add_sub_cancel_left]; exact hv)
    rwa [← Nat.add_assoc] at this
theorem range_app {W : World} {q o : Nat} {a b : List Value} (h : W.rangeAt q o a) (k : W.rangeAt q (o + a.length) b) : W.rangeAt q o (a ++ b) := by
  intro j v hv
  by_cases c : j < a.length
  · rw [List.getElem?_append_left c] at hv
    exact h j v hv
  · rw [List.getElem?_append_right (by omega)] at hv
    have := k _ v hv
    rwa [show o + a.length + (j - a.length) = o + j by omega] at this
theorem row_part {W : World} {q : Nat} {es : List (Nat → Int)} (h : W.rangeAt q 0 (clN es)) (hl : es.length = 64) {i : Nat} (hi : i < 16) : W.rangeAt q (20 * i) (clN (prt es i)) := by
  have e := prt_split (es := es) (i := i)
  rw [e, clN_app, clN_app] at h
  have h1 := (range_of_app h).2
  have h2 := (range_of_app h1).1
  rw [clN_size, List.length_take, Nat.min_eq_left (by omega)] at h2
  rwa [show 0 + 5 * (4 * i) = 20 * i by omega] at h2
theorem row_put {W : World} {q : Nat} {es fs : List (Nat → Int)} (th : W.there q 0 320) (h : W.rangeAt q 0 (clN es)) (hl : es.length = 64) (hf : fs.length = 4) {i : Nat} (hi : i < 16) : (W.setCells q (20 * i) (clN fs)).rangeAt q 0 (clN (putP es fs i)) := by
  have e := prt_split (es := es) (i := i)
  rw [e, clN_app, clN_app] at h
  have h1 := (range_of_app h).2
  have h0 := (range_of_app h).1
  have h2 := (range_of_app h1).2
  have lt : (clN (es.take (4 * i))).length = 20 * i := by rw [clN_size, List.length_take, Nat.min_eq_left (by omega)]; omega
  have lp : (clN (prt es i)).length = 20 := by rw [clN_size, prt_len hl hi]
  have lf : (clN fs).length = 20 := by rw [clN_size, hf]
  unfold putP
  rw [clN_app, clN_app]
  refine range_app ?_ (range_app ?_ ?_)
  · exact World.rangeAt_setCells_apart h0 q (20 * i) (clN fs) (.inr (.inl (by omega)))
  · rw [lt, Nat.zero_add]
    refine World.rangeAt_setCells_same W q (20 * i) _ fun j hj => ?_
    have := th (20 * i + j) (by omega)
    rwa [Nat.zero_add] at this
  · rw [lt] at h2 ⊢
    rw [lp] at h2
    rw [lf]
    exact World.rangeAt_setCells_apart h2 q (20 * i) (clN fs) (.inr (.inr (by omega)))
/-- An element that is nothing yet. -/
def z5 : Nat → Int := fun _ => 0
/-- The digit at this place, out of the words. -/
theorem dgt_words {W : Nat → Int} (hW : W4 W) {v : Nat} (hv : wval W = (v : Int)) {pl : Nat} (h : pl < 64) : W (pl / 16) / 2 ^ (4 * (pl % 16)) % 16 = ((v / 16 ^ pl % 16 : Nat) : Int) := by
  have key : ∃ (m t : Nat), W (pl / 16) = (m : Int) ∧ v / 2 ^ (64 * (pl / 16)) = m + 2 ^ 64 * t := by
    obtain ⟨n0, h0⟩ := Int.eq_ofNat_of_zero_le (hW 0 (by omega)).1
    obtain ⟨n1, h1⟩ := Int.eq_ofNat_of_zero_le (hW 1 (by omega)).1
    obtain ⟨n2, h2⟩ := Int.eq_ofNat_of_zero_le (hW 2 (by omega)).1
    obtain ⟨n3, h3⟩ := Int.eq_ofNat_of_zero_le (hW 3 (by omega)).1
    have b0 := (hW 0 (by omega)).2
    have b1 := (hW 1 (by omega)).2
    have b2 := (hW 2 (by omega)).2
    have b3 := (hW 3 (by omega)).2
    unfold wval at hv
    rw [h0, h1, h2, h3] at hv
    rw [h0] at b0
    rw [h1] at b1
    rw [h2] at b2
    rw [h3] at b3
    obtain e | e | e | e : pl / 16 = 0 ∨ pl / 16 = 1 ∨ pl / 16 = 2 ∨ pl / 16 = 3 := by omega
    · exact ⟨n0, n1 + n2 * 18446744073709551616 + n3 * 340282366920938463463374607431768211456, by rw [e]; exact h0, by rw [e]; simp only [Nat.mul_zero, Nat.pow_zero, Nat.div_one, Nat.reducePow]; omega⟩
    · exact ⟨n1, n2 + n3 * 18446744073709551616, by rw [e]; exact h1, by rw [e]; simp only [Nat.mul_one, Nat.reducePow]; omega⟩
    · exact ⟨n2, n3, by rw [e]; exact h2, by rw [e]; simp only [Nat.reduceMul, Nat.reducePow]; omega⟩
    · exact ⟨n3, 0, by rw [e]; exact h3, by rw [e]; simp only [Nat.reduceMul, Nat.reducePow]; omega⟩
  obtain ⟨m, t, e1, e2⟩ := key
  have e3 : (16 : Nat) ^ pl = 2 ^ (64 * (pl / 16)) * 2 ^ (4 * (pl % 16)) := by
    rw [show (16 : Nat) = 2 ^ 4 from rfl, ← Nat.pow_mul, ← Nat.pow_add]
    congr 1
    omega
  rw [e1, e3, ← Nat.div_div_eq_div_mul, e2]
  have r16 : pl % 16 < 16 := by omega
  generalize pl % 16 = r at *
  have e4 : (2 : Nat) ^ 64 * t = 2 ^ (4 * r) * (16 * (2 ^ (60 - 4 * r) * t)) := by
    have e5 : (2 : Nat) ^ 64 = 2 ^ (4 * r) * (16 * 2 ^ (60 - 4 * r)) := by
      rw [show (16 : Nat) = 2 ^ 4 from rfl, ← Nat.pow_add, ← Nat.pow_add]
      congr 1
      omega
    rw [e5]
    simp only [Nat.mul_assoc]
  rw [e4, Nat.add_mul_div_left _ _ (Nat.two_pow_pos _), Nat.add_mul_mod_self_left]
  rw [Int.natCast_emod, Int.natCast_ediv, Int.natCast_pow]
  rfl
/-- What is merged by a mask. -/
theorem mrg_ok (b : Bool) (x y : Int) (hx : 0 ≤ x ∧ x < 18446744073709551616) (hy : 0 ≤ y ∧ y < 18446744073709551616) (h0 : b = true → x = 0) :
    bits BinOp.or IntKind.u64 x (bits BinOp.and IntKind.u64 y (mask b)) = if b = true then y else x := by
  obtain ⟨m, rfl⟩ := Int.eq_ofNat_of_zero_le hx.1
  obtain ⟨n, rfl⟩ := Int.eq_ofNat_of_zero_le hy.1
  have hm : m < 18446744073709551616 := by omega
  have hn : n < 18446744073709551616 := by omega
  cases b
  · have e : bits BinOp.and IntKind.u64 (n : Int) (mask false) = ((0 : Nat) : Int) := by
      unfold mask
      rw [if_neg (by simp), show (0 : Int) = ((0 : Nat) : Int) from rfl, bits_and_u64_nat _ 0 hn (by omega), Nat.and_zero]
    rw [e, bits_or_u64_nat m 0 hm (by omega), Nat.or_zero]
    simp
  · have e : bits BinOp.and IntKind.u64 (n : Int) (mask true) = ((n : Nat) : Int) := by
      unfold mask
      rw [if_pos rfl, show (18446744073709551615 : Int) = ((18446744073709551615 : Nat) : Int) from rfl, bits_and_u64_nat _ _ hn (by omega)]
      congr 1
      rw [show (18446744073709551615 : Nat) = 2 ^ 64 - 1 from rfl, Nat.and_two_pow_sub_one_eq_mod, Nat.mod_eq_of_lt hn]
    have z : m = 0 := by have := h0 rfl; omega
    subst z
    rw [e, bits_or_u64_nat 0 n (by omega) hn, Nat.zero_or]
    simp
theorem xor_zero {i d : Nat} (h : i ^^^ d = 0) : i = d := by
  have : i ^^^ d ^^^ d = 0 ^^^ d := by rw [h]
  rwa [Nat.xor_assoc, Nat.xor_self, Nat.xor_zero, Nat.zero_xor] at this
/-- The mask of place i at digit d. -/
theorem msk_ok (i d : Nat) (hi : i < 16) (hd : d < 16) : ∃ x : Nat, bits BinOp.xor IntKind.u64 (i : Int) (d : Int) = (x : Int) ∧ x < 16 ∧ (x = 0 ↔ i = d) := by
  refine ⟨i ^^^ d, bits_xor_u64_nat i d (by omega) (by omega), Nat.xor_lt_two_pow (n := 4) hi hd, ⟨xor_zero, fun h => ?_⟩⟩
  subst h
  exact Nat.xor_self i
end Go.Proofs.YtnaaanefndeafaaDoor

/-
  The program's merge of two elements by a mask, and its digits.
-/
namespace Go.Proofs.YtnaaanefndeafaaDoor
set_option maxRecDepth 100000
open Go Go.RowKit

/-- Five words at a place of block q, the rest of it as it was. -/
structure Mg (w wr : World) (q o : Nat) (y : Nat → Int) : Prop where
  at5 : ∀ j, j < 5 → wr.cell? ⟨q, o + j, none⟩ = some (.int .u64 (y j))
  off : ∀ j, j < o ∨ o + 5 ≤ j → wr.cell? ⟨q, j, none⟩ = w.cell? ⟨q, j, none⟩
  fr : ∀ j, wr.frozen? ⟨q, j, none⟩ = w.frozen? ⟨q, j, none⟩
  only : Only q w wr
theorem Mg.refl {w : World} {q o : Nat} {y : Nat → Int} (h : ∀ j, j < 5 → w.cell? ⟨q, o + j, none⟩ = some (.int .u64 (y j))) : Mg w w q o y := ⟨h, fun _ _ => rfl, fun _ => rfl, Only.refl _ _⟩
theorem Mg.store {w wr : World} {q o : Nat} {y : Nat → Int} (h : Mg w wr q o y) (k : Nat) (hk : k < 5) (z : Int) (n : Nat) : Mg w ((wr.drewN n).setCell ⟨q, o + k, none⟩ (.int .u64 z)) q o (fun j => if j = k then z else y j) := by
  have h' : ∀ a, (wr.drewN n).cell? a = wr.cell? a := fun _ => rfl
  refine ⟨fun j hj => ?_, fun j hj => ?_, fun j => ?_, h.only.trans ((Only.drewN wr q n).trans (Only.setCell _ _ _ _))⟩
  · by_cases e : j = k
    · subst e
      rw [World.cell?_setCell_same _ _ _ ((h' _).trans (h.at5 j hj)), if_pos rfl]
    · have hne : (⟨q, o + k, none⟩ : Addr) ≠ ⟨q, o + j, none⟩ := fun h => e (by simp only [Addr.mk.injEq, true_and, and_true] at h; omega)
      rw [World.cell?_setCell_other (h := hne), h', if_neg e]
      exact h.at5 j hj
  · have hne : (⟨q, o + k, none⟩ : Addr) ≠ ⟨q, j, none⟩ := fun h => (by simp only [Addr.mk.injEq, true_and, and_true] at h; omega)
    rw [World.cell?_setCell_other (h := hne), h']
    exact h.off j hj
  · rw [World.frozen?_setCell]
    exact h.fr j
theorem Mg.cg {w wr : World} {q o : Nat} {y z : Nat → Int} (h : Mg w wr q o y) (e : ∀ j, j < 5 → y j = z j) : Mg w wr q o z := ⟨fun j hj => by rw [← e j hj]; exact h.at5 j hj, h.off, h.fr, h.only⟩

/-- What a merge leaves, and what it leaves behind k rounds. -/
def mgd (b : Bool) (x e : Nat → Int) (j : Nat) : Int := if b = true then e j else x j
def mgk (b : Bool) (k : Nat) (x e : Nat → Int) (j : Nat) : Int := if j < k then mgd b x e j else x j
set_option maxHeartbeats 4000000 in
theorem merge_any (w : World) (q o : Nat) (b : Bool) (x e : Nat → Int) (hx : ∀ j, j < 5 → w.cell? ⟨q, o + j, none⟩ = some (.int .u64 (x j))) (hf : ∀ j, w.frozen? ⟨q, j, none⟩ = false) (bx : ∀ j, j < 5 → 0 ≤ x j ∧ x j < 18446744073709551616) (be : ∀ j, j < 5 → 0 ≤ e j ∧ e j < 18446744073709551616) (h0 : b = true → ∀ j, j < 5 → x j = 0) :
    Calls Tryd.prog 102 #[.pointer (some ⟨q, o, none⟩), ag5 e, .int .u64 (mask b)] w fun r w' => r = .returned (.tuple #[]) ∧ ∃ w1, Below w.heap.size w w1 ∧ Mg w1 w' q o (mgd b x e) := by
  have lq : q < w.heap.size := block_lt_of_cell (hx 0 (by omega))
  have n0 : Below w.heap.size w (w.alloc (.cells (cl5 e).toArray 49)) := (Below.refl _ _).alloc (Nat.le_refl _) _
  have M0 : Mg (w.alloc (.cells (cl5 e).toArray 49)) (w.alloc (.cells (cl5 e).toArray 49)) q o x := Mg.refl fun j hj => (World.cell?_of_block (a := ⟨q, o + j, none⟩) (n0.block q lq)).trans (hx j hj)
  have F0 : ∀ j, (w.alloc (.cells (cl5 e).toArray 49)).frozen? ⟨q, j, none⟩ = false := fun j => (World.frozen?_of_block (a := ⟨q, j, none⟩) (n0.block q lq)).trans (hf j)
  have E0 : ∀ j, j < 5 → (w.alloc (.cells (cl5 e).toArray 49)).cell? ⟨w.heap.size, j, none⟩ = some (.int .u64 (e j)) := by
    have e1 : (w.alloc (.cells (cl5 e).toArray 49)).heap[w.heap.size]? = some (.cells (cl5 e).toArray 49) := heap_alloc_last _ _
    intro j hj
    unfold World.cell?
    simp only
    rw [e1]
    obtain rfl | rfl | rfl | rfl | rfl : j = 0 ∨ j = 1 ∨ j = 2 ∨ j = 3 ∨ j = 4 := by omega
    all_goals rfl
  show Calls Tryd.prog 102 #[.pointer (some ⟨q, o, none⟩), .agg (cl5 e).toArray, .int .u64 (mask b)] w _
  generalize hw1 : w.alloc (.cells (cl5 e).toArray 49) = w1 at *
  have hw1' := hide hw1
  obtain ⟨V, hV⟩ : ∃ V, V = (cl5 e).toArray := ⟨_, rfl⟩
  rw [← hV] at hw1 ⊢
  clear hV
  go_enter Tryd.func102, Tryd.ntmps102
  go_upto_region 1 with fail
  clear hw1 hx hf
  go_wp2
  go_loopw [7] (fun i wr => ∃ k : Nat, k ≤ 5 ∧ i = .int .i64 k ∧ Mg w1 wr q o (mgk b k x e)) (fun i _ => 5 - (intOf i).toNat)
  case atStart => exact ⟨0, by omega, rfl, M0.cg fun j _ => by simp [mgk]⟩
  case round =>
    obtain ⟨k, hk, rfl, M⟩ := hrel
    by_cases hlt : k < 5
    · have k5 : (k : Int) < 5 := by omega
      have c1 := M.at5 k hlt
      unfold mgk at c1
      rw [if_neg (by omega)] at c1
      have f1 := (M.fr (o + k)).trans (F0 (o + k))
      have c2 := (World.cell?_of_block (a := ⟨w.heap.size, k, none⟩) (M.only.block w.heap.size (by omega))).trans (E0 k hlt)
      have X := mrg_ok b (x k) (e k) (bx k hlt) (be k hlt) (fun h => h0 h k hlt)
      obtain ⟨z, hz⟩ : ∃ z, z = if b = true then e k else x k := ⟨_, rfl⟩
      rw [← hz] at X
      have PK : Hid (∀ n, Mg w1 ((wr.drewN n).setCell ⟨q, o + k, none⟩ (.int .u64 z)) q o (mgk b (k + 1) x e)) := by
        intro n
        refine (M.store k hlt z n).cg fun j hj => ?_
        unfold mgk mgd
        by_cases c : j = k
        · subst c
          have c3 : j < j + 1 := by omega
          rw [if_pos rfl, if_pos c3]
          exact hz
        · rw [if_neg c]
          by_cases c2 : j < k
          · have c3 : j < k + 1 := by omega
            rw [if_pos c2, if_pos c3]
          · have c3 : ¬ j < k + 1 := by omega
            rw [if_neg c2, if_neg c3]
      clear M hz bx be h0 F0 E0 M0
      generalize x k = xk at *
      generalize e k = ek at *
      generalize mask b = m at *
      go_wp2
      go_region
      go_wp2
      exact ⟨⟨k + 1, by omega, by go_num, PK.out _⟩, by simp [intOf]; omega⟩
    · obtain rfl : k = 5 := by omega
      go_wp2
      go_end0
      refine ⟨rfl, w1, n0, M.cg fun j hj => ?_⟩
      unfold mgk
      rw [if_pos hj]
theorem and15_64 (x : Int) (h0 : 0 ≤ x) (h1 : x < 18446744073709551616) : bits BinOp.and IntKind.u64 x 15 = x % 16 := bits_mask .u64 64 (by decide) wraps_u64 4 (by decide) x h0 h1

set_option maxHeartbeats 4000000 in
theorem digit_any (w : World) (W : Nat → Int) (hW : W4 W) (n : Nat) (hn : n < 64) :
    Calls Tryd.prog 73 #[ag4 W, .int .i64 n] w fun r w' => r = .returned (.int .u64 (W (n / 16) / 2 ^ (4 * (n % 16)) % 16)) ∧ Below w.heap.size w w' := by
  have B0 := blk_box4 w .u64 55 (W 0) (W 1) (W 2) (W 3)
  have n0 : Below w.heap.size w (w.alloc (.cells #[.int .u64 (W 0), .int .u64 (W 1), .int .u64 (W 2), .int .u64 (W 3)] 55)) := (Below.refl _ _).alloc (Nat.le_refl _) _
  obtain ⟨j, hj⟩ : ∃ j : Nat, n / 16 = j := ⟨_, rfl⟩
  obtain ⟨m, hm⟩ : ∃ m : Nat, n % 16 = m := ⟨_, rfl⟩
  have j4 : j < 4 := by omega
  have m16 : m < 16 := by omega
  have p1 : (n : Int) / 16 = (j : Int) := by omega
  have p2 : (n : Int) % 16 = (m : Int) := by omega
  obtain ⟨s, hs⟩ : ∃ s : Nat, 4 * m = s := ⟨_, rfl⟩
  have p3 : 4 * (m : Int) = (s : Int) := by omega
  have s64 : s < 64 := by omega
  rw [hj, hm, hs]
  have cj := B0.cell (i := j) (by simpa using j4)
  have gj : [W 0, W 1, W 2, W 3].getD j 0 = W j := by
    obtain rfl | rfl | rfl | rfl : j = 0 ∨ j = 1 ∨ j = 2 ∨ j = 3 := by omega
    all_goals rfl
  rw [gj] at cj
  have wb := hW j j4
  have pm : (0 : Int) < 2 ^ s := Int.pow_pos (by decide)
  have v0 : 0 ≤ W j / 2 ^ s := Int.ediv_nonneg wb.1 (Int.le_of_lt pm)
  have v1 : W j / 2 ^ s < 18446744073709551616 := Int.lt_of_le_of_lt (Int.ediv_le_self _ wb.1) wb.2
  have e1 := and15_64 _ v0 v1
  clear hj hm gj hs
  simp only [ag4]
  go_enter Tryd.func73, Tryd.ntmps73
  go_wp2_with fail
  generalize w.alloc (.cells #[.int .u64 (W 0), .int .u64 (W 1), .int .u64 (W 2), .int .u64 (W 3)] 55) = wa at *
  clear B0 hW
  generalize W j = z at *
  go_wp2
  go_ret
  exact ⟨rfl, n0⟩
end Go.Proofs.YtnaaanefndeafaaDoor

/-
  Regions that hold rows of elements of any kind: what is loaded, made, stored.
-/
namespace Go.Proofs.YtnaaanefndeafaaDoor
set_option maxRecDepth 100000
open Go Go.RowKit

/-- A row of elements of which this is known. -/
def AG (R : List (Nat → Int) → Prop) : Fact := ⟨fun v _ => ∃ es, v = agN es ∧ R es, fun _ h => h⟩
/-- The same in memory. -/
def RowG (W : World) (q o : Nat) (R : List (Nat → Int) → Prop) : Prop := ∃ es, W.rangeAt q o (clN es) ∧ q < W.heap.size ∧ R es
theorem RowG.up {W W' : World} {q o : Nat} {R : List (Nat → Int) → Prop} (h : RowG W q o R) (n : Below W.heap.size W W') : RowG W' q o R := by
  obtain ⟨t, r, l, h⟩ := h
  exact ⟨t, fun j v hv => (World.cell?_of_block (a := ⟨q, o + j, none⟩) (n.block q l)).trans (r j v hv), Nat.lt_of_lt_of_le l n.size, h⟩
theorem RowG.but {W W' : World} {g o q : Nat} {R : List (Nat → Int) → Prop} (h : RowG W g o R) (k : ButQ q W W') (hne : g ≠ q) : RowG W' g o R := by
  obtain ⟨t, r, l, h⟩ := h
  exact ⟨t, fun j v hv => (World.cell?_of_block (a := ⟨g, o + j, none⟩) (k.1 g hne l)).trans (r j v hv), Nat.lt_of_lt_of_le l k.2, h⟩
theorem there_upo {W W' : World} {q o n : Nat} (hn : 0 < n) (h : W.there q o n) (k : Below W.heap.size W W') : W'.there q o n := by
  have l : q < W.heap.size := by
    have := (h 0 hn).1
    cases hc : W.cell? ⟨q, o + 0, none⟩ with
    | none => rw [hc] at this; simp at this
    | some v => exact block_lt_of_cell hc
  intro j hj
  have e := k.block q l
  rw [World.cell?_of_block (a := ⟨q, o + j, none⟩) e, World.frozen?_of_block (a := ⟨q, o + j, none⟩) e]
  exact h j hj
theorem but_setO {W W' : World} {q : Nat} (n : Below W.heap.size W W') (o : Nat) (vs : List Value) : ButQ q W (W'.setCells q o vs) :=
  ⟨fun g hg hl => (setCells_other hg vs o W').trans (n.block g hl), by rw [heap_size_setCells]; exact n.size⟩
section
variable {ops : Array Oper} {Q : Exit → Act → World → Prop} {md : Region.Mode} {F : Nat → Fact} {a0 : Act} {w0 w : World} {i id : Nat} {o : Oper} {ts : Array TypeId} {draw : Bool}
/-- A row is loaded, at a known place. -/
theorem step_lG (ty : TypeId) (d : TypeDesc) (m : Nat) (R : List (Nat → Int) → Prop) (hR : ∀ es, R es → es.length = m) (hu : Tryd.prog.underlying ty = some d) (hd : d.isRow = true) (hs : (Tryd.prog.info? ty).map (·.size) = some (5 * m)) (hi : ops[i]? = some o) (p : Nat) (hop : o.op = .load ty (.tmp p)) (hp : apart ops p = true) (q off : Nat) (h0 : a0.tmps.getD p undef = .pointer (some ⟨q, off, none⟩)) (hE : RowG w0 q off R) (hF : F i = AG R) : StepOk Tryd.prog md ops Q F a0 w0 i := by
  refine step_load hi _ _ hop d _ hu hd hs fun a w hb hw _ => ?_
  obtain ⟨t, r, _, h⟩ := hE.up hw
  exact ⟨q, off, _, (based_at hb p hp).trans h0, r, by rw [clN_size, hR _ h], by rw [hF]; exact ⟨t, rfl, h⟩⟩
theorem step_lGf (ty : TypeId) (d : TypeDesc) (m : Nat) (R : List (Nat → Int) → Prop) (hR : ∀ es, R es → es.length = m) (hu : Tryd.prog.underlying ty = some d) (hd : d.isRow = true) (hs : (Tryd.prog.info? ty).map (·.size) = some (5 * m)) (hi : ops[i]? = some o) (p j : Nat) (hop : o.op = .load ty (.tmp p)) (hj : waits md ops i j p = true) (q off : Nat) (hFj : F j = Fact.eq (.pointer (some ⟨q, off, none⟩))) (hE : RowG w0 q off R) (hF : F i = AG R) : StepOk Tryd.prog md ops Q F a0 w0 i := by
  refine step_load hi _ _ hop d _ hu hd hs fun a w hb hw hf => ?_
  obtain ⟨t, r, _, h⟩ := hE.up hw
  have e := hf j p hj
  rw [hFj] at e
  exact ⟨q, off, _, e, r, by rw [clN_size, hR _ h], by rw [hF]; exact ⟨t, rfl, h⟩⟩
theorem step_nil0 {P : Program} (hi : ops[i]? = some o) (p : Nat) (hop : o.op = .nilCheck (.tmp p)) (hp : apart ops p = true) {q off : Nat} (h0 : a0.tmps.getD p undef = .pointer (some ⟨q, off, none⟩)) (hF : F i = Fact.eq (.pointer (some ⟨q, off, none⟩))) : StepOk P md ops Q F a0 w0 i := by
  refine step_pure hi fun a w hb _ _ => ⟨.pointer (some ⟨q, off, none⟩), ?_, by rw [hF]; exact rfl⟩
  have e := (based_at hb p hp).trans h0
  simp [execOp, hop, e]
theorem step_asgf {P : Program} (hi : ops[i]? = some o) (p j : Nat) (hop : o.op = .assign (.tmp p)) (hj : waits md ops i j p = true) {v : Value} (hFj : F j = Fact.eq v) (hF : F i = Fact.eq v) : StepOk P md ops Q F a0 w0 i := by
  refine step_pure hi fun a w _ _ hf => ⟨v, ?_, by rw [hF]; exact rfl⟩
  have e := hf j p hj
  rw [hFj] at e
  have e' : a.eval (.tmp p) = v := e
  simp [execOp, hop, e']
/-- The address of place n of sixteen points. -/
theorem run_idx16 (w : World) (q n : Nat) (hn : n < 16) : (Instr.indexAt 97 (.pointer (some ⟨q, 0, none⟩)) (.int .i64 (n : Int))).run Tryd.prog w = .ok (.pointer (some ⟨q, 20 * n, none⟩)) w := by
  have h1 : (0 : Int) ≤ (n : Int) ∧ (n : Int) < 16 := by omega
  simp [go_sem, h1, Nat.mul_comm]
/-- A row of elements is laid into a new block; what else is known of the slots. -/
theorem region_newG (ty : TypeId) (k jA jV pA pV m : Nat) (o1 : Oper) (F : Nat → Fact) (R : List (Nat → Int) → Prop) (hR : ∀ es, R es → es.length = m) (hT : textTail .any draw ops a0.tmps.size k = true) (hdrop : ops.toList.drop k = [o1]) (hd1 : o1.dst = none)
    (hop1 : o1.op = .store ty (.tmp pA) (.tmp pV)) (hs : (Tryd.prog.info? ty).map (·.size) = some (5 * m))
    (qA : decide (jA < k) = true) (qV : decide (jV < k) = true) (wA : writes ops jA pA = true) (wV : writes ops jV pV = true) (FA : F jA = NB w (5 * m)) (FV : F jV = AG R) (steps : ∀ i, i < k → StepOk Tryd.prog .any ops Q F a0 w i)
    (fin : ∀ (vs : Nat → Value) (q : Nat) (W W' : World), vs pA = .pointer (some ⟨q, 0, none⟩) → (∀ i d, decide (i < k) = true → writes ops i d = true → (F i).p (vs d) W) → w.heap.size ≤ q → Below w.heap.size w W' → RowG W' q 0 R → W'.there q 0 (5 * m) → Q .normal (puts vs a0 ops.toList) W') :
    (Code.region id ops draw).wp Tryd.prog Q a0 w := by
  refine region_tail k F (by kernel_rfl) hT steps [] (fun p hp => by cases hp) (fun p hp => by cases hp) fun a W hb hw hF _ => ?_
  have h1 := hF jA pA qA wA
  have h2 := hF jV pV qV wV
  rw [FA] at h1
  rw [FV] at h2
  obtain ⟨_, q, eq, th, hq⟩ := h1
  obtain ⟨es, ev, V⟩ := h2
  have le : (clN es).length = 5 * m := by rw [clN_size, hR _ V]
  rw [hdrop]
  show o1.wp _ a W (fun a' w' => Q .normal a' w') Q
  refine wp_store_mid ty (.tmp pA) (.tmp pV) hop1 q 0 (clN es).toArray eq ev (by show W.there q 0 (clN es).length; rw [le]; exact th) (by show _ = some (clN es).length; rw [le]; exact hs) (clN_one es) ?_
  rw [hd1]
  obtain ⟨vs, hvs⟩ : ∃ vs : Nat → Value, ∀ d, a.tmps.getD d undef = vs d := ⟨_, fun _ => rfl⟩
  show Q .normal a _
  rw [puts_tail hT rfl hb vs hvs]
  refine fin vs q W _ ((hvs pA).symm.trans eq) (fun i d hi hd => by rw [← hvs]; exact hF i d hi hd) hq (below_setCells hq _ _ _ hw) ⟨es, World.rangeAt_setCells_same W q 0 _ (by rw [le]; exact th), by rw [heap_size_setCells]; exact there_lt (by omega) th, V⟩ (World.there_setCells th _ _ _)
/-- A row of elements is laid into a block that was there. -/
theorem region_putG (ty : TypeId) (k jV pD pV m q off : Nat) (o1 : Oper) (F : Nat → Fact) (R : List (Nat → Int) → Prop) (hR : ∀ es, R es → es.length = m) (hm : 0 < m) (hT : textTail .any draw ops a0.tmps.size k = true) (hdrop : ops.toList.drop k = [o1]) (hd1 : o1.dst = none)
    (hop1 : o1.op = .store ty (.tmp pD) (.tmp pV)) (hs : (Tryd.prog.info? ty).map (·.size) = some (5 * m)) (ht : w.there q off (5 * m))
    (hP : ∀ (a : Act) (W : World), Based ops a0 a → (∀ i d, decide (i < k) = true → writes ops i d = true → (F i).p (a.tmps.getD d undef) W) → a.eval (.tmp pD) = .pointer (some ⟨q, off, none⟩))
    (qV : decide (jV < k) = true) (wV : writes ops jV pV = true) (FV : F jV = AG R) (steps : ∀ i, i < k → StepOk Tryd.prog .any ops Q F a0 w i)
    (fin : ∀ (vs : Nat → Value) (W : World) (es : List (Nat → Int)), R es → Below w.heap.size w W → Q .normal (puts vs a0 ops.toList) (W.setCells q off (clN es))) :
    (Code.region id ops draw).wp Tryd.prog Q a0 w := by
  refine region_tail k F (by kernel_rfl) hT steps [] (fun p hp => by cases hp) (fun p hp => by cases hp) fun a W hb hw hF _ => ?_
  have h2 := hF jV pV qV wV
  rw [FV] at h2
  obtain ⟨es, ev, V⟩ := h2
  have le : (clN es).length = 5 * m := by rw [clN_size, hR _ V]
  rw [hdrop]
  show o1.wp _ a W (fun a' w' => Q .normal a' w') Q
  refine wp_store_mid ty (.tmp pD) (.tmp pV) hop1 q off (clN es).toArray (hP a W hb hF) ev (by show W.there q off (clN es).length; rw [le]; exact there_upo (by omega) ht hw) (by show _ = some (clN es).length; rw [le]; exact hs) (clN_one es) ?_
  rw [hd1]
  obtain ⟨vs, hvs⟩ : ∃ vs : Nat → Value, ∀ d, a.tmps.getD d undef = vs d := ⟨_, fun _ => rfl⟩
  show Q .normal a _
  rw [puts_tail hT rfl hb vs hvs]
  exact fin vs W es V hw
end
/-- One merge into twenty words. -/
def m20 (b : Bool) (k : Nat) (y E : Nat → Int) (j : Nat) : Int := if b = true ∧ 5 * k ≤ j ∧ j < 5 * k + 5 then E j else y j
theorem merge20 (w : World) (q k : Nat) (b : Bool) (y E : Nat → Int) (hk : k < 4) (hy : ∀ j, j < 20 → w.cell? ⟨q, j, none⟩ = some (.int .u64 (y j))) (hf : ∀ j, w.frozen? ⟨q, j, none⟩ = false) (bx : ∀ j, j < 20 → 0 ≤ y j ∧ y j < 18446744073709551616) (be : ∀ j, j < 20 → 0 ≤ E j ∧ E j < 18446744073709551616) (h0 : b = true → ∀ j, 5 * k ≤ j → y j = 0) :
    Calls Tryd.prog 102 #[.pointer (some ⟨q, 5 * k, none⟩), ag5 (fun j => E (5 * k + j)), .int .u64 (mask b)] w fun r w' => r = .returned (.tuple #[]) ∧ (∀ j, j < 20 → w'.cell? ⟨q, j, none⟩ = some (.int .u64 (m20 b k y E j))) ∧ (∀ j, w'.frozen? ⟨q, j, none⟩ = false) ∧ ButQ q w w' ∧ ∀ w1 B, Below B w1 w → B ≤ q → Below B w1 w' := by
  have lq : q < w.heap.size := block_lt_of_cell (hy 0 (by omega))
  refine (merge_any w q (5 * k) b (fun j => y (5 * k + j)) (fun j => E (5 * k + j)) (fun j hj => hy _ (by omega)) hf (fun j hj => bx _ (by omega)) (fun j hj => be _ (by omega)) (fun hb j _ => h0 hb _ (by omega))).mono ?_
  rintro r w' ⟨rfl, w1, n1, M⟩
  refine ⟨rfl, fun j hj => ?_, fun j => ?_, ⟨fun g hg hl => (M.only.block g hg).trans (n1.block g hl), by rw [M.only.size]; exact n1.size⟩, fun w2 B hB hq => ?_⟩
  · unfold m20
    by_cases c : 5 * k ≤ j ∧ j < 5 * k + 5
    · have e := M.at5 (j - 5 * k) (by omega)
      rw [show 5 * k + (j - 5 * k) = j by omega] at e
      rw [e]
      unfold mgd
      simp only
      rw [show 5 * k + (j - 5 * k) = j by omega]
      by_cases hb : b = true
      · rw [if_pos hb, if_pos ⟨hb, c⟩]
      · rw [if_neg hb, if_neg (fun h => hb h.1)]
    · rw [if_neg (fun h => c h.2), M.off j (by omega)]
      exact (World.cell?_of_block (a := ⟨q, j, none⟩) (n1.block q lq)).trans (hy j hj)
  · rw [M.fr j]
    exact (World.frozen?_of_block (a := ⟨q, j, none⟩) (n1.block q lq)).trans (hf j)
  · exact (hB.trans (n1.mono (by omega))).trans (M.only.below hq)
end Go.Proofs.YtnaaanefndeafaaDoor

/-
  The program's at: the multiple of a digit.
-/
namespace Go.Proofs.YtnaaanefndeafaaDoor
set_option maxRecDepth 100000
open Go Go.RowKit

/-- The words of a row of elements. -/
def flat (es : List (Nat → Int)) (j : Nat) : Int := (es.getD (j / 5) z5) (j % 5)
theorem clN_flat : ∀ (es : List (Nat → Int)) (j : Nat), j < 5 * es.length → (clN es)[j]? = some (.int .u64 (flat es j))
  | [], j, h => by simp at h
  | e :: es, j, h => by
    show (cl5 e ++ clN es)[j]? = _
    have h : j < 5 * es.length + 5 := by simpa [Nat.mul_add] using h
    by_cases c : j < 5
    · rw [List.getElem?_append_left (by simpa [cl5] using c)]
      obtain rfl | rfl | rfl | rfl | rfl : j = 0 ∨ j = 1 ∨ j = 2 ∨ j = 3 ∨ j = 4 := by omega
      all_goals rfl
    · rw [List.getElem?_append_right (by simp [cl5]; omega)]
      have e1 : (cl5 e).length = 5 := rfl
      rw [e1, clN_flat es (j - 5) (by omega)]
      unfold flat
      rw [show j / 5 = (j - 5) / 5 + 1 by omega, show (j - 5) % 5 = j % 5 by omega]
      rfl
theorem row_flat {W : World} {q o : Nat} {es : List (Nat → Int)} (h : W.rangeAt q o (clN es)) {n : Nat} (hl : es.length = n) (j : Nat) (hj : j < 5 * n) : W.cell? ⟨q, o + j, none⟩ = some (.int .u64 (flat es j)) := h j _ (clN_flat es j (by omega))
theorem flat_row {W : World} {q : Nat} {es : List (Nat → Int)} {n : Nat} (hl : es.length = n) (h : ∀ j, j < 5 * n → W.cell? ⟨q, j, none⟩ = some (.int .u64 (flat es j))) : W.rangeAt q 0 (clN es) := by
  intro j v hv
  have hj : j < 5 * n := by
    have := (List.getElem?_eq_some_iff.1 hv).1
    rw [clN_size] at this
    omega
  rw [clN_flat es j (by omega)] at hv
  rw [Nat.zero_add, h j hj, hv]
theorem flat_bd : ∀ {es : List (Nat → Int)} {As : List Int}, IsN es As → ∀ j, j < 5 * es.length → 0 ≤ flat es j ∧ flat es j < 18446744073709551616
  | [], _, _, j, h => by simp at h
  | e :: es, A :: As, k, j, h => by
    have h : j < 5 * es.length + 5 := by simpa [Nat.mul_add] using h
    by_cases c : j < 5
    · have e0 : flat (e :: es) j = e j := by
        unfold flat
        rw [show j / 5 = 0 by omega, show j % 5 = j by omega]
        rfl
      have := k.1.1 j c
      rw [e0]
      omega
    · have e0 : flat (e :: es) j = flat es (j - 5) := by
        unfold flat
        rw [show j / 5 = (j - 5) / 5 + 1 by omega, show (j - 5) % 5 = j % 5 by omega]
        rfl
      rw [e0]
      exact flat_bd k.2 (j - 5) (by omega)
  | _ :: _, [], k, _, _ => k.elim
theorem Ext.bd {es : List (Nat → Int)} {q : Int × Int} (h : Ext es q) (j : Nat) (hj : j < 20) : 0 ≤ flat es j ∧ flat es j < 18446744073709551616 := by
  have l := h.len
  obtain ⟨X, Y, Z, T, h, _⟩ := h
  exact flat_bd h j (by omega)
/-- What at has found behind k rounds. -/
def atY (es : List (Nat → Int)) (d k j : Nat) : Int := if d < k then flat (prt es d) j else 0
theorem atY_step (es : List (Nat → Int)) (d k : Nat) (b : Bool) (hb : b = decide (k = d)) : m20 b 3 (m20 b 2 (m20 b 1 (m20 b 0 (atY es d k) (flat (prt es k))) (flat (prt es k))) (flat (prt es k))) (flat (prt es k)) = fun j => if j < 20 then atY es d (k + 1) j else atY es d k j := by
  funext j
  unfold m20 atY
  by_cases c : k = d
  · subst c
    have hb : b = true := by simpa using hb
    subst hb
    simp only [true_and]
    repeat' split
    all_goals first | rfl | (exfalso; omega)
  · have hb : b = false := by simpa [c] using hb
    subst hb
    simp only [Bool.false_eq_true, false_and, if_false]
    repeat' split
    all_goals first | rfl | (exfalso; omega)
end Go.Proofs.YtnaaanefndeafaaDoor

/-
  The program's at: its walk.
-/
namespace Go.Proofs.YtnaaanefndeafaaDoor
set_option maxRecDepth 100000
open Go Go.RowKit

/-- What lasts from round to round. -/
structure AtI (w wr : World) (q4 q5 d k : Nat) (es : List (Nat → Int)) : Prop where
  n : Below w.heap.size w wr
  tr : wr.there q4 0 20
  y : ∀ j, j < 20 → wr.cell? ⟨q5, j, none⟩ = some (.int .u64 (atY es d k j))
  fr : ∀ j, wr.frozen? ⟨q5, j, none⟩ = false
theorem four_cells {W : World} {q : Nat} {es : List (Nat → Int)} (h : W.rangeAt q 0 (clN es)) (hl : es.length = 4) (k : Nat) (hk : k < 4) (j : Nat) (hj : j < 5) : W.cell? ⟨q, 5 * k + j, none⟩ = some (.int .u64 (flat es (5 * k + j))) := by
  have := row_flat h hl (5 * k + j) (by omega)
  rwa [Nat.zero_add] at this

theorem msk_is {k d x : Nat} (x16 : x < 16) (x0 : x = 0 ↔ k = d) : IntKind.u64.wrap (-(IntKind.u64.wrap ((x : Int) - 1) / 9223372036854775808)) = mask (decide (k = d)) := by
  by_cases h : k = d
  · have e := x0.2 h
    subst e
    rw [decide_eq_true h, IntKind.wrap_u64, IntKind.wrap_u64]
    decide
  · have e : x ≠ 0 := fun h' => h (x0.1 h')
    rw [decide_eq_false h, IntKind.wrap_u64, IntKind.wrap_u64]
    have e1 : ((x : Int) - 1) % 18446744073709551616 = (x : Int) - 1 := by omega
    have e2 : ((x : Int) - 1) / 9223372036854775808 = 0 := by omega
    rw [e1, e2]
    decide

set_option maxHeartbeats 4000000 in
theorem at_any (w : World) (p d : Nat) (es : List (Nat → Int)) (P0 : Int × Int) (hM : MulL es 16 P0) (hr : w.rangeAt p 0 (clN es)) (lp : p < w.heap.size) (hd : d < 16) :
    Calls Tryd.prog 72 #[.pointer (some ⟨p, 0, none⟩), .int .u64 (d : Int)] w fun r w' => ∃ ts, r = .returned (agN ts) ∧ Ext ts (mlP d P0) ∧ Below w.heap.size w w' := by
  have m1 : Below w.heap.size w (w.alloc zX) := (Below.refl _ _).alloc (Nat.le_refl _) _
  have s1 : (w.alloc zX).heap.size = w.heap.size + 1 := by simp
  have T1 : (w.alloc zX).there w.heap.size 0 20 := there_new w _ _
  have m2 : Below (w.alloc zX).heap.size (w.alloc zX) ((w.alloc zX).alloc zX) := (Below.refl _ _).alloc (Nat.le_refl _) _
  have T2 := there_up (by omega) T1 m2
  have F2 : ((w.alloc zX).alloc zX).there (w.heap.size + 1) 0 20 := by
    have := there_new (w.alloc zX) [.int .u64 0, .int .u64 0, .int .u64 0, .int .u64 0, .int .u64 0, .int .u64 0, .int .u64 0, .int .u64 0, .int .u64 0, .int .u64 0, .int .u64 0, .int .u64 0, .int .u64 0, .int .u64 0, .int .u64 0, .int .u64 0, .int .u64 0, .int .u64 0, .int .u64 0, .int .u64 0] 94
    rw [s1] at this
    exact this
  have hb2 : ((w.alloc zX).alloc zX).heap[w.heap.size + 1]? = some zX := by
    have := heap_alloc_last (w.alloc zX) zX
    rwa [s1] at this
  have Y2 : ∀ j, j < 20 → ((w.alloc zX).alloc zX).cell? ⟨w.heap.size + 1, j, none⟩ = some (.int .u64 0) := by
    intro j hj
    have z : clN [z5, z5, z5, z5] = [.int .u64 0, .int .u64 0, .int .u64 0, .int .u64 0, .int .u64 0, .int .u64 0, .int .u64 0, .int .u64 0, .int .u64 0, .int .u64 0, .int .u64 0, .int .u64 0, .int .u64 0, .int .u64 0, .int .u64 0, .int .u64 0, .int .u64 0, .int .u64 0, .int .u64 0, .int .u64 0] := rfl
    have := clN_flat [z5, z5, z5, z5] j (by simpa using hj)
    have e : flat [z5, z5, z5, z5] j = 0 := by
      unfold flat
      obtain h | h | h | h : j / 5 = 0 ∨ j / 5 = 1 ∨ j / 5 = 2 ∨ j / 5 = 3 := by omega
      all_goals rw [h]; rfl
    rw [e, z] at this
    unfold World.cell?
    simp only
    rw [hb2]
    simpa using this
  have F2' : ∀ j, ((w.alloc zX).alloc zX).frozen? ⟨w.heap.size + 1, j, none⟩ = false := by
    intro j
    unfold World.frozen?
    simp only
    rw [hb2]
    rfl
  have N2 := nxt m1 m2
  have I0 : AtI w ((w.alloc zX).alloc zX) w.heap.size (w.heap.size + 1) d 0 es := ⟨N2, T2, fun j hj => by rw [Y2 j hj]; unfold atY; rw [if_neg (by omega)], F2'⟩
  clear Y2 F2 F2' hb2 T1 T2 m1 m2 s1 N2
  have hr' := hide hr
  clear hr
  go_enter Tryd.func72, Tryd.ntmps72
  go_upto_region 2 with fail
  obtain ⟨wq, hwq⟩ : ∃ W, W = (w.alloc zX).alloc zX := ⟨_, rfl⟩
  rw [← hwq] at I0
  change Code.wp _ _ _ _ ((w.alloc zX).alloc zX)
  rw [← hwq]
  clear hwq
  go_wp2
  go_loopw [11] (fun i wr => ∃ k : Nat, k ≤ 16 ∧ i = .int .i64 k ∧ AtI w wr w.heap.size (w.heap.size + 1) d k es) (fun i _ => 16 - (intOf i).toNat)
  case atStart => exact ⟨0, by omega, rfl, I0⟩
  case round =>
    clear I0
    obtain ⟨k, hk, rfl, I⟩ := hrel
    have l4 : w.heap.size < wr.heap.size := there_lt (by omega) I.tr
    have l5 : w.heap.size + 1 < wr.heap.size := block_lt_of_cell (I.y 0 (by omega))
    by_cases hlt : k < 16
    · have k5 : (k : Int) < 16 := by omega
      have MR : RowG wr p (20 * k) (fun t => t = prt es k) := by
        have h : RowG w p (20 * k) (fun t => t = prt es k) := ⟨prt es k, row_part hr'.out hM.1 hlt, lp, rfl⟩
        obtain ⟨t, r, l, h⟩ := h
        exact ⟨t, fun j v hv => (World.cell?_of_block (a := ⟨p, 20 * k + j, none⟩) (I.n.block p l)).trans (r j v hv), by omega, h⟩
      go_upto_region 4 with fail
      refine region_newG 94 6 4 3 7 16 4 _ (fun i => [Fact.eq (.int .i64 k), Fact.eq (.pointer (some ⟨p, 0, none⟩)), Fact.eq (.pointer (some ⟨p, 20 * k, none⟩)), AG (fun t => t = prt es k), NB wr 20, Fact.eq (.int .i64 k)].getD i Fact.no) (fun t => t = prt es k) (fun t ht => by rw [ht]; exact prt_len hM.1 hlt) (by kernel_rfl) rfl rfl rfl iX (by decide) (by decide) (by kernel_rfl) (by kernel_rfl) rfl rfl ?_ ?_
      · intro i hi
        obtain rfl | rfl | rfl | rfl | rfl | rfl : i = 0 ∨ i = 1 ∨ i = 2 ∨ i = 3 ∨ i = 4 ∨ i = 5 := by omega
        · exact step_mv rfl 11 rfl (by kernel_rfl) rfl rfl
        · exact step_nil0 rfl 9 rfl (by kernel_rfl) rfl rfl
        · refine step_pure rfl fun a W hb _ hf => ⟨.pointer (some ⟨p, 20 * k, none⟩), ?_, rfl⟩
          have e1 := hf 1 14 (by kernel_rfl)
          have e2 := (based_at hb 11 (by kernel_rfl))
          have g1 : a.eval (.tmp 14) = .pointer (some ⟨p, 0, none⟩) := e1
          have g2 : a.eval (.tmp 11) = .int .i64 (k : Int) := e2
          simp [execOp, g1, g2, run_idx16 W p k hlt]
        · exact step_lGf 94 _ 4 _ (fun t ht => by rw [ht]; exact prt_len hM.1 hlt) Tryd.underlying94 rfl iX rfl 15 2 rfl (by kernel_rfl) _ _ rfl MR rfl
        · exact step_newX rfl rfl rfl
        · exact step_asgf rfl 13 0 rfl (by kernel_rfl) rfl rfl
      intro vs q W W' hq hF hql nW RG TG
      have h6 : vs 6 = .int .i64 k := hF 5 6 (by decide) (by kernel_rfl)
      clear hF MR
      obtain ⟨t, rt, lt, rfl⟩ := RG
      obtain ⟨x, hx, x16, x0⟩ := msk_ok k d hlt hd
      simp only [puts, hq, h6, Act.put, List.setIfInBounds_toArray, List.set_cons_succ, List.set_cons_zero]
      have MK := msk_is x16 x0
      have el : (prt es k).length = 4 := prt_len hM.1 hlt
      have bE := (hM.2 k hlt).bd
      have yE : ∀ j, j < 20 → 0 ≤ atY es d k j ∧ atY es d k j < 18446744073709551616 := by
        intro j hj
        unfold atY
        split
        · exact (hM.2 d hd).bd j hj
        · omega
      obtain ⟨b, hb⟩ : ∃ b, b = decide (k = d) := ⟨_, rfl⟩
      have zE : b = true → ∀ j, atY es d k j = 0 := by
        intro h j
        rw [h] at hb
        have : k = d := by simpa using hb.symm
        unfold atY
        rw [if_neg (by omega)]
      have ST := hide (atY_step es d k b hb)
      have y0 : ∀ j, j < 20 → W'.cell? ⟨w.heap.size + 1, j, none⟩ = some (.int .u64 (atY es d k j)) := fun j hj => (World.cell?_of_block (a := ⟨w.heap.size + 1, j, none⟩) (nW.block _ l5)).trans (I.y j hj)
      have f0 : ∀ j, W'.frozen? ⟨w.heap.size + 1, j, none⟩ = false := fun j => (World.frozen?_of_block (a := ⟨w.heap.size + 1, j, none⟩) (nW.block _ l5)).trans (I.fr j)
      have tr0 := there_up (by omega) I.tr nW
      have N0 := I.n.trans (nW.mono (by omega))
      have hne : q ≠ w.heap.size + 1 := by omega
      generalize hY : atY es d k = Y at *
      have rc : ∀ (W : World), W.rangeAt q 0 (clN (prt es k)) → ∀ j, j < 20 → W.cell? ⟨q, j, none⟩ = some (.int .u64 (flat (prt es k) j)) := fun W h j hj => by
        have := row_flat h el j (by omega)
        rwa [Nat.zero_add] at this
      have rcH := hide rc
      clear rc
      have rq := hide rt
      clear rt
      generalize hE : flat (prt es k) = E at *
      have HE := hide hE
      clear hE
      rw [← hb] at MK
      clear hb I nW
      go_upto_region 6 with fail
      clear MK hx x0
      have HYY := hide hY
      clear hY
      have q0 := rcH.out W' rq.out
      have c0 := q0 0 (by omega)
      have c1 := q0 1 (by omega)
      have c2 := q0 2 (by omega)
      have c3 := q0 3 (by omega)
      have c4 := q0 4 (by omega)
      have MG := merge20 W' (w.heap.size + 1) 0 b (Y) E (by omega) y0 f0 yE bE (fun h j hj => zE h j)
      simp only [ag5, Nat.mul_zero, Nat.zero_add] at MG
      have MG' := hide MG
      clear MG y0 f0 q0
      go_wp2_with fail
      refine MG'.out.mono ?_
      rintro r V1 ⟨rfl, y1, f1, B1, n1⟩
      clear MG' c0 c1 c2 c3 c4
      have y0 := y1
      have f0 := f1
      have rq := hide (show (V1).rangeAt q 0 (clN (prt es k)) from fun j v hv => (World.cell?_of_block (a := ⟨q, 0 + j, none⟩) (B1.1 q hne lt)).trans (rq.out j v hv))
      replace lt := Nat.lt_of_lt_of_le lt B1.2
      have tr0 := there_but (by omega) tr0 B1 (by omega)
      have N0 := n1 w w.heap.size N0 (by omega)
      have yE : ∀ j, j < 20 → 0 ≤ m20 b 0 (Y) E j ∧ m20 b 0 (Y) E j < 18446744073709551616 := by
        intro j hj
        unfold m20
        split
        · exact bE j hj
        · exact yE j hj
      clear y1 f1 B1 n1
      have z1 : b = true → ∀ j, 5 * 1 ≤ j → m20 b 0 (Y) E j = 0 := by
        intro h j hj
        unfold m20
        rw [if_neg (by omega)]
        exact zE h j
      have q1 := rcH.out V1 rq.out
      have c0 := q1 5 (by omega)
      have c1 := q1 6 (by omega)
      have c2 := q1 7 (by omega)
      have c3 := q1 8 (by omega)
      have c4 := q1 9 (by omega)
      have MG := merge20 V1 (w.heap.size + 1) 1 b (m20 b 0 (Y) E) E (by omega) y0 f0 yE bE (fun h j hj => z1 h j hj)
      simp only [ag5, Nat.reduceMul, Nat.reduceAdd, Nat.add_zero] at MG
      have MG' := hide MG
      clear MG y0 f0 q1
      go_wp2_with fail
      refine MG'.out.mono ?_
      rintro r V2 ⟨rfl, y1, f1, B1, n1⟩
      clear MG' c0 c1 c2 c3 c4
      have y0 := y1
      have f0 := f1
      have rq := hide (show (V2).rangeAt q 0 (clN (prt es k)) from fun j v hv => (World.cell?_of_block (a := ⟨q, 0 + j, none⟩) (B1.1 q hne lt)).trans (rq.out j v hv))
      replace lt := Nat.lt_of_lt_of_le lt B1.2
      have tr0 := there_but (by omega) tr0 B1 (by omega)
      have N0 := n1 w w.heap.size N0 (by omega)
      have yE : ∀ j, j < 20 → 0 ≤ m20 b 1 (m20 b 0 (Y) E) E j ∧ m20 b 1 (m20 b 0 (Y) E) E j < 18446744073709551616 := by
        intro j hj
        unfold m20
        split
        · exact bE j hj
        · exact yE j hj
      clear y1 f1 B1 n1
      have z2 : b = true → ∀ j, 5 * 2 ≤ j → m20 b 1 (m20 b 0 (Y) E) E j = 0 := by
        intro h j hj
        unfold m20
        rw [if_neg (by omega)]
        exact z1 h j (by omega)
      have q2 := rcH.out V2 rq.out
      have c0 := q2 10 (by omega)
      have c1 := q2 11 (by omega)
      have c2 := q2 12 (by omega)
      have c3 := q2 13 (by omega)
      have c4 := q2 14 (by omega)
      have MG := merge20 V2 (w.heap.size + 1) 2 b (m20 b 1 (m20 b 0 (Y) E) E) E (by omega) y0 f0 yE bE (fun h j hj => z2 h j hj)
      simp only [ag5, Nat.reduceMul, Nat.reduceAdd, Nat.add_zero] at MG
      have MG' := hide MG
      clear MG y0 f0 q2
      go_wp2_with fail
      refine MG'.out.mono ?_
      rintro r V3 ⟨rfl, y1, f1, B1, n1⟩
      clear MG' c0 c1 c2 c3 c4
      have y0 := y1
      have f0 := f1
      have rq := hide (show (V3).rangeAt q 0 (clN (prt es k)) from fun j v hv => (World.cell?_of_block (a := ⟨q, 0 + j, none⟩) (B1.1 q hne lt)).trans (rq.out j v hv))
      replace lt := Nat.lt_of_lt_of_le lt B1.2
      have tr0 := there_but (by omega) tr0 B1 (by omega)
      have N0 := n1 w w.heap.size N0 (by omega)
      have yE : ∀ j, j < 20 → 0 ≤ m20 b 2 (m20 b 1 (m20 b 0 (Y) E) E) E j ∧ m20 b 2 (m20 b 1 (m20 b 0 (Y) E) E) E j < 18446744073709551616 := by
        intro j hj
        unfold m20
        split
        · exact bE j hj
        · exact yE j hj
      clear y1 f1 B1 n1
      have z3 : b = true → ∀ j, 5 * 3 ≤ j → m20 b 2 (m20 b 1 (m20 b 0 (Y) E) E) E j = 0 := by
        intro h j hj
        unfold m20
        rw [if_neg (by omega)]
        exact z2 h j (by omega)
      have q3 := rcH.out V3 rq.out
      have c0 := q3 15 (by omega)
      have c1 := q3 16 (by omega)
      have c2 := q3 17 (by omega)
      have c3 := q3 18 (by omega)
      have c4 := q3 19 (by omega)
      have MG := merge20 V3 (w.heap.size + 1) 3 b (m20 b 2 (m20 b 1 (m20 b 0 (Y) E) E) E) E (by omega) y0 f0 yE bE (fun h j hj => z3 h j hj)
      simp only [ag5, Nat.reduceMul, Nat.reduceAdd, Nat.add_zero] at MG
      have MG' := hide MG
      clear MG y0 f0 q3
      go_wp2_with fail
      refine MG'.out.mono ?_
      rintro r V4 ⟨rfl, y1, f1, B1, n1⟩
      clear MG' c0 c1 c2 c3 c4
      have y0 := y1
      have f0 := f1
      have rq := hide (show (V4).rangeAt q 0 (clN (prt es k)) from fun j v hv => (World.cell?_of_block (a := ⟨q, 0 + j, none⟩) (B1.1 q hne lt)).trans (rq.out j v hv))
      replace lt := Nat.lt_of_lt_of_le lt B1.2
      have tr0 := there_but (by omega) tr0 B1 (by omega)
      have N0 := n1 w w.heap.size N0 (by omega)
      have yE : ∀ j, j < 20 → 0 ≤ m20 b 3 (m20 b 2 (m20 b 1 (m20 b 0 (Y) E) E) E) E j ∧ m20 b 3 (m20 b 2 (m20 b 1 (m20 b 0 (Y) E) E) E) E j < 18446744073709551616 := by
        intro j hj
        unfold m20
        split
        · exact bE j hj
        · exact yE j hj
      clear y1 f1 B1 n1
      have z4 : b = true → ∀ j, 5 * 4 ≤ j → m20 b 3 (m20 b 2 (m20 b 1 (m20 b 0 (Y) E) E) E) E j = 0 := by
        intro h j hj
        unfold m20
        rw [if_neg (by omega)]
        exact z3 h j (by omega)
      have HH := hide (show AtI w V4 w.heap.size (w.heap.size + 1) d (k + 1) es from by
        refine ⟨N0, tr0, fun j hj => ?_, f0⟩
        rw [y0 j hj]
        have e := congrFun ST.out j
        simp only [if_pos hj] at e
        rw [e])
      clear y0 f0 yE z1 z2 z3 z4 zE bE ST tr0 N0 rq rcH
      go_wp2
      go_roundw
      case rel => exact ⟨k + 1, by omega, by go_num, HH.out⟩
      case measure => simp [intOf]; omega
    · obtain rfl : k = 16 := by omega
      have el : (prt es d).length = 4 := prt_len hM.1 hd
      have RG : RowG wr (w.heap.size + 1) 0 (fun t => t = prt es d) := ⟨prt es d, flat_row el (fun j hj => by
        rw [I.y j hj]
        unfold atY
        rw [if_pos hd]), l5, rfl⟩
      go_upto_region 11 with fail
      refine region_putG 94 1 0 4 51 4 w.heap.size 0 _ (fun i => [AG (fun t => t = prt es d)].getD i Fact.no) (fun t => t = prt es d) (fun t ht => by rw [ht]; exact el) (by omega) (by kernel_rfl) rfl rfl rfl iX I.tr (fun a W hb _ => based_at hb 4 (by kernel_rfl)) (by decide) (by kernel_rfl) rfl ?_ ?_
      · intro i hi
        obtain rfl : i = 0 := by omega
        exact step_lG 94 _ 4 _ (fun t ht => by rw [ht]; exact el) Tryd.underlying94 rfl iX rfl 5 rfl (by kernel_rfl) _ _ rfl RG rfl
      intro vs W t ht nW
      subst ht
      have th := there_up (by omega) I.tr nW
      have lz : (clN (prt es d)).length = 20 := by rw [clN_size, el]
      have rg : (W.setCells w.heap.size 0 (clN (prt es d))).rangeAt w.heap.size 0 (clN (prt es d)) := World.rangeAt_setCells_same W _ 0 _ (by rw [lz]; exact th)
      have NS : Below w.heap.size w (W.setCells w.heap.size 0 (clN (prt es d))) := below_setCells (Nat.le_refl _) _ _ _ (I.n.trans (nW.mono (by omega)))
      have EX := hM.2 d hd
      generalize W.setCells w.heap.size 0 (clN (prt es d)) = W2 at *
      simp only [puts, Act.put, List.setIfInBounds_toArray, List.set_cons_succ, List.set_cons_zero]
      clear RG I th
      go_wp2
      obtain ⟨fs, hfs⟩ := uX
      exact bodyPost_ret (v := agN (prt es d)) (results_cell_mid Tryd.results72 _ _ w.heap.size (clN (prt es d)) _ rfl rg hfs rfl (by rw [lz]; exact iX)) rfl ⟨prt es d, rfl, EX, NS⟩
end Go.Proofs.YtnaaanefndeafaaDoor

/-
  The program's sums and doublings of points, and its multiples.
-/
namespace Go.Proofs.YtnaaanefndeafaaDoor
set_option maxRecDepth 100000
open Go Go.RowKit

theorem extAdd_E (w : World) (D : Int) (hD : PP ∣ D - d0) (es fs : List (Nat → Int)) (p q : Int × Int) (hp : OnP PP (-1) d0 p) (hq : OnP PP (-1) d0 q) (he : Ext es p) (hf : Ext fs q) (TT : HasTw w 2) (CC : Em5 w 1 0 D) :
    Calls Tryd.prog 69 #[agN es, agN fs] w fun r w' => ∃ ts, r = .returned (agN ts) ∧ Ext ts (eadd (-1) d0 einv p q) ∧ Below w.heap.size w w' := by
  obtain ⟨X, Y, Z, T, h1, h2⟩ := he
  obtain ⟨X', Y', Z', T', k1, k2⟩ := hf
  refine (extAdd_any w D es fs T T' X X' Y Y' Z Z' h1 k1 TT CC).mono ?_
  rintro r w' ⟨ts, rfl, h, n⟩
  exact ⟨ts, rfl, ⟨_, _, _, _, h, ex_sum hD hp hq h2 k2⟩, n⟩
theorem double_E (w : World) (x y z t : Nat → Int) (fs : List (Nat → Int)) (p q : Int × Int) (hp : OnP PP (-1) d0 p) (he : Ext [x, y, z, t] p) (hf : Ext fs q) (TT : HasTw w 2) :
    Calls Tryd.prog 68 #[agN [x, y, z], agN fs] w fun r w' => ∃ ts, r = .returned (agN ts) ∧ Ext ts (eadd (-1) d0 einv p p) ∧ Below w.heap.size w w' := by
  obtain ⟨X, Y, Z, T, h1, h2⟩ := he
  obtain ⟨X', Y', Z', T', k1, k2⟩ := hf
  refine (double_any w [x, y, z] fs T' X X' Y Y' Z Z' ⟨h1.1, h1.2.1, h1.2.2.1, trivial⟩ k1 TT).mono ?_
  rintro r w' ⟨ts, rfl, h, n⟩
  exact ⟨ts, rfl, ⟨_, _, _, _, h, ex_double hp h2⟩, n⟩
theorem toExt_E (w : World) (es : List (Nat → Int)) (X Y : Int) (hes : IsN es [X, Y]) :
    Calls Tryd.prog 71 #[agN es] w fun r w' => ∃ ts, r = .returned (agN ts) ∧ Ext ts (X, Y) ∧ Below w.heap.size w w' := by
  refine (toExt_any w es X Y hes).mono ?_
  rintro r w' ⟨ts, rfl, h, n⟩
  exact ⟨ts, rfl, ⟨_, _, _, _, h, ex_one (X, Y)⟩, n⟩
theorem buM (x y z t : Nat → Int) (w : World) : (Instr.build 97 #[(0, agN [x, y, z, t])]).run Tryd.prog w = .ok (agN ([x, y, z, t] ++ List.replicate 60 z5)) w := by kernel_rfl
theorem mulL_one {x y z t : Nat → Int} {p : Int × Int} (h : Ext [x, y, z, t] (0, 1)) : MulL ([x, y, z, t] ++ List.replicate 60 z5) 1 p := by
  refine ⟨by simp, fun i hi => ?_⟩
  obtain rfl : i = 0 := by omega
  exact h
def zM : List (Nat → Int) := List.replicate 64 z5
theorem alM (w : World) : (Instr.alloc 97 true (.tuple #[])).run Tryd.prog w = .ok (.pointer (some ⟨w.heap.size, 0, none⟩)) (w.alloc (.cells (clN zM).toArray 97)) := by kernel_rfl
section
variable {ops : Array Oper} {Q : Exit → Act → World → Prop} {md : Region.Mode} {F : Nat → Fact} {a0 : Act} {w0 w : World} {i id : Nat} {o : Oper} {ts : Array TypeId} {draw : Bool}
theorem step_newM (hi : ops[i]? = some o) (hop : o.op = .alloc 97) (hF : F i = NB w0 320) : StepOk Tryd.prog md ops Q F a0 w0 i := by
  refine step_grow hi fun a w _ hw _ => ⟨.pointer (some ⟨w.heap.size, 0, none⟩), w.alloc (.cells (clN zM).toArray 97), ?_, (Below.refl _ _).alloc (Nat.le_refl _) _, ?_⟩
  · simp only [execOp, hop]
    rw [Sem.run_bind, alM]
    rfl
  · rw [hF]
    refine ⟨by omega, _, rfl, ?_, hw.size⟩
    have := there_new w (clN zM) 97
    rwa [show (clN zM).length = 320 by rw [clN_size]; rfl] at this
theorem step_extG (R : List (Nat → Int) → Prop) (hi : ops[i]? = some o) (p j : Nat) (A B : Int) (hR : ∀ es, Ext es (A, B) → R es) (hop : o.op = .call { callee := .value (.func 71), args := #[.tmp p], argTypes := ts }) (hj : waits md ops i j p = true) (hFj : F j = EN [A, B]) (hFi : F i = AG R) : StepOk Tryd.prog md ops Q F a0 w0 i := by
  refine step_call hi _ _ ts hop (by kernel_rfl) fun a w _ hw hF => ?_
  have ea := hF j p hj
  rw [hFj] at ea
  obtain ⟨t, e1, L1⟩ := ea
  show Calls Tryd.prog _ #[a.tmps.getD p undef] w _
  rw [e1]
  refine (toExt_E w t A B L1).mono ?_
  rintro r w' ⟨s, rfl, L, hn⟩
  rw [hFi]
  exact ⟨_, rfl, hn, s, rfl, hR _ L⟩
theorem step_addG {D : Int} (hD : PP ∣ D - d0) (TT : HasTw w0 2) (CC : Em5 w0 1 0 D) (Ra Rb R : List (Nat → Int) → Prop) (P1 P2 : Int × Int) (hp : OnP PP (-1) d0 P1) (hq : OnP PP (-1) d0 P2) (ha : ∀ es, Ra es → Ext es P1) (hb : ∀ es, Rb es → Ext es P2) (hR : ∀ es, Ext es (eadd (-1) d0 einv P1 P2) → R es) (hi : ops[i]? = some o) (p q j k : Nat) (hop : o.op = .call { callee := .value (.func 69), args := #[.tmp p, .tmp q], argTypes := ts }) (hj : waits md ops i j p = true) (hk : waits md ops i k q = true) (hFj : F j = AG Ra) (hFk : F k = AG Rb) (hFi : F i = AG R) : StepOk Tryd.prog md ops Q F a0 w0 i := by
  refine step_call hi _ _ ts hop (by kernel_rfl) fun a w _ hw hF => ?_
  have ea := hF j p hj
  have eb := hF k q hk
  rw [hFj] at ea
  rw [hFk] at eb
  obtain ⟨t, e1, L1⟩ := ea
  obtain ⟨u, e2, L2⟩ := eb
  show Calls Tryd.prog _ #[a.tmps.getD p undef, a.tmps.getD q undef] w _
  rw [e1, e2]
  refine (extAdd_E w D hD t u P1 P2 hp hq (ha _ L1) (hb _ L2) (TT.up hw) (CC.up hw)).mono ?_
  rintro r w' ⟨s, rfl, L, hn⟩
  rw [hFi]
  exact ⟨_, rfl, hn, s, rfl, hR _ L⟩
end
end Go.Proofs.YtnaaanefndeafaaDoor

/-
  The program's multiples of a point.
-/
namespace Go.Proofs.YtnaaanefndeafaaDoor
set_option maxRecDepth 100000
open Go Go.RowKit

theorem iMu : (Tryd.prog.info? 97).map (·.size) = some (5 * 64) := by kernel_rfl
/-- What lasts from round to round. -/
structure MuI (w wr : World) (q2 q3 q4 k : Nat) (p : Int × Int) : Prop where
  n : Below w.heap.size w wr
  t2 : wr.there q2 0 320
  t3 : wr.there q3 0 320
  r3 : RowG wr q3 0 (fun es => MulL es (k + 1) p)
  r4 : RowG wr q4 0 (fun es => Ext es p)
theorem there_part {W : World} {q i : Nat} (h : W.there q 0 320) (hi : i < 16) : W.there q (20 * i) (5 * 4) := fun j hj => by
  have := h (20 * i + j) (by omega)
  rwa [Nat.zero_add] at this

theorem bxA (x y : Nat → Int) (w : World) : (Instr.box 51 (agN [x, y])).run Tryd.prog w = .ok (.pointer (some ⟨w.heap.size, 0, none⟩)) (w.alloc (.cells (clN [x, y]).toArray 51)) := by kernel_rfl

theorem mlP_inc {p : Int × Int} (hp : OnP PP (-1) d0 p) (k : Nat) : Pe PP (eadd (-1) d0 einv (mlP k p) p) (mlP (k + 1) p) :=
  (eadd_cg crv1 (mlP_on hp k) hp (Pe.refl _) (mlP_one hp).symm).trans (mlP_add hp k 1)
theorem run_inc {P : Program} {o : Oper} {a : Act} {W : World} {p : Nat} {t : TypeId} {n : Int} (hop : o.op = .binOp .add t (.tmp p) (.const (.int .i64 1)) t) (g : a.eval (.tmp p) = .int .i64 n) (h0 : 0 ≤ n) (h1 : n < 1000000) : (execOp a.eval o).run P W = .ok (.value (.int .i64 (n + 1))) W := by
  have e : IntKind.i64.wrap (n + 1) = n + 1 := by
    have m : (n + 1) % 18446744073709551616 = n + 1 := by omega
    simp [IntKind.wrap, IntKind.bits, IntKind.signed, m]
    omega
  have g' : a.tmps[p]?.getD undef = .int .i64 n := by simpa [Act.eval] using g
  simp [execOp, hop, Act.eval, g', eqGuard, binOp, Op.intArith, e]
/-- The address of a place of the sixteen. -/
theorem step_idxM {ops : Array Oper} {Q : Exit → Act → World → Prop} {md : Region.Mode} {F : Nat → Fact} {a0 : Act} {w0 : World} {i : Nat} {o : Oper} (hi : ops[i]? = some o) (p s j q n : Nat) (hn : n < 16) (hop : o.op = .indexAddr 97 (.tmp p) (.tmp s)) (hp : apart ops p = true) (h0 : a0.tmps.getD p undef = .pointer (some ⟨q, 0, none⟩)) (hj : waits md ops i j s = true) (hFj : F j = Fact.eq (.int .i64 (n : Int))) (hF : F i = Fact.eq (.pointer (some ⟨q, 20 * n, none⟩))) : StepOk Tryd.prog md ops Q F a0 w0 i := by
  refine step_pure hi fun a W hb _ hf => ⟨.pointer (some ⟨q, 20 * n, none⟩), ?_, by rw [hF]; exact rfl⟩
  have g1 : a.eval (.tmp p) = .pointer (some ⟨q, 0, none⟩) := (based_at hb p hp).trans h0
  have g2 := hf j s hj
  rw [hFj] at g2
  have g2' : a.eval (.tmp s) = .int .i64 (n : Int) := g2
  simp only [execOp, hop, g1, g2']
  rw [Sem.run_bind, run_idx16 W q n hn]
  rfl
theorem step_buM {ops : Array Oper} {Q : Exit → Act → World → Prop} {md : Region.Mode} {F : Nat → Fact} {a0 : Act} {w0 : World} {i : Nat} {o : Oper} {p : Int × Int} (hi : ops[i]? = some o) (s j : Nat) (hop : o.op = .build 97 #[(0, .tmp s)]) (hj : waits md ops i j s = true) (hFj : F j = AG (fun t => Ext t (0, 1))) (hFi : F i = AG (fun t => MulL t 1 p)) : StepOk Tryd.prog md ops Q F a0 w0 i := by
  refine step_pure hi fun a w _ _ hf => ?_
  have h1 := hf j s hj
  rw [hFj] at h1
  obtain ⟨us, e1, hE⟩ := h1
  obtain ⟨X, Y, Z, T, hN, hX⟩ := id hE
  obtain ⟨x, y, z, t, rfl, _⟩ := isN4 hN
  refine ⟨agN ([x, y, z, t] ++ List.replicate 60 z5), ?_, by rw [hFi]; exact ⟨_, rfl, mulL_one hE⟩⟩
  have g1 : a.eval (.tmp s) = agN [x, y, z, t] := e1
  have g : (#[(0, Operand.tmp s)].map fun (n, x) => (n, a.eval x)) = #[(0, agN [x, y, z, t])] := by simp [g1]
  simp only [execOp, hop, g]
  rw [Sem.run_bind, buM]
  rfl
/-- A point of two coordinates, somewhere. -/
def BXA (A B : Int) : Fact := ⟨fun v W => ∃ q, v = .pointer (some ⟨q, 0, none⟩) ∧ RowN W q 0 [A, B], fun n h => by obtain ⟨q, e, r⟩ := h; exact ⟨q, e, r.up n⟩⟩
theorem step_boxA {ops : Array Oper} {Q : Exit → Act → World → Prop} {md : Region.Mode} {F : Nat → Fact} {a0 : Act} {w0 : World} {i : Nat} {o : Oper} (hi : ops[i]? = some o) (p : Nat) (hop : o.op = .box 51 (.tmp p)) (hp : apart ops p = true) (us : List (Nat → Int)) (A B : Int) (hus : IsN us [A, B]) (h0 : a0.tmps.getD p undef = .agg (clN us).toArray) (hF : F i = BXA A B) : StepOk Tryd.prog md ops Q F a0 w0 i := by
  refine step_grow hi fun a W hb _ _ => ⟨.pointer (some ⟨W.heap.size, 0, none⟩), W.alloc (.cells (clN us).toArray 51), ?_, (Below.refl _ _).alloc (Nat.le_refl _) _, by rw [hF]; exact ⟨_, rfl, rowN_new W _ hus⟩⟩
  have e : a.eval (.tmp p) = .agg (clN us).toArray := (based_at hb p hp).trans h0
  obtain ⟨x, y, rfl, _, _⟩ := isN2 hus
  have k := bxA x y W
  unfold agN at k
  simp only [execOp, hop, e]
  rw [Sem.run_bind, k]
  rfl

set_option maxHeartbeats 4000000 in
theorem multiples_any (w : World) (us : List (Nat → Int)) (X Y D : Int) (hus : IsN us [X, Y]) (hp : OnP PP (-1) d0 (X, Y)) (hD : PP ∣ D - d0) (TT : HasTw w 2) (CC : Em5 w 1 0 D) (ZP : RowN w 0 0 [0, 1]) :
    Calls Tryd.prog 70 #[agN us] w fun r w' => ∃ es, r = .returned (agN es) ∧ MulL es 16 (X, Y) ∧ Below w.heap.size w w' := by
  show Calls Tryd.prog 70 #[.agg (clN us).toArray] w _
  go_enter Tryd.func70, Tryd.ntmps70
  go_upto_region 0 with fail
  refine region_end 2 (fun i => [BXA X Y, NB w 320].getD i Fact.no) (by kernel_rfl) (by kernel_rfl) rfl ?_ ?_
  · intro i hi
    obtain rfl | rfl : i = 0 ∨ i = 1 := by omega
    · exact step_boxA rfl 0 rfl (by kernel_rfl) us X Y hus rfl rfl
    · exact step_newM rfl rfl rfl
  intro a W hb nW hF
  have h1 := hF 0 1 (by kernel_rfl)
  have h2 := hF 1 2 (by kernel_rfl)
  obtain ⟨q1, e1, A1⟩ := h1
  obtain ⟨_, q2, e2, T2, l2⟩ := h2
  obtain ⟨vs, hvs⟩ : ∃ vs : Nat → Value, ∀ d, a.tmps.getD d undef = vs d := ⟨_, fun _ => rfl⟩
  rw [hvs] at e1 e2
  rw [puts_of (md := .any) (k := 2) (by kernel_rfl) rfl hb vs hvs]
  simp only [puts, e1, e2, Act.put, List.setIfInBounds_toArray, List.set_cons_succ, List.set_cons_zero]
  clear hF hb hvs
  have ZP1 := ZP.up nW
  go_upto_region 1 with fail
  refine region_newG 97 4 3 2 3 8 64 _ (fun i => [EN [0, 1], AG (fun t => Ext t (0, 1)), AG (fun t => MulL t 1 (X, Y)), NB W 320].getD i Fact.no) (fun t => MulL t 1 (X, Y)) (fun t ht => ht.1) (by kernel_rfl) rfl rfl rfl iMu (by decide) (by decide) (by kernel_rfl) (by kernel_rfl) rfl rfl ?_ ?_
  · intro i hi
    obtain rfl | rfl | rfl | rfl : i = 0 ∨ i = 1 ∨ i = 2 ∨ i = 3 := by omega
    · exact step_glA rfl 0 rfl _ _ ZP1 rfl
    · exact step_extG _ rfl 6 0 0 1 (fun _ h => h) rfl (by kernel_rfl) rfl rfl
    · exact step_buM rfl 7 1 rfl (by kernel_rfl) rfl rfl
    · exact step_newM rfl rfl rfl
  intro vs1 q3 W1 W2 hq3 _ lq3 n2 R3 T3
  simp only [puts, hq3, Act.put, List.setIfInBounds_toArray, List.set_cons_succ, List.set_cons_zero]
  have T2' := there_up (by omega) T2 n2
  have A1' := A1.up n2
  have N2 := nW.trans (n2.mono nW.size)
  have lt2 := there_lt (by omega) T2
  clear T2 A1 ZP1 nW n2
  go_upto_region 2 with fail
  refine region_newG 94 3 2 1 4 10 4 _ (fun i => [EN [X, Y], AG (fun t => Ext t (X, Y)), NB W2 20].getD i Fact.no) (fun t => Ext t (X, Y)) (fun t ht => ht.len) (by kernel_rfl) rfl rfl rfl iX (by decide) (by decide) (by kernel_rfl) (by kernel_rfl) rfl rfl ?_ ?_
  · intro i hi
    obtain rfl | rfl | rfl : i = 0 ∨ i = 1 ∨ i = 2 := by omega
    · exact step_lA rfl 1 rfl (by kernel_rfl) _ rfl _ _ A1' rfl
    · exact step_extG _ rfl 9 0 X Y (fun _ h => h) rfl (by kernel_rfl) rfl rfl
    · exact step_newX rfl rfl rfl
  intro vs2 q4 W3 W4 hq4 _ lq4 n4 R4 T4
  simp only [puts, hq4, Act.put, List.setIfInBounds_toArray, List.set_cons_succ, List.set_cons_zero]
  have l3 : q3 < W2.heap.size := there_lt (by omega) T3
  have I0 : MuI w W4 q2 q3 q4 0 (X, Y) := ⟨N2.trans (n4.mono N2.size), there_up (by omega) T2' n4, there_up (by omega) T3 n4, R3.up n4, R4⟩
  have h34 : q3 ≠ q4 := by omega
  have h23 : w.heap.size ≤ q2 := l2
  have h33 : w.heap.size ≤ q3 := by omega
  clear T2' A1' N2 T3 R3 n4 R4 T4 lq4 l3 lt2 lq3
  go_wp2
  go_loopw [11] (fun i wr => ∃ k : Nat, k ≤ 15 ∧ i = .int .i64 k ∧ MuI w wr q2 q3 q4 k (X, Y)) (fun i _ => 15 - (intOf i).toNat)
  case atStart => exact ⟨0, by omega, rfl, I0⟩
  case round =>
    clear I0
    obtain ⟨k, hk, rfl, I⟩ := hrel
    have l3 : q3 < wr.heap.size := there_lt (by omega) I.t3
    have TTr := TT.up I.n
    have CCr := CC.up I.n
    by_cases hlt : k < 15
    · have k5 : (k : Int) < 15 := by omega
      obtain ⟨es, re, le, hes⟩ := I.r3
      have RK : RowG wr q3 (20 * k) (fun t => t = prt es k) := ⟨_, row_part re hes.1 (by omega), le, rfl⟩
      have K1 : ((k : Int) + 1) = ((k + 1 : Nat) : Int) := by omega
      go_upto_region 6 with fail
      refine region_putG 94 8 6 21 20 4 q3 (20 * (k + 1)) _ (fun i => [Fact.eq (.int .i64 (k : Int)), Fact.eq (.int .i64 ((k + 1 : Nat) : Int)), Fact.eq (.int .i64 (k : Int)), Fact.eq (.pointer (some ⟨q3, 20 * k, none⟩)), AG (fun t => t = prt es k), AG (fun t => Ext t (X, Y)), AG (fun t => Ext t (mlP (k + 1) (X, Y))), Fact.eq (.pointer (some ⟨q3, 20 * (k + 1), none⟩))].getD i Fact.no) (fun t => Ext t (mlP (k + 1) (X, Y))) (fun t ht => ht.len) (by omega) (by kernel_rfl) rfl rfl rfl iX (there_part I.t3 (by omega)) (fun a W _ hf => hf 7 21 (by decide) (by kernel_rfl)) (by decide) (by kernel_rfl) rfl ?_ ?_
      · intro i hi
        obtain rfl | rfl | rfl | rfl | rfl | rfl | rfl | rfl : i = 0 ∨ i = 1 ∨ i = 2 ∨ i = 3 ∨ i = 4 ∨ i = 5 ∨ i = 6 ∨ i = 7 := by omega
        · exact step_mv rfl 5 rfl (by kernel_rfl) rfl rfl
        · refine step_pure rfl fun a W hb _ hf => ⟨.int .i64 ((k + 1 : Nat) : Int), ?_, rfl⟩
          have g1 : a.eval (.tmp 14) = .int .i64 (k : Int) := hf 0 14 (by kernel_rfl)
          rw [← K1]
          exact run_inc rfl g1 (by omega) (by omega)
        · exact step_mv rfl 5 rfl (by kernel_rfl) rfl rfl
        · exact step_idxM rfl 3 16 2 q3 k (by omega) rfl (by kernel_rfl) rfl (by kernel_rfl) rfl rfl
        · exact step_lGf 94 _ 4 _ (fun t ht => by rw [ht]; exact prt_len hes.1 (by omega)) Tryd.underlying94 rfl iX rfl 17 3 rfl (by kernel_rfl) _ _ rfl RK rfl
        · exact step_lG 94 _ 4 _ (fun t ht => ht.len) Tryd.underlying94 rfl iX rfl 4 rfl (by kernel_rfl) _ _ rfl I.r4 rfl
        · exact step_addG hD TTr CCr _ _ _ (mlP k (X, Y)) (X, Y) (mlP_on hp k) hp (fun t ht => by rw [ht]; exact hes.2 k (by omega)) (fun _ h => h) (fun t ht => ht.cg (mlP_inc hp k)) rfl 18 19 4 5 rfl (by kernel_rfl) (by kernel_rfl) rfl rfl rfl
        · exact step_idxM rfl 3 15 1 q3 (k + 1) (by omega) rfl (by kernel_rfl) rfl (by kernel_rfl) rfl rfl
      intro vs5 W5 fs hfs n5
      have b5 : ButQ q3 wr (W5.setCells q3 (20 * (k + 1)) (clN fs)) := but_setO n5 _ _
      have HH := hide (show MuI w (W5.setCells q3 (20 * (k + 1)) (clN fs)) q2 q3 q4 (k + 1) (X, Y) from by
        refine ⟨below_setCells h33 _ _ _ (I.n.trans (n5.mono I.n.size)), World.there_setCells (there_up (by omega) I.t2 n5) _ _ _, World.there_setCells (there_up (by omega) I.t3 n5) _ _ _, ?_, I.r4.but b5 (Ne.symm h34)⟩
        have re5 : W5.rangeAt q3 0 (clN es) := fun j v hv => (World.cell?_of_block (a := ⟨q3, 0 + j, none⟩) (n5.block q3 le)).trans (re j v hv)
        exact ⟨putP es fs (k + 1), row_put (there_up (by omega) I.t3 n5) re5 hes.1 hfs.len (by omega), by rw [heap_size_setCells]; exact Nat.lt_of_lt_of_le le n5.size, hes.put (by omega) hfs⟩)
      clear b5 RK I re hes TTr CCr n5 K1
      generalize W5.setCells q3 (20 * (k + 1)) (clN fs) = W6 at *
      simp only [puts, Act.put, List.setIfInBounds_toArray, List.set_cons_succ, List.set_cons_zero]
      go_wp2
      go_roundw
      case rel => exact ⟨k + 1, by omega, by go_num, HH.out⟩
      case measure => simp [intOf]; omega
    · obtain rfl : k = 15 := by omega
      go_upto_region 8 with fail
      refine region_putG 97 1 0 2 23 64 q2 0 _ (fun i => [AG (fun t => MulL t 16 (X, Y))].getD i Fact.no) (fun t => MulL t 16 (X, Y)) (fun t ht => ht.1) (by omega) (by kernel_rfl) rfl rfl rfl iMu I.t2 (fun a W hb _ => based_at hb 2 (by kernel_rfl)) (by decide) (by kernel_rfl) rfl ?_ ?_
      · intro i hi
        obtain rfl : i = 0 := by omega
        exact step_lG 97 _ 64 _ (fun t ht => ht.1) Tryd.underlying97 rfl iMu rfl 3 rfl (by kernel_rfl) _ _ rfl I.r3 rfl
      intro vs5 W5 fs hfs n5
      have th := there_up (by omega) I.t2 n5
      have lz : (clN fs).length = 320 := by rw [clN_size, hfs.1]
      have rg : (W5.setCells q2 0 (clN fs)).rangeAt q2 0 (clN fs) := World.rangeAt_setCells_same W5 _ 0 _ (by rw [lz]; exact th)
      have NS : Below w.heap.size w (W5.setCells q2 0 (clN fs)) := below_setCells h23 _ _ _ (I.n.trans (n5.mono I.n.size))
      generalize W5.setCells q2 0 (clN fs) = W6 at *
      simp only [puts, Act.put, List.setIfInBounds_toArray, List.set_cons_succ, List.set_cons_zero]
      clear I th
      go_wp2
      exact bodyPost_ret (v := agN fs) (results_cell_mid Tryd.results70 _ _ q2 (clN fs) _ rfl rg Tryd.underlying97 rfl (by rw [lz]; exact iMu)) rfl ⟨fs, rfl, hfs, NS⟩
end Go.Proofs.YtnaaanefndeafaaDoor

/-
  The program's steps through function values, and its scaling.
-/
namespace Go.Proofs.YtnaaanefndeafaaDoor
set_option maxRecDepth 100000
open Go Go.RowKit

def fD : Value := .func (.methodOf 94 "loop.example/g00004/impl.double") #[] #[]
def fA : Value := .func (.func 69) #[] #[]
theorem run_dbl (x y z t : Nat → Int) (f : Value) (w : World) : (invoke (.fn (.methodOf 94 "loop.example/g00004/impl.double") #[]) #[agN [x, y, z, t], f]).run Tryd.prog w = .ok (.enter 68 #[agN [x, y, z], f]) w := by kernel_rfl
theorem run_addV (e f : Value) (w : World) : (invoke (.fn (.func 69) #[]) #[e, f]).run Tryd.prog w = .ok (.enter 69 #[e, f]) w := by kernel_rfl
section
variable {ops : Array Oper} {Q : Exit → Act → World → Prop} {md : Region.Mode} {F : Nat → Fact} {a0 : Act} {w0 w : World} {i id : Nat} {o : Oper} {ts : Array TypeId} {draw : Bool}
theorem step_dblV (TT : HasTw w0 2) (P1 P2 : Int × Int) (R : List (Nat → Int) → Prop) (hp : OnP PP (-1) d0 P1) (hR : ∀ es, Ext es (eadd (-1) d0 einv P1 P1) → R es) (hi : ops[i]? = some o) (c p q l j k : Nat) (hop : o.op = .call { callee := .value (.tmp c), args := #[.tmp p, .tmp q], argTypes := ts }) (hl : waits md ops i l c = true) (hj : waits md ops i j p = true) (hk : waits md ops i k q = true) (hFl : F l = Fact.eq fD) (hFj : F j = AG (fun t => Ext t P1)) (hFk : F k = AG (fun t => Ext t P2)) (hFi : F i = AG R) : StepOk Tryd.prog md ops Q F a0 w0 i := by
  intro o' ho' a w hb hw hf K hK
  obtain rfl := Option.some.inj (hi.symm.trans ho')
  have ec := hf l c hl
  have ea := hf j p hj
  have eb := hf k q hk
  rw [hFl] at ec
  rw [hFj] at ea
  rw [hFk] at eb
  obtain ⟨u, e1, L1⟩ := ea
  obtain ⟨v, e2, L2⟩ := eb
  obtain ⟨X, Y, Z, T, hN, hX⟩ := id L1
  obtain ⟨x, y, z, t, rfl, _⟩ := isN4 hN
  have g0 : a.eval (.tmp c) = fD := ec
  have g1 : a.eval (.tmp p) = agN [x, y, z, t] := e1
  have g2 : a.eval (.tmp q) = agN v := e2
  have hr : (execOp a.eval o).run Tryd.prog w = .ok (.enter 68 #[agN [x, y, z], agN v]) w := by
    have h0 : (Deferred.ofValue fD #[agN [x, y, z, t], agN v]).run Tryd.prog w = .ok { target := .fn (.methodOf 94 "loop.example/g00004/impl.double") #[], args := #[agN [x, y, z, t], agN v] } w := by simp [Deferred.ofValue, fD]
    simp [execOp, hop, resolve, g0, g1, g2, h0, run_dbl]
  unfold Oper.wp
  rw [hr, Oper.upon_enter]
  refine (double_E w x y z t v P1 P2 hp L1 L2 (TT.up hw)).mono ?_
  rintro r w' ⟨s, rfl, L, hn⟩
  refine hK _ w' hn ?_
  rw [hFi]
  exact ⟨s, rfl, hR _ L⟩
theorem step_addV {D : Int} (hD : PP ∣ D - d0) (TT : HasTw w0 2) (CC : Em5 w0 1 0 D) (P1 P2 : Int × Int) (R : List (Nat → Int) → Prop) (hp : OnP PP (-1) d0 P1) (hq : OnP PP (-1) d0 P2) (hR : ∀ es, Ext es (eadd (-1) d0 einv P1 P2) → R es) (hi : ops[i]? = some o) (c p q l j k : Nat) (hop : o.op = .call { callee := .value (.tmp c), args := #[.tmp p, .tmp q], argTypes := ts }) (hl : waits md ops i l c = true) (hj : waits md ops i j p = true) (hk : waits md ops i k q = true) (hFl : F l = Fact.eq fA) (hFj : F j = AG (fun t => Ext t P1)) (hFk : F k = AG (fun t => Ext t P2)) (hFi : F i = AG R) : StepOk Tryd.prog md ops Q F a0 w0 i := by
  intro o' ho' a w hb hw hf K hK
  obtain rfl := Option.some.inj (hi.symm.trans ho')
  have ec := hf l c hl
  have ea := hf j p hj
  have eb := hf k q hk
  rw [hFl] at ec
  rw [hFj] at ea
  rw [hFk] at eb
  obtain ⟨u, e1, L1⟩ := ea
  obtain ⟨v, e2, L2⟩ := eb
  have g0 : a.eval (.tmp c) = fA := ec
  have g1 : a.eval (.tmp p) = agN u := e1
  have g2 : a.eval (.tmp q) = agN v := e2
  have hr : (execOp a.eval o).run Tryd.prog w = .ok (.enter 69 #[agN u, agN v]) w := by
    have h0 : (Deferred.ofValue fA #[agN u, agN v]).run Tryd.prog w = .ok { target := .fn (.func 69) #[], args := #[agN u, agN v] } w := by simp [Deferred.ofValue, fA]
    simp [execOp, hop, resolve, g0, g1, g2, h0, run_addV]
  unfold Oper.wp
  rw [hr, Oper.upon_enter]
  refine (extAdd_E w D hD u v P1 P2 hp hq L1 L2 (TT.up hw) (CC.up hw)).mono ?_
  rintro r w' ⟨s, rfl, L, hn⟩
  refine hK _ w' hn ?_
  rw [hFi]
  exact ⟨s, rfl, hR _ L⟩
end
end Go.Proofs.YtnaaanefndeafaaDoor

/-
  The program's scaling.
-/
namespace Go.Proofs.YtnaaanefndeafaaDoor
set_option maxRecDepth 100000
open Go Go.RowKit

/-- The five steps of a digit, as the program holds them. -/
def cF : List Value := [fD, fD, fD, fD, fA]
def fV (i : Nat) : Value := if i < 4 then fD else fA
theorem buF (w : World) : (Instr.build 95 #[(0, fD), (1, fD), (2, fD), (3, fD), (4, fA)]).run Tryd.prog w = .ok (.agg cF.toArray) w := by kernel_rfl
theorem alF (w : World) : (Instr.alloc 95 true (.tuple #[])).run Tryd.prog w = .ok (.pointer (some ⟨w.heap.size, 0, none⟩)) (w.alloc (.cells [Value.nilFunc, Value.nilFunc, Value.nilFunc, Value.nilFunc, Value.nilFunc].toArray 95)) := by kernel_rfl
theorem idxF (w : World) (i : Nat) (hi : i < 5) : (Instr.index 95 (.agg cF.toArray) (.int .i64 (i : Int))).run Tryd.prog w = .ok (fV i) w := by
  obtain rfl | rfl | rfl | rfl | rfl : i = 0 ∨ i = 1 ∨ i = 2 ∨ i = 3 ∨ i = 4 := by omega
  all_goals kernel_rfl
/-- A row of cells that is known, in memory. -/
def RowV (W : World) (q : Nat) (cs : List Value) : Prop := W.rangeAt q 0 cs ∧ q < W.heap.size
theorem RowV.up {W W' : World} {q : Nat} {cs : List Value} (h : RowV W q cs) (n : Below W.heap.size W W') : RowV W' q cs :=
  ⟨fun j v hv => (World.cell?_of_block (a := ⟨q, 0 + j, none⟩) (n.block q h.2)).trans (h.1 j v hv), Nat.lt_of_lt_of_le h.2 n.size⟩
theorem RowV.but {W W' : World} {g q : Nat} {cs : List Value} (h : RowV W g cs) (k : ButQ q W W') (hne : g ≠ q) : RowV W' g cs :=
  ⟨fun j v hv => (World.cell?_of_block (a := ⟨g, 0 + j, none⟩) (k.1 g hne h.2)).trans (h.1 j v hv), Nat.lt_of_lt_of_le h.2 k.2⟩
def cU (U : Nat → Int) : List Value := [.int .u64 (U 0), .int .u64 (U 1), .int .u64 (U 2), .int .u64 (U 3)]
section
variable {ops : Array Oper} {Q : Exit → Act → World → Prop} {md : Region.Mode} {F : Nat → Fact} {a0 : Act} {w0 w : World} {i id : Nat} {o : Oper} {ts : Array TypeId} {draw : Bool}
theorem step_lV (ty : TypeId) (d : TypeDesc) (cs : List Value) (hu : Tryd.prog.underlying ty = some d) (hd : d.isRow = true) (hs : (Tryd.prog.info? ty).map (·.size) = some cs.length) (hi : ops[i]? = some o) (p : Nat) (hop : o.op = .load ty (.tmp p)) (hp : apart ops p = true) (q : Nat) (h0 : a0.tmps.getD p undef = .pointer (some ⟨q, 0, none⟩)) (hE : RowV w0 q cs) (hF : F i = Fact.eq (.agg cs.toArray)) : StepOk Tryd.prog md ops Q F a0 w0 i := by
  refine step_load hi _ _ hop d _ hu hd hs fun a w hb hw _ => ?_
  exact ⟨q, 0, cs, (based_at hb p hp).trans h0, (hE.up hw).1, rfl, by rw [hF]; exact rfl⟩
theorem step_fun {P : Program} (hi : ops[i]? = some o) (fn : Fn) (hop : o.op = .makeFunc fn #[] #[]) (hF : F i = Fact.eq (.func fn #[] #[])) : StepOk P md ops Q F a0 w0 i := by
  refine step_pure hi fun a w _ _ _ => ⟨.func fn #[] #[], ?_, by rw [hF]; exact rfl⟩
  simp only [execOp, hop, Array.map_empty]
  rw [Sem.run_bind]
  rfl
theorem step_buF (hi : ops[i]? = some o) (hop : o.op = .build 95 #[(0, .tmp 12), (1, .tmp 13), (2, .tmp 14), (3, .tmp 15), (4, .func 69)]) (h0 : waits md ops i 0 12 = true) (h1 : waits md ops i 1 13 = true) (h2 : waits md ops i 2 14 = true) (h3 : waits md ops i 3 15 = true) (F0 : F 0 = Fact.eq fD) (F1 : F 1 = Fact.eq fD) (F2 : F 2 = Fact.eq fD) (F3 : F 3 = Fact.eq fD) (hF : F i = Fact.eq (.agg cF.toArray)) : StepOk Tryd.prog md ops Q F a0 w0 i := by
  refine step_pure hi fun a w _ _ hf => ⟨.agg cF.toArray, ?_, by rw [hF]; exact rfl⟩
  have e0 := hf 0 12 h0
  have e1 := hf 1 13 h1
  have e2 := hf 2 14 h2
  have e3 := hf 3 15 h3
  rw [F0] at e0
  rw [F1] at e1
  rw [F2] at e2
  rw [F3] at e3
  have g0 : a.eval (.tmp 12) = fD := e0
  have g1 : a.eval (.tmp 13) = fD := e1
  have g2 : a.eval (.tmp 14) = fD := e2
  have g3 : a.eval (.tmp 15) = fD := e3
  have g4 : a.eval (.func 69) = fA := rfl
  have g : (#[(0, Operand.tmp 12), (1, .tmp 13), (2, .tmp 14), (3, .tmp 15), (4, .func 69)].map fun (n, x) => (n, a.eval x)) = #[(0, fD), (1, fD), (2, fD), (3, fD), (4, fA)] := by simp [g0, g1, g2, g3, g4]
  simp only [execOp, hop, g]
  rw [Sem.run_bind, buF]
  rfl
theorem step_newF (hi : ops[i]? = some o) (hop : o.op = .alloc 95) (hF : F i = NB w0 5) : StepOk Tryd.prog md ops Q F a0 w0 i := by
  refine step_grow hi fun a w _ hw _ => ⟨.pointer (some ⟨w.heap.size, 0, none⟩), w.alloc (.cells [Value.nilFunc, Value.nilFunc, Value.nilFunc, Value.nilFunc, Value.nilFunc].toArray 95), ?_, (Below.refl _ _).alloc (Nat.le_refl _) _, ?_⟩
  · simp only [execOp, hop]
    rw [Sem.run_bind, alF]
    rfl
  · rw [hF]
    exact ⟨by omega, _, rfl, there_new w _ 95, hw.size⟩
/-- A row of known cells is laid into a new block. -/
theorem region_newV (ty : TypeId) (k jA jV pA pV : Nat) (o1 : Oper) (F : Nat → Fact) (cs : List Value) (h1c : cs.toArray.all (·.oneCell') = true) (h0c : 0 < cs.length) (hT : textTail .any draw ops a0.tmps.size k = true) (hdrop : ops.toList.drop k = [o1]) (hd1 : o1.dst = none)
    (hop1 : o1.op = .store ty (.tmp pA) (.tmp pV)) (hs : (Tryd.prog.info? ty).map (·.size) = some cs.length)
    (qA : decide (jA < k) = true) (qV : decide (jV < k) = true) (wA : writes ops jA pA = true) (wV : writes ops jV pV = true) (FA : F jA = NB w cs.length) (FV : F jV = Fact.eq (.agg cs.toArray)) (steps : ∀ i, i < k → StepOk Tryd.prog .any ops Q F a0 w i)
    (fin : ∀ (vs : Nat → Value) (q : Nat) (W' : World), vs pA = .pointer (some ⟨q, 0, none⟩) → w.heap.size ≤ q → Below w.heap.size w W' → RowV W' q cs → Q .normal (puts vs a0 ops.toList) W') :
    (Code.region id ops draw).wp Tryd.prog Q a0 w := by
  refine region_tail k F (by kernel_rfl) hT steps [] (fun p hp => by cases hp) (fun p hp => by cases hp) fun a W hb hw hF _ => ?_
  have h1 := hF jA pA qA wA
  have h2 := hF jV pV qV wV
  rw [FA] at h1
  rw [FV] at h2
  obtain ⟨_, q, eq, th, hq⟩ := h1
  rw [hdrop]
  show o1.wp _ a W (fun a' w' => Q .normal a' w') Q
  refine wp_store_mid ty (.tmp pA) (.tmp pV) hop1 q 0 cs.toArray eq h2 th hs h1c ?_
  rw [hd1]
  obtain ⟨vs, hvs⟩ : ∃ vs : Nat → Value, ∀ d, a.tmps.getD d undef = vs d := ⟨_, fun _ => rfl⟩
  show Q .normal a _
  rw [puts_tail hT rfl hb vs hvs]
  exact fin vs q _ ((hvs pA).symm.trans eq) hq (below_setCells hq _ _ _ hw) ⟨World.rangeAt_setCells_same W q 0 _ th, by rw [heap_size_setCells]; exact there_lt h0c th⟩
end
/-- What has been made of a digit behind i steps. -/
def stN (h d i : Nat) : Nat := if i < 5 then 2 ^ i * h else 16 * h + d
structure ScI (w wr : World) (q2 q4 q5 q6 q7 c : Nat) (U : Nat → Int) (p : Int × Int) : Prop where
  n : Below w.heap.size w wr
  r2 : RowV wr q2 (cU U)
  t4 : wr.there q4 0 10
  r5 : RowV wr q5 cF
  r6 : RowG wr q6 0 (fun es => MulL es 16 p)
  t7 : wr.there q7 0 20
  r7 : RowG wr q7 0 (fun es => Ext es (mlP c p))
theorem ScI.up {w wr W : World} {q2 q4 q5 q6 q7 n : Nat} {U : Nat → Int} {p : Int × Int} (h : ScI w wr q2 q4 q5 q6 q7 n U p) (k : Below wr.heap.size wr W) : ScI w W q2 q4 q5 q6 q7 n U p :=
  ⟨h.n.trans (k.mono h.n.size), h.r2.up k, there_up (by omega) h.t4 k, h.r5.up k, h.r6.up k, there_up (by omega) h.t7 k, h.r7.up k⟩
/-- A new sum is laid down. -/
theorem ScI.put {w wr W : World} {q2 q4 q5 q6 q7 n : Nat} {U : Nat → Int} {p : Int × Int} (h : ScI w wr q2 q4 q5 q6 q7 n U p) (k : Below wr.heap.size wr W) (l : w.heap.size ≤ q7) (h2 : q2 ≠ q7) (h5 : q5 ≠ q7) (h6 : q6 ≠ q7) {es : List (Nat → Int)} {m : Nat} (he : Ext es (mlP m p)) : ScI w (W.setCells q7 0 (clN es)) q2 q4 q5 q6 q7 m U p := by
  have b := but_setO (q := q7) k 0 (clN es)
  have t7 := there_up (by omega) h.t7 k
  have le : (clN es).length = 20 := by rw [clN_size, he.len]
  exact ⟨below_setCells l _ _ _ (h.n.trans (k.mono h.n.size)), h.r2.but b h2, World.there_setCells (there_up (by omega) h.t4 k) _ _ _, h.r5.but b h5, h.r6.but b h6, World.there_setCells t7 _ _ _, ⟨es, World.rangeAt_setCells_same W q7 0 _ (by rw [le]; exact t7), by rw [heap_size_setCells]; exact there_lt (by omega) t7, he⟩⟩
theorem wval_lt {U : Nat → Int} (hU : W4 U) {v : Nat} (hv : wval U = (v : Int)) : v < 2 ^ 256 := by
  have b0 := hU 0 (by omega)
  have b1 := hU 1 (by omega)
  have b2 := hU 2 (by omega)
  have b3 := hU 3 (by omega)
  unfold wval at hv
  have : (2 : Nat) ^ 256 = 115792089237316195423570985008687907853269984665640564039457584007913129639936 := by decide +kernel
  omega
end Go.Proofs.YtnaaanefndeafaaDoor

/-
  The program's scaling: its walk.
-/
namespace Go.Proofs.YtnaaanefndeafaaDoor
set_option maxRecDepth 100000
open Go Go.RowKit

theorem info55 : (Tryd.prog.info? 55).map (·.size) = some 4 := by kernel_rfl
theorem info95 : (Tryd.prog.info? 95).map (·.size) = some 5 := by kernel_rfl
theorem bxU (U : Nat → Int) (w : World) : (Instr.box 55 (.agg (cU U).toArray)).run Tryd.prog w = .ok (.pointer (some ⟨w.heap.size, 0, none⟩)) (w.alloc (.cells (cU U).toArray 55)) := by kernel_rfl
theorem rowV_new (W : World) (cs : List Value) (t : TypeId) : RowV (W.alloc (.cells cs.toArray t)) W.heap.size cs := by
  have e : (W.alloc (.cells cs.toArray t)).heap[W.heap.size]? = some (.cells cs.toArray t) := heap_alloc_last _ _
  refine ⟨fun j v hv => ?_, by simp⟩
  unfold World.cell?
  simp only
  rw [e]
  simpa using hv
/-- A row of known cells, somewhere. -/
def BXV (cs : List Value) : Fact := ⟨fun v W => ∃ q, v = .pointer (some ⟨q, 0, none⟩) ∧ RowV W q cs, fun n h => by obtain ⟨q, e, r⟩ := h; exact ⟨q, e, r.up n⟩⟩
section
variable {ops : Array Oper} {Q : Exit → Act → World → Prop} {md : Region.Mode} {F : Nat → Fact} {a0 : Act} {w0 w : World} {i id : Nat} {o : Oper} {ts : Array TypeId} {draw : Bool}
theorem step_boxU (hi : ops[i]? = some o) (p : Nat) (hop : o.op = .box 55 (.tmp p)) (hp : apart ops p = true) (U : Nat → Int) (h0 : a0.tmps.getD p undef = .agg (cU U).toArray) (hF : F i = BXV (cU U)) : StepOk Tryd.prog md ops Q F a0 w0 i := by
  refine step_grow hi fun a W hb _ _ => ⟨.pointer (some ⟨W.heap.size, 0, none⟩), W.alloc (.cells (cU U).toArray 55), ?_, (Below.refl _ _).alloc (Nat.le_refl _) _, by rw [hF]; exact ⟨_, rfl, rowV_new W _ _⟩⟩
  have e : a.eval (.tmp p) = .agg (cU U).toArray := (based_at hb p hp).trans h0
  simp only [execOp, hop, e]
  rw [Sem.run_bind, bxU]
  rfl
theorem step_mulG {D : Int} (hD : PP ∣ D - d0) (TT : HasTw w0 2) (CC : Em5 w0 1 0 D) (ZP : RowN w0 0 0 [0, 1]) (X Y : Int) (hp : OnP PP (-1) d0 (X, Y)) (hi : ops[i]? = some o) (p j : Nat) (hop : o.op = .call { callee := .value (.func 70), args := #[.tmp p], argTypes := ts }) (hj : waits md ops i j p = true) (hFj : F j = EN [X, Y]) (hFi : F i = AG (fun es => MulL es 16 (X, Y))) : StepOk Tryd.prog md ops Q F a0 w0 i := by
  refine step_call hi _ _ ts hop (by kernel_rfl) fun a w _ hw hF => ?_
  have ea := hF j p hj
  rw [hFj] at ea
  obtain ⟨t, e1, L1⟩ := ea
  show Calls Tryd.prog _ #[a.tmps.getD p undef] w _
  rw [e1]
  refine (multiples_any w t X Y D L1 hp hD (TT.up hw) (CC.up hw) (ZP.up hw)).mono ?_
  rintro r w' ⟨s, rfl, L, hn⟩
  rw [hFi]
  exact ⟨_, rfl, hn, s, rfl, L⟩
theorem step_dig (U : Nat → Int) (hU : W4 U) {v : Nat} (hv : wval U = (v : Int)) (n : Nat) (hn : n < 64) (hi : ops[i]? = some o) (p q j k : Nat) (hop : o.op = .call { callee := .value (.func 73), args := #[.tmp p, .tmp q], argTypes := ts }) (hj : waits md ops i j p = true) (hk : waits md ops i k q = true) (hFj : F j = Fact.eq (.agg (cU U).toArray)) (hFk : F k = Fact.eq (.int .i64 (n : Int))) (hFi : F i = Fact.eq (.int .u64 ((v / 16 ^ n % 16 : Nat) : Int))) : StepOk Tryd.prog md ops Q F a0 w0 i := by
  refine step_call hi _ _ ts hop (by kernel_rfl) fun a w _ hw hF => ?_
  have ea := hF j p hj
  have eb := hF k q hk
  rw [hFj] at ea
  rw [hFk] at eb
  have e1 : a.tmps.getD p undef = ag4 U := ea
  have e2 : a.tmps.getD q undef = .int .i64 (n : Int) := eb
  show Calls Tryd.prog _ #[a.tmps.getD p undef, a.tmps.getD q undef] w _
  rw [e1, e2]
  refine (digit_any w U hU n hn).mono ?_
  rintro r w' ⟨rfl, hn'⟩
  rw [hFi]
  exact ⟨_, rfl, hn', by rw [dgt_words hU hv hn]; exact rfl⟩
theorem step_at (p0 : Int × Int) (q6 d : Nat) (hd : d < 16) (hM : RowG w0 q6 0 (fun es => MulL es 16 p0)) (hi : ops[i]? = some o) (p q k : Nat) (hop : o.op = .call { callee := .value (.func 72), args := #[.tmp p, .tmp q], argTypes := ts }) (hp : apart ops p = true) (h0 : a0.tmps.getD p undef = .pointer (some ⟨q6, 0, none⟩)) (hk : waits md ops i k q = true) (hFk : F k = Fact.eq (.int .u64 (d : Int))) (hFi : F i = AG (fun es => Ext es (mlP d p0))) : StepOk Tryd.prog md ops Q F a0 w0 i := by
  refine step_call hi _ _ ts hop (by kernel_rfl) fun a w hb hw hF => ?_
  have eb := hF k q hk
  rw [hFk] at eb
  have e1 : a.tmps.getD p undef = .pointer (some ⟨q6, 0, none⟩) := (based_at hb p hp).trans h0
  have e2 : a.tmps.getD q undef = .int .u64 (d : Int) := eb
  show Calls Tryd.prog _ #[a.tmps.getD p undef, a.tmps.getD q undef] w _
  rw [e1, e2]
  obtain ⟨es, r, l, h⟩ := hM.up hw
  refine (at_any w q6 d es p0 h r l hd).mono ?_
  rintro r w' ⟨s, rfl, L, hn⟩
  rw [hFi]
  exact ⟨_, rfl, hn, s, rfl, L⟩
theorem step_const0 {P : Program} (hi : ops[i]? = some o) (v : Value) (hop : o.op = .move (.const v)) (hF : F i = Fact.eq v) : StepOk P md ops Q F a0 w0 i := by
  refine step_pure hi fun a w _ _ _ => ⟨v, ?_, by rw [hF]; exact rfl⟩
  simp [execOp, hop, Act.eval]
theorem step_sub63 {P : Program} (hi : ops[i]? = some o) (p j n : Nat) (hn : n < 64) {t : TypeId} (hop : o.op = .binOp .sub t (.const (.int .i64 63)) (.tmp p) t) (hj : waits md ops i j p = true) (hFj : F j = Fact.eq (.int .i64 (n : Int))) (hF : F i = Fact.eq (.int .i64 ((63 - n : Nat) : Int))) : StepOk P md ops Q F a0 w0 i := by
  refine step_pure hi fun a w _ _ hf => ⟨.int .i64 ((63 - n : Nat) : Int), ?_, by rw [hF]; exact rfl⟩
  have g := hf j p hj
  rw [hFj] at g
  have g' : a.tmps[p]?.getD undef = .int .i64 (n : Int) := by
    have : a.tmps.getD p undef = .int .i64 (n : Int) := g
    simpa using this
  have e : IntKind.i64.wrap (63 - (n : Int)) = ((63 - n : Nat) : Int) := by
    have m : (63 - (n : Int)) % 18446744073709551616 = 63 - (n : Int) := by omega
    simp [IntKind.wrap, IntKind.bits, IntKind.signed, m]
    omega
  simp [execOp, hop, Act.eval, g', eqGuard, binOp, Op.intArith, e]
end
theorem stN_next {p : Int × Int} (hp : OnP PP (-1) d0 p) (h d i : Nat) (hi : i < 4) : Pe PP (eadd (-1) d0 einv (mlP (stN h d i) p) (mlP (stN h d i) p)) (mlP (stN h d (i + 1)) p) := by
  have e : stN h d (i + 1) = stN h d i + stN h d i := by
    unfold stN
    rw [if_pos (by omega), if_pos (by omega), Nat.pow_succ, Nat.mul_assoc, Nat.mul_comm 2 h, ← Nat.mul_assoc]
    omega
  rw [e]
  exact mlP_add hp _ _
theorem stN_last {p : Int × Int} (hp : OnP PP (-1) d0 p) (h d : Nat) : Pe PP (eadd (-1) d0 einv (mlP (stN h d 4) p) (mlP d p)) (mlP (stN h d 5) p) := by
  have e : stN h d 5 = stN h d 4 + d := by
    unfold stN
    rw [if_neg (by omega), if_pos (by omega)]
  rw [e]
  exact mlP_add hp _ _
end Go.Proofs.YtnaaanefndeafaaDoor

/-
  The program's scaling: the whole of it.
-/
namespace Go.Proofs.YtnaaanefndeafaaDoor
set_option maxRecDepth 100000
open Go Go.RowKit

/-- What scaling answers. -/
def ScOk (v : Nat) (p : Int × Int) (r : Ending) : Prop := ∃ ts X' Y', r = .returned (agN ts) ∧ IsN ts [X', Y'] ∧ X' % PP = (mlP v p).1 % PP ∧ Y' % PP = (mlP v p).2 % PP
theorem cF_one : cF.toArray.all (·.oneCell') = true := by simp [cF, fD, fA, Value.oneCell']

set_option maxHeartbeats 8000000 in
theorem scale_any (w : World) (U : Nat → Int) (hU : W4 U) (v : Nat) (hv : wval U = (v : Int)) (us : List (Nat → Int)) (X Y D : Int) (hus : IsN us [X, Y]) (hp : OnP PP (-1) d0 (X, Y)) (hD : PP ∣ D - d0) (TT : HasTw w 2) (CC : Em5 w 1 0 D) (ZP : RowN w 0 0 [0, 1]) (SS : HasSt w 6) (II : Has3 w 3 12 5 4) :
    Calls Tryd.prog 30 #[ag4 U, agN us] w fun r w' => ScOk v (X, Y) r ∧ Below w.heap.size w w' := by
  show Calls Tryd.prog 30 #[.agg (cU U).toArray, .agg (clN us).toArray] w _
  have v256 := wval_lt hU hv
  go_enter Tryd.func30, Tryd.ntmps30
  go_upto_region 0 with fail
  refine region_end 3 (fun i => [BXV (cU U), BXA X Y, NB w 10].getD i Fact.no) (by kernel_rfl) (by kernel_rfl) rfl ?_ ?_
  · intro i hi
    obtain rfl | rfl | rfl : i = 0 ∨ i = 1 ∨ i = 2 := by omega
    · exact step_boxU rfl 0 rfl (by kernel_rfl) U rfl rfl
    · exact step_boxA rfl 1 rfl (by kernel_rfl) us X Y hus rfl rfl
    · exact step_newA rfl rfl rfl
  intro a W hb nW hF
  obtain ⟨q2, e2, R2⟩ := hF 0 2 (by kernel_rfl)
  obtain ⟨q3, e3, A3⟩ := hF 1 3 (by kernel_rfl)
  obtain ⟨_, q4, e4, T4, l4⟩ := hF 2 4 (by kernel_rfl)
  obtain ⟨vs, hvs⟩ : ∃ vs : Nat → Value, ∀ d, a.tmps.getD d undef = vs d := ⟨_, fun _ => rfl⟩
  rw [hvs] at e2 e3 e4
  rw [puts_of (md := .any) (k := 3) (by kernel_rfl) rfl hb vs hvs]
  simp only [puts, e2, e3, e4, Act.put, List.setIfInBounds_toArray, List.set_cons_succ, List.set_cons_zero]
  clear hF hb hvs
  have lt2 := R2.2
  have lt4 := there_lt (by omega) T4
  go_upto_region 1 with fail
  refine region_newV 95 6 5 4 5 16 _ (fun i => [Fact.eq fD, Fact.eq fD, Fact.eq fD, Fact.eq fD, Fact.eq (.agg cF.toArray), NB W 5].getD i Fact.no) cF cF_one (by decide) (by kernel_rfl) rfl rfl rfl info95 (by decide) (by decide) (by kernel_rfl) (by kernel_rfl) rfl rfl ?_ ?_
  · intro i hi
    obtain rfl | rfl | rfl | rfl | rfl | rfl : i = 0 ∨ i = 1 ∨ i = 2 ∨ i = 3 ∨ i = 4 ∨ i = 5 := by omega
    · exact step_fun rfl _ rfl rfl
    · exact step_fun rfl _ rfl rfl
    · exact step_fun rfl _ rfl rfl
    · exact step_fun rfl _ rfl rfl
    · exact step_buF rfl rfl (by kernel_rfl) (by kernel_rfl) (by kernel_rfl) (by kernel_rfl) rfl rfl rfl rfl rfl
    · exact step_newF rfl rfl rfl
  intro vs1 q5 W1 hq5 lq5 n1 R5
  simp only [puts, hq5, Act.put, List.setIfInBounds_toArray, List.set_cons_succ, List.set_cons_zero]
  replace R2 := R2.up n1
  replace A3 := A3.up n1
  replace T4 := there_up (by omega) T4 n1
  have N1 := nW.trans (n1.mono nW.size)
  have z1 := n1.size
  have lt5 := R5.2
  clear nW n1
  have TT1 := TT.up N1
  have CC1 := CC.up N1
  have ZP1 := ZP.up N1
  go_upto_region 2 with fail
  refine region_newG 97 3 2 1 6 18 64 _ (fun i => [EN [X, Y], AG (fun t => MulL t 16 (X, Y)), NB W1 320].getD i Fact.no) (fun t => MulL t 16 (X, Y)) (fun t ht => ht.1) (by kernel_rfl) rfl rfl rfl iMu (by decide) (by decide) (by kernel_rfl) (by kernel_rfl) rfl rfl ?_ ?_
  · intro i hi
    obtain rfl | rfl | rfl : i = 0 ∨ i = 1 ∨ i = 2 := by omega
    · exact step_lA rfl 3 rfl (by kernel_rfl) _ rfl _ _ A3 rfl
    · exact step_mulG hD TT1 CC1 ZP1 X Y hp rfl 17 0 rfl (by kernel_rfl) rfl rfl
    · exact step_newM rfl rfl rfl
  intro vs2 q6 _ W2 hq6 _ lq6 n2 R6 T6
  simp only [puts, hq6, Act.put, List.setIfInBounds_toArray, List.set_cons_succ, List.set_cons_zero]
  replace R2 := R2.up n2
  replace R5 := R5.up n2
  replace T4 := there_up (by omega) T4 n2
  have N2 := N1.trans (n2.mono N1.size)
  have z2 := n2.size
  have lt6 := there_lt (by omega) T6
  clear N1 n2 A3 TT1 CC1 ZP1 T6
  have ZP2 := ZP.up N2
  go_upto_region 3 with fail
  refine region_newG 94 3 2 1 7 20 4 _ (fun i => [EN [0, 1], AG (fun t => Ext t (0, 1)), NB W2 20].getD i Fact.no) (fun t => Ext t (0, 1)) (fun t ht => ht.len) (by kernel_rfl) rfl rfl rfl iX (by decide) (by decide) (by kernel_rfl) (by kernel_rfl) rfl rfl ?_ ?_
  · intro i hi
    obtain rfl | rfl | rfl : i = 0 ∨ i = 1 ∨ i = 2 := by omega
    · exact step_glA rfl 0 rfl _ _ ZP2 rfl
    · exact step_extG _ rfl 19 0 0 1 (fun _ h => h) rfl (by kernel_rfl) rfl rfl
    · exact step_newX rfl rfl rfl
  intro vs3 q7 _ W3 hq7 _ lq7 n3 R7 T7
  simp only [puts, hq7, Act.put, List.setIfInBounds_toArray, List.set_cons_succ, List.set_cons_zero]
  have I0 : ScI w W3 q2 q4 q5 q6 q7 (hdd v 0) U (X, Y) := ⟨N2.trans (n3.mono N2.size), R2.up n3, there_up (by omega) T4 n3, R5.up n3, R6.up n3, T7, by rw [hdd_zero v256]; exact R7⟩
  have h2 : q2 ≠ q7 := by omega
  have h5 : q5 ≠ q7 := by omega
  have h6 : q6 ≠ q7 := by omega
  have l7 : w.heap.size ≤ q7 := by have := N2.size; omega
  clear N2 n3 R2 R5 R6 R7 T4 T7 ZP2 lt2 lt4 lt5 lt6 z1 z2 lq5 lq6 lq7
  go_wp2
  go_loopw [21] (fun i wr => ∃ k : Nat, k ≤ 64 ∧ i = .int .i64 k ∧ ScI w wr q2 q4 q5 q6 q7 (hdd v k) U (X, Y)) (fun i _ => 64 - (intOf i).toNat)
  case atStart => exact ⟨0, by omega, rfl, I0⟩
  case round =>
    clear I0
    obtain ⟨k, hk, rfl, I⟩ := hrel
    by_cases hlt : k < 64
    · have k5 : (k : Int) < 64 := by omega
      have d16 : v / 16 ^ (63 - k) % 16 < 16 := Nat.mod_lt _ (by omega)
      have HN := hide (hdd_next v hlt)
      have HD := hide (show dgt v k = v / 16 ^ (63 - k) % 16 from rfl)
      go_upto_region 7 with fail
      refine region_newG 94 6 5 4 9 28 4 _ (fun i => [Fact.eq (.agg (cU U).toArray), Fact.eq (.int .i64 (k : Int)), Fact.eq (.int .i64 ((63 - k : Nat) : Int)), Fact.eq (.int .u64 ((v / 16 ^ (63 - k) % 16 : Nat) : Int)), AG (fun t => Ext t (mlP (v / 16 ^ (63 - k) % 16) (X, Y))), NB wr 20].getD i Fact.no) (fun t => Ext t (mlP (v / 16 ^ (63 - k) % 16) (X, Y))) (fun t ht => ht.len) (by kernel_rfl) rfl rfl rfl iX (by decide) (by decide) (by kernel_rfl) (by kernel_rfl) rfl rfl ?_ ?_
      · intro i hi
        obtain rfl | rfl | rfl | rfl | rfl | rfl : i = 0 ∨ i = 1 ∨ i = 2 ∨ i = 3 ∨ i = 4 ∨ i = 5 := by omega
        · exact step_lV 55 _ (cU U) Tryd.underlying55 rfl info55 rfl 2 rfl (by kernel_rfl) _ rfl I.r2 rfl
        · exact step_mv rfl 8 rfl (by kernel_rfl) rfl rfl
        · exact step_sub63 rfl 25 1 k hlt rfl (by kernel_rfl) rfl rfl
        · exact step_dig U hU hv (63 - k) (by omega) rfl 24 26 0 2 rfl (by kernel_rfl) (by kernel_rfl) rfl rfl rfl
        · exact step_at (X, Y) q6 _ d16 I.r6 rfl 6 27 3 rfl (by kernel_rfl) rfl (by kernel_rfl) rfl rfl
        · exact step_newX rfl rfl rfl
      intro vs4 q9 _ W4 hq9 _ lq9 n4 R9 _
      simp only [puts, hq9, Act.put, List.setIfInBounds_toArray, List.set_cons_succ, List.set_cons_zero]
      have h9 : q9 ≠ q7 := by have := there_lt (by omega) I.t7; omega
      replace I := I.up n4
      clear n4 lq9
      rw [← HD.out] at R9
      clear HD d16
      obtain ⟨d, hd⟩ : ∃ d, d = dgt v k := ⟨_, rfl⟩
      obtain ⟨h, hh⟩ : ∃ h, h = hdd v k := ⟨_, rfl⟩
      rw [← hd] at R9 HN
      rw [← hh] at I HN
      clear hd hh
      go_upto_region 8 with fail
      refine region_end 2 (fun i => [Fact.eq (.agg cF.toArray), Fact.eq (.int .i64 0)].getD i Fact.no) (by kernel_rfl) (by kernel_rfl) rfl ?_ ?_
      · intro i hi
        obtain rfl | rfl : i = 0 ∨ i = 1 := by omega
        · exact step_lV 95 _ cF Tryd.underlying95 rfl info95 rfl 5 rfl (by kernel_rfl) _ rfl I.r5 rfl
        · exact step_const0 rfl _ rfl rfl
      intro a5 W5 hb5 n5 hF5
      have e29 := hF5 0 29 (by kernel_rfl)
      have e30 := hF5 1 30 (by kernel_rfl)
      obtain ⟨vs5, hvs5⟩ : ∃ vs : Nat → Value, ∀ d, a5.tmps.getD d undef = vs d := ⟨_, fun _ => rfl⟩
      rw [hvs5] at e29 e30
      rw [puts_of (md := .any) (k := 2) (by kernel_rfl) rfl hb5 vs5 hvs5]
      have e29' : vs5 29 = .agg cF.toArray := e29
      have e30' : vs5 30 = .int .i64 0 := e30
      simp only [puts, e29', e30', Act.put, List.setIfInBounds_toArray, List.set_cons_succ, List.set_cons_zero]
      clear hF5 hb5 hvs5 e29 e30 e29' e30'
      replace I := I.up n5
      replace R9 := R9.up n5
      clear n5
      have IX := fun (i : Nat) (hi : i < 5) (w : World) => idxF w i hi
      obtain ⟨aF, haF⟩ : ∃ a, a = Value.agg cF.toArray := ⟨_, rfl⟩
      rw [← haF] at IX ⊢
      clear haF
      have I1 : ScI w W5 q2 q4 q5 q6 q7 (stN h d 0) U (X, Y) := by
        have e : stN h d 0 = h := by simp [stN]
        rw [e]
        exact I
      clear I
      go_wp2
      go_loopw [30] (fun i wr => ∃ j : Nat, j ≤ 5 ∧ i = .int .i64 j ∧ ScI w wr q2 q4 q5 q6 q7 (stN h d j) U (X, Y) ∧ RowG wr q9 0 (fun t => Ext t (mlP d (X, Y)))) (fun i _ => 5 - (intOf i).toNat)
      case atStart => exact ⟨0, by omega, rfl, I1, R9⟩
      case round =>
        clear I1 R9
        obtain ⟨j, hj, rfl, I2, R9'⟩ := hrel
        have TT2 := TT.up I2.n
        have CC2 := CC.up I2.n
        by_cases hj5 : j < 5
        · have j5 : (j : Int) < 5 := by omega
          have IXj := IX j hj5
          by_cases hj4 : j < 4
          · have ef : fV j = fD := if_pos hj4
            rw [ef] at IXj
            clear ef IX
            go_upto_region 11 with fail
            clear IXj
            refine region_putG 94 4 3 7 36 4 q7 0 _ (fun i => [Fact.eq fD, AG (fun t => Ext t (mlP (stN h d j) (X, Y))), AG (fun t => Ext t (mlP d (X, Y))), AG (fun t => Ext t (mlP (stN h d (j + 1)) (X, Y)))].getD i Fact.no) (fun t => Ext t (mlP (stN h d (j + 1)) (X, Y))) (fun t ht => ht.len) (by omega) (by kernel_rfl) rfl rfl rfl iX I2.t7 (fun a W hb _ => based_at hb 7 (by kernel_rfl)) (by decide) (by kernel_rfl) rfl ?_ ?_
            · intro i hi
              obtain rfl | rfl | rfl | rfl : i = 0 ∨ i = 1 ∨ i = 2 ∨ i = 3 := by omega
              · exact step_mv rfl 11 rfl (by kernel_rfl) rfl rfl
              · exact step_lG 94 _ 4 _ (fun t ht => ht.len) Tryd.underlying94 rfl iX rfl 7 rfl (by kernel_rfl) _ _ rfl I2.r7 rfl
              · exact step_lG 94 _ 4 _ (fun t ht => ht.len) Tryd.underlying94 rfl iX rfl 9 rfl (by kernel_rfl) _ _ rfl R9' rfl
              · exact step_dblV TT2 (mlP (stN h d j) (X, Y)) (mlP d (X, Y)) _ (mlP_on hp _) (fun t ht => ht.cg (stN_next hp h d j hj4)) rfl 33 34 35 0 1 2 rfl (by kernel_rfl) (by kernel_rfl) (by kernel_rfl) rfl rfl rfl rfl
            intro vs6 W6 es he n6
            have HH := hide (show ScI w (W6.setCells q7 0 (clN es)) q2 q4 q5 q6 q7 (stN h d (j + 1)) U (X, Y) ∧ RowG (W6.setCells q7 0 (clN es)) q9 0 (fun t => Ext t (mlP d (X, Y))) from ⟨I2.put n6 l7 h2 h5 h6 he, R9'.but (but_setO n6 _ _) h9⟩)
            generalize W6.setCells q7 0 (clN es) = W7 at *
            simp only [puts, Act.put, List.setIfInBounds_toArray, List.set_cons_succ, List.set_cons_zero]
            clear I2 R9' n6 TT2 CC2
            go_wp2
            go_roundw
            case rel => exact ⟨j + 1, by omega, by go_num, HH.out.1, HH.out.2⟩
            case measure => simp [intOf]; omega
          · have J4 := hide (show j = 4 by omega)
            have ef : fV j = fA := if_neg hj4
            rw [ef] at IXj
            clear ef IX
            go_upto_region 11 with fail
            clear IXj
            refine region_putG 94 4 3 7 36 4 q7 0 _ (fun i => [Fact.eq fA, AG (fun t => Ext t (mlP (stN h d j) (X, Y))), AG (fun t => Ext t (mlP d (X, Y))), AG (fun t => Ext t (mlP (stN h d (j + 1)) (X, Y)))].getD i Fact.no) (fun t => Ext t (mlP (stN h d (j + 1)) (X, Y))) (fun t ht => ht.len) (by omega) (by kernel_rfl) rfl rfl rfl iX I2.t7 (fun a W hb _ => based_at hb 7 (by kernel_rfl)) (by decide) (by kernel_rfl) rfl ?_ ?_
            · intro i hi
              obtain rfl | rfl | rfl | rfl : i = 0 ∨ i = 1 ∨ i = 2 ∨ i = 3 := by omega
              · exact step_mv rfl 11 rfl (by kernel_rfl) rfl rfl
              · exact step_lG 94 _ 4 _ (fun t ht => ht.len) Tryd.underlying94 rfl iX rfl 7 rfl (by kernel_rfl) _ _ rfl I2.r7 rfl
              · exact step_lG 94 _ 4 _ (fun t ht => ht.len) Tryd.underlying94 rfl iX rfl 9 rfl (by kernel_rfl) _ _ rfl R9' rfl
              · exact step_addV hD TT2 CC2 (mlP (stN h d j) (X, Y)) (mlP d (X, Y)) _ (mlP_on hp _) (mlP_on hp _) (fun t ht => ht.cg (by rw [J4.out]; exact stN_last hp h d)) rfl 33 34 35 0 1 2 rfl (by kernel_rfl) (by kernel_rfl) (by kernel_rfl) rfl rfl rfl rfl
            intro vs6 W6 es he n6
            have HH := hide (show ScI w (W6.setCells q7 0 (clN es)) q2 q4 q5 q6 q7 (stN h d (j + 1)) U (X, Y) ∧ RowG (W6.setCells q7 0 (clN es)) q9 0 (fun t => Ext t (mlP d (X, Y))) from ⟨I2.put n6 l7 h2 h5 h6 he, R9'.but (but_setO n6 _ _) h9⟩)
            generalize W6.setCells q7 0 (clN es) = W7 at *
            simp only [puts, Act.put, List.setIfInBounds_toArray, List.set_cons_succ, List.set_cons_zero]
            clear I2 R9' n6 TT2 CC2
            go_wp2
            go_roundw
            case rel => exact ⟨j + 1, by omega, by go_num, HH.out.1, HH.out.2⟩
            case measure => simp [intOf]; omega
        · obtain rfl : j = 5 := by omega
          have HH := hide (show ScI w wr q2 q4 q5 q6 q7 (hdd v (k + 1)) U (X, Y) from by
            rw [HN.out]
            exact I2)
          clear I2 R9' TT2 CC2 IX
          go_wp2
          go_roundw
          case rel => exact ⟨k + 1, by omega, by go_num, HH.out⟩
          case measure => simp [intOf]; omega
    · obtain rfl : k = 64 := by omega
      rw [hdd_all] at I
      have SS2 := SS.up I.n
      have II2 := II.up I.n
      obtain ⟨es, re, le, X1, Y1, Z1, T1, hN, hX⟩ := I.r7
      have RN : RowN wr q7 0 [X1, Y1, Z1] := RowN.init (As := [T1]) ⟨es, re, le, hN⟩
      have PL := hide (pj_plain hX.pj)
      go_upto_region 14 with fail
      refine region_putN 51 3 2 4 41 _ (fun i => [Fact.eq (.pointer (some ⟨q7, 0, none⟩)), EN [X1, Y1, Z1], EN [X1 * Z1 ^ eInv, Y1 * Z1 ^ eInv]].getD i Fact.no) [X1 * Z1 ^ eInv, Y1 * Z1 ^ eInv] _ (by kernel_rfl) rfl rfl rfl iA (by simp) (by kernel_rfl) rfl I.t4 (by kernel_rfl) rfl ?_ ?_
      · intro i hi
        obtain rfl | rfl | rfl : i = 0 ∨ i = 1 ∨ i = 2 := by omega
        · exact step_fld rfl 94 7 0 rfl (by kernel_rfl) _ _ rfl (fpX _) rfl
        · exact step_lJf rfl 39 0 rfl (by kernel_rfl) _ rfl _ _ _ RN rfl
        · exact step_aff SS2 II2 rfl 40 1 _ _ _ rfl (by kernel_rfl) rfl rfl
      intro vsL Wa Wb na bq RL nb TL
      have NS := nb w w.heap.size (I.n.trans (na.mono I.n.size)) l4
      simp only [puts, Act.put, List.setIfInBounds_toArray, List.set_cons_succ, List.set_cons_zero]
      clear bq nb na TL I SS2 II2 RN re
      go_wp2
      obtain ⟨ts, rg, _, ht⟩ := RL
      have lz := clN_len ht
      obtain ⟨fs, hfs⟩ := uA
      exact bodyPost_ret (v := agN ts) (results_cell_mid Tryd.results30 _ _ q4 (clN ts) _ rfl rg hfs rfl (by rw [lz]; exact iA)) rfl ⟨⟨ts, _, _, rfl, ht, PL.out.1, PL.out.2⟩, NS⟩
end Go.Proofs.YtnaaanefndeafaaDoor
