import Derived.Test.YtnaaanefndeafaaDoorGP51
import Derived.Test.YtnaaanefndeafaaDoorDr
import Derived.Test.YtnaaanefndeafaaDoorGP49
import Derived.Deep.QuietTactic
import Derived.BigQuiet
import Derived.Test.YtnaaanefndeafaaDoorGP46
import Derived.Test.YtnaaanefndeafaaDoorS2
import Derived.Deep.RegionHeld3
import Derived.Test.YtnaaanefndeafaaDoorGP47

/-
  The model's PointBase.
-/
namespace Go.Proofs.YtnaaanefndeafaaDoor
set_option maxRecDepth 100000
open Go Go.RowKit

set_option maxHeartbeats 2000000 in
theorem specBase_any (w : World) : Calls Tryd.prog 34 #[] w fun r w' => NewPt w.heap.size w' r (liX (4 * iv 5) false) (liY (4 * iv 5) false) ∧ Below w.heap.size w w' := by
  have TZ : Two (w.alloc pObj) w.heap.size (.slice none 0 0) (.slice none 0 0) := Two.new w (.slice none 0 0) (.slice none 0 0) 26
  have N : Below w.heap.size w (w.alloc pObj) := (Below.refl _ _).alloc (Nat.le_refl _) _
  go_enter Tryd.func34, Tryd.ntmps34
  go_upto_region 1 with fail
  change Code.wp _ _ _ _ (w.alloc pObj)
  generalize w.alloc pObj = wr at *
  go_wp2_with fail
  refine (l2SmallB_any wr 4 (by omega)).mono ?_
  rintro r w1 ⟨t4, rfl, L4, V4, n⟩
  replace TZ := TZ.up n
  replace N := nxt N n
  clear n
  go_wp2_with fail
  refine (l2SmallB_any w1 5 (by omega)).mono ?_
  rintro r w2 ⟨t5, rfl, L5, V5, n⟩
  replace TZ := TZ.up n
  replace N := nxt N n
  clear n
  go_wp2_with fail
  refine (l2Inv_any w2 t5 L5).mono ?_
  rintro r w3 ⟨t6, rfl, L6, V6, n⟩
  replace TZ := TZ.up n
  replace N := nxt N n
  clear n
  go_wp2_with fail
  refine (l2Mul_any w3 t4 t6 L4 L6).mono ?_
  rintro r w4 ⟨t7, rfl, L7, V7, n⟩
  replace TZ := TZ.up n
  replace N := nxt N n
  clear n
  have V : s16 t7 16 % PP = 4 * iv 5 % PP := by
    rw [V7]
    exact mod_mul V4 (V6.trans (pow_mod V5 _))
  have z4 := TZ.lt
  have LF := hide (l5Lift_any w4 t7 (4 * iv 5) ⟨L7, V⟩ false)
  clear V4 V5 V6 V7 V L4 L5 L6 L7
  obtain ⟨X, hX⟩ : ∃ X, X = liX (4 * iv 5) false := ⟨_, rfl⟩
  obtain ⟨Y, hY⟩ : ∃ Y, Y = liY (4 * iv 5) false := ⟨_, rfl⟩
  rw [← hX, ← hY] at LF
  have KX := hide hX
  have KY := hide hY
  clear hX hY
  generalize liB (4 * iv 5) false = bb at *
  go_wp2_with fail
  refine LF.out.mono ?_
  rintro r w5 ⟨⟨a1, a2, c1, c2, g1, g2, rfl, o1, o2, l1, l2⟩, n⟩
  replace TZ := TZ.up n
  have z := N.size
  have zz := TZ.lt
  replace N := nxt N n
  clear n LF
  have TN := Two.new w5 (.slice a1 X.length c1) (.slice a2 Y.length c2) 26
  have m : Below w5.heap.size w5 (w5.alloc (.cells #[.slice a1 X.length c1, .slice a2 Y.length c2] 26)) := (Below.refl _ _).alloc (Nat.le_refl _) _
  go_upto_region 2 with fail
  generalize w5.alloc (.cells #[.slice a1 X.length c1, .slice a2 Y.length c2] 26) = w6 at *
  obtain ⟨p0, p1, _, _⟩ := TN
  obtain ⟨y0, y1, f0, f1⟩ := TZ.up m
  replace N := nxt N m
  replace o1 := o1.up m
  replace o2 := o2.up m
  have O := (Only.setCell w6 w.heap.size 0 (.slice a1 X.length c1)).trans (Only.setCell _ w.heap.size 1 (.slice a2 Y.length c2))
  have o1' := o1.only O (fun _ => by omega)
  have o2' := o2.only O (fun _ => by omega)
  have N' := N.trans (O.below (Nat.le_refl _))
  clear TZ m o1 o2 O N
  go_wp2
  refine bodyPost_ret (v := .agg #[.slice a1 X.length c1, .slice a2 Y.length c2]) (by simp [results, Tryd.results34, go_sem, y0, y1]) rfl ⟨?_, N'⟩
  rw [← KX.out, ← KY.out]
  exact ⟨a1, a2, c1, c2, g1, g2, rfl, o1', o2', by omega, by omega⟩
end Go.Proofs.YtnaaanefndeafaaDoor

/-
  The model's PointDecode.
-/
namespace Go.Proofs.YtnaaanefndeafaaDoor
set_option maxRecDepth 100000
open Go Go.RowKit

def low7s (xs : List Int) : List Int := xs.set 31 (xs.getD 31 0 % 128)
def dcB (xs : List Int) : Bool := decide (xs.length = 32) && (canN (low7s xs) && liB (num (low7s xs)) (decide (128 ≤ xs.getD 31 0)))
def dcX (xs : List Int) : List Int := if dcB xs = true then liX (num (low7s xs)) (decide (128 ≤ xs.getD 31 0)) else []
def dcY (xs : List Int) : List Int := if dcB xs = true then liY (num (low7s xs)) (decide (128 ≤ xs.getD 31 0)) else []
def NewPR (B : Nat) (w' : World) (e : Ending) (b : Bool) (xs ys : List Int) : Prop :=
  ∃ (a a' : Option Addr) (c c' g g' : Nat), e = .returned (.agg #[.bool b, .slice a xs.length c, .slice a' ys.length c']) ∧ Own w' g a .u8 xs ∧ Own w' g' a' .u8 ys ∧ B ≤ g ∧ B ≤ g'
theorem newPR_nil {B : Nat} {w : World} : NewPR B w (.returned (.agg #[.bool false, .slice none 0 0, .slice none 0 0])) false [] [] := ⟨none, none, 0, 0, B, B, rfl, Own.nil _ _ _ _, Own.nil _ _ _ _, Nat.le_refl _, Nat.le_refl _⟩
theorem li_nil {A : Int} {odd : Bool} (h : liB A odd = false) : liX A odd = [] ∧ liY A odd = [] := by
  unfold liX liY
  rw [if_neg (by rw [h]; simp), if_neg (by rw [h]; simp)]
  exact ⟨rfl, rfl⟩
/-- What was lifted, as it is answered. -/
def LiF (w0 : World) (A : Int) (odd : Bool) : Fact := ⟨fun v w => ∃ (a a' : Option Addr) (c c' g g' : Nat), v = .tuple #[.bool (liB A odd), .agg #[.slice a (liX A odd).length c, .slice a' (liY A odd).length c']] ∧ Own w g a .u8 (liX A odd) ∧ Own w g' a' .u8 (liY A odd) ∧ w0.heap.size ≤ g ∧ w0.heap.size ≤ g', fun n h => by
  obtain ⟨a, a', c, c', g, g', e, o, o', q⟩ := h
  exact ⟨a, a', c, c', g, g', e, o.up n, o'.up n, q⟩⟩
/-- A point's block made in the region, still empty. -/
def NBp (w0 : World) : Fact := ⟨fun v w => ∃ q, v = .pointer (some ⟨q, 0, none⟩) ∧ w.heap[q]? = some pObj ∧ w0.heap.size ≤ q, fun {v w w'} n h => by
  obtain ⟨q, e, h, l⟩ := h
  exact ⟨q, e, (n.block q (Array.getElem?_eq_some_iff.1 h).1).trans h, l⟩⟩
theorem pObj_there {W : World} {q : Nat} (h : W.heap[q]? = some pObj) : W.there q 0 2 := fun j hj => by
  constructor
  · unfold World.cell?
    simp only
    rw [h]
    obtain rfl | rfl : j = 0 ∨ j = 1 := by omega
    all_goals rfl
  · unfold World.frozen?
    simp only
    rw [h]
    simp
theorem own_ne {W : World} {q g : Nat} {a : Option Addr} {xs : List Int} (h : W.heap[q]? = some pObj) (o : Own W g a .u8 xs) (h0 : 0 < xs.length) : g ≠ q := fun e => by
  obtain ⟨off, _, hc⟩ := o h0
  have c := (hc 0 h0).1
  subst e
  unfold World.cell? at c
  simp only at c
  rw [h] at c
  rcases (show off = 0 ∨ off = 1 ∨ 2 ≤ off by omega) with r | r | r
  · subst r
    simp at c
  · subst r
    simp at c
  · have : ([Value.slice none 0 0, .slice none 0 0].toArray)[off + 0]? = none := by simp; omega
    simp only [this] at c
    simp at c
theorem en_lift : enters Tryd.prog 51 = true := by kernel_rfl
section
variable {ops : Array Oper} {Q : Exit → Act → World → Prop} {md : Region.Mode} {F : Nat → Fact} {a0 : Act} {w0 : World} {i : Nat} {o : Oper} {ts : Array TypeId}
theorem step_mvp {P : Program} (hi : ops[i]? = some o) (p : Nat) (hop : o.op = .move (.tmp p)) (hp : apart ops p = true) {v : Value} (h0 : a0.tmps.getD p undef = v) (hF : F i = Fact.eq v) : StepOk P md ops Q F a0 w0 i := by
  refine step_pure hi fun b w hb hw _ => ⟨v, ?_, by rw [hF]; exact rfl⟩
  have e := (based_at hb p hp).trans h0
  simp [execOp, hop, e]
theorem step_of32 (hi : ops[i]? = some o) (p j : Nat) {a : Option Addr} {c : Nat} {xs : List Int} (hop : o.op = .call { callee := .value (.func 52), args := #[.tmp p], argTypes := ts })
    (hj : waits md ops i j p = true) (hO : OfOk w0 a xs) (hFj : F j = Fact.eq (.slice a 32 c)) (hFi : F i = EL (num xs)) : StepOk Tryd.prog md ops Q F a0 w0 i := by
  have hl : xs.length = 32 := by obtain ⟨_, _, _, h⟩ := hO; exact h
  exact step_of hi p j hop hj hO (hFj.trans (by rw [hl])) hFi
theorem step_at31 (hi : ops[i]? = some o) (p j : Nat) {g off c : Nat} (hop : o.op = .indexAddr 22 (.tmp p) (.const (.int .i64 31))) (hj : waits md ops i j p = true) (hFj : F j = Fact.eq (.slice (some ⟨g, off, none⟩) 32 c)) (hF : F i = Fact.eq (.pointer (some ⟨g, off + 31, none⟩))) : StepOk Tryd.prog md ops Q F a0 w0 i := by
  refine step_pure hi fun a w hb hw hf => ⟨.pointer (some ⟨g, off + 31, none⟩), ?_, by rw [hF]; exact rfl⟩
  have e := hf j p hj
  rw [hFj] at e
  have e' : a.eval (.tmp p) = .slice (some ⟨g, off, none⟩) 32 c := e
  have e2 : a.eval (.const (.int .i64 31)) = .int .i64 31 := rfl
  simp only [execOp, hop, e', e2]
  go_simp
theorem step_ld8 (hi : ops[i]? = some o) (p j : Nat) {q off : Nat} {v : Value} (hop : o.op = .load 5 (.tmp p)) (hj : waits md ops i j p = true) (hFj : F j = Fact.eq (.pointer (some ⟨q, off, none⟩))) (hc : w0.cell? ⟨q, off, none⟩ = some v) (hF : F i = Fact.eq v) : StepOk Tryd.prog md ops Q F a0 w0 i := by
  refine step_pure hi fun a w _ hw hf => ⟨v, ?_, by rw [hF]; exact rfl⟩
  have e := hf j p hj
  rw [hFj] at e
  have e' : a.eval (.tmp p) = .pointer (some ⟨q, off, none⟩) := e
  have c' : w.cell? ⟨q, off, none⟩ = some v := (hw.cell (block_lt_of_cell hc)).trans hc
  simp only [execOp, hop, e']
  go_simp
theorem step_geq (hi : ops[i]? = some o) (p j : Nat) {v : Int} {b : Bool} (hop : o.op = .binOp .geq 5 (.tmp p) (.const (.int .u8 128)) 5) (hj : waits md ops i j p = true) (hFj : F j = Fact.eq (.int .u8 v)) (hb : b = decide (128 ≤ v)) (hF : F i = Fact.eq (.bool b)) : StepOk Tryd.prog md ops Q F a0 w0 i := by
  refine step_pure hi fun a w _ hw hf => ⟨.bool b, ?_, by rw [hF]; exact rfl⟩
  have e := hf j p hj
  rw [hFj] at e
  have e' : a.eval (.tmp p) = .int .u8 v := e
  have e2 : a.eval (.const (.int .u8 128)) = .int .u8 128 := rfl
  subst hb
  simp only [execOp, hop, e', e2]
  go_simp
theorem step_lift (hi : ops[i]? = some o) (p q j k : Nat) {A : Int} {odd : Bool} (hop : o.op = .call { callee := .value (.func 51), args := #[.tmp p, .tmp q], argTypes := ts })
    (hj : waits md ops i j p = true) (hk : waits md ops i k q = true) (hFj : F j = EL A) (hFk : F k = Fact.eq (.bool odd)) (hFi : F i = LiF w0 A odd) : StepOk Tryd.prog md ops Q F a0 w0 i := by
  refine step_call hi _ _ ts hop en_lift fun a w _ hw hF => ?_
  have ea := hF j p hj
  have eb := hF k q hk
  rw [hFj] at ea
  rw [hFk] at eb
  obtain ⟨t, e1, L1, V1⟩ := ea
  have e2 : a.tmps.getD q undef = .bool odd := eb
  show Calls Tryd.prog 51 #[a.tmps.getD p undef, a.tmps.getD q undef] w _
  rw [e1, e2]
  refine (l5Lift_any w t A ⟨L1, V1⟩ odd).mono ?_
  rintro r w' ⟨⟨b, b', c, c', g, g', rfl, o1, o2, l1, l2⟩, hn⟩
  rw [hFi]
  exact ⟨_, rfl, hn, b, b', c, c', g, g', rfl, o1, o2, Nat.le_trans hw.size l1, Nat.le_trans hw.size l2⟩
theorem step_exL0 {P : Program} (hi : ops[i]? = some o) (p j : Nat) {A : Int} {odd : Bool} (hop : o.op = .extract (.tmp p) 0) (hj : waits md ops i j p = true) (hFj : F j = LiF w0 A odd) (hFi : F i = Fact.eq (.bool (liB A odd))) : StepOk P md ops Q F a0 w0 i := by
  refine step_pure hi fun a w _ _ hf => ⟨.bool (liB A odd), ?_, by rw [hFi]; exact rfl⟩
  have e := hf j p hj
  rw [hFj] at e
  obtain ⟨b, b', c, c', g, g', e, _⟩ := e
  have e' : a.eval (.tmp p) = .tuple #[.bool (liB A odd), .agg #[.slice b (liX A odd).length c, .slice b' (liY A odd).length c']] := e
  simp only [execOp, hop, e']
  rfl
theorem step_exL1 {P : Program} (hi : ops[i]? = some o) (p j : Nat) {A : Int} {odd : Bool} (hop : o.op = .extract (.tmp p) 1) (hj : waits md ops i j p = true) (hFj : F j = LiF w0 A odd) (hFi : F i = PT w0 (fun xs zs => xs = liX A odd ∧ zs = liY A odd)) : StepOk P md ops Q F a0 w0 i := by
  refine step_pure hi fun a w _ _ hf => ?_
  have e := hf j p hj
  rw [hFj] at e
  obtain ⟨b, b', c, c', g, g', e, o1, o2, l1, l2⟩ := e
  have e' : a.eval (.tmp p) = .tuple #[.bool (liB A odd), .agg #[.slice b (liX A odd).length c, .slice b' (liY A odd).length c']] := e
  refine ⟨.agg #[.slice b (liX A odd).length c, .slice b' (liY A odd).length c'], ?_, by rw [hFi]; exact ⟨_, _, b, b', c, c', g, g', rfl, o1, o2, l1, l2, rfl, rfl⟩⟩
  simp only [execOp, hop, e']
  rfl
theorem step_newP (hi : ops[i]? = some o) (hop : o.op = .alloc 26) (hF : F i = NBp w0) : StepOk Tryd.prog md ops Q F a0 w0 i := by
  refine step_grow hi fun a w _ hw _ => ⟨.pointer (some ⟨w.heap.size, 0, none⟩), w.alloc pObj, ?_, (Below.refl _ _).alloc (Nat.le_refl _) _, ?_⟩
  · simp only [execOp, hop]
    kernel_rfl
  · rw [hF]
    exact ⟨_, rfl, heap_alloc_last _ _, hw.size⟩
end
section
variable {ops : Array Oper} {Q : Exit → Act → World → Prop} {a0 : Act} {w : World} {id : Nat} {draw : Bool}
/-- A region that makes a point's block and lays one there. -/
theorem region_newPF (k jA jV pA pV : Nat) (o : Oper) (F : Nat → Fact) (p : List Int → List Int → Prop) (hT : textOk .any ops a0.tmps.size k = true) (hk : ops[k]? = some o) (hd : o.dst = none) (hop : o.op = .store 26 (.tmp pA) (.tmp pV))
    (wA : writes ops jA pA = true) (wV : writes ops jV pV = true) (FA : F jA = NBp w) (FV : F jV = PT w p) (steps : ∀ i, i < k → StepOk Tryd.prog .any ops Q F a0 w i)
    (fin : ∀ (vs : Nat → Value) (q : Nat) (W : World) (xs ys : List Int) (a a' : Option Addr) (c c' g g' : Nat), vs pA = .pointer (some ⟨q, 0, none⟩) → w.heap.size ≤ q → Below w.heap.size w W → W.rangeAt q 0 [.slice a xs.length c, .slice a' ys.length c'] → W.there q 0 2 → Own W g a .u8 xs → Own W g' a' .u8 ys → w.heap.size ≤ g → w.heap.size ≤ g' → p xs ys → (∀ i d, writes ops i d = true → ∃ Wp, (F i).p (vs d) Wp) → Q .normal (puts vs a0 ops.toList) W) :
    (Code.region id ops draw).wp Tryd.prog Q a0 w := by
  refine region_store k o F (by kernel_rfl) hT hk hd steps fun a W hb hw hF => ?_
  have h1 := hF jA pA wA
  have h2 := hF jV pV wV
  rw [FA] at h1
  rw [FV] at h2
  obtain ⟨q, eq, hq, lq⟩ := h1
  obtain ⟨xs, ys, b, b', c, c', g, g', ev, o1, o2, l1, l2, hpp⟩ := h2
  have th := pObj_there hq
  refine wp_store_mid 26 (.tmp pA) (.tmp pV) hop q 0 #[.slice b xs.length c, .slice b' ys.length c'] eq ev th iP (by simp [Value.oneCell']) ?_
  obtain ⟨vs, hvs⟩ : ∃ vs : Nat → Value, ∀ d, a.tmps.getD d undef = vs d := ⟨_, fun _ => rfl⟩
  rw [hd]
  show Q .normal a _
  rw [puts_of hT rfl hb vs hvs]
  refine fin vs q _ xs ys b b' c c' g g' ((hvs pA).symm.trans eq) lq (below_setCells lq _ _ _ hw) (World.rangeAt_setCells_same W q 0 _ th) (World.there_setCells th _ _ _) ?_ ?_ l1 l2 hpp (fun i d h => ⟨W, by rw [← hvs]; exact hF i d h⟩)
  · exact fun h0 => o1.of_block (setCells_other (own_ne hq o1 h0) _ 0 W) h0
  · exact fun h0 => o2.of_block (setCells_other (own_ne hq o2 h0) _ 0 W) h0
end
/-- Three cells that may be written. -/
structure Tri (w : World) (p : Nat) (x y z : Value) : Prop where
  c0 : w.cell? ⟨p, 0, none⟩ = some x
  c1 : w.cell? ⟨p, 1, none⟩ = some y
  c2 : w.cell? ⟨p, 2, none⟩ = some z
  f0 : w.frozen? ⟨p, 0, none⟩ = false
  f1 : w.frozen? ⟨p, 1, none⟩ = false
  f2 : w.frozen? ⟨p, 2, none⟩ = false
theorem Tri.lt {w : World} {p : Nat} {x y z : Value} (h : Tri w p x y z) : p < w.heap.size := block_lt_of_cell h.c0
theorem Tri.up {w w' : World} {p : Nat} {x y z : Value} (h : Tri w p x y z) (n : Below w.heap.size w w') : Tri w' p x y z := by
  have hb := n.block p h.lt
  exact ⟨(World.cell?_of_block (a := ⟨p, 0, none⟩) hb).trans h.c0, (World.cell?_of_block (a := ⟨p, 1, none⟩) hb).trans h.c1, (World.cell?_of_block (a := ⟨p, 2, none⟩) hb).trans h.c2, (World.frozen?_of_block (a := ⟨p, 0, none⟩) hb).trans h.f0, (World.frozen?_of_block (a := ⟨p, 1, none⟩) hb).trans h.f1, (World.frozen?_of_block (a := ⟨p, 2, none⟩) hb).trans h.f2⟩
theorem Tri.new (w : World) (x y z : Value) (t : TypeId) : Tri (w.alloc (.cells #[x, y, z] t)) w.heap.size x y z := by
  have e : (w.alloc (.cells #[x, y, z] t)).heap[w.heap.size]? = some (.cells #[x, y, z] t) := heap_alloc_last _ _
  refine ⟨?_, ?_, ?_, ?_, ?_, ?_⟩
  all_goals first
    | (unfold World.cell?; simp only; rw [e]; rfl)
    | (unfold World.frozen?; simp only; rw [e]; simp)
theorem low7s_len (xs : List Int) : (low7s xs).length = xs.length := by unfold low7s; simp
theorem low7s_byt {xs : List Int} (h : Byt xs) : Byt (low7s xs) := by
  intro j
  unfold low7s
  by_cases e : 31 = j
  · subst e
    by_cases c : 31 < xs.length
    · rw [getD_set_self _ _ _ c]
      have := h 31
      show 0 ≤ xs.getD 31 0 % 128 ∧ xs.getD 31 0 % 128 < 256
      omega
    · rw [List.set_eq_of_length_le (by omega)]
      exact h 31
  · rw [getD_set_ne _ _ _ _ e]
    exact h j
abbrev prObj : Obj := .cells #[.bool false, .slice none 0 0, .slice none 0 0] 37

set_option maxHeartbeats 2000000 in
theorem specDecode_any (w : World) (g : Nat) (a : Option Addr) (c : Nat) (xs : List Int) (hr : Rd w g a .u8 xs) (hb : Byt xs) (hc : a = none → c = 0) :
    Calls Tryd.prog 21 #[.slice a xs.length c] w fun r w' => NewPR w.heap.size w' r (dcB xs) (dcX xs) (dcY xs) ∧ Below w.heap.size w w' := by
  have TZ := Tri.new w (.bool false) (.slice none 0 0) (.slice none 0 0) 37
  have N : Below w.heap.size w (w.alloc prObj) := (Below.refl _ _).alloc (Nat.le_refl _) _
  by_cases hl : xs.length = 32
  · have CP := hide (fun W n => l1Copy_any W g a c xs (hr.up n) hc (by omega))
    have LH := hide hl
    have b31' := hb 31
    have DB : Hid (dcB xs = (canN (low7s xs) && liB (num (low7s xs)) (decide (128 ≤ xs.getD 31 0)))) := by show _ = _; unfold dcB; rw [decide_eq_true hl]; rfl
    have DX : Hid (dcX xs = if dcB xs = true then liX (num (low7s xs)) (decide (128 ≤ xs.getD 31 0)) else []) := by show _ = _; rfl
    have DY : Hid (dcY xs = if dcB xs = true then liY (num (low7s xs)) (decide (128 ≤ xs.getD 31 0)) else []) := by show _ = _; rfl
    obtain ⟨o0, rfl, rc⟩ := id hr (by omega)
    have CB0 := hide (rc 31 (by omega))
    have hg := hr.lt (by omega)
    rw [hl] at CP ⊢
    clear hl rc
    go_enter Tryd.func21, Tryd.ntmps21
    go_upto_region 3 with fail
    change Code.wp _ _ _ _ (w.alloc prObj)
    generalize w.alloc prObj = wr at *
    go_wp2_with fail
    refine (CP.out wr N).mono ?_
    rintro r w1 ⟨⟨a1, c1, g1, rfl, o1, p1, q1, r1⟩, n1⟩
    have z1 := TZ.lt
    replace TZ := TZ.up n1
    replace N := nxt N n1
    clear CP n1 p1
    rw [LH.out] at q1 ⊢
    obtain ⟨off, rfl, oc⟩ := id o1 (by rw [LH.out]; decide)
    have x31 := (oc 31 (by rw [LH.out]; decide)).1
    have f31 := (oc 31 (by rw [LH.out]; decide)).2
    have S1 := o1.store 31 (by rw [LH.out]; decide) (xs.getD 31 0 % 128)
    have N2 : Below w.heap.size w (w1.setCell ⟨g1, off + 31, none⟩ (.int .u8 (xs.getD 31 0 % 128))) := N.setCell (by show w.heap.size ≤ g1; omega) _
    have TZ2 : Tri (w1.setCell ⟨g1, off + 31, none⟩ (.int .u8 (xs.getD 31 0 % 128))) w.heap.size (.bool false) (.slice none 0 0) (.slice none 0 0) := by
      have hbk := heap_setCell_other w1 ⟨g1, off + 31, none⟩ w.heap.size (.int .u8 (xs.getD 31 0 % 128)) (by show w.heap.size ≠ g1; omega)
      exact ⟨(World.cell?_of_block (a := ⟨w.heap.size, 0, none⟩) hbk).trans TZ.c0, (World.cell?_of_block (a := ⟨w.heap.size, 1, none⟩) hbk).trans TZ.c1, (World.cell?_of_block (a := ⟨w.heap.size, 2, none⟩) hbk).trans TZ.c2, (World.frozen?_of_block (a := ⟨w.heap.size, 0, none⟩) hbk).trans TZ.f0, (World.frozen?_of_block (a := ⟨w.heap.size, 1, none⟩) hbk).trans TZ.f1, (World.frozen?_of_block (a := ⟨w.heap.size, 2, none⟩) hbk).trans TZ.f2⟩
    have YB := hide (low7s_byt hb)
    have YL := hide ((low7s_len xs).trans LH.out)
    have SO : Hid (Own (w1.setCell ⟨g1, off + 31, none⟩ (.int .u8 (xs.getD 31 0 % 128))) g1 (some ⟨g1, off, none⟩) .u8 (low7s xs)) := S1
    have CB : Hid ((w1.setCell ⟨g1, off + 31, none⟩ (.int .u8 (xs.getD 31 0 % 128))).cell? ⟨g, o0 + 31, none⟩ = some (.int .u8 (xs.getD 31 0))) := (N2.cell hg).trans CB0.out
    clear S1 o1 oc TZ N CB0 LH hb hr
    obtain ⟨ys, hys⟩ : ∃ ys, ys = low7s xs := ⟨_, rfl⟩
    rw [← hys] at YB YL SO DB DX DY
    clear hys
    obtain ⟨b31, h31⟩ : ∃ b, b = xs.getD 31 0 := ⟨_, rfl⟩
    rw [← h31] at x31 N2 TZ2 SO CB DB DX DY b31'
    clear h31
    obtain ⟨odd, hodd⟩ : ∃ o, o = decide (128 ≤ b31) := ⟨_, rfl⟩
    rw [← hodd] at DB DX DY
    have HO := hide hodd
    clear hodd
    have FC := hide (fun W (h : Rd W g1 (some ⟨g1, off, none⟩) .u8 ys) => specFieldCanonical_any W g1 (some ⟨g1, off, none⟩) c1 ys h YB.out)
    rw [YL.out] at FC
    cases hcn : canN ys with
    | false =>
      have KB : Hid (dcB xs = false) := by show _ = _; rw [DB.out, hcn]; rfl
      have KX : Hid (dcX xs = []) := by show _ = _; rw [DX.out, if_neg (by rw [KB.out]; simp)]
      have KY : Hid (dcY xs = []) := by show _ = _; rw [DY.out, if_neg (by rw [KB.out]; simp)]
      rw [hcn] at FC
      clear hcn DB DX DY CB
      go_wp2_with fail
      generalize w1.setCell ⟨g1, off + 31, none⟩ (.int .u8 (b31 % 128)) = w3 at *
      refine (FC.out w3 SO.out.rd).mono ?_
      rintro r w4 ⟨rfl, n⟩
      obtain ⟨y0, y1, y2, u0, u1, u2⟩ := TZ2.up n
      have N4 := nxt N2 n
      clear FC SO n TZ2 N2 x31 f31
      go_wp2
      refine bodyPost_ret (v := .agg #[.bool false, .slice none 0 0, .slice none 0 0]) (by simp [results, Tryd.results21, go_sem, y0, y1, y2]) rfl ⟨by rw [KB.out, KX.out, KY.out]; exact newPR_nil, ?_⟩
      exact ((N4.setCell (Nat.le_refl _) _).setCell (Nat.le_refl _) _).setCell (Nat.le_refl _) _
    | true =>
      rw [hcn] at DB FC
      clear hcn
      go_wp2_with fail
      generalize w1.setCell ⟨g1, off + 31, none⟩ (.int .u8 (b31 % 128)) = w3 at *
      refine (FC.out w3 SO.out.rd).mono ?_
      rintro r w4 ⟨rfl, n⟩
      have OY := hide (of_ok (SO.out.rd.up n) YB.out YL.out)
      replace CB := hide ((n.cell (block_lt_of_cell CB.out)).trans CB.out)
      replace TZ2 := TZ2.up n
      have N4 := nxt N2 n
      clear FC SO n N2 x31 f31
      go_upto_region 7 with fail
      refine region_newPF 12 10 9 5 31 _ (fun i => [Fact.eq (.slice (some ⟨g1, off, none⟩) 32 c1), EL (num ys), Fact.eq (.slice (some ⟨g, o0, none⟩) 32 c), Fact.eq (.pointer (some ⟨g, o0 + 31, none⟩)), Fact.eq (.int .u8 b31), Fact.eq (.bool odd), LiF w4 (num ys) odd, LiF w4 (num ys) odd, Fact.eq (.bool (liB (num ys) odd)), PT w4 (fun xs zs => xs = liX (num ys) odd ∧ zs = liY (num ys) odd), NBp w4, Fact.eq (.bool (liB (num ys) odd))].getD i Fact.no) (fun xs zs => xs = liX (num ys) odd ∧ zs = liY (num ys) odd) (by kernel_rfl) rfl rfl rfl (by kernel_rfl) (by kernel_rfl) rfl rfl ?_ ?_
      · intro i hi
        obtain rfl | rfl | rfl | rfl | rfl | rfl | rfl | rfl | rfl | rfl | rfl | rfl : i = 0 ∨ i = 1 ∨ i = 2 ∨ i = 3 ∨ i = 4 ∨ i = 5 ∨ i = 6 ∨ i = 7 ∨ i = 8 ∨ i = 9 ∨ i = 10 ∨ i = 11 := by omega
        · exact step_mvp rfl 3 rfl (by kernel_rfl) rfl rfl
        · exact step_of32 rfl 23 0 rfl (by kernel_rfl) OY.out rfl rfl
        · exact step_mvp rfl 0 rfl (by kernel_rfl) rfl rfl
        · exact step_at31 rfl 25 2 rfl (by kernel_rfl) rfl rfl
        · exact step_ld8 rfl 26 3 rfl (by kernel_rfl) rfl CB.out rfl
        · exact step_geq rfl 27 4 rfl (by kernel_rfl) rfl HO.out rfl
        · exact step_lift rfl 24 28 1 5 rfl (by kernel_rfl) (by kernel_rfl) rfl rfl rfl
        · exact step_move rfl 29 6 (by exact Or.inl rfl) (by kernel_rfl) rfl
        · exact step_exL0 rfl 22 7 rfl (by kernel_rfl) rfl rfl
        · exact step_exL1 rfl 22 7 rfl (by kernel_rfl) rfl rfl
        · exact step_newP rfl rfl rfl
        · exact step_move rfl 30 8 (by exact Or.inr rfl) (by kernel_rfl) rfl
      rintro vt q5 W7 ps qs b1 b2 d1 d2 h1 h2 v5 l5 n rg th o1 o2 l1 l2 ⟨rfl, rfl⟩ hF
      obtain ⟨_, v4⟩ := hF 11 4 (by kernel_rfl)
      clear hF
      change vt 4 = .bool (liB (num ys) odd) at v4
      have z4 := TZ2.lt
      replace TZ2 := TZ2.up n
      have z0 := N4.size
      replace N4 := nxt N4 n
      clear n OY CB th
      simp only [puts, v5, v4, Act.put, List.setIfInBounds_toArray, List.set_cons_succ, List.set_cons_zero]
      clear v4 v5
      have k0 := rg 0 _ rfl
      have k1 := rg 1 _ rfl
      simp only [Nat.zero_add] at k0 k1
      clear rg
      obtain ⟨y0, y1, y2, u0, u1, u2⟩ := TZ2
      cases hli : liB (num ys) odd with
      | false =>
        have KB : Hid (dcB xs = false) := by show _ = _; rw [DB.out, hli]; rfl
        have KX : Hid (dcX xs = []) := by show _ = _; rw [DX.out, if_neg (by rw [KB.out]; simp)]
        have KY : Hid (dcY xs = []) := by show _ = _; rw [DY.out, if_neg (by rw [KB.out]; simp)]
        clear DB DX DY o1 o2 hli
        go_wp2
        refine bodyPost_ret (v := .agg #[.bool false, .slice none 0 0, .slice none 0 0]) (by simp [results, Tryd.results21, go_sem, y0, y1, y2]) rfl ⟨by rw [KB.out, KX.out, KY.out]; exact newPR_nil, ?_⟩
        exact ((N4.setCell (Nat.le_refl _) _).setCell (Nat.le_refl _) _).setCell (Nat.le_refl _) _
      | true =>
        have KB : Hid (dcB xs = true) := by show _ = _; rw [DB.out, hli]; rfl
        have KX : Hid (dcX xs = liX (num ys) odd) := by show _ = _; rw [DX.out, if_pos KB.out]
        have KY : Hid (dcY xs = liY (num ys) odd) := by show _ = _; rw [DY.out, if_pos KB.out]
        clear DB DX DY hli
        generalize liX (num ys) odd = X at *
        generalize liY (num ys) odd = Y at *
        have O := ((Only.setCell W7 w.heap.size 0 (.bool true)).trans (Only.setCell _ w.heap.size 1 (.slice b1 X.length d1))).trans (Only.setCell _ w.heap.size 2 (.slice b2 Y.length d2))
        have o1' := o1.only O (fun _ => by omega)
        have o2' := o2.only O (fun _ => by omega)
        have N' := N4.trans (O.below (Nat.le_refl _))
        clear o1 o2 O N4
        go_wp2
        refine bodyPost_ret (v := .agg #[.bool true, .slice b1 X.length d1, .slice b2 Y.length d2]) (by simp [results, Tryd.results21, go_sem, y0, y1, y2]) rfl ⟨?_, N'⟩
        rw [KB.out, KX.out, KY.out]
        exact ⟨b1, b2, d1, d2, h1, h2, rfl, o1', o2', by omega, by omega⟩
  · have t : ((xs.length : Int) != 32) = true := by simp; omega
    have KB : Hid (dcB xs = false) := by show _ = _; unfold dcB; rw [decide_eq_false hl]; rfl
    have KX : Hid (dcX xs = []) := by show _ = _; unfold dcX; rw [if_neg (by rw [KB.out]; simp)]
    have KY : Hid (dcY xs = []) := by show _ = _; unfold dcY; rw [if_neg (by rw [KB.out]; simp)]
    obtain ⟨y0, y1, y2, u0, u1, u2⟩ := TZ
    clear hl
    go_enter Tryd.func21, Tryd.ntmps21
    go_upto_region 1 with fail
    change Code.wp _ _ _ _ (w.alloc prObj)
    generalize w.alloc prObj = wr at *
    go_wp2
    refine bodyPost_ret (v := .agg #[.bool false, .slice none 0 0, .slice none 0 0]) (by simp [results, Tryd.results21, go_sem, y0, y1, y2]) rfl ⟨by rw [KB.out, KX.out, KY.out]; exact newPR_nil, ?_⟩
    exact ((N.setCell (Nat.le_refl _) _).setCell (Nat.le_refl _) _).setCell (Nat.le_refl _) _
end Go.Proofs.YtnaaanefndeafaaDoor

/-
  The law of PointAdd.
-/
namespace Go.Proofs.YtnaaanefndeafaaDoor
set_option maxRecDepth 100000
open Go Go.RowKit

theorem two_of {W : World} {q : Nat} {u v : Value} (rg : W.rangeAt q 0 [u, v]) (th : W.there q 0 2) : Two W q u v :=
  ⟨rg 0 u rfl, rg 1 v rfl, (th 0 (by omega)).2, (th 1 (by omega)).2⟩
section
variable {ops : Array Oper} {Q : Exit → Act → World → Prop} {md : Region.Mode} {F : Nat → Fact} {a0 : Act} {w0 : World} {i : Nat} {o : Oper} {ts : Array TypeId}
/-- A call at two points that were copied. -/
theorem step_two_pts (hi : ops[i]? = some o) {n : FuncId} (p q j k : Nat) {X0 Y0 X1 Y1 rx ry : List Int} (hop : o.op = .call { callee := .value (.func n), args := #[.tmp p, .tmp q], argTypes := ts }) (he : enters Tryd.prog n = true)
    (hj : waits md ops i j p = true) (hk : waits md ops i k q = true)
    (law : ∀ (W : World), Below w0.heap.size w0 W → ∀ (p q p' q' : Nat), Blk W p .u8 X0 → Blk W q .u8 Y0 → Blk W p' .u8 X1 → Blk W q' .u8 Y1 → Calls Tryd.prog n #[.agg #[.slice (some ⟨p, 0, none⟩) X0.length X0.length, .slice (some ⟨q, 0, none⟩) Y0.length Y0.length], .agg #[.slice (some ⟨p', 0, none⟩) X1.length X1.length, .slice (some ⟨q', 0, none⟩) Y1.length Y1.length]] W fun r w' => NewPt W.heap.size w' r rx ry ∧ Below W.heap.size W w')
    (hFj : F j = PR X0 Y0) (hFk : F k = PR X1 Y1) (hFi : F i = PT w0 (fun u8 u9 => u8 = rx ∧ u9 = ry)) : StepOk Tryd.prog md ops Q F a0 w0 i := by
  refine step_call hi n _ ts hop he fun A w _ hw hF => ?_
  have ea := hF j p hj
  have eb := hF k q hk
  rw [hFj] at ea
  rw [hFk] at eb
  obtain ⟨p1, q1, e1, b1, b2⟩ := ea
  obtain ⟨p2, q2, e2, b3, b4⟩ := eb
  show Calls Tryd.prog n #[A.tmps.getD p undef, A.tmps.getD q undef] w _
  rw [e1, e2]
  refine (law w hw p1 q1 p2 q2 b1 b2 b3 b4).mono ?_
  rintro r w' ⟨⟨a, a', c, c', g, g', rfl, o1, o2, l1, l2⟩, hn⟩
  rw [hFi]
  have z := hw.size
  exact ⟨_, rfl, hn, rx, ry, a, a', c, c', g, g', rfl, o1, o2, by omega, by omega, rfl, rfl⟩
end
theorem NewP2.pt {B : Nat} {w : World} {e : Ending} {xs ys : List Int} (h : NewP2 B w e xs ys) : NewPt B w e xs ys := by
  obtain ⟨a, c, g, a', c', g', e, o1, o2, l1, l2, _⟩ := h
  exact ⟨a, a', c, c', g, g', e, o1, o2, l1, l2⟩
end Go.Proofs.YtnaaanefndeafaaDoor

/-
  Canonical bytes are those of their number.
-/
namespace Go.Proofs.YtnaaanefndeafaaDoor
set_option maxRecDepth 100000
open Go.RowKit

theorem lsum_inj {a b : Nat → Int} (ha : ∀ j, 0 ≤ a j ∧ a j < 256) (hb : ∀ j, 0 ≤ b j ∧ b j < 256) : ∀ n, lsum a n = lsum b n → ∀ j, j < n → a j = b j
  | 0, _, j, hj => by omega
  | n + 1, h, j, hj => by
    have bd : ∀ (c : Nat → Int), (∀ j, 0 ≤ c j ∧ c j < 256) → ∀ m, 0 ≤ lsum c m ∧ lsum c m < 256 ^ m := by
      intro c hc m
      induction m with
      | zero => simp [lsum]
      | succ m ih =>
        have hm := hc m
        have hp := p256_pos m
        rw [lsum, Int.pow_succ]
        have e1 : c m * 256 ^ m ≤ 255 * 256 ^ m := Int.mul_le_mul_of_nonneg_right (by omega) (Int.le_of_lt hp)
        have e2 : 0 ≤ c m * 256 ^ m := Int.mul_nonneg hm.1 (Int.le_of_lt hp)
        omega
    have h1 := bd a ha n
    have h2 := bd b hb n
    have hp := p256_pos n
    rw [lsum, lsum] at h
    have e : a n = b n := by
      rcases Int.lt_trichotomy (a n) (b n) with c | c | c
      · exfalso
        have : (a n + 1) * 256 ^ n ≤ b n * 256 ^ n := Int.mul_le_mul_of_nonneg_right (by omega) (Int.le_of_lt hp)
        rw [Int.add_mul] at this
        omega
      · exact c
      · exfalso
        have : (b n + 1) * 256 ^ n ≤ a n * 256 ^ n := Int.mul_le_mul_of_nonneg_right (by omega) (Int.le_of_lt hp)
        rw [Int.add_mul] at this
        omega
    rw [e] at h
    rcases Nat.lt_or_ge j n with c | c
    · exact lsum_inj ha hb n (by omega) j c
    · obtain rfl : j = n := by omega
      exact e
theorem valid_y1 {xs ys : List Int} (h : validP xs ys = true) : canN ys = true := by
  unfold validP at h
  simp only [Bool.and_eq_true] at h
  exact h.1.2
theorem valid_x1 {xs ys : List Int} (h : validP xs ys = true) : canN xs = true := by
  unfold validP at h
  simp only [Bool.and_eq_true] at h
  exact h.1.1
theorem num_ge {xs : List Int} (hb : Byt xs) : 0 ≤ num xs := lsum_nonneg (fun j => hb j) _
theorem can_lt {xs : List Int} (h : canN xs = true) : num xs < PP := by
  unfold canN at h
  simp at h
  exact h.2
theorem fill_can {xs : List Int} (hb : Byt xs) (h : canN xs = true) : fill (byt (num xs % PP)) 32 = xs := by
  have l := can_len h
  have e := num_modS (num xs)
  rw [Int.emod_eq_of_lt (num_ge hb) (can_lt h)] at e ⊢
  have k : ∀ j, j < 32 → (fill (byt (num xs)) 32).getD j 0 = xs.getD j 0 := by
    refine lsum_inj (fun j => bytes_L _ _ j) (fun j => hb j) 32 ?_
    have e1 : num (fill (byt (num xs)) 32) = lsum (fun j => (fill (byt (num xs)) 32).getD j 0) 32 := by unfold num; rw [fill_len]
    have e2 : num xs = lsum (fun j => xs.getD j 0) 32 := by unfold num; rw [l]
    rw [← e1, ← e2]
    exact e
  apply List.ext_getElem
  · rw [fill_len, l]
  · intro i h1 h2
    have := k i (by rw [fill_len] at h1; exact h1)
    simpa [List.getD_eq_getElem?_getD, h1, h2] using this
end Go.Proofs.YtnaaanefndeafaaDoor

/-
  The model's PointNegate.
-/
namespace Go.Proofs.YtnaaanefndeafaaDoor
set_option maxRecDepth 100000
open Go Go.RowKit

/-- The opposite point, as bytes; nothing, if there is none. -/
def nsX (xs ys : List Int) : List Int := if validP xs ys = true then fill (byt ((0 - num xs) % PP)) 32 else []
def nsY (xs ys : List Int) : List Int := if validP xs ys = true then ys else []
section
variable {ops : Array Oper} {Q : Exit → Act → World → Prop} {md : Region.Mode} {F : Nat → Fact} {a0 : Act} {w0 : World} {i : Nat} {o : Oper} {ts : Array TypeId}
theorem step_cpy (hi : ops[i]? = some o) (p j : Nat) {a : Option Addr} {c : Nat} {xs : List Int} (hop : o.op = .call { callee := .value (.func 49), args := #[.tmp p], argTypes := ts })
    (hj : waits md ops i j p = true) (hO : OfOk w0 a xs) (hFj : F j = Fact.eq (.slice a xs.length c)) (hFi : F i = RN w0 (fun u9 => u9 = xs)) : StepOk Tryd.prog md ops Q F a0 w0 i := by
  obtain ⟨g, hr, hb, hl⟩ := hO
  refine step_call hi _ _ ts hop (by kernel_rfl) fun A w _ hw hF => ?_
  have ea := hF j p hj
  rw [hFj] at ea
  show Calls Tryd.prog 49 #[A.tmps.getD p undef] w _
  rw [show A.tmps.getD p undef = _ from ea]
  have hs : a = none → c = 0 := fun e => by
    obtain ⟨_, e', _⟩ := hr (by omega)
    rw [e] at e'
    cases e'
  refine (l1Copy_any w g a c xs (hr.up hw) hs (by omega)).mono ?_
  rintro r w' ⟨⟨b, c', g', rfl, ow, k1, k2, hg⟩, hn⟩
  rw [hFi]
  have z := hw.size
  exact ⟨_, rfl, hn, xs, b, c', g', rfl, ow, by omega, rfl, k1, k2⟩
end
end Go.Proofs.YtnaaanefndeafaaDoor

/-
  The model's l5Small.
-/
namespace Go.Proofs.YtnaaanefndeafaaDoor
set_option maxRecDepth 100000
open Go Go.RowKit

theorem en_int : enters Tryd.prog 43 = true := by kernel_rfl
theorem en_little : enters Tryd.prog 42 = true := by kernel_rfl
theorem en_times : enters Tryd.prog 27 = true := by kernel_rfl
theorem en_plain : enters Tryd.prog 26 = true := by kernel_rfl
theorem en_zero : enters Tryd.prog 106 = true := by kernel_rfl
/-- Three elements, whatever they are. -/
def E3any : Fact := ⟨fun v _ => ∃ x y z, v = ag48 x y z ∧ L16 x ∧ L16 y ∧ L16 z, fun _ h => h⟩
/-- Two lists of thirty-two bytes. -/
def PtOk (xs ys : List Int) : Prop := (Byt xs ∧ xs.length = 32) ∧ (Byt ys ∧ ys.length = 32)
theorem bytes_5 (v : Int) (n : Nat) : Byt (fill (byt v) n) := fun i => by
  by_cases hi : i < n
  · rw [fill_get _ _ _ hi]; unfold byt; omega
  · rw [List.getD_eq_getElem?_getD, List.getElem?_eq_none (by rw [fill_len]; omega)]; simp
theorem dig_bytes_5 {xs : List Int} (h : Byt xs) (n : Nat) : Byt (fill (dig xs) n) := fun i => by
  by_cases hi : i < n
  · rw [fill_get _ _ _ hi]
    have := dig_byt h i
    omega
  · rw [List.getD_eq_getElem?_getD, List.getElem?_eq_none (by rw [fill_len]; omega)]; simp
section
variable {ops : Array Oper} {Q : Exit → Act → World → Prop} {md : Region.Mode} {F : Nat → Fact} {a0 : Act} {w0 : World} {i : Nat} {o : Oper} {ts : Array TypeId}
theorem step_mv0 {P : Program} (hi : ops[i]? = some o) (p : Nat) (hop : (match o.op with | .move (.tmp q) => q == p | .assign (.tmp q) => q == p | _ => false) = true) (hp : apart ops p = true) {v : Value} (h0 : a0.tmps.getD p undef = v) (hF : F i = Fact.eq v) : StepOk P md ops Q F a0 w0 i := by
  refine step_pure hi fun a w hb _ _ => ⟨v, ?_, by rw [hF]; exact rfl⟩
  have e := (based_at hb p hp).trans h0
  cases ho : o.op with
  | move x =>
    cases x with
    | tmp q =>
      rw [ho] at hop
      obtain rfl : q = p := by simpa using hop
      simp [execOp, ho, e]
    | _ => rw [ho] at hop; simp at hop
  | assign x =>
    cases x with
    | tmp q =>
      rw [ho] at hop
      obtain rfl : q = p := by simpa using hop
      simp [execOp, ho, e]
    | _ => rw [ho] at hop; simp at hop
  | _ => rw [ho] at hop; simp at hop
theorem step_int (hi : ops[i]? = some o) (p j : Nat) (v : Int) (hv : 0 ≤ v ∧ v ≤ 255) (hop : o.op = .call { callee := .value (.func 43), args := #[.tmp p], argTypes := ts })
    (hj : waits md ops i j p = true) (hFj : F j = Fact.eq (.int .i64 v)) (hFi : F i = RN w0 (fun xs => xs.length ≤ 1 ∧ Byt xs)) : StepOk Tryd.prog md ops Q F a0 w0 i := by
  refine step_call hi _ _ ts hop en_int fun a w _ hw hF => ?_
  have ea := hF j p hj
  rw [hFj] at ea
  have e1 : a.tmps.getD p undef = .int .i64 v := ea
  show Calls Tryd.prog 43 #[a.tmps.getD p undef] w _
  rw [e1]
  refine (l1Int_any w v hv.1 hv.2).mono ?_
  rintro r w' ⟨ys, hl, hb, ⟨b, c, g, rfl, ow, k1, k2, hg⟩, hn⟩
  rw [hFi]
  exact ⟨_, rfl, hn, ys, b, c, g, rfl, ow, Nat.le_trans hw.size hg, ⟨hl, hb⟩, k1, k2⟩
theorem step_lit (hi : ops[i]? = some o) (p j : Nat) (hop : o.op = .call { callee := .value (.func 42), args := #[.tmp p, .const (.int .i64 32)], argTypes := ts })
    (hj : waits md ops i j p = true) (hFj : F j = RN w0 (fun xs => xs.length ≤ 1 ∧ Byt xs)) (hFi : F i = RN w0 (fun xs => xs.length = 32 ∧ Byt xs)) : StepOk Tryd.prog md ops Q F a0 w0 i := by
  refine step_call hi _ _ ts hop en_little fun a w _ hw hF => ?_
  have ea := hF j p hj
  rw [hFj] at ea
  obtain ⟨xs, b, c, g, e1, ow, hg, ⟨hl, hb⟩, k1, k2⟩ := ea
  show Calls Tryd.prog 42 #[a.tmps.getD p undef, .int .i64 32] w _
  rw [e1]
  refine (l1Little_any w g b c xs 32 ow.rd hb (by omega) (by omega)).mono ?_
  rintro r w' ⟨rfl, B, hn⟩
  rw [hFi]
  refine ⟨_, rfl, hn, fill (dig xs) 32, _, 32, w.heap.size, by rw [fill_len], B.own0, hw.size, ⟨fill_len _ _, ?_⟩, by simp, by rw [fill_len]; omega⟩
  exact dig_bytes_5 hb 32
theorem step_times (hi : ops[i]? = some o) (p q j k : Nat) {f g : List Int} (hop : o.op = .call { callee := .value (.func 27), args := #[.tmp p, .tmp q], argTypes := ts })
    (hj : waits md ops i j p = true) (hk : waits md ops i k q = true) (hFj : F j = RN w0 (fun xs => xs.length = 32 ∧ Byt xs)) (hFk : F k = PT w0 (fun xs ys => xs = f ∧ ys = g)) (hFi : F i = E3any) (hf : PtOk f g := by exact ⟨⟨bytes_5 _ _, fill_len _ _⟩, bytes_5 _ _, fill_len _ _⟩) : StepOk Tryd.prog md ops Q F a0 w0 i := by
  refine step_call hi _ _ ts hop en_times fun a w _ _ hF => ?_
  have ea := hF j p hj
  have eb := hF k q hk
  rw [hFj] at ea
  rw [hFk] at eb
  obtain ⟨ks, b, c, h, e1, ow, _, ⟨hl, hb⟩, _, _⟩ := ea
  obtain ⟨xs, ys, b1, b2, c1, c2, h1, h2, e2, o1, o2, _, _, rfl, rfl⟩ := eb
  show Calls Tryd.prog 27 #[a.tmps.getD p undef, a.tmps.getD q undef] w _
  rw [e1, e2]
  refine (l5Times_any w h h1 h2 b b1 b2 c c1 c2 ks xs ys ow.rd hb (by omega) o1.rd o2.rd hf.1.1 hf.2.1 hf.1.2 hf.2.2).mono ?_
  rintro r w' ⟨top, P, x, y, z, _, _, rfl, hx, hy, hz, hn⟩
  rw [hFi]
  exact ⟨_, rfl, hn, x, y, z, rfl, hx.1, hy.1, hz.1⟩
theorem step_plain (hi : ops[i]? = some o) (p j : Nat) (hop : o.op = .call { callee := .value (.func 26), args := #[.tmp p], argTypes := ts })
    (hj : waits md ops i j p = true) (hFj : F j = E3any) (hFi : F i = PT w0 PtOk) : StepOk Tryd.prog md ops Q F a0 w0 i := by
  refine step_call hi _ _ ts hop en_plain fun a w _ hw hF => ?_
  have ea := hF j p hj
  rw [hFj] at ea
  obtain ⟨x, y, z, e1, hx, hy, hz⟩ := ea
  show Calls Tryd.prog 26 #[a.tmps.getD p undef] w _
  rw [e1]
  refine (l5Plain_any w x y z _ _ _ ⟨hx, rfl⟩ ⟨hy, rfl⟩ ⟨hz, rfl⟩).mono ?_
  rintro r w' ⟨⟨b, b', c, c', g, g', rfl, o1, o2, l1, l2⟩, hn⟩
  rw [hFi]
  exact ⟨_, rfl, hn, _, _, b, b', c, c', g, g', rfl, o1, o2, Nat.le_trans hw.size l1, Nat.le_trans hw.size l2, ⟨bytes_5 _ _, fill_len _ _⟩, bytes_5 _ _, fill_len _ _⟩
theorem step_zero (hi : ops[i]? = some o) (hop : o.op = .call { callee := .value (.func 106), args := #[], argTypes := ts }) (hFi : F i = PT w0 PtOk) : StepOk Tryd.prog md ops Q F a0 w0 i := by
  refine step_call hi _ _ ts hop en_zero fun a w _ hw _ => ?_
  refine (pointZero_any w).mono ?_
  rintro r w' ⟨⟨b, b', c, c', g, g', rfl, o1, o2, l1, l2⟩, hn⟩
  rw [hFi]
  exact ⟨_, rfl, hn, _, _, b, b', c, c', g, g', rfl, o1, o2, Nat.le_trans hw.size l1, Nat.le_trans hw.size l2, ⟨bytes_5 _ _, fill_len _ _⟩, bytes_5 _ _, fill_len _ _⟩
end

set_option maxHeartbeats 4000000 in
theorem l5Small_any (w : World) (k : Int) (k0 : 0 ≤ k) (k1 : k ≤ 255) :
    Calls Tryd.prog 83 #[.int .i64 k] w fun r w' => ∃ xs ys, NewPt w.heap.size w' r xs ys ∧ (Byt xs ∧ xs.length = 32) ∧ (Byt ys ∧ ys.length = 32) ∧ Below w.heap.size w w' := by
  go_enter Tryd.func83, Tryd.ntmps83
  go_upto_region 1 with fail
  change Code.wp _ _ _ _ (w.alloc pObj)
  have TR := there_p w
  have N : Below w.heap.size w (w.alloc pObj) := (Below.refl _ _).alloc (Nat.le_refl _) _
  generalize w.alloc pObj = wr at *
  have zr := there_lt (by omega) TR
  refine region_new16 2 1 0 3 10 _ (fun i => [EL dE, NB wr 16].getD i Fact.no) (dE) (by kernel_rfl) rfl rfl rfl (by kernel_rfl) (by kernel_rfl) rfl rfl ?_ ?_
  · intro i hi
    obtain rfl | rfl : i = 0 ∨ i = 1 := by omega
    · exact step_d rfl rfl rfl
    · exact step_new16 rfl rfl rfl
  intro vs1 q3 W1 v3 h3 n1 E3' T3
  have mn1 := n1.size
  replace TR := there_up (by omega) TR n1
  replace N := nxt N n1
  clear n1 T3
  simp only [puts, v3, Act.put, List.setIfInBounds_toArray, List.set_cons_succ, List.set_cons_zero]
  clear v3
  go_upto_region 2 with fail
  refine region_new16 9 7 6 5 17 _ (fun i => [EL 0, EL 1, EL ((0) - (1)), RT ((0) - (1)), RT ((0) - (1)), Fact.eq (.bool (rootB ((0) - (1)))), EL (rootV ((0) - (1))), NB W1 16, Fact.eq (.bool (rootB ((0) - (1))))].getD i Fact.no) (rootV ((0) - (1))) (by kernel_rfl) rfl rfl rfl (by kernel_rfl) (by kernel_rfl) rfl rfl ?_ ?_
  · intro i hi
    obtain rfl | rfl | rfl | rfl | rfl | rfl | rfl | rfl | rfl : i = 0 ∨ i = 1 ∨ i = 2 ∨ i = 3 ∨ i = 4 ∨ i = 5 ∨ i = 6 ∨ i = 7 ∨ i = 8 := by omega
    · exact step_small rfl 0 (by omega) rfl rfl
    · exact step_small rfl 1 (by omega) rfl rfl
    · exact step_sub rfl 12 13 0 1 _ _ rfl (by kernel_rfl) (by kernel_rfl) rfl rfl rfl
    · exact step_root rfl 14 2 _ rfl (by kernel_rfl) rfl rfl
    · exact step_move rfl 15 3 (by exact Or.inl rfl) (by kernel_rfl) rfl
    · exact step_ext0 rfl 11 4 _ rfl (by kernel_rfl) rfl rfl
    · exact step_ext1 rfl 11 4 _ rfl (by kernel_rfl) rfl rfl
    · exact step_new16 rfl rfl rfl
    · exact step_move rfl 16 5 (by exact Or.inr rfl) (by kernel_rfl) rfl
  intro vs2 q5 W2 v5 h5 n2 E5 T5
  have y5 := E5.lt
  have mn2 := n2.size
  replace E3' := E3'.up n2
  replace TR := there_up (by omega) TR n2
  replace N := nxt N n2
  clear n2 T5
  simp only [puts, v5, Act.put, List.setIfInBounds_toArray, List.set_cons_succ, List.set_cons_zero]
  clear v5
  go_upto_region 3 with fail
  refine region_new16 9 7 6 7 24 _ (fun i => [EL 1, EL (dE), EL ((1) + (dE)), RT ((1) + (dE)), RT ((1) + (dE)), Fact.eq (.bool (rootB ((1) + (dE)))), EL (rootV ((1) + (dE))), NB W2 16, Fact.eq (.bool (rootB ((1) + (dE))))].getD i Fact.no) (rootV ((1) + (dE))) (by kernel_rfl) rfl rfl rfl (by kernel_rfl) (by kernel_rfl) rfl rfl ?_ ?_
  · intro i hi
    obtain rfl | rfl | rfl | rfl | rfl | rfl | rfl | rfl | rfl : i = 0 ∨ i = 1 ∨ i = 2 ∨ i = 3 ∨ i = 4 ∨ i = 5 ∨ i = 6 ∨ i = 7 ∨ i = 8 := by omega
    · exact step_small rfl 1 (by omega) rfl rfl
    · exact step_el rfl 43 3 rfl Go.Proofs.YtnaaanefndeafaaDoor.u50 i50 (by kernel_rfl) _ _ rfl _ E3' rfl
    · exact step_add rfl 19 20 0 1 _ _ rfl (by kernel_rfl) (by kernel_rfl) rfl rfl rfl
    · exact step_root rfl 21 2 _ rfl (by kernel_rfl) rfl rfl
    · exact step_move rfl 22 3 (by exact Or.inl rfl) (by kernel_rfl) rfl
    · exact step_ext0 rfl 18 4 _ rfl (by kernel_rfl) rfl rfl
    · exact step_ext1 rfl 18 4 _ rfl (by kernel_rfl) rfl rfl
    · exact step_new16 rfl rfl rfl
    · exact step_move rfl 23 5 (by exact Or.inr rfl) (by kernel_rfl) rfl
  intro vs3 q7 W3' v7 h7 n3 E7 T7
  have mn3 := n3.size
  replace E3' := E3'.up n3
  replace E5 := E5.up n3
  replace TR := there_up (by omega) TR n3
  replace N := nxt N n3
  clear n3 T7
  simp only [puts, v7, Act.put, List.setIfInBounds_toArray, List.set_cons_succ, List.set_cons_zero]
  clear v7
  go_upto_region 4 with fail
  refine region_new16F 12 10 9 9 34 _ (fun i => [EL 1, EL (rootV ((1) + (dE))), EL ((1) + (rootV ((1) + (dE)))), EL (dE), EL (iv (dE)), EL (((1) + (rootV ((1) + (dE)))) * (iv (dE))), RT (((1) + (rootV ((1) + (dE)))) * (iv (dE))), RT (((1) + (rootV ((1) + (dE)))) * (iv (dE))), Fact.eq (.bool (rootB (((1) + (rootV ((1) + (dE)))) * (iv (dE))))), EL (rootV (((1) + (rootV ((1) + (dE)))) * (iv (dE)))), NB W3' 16, Fact.eq (.bool (rootB (((1) + (rootV ((1) + (dE)))) * (iv (dE)))))].getD i Fact.no) (rootV (((1) + (rootV ((1) + (dE)))) * (iv (dE)))) (by kernel_rfl) rfl rfl rfl (by kernel_rfl) (by kernel_rfl) rfl rfl ?_ ?_
  · intro i hi
    obtain rfl | rfl | rfl | rfl | rfl | rfl | rfl | rfl | rfl | rfl | rfl | rfl : i = 0 ∨ i = 1 ∨ i = 2 ∨ i = 3 ∨ i = 4 ∨ i = 5 ∨ i = 6 ∨ i = 7 ∨ i = 8 ∨ i = 9 ∨ i = 10 ∨ i = 11 := by omega
    · exact step_small rfl 1 (by omega) rfl rfl
    · exact step_el rfl 43 7 rfl Go.Proofs.YtnaaanefndeafaaDoor.u50 i50 (by kernel_rfl) _ _ rfl _ E7 rfl
    · exact step_add rfl 26 27 0 1 _ _ rfl (by kernel_rfl) (by kernel_rfl) rfl rfl rfl
    · exact step_el rfl 43 3 rfl Go.Proofs.YtnaaanefndeafaaDoor.u50 i50 (by kernel_rfl) _ _ rfl _ E3' rfl
    · exact step_inv rfl 29 3 _ rfl (by kernel_rfl) rfl rfl
    · exact step_mul rfl 28 30 2 4 _ _ rfl (by kernel_rfl) (by kernel_rfl) rfl rfl rfl
    · exact step_root rfl 31 5 _ rfl (by kernel_rfl) rfl rfl
    · exact step_move rfl 32 6 (by exact Or.inl rfl) (by kernel_rfl) rfl
    · exact step_ext0 rfl 25 7 _ rfl (by kernel_rfl) rfl rfl
    · exact step_ext1 rfl 25 7 _ rfl (by kernel_rfl) rfl rfl
    · exact step_new16 rfl rfl rfl
    · exact step_move rfl 33 8 (by exact Or.inr rfl) (by kernel_rfl) rfl
  intro vs4 q9 W4 v9 h9 n4 E9 T9 hF
  obtain ⟨_, v8⟩ := hF 11 8 (by kernel_rfl)
  clear hF
  have mn4 := n4.size
  replace E3' := E3'.up n4
  replace E5 := E5.up n4
  replace E7 := E7.up n4
  replace TR := there_up (by omega) TR n4
  replace N := nxt N n4
  have y9 := E9.lt
  have y3 := E3'.lt
  have r5 : q5 ≠ q9 := by omega
  clear n4
  change vs4 8 = .bool (rootB _) at v8
  simp only [puts, v9, v8, Act.put, List.setIfInBounds_toArray, List.set_cons_succ, List.set_cons_zero]
  clear v9 v8
  cases rootB (((1) + (rootV ((1) + (dE)))) * (iv (dE))) with
  | true =>
    go_upto_region 9 with fail
    refine region_putP 12 11 2 61 _ (fun i => [Fact.eq (.int .i64 k), RN W4 (fun xs => xs.length ≤ 1 ∧ Byt xs), RN W4 (fun xs => xs.length = 32 ∧ Byt xs), EL (rootV (((1) + (rootV ((1) + (dE)))) * (iv (dE)))), RN W4 (fun xs => xs = fill (byt ((rootV (((1) + (rootV ((1) + (dE)))) * (iv (dE)))) % PP)) 32), EL (rootV (((1) + (rootV ((1) + (dE)))) * (iv (dE)))), EL (rootV ((0) - (1))), EL ((rootV (((1) + (rootV ((1) + (dE)))) * (iv (dE)))) * (rootV ((0) - (1)))), RN W4 (fun xs => xs = fill (byt (((rootV (((1) + (rootV ((1) + (dE)))) * (iv (dE)))) * (rootV ((0) - (1)))) % PP)) 32), PT W4 (fun xs ys => xs = fill (byt ((rootV (((1) + (rootV ((1) + (dE)))) * (iv (dE)))) % PP)) 32 ∧ ys = fill (byt (((rootV (((1) + (rootV ((1) + (dE)))) * (iv (dE)))) * (rootV ((0) - (1)))) % PP)) 32), E3any, PT W4 PtOk].getD i Fact.no) PtOk _ (by kernel_rfl) rfl rfl rfl (by kernel_rfl) rfl TR (by kernel_rfl) rfl ?_ ?_
    · intro i hi
      obtain rfl | rfl | rfl | rfl | rfl | rfl | rfl | rfl | rfl | rfl | rfl | rfl : i = 0 ∨ i = 1 ∨ i = 2 ∨ i = 3 ∨ i = 4 ∨ i = 5 ∨ i = 6 ∨ i = 7 ∨ i = 8 ∨ i = 9 ∨ i = 10 ∨ i = 11 := by omega
      · exact step_mv0 rfl 0 (by kernel_rfl) (by kernel_rfl) rfl rfl
      · exact step_int rfl 50 0 k ⟨k0, k1⟩ rfl (by kernel_rfl) rfl rfl
      · exact step_lit rfl 51 1 rfl (by kernel_rfl) rfl rfl
      · exact step_el rfl 43 9 rfl Go.Proofs.YtnaaanefndeafaaDoor.u50 i50 (by kernel_rfl) _ _ rfl _ E9 rfl
      · exact step_bytes rfl 53 3 _ rfl (by kernel_rfl) rfl rfl
      · exact step_el rfl 43 9 rfl Go.Proofs.YtnaaanefndeafaaDoor.u50 i50 (by kernel_rfl) _ _ rfl _ E9 rfl
      · exact step_el rfl 43 5 rfl Go.Proofs.YtnaaanefndeafaaDoor.u50 i50 (by kernel_rfl) _ _ rfl _ E5 rfl
      · exact step_mul rfl 55 56 5 6 _ _ rfl (by kernel_rfl) (by kernel_rfl) rfl rfl rfl
      · exact step_bytes rfl 57 7 _ rfl (by kernel_rfl) rfl rfl
      · exact step_bp rfl 54 58 4 8 _ _ rfl (by kernel_rfl) (by kernel_rfl) rfl rfl rfl
      · exact step_times rfl 52 59 2 9 rfl (by kernel_rfl) (by kernel_rfl) rfl rfl rfl
      · exact step_plain rfl 60 10 rfl (by kernel_rfl) rfl rfl
    intro vs9 W W' xs ys a a' c c' g g' n bq rg o1 o2 l1 l2 hp nb
    have NS := nb w w.heap.size (nxt N n) (by omega)
    simp only [puts, Act.put, List.setIfInBounds_toArray, List.set_cons_succ, List.set_cons_zero]
    have z1 := N.size
    clear N n bq nb TR
    go_wp2
    obtain ⟨fs, hfs⟩ := uP
    exact bodyPost_ret (v := .agg #[_, _]) (results_cell_mid Tryd.results83 _ _ w.heap.size _ _ rfl rg hfs rfl iP) rfl ⟨xs, ys, ⟨a, a', c, c', g, g', rfl, o1, o2, by omega, by omega⟩, hp.1, hp.2, NS⟩
  | false =>
    go_upto_region 6 with fail
    refine region_put16F 11 9 9 46 _ (fun i => [EL 1, EL (rootV ((1) + (dE))), EL ((1) - (rootV ((1) + (dE)))), EL (dE), EL (iv (dE)), EL (((1) - (rootV ((1) + (dE)))) * (iv (dE))), RT (((1) - (rootV ((1) + (dE)))) * (iv (dE))), RT (((1) - (rootV ((1) + (dE)))) * (iv (dE))), Fact.eq (.bool (rootB (((1) - (rootV ((1) + (dE)))) * (iv (dE))))), EL (rootV (((1) - (rootV ((1) + (dE)))) * (iv (dE)))), Fact.eq (.bool (rootB (((1) - (rootV ((1) + (dE)))) * (iv (dE)))))].getD i Fact.no) (rootV (((1) - (rootV ((1) + (dE)))) * (iv (dE)))) _ (by kernel_rfl) rfl rfl rfl (by kernel_rfl) rfl T9 (by kernel_rfl) rfl ?_ ?_
    · intro i hi
      obtain rfl | rfl | rfl | rfl | rfl | rfl | rfl | rfl | rfl | rfl | rfl : i = 0 ∨ i = 1 ∨ i = 2 ∨ i = 3 ∨ i = 4 ∨ i = 5 ∨ i = 6 ∨ i = 7 ∨ i = 8 ∨ i = 9 ∨ i = 10 := by omega
      · exact step_small rfl 1 (by omega) rfl rfl
      · exact step_el rfl 43 7 rfl Go.Proofs.YtnaaanefndeafaaDoor.u50 i50 (by kernel_rfl) _ _ rfl _ E7 rfl
      · exact step_sub rfl 38 39 0 1 _ _ rfl (by kernel_rfl) (by kernel_rfl) rfl rfl rfl
      · exact step_el rfl 43 3 rfl Go.Proofs.YtnaaanefndeafaaDoor.u50 i50 (by kernel_rfl) _ _ rfl _ E3' rfl
      · exact step_inv rfl 41 3 _ rfl (by kernel_rfl) rfl rfl
      · exact step_mul rfl 40 42 2 4 _ _ rfl (by kernel_rfl) (by kernel_rfl) rfl rfl rfl
      · exact step_root rfl 43 5 _ rfl (by kernel_rfl) rfl rfl
      · exact step_move rfl 44 6 (by exact Or.inl rfl) (by kernel_rfl) rfl
      · exact step_ext0 rfl 37 7 _ rfl (by kernel_rfl) rfl rfl
      · exact step_ext1 rfl 37 7 _ rfl (by kernel_rfl) rfl rfl
      · exact step_move rfl 45 8 (by exact Or.inr rfl) (by kernel_rfl) rfl
    intro vs6 Wa W6 na bq E9n T9n nb hF
    obtain ⟨_, v8⟩ := hF 10 8 (by kernel_rfl)
    clear hF
    replace TR := there_but (by omega) TR bq (by omega)
    replace E5 := E5.but bq r5
    replace N := nb w w.heap.size (nxt N na) (by omega)
    clear bq nb na E9 E7 E3'
    have E9 := E9n
    change vs6 8 = .bool (rootB _) at v8
    simp only [puts, v8, Act.put, List.setIfInBounds_toArray, List.set_cons_succ, List.set_cons_zero]
    clear v8
    cases rootB (((1) - (rootV ((1) + (dE)))) * (iv (dE))) with
    | true =>
      go_upto_region 9 with fail
      refine region_putP 12 11 2 61 _ (fun i => [Fact.eq (.int .i64 k), RN W6 (fun xs => xs.length ≤ 1 ∧ Byt xs), RN W6 (fun xs => xs.length = 32 ∧ Byt xs), EL (rootV (((1) - (rootV ((1) + (dE)))) * (iv (dE)))), RN W6 (fun xs => xs = fill (byt ((rootV (((1) - (rootV ((1) + (dE)))) * (iv (dE)))) % PP)) 32), EL (rootV (((1) - (rootV ((1) + (dE)))) * (iv (dE)))), EL (rootV ((0) - (1))), EL ((rootV (((1) - (rootV ((1) + (dE)))) * (iv (dE)))) * (rootV ((0) - (1)))), RN W6 (fun xs => xs = fill (byt (((rootV (((1) - (rootV ((1) + (dE)))) * (iv (dE)))) * (rootV ((0) - (1)))) % PP)) 32), PT W6 (fun xs ys => xs = fill (byt ((rootV (((1) - (rootV ((1) + (dE)))) * (iv (dE)))) % PP)) 32 ∧ ys = fill (byt (((rootV (((1) - (rootV ((1) + (dE)))) * (iv (dE)))) * (rootV ((0) - (1)))) % PP)) 32), E3any, PT W6 PtOk].getD i Fact.no) PtOk _ (by kernel_rfl) rfl rfl rfl (by kernel_rfl) rfl TR (by kernel_rfl) rfl ?_ ?_
      · intro i hi
        obtain rfl | rfl | rfl | rfl | rfl | rfl | rfl | rfl | rfl | rfl | rfl | rfl : i = 0 ∨ i = 1 ∨ i = 2 ∨ i = 3 ∨ i = 4 ∨ i = 5 ∨ i = 6 ∨ i = 7 ∨ i = 8 ∨ i = 9 ∨ i = 10 ∨ i = 11 := by omega
        · exact step_mv0 rfl 0 (by kernel_rfl) (by kernel_rfl) rfl rfl
        · exact step_int rfl 50 0 k ⟨k0, k1⟩ rfl (by kernel_rfl) rfl rfl
        · exact step_lit rfl 51 1 rfl (by kernel_rfl) rfl rfl
        · exact step_el rfl 43 9 rfl Go.Proofs.YtnaaanefndeafaaDoor.u50 i50 (by kernel_rfl) _ _ rfl _ E9 rfl
        · exact step_bytes rfl 53 3 _ rfl (by kernel_rfl) rfl rfl
        · exact step_el rfl 43 9 rfl Go.Proofs.YtnaaanefndeafaaDoor.u50 i50 (by kernel_rfl) _ _ rfl _ E9 rfl
        · exact step_el rfl 43 5 rfl Go.Proofs.YtnaaanefndeafaaDoor.u50 i50 (by kernel_rfl) _ _ rfl _ E5 rfl
        · exact step_mul rfl 55 56 5 6 _ _ rfl (by kernel_rfl) (by kernel_rfl) rfl rfl rfl
        · exact step_bytes rfl 57 7 _ rfl (by kernel_rfl) rfl rfl
        · exact step_bp rfl 54 58 4 8 _ _ rfl (by kernel_rfl) (by kernel_rfl) rfl rfl rfl
        · exact step_times rfl 52 59 2 9 rfl (by kernel_rfl) (by kernel_rfl) rfl rfl rfl
        · exact step_plain rfl 60 10 rfl (by kernel_rfl) rfl rfl
      intro vs9 W W' xs ys a a' c c' g g' n bq rg o1 o2 l1 l2 hp nb
      have NS := nb w w.heap.size (nxt N n) (by omega)
      simp only [puts, Act.put, List.setIfInBounds_toArray, List.set_cons_succ, List.set_cons_zero]
      have z1 := N.size
      clear N n bq nb TR
      go_wp2
      obtain ⟨fs, hfs⟩ := uP
      exact bodyPost_ret (v := .agg #[_, _]) (results_cell_mid Tryd.results83 _ _ w.heap.size _ _ rfl rg hfs rfl iP) rfl ⟨xs, ys, ⟨a, a', c, c', g, g', rfl, o1, o2, by omega, by omega⟩, hp.1, hp.2, NS⟩
    | false =>
      go_upto_region 8 with fail
      refine region_putP 1 0 2 49 _ (fun i => [PT W6 PtOk].getD i Fact.no) PtOk _ (by kernel_rfl) rfl rfl rfl (by kernel_rfl) rfl TR (by kernel_rfl) rfl ?_ ?_
      · intro i hi
        obtain rfl : i = 0 := by omega
        exact step_zero rfl rfl rfl
      intro vs9 W W' xs ys a a' c c' g g' n bq rg o1 o2 l1 l2 hp nb
      have NS := nb w w.heap.size (nxt N n) (by omega)
      simp only [puts, Act.put, List.setIfInBounds_toArray, List.set_cons_succ, List.set_cons_zero]
      have z1 := N.size
      clear N n bq nb TR
      go_wp2
      obtain ⟨fs, hfs⟩ := uP
      exact bodyPost_ret (v := .agg #[_, _]) (results_cell_mid Tryd.results83 _ _ w.heap.size _ _ rfl rg hfs rfl iP) rfl ⟨xs, ys, ⟨a, a', c, c', g, g', rfl, o1, o2, by omega, by omega⟩, hp.1, hp.2, NS⟩
end Go.Proofs.YtnaaanefndeafaaDoor

/-
  What is drawn from a source, told by the source's bytes.
-/
namespace Go.Proofs.YtnaaanefndeafaaDoor
set_option maxRecDepth 100000
open Go.RowKit

/-- The next number that is drawn. -/
def nxF (xs : List Int) (t n : Int) : Int :=
  if xs.length = 0 then t * 7 % n else
    (if 200 < n then (xs.getD (t % (xs.length : Int)).toNat 0 + t / (xs.length : Int) * 37) * 251 + xs.getD ((t + 1) % (xs.length : Int)).toNat 0 * 13 + t
      else xs.getD (t % (xs.length : Int)).toNat 0 + t / (xs.length : Int) * 37) % n
set_option maxHeartbeats 2000000 in
theorem l1NextV_any (w : World) (s g : Nat) (a : Option Addr) (c : Nat) (xs : List Int) (t n : Int) (hs : Src w s a xs.length c t) (hr : Rd w g a .u8 xs) (hne : 0 < xs.length → g ≠ s) (hb : Byt xs) (hl : xs.length ≤ 4194304)
    (t0 : 0 ≤ t) (t1 : t ≤ 1048576) (n0 : 1 ≤ n) (n1 : n ≤ 1048576) :
    Calls Tryd.prog 39 #[.pointer (some ⟨s, 0, none⟩), .int .i64 n] w fun e w' => e = .returned (.int .i64 (nxF xs t n)) ∧ (0 ≤ nxF xs t n ∧ nxF xs t n < n) ∧ Src w' s a xs.length c (t + 1) ∧ Only s w w' := by
  have c0 := hs.code
  have c1 := hs.at_
  have f1 := hs.free
  have k1 : (w.setCell ⟨s, 1, none⟩ (.int .i64 (t + 1))).cell? ⟨s, 1, none⟩ = some (.int .i64 (t + 1)) := World.cell?_setCell_same _ _ _ hs.at_
  have k0 : (w.setCell ⟨s, 1, none⟩ (.int .i64 (t + 1))).cell? ⟨s, 0, none⟩ = some (.slice a xs.length c) := by rw [World.cell?_setCell_other (h := by simp)]; exact hs.code
  have tn : decide (n < 1) = false := by simp; omega
  by_cases h0 : xs.length = 0
  · have hk : ((xs.length : Int) == 0) = true := by simp [h0]
    have r0 := Int.emod_nonneg (t * 7) (show n ≠ 0 by omega)
    have r1 := Int.emod_lt_of_pos (t * 7) (show 0 < n by omega)
    have V : nxF xs t n = t * 7 % n := by unfold nxF; rw [if_pos h0]
    rw [V]
    clear V
    have S := hs.step (t + 1) 0
    have O := Only.step w s (.int .i64 (t + 1)) 0
    clear h0
    go_enter Tryd.func39, Tryd.ntmps39
    go_wp2
    go_ret
    exact ⟨rfl, ⟨r0, r1⟩, S, O⟩
  · have hk : ((xs.length : Int) == 0) = false := beq_eq_false_iff_ne.2 (by omega)
    obtain ⟨off, rfl, hc⟩ := hr (by omega)
    have gs : g ≠ s := hne (by omega)
    obtain ⟨i1, hi1⟩ := Int.eq_ofNat_of_zero_le (Int.emod_nonneg t (show (xs.length : Int) ≠ 0 by omega))
    have li1 : (i1 : Int) < (xs.length : Int) := by rw [← hi1]; exact Int.emod_lt_of_pos _ (by omega)
    obtain ⟨i2, hi2⟩ := Int.eq_ofNat_of_zero_le (Int.emod_nonneg (t + 1) (show (xs.length : Int) ≠ 0 by omega))
    have li2 : (i2 : Int) < (xs.length : Int) := by rw [← hi2]; exact Int.emod_lt_of_pos _ (by omega)
    obtain ⟨q, hq⟩ : ∃ q, t / (xs.length : Int) = q := ⟨_, rfl⟩
    have q0 : 0 ≤ q := by rw [← hq]; exact Int.ediv_nonneg t0 (by omega)
    have q1 : q ≤ 1048576 := by rw [← hq]; exact Int.le_trans (Int.ediv_le_self _ t0) t1
    have x1 : (w.setCell ⟨s, 1, none⟩ (.int .i64 (t + 1))).cell? ⟨g, off + i1, none⟩ = some (.int .u8 (xs.getD i1 0)) := by rw [World.cell?_setCell_other (h := fun e => gs (by simpa using (congrArg Addr.block e).symm))]; exact hc i1 (by omega)
    have x2 : (w.setCell ⟨s, 1, none⟩ (.int .i64 (t + 1))).cell? ⟨g, off + i2, none⟩ = some (.int .u8 (xs.getD i2 0)) := by rw [World.cell?_setCell_other (h := fun e => gs (by simpa using (congrArg Addr.block e).symm))]; exact hc i2 (by omega)
    have b1 := hb i1
    have b2 := hb i2
    have S := fun m => hs.step (t + 1) m
    have O := fun m => Only.step w s (.int .i64 (t + 1)) m
    have V : nxF xs t n = (if 200 < n then (xs.getD i1 0 + q * 37) * 251 + xs.getD i2 0 * 13 + t else xs.getD i1 0 + q * 37) % n := by
      unfold nxF
      rw [if_neg h0, hi1, hi2, hq]
      rfl
    generalize xs.getD i1 0 = x at *
    generalize xs.getD i2 0 = y at *
    rw [V]
    clear V
    clear hc hs hr h0
    by_cases hn : n ≤ 200
    · have tn2 : decide (200 < n) = false := by simp; omega
      rw [if_neg (by omega : ¬ 200 < n)]
      have r0 := Int.emod_nonneg (x + q * 37) (show n ≠ 0 by omega)
      have r1 := Int.emod_lt_of_pos (x + q * 37) (show 0 < n by omega)
      clear x2 hi2 li2 b2
      go_enter Tryd.func39, Tryd.ntmps39
      go_wp2
      go_quiet (fail)
      go_wp2
      go_ret
      exact ⟨rfl, ⟨r0, r1⟩, S _, O _⟩
    · have tn2 : decide (200 < n) = true := by simp; omega
      rw [if_pos (by omega : 200 < n)]
      have r0 := Int.emod_nonneg ((x + q * 37) * 251 + y * 13 + t) (show n ≠ 0 by omega)
      have r1 := Int.emod_lt_of_pos ((x + q * 37) * 251 + y * 13 + t) (show 0 < n by omega)
      go_enter Tryd.func39, Tryd.ntmps39
      go_wp2
      go_quiet (fail)
      go_wp2
      go_quiet (fail)
      go_wp2
      go_ret
      exact ⟨rfl, ⟨r0, r1⟩, S _, O _⟩

/-- The bytes that are drawn. -/
def dbF (xs : List Int) (t : Int) : Nat → List Int
  | 0 => []
  | k + 1 => dbF xs t k ++ [nxF xs (t + (k : Int)) 256]
theorem dbF_len (xs : List Int) (t : Int) : ∀ k, (dbF xs t k).length = k
  | 0 => rfl
  | k + 1 => by simp [dbF, dbF_len xs t k]
theorem nx_in (xs : List Int) (t : Int) {n : Int} (h : 0 < n) : 0 ≤ nxF xs t n ∧ nxF xs t n < n := by
  unfold nxF
  split
  · exact ⟨Int.emod_nonneg _ (by omega), Int.emod_lt_of_pos _ h⟩
  · exact ⟨Int.emod_nonneg _ (by omega), Int.emod_lt_of_pos _ h⟩
theorem dbF_byt (xs : List Int) (t : Int) : ∀ k, Byt (dbF xs t k)
  | 0 => byt_nil
  | k + 1 => byt_snoc (dbF_byt xs t k) _ (nx_in xs _ (by decide)).1 (nx_in xs _ (by decide)).2
set_option maxHeartbeats 2000000 in
theorem l1DrawBytesV_any (w : World) (s g : Nat) (a : Option Addr) (c : Nat) (xs : List Int) (t : Int) (n : Nat) (hs : Src w s a xs.length c t) (hr : Rd w g a .u8 xs) (hne : 0 < xs.length → g ≠ s) (hb : Byt xs) (hl : xs.length ≤ 4194304)
    (t0 : 0 ≤ t) (t1 : t + (n : Int) ≤ 1048576) :
    Calls Tryd.prog 85 #[.pointer (some ⟨s, 0, none⟩), .int .i64 n] w fun e w' => NewRow w.heap.size w' e .u8 (dbF xs t n) ∧ Src w' s a xs.length c (t + (n : Int)) ∧ But s w w' := by
  obtain ⟨i0, hi, hz0, hz1, hz2⟩ := info_parts Tryd.info5
  have hown0 : (w.alloc (.cells #[] 5)).ownsRow w.heap.size 5 1 (.slice (some ⟨w.heap.size, 0, none⟩) 0 0) 0 [] := World.ownsRow_lit w #[] 0 (Nat.le_refl _) (by unfold maxLen; omega) (by simp)
  have hal : Below w.heap.size w (w.alloc (.cells #[] 5)) := (Below.refl _ _).alloc (Nat.le_refl _) _
  have hsl := hs.lt
  go_enter Tryd.func85, Tryd.ntmps85
  go_wp2
  go_loopw [5, 6] (fun v i wr => ∃ (k : Nat), k ≤ n ∧ i = .int .i64 k ∧ wr.ownsRow w.heap.size 5 1 v k ((dbF xs t k).map (Value.int .u8)) ∧ Src wr s a xs.length c (t + (k : Int)) ∧ But s w wr) (fun _ i _ => n - (intOf i).toNat)
  case atStart => exact ⟨0, Nat.zero_le _, rfl, hown0, by simpa using hs.up hal, But.ofBelow hal⟩
  case round =>
    obtain ⟨k, hk, rfl, hown, hS, hN⟩ := hrel
    have e1 : dbF xs t (k + 1) = dbF xs t k ++ [nxF xs (t + (k : Int)) 256] := rfl
    have hyl : Hid ((dbF xs t k).length = k) := dbF_len xs t k
    obtain ⟨ys, hys⟩ : ∃ ys, ys = dbF xs t k := ⟨_, rfl⟩
    rw [← hys] at hown e1 hyl
    have hr' := hr.but hN hne
    by_cases hlt : k < n
    · have hob := hown.lt
      go_wp2_with fail
      refine (l1NextV_any wr s g a c xs (t + (k : Int)) 256 hS hr' hne hb hl (by omega) (by omega) (by decide) (by decide)).mono ?_
      rintro e w1 ⟨rfl, ⟨r0, r1⟩, S1, O1⟩
      obtain ⟨r, hrr⟩ : ∃ r, r = nxF xs (t + (k : Int)) 256 := ⟨_, rfl⟩
      rw [← hrr] at r0 r1 e1 ⊢
      clear hys hrr
      have N1 := hN.only O1
      have hown1 := hown.kept O1.grown (by
        cases hv : Value.ownBlock _ with
        | none => exact .inl rfl
        | some q => exact .inr (fun e => by have := (hob q hv).1; simp at e; omega))
      have m1 : r % 256 = r := by omega
      have sz := N1.size
      clear hown hS hN O1 hr'
      go_wp2_with (at_builtin; refine wpList_append_own _ rfl _ _ 22 rfl w.heap.size 5 i0 (.int .u8 0) 1 1 Tryd.underlying22 hi hz0 hz1 hz2 rfl (by decide) _ k (ys.map (Value.int .u8)) rfl (hown1.alloc _) ⟨w1.heap.size, 0, none⟩ 1 1 [.int .u8 r] rfl rfl ?c1 ?c2 ?c3 ?c4 ?c5 ?_)
      case c1 =>
        intro j u hj
        match j, hj with
        | 0, hj => simp at hj; subst hj; simp [Addr.add]
      case c2 => intro u hu; simp at hu; subst hu; rfl
      case c3 => unfold maxLen; omega
      case c4 => omega
      case c5 => simp; omega
      · intro v' w2 hown2 hgrow _
        have nA : But s w (w1.alloc (.cells #[.int .u8 r] 5)) := N1.trans (But.ofBelow ((Below.refl _ _).alloc (Nat.le_refl _) _))
        have N2 := nA.grown hgrow (fun i hi => (hob i hi).1)
        have S2 : Src w2 s a xs.length c (t + ((k + 1 : Nat) : Int)) := by
          have := (S1.up ((Below.refl _ _).alloc (Nat.le_refl _) (.cells #[.int .u8 r] 5))).of_block (hgrow.block s (by simp; omega) (fun e => by have := (hob s e.symm).1; omega))
          rw [show t + ((k + 1 : Nat) : Int) = t + (k : Int) + 1 by omega]
          exact this
        have hown3 : w2.ownsRow w.heap.size 5 1 v' (k + 1) ((ys ++ [r]).map (Value.int .u8)) := by simpa using hown2
        rw [← e1] at hown3
        clear hown1 hown2 hgrow N1 S1 nA hob
        go_wp2
        go_roundw
        case rel => exact ⟨k + 1, by omega, by go_num, hown3, S2, N2⟩
        case measure => simp [intOf]; omega
    · obtain rfl : k = n := by omega
      have HY := hide hys
      clear hys e1
      have hown' := hown
      rw [← hyl.out] at hown'
      obtain ⟨a', c', g', hv, o1, o2, o3, o4⟩ := Own.of_ownsRow hown'
      subst hv
      clear hown hown'
      go_wp2
      go_ret
      obtain rfl := HY.out
      exact ⟨⟨_, _, g', rfl, o1, o2, o3, o4⟩, hS, hN⟩

set_option maxHeartbeats 400000 in
theorem l1ChanceV_any (w : World) (s g : Nat) (a : Option Addr) (c : Nat) (xs : List Int) (t n : Int) (hs : Src w s a xs.length c t) (hr : Rd w g a .u8 xs) (hne : 0 < xs.length → g ≠ s) (hb : Byt xs) (hl : xs.length ≤ 4194304)
    (t0 : 0 ≤ t) (t1 : t ≤ 1048576) (n0 : 1 ≤ n) (n1 : n ≤ 1048576) :
    Calls Tryd.prog 44 #[.pointer (some ⟨s, 0, none⟩), .int .i64 n] w fun e w' => e = .returned (.bool (nxF xs t n == 0)) ∧ Src w' s a xs.length c (t + 1) ∧ Only s w w' := by
  go_enter Tryd.func44, Tryd.ntmps44
  go_wp2_with fail
  refine (l1NextV_any w s g a c xs t n hs hr hne hb hl t0 t1 n0 n1).mono ?_
  rintro e w1 ⟨rfl, _, S1, O1⟩
  go_wp2
  go_ret
  exact ⟨rfl, S1, O1⟩

end Go.Proofs.YtnaaanefndeafaaDoor

/-
  The model's numbers of int64, and its l5Small, told as values.
-/
namespace Go.Proofs.YtnaaanefndeafaaDoor
set_option maxRecDepth 100000
open Go Go.RowKit

/-- The bytes of a number below 65536, the highest first. -/
def inF (v : Int) : List Int := if v = 0 then [] else if v < 256 then [v] else [v / 256, v % 256]
def InS (v t : Int) (ys : List Int) : Prop := (ys = [] ∧ t = v) ∨ (ys = [v % 256] ∧ t = v / 256 ∧ 0 < v) ∨ (ys = [v % 256, v / 256] ∧ t = 0 ∧ 256 ≤ v)
theorem InS.go {v t : Int} {ys : List Int} (h : InS v t ys) (h0 : 0 < t) (hv : v < 65536) : InS v (t / 256) (ys ++ [t % 256]) := by
  rcases h with ⟨rfl, rfl⟩ | ⟨rfl, rfl, h1⟩ | ⟨rfl, rfl, h1⟩
  · exact Or.inr (Or.inl ⟨rfl, rfl, h0⟩)
  · refine Or.inr (Or.inr ⟨?_, by omega, by omega⟩)
    rw [show v / 256 % 256 = v / 256 by omega]
    rfl
  · omega
theorem InS.short {v t : Int} {ys : List Int} (h : InS v t ys) (h0 : 0 < t) (hv : v < 65536) : ys.length + 1 ≤ 2 := by
  rcases h with ⟨rfl, rfl⟩ | ⟨rfl, rfl, h1⟩ | ⟨rfl, rfl, h1⟩
  · simp
  · simp
  · omega
theorem InS.turn {v : Int} {ys zs : List Int} (h : InS v 0 ys) (v0 : 0 ≤ v) (hv : v < 65536) (z : TurnTo ys zs ys.length) : zs = inF v := by
  obtain ⟨z1, z2⟩ := z
  unfold inF
  rcases h with ⟨rfl, rfl⟩ | ⟨rfl, h2, h1⟩ | ⟨rfl, _, h1⟩
  · rw [if_pos rfl]
    exact List.eq_nil_of_length_eq_zero z1
  · rw [if_neg (by omega), if_pos (by omega)]
    match zs, z1 with
    | [x], _ =>
      have := z2 0 (by simp)
      simp at this
      rw [this, show v % 256 = v by omega]
  · rw [if_neg (by omega), if_neg (by omega)]
    match zs, z1 with
    | [x, y], _ =>
      have a := z2 0 (by simp)
      have b := z2 1 (by simp)
      simp at a b
      rw [a, b]
theorem inF_byt {v : Int} (h0 : 0 ≤ v) (h1 : v < 65536) : Byt (inF v) ∧ (inF v).length ≤ 2 := by
  unfold inF
  split
  · exact ⟨byt_nil, by simp⟩
  · split
    · exact ⟨byt_snoc (ys := []) byt_nil v h0 (by omega), by simp⟩
    · exact ⟨byt_snoc (ys := [v / 256]) (byt_snoc (ys := []) byt_nil _ (by omega) (by omega)) _ (by omega) (by omega), by simp⟩
set_option maxHeartbeats 2000000 in
theorem l1IntV_any (w : World) (v : Int) (v0 : 0 ≤ v) (v1 : v < 65536) :
    Calls Tryd.prog 43 #[.int .i64 v] w fun e w' => NewRow w.heap.size w' e .u8 (inF v) ∧ Below w.heap.size w w' := by
  obtain ⟨i0, hi, hz0, hz1, hz2⟩ := info_parts Tryd.info5
  have hown0 : (w.alloc (.cells #[] 5)).ownsRow w.heap.size 5 1 (.slice (some ⟨w.heap.size, 0, none⟩) 0 0) 0 [] := World.ownsRow_lit w #[] 0 (Nat.le_refl _) (by unfold maxLen; omega) (by simp)
  have hal : Below w.heap.size w (w.alloc (.cells #[] 5)) := (Below.refl _ _).alloc (Nat.le_refl _) _
  go_enter Tryd.func43, Tryd.ntmps43
  go_wp2
  go_loopw [0, 3] (fun q ov wr => ∃ (k : Nat) (t : Int) (ys : List Int), q = .int .i64 t ∧ 0 ≤ t ∧ t < 65536 ∧ k ≤ 2 ∧ Hid (InS v t ys) ∧ Hid (ys.length = k) ∧ Byt ys ∧ wr.ownsRow w.heap.size 5 1 ov k (ys.map (Value.int .u8)) ∧ Below w.heap.size w wr) (fun q _ _ => (intOf q).toNat)
  case atStart => exact ⟨0, v, [], rfl, v0, v1, by omega, Or.inl ⟨rfl, rfl⟩, rfl, byt_nil, hown0, hal⟩
  case round =>
    obtain ⟨k, t, ys, rfl, ht0, ht1, hk1, hI, hyl, hyb, hown, hN⟩ := hrel
    have hob := hown.lt
    by_cases hlt : 0 < t
    · have hI2 := hide (InS.go hI.out hlt v1)
      have hk2 : k + 1 ≤ 2 := by have := InS.short hI.out hlt v1; rw [hyl.out] at this; exact this
      have c0 : 0 ≤ t % 256 := by omega
      have c1 : t % 256 < 256 := by omega
      obtain ⟨u, hu⟩ : ∃ u, u = t % 256 := ⟨_, rfl⟩
      rw [← hu] at hI2 c0 c1
      have hu2 := hu.symm
      clear hk1 hI hu
      go_wp2_with (at_builtin; refine wpList_append_own _ rfl _ _ 22 rfl w.heap.size 5 i0 (.int .u8 0) 1 1 Tryd.underlying22 hi hz0 hz1 hz2 rfl (by decide) _ k (ys.map (Value.int .u8)) rfl (hown.alloc _) ⟨wr.heap.size, 0, none⟩ 1 1 [.int .u8 u] rfl rfl ?c1 ?c2 ?c3 ?c4 ?c5 ?_)
      case c1 =>
        intro j x hj
        match j, hj with
        | 0, hj => simp at hj; subst hj; simp [Addr.add]
      case c2 => intro x hx; simp at hx; subst hx; rfl
      case c3 => unfold maxLen; omega
      case c4 => omega
      case c5 => simp; have := hN.size; omega
      · intro v' w2 hown2 hgrow _
        have nA : Below w.heap.size w (wr.alloc (.cells #[.int .u8 u] 5)) := hN.alloc hN.size _
        have N2 : Below w.heap.size w w2 := nA.grown hgrow (by simp; have := hN.size; omega) (fun i hi => (hob i hi).1)
        have hown3 : w2.ownsRow w.heap.size 5 1 v' (k + 1) ((ys ++ [u]).map (Value.int .u8)) := by simpa using hown2
        have hl3 : Hid ((ys ++ [u]).length = k + 1) := by show _ = _; have := hyl.out; simp; omega
        have hb3 := byt_snoc hyb u c0 c1
        clear hown hown2 hgrow nA hob
        go_wp2
        go_roundw
        case rel => exact ⟨k + 1, t / 256, ys ++ [u], rfl, by omega, by omega, hk2, hI2, hl3, hb3, hown3, N2⟩
        case measure => simp [intOf]; omega
    · obtain rfl : t = 0 := by omega
      have hown' := hown
      rw [← hyl.out] at hown'
      obtain ⟨a', c', g', hv, o1, o2, o3, o4⟩ := Own.of_ownsRow hown'
      subst hv
      have L : ys.length ≤ 2 := by rw [hyl.out]; exact hk1
      have T := l1Turn_any wr g' a' c' ys o1.rd hyb (by omega)
      have HT := hide T
      clear hown hown' T
      go_wp2_with fail
      refine (unhide HT).mono ?_
      rintro e w3 ⟨zs, zt, zb, ⟨a3, c3, g3, rfl, o31, o32, o33, o34⟩, n3⟩
      have ZI := hide (InS.turn hI.out v0 v1 zt)
      clear zt hI
      have N3 := nxt hN n3
      have sz := hN.size
      go_wp2
      go_ret
      rw [← ZI.out]
      exact ⟨⟨_, _, g3, rfl, o31, o32, o33, by omega⟩, N3⟩

/-- The bytes of a number, the highest first and none of them 0. -/
def topG : Nat → Int → List Int
  | 0, _ => []
  | n + 1, v => if v ≤ 0 then [] else topG n (v / 256) ++ [v % 256]
def topF (v : Int) : List Int := topG v.toNat v
theorem topG_is : ∀ (n : Nat) (v : Int), 0 ≤ v → v.toNat ≤ n → Canon (topG n v) v
  | 0, v, h, k => by
    obtain rfl : v = 0 := by omega
    exact ⟨byt_nil, rfl, fun h => absurd h (by simp [topG])⟩
  | n + 1, v, h, k => by
    rw [topG]
    by_cases c : v ≤ 0
    · rw [if_pos c]
      obtain rfl : v = 0 := by omega
      exact ⟨byt_nil, rfl, fun h => absurd h (by simp)⟩
    · rw [if_neg c]
      obtain ⟨b, e, t⟩ := topG_is n (v / 256) (by omega) (by omega)
      refine ⟨byt_snoc b _ (by omega) (by omega), by rw [bval_snoc, e]; omega, fun _ => ?_⟩
      generalize topG n (v / 256) = ys at *
      cases ys with
      | nil =>
        have e0 : (0 : Int) = v / 256 := e
        show v % 256 ≠ 0
        omega
      | cons x xs => exact t (by simp)
theorem topF_eq {t : List Int} {v : Int} (h : Canon t v) : topF v = t := (topG_is _ _ (h.2.1 ▸ bval_nonneg h.1) (Nat.le_refl _)).uniq h
/-- A point by a number. -/
def tmP (ks xs ys : List Int) : W3 := acc dE (num xs, num ys, 1) (bitOf (topF (lsum (fun j => ks.getD j 0) ks.length))) (8 * (topF (lsum (fun j => ks.getD j 0) ks.length)).length)
def plX (p : W3) : List Int := fill (byt (p.1 * iv p.2.2 % PP)) 32
def plY (p : W3) : List Int := fill (byt (p.2.1 * iv p.2.2 % PP)) 32
def E3F (p : W3) : Fact := ⟨fun v _ => ∃ x y z, v = ag48 x y z ∧ (L16 x ∧ s16 x 16 % PP = p.1 % PP) ∧ (L16 y ∧ s16 y 16 % PP = p.2.1 % PP) ∧ (L16 z ∧ s16 z 16 % PP = p.2.2 % PP), fun _ h => h⟩
section
variable {ops : Array Oper} {Q : Exit → Act → World → Prop} {md : Region.Mode} {F : Nat → Fact} {a0 : Act} {w0 : World} {i : Nat} {o : Oper} {ts : Array TypeId}
theorem step_intV (hi : ops[i]? = some o) (p j : Nat) (v : Int) (hv : 0 ≤ v ∧ v < 65536) (hop : o.op = .call { callee := .value (.func 43), args := #[.tmp p], argTypes := ts })
    (hj : waits md ops i j p = true) (hFj : F j = Fact.eq (.int .i64 v)) (hFi : F i = RN w0 (fun xs => xs = inF v)) : StepOk Tryd.prog md ops Q F a0 w0 i := by
  refine step_call hi _ _ ts hop en_int fun a w _ hw hF => ?_
  have ea := hF j p hj
  rw [hFj] at ea
  have e1 : a.tmps.getD p undef = .int .i64 v := ea
  show Calls Tryd.prog 43 #[a.tmps.getD p undef] w _
  rw [e1]
  refine (l1IntV_any w v hv.1 hv.2).mono ?_
  rintro r w' ⟨⟨b, c, g, rfl, ow, k1, k2, hg⟩, hn⟩
  rw [hFi]
  exact ⟨_, rfl, hn, inF v, b, c, g, rfl, ow, Nat.le_trans hw.size hg, rfl, k1, k2⟩
theorem step_litV (hi : ops[i]? = some o) (p j : Nat) {zs : List Int} (hop : o.op = .call { callee := .value (.func 42), args := #[.tmp p, .const (.int .i64 32)], argTypes := ts })
    (hj : waits md ops i j p = true) (hz : Byt zs ∧ zs.length ≤ 2) (hFj : F j = RN w0 (fun xs => xs = zs)) (hFi : F i = RN w0 (fun xs => xs = fill (dig zs) 32)) : StepOk Tryd.prog md ops Q F a0 w0 i := by
  refine step_call hi _ _ ts hop en_little fun a w _ hw hF => ?_
  have ea := hF j p hj
  rw [hFj] at ea
  obtain ⟨xs, b, c, g, e1, ow, hg, rfl, k1, k2⟩ := ea
  show Calls Tryd.prog 42 #[a.tmps.getD p undef, .int .i64 32] w _
  rw [e1]
  refine (l1Little_any w g b c xs 32 ow.rd hz.1 (by omega) (by omega)).mono ?_
  rintro r w' ⟨rfl, B, hn⟩
  rw [hFi]
  exact ⟨_, rfl, hn, fill (dig xs) 32, _, 32, w.heap.size, by rw [fill_len], B.own0, hw.size, rfl, by simp, by rw [fill_len]; omega⟩
theorem step_timesV (hi : ops[i]? = some o) (p q j k : Nat) {ks f g : List Int} (hop : o.op = .call { callee := .value (.func 27), args := #[.tmp p, .tmp q], argTypes := ts })
    (hj : waits md ops i j p = true) (hk : waits md ops i k q = true) (hks : Byt ks ∧ ks.length ≤ 4096) (hf : PtOk f g) (hFj : F j = RN w0 (fun xs => xs = ks)) (hFk : F k = PT w0 (fun xs ys => xs = f ∧ ys = g)) (hFi : F i = E3F (tmP ks f g)) : StepOk Tryd.prog md ops Q F a0 w0 i := by
  refine step_call hi _ _ ts hop en_times fun a w _ _ hF => ?_
  have ea := hF j p hj
  have eb := hF k q hk
  rw [hFj] at ea
  rw [hFk] at eb
  obtain ⟨ks, b, c, h, e1, ow, _, rfl, _, _⟩ := ea
  obtain ⟨xs, ys, b1, b2, c1, c2, h1, h2, e2, o1, o2, _, _, rfl, rfl⟩ := eb
  show Calls Tryd.prog 27 #[a.tmps.getD p undef, a.tmps.getD q undef] w _
  rw [e1, e2]
  refine (l5Times_any w h h1 h2 b b1 b2 c c1 c2 ks xs ys ow.rd hks.1 hks.2 o1.rd o2.rd hf.1.1 hf.2.1 hf.1.2 hf.2.2).mono ?_
  rintro r w' ⟨top, P, x, y, z, hc, hP, rfl, hx, hy, hz, hn⟩
  rw [hFi]
  have e : tmP ks xs ys = P := by unfold tmP; rw [topF_eq hc, hP]
  rw [e]
  exact ⟨_, rfl, hn, x, y, z, rfl, hx, hy, hz⟩
theorem step_plainV (hi : ops[i]? = some o) (p j : Nat) {P : W3} (hop : o.op = .call { callee := .value (.func 26), args := #[.tmp p], argTypes := ts })
    (hj : waits md ops i j p = true) (hFj : F j = E3F P) (hFi : F i = PT w0 (fun xs ys => xs = plX P ∧ ys = plY P)) : StepOk Tryd.prog md ops Q F a0 w0 i := by
  refine step_call hi _ _ ts hop en_plain fun a w _ hw hF => ?_
  have ea := hF j p hj
  rw [hFj] at ea
  obtain ⟨x, y, z, e1, hx, hy, hz⟩ := ea
  show Calls Tryd.prog 26 #[a.tmps.getD p undef] w _
  rw [e1]
  refine (l5Plain_any w x y z _ _ _ hx hy hz).mono ?_
  rintro r w' ⟨⟨b, b', c, c', g, g', rfl, o1, o2, l1, l2⟩, hn⟩
  rw [hFi]
  exact ⟨_, rfl, hn, _, _, b, b', c, c', g, g', rfl, o1, o2, Nat.le_trans hw.size l1, Nat.le_trans hw.size l2, rfl, rfl⟩
theorem step_zeroV (hi : ops[i]? = some o) (hop : o.op = .call { callee := .value (.func 106), args := #[], argTypes := ts }) (hFi : F i = PT w0 (fun xs ys => xs = fill (byt (0 % PP)) 32 ∧ ys = fill (byt (1 % PP)) 32)) : StepOk Tryd.prog md ops Q F a0 w0 i := by
  refine step_call hi _ _ ts hop en_zero fun a w _ hw _ => ?_
  refine (pointZero_any w).mono ?_
  rintro r w' ⟨⟨b, b', c, c', g, g', rfl, o1, o2, l1, l2⟩, hn⟩
  rw [hFi]
  exact ⟨_, rfl, hn, _, _, b, b', c, c', g, g', rfl, o1, o2, Nat.le_trans hw.size l1, Nat.le_trans hw.size l2, rfl, rfl⟩
end
def sqA : Int := ((1) + (rootV ((1) + (dE)))) * (iv (dE))
def sqB : Int := ((1) - (rootV ((1) + (dE)))) * (iv (dE))
def ptA : List Int × List Int := (fill (byt (rootV sqA % PP)) 32, fill (byt (rootV sqA * rootV (0 - 1) % PP)) 32)
def ptB : List Int × List Int := (fill (byt (rootV sqB % PP)) 32, fill (byt (rootV sqB * rootV (0 - 1) % PP)) 32)
theorem ptA_ok : PtOk ptA.1 ptA.2 := ⟨⟨bytes_5 _ _, fill_len _ _⟩, bytes_5 _ _, fill_len _ _⟩
theorem ptB_ok : PtOk ptB.1 ptB.2 := ⟨⟨bytes_5 _ _, fill_len _ _⟩, bytes_5 _ _, fill_len _ _⟩
/-- One of the eight small points. -/
def smP (k : Int) : List Int × List Int :=
  if rootB sqA = true then (plX (tmP (fill (dig (inF k)) 32) ptA.1 ptA.2), plY (tmP (fill (dig (inF k)) 32) ptA.1 ptA.2))
  else if rootB sqB = true then (plX (tmP (fill (dig (inF k)) 32) ptB.1 ptB.2), plY (tmP (fill (dig (inF k)) 32) ptB.1 ptB.2))
  else (fill (byt (0 % PP)) 32, fill (byt (1 % PP)) 32)
theorem pl_ok (p : W3) : PtOk (plX p) (plY p) := ⟨⟨bytes_5 _ _, fill_len _ _⟩, bytes_5 _ _, fill_len _ _⟩
theorem smP_ok (k : Int) : PtOk (smP k).1 (smP k).2 := by
  unfold smP
  generalize rootB sqA = p
  generalize rootB sqB = q
  cases p
  · cases q
    · exact ⟨⟨bytes_5 _ _, fill_len _ _⟩, bytes_5 _ _, fill_len _ _⟩
    · exact pl_ok _
  · exact pl_ok _
set_option maxHeartbeats 4000000 in
theorem l5SmallV_any (w : World) (k : Int) (k0 : 0 ≤ k) (k1 : k ≤ 255) :
    Calls Tryd.prog 83 #[.int .i64 k] w fun r w' => NewPt w.heap.size w' r (smP k).1 (smP k).2 ∧ Below w.heap.size w w' := by
  go_enter Tryd.func83, Tryd.ntmps83
  go_upto_region 1 with fail
  change Code.wp _ _ _ _ (w.alloc pObj)
  have TR := there_p w
  have N : Below w.heap.size w (w.alloc pObj) := (Below.refl _ _).alloc (Nat.le_refl _) _
  generalize w.alloc pObj = wr at *
  have zr := there_lt (by omega) TR
  refine region_new16 2 1 0 3 10 _ (fun i => [EL dE, NB wr 16].getD i Fact.no) (dE) (by kernel_rfl) rfl rfl rfl (by kernel_rfl) (by kernel_rfl) rfl rfl ?_ ?_
  · intro i hi
    obtain rfl | rfl : i = 0 ∨ i = 1 := by omega
    · exact step_d rfl rfl rfl
    · exact step_new16 rfl rfl rfl
  intro vs1 q3 W1 v3 h3 n1 E3' T3
  have mn1 := n1.size
  replace TR := there_up (by omega) TR n1
  replace N := nxt N n1
  clear n1 T3
  simp only [puts, v3, Act.put, List.setIfInBounds_toArray, List.set_cons_succ, List.set_cons_zero]
  clear v3
  go_upto_region 2 with fail
  refine region_new16 9 7 6 5 17 _ (fun i => [EL 0, EL 1, EL ((0) - (1)), RT ((0) - (1)), RT ((0) - (1)), Fact.eq (.bool (rootB ((0) - (1)))), EL (rootV ((0) - (1))), NB W1 16, Fact.eq (.bool (rootB ((0) - (1))))].getD i Fact.no) (rootV ((0) - (1))) (by kernel_rfl) rfl rfl rfl (by kernel_rfl) (by kernel_rfl) rfl rfl ?_ ?_
  · intro i hi
    obtain rfl | rfl | rfl | rfl | rfl | rfl | rfl | rfl | rfl : i = 0 ∨ i = 1 ∨ i = 2 ∨ i = 3 ∨ i = 4 ∨ i = 5 ∨ i = 6 ∨ i = 7 ∨ i = 8 := by omega
    · exact step_small rfl 0 (by omega) rfl rfl
    · exact step_small rfl 1 (by omega) rfl rfl
    · exact step_sub rfl 12 13 0 1 _ _ rfl (by kernel_rfl) (by kernel_rfl) rfl rfl rfl
    · exact step_root rfl 14 2 _ rfl (by kernel_rfl) rfl rfl
    · exact step_move rfl 15 3 (by exact Or.inl rfl) (by kernel_rfl) rfl
    · exact step_ext0 rfl 11 4 _ rfl (by kernel_rfl) rfl rfl
    · exact step_ext1 rfl 11 4 _ rfl (by kernel_rfl) rfl rfl
    · exact step_new16 rfl rfl rfl
    · exact step_move rfl 16 5 (by exact Or.inr rfl) (by kernel_rfl) rfl
  intro vs2 q5 W2 v5 h5 n2 E5 T5
  have y5 := E5.lt
  have mn2 := n2.size
  replace E3' := E3'.up n2
  replace TR := there_up (by omega) TR n2
  replace N := nxt N n2
  clear n2 T5
  simp only [puts, v5, Act.put, List.setIfInBounds_toArray, List.set_cons_succ, List.set_cons_zero]
  clear v5
  go_upto_region 3 with fail
  refine region_new16 9 7 6 7 24 _ (fun i => [EL 1, EL (dE), EL ((1) + (dE)), RT ((1) + (dE)), RT ((1) + (dE)), Fact.eq (.bool (rootB ((1) + (dE)))), EL (rootV ((1) + (dE))), NB W2 16, Fact.eq (.bool (rootB ((1) + (dE))))].getD i Fact.no) (rootV ((1) + (dE))) (by kernel_rfl) rfl rfl rfl (by kernel_rfl) (by kernel_rfl) rfl rfl ?_ ?_
  · intro i hi
    obtain rfl | rfl | rfl | rfl | rfl | rfl | rfl | rfl | rfl : i = 0 ∨ i = 1 ∨ i = 2 ∨ i = 3 ∨ i = 4 ∨ i = 5 ∨ i = 6 ∨ i = 7 ∨ i = 8 := by omega
    · exact step_small rfl 1 (by omega) rfl rfl
    · exact step_el rfl 43 3 rfl Go.Proofs.YtnaaanefndeafaaDoor.u50 i50 (by kernel_rfl) _ _ rfl _ E3' rfl
    · exact step_add rfl 19 20 0 1 _ _ rfl (by kernel_rfl) (by kernel_rfl) rfl rfl rfl
    · exact step_root rfl 21 2 _ rfl (by kernel_rfl) rfl rfl
    · exact step_move rfl 22 3 (by exact Or.inl rfl) (by kernel_rfl) rfl
    · exact step_ext0 rfl 18 4 _ rfl (by kernel_rfl) rfl rfl
    · exact step_ext1 rfl 18 4 _ rfl (by kernel_rfl) rfl rfl
    · exact step_new16 rfl rfl rfl
    · exact step_move rfl 23 5 (by exact Or.inr rfl) (by kernel_rfl) rfl
  intro vs3 q7 W3' v7 h7 n3 E7 T7
  have mn3 := n3.size
  replace E3' := E3'.up n3
  replace E5 := E5.up n3
  replace TR := there_up (by omega) TR n3
  replace N := nxt N n3
  clear n3 T7
  simp only [puts, v7, Act.put, List.setIfInBounds_toArray, List.set_cons_succ, List.set_cons_zero]
  clear v7
  go_upto_region 4 with fail
  refine region_new16F 12 10 9 9 34 _ (fun i => [EL 1, EL (rootV ((1) + (dE))), EL ((1) + (rootV ((1) + (dE)))), EL (dE), EL (iv (dE)), EL (sqA), RT (sqA), RT (sqA), Fact.eq (.bool (rootB (sqA))), EL (rootV (sqA)), NB W3' 16, Fact.eq (.bool (rootB (sqA)))].getD i Fact.no) (rootV (sqA)) (by kernel_rfl) rfl rfl rfl (by kernel_rfl) (by kernel_rfl) rfl rfl ?_ ?_
  · intro i hi
    obtain rfl | rfl | rfl | rfl | rfl | rfl | rfl | rfl | rfl | rfl | rfl | rfl : i = 0 ∨ i = 1 ∨ i = 2 ∨ i = 3 ∨ i = 4 ∨ i = 5 ∨ i = 6 ∨ i = 7 ∨ i = 8 ∨ i = 9 ∨ i = 10 ∨ i = 11 := by omega
    · exact step_small rfl 1 (by omega) rfl rfl
    · exact step_el rfl 43 7 rfl Go.Proofs.YtnaaanefndeafaaDoor.u50 i50 (by kernel_rfl) _ _ rfl _ E7 rfl
    · exact step_add rfl 26 27 0 1 _ _ rfl (by kernel_rfl) (by kernel_rfl) rfl rfl rfl
    · exact step_el rfl 43 3 rfl Go.Proofs.YtnaaanefndeafaaDoor.u50 i50 (by kernel_rfl) _ _ rfl _ E3' rfl
    · exact step_inv rfl 29 3 _ rfl (by kernel_rfl) rfl rfl
    · exact step_mul rfl 28 30 2 4 _ _ rfl (by kernel_rfl) (by kernel_rfl) rfl rfl rfl
    · exact step_root rfl 31 5 _ rfl (by kernel_rfl) rfl rfl
    · exact step_move rfl 32 6 (by exact Or.inl rfl) (by kernel_rfl) rfl
    · exact step_ext0 rfl 25 7 _ rfl (by kernel_rfl) rfl rfl
    · exact step_ext1 rfl 25 7 _ rfl (by kernel_rfl) rfl rfl
    · exact step_new16 rfl rfl rfl
    · exact step_move rfl 33 8 (by exact Or.inr rfl) (by kernel_rfl) rfl
  intro vs4 q9 W4 v9 h9 n4 E9 T9 hF
  obtain ⟨_, v8⟩ := hF 11 8 (by kernel_rfl)
  clear hF
  have mn4 := n4.size
  replace E3' := E3'.up n4
  replace E5 := E5.up n4
  replace E7 := E7.up n4
  replace TR := there_up (by omega) TR n4
  replace N := nxt N n4
  have y9 := E9.lt
  have y3 := E3'.lt
  have r5 : q5 ≠ q9 := by omega
  clear n4
  change vs4 8 = .bool (rootB _) at v8
  simp only [puts, v9, v8, Act.put, List.setIfInBounds_toArray, List.set_cons_succ, List.set_cons_zero]
  clear v9 v8
  cases hA : rootB (sqA) with
  | true =>
    have HS : Hid (smP k = (plX (tmP (fill (dig (inF k)) 32) ptA.1 ptA.2), plY (tmP (fill (dig (inF k)) 32) ptA.1 ptA.2))) := by show _ = _; unfold smP; rw [if_pos hA]
    clear hA
    go_upto_region 9 with fail
    refine region_putP 12 11 2 61 _ (fun i => [Fact.eq (.int .i64 k), RN W4 (fun xs => xs = inF k), RN W4 (fun xs => xs = fill (dig (inF k)) 32), EL (rootV (sqA)), RN W4 (fun xs => xs = fill (byt ((rootV (sqA)) % PP)) 32), EL (rootV (sqA)), EL (rootV ((0) - (1))), EL ((rootV (sqA)) * (rootV ((0) - (1)))), RN W4 (fun xs => xs = fill (byt (((rootV (sqA)) * (rootV ((0) - (1)))) % PP)) 32), PT W4 (fun xs ys => xs = fill (byt ((rootV (sqA)) % PP)) 32 ∧ ys = fill (byt (((rootV (sqA)) * (rootV ((0) - (1)))) % PP)) 32), E3F (tmP (fill (dig (inF k)) 32) ptA.1 ptA.2), PT W4 (fun xs ys => xs = plX (tmP (fill (dig (inF k)) 32) ptA.1 ptA.2) ∧ ys = plY (tmP (fill (dig (inF k)) 32) ptA.1 ptA.2))].getD i Fact.no) (fun xs ys => xs = plX (tmP (fill (dig (inF k)) 32) ptA.1 ptA.2) ∧ ys = plY (tmP (fill (dig (inF k)) 32) ptA.1 ptA.2)) _ (by kernel_rfl) rfl rfl rfl (by kernel_rfl) rfl TR (by kernel_rfl) rfl ?_ ?_
    · intro i hi
      obtain rfl | rfl | rfl | rfl | rfl | rfl | rfl | rfl | rfl | rfl | rfl | rfl : i = 0 ∨ i = 1 ∨ i = 2 ∨ i = 3 ∨ i = 4 ∨ i = 5 ∨ i = 6 ∨ i = 7 ∨ i = 8 ∨ i = 9 ∨ i = 10 ∨ i = 11 := by omega
      · exact step_mv0 rfl 0 (by kernel_rfl) (by kernel_rfl) rfl rfl
      · exact step_intV rfl 50 0 k ⟨k0, by omega⟩ rfl (by kernel_rfl) rfl rfl
      · exact step_litV rfl 51 1 rfl (by kernel_rfl) (inF_byt k0 (by omega)) rfl rfl
      · exact step_el rfl 43 9 rfl Go.Proofs.YtnaaanefndeafaaDoor.u50 i50 (by kernel_rfl) _ _ rfl _ E9 rfl
      · exact step_bytes rfl 53 3 _ rfl (by kernel_rfl) rfl rfl
      · exact step_el rfl 43 9 rfl Go.Proofs.YtnaaanefndeafaaDoor.u50 i50 (by kernel_rfl) _ _ rfl _ E9 rfl
      · exact step_el rfl 43 5 rfl Go.Proofs.YtnaaanefndeafaaDoor.u50 i50 (by kernel_rfl) _ _ rfl _ E5 rfl
      · exact step_mul rfl 55 56 5 6 _ _ rfl (by kernel_rfl) (by kernel_rfl) rfl rfl rfl
      · exact step_bytes rfl 57 7 _ rfl (by kernel_rfl) rfl rfl
      · exact step_bp rfl 54 58 4 8 _ _ rfl (by kernel_rfl) (by kernel_rfl) rfl rfl rfl
      · exact step_timesV rfl 52 59 2 9 rfl (by kernel_rfl) (by kernel_rfl) ⟨dig_bytes_5 (inF_byt k0 (by omega)).1 32, by rw [fill_len]; omega⟩ ptA_ok rfl rfl rfl
      · exact step_plainV rfl 60 10 rfl (by kernel_rfl) rfl rfl
    rintro vs9 W W' xs ys a a' c c' g g' n bq rg o1 o2 l1 l2 ⟨rfl, rfl⟩ nb
    have NS := nb w w.heap.size (nxt N n) (by omega)
    simp only [puts, Act.put, List.setIfInBounds_toArray, List.set_cons_succ, List.set_cons_zero]
    have z1 := N.size
    clear N n bq nb TR
    go_wp2
    obtain ⟨fs, hfs⟩ := uP
    exact bodyPost_ret (v := .agg #[_, _]) (results_cell_mid Tryd.results83 _ _ w.heap.size _ _ rfl rg hfs rfl iP) rfl ⟨by rw [HS.out]; exact ⟨a, a', c, c', g, g', rfl, o1, o2, by omega, by omega⟩, NS⟩
  | false =>
    have HA := hide hA
    clear hA
    go_upto_region 6 with fail
    refine region_put16F 11 9 9 46 _ (fun i => [EL 1, EL (rootV ((1) + (dE))), EL ((1) - (rootV ((1) + (dE)))), EL (dE), EL (iv (dE)), EL (sqB), RT (sqB), RT (sqB), Fact.eq (.bool (rootB (sqB))), EL (rootV (sqB)), Fact.eq (.bool (rootB (sqB)))].getD i Fact.no) (rootV (sqB)) _ (by kernel_rfl) rfl rfl rfl (by kernel_rfl) rfl T9 (by kernel_rfl) rfl ?_ ?_
    · intro i hi
      obtain rfl | rfl | rfl | rfl | rfl | rfl | rfl | rfl | rfl | rfl | rfl : i = 0 ∨ i = 1 ∨ i = 2 ∨ i = 3 ∨ i = 4 ∨ i = 5 ∨ i = 6 ∨ i = 7 ∨ i = 8 ∨ i = 9 ∨ i = 10 := by omega
      · exact step_small rfl 1 (by omega) rfl rfl
      · exact step_el rfl 43 7 rfl Go.Proofs.YtnaaanefndeafaaDoor.u50 i50 (by kernel_rfl) _ _ rfl _ E7 rfl
      · exact step_sub rfl 38 39 0 1 _ _ rfl (by kernel_rfl) (by kernel_rfl) rfl rfl rfl
      · exact step_el rfl 43 3 rfl Go.Proofs.YtnaaanefndeafaaDoor.u50 i50 (by kernel_rfl) _ _ rfl _ E3' rfl
      · exact step_inv rfl 41 3 _ rfl (by kernel_rfl) rfl rfl
      · exact step_mul rfl 40 42 2 4 _ _ rfl (by kernel_rfl) (by kernel_rfl) rfl rfl rfl
      · exact step_root rfl 43 5 _ rfl (by kernel_rfl) rfl rfl
      · exact step_move rfl 44 6 (by exact Or.inl rfl) (by kernel_rfl) rfl
      · exact step_ext0 rfl 37 7 _ rfl (by kernel_rfl) rfl rfl
      · exact step_ext1 rfl 37 7 _ rfl (by kernel_rfl) rfl rfl
      · exact step_move rfl 45 8 (by exact Or.inr rfl) (by kernel_rfl) rfl
    intro vs6 Wa W6 na bq E9n T9n nb hF
    obtain ⟨_, v8⟩ := hF 10 8 (by kernel_rfl)
    clear hF
    replace TR := there_but (by omega) TR bq (by omega)
    replace E5 := E5.but bq r5
    replace N := nb w w.heap.size (nxt N na) (by omega)
    clear bq nb na E9 E7 E3'
    have E9 := E9n
    change vs6 8 = .bool (rootB _) at v8
    simp only [puts, v8, Act.put, List.setIfInBounds_toArray, List.set_cons_succ, List.set_cons_zero]
    clear v8
    cases hB : rootB (sqB) with
    | true =>
      have HS : Hid (smP k = (plX (tmP (fill (dig (inF k)) 32) ptB.1 ptB.2), plY (tmP (fill (dig (inF k)) 32) ptB.1 ptB.2))) := by show _ = _; unfold smP; rw [if_neg (by rw [HA.out]; simp), if_pos hB]
      clear hB HA
      go_upto_region 9 with fail
      refine region_putP 12 11 2 61 _ (fun i => [Fact.eq (.int .i64 k), RN W6 (fun xs => xs = inF k), RN W6 (fun xs => xs = fill (dig (inF k)) 32), EL (rootV (sqB)), RN W6 (fun xs => xs = fill (byt ((rootV (sqB)) % PP)) 32), EL (rootV (sqB)), EL (rootV ((0) - (1))), EL ((rootV (sqB)) * (rootV ((0) - (1)))), RN W6 (fun xs => xs = fill (byt (((rootV (sqB)) * (rootV ((0) - (1)))) % PP)) 32), PT W6 (fun xs ys => xs = fill (byt ((rootV (sqB)) % PP)) 32 ∧ ys = fill (byt (((rootV (sqB)) * (rootV ((0) - (1)))) % PP)) 32), E3F (tmP (fill (dig (inF k)) 32) ptB.1 ptB.2), PT W6 (fun xs ys => xs = plX (tmP (fill (dig (inF k)) 32) ptB.1 ptB.2) ∧ ys = plY (tmP (fill (dig (inF k)) 32) ptB.1 ptB.2))].getD i Fact.no) (fun xs ys => xs = plX (tmP (fill (dig (inF k)) 32) ptB.1 ptB.2) ∧ ys = plY (tmP (fill (dig (inF k)) 32) ptB.1 ptB.2)) _ (by kernel_rfl) rfl rfl rfl (by kernel_rfl) rfl TR (by kernel_rfl) rfl ?_ ?_
      · intro i hi
        obtain rfl | rfl | rfl | rfl | rfl | rfl | rfl | rfl | rfl | rfl | rfl | rfl : i = 0 ∨ i = 1 ∨ i = 2 ∨ i = 3 ∨ i = 4 ∨ i = 5 ∨ i = 6 ∨ i = 7 ∨ i = 8 ∨ i = 9 ∨ i = 10 ∨ i = 11 := by omega
        · exact step_mv0 rfl 0 (by kernel_rfl) (by kernel_rfl) rfl rfl
        · exact step_intV rfl 50 0 k ⟨k0, by omega⟩ rfl (by kernel_rfl) rfl rfl
        · exact step_litV rfl 51 1 rfl (by kernel_rfl) (inF_byt k0 (by omega)) rfl rfl
        · exact step_el rfl 43 9 rfl Go.Proofs.YtnaaanefndeafaaDoor.u50 i50 (by kernel_rfl) _ _ rfl _ E9 rfl
        · exact step_bytes rfl 53 3 _ rfl (by kernel_rfl) rfl rfl
        · exact step_el rfl 43 9 rfl Go.Proofs.YtnaaanefndeafaaDoor.u50 i50 (by kernel_rfl) _ _ rfl _ E9 rfl
        · exact step_el rfl 43 5 rfl Go.Proofs.YtnaaanefndeafaaDoor.u50 i50 (by kernel_rfl) _ _ rfl _ E5 rfl
        · exact step_mul rfl 55 56 5 6 _ _ rfl (by kernel_rfl) (by kernel_rfl) rfl rfl rfl
        · exact step_bytes rfl 57 7 _ rfl (by kernel_rfl) rfl rfl
        · exact step_bp rfl 54 58 4 8 _ _ rfl (by kernel_rfl) (by kernel_rfl) rfl rfl rfl
        · exact step_timesV rfl 52 59 2 9 rfl (by kernel_rfl) (by kernel_rfl) ⟨dig_bytes_5 (inF_byt k0 (by omega)).1 32, by rw [fill_len]; omega⟩ ptB_ok rfl rfl rfl
        · exact step_plainV rfl 60 10 rfl (by kernel_rfl) rfl rfl
      rintro vs9 W W' xs ys a a' c c' g g' n bq rg o1 o2 l1 l2 ⟨rfl, rfl⟩ nb
      have NS := nb w w.heap.size (nxt N n) (by omega)
      simp only [puts, Act.put, List.setIfInBounds_toArray, List.set_cons_succ, List.set_cons_zero]
      have z1 := N.size
      clear N n bq nb TR
      go_wp2
      obtain ⟨fs, hfs⟩ := uP
      exact bodyPost_ret (v := .agg #[_, _]) (results_cell_mid Tryd.results83 _ _ w.heap.size _ _ rfl rg hfs rfl iP) rfl ⟨by rw [HS.out]; exact ⟨a, a', c, c', g, g', rfl, o1, o2, by omega, by omega⟩, NS⟩
    | false =>
      have HS : Hid (smP k = (fill (byt (0 % PP)) 32, fill (byt (1 % PP)) 32)) := by show _ = _; unfold smP; rw [if_neg (by rw [HA.out]; simp), if_neg (by rw [hB]; simp)]
      clear hB HA
      go_upto_region 8 with fail
      refine region_putP 1 0 2 49 _ (fun i => [PT W6 (fun xs ys => xs = fill (byt (0 % PP)) 32 ∧ ys = fill (byt (1 % PP)) 32)].getD i Fact.no) (fun xs ys => xs = fill (byt (0 % PP)) 32 ∧ ys = fill (byt (1 % PP)) 32) _ (by kernel_rfl) rfl rfl rfl (by kernel_rfl) rfl TR (by kernel_rfl) rfl ?_ ?_
      · intro i hi
        obtain rfl : i = 0 := by omega
        exact step_zeroV rfl rfl rfl
      rintro vs9 W W' xs ys a a' c c' g g' n bq rg o1 o2 l1 l2 ⟨rfl, rfl⟩ nb
      have NS := nb w w.heap.size (nxt N n) (by omega)
      simp only [puts, Act.put, List.setIfInBounds_toArray, List.set_cons_succ, List.set_cons_zero]
      have z1 := N.size
      clear N n bq nb TR
      go_wp2
      obtain ⟨fs, hfs⟩ := uP
      exact bodyPost_ret (v := .agg #[_, _]) (results_cell_mid Tryd.results83 _ _ w.heap.size _ _ rfl rg hfs rfl iP) rfl ⟨by rw [HS.out]; exact ⟨a, a', c, c', g, g', rfl, o1, o2, by omega, by omega⟩, NS⟩
end Go.Proofs.YtnaaanefndeafaaDoor

/-
  The model's l5Find.
-/
namespace Go.Proofs.YtnaaanefndeafaaDoor
set_option maxRecDepth 100000
open Go Go.RowKit

def inc0 (ys : List Int) : List Int := ys.set 0 ((ys.getD 0 0 + 1) % 256)
/-- The first point at or behind these bytes. -/
def fdP : Nat → List Int → List Int × List Int
  | 0, _ => (liX (4 * iv 5) false, liY (4 * iv 5) false)
  | n + 1, ys => if dcB ys = true then (dcX ys, dcY ys) else fdP n (inc0 ys)
theorem inc0_byt {ys : List Int} (h : Byt ys) : Byt (inc0 ys) := by
  intro i
  unfold inc0
  have := h i
  by_cases e : i = 0
  · subst e
    by_cases l : 0 < ys.length
    · simp [List.getD_eq_getElem?_getD, l]
      omega
    · simp [List.getD_eq_getElem?_getD, l]
  · rw [List.getD_eq_getElem?_getD, List.getElem?_set_ne (by omega), ← List.getD_eq_getElem?_getD]
    exact this
theorem inc0_len (ys : List Int) : (inc0 ys).length = ys.length := by unfold inc0; simp
theorem Two.of_block' {w w' : World} {p : Nat} {x y : Value} (h : Two w p x y) (hb : w'.heap[p]? = w.heap[p]?) : Two w' p x y :=
  ⟨(World.cell?_of_block (a := ⟨p, 0, none⟩) hb).trans h.c0, (World.cell?_of_block (a := ⟨p, 1, none⟩) hb).trans h.c1, (World.frozen?_of_block (a := ⟨p, 0, none⟩) hb).trans h.f0, (World.frozen?_of_block (a := ⟨p, 1, none⟩) hb).trans h.f1⟩
set_option maxHeartbeats 4000000 in
theorem l5Find_any (w : World) (g off c : Nat) (bs : List Int) (ho : Own w g (some ⟨g, off, none⟩) .u8 bs) (hb : Byt bs) (hl : bs.length = 32) :
    Calls Tryd.prog 86 #[.slice (some ⟨g, off, none⟩) 32 c] w fun r w' => NewPt w.heap.size w' r (fdP 40 bs).1 (fdP 40 bs).2 ∧ But g w w' := by
  have TZ : Two (w.alloc pObj) w.heap.size (.slice none 0 0) (.slice none 0 0) := Two.new w (.slice none 0 0) (.slice none 0 0) 26
  have N : But g w (w.alloc pObj) := But.ofBelow ((Below.refl _ _).alloc (Nat.le_refl _) _)
  have hg := ho.rd.lt (by omega)
  have ho := ho.up ((Below.refl _ _).alloc (Nat.le_refl _) pObj)
  obtain ⟨R, hR⟩ : ∃ R, R = fdP 40 bs := ⟨_, rfl⟩
  rw [← hR]
  go_enter Tryd.func86, Tryd.ntmps86
  go_upto_region 1 with fail
  change Code.wp _ _ _ _ (w.alloc pObj)
  generalize w.alloc pObj = wz at *
  go_wp2
  go_loopw [3] (fun i wr => ∃ (k : Nat) (ys : List Int), k ≤ 40 ∧ i = .int .i64 k ∧ Hid (R = fdP (40 - k) ys) ∧ Hid (ys.length = 32) ∧ Byt ys ∧ Own wr g (some ⟨g, off, none⟩) .u8 ys ∧ Two wr w.heap.size (.slice none 0 0) (.slice none 0 0) ∧ But g w wr) (fun i _ => 40 - (intOf i).toNat)
  case atStart => exact ⟨0, bs, by omega, rfl, hR, hl, hb, ho, TZ, N⟩
  case round =>
    obtain ⟨k, ys, hk, rfl, HR, HL, yb, yo, T2, NB⟩ := hrel
    by_cases hlt : k < 40
    · have DC := hide (specDecode_any wr g (some ⟨g, off, none⟩) c ys yo.rd yb (fun h => nomatch h))
      have zb := NB.size
      have zt := T2.lt
      rw [HL.out] at DC
      have HS : Hid (R = if dcB ys = true then (dcX ys, dcY ys) else fdP (40 - (k + 1)) (inc0 ys)) := by
        show _ = _
        rw [HR.out, show 40 - k = (40 - (k + 1)) + 1 by omega]
        rfl
      clear HR
      go_wp2_with fail
      refine DC.out.mono ?_
      rintro r w1 ⟨⟨a1, a1', c1, c1', g1, g1', rfl, o1, o1', l1, l1'⟩, n1⟩
      have z1 := n1.size
      replace yo := yo.up n1
      replace T2 := T2.up n1
      have TT := Tri.new w1 (.bool (dcB ys)) (.slice a1 (dcX ys).length c1) (.slice a1' (dcY ys).length c1') 37
      have n2 : Below w1.heap.size w1 (w1.alloc (.cells #[.bool (dcB ys), .slice a1 (dcX ys).length c1, .slice a1' (dcY ys).length c1'] 37)) := (Below.refl _ _).alloc (Nat.le_refl _) _
      replace yo := yo.up n2
      replace T2 := T2.up n2
      replace o1 := o1.up n2
      replace o1' := o1'.up n2
      replace NB := (NB.trans (But.ofBelow n1)).trans (But.ofBelow n2)
      have z2 := n2.size
      clear n1 n2 DC
      cases hd : dcB ys with
      | true =>
        have HR : Hid (R = (dcX ys, dcY ys)) := by show _ = _; rw [HS.out, if_pos hd]
        rw [hd] at TT z2 yo T2 o1 o1' NB
        clear HS hd
        obtain ⟨t0, t1, t2, u0, u1, u2⟩ := TT
        obtain ⟨y0, y1, v0, v1⟩ := T2
        generalize dcX ys = X at *
        generalize dcY ys = Y at *
        have O := fun W => (Only.setCell W w.heap.size 0 (.slice a1 X.length c1)).trans (Only.setCell _ w.heap.size 1 (.slice a1' Y.length c1'))
        go_wp2
        generalize w1.alloc (.cells #[.bool true, .slice a1 X.length c1, .slice a1' Y.length c1'] 37) = W at *
        refine bodyPost_ret (v := .agg #[.slice a1 X.length c1, .slice a1' Y.length c1']) (by simp [results, Tryd.results86, go_sem, y0, y1]) rfl ⟨?_, (NB.setCell (Nat.le_refl _)).setCell (Nat.le_refl _)⟩
        rw [HR.out]
        exact ⟨a1, a1', c1, c1', g1, g1', rfl, o1.only (O W) (fun _ => by omega), o1'.only (O W) (fun _ => by omega), by omega, by omega⟩
      | false =>
        have HR : Hid (R = fdP (40 - (k + 1)) (inc0 ys)) := by show _ = _; rw [HS.out, if_neg (by rw [hd]; simp)]
        rw [hd] at TT z2 yo T2 o1 o1' NB
        clear HS hd
        obtain ⟨t0, t1, t2, u0, u1, u2⟩ := TT
        obtain ⟨off', he, hc⟩ := id yo (by rw [HL.out]; decide)
        obtain rfl : off = off' := by simpa using he
        have x0 := (hc 0 (by rw [HL.out]; decide)).1
        have f0 := (hc 0 (by rw [HL.out]; decide)).2
        rw [Nat.add_zero] at x0 f0
        have b0 := yb 0
        have S1 := yo.store 0 (by rw [HL.out]; decide) ((ys.getD 0 0 + 1) % 256)
        rw [Nat.add_zero] at S1
        have IB := inc0_byt yb
        have IL := hide ((inc0_len ys).trans HL.out)
        have SO : Hid (Own ((w1.alloc (.cells #[.bool false, .slice a1 (dcX ys).length c1, .slice a1' (dcY ys).length c1'] 37)).setCell ⟨g, off, none⟩ (.int .u8 ((ys.getD 0 0 + 1) % 256))) g (some ⟨g, off, none⟩) .u8 (inc0 ys)) := S1
        clear S1 hc he yo o1 o1'
        generalize inc0 ys = zs at *
        generalize ys.getD 0 0 = y at *
        go_wp2
        go_roundw
        case rel => exact ⟨k + 1, zs, by omega, by go_num, HR, IL, IB, SO.out, T2.of_block' (heap_setCell_other _ ⟨g, off, none⟩ w.heap.size _ (by show w.heap.size ≠ g; omega)), NB.only (Only.setCell _ g off _)⟩
        case measure => simp [intOf]; omega
    · obtain rfl : k = 40 := by omega
      have HB : Hid (R = (liX (4 * iv 5) false, liY (4 * iv 5) false)) := HR.out
      have zt := T2.lt
      clear HR
      have SB := hide (specBase_any wr)
      generalize liX (4 * iv 5) false = X at *
      generalize liY (4 * iv 5) false = Y at *
      go_wp2_with fail
      refine SB.out.mono ?_
      rintro r w1 ⟨⟨a1, a1', c1, c1', g1, g1', rfl, o1, o1', l1, l1'⟩, n1⟩
      have T3 := T2.up n1
      have N3 := NB.trans (But.ofBelow n1)
      obtain ⟨y0, y1, v0, v1⟩ := T3
      have O := (Only.setCell w1 w.heap.size 0 (.slice a1 X.length c1)).trans (Only.setCell _ w.heap.size 1 (.slice a1' Y.length c1'))
      go_wp2
      refine bodyPost_ret (v := .agg #[.slice a1 X.length c1, .slice a1' Y.length c1']) (by simp [results, Tryd.results86, go_sem, y0, y1]) rfl ⟨?_, (N3.setCell (Nat.le_refl _)).setCell (Nat.le_refl _)⟩
      rw [HB.out]
      exact ⟨a1, a1', c1, c1', g1, g1', rfl, o1.only O (fun _ => by omega), o1'.only O (fun _ => by omega), by omega, by omega⟩
end Go.Proofs.YtnaaanefndeafaaDoor

/-
  The model's l5Draw, told as a value.
-/
namespace Go.Proofs.YtnaaanefndeafaaDoor
set_option maxRecDepth 100000
open Go Go.RowKit

theorem li_byt (A : Int) (odd : Bool) : Byt (liX A odd) ∧ Byt (liY A odd) := by
  unfold liX liY
  split
  · exact ⟨bytes_5 _ _, bytes_5 _ _⟩
  · exact ⟨byt_nil, byt_nil⟩
theorem Two.put0 {w : World} {p : Nat} {x y : Value} (h : Two w p x y) (u : Value) : Two (w.setCell ⟨p, 0, none⟩ u) p u y :=
  ⟨World.cell?_setCell_same _ _ _ h.c0, by rw [World.cell?_setCell_other (h := by simp)]; exact h.c1, by rw [World.frozen?_setCell]; exact h.f0, by rw [World.frozen?_setCell]; exact h.f1⟩
theorem Two.put1 {w : World} {p : Nat} {x y : Value} (h : Two w p x y) (u : Value) : Two (w.setCell ⟨p, 1, none⟩ u) p x u :=
  ⟨by rw [World.cell?_setCell_other (h := by simp)]; exact h.c0, World.cell?_setCell_same _ _ _ h.c1, by rw [World.frozen?_setCell]; exact h.f0, by rw [World.frozen?_setCell]; exact h.f1⟩
theorem Two.put {w : World} {p : Nat} {x y : Value} (h : Two w p x y) (u v : Value) : Two ((w.setCell ⟨p, 0, none⟩ u).setCell ⟨p, 1, none⟩ v) p u v := (h.put0 u).put1 v
def bsX : List Int := liX (4 * iv 5) false
def bsY : List Int := liY (4 * iv 5) false
theorem bs_byt : Byt bsX ∧ Byt bsY := li_byt _ _
theorem bs_ok : PtOk bsX bsY := by
  have h : liB (4 * iv 5) false = true := by
    unfold liB
    rw [base_lift.1]
    simp
  unfold bsX bsY liX liY
  rw [if_pos h, if_pos h]
  exact ⟨⟨bytes_5 _ _, fill_len _ _⟩, bytes_5 _ _, fill_len _ _⟩
/-- The point that is drawn. -/
def drP (xs : List Int) (t : Int) : List Int × List Int :=
  if nxF xs t 8 = 0 then smP (nxF xs (t + 1) 8)
  else if nxF xs t 8 = 1 then (paX (smP (nxF xs (t + 1) 8)).1 (smP (nxF xs (t + 1) 8)).2 bsX bsY, paY (smP (nxF xs (t + 1) 8)).1 (smP (nxF xs (t + 1) 8)).2 bsX bsY)
  else if nxF xs t 8 < 4 then (plX (tmP (fill (dig (inF (nxF xs (t + 1) 1000))) 32) bsX bsY), plY (tmP (fill (dig (inF (nxF xs (t + 1) 1000))) 32) bsX bsY))
  else if nxF xs t 8 = 4 then
    (if nxF xs (t + 1) 2 = 0 then
      (if nxF xs (t + 1 + 1) 4 = 0 then (dbF xs (t + 1 + 1 + 1) 32, bsY)
       else if nxF xs (t + 1 + 1) 4 = 1 then (bsX, dbF xs (t + 1 + 1 + 1) 31)
       else if nxF xs (t + 1 + 1) 4 = 2 then (fill (dig pbytes) 32, fill (byt (1 % PP)) 32)
       else ([], []))
     else fdP 40 (dbF xs (t + 1 + 1) 32))
  else fdP 40 (dbF xs (t + 1) 32)
set_option maxHeartbeats 4000000 in
theorem l5DrawV_any (w : World) (s g : Nat) (a : Option Addr) (c : Nat) (xs : List Int) (t : Int) (hs : Src w s a xs.length c t) (hr : Rd w g a .u8 xs) (hne : 0 < xs.length → g ≠ s) (hb : Byt xs) (hl : xs.length ≤ 4194304) (t0 : 0 ≤ t) (t1 : t ≤ 10000) :
    Calls Tryd.prog 41 #[.pointer (some ⟨s, 0, none⟩)] w fun r w' => NewPt w.heap.size w' r (drP xs t).1 (drP xs t).2 ∧ But s w w' := by
  have TZ : Two (w.alloc pObj) w.heap.size (.slice none 0 0) (.slice none 0 0) := Two.new w (.slice none 0 0) (.slice none 0 0) 26
  have nz : Below w.heap.size w (w.alloc pObj) := (Below.refl _ _).alloc (Nat.le_refl _) _
  have zs := hs.lt
  have NX := hide (fun W (S : Src W s a xs.length c t) (R : Rd W g a .u8 xs) => l1NextV_any W s g a c xs t 8 S R hne hb hl (by omega) (by omega) (by decide) (by decide))
  have NY := hide (fun W n (S : Src W s a xs.length c (t + 1)) (R : Rd W g a .u8 xs) (h1 : 1 ≤ n) (h2 : n ≤ 1048576) => l1NextV_any W s g a c xs (t + 1) n S R hne hb hl (by omega) (by omega) h1 h2)
  have CH := hide (fun W (S : Src W s a xs.length c (t + 1)) (R : Rd W g a .u8 xs) => l1ChanceV_any W s g a c xs (t + 1) 2 S R hne hb hl (by omega) (by omega) (by decide) (by decide))
  have NW := hide (fun W (S : Src W s a xs.length c (t + 1 + 1)) (R : Rd W g a .u8 xs) => l1NextV_any W s g a c xs (t + 1 + 1) 4 S R hne hb hl (by omega) (by omega) (by decide) (by decide))
  have DB := hide (fun W u (n : Nat) (S : Src W s a xs.length c u) (R : Rd W g a .u8 xs) (h1 : 0 ≤ u) (h2 : u + (n : Int) ≤ 1048576) => l1DrawBytesV_any W s g a c xs u n S R hne hb hl h1 h2)
  obtain ⟨R, hR⟩ : ∃ R, R = drP xs t := ⟨_, rfl⟩
  rw [← hR]
  have k0 := nx_in xs t (show (0 : Int) < 8 by decide)
  unfold drP at hR
  have HR := hide hR
  clear hR
  have S0 := hs.up nz
  have hr0 := hr.up nz
  have N : But s w (w.alloc pObj) := But.ofBelow nz
  clear nz
  go_enter Tryd.func41, Tryd.ntmps41
  go_upto_region 1 with fail
  change Code.wp _ _ _ _ (w.alloc pObj)
  generalize w.alloc pObj = wz at *
  go_wp2_with fail
  refine (NX.out wz S0 hr0).mono ?_
  rintro e w1 ⟨rfl, _, S1, O1⟩
  have zz := TZ.lt
  have z1 := O1.size
  replace TZ := TZ.of_block' (O1.block w.heap.size (by omega))
  replace N := N.only O1
  have hr1 := hr.but N hne
  clear O1 NX S0 hr0 hs
  generalize nxF xs t 8 = k at *
  rcases (show k = 0 ∨ k = 1 ∨ k = 2 ∨ k = 3 ∨ k = 4 ∨ k = 5 ∨ k = 6 ∨ k = 7 by omega) with rfl | rfl | rfl | rfl | rfl | rfl | rfl | rfl
  · have HD : Hid (R = smP (nxF xs (t + 1) 8)) := by show _ = _; rw [HR.out, if_pos rfl]
    clear HR
    go_wp2_with fail
    refine (NY.out w1 8 S1 hr1 (by decide) (by decide)).mono ?_
    rintro e w2 ⟨rfl, ⟨r0, r1⟩, S2, O2⟩
    have z2 := O2.size
    replace TZ := TZ.of_block' (O2.block w.heap.size (by omega))
    replace N := N.only O2
    clear O2 S2 S1 NY CH NW DB
    obtain ⟨j, hj⟩ : ∃ j, j = nxF xs (t + 1) 8 := ⟨_, rfl⟩
    rw [← hj] at r0 r1 HD ⊢
    clear hj
    have SM := hide (l5SmallV_any w2 j r0 (by omega))
    generalize smP j = X at *
    go_wp2_with fail
    refine SM.out.mono ?_
    rintro r w3 ⟨⟨a1, a1', c1, c1', g1, g1', rfl, o1, o1', l1, l1'⟩, n3⟩
    have z3 := n3.size
    replace TZ := TZ.up n3
    replace N := N.trans (But.ofBelow n3)
    clear n3 SM
    obtain ⟨y0, y1, v0, v1⟩ := TZ
    have O := (Only.setCell w3 w.heap.size 0 (.slice a1 X.1.length c1)).trans (Only.setCell _ w.heap.size 1 (.slice a1' X.2.length c1'))
    go_wp2
    refine bodyPost_ret (v := .agg #[.slice a1 X.1.length c1, .slice a1' X.2.length c1']) (by simp [results, Tryd.results41, go_sem, y0, y1]) rfl ⟨?_, (N.setCell (Nat.le_refl _)).setCell (Nat.le_refl _)⟩
    rw [HD.out]
    exact ⟨a1, a1', c1, c1', g1, g1', rfl, o1.only O (fun _ => by omega), o1'.only O (fun _ => by omega), by omega, by omega⟩
  · have HD : Hid (R = (paX (smP (nxF xs (t + 1) 8)).1 (smP (nxF xs (t + 1) 8)).2 bsX bsY, paY (smP (nxF xs (t + 1) 8)).1 (smP (nxF xs (t + 1) 8)).2 bsX bsY)) := by show _ = _; rw [HR.out, if_neg (by decide), if_pos rfl]
    clear HR
    go_wp2_with fail
    refine (NY.out w1 8 S1 hr1 (by decide) (by decide)).mono ?_
    rintro e w2 ⟨rfl, ⟨r0, r1⟩, S2, O2⟩
    have z2 := O2.size
    replace TZ := TZ.of_block' (O2.block w.heap.size (by omega))
    replace N := N.only O2
    clear O2 S2 S1 NY CH NW DB
    obtain ⟨j, hj⟩ : ∃ j, j = nxF xs (t + 1) 8 := ⟨_, rfl⟩
    rw [← hj] at r0 r1 HD ⊢
    clear hj
    have SM := hide (l5SmallV_any w2 j r0 (by omega))
    have SK := hide (smP_ok j)
    generalize smP j = X at *
    go_wp2_with fail
    refine SM.out.mono ?_
    rintro r w3 ⟨⟨a3, a3', c3, c3', g3, g3', rfl, o3, o3', l3, l3'⟩, n3⟩
    have z3 := n3.size
    replace TZ := TZ.up n3
    replace N := N.trans (But.ofBelow n3)
    clear n3 SM
    have SB : Hid (Calls Tryd.prog 34 #[] w3 fun r w' => NewPt w3.heap.size w' r bsX bsY ∧ Below w3.heap.size w3 w') := specBase_any w3
    have BB := hide bs_byt
    generalize bsX = bx at *
    generalize bsY = by' at *
    go_wp2_with fail
    refine SB.out.mono ?_
    rintro r w4 ⟨⟨a4, a4', c4, c4', g4, g4', rfl, o4, o4', l4, l4'⟩, n4⟩
    have z4 := n4.size
    replace TZ := TZ.up n4
    replace N := N.trans (But.ofBelow n4)
    replace o3 := o3.up n4
    replace o3' := o3'.up n4
    clear n4 SB
    have AD := hide (specPointAdd_any w4 g3 g3' g4 g4' a3 a3' a4 a4' c3 c3' c4 c4' X.1 X.2 bx by' o3.rd o3'.rd o4.rd o4'.rd SK.out.1.1 SK.out.2.1 BB.out.1 BB.out.2)
    generalize paX X.1 X.2 bx by' = PX at *
    generalize paY X.1 X.2 bx by' = PY at *
    go_wp2_with fail
    refine AD.out.mono ?_
    rintro r w5 ⟨⟨a1, a1', c1, c1', g1, g1', rfl, o1, o1', l1, l1'⟩, n3⟩
    have z5 := n3.size
    replace TZ := TZ.up n3
    replace N := N.trans (But.ofBelow n3)
    clear n3 AD
    obtain ⟨y0, y1, v0, v1⟩ := TZ
    have O := (Only.setCell w5 w.heap.size 0 (.slice a1 PX.length c1)).trans (Only.setCell _ w.heap.size 1 (.slice a1' PY.length c1'))
    go_wp2
    refine bodyPost_ret (v := .agg #[.slice a1 PX.length c1, .slice a1' PY.length c1']) (by simp [results, Tryd.results41, go_sem, y0, y1]) rfl ⟨?_, (N.setCell (Nat.le_refl _)).setCell (Nat.le_refl _)⟩
    rw [HD.out]
    exact ⟨a1, a1', c1, c1', g1, g1', rfl, o1.only O (fun _ => by omega), o1'.only O (fun _ => by omega), by omega, by omega⟩
  · have HD : Hid (R = (plX (tmP (fill (dig (inF (nxF xs (t + 1) 1000))) 32) bsX bsY), plY (tmP (fill (dig (inF (nxF xs (t + 1) 1000))) 32) bsX bsY))) := by show _ = _; rw [HR.out, if_neg (by decide), if_neg (by decide), if_pos (by decide)]
    clear HR
    go_wp2_with fail
    refine (NY.out w1 1000 S1 hr1 (by decide) (by decide)).mono ?_
    rintro e w2 ⟨rfl, ⟨r0, r1⟩, S2, O2⟩
    have z2 := O2.size
    replace TZ := TZ.of_block' (O2.block w.heap.size (by omega))
    replace N := N.only O2
    clear O2 S2 S1 NY CH NW DB
    obtain ⟨j, hj⟩ : ∃ j, j = nxF xs (t + 1) 1000 := ⟨_, rfl⟩
    rw [← hj] at r0 r1 HD ⊢
    clear hj
    have SI := hide (l1IntV_any w2 j r0 (by omega))
    have IB := hide (inF_byt r0 (by omega))
    clear r0 r1
    generalize inF j = I at *
    go_wp2_with fail
    refine SI.out.mono ?_
    rintro r w3 ⟨⟨a3, c3, g3, rfl, o3, _, _, l3⟩, n3⟩
    have z3 := n3.size
    replace TZ := TZ.up n3
    replace N := N.trans (But.ofBelow n3)
    clear n3 SI
    have SL := hide (l1Little_any w3 g3 a3 c3 I 32 o3.rd IB.out.1 (by have := IB.out.2; omega) (by omega))
    have KB := hide (dig_bytes_5 IB.out.1 32)
    have KL := hide (fill_len (dig I) 32)
    generalize fill (dig I) 32 = K at *
    go_wp2_with fail
    refine SL.out.mono ?_
    rintro r w4 ⟨rfl, B4, n4⟩
    have z4 := n4.size
    replace TZ := TZ.up n4
    replace N := N.trans (But.ofBelow n4)
    clear n4 SL o3
    have SB : Hid (Calls Tryd.prog 34 #[] w4 fun r w' => NewPt w4.heap.size w' r bsX bsY ∧ Below w4.heap.size w4 w') := specBase_any w4
    have BB := hide bs_ok
    generalize bsX = bx at *
    generalize bsY = by' at *
    go_wp2_with fail
    refine SB.out.mono ?_
    rintro r w5 ⟨⟨a5, a5', c5, c5', g5, g5', rfl, o5, o5', l5, l5'⟩, n5⟩
    have z5 := n5.size
    replace TZ := TZ.up n5
    replace N := N.trans (But.ofBelow n5)
    have o4 := B4.own0.up n5
    clear n5 SB B4
    have ST := hide (l5Times_any w5 w3.heap.size g5 g5' (some ⟨w3.heap.size, 0, none⟩) a5 a5' 32 c5 c5' K bx by' o4.rd KB.out (by rw [KL.out]; omega) o5.rd o5'.rd BB.out.1.1 BB.out.2.1 BB.out.1.2 BB.out.2.2)
    rw [KL.out] at ST
    go_wp2_with fail
    refine ST.out.mono ?_
    rintro r w6 ⟨top, p, x, y, z, hc, hP, rfl, hx, hy, hz, n6⟩
    have z6 := n6.size
    replace TZ := TZ.up n6
    replace N := N.trans (But.ofBelow n6)
    have eP : Hid (tmP K bx by' = p) := by show _ = _; unfold tmP; rw [topF_eq (by rw [KL.out]; exact hc), hP]
    clear n6 ST hc hP o4 o5 o5'
    have SP : Hid (Calls Tryd.prog 26 #[ag48 x y z] w6 fun r w' => NewPt w6.heap.size w' r (plX p) (plY p) ∧ Below w6.heap.size w6 w') := l5Plain_any w6 x y z p.1 p.2.1 p.2.2 hx hy hz
    rw [eP.out] at HD
    clear eP hx hy hz
    generalize plX p = PX at *
    generalize plY p = PY at *
    generalize ag48 x y z = V at *
    go_wp2_with fail
    refine SP.out.mono ?_
    rintro r w7 ⟨⟨a1, a1', c1, c1', g1, g1', rfl, o1, o1', l1, l1'⟩, n3⟩
    have z7 := n3.size
    replace TZ := TZ.up n3
    replace N := N.trans (But.ofBelow n3)
    clear n3 SP
    obtain ⟨y0, y1, v0, v1⟩ := TZ
    have O := (Only.setCell w7 w.heap.size 0 (.slice a1 PX.length c1)).trans (Only.setCell _ w.heap.size 1 (.slice a1' PY.length c1'))
    go_wp2
    refine bodyPost_ret (v := .agg #[.slice a1 PX.length c1, .slice a1' PY.length c1']) (by simp [results, Tryd.results41, go_sem, y0, y1]) rfl ⟨?_, (N.setCell (Nat.le_refl _)).setCell (Nat.le_refl _)⟩
    rw [HD.out]
    exact ⟨a1, a1', c1, c1', g1, g1', rfl, o1.only O (fun _ => by omega), o1'.only O (fun _ => by omega), by omega, by omega⟩
  · have HD : Hid (R = (plX (tmP (fill (dig (inF (nxF xs (t + 1) 1000))) 32) bsX bsY), plY (tmP (fill (dig (inF (nxF xs (t + 1) 1000))) 32) bsX bsY))) := by show _ = _; rw [HR.out, if_neg (by decide), if_neg (by decide), if_pos (by decide)]
    clear HR
    go_wp2_with fail
    refine (NY.out w1 1000 S1 hr1 (by decide) (by decide)).mono ?_
    rintro e w2 ⟨rfl, ⟨r0, r1⟩, S2, O2⟩
    have z2 := O2.size
    replace TZ := TZ.of_block' (O2.block w.heap.size (by omega))
    replace N := N.only O2
    clear O2 S2 S1 NY CH NW DB
    obtain ⟨j, hj⟩ : ∃ j, j = nxF xs (t + 1) 1000 := ⟨_, rfl⟩
    rw [← hj] at r0 r1 HD ⊢
    clear hj
    have SI := hide (l1IntV_any w2 j r0 (by omega))
    have IB := hide (inF_byt r0 (by omega))
    clear r0 r1
    generalize inF j = I at *
    go_wp2_with fail
    refine SI.out.mono ?_
    rintro r w3 ⟨⟨a3, c3, g3, rfl, o3, _, _, l3⟩, n3⟩
    have z3 := n3.size
    replace TZ := TZ.up n3
    replace N := N.trans (But.ofBelow n3)
    clear n3 SI
    have SL := hide (l1Little_any w3 g3 a3 c3 I 32 o3.rd IB.out.1 (by have := IB.out.2; omega) (by omega))
    have KB := hide (dig_bytes_5 IB.out.1 32)
    have KL := hide (fill_len (dig I) 32)
    generalize fill (dig I) 32 = K at *
    go_wp2_with fail
    refine SL.out.mono ?_
    rintro r w4 ⟨rfl, B4, n4⟩
    have z4 := n4.size
    replace TZ := TZ.up n4
    replace N := N.trans (But.ofBelow n4)
    clear n4 SL o3
    have SB : Hid (Calls Tryd.prog 34 #[] w4 fun r w' => NewPt w4.heap.size w' r bsX bsY ∧ Below w4.heap.size w4 w') := specBase_any w4
    have BB := hide bs_ok
    generalize bsX = bx at *
    generalize bsY = by' at *
    go_wp2_with fail
    refine SB.out.mono ?_
    rintro r w5 ⟨⟨a5, a5', c5, c5', g5, g5', rfl, o5, o5', l5, l5'⟩, n5⟩
    have z5 := n5.size
    replace TZ := TZ.up n5
    replace N := N.trans (But.ofBelow n5)
    have o4 := B4.own0.up n5
    clear n5 SB B4
    have ST := hide (l5Times_any w5 w3.heap.size g5 g5' (some ⟨w3.heap.size, 0, none⟩) a5 a5' 32 c5 c5' K bx by' o4.rd KB.out (by rw [KL.out]; omega) o5.rd o5'.rd BB.out.1.1 BB.out.2.1 BB.out.1.2 BB.out.2.2)
    rw [KL.out] at ST
    go_wp2_with fail
    refine ST.out.mono ?_
    rintro r w6 ⟨top, p, x, y, z, hc, hP, rfl, hx, hy, hz, n6⟩
    have z6 := n6.size
    replace TZ := TZ.up n6
    replace N := N.trans (But.ofBelow n6)
    have eP : Hid (tmP K bx by' = p) := by show _ = _; unfold tmP; rw [topF_eq (by rw [KL.out]; exact hc), hP]
    clear n6 ST hc hP o4 o5 o5'
    have SP : Hid (Calls Tryd.prog 26 #[ag48 x y z] w6 fun r w' => NewPt w6.heap.size w' r (plX p) (plY p) ∧ Below w6.heap.size w6 w') := l5Plain_any w6 x y z p.1 p.2.1 p.2.2 hx hy hz
    rw [eP.out] at HD
    clear eP hx hy hz
    generalize plX p = PX at *
    generalize plY p = PY at *
    generalize ag48 x y z = V at *
    go_wp2_with fail
    refine SP.out.mono ?_
    rintro r w7 ⟨⟨a1, a1', c1, c1', g1, g1', rfl, o1, o1', l1, l1'⟩, n3⟩
    have z7 := n3.size
    replace TZ := TZ.up n3
    replace N := N.trans (But.ofBelow n3)
    clear n3 SP
    obtain ⟨y0, y1, v0, v1⟩ := TZ
    have O := (Only.setCell w7 w.heap.size 0 (.slice a1 PX.length c1)).trans (Only.setCell _ w.heap.size 1 (.slice a1' PY.length c1'))
    go_wp2
    refine bodyPost_ret (v := .agg #[.slice a1 PX.length c1, .slice a1' PY.length c1']) (by simp [results, Tryd.results41, go_sem, y0, y1]) rfl ⟨?_, (N.setCell (Nat.le_refl _)).setCell (Nat.le_refl _)⟩
    rw [HD.out]
    exact ⟨a1, a1', c1, c1', g1, g1', rfl, o1.only O (fun _ => by omega), o1'.only O (fun _ => by omega), by omega, by omega⟩
  · have HE := HR.out
    rw [if_neg (by decide), if_neg (by decide), if_neg (by decide), if_pos rfl] at HE
    replace HR := hide HE
    clear HE
    go_wp2_with fail
    refine (CH.out w1 S1 hr1).mono ?_
    rintro e w2 ⟨rfl, S2, O2⟩
    have z2 := O2.size
    replace TZ := TZ.of_block' (O2.block w.heap.size (by omega))
    replace N := N.only O2
    have hr2 := hr.but N hne
    clear O2 S1 hr1 CH
    generalize nxF xs (t + 1) 2 = q at *
    by_cases hq : q = 0
    · subst hq
      rw [if_pos rfl] at HR
      have SB : Hid (Calls Tryd.prog 34 #[] w2 fun r w' => NewPt w2.heap.size w' r bsX bsY ∧ Below w2.heap.size w2 w') := specBase_any w2
      rw [show ((0 : Int) == 0) = true from rfl]
      generalize bsX = bx at *
      generalize bsY = by' at *
      go_wp2_with fail
      refine SB.out.mono ?_
      rintro r w3 ⟨⟨a4, a4', c4, c4', g4, g4', rfl, o4, o4', l4, l4'⟩, n3⟩
      have z3 := n3.size
      have TP := Two.new w3 (.slice a4 bx.length c4) (.slice a4' by'.length c4') 26
      have n4 : Below w3.heap.size w3 (w3.alloc (.cells #[.slice a4 bx.length c4, .slice a4' by'.length c4'] 26)) := (Below.refl _ _).alloc (Nat.le_refl _) _
      have zl : w3.heap.size < (w3.alloc (.cells #[.slice a4 bx.length c4, .slice a4' by'.length c4'] 26)).heap.size := TP.lt
      have q4 := hide (fun h => o4.rd.lt h)
      have q4' := hide (fun h => o4'.rd.lt h)
      replace TZ := (TZ.up n3).up n4
      replace N := (N.trans (But.ofBelow n3)).trans (But.ofBelow n4)
      replace S2 := (S2.up n3).up n4
      replace o4 := o4.up n4
      replace o4' := o4'.up n4
      have hr3 := hr.but N hne
      clear n3 n4 SB hr2
      go_wp2_with fail
      generalize w3.alloc (.cells #[.slice a4 bx.length c4, .slice a4' by'.length c4'] 26) = w4 at *
      refine (NW.out w4 S2 hr3).mono ?_
      rintro e w5 ⟨rfl, ⟨r0, r1⟩, S5, O5⟩
      have z5 : w4.heap.size ≤ w5.heap.size := Nat.le_of_eq O5.size.symm
      replace TZ := TZ.of_block' (O5.block w.heap.size (by omega))
      replace TP := TP.of_block' (O5.block w3.heap.size (by omega))
      replace o4 := o4.only O5 (fun _ => by omega)
      replace o4' := o4'.only O5 (fun _ => by omega)
      replace N := N.only O5
      have hr5 := hr.but N hne
      clear O5 S2 hr3 NW NY
      generalize nxF xs (t + 1 + 1) 4 = j at *
      rcases (show j = 0 ∨ j = 1 ∨ j = 2 ∨ j = 3 by omega) with rfl | rfl | rfl | rfl
      · have HD : Hid (R = (dbF xs (t + 1 + 1 + 1) 32, by')) := by show _ = _; rw [HR.out, if_pos rfl]
        clear HR
        go_wp2_with fail
        refine (DB.out w5 (t + 1 + 1 + 1) 32 S5 hr5 (by omega) (by omega)).mono ?_
        rintro e w6 ⟨⟨a6, c6, g6, rfl, o6, _, _, l6⟩, S6, N6⟩
        have z6 := N6.size
        have z6p := TP.lt
        replace TZ := TZ.of_block' (N6.block w.heap.size (by omega) (by omega))
        replace TP := TP.of_block' (N6.block w3.heap.size (by omega) (by omega))
        replace o4 := o4.but N6 (fun _ => by omega)
        replace o4' := o4'.but N6 (fun _ => by omega)
        replace N := N.trans N6
        clear N6 S6 S5 DB
        generalize dbF xs (t + 1 + 1 + 1) 32 = D at *
        have O4 := Only.setCell w6 w3.heap.size 0 (.slice a6 D.length c6)
        have TP' := TP.put0 (.slice a6 D.length c6)
        replace TZ := TZ.of_block' (O4.block w.heap.size (by omega))
        replace N : But s w (w6.setCell ⟨w3.heap.size, 0, none⟩ (.slice a6 D.length c6)) := N.setCell (by omega)
        replace o6 := o6.only O4 (fun _ => by omega)
        replace o4 := o4.only O4 (fun h => by have := q4.out h; omega)
        replace o4' := o4'.only O4 (fun h => by have := q4'.out h; omega)
        obtain ⟨q0, q1, qf0, qf1⟩ := TP
        have TP := TP'
        clear TP' O4
        go_upto_region 19 with fail
        generalize w6.setCell ⟨w3.heap.size, 0, none⟩ (.slice a6 D.length c6) = w9 at *
        obtain ⟨p0, p1, pf0, pf1⟩ := TP
        obtain ⟨y0, y1, v0, v1⟩ := TZ
        have O := (Only.setCell w9 w.heap.size 0 (.slice a6 D.length c6)).trans (Only.setCell _ w.heap.size 1 (.slice a4' by'.length c4'))
        go_wp2
        refine bodyPost_ret (v := .agg #[.slice a6 D.length c6, .slice a4' by'.length c4']) (by simp [results, Tryd.results41, go_sem, y0, y1]) rfl ⟨?_, (N.setCell (Nat.le_refl _)).setCell (Nat.le_refl _)⟩
        rw [HD.out]
        exact ⟨a6, a4', c6, c4', g6, g4', rfl, o6.only O (fun _ => by omega), o4'.only O (fun _ => by omega), by omega, by omega⟩
      · have HD : Hid (R = (bx, dbF xs (t + 1 + 1 + 1) 31)) := by show _ = _; rw [HR.out, if_neg (by decide), if_pos rfl]
        clear HR
        go_wp2_with fail
        refine (DB.out w5 (t + 1 + 1 + 1) 31 S5 hr5 (by omega) (by omega)).mono ?_
        rintro e w6 ⟨⟨a6, c6, g6, rfl, o6, _, _, l6⟩, S6, N6⟩
        have z6 := N6.size
        have z6p := TP.lt
        replace TZ := TZ.of_block' (N6.block w.heap.size (by omega) (by omega))
        replace TP := TP.of_block' (N6.block w3.heap.size (by omega) (by omega))
        replace o4 := o4.but N6 (fun _ => by omega)
        replace o4' := o4'.but N6 (fun _ => by omega)
        replace N := N.trans N6
        clear N6 S6 S5 DB
        generalize dbF xs (t + 1 + 1 + 1) 31 = D at *
        have O4 := Only.setCell w6 w3.heap.size 1 (.slice a6 D.length c6)
        have TP' := TP.put1 (.slice a6 D.length c6)
        replace TZ := TZ.of_block' (O4.block w.heap.size (by omega))
        replace N : But s w (w6.setCell ⟨w3.heap.size, 1, none⟩ (.slice a6 D.length c6)) := N.setCell (by omega)
        replace o6 := o6.only O4 (fun _ => by omega)
        replace o4 := o4.only O4 (fun h => by have := q4.out h; omega)
        replace o4' := o4'.only O4 (fun h => by have := q4'.out h; omega)
        obtain ⟨q0, q1, qf0, qf1⟩ := TP
        have TP := TP'
        clear TP' O4
        go_upto_region 19 with fail
        generalize w6.setCell ⟨w3.heap.size, 1, none⟩ (.slice a6 D.length c6) = w9 at *
        obtain ⟨p0, p1, pf0, pf1⟩ := TP
        obtain ⟨y0, y1, v0, v1⟩ := TZ
        have O := (Only.setCell w9 w.heap.size 0 (.slice a4 bx.length c4)).trans (Only.setCell _ w.heap.size 1 (.slice a6 D.length c6))
        go_wp2
        refine bodyPost_ret (v := .agg #[.slice a4 bx.length c4, .slice a6 D.length c6]) (by simp [results, Tryd.results41, go_sem, y0, y1]) rfl ⟨?_, (N.setCell (Nat.le_refl _)).setCell (Nat.le_refl _)⟩
        rw [HD.out]
        exact ⟨a4, a6, c4, c6, g4, g6, rfl, o4.only O (fun _ => by omega), o6.only O (fun _ => by omega), by omega, by omega⟩
      · obtain ⟨PB, hPB⟩ : ∃ PB, PB = fill (dig pbytes) 32 := ⟨_, rfl⟩
        obtain ⟨QB, hQB⟩ : ∃ QB, QB = fill (byt (1 % PP)) 32 := ⟨_, rfl⟩
        have HD : Hid (R = (PB, QB)) := by show _ = _; rw [HR.out, if_neg (by decide), if_neg (by decide), if_pos rfl, hPB, hQB]
        have L7 : Hid (PB.length = 32) := by show _ = _; rw [hPB, fill_len]
        have HPB := hide hPB.symm
        have HQB := hide hQB.symm
        clear HR hPB hQB
        have PR := hide (l2Prime_any w5)
        have PY := hide pbytes_byt
        have PL := hide pbytes_len
        generalize pbytes = pb at *
        go_wp2_with fail
        refine PR.out.mono ?_
        rintro e w6 ⟨rfl, B6, n6⟩
        have z6 := n6.size
        replace TZ := TZ.up n6
        replace TP := TP.up n6
        replace N := N.trans (But.ofBelow n6)
        clear n6
        have SL := hide (l1Little_any w6 w5.heap.size (some ⟨w5.heap.size, 0, none⟩) 32 pb 32 B6.own0.rd PY.out (by rw [PL.out]; omega) (by omega))
        clear B6
        go_wp2_with fail
        refine SL.out.mono ?_
        rintro e w7 ⟨rfl, B7, n7⟩
        have z7 := n7.size
        replace TZ := TZ.up n7
        replace TP := TP.up n7
        replace N := N.trans (But.ofBelow n7)
        clear n7 SL
        have o7 := B7.own0
        rw [HPB.out] at o7
        clear HPB B7
        go_wp2_with fail
        refine (l2Small_any w7 1 (by decide)).mono ?_
        rintro e w8 ⟨f, rfl, hf, hfv, n8⟩
        have z8 := n8.size
        replace TZ := TZ.up n8
        replace TP := TP.up n8
        replace N := N.trans (But.ofBelow n8)
        replace o7 := o7.up n8
        have SY := hide (l2Bytes_any w8 f hf)
        rw [hfv, HQB.out] at SY
        clear n8 hf hfv HQB
        generalize ag16 f = V at *
        go_wp2_with fail
        refine SY.out.mono ?_
        rintro e wa ⟨⟨a8, c8, g8, rfl, o8, _, _, l8⟩, na⟩
        have za := na.size
        replace TZ := TZ.up na
        replace TP := TP.up na
        replace N := N.trans (But.ofBelow na)
        replace o7 := o7.up na
        clear na SY
        have O4 := (Only.setCell wa w3.heap.size 0 (.slice (some ⟨w6.heap.size, 0, none⟩) 32 32)).trans (Only.setCell _ w3.heap.size 1 (.slice a8 QB.length c8))
        have TP' := TP.put (.slice (some ⟨w6.heap.size, 0, none⟩) 32 32) (.slice a8 QB.length c8)
        replace TZ := TZ.of_block' (O4.block w.heap.size (by omega))
        replace N : But s w ((wa.setCell ⟨w3.heap.size, 0, none⟩ (.slice (some ⟨w6.heap.size, 0, none⟩) 32 32)).setCell ⟨w3.heap.size, 1, none⟩ (.slice a8 QB.length c8)) := (N.setCell (by omega)).setCell (by omega)
        obtain ⟨q0, q1, qf0, qf1⟩ := TP
        have TP := TP'
        clear TP'
        replace o7 := o7.only O4 (fun _ => by omega)
        replace o8 := o8.only O4 (fun _ => by omega)
        clear O4
        go_upto_region 19 with fail
        generalize (wa.setCell ⟨w3.heap.size, 0, none⟩ (.slice (some ⟨w6.heap.size, 0, none⟩) 32 32)).setCell ⟨w3.heap.size, 1, none⟩ (.slice a8 QB.length c8) = w9 at *
        obtain ⟨p0, p1, pf0, pf1⟩ := TP
        obtain ⟨y0, y1, v0, v1⟩ := TZ
        have O := (Only.setCell w9 w.heap.size 0 (.slice (some ⟨w6.heap.size, 0, none⟩) 32 32)).trans (Only.setCell _ w.heap.size 1 (.slice a8 QB.length c8))
        go_wp2
        refine bodyPost_ret (v := .agg #[.slice (some ⟨w6.heap.size, 0, none⟩) 32 32, .slice a8 QB.length c8]) (by simp [results, Tryd.results41, go_sem, y0, y1]) rfl ⟨?_, (N.setCell (Nat.le_refl _)).setCell (Nat.le_refl _)⟩
        rw [HD.out]
        exact ⟨(some ⟨w6.heap.size, 0, none⟩), a8, 32, c8, w6.heap.size, g8, by rw [L7.out], o7.only O (fun _ => by omega), o8.only O (fun _ => by omega), by omega, by omega⟩
      · have HD : Hid (R = ([], [])) := by show _ = _; rw [HR.out, if_neg (by decide), if_neg (by decide), if_neg (by decide)]
        clear HR
        have O4 := (Only.setCell w5 w3.heap.size 0 (.slice none 0 0)).trans (Only.setCell _ w3.heap.size 1 (.slice none 0 0))
        have TP' := TP.put (.slice none 0 0) (.slice none 0 0)
        replace TZ := TZ.of_block' (O4.block w.heap.size (by omega))
        replace N : But s w ((w5.setCell ⟨w3.heap.size, 0, none⟩ (.slice none 0 0)).setCell ⟨w3.heap.size, 1, none⟩ (.slice none 0 0)) := (N.setCell (by omega)).setCell (by omega)
        obtain ⟨q0, q1, qf0, qf1⟩ := TP
        have TP := TP'
        clear TP'
        clear O4
        go_upto_region 19 with fail
        generalize (w5.setCell ⟨w3.heap.size, 0, none⟩ (.slice none 0 0)).setCell ⟨w3.heap.size, 1, none⟩ (.slice none 0 0) = w9 at *
        obtain ⟨p0, p1, pf0, pf1⟩ := TP
        obtain ⟨y0, y1, v0, v1⟩ := TZ
        have O := (Only.setCell w9 w.heap.size 0 (.slice none 0 0)).trans (Only.setCell _ w.heap.size 1 (.slice none 0 0))
        go_wp2
        refine bodyPost_ret (v := .agg #[.slice none 0 0, .slice none 0 0]) (by simp [results, Tryd.results41, go_sem, y0, y1]) rfl ⟨?_, (N.setCell (Nat.le_refl _)).setCell (Nat.le_refl _)⟩
        rw [HD.out]
        exact ⟨none, none, 0, 0, w.heap.size, w.heap.size, rfl, Own.nil _ _ _ _, Own.nil _ _ _ _, by omega, by omega⟩
    · rw [show (q == 0) = false from beq_eq_false_iff_ne.2 hq]
      rw [if_neg hq] at HR
      have HD := HR
      clear HR hq
      go_wp2_with fail
      refine (DB.out w2 (t + 1 + 1) 32 S2 hr2 (by omega) (by omega)).mono ?_
      rintro e w8 ⟨⟨a8, c8, g8, rfl, o8, _, _, l8⟩, S8, N8⟩
      have z8 := N8.size
      have LB := hide (dbF_len xs (t + 1 + 1) 32)
      have BY := hide (dbF_byt xs (t + 1 + 1) 32)
      replace TZ := TZ.of_block' (N8.block w.heap.size (by omega) (by omega))
      replace N := N.trans N8
      clear N8 S8 DB NY NW S2
      generalize dbF xs (t + 1 + 1) 32 = B at *
      rw [LB.out]
      obtain ⟨o8f, ea, _⟩ := id o8 (by rw [LB.out]; decide)
      subst ea
      have zg := o8.rd.lt (by rw [LB.out]; decide)
      have FD := hide (l5Find_any w8 g8 o8f c8 B o8 BY.out LB.out)
      generalize fdP 40 B = X at *
      go_wp2_with fail
      refine FD.out.mono ?_
      rintro r w9 ⟨⟨a1, a1', c1, c1', g1, g1', rfl, o1, o1', l1, l1'⟩, n3⟩
      have z9 := n3.size
      replace TZ := TZ.of_block' (n3.block w.heap.size (by omega) (by omega))
      have N2 : But s w w9 := ⟨n3.os.trans N.os, n3.tape.trans N.tape, n3.output.trans N.output, Nat.le_trans N.size n3.size, fun i hi hn => (n3.block i (by omega) (by omega)).trans (N.block i hi hn)⟩
      clear n3 N FD o8
      obtain ⟨y0, y1, v0, v1⟩ := TZ
      have O := (Only.setCell w9 w.heap.size 0 (.slice a1 X.1.length c1)).trans (Only.setCell _ w.heap.size 1 (.slice a1' X.2.length c1'))
      go_wp2
      refine bodyPost_ret (v := .agg #[.slice a1 X.1.length c1, .slice a1' X.2.length c1']) (by simp [results, Tryd.results41, go_sem, y0, y1]) rfl ⟨?_, (N2.setCell (Nat.le_refl _)).setCell (Nat.le_refl _)⟩
      rw [HD.out]
      exact ⟨a1, a1', c1, c1', g1, g1', rfl, o1.only O (fun _ => by omega), o1'.only O (fun _ => by omega), by omega, by omega⟩
  · have HD : Hid (R = fdP 40 (dbF xs (t + 1) 32)) := by show _ = _; rw [HR.out, if_neg (by decide), if_neg (by decide), if_neg (by decide), if_neg (by decide)]
    clear HR
    go_wp2_with fail
    refine (DB.out w1 (t + 1) 32 S1 hr1 (by omega) (by omega)).mono ?_
    rintro e w8 ⟨⟨a8, c8, g8, rfl, o8, _, _, l8⟩, S8, N8⟩
    have z8 := N8.size
    have LB := hide (dbF_len xs (t + 1) 32)
    have BY := hide (dbF_byt xs (t + 1) 32)
    replace TZ := TZ.of_block' (N8.block w.heap.size (by omega) (by omega))
    replace N := N.trans N8
    clear N8 S8 DB NY CH NW S1
    generalize dbF xs (t + 1) 32 = B at *
    rw [LB.out]
    obtain ⟨o8f, ea, _⟩ := id o8 (by rw [LB.out]; decide)
    subst ea
    have zg := o8.rd.lt (by rw [LB.out]; decide)
    have FD := hide (l5Find_any w8 g8 o8f c8 B o8 BY.out LB.out)
    generalize fdP 40 B = X at *
    go_wp2_with fail
    refine FD.out.mono ?_
    rintro r w9 ⟨⟨a1, a1', c1, c1', g1, g1', rfl, o1, o1', l1, l1'⟩, n3⟩
    have z9 := n3.size
    replace TZ := TZ.of_block' (n3.block w.heap.size (by omega) (by omega))
    have N2 : But s w w9 := ⟨n3.os.trans N.os, n3.tape.trans N.tape, n3.output.trans N.output, Nat.le_trans N.size n3.size, fun i hi hn => (n3.block i (by omega) (by omega)).trans (N.block i hi hn)⟩
    clear n3 N FD o8
    obtain ⟨y0, y1, v0, v1⟩ := TZ
    have O := (Only.setCell w9 w.heap.size 0 (.slice a1 X.1.length c1)).trans (Only.setCell _ w.heap.size 1 (.slice a1' X.2.length c1'))
    go_wp2
    refine bodyPost_ret (v := .agg #[.slice a1 X.1.length c1, .slice a1' X.2.length c1']) (by simp [results, Tryd.results41, go_sem, y0, y1]) rfl ⟨?_, (N2.setCell (Nat.le_refl _)).setCell (Nat.le_refl _)⟩
    rw [HD.out]
    exact ⟨a1, a1', c1, c1', g1, g1', rfl, o1.only O (fun _ => by omega), o1'.only O (fun _ => by omega), by omega, by omega⟩
  · have HD : Hid (R = fdP 40 (dbF xs (t + 1) 32)) := by show _ = _; rw [HR.out, if_neg (by decide), if_neg (by decide), if_neg (by decide), if_neg (by decide)]
    clear HR
    go_wp2_with fail
    refine (DB.out w1 (t + 1) 32 S1 hr1 (by omega) (by omega)).mono ?_
    rintro e w8 ⟨⟨a8, c8, g8, rfl, o8, _, _, l8⟩, S8, N8⟩
    have z8 := N8.size
    have LB := hide (dbF_len xs (t + 1) 32)
    have BY := hide (dbF_byt xs (t + 1) 32)
    replace TZ := TZ.of_block' (N8.block w.heap.size (by omega) (by omega))
    replace N := N.trans N8
    clear N8 S8 DB NY CH NW S1
    generalize dbF xs (t + 1) 32 = B at *
    rw [LB.out]
    obtain ⟨o8f, ea, _⟩ := id o8 (by rw [LB.out]; decide)
    subst ea
    have zg := o8.rd.lt (by rw [LB.out]; decide)
    have FD := hide (l5Find_any w8 g8 o8f c8 B o8 BY.out LB.out)
    generalize fdP 40 B = X at *
    go_wp2_with fail
    refine FD.out.mono ?_
    rintro r w9 ⟨⟨a1, a1', c1, c1', g1, g1', rfl, o1, o1', l1, l1'⟩, n3⟩
    have z9 := n3.size
    replace TZ := TZ.of_block' (n3.block w.heap.size (by omega) (by omega))
    have N2 : But s w w9 := ⟨n3.os.trans N.os, n3.tape.trans N.tape, n3.output.trans N.output, Nat.le_trans N.size n3.size, fun i hi hn => (n3.block i (by omega) (by omega)).trans (N.block i hi hn)⟩
    clear n3 N FD o8
    obtain ⟨y0, y1, v0, v1⟩ := TZ
    have O := (Only.setCell w9 w.heap.size 0 (.slice a1 X.1.length c1)).trans (Only.setCell _ w.heap.size 1 (.slice a1' X.2.length c1'))
    go_wp2
    refine bodyPost_ret (v := .agg #[.slice a1 X.1.length c1, .slice a1' X.2.length c1']) (by simp [results, Tryd.results41, go_sem, y0, y1]) rfl ⟨?_, (N2.setCell (Nat.le_refl _)).setCell (Nat.le_refl _)⟩
    rw [HD.out]
    exact ⟨a1, a1', c1, c1', g1, g1', rfl, o1.only O (fun _ => by omega), o1'.only O (fun _ => by omega), by omega, by omega⟩
  · have HD : Hid (R = fdP 40 (dbF xs (t + 1) 32)) := by show _ = _; rw [HR.out, if_neg (by decide), if_neg (by decide), if_neg (by decide), if_neg (by decide)]
    clear HR
    go_wp2_with fail
    refine (DB.out w1 (t + 1) 32 S1 hr1 (by omega) (by omega)).mono ?_
    rintro e w8 ⟨⟨a8, c8, g8, rfl, o8, _, _, l8⟩, S8, N8⟩
    have z8 := N8.size
    have LB := hide (dbF_len xs (t + 1) 32)
    have BY := hide (dbF_byt xs (t + 1) 32)
    replace TZ := TZ.of_block' (N8.block w.heap.size (by omega) (by omega))
    replace N := N.trans N8
    clear N8 S8 DB NY CH NW S1
    generalize dbF xs (t + 1) 32 = B at *
    rw [LB.out]
    obtain ⟨o8f, ea, _⟩ := id o8 (by rw [LB.out]; decide)
    subst ea
    have zg := o8.rd.lt (by rw [LB.out]; decide)
    have FD := hide (l5Find_any w8 g8 o8f c8 B o8 BY.out LB.out)
    generalize fdP 40 B = X at *
    go_wp2_with fail
    refine FD.out.mono ?_
    rintro r w9 ⟨⟨a1, a1', c1, c1', g1, g1', rfl, o1, o1', l1, l1'⟩, n3⟩
    have z9 := n3.size
    replace TZ := TZ.of_block' (n3.block w.heap.size (by omega) (by omega))
    have N2 : But s w w9 := ⟨n3.os.trans N.os, n3.tape.trans N.tape, n3.output.trans N.output, Nat.le_trans N.size n3.size, fun i hi hn => (n3.block i (by omega) (by omega)).trans (N.block i hi hn)⟩
    clear n3 N FD o8
    obtain ⟨y0, y1, v0, v1⟩ := TZ
    have O := (Only.setCell w9 w.heap.size 0 (.slice a1 X.1.length c1)).trans (Only.setCell _ w.heap.size 1 (.slice a1' X.2.length c1'))
    go_wp2
    refine bodyPost_ret (v := .agg #[.slice a1 X.1.length c1, .slice a1' X.2.length c1']) (by simp [results, Tryd.results41, go_sem, y0, y1]) rfl ⟨?_, (N2.setCell (Nat.le_refl _)).setCell (Nat.le_refl _)⟩
    rw [HD.out]
    exact ⟨a1, a1', c1, c1', g1, g1', rfl, o1.only O (fun _ => by omega), o1'.only O (fun _ => by omega), by omega, by omega⟩
end Go.Proofs.YtnaaanefndeafaaDoor

/-
  The point that a law draws.
-/
namespace Go.Proofs.YtnaaanefndeafaaDoor
set_option maxRecDepth 100000
open Go Go.RowKit

theorem dc_byt (ys : List Int) : Byt (dcX ys) ∧ Byt (dcY ys) := by
  unfold dcX dcY
  by_cases h : dcB ys = true
  · rw [if_pos h, if_pos h]
    exact li_byt _ _
  · rw [if_neg h, if_neg h]
    exact ⟨byt_nil, byt_nil⟩
def BytP (p : List Int × List Int) : Prop := Byt p.1 ∧ Byt p.2
theorem bytP_mk {x y : List Int} (h : Byt x ∧ Byt y) : BytP (x, y) := h
theorem fdP_byt : ∀ n ys, BytP (fdP n ys)
  | 0, _ => by rw [fdP]; exact bytP_mk (li_byt _ _)
  | n + 1, ys => by
    rw [fdP]
    by_cases h : dcB ys = true
    · rw [if_pos h]
      exact bytP_mk (dc_byt ys)
    · rw [if_neg h]
      exact fdP_byt n _
theorem pa_byt (px py qx qy : List Int) : Byt (paX px py qx qy) ∧ Byt (paY px py qx qy) := by
  unfold paX paY
  by_cases h : validP px py = true ∧ validP qx qy = true
  · rw [if_pos h, if_pos h]
    exact ⟨bytes_5 _ _, bytes_5 _ _⟩
  · rw [if_neg h, if_neg h]
    exact ⟨byt_nil, byt_nil⟩
theorem ptok_byt {xs ys : List Int} (h : PtOk xs ys) : Byt xs ∧ Byt ys := ⟨h.1.1, h.2.1⟩
theorem smP_byt (k : Int) : BytP (smP k) := ptok_byt (smP_ok k)
theorem drP_byt (xs : List Int) (t : Int) : BytP (drP xs t) := by
  unfold drP
  by_cases h0 : nxF xs t 8 = 0
  · rw [if_pos h0]; exact smP_byt _
  rw [if_neg h0]
  by_cases h1 : nxF xs t 8 = 1
  · rw [if_pos h1]; exact bytP_mk (pa_byt _ _ _ _)
  rw [if_neg h1]
  by_cases h2 : nxF xs t 8 < 4
  · rw [if_pos h2]; exact bytP_mk (ptok_byt (pl_ok _))
  rw [if_neg h2]
  by_cases h4 : nxF xs t 8 = 4
  · rw [if_pos h4]
    by_cases h5 : nxF xs (t + 1) 2 = 0
    · rw [if_pos h5]
      by_cases j0 : nxF xs (t + 1 + 1) 4 = 0
      · rw [if_pos j0]; exact bytP_mk ⟨dbF_byt _ _ _, bs_byt.2⟩
      rw [if_neg j0]
      by_cases j1 : nxF xs (t + 1 + 1) 4 = 1
      · rw [if_pos j1]; exact bytP_mk ⟨bs_byt.1, dbF_byt _ _ _⟩
      rw [if_neg j1]
      by_cases j2 : nxF xs (t + 1 + 1) 4 = 2
      · rw [if_pos j2]; exact bytP_mk ⟨dig_bytes_5 pbytes_byt 32, bytes_5 _ _⟩
      rw [if_neg j2]
      exact bytP_mk ⟨byt_nil, byt_nil⟩
    · rw [if_neg h5]; exact fdP_byt _ _
  · rw [if_neg h4]; exact fdP_byt _ _
theorem Below.ofBut {w w1 w2 : World} {s : Nat} (h : Below w.heap.size w w1) (k : But s w1 w2) (hs : w.heap.size ≤ s) : Below w.heap.size w w2 :=
  ⟨k.os.trans h.os, k.tape.trans h.tape, k.output.trans h.output, Nat.le_trans h.size k.size, fun i hi => (k.block i (Nat.lt_of_lt_of_le hi h.size) (by omega)).trans (h.block i hi)⟩
set_option maxHeartbeats 400000 in
theorem l1SourceB_any (w : World) (a : Option Addr) (n c : Nat) (hn : n ≤ 4194304) :
    Calls Tryd.prog 38 #[.slice a n c] w fun e w' => e = .returned (.pointer (some ⟨w.heap.size, 0, none⟩)) ∧ Src w' w.heap.size a n c 0 ∧ Below w.heap.size w w' := by
  by_cases h : 12 < (n : Int) / 16
  · have t1 : decide (12 < (n : Int) / 16) = true := by simp; omega
    go_enter Tryd.func38, Tryd.ntmps38
    go_wp2
    go_ret
    exact ⟨rfl, ⟨by simp [World.cell?_alloc_at], by simp [World.cell?_alloc_at], by simp [World.frozen?_alloc_at]⟩, (Below.refl _ _).alloc (Nat.le_refl _) _⟩
  · have t1 : decide (12 < (n : Int) / 16) = false := by simp; omega
    go_enter Tryd.func38, Tryd.ntmps38
    go_wp2
    go_ret
    exact ⟨rfl, ⟨by simp [World.cell?_alloc_at], by simp [World.cell?_alloc_at], by simp [World.frozen?_alloc_at]⟩, (Below.refl _ _).alloc (Nat.le_refl _) _⟩
set_option maxHeartbeats 1000000 in
theorem drawNeg_any (w : World) (g : Nat) (a : Option Addr) (c : Nat) (xs : List Int) (hr : Rd w g a .u8 xs) (hb : Byt xs) (hl : xs.length ≤ 4194304) :
    Calls Tryd.prog 33 #[.slice a xs.length c] w fun r w' => NewPt w.heap.size w' r (drP xs 0).1 (drP xs 0).2 ∧ Below w.heap.size w w' := by
  have TZ : Two (w.alloc pObj) w.heap.size (.slice none 0 0) (.slice none 0 0) := Two.new w (.slice none 0 0) (.slice none 0 0) 26
  have N : Below w.heap.size w (w.alloc pObj) := (Below.refl _ _).alloc (Nat.le_refl _) _
  have DW := hide (fun W (s : Nat) (hs : Src W s a xs.length c 0) (h : Rd W g a .u8 xs) (hn : 0 < xs.length → g ≠ s) => l5DrawV_any W s g a c xs 0 hs h hn hb hl (by decide) (by decide))
  have SO := hide (fun W => l1SourceB_any W a xs.length c hl)
  have hg := hide (fun h => hr.lt h)
  generalize drP xs 0 = X at *
  go_enter Tryd.func33, Tryd.ntmps33
  go_upto_region 1 with fail
  change Code.wp _ _ _ _ (w.alloc pObj)
  generalize w.alloc pObj = wz at *
  go_wp2_with fail
  refine (SO.out wz).mono ?_
  rintro e w1 ⟨rfl, S1, n1⟩
  have zz := TZ.lt
  have z1 := n1.size
  replace TZ := TZ.up n1
  replace N := nxt N n1
  have hr1 := hr.up N
  have sl := S1.lt
  clear n1 SO
  go_wp2_with fail
  refine (DW.out w1 wz.heap.size S1 hr1 (fun h => by have := hg.out h; omega)).mono ?_
  rintro r w2 ⟨⟨a1, a1', c1, c1', g1, g1', rfl, o1, o1', l1, l1'⟩, n2⟩
  replace TZ := TZ.of_block' (n2.block w.heap.size (by omega) (by omega))
  replace N := Below.ofBut N n2 (by omega)
  clear n2 DW S1 hr1
  obtain ⟨y0, y1, v0, v1⟩ := TZ
  have O := (Only.setCell w2 w.heap.size 0 (.slice a1 X.1.length c1)).trans (Only.setCell _ w.heap.size 1 (.slice a1' X.2.length c1'))
  go_wp2
  refine bodyPost_ret (v := .agg #[.slice a1 X.1.length c1, .slice a1' X.2.length c1']) (by simp [results, Tryd.results33, go_sem, y0, y1]) rfl ⟨?_, (N.setCell (Nat.le_refl _) _).setCell (Nat.le_refl _) _⟩
  exact ⟨a1, a1', c1, c1', g1, g1', rfl, o1.only O (fun _ => by omega), o1'.only O (fun _ => by omega), by omega, by omega⟩
/-- The valid point of a code. -/
def lpP (xs : List Int) : List Int × List Int := if validP (drP xs 0).1 (drP xs 0).2 = true then drP xs 0 else (bsX, bsY)
set_option maxHeartbeats 2000000 in
theorem lwPoint_any (w : World) (g : Nat) (a : Option Addr) (c : Nat) (xs : List Int) (hr : Rd w g a .u8 xs) (hb : Byt xs) (hl : xs.length ≤ 4194304) :
    Calls Tryd.prog 15 #[.slice a xs.length c] w fun r w' => NewPt w.heap.size w' r (lpP xs).1 (lpP xs).2 ∧ Below w.heap.size w w' := by
  have TZ : Two (w.alloc pObj) w.heap.size (.slice none 0 0) (.slice none 0 0) := Two.new w (.slice none 0 0) (.slice none 0 0) 26
  have N : Below w.heap.size w (w.alloc pObj) := (Below.refl _ _).alloc (Nat.le_refl _) _
  have DW := hide (fun W (h : Rd W g a .u8 xs) => drawNeg_any W g a c xs h hb hl)
  have XB := hide (drP_byt xs 0)
  obtain ⟨R, hR⟩ : ∃ R, R = lpP xs := ⟨_, rfl⟩
  rw [← hR]
  unfold lpP at hR
  have HR := hide hR
  clear hR
  generalize drP xs 0 = X at *
  go_enter Tryd.func15, Tryd.ntmps15
  go_upto_region 1 with fail
  change Code.wp _ _ _ _ (w.alloc pObj)
  have hr0 := hr.up N
  generalize w.alloc pObj = wz at *
  go_wp2_with fail
  refine (DW.out wz hr0).mono ?_
  rintro r w1 ⟨⟨a1, a1', c1, c1', g1, g1', rfl, o1, o1', l1, l1'⟩, n1⟩
  have zz := TZ.lt
  have z1 := n1.size
  have TP := Two.new w1 (.slice a1 X.1.length c1) (.slice a1' X.2.length c1') 26
  have n2 : Below w1.heap.size w1 (w1.alloc (.cells #[.slice a1 X.1.length c1, .slice a1' X.2.length c1'] 26)) := (Below.refl _ _).alloc (Nat.le_refl _) _
  replace TZ := (TZ.up n1).up n2
  replace N := nxt (nxt N n1) n2
  replace o1 := o1.up n2
  replace o1' := o1'.up n2
  have z2 := n2.size
  clear n1 n2 DW hr0
  have zl := TP.lt
  have VA := hide (pointValid_any _ g1 g1' a1 a1' c1 c1' X.1 X.2 o1.rd o1'.rd XB.out.1 XB.out.2)
  obtain ⟨p0, p1, pf0, pf1⟩ := id TP
  obtain ⟨v, hv⟩ : ∃ v, v = validP X.1 X.2 := ⟨_, rfl⟩
  rw [← hv] at VA HR
  clear hv
  go_wp2_with fail
  generalize w1.alloc (.cells #[.slice a1 X.1.length c1, .slice a1' X.2.length c1'] 26) = w2 at *
  refine VA.out.mono ?_
  rintro e w3 ⟨rfl, n3⟩
  have z3 := n3.size
  replace TZ := TZ.up n3
  replace TP := TP.up n3
  replace N := nxt N n3
  replace o1 := o1.up n3
  replace o1' := o1'.up n3
  clear n3 VA p0 p1 pf0 pf1
  cases v with
  | true =>
    have HD : Hid (R = X) := by show _ = _; rw [HR.out, if_pos rfl]
    clear HR
    obtain ⟨p0, p1, pf0, pf1⟩ := TP
    obtain ⟨y0, y1, v0, v1⟩ := TZ
    have O := (Only.setCell w3 w.heap.size 0 (.slice a1 X.1.length c1)).trans (Only.setCell _ w.heap.size 1 (.slice a1' X.2.length c1'))
    go_wp2
    refine bodyPost_ret (v := .agg #[.slice a1 X.1.length c1, .slice a1' X.2.length c1']) (by simp [results, Tryd.results15, go_sem, y0, y1]) rfl ⟨?_, (N.setCell (Nat.le_refl _) _).setCell (Nat.le_refl _) _⟩
    rw [HD.out]
    exact ⟨a1, a1', c1, c1', g1, g1', rfl, o1.only O (fun _ => by omega), o1'.only O (fun _ => by omega), by omega, by omega⟩
  | false =>
    have HD : Hid (R = (bsX, bsY)) := by show _ = _; rw [HR.out, if_neg (by decide)]
    clear HR o1 o1'
    have SB : Hid (Calls Tryd.prog 34 #[] w3 fun r w' => NewPt w3.heap.size w' r bsX bsY ∧ Below w3.heap.size w3 w') := specBase_any w3
    generalize bsX = bx at *
    generalize bsY = by' at *
    go_wp2_with fail
    refine SB.out.mono ?_
    rintro r w4 ⟨⟨a4, a4', c4, c4', g4, g4', rfl, o4, o4', l4, l4'⟩, n4⟩
    have z4 := n4.size
    replace TZ := TZ.up n4
    replace N := nxt N n4
    clear n4 SB
    obtain ⟨y0, y1, v0, v1⟩ := TZ
    have O := (Only.setCell w4 w.heap.size 0 (.slice a4 bx.length c4)).trans (Only.setCell _ w.heap.size 1 (.slice a4' by'.length c4'))
    go_wp2
    refine bodyPost_ret (v := .agg #[.slice a4 bx.length c4, .slice a4' by'.length c4']) (by simp [results, Tryd.results15, go_sem, y0, y1]) rfl ⟨?_, (N.setCell (Nat.le_refl _) _).setCell (Nat.le_refl _) _⟩
    rw [HD.out]
    exact ⟨a4, a4', c4, c4', g4, g4', rfl, o4.only O (fun _ => by omega), o4'.only O (fun _ => by omega), by omega, by omega⟩
end Go.Proofs.YtnaaanefndeafaaDoor

/-
  The group of the curve in lists of bytes. Numbers alone.
-/
namespace Go.Proofs.YtnaaanefndeafaaDoor
set_option maxRecDepth 100000
open Go Go.RowKit

/-- A point of the curve in canonical coordinates. -/
structure Pv (p : Int × Int) : Prop where
  on : OnP PP (-1) d0 p
  cn : Cn p
def lx (p : Int × Int) : List Int := fill (byt p.1) 32
def ly (p : Int × Int) : List Int := fill (byt p.2) 32
theorem lx_byt (p : Int × Int) : Byt (lx p) := bytes_5 _ _
theorem ly_byt (p : Int × Int) : Byt (ly p) := bytes_5 _ _
theorem lx_len (p : Int × Int) : (lx p).length = 32 := fill_len _ _
theorem ly_len (p : Int × Int) : (ly p).length = 32 := fill_len _ _
theorem num_fill {v : Int} (h0 : 0 ≤ v) (h1 : v < PP) : num (fill (byt v) 32) = v := by
  have e := num_modS v
  rwa [Int.emod_eq_of_lt h0 h1] at e
theorem lx_num {p : Int × Int} (h : Pv p) : num (lx p) = p.1 := num_fill h.cn.x.1 h.cn.x.2
theorem ly_num {p : Int × Int} (h : Pv p) : num (ly p) = p.2 := num_fill h.cn.y.1 h.cn.y.2
theorem can_fill {v : Int} (h0 : 0 ≤ v) (h1 : v < PP) : canN (fill (byt v) 32) = true := by
  unfold canN
  rw [num_fill h0 h1, fill_len, decide_eq_true h1]
  rfl
theorem lv_valid {p : Int × Int} (h : Pv p) : validP (lx p) (ly p) = true := by
  unfold validP
  rw [lx_num h, ly_num h, show canN (lx p) = true from can_fill h.cn.x.1 h.cn.x.2, show canN (ly p) = true from can_fill h.cn.y.1 h.cn.y.2, on_valid h.on]
  rfl
theorem pv_of {xs ys : List Int} (hx : Byt xs) (hy : Byt ys) (h : validP xs ys = true) : Pv (num xs, num ys) ∧ xs = lx (num xs, num ys) ∧ ys = ly (num xs, num ys) := by
  have x1 := valid_x1 h
  have y1 := valid_y1 h
  refine ⟨⟨on_of h, ⟨num_ge hx, can_lt x1⟩, ⟨num_ge hy, can_lt y1⟩⟩, ?_, ?_⟩
  · have e := fill_can hx x1
    rw [Int.emod_eq_of_lt (num_ge hx) (can_lt x1)] at e
    exact e.symm
  · have e := fill_can hy y1
    rw [Int.emod_eq_of_lt (num_ge hy) (can_lt y1)] at e
    exact e.symm
theorem Pv.add {p q : Int × Int} (hp : Pv p) (hq : Pv q) : Pv (pAdd p q) := ⟨pAdd_on hp.on hq.on, pAdd_cn _ _⟩
theorem Pv.neg {p : Int × Int} (hp : Pv p) : Pv (pNeg p) := ⟨pNeg_on hp.on, pNeg_cn hp.cn⟩
theorem pa_of {p q : Int × Int} (hp : Pv p) (hq : Pv q) : paX (lx p) (ly p) (lx q) (ly q) = lx (pAdd p q) ∧ paY (lx p) (ly p) (lx q) (ly q) = ly (pAdd p q) := by
  unfold paX paY
  rw [if_pos ⟨lv_valid hp, lv_valid hq⟩, if_pos ⟨lv_valid hp, lv_valid hq⟩, lx_num hp, ly_num hp, lx_num hq, ly_num hq]
  exact ⟨rfl, rfl⟩
theorem ns_of {p : Int × Int} (hp : Pv p) : nsX (lx p) (ly p) = lx (pNeg p) ∧ nsY (lx p) (ly p) = ly (pNeg p) := by
  unfold nsX nsY
  rw [if_pos (lv_valid hp), if_pos (lv_valid hp), lx_num hp]
  exact ⟨rfl, rfl⟩
def pZero : Int × Int := (0, 1)
theorem pv_zero : Pv pZero := ⟨by show PP ∣ _; decide, zero_cn⟩
theorem ze_of : fill (byt (0 % PP)) 32 = lx pZero ∧ fill (byt (1 % PP)) 32 = ly pZero := ⟨rfl, rfl⟩
theorem pv_base : Pv (bX, bY) := ⟨base_on, base_cn⟩
theorem bs_of : bsX = lx (bX, bY) ∧ bsY = ly (bX, bY) := by
  have h : liB (4 * iv 5) false = true := by
    unfold liB
    rw [base_lift.1]
    simp
  have e1 : bX % PP = bX := Int.emod_eq_of_lt base_cn.x.1 base_cn.x.2
  unfold bsX bsY liX liY
  rw [if_pos h, if_pos h, base_lift.2, base_mod]
  refine ⟨?_, rfl⟩
  show fill (byt (bX % PP)) 32 = _
  rw [e1]
  rfl
/-- The point that is drawn. -/
theorem lpP_is {xs : List Int} : ∃ p, Pv p ∧ lpP xs = (lx p, ly p) := by
  have hb := drP_byt xs 0
  unfold lpP
  generalize drP xs 0 = X at *
  by_cases h : validP X.1 X.2 = true
  · rw [if_pos h]
    obtain ⟨k, e1, e2⟩ := pv_of hb.1 hb.2 h
    exact ⟨_, k, Prod.ext e1 e2⟩
  · rw [if_neg h]
    exact ⟨_, pv_base, by rw [bs_of.1, bs_of.2]⟩
theorem grp_comm {p q : Int × Int} (hp : Pv p) (hq : Pv q) : pAdd p q = pAdd q p := pAdd_comm hp.on hq.on
theorem grp_assoc {p q r : Int × Int} (hp : Pv p) (hq : Pv q) (hr : Pv r) : pAdd (pAdd p q) r = pAdd p (pAdd q r) := pAdd_assoc hp.on hq.on hr.on
theorem grp_zero {p : Int × Int} (hp : Pv p) : pAdd p pZero = p := pAdd_zero hp.on hp.cn
theorem grp_neg {p : Int × Int} (hp : Pv p) : pAdd p (pNeg p) = pZero := pAdd_neg hp.on
end Go.Proofs.YtnaaanefndeafaaDoor

/-
  Two points that are the same, as the laws ask it.
-/
namespace Go.Proofs.YtnaaanefndeafaaDoor
set_option maxRecDepth 100000
open Go Go.RowKit

set_option maxHeartbeats 2000000 in
theorem lwSamePoint_same (w : World) (g g' h h' : Nat) (a b p q : Option Addr) (ca cb cp cq : Nat) (ys ss : List Int) (h1 : Rd w g a .u8 ys) (h2 : Rd w h p .u8 ss) (h3 : Rd w g' b .u8 ys) (h4 : Rd w h' q .u8 ss) :
    Calls Tryd.prog 18 #[.agg #[.slice a ys.length ca, .slice p ss.length cp], .agg #[.slice b ys.length cb, .slice q ss.length cq]] w fun e w' => e = .returned (.bool true) ∧ Below w.heap.size w w' := by
  have n0 : Below w.heap.size w (w.alloc (.cells #[.slice a ys.length ca, .slice p ss.length cp] 26)) := (Below.refl _ _).alloc (Nat.le_refl _) _
  have n1 : Below w.heap.size w ((w.alloc (.cells #[.slice a ys.length ca, .slice p ss.length cp] 26)).alloc (.cells #[.slice b ys.length cb, .slice q ss.length cq] 26)) := n0.alloc (by simp) _
  have L1 := hide (lwSame_same _ g g' a b ca cb ys (h1.up n1) (h3.up n1))
  have L2 := hide (lwSame_same _ h h' p q cp cq ss (h2.up n1) (h4.up n1))
  go_enter Tryd.func18, Tryd.ntmps18
  go_wp2_with fail
  refine L1.out.mono ?_
  rintro e w3 ⟨rfl, rfl⟩
  go_wp2_with fail
  refine L2.out.mono ?_
  rintro e w4 ⟨rfl, rfl⟩
  go_wp2
  go_ret
  exact ⟨rfl, n1⟩
end Go.Proofs.YtnaaanefndeafaaDoor

/-
  The law by facts for a region that draws its order, with guarded operations that all are wanted. No program in sight.
-/
namespace Go.Proofs.YtnaaanefndeafaaDoor
set_option maxRecDepth 100000
open Go Go.RowKit

section
variable {P : Program} {ops : Array Oper} {Q : Exit → Act → World → Prop} {md : Region.Mode} {F : Nat → Fact} {a0 : Act} {w0 : World}

def textEnd (md : Region.Mode) (ops : Array Oper) (n : Nat) : Bool :=
  (ops.all fun o => match o.dst with | some d => decide (d < n) | none => true)
  && ((List.range ops.size).all fun i => match ops[i]? with
    | some o => o.after.all (fun e => !Region.binds md e || decide (e.on < i)) && (List.range i).all fun j => match ops[j]? with
      | some x => x.dst.isNone || o.dst != x.dst
      | none => true
    | none => true)
structure TextE (md : Region.Mode) (ops : Array Oper) (n : Nat) : Prop where
  d : ∀ (i : Nat) o d, ops[i]? = some o → o.dst = some d → d < n
  a : ∀ (i : Nat) o, ops[i]? = some o → ∀ e ∈ o.after, Region.binds md e = true → e.on < i
  x : ∀ (i j : Nat) o o' d, ops[i]? = some o → ops[j]? = some o' → i ≠ j → o.dst = some d → o'.dst ≠ some d
theorem textE_of {n : Nat} (h : textEnd md ops n = true) : TextE md ops n := by
  unfold textEnd at h
  simp only [Bool.and_eq_true] at h
  obtain ⟨h1, h2⟩ := h
  rw [Array.all_eq_true_iff_forall_mem] at h1
  rw [List.all_eq_true] at h2
  have H : ∀ (i j : Nat) o o' d, j < i → ops[i]? = some o → ops[j]? = some o' → o.dst = some d → o'.dst ≠ some d := by
    intro i j o o' d hij hi hj hd hd'
    have q := h2 i (List.mem_range.2 (Array.getElem?_eq_some_iff.1 hi).1)
    simp only [hi, Bool.and_eq_true] at q
    have r := List.all_eq_true.1 q.2 j (List.mem_range.2 hij)
    simp only [hj, hd, hd'] at r
    simp at r
  refine ⟨?_, ?_, ?_⟩
  · intro i o d ho hd
    have q := h1 o (Array.mem_of_getElem? ho)
    simpa [hd] using q
  · intro i o ho e he hb
    have q := h2 i (List.mem_range.2 (Array.getElem?_eq_some_iff.1 ho).1)
    simp only [ho, Bool.and_eq_true] at q
    have r := (Array.all_eq_true_iff_forall_mem.1 q.1) e he
    rw [hb] at r
    simpa using r
  · intro i j o o' d hi hj hij hd hd'
    rcases Nat.lt_or_gt_of_ne hij with h | h
    · exact H j i o' o d h hj hi hd' hd
    · exact H i j o o' d h hi hj hd hd'
theorem Held.nextE {n : Nat} (T : TextE md ops n) (hn : n ≤ a0.tmps.size) {listed : Array Bool} {a : Act} {w : World} (H : Held md ops F a0 w0 listed a w) {i : Nat} {o : Oper} (ho : ops[i]? = some o) (hr : i ∈ Region.ready md ops listed)
    {v : Value} {w' : World} (hw : Below w.heap.size w w') (hf : (F i).p v w') : Held md ops F a0 w0 (listed.setIfInBounds i true) (a.put o.dst v) w' := by
  have hi : i < ops.size := (Array.getElem?_eq_some_iff.1 ho).1
  have hz : a.tmps.size = a0.tmps.size := H.b.2.1
  refine ⟨⟨by rw [put_defers]; exact H.b.1, by rw [put_size]; exact hz, fun d hd => ?_⟩, nxt H.n hw, ?_, ?_, by simp [H.s]⟩
  · rw [put_off]
    · exact H.b.2.2 d hd
    · have q := Array.all_eq_true_iff_forall_mem.1 hd o (Array.mem_of_getElem? ho)
      simpa using q
  · intro j oj d hoj hj hd
    by_cases e : i = j
    · subst e
      obtain rfl := Option.some.inj (ho.symm.trans hoj)
      rw [hd, put_at (Nat.lt_of_lt_of_le (T.d i o d ho hd) (hz ▸ hn))]
      exact hf
    · rw [getD_off e] at hj
      rw [put_off (T.x j i oj o d hoj ho (Ne.symm e) hd)]
      exact (F j).up hw (H.f j oj d hoj hj hd)
  · intro j oj hoj hj e he hb
    obtain ⟨_, o', ho', q⟩ := mem_ready.1 hr
    by_cases c : i = e.on
    · rw [← c]
      exact getD_same (by rw [H.s]; exact hi) _
    · rw [getD_off c]
      by_cases e' : i = j
      · subst e'
        obtain rfl := Option.some.inj (ho'.symm.trans hoj)
        exact q e he hb
      · rw [getD_off e'] at hj
        exact H.c j oj hoj hj e he hb
theorem any_end {n : Nat} (T : TextE md ops n) (hn : n ≤ a0.tmps.size) (steps : ∀ i, i < ops.size → StepOk P md ops Q F a0 w0 i)
    (hg : ∀ i o, ops[i]? = some o → ∀ (a : Act) (w : World), (∀ j d, waits md ops i j d = true → (F j).p (a.tmps.getD d undef) w) → Region.wanted o (yielded ops a.tmps) = true)
    (fin : ∀ a w, Based ops a0 a → Below w0.heap.size w0 w → (∀ i o d, ops[i]? = some o → o.dst = some d → (F i).p (a.tmps.getD d undef) w) → Q .normal a w) :
    ∀ (fuel : Nat) (listed : Array Bool) (a : Act) (w : World), left listed ops.size ≤ fuel → Held md ops F a0 w0 listed a w → wpAny P md ops Q fuel listed a w := by
  have done : ∀ (fuel : Nat) (listed : Array Bool) (a : Act) (w : World), Held md ops F a0 w0 listed a w → (∀ i, i < ops.size → listed.getD i false = true) → wpAny P md ops Q fuel listed a w := by
    intro fuel listed a w H hall
    refine wpAny_done ?_ (fin a w H.b H.n (fun i o d ho hd => H.f i o d ho (hall i (Array.getElem?_eq_some_iff.1 ho).1) hd)) fuel
    cases hr : Region.ready md ops listed with
    | nil => rfl
    | cons i t =>
      exfalso
      have hi : i ∈ Region.ready md ops listed := by rw [hr]; simp
      obtain ⟨h0, o, ho, _⟩ := mem_ready.1 hi
      have hlt := (Array.getElem?_eq_some_iff.1 ho).1
      rw [dflt (by rw [H.s]; exact hlt), hall i hlt] at h0
      simp at h0
  intro fuel
  induction fuel with
  | zero =>
    intro listed a w hl H
    exact done 0 listed a w H fun i hi => by
      rw [← dflt (by rw [H.s]; exact hi)]
      exact left_zero (n := ops.size) (by omega) i hi
  | succ fuel ih =>
    intro listed a w hl H
    by_cases hall : ∀ i, i < ops.size → listed.getD i false = true
    · exact done _ listed a w H hall
    · refine ⟨fun hr => ?_, fun i hi => ?_⟩
      · exfalso
        refine hall fun j hj => ?_
        have : ∀ m i, i < m → i < ops.size → listed.getD i false = true := by
          intro m
          induction m with
          | zero => intro i hi; omega
          | succ m ihm =>
            intro i hi hik
            rcases Nat.lt_or_ge i m with h1 | h1
            · exact ihm i h1 hik
            · obtain rfl : i = m := by omega
              cases hc : listed.getD i false
              · exfalso
                obtain ⟨o, ho⟩ : ∃ o, ops[i]? = some o := ⟨ops[i], by simp [hik]⟩
                have hr' : i ∈ Region.ready md ops listed := mem_ready.2 ⟨by rw [dflt (by rw [H.s]; omega)]; exact hc, o, ho, fun e he hb => ihm e.on (T.a i o ho e he hb) (by have := T.a i o ho e he hb; omega)⟩
                rw [hr] at hr'
                simp at hr'
              · rfl
        exact this (j + 1) j (by omega) hj
      · obtain ⟨h0, o, ho, hready⟩ := mem_ready.1 hi
        have hlt := (Array.getElem?_eq_some_iff.1 ho).1
        have hfacts : ∀ j d, waits md ops i j d = true → (F j).p (a.tmps.getD d undef) w := by
          intro j d hjd
          unfold waits at hjd
          rw [ho] at hjd
          cases hoj : ops[j]? with
          | none => rw [hoj] at hjd; simp at hjd
          | some oj =>
            rw [hoj] at hjd
            simp only [Bool.and_eq_true, beq_iff_eq] at hjd
            obtain ⟨e, he, hb⟩ := Array.any_eq_true'.1 hjd.1
            simp only [Bool.and_eq_true, beq_iff_eq] at hb
            exact H.f j oj d hoj (by rw [← hb.2]; exact hready e he hb.1) hjd.2
        have hwant := hg i o ho a w hfacts
        refine wpOp_step ho fun K' hK => ?_
        rw [if_pos hwant]
        have hll := left_set (by rw [H.s]; exact hlt) h0 ops.size hlt
        refine steps i hlt o ho a w H.b H.n hfacts K' fun v w' hw hf => ?_
        exact hK _ _ (ih _ _ _ (by omega) (H.nextE T hn ho hi hw hf))
/-- The same for the region. -/
theorem region_guard {id : Nat} {w : World} (F : Nat → Fact) (hm : P.follows .mixedOrders = true) (hT : textEnd .any ops a0.tmps.size = true) (steps : ∀ i, i < ops.size → StepOk P .any ops Q F a0 w i)
    (hg : ∀ i o, ops[i]? = some o → ∀ (a : Act) (w : World), (∀ j d, waits .any ops i j d = true → (F j).p (a.tmps.getD d undef) w) → Region.wanted o (yielded ops a.tmps) = true)
    (fin : ∀ a W, Based ops a0 a → Below w.heap.size w W → (∀ i d, writes ops i d = true → (F i).p (a.tmps.getD d undef) W) → Q .normal a W) : (Code.region id ops true).wp P Q a0 w := by
  have T := textE_of hT
  have z : ∀ j, (Array.replicate ops.size false).getD j false = false := fun j => by
    rw [Array.getD_eq_getD_getElem?, Array.getElem?_replicate]
    split <;> rfl
  refine wp_region_any hm ?_
  refine any_end (w0 := w) T (Nat.le_refl _) steps hg (fun a W hb hw hf => fin a W hb hw (fun i d hd => ?_)) ops.size _ a0 _ ?_ ⟨⟨rfl, rfl, fun _ _ => rfl⟩, (Below.refl _ _).drew, ?_, ?_, by simp⟩
  · obtain ⟨o, ho, hd'⟩ := writes_is hd
    exact hf i o d ho hd'
  · have : ∀ m, left (Array.replicate ops.size false) m ≤ m := by
      intro m
      induction m with
      | zero => exact Nat.le_refl _
      | succ m ih => unfold left; split <;> omega
    exact this _
  · intro i o d ho hl _
    rw [z] at hl
    simp at hl
  · intro i o ho hl
    rw [z] at hl
    simp at hl
theorem wanted_none {o : Oper} {a : Act} (h : o.guard = none) : Region.wanted o (yielded ops a.tmps) = true := by simp [Region.wanted, h]
theorem wanted_some {o : Oper} {a : Act} {g d : Nat} {v : Bool} (h : o.guard = some (g, v)) (hd : writes ops g d = true) (e : a.tmps.getD d undef = .bool v) : Region.wanted o (yielded ops a.tmps) = true := by
  obtain ⟨og, ho, hd'⟩ := writes_is hd
  have e1 : a.tmps[d]? = some (.bool v) := by
    rw [Array.getD_eq_getD_getElem?] at e
    cases hq : a.tmps[d]? with
    | none => rw [hq] at e; simp [undef] at e
    | some x => rw [hq] at e; simpa using e
  simp [Region.wanted, h, yielded, ho, hd', e1]
theorem puts_guard {n : Nat} (hT : textEnd md ops n = true) (hn : n = a0.tmps.size) {a : Act} (hb : Based ops a0 a) (vs : Nat → Value) (hv : ∀ d, a.tmps.getD d undef = vs d) : a = puts vs a0 ops.toList := by
  have T := textE_of hT
  have hin : ∀ o ∈ ops.toList, ∀ e, o.dst = some e → e < a0.tmps.size := fun o ho e he => by
    obtain ⟨i, hi⟩ := List.getElem?_of_mem ho
    have := T.d i o e (by simpa using hi) he
    rw [hn] at this
    exact this
  obtain ⟨s1, s2⟩ := puts_size vs ops.toList a0
  obtain ⟨ta, da⟩ := a
  obtain ⟨h1, h2, h3⟩ := hb
  have e1 : ta = (puts vs a0 ops.toList).tmps := by
    apply Array.ext
    · rw [s1]; exact h2
    · intro i hi hi'
      have g := puts_get vs i ops.toList a0 hin
      have l : ta[i] = ta.getD i undef := by simp [Array.getD_eq_getD_getElem?, hi]
      have r : (puts vs a0 ops.toList).tmps[i] = (puts vs a0 ops.toList).tmps.getD i undef := by simp only [Array.getD_eq_getD_getElem?, Array.getElem?_eq_getElem hi', Option.getD_some]
      rw [l, r, g]
      by_cases c : ops.toList.any (fun o => o.dst == some i) = true
      · rw [if_pos c]; exact hv i
      · rw [if_neg c]
        refine h3 i ?_
        unfold apart
        rw [Array.all_eq_true_iff_forall_mem]
        intro o ho
        have hne : ¬ (o.dst == some i) = true := fun x => c (List.any_eq_true.2 ⟨o, by simpa using ho, x⟩)
        simpa using hne
  have e2 : da = (puts vs a0 ops.toList).defers := h1.trans s2.symm
  subst e1
  subst e2
  rfl
end
end Go.Proofs.YtnaaanefndeafaaDoor

/-
  A point that may be read, as a fact; what is done with it.
-/
namespace Go.Proofs.YtnaaanefndeafaaDoor
set_option maxRecDepth 100000
open Go Go.RowKit

def RPb (p : Int × Int) : Fact := ⟨fun v w => ∃ (a a' : Option Addr) (c c' g g' : Nat), v = .agg #[.slice a (lx p).length c, .slice a' (ly p).length c'] ∧ Rd w g a .u8 (lx p) ∧ Rd w g' a' .u8 (ly p), fun n h => by
  obtain ⟨a, a', c, c', g, g', e, o, o'⟩ := h
  exact ⟨a, a', c, c', g, g', e, o.up n, o'.up n⟩⟩
/-- A decoding that is good or not. -/
def PGd (b : Bool) : Fact := ⟨fun v _ => ∃ x y, v = .agg #[.bool b, x, y], fun _ h => h⟩
theorem fldP0 (w : World) (b : Bool) (x y : Value) : (Instr.field 37 (.agg #[.bool b, x, y]) 0).run Tryd.prog w = .ok (.bool b) w := by kernel_rfl
theorem fldA0 (q : Nat) (w : World) : (Instr.fieldAt 37 (.pointer (some ⟨q, 0, none⟩)) 0).run Tryd.prog w = .ok (.pointer (some ⟨q, 0, none⟩)) w := by kernel_rfl
theorem fldA1 (q : Nat) (w : World) : (Instr.fieldAt 37 (.pointer (some ⟨q, 0, none⟩)) 1).run Tryd.prog w = .ok (.pointer (some ⟨q, 1, none⟩)) w := by kernel_rfl
section
variable {ops : Array Oper} {Q : Exit → Act → World → Prop} {md : Region.Mode} {F : Nat → Fact} {a0 : Act} {w0 : World} {i : Nat} {o : Oper} {ts : Array TypeId}
theorem step_bsame (hi : ops[i]? = some o) (p q j k : Nat) {x : Int × Int} (hop : o.op = .call { callee := .value (.func 18), args := #[.tmp p, .tmp q], argTypes := ts })
    (hj : waits md ops i j p = true) (hk : waits md ops i k q = true) (hFj : F j = RPb x) (hFk : F k = RPb x) (hFi : F i = Fact.eq (.bool true)) : StepOk Tryd.prog md ops Q F a0 w0 i := by
  refine step_call hi _ _ ts hop (by kernel_rfl) fun a w _ hw hF => ?_
  have ea := hF j p hj
  have eb := hF k q hk
  rw [hFj] at ea
  rw [hFk] at eb
  obtain ⟨a1, a1', c1, c1', g1, g1', e1, r1, r1'⟩ := ea
  obtain ⟨a2, a2', c2, c2', g2, g2', e2, r2, r2'⟩ := eb
  show Calls Tryd.prog 18 #[a.tmps.getD p undef, a.tmps.getD q undef] w _
  rw [e1, e2]
  refine (lwSamePoint_same w g1 g2 g1' g2' a1 a2 a1' a2' c1 c2 c1' c2' (lx x) (ly x) r1 r1' r2 r2').mono ?_
  rintro r w' ⟨rfl, hn⟩
  rw [hFi]
  exact ⟨_, rfl, hn, rfl⟩
theorem step_blw (hi : ops[i]? = some o) (p j : Nat) {x : Int × Int} {g : Nat} {b : Option Addr} {c : Nat} {zs : List Int} (hr : Rd w0 g b .u8 zs) (hb : Byt zs) (hl : zs.length ≤ 4194304) (hx : lpP zs = (lx x, ly x)) (hop : o.op = .call { callee := .value (.func 15), args := #[.tmp p], argTypes := ts })
    (hj : waits md ops i j p = true) (hFj : F j = Fact.eq (.slice b zs.length c)) (hFi : F i = RPb x) : StepOk Tryd.prog md ops Q F a0 w0 i := by
  refine step_call hi _ _ ts hop (by kernel_rfl) fun a w _ hw hF => ?_
  have ea := hF j p hj
  rw [hFj] at ea
  show Calls Tryd.prog 15 #[a.tmps.getD p undef] w _
  rw [show a.tmps.getD p undef = _ from ea]
  refine (lwPoint_any w g b c zs (hr.up hw) hb hl).mono ?_
  rintro r w' ⟨h, hn⟩
  rw [hFi]
  rw [hx] at h
  obtain ⟨a1, a1', c1, c1', g1, g1', rfl, o1, o1', _⟩ := h
  exact ⟨_, rfl, hn, a1, a1', c1, c1', g1, g1', rfl, o1.rd, o1'.rd⟩
theorem step_bload (hi : ops[i]? = some o) (p j : Nat) (hop : o.op = .load 26 (.tmp p)) (hj : waits md ops i j p = true) (B : Nat) {u : Value} {x : Int × Int} {a a' : Option Addr} {c c' g g' : Nat} (hFj : F j = Fact.eq (.pointer (some ⟨B, 1, none⟩))) (T : Tri w0 B u (.slice a (lx x).length c) (.slice a' (ly x).length c')) (r : Rd w0 g a .u8 (lx x)) (r' : Rd w0 g' a' .u8 (ly x)) (hF : F i = RPb x) : StepOk Tryd.prog md ops Q F a0 w0 i := by
  obtain ⟨fs, hu⟩ := uP
  refine step_load hi _ _ hop _ 2 hu rfl iP fun A w hb hw hf => ?_
  have e := hf j p hj
  rw [hFj] at e
  refine ⟨B, 1, [.slice a (lx x).length c, .slice a' (ly x).length c'], e, fun k v hv => ?_, rfl, by rw [hF]; exact ⟨a, a', c, c', g, g', rfl, r.up hw, r'.up hw⟩⟩
  have T' := T.up hw
  match k, hv with
  | 0, hv => cases hv; exact T'.c1
  | 1, hv => cases hv; exact T'.c2
theorem step_bdec (hi : ops[i]? = some o) (p j : Nat) {gd : Bool} {g : Nat} {b : Option Addr} {c : Nat} {zs : List Int} (hr : Rd w0 g b .u8 zs) (hb : Byt zs) (hc : b = none → c = 0) (hg : gd = dcB zs) (hop : o.op = .call { callee := .value (.func 21), args := #[.tmp p], argTypes := ts })
    (hj : waits md ops i j p = true) (hFj : F j = Fact.eq (.slice b zs.length c)) (hFi : F i = PGd gd) : StepOk Tryd.prog md ops Q F a0 w0 i := by
  refine step_call hi _ _ ts hop (by kernel_rfl) fun a w _ hw hF => ?_
  have ea := hF j p hj
  rw [hFj] at ea
  show Calls Tryd.prog 21 #[a.tmps.getD p undef] w _
  rw [show a.tmps.getD p undef = _ from ea]
  refine (specDecode_any w g b c zs (hr.up hw) hb hc).mono ?_
  rintro r w' ⟨h, hn⟩
  rw [hFi, hg]
  obtain ⟨a1, a1', c1, c1', g1, g1', rfl, _⟩ := h
  exact ⟨_, rfl, hn, _, _, rfl⟩
theorem step_bfld (hi : ops[i]? = some o) (p j : Nat) {gd : Bool} (hop : o.op = .field 37 (.tmp p) 0) (hj : waits md ops i j p = true) (hFj : F j = PGd gd) (hFi : F i = Fact.eq (.bool gd)) : StepOk Tryd.prog md ops Q F a0 w0 i := by
  refine step_pure hi fun a w _ _ hf => ⟨.bool gd, ?_, by rw [hFi]; exact rfl⟩
  have h1 := hf j p hj
  rw [hFj] at h1
  obtain ⟨x, y, e⟩ := h1
  have g1 : a.eval (.tmp p) = .agg #[.bool gd, x, y] := e
  have k := fldP0 w gd x y
  simp only [execOp, hop, g1]
  rw [Sem.run_bind, k]
  rfl
theorem step_bne (hi : ops[i]? = some o) (p q j k : Nat) {b : Bool} {t : TypeId} (hop : o.op = .binOp .neq 4 (.tmp p) (.tmp q) t) (hj : waits md ops i j p = true) (hk : waits md ops i k q = true) (hFj : F j = Fact.eq (.bool b)) (hFk : F k = Fact.eq (.bool b)) (hFi : F i = Fact.eq (.bool false)) : StepOk Tryd.prog md ops Q F a0 w0 i := by
  refine step_pure hi fun a w _ _ hf => ⟨.bool false, ?_, by rw [hFi]; exact rfl⟩
  have h1 := hf j p hj
  have h2 := hf k q hk
  rw [hFj] at h1
  rw [hFk] at h2
  have g1 : a.eval (.tmp p) = .bool b := h1
  have g2 : a.eval (.tmp q) = .bool b := h2
  simp only [execOp, hop, g1, g2]
  cases b <;> first | rfl | kernel_rfl | go_simp
end
end Go.Proofs.YtnaaanefndeafaaDoor

/-
  The bytes that are drawn for an element, from a source that was asked before.
-/
namespace Go.Proofs.YtnaaanefndeafaaDoor
set_option maxRecDepth 100000
open Go.RowKit

theorem canon_pos {ys : List Int} {v : Int} (h : Canon ys v) : 0 < ys.length ↔ 0 < v := by
  constructor
  · intro h0
    have := h.ge h0
    have hp := p256_pos (ys.length - 1)
    omega
  · intro hv
    by_cases e : ys.length = 0
    · have : ys = [] := List.eq_nil_of_length_eq_zero e
      subst this
      have := h.2.1
      rw [bval_nil] at this
      omega
    · omega
theorem But.up {g : Nat} {a b c : World} (h : But g a b) (n : Below b.heap.size b c) : But g a c := h.trans (But.ofBelow n)
theorem dig_bytes {xs : List Int} (h : Byt xs) (n : Nat) : Byt (fill (dig xs) n) := by
  intro i
  by_cases hi : i < n
  · rw [fill_get _ _ _ hi]; have := dig_byt h i; omega
  · rw [List.getD_eq_getElem?_getD, List.getElem?_eq_none (by rw [fill_len]; omega)]; simp

theorem byt_fill {f : Nat → Int} (h : ∀ i, 0 ≤ f i ∧ f i < 256) (n : Nat) : Byt (fill f n) := by
  intro i
  by_cases hi : i < n
  · rw [fill_get _ _ _ hi]; exact h i
  · rw [List.getD_eq_getElem?_getD, List.getElem?_eq_none (by rw [fill_len]; omega)]; simp

/-- A source that was asked at most m times. -/
def SrcTo (w : World) (s : Nat) (a : Option Addr) (n c : Nat) (m : Int) : Prop := ∃ t, 0 ≤ t ∧ t ≤ m ∧ Src w s a n c t

set_option maxHeartbeats 4000000 in
theorem l2DrawT_any (w : World) (s g : Nat) (a : Option Addr) (c : Nat) (xs : List Int) (t : Int) (t0 : 0 ≤ t) (t1 : t ≤ 10000) (hs : Src w s a xs.length c t) (hr : Rd w g a .u8 xs) (hne : 0 < xs.length → g ≠ s) (hb : Byt xs) (hl : xs.length ≤ 1048576) :
    Calls Tryd.prog 48 #[.pointer (some ⟨s, 0, none⟩)] w fun e w' => ∃ ys, Byt ys ∧ ys.length ≤ 64 ∧ NewRow w.heap.size w' e .u8 ys ∧ But s w w' ∧ SrcTo w' s a xs.length c (t + 200) := by
  obtain ⟨i0, hi, hz0, hz1, hz2⟩ := info_parts Tryd.info5
  have sl := hs.lt
  have NX := l1Next_any w s g a c xs t 10 hs hr hne hb hl (by omega) (by omega) (by decide) (by decide)
  go_enter Tryd.func48, Tryd.ntmps48
  go_wp2_with fail
  refine NX.mono ?_
  rintro e w1 ⟨r, rfl, ⟨r0, r1⟩, S1, O1⟩
  have N1 : But s w w1 := But.ofOnly O1
  have hr1 := hr.but N1 hne
  have z1 := hide O1.size
  clear NX
  rcases (show r = 0 ∨ r = 1 ∨ r = 2 ∨ r = 3 ∨ r = 4 ∨ 5 ≤ r by omega) with rfl | rfl | rfl | rfl | rfl | h5
  · go_wp2_with fail
    refine (l1Next_any w1 s g a c xs (t + 1) 40 S1 hr1 hne hb hl (by omega) (by omega) (by decide) (by decide)).mono ?_
    rintro e w2 ⟨v, rfl, ⟨v0, v1⟩, S2, O2⟩
    go_wp2_with fail
    refine (l1Int_any w2 v v0 (by omega)).mono ?_
    rintro e w3 ⟨i1, il, ib, ⟨ai, ci, gi, rfl, oi, pi, qi, ri⟩, n3⟩
    go_wp2_with fail
    refine (l1Little_any w3 gi ai ci i1 32 oi.rd ib (by omega) (by omega)).mono ?_
    rintro e w4 ⟨rfl, B4, n4⟩
    have N4 := ((N1.only O2).up n3).up n4
    have z := ((N1.only O2).up n3).size
    go_wp2
    go_ret
    exact ⟨_, dig_bytes ib 32, by rw [fill_len]; omega, ⟨_, 32, w3.heap.size, by rw [fill_len]; rfl, B4.own0, by simp, by rw [fill_len]; omega, z⟩, N4, ⟨_, by omega, by omega, (S2.up n3).up n4⟩⟩
  · go_wp2_with fail
    refine (l2Prime_any w1).mono ?_
    rintro e w2 ⟨rfl, B2, n2⟩
    have nB : Below w2.heap.size w2 (w2.alloc (.cells #[.int .u8 20] 5)) := (Below.refl _ _).alloc (Nat.le_refl _) _
    have BB : Blk (w2.alloc (.cells #[.int .u8 20] 5)) w2.heap.size .u8 [20] := ⟨5, by rw [heap_alloc_last]; rfl⟩
    have hb20 : Byt [20] := fun i => by
      match i with
      | 0 => decide
      | i + 1 => simp
    go_wp2_with fail
    generalize w2.alloc (.cells #[.int .u8 20] 5) = wB at *
    refine (l1Add_any wB _ _ _ _ 32 1 pbytes [20] (B2.up nB).own0.rd BB.own0.rd pbytes_byt hb20 (by decide) (by decide)).mono ?_
    rintro e w3 ⟨y3, C3, ⟨a3, c3, g3, rfl, o3, p3, q3, r3⟩, n3⟩
    rw [pbytes_val] at C3
    have N3 := ((N1.up n2).up nB).up n3
    have hz3 : w.heap.size ≤ w2.heap.size := (N1.up n2).size
    have S3 := ((S1.up n2).up nB).up n3
    have hg3 : w.heap.size ≤ g3 := by have := nB.size; omega
    clear B2 BB
    go_wp2_with fail
    refine (l1Next_any w3 s g a c xs (t + 1) 40 S3 (hr.but N3 hne) hne hb hl (by omega) (by omega) (by decide) (by decide)).mono ?_
    rintro e w4 ⟨v, rfl, ⟨v0, v1⟩, S4, O4⟩
    have o3a := o3.only O4 (fun _ => by omega)
    have N4 := N3.only O4
    go_wp2_with fail
    refine (l1Int_any w4 v v0 (by omega)).mono ?_
    rintro e w5 ⟨i1, il, ib, ⟨ai, ci, gi, rfl, oi, pi, qi, ri⟩, n5⟩
    have o3b := o3a.up n5
    have N5 := N4.up n5
    go_wp2_with fail
    have V : Hid (bval i1 ≤ bval y3) := by
      show _ ≤ _
      have h1 : bval i1 < 256 := by
        have := bval_lt ib
        have hp : (256 : Int) ^ i1.length ≤ 256 ^ 1 := p256_le il
        have : (256 : Int) ^ 1 = 256 := by decide
        omega
      rw [C3.2.1]
      have : bval [20] = 20 := rfl
      have : (0 : Int) ≤ PP - 256 := by decide
      omega
    have L3 : y3.length ≤ 64 := C3.len (by decide)
    have LI : i1.length ≤ y3.length := by
      have := (canon_pos C3).2 (by decide)
      omega
    refine (l1Sub_any w5 g3 gi a3 ai c3 ci y3 i1 o3b.rd oi.rd C3.1 ib (by omega) LI V.out).mono ?_
    rintro e w6 ⟨y6, C6, ⟨a6, c6, g6, rfl, o6, p6, q6, r6⟩, n6⟩
    have L6 : y6.length ≤ 64 := C6.len (Int.lt_of_le_of_lt (show bval y3 - bval i1 ≤ bval y3 by have := bval_nonneg ib; omega) (Int.lt_of_lt_of_le (bval_lt C3.1) (p256_le L3)))
    go_wp2_with fail
    refine (l1Little_any w6 g6 a6 c6 y6 32 o6.rd C6.1 (by omega) (by omega)).mono ?_
    rintro e w7 ⟨rfl, B7, n7⟩
    have N7 := (N5.up n6).up n7
    have z := (N5.up n6).size
    go_wp2
    go_ret
    exact ⟨_, dig_bytes C6.1 32, by rw [fill_len]; omega, ⟨_, 32, w6.heap.size, by rw [fill_len]; rfl, B7.own0, by simp, by rw [fill_len]; omega, z⟩, N7, ⟨_, by omega, by omega, ((S4.up n5).up n6).up n7⟩⟩
  · go_wp2_with fail
    refine (l2Prime_any w1).mono ?_
    rintro e w2 ⟨rfl, B2, n2⟩
    go_wp2_with fail
    refine (l1Shift1_any w2 _ _ 32 pbytes B2.own0.rd pbytes_byt (by simp) (by decide) (by decide)).mono ?_
    rintro e wS ⟨yS, CS, ⟨aS, cS, gS, rfl, oS, pS, qS, rS⟩, nS⟩
    rw [pbytes_val] at CS
    have lS : yS.length ≤ 64 := CS.len (by decide)
    have nB : Below wS.heap.size wS (wS.alloc (.cells #[.int .u8 20] 5)) := (Below.refl _ _).alloc (Nat.le_refl _) _
    have BB : Blk (wS.alloc (.cells #[.int .u8 20] 5)) wS.heap.size .u8 [20] := ⟨5, by rw [heap_alloc_last]; rfl⟩
    have hb20 : Byt [20] := fun i => by
      match i with
      | 0 => decide
      | i + 1 => simp
    go_wp2_with fail
    generalize wS.alloc (.cells #[.int .u8 20] 5) = wB at *
    refine (l1Add_any wB gS _ aS _ cS 1 yS [20] (oS.up nB).rd BB.own0.rd CS.1 hb20 (by omega) (by decide)).mono ?_
    rintro e w3 ⟨y3, C3, ⟨a3, c3, g3, rfl, o3, p3, q3, r3⟩, n3⟩
    rw [CS.2.1] at C3
    have N3 := (((N1.up n2).up nS).up nB).up n3
    have hz3 : w.heap.size ≤ wS.heap.size := ((N1.up n2).up nS).size
    have S3 := (((S1.up n2).up nS).up nB).up n3
    have hg3 : w.heap.size ≤ g3 := by have := nB.size; omega
    clear B2 BB
    go_wp2_with fail
    refine (l1Next_any w3 s g a c xs (t + 1) 40 S3 (hr.but N3 hne) hne hb hl (by omega) (by omega) (by decide) (by decide)).mono ?_
    rintro e w4 ⟨v, rfl, ⟨v0, v1⟩, S4, O4⟩
    have o3a := o3.only O4 (fun _ => by omega)
    have N4 := N3.only O4
    go_wp2_with fail
    refine (l1Int_any w4 v v0 (by omega)).mono ?_
    rintro e w5 ⟨i1, il, ib, ⟨ai, ci, gi, rfl, oi, pi, qi, ri⟩, n5⟩
    have o3b := o3a.up n5
    have N5 := N4.up n5
    go_wp2_with fail
    have V : Hid (bval i1 ≤ bval y3) := by
      show _ ≤ _
      have h1 : bval i1 < 256 := by
        have := bval_lt ib
        have hp : (256 : Int) ^ i1.length ≤ 256 ^ 1 := p256_le il
        have : (256 : Int) ^ 1 = 256 := by decide
        omega
      rw [C3.2.1]
      have : bval [20] = 20 := rfl
      have : (0 : Int) ≤ PP - 256 := by decide
      omega
    have L3 : y3.length ≤ 64 := C3.len (by decide)
    have LI : i1.length ≤ y3.length := by
      have := (canon_pos C3).2 (by decide)
      omega
    refine (l1Sub_any w5 g3 gi a3 ai c3 ci y3 i1 o3b.rd oi.rd C3.1 ib (by omega) LI V.out).mono ?_
    rintro e w6 ⟨y6, C6, ⟨a6, c6, g6, rfl, o6, p6, q6, r6⟩, n6⟩
    have L6 : y6.length ≤ 64 := C6.len (Int.lt_of_le_of_lt (show bval y3 - bval i1 ≤ bval y3 by have := bval_nonneg ib; omega) (Int.lt_of_lt_of_le (bval_lt C3.1) (p256_le L3)))
    go_wp2_with fail
    refine (l1Little_any w6 g6 a6 c6 y6 32 o6.rd C6.1 (by omega) (by omega)).mono ?_
    rintro e w7 ⟨rfl, B7, n7⟩
    have N7 := (N5.up n6).up n7
    have z := (N5.up n6).size
    go_wp2
    go_ret
    exact ⟨_, dig_bytes C6.1 32, by rw [fill_len]; omega, ⟨_, 32, w6.heap.size, by rw [fill_len]; rfl, B7.own0, by simp, by rw [fill_len]; omega, z⟩, N7, ⟨_, by omega, by omega, ((S4.up n5).up n6).up n7⟩⟩
  · go_wp2_with (at_make; refine wpList_make_full _ rfl _ _ 22 rfl w1.heap.size 5 i0 (.int .u8 0) 1 Tryd.underlying22 hi hz0 hz1 .i64 .i64 _ _ 32 rfl rfl rfl rfl (by rw [hz2]; omega) (by unfold maxLen; omega) (Nat.le_refl _) ?_; intro w2 hown hgrow)
    have hB := Blk.of_made hown
    have nM : Below w1.heap.size w1 w2 := (Below.refl _ _).grown hgrow (Nat.le_refl _) (by simp)
    have S2 := S1.up nM
    have N2 := N1.up nM
    have z2 : w1.heap.size < w2.heap.size := hB.lt
    clear hown hgrow
    go_loopw [5] (fun i wr => ∃ (k : Nat) (ys : List Int), k ≤ 32 ∧ i = .int .i64 k ∧ FillTo (fun _ => 255) ys 32 k ∧ Blk wr w1.heap.size .u8 ys ∧ Src wr s a xs.length c (t + 1) ∧ But s w wr) (fun i _ => 32 - (intOf i).toNat)
    case atStart => exact ⟨0, _, by omega, rfl, ⟨by simp, fun j hj => absurd hj (by omega)⟩, hB, S2, N2⟩
    case round =>
      clear hB nM S2 N2
      obtain ⟨k, ys, hk, rfl, hF, hB, hS, hN⟩ := hrel
      have z1' := z1.out
      have sne : s ≠ w1.heap.size := by omega
      clear z1'
      by_cases hlt : k < 32
      · have hst := hF.step hlt
        have hcy := hB.cell (i := k) (by rw [hF.1]; exact hlt)
        have hfy := hB.free k
        have k2 : (k : Int) < 32 := by omega
        have St := hB.store k 255
        have Ss := hS.of_block (w' := wr.setCell ⟨w1.heap.size, k, none⟩ (.int .u8 255)) (heap_setCell_other wr ⟨w1.heap.size, k, none⟩ s _ sne)
        have Sn : But s w (wr.setCell ⟨w1.heap.size, k, none⟩ (.int .u8 255)) := hN.setCell (by have := z1.out; omega)
        clear hB hN hF hS
        go_wp2
        go_roundw
        case rel => exact ⟨k + 1, _, by omega, by go_num, hst, St, Ss, Sn⟩
        case measure => simp [intOf]; omega
      · obtain rfl : k = 32 := by omega
        have hy := hF.all
        subst hy
        go_wp2_with fail
        refine (l1Next_any wr s g a c xs (t + 1) 256 hS (hr.but hN hne) hne hb hl (by omega) (by omega) (by decide) (by decide)).mono ?_
        rintro e w4 ⟨v, rfl, ⟨v0, v1⟩, S4, O4⟩
        have B4 := hB.of_block (O4.block w1.heap.size (by omega))
        have c0 : w4.cell? ⟨w1.heap.size, 0, none⟩ = some (.int .u8 255) := B4.cell (i := 0) (by rw [fill_len]; omega)
        have f0 := B4.free 0
        have B5 := B4.store 0 v
        have S5 := S4.of_block (w' := w4.setCell ⟨w1.heap.size, 0, none⟩ (.int .u8 v)) (heap_setCell_other w4 ⟨w1.heap.size, 0, none⟩ s _ sne)
        have N5 : But s w (w4.setCell ⟨w1.heap.size, 0, none⟩ (.int .u8 v)) := (hN.only O4).setCell (by have := z1.out; omega)
        have hv : v % 256 = v := by omega
        have zz : w.heap.size ≤ w1.heap.size := by have := z1.out; omega
        have ZZ := hide zz
        clear zz
        clear hB B4
        go_wp2
        go_ret
        refine ⟨_, byt_set (byt_fill (fun _ => ⟨by decide, by decide⟩) 32) 0 v v0 (by omega), by simp [fill_len], ⟨_, 32, w1.heap.size, ?_, B5.own0, by simp, by simp [fill_len], ZZ.out⟩, N5, ⟨_, by omega, by omega, S5⟩⟩
        simp [fill_len]
  · go_wp2_with (first | (at_make; refine wpList_make_full _ rfl _ _ 22 rfl w1.heap.size 5 i0 (.int .u8 0) 1 Tryd.underlying22 hi hz0 hz1 .i64 .i64 _ _ 32 rfl rfl rfl rfl (by rw [hz2]; omega) (by unfold maxLen; omega) (Nat.le_refl _) ?_; intro w2 hown hgrow) | fail)
    have hB := Blk.of_made hown
    have nM : Below w1.heap.size w1 w2 := (Below.refl _ _).grown hgrow (Nat.le_refl _) (by simp)
    have S2 := S1.up nM
    have N2 := N1.up nM
    clear hown hgrow
    refine (l1Next_any w2 s g a c xs (t + 1) 32 S2 (hr.but N2 hne) hne hb hl (by omega) (by omega) (by decide) (by decide)).mono ?_
    rintro e w3 ⟨i, rfl, ⟨j0, j1⟩, S3, O3⟩
    have sne : s ≠ w1.heap.size := by have := z1.out; omega
    have B3 := hB.of_block (O3.block w1.heap.size (by omega))
    have N3 := N2.only O3
    obtain ⟨j, rfl⟩ := Int.eq_ofNat_of_zero_le j0
    go_wp2_with fail
    refine (l1Next_any w3 s g a c xs (t + 1 + 1) 256 S3 (hr.but N3 hne) hne hb hl (by omega) (by omega) (by decide) (by decide)).mono ?_
    rintro e w4 ⟨v, rfl, ⟨v0, v1⟩, S4, O4⟩
    have B4 := B3.of_block (O4.block w1.heap.size (by omega))
    have c0 := B4.cell (i := j) (by simp; omega)
    have f0 := B4.free j
    have B5 := B4.store j v
    have S5 := S4.of_block (w' := w4.setCell ⟨w1.heap.size, j, none⟩ (.int .u8 v)) (heap_setCell_other w4 ⟨w1.heap.size, j, none⟩ s _ sne)
    have N5 : But s w (w4.setCell ⟨w1.heap.size, j, none⟩ (.int .u8 v)) := (N3.only O4).setCell (by have := z1.out; omega)
    have hv : v % 256 = v := by omega
    have zz : w.heap.size ≤ w1.heap.size := by have := z1.out; omega
    have ZZ := hide zz
    clear zz hB B3 B4
    go_wp2
    go_ret
    refine ⟨_, byt_set (byt_zeros 32) j v v0 (by omega), by simp, ⟨_, 32, w1.heap.size, ?_, B5.own0, by simp, by simp, ZZ.out⟩, N5, ⟨_, by omega, by omega, S5⟩⟩
    simp
  · have q0 : (r == 0) = false := by simp; omega
    have q1 : (r == 1) = false := by simp; omega
    have q2 : (r == 2) = false := by simp; omega
    have q3 : (r == 3) = false := by simp; omega
    have q4 : (r == 4) = false := by simp; omega
    clear r0 r1 h5
    go_wp2_with fail
    refine (l1DrawBytes_any w1 s g a c xs (t + 1) 32 S1 hr1 hne hb hl (by omega) (by omega)).mono ?_
    rintro e w2 ⟨y2, l2, b2, ⟨a2, c2, g2, rfl, o2, p2, q2', r2⟩, S2, T2⟩
    have N2 := N1.trans T2
    have z2 := T2.size
    go_wp2_with fail
    refine (l1Chance_any w2 s g a c xs (t + 1 + ((32 : Nat) : Int)) 25 S2 (hr.but N2 hne) hne hb hl (by omega) (by omega) (by decide) (by decide)).mono ?_
    rintro e w3 ⟨bb, rfl, S3, O3⟩
    have N3 := N2.only O3
    have z1' := z1.out
    have o3 := o2.only O3 (fun _ => by omega)
    have zz : w.heap.size ≤ g2 := by omega
    have ZZ := hide zz
    have L2 := hide l2
    clear zz z1' l2
    cases bb
    · go_wp2
      go_ret
      exact ⟨y2, b2, by have := L2.out; omega, ⟨_, _, g2, by rw [L2.out]; rfl, o3, p2, q2', ZZ.out⟩, N3, ⟨_, by omega, by omega, S3⟩⟩
    · go_wp2_with fail
      refine (l1Next_any w3 s g a c xs (t + 1 + ((32 : Nat) : Int) + 1) 2 S3 (hr.but N3 hne) hne hb hl (by omega) (by omega) (by decide) (by decide)).mono ?_
      rintro e w4 ⟨v, rfl, ⟨v0, v1⟩, S4, O4⟩
      have N4 := N3.only O4
      obtain ⟨j, rfl⟩ := Int.eq_ofNat_of_zero_le v0
      have hj : (31 : Int) + 2 * (j : Int) = ((31 + 2 * j : Nat) : Int) := by omega
      have DB := l1DrawBytes_any w4 s g a c xs (t + 1 + ((32 : Nat) : Int) + 1 + 1) (31 + 2 * j) S4 (hr.but N4 hne) hne hb hl (by omega) (by omega)
      rw [← hj] at DB
      have DH := hide DB
      clear DB hj
      go_wp2_with fail
      refine DH.out.mono ?_
      rintro e w5 ⟨y5, l5, b5, ⟨a5, c5, g5, rfl, o5, p5, q5, r5⟩, S5, T5⟩
      have N5 := N4.trans T5
      have z4 := N4.size
      have L5 : y5.length ≤ 64 := by omega
      have zz : w.heap.size ≤ g5 := by omega
      have ZZ := hide zz
      clear zz l5 DH
      go_wp2
      go_ret
      exact ⟨y5, b5, L5, ⟨_, _, g5, rfl, o5, p5, q5, ZZ.out⟩, N5, ⟨_, by omega, by omega, S5⟩⟩

end Go.Proofs.YtnaaanefndeafaaDoor

/-
  The model's PointEncode.
-/
namespace Go.Proofs.YtnaaanefndeafaaDoor
set_option maxRecDepth 100000
open Go Go.RowKit

/-- The form of a point as bytes; nothing, if there is none. -/
def esA (xs ys : List Int) : List Int := if validP xs ys = true then ys.set 31 (ys.getD 31 0 + 128 * (xs.getD 0 0 % 2)) else []
section
variable {ops : Array Oper} {Q : Exit → Act → World → Prop} {md : Region.Mode} {F : Nat → Fact} {a0 : Act} {w0 : World} {i : Nat} {o : Oper}
theorem step_at0 (hi : ops[i]? = some o) (p j : Nat) {g off c : Nat} (hop : o.op = .indexAddr 22 (.tmp p) (.const (.int .i64 0))) (hj : waits md ops i j p = true) (hFj : F j = Fact.eq (.slice (some ⟨g, off, none⟩) 32 c)) (hF : F i = Fact.eq (.pointer (some ⟨g, off, none⟩))) : StepOk Tryd.prog md ops Q F a0 w0 i := by
  refine step_pure hi fun a w hb hw hf => ⟨.pointer (some ⟨g, off, none⟩), ?_, by rw [hF]; exact rfl⟩
  have e := hf j p hj
  rw [hFj] at e
  have e' : a.eval (.tmp p) = .slice (some ⟨g, off, none⟩) 32 c := e
  have e2 : a.eval (.const (.int .i64 0)) = .int .i64 0 := rfl
  simp only [execOp, hop, e', e2]
  go_simp
theorem step_rem2 (hi : ops[i]? = some o) (p j : Nat) {v : Int} (h0 : 0 ≤ v ∧ v < 256) (hop : o.op = .binOp .rem 5 (.tmp p) (.const (.int .u8 2)) 5) (hj : waits md ops i j p = true) (hFj : F j = Fact.eq (.int .u8 v)) (hF : F i = Fact.eq (.int .u8 (v % 2))) : StepOk Tryd.prog md ops Q F a0 w0 i := by
  have et : v.tmod 2 = v % 2 := Int.tmod_eq_emod_of_nonneg h0.1
  refine step_pure hi fun a w _ hw hf => ⟨.int .u8 (v % 2), ?_, by rw [hF]; exact rfl⟩
  have e := hf j p hj
  rw [hFj] at e
  have e' : a.eval (.tmp p) = .int .u8 v := e
  have e2 : a.eval (.const (.int .u8 2)) = .int .u8 2 := rfl
  simp only [execOp, hop, e', e2]
  go_simp
theorem step_m128 (hi : ops[i]? = some o) (p j : Nat) {v : Int} (h0 : 0 ≤ v ∧ v < 2) (hop : o.op = .binOp .mul 5 (.const (.int .u8 128)) (.tmp p) 5) (hj : waits md ops i j p = true) (hFj : F j = Fact.eq (.int .u8 v)) (hF : F i = Fact.eq (.int .u8 (128 * v))) : StepOk Tryd.prog md ops Q F a0 w0 i := by
  have ew : IntKind.u8.wrap (128 * v) = 128 * v := by rw [IntKind.wrap_u8]; omega
  refine step_pure hi fun a w _ hw hf => ⟨.int .u8 (128 * v), ?_, by rw [hF]; exact rfl⟩
  have e := hf j p hj
  rw [hFj] at e
  have e' : a.eval (.tmp p) = .int .u8 v := e
  have e2 : a.eval (.const (.int .u8 128)) = .int .u8 128 := rfl
  simp only [execOp, hop, e', e2]
  go_simp
theorem step_add8 (hi : ops[i]? = some o) (p q j k : Nat) {u v : Int} (h0 : 0 ≤ u + v ∧ u + v < 256) (hop : o.op = .binOp .add 5 (.tmp p) (.tmp q) 5) (hj : waits md ops i j p = true) (hk : waits md ops i k q = true) (hFj : F j = Fact.eq (.int .u8 u)) (hFk : F k = Fact.eq (.int .u8 v)) (hF : F i = Fact.eq (.int .u8 (u + v))) : StepOk Tryd.prog md ops Q F a0 w0 i := by
  have ew : IntKind.u8.wrap (u + v) = u + v := by rw [IntKind.wrap_u8]; omega
  refine step_pure hi fun a w _ hw hf => ⟨.int .u8 (u + v), ?_, by rw [hF]; exact rfl⟩
  have e := hf j p hj
  have e3 := hf k q hk
  rw [hFj] at e
  rw [hFk] at e3
  have e' : a.eval (.tmp p) = .int .u8 u := e
  have e2 : a.eval (.tmp q) = .int .u8 v := e3
  simp only [execOp, hop, e', e2]
  go_simp
end
/-- One byte of a row is set. -/
theorem own_set {w : World} {h off : Nat} {xs : List Int} (o : Own w h (some ⟨h, off, none⟩) .u8 xs) (h0 : 0 < xs.length) (i : Nat) (hi : i < xs.length) (v : Int) : Own (w.setCell ⟨h, off + i, none⟩ (.int .u8 v)) h (some ⟨h, off, none⟩) .u8 (xs.set i v) := by
  obtain ⟨off', e, hc⟩ := o h0
  cases e
  intro _
  refine ⟨off, rfl, fun j hj => ?_⟩
  rw [List.length_set] at hj
  obtain ⟨c, f⟩ := hc j hj
  refine ⟨?_, by rw [World.frozen?_setCell]; exact f⟩
  by_cases e : j = i
  · subst e
    rw [World.cell?_setCell_same _ _ _ c]
    simp [List.getD_eq_getElem?_getD, hj]
  · rw [World.cell?_setCell_other (h := by simp; try omega), c]
    simp [List.getD_eq_getElem?_getD, Ne.symm e]
/-- A region that lays a byte. -/
theorem region_st8 {ops : Array Oper} {Q : Exit → Act → World → Prop} {a0 : Act} {w : World} {id : Nat} {draw : Bool} (k jA jV pA pV : Nat) (o : Oper) (F : Nat → Fact) {q off : Nat} {v u : Int} (hT : textOk .any ops a0.tmps.size k = true) (hk : ops[k]? = some o) (hd : o.dst = none) (hop : o.op = .store 5 (.tmp pA) (.tmp pV))
    (wA : writes ops jA pA = true) (wV : writes ops jV pV = true) (FA : F jA = Fact.eq (.pointer (some ⟨q, off, none⟩))) (FV : F jV = Fact.eq (.int .u8 v)) (hc : w.cell? ⟨q, off, none⟩ = some (.int .u8 u)) (hf : w.frozen? ⟨q, off, none⟩ = false) (steps : ∀ i, i < k → StepOk Tryd.prog .any ops Q F a0 w i)
    (fin : ∀ (vs : Nat → Value) (W : World), Below w.heap.size w W → Q .normal (puts vs a0 ops.toList) (W.setCell ⟨q, off, none⟩ (.int .u8 v))) :
    (Code.region id ops draw).wp Tryd.prog Q a0 w := by
  refine region_store k o F (by kernel_rfl) hT hk hd steps fun a W hb hw hF => ?_
  have h1 := hF jA pA wA
  have h2 := hF jV pV wV
  rw [FA] at h1
  rw [FV] at h2
  have e1 : a.eval (.tmp pA) = .pointer (some ⟨q, off, none⟩) := h1
  have e2 : a.eval (.tmp pV) = .int .u8 v := h2
  have lq := block_lt_of_cell hc
  have c' : W.cell? ⟨q, off, none⟩ = some (.int .u8 u) := (hw.cell lq).trans hc
  have f' : W.frozen? ⟨q, off, none⟩ = false := (hw.frozen lq).trans hf
  have hr : (execOp a.eval o).run Tryd.prog W = .ok .skip (W.setCell ⟨q, off, none⟩ (.int .u8 v)) := by
    simp only [execOp, hop, e1, e2]
    go_simp
  obtain ⟨vs, hvs⟩ : ∃ vs : Nat → Value, ∀ d, a.tmps.getD d undef = vs d := ⟨_, fun _ => rfl⟩
  unfold Oper.wp
  rw [hr, Oper.upon_skip, hd]
  show Q .normal a _
  rw [puts_of hT rfl hb vs hvs]
  exact fin vs W hw
set_option maxHeartbeats 4000000 in
theorem specEncode_any (w : World) (g g' : Nat) (a a' : Option Addr) (c c' : Nat) (xs ys : List Int) (hx : Rd w g a .u8 xs) (hy : Rd w g' a' .u8 ys) (bx : Byt xs) (by' : Byt ys) (y31 : validP xs ys = true → ys.getD 31 0 < 128) :
    Calls Tryd.prog 40 #[.agg #[.slice a xs.length c, .slice a' ys.length c']] w fun r w' => NewRow w.heap.size w' r .u8 (esA xs ys) ∧ Below w.heap.size w w' := by
  have PV := fun W h h' => pointValid_any W g g' a a' c c' xs ys h h' bx by'
  have hx0 := hx
  have hy0 := hy
  have bx0 := bx
  have by0 := by'
  have T := two_cells w (.slice a xs.length c) (.slice a' ys.length c') 26
  have m1 : Below w.heap.size w (w.alloc (.cells #[.slice a xs.length c, .slice a' ys.length c'] 26)) := (Below.refl _ _).alloc (Nat.le_refl _) _
  have s1 : (w.alloc (.cells #[.slice a xs.length c, .slice a' ys.length c'] 26)).heap.size = w.heap.size + 1 := by simp
  have RX : RdOk w a xs := ⟨g, hx, bx⟩
  have RY : RdOk w a' ys := ⟨g', hy, by'⟩
  obtain ⟨CX, CY⟩ := T
  clear hx hy bx by' RX RY
  go_enter Tryd.func40, Tryd.ntmps40
  go_upto_region 1 with fail
  generalize w.alloc (.cells #[.slice a xs.length c, .slice a' ys.length c'] 26) = wa at *
  have N := m1
  clear m1 s1
  cases hv : validP xs ys with
  | false =>
    have e1 : esA xs ys = [] := by unfold esA; rw [hv]; rfl
    simp only [hv] at PV
    go_wp2_with fail
    refine (PV wa (hx0.up N) (hy0.up N)).mono ?_
    rintro e w1 ⟨rfl, n1⟩
    replace N := nxt N n1
    clear PV n1 CX CY hv y31
    go_wp2
    go_ret
    have z := N.size
    exact ⟨by rw [e1]; exact ⟨_, 0, w1.heap.size, rfl, fun h => absurd h (by simp), fun _ => rfl, Nat.le_refl _, by omega⟩, N.alloc N.size _⟩
  | true =>
    have e1 := hide (show esA xs ys = ys.set 31 (ys.getD 31 0 + 128 * (xs.getD 0 0 % 2)) by unfold esA; rw [if_pos hv])
    have LL := hide (valid_len hv)
    have q31 := y31 hv
    simp only [hv] at PV
    go_wp2_with fail
    refine (PV wa (hx0.up N) (hy0.up N)).mono ?_
    rintro e w1 ⟨rfl, n1⟩
    replace N := nxt N n1
    replace CX := (n1.cell (block_lt_of_cell CX)).trans CX
    replace CY := (n1.cell (block_lt_of_cell CY)).trans CY
    have hs : Hid (a' = none → c' = 0) := fun e => by
      obtain ⟨_, e', _⟩ := hy0 (by have := LL.out.2; omega)
      rw [e] at e'
      cases e'
    have CP := hide (fun W (n : Below w.heap.size w W) => l1Copy_any W g' a' c' ys (hy0.up n) hs.out (by have := LL.out.2; omega))
    clear PV n1 hv
    go_wp2_with fail
    refine (CP.out w1 N).mono ?_
    rintro r w2 ⟨⟨b, d, h, rfl, o2, k1, k2, hh⟩, n2⟩
    have N2 := nxt N n2
    replace CX := (n2.cell (block_lt_of_cell CX)).trans CX
    have RX := hx0.up N2
    obtain ⟨off, rfl, hc⟩ := o2 (by have := LL.out.2; omega)
    obtain ⟨ox, rfl, hcx⟩ := RX (by have := LL.out.1; omega)
    have q0 := (hc 31 (by have := LL.out.2; omega)).1
    have f0 := (hc 31 (by have := LL.out.2; omega)).2
    have p0 := hcx 0 (by have := LL.out.1; omega)
    rw [Nat.add_zero] at p0
    have ly : (31 : Int) < (ys.length : Int) := by have := LL.out.2; omega
    have lx : (0 : Int) < (xs.length : Int) := by have := LL.out.1; omega
    have v0 := bx0 0
    have v1 := by0 31
    obtain ⟨y, hy⟩ : ∃ y, y = ys.getD 31 0 := ⟨_, rfl⟩
    obtain ⟨x, hx⟩ : ∃ x, x = xs.getD 0 0 := ⟨_, rfl⟩
    rw [← hy] at q0 v1 q31
    rw [← hx] at p0 v0
    have hY := hide hy
    have hX := hide hx
    have zN := N.size
    clear hy hx CY n2 CP N
    have l1 := LL.out.1
    have l2 := LL.out.2
    go_upto_region 4 with fail
    rw [l1] at CX
    clear l1 l2
    refine region_st8 12 11 10 22 21 _ (fun i => [Fact.eq (.slice (some ⟨h, off, none⟩) 32 d), Fact.eq (.slice (some ⟨h, off, none⟩) 32 d), Fact.eq (.pointer (some ⟨h, off + 31, none⟩)), Fact.eq (.int .u8 y), Fact.eq (.pointer (some ⟨w.heap.size, 0, none⟩)), Fact.eq (.slice (some ⟨g, ox, none⟩) 32 c), Fact.eq (.pointer (some ⟨g, ox, none⟩)), Fact.eq (.int .u8 x), Fact.eq (.int .u8 (x % 2)), Fact.eq (.int .u8 (128 * (x % 2))), Fact.eq (.int .u8 (y + 128 * (x % 2))), Fact.eq (.pointer (some ⟨h, off + 31, none⟩))].getD i Fact.no) (by kernel_rfl) rfl rfl rfl (by kernel_rfl) (by kernel_rfl) rfl rfl q0 f0 ?_ ?_
    · intro i hi
      obtain rfl | rfl | rfl | rfl | rfl | rfl | rfl | rfl | rfl | rfl | rfl | rfl : i = 0 ∨ i = 1 ∨ i = 2 ∨ i = 3 ∨ i = 4 ∨ i = 5 ∨ i = 6 ∨ i = 7 ∨ i = 8 ∨ i = 9 ∨ i = 10 ∨ i = 11 := by omega
      · exact step_mv rfl 3 rfl (by kernel_rfl) rfl rfl
      · exact step_mv rfl 3 rfl (by kernel_rfl) rfl rfl
      · exact step_at31 rfl 12 1 rfl (by kernel_rfl) rfl rfl
      · exact step_ld8 rfl 13 2 rfl (by kernel_rfl) rfl q0 rfl
      · exact step_fld rfl 26 1 0 rfl (by kernel_rfl) _ _ rfl (fxP _) rfl
      · exact step_lds rfl 15 4 rfl (by kernel_rfl) _ _ rfl _ _ _ CX rfl
      · exact step_at0 rfl 16 5 rfl (by kernel_rfl) rfl rfl
      · exact step_ld8 rfl 17 6 rfl (by kernel_rfl) rfl p0 rfl
      · exact step_rem2 rfl 18 7 v0 rfl (by kernel_rfl) rfl rfl
      · exact step_m128 rfl 19 8 (by omega) rfl (by kernel_rfl) rfl rfl
      · exact step_add8 rfl 14 20 3 9 (by omega) rfl (by kernel_rfl) (by kernel_rfl) rfl rfl rfl
      · exact step_at31 rfl 11 0 rfl (by kernel_rfl) rfl rfl
    intro vs W n
    have NW := nxt N2 n
    have ow := (o2.up n)
    have lh := o2.rd.lt (by have := LL.out.2; omega)
    have z1 := N2.size
    have o3 := own_set ow (by have := LL.out.2; omega) 31 (by have := LL.out.2; omega) (y + 128 * (x % 2))
    have NF : Below w.heap.size w (W.setCell ⟨h, off + 31, none⟩ (.int .u8 (y + 128 * (x % 2)))) := NW.setCell (by show w.heap.size ≤ h; omega) _
    simp only [puts, Act.put, List.setIfInBounds_toArray, List.set_cons_succ, List.set_cons_zero]
    clear n NW ow q0 f0 p0 CX hc hcx RX o2 ly lx
    have LS := hide (show (ys.set 31 (y + 128 * (x % 2))).length = 32 by rw [List.length_set]; exact LL.out.2)
    go_wp2
    go_ret
    exact ⟨by rw [e1.out, ← hY.out, ← hX.out]; exact ⟨_, d, h, by rw [LS.out]; rfl, o3, (fun e => by cases e), (by rw [LS.out]; have := LL.out.2; omega), (by omega)⟩, NF⟩
end Go.Proofs.YtnaaanefndeafaaDoor

/-
  What is encoded is decoded to the same point, and what is decoded is encoded to the same bytes. Numbers alone.
-/
namespace Go.Proofs.YtnaaanefndeafaaDoor
set_option maxRecDepth 100000
open Go Go.RowKit

/-- A point's bytes. -/
def en (p : Int × Int) : List Int := (ly p).set 31 ((ly p).getD 31 0 + 128 * (p.1 % 2))
theorem lx_low (p : Int × Int) : (lx p).getD 0 0 % 2 = p.1 % 2 := by
  unfold lx
  rw [fill_get _ _ _ (by omega)]
  unfold byt
  simp only [Int.pow_zero, Int.ediv_one]
  omega
theorem ly_top {p : Int × Int} (h : Pv p) : 0 ≤ (ly p).getD 31 0 ∧ (ly p).getD 31 0 < 128 := by
  unfold ly
  rw [fill_get _ _ _ (by omega)]
  unfold byt
  have h0 := h.cn.y.1
  have h1 : p.2 < 57896044618658097711785492504343953926634992332820282019728792003956564819968 := Int.lt_trans h.cn.y.2 (by decide)
  have e : (256 : Int) ^ 31 = 452312848583266388373324160190187140051835877600158453279131187530910662656 := by decide
  rw [e]
  generalize p.2 = y at *
  omega
theorem es_en {p : Int × Int} (h : Pv p) : esA (lx p) (ly p) = en p := by
  unfold esA en
  rw [if_pos (lv_valid h), lx_low]
theorem en_len (p : Int × Int) : (en p).length = 32 := by
  unfold en
  rw [List.length_set, ly_len]
theorem en_31 (p : Int × Int) : (en p).getD 31 0 = (ly p).getD 31 0 + 128 * (p.1 % 2) := by
  unfold en
  generalize (ly p).getD 31 0 + 128 * (p.1 % 2) = v
  rw [List.getD_eq_getElem?_getD, List.getElem?_set_self (by rw [ly_len]; omega)]
  rfl
theorem set_getD {xs : List Int} {k : Nat} (h : k < xs.length) : xs.set k (xs.getD k 0) = xs := by
  rw [List.getD_eq_getElem?_getD, List.getElem?_eq_getElem h]
  exact List.set_getElem_self h
theorem en_low {p : Int × Int} (h : Pv p) : low7s (en p) = ly p := by
  have t := ly_top h
  unfold low7s
  rw [en_31]
  have e : ((ly p).getD 31 0 + 128 * (p.1 % 2)) % 128 = (ly p).getD 31 0 := by omega
  rw [e]
  unfold en
  rw [List.set_set]
  exact set_getD (by rw [ly_len]; omega)
theorem en_odd {p : Int × Int} (h : Pv p) : decide (128 ≤ (en p).getD 31 0) = decide (p.1 % 2 = 1) := by
  have t := ly_top h
  rw [en_31]
  by_cases c : p.1 % 2 = 1
  · rw [decide_eq_true c]
    exact decide_eq_true (by omega)
  · rw [decide_eq_false c]
    exact decide_eq_false (by omega)
theorem en_byt {p : Int × Int} (h : Pv p) : Byt (en p) := fun j => by
  by_cases c : j = 31
  · subst c
    have t := ly_top h
    rw [en_31]
    omega
  · unfold en
    rw [List.getD_eq_getElem?_getD, List.getElem?_set_ne (by omega), ← List.getD_eq_getElem?_getD]
    exact ly_byt p j
theorem dec_en {p : Int × Int} (h : Pv p) : dcB (en p) = true ∧ dcX (en p) = lx p ∧ dcY (en p) = ly p := by
  have x0 := h.cn.x.1
  have x1 := h.cn.x.2
  have y0 := h.cn.y.1
  have y1 := h.cn.y.2
  have r := lift_back (y := p.2) x0 x1 h.on
  have L : liB p.2 (decide (p.1 % 2 = 1)) = true := by
    unfold liB
    rw [r.1, r.2]
    by_cases c : p.1 % 2 = 1
    · rw [decide_eq_true c, if_neg (by omega), Int.emod_eq_of_lt (by omega) (by omega)]
      have : ¬ (PP - p.1 = 0) := by omega
      rw [decide_eq_false this]
      rfl
    · rw [decide_eq_false c]
      rfl
  have B : dcB (en p) = true := by
    unfold dcB
    rw [en_low h, en_odd h, en_len, ly_num h, show canN (ly p) = true from can_fill y0 y1, L]
    rfl
  refine ⟨B, ?_, ?_⟩
  · unfold dcX
    rw [if_pos B, en_low h, en_odd h, ly_num h]
    unfold liX
    rw [if_pos L, r.2]
    by_cases c : p.1 % 2 = 1
    · rw [if_pos (decide_eq_true c), if_neg (by omega), show 0 - (PP - p.1) = p.1 + PP * (-1) by generalize PP = P; omega, Int.add_mul_emod_self_left, Int.emod_eq_of_lt x0 x1]
      rfl
    · rw [if_neg (by simpa using c), if_pos (by omega), Int.emod_eq_of_lt x0 x1]
      rfl
  · unfold dcY
    rw [if_pos B, en_low h, en_odd h, ly_num h]
    unfold liY
    rw [if_pos L, Int.emod_eq_of_lt y0 y1]
    rfl
theorem en_dec {b : List Int} (hb : Byt b) (h : dcB b = true) : ∃ p, Pv p ∧ dcX b = lx p ∧ dcY b = ly p ∧ en p = b := by
  have h' := h
  unfold dcB at h'
  simp only [Bool.and_eq_true] at h'
  obtain ⟨hl, hc, hli⟩ := h'
  have hl : b.length = 32 := of_decide_eq_true hl
  have b31 := hb 31
  have lb : Byt (low7s b) := low7_byt hb
  have y0 := num_ge lb
  have y1 := can_lt hc
  have fc := fill_can lb hc
  rw [Int.emod_eq_of_lt y0 y1] at fc
  have l31 : (low7s b).getD 31 0 = b.getD 31 0 % 128 := by
    unfold low7s
    generalize b.getD 31 0 % 128 = v
    rw [List.getD_eq_getElem?_getD, List.getElem?_set_self (by rw [hl]; omega)]
    rfl
  have X : dcX b = liX (num (low7s b)) (decide (128 ≤ b.getD 31 0)) := by unfold dcX; rw [if_pos h]
  have Y : dcY b = liY (num (low7s b)) (decide (128 ≤ b.getD 31 0)) := by unfold dcY; rw [if_pos h]
  have sb : ∀ v, v = b.getD 31 0 → (low7s b).set 31 v = b := fun v e => by
    subst e
    unfold low7s
    rw [List.set_set]
    exact set_getD (by rw [hl]; omega)
  generalize low7s b = l at *
  have ly_is : ∀ x, ly (x, num l) = l := fun x => fc
  generalize num l = y at *
  unfold liX at X
  unfold liY at Y
  rw [if_pos hli] at X Y
  rw [Int.emod_eq_of_lt y0 y1] at Y
  unfold liB at hli
  simp only [Bool.and_eq_true] at hli
  obtain ⟨hr, hz⟩ := hli
  have on := lift_on hr
  have bd := rootV_bd (liftZ y)
  have ng := on_neg on
  generalize rootV (liftZ y) = r at *
  obtain ⟨r0, r1, r2⟩ := bd
  by_cases c : 128 ≤ b.getD 31 0
  · rw [decide_eq_true c] at hz X
    rw [if_pos rfl] at X
    have rz : r ≠ 0 := fun e => by
      subst e
      simp at hz
    have e : (0 - r) % PP = PP - r := by
      rw [show 0 - r = (PP - r) + PP * (-1) by generalize PP = P; omega, Int.add_mul_emod_self_left]
      exact Int.emod_eq_of_lt (by generalize PP = P at *; omega) (by generalize PP = P at *; omega)
    rw [e] at X ng
    have od : (PP - r) % 2 = 1 := by
      have : PP % 2 = 1 := by decide
      generalize PP = P at *
      omega
    refine ⟨(PP - r, y), ⟨ng, ⟨by show 0 ≤ PP - r; generalize PP = P at *; omega, by show PP - r < PP; generalize PP = P at *; omega⟩, ⟨y0, y1⟩⟩, X, Y, ?_⟩
    unfold en
    rw [ly_is]
    refine sb _ ?_
    show l.getD 31 0 + 128 * ((PP - r) % 2) = _
    rw [l31, od]
    omega
  · rw [decide_eq_false c] at X
    rw [if_neg (by decide), Int.emod_eq_of_lt r0 r1] at X
    refine ⟨(r, y), ⟨on, ⟨r0, r1⟩, ⟨y0, y1⟩⟩, X, Y, ?_⟩
    unfold en
    rw [ly_is]
    refine sb _ ?_
    show l.getD 31 0 + 128 * (r % 2) = _
    rw [l31, r2]
    omega
end Go.Proofs.YtnaaanefndeafaaDoor

/-
  DrawPointDecode: some bytes.
-/
namespace Go.Proofs.YtnaaanefndeafaaDoor
set_option maxRecDepth 100000
open Go Go.RowKit

theorem or128D : ∀ n : Fin 256, 0 ≤ bits BinOp.or IntKind.u8 (n.val : Int) 128 ∧ bits BinOp.or IntKind.u8 (n.val : Int) 128 < 256 := by decide +kernel
theorem or_bdD {y : Int} (h : 0 ≤ y ∧ y < 256) : 0 ≤ bits BinOp.or IntKind.u8 y 128 ∧ bits BinOp.or IntKind.u8 y 128 < 256 := by
  have := or128D ⟨y.toNat, by omega⟩
  simp only [Int.toNat_of_nonneg h.1] at this
  exact this
theorem byt_setD {ys : List Int} (h : Byt ys) (i : Nat) {v : Int} (hv : 0 ≤ v ∧ v < 256) : Byt (ys.set i v) := fun j => by
  rw [List.getD_eq_getElem?_getD, List.getElem?_set]
  split
  · split
    · exact hv
    · simp
  · rw [← List.getD_eq_getElem?_getD]; exact h j
theorem es_ok {xs ys : List Int} (hx : Byt xs) (hy : Byt ys) : Byt (esA xs ys) ∧ (esA xs ys).length ≤ 64 ∧ (validP xs ys = true → ys.getD 31 0 < 128) := by
  by_cases h : validP xs ys = true
  · obtain ⟨p, ex, ey⟩ := pv_of hx hy h
    generalize (num xs, num ys) = q at *
    subst ex ey
    rw [es_en p]
    exact ⟨en_byt p, by rw [en_len]; omega, fun _ => (ly_top p).2⟩
  · unfold esA
    rw [if_neg h]
    exact ⟨fun j => by simp, by simp, fun k => absurd k h⟩
/-- 32 bytes that the drawing made. -/
def Dr32 (w : World) (s : Nat) (a : Option Addr) (n c : Nat) (m : Int) (v : Value) (wc : World) : Prop :=
  ∃ (ys : List Int) (h : Nat), v = .slice (some ⟨h, 0, none⟩) 32 32 ∧ Byt ys ∧ Hid (ys.length = 32) ∧ Blk wc h .u8 ys ∧ w.heap.size ≤ h ∧ But s w wc ∧ SrcTo wc s a n c m
theorem Dr32.only {w W W' : World} {s : Nat} {a : Option Addr} {n c : Nat} {m m' : Int} {v : Value} (h : Dr32 w s a n c m v W) (o : Only s W W') (S : SrcTo W' s a n c m') (hs : s < w.heap.size := by omega) : Dr32 w s a n c m' v W' := by
  obtain ⟨ys, g, rfl, yb, yl, oy, z, N, _⟩ := h
  exact ⟨ys, g, rfl, yb, yl, oy.of_block (o.block g (by omega)), z, N.only o, S⟩
theorem Dr32.le {w W : World} {s : Nat} {a : Option Addr} {n c : Nat} {m m' : Int} {v : Value} (h : Dr32 w s a n c m v W) (hm : m ≤ m') : Dr32 w s a n c m' v W := by
  obtain ⟨ys, g, e, yb, yl, oy, z, N, t, t0, t1, S⟩ := h
  exact ⟨ys, g, e, yb, yl, oy, z, N, t, t0, by omega, S⟩
theorem dr32_little {w W W' : World} {s : Nat} {a : Option Addr} {n c : Nat} {m : Int} {xs : List Int} (hb : Byt xs) (B : Blk W' W.heap.size .u8 (fill (dig xs) 32)) (z : w.heap.size ≤ W.heap.size) (N : But s w W') (S : SrcTo W' s a n c m) :
    Dr32 w s a n c m (.slice (some ⟨W.heap.size, 0, none⟩) 32 32) W' :=
  ⟨fill (dig xs) 32, W.heap.size, rfl, dig_bytes hb 32, hide (fill_len _ _), B, z, N, S⟩
set_option maxHeartbeats 4000000 in
theorem drawDec_any (w : World) (g : Nat) (a : Option Addr) (c : Nat) (xs : List Int) (hr : Rd w g a .u8 xs) (hb : Byt xs) (hl : xs.length ≤ 1048576) :
    Calls Tryd.prog 19 #[.slice a xs.length c] w fun e w' => ∃ ys, Byt ys ∧ ys.length ≤ 64 ∧ NewRow w.heap.size w' e .u8 ys ∧ Below w.heap.size w w' := by
  have hne : 0 < xs.length → g ≠ w.heap.size := fun h => by have := hr.lt h; omega
  have DW := hide (fun W (s : Nat) (hs : Src W s a xs.length c (0 + 1)) (h : Rd W g a .u8 xs) (hn : 0 < xs.length → g ≠ s) => l5DrawV_any W s g a c xs (0 + 1) hs h hn hb (by omega) (by decide) (by decide))
  have XB := hide (drP_byt xs (0 + 1))
  generalize drP xs (0 + 1) = X at *
  have EK := es_ok XB.out.1 XB.out.2
  have SE := hide (fun W g g' a a' c c' h h' => specEncode_any W g g' a a' c c' X.1 X.2 h h' XB.out.1 XB.out.2 EK.2.2)
  obtain ⟨R, hR⟩ : ∃ R, R = esA X.1 X.2 := ⟨_, rfl⟩
  simp only [← hR] at SE EK
  have EH := hide EK
  clear EK XB hR
  go_enter Tryd.func19, Tryd.ntmps19
  go_wp2_with fail
  refine (l1Source_any w a xs.length c hl).mono ?_
  rintro e w0 ⟨rfl, S0, n0⟩
  have sl := S0.lt
  have hr0 := hr.up n0
  have fin : ∀ W, But w.heap.size w0 W → Below w.heap.size w W := fun W N => n0.trans (N.below (Nat.le_refl _) (by omega))
  go_wp2_with fail
  refine (l1Next_any w0 w.heap.size g a c xs 0 5 S0 hr0 hne hb hl (by omega) (by omega) (by decide) (by decide)).mono ?_
  rintro e w1 ⟨r, rfl, ⟨r0, r1⟩, S1, O1⟩
  have N1 : But w.heap.size w0 w1 := But.ofOnly O1
  have z1 := hide O1.size
  clear S0 O1
  by_cases h2 : r < 2
  · have q : decide (r < 2) = true := decide_eq_true h2
    go_wp2_with fail
    refine (DW.out w1 w.heap.size S1 (hr0.but N1 hne) hne).mono ?_
    rintro e w2 ⟨⟨a1, a1', c1, c1', g1, g1', rfl, o1, o1', l1, l1'⟩, N2⟩
    have N3 := N1.trans N2
    go_wp2_with fail
    refine (SE.out w2 g1 g1' a1 a1' c1 c1' o1.rd o1'.rd).mono ?_
    rintro e w3 ⟨⟨a3, c3, g3, rfl, o3, p3, q3, r3⟩, n3⟩
    have K := fin _ (N3.up n3)
    have zz := hide (show w.heap.size ≤ g3 by have := N3.size; omega)
    clear o1 o1' N3 N2 n3 S1 l1 l1' r3
    go_wp2
    go_ret
    exact ⟨R, EH.out.1, EH.out.2.1, ⟨a3, c3, g3, rfl, o3, p3, q3, zz.out⟩, K⟩
  · have q : decide (r < 2) = false := decide_eq_false h2
    clear DW SE EH
    by_cases h3 : r = 2
    · subst h3
      clear r0 r1 h2 q
      go_wp2_with fail
      refine (l1Next_any w1 w.heap.size g a c xs (0 + 1) 30 S1 (hr0.but N1 hne) hne hb hl (by omega) (by omega) (by decide) (by decide)).mono ?_
      rintro e w2 ⟨v, rfl, ⟨v0, v1⟩, S2, O2⟩
      have N2 := N1.only O2
      go_wp2_with fail
      refine (l1Int_any w2 v v0 (by omega)).mono ?_
      rintro e w3 ⟨us, ul, ub, ⟨a3, c3, g3, rfl, o3, p3, q3, r3⟩, n3⟩
      have N3 := N2.up n3
      have S3 := S2.up n3
      go_wp2_with fail
      refine (l1Little_any w3 g3 a3 c3 us 32 o3.rd ub (by omega) (by omega)).mono ?_
      rintro e w4 ⟨rfl, B4, n4⟩
      have N4 := N3.up n4
      have S4 := S3.up n4
      have D4 : Dr32 w0 w.heap.size a xs.length c 10 (.slice (some ⟨w3.heap.size, 0, none⟩) 32 32) w4 := dr32_little ub B4 (by have := N3.size; omega) N4 ⟨_, by omega, by omega, S4⟩
      clear B4 n4 S3 N3 o3 p3 q3 r3 n3 S2 N2 O2 v0 v1 S1 N1 z1
      go_wp2_with fail
      refine (l1Chance_any w4 w.heap.size g a c xs (0 + 1 + 1) 2 S4 (hr0.but N4 hne) hne hb hl (by omega) (by omega) (by decide) (by decide)).mono ?_
      rintro e w5 ⟨b, rfl, S5, O5⟩
      have N5 := N4.only O5
      have D5 : Dr32 w0 w.heap.size a xs.length c 10 (.slice (some ⟨w3.heap.size, 0, none⟩) 32 32) w5 := D4.only O5 ⟨_, by omega, by omega, S5⟩
      clear D4 O5 S4 N4
      go_upto_if 22 with fail
      go_cut [5] (fun v wc => Dr32 w0 w.heap.size a xs.length c 20 v wc)
      case first =>
        cases b with
        | true =>
          go_wp2_with fail
          refine (l2Prime_any w5).mono ?_
          rintro e w6 ⟨rfl, B6, n6⟩
          have N6 := N5.up n6
          have S6 := S5.up n6
          have nC : Below w6.heap.size w6 (w6.alloc (.cells #[.int .u8 12] 5)) := (Below.refl _ _).alloc (Nat.le_refl _) _
          have BC := one_a w6 12
          have b3 := byt_one (d := 12) (by omega) (by omega)
          have e3 : bval [12] = 12 := by decide
          go_wp2_with fail
          generalize w6.alloc (.cells #[.int .u8 12] 5) = wC at *
          refine (l1Add_any wC _ _ _ _ 32 1 pbytes [12] (B6.up nC).own0.rd BC.own0.rd pbytes_byt b3 (by decide) (by decide)).mono ?_
          rintro e w7 ⟨ys5, C5, ⟨a5, c5, g5, rfl, o5, p5, q5, r5⟩, n7⟩
          have N7 := (N6.up nC).up n7
          have S7 := (S6.up nC).up n7
          have hg5 : w0.heap.size ≤ g5 := by have := (N6.up nC).size; omega
          have M5 := C5.1
          have V5 : bval ys5 = PP + 12 := by rw [C5.2.1, e3, pbytes_val]
          have L5 : ys5.length ≤ 64 := C5.len (n := 64) (by rw [pbytes_val, e3]; decide)
          clear C5 BC b3 e3 N6 S6 nC n7 B6 n6
          go_wp2_with fail
          refine (l1Next_any w7 w.heap.size g a c xs (0 + 1 + 1 + 1) 24 S7 (hr0.but N7 hne) hne hb hl (by omega) (by omega) (by decide) (by decide)).mono ?_
          rintro e w8 ⟨v6, rfl, ⟨v60, v61⟩, S8, O8⟩
          have N8 := N7.only O8
          have o8 := o5.only O8 (fun _ => by omega)
          go_wp2_with fail
          refine (l1Int_any w8 v6 v60 (by omega)).mono ?_
          rintro e w9 ⟨i1, il, ib, ⟨ai, ci, gi, rfl, oi, pi, qi, ri⟩, n9⟩
          have o9 := o8.up n9
          have N9 := N8.up n9
          have S9 := S8.up n9
          have V : Hid (bval i1 ≤ bval ys5) := by
            show _ ≤ _
            have h1 : bval i1 < 256 := by
              have := bval_lt ib
              have hp : (256 : Int) ^ i1.length ≤ 256 ^ 1 := p256_le il
              have : (256 : Int) ^ 1 = 256 := by decide
              omega
            have : (256 : Int) ≤ PP + 12 := by decide
            omega
          have LI : Hid (i1.length ≤ ys5.length) := by
            show _ ≤ _
            by_cases e : ys5.length = 0
            · have : ys5 = [] := List.eq_nil_of_length_eq_zero e
              subst this
              rw [bval_nil] at V5
              exact absurd V5 (by decide)
            · omega
          clear o5 o8 N7 N8 S7 S8 n9 O8 V5
          go_wp2_with fail
          refine (l1Sub_any w9 g5 gi a5 ai c5 ci ys5 i1 o9.rd oi.rd M5 ib (by omega) LI.out V.out).mono ?_
          rintro e wA ⟨y8, C8, ⟨a8, c8', g8, rfl, oA, p8, q8, r8⟩, nA⟩
          have L8 : y8.length ≤ 64 := C8.len (Int.lt_of_le_of_lt (show bval ys5 - bval i1 ≤ bval ys5 by have := bval_nonneg ib; omega) (Int.lt_of_lt_of_le (bval_lt M5) (p256_le L5)))
          go_wp2_with fail
          refine (l1Little_any wA g8 a8 c8' y8 32 oA.rd C8.1 (by omega) (by omega)).mono ?_
          rintro e wB ⟨rfl, BB, nB⟩
          have NA := N9.up nA
          have DC : Dr32 w0 w.heap.size a xs.length c 20 (.slice (some ⟨wA.heap.size, 0, none⟩) 32 32) wB := dr32_little C8.1 BB (by have := NA.size; omega) (NA.up nB) ⟨_, by omega, by omega, (S9.up nA).up nB⟩
          clear D5
          go_wp2_with fail
          go_meet
          exact DC
        | false =>
          go_wp2_with fail
          go_meet
          exact D5.le (by omega)
      case rest =>
        clear D5 S5 N5
        obtain ⟨ys, h1, rfl, yb, yl, oy, ry, N5, ⟨t5, t50, t51, S5⟩⟩ := hcut
        go_wp2_with fail
        refine (l1Chance_any wc w.heap.size g a c xs t5 2 S5 (hr0.but N5 hne) hne hb hl (by omega) (by omega) (by decide) (by decide)).mono ?_
        rintro e w6 ⟨b, rfl, S6, O6⟩
        have N6 := N5.only O6
        have oy6 : Blk w6 h1 .u8 ys := oy.of_block (O6.block h1 (by omega))
        have zz := hide (show w.heap.size ≤ h1 by omega)
        clear oy N5 S5 S6 O6
        cases b with
        | true =>
          have o3 := oy6.own0
          have y31 : 31 < ys.length := by rw [yl.out]; omega
          obtain ⟨off, he, hc⟩ := o3 (by omega)
          obtain rfl : off = 0 := by injection he with he; injection he with _ he; exact he.symm
          have c31 := (hc 31 y31).1
          have f31 := (hc 31 y31).2
          have yb31 := yb 31
          have OB := or_bdD yb31
          have OS := o3.store 31 y31 (bits BinOp.or IntKind.u8 (ys.getD 31 0) 128)
          have SS := hide (byt_setD yb 31 OB)
          have LS := hide (show (ys.set 31 (bits BinOp.or IntKind.u8 (ys.getD 31 0) 128)).length = 32 by rw [List.length_set]; exact yl.out)
          have ww : IntKind.u8.wrap (bits BinOp.or IntKind.u8 (ys.getD 31 0) 128) = bits BinOp.or IntKind.u8 (ys.getD 31 0) 128 := by rw [IntKind.wrap_u8]; omega
          have NS : But w.heap.size w0 (w6.setCell ⟨h1, 0 + 31, none⟩ (.int .u8 (bits BinOp.or IntKind.u8 (ys.getD 31 0) 128))) := N6.setCell ry
          have K := fin _ NS
          simp only [Nat.zero_add] at c31 f31 OS K
          clear hc he o3 oy6 y31 N6 NS
          generalize ys.set 31 (bits BinOp.or IntKind.u8 (ys.getD 31 0) 128) = ys' at *
          generalize ys.getD 31 0 = y at *
          go_wp2
          go_ret
          exact ⟨ys', SS.out, by have := LS.out; omega, ⟨_, 32, h1, by rw [LS.out]; rfl, OS, by simp, by have := LS.out; omega, zz.out⟩, K⟩
        | false =>
          have K := fin _ N6
          go_wp2
          go_ret
          exact ⟨ys, yb, by have := yl.out; omega, ⟨_, 32, h1, by rw [yl.out]; rfl, oy6.own0, by simp, by have := yl.out; omega, zz.out⟩, K⟩
    · have q2 : (r == 2) = false := by simp [h3]
      have L2 := l2DrawT_any w1 w.heap.size g a c xs (0 + 1) (by omega) (by omega) S1 (hr0.but N1 hne) hne hb hl
      clear h2 h3 r0 r1
      go_wp2_with fail
      refine L2.mono ?_
      rintro e w2 ⟨ys, yb, yl, ⟨a2, c2, g2, rfl, o2, p2, q2', r2⟩, N2, -⟩
      have K := fin _ (N1.trans N2)
      have YL := hide yl
      have ZZ : Hid (w.heap.size ≤ g2) := by show _ ≤ _; have := z1.out; omega
      clear L2 yl N2 N1
      go_wp2
      go_ret
      exact ⟨ys, yb, YL.out, ⟨_, _, g2, rfl, o2, p2, q2', ZZ.out⟩, K⟩
end Go.Proofs.YtnaaanefndeafaaDoor

/-
  The law by facts for a region that draws its order and ends with a store and an assignment, where one operation that touches no memory may come behind the store. No program in sight.
-/
namespace Go.Proofs.YtnaaanefndeafaaDoor
set_option maxRecDepth 100000
open Go Go.RowKit

section
variable {P : Program} {ops : Array Oper} {Q : Exit → Act → World → Prop} {md : Region.Mode} {F : Nat → Fact} {a0 : Act} {w0 : World}

/-- Number k, the store, waits for all ahead of it but x; number k + 1, the last, for k and x. -/
def textLate (md : Region.Mode) (ops : Array Oper) (n k x : Nat) : Bool :=
  (ops.all fun o => o.guard.isNone && (match o.dst with | some d => decide (d < n) | none => true))
  && ((List.range ops.size).all fun i => match ops[i]? with
    | some o => o.after.all (fun e => !Region.binds md e || decide (e.on < i)) && (List.range i).all fun j => match ops[j]? with
      | some x => x.dst.isNone || o.dst != x.dst
      | none => true
    | none => true)
  && decide (ops.size = k + 2 ∧ x < k)
  && ((List.range k).all fun j => j == x || (List.range (k + 1)).any fun m => decide (j < m) && m != x && match ops[m]? with
    | some o => o.after.any (fun e => Region.binds md e && e.on == j)
    | none => false)
  && (match ops[k + 1]? with | some o => o.after.any (fun e => Region.binds md e && e.on == k) && o.after.any (fun e => Region.binds md e && e.on == x) | none => false)
  && (match ops[k]? with | some o => o.dst.isNone && o.after.all (fun e => !Region.binds md e || e.on != x) | none => false)
  && ((List.range k).all fun j => match ops[j]? with | some o => o.after.all (fun e => !Region.binds md e || e.on != x) | none => false)
structure TextL (md : Region.Mode) (ops : Array Oper) (n k x : Nat) : Prop where
  g : ∀ (i : Nat) o, ops[i]? = some o → o.guard = none
  d : ∀ (i : Nat) o d, ops[i]? = some o → o.dst = some d → d < n
  a : ∀ (i : Nat) o, ops[i]? = some o → ∀ e ∈ o.after, Region.binds md e = true → e.on < i
  dx : ∀ (i j : Nat) o o' d, ops[i]? = some o → ops[j]? = some o' → i ≠ j → o.dst = some d → o'.dst ≠ some d
  k2 : ops.size = k + 2
  kx : x < k
  c : ∀ j, j < k → j ≠ x → ∃ (m : Nat) (o : Oper), j < m ∧ m ≤ k ∧ m ≠ x ∧ ops[m]? = some o ∧ ∃ e ∈ o.after, Region.binds md e = true ∧ e.on = j
  l : ∀ o, ops[k + 1]? = some o → (∃ e ∈ o.after, Region.binds md e = true ∧ e.on = k) ∧ ∃ e ∈ o.after, Region.binds md e = true ∧ e.on = x
  n1 : ∀ o, ops[k]? = some o → o.dst = none
  f : ∀ j o, j ≤ k → ops[j]? = some o → ∀ e ∈ o.after, Region.binds md e = true → e.on ≠ x
theorem textL_of {n k x : Nat} (h : textLate md ops n k x = true) : TextL md ops n k x := by
  unfold textLate at h
  simp only [Bool.and_eq_true, decide_eq_true_eq] at h
  obtain ⟨⟨⟨⟨⟨⟨h1, h2⟩, h3⟩, h4⟩, h5⟩, h6⟩, h7⟩ := h
  rw [Array.all_eq_true_iff_forall_mem] at h1
  rw [List.all_eq_true] at h2 h4 h7
  have H : ∀ (i j : Nat) o o' d, j < i → ops[i]? = some o → ops[j]? = some o' → o.dst = some d → o'.dst ≠ some d := by
    intro i j o o' d hij hi hj hd hd'
    have q := h2 i (List.mem_range.2 (Array.getElem?_eq_some_iff.1 hi).1)
    simp only [hi, Bool.and_eq_true] at q
    have r := List.all_eq_true.1 q.2 j (List.mem_range.2 hij)
    simp only [hj, hd, hd'] at r
    simp at r
  have ne : ∀ (o : Oper), o.after.all (fun e => !Region.binds md e || e.on != x) = true → ∀ e ∈ o.after, Region.binds md e = true → e.on ≠ x := by
    intro o h e he hb
    have r := (Array.all_eq_true_iff_forall_mem.1 h) e he
    rw [hb] at r
    simpa using r
  refine ⟨?_, ?_, ?_, ?_, h3.1, h3.2, ?_, ?_, ?_, ?_⟩
  · intro i o ho
    have q := h1 o (Array.mem_of_getElem? ho)
    simp only [Bool.and_eq_true] at q
    exact Option.isNone_iff_eq_none.1 q.1
  · intro i o d ho hd
    have q := h1 o (Array.mem_of_getElem? ho)
    simp only [Bool.and_eq_true, hd, decide_eq_true_eq] at q
    exact q.2
  · intro i o ho e he hb
    have q := h2 i (List.mem_range.2 (Array.getElem?_eq_some_iff.1 ho).1)
    simp only [ho, Bool.and_eq_true] at q
    have r := (Array.all_eq_true_iff_forall_mem.1 q.1) e he
    rw [hb] at r
    simpa using r
  · intro i j o o' d hi hj hij hd hd'
    rcases Nat.lt_or_gt_of_ne hij with h | h
    · exact H j i o' o d h hj hi hd' hd
    · exact H i j o o' d h hi hj hd hd'
  · intro j hj hjx
    have q := h4 j (List.mem_range.2 hj)
    simp only [Bool.or_eq_true, beq_iff_eq] at q
    rcases q with q | q
    · exact absurd q hjx
    obtain ⟨m, hm, r⟩ := List.any_eq_true.1 q
    simp only [Bool.and_eq_true, decide_eq_true_eq, bne_iff_ne] at r
    cases ho : ops[m]? with
    | none => rw [ho] at r; simp at r
    | some o =>
      rw [ho] at r
      obtain ⟨e, he, hb⟩ := Array.any_eq_true'.1 r.2
      simp only [Bool.and_eq_true, beq_iff_eq] at hb
      exact ⟨m, o, r.1.1, by have := List.mem_range.1 hm; omega, r.1.2, ho, e, he, hb.1, hb.2⟩
  · intro o ho
    rw [ho] at h5
    simp only [Bool.and_eq_true] at h5
    obtain ⟨e, he, hb⟩ := Array.any_eq_true'.1 h5.1
    obtain ⟨e', he', hb'⟩ := Array.any_eq_true'.1 h5.2
    simp only [Bool.and_eq_true, beq_iff_eq] at hb hb'
    exact ⟨⟨e, he, hb.1, hb.2⟩, e', he', hb'.1, hb'.2⟩
  · intro o ho
    rw [ho] at h6
    simp only [Bool.and_eq_true] at h6
    exact Option.isNone_iff_eq_none.1 h6.1
  · intro j o hj ho
    rcases Nat.lt_or_ge j k with c | c
    · have q := h7 j (List.mem_range.2 c)
      rw [ho] at q
      exact ne o q
    · obtain rfl : j = k := by omega
      rw [ho] at h6
      simp only [Bool.and_eq_true] at h6
      exact ne o h6.2
theorem any_late {n k x : Nat} (T : TextL md ops n k x) (hn : n ≤ a0.tmps.size) (steps : ∀ i, i < k → StepOk P md ops Q F a0 w0 i) (o1 o2 : Oper) (hk1 : ops[k]? = some o1) (hk2 : ops[k + 1]? = some o2) (dx : Nat) (wx : writes ops x dx = true) (R : Act → World → Prop)
    (hR : ∀ a W W' v, Below W.heap.size W W' → R a W → R (a.put (some dx) v) W')
    (sx : ∀ j d v w w', waits md ops x j d = true → (F j).p v w → (F j).p v w') (fx : ∀ v w w', (F x).p v w → (F x).p v w')
    (fin : ∀ a w, Based ops a0 a → Below w0.heap.size w0 w → (∀ i o d, i < k → i ≠ x → ops[i]? = some o → o.dst = some d → (F i).p (a.tmps.getD d undef) w) →
      ∀ K : Act → World → Prop, (∀ W, Below w0.heap.size w0 W → R a W → K a W) → o1.wp P a w K Q)
    (last : ∀ a W, Based ops a0 a → R a W → (F x).p (a.tmps.getD dx undef) W → o2.wp P a W (fun a' w' => Q .normal a' w') Q) :
    ∀ (fuel : Nat) (listed : Array Bool) (a : Act) (w : World), left listed ops.size ≤ fuel → Held md ops F a0 w0 listed a w → listed.getD k false = false → listed.getD (k + 1) false = false → wpAny P md ops Q fuel listed a w := by
  obtain ⟨ox, hox, hdx⟩ := writes_is wx
  have hks : k < ops.size := by have := T.k2; omega
  have hks' : k + 1 < ops.size := by have := T.k2; omega
  intro fuel
  induction fuel with
  | zero =>
    intro listed a w hl H hk hk'
    have := left_zero (listed := listed) (n := ops.size) (by omega) k hks
    rw [dflt (by rw [H.s]; exact hks), hk] at this
    simp at this
  | succ fuel ih =>
    intro listed a w hl H hk hk'
    refine ⟨fun hr => ?_, fun i hi => ?_⟩
    · exfalso
      have hall : ∀ m i, i < m → i ≤ k → listed.getD i false = true := by
        intro m
        induction m with
        | zero => intro i hi; omega
        | succ m ihm =>
          intro i hi hik
          rcases Nat.lt_or_ge i m with h1 | h1
          · exact ihm i h1 hik
          · obtain rfl : i = m := by omega
            cases hc : listed.getD i false
            · exfalso
              obtain ⟨o, ho⟩ : ∃ o, ops[i]? = some o := ⟨ops[i], by simp [show i < ops.size by omega]⟩
              have hr' : i ∈ Region.ready md ops listed := mem_ready.2 ⟨by rw [dflt (by rw [H.s]; omega)]; exact hc, o, ho, fun e he hb => ihm e.on (T.a i o ho e he hb) (by have := T.a i o ho e he hb; omega)⟩
              rw [hr] at hr'
              simp at hr'
            · rfl
      rw [hall (k + 1) k (by omega) (Nat.le_refl _)] at hk
      simp at hk
    · obtain ⟨h0, o, ho, hall⟩ := mem_ready.1 hi
      have hlt := (Array.getElem?_eq_some_iff.1 ho).1
      have hwant : Region.wanted o (yielded ops a.tmps) = true := by simp [Region.wanted, T.g i o ho]
      refine wpOp_step ho fun K' hK => ?_
      rw [if_pos hwant]
      have hll := left_set (by rw [H.s]; exact hlt) h0 ops.size hlt
      have hfacts : ∀ j d, waits md ops i j d = true → (F j).p (a.tmps.getD d undef) w := by
        intro j d hjd
        unfold waits at hjd
        rw [ho] at hjd
        cases hoj : ops[j]? with
        | none => rw [hoj] at hjd; simp at hjd
        | some oj =>
          rw [hoj] at hjd
          simp only [Bool.and_eq_true, beq_iff_eq] at hjd
          obtain ⟨e, he, hb⟩ := Array.any_eq_true'.1 hjd.1
          simp only [Bool.and_eq_true, beq_iff_eq] at hb
          exact H.f j oj d hoj (by rw [← hb.2]; exact hall e he hb.1) hjd.2
      have TT : TextT md false ops n k := ⟨T.g, T.d, T.a, T.dx, by omega, (fun h => by cases h), (fun h => by cases h)⟩
      rcases Nat.lt_or_ge i k with h1 | h1
      · refine steps i h1 o ho a w H.b H.n hfacts K' fun v w' hw hf => ?_
        refine hK _ _ (ih _ _ _ (by omega) (H.nextT TT hn ho hi hw hf) ?_ ?_)
        · rw [getD_off (by omega)]
          exact hk
        · rw [getD_off (by omega)]
          exact hk'
      · rcases Nat.lt_or_ge k i with h2 | h2
        · exfalso
          obtain rfl : i = k + 1 := by have := T.k2; omega
          obtain ⟨⟨e, he, hb, hq⟩, _⟩ := T.l o ho
          have := hall e he hb
          rw [hq, hk] at this
          simp at this
        · obtain rfl : i = k := by omega
          obtain rfl := Option.some.inj (hk1.symm.trans ho)
          have hahead : ∀ m j, i - j ≤ m → j < i → j ≠ x → listed.getD j false = true := by
            intro m
            induction m with
            | zero => intro j hm hj; omega
            | succ m ihm =>
              intro j hm hj hjx
              obtain ⟨p, oo, hjp, hpk, hpx, hoo, e, he, hb, rfl⟩ := T.c j hj hjx
              rcases Nat.lt_or_ge p i with h1 | h1
              · exact H.c p oo hoo (ihm p (by omega) h1 hpx) e he hb
              · obtain rfl : p = i := by omega
                obtain rfl := Option.some.inj (ho.symm.trans hoo)
                exact hall e he hb
          have q := fin a w H.b H.n (fun j oj d hj hjx hoj hd => H.f j oj d hoj (hahead (i - j) j (Nat.le_refl _) hj hjx) hd)
          refine q _ fun W hW hRW => hK _ _ ?_
          have hs2 : (listed.setIfInBounds i true).size = ops.size := by simp [H.s]
          have g1 : (listed.setIfInBounds i true).getD (i + 1) true = false := by
            rw [getD_off (by omega), dflt (by rw [H.s]; exact hks')]
            exact hk'
          have hall2 : ∀ j, j ≠ i + 1 → j ≠ x → j < ops.size → (listed.setIfInBounds i true).getD j true = true := by
            intro j hj hjx hjs
            by_cases e : i = j
            · subst e
              exact getD_same (by rw [H.s]; exact hlt) _
            · rw [getD_off e, dflt (by rw [H.s]; exact hjs)]
              exact hahead (i - j) j (Nat.le_refl _) (by have := T.k2; omega) hjx
          have gx : (listed.setIfInBounds i true).getD x true = listed.getD x false := by
            rw [getD_off (by have := T.kx; omega), dflt (by rw [H.s]; have := T.kx; omega)]
          -- the last one alone is left
          have fin2 : ∀ (l2 : Array Bool) (fuel : Nat) (b : Act) (V : World), l2.size = ops.size → (∀ j, j ≠ i + 1 → j < ops.size → l2.getD j true = true) → l2.getD (i + 1) true = false → left l2 ops.size ≤ fuel → Based ops a0 b → R b V → (F x).p (b.tmps.getD dx undef) V → wpAny P md ops Q fuel l2 b V := by
            intro l2 fuel b V hs2 hl2 hg hf hb hRb hfx
            have l1 : 0 < left l2 ops.size := by
              rcases Nat.eq_zero_or_pos (left l2 ops.size) with z | z
              · have := left_zero (n := ops.size) z (i + 1) hks'
                rw [hg] at this
                simp at this
              · exact z
            obtain ⟨f2, rfl⟩ : ∃ f2, fuel = f2 + 1 := ⟨fuel - 1, by omega⟩
            refine ⟨fun hr => ?_, fun j hj => ?_⟩
            · exfalso
              have hr' : i + 1 ∈ Region.ready md ops l2 := mem_ready.2 ⟨hg, o2, hk2, fun e he hb => by
                have := T.a (i + 1) o2 hk2 e he hb
                rw [← dflt (by rw [hs2]; omega)]
                exact hl2 e.on (by omega) (by omega)⟩
              rw [hr] at hr'
              simp at hr'
            · obtain ⟨g0, oj, hoj, _⟩ := mem_ready.1 hj
              have hjl := (Array.getElem?_eq_some_iff.1 hoj).1
              by_cases e : j = i + 1
              · subst e
                obtain rfl := Option.some.inj (hk2.symm.trans hoj)
                have hwant2 : Region.wanted o2 (yielded ops b.tmps) = true := by simp [Region.wanted, T.g (i + 1) o2 hk2]
                refine wpOp_step hk2 fun K2 hK2 => ?_
                rw [if_pos hwant2]
                refine Oper.wp_mono (fun a2 w2 h2' => hK2 _ _ (wpAny_done ?_ h2' f2)) (last b V hb hRb hfx)
                cases hr : Region.ready md ops (l2.setIfInBounds (i + 1) true) with
                | nil => rfl
                | cons m t =>
                  exfalso
                  have hm : m ∈ Region.ready md ops (l2.setIfInBounds (i + 1) true) := by rw [hr]; simp
                  obtain ⟨q0, om, hom, _⟩ := mem_ready.1 hm
                  have hml := (Array.getElem?_eq_some_iff.1 hom).1
                  by_cases e : i + 1 = m
                  · subst e
                    rw [getD_same (by rw [hs2]; exact hks')] at q0
                    simp at q0
                  · rw [getD_off e, hl2 m (by omega) hml] at q0
                    simp at q0
              · exfalso
                rw [hl2 j e hjl] at g0
                simp at g0
          cases hxl : listed.getD x false with
          | true =>
            refine fin2 _ fuel a W hs2 (fun j hj hjs => ?_) g1 (by omega) H.b hRW (fx _ w _ (H.f x ox dx hox hxl hdx))
            by_cases c : j = x
            · rw [c, gx, hxl]
            · exact hall2 j hj c hjs
          | false =>
            have hxs : x < ops.size := by have := T.kx; omega
            have l1 : 0 < left (listed.setIfInBounds i true) ops.size := by
              rcases Nat.eq_zero_or_pos (left (listed.setIfInBounds i true) ops.size) with z | z
              · have := left_zero (n := ops.size) z (i + 1) hks'
                rw [g1] at this
                simp at this
              · exact z
            obtain ⟨f2, rfl⟩ : ∃ f2, fuel = f2 + 1 := ⟨fuel - 1, by omega⟩
            generalize hl2 : listed.setIfInBounds i true = l2 at *
            have rx : x ∈ Region.ready md ops l2 := mem_ready.2 ⟨by rw [gx, hxl], ox, hox, fun e he hb => by
              have h1 := T.a x ox hox e he hb
              rw [← dflt (by rw [hs2]; omega)]
              exact hall2 e.on (by have := T.kx; omega) (by omega) (by omega)⟩
            refine ⟨fun hr => ?_, fun j hj => ?_⟩
            · exfalso
              rw [hr] at rx
              simp at rx
            · obtain ⟨g0, oj, hoj, hready⟩ := mem_ready.1 hj
              have hjl := (Array.getElem?_eq_some_iff.1 hoj).1
              by_cases e : j = x
              · subst e
                obtain rfl := Option.some.inj (hox.symm.trans hoj)
                have hwant2 : Region.wanted ox (yielded ops a.tmps) = true := by simp [Region.wanted, T.g j ox hox]
                refine wpOp_step hox fun K2 hK2 => ?_
                rw [if_pos hwant2]
                have hll2 := left_set (by rw [hs2]; exact hxs) g0 ops.size hxs
                refine steps j T.kx ox hox a W H.b hW (fun p d hpd => ?_) K2 fun v w' hw hf => ?_
                · unfold waits at hpd
                  rw [hox] at hpd
                  cases hop : ops[p]? with
                  | none => rw [hop] at hpd; simp at hpd
                  | some op =>
                    have hpd0 := hpd
                    rw [hop] at hpd
                    simp only [Bool.and_eq_true, beq_iff_eq] at hpd
                    obtain ⟨e, he, hb⟩ := Array.any_eq_true'.1 hpd.1
                    simp only [Bool.and_eq_true, beq_iff_eq] at hb
                    have h1 := T.a j ox hox e he hb.1
                    have hw' : waits md ops j p d = true := by
                      unfold waits
                      rw [hox, hop]
                      simp only [Bool.and_eq_true, beq_iff_eq]
                      exact hpd
                    exact sx p d _ w W hw' (H.f p op d hop (hahead (i - p) p (Nat.le_refl _) (by have := T.kx; omega) (by omega)) hpd.2)
                · refine hK2 _ _ (fin2 (l2.setIfInBounds j true) f2 _ _ (by simp [hs2]) (fun m hm hms => ?_) ?_ (by omega) ?_ ?_ ?_)
                  · by_cases c : j = m
                    · subst c
                      exact getD_same (by rw [hs2]; exact hxs) _
                    · rw [getD_off c]
                      exact hall2 m hm (Ne.symm c) hms
                  · rw [getD_off (by have := T.kx; omega)]
                    exact g1
                  · exact H.b.put hox v
                  · rw [hdx]
                    exact hR a W w' v hw hRW
                  · rw [hdx, put_at (by rw [H.b.2.1]; exact Nat.lt_of_lt_of_le (T.d j ox dx hox hdx) hn)]
                    exact hf
              · exfalso
                by_cases e2 : j = i + 1
                · subst e2
                  obtain rfl := Option.some.inj (hk2.symm.trans hoj)
                  obtain ⟨_, ⟨e3, he3, hb3, hq3⟩⟩ := T.l o2 hk2
                  have := hready e3 he3 hb3
                  rw [hq3, ← dflt (by rw [hs2]; exact hxs), gx, hxl] at this
                  simp at this
                · rw [hall2 j e2 e hjl] at g0
                  simp at g0
/-- The same for the region. -/
theorem region_late {id : Nat} {w : World} (k x : Nat) (F : Nat → Fact) (hm : P.follows .mixedOrders = true) (hT : textLate .any ops a0.tmps.size k x = true) (steps : ∀ i, i < k → StepOk P .any ops Q F a0 w i) (o1 o2 : Oper) (hk1 : ops[k]? = some o1) (hk2 : ops[k + 1]? = some o2) (dx : Nat) (wx : writes ops x dx = true) (R : Act → World → Prop)
    (hR : ∀ a W W' v, Below W.heap.size W W' → R a W → R (a.put (some dx) v) W')
    (sx : ∀ j d v w w', waits .any ops x j d = true → (F j).p v w → (F j).p v w') (fx : ∀ v w w', (F x).p v w → (F x).p v w')
    (fin : ∀ a W, Based ops a0 a → Below w.heap.size w W → (∀ i d, decide (i < k ∧ i ≠ x) = true → writes ops i d = true → (F i).p (a.tmps.getD d undef) W) →
      ∀ K : Act → World → Prop, (∀ W', Below w.heap.size w W' → R a W' → K a W') → o1.wp P a W K Q)
    (last : ∀ a W, Based ops a0 a → R a W → (F x).p (a.tmps.getD dx undef) W → o2.wp P a W (fun a' w' => Q .normal a' w') Q) : (Code.region id ops true).wp P Q a0 w := by
  have T := textL_of hT
  have z : ∀ j, (Array.replicate ops.size false).getD j false = false := fun j => by
    rw [Array.getD_eq_getD_getElem?, Array.getElem?_replicate]
    split <;> rfl
  refine wp_region_any hm ?_
  refine any_late (w0 := w) T (Nat.le_refl _) steps o1 o2 hk1 hk2 dx wx R hR sx fx (fun a W hb hw hf => fin a W hb hw (fun i d hi hd => ?_)) last ops.size _ a0 _ ?_ ⟨⟨rfl, rfl, fun _ _ => rfl⟩, (Below.refl _ _).drew, ?_, ?_, by simp⟩ (z k) (z (k + 1))
  · obtain ⟨o, ho, hd'⟩ := writes_is hd
    have c := of_decide_eq_true hi
    exact hf i o d c.1 c.2 ho hd'
  · have : ∀ m, left (Array.replicate ops.size false) m ≤ m := by
      intro m
      induction m with
      | zero => exact Nat.le_refl _
      | succ m ih => unfold left; split <;> omega
    exact this _
  · intro i o d ho hl _
    rw [z] at hl
    simp at hl
  · intro i o ho hl
    rw [z] at hl
    simp at hl
theorem puts_late {n k x : Nat} (hT : textLate md ops n k x = true) (hn : n = a0.tmps.size) {a : Act} (hb : Based ops a0 a) (vs : Nat → Value) (hv : ∀ d, a.tmps.getD d undef = vs d) : a = puts vs a0 ops.toList := by
  have T := textL_of hT
  have hin : ∀ o ∈ ops.toList, ∀ e, o.dst = some e → e < a0.tmps.size := fun o ho e he => by
    obtain ⟨i, hi⟩ := List.getElem?_of_mem ho
    have := T.d i o e (by simpa using hi) he
    rw [hn] at this
    exact this
  obtain ⟨s1, s2⟩ := puts_size vs ops.toList a0
  obtain ⟨ta, da⟩ := a
  obtain ⟨h1, h2, h3⟩ := hb
  have e1 : ta = (puts vs a0 ops.toList).tmps := by
    apply Array.ext
    · rw [s1]; exact h2
    · intro i hi hi'
      have g := puts_get vs i ops.toList a0 hin
      have l : ta[i] = ta.getD i undef := by simp [Array.getD_eq_getD_getElem?, hi]
      have r : (puts vs a0 ops.toList).tmps[i] = (puts vs a0 ops.toList).tmps.getD i undef := by simp only [Array.getD_eq_getD_getElem?, Array.getElem?_eq_getElem hi', Option.getD_some]
      rw [l, r, g]
      by_cases c : ops.toList.any (fun o => o.dst == some i) = true
      · rw [if_pos c]; exact hv i
      · rw [if_neg c]
        refine h3 i ?_
        unfold apart
        rw [Array.all_eq_true_iff_forall_mem]
        intro o ho
        have hne : ¬ (o.dst == some i) = true := fun x => c (List.any_eq_true.2 ⟨o, by simpa using ho, x⟩)
        simpa using hne
  have e2 : da = (puts vs a0 ops.toList).defers := h1.trans s2.symm
  subst e1
  subst e2
  rfl
end
end Go.Proofs.YtnaaanefndeafaaDoor

/-
  The program's root of an element.
-/
namespace Go.Proofs.YtnaaanefndeafaaDoor
set_option maxRecDepth 100000
open Go.RowKit

theorem Blk.l5 {w : World} {g : Nat} {u : Nat → Int} (h : Blk w g .u64 [u 0, u 1, u 2, u 3, u 4]) : w.cell? ⟨g, 0, none⟩ = some (.int .u64 (u 0)) ∧ w.cell? ⟨g, 1, none⟩ = some (.int .u64 (u 1)) ∧ w.cell? ⟨g, 2, none⟩ = some (.int .u64 (u 2)) ∧ w.cell? ⟨g, 3, none⟩ = some (.int .u64 (u 3)) ∧ w.cell? ⟨g, 4, none⟩ = some (.int .u64 (u 4)) := h.f5.1
abbrev put5 (W : World) (p : Nat) (u : Nat → Int) : World := ((((W.setCell ⟨p, 0, none⟩ (.int .u64 (u 0))).setCell ⟨p, 1, none⟩ (.int .u64 (u 1))).setCell ⟨p, 2, none⟩ (.int .u64 (u 2))).setCell ⟨p, 3, none⟩ (.int .u64 (u 3))).setCell ⟨p, 4, none⟩ (.int .u64 (u 4))
theorem put5_same {W : World} {p : Nat} {a b c d e : Int} (u : Nat → Int) (h : Blk W p .u64 [a, b, c, d, e]) : Blk (put5 W p u) p .u64 [u 0, u 1, u 2, u 3, u 4] :=
  ((((h.store 0 _).store 1 _).store 2 _).store 3 _).store 4 _
theorem bset {W : World} {g p i : Nat} {k : IntKind} {ys : List Int} {v : Value} (h : Blk W g k ys) (hne : g ≠ p) : Blk (W.setCell ⟨p, i, none⟩ v) g k ys := h.of_block (heap_setCell_other W ⟨p, i, none⟩ g v hne)
theorem put5_keep {W : World} {p g : Nat} {k : IntKind} {ys : List Int} {u : Nat → Int} (h : Blk W g k ys) (hne : g ≠ p) : Blk (put5 W p u) g k ys := bset (bset (bset (bset (bset h hne) hne) hne) hne) hne

/-- What the root answers. -/
def RootOut (A : Int) (r : Ending) : Prop := (r1I A * r1I A % PP = A ∧ ∃ t, r = .returned (.tuple #[ag5 t, .bool true]) ∧ Lm t ∧ sv t 5 = fin2 (r1I A)) ∨ (¬ r1I A * r1I A % PP = A ∧ r = .returned (.tuple #[ag5 z5e, .bool false]))

set_option maxHeartbeats 8000000 in
theorem root_any (w : World) (e : Nat → Int) (he : Elm e) (hR : HasR w) :
    Calls Tryd.prog 104 #[ag5 e] w fun r w' => RootOut (sv e 5) r ∧ Below w.heap.size w w' := by
  have heL := he.1
  have B0 := blk_box w .u64 49 (e 0) (e 1) (e 2) (e 3) (e 4)
  have n0 : Below w.heap.size w (w.alloc (.cells #[.int .u64 (e 0), .int .u64 (e 1), .int .u64 (e 2), .int .u64 (e 3), .int .u64 (e 4)] 49)) := (Below.refl _ _).alloc (Nat.le_refl _) _
  have s0 : (w.alloc (.cells #[.int .u64 (e 0), .int .u64 (e 1), .int .u64 (e 2), .int .u64 (e 3), .int .u64 (e 4)] 49)).heap.size = w.heap.size + 1 := by simp
  have CH := fun W (h : Below w.heap.size w W) => chain_any W e he 12 2 2 (by omega) (by omega) (by omega) (hR.up h).1
  rw [eRt_ok] at CH
  simp only [ag5] at CH ⊢
  go_enter Tryd.func104, Tryd.ntmps104
  go_upto_region 1 with fail
  generalize w.alloc (.cells #[.int .u64 (e 0), .int .u64 (e 1), .int .u64 (e 2), .int .u64 (e 3), .int .u64 (e 4)] 49) = wa at *
  have B1 := blk_box wa .u64 49 0 0 0 0 0
  have n1 : Below wa.heap.size wa (wa.alloc (.cells #[.int .u64 0, .int .u64 0, .int .u64 0, .int .u64 0, .int .u64 0] 49)) := (Below.refl _ _).alloc (Nat.le_refl _) _
  rw [s0] at B1
  generalize wa.alloc (.cells #[.int .u64 0, .int .u64 0, .int .u64 0, .int .u64 0, .int .u64 0] 49) = wb at *
  have N1 := nxt n0 n1
  obtain ⟨⟨q0, q1, q2, q3, q4⟩, _⟩ := (B0.up n1).f5
  obtain ⟨i0, i1, i2⟩ := (hR.up N1).2.1
  have E0 := B0.up n1
  clear n0 n1 s0 B0
  go_wp2_with fail
  refine (CH wb N1).mono ?_
  rintro r w1 ⟨t, rfl, L, V, n2⟩
  have N2 := nxt N1 n2
  have E02 := E0.up n2
  have E12 := B1.up n2
  have T := blk_box w1 .u64 49 (t 0) (t 1) (t 2) (t 3) (t 4)
  have n3 : Below w1.heap.size w1 (w1.alloc (.cells #[.int .u64 (t 0), .int .u64 (t 1), .int .u64 (t 2), .int .u64 (t 3), .int .u64 (t 4)] 49)) := (Below.refl _ _).alloc (Nat.le_refl _) _
  have VR : Hid (sv t 5 = rtR (sv e 5)) := V
  have zz := E12.lt
  clear CH V q0 q1 q2 q3 q4 i0 i1 i2 E0 B1 N1 n2
  go_upto_region 2 with fail
  have E03 := E02.up n3
  have E13 := E12.up n3
  have N3 := nxt N2 n3
  generalize w1.alloc (.cells #[.int .u64 (t 0), .int .u64 (t 1), .int .u64 (t 2), .int .u64 (t 3), .int .u64 (t 4)] 49) = wr at *
  generalize w1.heap.size = pr at *
  have CE : Hid (∀ W, Below wr.heap.size wr W → (W.cell? ⟨pr, 0, none⟩ = some (.int .u64 (t 0)) ∧ W.cell? ⟨pr, 1, none⟩ = some (.int .u64 (t 1)) ∧ W.cell? ⟨pr, 2, none⟩ = some (.int .u64 (t 2)) ∧ W.cell? ⟨pr, 3, none⟩ = some (.int .u64 (t 3)) ∧ W.cell? ⟨pr, 4, none⟩ = some (.int .u64 (t 4))) ∧ (W.cell? ⟨w.heap.size, 0, none⟩ = some (.int .u64 (e 0)) ∧ W.cell? ⟨w.heap.size, 1, none⟩ = some (.int .u64 (e 1)) ∧ W.cell? ⟨w.heap.size, 2, none⟩ = some (.int .u64 (e 2)) ∧ W.cell? ⟨w.heap.size, 3, none⟩ = some (.int .u64 (e 3)) ∧ W.cell? ⟨w.heap.size, 4, none⟩ = some (.int .u64 (e 4)))) := fun W n => ⟨(T.up n).f5.1, (E03.up n).f5.1⟩
  have SQ : Hid (∀ W, Below wr.heap.size wr W → Calls Tryd.prog 97 #[.agg #[.int .u64 (t 0), .int .u64 (t 1), .int .u64 (t 2), .int .u64 (t 3), .int .u64 (t 4)]] W fun r w' => ∃ u, r = .returned (.agg #[.int .u64 (u 0), .int .u64 (u 1), .int .u64 (u 2), .int .u64 (u 3), .int .u64 (u 4)]) ∧ Hid (Lm u ∧ sv u 5 = sv t 5 * sv t 5 % PP) ∧ Below wr.heap.size wr w') := by
    intro W n
    refine (square_any W t L).mono ?_
    rintro r w' ⟨u, rfl, Lu, Vu, n'⟩
    exact ⟨u, rfl, ⟨Lu, Vu⟩, nxt n n'⟩
  have NG : Hid (∀ W, Below wr.heap.size wr W → Calls Tryd.prog 105 #[.agg #[.int .u64 (e 0), .int .u64 (e 1), .int .u64 (e 2), .int .u64 (e 3), .int .u64 (e 4)]] W fun r w' => ∃ u, r = .returned (.agg #[.int .u64 (u 0), .int .u64 (u 1), .int .u64 (u 2), .int .u64 (u 3), .int .u64 (u 4)]) ∧ Hid (Lm u ∧ sv u 5 = (0 - sv e 5) % PP) ∧ Below wr.heap.size wr w') := by
    intro W n
    refine (negate_any W e heL ((hR.up (nxt N3 n)).2.2.2)).mono ?_
    rintro r w' ⟨u, rfl, Lu, Vu, n'⟩
    exact ⟨u, rfl, ⟨Lu, Vu⟩, nxt n n'⟩
  have nd : Below wr.heap.size wr wr.drew := (Below.refl _ _).drew
  have EQ := eqElem
  go_cut [12] (fun v wc => v = .bool (decide (rtR (sv e 5) * rtR (sv e 5) % PP = (0 - sv e 5) % PP)) ∧ Below wr.heap.size wr wc)
  case first =>
    go_region_held3 (fun W => (W.cell? ⟨pr, 0, none⟩ = some (.int .u64 (t 0)) ∧ W.cell? ⟨pr, 1, none⟩ = some (.int .u64 (t 1)) ∧ W.cell? ⟨pr, 2, none⟩ = some (.int .u64 (t 2)) ∧ W.cell? ⟨pr, 3, none⟩ = some (.int .u64 (t 3)) ∧ W.cell? ⟨pr, 4, none⟩ = some (.int .u64 (t 4))) ∧ (W.cell? ⟨w.heap.size, 0, none⟩ = some (.int .u64 (e 0)) ∧ W.cell? ⟨w.heap.size, 1, none⟩ = some (.int .u64 (e 1)) ∧ W.cell? ⟨w.heap.size, 2, none⟩ = some (.int .u64 (e 2)) ∧ W.cell? ⟨w.heap.size, 3, none⟩ = some (.int .u64 (e 3)) ∧ W.cell? ⟨w.heap.size, 4, none⟩ = some (.int .u64 (e 4))))
      (first | exact (unhide CE) _ nd | exact (unhide CE) _ ns | exact (unhide CE) _ nm)
      (first
        | (go_at_call 97; refine ((unhide SQ) _ (by first | exact nd | exact nm)).mono ?_; rintro r ws ⟨u, rfl, LU, ns⟩)
        | (go_at_call 105; refine ((unhide NG) _ (by first | exact nd | exact ns)).mono ?_; rintro r wm ⟨v, rfl, LV, nm⟩))
    all_goals
      have BB : Hid ((u 0 == v 0 && u 1 == v 1 && u 2 == v 2 && u 3 == v 3 && u 4 == v 4) = decide (rtR (sv e 5) * rtR (sv e 5) % PP = (0 - sv e 5) % PP)) := by
        show _ = _
        rw [eq_Lm LU.out.1 LV.out.1, LU.out.2, LV.out.2, VR.out]
      clear SQ NG CE EQ
      go_wp2_with fail
      go_meet
      first
        | exact ⟨congrArg Value.bool BB.out, nm⟩
        | exact ⟨congrArg Value.bool BB.out, ns⟩
  case rest =>
    obtain ⟨rfl, nc⟩ := hcut
    have T4 := T.up nc
    have E04 := E03.up nc
    have E14 := E13.up nc
    have N4 := nxt N3 nc
    have hR4 := hR.up N4
    have MU := fun W => mulE_any W t iL L iL_lm
    rw [iL_val] at MU
    obtain ⟨j0, j1, j2, j3, j4⟩ : wc.cell? ⟨5, 0, none⟩ = some (.int .u64 (iL 0)) ∧ wc.cell? ⟨5, 1, none⟩ = some (.int .u64 (iL 1)) ∧ wc.cell? ⟨5, 2, none⟩ = some (.int .u64 (iL 2)) ∧ wc.cell? ⟨5, 3, none⟩ = some (.int .u64 (iL 3)) ∧ wc.cell? ⟨5, 4, none⟩ = some (.int .u64 (iL 4)) :=
      ⟨hR4.2.2.1 0 (by omega), hR4.2.2.1 1 (by omega), hR4.2.2.1 2 (by omega), hR4.2.2.1 3 (by omega), hR4.2.2.1 4 (by omega)⟩
    obtain ⟨il, hil⟩ : ∃ f, f = iL := ⟨_, rfl⟩
    rw [← hil] at MU j0 j1 j2 j3 j4
    have ple := T4.lt
    have pe := E04.lt
    clear hil SQ NG CE nd T E02 E12 E03 E13 N2 N3 nc n3
    simp only [ag5] at MU
    have KR : Hid (sv t 5 = rtR (sv e 5)) := VR
    go_upto_if 12 with fail
    go_cut [] (fun wc => ∃ t1, Blk wc pr .u64 [t1 0, t1 1, t1 2, t1 3, t1 4] ∧ Lm t1 ∧ Hid (sv t1 5 = r1I (sv e 5)) ∧ Blk wc w.heap.size .u64 [e 0, e 1, e 2, e 3, e 4] ∧ Blk wc (w.heap.size + 1) .u64 [0, 0, 0, 0, 0] ∧ Below w.heap.size w wc)
    case first =>
      by_cases cc : rtR (sv e 5) * rtR (sv e 5) % PP = (0 - sv e 5) % PP
      · have k1 : Hid (r1I (sv e 5) = sv t 5 * iM % PP) := by show _ = _; rw [KR.out, r1I, if_pos cc]
        rw [decide_eq_true cc]
        clear cc
        obtain ⟨y0, y1, y2, y3, y4⟩ := T4.f5.1
        go_wp2_with fail
        refine (MU wc).mono ?_
        rintro r wm ⟨t1, rfl, L1, V1, nm⟩
        obtain ⟨⟨z0, z1, z2, z3, z4⟩, ⟨f0, f1, f2, f3, f4⟩⟩ := (T4.up nm).f5
        have S0 := put5_same t1 (T4.up nm)
        have S1 := put5_keep (p := pr) (u := t1) (E04.up nm) (by omega)
        have S2 := put5_keep (p := pr) (u := t1) (E14.up nm) (by omega)
        have S3 : Below w.heap.size w (put5 wm pr t1) := below_set5 (nxt N4 nm) (by omega) _ _ _ _ _
        have V1' : Hid (sv t1 5 = r1I (sv e 5)) := by rw [k1.out]; exact V1
        clear MU j0 j1 j2 j3 j4 V1 y0 y1 y2 y3 y4
        go_wp2_with fail
        go_meet
        exact ⟨t1, S0, L1, V1', S1, S2, S3⟩
      · have k1 : Hid (sv t 5 = r1I (sv e 5)) := by show _ = _; rw [KR.out, r1I, if_neg cc]
        rw [decide_eq_false cc]
        clear cc
        go_wp2_with fail
        go_meet
        exact ⟨t, T4, L, k1, E04, E14, N4⟩
    case rest =>
      clear T4 E04 E14 MU j0 j1 j2 j3 j4 N4 hR4 KR VR L
      obtain ⟨t1, T1, L1, V1, E0, E1, N5⟩ := hcut
      have zr := T1.lt
      have CE : Hid (∀ W, Below wc.heap.size wc W → (W.cell? ⟨pr, 0, none⟩ = some (.int .u64 (t1 0)) ∧ W.cell? ⟨pr, 1, none⟩ = some (.int .u64 (t1 1)) ∧ W.cell? ⟨pr, 2, none⟩ = some (.int .u64 (t1 2)) ∧ W.cell? ⟨pr, 3, none⟩ = some (.int .u64 (t1 3)) ∧ W.cell? ⟨pr, 4, none⟩ = some (.int .u64 (t1 4))) ∧ (W.cell? ⟨w.heap.size, 0, none⟩ = some (.int .u64 (e 0)) ∧ W.cell? ⟨w.heap.size, 1, none⟩ = some (.int .u64 (e 1)) ∧ W.cell? ⟨w.heap.size, 2, none⟩ = some (.int .u64 (e 2)) ∧ W.cell? ⟨w.heap.size, 3, none⟩ = some (.int .u64 (e 3)) ∧ W.cell? ⟨w.heap.size, 4, none⟩ = some (.int .u64 (e 4)))) := fun W n => ⟨(T1.up n).f5.1, (E0.up n).f5.1⟩
      have SQ : Hid (∀ W, Below wc.heap.size wc W → Calls Tryd.prog 97 #[.agg #[.int .u64 (t1 0), .int .u64 (t1 1), .int .u64 (t1 2), .int .u64 (t1 3), .int .u64 (t1 4)]] W fun r w' => ∃ u, r = .returned (.agg #[.int .u64 (u 0), .int .u64 (u 1), .int .u64 (u 2), .int .u64 (u 3), .int .u64 (u 4)]) ∧ Hid (Lm u ∧ sv u 5 = sv t1 5 * sv t1 5 % PP) ∧ Below wc.heap.size wc w') := by
        intro W n
        refine (square_any W t1 L1).mono ?_
        rintro r w' ⟨u, rfl, Lu, Vu, n'⟩
        exact ⟨u, rfl, ⟨Lu, Vu⟩, nxt n n'⟩
      have nd : Below wc.heap.size wc wc.drew := (Below.refl _ _).drew
      go_upto_region 4 with fail
      go_cut [19] (fun v wd => v = .bool (!decide (r1I (sv e 5) * r1I (sv e 5) % PP = sv e 5)) ∧ Below wc.heap.size wc wd)
      case first =>
        go_region_held3 (fun W => (W.cell? ⟨pr, 0, none⟩ = some (.int .u64 (t1 0)) ∧ W.cell? ⟨pr, 1, none⟩ = some (.int .u64 (t1 1)) ∧ W.cell? ⟨pr, 2, none⟩ = some (.int .u64 (t1 2)) ∧ W.cell? ⟨pr, 3, none⟩ = some (.int .u64 (t1 3)) ∧ W.cell? ⟨pr, 4, none⟩ = some (.int .u64 (t1 4))) ∧ (W.cell? ⟨w.heap.size, 0, none⟩ = some (.int .u64 (e 0)) ∧ W.cell? ⟨w.heap.size, 1, none⟩ = some (.int .u64 (e 1)) ∧ W.cell? ⟨w.heap.size, 2, none⟩ = some (.int .u64 (e 2)) ∧ W.cell? ⟨w.heap.size, 3, none⟩ = some (.int .u64 (e 3)) ∧ W.cell? ⟨w.heap.size, 4, none⟩ = some (.int .u64 (e 4))))
          (first | exact (unhide CE) _ nd | exact (unhide CE) _ ns)
          (first
            | (go_at_call 97; refine ((unhide SQ) _ nd).mono ?_; rintro r ws ⟨u, rfl, LU, ns⟩))
        all_goals
          have BB : Hid ((u 0 == e 0 && u 1 == e 1 && u 2 == e 2 && u 3 == e 3 && u 4 == e 4) = decide (r1I (sv e 5) * r1I (sv e 5) % PP = sv e 5)) := by
            show _ = _
            rw [eq_Lm LU.out.1 heL, LU.out.2, V1.out]
          clear SQ CE EQ
          go_wp2_with fail
          go_meet
          exact ⟨by rw [← BB.out]; simp only [Bool.not_and], ns⟩
      case rest =>
        obtain ⟨rfl, nc⟩ := hcut
        have T6 := T1.up nc
        have E6 := E1.up nc
        have N6 := nxt N5 nc
        clear SQ CE EQ nd T1 E0 E1 N5 nc
        by_cases gg : r1I (sv e 5) * r1I (sv e 5) % PP = sv e 5
        · have G : Hid (r1I (sv e 5) * r1I (sv e 5) % PP = sv e 5) := gg
          rw [decide_eq_true gg]
          clear gg
          have EV := fun W => isEven_any W t1 L1
          obtain ⟨y0, y1, y2, y3, y4⟩ := T6.f5.1
          by_cases ev : sv t1 5 % 2 = 0
          · have K : Hid (sv t1 5 = fin2 (r1I (sv e 5))) := by show _ = _; rw [← V1.out, fin2, if_pos ev]
            rw [decide_eq_true ev] at EV
            clear ev
            simp only [ag5] at EV
            go_wp2_with fail
            refine (EV _).mono ?_
            rintro r w7 ⟨rfl, n7⟩
            have N7 := nxt N6 n7
            obtain ⟨⟨p0, p1, p2, p3, p4⟩, ⟨g0, g1, g2, g3, g4⟩⟩ := (E6.up n7).f5
            obtain ⟨x0, x1, x2, x3, x4⟩ := (T6.up n7).f5.1
            clear EV y0 y1 y2 y3 y4 T6 E6 N6 n7
            go_wp2
            refine bodyPost_ret (v := .tuple #[ag5 t1, .bool true]) (by simp [ag5, results, Tryd.results104, go_sem, p0, p1, p2, p3, p4]) rfl ⟨Or.inl ⟨G.out, t1, rfl, L1, K.out⟩, ?_⟩
            exact below_set5 N7 (by omega) _ _ _ _ _
          · have K : Hid ((0 - sv t1 5) % PP = fin2 (r1I (sv e 5))) := by show _ = _; rw [← V1.out, fin2, if_neg ev]
            rw [decide_eq_false ev] at EV
            clear ev
            simp only [ag5] at EV
            go_wp2_with fail
            refine (EV _).mono ?_
            rintro r w7 ⟨rfl, n7⟩
            have N7 := nxt N6 n7
            have E7 := E6.up n7
            have T7 := T6.up n7
            obtain ⟨x0, x1, x2, x3, x4⟩ := T7.f5.1
            have NG := fun W (h : Below w.heap.size w W) => negate_any W t1 L1 ((hR.up h).2.2.2)
            simp only [ag5] at NG
            clear EV y0 y1 y2 y3 y4 T6 E6 N6 n7
            go_wp2_with fail
            refine (NG w7 N7).mono ?_
            rintro r w8 ⟨t2, rfl, L2, W2, n8⟩
            have K2 : Hid (sv t2 5 = fin2 (r1I (sv e 5))) := by rw [← K.out]; exact W2
            have N8 := nxt N7 n8
            obtain ⟨⟨z0, z1, z2, z3, z4⟩, ⟨f0, f1, f2, f3, f4⟩⟩ := (T7.up n8).f5
            have S0 := put5_same t2 (T7.up n8)
            have S2 := put5_keep (p := pr) (u := t2) (E7.up n8) (by omega)
            have S3 : Below w.heap.size w (put5 w8 pr t2) := below_set5 N8 (by omega) _ _ _ _ _
            obtain ⟨⟨p0, p1, p2, p3, p4⟩, ⟨g0, g1, g2, g3, g4⟩⟩ := S2.f5
            obtain ⟨c0, c1, c2, c3, c4⟩ := S0.f5.1
            clear NG x0 x1 x2 x3 x4 T7 E7 N7 n8 W2 N8 S0 S2
            go_wp2
            refine bodyPost_ret (v := .tuple #[ag5 t2, .bool true]) (by simp [ag5, results, Tryd.results104, go_sem, p0, p1, p2, p3, p4]) rfl ⟨Or.inl ⟨G.out, t2, rfl, L2, K2.out⟩, ?_⟩
            exact below_set5 S3 (by omega) _ _ _ _ _
        · have G : Hid (¬ r1I (sv e 5) * r1I (sv e 5) % PP = sv e 5) := gg
          rw [decide_eq_false gg]
          clear gg
          obtain ⟨⟨p0, p1, p2, p3, p4⟩, ⟨g0, g1, g2, g3, g4⟩⟩ := E6.f5
          go_wp2
          refine bodyPost_ret (v := .tuple #[ag5 z5e, .bool false]) (by simp [ag5, z5e, results, Tryd.results104, go_sem, p0, p1, p2, p3, p4]) rfl ⟨Or.inr ⟨G.out, rfl⟩, ?_⟩
          exact below_set5 N6 (by omega) _ _ _ _ _
end Go.Proofs.YtnaaanefndeafaaDoor

/-
  The program's pointWith: the point of a y and a parity.
-/
namespace Go.Proofs.YtnaaanefndeafaaDoor
set_option maxRecDepth 100000
open Go Go.RowKit

/-- What the program's root answers. -/
def irB (A : Int) : Bool := decide (r1I (A % PP) * r1I (A % PP) % PP = A % PP)
def irV (A : Int) : Int := if irB A = true then fin2 (r1I (A % PP)) else 0
theorem r1I_in (A : Int) : 0 ≤ r1I A ∧ r1I A < PP := by
  have p : (0 : Int) < PP := by decide
  have q : PP ≠ 0 := by decide
  unfold r1I rtR
  split
  · exact ⟨Int.emod_nonneg _ q, Int.emod_lt_of_pos _ p⟩
  · exact ⟨Int.emod_nonneg _ q, Int.emod_lt_of_pos _ p⟩
theorem fin2_in {r : Int} (h : 0 ≤ r ∧ r < PP) : 0 ≤ fin2 r ∧ fin2 r < PP := by
  unfold fin2
  split
  · exact h
  · exact ⟨Int.emod_nonneg _ (by decide), Int.emod_lt_of_pos _ (by decide)⟩
/-- An operation that waits for one alone. -/
theorem late_one {md : Region.Mode} {ops : Array Oper} {x j d p : Nat} (h : (match ops[x]? with | some o => o.after.all (fun e => !Region.binds md e || e.on == p) | none => true) = true) (hw : waits md ops x j d = true) : j = p := by
  unfold waits at hw
  cases ho : ops[x]? with
  | none => rw [ho] at hw; simp at hw
  | some o =>
    rw [ho] at hw h
    cases hj : ops[j]? with
    | none => rw [hj] at hw; simp at hw
    | some oj =>
      rw [hj] at hw
      simp only [Bool.and_eq_true, beq_iff_eq] at hw
      obtain ⟨e, he, hb⟩ := Array.any_eq_true'.1 hw.1
      simp only [Bool.and_eq_true, beq_iff_eq] at hb
      have r := (Array.all_eq_true_iff_forall_mem.1 h) e he
      rw [hb.1, hb.2] at r
      simpa using r
section
variable {ops : Array Oper} {Q : Exit → Act → World → Prop} {a0 : Act} {w : World} {id : Nat}
theorem region_newN_late (ty : TypeId) (k jA jV pA pV jB pB dB : Nat) (o1 o2 : Oper) (F : Nat → Fact) (As : List Int) (b : Value) (hT : textLate .any ops a0.tmps.size k jB = true) (hk1 : ops[k]? = some o1) (hk2 : ops[k + 1]? = some o2) (hd1 : o1.dst = none) (hd2 : o2.dst = some dB)
    (hop1 : o1.op = .store ty (.tmp pA) (.tmp pV)) (hop2 : o2.op = .assign (.tmp pB)) (hs : (Tryd.prog.info? ty).map (·.size) = some (5 * As.length)) (ha : 0 < As.length)
    (qA : decide (jA < k ∧ jA ≠ jB) = true) (qV : decide (jV < k ∧ jV ≠ jB) = true) (wA : writes ops jA pA = true) (wV : writes ops jV pV = true) (wB : writes ops jB pB = true) (FA : F jA = NB w (5 * As.length)) (FV : F jV = EN As) (FB : F jB = Fact.eq b) (hne : dB ≠ pA) (hnB : pB ≠ pA) (hz : decide (dB < a0.tmps.size) = true)
    (sx : ∀ j d v w w', waits .any ops jB j d = true → (F j).p v w → (F j).p v w') (steps : ∀ i, i < k → StepOk Tryd.prog .any ops Q F a0 w i)
    (fin : ∀ (vs : Nat → Value) (q : Nat) (W : World), vs pA = .pointer (some ⟨q, 0, none⟩) → vs dB = b → w.heap.size ≤ q → Below w.heap.size w W → RowN W q 0 As → W.there q 0 (5 * As.length) → Q .normal (puts vs a0 ops.toList) W) :
    (Code.region id ops true).wp Tryd.prog Q a0 w := by
  refine region_late k jB F (by kernel_rfl) hT steps o1 o2 hk1 hk2 pB wB (fun a W => ∃ q, a.tmps.getD pA undef = .pointer (some ⟨q, 0, none⟩) ∧ w.heap.size ≤ q ∧ Below w.heap.size w W ∧ RowN W q 0 As ∧ W.there q 0 (5 * As.length)) ?_ sx (fun v u u' h => by rw [FB] at h ⊢; exact h) ?_ ?_
  · rintro a W W' v n ⟨q, e, l, hw, r, th⟩
    exact ⟨q, by rw [put_off (by simpa using hnB)]; exact e, l, nxt hw n, r.up n, there_up (by omega) th n⟩
  · intro a W hb hw hF K hK
    have h1 := hF jA pA qA wA
    have h2 := hF jV pV qV wV
    rw [FA] at h1
    rw [FV] at h2
    obtain ⟨_, q, eq, th, hq⟩ := h1
    obtain ⟨es, ev, V⟩ := h2
    refine wp_store_mid ty (.tmp pA) (.tmp pV) hop1 q 0 (clN es).toArray eq ev (by show W.there q 0 (clN es).length; rw [clN_len V]; exact th) (by show _ = some (clN es).length; rw [clN_len V]; exact hs) (clN_one es) ?_
    rw [hd1]
    exact hK _ (below_setCells hq _ _ _ hw) ⟨q, eq, hq, below_setCells hq _ _ _ hw, set_rowN th ha V, World.there_setCells th _ _ _⟩
  · rintro a W hb ⟨q, eq, hq, hw, r, th⟩ h3
    rw [FB] at h3
    refine wp_assign pB hop2 h3 ?_
    rw [hd2]
    have hb2 : Based ops a0 (a.put (some dB) b) := by rw [← hd2]; exact hb.put hk2 b
    obtain ⟨vs, hvs⟩ : ∃ vs : Nat → Value, ∀ d, (a.put (some dB) b).tmps.getD d undef = vs d := ⟨_, fun _ => rfl⟩
    rw [puts_late hT rfl hb2 vs hvs]
    refine fin vs q W ?_ ?_ hq hw r th
    · rw [← hvs, put_off (by simpa using hne)]
      exact eq
    · rw [← hvs, put_at (by rw [hb.2.1]; exact of_decide_eq_true hz)]
end
section
variable {ops : Array Oper} {Q : Exit → Act → World → Prop} {md : Region.Mode} {F : Nat → Fact} {a0 : Act} {w0 : World} {i : Nat} {o : Oper} {ts : Array TypeId}
theorem step_root5 (RR : HasR w0) (hi : ops[i]? = some o) (p j : Nat) (A : Int) (hop : o.op = .call { callee := .value (.func 104), args := #[.tmp p], argTypes := ts })
    (hj : waits md ops i j p = true) (hFj : F j = EM A) (hFi : F i = TB [irV A] (irB A)) : StepOk Tryd.prog md ops Q F a0 w0 i := by
  refine step_call hi _ _ ts hop (by kernel_rfl) fun a w _ hw hF => ?_
  have ea := hF j p hj
  rw [hFj] at ea
  obtain ⟨t, e1, L1, V1⟩ := ea
  show Calls Tryd.prog 104 #[a.tmps.getD p undef] w _
  rw [e1]
  refine (root_any w t (Elm.of L1 V1) (RR.up hw)).mono ?_
  rintro r w' ⟨hr, hn⟩
  rw [hFi]
  rw [V1] at hr
  rcases hr with ⟨h1, u, rfl, L, V⟩ | ⟨h1, rfl⟩
  · have hb : irB A = true := decide_eq_true h1
    refine ⟨_, rfl, hn, [u], by rw [hb]; simp [agN, clN, ag5, cl5], ⟨L, ?_⟩, trivial⟩
    unfold irV
    have k := fin2_in (r1I_in (A % PP))
    rw [if_pos hb, V, Int.emod_eq_of_lt k.1 k.2]
  · have hb : irB A = false := decide_eq_false h1
    refine ⟨_, rfl, hn, [z5e], by rw [hb]; simp [agN, clN, ag5, cl5], ⟨z5e_lm, ?_⟩, trivial⟩
    unfold irV
    rw [if_neg (by rw [hb]; simp), z5e_val]
    rfl
end
/-- The square of x that y tells, as the program has it; the x. -/
def pwZ (D A : Int) : Int := (A * A - 1) * (A * A * D + 1) ^ eInv
def pwX (D A : Int) (odd : Bool) : Int := if odd = true then 0 - irV (pwZ D A) else irV (pwZ D A)
set_option maxHeartbeats 4000000 in
theorem pointWith_any (w : World) (e : Nat → Int) (A : Int) (odd : Bool) (he : Is5 e A) (D : Int) (TT : HasTw w 2) (CC : Em5 w 1 0 D) (SS : HasSt w 6) (II : Has3 w 3 12 5 4) (RR : HasR w) :
    Calls Tryd.prog 78 #[ag5 e, .bool odd] w fun r w' => ∃ es, r = .returned (.tuple #[agN es, .bool (irB (pwZ D A))]) ∧ IsN es [pwX D A odd, A] ∧ Below w.heap.size w w' := by
  have EY := em5_new w 49 he
  have m1 : Below w.heap.size w (w.alloc (.cells #[.int .u64 (e 0), .int .u64 (e 1), .int .u64 (e 2), .int .u64 (e 3), .int .u64 (e 4)] 49)) := (Below.refl _ _).alloc (Nat.le_refl _) _
  have s1 : (w.alloc (.cells #[.int .u64 (e 0), .int .u64 (e 1), .int .u64 (e 2), .int .u64 (e 3), .int .u64 (e 4)] 49)).heap.size = w.heap.size + 1 := by simp
  simp only [ag5]
  go_enter Tryd.func78, Tryd.ntmps78
  go_upto_region 1 with fail
  generalize w.alloc (.cells #[.int .u64 (e 0), .int .u64 (e 1), .int .u64 (e 2), .int .u64 (e 3), .int .u64 (e 4)] 49) = wa at *
  have TR : (wa.alloc zA).there wa.heap.size 0 10 := there_new wa _ _
  have mz : Below wa.heap.size wa (wa.alloc zA) := (Below.refl _ _).alloc (Nat.le_refl _) _
  rw [s1] at TR
  have N := nxt m1 mz
  replace EY := EY.up mz
  obtain ⟨wr, hwr⟩ : ∃ W, W = wa.alloc zA := ⟨_, rfl⟩
  rw [← hwr] at TR N EY
  change Code.wp _ _ _ _ (wa.alloc zA)
  rw [← hwr]
  clear hwr m1 mz s1 he
  replace TT := TT.up N
  replace CC := CC.up N
  replace SS := SS.up N
  replace II := II.up N
  replace RR := RR.up N
  refine region_new2 5 3 0 6 12 4 2 7 14 _ _ (fun i => [EM (1), EM (A), EM ((A) * (A)), NB wr 5, NB wr 5].getD i Fact.no) (1) ((A) * (A)) (by kernel_rfl) rfl rfl rfl rfl rfl rfl rfl rfl rfl (by kernel_rfl) (by kernel_rfl) (by kernel_rfl) (by kernel_rfl) rfl rfl rfl rfl (by decide) (fresh_new5 rfl rfl rfl) (fresh_new5 rfl rfl rfl) ?_ ?_
  · intro i hi
    obtain rfl | rfl | rfl | rfl | rfl : i = 0 ∨ i = 1 ∨ i = 2 ∨ i = 3 ∨ i = 4 := by omega
    · exact step_b5 rfl 1 (by omega) rfl rfl
    · exact step_e5 rfl 2 rfl (by kernel_rfl) _ _ rfl _ EY rfl
    · exact step_sq5 rfl 13 1 _ rfl (by kernel_rfl) rfl rfl
    · exact step_new5 rfl rfl rfl
    · exact step_new5 rfl rfl rfl
  intro vs1 q6 q7 W1 v6 v7 l6 l7 n67 n E6 E7
  replace EY := EY.up n
  replace TT := TT.up n
  replace CC := CC.up n
  replace SS := SS.up n
  replace II := II.up n
  replace RR := RR.up n
  replace TR := there_up (by omega) TR n
  replace N := nxt N n
  clear n n67
  obtain ⟨x7, g7⟩ : ∃ e : Int, e = A * A := ⟨_, rfl⟩
  rw [← g7] at E7
  simp only [puts, v6, v7, Act.put, List.setIfInBounds_toArray, List.set_cons_succ, List.set_cons_zero]
  clear v6 v7
  go_upto_region 2 with fail
  refine region_new2 10 8 2 8 17 9 7 9 22 _ _ (fun i => [EM (x7), EM (1), EM ((x7) - (1)), EM (x7), EM (D), EM ((x7) * (D)), EM (1), EM (((x7) * (D)) + (1)), NB W1 5, NB W1 5].getD i Fact.no) ((x7) - (1)) (((x7) * (D)) + (1)) (by kernel_rfl) rfl rfl rfl rfl rfl rfl rfl rfl rfl (by kernel_rfl) (by kernel_rfl) (by kernel_rfl) (by kernel_rfl) rfl rfl rfl rfl (by decide) (fresh_new5 rfl rfl rfl) (fresh_new5 rfl rfl rfl) ?_ ?_
  · intro i hi
    obtain rfl | rfl | rfl | rfl | rfl | rfl | rfl | rfl | rfl | rfl : i = 0 ∨ i = 1 ∨ i = 2 ∨ i = 3 ∨ i = 4 ∨ i = 5 ∨ i = 6 ∨ i = 7 ∨ i = 8 ∨ i = 9 := by omega
    · exact step_e5 rfl 7 rfl (by kernel_rfl) _ _ rfl _ E7 rfl
    · exact step_e5 rfl 6 rfl (by kernel_rfl) _ _ rfl _ E6 rfl
    · exact step_sub5 TT rfl 15 16 0 1 _ _ rfl (by kernel_rfl) (by kernel_rfl) rfl rfl rfl
    · exact step_e5 rfl 7 rfl (by kernel_rfl) _ _ rfl _ E7 rfl
    · exact step_gl5 rfl 1 rfl _ CC rfl
    · exact step_mul5 rfl 18 19 3 4 _ _ rfl (by kernel_rfl) (by kernel_rfl) rfl rfl rfl
    · exact step_e5 rfl 6 rfl (by kernel_rfl) _ _ rfl _ E6 rfl
    · exact step_add5 rfl 20 21 5 6 _ _ rfl (by kernel_rfl) (by kernel_rfl) rfl rfl rfl
    · exact step_new5 rfl rfl rfl
    · exact step_new5 rfl rfl rfl
  intro vs2 q8 q9 W2 v8 v9 l8 l9 n89 n E8 E9
  replace EY := EY.up n
  replace TT := TT.up n
  replace SS := SS.up n
  replace II := II.up n
  replace RR := RR.up n
  replace TR := there_up (by omega) TR n
  replace N := nxt N n
  clear n n89 E6 E7 CC
  obtain ⟨x8, g8⟩ : ∃ e : Int, e = x7 - 1 := ⟨_, rfl⟩
  obtain ⟨x9, g9⟩ : ∃ e : Int, e = x7 * D + 1 := ⟨_, rfl⟩
  rw [← g8] at E8
  rw [← g9] at E9
  have hZ0 : pwZ D A = x8 * x9 ^ eInv := by rw [g8, g9, g7]; rfl
  simp only [puts, v8, v9, Act.put, List.setIfInBounds_toArray, List.set_cons_succ, List.set_cons_zero]
  clear v8 v9 g7 g8 g9
  go_upto_region 3 with fail
  refine region_newN_late 49 9 8 6 10 29 7 30 11 _ _ (fun i => [EM (x8), EM (x9), EM ((x9) ^ eInv), EM ((x8) * ((x9) ^ eInv)), TB [irV ((x8) * ((x9) ^ eInv))] (irB ((x8) * ((x9) ^ eInv))), TB [irV ((x8) * ((x9) ^ eInv))] (irB ((x8) * ((x9) ^ eInv))), EN [irV ((x8) * ((x9) ^ eInv))], Fact.eq (.bool (irB ((x8) * ((x9) ^ eInv)))), NB W2 5].getD i Fact.no) [irV ((x8) * ((x9) ^ eInv))] (.bool (irB ((x8) * ((x9) ^ eInv)))) (by kernel_rfl) rfl rfl rfl rfl rfl rfl i5 (Nat.zero_lt_succ _) rfl rfl (by kernel_rfl) (by kernel_rfl) (by kernel_rfl) rfl rfl rfl (by decide) (by decide) (by kernel_rfl) ?_ ?_ ?_
  · intro j d v u u' hw h
    obtain rfl : j = 5 := late_one (by kernel_rfl) hw
    exact h
  · intro i hi
    obtain rfl | rfl | rfl | rfl | rfl | rfl | rfl | rfl | rfl : i = 0 ∨ i = 1 ∨ i = 2 ∨ i = 3 ∨ i = 4 ∨ i = 5 ∨ i = 6 ∨ i = 7 ∨ i = 8 := by omega
    · exact step_e5 rfl 8 rfl (by kernel_rfl) _ _ rfl _ E8 rfl
    · exact step_e5 rfl 9 rfl (by kernel_rfl) _ _ rfl _ E9 rfl
    · exact step_inv5 SS II rfl 25 1 _ rfl (by kernel_rfl) rfl rfl
    · exact step_mul5 rfl 24 26 0 2 _ _ rfl (by kernel_rfl) (by kernel_rfl) rfl rfl rfl
    · exact step_root5 RR rfl 27 3 _ rfl (by kernel_rfl) rfl rfl
    · exact step_move rfl 28 4 (by exact Or.inl rfl) (by kernel_rfl) rfl
    · exact step_tx0 rfl 23 5 _ _ rfl (by kernel_rfl) rfl rfl
    · exact step_tx1 rfl 23 5 _ _ rfl (by kernel_rfl) rfl rfl
    · exact step_new5 rfl rfl rfl
  intro vs3 q10 W3 v10 b11 l10 n R10 T10
  have z3 := there_lt (by omega) TR
  replace EY := EY.up n
  replace TT := TT.up n
  replace TR := there_up (by omega) TR n
  have z2 := N.size
  replace N := nxt N n
  clear n E8 E9 SS II RR
  have E10 := R10.at0
  clear R10
  obtain ⟨Z, gZ⟩ : ∃ e : Int, e = x8 * x9 ^ eInv := ⟨_, rfl⟩
  rw [← gZ] at b11 E10 hZ0
  have hZ := hide hZ0
  clear gZ hZ0
  obtain ⟨x10, g10⟩ : ∃ e : Int, e = irV Z := ⟨_, rfl⟩
  rw [← g10] at E10
  have hW : q10 ≠ w.heap.size ∧ q10 ≠ w.heap.size + 1 := ⟨by omega, by omega⟩
  simp only [puts, v10, b11, Act.put, List.setIfInBounds_toArray, List.set_cons_succ, List.set_cons_zero]
  clear v10 b11
  cases odd with
  | false =>
    have hP := hide (show pwX D A false = x10 by unfold pwX; rw [hZ.out, ← g10]; rfl)
    clear g10
    obtain ⟨WW, hWW⟩ : ∃ W, W = W3 := ⟨_, rfl⟩
    rw [← hWW] at N TR E10 EY TT T10 ⊢
    clear hWW
    go_upto_region 6 with fail
    refine region_putN_asg 51 4 2 4 36 3 37 5 _ _ (fun i => [EM (x10), EM (A), EN [x10, A], Fact.eq (.bool (irB Z))].getD i Fact.no) [x10, A] (.bool (irB Z)) _ (by kernel_rfl) rfl rfl rfl rfl rfl rfl iA (Nat.zero_lt_succ _) (by kernel_rfl) rfl TR rfl rfl (by kernel_rfl) (by kernel_rfl) rfl rfl (by kernel_rfl) ?_ ?_
    · intro i hi
      obtain rfl | rfl | rfl | rfl : i = 0 ∨ i = 1 ∨ i = 2 ∨ i = 3 := by omega
      · exact step_e5 rfl 10 rfl (by kernel_rfl) _ _ rfl _ E10 rfl
      · exact step_e5 rfl 2 rfl (by kernel_rfl) _ _ rfl _ EY rfl
      · exact step_bA rfl 34 35 0 1 _ _ rfl (by kernel_rfl) (by kernel_rfl) rfl rfl rfl
      · exact step_mv rfl 11 rfl (by kernel_rfl) rfl rfl
    intro vs6 Wa Wb vb na bq RL nb
    have NS := nb w w.heap.size (nxt N na) (by omega)
    simp only [puts, vb, Act.put, List.setIfInBounds_toArray, List.set_cons_succ, List.set_cons_zero]
    clear vb bq nb na N TR E10 EY
    go_wp2
    obtain ⟨es, rg, _, ht⟩ := RL
    have lz := clN_len ht
    obtain ⟨fs, hfs⟩ := uA
    exact bodyPost_ret (v := .tuple #[agN es, .bool (irB Z)]) (results_cell_slot Tryd.results78 _ _ (w.heap.size + 1) (clN es) _ rfl rfl rg hfs rfl (by rw [lz]; exact iA)) rfl ⟨es, by rw [hZ.out], by rw [hP.out]; exact ht, NS⟩
  | true =>
    have hP := hide (show pwX D A true = 0 - x10 by unfold pwX; rw [hZ.out, ← g10]; rfl)
    clear g10
    go_upto_region 5 with fail
    refine region_put5 2 1 10 33 _ (fun i => [EM (x10), EM (0 - (x10))].getD i Fact.no) (0 - (x10)) _ (by kernel_rfl) rfl rfl rfl (by kernel_rfl) rfl T10 (by kernel_rfl) rfl ?_ ?_
    · intro i hi
      obtain rfl | rfl : i = 0 ∨ i = 1 := by omega
      · exact step_e5 rfl 10 rfl (by kernel_rfl) _ _ rfl _ E10 rfl
      · exact step_ngl TT rfl 32 0 _ rfl (by kernel_rfl) rfl rfl
    intro vs5 Wx WW n bq E10' nb
    replace EY := EY.but bq (Ne.symm hW.1)
    replace TR := there_but (by omega) TR bq (Ne.symm hW.2)
    have N' := nb w w.heap.size (nxt N n) (by omega)
    clear N n bq nb E10 T10
    have N := N'
    have E10 := E10'
    clear N' E10'
    simp only [puts, Act.put, List.setIfInBounds_toArray, List.set_cons_succ, List.set_cons_zero]
    go_upto_region 6 with fail
    refine region_putN_asg 51 4 2 4 36 3 37 5 _ _ (fun i => [EM (0 - x10), EM (A), EN [0 - x10, A], Fact.eq (.bool (irB Z))].getD i Fact.no) [0 - x10, A] (.bool (irB Z)) _ (by kernel_rfl) rfl rfl rfl rfl rfl rfl iA (Nat.zero_lt_succ _) (by kernel_rfl) rfl TR rfl rfl (by kernel_rfl) (by kernel_rfl) rfl rfl (by kernel_rfl) ?_ ?_
    · intro i hi
      obtain rfl | rfl | rfl | rfl : i = 0 ∨ i = 1 ∨ i = 2 ∨ i = 3 := by omega
      · exact step_e5 rfl 10 rfl (by kernel_rfl) _ _ rfl _ E10 rfl
      · exact step_e5 rfl 2 rfl (by kernel_rfl) _ _ rfl _ EY rfl
      · exact step_bA rfl 34 35 0 1 _ _ rfl (by kernel_rfl) (by kernel_rfl) rfl rfl rfl
      · exact step_mv rfl 11 rfl (by kernel_rfl) rfl rfl
    intro vs6 Wa Wb vb na bq RL nb
    have NS := nb w w.heap.size (nxt N na) (by omega)
    simp only [puts, vb, Act.put, List.setIfInBounds_toArray, List.set_cons_succ, List.set_cons_zero]
    clear vb bq nb na N TR E10 EY
    go_wp2
    obtain ⟨es, rg, _, ht⟩ := RL
    have lz := clN_len ht
    obtain ⟨fs, hfs⟩ := uA
    exact bodyPost_ret (v := .tuple #[agN es, .bool (irB Z)]) (results_cell_slot Tryd.results78 _ _ (w.heap.size + 1) (clN es) _ rfl rfl rg hfs rfl (by rw [lz]; exact iA)) rfl ⟨es, by rw [hZ.out], by rw [hP.out]; exact ht, NS⟩
end Go.Proofs.YtnaaanefndeafaaDoor

/-
  The form of a point as bytes: the program's form, its bytes, readForm.
-/
namespace Go.Proofs.YtnaaanefndeafaaDoor
set_option maxRecDepth 100000
open Go Go.RowKit

/-- Four words and a truth. -/
def fmC (W : Nat → Int) (b : Bool) : List Value := [.int .u64 (W 0), .int .u64 (W 1), .int .u64 (W 2), .int .u64 (W 3), .bool b]
def FmV (W : Nat → Int) (b : Bool) : Value := .agg (fmC W b).toArray
def FM (v : Int) (b : Bool) : Fact := ⟨fun x _ => ∃ W, x = FmV W b ∧ W4 W ∧ wval W = v, fun _ h => h⟩
def WF (v : Int) : Fact := ⟨fun x _ => ∃ W, x = ag4 W ∧ W4 W ∧ wval W = v, fun _ h => h⟩
theorem buF (W : Nat → Int) (b : Bool) (w : World) : (Instr.build 61 #[(0, ag4 W), (1, .bool b)]).run Tryd.prog w = .ok (FmV W b) w := by kernel_rfl
theorem iF : (Tryd.prog.info? 61).map (·.size) = some 5 := by kernel_rfl
theorem uF : ∃ fs, Tryd.prog.underlying 61 = some (.struct fs) := ⟨_, Tryd.underlying61⟩
theorem fmC_one (W : Nat → Int) (b : Bool) : (fmC W b).toArray.all (·.oneCell') = true := by simp [fmC, Value.oneCell']
section
variable {ops : Array Oper} {Q : Exit → Act → World → Prop} {md : Region.Mode} {F : Nat → Fact} {a0 : Act} {w0 : World} {i : Nat} {o : Oper} {ts : Array TypeId}
theorem step_words (hi : ops[i]? = some o) (p j : Nat) (A : Int) (hop : o.op = .call { callee := .value (.func 80), args := #[.tmp p], argTypes := ts })
    (hj : waits md ops i j p = true) (hFj : F j = EM A) (hFi : F i = WF (A % PP)) : StepOk Tryd.prog md ops Q F a0 w0 i := by
  refine step_call hi _ _ ts hop (by kernel_rfl) fun a w _ hw hF => ?_
  have ea := hF j p hj
  rw [hFj] at ea
  obtain ⟨t, e1, L1, V1⟩ := ea
  show Calls Tryd.prog 80 #[a.tmps.getD p undef] w _
  rw [e1]
  refine (words_any w t L1).mono ?_
  rintro r w' ⟨rfl, hn⟩
  rw [hFi]
  have k := lw_ok L1
  exact ⟨_, rfl, hn, lw t, rfl, k.2, k.1.trans V1⟩
theorem step_even (hi : ops[i]? = some o) (p j : Nat) (A : Int) (hop : o.op = .call { callee := .value (.func 81), args := #[.tmp p], argTypes := ts })
    (hj : waits md ops i j p = true) (hFj : F j = EM A) (hFi : F i = Fact.eq (.bool (decide (A % PP % 2 = 0)))) : StepOk Tryd.prog md ops Q F a0 w0 i := by
  refine step_call hi _ _ ts hop (by kernel_rfl) fun a w _ hw hF => ?_
  have ea := hF j p hj
  rw [hFj] at ea
  obtain ⟨t, e1, L1, V1⟩ := ea
  show Calls Tryd.prog 81 #[a.tmps.getD p undef] w _
  rw [e1]
  refine (isEven_any w t L1).mono ?_
  rintro r w' ⟨rfl, hn⟩
  rw [hFi, V1]
  exact ⟨_, rfl, hn, rfl⟩
theorem step_bF (hi : ops[i]? = some o) (p q j k : Nat) (v : Int) (b : Bool) (hop : o.op = .build 61 #[(0, .tmp p), (1, .tmp q)])
    (hj : waits md ops i j p = true) (hk : waits md ops i k q = true) (hFj : F j = WF v) (hFk : F k = Fact.eq (.bool b)) (hFi : F i = FM v b) : StepOk Tryd.prog md ops Q F a0 w0 i := by
  refine step_pure hi fun a w _ _ hf => ?_
  have h1 := hf j p hj
  have h2 := hf k q hk
  rw [hFj] at h1
  rw [hFk] at h2
  obtain ⟨W, e1, X⟩ := h1
  refine ⟨FmV W b, ?_, by rw [hFi]; exact ⟨W, rfl, X⟩⟩
  have g1 : a.eval (.tmp p) = ag4 W := e1
  have g2 : a.eval (.tmp q) = .bool b := h2
  have g : (#[(0, Operand.tmp p), (1, Operand.tmp q)].map fun (n, x) => (n, a.eval x)) = #[(0, ag4 W), (1, .bool b)] := by simp [g1, g2]
  simp only [execOp, hop, g]
  rw [Sem.run_bind, buF]
  rfl
end
section
variable {ops : Array Oper} {Q : Exit → Act → World → Prop} {a0 : Act} {w : World} {id : Nat} {draw : Bool}
theorem region_putF (k jV pD pV : Nat) (o : Oper) (F : Nat → Fact) (v : Int) (b : Bool) (q : Nat) (hT : textOk .any ops a0.tmps.size k = true) (hk : ops[k]? = some o) (hd : o.dst = none) (hop : o.op = .store 61 (.tmp pD) (.tmp pV))
    (hp : apart ops pD = true) (h0 : a0.tmps.getD pD undef = .pointer (some ⟨q, 0, none⟩)) (ht : w.there q 0 5) (wV : writes ops jV pV = true) (FV : F jV = FM v b) (steps : ∀ i, i < k → StepOk Tryd.prog .any ops Q F a0 w i)
    (fin : ∀ (vs : Nat → Value) (W W' : World) (u : Nat → Int), Below w.heap.size w W → W'.rangeAt q 0 (fmC u b) → W4 u → wval u = v → (∀ (w1 : World) (B : Nat), Below B w1 W → B ≤ q → Below B w1 W') → Q .normal (puts vs a0 ops.toList) W') :
    (Code.region id ops draw).wp Tryd.prog Q a0 w := by
  refine region_store k o F (by kernel_rfl) hT hk hd steps fun a W hb hw hF => ?_
  have h2 := hF jV pV wV
  rw [FV] at h2
  obtain ⟨u, ev, hu, hv⟩ := h2
  have th := there_up (by omega) ht hw
  refine wp_store_mid 61 (.tmp pD) (.tmp pV) hop q 0 (fmC u b).toArray ((based_at hb pD hp).trans h0) ev th iF (fmC_one u b) ?_
  obtain ⟨vs, hvs⟩ : ∃ vs : Nat → Value, ∀ d, a.tmps.getD d undef = vs d := ⟨_, fun _ => rfl⟩
  rw [hd]
  show Q .normal a _
  rw [puts_of hT rfl hb vs hvs]
  exact fin vs W _ u hw (World.rangeAt_setCells_same W q 0 _ th) hu hv (fun w1 B n hB => below_setCells hB _ _ _ n)
end
abbrev zF : Obj := .cells #[.int .u64 0, .int .u64 0, .int .u64 0, .int .u64 0, .bool false] 61
set_option maxHeartbeats 2000000 in
theorem form_any (w : World) (es : List (Nat → Int)) (X Y : Int) (hes : IsN es [X, Y]) :
    Calls Tryd.prog 36 #[agN es] w fun r w' => ∃ u, r = .returned (FmV u (!decide (X % PP % 2 = 0))) ∧ W4 u ∧ wval u = Y % PP ∧ Below w.heap.size w w' := by
  show Calls Tryd.prog 36 #[.agg (clN es).toArray] w _
  have H0 := rowN_new w 51 hes
  have m0 : Below w.heap.size w (w.alloc (.cells (clN es).toArray 51)) := (Below.refl _ _).alloc (Nat.le_refl _) _
  have s0 : (w.alloc (.cells (clN es).toArray 51)).heap.size = w.heap.size + 1 := by simp
  obtain ⟨V0, hV0⟩ : ∃ V, V = (clN es).toArray := ⟨_, rfl⟩
  rw [← hV0] at H0 m0 s0 ⊢
  clear hV0 hes
  go_enter Tryd.func36, Tryd.ntmps36
  go_upto_region 1 with fail
  generalize w.alloc (.cells V0 51) = wa0 at *
  have TR : (wa0.alloc zF).there wa0.heap.size 0 5 := there_new wa0 _ _
  have mz : Below wa0.heap.size wa0 (wa0.alloc zF) := (Below.refl _ _).alloc (Nat.le_refl _) _
  rw [s0] at TR
  have P0 := H0.up mz
  have N := nxt m0 mz
  clear H0 m0 s0 mz
  obtain ⟨wr, hwr⟩ : ∃ W, W = wa0.alloc zF := ⟨_, rfl⟩
  rw [← hwr] at TR N P0
  change Code.wp _ _ _ _ (wa0.alloc zF)
  rw [← hwr]
  clear hwr
  refine region_putF 8 7 2 10 _ (fun i => [Fact.eq (.pointer (some ⟨w.heap.size, 5, none⟩)), EM (Y), WF (Y % PP), Fact.eq (.pointer (some ⟨w.heap.size, 0, none⟩)), EM (X), Fact.eq (.bool (decide (X % PP % 2 = 0))), Fact.eq (.bool (!(decide (X % PP % 2 = 0)))), FM (Y % PP) (!decide (X % PP % 2 = 0))].getD i Fact.no) (Y % PP) (!decide (X % PP % 2 = 0)) _ (by kernel_rfl) rfl rfl rfl (by kernel_rfl) rfl TR (by kernel_rfl) rfl ?_ ?_
  · intro i hi
    obtain rfl | rfl | rfl | rfl | rfl | rfl | rfl | rfl : i = 0 ∨ i = 1 ∨ i = 2 ∨ i = 3 ∨ i = 4 ∨ i = 5 ∨ i = 6 ∨ i = 7 := by omega
    · exact step_fld rfl 51 1 1 rfl (by kernel_rfl) _ _ rfl (fyA _) rfl
    · exact step_e5f rfl 3 0 rfl (by kernel_rfl) _ _ rfl _ P0.tail.at0 rfl
    · exact step_words rfl 4 1 _ rfl (by kernel_rfl) rfl rfl
    · exact step_fld rfl 51 1 0 rfl (by kernel_rfl) _ _ rfl (fxA _) rfl
    · exact step_e5f rfl 6 3 rfl (by kernel_rfl) _ _ rfl _ P0.at0 rfl
    · exact step_even rfl 7 4 _ rfl (by kernel_rfl) rfl rfl
    · exact step_notb rfl 8 5 rfl (by kernel_rfl) rfl rfl
    · exact step_bF rfl 5 9 2 6 _ _ rfl (by kernel_rfl) (by kernel_rfl) rfl rfl rfl
  intro vs W W' u n rg hu hv nb
  have z := N.size
  have NS := nb w w.heap.size (nxt N n) (by omega)
  simp only [puts, Act.put, List.setIfInBounds_toArray, List.set_cons_succ, List.set_cons_zero]
  clear n nb N TR P0
  obtain ⟨fs, hfs⟩ := uF
  go_wp2
  exact bodyPost_ret (v := FmV u (!decide (X % PP % 2 = 0))) (results_cell_mid Tryd.results36 _ _ (w.heap.size + 1) (fmC u _) _ rfl rg hfs rfl iF) rfl ⟨u, rfl, hu, hv, NS⟩
theorem or63 (x : Int) (h0 : 0 ≤ x) (h1 : x < 9223372036854775808) : bits BinOp.or IntKind.u64 x 9223372036854775808 = x + 9223372036854775808 := by
  have h := or64 x 1 63 9223372036854775808 (by decide) h0 h1 (by omega) (by omega) (by omega)
  simpa [Int.add_comm] using h
/-- The words with the mark of an odd x. -/
def mkW (u : Nat → Int) (b : Bool) (j : Nat) : Int := if j = 3 ∧ b = true then u 3 + 9223372036854775808 else u j
set_option maxHeartbeats 4000000 in
theorem formBytes_any (w : World) (u : Nat → Int) (b : Bool) (hu : W4 u) (h3 : u 3 < 9223372036854775808) :
    Calls Tryd.prog 37 #[FmV u b] w fun r w' => NewRow w.heap.size w' r .u8 (fill (byt (wval (mkW u b))) 32) ∧ Below w.heap.size w w' := by
  have b3 := hu 3 (by omega)
  have e3 := or63 (u 3) b3.1 h3
  have hM : W4 (mkW u b) := fun j hj => by
    have := hu j hj
    unfold mkW
    split
    · rename_i c
      obtain ⟨rfl, _⟩ := c
      omega
    · exact this
  have WB := hide (fun w => wordsBytes_any w (mkW u b) hM)
  show Calls Tryd.prog 37 #[.agg #[.int .u64 (u 0), .int .u64 (u 1), .int .u64 (u 2), .int .u64 (u 3), .bool b]] w _
  have al1 : Below w.heap.size w (w.alloc (.cells #[.int .u64 (u 0), .int .u64 (u 1), .int .u64 (u 2), .int .u64 (u 3), .bool b] 61)) := (Below.refl _ _).alloc (Nat.le_refl _) _
  cases b
  all_goals
    go_enter Tryd.func37, Tryd.ntmps37
    go_wp2_with fail
    refine (WB.out _).mono ?_
    rintro r w3 ⟨rfl, B3, n3⟩
    have N3 := nxt (al1.alloc (by simp) _) n3
    rw [show ∀ a b : Obj, ((w.alloc a).alloc b).heap.size = w.heap.size + 1 + 1 from fun a b => by simp] at B3
    have z := B3.lt
    clear WB n3 hM
    go_wp2
    go_ret
    have l32 : ∀ f : Nat → Int, (fill f 32).length = 32 := fun f => fill_len f 32
    exact ⟨⟨_, 32, _, by rw [l32]; rfl, B3.own0, (fun h => by cases h), by rw [l32]; omega, by omega⟩, N3⟩
/-- The words without the highest bit. -/
def loW (u : Nat → Int) (j : Nat) : Int := if j = 3 then u 3 % 9223372036854775808 else u j
theorem and63 (x : Int) (h0 : 0 ≤ x) (h1 : x < 18446744073709551616) : bits BinOp.and IntKind.u64 x 9223372036854775808 = if 9223372036854775808 ≤ x then 9223372036854775808 else 0 := by
  obtain ⟨m, rfl⟩ := Int.eq_ofNat_of_zero_le h0
  have h := bits_and_u64_nat m 9223372036854775808 (by omega) (by omega)
  have e : m &&& 9223372036854775808 = if 9223372036854775808 ≤ m then 9223372036854775808 else 0 := by
    have k : (9223372036854775808 : Nat) = 2 ^ 63 := by decide
    have hm : m < 2 ^ 64 := by omega
    rw [k]
    apply Nat.eq_of_testBit_eq
    intro i
    rw [Nat.testBit_and, Nat.testBit_two_pow]
    by_cases c : 2 ^ 63 ≤ m
    · rw [if_pos c, Nat.testBit_two_pow]
      by_cases d : 63 = i
      · subst d
        have : m / 2 ^ 63 = 1 := by omega
        rw [Nat.testBit_eq_decide_div_mod_eq, this]
        simp
      · simp [d]
    · rw [if_neg c, Nat.zero_testBit]
      by_cases d : 63 = i
      · subst d
        have : m / 2 ^ 63 = 0 := by omega
        rw [Nat.testBit_eq_decide_div_mod_eq, this]
        simp
      · simp [d]
  rw [e] at h
  refine (by simpa using h : _ = _).trans ?_
  by_cases c : 9223372036854775808 ≤ m
  · rw [if_pos c, if_pos (by omega)]
    rfl
  · rw [if_neg c, if_neg (by omega)]
    rfl
set_option maxHeartbeats 4000000 in
theorem readForm_any (w : World) (g : Nat) (a : Option Addr) (cap : Nat) (xs : List Int) (hr : Rd w g a .u8 xs) (hb : Byt xs) (hl : xs.length = 32) :
    Calls Tryd.prog 77 #[.slice a 32 cap] w fun r w' => ∃ u, r = .returned (FmV (loW u) (decide (9223372036854775808 ≤ u 3))) ∧ W4 u ∧ u = wv (fun j => xs.getD j 0) 32 ∧ Below w.heap.size w w' := by
  have al1 : Below w.heap.size w (w.alloc zF) := (Below.refl _ _).alloc (Nat.le_refl _) _
  have s1 : (w.alloc zF).heap.size = w.heap.size + 1 := by simp
  have TR : (w.alloc zF).there w.heap.size 0 5 := there_new w _ _
  have RW' := hide (fun w' n => readWords_any w' g a cap xs (hr.up n) hb hl)
  have hW : W4 (wv (fun j => xs.getD j 0) 32) := fun j _ => wv_lt hb 32 j
  clear hl
  go_enter Tryd.func77, Tryd.ntmps77
  go_wp2_with fail
  change Calls _ _ _ (w.alloc zF) _
  generalize w.alloc zF = wa at *
  refine (RW'.out wa al1).mono ?_
  rintro r w1 ⟨rfl, n1⟩
  obtain ⟨u, hu⟩ : ∃ u, u = wv (fun j => xs.getD j 0) 32 := ⟨_, rfl⟩
  rw [← hu] at hW ⊢
  have hU := hide hu
  clear hu RW' hr hb
  have b3 := hW 3 (by omega)
  have e1 := and63 (u 3) b3.1 b3.2
  have e2 := and_not63 (u 3) b3.1 b3.2
  have N := nxt al1 n1
  replace TR := there_up (by omega) TR n1
  have z1 := N.size
  have z2 := there_lt (by omega) TR
  clear n1 al1 s1
  obtain ⟨x0, c0⟩ := Option.isSome_iff_exists.1 (TR 0 (by omega)).1
  obtain ⟨x1, c1⟩ := Option.isSome_iff_exists.1 (TR 1 (by omega)).1
  obtain ⟨x2, c2⟩ := Option.isSome_iff_exists.1 (TR 2 (by omega)).1
  obtain ⟨x3, c3⟩ := Option.isSome_iff_exists.1 (TR 3 (by omega)).1
  obtain ⟨x4, c4⟩ := Option.isSome_iff_exists.1 (TR 4 (by omega)).1
  have f0 := (TR 0 (by omega)).2
  have f1 := (TR 1 (by omega)).2
  have f2 := (TR 2 (by omega)).2
  have f3 := (TR 3 (by omega)).2
  have f4 := (TR 4 (by omega)).2
  simp only [Nat.zero_add] at c0 c1 c2 c3 c4 f0 f1 f2 f3 f4
  obtain ⟨fs, hfs⟩ := uF
  have RG : ∀ (b : Bool) (ob : Obj), ((w1.setCells w.heap.size 0 (fmC (loW u) b)).alloc ob).rangeAt w.heap.size 0 (fmC (loW u) b) := fun b ob j v hv => by
    have rg := World.rangeAt_setCells_same w1 w.heap.size 0 (fmC (loW u) b) TR
    have n : Below (w1.setCells w.heap.size 0 (fmC (loW u) b)).heap.size (w1.setCells w.heap.size 0 (fmC (loW u) b)) ((w1.setCells w.heap.size 0 (fmC (loW u) b)).alloc ob) := (Below.refl _ _).alloc (Nat.le_refl _) _
    exact (n.cell (p := ⟨w.heap.size, 0 + j, none⟩) (by rw [heap_size_setCells]; exact z2)).trans (rg j v hv)
  have RG' := hide RG
  clear TR RG
  by_cases c : 9223372036854775808 ≤ u 3
  · have D := hide (decide_eq_true c)
    simp only [c, if_true] at e1
    simp only [ag4]
    go_wp2
    exact bodyPost_ret (v := FmV (loW u) true) (results_cell_mid Tryd.results77 _ _ w.heap.size (fmC (loW u) true) _ rfl (RG'.out true _) hfs rfl iF) rfl ⟨u, by rw [D.out], hW, hU.out, (below_set5 N (Nat.le_refl _) _ _ _ _ _).alloc (by simp; omega) _⟩
  · have D := hide (decide_eq_false c)
    simp only [c, if_false] at e1
    simp only [ag4]
    go_wp2
    exact bodyPost_ret (v := FmV (loW u) false) (results_cell_mid Tryd.results77 _ _ w.heap.size (fmC (loW u) false) _ rfl (RG'.out false _) hfs rfl iF) rfl ⟨u, by rw [D.out], hW, hU.out, (below_set5 N (Nat.le_refl _) _ _ _ _ _).alloc (by simp; omega) _⟩
end Go.Proofs.YtnaaanefndeafaaDoor
