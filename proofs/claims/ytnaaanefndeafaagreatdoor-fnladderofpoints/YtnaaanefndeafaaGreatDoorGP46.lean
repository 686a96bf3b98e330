import Derived.Test.YtnaaanefndeafaaGreatDoorGP45
import Derived.Test.YtnaaanefndeafaaGreatDoorGP44
import Derived.Test.YtnaaanefndeafaaGreatDoorGP43
import Derived.Test.YtnaaanefndeafaaGreatDoorLCan
import Derived.Test.YtnaaanefndeafaaGreatDoorAdd
import Derived.Test.YtnaaanefndeafaaGreatDoorGP38
import Derived.Deep.RegionWith
import Derived.Deep.DeepCutAuto
import Derived.Test.YtnaaanefndeafaaGreatDoorS1
import Derived.Test.YtnaaanefndeafaaGreatDoorGP39
import Derived.Test.YtnaaanefndeafaaGreatDoorGP37
import Derived.Test.YtnaaanefndeafaaGreatDoorGP40
import Derived.Test.YtnaaanefndeafaaGreatDoorGP42
import Derived.Test.YtnaaanefndeafaaGreatDoorDr
import Derived.Test.YtnaaanefndeafaaGreatDoorGP41
import Derived.Test.YtnaaanefndeafaaGreatDoorS2
import Derived.Test.YtnaaanefndeafaaGreatDoorRows
import Derived.Lib.LaidTab
import Derived.Lib.LaidU8
import Derived.LaidMore
import Derived.Deep.QuietTactic
import Derived.BigQuiet
import Derived.Test.YtnaaanefndeafaaGreatDoorBase
import Derived.Laws.AppendOwnNone
import Derived.Lib.AppendZeros
import Derived.Deep.MidRow

/-
  The model's PointBase.
-/
namespace Go.Proofs.YtnaaanefndeafaaGreatDoor
set_option maxRecDepth 100000
open Go Go.RowKit

set_option maxHeartbeats 2000000 in
theorem specBase_any (w : World) : Calls Tryz.prog 60 #[] w fun r w' => NewPt w.heap.size w' r (liX (4 * iv 5) false) (liY (4 * iv 5) false) ∧ Below w.heap.size w w' := by
  have TZ : Two (w.alloc pObj) w.heap.size (.slice none 0 0) (.slice none 0 0) := Two.new w (.slice none 0 0) (.slice none 0 0) 37
  have N : Below w.heap.size w (w.alloc pObj) := (Below.refl _ _).alloc (Nat.le_refl _) _
  go_enter Tryz.func60, Tryz.ntmps60
  go_upto_region 1 with fail
  change Code.wp _ _ _ _ (w.alloc pObj)
  generalize w.alloc pObj = wr at *
  go_wp2_with fail
  refine (l2SmallB_any wr 4 (by omega)).mono ?_
  rintro r w1 ⟨t4, rfl, L4, V4, n⟩
  replace TZ := TZ.up n
  replace N := nxt N n
  clear n
  go_wp2_with fail
  refine (l2SmallB_any w1 5 (by omega)).mono ?_
  rintro r w2 ⟨t5, rfl, L5, V5, n⟩
  replace TZ := TZ.up n
  replace N := nxt N n
  clear n
  go_wp2_with fail
  refine (l2Inv_any w2 t5 L5).mono ?_
  rintro r w3 ⟨t6, rfl, L6, V6, n⟩
  replace TZ := TZ.up n
  replace N := nxt N n
  clear n
  go_wp2_with fail
  refine (l2Mul_any w3 t4 t6 L4 L6).mono ?_
  rintro r w4 ⟨t7, rfl, L7, V7, n⟩
  replace TZ := TZ.up n
  replace N := nxt N n
  clear n
  have V : s16 t7 16 % PP = 4 * iv 5 % PP := by
    rw [V7]
    exact mod_mul V4 (V6.trans (pow_mod V5 _))
  have z4 := TZ.lt
  have LF := hide (l5Lift_any w4 t7 (4 * iv 5) ⟨L7, V⟩ false)
  clear V4 V5 V6 V7 V L4 L5 L6 L7
  obtain ⟨X, hX⟩ : ∃ X, X = liX (4 * iv 5) false := ⟨_, rfl⟩
  obtain ⟨Y, hY⟩ : ∃ Y, Y = liY (4 * iv 5) false := ⟨_, rfl⟩
  rw [← hX, ← hY] at LF
  have KX := hide hX
  have KY := hide hY
  clear hX hY
  generalize liB (4 * iv 5) false = bb at *
  go_wp2_with fail
  refine LF.out.mono ?_
  rintro r w5 ⟨⟨a1, a2, c1, c2, g1, g2, rfl, o1, o2, l1, l2⟩, n⟩
  replace TZ := TZ.up n
  have z := N.size
  have zz := TZ.lt
  replace N := nxt N n
  clear n LF
  have TN := Two.new w5 (.slice a1 X.length c1) (.slice a2 Y.length c2) 37
  have m : Below w5.heap.size w5 (w5.alloc (.cells #[.slice a1 X.length c1, .slice a2 Y.length c2] 37)) := (Below.refl _ _).alloc (Nat.le_refl _) _
  go_upto_region 2 with fail
  generalize w5.alloc (.cells #[.slice a1 X.length c1, .slice a2 Y.length c2] 37) = w6 at *
  obtain ⟨p0, p1, _, _⟩ := TN
  obtain ⟨y0, y1, f0, f1⟩ := TZ.up m
  replace N := nxt N m
  replace o1 := o1.up m
  replace o2 := o2.up m
  have O := (Only.setCell w6 w.heap.size 0 (.slice a1 X.length c1)).trans (Only.setCell _ w.heap.size 1 (.slice a2 Y.length c2))
  have o1' := o1.only O (fun _ => by omega)
  have o2' := o2.only O (fun _ => by omega)
  have N' := N.trans (O.below (Nat.le_refl _))
  clear TZ m o1 o2 O N
  go_wp2
  refine bodyPost_ret (v := .agg #[.slice a1 X.length c1, .slice a2 Y.length c2]) (by simp [results, Tryz.results60, go_sem, y0, y1]) rfl ⟨?_, N'⟩
  rw [← KX.out, ← KY.out]
  exact ⟨a1, a2, c1, c2, g1, g2, rfl, o1', o2', by omega, by omega⟩
end Go.Proofs.YtnaaanefndeafaaGreatDoor

/-
  The model's PointDecode.
-/
namespace Go.Proofs.YtnaaanefndeafaaGreatDoor
set_option maxRecDepth 100000
open Go Go.RowKit

def low7s (xs : List Int) : List Int := xs.set 31 (xs.getD 31 0 % 128)
def dcB (xs : List Int) : Bool := decide (xs.length = 32) && (canN (low7s xs) && liB (num (low7s xs)) (decide (128 ≤ xs.getD 31 0)))
def dcX (xs : List Int) : List Int := if dcB xs = true then liX (num (low7s xs)) (decide (128 ≤ xs.getD 31 0)) else []
def dcY (xs : List Int) : List Int := if dcB xs = true then liY (num (low7s xs)) (decide (128 ≤ xs.getD 31 0)) else []
def NewPR (B : Nat) (w' : World) (e : Ending) (b : Bool) (xs ys : List Int) : Prop :=
  ∃ (a a' : Option Addr) (c c' g g' : Nat), e = .returned (.agg #[.bool b, .slice a xs.length c, .slice a' ys.length c']) ∧ Own w' g a .u8 xs ∧ Own w' g' a' .u8 ys ∧ B ≤ g ∧ B ≤ g'
theorem newPR_nil {B : Nat} {w : World} : NewPR B w (.returned (.agg #[.bool false, .slice none 0 0, .slice none 0 0])) false [] [] := ⟨none, none, 0, 0, B, B, rfl, Own.nil _ _ _ _, Own.nil _ _ _ _, Nat.le_refl _, Nat.le_refl _⟩
/-- What was lifted, as it is answered. -/
def LiF (w0 : World) (A : Int) (odd : Bool) : Fact := ⟨fun v w => ∃ (a a' : Option Addr) (c c' g g' : Nat), v = .tuple #[.bool (liB A odd), .agg #[.slice a (liX A odd).length c, .slice a' (liY A odd).length c']] ∧ Own w g a .u8 (liX A odd) ∧ Own w g' a' .u8 (liY A odd) ∧ w0.heap.size ≤ g ∧ w0.heap.size ≤ g', fun n h => by
  obtain ⟨a, a', c, c', g, g', e, o, o', q⟩ := h
  exact ⟨a, a', c, c', g, g', e, o.up n, o'.up n, q⟩⟩
/-- A point's block made in the region, still empty. -/
def NBp (w0 : World) : Fact := ⟨fun v w => ∃ q, v = .pointer (some ⟨q, 0, none⟩) ∧ w.heap[q]? = some pObj ∧ w0.heap.size ≤ q, fun {v w w'} n h => by
  obtain ⟨q, e, h, l⟩ := h
  exact ⟨q, e, (n.block q (Array.getElem?_eq_some_iff.1 h).1).trans h, l⟩⟩
theorem pObj_there {W : World} {q : Nat} (h : W.heap[q]? = some pObj) : W.there q 0 2 := fun j hj => by
  constructor
  · unfold World.cell?
    simp only
    rw [h]
    obtain rfl | rfl : j = 0 ∨ j = 1 := by omega
    all_goals rfl
  · unfold World.frozen?
    simp only
    rw [h]
    simp
theorem own_ne {W : World} {q g : Nat} {a : Option Addr} {xs : List Int} (h : W.heap[q]? = some pObj) (o : Own W g a .u8 xs) (h0 : 0 < xs.length) : g ≠ q := fun e => by
  obtain ⟨off, _, hc⟩ := o h0
  have c := (hc 0 h0).1
  subst e
  unfold World.cell? at c
  simp only at c
  rw [h] at c
  rcases (show off = 0 ∨ off = 1 ∨ 2 ≤ off by omega) with r | r | r
  · subst r
    simp at c
  · subst r
    simp at c
  · have : ([Value.slice none 0 0, .slice none 0 0].toArray)[off + 0]? = none := by simp; omega
    simp only [this] at c
    simp at c
theorem en_lift : enters Tryz.prog 117 = true := by kernel_rfl
section
variable {ops : Array Oper} {Q : Exit → Act → World → Prop} {md : Region.Mode} {F : Nat → Fact} {a0 : Act} {w0 : World} {i : Nat} {o : Oper} {ts : Array TypeId}
theorem step_mvp {P : Program} (hi : ops[i]? = some o) (p : Nat) (hop : o.op = .move (.tmp p)) (hp : apart ops p = true) {v : Value} (h0 : a0.tmps.getD p undef = v) (hF : F i = Fact.eq v) : StepOk P md ops Q F a0 w0 i := by
  refine step_pure hi fun b w hb hw _ => ⟨v, ?_, by rw [hF]; exact rfl⟩
  have e := (based_at hb p hp).trans h0
  simp [execOp, hop, e]
theorem step_of32 (hi : ops[i]? = some o) (p j : Nat) {a : Option Addr} {c : Nat} {xs : List Int} (hop : o.op = .call { callee := .value (.func 84), args := #[.tmp p], argTypes := ts })
    (hj : waits md ops i j p = true) (hO : OfOk w0 a xs) (hFj : F j = Fact.eq (.slice a 32 c)) (hFi : F i = EL (num xs)) : StepOk Tryz.prog md ops Q F a0 w0 i := by
  have hl : xs.length = 32 := by obtain ⟨_, _, _, h⟩ := hO; exact h
  exact step_of hi p j hop hj hO (hFj.trans (by rw [hl])) hFi
theorem step_at31 (hi : ops[i]? = some o) (p j : Nat) {g off c : Nat} (hop : o.op = .indexAddr 22 (.tmp p) (.const (.int .i64 31))) (hj : waits md ops i j p = true) (hFj : F j = Fact.eq (.slice (some ⟨g, off, none⟩) 32 c)) (hF : F i = Fact.eq (.pointer (some ⟨g, off + 31, none⟩))) : StepOk Tryz.prog md ops Q F a0 w0 i := by
  refine step_pure hi fun a w hb hw hf => ⟨.pointer (some ⟨g, off + 31, none⟩), ?_, by rw [hF]; exact rfl⟩
  have e := hf j p hj
  rw [hFj] at e
  have e' : a.eval (.tmp p) = .slice (some ⟨g, off, none⟩) 32 c := e
  have e2 : a.eval (.const (.int .i64 31)) = .int .i64 31 := rfl
  simp only [execOp, hop, e', e2]
  go_simp
theorem step_ld8 (hi : ops[i]? = some o) (p j : Nat) {q off : Nat} {v : Value} (hop : o.op = .load 5 (.tmp p)) (hj : waits md ops i j p = true) (hFj : F j = Fact.eq (.pointer (some ⟨q, off, none⟩))) (hc : w0.cell? ⟨q, off, none⟩ = some v) (hF : F i = Fact.eq v) : StepOk Tryz.prog md ops Q F a0 w0 i := by
  refine step_pure hi fun a w _ hw hf => ⟨v, ?_, by rw [hF]; exact rfl⟩
  have e := hf j p hj
  rw [hFj] at e
  have e' : a.eval (.tmp p) = .pointer (some ⟨q, off, none⟩) := e
  have c' : w.cell? ⟨q, off, none⟩ = some v := (hw.cell (block_lt_of_cell hc)).trans hc
  simp only [execOp, hop, e']
  go_simp
theorem step_geq (hi : ops[i]? = some o) (p j : Nat) {v : Int} {b : Bool} (hop : o.op = .binOp .geq 5 (.tmp p) (.const (.int .u8 128)) 5) (hj : waits md ops i j p = true) (hFj : F j = Fact.eq (.int .u8 v)) (hb : b = decide (128 ≤ v)) (hF : F i = Fact.eq (.bool b)) : StepOk Tryz.prog md ops Q F a0 w0 i := by
  refine step_pure hi fun a w _ hw hf => ⟨.bool b, ?_, by rw [hF]; exact rfl⟩
  have e := hf j p hj
  rw [hFj] at e
  have e' : a.eval (.tmp p) = .int .u8 v := e
  have e2 : a.eval (.const (.int .u8 128)) = .int .u8 128 := rfl
  subst hb
  simp only [execOp, hop, e', e2]
  go_simp
theorem step_lift (hi : ops[i]? = some o) (p q j k : Nat) {A : Int} {odd : Bool} (hop : o.op = .call { callee := .value (.func 117), args := #[.tmp p, .tmp q], argTypes := ts })
    (hj : waits md ops i j p = true) (hk : waits md ops i k q = true) (hFj : F j = EL A) (hFk : F k = Fact.eq (.bool odd)) (hFi : F i = LiF w0 A odd) : StepOk Tryz.prog md ops Q F a0 w0 i := by
  refine step_call hi _ _ ts hop en_lift fun a w _ hw hF => ?_
  have ea := hF j p hj
  have eb := hF k q hk
  rw [hFj] at ea
  rw [hFk] at eb
  obtain ⟨t, e1, L1, V1⟩ := ea
  have e2 : a.tmps.getD q undef = .bool odd := eb
  show Calls Tryz.prog 117 #[a.tmps.getD p undef, a.tmps.getD q undef] w _
  rw [e1, e2]
  refine (l5Lift_any w t A ⟨L1, V1⟩ odd).mono ?_
  rintro r w' ⟨⟨b, b', c, c', g, g', rfl, o1, o2, l1, l2⟩, hn⟩
  rw [hFi]
  exact ⟨_, rfl, hn, b, b', c, c', g, g', rfl, o1, o2, Nat.le_trans hw.size l1, Nat.le_trans hw.size l2⟩
theorem step_exL0 {P : Program} (hi : ops[i]? = some o) (p j : Nat) {A : Int} {odd : Bool} (hop : o.op = .extract (.tmp p) 0) (hj : waits md ops i j p = true) (hFj : F j = LiF w0 A odd) (hFi : F i = Fact.eq (.bool (liB A odd))) : StepOk P md ops Q F a0 w0 i := by
  refine step_pure hi fun a w _ _ hf => ⟨.bool (liB A odd), ?_, by rw [hFi]; exact rfl⟩
  have e := hf j p hj
  rw [hFj] at e
  obtain ⟨b, b', c, c', g, g', e, _⟩ := e
  have e' : a.eval (.tmp p) = .tuple #[.bool (liB A odd), .agg #[.slice b (liX A odd).length c, .slice b' (liY A odd).length c']] := e
  simp only [execOp, hop, e']
  rfl
theorem step_exL1 {P : Program} (hi : ops[i]? = some o) (p j : Nat) {A : Int} {odd : Bool} (hop : o.op = .extract (.tmp p) 1) (hj : waits md ops i j p = true) (hFj : F j = LiF w0 A odd) (hFi : F i = PT w0 (fun xs zs => xs = liX A odd ∧ zs = liY A odd)) : StepOk P md ops Q F a0 w0 i := by
  refine step_pure hi fun a w _ _ hf => ?_
  have e := hf j p hj
  rw [hFj] at e
  obtain ⟨b, b', c, c', g, g', e, o1, o2, l1, l2⟩ := e
  have e' : a.eval (.tmp p) = .tuple #[.bool (liB A odd), .agg #[.slice b (liX A odd).length c, .slice b' (liY A odd).length c']] := e
  refine ⟨.agg #[.slice b (liX A odd).length c, .slice b' (liY A odd).length c'], ?_, by rw [hFi]; exact ⟨_, _, b, b', c, c', g, g', rfl, o1, o2, l1, l2, rfl, rfl⟩⟩
  simp only [execOp, hop, e']
  rfl
theorem step_newP (hi : ops[i]? = some o) (hop : o.op = .alloc 37) (hF : F i = NBp w0) : StepOk Tryz.prog md ops Q F a0 w0 i := by
  refine step_grow hi fun a w _ hw _ => ⟨.pointer (some ⟨w.heap.size, 0, none⟩), w.alloc pObj, ?_, (Below.refl _ _).alloc (Nat.le_refl _) _, ?_⟩
  · simp only [execOp, hop]
    kernel_rfl
  · rw [hF]
    exact ⟨_, rfl, heap_alloc_last _ _, hw.size⟩
end
section
variable {ops : Array Oper} {Q : Exit → Act → World → Prop} {a0 : Act} {w : World} {id : Nat} {draw : Bool}
/-- A region that makes a point's block and lays one there. -/
theorem region_newPF (k jA jV pA pV : Nat) (o : Oper) (F : Nat → Fact) (p : List Int → List Int → Prop) (hT : textOk .any ops a0.tmps.size k = true) (hk : ops[k]? = some o) (hd : o.dst = none) (hop : o.op = .store 37 (.tmp pA) (.tmp pV))
    (wA : writes ops jA pA = true) (wV : writes ops jV pV = true) (FA : F jA = NBp w) (FV : F jV = PT w p) (steps : ∀ i, i < k → StepOk Tryz.prog .any ops Q F a0 w i)
    (fin : ∀ (vs : Nat → Value) (q : Nat) (W : World) (xs ys : List Int) (a a' : Option Addr) (c c' g g' : Nat), vs pA = .pointer (some ⟨q, 0, none⟩) → w.heap.size ≤ q → Below w.heap.size w W → W.rangeAt q 0 [.slice a xs.length c, .slice a' ys.length c'] → W.there q 0 2 → Own W g a .u8 xs → Own W g' a' .u8 ys → w.heap.size ≤ g → w.heap.size ≤ g' → p xs ys → (∀ i d, writes ops i d = true → ∃ Wp, (F i).p (vs d) Wp) → Q .normal (puts vs a0 ops.toList) W) :
    (Code.region id ops draw).wp Tryz.prog Q a0 w := by
  refine region_store k o F (by kernel_rfl) hT hk hd steps fun a W hb hw hF => ?_
  have h1 := hF jA pA wA
  have h2 := hF jV pV wV
  rw [FA] at h1
  rw [FV] at h2
  obtain ⟨q, eq, hq, lq⟩ := h1
  obtain ⟨xs, ys, b, b', c, c', g, g', ev, o1, o2, l1, l2, hpp⟩ := h2
  have th := pObj_there hq
  refine wp_store_mid 37 (.tmp pA) (.tmp pV) hop q 0 #[.slice b xs.length c, .slice b' ys.length c'] eq ev th iP (by simp [Value.oneCell']) ?_
  obtain ⟨vs, hvs⟩ : ∃ vs : Nat → Value, ∀ d, a.tmps.getD d undef = vs d := ⟨_, fun _ => rfl⟩
  rw [hd]
  show Q .normal a _
  rw [puts_of hT rfl hb vs hvs]
  refine fin vs q _ xs ys b b' c c' g g' ((hvs pA).symm.trans eq) lq (below_setCells lq _ _ _ hw) (World.rangeAt_setCells_same W q 0 _ th) (World.there_setCells th _ _ _) ?_ ?_ l1 l2 hpp (fun i d h => ⟨W, by rw [← hvs]; exact hF i d h⟩)
  · exact fun h0 => o1.of_block (setCells_other (own_ne hq o1 h0) _ 0 W) h0
  · exact fun h0 => o2.of_block (setCells_other (own_ne hq o2 h0) _ 0 W) h0
end
/-- Three cells that may be written. -/
structure Tri (w : World) (p : Nat) (x y z : Value) : Prop where
  c0 : w.cell? ⟨p, 0, none⟩ = some x
  c1 : w.cell? ⟨p, 1, none⟩ = some y
  c2 : w.cell? ⟨p, 2, none⟩ = some z
  f0 : w.frozen? ⟨p, 0, none⟩ = false
  f1 : w.frozen? ⟨p, 1, none⟩ = false
  f2 : w.frozen? ⟨p, 2, none⟩ = false
theorem Tri.lt {w : World} {p : Nat} {x y z : Value} (h : Tri w p x y z) : p < w.heap.size := block_lt_of_cell h.c0
theorem Tri.up {w w' : World} {p : Nat} {x y z : Value} (h : Tri w p x y z) (n : Below w.heap.size w w') : Tri w' p x y z := by
  have hb := n.block p h.lt
  exact ⟨(World.cell?_of_block (a := ⟨p, 0, none⟩) hb).trans h.c0, (World.cell?_of_block (a := ⟨p, 1, none⟩) hb).trans h.c1, (World.cell?_of_block (a := ⟨p, 2, none⟩) hb).trans h.c2, (World.frozen?_of_block (a := ⟨p, 0, none⟩) hb).trans h.f0, (World.frozen?_of_block (a := ⟨p, 1, none⟩) hb).trans h.f1, (World.frozen?_of_block (a := ⟨p, 2, none⟩) hb).trans h.f2⟩
theorem Tri.new (w : World) (x y z : Value) (t : TypeId) : Tri (w.alloc (.cells #[x, y, z] t)) w.heap.size x y z := by
  have e : (w.alloc (.cells #[x, y, z] t)).heap[w.heap.size]? = some (.cells #[x, y, z] t) := heap_alloc_last _ _
  refine ⟨?_, ?_, ?_, ?_, ?_, ?_⟩
  all_goals first
    | (unfold World.cell?; simp only; rw [e]; rfl)
    | (unfold World.frozen?; simp only; rw [e]; simp)
theorem low7s_len (xs : List Int) : (low7s xs).length = xs.length := by unfold low7s; simp
theorem low7s_byt {xs : List Int} (h : Byt xs) : Byt (low7s xs) := by
  intro j
  unfold low7s
  by_cases e : 31 = j
  · subst e
    by_cases c : 31 < xs.length
    · rw [getD_set_self _ _ _ c]
      have := h 31
      show 0 ≤ xs.getD 31 0 % 128 ∧ xs.getD 31 0 % 128 < 256
      omega
    · rw [List.set_eq_of_length_le (by omega)]
      exact h 31
  · rw [getD_set_ne _ _ _ _ e]
    exact h j
abbrev prObj : Obj := .cells #[.bool false, .slice none 0 0, .slice none 0 0] 83

set_option maxHeartbeats 2000000 in
theorem specDecode_any (w : World) (g : Nat) (a : Option Addr) (c : Nat) (xs : List Int) (hr : Rd w g a .u8 xs) (hb : Byt xs) (hc : a = none → c = 0) :
    Calls Tryz.prog 75 #[.slice a xs.length c] w fun r w' => NewPR w.heap.size w' r (dcB xs) (dcX xs) (dcY xs) ∧ Below w.heap.size w w' := by
  have TZ := Tri.new w (.bool false) (.slice none 0 0) (.slice none 0 0) 83
  have N : Below w.heap.size w (w.alloc prObj) := (Below.refl _ _).alloc (Nat.le_refl _) _
  by_cases hl : xs.length = 32
  · have CP := hide (fun W n => l1Copy_any W g a c xs (hr.up n) hc (by omega))
    have LH := hide hl
    have b31' := hb 31
    have DB : Hid (dcB xs = (canN (low7s xs) && liB (num (low7s xs)) (decide (128 ≤ xs.getD 31 0)))) := by show _ = _; unfold dcB; rw [decide_eq_true hl]; rfl
    have DX : Hid (dcX xs = if dcB xs = true then liX (num (low7s xs)) (decide (128 ≤ xs.getD 31 0)) else []) := by show _ = _; rfl
    have DY : Hid (dcY xs = if dcB xs = true then liY (num (low7s xs)) (decide (128 ≤ xs.getD 31 0)) else []) := by show _ = _; rfl
    obtain ⟨o0, rfl, rc⟩ := id hr (by omega)
    have CB0 := hide (rc 31 (by omega))
    have hg := hr.lt (by omega)
    rw [hl] at CP ⊢
    clear hl rc
    go_enter Tryz.func75, Tryz.ntmps75
    go_upto_region 3 with fail
    change Code.wp _ _ _ _ (w.alloc prObj)
    generalize w.alloc prObj = wr at *
    go_wp2_with fail
    refine (CP.out wr N).mono ?_
    rintro r w1 ⟨⟨a1, c1, g1, rfl, o1, p1, q1, r1⟩, n1⟩
    have z1 := TZ.lt
    replace TZ := TZ.up n1
    replace N := nxt N n1
    clear CP n1 p1
    rw [LH.out] at q1 ⊢
    obtain ⟨off, rfl, oc⟩ := id o1 (by rw [LH.out]; decide)
    have x31 := (oc 31 (by rw [LH.out]; decide)).1
    have f31 := (oc 31 (by rw [LH.out]; decide)).2
    have S1 := o1.store 31 (by rw [LH.out]; decide) (xs.getD 31 0 % 128)
    have N2 : Below w.heap.size w (w1.setCell ⟨g1, off + 31, none⟩ (.int .u8 (xs.getD 31 0 % 128))) := N.setCell (by show w.heap.size ≤ g1; omega) _
    have TZ2 : Tri (w1.setCell ⟨g1, off + 31, none⟩ (.int .u8 (xs.getD 31 0 % 128))) w.heap.size (.bool false) (.slice none 0 0) (.slice none 0 0) := by
      have hbk := heap_setCell_other w1 ⟨g1, off + 31, none⟩ w.heap.size (.int .u8 (xs.getD 31 0 % 128)) (by show w.heap.size ≠ g1; omega)
      exact ⟨(World.cell?_of_block (a := ⟨w.heap.size, 0, none⟩) hbk).trans TZ.c0, (World.cell?_of_block (a := ⟨w.heap.size, 1, none⟩) hbk).trans TZ.c1, (World.cell?_of_block (a := ⟨w.heap.size, 2, none⟩) hbk).trans TZ.c2, (World.frozen?_of_block (a := ⟨w.heap.size, 0, none⟩) hbk).trans TZ.f0, (World.frozen?_of_block (a := ⟨w.heap.size, 1, none⟩) hbk).trans TZ.f1, (World.frozen?_of_block (a := ⟨w.heap.size, 2, none⟩) hbk).trans TZ.f2⟩
    have YB := hide (low7s_byt hb)
    have YL := hide ((low7s_len xs).trans LH.out)
    have SO : Hid (Own (w1.setCell ⟨g1, off + 31, none⟩ (.int .u8 (xs.getD 31 0 % 128))) g1 (some ⟨g1, off, none⟩) .u8 (low7s xs)) := S1
    have CB : Hid ((w1.setCell ⟨g1, off + 31, none⟩ (.int .u8 (xs.getD 31 0 % 128))).cell? ⟨g, o0 + 31, none⟩ = some (.int .u8 (xs.getD 31 0))) := (N2.cell hg).trans CB0.out
    clear S1 o1 oc TZ N CB0 LH hb hr
    obtain ⟨ys, hys⟩ : ∃ ys, ys = low7s xs := ⟨_, rfl⟩
    rw [← hys] at YB YL SO DB DX DY
    clear hys
    obtain ⟨b31, h31⟩ : ∃ b, b = xs.getD 31 0 := ⟨_, rfl⟩
    rw [← h31] at x31 N2 TZ2 SO CB DB DX DY b31'
    clear h31
    obtain ⟨odd, hodd⟩ : ∃ o, o = decide (128 ≤ b31) := ⟨_, rfl⟩
    rw [← hodd] at DB DX DY
    have HO := hide hodd
    clear hodd
    have FC := hide (fun W (h : Rd W g1 (some ⟨g1, off, none⟩) .u8 ys) => specFieldCanonical_any W g1 (some ⟨g1, off, none⟩) c1 ys h YB.out)
    rw [YL.out] at FC
    cases hcn : canN ys with
    | false =>
      have KB : Hid (dcB xs = false) := by show _ = _; rw [DB.out, hcn]; rfl
      have KX : Hid (dcX xs = []) := by show _ = _; rw [DX.out, if_neg (by rw [KB.out]; simp)]
      have KY : Hid (dcY xs = []) := by show _ = _; rw [DY.out, if_neg (by rw [KB.out]; simp)]
      rw [hcn] at FC
      clear hcn DB DX DY CB
      go_wp2_with fail
      generalize w1.setCell ⟨g1, off + 31, none⟩ (.int .u8 (b31 % 128)) = w3 at *
      refine (FC.out w3 SO.out.rd).mono ?_
      rintro r w4 ⟨rfl, n⟩
      obtain ⟨y0, y1, y2, u0, u1, u2⟩ := TZ2.up n
      have N4 := nxt N2 n
      clear FC SO n TZ2 N2 x31 f31
      go_wp2
      refine bodyPost_ret (v := .agg #[.bool false, .slice none 0 0, .slice none 0 0]) (by simp [results, Tryz.results75, go_sem, y0, y1, y2]) rfl ⟨by rw [KB.out, KX.out, KY.out]; exact newPR_nil, ?_⟩
      exact ((N4.setCell (Nat.le_refl _) _).setCell (Nat.le_refl _) _).setCell (Nat.le_refl _) _
    | true =>
      rw [hcn] at DB FC
      clear hcn
      go_wp2_with fail
      generalize w1.setCell ⟨g1, off + 31, none⟩ (.int .u8 (b31 % 128)) = w3 at *
      refine (FC.out w3 SO.out.rd).mono ?_
      rintro r w4 ⟨rfl, n⟩
      have OY := hide (of_ok (SO.out.rd.up n) YB.out YL.out)
      replace CB := hide ((n.cell (block_lt_of_cell CB.out)).trans CB.out)
      replace TZ2 := TZ2.up n
      have N4 := nxt N2 n
      clear FC SO n N2 x31 f31
      go_upto_region 7 with fail
      refine region_newPF 12 10 9 5 31 _ (fun i => [Fact.eq (.slice (some ⟨g1, off, none⟩) 32 c1), EL (num ys), Fact.eq (.slice (some ⟨g, o0, none⟩) 32 c), Fact.eq (.pointer (some ⟨g, o0 + 31, none⟩)), Fact.eq (.int .u8 b31), Fact.eq (.bool odd), LiF w4 (num ys) odd, LiF w4 (num ys) odd, Fact.eq (.bool (liB (num ys) odd)), PT w4 (fun xs zs => xs = liX (num ys) odd ∧ zs = liY (num ys) odd), NBp w4, Fact.eq (.bool (liB (num ys) odd))].getD i Fact.no) (fun xs zs => xs = liX (num ys) odd ∧ zs = liY (num ys) odd) (by kernel_rfl) rfl rfl rfl (by kernel_rfl) (by kernel_rfl) rfl rfl ?_ ?_
      · intro i hi
        obtain rfl | rfl | rfl | rfl | rfl | rfl | rfl | rfl | rfl | rfl | rfl | rfl : i = 0 ∨ i = 1 ∨ i = 2 ∨ i = 3 ∨ i = 4 ∨ i = 5 ∨ i = 6 ∨ i = 7 ∨ i = 8 ∨ i = 9 ∨ i = 10 ∨ i = 11 := by omega
        · exact step_mvp rfl 3 rfl (by kernel_rfl) rfl rfl
        · exact step_of32 rfl 23 0 rfl (by kernel_rfl) OY.out rfl rfl
        · exact step_mvp rfl 0 rfl (by kernel_rfl) rfl rfl
        · exact step_at31 rfl 25 2 rfl (by kernel_rfl) rfl rfl
        · exact step_ld8 rfl 26 3 rfl (by kernel_rfl) rfl CB.out rfl
        · exact step_geq rfl 27 4 rfl (by kernel_rfl) rfl HO.out rfl
        · exact step_lift rfl 24 28 1 5 rfl (by kernel_rfl) (by kernel_rfl) rfl rfl rfl
        · exact step_move rfl 29 6 (by exact Or.inl rfl) (by kernel_rfl) rfl
        · exact step_exL0 rfl 22 7 rfl (by kernel_rfl) rfl rfl
        · exact step_exL1 rfl 22 7 rfl (by kernel_rfl) rfl rfl
        · exact step_newP rfl rfl rfl
        · exact step_move rfl 30 8 (by exact Or.inr rfl) (by kernel_rfl) rfl
      rintro vt q5 W7 ps qs b1 b2 d1 d2 h1 h2 v5 l5 n rg th o1 o2 l1 l2 ⟨rfl, rfl⟩ hF
      obtain ⟨_, v4⟩ := hF 11 4 (by kernel_rfl)
      clear hF
      change vt 4 = .bool (liB (num ys) odd) at v4
      have z4 := TZ2.lt
      replace TZ2 := TZ2.up n
      have z0 := N4.size
      replace N4 := nxt N4 n
      clear n OY CB th
      simp only [puts, v5, v4, Act.put, List.setIfInBounds_toArray, List.set_cons_succ, List.set_cons_zero]
      clear v4 v5
      have k0 := rg 0 _ rfl
      have k1 := rg 1 _ rfl
      simp only [Nat.zero_add] at k0 k1
      clear rg
      obtain ⟨y0, y1, y2, u0, u1, u2⟩ := TZ2
      cases hli : liB (num ys) odd with
      | false =>
        have KB : Hid (dcB xs = false) := by show _ = _; rw [DB.out, hli]; rfl
        have KX : Hid (dcX xs = []) := by show _ = _; rw [DX.out, if_neg (by rw [KB.out]; simp)]
        have KY : Hid (dcY xs = []) := by show _ = _; rw [DY.out, if_neg (by rw [KB.out]; simp)]
        clear DB DX DY o1 o2 hli
        go_wp2
        refine bodyPost_ret (v := .agg #[.bool false, .slice none 0 0, .slice none 0 0]) (by simp [results, Tryz.results75, go_sem, y0, y1, y2]) rfl ⟨by rw [KB.out, KX.out, KY.out]; exact newPR_nil, ?_⟩
        exact ((N4.setCell (Nat.le_refl _) _).setCell (Nat.le_refl _) _).setCell (Nat.le_refl _) _
      | true =>
        have KB : Hid (dcB xs = true) := by show _ = _; rw [DB.out, hli]; rfl
        have KX : Hid (dcX xs = liX (num ys) odd) := by show _ = _; rw [DX.out, if_pos KB.out]
        have KY : Hid (dcY xs = liY (num ys) odd) := by show _ = _; rw [DY.out, if_pos KB.out]
        clear DB DX DY hli
        generalize liX (num ys) odd = X at *
        generalize liY (num ys) odd = Y at *
        have O := ((Only.setCell W7 w.heap.size 0 (.bool true)).trans (Only.setCell _ w.heap.size 1 (.slice b1 X.length d1))).trans (Only.setCell _ w.heap.size 2 (.slice b2 Y.length d2))
        have o1' := o1.only O (fun _ => by omega)
        have o2' := o2.only O (fun _ => by omega)
        have N' := N4.trans (O.below (Nat.le_refl _))
        clear o1 o2 O N4
        go_wp2
        refine bodyPost_ret (v := .agg #[.bool true, .slice b1 X.length d1, .slice b2 Y.length d2]) (by simp [results, Tryz.results75, go_sem, y0, y1, y2]) rfl ⟨?_, N'⟩
        rw [KB.out, KX.out, KY.out]
        exact ⟨b1, b2, d1, d2, h1, h2, rfl, o1', o2', by omega, by omega⟩
  · have t : ((xs.length : Int) != 32) = true := by simp; omega
    have KB : Hid (dcB xs = false) := by show _ = _; unfold dcB; rw [decide_eq_false hl]; rfl
    have KX : Hid (dcX xs = []) := by show _ = _; unfold dcX; rw [if_neg (by rw [KB.out]; simp)]
    have KY : Hid (dcY xs = []) := by show _ = _; unfold dcY; rw [if_neg (by rw [KB.out]; simp)]
    obtain ⟨y0, y1, y2, u0, u1, u2⟩ := TZ
    clear hl
    go_enter Tryz.func75, Tryz.ntmps75
    go_upto_region 1 with fail
    change Code.wp _ _ _ _ (w.alloc prObj)
    generalize w.alloc prObj = wr at *
    go_wp2
    refine bodyPost_ret (v := .agg #[.bool false, .slice none 0 0, .slice none 0 0]) (by simp [results, Tryz.results75, go_sem, y0, y1, y2]) rfl ⟨by rw [KB.out, KX.out, KY.out]; exact newPR_nil, ?_⟩
    exact ((N.setCell (Nat.le_refl _) _).setCell (Nat.le_refl _) _).setCell (Nat.le_refl _) _
end Go.Proofs.YtnaaanefndeafaaGreatDoor

/-
  The model's l5Find.
-/
namespace Go.Proofs.YtnaaanefndeafaaGreatDoor
set_option maxRecDepth 100000
open Go Go.RowKit

def inc0 (ys : List Int) : List Int := ys.set 0 ((ys.getD 0 0 + 1) % 256)
/-- The first point at or behind these bytes. -/
def fdP : Nat → List Int → List Int × List Int
  | 0, _ => (liX (4 * iv 5) false, liY (4 * iv 5) false)
  | n + 1, ys => if dcB ys = true then (dcX ys, dcY ys) else fdP n (inc0 ys)
theorem inc0_byt {ys : List Int} (h : Byt ys) : Byt (inc0 ys) := by
  intro i
  unfold inc0
  have := h i
  by_cases e : i = 0
  · subst e
    by_cases l : 0 < ys.length
    · simp [List.getD_eq_getElem?_getD, l]
      omega
    · simp [List.getD_eq_getElem?_getD, l]
  · rw [List.getD_eq_getElem?_getD, List.getElem?_set_ne (by omega), ← List.getD_eq_getElem?_getD]
    exact this
theorem inc0_len (ys : List Int) : (inc0 ys).length = ys.length := by unfold inc0; simp
theorem Two.of_block' {w w' : World} {p : Nat} {x y : Value} (h : Two w p x y) (hb : w'.heap[p]? = w.heap[p]?) : Two w' p x y :=
  ⟨(World.cell?_of_block (a := ⟨p, 0, none⟩) hb).trans h.c0, (World.cell?_of_block (a := ⟨p, 1, none⟩) hb).trans h.c1, (World.frozen?_of_block (a := ⟨p, 0, none⟩) hb).trans h.f0, (World.frozen?_of_block (a := ⟨p, 1, none⟩) hb).trans h.f1⟩
set_option maxHeartbeats 4000000 in
theorem l5Find_any (w : World) (g off c : Nat) (bs : List Int) (ho : Own w g (some ⟨g, off, none⟩) .u8 bs) (hb : Byt bs) (hl : bs.length = 32) :
    Calls Tryz.prog 175 #[.slice (some ⟨g, off, none⟩) 32 c] w fun r w' => NewPt w.heap.size w' r (fdP 40 bs).1 (fdP 40 bs).2 ∧ But g w w' := by
  have TZ : Two (w.alloc pObj) w.heap.size (.slice none 0 0) (.slice none 0 0) := Two.new w (.slice none 0 0) (.slice none 0 0) 37
  have N : But g w (w.alloc pObj) := But.ofBelow ((Below.refl _ _).alloc (Nat.le_refl _) _)
  have hg := ho.rd.lt (by omega)
  have ho := ho.up ((Below.refl _ _).alloc (Nat.le_refl _) pObj)
  obtain ⟨R, hR⟩ : ∃ R, R = fdP 40 bs := ⟨_, rfl⟩
  rw [← hR]
  go_enter Tryz.func175, Tryz.ntmps175
  go_upto_region 1 with fail
  change Code.wp _ _ _ _ (w.alloc pObj)
  generalize w.alloc pObj = wz at *
  go_wp2
  go_loopw [3] (fun i wr => ∃ (k : Nat) (ys : List Int), k ≤ 40 ∧ i = .int .i64 k ∧ Hid (R = fdP (40 - k) ys) ∧ Hid (ys.length = 32) ∧ Byt ys ∧ Own wr g (some ⟨g, off, none⟩) .u8 ys ∧ Two wr w.heap.size (.slice none 0 0) (.slice none 0 0) ∧ But g w wr) (fun i _ => 40 - (intOf i).toNat)
  case atStart => exact ⟨0, bs, by omega, rfl, hR, hl, hb, ho, TZ, N⟩
  case round =>
    obtain ⟨k, ys, hk, rfl, HR, HL, yb, yo, T2, NB⟩ := hrel
    by_cases hlt : k < 40
    · have DC := hide (specDecode_any wr g (some ⟨g, off, none⟩) c ys yo.rd yb (fun h => nomatch h))
      have zb := NB.size
      have zt := T2.lt
      rw [HL.out] at DC
      have HS : Hid (R = if dcB ys = true then (dcX ys, dcY ys) else fdP (40 - (k + 1)) (inc0 ys)) := by
        show _ = _
        rw [HR.out, show 40 - k = (40 - (k + 1)) + 1 by omega]
        rfl
      clear HR
      go_wp2_with fail
      refine DC.out.mono ?_
      rintro r w1 ⟨⟨a1, a1', c1, c1', g1, g1', rfl, o1, o1', l1, l1'⟩, n1⟩
      have z1 := n1.size
      replace yo := yo.up n1
      replace T2 := T2.up n1
      have TT := Tri.new w1 (.bool (dcB ys)) (.slice a1 (dcX ys).length c1) (.slice a1' (dcY ys).length c1') 83
      have n2 : Below w1.heap.size w1 (w1.alloc (.cells #[.bool (dcB ys), .slice a1 (dcX ys).length c1, .slice a1' (dcY ys).length c1'] 83)) := (Below.refl _ _).alloc (Nat.le_refl _) _
      replace yo := yo.up n2
      replace T2 := T2.up n2
      replace o1 := o1.up n2
      replace o1' := o1'.up n2
      replace NB := (NB.trans (But.ofBelow n1)).trans (But.ofBelow n2)
      have z2 := n2.size
      clear n1 n2 DC
      cases hd : dcB ys with
      | true =>
        have HR : Hid (R = (dcX ys, dcY ys)) := by show _ = _; rw [HS.out, if_pos hd]
        rw [hd] at TT z2 yo T2 o1 o1' NB
        clear HS hd
        obtain ⟨t0, t1, t2, u0, u1, u2⟩ := TT
        obtain ⟨y0, y1, v0, v1⟩ := T2
        generalize dcX ys = X at *
        generalize dcY ys = Y at *
        have O := fun W => (Only.setCell W w.heap.size 0 (.slice a1 X.length c1)).trans (Only.setCell _ w.heap.size 1 (.slice a1' Y.length c1'))
        go_wp2
        generalize w1.alloc (.cells #[.bool true, .slice a1 X.length c1, .slice a1' Y.length c1'] 83) = W at *
        refine bodyPost_ret (v := .agg #[.slice a1 X.length c1, .slice a1' Y.length c1']) (by simp [results, Tryz.results175, go_sem, y0, y1]) rfl ⟨?_, (NB.setCell (Nat.le_refl _)).setCell (Nat.le_refl _)⟩
        rw [HR.out]
        exact ⟨a1, a1', c1, c1', g1, g1', rfl, o1.only (O W) (fun _ => by omega), o1'.only (O W) (fun _ => by omega), by omega, by omega⟩
      | false =>
        have HR : Hid (R = fdP (40 - (k + 1)) (inc0 ys)) := by show _ = _; rw [HS.out, if_neg (by rw [hd]; simp)]
        rw [hd] at TT z2 yo T2 o1 o1' NB
        clear HS hd
        obtain ⟨t0, t1, t2, u0, u1, u2⟩ := TT
        obtain ⟨off', he, hc⟩ := id yo (by rw [HL.out]; decide)
        obtain rfl : off = off' := by simpa using he
        have x0 := (hc 0 (by rw [HL.out]; decide)).1
        have f0 := (hc 0 (by rw [HL.out]; decide)).2
        rw [Nat.add_zero] at x0 f0
        have b0 := yb 0
        have S1 := yo.store 0 (by rw [HL.out]; decide) ((ys.getD 0 0 + 1) % 256)
        rw [Nat.add_zero] at S1
        have IB := inc0_byt yb
        have IL := hide ((inc0_len ys).trans HL.out)
        have SO : Hid (Own ((w1.alloc (.cells #[.bool false, .slice a1 (dcX ys).length c1, .slice a1' (dcY ys).length c1'] 83)).setCell ⟨g, off, none⟩ (.int .u8 ((ys.getD 0 0 + 1) % 256))) g (some ⟨g, off, none⟩) .u8 (inc0 ys)) := S1
        clear S1 hc he yo o1 o1'
        generalize inc0 ys = zs at *
        generalize ys.getD 0 0 = y at *
        go_wp2
        go_roundw
        case rel => exact ⟨k + 1, zs, by omega, by go_num, HR, IL, IB, SO.out, T2.of_block' (heap_setCell_other _ ⟨g, off, none⟩ w.heap.size _ (by show w.heap.size ≠ g; omega)), NB.only (Only.setCell _ g off _)⟩
        case measure => simp [intOf]; omega
    · obtain rfl : k = 40 := by omega
      have HB : Hid (R = (liX (4 * iv 5) false, liY (4 * iv 5) false)) := HR.out
      have zt := T2.lt
      clear HR
      have SB := hide (specBase_any wr)
      generalize liX (4 * iv 5) false = X at *
      generalize liY (4 * iv 5) false = Y at *
      go_wp2_with fail
      refine SB.out.mono ?_
      rintro r w1 ⟨⟨a1, a1', c1, c1', g1, g1', rfl, o1, o1', l1, l1'⟩, n1⟩
      have T3 := T2.up n1
      have N3 := NB.trans (But.ofBelow n1)
      obtain ⟨y0, y1, v0, v1⟩ := T3
      have O := (Only.setCell w1 w.heap.size 0 (.slice a1 X.length c1)).trans (Only.setCell _ w.heap.size 1 (.slice a1' Y.length c1'))
      go_wp2
      refine bodyPost_ret (v := .agg #[.slice a1 X.length c1, .slice a1' Y.length c1']) (by simp [results, Tryz.results175, go_sem, y0, y1]) rfl ⟨?_, (N3.setCell (Nat.le_refl _)).setCell (Nat.le_refl _)⟩
      rw [HB.out]
      exact ⟨a1, a1', c1, c1', g1, g1', rfl, o1.only O (fun _ => by omega), o1'.only O (fun _ => by omega), by omega, by omega⟩
end Go.Proofs.YtnaaanefndeafaaGreatDoor

/-
  The model's l5Draw, told as a value.
-/
namespace Go.Proofs.YtnaaanefndeafaaGreatDoor
set_option maxRecDepth 100000
open Go Go.RowKit

theorem li_byt (A : Int) (odd : Bool) : Byt (liX A odd) ∧ Byt (liY A odd) := by
  unfold liX liY
  split
  · exact ⟨bytes_5 _ _, bytes_5 _ _⟩
  · exact ⟨byt_nil, byt_nil⟩
theorem Two.put0 {w : World} {p : Nat} {x y : Value} (h : Two w p x y) (u : Value) : Two (w.setCell ⟨p, 0, none⟩ u) p u y :=
  ⟨World.cell?_setCell_same _ _ _ h.c0, by rw [World.cell?_setCell_other (h := by simp)]; exact h.c1, by rw [World.frozen?_setCell]; exact h.f0, by rw [World.frozen?_setCell]; exact h.f1⟩
theorem Two.put1 {w : World} {p : Nat} {x y : Value} (h : Two w p x y) (u : Value) : Two (w.setCell ⟨p, 1, none⟩ u) p x u :=
  ⟨by rw [World.cell?_setCell_other (h := by simp)]; exact h.c0, World.cell?_setCell_same _ _ _ h.c1, by rw [World.frozen?_setCell]; exact h.f0, by rw [World.frozen?_setCell]; exact h.f1⟩
theorem Two.put {w : World} {p : Nat} {x y : Value} (h : Two w p x y) (u v : Value) : Two ((w.setCell ⟨p, 0, none⟩ u).setCell ⟨p, 1, none⟩ v) p u v := (h.put0 u).put1 v
def bsX : List Int := liX (4 * iv 5) false
def bsY : List Int := liY (4 * iv 5) false
theorem bs_byt : Byt bsX ∧ Byt bsY := li_byt _ _
theorem bs_ok : PtOk bsX bsY := by
  have h : liB (4 * iv 5) false = true := by
    unfold liB
    rw [base_lift.1]
    simp
  unfold bsX bsY liX liY
  rw [if_pos h, if_pos h]
  exact ⟨⟨bytes_5 _ _, fill_len _ _⟩, bytes_5 _ _, fill_len _ _⟩
/-- The point that is drawn. -/
def drP (xs : List Int) (t : Int) : List Int × List Int :=
  if nxF xs t 8 = 0 then smP (nxF xs (t + 1) 8)
  else if nxF xs t 8 = 1 then (paX (smP (nxF xs (t + 1) 8)).1 (smP (nxF xs (t + 1) 8)).2 bsX bsY, paY (smP (nxF xs (t + 1) 8)).1 (smP (nxF xs (t + 1) 8)).2 bsX bsY)
  else if nxF xs t 8 < 4 then (plX (tmP (fill (dig (inF (nxF xs (t + 1) 1000))) 32) bsX bsY), plY (tmP (fill (dig (inF (nxF xs (t + 1) 1000))) 32) bsX bsY))
  else if nxF xs t 8 = 4 then
    (if nxF xs (t + 1) 2 = 0 then
      (if nxF xs (t + 1 + 1) 4 = 0 then (dbF xs (t + 1 + 1 + 1) 32, bsY)
       else if nxF xs (t + 1 + 1) 4 = 1 then (bsX, dbF xs (t + 1 + 1 + 1) 31)
       else if nxF xs (t + 1 + 1) 4 = 2 then (fill (dig pbytes) 32, fill (byt (1 % PP)) 32)
       else ([], []))
     else fdP 40 (dbF xs (t + 1 + 1) 32))
  else fdP 40 (dbF xs (t + 1) 32)
set_option maxHeartbeats 4000000 in
theorem l5DrawV_any (w : World) (s g : Nat) (a : Option Addr) (c : Nat) (xs : List Int) (t : Int) (hs : Src w s a xs.length c t) (hr : Rd w g a .u8 xs) (hne : 0 < xs.length → g ≠ s) (hb : Byt xs) (hl : xs.length ≤ 4194304) (t0 : 0 ≤ t) (t1 : t ≤ 10000) :
    Calls Tryz.prog 111 #[.pointer (some ⟨s, 0, none⟩)] w fun r w' => NewPt w.heap.size w' r (drP xs t).1 (drP xs t).2 ∧ But s w w' := by
  have TZ : Two (w.alloc pObj) w.heap.size (.slice none 0 0) (.slice none 0 0) := Two.new w (.slice none 0 0) (.slice none 0 0) 37
  have nz : Below w.heap.size w (w.alloc pObj) := (Below.refl _ _).alloc (Nat.le_refl _) _
  have zs := hs.lt
  have NX := hide (fun W (S : Src W s a xs.length c t) (R : Rd W g a .u8 xs) => l1NextV_any W s g a c xs t 8 S R hne hb hl (by omega) (by omega) (by decide) (by decide))
  have NY := hide (fun W n (S : Src W s a xs.length c (t + 1)) (R : Rd W g a .u8 xs) (h1 : 1 ≤ n) (h2 : n ≤ 1048576) => l1NextV_any W s g a c xs (t + 1) n S R hne hb hl (by omega) (by omega) h1 h2)
  have CH := hide (fun W (S : Src W s a xs.length c (t + 1)) (R : Rd W g a .u8 xs) => l1ChanceV_any W s g a c xs (t + 1) 2 S R hne hb hl (by omega) (by omega) (by decide) (by decide))
  have NW := hide (fun W (S : Src W s a xs.length c (t + 1 + 1)) (R : Rd W g a .u8 xs) => l1NextV_any W s g a c xs (t + 1 + 1) 4 S R hne hb hl (by omega) (by omega) (by decide) (by decide))
  have DB := hide (fun W u (n : Nat) (S : Src W s a xs.length c u) (R : Rd W g a .u8 xs) (h1 : 0 ≤ u) (h2 : u + (n : Int) ≤ 1048576) => l1DrawBytesV_any W s g a c xs u n S R hne hb hl h1 h2)
  obtain ⟨R, hR⟩ : ∃ R, R = drP xs t := ⟨_, rfl⟩
  rw [← hR]
  have k0 := nx_in xs t (show (0 : Int) < 8 by decide)
  unfold drP at hR
  have HR := hide hR
  clear hR
  have S0 := hs.up nz
  have hr0 := hr.up nz
  have N : But s w (w.alloc pObj) := But.ofBelow nz
  clear nz
  go_enter Tryz.func111, Tryz.ntmps111
  go_upto_region 1 with fail
  change Code.wp _ _ _ _ (w.alloc pObj)
  generalize w.alloc pObj = wz at *
  go_wp2_with fail
  refine (NX.out wz S0 hr0).mono ?_
  rintro e w1 ⟨rfl, _, S1, O1⟩
  have zz := TZ.lt
  have z1 := O1.size
  replace TZ := TZ.of_block' (O1.block w.heap.size (by omega))
  replace N := N.only O1
  have hr1 := hr.but N hne
  clear O1 NX S0 hr0 hs
  generalize nxF xs t 8 = k at *
  rcases (show k = 0 ∨ k = 1 ∨ k = 2 ∨ k = 3 ∨ k = 4 ∨ k = 5 ∨ k = 6 ∨ k = 7 by omega) with rfl | rfl | rfl | rfl | rfl | rfl | rfl | rfl
  · have HD : Hid (R = smP (nxF xs (t + 1) 8)) := by show _ = _; rw [HR.out, if_pos rfl]
    clear HR
    go_wp2_with fail
    refine (NY.out w1 8 S1 hr1 (by decide) (by decide)).mono ?_
    rintro e w2 ⟨rfl, ⟨r0, r1⟩, S2, O2⟩
    have z2 := O2.size
    replace TZ := TZ.of_block' (O2.block w.heap.size (by omega))
    replace N := N.only O2
    clear O2 S2 S1 NY CH NW DB
    obtain ⟨j, hj⟩ : ∃ j, j = nxF xs (t + 1) 8 := ⟨_, rfl⟩
    rw [← hj] at r0 r1 HD ⊢
    clear hj
    have SM := hide (l5SmallV_any w2 j r0 (by omega))
    generalize smP j = X at *
    go_wp2_with fail
    refine SM.out.mono ?_
    rintro r w3 ⟨⟨a1, a1', c1, c1', g1, g1', rfl, o1, o1', l1, l1'⟩, n3⟩
    have z3 := n3.size
    replace TZ := TZ.up n3
    replace N := N.trans (But.ofBelow n3)
    clear n3 SM
    obtain ⟨y0, y1, v0, v1⟩ := TZ
    have O := (Only.setCell w3 w.heap.size 0 (.slice a1 X.1.length c1)).trans (Only.setCell _ w.heap.size 1 (.slice a1' X.2.length c1'))
    go_wp2
    refine bodyPost_ret (v := .agg #[.slice a1 X.1.length c1, .slice a1' X.2.length c1']) (by simp [results, Tryz.results111, go_sem, y0, y1]) rfl ⟨?_, (N.setCell (Nat.le_refl _)).setCell (Nat.le_refl _)⟩
    rw [HD.out]
    exact ⟨a1, a1', c1, c1', g1, g1', rfl, o1.only O (fun _ => by omega), o1'.only O (fun _ => by omega), by omega, by omega⟩
  · have HD : Hid (R = (paX (smP (nxF xs (t + 1) 8)).1 (smP (nxF xs (t + 1) 8)).2 bsX bsY, paY (smP (nxF xs (t + 1) 8)).1 (smP (nxF xs (t + 1) 8)).2 bsX bsY)) := by show _ = _; rw [HR.out, if_neg (by decide), if_pos rfl]
    clear HR
    go_wp2_with fail
    refine (NY.out w1 8 S1 hr1 (by decide) (by decide)).mono ?_
    rintro e w2 ⟨rfl, ⟨r0, r1⟩, S2, O2⟩
    have z2 := O2.size
    replace TZ := TZ.of_block' (O2.block w.heap.size (by omega))
    replace N := N.only O2
    clear O2 S2 S1 NY CH NW DB
    obtain ⟨j, hj⟩ : ∃ j, j = nxF xs (t + 1) 8 := ⟨_, rfl⟩
    rw [← hj] at r0 r1 HD ⊢
    clear hj
    have SM := hide (l5SmallV_any w2 j r0 (by omega))
    have SK := hide (smP_ok j)
    generalize smP j = X at *
    go_wp2_with fail
    refine SM.out.mono ?_
    rintro r w3 ⟨⟨a3, a3', c3, c3', g3, g3', rfl, o3, o3', l3, l3'⟩, n3⟩
    have z3 := n3.size
    replace TZ := TZ.up n3
    replace N := N.trans (But.ofBelow n3)
    clear n3 SM
    have SB : Hid (Calls Tryz.prog 60 #[] w3 fun r w' => NewPt w3.heap.size w' r bsX bsY ∧ Below w3.heap.size w3 w') := specBase_any w3
    have BB := hide bs_byt
    generalize bsX = bx at *
    generalize bsY = by' at *
    go_wp2_with fail
    refine SB.out.mono ?_
    rintro r w4 ⟨⟨a4, a4', c4, c4', g4, g4', rfl, o4, o4', l4, l4'⟩, n4⟩
    have z4 := n4.size
    replace TZ := TZ.up n4
    replace N := N.trans (But.ofBelow n4)
    replace o3 := o3.up n4
    replace o3' := o3'.up n4
    clear n4 SB
    have AD := hide (specPointAdd_any w4 g3 g3' g4 g4' a3 a3' a4 a4' c3 c3' c4 c4' X.1 X.2 bx by' o3.rd o3'.rd o4.rd o4'.rd SK.out.1.1 SK.out.2.1 BB.out.1 BB.out.2)
    generalize paX X.1 X.2 bx by' = PX at *
    generalize paY X.1 X.2 bx by' = PY at *
    go_wp2_with fail
    refine AD.out.mono ?_
    rintro r w5 ⟨⟨a1, a1', c1, c1', g1, g1', rfl, o1, o1', l1, l1'⟩, n3⟩
    have z5 := n3.size
    replace TZ := TZ.up n3
    replace N := N.trans (But.ofBelow n3)
    clear n3 AD
    obtain ⟨y0, y1, v0, v1⟩ := TZ
    have O := (Only.setCell w5 w.heap.size 0 (.slice a1 PX.length c1)).trans (Only.setCell _ w.heap.size 1 (.slice a1' PY.length c1'))
    go_wp2
    refine bodyPost_ret (v := .agg #[.slice a1 PX.length c1, .slice a1' PY.length c1']) (by simp [results, Tryz.results111, go_sem, y0, y1]) rfl ⟨?_, (N.setCell (Nat.le_refl _)).setCell (Nat.le_refl _)⟩
    rw [HD.out]
    exact ⟨a1, a1', c1, c1', g1, g1', rfl, o1.only O (fun _ => by omega), o1'.only O (fun _ => by omega), by omega, by omega⟩
  · have HD : Hid (R = (plX (tmP (fill (dig (inF (nxF xs (t + 1) 1000))) 32) bsX bsY), plY (tmP (fill (dig (inF (nxF xs (t + 1) 1000))) 32) bsX bsY))) := by show _ = _; rw [HR.out, if_neg (by decide), if_neg (by decide), if_pos (by decide)]
    clear HR
    go_wp2_with fail
    refine (NY.out w1 1000 S1 hr1 (by decide) (by decide)).mono ?_
    rintro e w2 ⟨rfl, ⟨r0, r1⟩, S2, O2⟩
    have z2 := O2.size
    replace TZ := TZ.of_block' (O2.block w.heap.size (by omega))
    replace N := N.only O2
    clear O2 S2 S1 NY CH NW DB
    obtain ⟨j, hj⟩ : ∃ j, j = nxF xs (t + 1) 1000 := ⟨_, rfl⟩
    rw [← hj] at r0 r1 HD ⊢
    clear hj
    have SI := hide (l1IntV_any w2 j r0 (by omega))
    have IB := hide (inF_byt r0 (by omega))
    clear r0 r1
    generalize inF j = I at *
    go_wp2_with fail
    refine SI.out.mono ?_
    rintro r w3 ⟨⟨a3, c3, g3, rfl, o3, _, _, l3⟩, n3⟩
    have z3 := n3.size
    replace TZ := TZ.up n3
    replace N := N.trans (But.ofBelow n3)
    clear n3 SI
    have SL := hide (l1Little_any w3 g3 a3 c3 I 32 o3.rd IB.out.1 (by have := IB.out.2; omega) (by omega))
    have KB := hide (dig_bytes_5 IB.out.1 32)
    have KL := hide (fill_len (dig I) 32)
    generalize fill (dig I) 32 = K at *
    go_wp2_with fail
    refine SL.out.mono ?_
    rintro r w4 ⟨rfl, B4, n4⟩
    have z4 := n4.size
    replace TZ := TZ.up n4
    replace N := N.trans (But.ofBelow n4)
    clear n4 SL o3
    have SB : Hid (Calls Tryz.prog 60 #[] w4 fun r w' => NewPt w4.heap.size w' r bsX bsY ∧ Below w4.heap.size w4 w') := specBase_any w4
    have BB := hide bs_ok
    generalize bsX = bx at *
    generalize bsY = by' at *
    go_wp2_with fail
    refine SB.out.mono ?_
    rintro r w5 ⟨⟨a5, a5', c5, c5', g5, g5', rfl, o5, o5', l5, l5'⟩, n5⟩
    have z5 := n5.size
    replace TZ := TZ.up n5
    replace N := N.trans (But.ofBelow n5)
    have o4 := B4.own0.up n5
    clear n5 SB B4
    have ST := hide (l5Times_any w5 w3.heap.size g5 g5' (some ⟨w3.heap.size, 0, none⟩) a5 a5' 32 c5 c5' K bx by' o4.rd KB.out (by rw [KL.out]; omega) o5.rd o5'.rd BB.out.1.1 BB.out.2.1 BB.out.1.2 BB.out.2.2)
    rw [KL.out] at ST
    go_wp2_with fail
    refine ST.out.mono ?_
    rintro r w6 ⟨top, p, x, y, z, hc, hP, rfl, hx, hy, hz, n6⟩
    have z6 := n6.size
    replace TZ := TZ.up n6
    replace N := N.trans (But.ofBelow n6)
    have eP : Hid (tmP K bx by' = p) := by show _ = _; unfold tmP; rw [topF_eq (by rw [KL.out]; exact hc), hP]
    clear n6 ST hc hP o4 o5 o5'
    have SP : Hid (Calls Tryz.prog 78 #[ag48 x y z] w6 fun r w' => NewPt w6.heap.size w' r (plX p) (plY p) ∧ Below w6.heap.size w6 w') := l5Plain_any w6 x y z p.1 p.2.1 p.2.2 hx hy hz
    rw [eP.out] at HD
    clear eP hx hy hz
    generalize plX p = PX at *
    generalize plY p = PY at *
    generalize ag48 x y z = V at *
    go_wp2_with fail
    refine SP.out.mono ?_
    rintro r w7 ⟨⟨a1, a1', c1, c1', g1, g1', rfl, o1, o1', l1, l1'⟩, n3⟩
    have z7 := n3.size
    replace TZ := TZ.up n3
    replace N := N.trans (But.ofBelow n3)
    clear n3 SP
    obtain ⟨y0, y1, v0, v1⟩ := TZ
    have O := (Only.setCell w7 w.heap.size 0 (.slice a1 PX.length c1)).trans (Only.setCell _ w.heap.size 1 (.slice a1' PY.length c1'))
    go_wp2
    refine bodyPost_ret (v := .agg #[.slice a1 PX.length c1, .slice a1' PY.length c1']) (by simp [results, Tryz.results111, go_sem, y0, y1]) rfl ⟨?_, (N.setCell (Nat.le_refl _)).setCell (Nat.le_refl _)⟩
    rw [HD.out]
    exact ⟨a1, a1', c1, c1', g1, g1', rfl, o1.only O (fun _ => by omega), o1'.only O (fun _ => by omega), by omega, by omega⟩
  · have HD : Hid (R = (plX (tmP (fill (dig (inF (nxF xs (t + 1) 1000))) 32) bsX bsY), plY (tmP (fill (dig (inF (nxF xs (t + 1) 1000))) 32) bsX bsY))) := by show _ = _; rw [HR.out, if_neg (by decide), if_neg (by decide), if_pos (by decide)]
    clear HR
    go_wp2_with fail
    refine (NY.out w1 1000 S1 hr1 (by decide) (by decide)).mono ?_
    rintro e w2 ⟨rfl, ⟨r0, r1⟩, S2, O2⟩
    have z2 := O2.size
    replace TZ := TZ.of_block' (O2.block w.heap.size (by omega))
    replace N := N.only O2
    clear O2 S2 S1 NY CH NW DB
    obtain ⟨j, hj⟩ : ∃ j, j = nxF xs (t + 1) 1000 := ⟨_, rfl⟩
    rw [← hj] at r0 r1 HD ⊢
    clear hj
    have SI := hide (l1IntV_any w2 j r0 (by omega))
    have IB := hide (inF_byt r0 (by omega))
    clear r0 r1
    generalize inF j = I at *
    go_wp2_with fail
    refine SI.out.mono ?_
    rintro r w3 ⟨⟨a3, c3, g3, rfl, o3, _, _, l3⟩, n3⟩
    have z3 := n3.size
    replace TZ := TZ.up n3
    replace N := N.trans (But.ofBelow n3)
    clear n3 SI
    have SL := hide (l1Little_any w3 g3 a3 c3 I 32 o3.rd IB.out.1 (by have := IB.out.2; omega) (by omega))
    have KB := hide (dig_bytes_5 IB.out.1 32)
    have KL := hide (fill_len (dig I) 32)
    generalize fill (dig I) 32 = K at *
    go_wp2_with fail
    refine SL.out.mono ?_
    rintro r w4 ⟨rfl, B4, n4⟩
    have z4 := n4.size
    replace TZ := TZ.up n4
    replace N := N.trans (But.ofBelow n4)
    clear n4 SL o3
    have SB : Hid (Calls Tryz.prog 60 #[] w4 fun r w' => NewPt w4.heap.size w' r bsX bsY ∧ Below w4.heap.size w4 w') := specBase_any w4
    have BB := hide bs_ok
    generalize bsX = bx at *
    generalize bsY = by' at *
    go_wp2_with fail
    refine SB.out.mono ?_
    rintro r w5 ⟨⟨a5, a5', c5, c5', g5, g5', rfl, o5, o5', l5, l5'⟩, n5⟩
    have z5 := n5.size
    replace TZ := TZ.up n5
    replace N := N.trans (But.ofBelow n5)
    have o4 := B4.own0.up n5
    clear n5 SB B4
    have ST := hide (l5Times_any w5 w3.heap.size g5 g5' (some ⟨w3.heap.size, 0, none⟩) a5 a5' 32 c5 c5' K bx by' o4.rd KB.out (by rw [KL.out]; omega) o5.rd o5'.rd BB.out.1.1 BB.out.2.1 BB.out.1.2 BB.out.2.2)
    rw [KL.out] at ST
    go_wp2_with fail
    refine ST.out.mono ?_
    rintro r w6 ⟨top, p, x, y, z, hc, hP, rfl, hx, hy, hz, n6⟩
    have z6 := n6.size
    replace TZ := TZ.up n6
    replace N := N.trans (But.ofBelow n6)
    have eP : Hid (tmP K bx by' = p) := by show _ = _; unfold tmP; rw [topF_eq (by rw [KL.out]; exact hc), hP]
    clear n6 ST hc hP o4 o5 o5'
    have SP : Hid (Calls Tryz.prog 78 #[ag48 x y z] w6 fun r w' => NewPt w6.heap.size w' r (plX p) (plY p) ∧ Below w6.heap.size w6 w') := l5Plain_any w6 x y z p.1 p.2.1 p.2.2 hx hy hz
    rw [eP.out] at HD
    clear eP hx hy hz
    generalize plX p = PX at *
    generalize plY p = PY at *
    generalize ag48 x y z = V at *
    go_wp2_with fail
    refine SP.out.mono ?_
    rintro r w7 ⟨⟨a1, a1', c1, c1', g1, g1', rfl, o1, o1', l1, l1'⟩, n3⟩
    have z7 := n3.size
    replace TZ := TZ.up n3
    replace N := N.trans (But.ofBelow n3)
    clear n3 SP
    obtain ⟨y0, y1, v0, v1⟩ := TZ
    have O := (Only.setCell w7 w.heap.size 0 (.slice a1 PX.length c1)).trans (Only.setCell _ w.heap.size 1 (.slice a1' PY.length c1'))
    go_wp2
    refine bodyPost_ret (v := .agg #[.slice a1 PX.length c1, .slice a1' PY.length c1']) (by simp [results, Tryz.results111, go_sem, y0, y1]) rfl ⟨?_, (N.setCell (Nat.le_refl _)).setCell (Nat.le_refl _)⟩
    rw [HD.out]
    exact ⟨a1, a1', c1, c1', g1, g1', rfl, o1.only O (fun _ => by omega), o1'.only O (fun _ => by omega), by omega, by omega⟩
  · have HE := HR.out
    rw [if_neg (by decide), if_neg (by decide), if_neg (by decide), if_pos rfl] at HE
    replace HR := hide HE
    clear HE
    go_wp2_with fail
    refine (CH.out w1 S1 hr1).mono ?_
    rintro e w2 ⟨rfl, S2, O2⟩
    have z2 := O2.size
    replace TZ := TZ.of_block' (O2.block w.heap.size (by omega))
    replace N := N.only O2
    have hr2 := hr.but N hne
    clear O2 S1 hr1 CH
    generalize nxF xs (t + 1) 2 = q at *
    by_cases hq : q = 0
    · subst hq
      rw [if_pos rfl] at HR
      have SB : Hid (Calls Tryz.prog 60 #[] w2 fun r w' => NewPt w2.heap.size w' r bsX bsY ∧ Below w2.heap.size w2 w') := specBase_any w2
      rw [show ((0 : Int) == 0) = true from rfl]
      generalize bsX = bx at *
      generalize bsY = by' at *
      go_wp2_with fail
      refine SB.out.mono ?_
      rintro r w3 ⟨⟨a4, a4', c4, c4', g4, g4', rfl, o4, o4', l4, l4'⟩, n3⟩
      have z3 := n3.size
      have TP := Two.new w3 (.slice a4 bx.length c4) (.slice a4' by'.length c4') 37
      have n4 : Below w3.heap.size w3 (w3.alloc (.cells #[.slice a4 bx.length c4, .slice a4' by'.length c4'] 37)) := (Below.refl _ _).alloc (Nat.le_refl _) _
      have zl : w3.heap.size < (w3.alloc (.cells #[.slice a4 bx.length c4, .slice a4' by'.length c4'] 37)).heap.size := TP.lt
      have q4 := hide (fun h => o4.rd.lt h)
      have q4' := hide (fun h => o4'.rd.lt h)
      replace TZ := (TZ.up n3).up n4
      replace N := (N.trans (But.ofBelow n3)).trans (But.ofBelow n4)
      replace S2 := (S2.up n3).up n4
      replace o4 := o4.up n4
      replace o4' := o4'.up n4
      have hr3 := hr.but N hne
      clear n3 n4 SB hr2
      go_wp2_with fail
      generalize w3.alloc (.cells #[.slice a4 bx.length c4, .slice a4' by'.length c4'] 37) = w4 at *
      refine (NW.out w4 S2 hr3).mono ?_
      rintro e w5 ⟨rfl, ⟨r0, r1⟩, S5, O5⟩
      have z5 : w4.heap.size ≤ w5.heap.size := Nat.le_of_eq O5.size.symm
      replace TZ := TZ.of_block' (O5.block w.heap.size (by omega))
      replace TP := TP.of_block' (O5.block w3.heap.size (by omega))
      replace o4 := o4.only O5 (fun _ => by omega)
      replace o4' := o4'.only O5 (fun _ => by omega)
      replace N := N.only O5
      have hr5 := hr.but N hne
      clear O5 S2 hr3 NW NY
      generalize nxF xs (t + 1 + 1) 4 = j at *
      rcases (show j = 0 ∨ j = 1 ∨ j = 2 ∨ j = 3 by omega) with rfl | rfl | rfl | rfl
      · have HD : Hid (R = (dbF xs (t + 1 + 1 + 1) 32, by')) := by show _ = _; rw [HR.out, if_pos rfl]
        clear HR
        go_wp2_with fail
        refine (DB.out w5 (t + 1 + 1 + 1) 32 S5 hr5 (by omega) (by omega)).mono ?_
        rintro e w6 ⟨⟨a6, c6, g6, rfl, o6, _, _, l6⟩, S6, N6⟩
        have z6 := N6.size
        have z6p := TP.lt
        replace TZ := TZ.of_block' (N6.block w.heap.size (by omega) (by omega))
        replace TP := TP.of_block' (N6.block w3.heap.size (by omega) (by omega))
        replace o4 := o4.but N6 (fun _ => by omega)
        replace o4' := o4'.but N6 (fun _ => by omega)
        replace N := N.trans N6
        clear N6 S6 S5 DB
        generalize dbF xs (t + 1 + 1 + 1) 32 = D at *
        have O4 := Only.setCell w6 w3.heap.size 0 (.slice a6 D.length c6)
        have TP' := TP.put0 (.slice a6 D.length c6)
        replace TZ := TZ.of_block' (O4.block w.heap.size (by omega))
        replace N : But s w (w6.setCell ⟨w3.heap.size, 0, none⟩ (.slice a6 D.length c6)) := N.setCell (by omega)
        replace o6 := o6.only O4 (fun _ => by omega)
        replace o4 := o4.only O4 (fun h => by have := q4.out h; omega)
        replace o4' := o4'.only O4 (fun h => by have := q4'.out h; omega)
        obtain ⟨q0, q1, qf0, qf1⟩ := TP
        have TP := TP'
        clear TP' O4
        go_upto_region 19 with fail
        generalize w6.setCell ⟨w3.heap.size, 0, none⟩ (.slice a6 D.length c6) = w9 at *
        obtain ⟨p0, p1, pf0, pf1⟩ := TP
        obtain ⟨y0, y1, v0, v1⟩ := TZ
        have O := (Only.setCell w9 w.heap.size 0 (.slice a6 D.length c6)).trans (Only.setCell _ w.heap.size 1 (.slice a4' by'.length c4'))
        go_wp2
        refine bodyPost_ret (v := .agg #[.slice a6 D.length c6, .slice a4' by'.length c4']) (by simp [results, Tryz.results111, go_sem, y0, y1]) rfl ⟨?_, (N.setCell (Nat.le_refl _)).setCell (Nat.le_refl _)⟩
        rw [HD.out]
        exact ⟨a6, a4', c6, c4', g6, g4', rfl, o6.only O (fun _ => by omega), o4'.only O (fun _ => by omega), by omega, by omega⟩
      · have HD : Hid (R = (bx, dbF xs (t + 1 + 1 + 1) 31)) := by show _ = _; rw [HR.out, if_neg (by decide), if_pos rfl]
        clear HR
        go_wp2_with fail
        refine (DB.out w5 (t + 1 + 1 + 1) 31 S5 hr5 (by omega) (by omega)).mono ?_
        rintro e w6 ⟨⟨a6, c6, g6, rfl, o6, _, _, l6⟩, S6, N6⟩
        have z6 := N6.size
        have z6p := TP.lt
        replace TZ := TZ.of_block' (N6.block w.heap.size (by omega) (by omega))
        replace TP := TP.of_block' (N6.block w3.heap.size (by omega) (by omega))
        replace o4 := o4.but N6 (fun _ => by omega)
        replace o4' := o4'.but N6 (fun _ => by omega)
        replace N := N.trans N6
        clear N6 S6 S5 DB
        generalize dbF xs (t + 1 + 1 + 1) 31 = D at *
        have O4 := Only.setCell w6 w3.heap.size 1 (.slice a6 D.length c6)
        have TP' := TP.put1 (.slice a6 D.length c6)
        replace TZ := TZ.of_block' (O4.block w.heap.size (by omega))
        replace N : But s w (w6.setCell ⟨w3.heap.size, 1, none⟩ (.slice a6 D.length c6)) := N.setCell (by omega)
        replace o6 := o6.only O4 (fun _ => by omega)
        replace o4 := o4.only O4 (fun h => by have := q4.out h; omega)
        replace o4' := o4'.only O4 (fun h => by have := q4'.out h; omega)
        obtain ⟨q0, q1, qf0, qf1⟩ := TP
        have TP := TP'
        clear TP' O4
        go_upto_region 19 with fail
        generalize w6.setCell ⟨w3.heap.size, 1, none⟩ (.slice a6 D.length c6) = w9 at *
        obtain ⟨p0, p1, pf0, pf1⟩ := TP
        obtain ⟨y0, y1, v0, v1⟩ := TZ
        have O := (Only.setCell w9 w.heap.size 0 (.slice a4 bx.length c4)).trans (Only.setCell _ w.heap.size 1 (.slice a6 D.length c6))
        go_wp2
        refine bodyPost_ret (v := .agg #[.slice a4 bx.length c4, .slice a6 D.length c6]) (by simp [results, Tryz.results111, go_sem, y0, y1]) rfl ⟨?_, (N.setCell (Nat.le_refl _)).setCell (Nat.le_refl _)⟩
        rw [HD.out]
        exact ⟨a4, a6, c4, c6, g4, g6, rfl, o4.only O (fun _ => by omega), o6.only O (fun _ => by omega), by omega, by omega⟩
      · obtain ⟨PB, hPB⟩ : ∃ PB, PB = fill (dig pbytes) 32 := ⟨_, rfl⟩
        obtain ⟨QB, hQB⟩ : ∃ QB, QB = fill (byt (1 % PP)) 32 := ⟨_, rfl⟩
        have HD : Hid (R = (PB, QB)) := by show _ = _; rw [HR.out, if_neg (by decide), if_neg (by decide), if_pos rfl, hPB, hQB]
        have L7 : Hid (PB.length = 32) := by show _ = _; rw [hPB, fill_len]
        have HPB := hide hPB.symm
        have HQB := hide hQB.symm
        clear HR hPB hQB
        have PR := hide (l2Prime_any w5)
        have PY := hide pbytes_byt
        have PL := hide pbytes_len
        generalize pbytes = pb at *
        go_wp2_with fail
        refine PR.out.mono ?_
        rintro e w6 ⟨rfl, B6, n6⟩
        have z6 := n6.size
        replace TZ := TZ.up n6
        replace TP := TP.up n6
        replace N := N.trans (But.ofBelow n6)
        clear n6
        have SL := hide (l1Little_any w6 w5.heap.size (some ⟨w5.heap.size, 0, none⟩) 32 pb 32 B6.own0.rd PY.out (by rw [PL.out]; omega) (by omega))
        clear B6
        go_wp2_with fail
        refine SL.out.mono ?_
        rintro e w7 ⟨rfl, B7, n7⟩
        have z7 := n7.size
        replace TZ := TZ.up n7
        replace TP := TP.up n7
        replace N := N.trans (But.ofBelow n7)
        clear n7 SL
        have o7 := B7.own0
        rw [HPB.out] at o7
        clear HPB B7
        go_wp2_with fail
        refine (l2Small_any w7 1 (by decide)).mono ?_
        rintro e w8 ⟨f, rfl, hf, hfv, n8⟩
        have z8 := n8.size
        replace TZ := TZ.up n8
        replace TP := TP.up n8
        replace N := N.trans (But.ofBelow n8)
        replace o7 := o7.up n8
        have SY := hide (l2Bytes_any w8 f hf)
        rw [hfv, HQB.out] at SY
        clear n8 hf hfv HQB
        generalize ag16 f = V at *
        go_wp2_with fail
        refine SY.out.mono ?_
        rintro e wa ⟨⟨a8, c8, g8, rfl, o8, _, _, l8⟩, na⟩
        have za := na.size
        replace TZ := TZ.up na
        replace TP := TP.up na
        replace N := N.trans (But.ofBelow na)
        replace o7 := o7.up na
        clear na SY
        have O4 := (Only.setCell wa w3.heap.size 0 (.slice (some ⟨w6.heap.size, 0, none⟩) 32 32)).trans (Only.setCell _ w3.heap.size 1 (.slice a8 QB.length c8))
        have TP' := TP.put (.slice (some ⟨w6.heap.size, 0, none⟩) 32 32) (.slice a8 QB.length c8)
        replace TZ := TZ.of_block' (O4.block w.heap.size (by omega))
        replace N : But s w ((wa.setCell ⟨w3.heap.size, 0, none⟩ (.slice (some ⟨w6.heap.size, 0, none⟩) 32 32)).setCell ⟨w3.heap.size, 1, none⟩ (.slice a8 QB.length c8)) := (N.setCell (by omega)).setCell (by omega)
        obtain ⟨q0, q1, qf0, qf1⟩ := TP
        have TP := TP'
        clear TP'
        replace o7 := o7.only O4 (fun _ => by omega)
        replace o8 := o8.only O4 (fun _ => by omega)
        clear O4
        go_upto_region 19 with fail
        generalize (wa.setCell ⟨w3.heap.size, 0, none⟩ (.slice (some ⟨w6.heap.size, 0, none⟩) 32 32)).setCell ⟨w3.heap.size, 1, none⟩ (.slice a8 QB.length c8) = w9 at *
        obtain ⟨p0, p1, pf0, pf1⟩ := TP
        obtain ⟨y0, y1, v0, v1⟩ := TZ
        have O := (Only.setCell w9 w.heap.size 0 (.slice (some ⟨w6.heap.size, 0, none⟩) 32 32)).trans (Only.setCell _ w.heap.size 1 (.slice a8 QB.length c8))
        go_wp2
        refine bodyPost_ret (v := .agg #[.slice (some ⟨w6.heap.size, 0, none⟩) 32 32, .slice a8 QB.length c8]) (by simp [results, Tryz.results111, go_sem, y0, y1]) rfl ⟨?_, (N.setCell (Nat.le_refl _)).setCell (Nat.le_refl _)⟩
        rw [HD.out]
        exact ⟨(some ⟨w6.heap.size, 0, none⟩), a8, 32, c8, w6.heap.size, g8, by rw [L7.out], o7.only O (fun _ => by omega), o8.only O (fun _ => by omega), by omega, by omega⟩
      · have HD : Hid (R = ([], [])) := by show _ = _; rw [HR.out, if_neg (by decide), if_neg (by decide), if_neg (by decide)]
        clear HR
        have O4 := (Only.setCell w5 w3.heap.size 0 (.slice none 0 0)).trans (Only.setCell _ w3.heap.size 1 (.slice none 0 0))
        have TP' := TP.put (.slice none 0 0) (.slice none 0 0)
        replace TZ := TZ.of_block' (O4.block w.heap.size (by omega))
        replace N : But s w ((w5.setCell ⟨w3.heap.size, 0, none⟩ (.slice none 0 0)).setCell ⟨w3.heap.size, 1, none⟩ (.slice none 0 0)) := (N.setCell (by omega)).setCell (by omega)
        obtain ⟨q0, q1, qf0, qf1⟩ := TP
        have TP := TP'
        clear TP'
        clear O4
        go_upto_region 19 with fail
        generalize (w5.setCell ⟨w3.heap.size, 0, none⟩ (.slice none 0 0)).setCell ⟨w3.heap.size, 1, none⟩ (.slice none 0 0) = w9 at *
        obtain ⟨p0, p1, pf0, pf1⟩ := TP
        obtain ⟨y0, y1, v0, v1⟩ := TZ
        have O := (Only.setCell w9 w.heap.size 0 (.slice none 0 0)).trans (Only.setCell _ w.heap.size 1 (.slice none 0 0))
        go_wp2
        refine bodyPost_ret (v := .agg #[.slice none 0 0, .slice none 0 0]) (by simp [results, Tryz.results111, go_sem, y0, y1]) rfl ⟨?_, (N.setCell (Nat.le_refl _)).setCell (Nat.le_refl _)⟩
        rw [HD.out]
        exact ⟨none, none, 0, 0, w.heap.size, w.heap.size, rfl, Own.nil _ _ _ _, Own.nil _ _ _ _, by omega, by omega⟩
    · rw [show (q == 0) = false from beq_eq_false_iff_ne.2 hq]
      rw [if_neg hq] at HR
      have HD := HR
      clear HR hq
      go_wp2_with fail
      refine (DB.out w2 (t + 1 + 1) 32 S2 hr2 (by omega) (by omega)).mono ?_
      rintro e w8 ⟨⟨a8, c8, g8, rfl, o8, _, _, l8⟩, S8, N8⟩
      have z8 := N8.size
      have LB := hide (dbF_len xs (t + 1 + 1) 32)
      have BY := hide (dbF_byt xs (t + 1 + 1) 32)
      replace TZ := TZ.of_block' (N8.block w.heap.size (by omega) (by omega))
      replace N := N.trans N8
      clear N8 S8 DB NY NW S2
      generalize dbF xs (t + 1 + 1) 32 = B at *
      rw [LB.out]
      obtain ⟨o8f, ea, _⟩ := id o8 (by rw [LB.out]; decide)
      subst ea
      have zg := o8.rd.lt (by rw [LB.out]; decide)
      have FD := hide (l5Find_any w8 g8 o8f c8 B o8 BY.out LB.out)
      generalize fdP 40 B = X at *
      go_wp2_with fail
      refine FD.out.mono ?_
      rintro r w9 ⟨⟨a1, a1', c1, c1', g1, g1', rfl, o1, o1', l1, l1'⟩, n3⟩
      have z9 := n3.size
      replace TZ := TZ.of_block' (n3.block w.heap.size (by omega) (by omega))
      have N2 : But s w w9 := ⟨n3.os.trans N.os, n3.tape.trans N.tape, n3.output.trans N.output, Nat.le_trans N.size n3.size, fun i hi hn => (n3.block i (by omega) (by omega)).trans (N.block i hi hn)⟩
      clear n3 N FD o8
      obtain ⟨y0, y1, v0, v1⟩ := TZ
      have O := (Only.setCell w9 w.heap.size 0 (.slice a1 X.1.length c1)).trans (Only.setCell _ w.heap.size 1 (.slice a1' X.2.length c1'))
      go_wp2
      refine bodyPost_ret (v := .agg #[.slice a1 X.1.length c1, .slice a1' X.2.length c1']) (by simp [results, Tryz.results111, go_sem, y0, y1]) rfl ⟨?_, (N2.setCell (Nat.le_refl _)).setCell (Nat.le_refl _)⟩
      rw [HD.out]
      exact ⟨a1, a1', c1, c1', g1, g1', rfl, o1.only O (fun _ => by omega), o1'.only O (fun _ => by omega), by omega, by omega⟩
  · have HD : Hid (R = fdP 40 (dbF xs (t + 1) 32)) := by show _ = _; rw [HR.out, if_neg (by decide), if_neg (by decide), if_neg (by decide), if_neg (by decide)]
    clear HR
    go_wp2_with fail
    refine (DB.out w1 (t + 1) 32 S1 hr1 (by omega) (by omega)).mono ?_
    rintro e w8 ⟨⟨a8, c8, g8, rfl, o8, _, _, l8⟩, S8, N8⟩
    have z8 := N8.size
    have LB := hide (dbF_len xs (t + 1) 32)
    have BY := hide (dbF_byt xs (t + 1) 32)
    replace TZ := TZ.of_block' (N8.block w.heap.size (by omega) (by omega))
    replace N := N.trans N8
    clear N8 S8 DB NY CH NW S1
    generalize dbF xs (t + 1) 32 = B at *
    rw [LB.out]
    obtain ⟨o8f, ea, _⟩ := id o8 (by rw [LB.out]; decide)
    subst ea
    have zg := o8.rd.lt (by rw [LB.out]; decide)
    have FD := hide (l5Find_any w8 g8 o8f c8 B o8 BY.out LB.out)
    generalize fdP 40 B = X at *
    go_wp2_with fail
    refine FD.out.mono ?_
    rintro r w9 ⟨⟨a1, a1', c1, c1', g1, g1', rfl, o1, o1', l1, l1'⟩, n3⟩
    have z9 := n3.size
    replace TZ := TZ.of_block' (n3.block w.heap.size (by omega) (by omega))
    have N2 : But s w w9 := ⟨n3.os.trans N.os, n3.tape.trans N.tape, n3.output.trans N.output, Nat.le_trans N.size n3.size, fun i hi hn => (n3.block i (by omega) (by omega)).trans (N.block i hi hn)⟩
    clear n3 N FD o8
    obtain ⟨y0, y1, v0, v1⟩ := TZ
    have O := (Only.setCell w9 w.heap.size 0 (.slice a1 X.1.length c1)).trans (Only.setCell _ w.heap.size 1 (.slice a1' X.2.length c1'))
    go_wp2
    refine bodyPost_ret (v := .agg #[.slice a1 X.1.length c1, .slice a1' X.2.length c1']) (by simp [results, Tryz.results111, go_sem, y0, y1]) rfl ⟨?_, (N2.setCell (Nat.le_refl _)).setCell (Nat.le_refl _)⟩
    rw [HD.out]
    exact ⟨a1, a1', c1, c1', g1, g1', rfl, o1.only O (fun _ => by omega), o1'.only O (fun _ => by omega), by omega, by omega⟩
  · have HD : Hid (R = fdP 40 (dbF xs (t + 1) 32)) := by show _ = _; rw [HR.out, if_neg (by decide), if_neg (by decide), if_neg (by decide), if_neg (by decide)]
    clear HR
    go_wp2_with fail
    refine (DB.out w1 (t + 1) 32 S1 hr1 (by omega) (by omega)).mono ?_
    rintro e w8 ⟨⟨a8, c8, g8, rfl, o8, _, _, l8⟩, S8, N8⟩
    have z8 := N8.size
    have LB := hide (dbF_len xs (t + 1) 32)
    have BY := hide (dbF_byt xs (t + 1) 32)
    replace TZ := TZ.of_block' (N8.block w.heap.size (by omega) (by omega))
    replace N := N.trans N8
    clear N8 S8 DB NY CH NW S1
    generalize dbF xs (t + 1) 32 = B at *
    rw [LB.out]
    obtain ⟨o8f, ea, _⟩ := id o8 (by rw [LB.out]; decide)
    subst ea
    have zg := o8.rd.lt (by rw [LB.out]; decide)
    have FD := hide (l5Find_any w8 g8 o8f c8 B o8 BY.out LB.out)
    generalize fdP 40 B = X at *
    go_wp2_with fail
    refine FD.out.mono ?_
    rintro r w9 ⟨⟨a1, a1', c1, c1', g1, g1', rfl, o1, o1', l1, l1'⟩, n3⟩
    have z9 := n3.size
    replace TZ := TZ.of_block' (n3.block w.heap.size (by omega) (by omega))
    have N2 : But s w w9 := ⟨n3.os.trans N.os, n3.tape.trans N.tape, n3.output.trans N.output, Nat.le_trans N.size n3.size, fun i hi hn => (n3.block i (by omega) (by omega)).trans (N.block i hi hn)⟩
    clear n3 N FD o8
    obtain ⟨y0, y1, v0, v1⟩ := TZ
    have O := (Only.setCell w9 w.heap.size 0 (.slice a1 X.1.length c1)).trans (Only.setCell _ w.heap.size 1 (.slice a1' X.2.length c1'))
    go_wp2
    refine bodyPost_ret (v := .agg #[.slice a1 X.1.length c1, .slice a1' X.2.length c1']) (by simp [results, Tryz.results111, go_sem, y0, y1]) rfl ⟨?_, (N2.setCell (Nat.le_refl _)).setCell (Nat.le_refl _)⟩
    rw [HD.out]
    exact ⟨a1, a1', c1, c1', g1, g1', rfl, o1.only O (fun _ => by omega), o1'.only O (fun _ => by omega), by omega, by omega⟩
  · have HD : Hid (R = fdP 40 (dbF xs (t + 1) 32)) := by show _ = _; rw [HR.out, if_neg (by decide), if_neg (by decide), if_neg (by decide), if_neg (by decide)]
    clear HR
    go_wp2_with fail
    refine (DB.out w1 (t + 1) 32 S1 hr1 (by omega) (by omega)).mono ?_
    rintro e w8 ⟨⟨a8, c8, g8, rfl, o8, _, _, l8⟩, S8, N8⟩
    have z8 := N8.size
    have LB := hide (dbF_len xs (t + 1) 32)
    have BY := hide (dbF_byt xs (t + 1) 32)
    replace TZ := TZ.of_block' (N8.block w.heap.size (by omega) (by omega))
    replace N := N.trans N8
    clear N8 S8 DB NY CH NW S1
    generalize dbF xs (t + 1) 32 = B at *
    rw [LB.out]
    obtain ⟨o8f, ea, _⟩ := id o8 (by rw [LB.out]; decide)
    subst ea
    have zg := o8.rd.lt (by rw [LB.out]; decide)
    have FD := hide (l5Find_any w8 g8 o8f c8 B o8 BY.out LB.out)
    generalize fdP 40 B = X at *
    go_wp2_with fail
    refine FD.out.mono ?_
    rintro r w9 ⟨⟨a1, a1', c1, c1', g1, g1', rfl, o1, o1', l1, l1'⟩, n3⟩
    have z9 := n3.size
    replace TZ := TZ.of_block' (n3.block w.heap.size (by omega) (by omega))
    have N2 : But s w w9 := ⟨n3.os.trans N.os, n3.tape.trans N.tape, n3.output.trans N.output, Nat.le_trans N.size n3.size, fun i hi hn => (n3.block i (by omega) (by omega)).trans (N.block i hi hn)⟩
    clear n3 N FD o8
    obtain ⟨y0, y1, v0, v1⟩ := TZ
    have O := (Only.setCell w9 w.heap.size 0 (.slice a1 X.1.length c1)).trans (Only.setCell _ w.heap.size 1 (.slice a1' X.2.length c1'))
    go_wp2
    refine bodyPost_ret (v := .agg #[.slice a1 X.1.length c1, .slice a1' X.2.length c1']) (by simp [results, Tryz.results111, go_sem, y0, y1]) rfl ⟨?_, (N2.setCell (Nat.le_refl _)).setCell (Nat.le_refl _)⟩
    rw [HD.out]
    exact ⟨a1, a1', c1, c1', g1, g1', rfl, o1.only O (fun _ => by omega), o1'.only O (fun _ => by omega), by omega, by omega⟩
end Go.Proofs.YtnaaanefndeafaaGreatDoor

/-
  The point that a law draws.
-/
namespace Go.Proofs.YtnaaanefndeafaaGreatDoor
set_option maxRecDepth 100000
open Go Go.RowKit

theorem dc_byt (ys : List Int) : Byt (dcX ys) ∧ Byt (dcY ys) := by
  unfold dcX dcY
  by_cases h : dcB ys = true
  · rw [if_pos h, if_pos h]
    exact li_byt _ _
  · rw [if_neg h, if_neg h]
    exact ⟨byt_nil, byt_nil⟩
def BytP (p : List Int × List Int) : Prop := Byt p.1 ∧ Byt p.2
theorem bytP_mk {x y : List Int} (h : Byt x ∧ Byt y) : BytP (x, y) := h
theorem fdP_byt : ∀ n ys, BytP (fdP n ys)
  | 0, _ => by rw [fdP]; exact bytP_mk (li_byt _ _)
  | n + 1, ys => by
    rw [fdP]
    by_cases h : dcB ys = true
    · rw [if_pos h]
      exact bytP_mk (dc_byt ys)
    · rw [if_neg h]
      exact fdP_byt n _
theorem pa_byt (px py qx qy : List Int) : Byt (paX px py qx qy) ∧ Byt (paY px py qx qy) := by
  unfold paX paY
  by_cases h : validP px py = true ∧ validP qx qy = true
  · rw [if_pos h, if_pos h]
    exact ⟨bytes_5 _ _, bytes_5 _ _⟩
  · rw [if_neg h, if_neg h]
    exact ⟨byt_nil, byt_nil⟩
theorem ptok_byt {xs ys : List Int} (h : PtOk xs ys) : Byt xs ∧ Byt ys := ⟨h.1.1, h.2.1⟩
theorem smP_byt (k : Int) : BytP (smP k) := ptok_byt (smP_ok k)
theorem drP_byt (xs : List Int) (t : Int) : BytP (drP xs t) := by
  unfold drP
  by_cases h0 : nxF xs t 8 = 0
  · rw [if_pos h0]; exact smP_byt _
  rw [if_neg h0]
  by_cases h1 : nxF xs t 8 = 1
  · rw [if_pos h1]; exact bytP_mk (pa_byt _ _ _ _)
  rw [if_neg h1]
  by_cases h2 : nxF xs t 8 < 4
  · rw [if_pos h2]; exact bytP_mk (ptok_byt (pl_ok _))
  rw [if_neg h2]
  by_cases h4 : nxF xs t 8 = 4
  · rw [if_pos h4]
    by_cases h5 : nxF xs (t + 1) 2 = 0
    · rw [if_pos h5]
      by_cases j0 : nxF xs (t + 1 + 1) 4 = 0
      · rw [if_pos j0]; exact bytP_mk ⟨dbF_byt _ _ _, bs_byt.2⟩
      rw [if_neg j0]
      by_cases j1 : nxF xs (t + 1 + 1) 4 = 1
      · rw [if_pos j1]; exact bytP_mk ⟨bs_byt.1, dbF_byt _ _ _⟩
      rw [if_neg j1]
      by_cases j2 : nxF xs (t + 1 + 1) 4 = 2
      · rw [if_pos j2]; exact bytP_mk ⟨dig_bytes_5 pbytes_byt 32, bytes_5 _ _⟩
      rw [if_neg j2]
      exact bytP_mk ⟨byt_nil, byt_nil⟩
    · rw [if_neg h5]; exact fdP_byt _ _
  · rw [if_neg h4]; exact fdP_byt _ _
theorem Below.ofBut {w w1 w2 : World} {s : Nat} (h : Below w.heap.size w w1) (k : But s w1 w2) (hs : w.heap.size ≤ s) : Below w.heap.size w w2 :=
  ⟨k.os.trans h.os, k.tape.trans h.tape, k.output.trans h.output, Nat.le_trans h.size k.size, fun i hi => (k.block i (Nat.lt_of_lt_of_le hi h.size) (by omega)).trans (h.block i hi)⟩
set_option maxHeartbeats 400000 in
theorem l1SourceB_any (w : World) (a : Option Addr) (n c : Nat) (hn : n ≤ 4194304) :
    Calls Tryz.prog 39 #[.slice a n c] w fun e w' => e = .returned (.pointer (some ⟨w.heap.size, 0, none⟩)) ∧ Src w' w.heap.size a n c 0 ∧ Below w.heap.size w w' := by
  by_cases h : 12 < (n : Int) / 16
  · have t1 : decide (12 < (n : Int) / 16) = true := by simp; omega
    go_enter Tryz.func39, Tryz.ntmps39
    go_wp2
    go_ret
    exact ⟨rfl, ⟨by simp [World.cell?_alloc_at], by simp [World.cell?_alloc_at], by simp [World.frozen?_alloc_at]⟩, (Below.refl _ _).alloc (Nat.le_refl _) _⟩
  · have t1 : decide (12 < (n : Int) / 16) = false := by simp; omega
    go_enter Tryz.func39, Tryz.ntmps39
    go_wp2
    go_ret
    exact ⟨rfl, ⟨by simp [World.cell?_alloc_at], by simp [World.cell?_alloc_at], by simp [World.frozen?_alloc_at]⟩, (Below.refl _ _).alloc (Nat.le_refl _) _⟩
set_option maxHeartbeats 1000000 in
theorem drawNeg_any (w : World) (g : Nat) (a : Option Addr) (c : Nat) (xs : List Int) (hr : Rd w g a .u8 xs) (hb : Byt xs) (hl : xs.length ≤ 4194304) :
    Calls Tryz.prog 58 #[.slice a xs.length c] w fun r w' => NewPt w.heap.size w' r (drP xs 0).1 (drP xs 0).2 ∧ Below w.heap.size w w' := by
  have TZ : Two (w.alloc pObj) w.heap.size (.slice none 0 0) (.slice none 0 0) := Two.new w (.slice none 0 0) (.slice none 0 0) 37
  have N : Below w.heap.size w (w.alloc pObj) := (Below.refl _ _).alloc (Nat.le_refl _) _
  have DW := hide (fun W (s : Nat) (hs : Src W s a xs.length c 0) (h : Rd W g a .u8 xs) (hn : 0 < xs.length → g ≠ s) => l5DrawV_any W s g a c xs 0 hs h hn hb hl (by decide) (by decide))
  have SO := hide (fun W => l1SourceB_any W a xs.length c hl)
  have hg := hide (fun h => hr.lt h)
  generalize drP xs 0 = X at *
  go_enter Tryz.func58, Tryz.ntmps58
  go_upto_region 1 with fail
  change Code.wp _ _ _ _ (w.alloc pObj)
  generalize w.alloc pObj = wz at *
  go_wp2_with fail
  refine (SO.out wz).mono ?_
  rintro e w1 ⟨rfl, S1, n1⟩
  have zz := TZ.lt
  have z1 := n1.size
  replace TZ := TZ.up n1
  replace N := nxt N n1
  have hr1 := hr.up N
  have sl := S1.lt
  clear n1 SO
  go_wp2_with fail
  refine (DW.out w1 wz.heap.size S1 hr1 (fun h => by have := hg.out h; omega)).mono ?_
  rintro r w2 ⟨⟨a1, a1', c1, c1', g1, g1', rfl, o1, o1', l1, l1'⟩, n2⟩
  replace TZ := TZ.of_block' (n2.block w.heap.size (by omega) (by omega))
  replace N := Below.ofBut N n2 (by omega)
  clear n2 DW S1 hr1
  obtain ⟨y0, y1, v0, v1⟩ := TZ
  have O := (Only.setCell w2 w.heap.size 0 (.slice a1 X.1.length c1)).trans (Only.setCell _ w.heap.size 1 (.slice a1' X.2.length c1'))
  go_wp2
  refine bodyPost_ret (v := .agg #[.slice a1 X.1.length c1, .slice a1' X.2.length c1']) (by simp [results, Tryz.results58, go_sem, y0, y1]) rfl ⟨?_, (N.setCell (Nat.le_refl _) _).setCell (Nat.le_refl _) _⟩
  exact ⟨a1, a1', c1, c1', g1, g1', rfl, o1.only O (fun _ => by omega), o1'.only O (fun _ => by omega), by omega, by omega⟩
/-- The valid point of a code. -/
def lpP (xs : List Int) : List Int × List Int := if validP (drP xs 0).1 (drP xs 0).2 = true then drP xs 0 else (bsX, bsY)
set_option maxHeartbeats 2000000 in
theorem lwPoint_any (w : World) (g : Nat) (a : Option Addr) (c : Nat) (xs : List Int) (hr : Rd w g a .u8 xs) (hb : Byt xs) (hl : xs.length ≤ 4194304) :
    Calls Tryz.prog 25 #[.slice a xs.length c] w fun r w' => NewPt w.heap.size w' r (lpP xs).1 (lpP xs).2 ∧ Below w.heap.size w w' := by
  have TZ : Two (w.alloc pObj) w.heap.size (.slice none 0 0) (.slice none 0 0) := Two.new w (.slice none 0 0) (.slice none 0 0) 37
  have N : Below w.heap.size w (w.alloc pObj) := (Below.refl _ _).alloc (Nat.le_refl _) _
  have DW := hide (fun W (h : Rd W g a .u8 xs) => drawNeg_any W g a c xs h hb hl)
  have XB := hide (drP_byt xs 0)
  obtain ⟨R, hR⟩ : ∃ R, R = lpP xs := ⟨_, rfl⟩
  rw [← hR]
  unfold lpP at hR
  have HR := hide hR
  clear hR
  generalize drP xs 0 = X at *
  go_enter Tryz.func25, Tryz.ntmps25
  go_upto_region 1 with fail
  change Code.wp _ _ _ _ (w.alloc pObj)
  have hr0 := hr.up N
  generalize w.alloc pObj = wz at *
  go_wp2_with fail
  refine (DW.out wz hr0).mono ?_
  rintro r w1 ⟨⟨a1, a1', c1, c1', g1, g1', rfl, o1, o1', l1, l1'⟩, n1⟩
  have zz := TZ.lt
  have z1 := n1.size
  have TP := Two.new w1 (.slice a1 X.1.length c1) (.slice a1' X.2.length c1') 37
  have n2 : Below w1.heap.size w1 (w1.alloc (.cells #[.slice a1 X.1.length c1, .slice a1' X.2.length c1'] 37)) := (Below.refl _ _).alloc (Nat.le_refl _) _
  replace TZ := (TZ.up n1).up n2
  replace N := nxt (nxt N n1) n2
  replace o1 := o1.up n2
  replace o1' := o1'.up n2
  have z2 := n2.size
  clear n1 n2 DW hr0
  have zl := TP.lt
  have VA := hide (pointValid_any _ g1 g1' a1 a1' c1 c1' X.1 X.2 o1.rd o1'.rd XB.out.1 XB.out.2)
  obtain ⟨p0, p1, pf0, pf1⟩ := id TP
  obtain ⟨v, hv⟩ : ∃ v, v = validP X.1 X.2 := ⟨_, rfl⟩
  rw [← hv] at VA HR
  clear hv
  go_wp2_with fail
  generalize w1.alloc (.cells #[.slice a1 X.1.length c1, .slice a1' X.2.length c1'] 37) = w2 at *
  refine VA.out.mono ?_
  rintro e w3 ⟨rfl, n3⟩
  have z3 := n3.size
  replace TZ := TZ.up n3
  replace TP := TP.up n3
  replace N := nxt N n3
  replace o1 := o1.up n3
  replace o1' := o1'.up n3
  clear n3 VA p0 p1 pf0 pf1
  cases v with
  | true =>
    have HD : Hid (R = X) := by show _ = _; rw [HR.out, if_pos rfl]
    clear HR
    obtain ⟨p0, p1, pf0, pf1⟩ := TP
    obtain ⟨y0, y1, v0, v1⟩ := TZ
    have O := (Only.setCell w3 w.heap.size 0 (.slice a1 X.1.length c1)).trans (Only.setCell _ w.heap.size 1 (.slice a1' X.2.length c1'))
    go_wp2
    refine bodyPost_ret (v := .agg #[.slice a1 X.1.length c1, .slice a1' X.2.length c1']) (by simp [results, Tryz.results25, go_sem, y0, y1]) rfl ⟨?_, (N.setCell (Nat.le_refl _) _).setCell (Nat.le_refl _) _⟩
    rw [HD.out]
    exact ⟨a1, a1', c1, c1', g1, g1', rfl, o1.only O (fun _ => by omega), o1'.only O (fun _ => by omega), by omega, by omega⟩
  | false =>
    have HD : Hid (R = (bsX, bsY)) := by show _ = _; rw [HR.out, if_neg (by decide)]
    clear HR o1 o1'
    have SB : Hid (Calls Tryz.prog 60 #[] w3 fun r w' => NewPt w3.heap.size w' r bsX bsY ∧ Below w3.heap.size w3 w') := specBase_any w3
    generalize bsX = bx at *
    generalize bsY = by' at *
    go_wp2_with fail
    refine SB.out.mono ?_
    rintro r w4 ⟨⟨a4, a4', c4, c4', g4, g4', rfl, o4, o4', l4, l4'⟩, n4⟩
    have z4 := n4.size
    replace TZ := TZ.up n4
    replace N := nxt N n4
    clear n4 SB
    obtain ⟨y0, y1, v0, v1⟩ := TZ
    have O := (Only.setCell w4 w.heap.size 0 (.slice a4 bx.length c4)).trans (Only.setCell _ w.heap.size 1 (.slice a4' by'.length c4'))
    go_wp2
    refine bodyPost_ret (v := .agg #[.slice a4 bx.length c4, .slice a4' by'.length c4']) (by simp [results, Tryz.results25, go_sem, y0, y1]) rfl ⟨?_, (N.setCell (Nat.le_refl _) _).setCell (Nat.le_refl _) _⟩
    rw [HD.out]
    exact ⟨a4, a4', c4, c4', g4, g4', rfl, o4.only O (fun _ => by omega), o4'.only O (fun _ => by omega), by omega, by omega⟩
end Go.Proofs.YtnaaanefndeafaaGreatDoor

/-
  The group of the curve in lists of bytes. Numbers alone.
-/
namespace Go.Proofs.YtnaaanefndeafaaGreatDoor
set_option maxRecDepth 100000
open Go Go.RowKit

/-- A point of the curve in canonical coordinates. -/
structure Pv (p : Int × Int) : Prop where
  on : OnP PP (-1) d0 p
  cn : Cn p
def lx (p : Int × Int) : List Int := fill (byt p.1) 32
def ly (p : Int × Int) : List Int := fill (byt p.2) 32
theorem lx_byt (p : Int × Int) : Byt (lx p) := bytes_5 _ _
theorem ly_byt (p : Int × Int) : Byt (ly p) := bytes_5 _ _
theorem num_fill {v : Int} (h0 : 0 ≤ v) (h1 : v < PP) : num (fill (byt v) 32) = v := by
  have e := num_modS v
  rwa [Int.emod_eq_of_lt h0 h1] at e
theorem lx_num {p : Int × Int} (h : Pv p) : num (lx p) = p.1 := num_fill h.cn.x.1 h.cn.x.2
theorem ly_num {p : Int × Int} (h : Pv p) : num (ly p) = p.2 := num_fill h.cn.y.1 h.cn.y.2
theorem can_fill {v : Int} (h0 : 0 ≤ v) (h1 : v < PP) : canN (fill (byt v) 32) = true := by
  unfold canN
  rw [num_fill h0 h1, fill_len, decide_eq_true h1]
  rfl
theorem lv_valid {p : Int × Int} (h : Pv p) : validP (lx p) (ly p) = true := by
  unfold validP
  rw [lx_num h, ly_num h, show canN (lx p) = true from can_fill h.cn.x.1 h.cn.x.2, show canN (ly p) = true from can_fill h.cn.y.1 h.cn.y.2, on_valid h.on]
  rfl
theorem pv_of {xs ys : List Int} (hx : Byt xs) (hy : Byt ys) (h : validP xs ys = true) : Pv (num xs, num ys) ∧ xs = lx (num xs, num ys) ∧ ys = ly (num xs, num ys) := by
  have x1 := valid_x1 h
  have y1 := valid_y1 h
  refine ⟨⟨on_of h, ⟨num_ge hx, can_lt x1⟩, ⟨num_ge hy, can_lt y1⟩⟩, ?_, ?_⟩
  · have e := fill_can hx x1
    rw [Int.emod_eq_of_lt (num_ge hx) (can_lt x1)] at e
    exact e.symm
  · have e := fill_can hy y1
    rw [Int.emod_eq_of_lt (num_ge hy) (can_lt y1)] at e
    exact e.symm
theorem Pv.add {p q : Int × Int} (hp : Pv p) (hq : Pv q) : Pv (pAdd p q) := ⟨pAdd_on hp.on hq.on, pAdd_cn _ _⟩
theorem pv_base : Pv (bX, bY) := ⟨base_on, base_cn⟩
theorem bs_of : bsX = lx (bX, bY) ∧ bsY = ly (bX, bY) := by
  have h : liB (4 * iv 5) false = true := by
    unfold liB
    rw [base_lift.1]
    simp
  have e1 : bX % PP = bX := Int.emod_eq_of_lt base_cn.x.1 base_cn.x.2
  unfold bsX bsY liX liY
  rw [if_pos h, if_pos h, base_lift.2, base_mod]
  refine ⟨?_, rfl⟩
  show fill (byt (bX % PP)) 32 = _
  rw [e1]
  rfl
/-- The point that is drawn. -/
theorem lpP_is {xs : List Int} : ∃ p, Pv p ∧ lpP xs = (lx p, ly p) := by
  have hb := drP_byt xs 0
  unfold lpP
  generalize drP xs 0 = X at *
  by_cases h : validP X.1 X.2 = true
  · rw [if_pos h]
    obtain ⟨k, e1, e2⟩ := pv_of hb.1 hb.2 h
    exact ⟨_, k, Prod.ext e1 e2⟩
  · rw [if_neg h]
    exact ⟨_, pv_base, by rw [bs_of.1, bs_of.2]⟩
end Go.Proofs.YtnaaanefndeafaaGreatDoor

/-
  The program's PointScale.
-/
namespace Go.Proofs.YtnaaanefndeafaaGreatDoor
set_option maxRecDepth 100000
open Go Go.RowKit

/-- The number of these bytes, and the point scaled by it, as bytes. -/
def scV (ks : List Int) : Nat := (lsum (fun j => ks.getD j 0) 32).toNat
def skX (ks xs ys : List Int) : List Int := if ks.length = 32 ∧ validP xs ys = true then lx (pMul (scV ks) (num xs, num ys)) else []
def skY (ks xs ys : List Int) : List Int := if ks.length = 32 ∧ validP xs ys = true then ly (pMul (scV ks) (num xs, num ys)) else []
theorem byt_bt {ks : List Int} (h : Byt ks) : Bt (fun j => ks.getD j 0) := fun j => h j
theorem sc_words {ks : List Int} (h : Byt ks) : W4 (wv (fun j => ks.getD j 0) 32) ∧ wval (wv (fun j => ks.getD j 0) 32) = (scV ks : Int) := by
  refine ⟨fun j _ => wv_lt (byt_bt h) 32 j, ?_⟩
  rw [wv_sum _ 32 (by omega)]
  unfold scV
  have := lsum_nonneg (byt_bt h) 32
  omega
theorem valid_pt {xs ys : List Int} (h : validP xs ys = true) : OnP PP (-1) d0 (num xs, num ys) ∧ rpX xs ys = num xs ∧ rpY xs ys = num ys := by
  unfold validP at h
  have hc : rpC xs ys = true := by
    unfold rpC
    revert h
    cases canN xs <;> cases canN ys <;> simp
  have hv : validN (num xs) (num ys) = true := by
    revert h
    cases canN xs <;> cases canN ys <;> simp
  refine ⟨valid_on hv, ?_, ?_⟩
  · unfold rpX
    rw [if_pos hc]
  · unfold rpY
    rw [if_pos hc]
section
variable {ops : Array Oper} {Q : Exit → Act → World → Prop} {md : Region.Mode} {F : Nat → Fact} {a0 : Act} {w0 w : World} {i id : Nat} {o : Oper} {ts : Array TypeId} {draw : Bool}
theorem step_rs (hi : ops[i]? = some o) (p j : Nat) {a : Option Addr} {c : Nat} {ks : List Int} (hl : Hid (ks.length = 32)) (hop : o.op = .call { callee := .value (.func 47), args := #[.tmp p], argTypes := ts }) (hj : waits md ops i j p = true) (hR : RdOk w0 a ks) (hFj : F j = Fact.eq (.slice a ks.length c)) (hFi : F i = Fact.eq (ag4 (wv (fun j => ks.getD j 0) 32))) : StepOk Tryz.prog md ops Q F a0 w0 i := by
  refine step_call hi _ _ ts hop (by kernel_rfl) fun A w _ hw hF => ?_
  have ea := hF j p hj
  rw [hFj] at ea
  have e1 : A.tmps.getD p undef = .slice a ks.length c := ea
  obtain ⟨g, r, b⟩ := hR.up hw
  show Calls Tryz.prog _ #[A.tmps.getD p undef] w _
  rw [e1, hl.out]
  refine (readScalar_any w g a c ks r b hl.out).mono ?_
  rintro e w' ⟨rfl, hn⟩
  rw [hFi]
  exact ⟨_, rfl, hn, rfl⟩
theorem step_scl {D : Int} (hD : PP ∣ D - d0) (TT : HasTw w0 7) (CC : Em5 w0 6 0 D) (ZP : RowN w0 2 0 [0, 1]) (SS : HasSt w0 10) (II : Has3 w0 8 12 5 4) (X Y : Int) (hp : OnP PP (-1) d0 (X, Y)) {U : Nat → Int} (hU : W4 U) {v : Nat} (hv : wval U = (v : Int)) (hi : ops[i]? = some o) (p q j k : Nat) (hop : o.op = .call { callee := .value (.func 66), args := #[.tmp p, .tmp q], argTypes := ts }) (hj : waits md ops i j p = true) (hk : waits md ops i k q = true) (hFj : F j = Fact.eq (ag4 U)) (hFk : F k = EN [X, Y]) (hFi : F i = EN [(mlP v (X, Y)).1, (mlP v (X, Y)).2]) : StepOk Tryz.prog md ops Q F a0 w0 i := by
  refine step_call hi _ _ ts hop (by kernel_rfl) fun A w _ hw hF => ?_
  have ea := hF j p hj
  have eb := hF k q hk
  rw [hFj] at ea
  rw [hFk] at eb
  have e1 : A.tmps.getD p undef = ag4 U := ea
  obtain ⟨t, e2, L2⟩ := eb
  show Calls Tryz.prog _ #[A.tmps.getD p undef, A.tmps.getD q undef] w _
  rw [e1, e2]
  refine (scale_any w U hU v hv t X Y D L2 hp hD (TT.up hw) (CC.up hw) (ZP.up hw) (SS.up hw) (II.up hw)).mono ?_
  rintro e w' ⟨⟨s, X', Y', rfl, L, h1, h2⟩, hn⟩
  rw [hFi]
  exact ⟨_, rfl, hn, s, rfl, L.cg (by simp only [List.map_cons, List.map_nil, h1, h2])⟩
end

set_option maxHeartbeats 2000000 in
theorem implScale_any (w : World) (gk : Nat) (ak : Option Addr) (ck : Nat) (ks : List Int) (hk : Rd w gk ak .u8 ks) (bk : Byt ks) (g g' : Nat) (a a' : Option Addr) (c c' : Nat) (xs ys : List Int) (hx : Rd w g a .u8 xs) (hy : Rd w g' a' .u8 ys) (bx : Byt xs) (by' : Byt ys) (TT : HasTw w 7) (CC : Em5 w 6 0 dGo) (ZP : RowN w 2 0 [0, 1]) (SS : HasSt w 10) (II : Has3 w 8 12 5 4) :
    Calls Tryz.prog 28 #[.slice ak ks.length ck, .agg #[.slice a xs.length c, .slice a' ys.length c']] w fun r w' => NewP2 w.heap.size w' r (skX ks xs ys) (skY ks xs ys) ∧ Below w.heap.size w w' := by
  have T := two_cells w (.slice a xs.length c) (.slice a' ys.length c') 37
  have m1 : Below w.heap.size w (w.alloc (.cells #[.slice a xs.length c, .slice a' ys.length c'] 37)) := (Below.refl _ _).alloc (Nat.le_refl _) _
  have s1 : (w.alloc (.cells #[.slice a xs.length c, .slice a' ys.length c'] 37)).heap.size = w.heap.size + 1 := by simp
  have RX : RdOk w a xs := ⟨g, hx, bx⟩
  have RY : RdOk w a' ys := ⟨g', hy, by'⟩
  have RK : RdOk w ak ks := ⟨gk, hk, bk⟩
  have SW := hide (sc_words bk)
  obtain ⟨CX, CY⟩ := T
  clear hx hy bx by' hk bk
  go_enter Tryz.func28, Tryz.ntmps28
  go_upto_region 1 with fail
  generalize w.alloc (.cells #[.slice a xs.length c, .slice a' ys.length c'] 37) = wa at *
  have TZ := Two.new wa (.slice none 0 0) (.slice none 0 0) 37
  have mz : Below wa.heap.size wa (wa.alloc pObj) := (Below.refl _ _).alloc (Nat.le_refl _) _
  rw [s1] at TZ
  have N := nxt m1 mz
  replace CX := (mz.cell (block_lt_of_cell CX)).trans CX
  replace CY := (mz.cell (block_lt_of_cell CY)).trans CY
  obtain ⟨wr, hwr⟩ : ∃ W, W = wa.alloc pObj := ⟨_, rfl⟩
  change Two (wa.alloc pObj) _ _ _ at TZ
  rw [← hwr] at TZ N CX CY
  change Code.wp _ _ _ _ (wa.alloc pObj)
  rw [← hwr]
  clear hwr m1 mz s1
  replace RX := RX.up N
  replace RY := RY.up N
  replace RK := RK.up N
  replace TT := TT.up N
  replace CC := CC.up N
  replace ZP := ZP.up N
  replace SS := SS.up N
  replace II := II.up N
  refine region_newN_asg 75 6 5 3 5 10 4 11 6 _ _ (fun i => [Fact.eq (.agg #[.slice a xs.length c, .slice a' ys.length c']), TB [rpX xs ys, rpY xs ys] (rpB dGo xs ys), TB [rpX xs ys, rpY xs ys] (rpB dGo xs ys), EN [rpX xs ys, rpY xs ys], Fact.eq (.bool (rpB dGo xs ys)), NB wr 10].getD i Fact.no) [rpX xs ys, rpY xs ys] (.bool (rpB dGo xs ys)) (by kernel_rfl) rfl rfl rfl rfl rfl rfl iA (Nat.zero_lt_succ _) rfl rfl rfl (by kernel_rfl) (by kernel_rfl) (by kernel_rfl) rfl rfl rfl (by decide) (by kernel_rfl) ?_ ?_
  · intro i hi
    obtain rfl | rfl | rfl | rfl | rfl | rfl : i = 0 ∨ i = 1 ∨ i = 2 ∨ i = 3 ∨ i = 4 ∨ i = 5 := by omega
    · exact step_lP rfl 3 rfl (by kernel_rfl) _ rfl _ _ CX CY rfl
    · exact step_rp TT CC rfl 8 0 rfl (by kernel_rfl) RX RY rfl rfl
    · exact step_move rfl 9 1 (by exact Or.inl rfl) (by kernel_rfl) rfl
    · exact step_tx0 rfl 7 2 _ _ rfl (by kernel_rfl) rfl rfl
    · exact step_tx1 rfl 7 2 _ _ rfl (by kernel_rfl) rfl rfl
    · exact step_newA rfl rfl rfl
  intro vs1 q3 W1 v3 b4 l3 n E3 T3
  replace RK := RK.up n
  replace TT := TT.up n
  replace CC := CC.up n
  replace ZP := ZP.up n
  replace SS := SS.up n
  replace II := II.up n
  replace TZ := TZ.up n
  replace N := nxt N n
  clear n T3 l3 RX RY CX CY
  rw [rp_valid] at b4
  obtain ⟨ok1, hok1⟩ : ∃ b, b = validP xs ys := ⟨_, rfl⟩
  rw [← hok1] at b4
  have HK1 := hide hok1
  clear hok1
  simp only [puts, v3, b4, Act.put, List.setIfInBounds_toArray, List.set_cons_succ, List.set_cons_zero]
  clear v3 b4
  by_cases hbad : ks.length = 32 ∧ ok1 = true
  · obtain ⟨hl, rfl⟩ := hbad
    have HL := hide hl
    have VP := hide (valid_pt HK1.out.symm)
    have e1 : Hid (skX ks xs ys = fill (byt ((mlP (scV ks) (num xs, num ys)).1 % PP)) 32) := by
      show _ = _
      unfold skX
      rw [if_pos ⟨hl, HK1.out.symm⟩]
      rfl
    have e2 : Hid (skY ks xs ys = fill (byt ((mlP (scV ks) (num xs, num ys)).2 % PP)) 32) := by
      show _ = _
      unfold skY
      rw [if_pos ⟨hl, HK1.out.symm⟩]
      rfl
    rw [VP.out.2.1, VP.out.2.2] at E3
    have t1 : decide ((ks.length : Int) = 32) = true := by simp; omega
    have t2 : ((ks.length : Int) == 32) = true := by simp; omega
    clear hl
    generalize hm : mlP (scV ks) (num xs, num ys) = m at *
    have HM := hide hm
    clear hm
    go_upto_region 4 with fail
    clear t1 t2
    refine region_putD 5 4 4 24 _ (fun i => [Fact.eq (.slice ak ks.length ck), Fact.eq (ag4 (wv (fun j => ks.getD j 0) 32)), EN [num xs, num ys], EN [m.1, m.2], PD W1 (fill (byt (m.1 % PP)) 32) (fill (byt (m.2 % PP)) 32)].getD i Fact.no) (fill (byt (m.1 % PP)) 32) (fill (byt (m.2 % PP)) 32) _ (by kernel_rfl) rfl rfl rfl (by kernel_rfl) rfl TZ.there (by kernel_rfl) rfl ?_ ?_
    · intro i hi
      obtain rfl | rfl | rfl | rfl | rfl : i = 0 ∨ i = 1 ∨ i = 2 ∨ i = 3 ∨ i = 4 := by omega
      · exact step_mv rfl 0 rfl (by kernel_rfl) rfl rfl
      · exact step_rs rfl 20 0 HL rfl (by kernel_rfl) RK rfl rfl
      · exact step_lA rfl 5 rfl (by kernel_rfl) _ rfl _ _ E3 rfl
      · exact step_scl dGo_is TT CC ZP SS II _ _ VP.out.1 SW.out.1 SW.out.2 rfl 21 22 1 2 rfl (by kernel_rfl) (by kernel_rfl) rfl rfl (by show EN [m.1, m.2] = _; rw [← HM.out])
      · exact step_pt rfl 23 3 _ _ rfl (by kernel_rfl) rfl rfl
    intro vsL Wa Wb b b' k k' h h' na rg o1 o2 l1 l2 hne nb
    have z := N.size
    have NS := nb w w.heap.size (nxt N na) (by omega)
    simp only [puts, Act.put, List.setIfInBounds_toArray, List.set_cons_succ, List.set_cons_zero]
    clear na nb N TZ RK TT CC E3 ZP SS II
    obtain ⟨fs, hfs⟩ := uP
    go_wp2
    exact bodyPost_ret (v := .agg #[.slice b _ k, .slice b' _ k']) (results_cell_mid Tryz.results28 _ _ (w.heap.size + 1) [.slice b _ k, .slice b' _ k'] _ rfl rg hfs rfl iP) rfl ⟨by rw [e1.out, e2.out]; exact ⟨b, k, h, b', k', h', rfl, o1, o2, by omega, by omega, hne⟩, NS⟩
  · have e1 : Hid (skX ks xs ys = []) := by
      show _ = _
      unfold skX
      rw [if_neg (fun h => hbad ⟨h.1, HK1.out.trans h.2⟩)]
    have e2 : Hid (skY ks xs ys = []) := by
      show _ = _
      unfold skY
      rw [if_neg (fun h => hbad ⟨h.1, HK1.out.trans h.2⟩)]
    have c0 := TZ.c0
    have c1 := TZ.c1
    have f0 := TZ.f0
    have f1 := TZ.f1
    have TS := (TZ.set0 (.slice none 0 0)).set1 (.slice none 0 0)
    have NS := (N.setCell (p := ⟨w.heap.size + 1, 0, none⟩) (by show w.heap.size ≤ w.heap.size + 1; omega) (.slice none 0 0)).setCell (p := ⟨w.heap.size + 1, 1, none⟩) (by show w.heap.size ≤ w.heap.size + 1; omega) (.slice none 0 0)
    have k0 := TS.c0
    have k1 := TS.c1
    have FIN : Hid (NewP2 w.heap.size ((W1.setCell ⟨w.heap.size + 1, 0, none⟩ (.slice none 0 0)).setCell ⟨w.heap.size + 1, 1, none⟩ (.slice none 0 0)) (.returned (.agg #[.slice none 0 0, .slice none 0 0])) (skX ks xs ys) (skY ks xs ys) ∧ Below w.heap.size w ((W1.setCell ⟨w.heap.size + 1, 0, none⟩ (.slice none 0 0)).setCell ⟨w.heap.size + 1, 1, none⟩ (.slice none 0 0))) := ⟨by rw [e1.out, e2.out]; exact NewP2.nil, NS⟩
    clear E3 RK TT CC ZP SS II TZ N NS TS e1 e2 SW
    cases ok1 with
    | false =>
      clear hbad
      go_wp2
      exact bodyPost_ret (v := .agg #[.slice none 0 0, .slice none 0 0]) (by simp [results, Tryz.results28, go_sem, k0, k1]) rfl FIN.out
    | true =>
      have hl : ¬ ks.length = 32 := fun h => hbad ⟨h, rfl⟩
      have t1 : decide ((ks.length : Int) = 32) = false := by simp; omega
      have t2 : ((ks.length : Int) == 32) = false := by simp; omega
      clear hbad hl
      go_wp2
      exact bodyPost_ret (v := .agg #[.slice none 0 0, .slice none 0 0]) (by simp [results, Tryz.results28, go_sem, k0, k1]) rfl FIN.out
end Go.Proofs.YtnaaanefndeafaaGreatDoor

/-
  What the three operations share: the model's l2Two, bounds of bytes, the elements' operations with their values.
-/
namespace Go.Proofs.YtnaaanefndeafaaGreatDoor
set_option maxRecDepth 100000
open Go.RowKit


end Go.Proofs.YtnaaanefndeafaaGreatDoor

/-
  What FieldReduce wants: two elements laid into variables in whatever order; sixty-four bytes as two halves.
-/
namespace Go.Proofs.YtnaaanefndeafaaGreatDoor
set_option maxRecDepth 100000
open Go.RowKit

/-- Five zeros, in a new block. -/
abbrev z5 (W : World) : World := W.alloc (.cells #[.int .u64 0, .int .u64 0, .int .u64 0, .int .u64 0, .int .u64 0] 73)

abbrev c5 (u : Nat → Int) : Obj := .cells #[.int .u64 (u 0), .int .u64 (u 1), .int .u64 (u 2), .int .u64 (u 3), .int .u64 (u 4)] 73
abbrev l5 (u : Nat → Int) : List Int := [u 0, u 1, u 2, u 3, u 4]


end Go.Proofs.YtnaaanefndeafaaGreatDoor

/-
  FieldReduce, the program's.
-/
namespace Go.Proofs.YtnaaanefndeafaaGreatDoor
set_option maxRecDepth 100000
open Go.RowKit

end Go.Proofs.YtnaaanefndeafaaGreatDoor

/-
  FieldReduce, the model's.
-/
namespace Go.Proofs.YtnaaanefndeafaaGreatDoor
set_option maxRecDepth 100000
open Go.RowKit


end Go.Proofs.YtnaaanefndeafaaGreatDoor

/-
  The model's LadderClamp.
-/
namespace Go.Proofs.YtnaaanefndeafaaGreatDoor
set_option maxRecDepth 100000
open Go.RowKit

def clampA (xs : List Int) : List Int := if xs.length = 32 then clampL xs else []

end Go.Proofs.YtnaaanefndeafaaGreatDoor

/-
  Two rows of sixteen limbs side by side: the model's pairs of the ladder.
-/
namespace Go.Proofs.YtnaaanefndeafaaGreatDoor
set_option maxRecDepth 100000
open Go Go.RowKit

def c32 (a b : Nat → Int) : List Value := (a16 a).toList ++ (a16 b).toList
def Is16 (t : Nat → Int) (A : Int) : Prop := L16 t ∧ s16 t 16 % PP = A % PP
/-- The same in memory. -/
def Elt2 (W : World) (q : Nat) (A B : Int) : Prop := ∃ a b, W.rangeAt q 0 (c32 a b) ∧ q < W.heap.size ∧ Is16 a A ∧ Is16 b B
theorem Elt2.lt {W : World} {q : Nat} {A B : Int} (h : Elt2 W q A B) : q < W.heap.size := by
  obtain ⟨_, _, _, l, _⟩ := h
  exact l
theorem Elt2.x {W : World} {q : Nat} {A B : Int} (h : Elt2 W q A B) : Elt W q 0 A := by
  obtain ⟨a, b, r, l, ha, _⟩ := h
  refine ⟨a, fun j v hv => r j v ?_, l, ha⟩
  have hj : j < 16 := by have := (List.getElem?_eq_some_iff.1 hv).1; rw [a16_len] at this; exact this
  unfold c32
  rw [List.getElem?_append_left (by rw [a16_len]; exact hj)]
  exact hv
theorem Elt2.y {W : World} {q : Nat} {A B : Int} (h : Elt2 W q A B) : Elt W q 16 B := by
  obtain ⟨a, b, r, l, _, hb⟩ := h
  refine ⟨b, fun j v hv => ?_, l, hb⟩
  have hj : j < 16 := by have := (List.getElem?_eq_some_iff.1 hv).1; rw [a16_len] at this; exact this
  have q := r (16 + j) v (by
    unfold c32
    rw [List.getElem?_append_right (by rw [a16_len]; omega), a16_len, show 16 + j - 16 = j by omega]
    exact hv)
  simpa using q
theorem Elt2.up {W W' : World} {q : Nat} {A B : Int} (h : Elt2 W q A B) (n : Below W.heap.size W W') : Elt2 W' q A B := by
  obtain ⟨a, b, r, l, h⟩ := h
  exact ⟨a, b, fun j v hv => (World.cell?_of_block (a := ⟨q, 0 + j, none⟩) (n.block q l)).trans (r j v hv), Nat.lt_of_lt_of_le l n.size, h⟩
theorem Elt2.but {W W' : World} {g q : Nat} {A B : Int} (h : Elt2 W g A B) (k : ButQ q W W') (hne : g ≠ q) : Elt2 W' g A B := by
  obtain ⟨a, b, r, l, h⟩ := h
  exact ⟨a, b, fun j v hv => (World.cell?_of_block (a := ⟨g, 0 + j, none⟩) (k.1 g hne l)).trans (r j v hv), Nat.lt_of_lt_of_le l k.2, h⟩

section
variable {ops : Array Oper} {Q : Exit → Act → World → Prop} {a0 : Act} {w : World} {id : Nat} {draw : Bool}
end

section
variable {ops : Array Oper} {Q : Exit → Act → World → Prop} {md : Region.Mode} {F : Nat → Fact} {a0 : Act} {w0 : World} {i : Nat} {o : Oper} {ts : Array TypeId}
end
end Go.Proofs.YtnaaanefndeafaaGreatDoor

/-
  The model's l4Double and l4Sum.
-/
namespace Go.Proofs.YtnaaanefndeafaaGreatDoor
set_option maxRecDepth 100000
open Go Go.RowKit


end Go.Proofs.YtnaaanefndeafaaGreatDoor

/-
  The model's Ladder.
-/
namespace Go.Proofs.YtnaaanefndeafaaGreatDoor
set_option maxRecDepth 100000
open Go Go.RowKit

section
variable {ops : Array Oper} {Q : Exit → Act → World → Prop} {md : Region.Mode} {F : Nat → Fact} {a0 : Act} {w0 : World} {i : Nat} {o : Oper} {ts : Array TypeId}
end
/-- What the model answers. -/
def ladS (x K : Int) : Int := ladE x (fun i => kbit K (255 - i)) 256
def ladA (ks us : List Int) : List Int := if ks.length = 32 ∧ us.length = 32 then fill (byt (ladS (num (low7 us)) (num (clampL ks)) % PP)) 32 else []

end Go.Proofs.YtnaaanefndeafaaGreatDoor

/-
  The program's Ladder and LadderPublic.
-/
namespace Go.Proofs.YtnaaanefndeafaaGreatDoor
set_option maxRecDepth 100000
open Go Go.RowKit

/-- The tables that the ladder reads. -/
structure HasL (w : World) : Prop where
  t : HasTw w 7
  s : HasSt w 10
  i : Has3 w 8 12 5 4
theorem HasL.up {w w' : World} (h : HasL w) (n : Below w.heap.size w w') : HasL w' := ⟨h.t.up n, h.s.up n, h.i.up n⟩

theorem lad_impl {ks : List Int} (hb : Byt ks) (hl : ks.length = 32) (X : Int) : ladE X (fun i => wbit (clw (wv (fun j => ks.getD j 0) 32)) (254 - i)) 255 % PP = ladS X (num (clampL ks)) % PP := by
  have hW : W4 (clw (wv (fun j => ks.getD j 0) 32)) := clw_ok (fun j _ => wv_lt hb 32 j)
  obtain ⟨k1, k2, _⟩ := clampL_bd hb hl
  have e : ladE X (fun i => wbit (clw (wv (fun j => ks.getD j 0) 32)) (254 - i)) 255 = ladE X (fun i => kbit (num (clampL ks)) (254 - i)) 255 := by
    unfold ladE
    rw [lrnds_congr X (fun i => wbit (clw (wv (fun j => ks.getD j 0) 32)) (254 - i)) (fun i => kbit (num (clampL ks)) (254 - i)) 255 (fun i hi => by rw [wbit_k hW (by omega), clw_num hb hl])]
  rw [e]
  unfold ladS
  refine (lad_same X (fun i => kbit (num (clampL ks)) (254 - i)) (fun i => kbit (num (clampL ks)) (255 - i)) ?_ (fun i => by rw [show 255 - (i + 1) = 254 - i by omega]) ?_ 254).symm
  · generalize num (clampL ks) = K at *
    unfold kbit
    have : K / 2 ^ (255 - 0) = 0 := Int.ediv_eq_zero_of_lt (by omega) (by simpa using k2)
    rw [this]
    rfl
  · generalize num (clampL ks) = K at *
    unfold kbit
    have : K / 2 ^ (254 - 0) = 1 := by
      have h : (2 : Int) ^ (254 - 0) = 28948022309329048855892746252171976963317496166410141009864396001978282409984 := by decide
      rw [h]
      omega
    rw [this]
    rfl

set_option maxHeartbeats 4000000 in
theorem implLadder_any (w : World) (g g' : Nat) (a b : Option Addr) (c c' : Nat) (ks us : List Int) (hk : Rd w g a .u8 ks) (hu : Rd w g' b .u8 us) (bk : Byt ks) (bu : Byt us) (hL : HasL w) :
    Calls Tryz.prog 31 #[.slice a ks.length c, .slice b us.length c'] w fun e w' => NewRow w.heap.size w' e .u8 (ladA ks us) ∧ Below w.heap.size w w' := by
  have T1 := fun w => isFieldSize_any w a c ks.length
  have T2 := fun w => isFieldSize_any w b c' us.length
  by_cases h1 : ks.length = 32
  · by_cases h2 : us.length = 32
    · have RS := hide (readScalar_any w g a c ks hk bk h1)
      have CL := hide (fun w => clamp_any w _ (fun j _ => wv_lt bk 32 j))
      have RC := hide (fun w' n => readCoordinate_any w' g' b c' us (hu.up n) bu h2)
      have E1 := elt_ok (low7_byt bu) ((low7_len us).trans h2)
      have LD := hide (fun w' n => ladder_any w' _ (clw_ok (fun j _ => wv_lt bk 32 j)) _ (num (low7 us)) E1 (hL.up n).t (hL.up n).s (hL.up n).i)
      have KA : Hid (ladA ks us = fill (byt (ladE (num (low7 us)) (fun i => wbit (clw (wv (fun j => ks.getD j 0) 32)) (254 - i)) 255 % PP)) 32) := by show _ = _; unfold ladA; rw [if_pos ⟨h1, h2⟩, lad_impl bk h1]
      simp only [decide_eq_true h1] at T1
      simp only [decide_eq_true h2] at T2
      rw [h1] at T1 ⊢
      rw [h2] at T2 ⊢
      clear h1 h2 hk hu bk bu E1
      generalize ladE (num (low7 us)) (fun i => wbit (clw (wv (fun j => ks.getD j 0) 32)) (254 - i)) 255 = V at *
      generalize elt (low7 us) = x at *
      generalize clw (wv (fun j => ks.getD j 0) 32) = U at *
      generalize wv (fun j => ks.getD j 0) 32 = U0 at *
      simp only [ag5, ag4] at RS CL RC LD
      go_enter Tryz.func31, Tryz.ntmps31
      go_wp2_with (first
        | (go_at_call_of 68 (Value.slice a 32 c); refine (T1 _).mono ?_; rintro r w0 ⟨rfl, rfl⟩)
        | (go_at_call_of 68 (Value.slice b 32 c'); refine (T2 _).mono ?_; rintro r w0 ⟨rfl, rfl⟩))
      refine RS.out.mono ?_
      rintro r w1 ⟨rfl, n1⟩
      clear RS
      go_wp2_with fail
      refine (CL.out w1).mono ?_
      rintro r w2 ⟨rfl, n2⟩
      have N2 := nxt n1 n2
      clear CL n1 n2
      go_wp2_with fail
      refine (RC.out w2 N2).mono ?_
      rintro r w3 ⟨rfl, n3⟩
      have N3 := nxt N2 n3
      clear RC n3 N2
      go_wp2_with fail
      refine (LD.out w3 N3).mono ?_
      rintro r w4 ⟨t, rfl, IT, n4⟩
      have N4 := nxt N3 n4
      clear LD n4 N3
      have BY := hide (bytes_any w4 t IT.1)
      rw [IT.2, ← KA.out] at BY
      simp only [ag5] at BY
      have z4 := N4.size
      clear KA IT hL
      go_wp2_with fail
      refine BY.out.mono ?_
      rintro r w5 ⟨⟨a5, c5, g5, rfl, o5, p5, q5, r5⟩, n5⟩
      have N5 := nxt N4 n5
      clear BY N4 n5
      go_wp2
      go_ret
      exact ⟨⟨a5, c5, g5, rfl, o5, p5, q5, by omega⟩, N5⟩
    · have K : Hid (ladA ks us = []) := by show _ = _; unfold ladA; rw [if_neg (fun h => h2 h.2)]
      simp only [decide_eq_true h1] at T1
      simp only [decide_eq_false h2] at T2
      rw [h1] at T1 ⊢
      clear h1 h2
      go_enter Tryz.func31, Tryz.ntmps31
      go_wp2_with (first
        | (go_at_call_of 68 (Value.slice a 32 c); refine (T1 _).mono ?_; rintro r w0 ⟨rfl, rfl⟩)
        | (go_at_call_of 68 (Value.slice b us.length c'); refine (T2 _).mono ?_; rintro r w0 ⟨rfl, rfl⟩))
      go_ret
      rw [K.out]
      exact ⟨⟨none, 0, _, rfl, Own.nil _ _ _ _, by simp, by simp, Nat.le_refl _⟩, Below.refl _ _⟩
  · have K : Hid (ladA ks us = []) := by show _ = _; unfold ladA; rw [if_neg (fun h => h1 h.1)]
    simp only [decide_eq_false h1] at T1
    clear h1
    go_enter Tryz.func31, Tryz.ntmps31
    go_wp2_with (first
      | (go_at_call_of 68 (Value.slice a ks.length c); refine (T1 _).mono ?_; rintro r w0 ⟨rfl, rfl⟩))
    go_ret
    rw [K.out]
    exact ⟨⟨none, 0, _, rfl, Own.nil _ _ _ _, by simp, by simp, Nat.le_refl _⟩, Below.refl _ _⟩


end Go.Proofs.YtnaaanefndeafaaGreatDoor

/-
  The laws' helpers on the struct that LadderShared answers.
-/
namespace Go.Proofs.YtnaaanefndeafaaGreatDoor
set_option maxRecDepth 100000
open Go.RowKit

theorem Two.but {w w' : World} {p g : Nat} {x y : Value} (h : Two w p x y) (n : But g w w') (hne : p ≠ g) : Two w' p x y := h.of_block (n.block p h.lt hne)
/-- A row that is not read may be said to lie anywhere. -/
theorem NewRes.at {B B' : Nat} {w : World} {e : Ending} {b : Bool} {ys : List Int} (h : NewRes B w e b ys) (h1 : B' ≤ B) (h2 : B' < w.heap.size) :
    ∃ (a : Option Addr) (c g : Nat), e = .returned (.agg #[.bool b, .slice a ys.length c]) ∧ Own w g a .u8 ys ∧ B' ≤ g ∧ g < w.heap.size ∧ (0 < ys.length → B ≤ g) := by
  obtain ⟨a, c, g, he, o, _, _, hg⟩ := h
  by_cases h0 : 0 < ys.length
  · exact ⟨a, c, g, he, o, by omega, o.rd.lt h0, fun _ => hg⟩
  · obtain rfl : ys = [] := List.eq_nil_of_length_eq_zero (by omega)
    exact ⟨a, c, B', he, Own.nil _ _ _ _, Nat.le_refl _, h2, fun h => absurd h (by simp)⟩

end Go.Proofs.YtnaaanefndeafaaGreatDoor

/-
  LadderShared, the program's and the model's.
-/
namespace Go.Proofs.YtnaaanefndeafaaGreatDoor
set_option maxRecDepth 100000
open Go Go.RowKit



end Go.Proofs.YtnaaanefndeafaaGreatDoor

/-
  The bytes that are drawn for an element, from a source that was asked before.
-/
namespace Go.Proofs.YtnaaanefndeafaaGreatDoor
set_option maxRecDepth 100000
open Go.RowKit

theorem canon_pos {ys : List Int} {v : Int} (h : Canon ys v) : 0 < ys.length ↔ 0 < v := by
  constructor
  · intro h0
    have := h.ge h0
    have hp := p256_pos (ys.length - 1)
    omega
  · intro hv
    by_cases e : ys.length = 0
    · have : ys = [] := List.eq_nil_of_length_eq_zero e
      subst this
      have := h.2.1
      rw [bval_nil] at this
      omega
    · omega
theorem But.up {g : Nat} {a b c : World} (h : But g a b) (n : Below b.heap.size b c) : But g a c := h.trans (But.ofBelow n)
theorem dig_bytes {xs : List Int} (h : Byt xs) (n : Nat) : Byt (fill (dig xs) n) := by
  intro i
  by_cases hi : i < n
  · rw [fill_get _ _ _ hi]; have := dig_byt h i; omega
  · rw [List.getD_eq_getElem?_getD, List.getElem?_eq_none (by rw [fill_len]; omega)]; simp

theorem byt_fill {f : Nat → Int} (h : ∀ i, 0 ≤ f i ∧ f i < 256) (n : Nat) : Byt (fill f n) := by
  intro i
  by_cases hi : i < n
  · rw [fill_get _ _ _ hi]; exact h i
  · rw [List.getD_eq_getElem?_getD, List.getElem?_eq_none (by rw [fill_len]; omega)]; simp

/-- A source that was asked at most m times. -/
def SrcTo (w : World) (s : Nat) (a : Option Addr) (n c : Nat) (m : Int) : Prop := ∃ t, 0 ≤ t ∧ t ≤ m ∧ Src w s a n c t

set_option maxHeartbeats 4000000 in
theorem l2DrawT_any (w : World) (s g : Nat) (a : Option Addr) (c : Nat) (xs : List Int) (t : Int) (t0 : 0 ≤ t) (t1 : t ≤ 10000) (hs : Src w s a xs.length c t) (hr : Rd w g a .u8 xs) (hne : 0 < xs.length → g ≠ s) (hb : Byt xs) (hl : xs.length ≤ 1048576) :
    Calls Tryz.prog 120 #[.pointer (some ⟨s, 0, none⟩)] w fun e w' => ∃ ys, Byt ys ∧ ys.length ≤ 64 ∧ NewRow w.heap.size w' e .u8 ys ∧ But s w w' ∧ SrcTo w' s a xs.length c (t + 200) := by
  obtain ⟨i0, hi, hz0, hz1, hz2⟩ := info_parts Tryz.info5
  have sl := hs.lt
  have NX := l1Next_any w s g a c xs t 10 hs hr hne hb hl (by omega) (by omega) (by decide) (by decide)
  go_enter Tryz.func120, Tryz.ntmps120
  go_wp2_with fail
  refine NX.mono ?_
  rintro e w1 ⟨r, rfl, ⟨r0, r1⟩, S1, O1⟩
  have N1 : But s w w1 := But.ofOnly O1
  have hr1 := hr.but N1 hne
  have z1 := hide O1.size
  clear NX
  rcases (show r = 0 ∨ r = 1 ∨ r = 2 ∨ r = 3 ∨ r = 4 ∨ 5 ≤ r by omega) with rfl | rfl | rfl | rfl | rfl | h5
  · go_wp2_with fail
    refine (l1Next_any w1 s g a c xs (t + 1) 40 S1 hr1 hne hb hl (by omega) (by omega) (by decide) (by decide)).mono ?_
    rintro e w2 ⟨v, rfl, ⟨v0, v1⟩, S2, O2⟩
    go_wp2_with fail
    refine (l1Int_any w2 v v0 (by omega)).mono ?_
    rintro e w3 ⟨i1, il, ib, ⟨ai, ci, gi, rfl, oi, pi, qi, ri⟩, n3⟩
    go_wp2_with fail
    refine (l1Little_any w3 gi ai ci i1 32 oi.rd ib (by omega) (by omega)).mono ?_
    rintro e w4 ⟨rfl, B4, n4⟩
    have N4 := ((N1.only O2).up n3).up n4
    have z := ((N1.only O2).up n3).size
    go_wp2
    go_ret
    exact ⟨_, dig_bytes ib 32, by rw [fill_len]; omega, ⟨_, 32, w3.heap.size, by rw [fill_len]; rfl, B4.own0, by simp, by rw [fill_len]; omega, z⟩, N4, ⟨_, by omega, by omega, (S2.up n3).up n4⟩⟩
  · go_wp2_with fail
    refine (l2Prime_any w1).mono ?_
    rintro e w2 ⟨rfl, B2, n2⟩
    have nB : Below w2.heap.size w2 (w2.alloc (.cells #[.int .u8 20] 5)) := (Below.refl _ _).alloc (Nat.le_refl _) _
    have BB : Blk (w2.alloc (.cells #[.int .u8 20] 5)) w2.heap.size .u8 [20] := ⟨5, by rw [heap_alloc_last]; rfl⟩
    have hb20 : Byt [20] := fun i => by
      match i with
      | 0 => decide
      | i + 1 => simp
    go_wp2_with fail
    generalize w2.alloc (.cells #[.int .u8 20] 5) = wB at *
    refine (l1Add_any wB _ _ _ _ 32 1 pbytes [20] (B2.up nB).own0.rd BB.own0.rd pbytes_byt hb20 (by decide) (by decide)).mono ?_
    rintro e w3 ⟨y3, C3, ⟨a3, c3, g3, rfl, o3, p3, q3, r3⟩, n3⟩
    rw [pbytes_val] at C3
    have N3 := ((N1.up n2).up nB).up n3
    have hz3 : w.heap.size ≤ w2.heap.size := (N1.up n2).size
    have S3 := ((S1.up n2).up nB).up n3
    have hg3 : w.heap.size ≤ g3 := by have := nB.size; omega
    clear B2 BB
    go_wp2_with fail
    refine (l1Next_any w3 s g a c xs (t + 1) 40 S3 (hr.but N3 hne) hne hb hl (by omega) (by omega) (by decide) (by decide)).mono ?_
    rintro e w4 ⟨v, rfl, ⟨v0, v1⟩, S4, O4⟩
    have o3a := o3.only O4 (fun _ => by omega)
    have N4 := N3.only O4
    go_wp2_with fail
    refine (l1Int_any w4 v v0 (by omega)).mono ?_
    rintro e w5 ⟨i1, il, ib, ⟨ai, ci, gi, rfl, oi, pi, qi, ri⟩, n5⟩
    have o3b := o3a.up n5
    have N5 := N4.up n5
    go_wp2_with fail
    have V : Hid (bval i1 ≤ bval y3) := by
      show _ ≤ _
      have h1 : bval i1 < 256 := by
        have := bval_lt ib
        have hp : (256 : Int) ^ i1.length ≤ 256 ^ 1 := p256_le il
        have : (256 : Int) ^ 1 = 256 := by decide
        omega
      rw [C3.2.1]
      have : bval [20] = 20 := rfl
      have : (0 : Int) ≤ PP - 256 := by decide
      omega
    have L3 : y3.length ≤ 64 := C3.len (by decide)
    have LI : i1.length ≤ y3.length := by
      have := (canon_pos C3).2 (by decide)
      omega
    refine (l1Sub_any w5 g3 gi a3 ai c3 ci y3 i1 o3b.rd oi.rd C3.1 ib (by omega) LI V.out).mono ?_
    rintro e w6 ⟨y6, C6, ⟨a6, c6, g6, rfl, o6, p6, q6, r6⟩, n6⟩
    have L6 : y6.length ≤ 64 := C6.len (Int.lt_of_le_of_lt (show bval y3 - bval i1 ≤ bval y3 by have := bval_nonneg ib; omega) (Int.lt_of_lt_of_le (bval_lt C3.1) (p256_le L3)))
    go_wp2_with fail
    refine (l1Little_any w6 g6 a6 c6 y6 32 o6.rd C6.1 (by omega) (by omega)).mono ?_
    rintro e w7 ⟨rfl, B7, n7⟩
    have N7 := (N5.up n6).up n7
    have z := (N5.up n6).size
    go_wp2
    go_ret
    exact ⟨_, dig_bytes C6.1 32, by rw [fill_len]; omega, ⟨_, 32, w6.heap.size, by rw [fill_len]; rfl, B7.own0, by simp, by rw [fill_len]; omega, z⟩, N7, ⟨_, by omega, by omega, ((S4.up n5).up n6).up n7⟩⟩
  · go_wp2_with fail
    refine (l2Prime_any w1).mono ?_
    rintro e w2 ⟨rfl, B2, n2⟩
    go_wp2_with fail
    refine (l1Shift1_any w2 _ _ 32 pbytes B2.own0.rd pbytes_byt (by simp) (by decide) (by decide)).mono ?_
    rintro e wS ⟨yS, CS, ⟨aS, cS, gS, rfl, oS, pS, qS, rS⟩, nS⟩
    rw [pbytes_val] at CS
    have lS : yS.length ≤ 64 := CS.len (by decide)
    have nB : Below wS.heap.size wS (wS.alloc (.cells #[.int .u8 20] 5)) := (Below.refl _ _).alloc (Nat.le_refl _) _
    have BB : Blk (wS.alloc (.cells #[.int .u8 20] 5)) wS.heap.size .u8 [20] := ⟨5, by rw [heap_alloc_last]; rfl⟩
    have hb20 : Byt [20] := fun i => by
      match i with
      | 0 => decide
      | i + 1 => simp
    go_wp2_with fail
    generalize wS.alloc (.cells #[.int .u8 20] 5) = wB at *
    refine (l1Add_any wB gS _ aS _ cS 1 yS [20] (oS.up nB).rd BB.own0.rd CS.1 hb20 (by omega) (by decide)).mono ?_
    rintro e w3 ⟨y3, C3, ⟨a3, c3, g3, rfl, o3, p3, q3, r3⟩, n3⟩
    rw [CS.2.1] at C3
    have N3 := (((N1.up n2).up nS).up nB).up n3
    have hz3 : w.heap.size ≤ wS.heap.size := ((N1.up n2).up nS).size
    have S3 := (((S1.up n2).up nS).up nB).up n3
    have hg3 : w.heap.size ≤ g3 := by have := nB.size; omega
    clear B2 BB
    go_wp2_with fail
    refine (l1Next_any w3 s g a c xs (t + 1) 40 S3 (hr.but N3 hne) hne hb hl (by omega) (by omega) (by decide) (by decide)).mono ?_
    rintro e w4 ⟨v, rfl, ⟨v0, v1⟩, S4, O4⟩
    have o3a := o3.only O4 (fun _ => by omega)
    have N4 := N3.only O4
    go_wp2_with fail
    refine (l1Int_any w4 v v0 (by omega)).mono ?_
    rintro e w5 ⟨i1, il, ib, ⟨ai, ci, gi, rfl, oi, pi, qi, ri⟩, n5⟩
    have o3b := o3a.up n5
    have N5 := N4.up n5
    go_wp2_with fail
    have V : Hid (bval i1 ≤ bval y3) := by
      show _ ≤ _
      have h1 : bval i1 < 256 := by
        have := bval_lt ib
        have hp : (256 : Int) ^ i1.length ≤ 256 ^ 1 := p256_le il
        have : (256 : Int) ^ 1 = 256 := by decide
        omega
      rw [C3.2.1]
      have : bval [20] = 20 := rfl
      have : (0 : Int) ≤ PP - 256 := by decide
      omega
    have L3 : y3.length ≤ 64 := C3.len (by decide)
    have LI : i1.length ≤ y3.length := by
      have := (canon_pos C3).2 (by decide)
      omega
    refine (l1Sub_any w5 g3 gi a3 ai c3 ci y3 i1 o3b.rd oi.rd C3.1 ib (by omega) LI V.out).mono ?_
    rintro e w6 ⟨y6, C6, ⟨a6, c6, g6, rfl, o6, p6, q6, r6⟩, n6⟩
    have L6 : y6.length ≤ 64 := C6.len (Int.lt_of_le_of_lt (show bval y3 - bval i1 ≤ bval y3 by have := bval_nonneg ib; omega) (Int.lt_of_lt_of_le (bval_lt C3.1) (p256_le L3)))
    go_wp2_with fail
    refine (l1Little_any w6 g6 a6 c6 y6 32 o6.rd C6.1 (by omega) (by omega)).mono ?_
    rintro e w7 ⟨rfl, B7, n7⟩
    have N7 := (N5.up n6).up n7
    have z := (N5.up n6).size
    go_wp2
    go_ret
    exact ⟨_, dig_bytes C6.1 32, by rw [fill_len]; omega, ⟨_, 32, w6.heap.size, by rw [fill_len]; rfl, B7.own0, by simp, by rw [fill_len]; omega, z⟩, N7, ⟨_, by omega, by omega, ((S4.up n5).up n6).up n7⟩⟩
  · go_wp2_with (at_make; refine wpList_make_full _ rfl _ _ 22 rfl w1.heap.size 5 i0 (.int .u8 0) 1 Tryz.underlying22 hi hz0 hz1 .i64 .i64 _ _ 32 rfl rfl rfl rfl (by rw [hz2]; omega) (by unfold maxLen; omega) (Nat.le_refl _) ?_; intro w2 hown hgrow)
    have hB := Blk.of_made hown
    have nM : Below w1.heap.size w1 w2 := (Below.refl _ _).grown hgrow (Nat.le_refl _) (by simp)
    have S2 := S1.up nM
    have N2 := N1.up nM
    have z2 : w1.heap.size < w2.heap.size := hB.lt
    clear hown hgrow
    go_loopw [5] (fun i wr => ∃ (k : Nat) (ys : List Int), k ≤ 32 ∧ i = .int .i64 k ∧ FillTo (fun _ => 255) ys 32 k ∧ Blk wr w1.heap.size .u8 ys ∧ Src wr s a xs.length c (t + 1) ∧ But s w wr) (fun i _ => 32 - (intOf i).toNat)
    case atStart => exact ⟨0, _, by omega, rfl, ⟨by simp, fun j hj => absurd hj (by omega)⟩, hB, S2, N2⟩
    case round =>
      clear hB nM S2 N2
      obtain ⟨k, ys, hk, rfl, hF, hB, hS, hN⟩ := hrel
      have z1' := z1.out
      have sne : s ≠ w1.heap.size := by omega
      clear z1'
      by_cases hlt : k < 32
      · have hst := hF.step hlt
        have hcy := hB.cell (i := k) (by rw [hF.1]; exact hlt)
        have hfy := hB.free k
        have k2 : (k : Int) < 32 := by omega
        have St := hB.store k 255
        have Ss := hS.of_block (w' := wr.setCell ⟨w1.heap.size, k, none⟩ (.int .u8 255)) (heap_setCell_other wr ⟨w1.heap.size, k, none⟩ s _ sne)
        have Sn : But s w (wr.setCell ⟨w1.heap.size, k, none⟩ (.int .u8 255)) := hN.setCell (by have := z1.out; omega)
        clear hB hN hF hS
        go_wp2
        go_roundw
        case rel => exact ⟨k + 1, _, by omega, by go_num, hst, St, Ss, Sn⟩
        case measure => simp [intOf]; omega
      · obtain rfl : k = 32 := by omega
        have hy := hF.all
        subst hy
        go_wp2_with fail
        refine (l1Next_any wr s g a c xs (t + 1) 256 hS (hr.but hN hne) hne hb hl (by omega) (by omega) (by decide) (by decide)).mono ?_
        rintro e w4 ⟨v, rfl, ⟨v0, v1⟩, S4, O4⟩
        have B4 := hB.of_block (O4.block w1.heap.size (by omega))
        have c0 : w4.cell? ⟨w1.heap.size, 0, none⟩ = some (.int .u8 255) := B4.cell (i := 0) (by rw [fill_len]; omega)
        have f0 := B4.free 0
        have B5 := B4.store 0 v
        have S5 := S4.of_block (w' := w4.setCell ⟨w1.heap.size, 0, none⟩ (.int .u8 v)) (heap_setCell_other w4 ⟨w1.heap.size, 0, none⟩ s _ sne)
        have N5 : But s w (w4.setCell ⟨w1.heap.size, 0, none⟩ (.int .u8 v)) := (hN.only O4).setCell (by have := z1.out; omega)
        have hv : v % 256 = v := by omega
        have zz : w.heap.size ≤ w1.heap.size := by have := z1.out; omega
        have ZZ := hide zz
        clear zz
        clear hB B4
        go_wp2
        go_ret
        refine ⟨_, byt_set (byt_fill (fun _ => ⟨by decide, by decide⟩) 32) 0 v v0 (by omega), by simp [fill_len], ⟨_, 32, w1.heap.size, ?_, B5.own0, by simp, by simp [fill_len], ZZ.out⟩, N5, ⟨_, by omega, by omega, S5⟩⟩
        simp [fill_len]
  · go_wp2_with (first | (at_make; refine wpList_make_full _ rfl _ _ 22 rfl w1.heap.size 5 i0 (.int .u8 0) 1 Tryz.underlying22 hi hz0 hz1 .i64 .i64 _ _ 32 rfl rfl rfl rfl (by rw [hz2]; omega) (by unfold maxLen; omega) (Nat.le_refl _) ?_; intro w2 hown hgrow) | fail)
    have hB := Blk.of_made hown
    have nM : Below w1.heap.size w1 w2 := (Below.refl _ _).grown hgrow (Nat.le_refl _) (by simp)
    have S2 := S1.up nM
    have N2 := N1.up nM
    clear hown hgrow
    refine (l1Next_any w2 s g a c xs (t + 1) 32 S2 (hr.but N2 hne) hne hb hl (by omega) (by omega) (by decide) (by decide)).mono ?_
    rintro e w3 ⟨i, rfl, ⟨j0, j1⟩, S3, O3⟩
    have sne : s ≠ w1.heap.size := by have := z1.out; omega
    have B3 := hB.of_block (O3.block w1.heap.size (by omega))
    have N3 := N2.only O3
    obtain ⟨j, rfl⟩ := Int.eq_ofNat_of_zero_le j0
    go_wp2_with fail
    refine (l1Next_any w3 s g a c xs (t + 1 + 1) 256 S3 (hr.but N3 hne) hne hb hl (by omega) (by omega) (by decide) (by decide)).mono ?_
    rintro e w4 ⟨v, rfl, ⟨v0, v1⟩, S4, O4⟩
    have B4 := B3.of_block (O4.block w1.heap.size (by omega))
    have c0 := B4.cell (i := j) (by simp; omega)
    have f0 := B4.free j
    have B5 := B4.store j v
    have S5 := S4.of_block (w' := w4.setCell ⟨w1.heap.size, j, none⟩ (.int .u8 v)) (heap_setCell_other w4 ⟨w1.heap.size, j, none⟩ s _ sne)
    have N5 : But s w (w4.setCell ⟨w1.heap.size, j, none⟩ (.int .u8 v)) := (N3.only O4).setCell (by have := z1.out; omega)
    have hv : v % 256 = v := by omega
    have zz : w.heap.size ≤ w1.heap.size := by have := z1.out; omega
    have ZZ := hide zz
    clear zz hB B3 B4
    go_wp2
    go_ret
    refine ⟨_, byt_set (byt_zeros 32) j v v0 (by omega), by simp, ⟨_, 32, w1.heap.size, ?_, B5.own0, by simp, by simp, ZZ.out⟩, N5, ⟨_, by omega, by omega, S5⟩⟩
    simp
  · have q0 : (r == 0) = false := by simp; omega
    have q1 : (r == 1) = false := by simp; omega
    have q2 : (r == 2) = false := by simp; omega
    have q3 : (r == 3) = false := by simp; omega
    have q4 : (r == 4) = false := by simp; omega
    clear r0 r1 h5
    go_wp2_with fail
    refine (l1DrawBytes_any w1 s g a c xs (t + 1) 32 S1 hr1 hne hb hl (by omega) (by omega)).mono ?_
    rintro e w2 ⟨y2, l2, b2, ⟨a2, c2, g2, rfl, o2, p2, q2', r2⟩, S2, T2⟩
    have N2 := N1.trans T2
    have z2 := T2.size
    go_wp2_with fail
    refine (l1Chance_any w2 s g a c xs (t + 1 + ((32 : Nat) : Int)) 25 S2 (hr.but N2 hne) hne hb hl (by omega) (by omega) (by decide) (by decide)).mono ?_
    rintro e w3 ⟨bb, rfl, S3, O3⟩
    have N3 := N2.only O3
    have z1' := z1.out
    have o3 := o2.only O3 (fun _ => by omega)
    have zz : w.heap.size ≤ g2 := by omega
    have ZZ := hide zz
    have L2 := hide l2
    clear zz z1' l2
    cases bb
    · go_wp2
      go_ret
      exact ⟨y2, b2, by have := L2.out; omega, ⟨_, _, g2, by rw [L2.out]; rfl, o3, p2, q2', ZZ.out⟩, N3, ⟨_, by omega, by omega, S3⟩⟩
    · go_wp2_with fail
      refine (l1Next_any w3 s g a c xs (t + 1 + ((32 : Nat) : Int) + 1) 2 S3 (hr.but N3 hne) hne hb hl (by omega) (by omega) (by decide) (by decide)).mono ?_
      rintro e w4 ⟨v, rfl, ⟨v0, v1⟩, S4, O4⟩
      have N4 := N3.only O4
      obtain ⟨j, rfl⟩ := Int.eq_ofNat_of_zero_le v0
      have hj : (31 : Int) + 2 * (j : Int) = ((31 + 2 * j : Nat) : Int) := by omega
      have DB := l1DrawBytes_any w4 s g a c xs (t + 1 + ((32 : Nat) : Int) + 1 + 1) (31 + 2 * j) S4 (hr.but N4 hne) hne hb hl (by omega) (by omega)
      rw [← hj] at DB
      have DH := hide DB
      clear DB hj
      go_wp2_with fail
      refine DH.out.mono ?_
      rintro e w5 ⟨y5, l5, b5, ⟨a5, c5, g5, rfl, o5, p5, q5, r5⟩, S5, T5⟩
      have N5 := N4.trans T5
      have z4 := N4.size
      have L5 : y5.length ≤ 64 := by omega
      have zz : w.heap.size ≤ g5 := by omega
      have ZZ := hide zz
      clear zz l5 DH
      go_wp2
      go_ret
      exact ⟨y5, b5, L5, ⟨_, _, g5, rfl, o5, p5, q5, ZZ.out⟩, N5, ⟨_, by omega, by omega, S5⟩⟩

end Go.Proofs.YtnaaanefndeafaaGreatDoor

/-
  The model's chapter 3: the order and its bytes, what is below it, what is left modulo it.
-/
namespace Go.Proofs.YtnaaanefndeafaaGreatDoor
set_option maxRecDepth 100000
open Go.RowKit

theorem qtxt : Txt ⟨#[50, 55, 55, 52, 50, 51, 49, 55, 55, 55, 55, 51, 55, 50, 51, 53, 51, 53, 51, 53, 56, 53, 49, 57, 51, 55, 55, 57, 48, 56, 56, 51, 54, 52, 56, 52, 57, 51]⟩ qdec := by
  refine ⟨by decide, fun k hk => ?_⟩
  have : ∀ k : Fin 38, ∃ b : UInt8, (⟨#[50, 55, 55, 52, 50, 51, 49, 55, 55, 55, 55, 51, 55, 50, 51, 53, 51, 53, 51, 53, 56, 53, 49, 57, 51, 55, 55, 57, 48, 56, 56, 51, 54, 52, 56, 52, 57, 51]⟩ : ByteArray)[k.1]? = some b ∧ (b.toNat : Int) = qdec.getD k.1 0 + 48 := by
    intro k
    refine ⟨UInt8.ofNat (qdec.getD k.1 0 + 48).toNat, ?_, ?_⟩
    · revert k; decide
    · revert k; decide
  exact this ⟨k, hk⟩

set_option maxHeartbeats 1000000 in
theorem l3Order_any (w : World) :
    Calls Tryz.prog 148 #[] w fun e w' => ∃ ys, Canon ys QQ ∧ NewRow w.heap.size w' e .u8 ys ∧ Below w.heap.size w w' := by
  have n0 : Below w.heap.size w (w.alloc (.cells #[.int .u8 1] 5)) := (Below.refl _ _).alloc (Nat.le_refl _) _
  have B0 := one_a w 1
  have D := fun W => l1Decimal_any W _ qtxt
  have b1 : Byt [1] := byt_one (by omega) (by omega)
  have e1 : Hid (bval [1] = 1) := by show _ = _; decide
  go_enter Tryz.func148, Tryz.ntmps148
  go_wp2_with fail
  generalize w.alloc (.cells #[.int .u8 1] 5) = wa at *
  refine (l1Shift252_any wa _ _ 1 [1] B0.own0.rd b1 (by simp) (by simp)).mono ?_
  rintro e w1 ⟨xs, C1, ⟨a1, c1, g1, rfl, o1, p1, q1, r1⟩, n1⟩
  have N1 := nxt n0 n1
  go_wp2_with fail
  refine (D w1).mono ?_
  rintro e w2 ⟨us, C2, ⟨a2, c2, g2, rfl, o2, p2, q2, r2⟩, n2⟩
  have N2 := nxt N1 n2
  rw [e1.out, Int.one_mul] at C1
  have L1 : xs.length ≤ 64 := C1.len (by decide)
  have L2 : us.length ≤ 64 := C2.len (by decide)
  go_wp2_with fail
  refine (l1Add_any w2 g1 g2 a1 a2 c1 c2 xs us (o1.up n2).rd o2.rd C1.1 C2.1 (by omega) (by omega)).mono ?_
  rintro e w3 ⟨ys, C3, ⟨a3, c3, g3, rfl, o3, p3, q3, r3⟩, n3⟩
  have N3 := nxt N2 n3
  have z := N2.size
  rw [C1.2.1, C2.2.1] at C3
  have C4 : Canon ys QQ := C3
  clear C1 C2 C3
  go_wp2
  go_ret
  exact ⟨ys, C4, ⟨a3, c3, g3, rfl, o3, p3, q3, by omega⟩, N3⟩
theorem canon_q {ys : List Int} (C : Canon ys QQ) : ys.length ≤ 32 := C.len (by decide)



end Go.Proofs.YtnaaanefndeafaaGreatDoor

/-
  The three lists of bytes that are drawn for OrderMulAdd.
-/
namespace Go.Proofs.YtnaaanefndeafaaGreatDoor
set_option maxRecDepth 100000
open Go.RowKit

theorem little_byt {xs : List Int} (h : Byt xs) (n : Nat) : Byt (fill (dig xs) n) := dig_bytes h n

set_option maxHeartbeats 4000000 in
theorem l3Draw_any (w : World) (s g : Nat) (a : Option Addr) (c : Nat) (xs : List Int) (t : Int) (t0 : 0 ≤ t) (t1 : t ≤ 9000) (hs : Src w s a xs.length c t) (hr : Rd w g a .u8 xs) (hne : 0 < xs.length → g ≠ s) (hb : Byt xs) (hl : xs.length ≤ 1048576) :
    Calls Tryz.prog 119 #[.pointer (some ⟨s, 0, none⟩)] w fun e w' => ∃ ys, Byt ys ∧ ys.length ≤ 64 ∧ NewRow w.heap.size w' e .u8 ys ∧ But s w w' ∧ SrcTo w' s a xs.length c (t + 300) := by
  have sl := hs.lt
  have NX := l1Next_any w s g a c xs t 6 hs hr hne hb hl (by omega) (by omega) (by decide) (by decide)
  go_enter Tryz.func119, Tryz.ntmps119
  go_wp2_with fail
  refine NX.mono ?_
  rintro e w1 ⟨r, rfl, ⟨r0, r1⟩, S1, O1⟩
  have N1 : But s w w1 := But.ofOnly O1
  have hr1 := hr.but N1 hne
  have z1 := hide O1.size
  clear NX
  by_cases h2 : r < 2
  · have q1 : decide (r < 2) = true := by simp; omega
    clear h2 r0 r1
    go_wp2_with fail
    refine (l3Order_any w1).mono ?_
    rintro e w2 ⟨qs, Cq, ⟨a2, c2, g2, rfl, o2, p2, q2, r2⟩, n2⟩
    have N2 := N1.up n2
    have S2 := S1.up n2
    have hz2 : w.heap.size ≤ g2 := by have := z1.out; omega
    go_wp2_with fail
    refine (l1Next_any w2 s g a c xs (t + 1) 15 S2 (hr.but N2 hne) hne hb hl (by omega) (by omega) (by decide) (by decide)).mono ?_
    rintro e w3 ⟨v, rfl, ⟨v0, v1⟩, S3, O3⟩
    have N3 := N2.only O3
    have o3 := o2.only O3 (fun _ => by omega)
    have hw : IntKind.i64.wrap (1 + v) = 1 + v := by rw [IntKind.wrap_i64]; omega
    have hw8 : (1 + v) % 256 = 1 + v := by omega
    have hw9 : IntKind.u8.wrap (1 + v) = 1 + v := by rw [IntKind.wrap_u8]; omega
    have bv := byt_one (d := 1 + v) (by omega) (by omega)
    have nB : Below w3.heap.size w3 (w3.alloc (.cells #[.int .u8 (1 + v)] 5)) := (Below.refl _ _).alloc (Nat.le_refl _) _
    have BB := one_a w3 (1 + v)
    have Lq := canon_q Cq
    have ev : bval [1 + v] = 1 + v := by simp [bval]
    go_wp2_with fail
    generalize w3.alloc (.cells #[.int .u8 (1 + v)] 5) = wB at *
    refine (l1Mul_any wB g2 _ a2 _ c2 1 qs [1 + v] (o3.up nB).rd BB.own0.rd Cq.1 bv (by omega) (by simp)).mono ?_
    rintro e w4 ⟨ms, C4, ⟨a4, c4, g4, rfl, o4, p4, q4, r4⟩, n4⟩
    have N4 := (N3.up nB).up n4
    have S4 := (S3.up nB).up n4
    rw [Cq.2.1, ev] at C4
    have V4 : QQ ≤ bval ms := by
      rw [C4.2.1]
      have : QQ * 1 ≤ QQ * (1 + v) := Int.mul_le_mul_of_nonneg_left (by omega) (by decide)
      omega
    have L4 : ms.length ≤ 64 := C4.len (by
      have : QQ * (1 + v) ≤ QQ * 15 := Int.mul_le_mul_of_nonneg_left (by omega) (by decide)
      exact Int.lt_of_le_of_lt this (by decide))
    have M4 := C4.1
    have hg4 : w.heap.size ≤ g4 := by have := (N3.up nB).size; omega
    clear C4 BB hw hw8 hw9 ev bv o3 o2 Cq N1 N2 N3 S1 S2 S3 nB n4 n2 O3
    have nC : Below w4.heap.size w4 (w4.alloc (.cells #[.int .u8 3] 5)) := (Below.refl _ _).alloc (Nat.le_refl _) _
    have BC := one_a w4 3
    have b3 := byt_one (d := 3) (by omega) (by omega)
    have e3 : bval [3] = 3 := by decide
    go_wp2_with fail
    generalize w4.alloc (.cells #[.int .u8 3] 5) = wC at *
    refine (l1Add_any wC g4 _ a4 _ c4 1 ms [3] (o4.up nC).rd BC.own0.rd M4 b3 (by omega) (by decide)).mono ?_
    rintro e w5 ⟨ys5, C5, ⟨a5, c5, g5, rfl, o5, p5, q5, r5⟩, n5⟩
    have N5 := (N4.up nC).up n5
    have S5 := (S4.up nC).up n5
    have hg5 : w.heap.size ≤ g5 := by have := (N4.up nC).size; omega
    have V5 : QQ ≤ bval ys5 := by rw [C5.2.1, e3]; omega
    have L5 : ys5.length ≤ 65 := C5.len (n := 65) (by
      have b4 := Int.lt_of_lt_of_le (bval_lt M4) (p256_le (show ms.length ≤ 64 from L4))
      have e64 : (256 : Int) ^ 65 = 256 ^ 64 * 256 := by rw [← Int.pow_succ]
      have e1 : (3 : Int) ≤ 256 ^ 64 := by decide
      rw [e3, e64]
      omega)
    have M5 := C5.1
    clear C5 BC b3 e3 o4 N4 S4 nC n5 V4 L4
    go_wp2_with fail
    refine (l1Next_any w5 s g a c xs (t + 1 + 1) 7 S5 (hr.but N5 hne) hne hb hl (by omega) (by omega) (by decide) (by decide)).mono ?_
    rintro e w6 ⟨v6, rfl, ⟨v60, v61⟩, S6, O6⟩
    have N6 := N5.only O6
    have o6 := o5.only O6 (fun _ => by omega)
    go_wp2_with fail
    refine (l1Int_any w6 v6 v60 (by omega)).mono ?_
    rintro e w7 ⟨i1, il, ib, ⟨ai, ci, gi, rfl, oi, pi, qi, ri⟩, n7⟩
    have o7 := o6.up n7
    have N7 := N6.up n7
    have S7 := S6.up n7
    have V : Hid (bval i1 ≤ bval ys5) := by
      show _ ≤ _
      have h1 : bval i1 < 256 := by
        have := bval_lt ib
        have hp : (256 : Int) ^ i1.length ≤ 256 ^ 1 := p256_le il
        have : (256 : Int) ^ 1 = 256 := by decide
        omega
      have : (256 : Int) ≤ QQ := by decide
      omega
    have LI : i1.length ≤ ys5.length := by
      by_cases e : ys5.length = 0
      · have : ys5 = [] := List.eq_nil_of_length_eq_zero e
        subst this
        rw [bval_nil] at V5
        exact absurd V5 (by decide)
      · omega
    clear o5 o6 N5 N6 S5 S6 n7 O6 V5
    go_wp2_with fail
    refine (l1Sub_any w7 g5 gi a5 ai c5 ci ys5 i1 o7.rd oi.rd M5 ib (by omega) LI V.out).mono ?_
    rintro e w8 ⟨y8, C8, ⟨a8, c8', g8, rfl, o8, p8, q8, r8⟩, n8⟩
    have L8 : y8.length ≤ 65 := C8.len (Int.lt_of_le_of_lt (show bval ys5 - bval i1 ≤ bval ys5 by have := bval_nonneg ib; omega) (Int.lt_of_lt_of_le (bval_lt M5) (p256_le L5)))
    go_wp2_with fail
    refine (l1Little_any w8 g8 a8 c8' y8 32 o8.rd C8.1 (by omega) (by omega)).mono ?_
    rintro e w9 ⟨rfl, B9, n9⟩
    have N9 := (N7.up n8).up n9
    have S9 := (S7.up n8).up n9
    have z := (N7.up n8).size
    clear LI V
    go_wp2
    go_ret
    exact ⟨_, little_byt C8.1 32, by rw [fill_len]; omega, ⟨_, 32, w8.heap.size, by rw [fill_len]; rfl, B9.own0, by simp, by rw [fill_len]; omega, z⟩, N9, ⟨_, by omega, by omega, S9⟩⟩
  · have q1 : decide (r < 2) = false := by simp; omega
    by_cases h3 : r = 2
    · subst h3
      clear h2 r0 r1
      have L2 := l2DrawT_any w1 s g a c xs (t + 1) (by omega) (by omega) S1 hr1 hne hb hl
      go_wp2_with fail
      refine L2.mono ?_
      rintro e w2 ⟨ys, yb, yl, ⟨a2, c2, g2, rfl, o2, p2, q2, r2⟩, N2, ⟨t2, t20, t21, S2⟩⟩
      have N3 := N1.trans N2
      have z := z1.out
      have ZZ : Hid (w.heap.size ≤ g2) := by show _ ≤ _; omega
      clear L2 z
      go_wp2
      go_ret
      exact ⟨ys, yb, yl, ⟨_, _, g2, rfl, o2, p2, q2, ZZ.out⟩, N3, ⟨t2, t20, by omega, S2⟩⟩
    · have q2 : (r == 2) = false := by simp; omega
      clear h2 h3 r0 r1
      go_wp2_with fail
      refine (l1DrawBytes_any w1 s g a c xs (t + 1) 32 S1 hr1 hne hb hl (by omega) (by omega)).mono ?_
      rintro e w2 ⟨ys, yl, yb, ⟨a2, c2, g2, rfl, o2, p2, q2', r2⟩, S2, N2⟩
      have N3 := N1.trans N2
      have z := z1.out
      have ZZ : Hid (w.heap.size ≤ g2) := by show _ ≤ _; omega
      have L := hide yl
      clear yl z
      go_wp2
      go_ret
      exact ⟨ys, yb, by have := L.out; omega, ⟨_, _, g2, by first | rfl | (rw [L.out]; rfl), o2, p2, q2', ZZ.out⟩, N3, ⟨_, by omega, by omega, S2⟩⟩

end Go.Proofs.YtnaaanefndeafaaGreatDoor

/-
  What FnFieldRing draws: two elements, a ladder's key and u.
-/
namespace Go.Proofs.YtnaaanefndeafaaGreatDoor
set_option maxRecDepth 100000
open Go Go.RowKit

set_option maxHeartbeats 2000000 in
theorem l1Int1_any (w : World) (v : Int) (v0 : 1 ≤ v) (v1 : v ≤ 255) :
    Calls Tryz.prog 122 #[.int .i64 v] w fun e w' => ∃ ys, ys = [v] ∧ NewRow w.heap.size w' e .u8 ys ∧ Below w.heap.size w w' := by
  obtain ⟨i0, hi, hz0, hz1, hz2⟩ := info_parts Tryz.info5
  have hown0 : (w.alloc (.cells #[] 5)).ownsRow w.heap.size 5 1 (.slice (some ⟨w.heap.size, 0, none⟩) 0 0) 0 [] := World.ownsRow_lit w #[] 0 (Nat.le_refl _) (by unfold maxLen; omega) (by simp)
  have hal : Below w.heap.size w (w.alloc (.cells #[] 5)) := (Below.refl _ _).alloc (Nat.le_refl _) _
  go_enter Tryz.func122, Tryz.ntmps122
  go_wp2
  go_loopw [0, 3] (fun q vv wr => ∃ (k : Nat) (t : Int) (ys : List Int), q = .int .i64 t ∧ 0 ≤ t ∧ t ≤ 255 ∧ k ≤ 1 ∧ (0 < t → k = 0) ∧ Hid ((0 < t → t = v) ∧ (t = 0 → ys = [v])) ∧ Hid (ys.length = k) ∧ Byt ys ∧ wr.ownsRow w.heap.size 5 1 vv k (ys.map (Value.int .u8)) ∧ Below w.heap.size w wr) (fun q _ _ => (intOf q).toNat)
  case atStart => exact ⟨0, v, [], rfl, by omega, v1, by omega, fun _ => rfl, ⟨fun _ => rfl, fun h => absurd h (by omega)⟩, rfl, byt_nil, hown0, hal⟩
  case round =>
    obtain ⟨k, t, ys, rfl, ht0, ht1, hk1, hk0, hvl, hyl, hyb, hown, hN⟩ := hrel
    have hob := hown.lt
    by_cases hlt : 0 < t
    · have hk := hk0 hlt
      subst hk
      have m1 : t % 256 = t := by omega
      have m2 : t / 256 = 0 := by omega
      clear hk0 hk1
      go_wp2_with (at_builtin; refine wpList_append_own _ rfl _ _ 22 rfl w.heap.size 5 i0 (.int .u8 0) 1 1 Tryz.underlying22 hi hz0 hz1 hz2 rfl (by decide) _ 0 (ys.map (Value.int .u8)) rfl (hown.alloc _) ⟨wr.heap.size, 0, none⟩ 1 1 [.int .u8 t] rfl rfl ?c1 ?c2 ?c3 ?c4 ?c5 ?_)
      case c1 =>
        intro j u hj
        match j, hj with
        | 0, hj => simp at hj; subst hj; simp [Addr.add]
      case c2 => intro u hu; simp at hu; subst hu; rfl
      case c3 => unfold maxLen; omega
      case c4 => omega
      case c5 => simp; have := hN.size; omega
      · intro v' w2 hown2 hgrow _
        have nA : Below w.heap.size w (wr.alloc (.cells #[.int .u8 t] 5)) := hN.alloc hN.size _
        have N2 : Below w.heap.size w w2 := nA.grown hgrow (by simp; have := hN.size; omega) (fun i hi => (hob i hi).1)
        have hown3 : w2.ownsRow w.heap.size 5 1 v' 1 ((ys ++ [t]).map (Value.int .u8)) := by simpa using hown2
        have hl3 : Hid ((ys ++ [t]).length = 1) := by show _ = _; have := hyl.out; simp; exact List.eq_nil_of_length_eq_zero this
        have hb3 := byt_snoc hyb t ht0 (by omega)
        have hv3 : Hid (ys ++ [t] = [v]) := by
          show _ = _
          rw [List.eq_nil_of_length_eq_zero hyl.out, hvl.out.1 hlt]
          rfl
        clear hown hown2 hgrow nA hob
        go_wp2
        go_roundw
        case rel => exact ⟨1, t / 256, ys ++ [t], rfl, by omega, by omega, by omega, fun h => absurd h (by omega), ⟨fun h => absurd h (by omega), fun _ => hv3.out⟩, hl3, hb3, hown3, N2⟩
        case measure => simp [intOf]; omega
    · obtain rfl : t = 0 := by omega
      have hown' := hown
      rw [← hyl.out] at hown'
      obtain ⟨a', c', g', hv, o1, o2, o3, o4⟩ := Own.of_ownsRow hown'
      subst hv
      have L : ys.length ≤ 1 := by rw [hyl.out]; exact hk1
      have T := l1Turn_any wr g' a' c' ys o1.rd hyb (by omega)
      have HT := hide T
      clear hown hown' hk0 T
      go_wp2_with fail
      refine (unhide HT).mono ?_
      rintro e w3 ⟨zs, zt, zb, ⟨a3, c3, g3, rfl, o31, o32, o33, o34⟩, n3⟩
      have zl := zt.1
      have ZV : Hid (zs = [v]) := by
        show _ = _
        have e := hvl.out.2 (by first | exact True.intro | rfl)
        have g := zt.2 0 (by rw [e]; simp)
        rw [e] at zl g
        match zs, zl, g with
        | [z], _, g => simpa using g
      clear zt
      have N3 := nxt hN n3
      have sz := hN.size
      have ZL : zs.length ≤ 1 := by omega
      clear zl
      go_wp2
      go_ret
      exact ⟨zs, ZV.out, ⟨_, _, g3, rfl, o31, o32, o33, by omega⟩, N3⟩


set_option maxHeartbeats 2000000 in
theorem l4DrawKey_any (w : World) (s g : Nat) (a : Option Addr) (c : Nat) (xs : List Int) (t : Int) (t0 : 0 ≤ t) (t1 : t ≤ 5000) (hs : Src w s a xs.length c t) (hr : Rd w g a .u8 xs) (hne : 0 < xs.length → g ≠ s) (hb : Byt xs) (hl : xs.length ≤ 1048576) :
    Calls Tryz.prog 61 #[.pointer (some ⟨s, 0, none⟩)] w fun e w' => ∃ ys, Byt ys ∧ ys.length ≤ 64 ∧ NewRow w.heap.size w' e .u8 ys ∧ But s w w' ∧ SrcTo w' s a xs.length c (t + 400) := by
  have sl := hs.lt
  go_enter Tryz.func61, Tryz.ntmps61
  go_wp2_with fail
  refine (l1Chance_any w s g a c xs t 30 hs hr hne hb hl (by omega) (by omega) (by decide) (by decide)).mono ?_
  rintro e w1 ⟨b, rfl, S1, O1⟩
  have N1 : But s w w1 := But.ofOnly O1
  have z1 := hide O1.size
  cases b with
  | true =>
    go_wp2_with fail
    refine (l1Next_any w1 s g a c xs (t + 1) 2 S1 (hr.but N1 hne) hne hb hl (by omega) (by omega) (by decide) (by decide)).mono ?_
    rintro e w2 ⟨v, rfl, ⟨v0, v1⟩, S2, O2⟩
    have N2 := N1.only O2
    have z2 := hide O2.size
    obtain ⟨m, hm⟩ : ∃ m : Nat, (m : Int) = 31 + 2 * v := ⟨(31 + 2 * v).toNat, by omega⟩
    have e1 : IntKind.i64.wrap (2 * v) = 2 * v := by rw [IntKind.wrap_i64]; omega
    have e2 : IntKind.i64.wrap (31 + 2 * v) = 31 + 2 * v := by rw [IntKind.wrap_i64]; omega
    have DB := l1DrawBytes_any w2 s g a c xs (t + 1 + 1) m S2 (hr.but N2 hne) hne hb hl (by omega) (by omega)
    rw [hm] at DB
    have HM := hide hm
    clear hm
    go_wp2_with fail
    refine DB.mono ?_
    rintro e w3 ⟨ys, yl, yb, ⟨a3, c3, g3, rfl, o3, p3, q3, r3⟩, S3, N3⟩
    have N4 := N2.trans N3
    have YL := hide yl
    have zz := hide (show w.heap.size ≤ g3 by have := z1.out; have := z2.out; omega)
    clear DB yl
    go_wp2
    go_ret
    exact ⟨ys, yb, by have := YL.out; have := HM.out; omega, ⟨a3, c3, g3, rfl, o3, p3, q3, zz.out⟩, N4, ⟨_, by omega, by omega, S3⟩⟩
  | false =>
    go_wp2_with fail
    refine (l3Draw_any w1 s g a c xs (t + 1) (by omega) (by omega) S1 (hr.but N1 hne) hne hb hl).mono ?_
    rintro e w2 ⟨ys, yb, yl, ⟨a3, c3, g3, rfl, o3, p3, q3, r3⟩, N3, ⟨t3, t30, t31, S3⟩⟩
    have N4 := N1.trans N3
    have YL := hide yl
    have zz := hide (show w.heap.size ≤ g3 by have := z1.out; omega)
    clear yl
    go_wp2
    go_ret
    exact ⟨ys, yb, YL.out, ⟨a3, c3, g3, rfl, o3, p3, q3, zz.out⟩, N4, ⟨t3, t30, by omega, S3⟩⟩
end Go.Proofs.YtnaaanefndeafaaGreatDoor

/-
  The ladder's u, as it is drawn; DrawLadder.
-/
namespace Go.Proofs.YtnaaanefndeafaaGreatDoor
set_option maxRecDepth 100000
open Go Go.RowKit

/-- A list of bytes that the drawing made. -/
def Drawn (w : World) (s : Nat) (a : Option Addr) (n c : Nat) (m : Int) (v : Value) (wc : World) : Prop :=
  ∃ (ys : List Int) (b : Option Addr) (d h : Nat), v = .slice b ys.length d ∧ Byt ys ∧ ys.length ≤ 64 ∧ Own wc h b .u8 ys ∧ (b = none → d = 0) ∧ ys.length ≤ d ∧ w.heap.size ≤ h ∧ But s w wc ∧ SrcTo wc s a n c m

theorem or128 : ∀ n : Fin 256, 0 ≤ bits BinOp.or IntKind.u8 (n.val : Int) 128 ∧ bits BinOp.or IntKind.u8 (n.val : Int) 128 < 256 := by decide +kernel
theorem or_bd {y : Int} (h : 0 ≤ y ∧ y < 256) : 0 ≤ bits BinOp.or IntKind.u8 y 128 ∧ bits BinOp.or IntKind.u8 y 128 < 256 := by
  have := or128 ⟨y.toNat, by omega⟩
  simp only [Int.toNat_of_nonneg h.1] at this
  exact this
theorem byt_set5 {ys : List Int} (h : Byt ys) (i : Nat) {v : Int} (hv : 0 ≤ v ∧ v < 256) : Byt (ys.set i v) := fun j => by
  rw [List.getD_eq_getElem?_getD, List.getElem?_set]
  split
  · split
    · exact hv
    · simp
  · rw [← List.getD_eq_getElem?_getD]; exact h j
theorem Drawn.only {w W W' : World} {s : Nat} {a : Option Addr} {n c : Nat} {m m' : Int} {v : Value} (h : Drawn w s a n c m v W) (o : Only s W W') (S : SrcTo W' s a n c m') (hs : s < w.heap.size := by omega) : Drawn w s a n c m' v W' := by
  obtain ⟨ys, b, d, g, rfl, yb, yl, oy, p, q, z, N, _⟩ := h
  exact ⟨ys, b, d, g, rfl, yb, yl, oy.only o (fun _ => by omega), p, q, z, N.only o, S⟩
theorem Drawn.le {w W : World} {s : Nat} {a : Option Addr} {n c : Nat} {m m' : Int} {v : Value} (h : Drawn w s a n c m v W) (hm : m ≤ m') : Drawn w s a n c m' v W := by
  obtain ⟨ys, b, d, g, e, yb, yl, oy, p, q, z, N, t, t0, t1, S⟩ := h
  exact ⟨ys, b, d, g, e, yb, yl, oy, p, q, z, N, t, t0, by omega, S⟩
theorem toLad_len (xs ys : List Int) : (toLad xs ys).length ≤ 64 := by
  unfold toLad
  split
  · rw [fill_len]; omega
  · simp
theorem toLad_byt (xs ys : List Int) : Byt (toLad xs ys) := by
  unfold toLad
  split
  · exact bytes_5 _ _
  · exact byt_nil
theorem drawn_little {w W W' : World} {s : Nat} {a : Option Addr} {n c : Nat} {m : Int} {xs : List Int} (hb : Byt xs) (B : Blk W' W.heap.size .u8 (fill (dig xs) 32)) (z : w.heap.size ≤ W.heap.size) (N : But s w W') (S : SrcTo W' s a n c m) :
    Drawn w s a n c m (.slice (some ⟨W.heap.size, 0, none⟩) 32 32) W' :=
  ⟨fill (dig xs) 32, _, 32, W.heap.size, by rw [fill_len], dig_bytes hb 32, by rw [fill_len]; omega, B.own0, by simp, by rw [fill_len]; omega, z, N, S⟩

set_option maxHeartbeats 4000000 in
theorem l4DrawU_any (w : World) (s g : Nat) (a : Option Addr) (c : Nat) (xs : List Int) (t : Int) (t0 : 0 ≤ t) (t1 : t ≤ 5000) (hs : Src w s a xs.length c t) (hr : Rd w g a .u8 xs) (hne : 0 < xs.length → g ≠ s) (hb : Byt xs) (hl : xs.length ≤ 1048576) :
    Calls Tryz.prog 62 #[.pointer (some ⟨s, 0, none⟩)] w fun e w' => ∃ ys, Byt ys ∧ ys.length ≤ 64 ∧ NewRow w.heap.size w' e .u8 ys ∧ But s w w' ∧ SrcTo w' s a xs.length c (t + 400) := by
  have sl := hs.lt
  go_enter Tryz.func62, Tryz.ntmps62
  go_wp2_with fail
  refine (l1Next_any w s g a c xs t 8 hs hr hne hb hl (by omega) (by omega) (by decide) (by decide)).mono ?_
  rintro e w1 ⟨r, rfl, ⟨r0, r1⟩, S1, O1⟩
  have N1 : But s w w1 := But.ofOnly O1
  have z1 := hide O1.size
  clear hs O1
  by_cases h0 : r = 0
  · subst h0
    clear r0 r1
    go_wp2_with fail
    refine (l2DrawT_any w1 s g a c xs (t + 1) (by omega) (by omega) S1 (hr.but N1 hne) hne hb hl).mono ?_
    rintro e w2 ⟨ys, yb, yl, ⟨a3, c3, g3, rfl, o3, p3, q3, r3⟩, N3, ⟨t3, t30, t31, S3⟩⟩
    have N4 := N1.trans N3
    have YL := hide yl
    have zz := hide (show w.heap.size ≤ g3 by have := z1.out; omega)
    clear yl
    go_wp2
    go_ret
    exact ⟨ys, yb, YL.out, ⟨a3, c3, g3, rfl, o3, p3, q3, zz.out⟩, N4, ⟨t3, t30, by omega, S3⟩⟩
  · have q0 : (r == 0) = false := by simp [h0]
    by_cases h1 : r = 1
    · subst h1
      clear r0 r1 h0 q0
      go_wp2_with fail
      refine (l1Next_any w1 s g a c xs (t + 1) 3 S1 (hr.but N1 hne) hne hb hl (by omega) (by omega) (by decide) (by decide)).mono ?_
      rintro e w2 ⟨v, rfl, ⟨v0, v1⟩, S2, O2⟩
      have N2 := N1.only O2
      have z2 := hide O2.size
      go_wp2_with fail
      refine (l1Int_any w2 v v0 (by omega)).mono ?_
      rintro e w3 ⟨us, ul, ub, ⟨a3, c3, g3, rfl, o3, p3, q3, r3⟩, n3⟩
      have N3 := N2.up n3
      have S3 := S2.up n3
      go_wp2_with fail
      refine (l1Little_any w3 g3 a3 c3 us 32 o3.rd ub (by omega) (by omega)).mono ?_
      rintro e w4 ⟨rfl, B4, n4⟩
      have N4 := N3.up n4
      have S4 := S3.up n4
      have D4 : Drawn w s a xs.length c (t + 10) (.slice (some ⟨w3.heap.size, 0, none⟩) 32 32) w4 := drawn_little ub B4 (by have := N3.size; omega) N4 ⟨_, by omega, by omega, S4⟩
      clear B4 n4 S3 N3 o3 p3 q3 r3 n3 S2 N2 O2 z2 v0 v1 S1 N1 z1
      go_wp2_with fail
      refine (l1Chance_any w4 s g a c xs (t + 1 + 1) 2 S4 (hr.but N4 hne) hne hb hl (by omega) (by omega) (by decide) (by decide)).mono ?_
      rintro e w5 ⟨b, rfl, S5, O5⟩
      have N5 := N4.only O5
      have D5 : Drawn w s a xs.length c (t + 10) (.slice (some ⟨w3.heap.size, 0, none⟩) 32 32) w5 := D4.only O5 ⟨_, by omega, by omega, S5⟩
      clear D4 O5 S4 N4
      go_upto_if 19 with fail
      go_cut [4] (fun v wc => Drawn w s a xs.length c (t + 20) v wc)
      case first =>
        cases b with
        | true =>
          go_wp2_with fail
          refine (l2Prime_any w5).mono ?_
          rintro e w6 ⟨rfl, B6, n6⟩
          have N6 := N5.up n6
          have S6 := S5.up n6
          have k6 := N5.size
          go_wp2_with fail
          refine (l1Next_any w6 s g a c xs (t + 1 + 1 + 1) 2 S6 (hr.but N6 hne) hne hb hl (by omega) (by omega) (by decide) (by decide)).mono ?_
          rintro e w7 ⟨v, rfl, ⟨v0, v1⟩, S7, O7⟩
          have N7 := N6.only O7
          have B7 := B6.own0.only O7 (fun _ => by omega)
          have e1 : IntKind.i64.wrap (v + 1) = v + 1 := by rw [IntKind.wrap_i64]; omega
          go_wp2_with fail
          refine (l1Int1_any w7 (v + 1) (by omega) (by omega)).mono ?_
          rintro e w8 ⟨vs, rfl, ⟨a8, c8, g8, rfl, o8, p8, q8, r8⟩, n8⟩
          have N8 := N7.up n8
          have S8 := S7.up n8
          have B8 := B7.up n8
          have n9 : Below w8.heap.size w8 (w8.alloc (.cells #[.int .u8 1] 5)) := (Below.refl _ _).alloc (Nat.le_refl _) _
          have B9 := one_a w8 1
          have bv := byt_one (d := v + 1) (by omega) (by omega)
          have ev : bval [v + 1] = v + 1 := by simp [bval]
          have e1' : bval [1] = 1 := by decide
          go_wp2_with fail
          generalize w8.alloc (.cells #[.int .u8 1] 5) = w9 at *
          refine (l1Sub_any w9 g8 _ a8 _ c8 1 [v + 1] [1] (o8.up n9).rd B9.own0.rd bv (byt_one (by omega) (by omega)) (by simp) (by simp) (by rw [ev, e1']; omega)).mono ?_
          rintro e wA ⟨ms, CA, ⟨aA, cA, gA, rfl, oA, pA, qA, rA⟩, nA⟩
          have NA := (N8.up n9).up nA
          have SA := (S8.up n9).up nA
          have BA := (B8.up n9).up nA
          rw [ev, e1'] at CA
          have LA : ms.length ≤ 1 := CA.len (n := 1) (by simp; omega)
          go_wp2_with fail
          refine (l1Add_any wA _ gA _ aA 32 cA pbytes ms BA.rd oA.rd pbytes_byt CA.1 (by decide) (by omega)).mono ?_
          rintro e wB ⟨hs', CB, ⟨aB, cB, gB, rfl, oB, pB, qB, rB⟩, nB⟩
          have NB' := NA.up nB
          have SB := SA.up nB
          have LB : hs'.length ≤ 64 := CB.len (n := 64) (by
            rw [pbytes_val, CA.2.1]
            have : PP + (v + 1 - 1) ≤ PP + 255 := by omega
            exact Int.lt_of_le_of_lt this (by decide))
          go_wp2_with fail
          refine (l1Little_any wB gB aB cB hs' 32 oB.rd CB.1 (by omega) (by omega)).mono ?_
          rintro e wC ⟨rfl, BC, nC⟩
          have DC : Drawn w s a xs.length c (t + 20) (.slice (some ⟨wB.heap.size, 0, none⟩) 32 32) wC := drawn_little CB.1 BC (by have := NB'.size; omega) (NB'.up nC) ⟨_, by omega, by omega, SB.up nC⟩
          clear D5
          go_wp2_with fail
          go_meet
          exact DC
        | false =>
          go_wp2_with fail
          go_meet
          exact D5.le (by omega)
      case rest =>
        clear D5 S5 N5
        obtain ⟨ys, b1, d1, h1, rfl, yb, yl, oy, py, qy, ry, N5, ⟨t5, t50, t51, S5⟩⟩ := hcut
        go_wp2_with fail
        refine (l1Chance_any wc s g a c xs t5 3 S5 (hr.but N5 hne) hne hb hl (by omega) (by omega) (by decide) (by decide)).mono ?_
        rintro e w6 ⟨b, rfl, S6, O6⟩
        have D6 : Drawn w s a xs.length c (t + 30) (.slice b1 ys.length d1) w6 := (show Drawn w s a xs.length c (t + 20) _ wc from ⟨ys, b1, d1, h1, rfl, yb, yl, oy, py, qy, ry, N5, ⟨t5, t50, t51, S5⟩⟩).only O6 ⟨_, by omega, by omega, S6⟩
        have N6 := N5.only O6
        clear oy py qy ry S5 N5 O6 yb yl
        go_upto_if 30 with fail
        go_cut [4] (fun v wc => Drawn w s a xs.length c (t + 40) v wc)
        case first =>
          cases b with
          | true =>
            go_wp2_with fail
            refine (l2Prime_any w6).mono ?_
            rintro e w7 ⟨rfl, B7, n7⟩
            have N7 := N6.up n7
            have S7 := S6.up n7
            have n9 : Below w7.heap.size w7 (w7.alloc (.cells #[.int .u8 1] 5)) := (Below.refl _ _).alloc (Nat.le_refl _) _
            have B9 := one_a w7 1
            have e1' : bval [1] = 1 := by decide
            go_wp2_with fail
            generalize w7.alloc (.cells #[.int .u8 1] 5) = w9 at *
            refine (l1Sub_any w9 _ _ _ _ 32 1 pbytes [1] (B7.up n9).own0.rd B9.own0.rd pbytes_byt (byt_one (by omega) (by omega)) (by decide) (by decide) (by rw [pbytes_val, e1']; decide)).mono ?_
            rintro e wA ⟨ms, CA, ⟨aA, cA, gA, rfl, oA, pA, qA, rA⟩, nA⟩
            have NA := (N7.up n9).up nA
            have SA := (S7.up n9).up nA
            rw [pbytes_val, e1'] at CA
            have LA : ms.length ≤ 64 := CA.len (n := 64) (by decide)
            go_wp2_with fail
            refine (l1Little_any wA gA aA cA ms 32 oA.rd CA.1 (by omega) (by omega)).mono ?_
            rintro e wC ⟨rfl, BC, nC⟩
            have DC : Drawn w s a xs.length c (t + 40) (.slice (some ⟨wA.heap.size, 0, none⟩) 32 32) wC := drawn_little CA.1 BC (by have := NA.size; omega) (NA.up nC) ⟨_, by omega, by omega, SA.up nC⟩
            clear D6
            go_wp2_with fail
            go_meet
            exact DC
          | false =>
            go_wp2_with fail
            go_meet
            exact D6.le (by omega)
        case rest =>
          clear D6 S6 N6 t50 t51
          obtain ⟨ys, b1, d1, h1, rfl, yb, yl, oy, py, qy, ry, N5, ⟨t5, t50, t51, S5⟩⟩ := hcut
          go_wp2_with fail
          refine (l1Chance_any wc s g a c xs t5 3 S5 (hr.but N5 hne) hne hb hl (by omega) (by omega) (by decide) (by decide)).mono ?_
          rintro e w6 ⟨b, rfl, S6, O6⟩
          have D6 : Drawn w s a xs.length c (t + 50) (.slice b1 ys.length d1) w6 := (show Drawn w s a xs.length c (t + 40) _ wc from ⟨ys, b1, d1, h1, rfl, yb, yl, oy, py, qy, ry, N5, ⟨t5, t50, t51, S5⟩⟩).only O6 ⟨_, by omega, by omega, S6⟩
          have N6 := N5.only O6
          clear oy py qy ry S5 N5 O6 yb yl
          go_upto_if 36 with fail
          go_cut [4] (fun v wc => Drawn w s a xs.length c (t + 60) v wc)
          case first =>
            cases b with
            | true =>
              go_wp2_with fail
              refine (l1Next_any w6 s g a c xs (t5 + 1) 8 S6 (hr.but N6 hne) hne hb hl (by omega) (by omega) (by decide) (by decide)).mono ?_
              rintro e w7 ⟨v, rfl, ⟨v0, v1⟩, S7, O7⟩
              have N7 := N6.only O7
              go_wp2_with fail
              refine (l5Small_any w7 v v0 (by omega)).mono ?_
              rintro e w8 ⟨px, py, ⟨a8, a9, c8, c9, g8, g9, rfl, o8, o9, r8, r9⟩, ⟨bx, -⟩, ⟨bY, -⟩, n8⟩
              have N8 := N7.up n8
              have S8 := S7.up n8
              go_wp2_with fail
              refine (pointToLadder_any w8 g8 g9 a8 a9 c8 c9 px py o8.rd o9.rd bx bY).mono ?_
              rintro e wC ⟨⟨aC, cC, gC, rfl, oC, pC, qC, rC⟩, nC⟩
              have DC : Drawn w s a xs.length c (t + 60) (.slice aC (toLad px py).length cC) wC := ⟨_, aC, cC, gC, rfl, toLad_byt px py, toLad_len px py, oC, pC, qC, by have := N8.size; omega, N8.up nC, ⟨_, by omega, by omega, S8.up nC⟩⟩
              clear D6 oC o8 o9
              generalize toLad px py = zs at *
              go_wp2_with fail
              go_meet
              exact DC
            | false =>
              go_wp2_with fail
              go_meet
              exact D6.le (by omega)
          case rest =>
            clear D6 S6 N6
            obtain ⟨zs, b2, d2, h2, rfl, zb, zl, oz, pz, qz, rz, N9, ⟨t9, t90, t91, S9⟩⟩ := hcut
            have ZL := hide zl
            clear zl
            go_wp2
            go_ret
            exact ⟨zs, zb, ZL.out, ⟨b2, d2, h2, rfl, oz, pz, qz, rz⟩, N9, ⟨t9, t90, by omega, S9⟩⟩
    · have q1 : (r == 1) = false := by simp [h1]
      have DB := l1DrawBytes_any w1 s g a c xs (t + 1) 32 S1 (hr.but N1 hne) hne hb hl (by omega) (by omega)
      go_wp2_with fail
      refine DB.mono ?_
      rintro e w2 ⟨ys, yl, yb, ⟨a3, c3, g3, rfl, o3, p3, q3, r3⟩, S3, N3⟩
      have N4 := N1.trans N3
      have zz := hide (show w.heap.size ≤ g3 by have := z1.out; omega)
      have zs := hide (show s < w1.heap.size by have := z1.out; omega)
      clear DB
      by_cases h2 : r = 2
      · subst h2
        have y31 : 31 < ys.length := by omega
        obtain ⟨off, rfl, hc⟩ := o3 (by omega)
        have c31 := (hc 31 y31).1
        have f31 := (hc 31 y31).2
        have yb31 := yb 31
        have OB := or_bd yb31
        have OS := o3.store 31 y31 (bits BinOp.or IntKind.u8 (ys.getD 31 0) 128)
        have SS := hide (byt_set5 yb 31 OB)
        have LS := hide (show (ys.set 31 (bits BinOp.or IntKind.u8 (ys.getD 31 0) 128)).length = ys.length from List.length_set)
        have ww : IntKind.u8.wrap (bits BinOp.or IntKind.u8 (ys.getD 31 0) 128) = bits BinOp.or IntKind.u8 (ys.getD 31 0) 128 := by rw [IntKind.wrap_u8]; omega
        have i31 : (31 : Int) < (ys.length : Int) := by omega
        have YL := hide yl
        have NS : But s w (w2.setCell ⟨g3, off + 31, none⟩ (.int .u8 (bits BinOp.or IntKind.u8 (ys.getD 31 0) 128))) := N4.setCell zz.out
        have SN := S3.of_block (w' := w2.setCell ⟨g3, off + 31, none⟩ (.int .u8 (bits BinOp.or IntKind.u8 (ys.getD 31 0) 128))) (heap_setCell_other w2 ⟨g3, off + 31, none⟩ s _ (by show s ≠ g3; have := zs.out; omega))
        clear hc yl o3 y31 q0 q1 h0 h1 r0 r1 S3 N3 N4
        generalize ys.set 31 (bits BinOp.or IntKind.u8 (ys.getD 31 0) 128) = ys' at *
        generalize ys.getD 31 0 = y at *
        go_wp2
        go_ret
        exact ⟨ys', SS.out, by have := LS.out; have := YL.out; omega, ⟨_, c3, g3, by rw [LS.out]; rfl, OS, by simp, by have := LS.out; omega, zz.out⟩, NS, ⟨_, by omega, by omega, SN⟩⟩
      · have q2 : (r == 2) = false := by simp [h2]
        have YL := hide yl
        clear yl
        go_wp2
        go_ret
        exact ⟨ys, yb, by have := YL.out; omega, ⟨a3, c3, g3, rfl, o3, p3, q3, zz.out⟩, N4, ⟨_, by omega, by omega, S3⟩⟩

set_option maxHeartbeats 2000000 in
theorem drawLadder_any (w : World) (g : Nat) (a : Option Addr) (c : Nat) (code : List Int) (hr : Rd w g a .u8 code) (hb : Byt code) (hl : code.length ≤ 1048576) :
    Calls Tryz.prog 26 #[.slice a code.length c] w fun e w' => ∃ (a1 a2 : Option Addr) (c1 c2 g1 g2 : Nat) (xs ys : List Int), e = .returned (.tuple #[.slice a1 xs.length c1, .slice a2 ys.length c2]) ∧ Own w' g1 a1 .u8 xs ∧ Own w' g2 a2 .u8 ys ∧ Byt xs ∧ Byt ys ∧ Below w.heap.size w w' := by
  have hne : 0 < code.length → g ≠ w.heap.size := fun h => by have := hr.lt h; omega
  go_enter Tryz.func26, Tryz.ntmps26
  go_wp2_with fail
  refine (l1Source_any w a code.length c hl).mono ?_
  rintro e w1 ⟨rfl, S1, n1⟩
  have sl := S1.lt
  go_wp2_with fail
  refine (l4DrawKey_any w1 w.heap.size g a c code 0 (by omega) (by omega) S1 (hr.up n1) hne hb hl).mono ?_
  rintro e w2 ⟨xs, xb, xl, ⟨a1, c1, g1, rfl, o1, p1, q1, r1⟩, N2, ⟨t2, t20, t21, S2⟩⟩
  have m2 := N2.size
  have n12 : Below w.heap.size w1 w2 := N2.below (Nat.le_refl _) (by omega)
  have K2 := n1.trans n12
  go_wp2_with fail
  refine (l4DrawU_any w2 w.heap.size g a c code t2 t20 (by omega) S2 (hr.up K2) hne hb hl).mono ?_
  rintro e w3 ⟨ys, yb, yl, ⟨a2, c2, g2, rfl, o2, p2, q2, r2⟩, N3, ⟨t3, t30, t31, S3⟩⟩
  have n23 : Below w.heap.size w2 w3 := N3.below (Nat.le_refl _) (by omega)
  have K3 := K2.trans n23
  have o1a := o1.but N3 (fun _ => by omega)
  clear N2 N3 S1 S2 S3 n1 n12 n23 K2 o1
  go_wp2
  go_ret2
  exact ⟨a1, a2, c1, c2, g1, g2, xs, ys, rfl, o1a, o2, xb, yb, K3⟩
end Go.Proofs.YtnaaanefndeafaaGreatDoor

/-
  Six lists of thirty-two drawn bytes.
-/
namespace Go.Proofs.YtnaaanefndeafaaGreatDoor
set_option maxRecDepth 100000
open Go Go.RowKit

theorem Own.al {W : World} {g : Nat} {a : Option Addr} {k : IntKind} {xs : List Int} (h : Own W g a k xs) (o : Obj) : Own (W.alloc o) g a k xs := h.up ((Below.refl _ _).alloc (Nat.le_refl _) _)
/-- The first three of them. -/
def Six (w : World) (e : Ending) (w' : World) : Prop := ∃ (q g1 g2 g3 : Nat) (X Y Z : List Int), e = .returned (.slice (some ⟨q, 0, none⟩) 6 6) ∧ w'.cell? ⟨q, 0, none⟩ = some (.slice (some ⟨g1, 0, none⟩) X.length 32) ∧ w'.cell? ⟨q, 1, none⟩ = some (.slice (some ⟨g2, 0, none⟩) Y.length 32) ∧ w'.cell? ⟨q, 2, none⟩ = some (.slice (some ⟨g3, 0, none⟩) Z.length 32) ∧
  Own w' g1 (some ⟨g1, 0, none⟩) .u8 X ∧ Own w' g2 (some ⟨g2, 0, none⟩) .u8 Y ∧ Own w' g3 (some ⟨g3, 0, none⟩) .u8 Z ∧ Hid ((Byt X ∧ X.length = 32) ∧ (Byt Y ∧ Y.length = 32) ∧ (Byt Z ∧ Z.length = 32)) ∧ Below w.heap.size w w'

end Go.Proofs.YtnaaanefndeafaaGreatDoor

/-
  What the listed package-level variables give the walks: their cells.
-/
namespace Go.Proofs.YtnaaanefndeafaaGreatDoor
set_option maxRecDepth 100000
open Go.RowKit

theorem gTw : Tryz.prog.globalNamed "loop.example/g00004/impl.twiceP" = some 7 := by kernel_rfl
theorem tTw : (Tryz.prog.globals[7]?).map (·.type) = some 208 := by kernel_rfl
theorem uTw : Tryz.prog.underlying 208 = some (.array 5 52) := by kernel_rfl
theorem cTw : Tryz.prog.cellsOf 208 = 5 := by kernel_rfl
theorem cU64 : Tryz.prog.cellsOf 52 = 1 := by kernel_rfl
theorem tw_of_reads {W : World} (h : Lib.VarReads Tryz.prog W "loop.example/g00004/impl.twiceP" Rows.laid_loop_example_g00004_impl_twiceP) : HasTw W 7 := by
  obtain ⟨g, t, cs, fuel, p, hg, ht, hv, hd⟩ := h
  obtain rfl := Option.some.inj (gTw.symm.trans hg)
  obtain rfl := Option.some.inj (tTw.symm.trans ht)
  have hcs := Lib.cells_of_tab (zs := [4503599627370458, 4503599627370494, 4503599627370494, 4503599627370494, 4503599627370494]) uTw Tryz.underlying52 cU64 cTw hd
  intro k hk
  rw [World.var?_cell hg hv k]
  obtain ⟨l⟩ := cs
  simp only at hcs
  subst hcs
  obtain rfl | rfl | rfl | rfl | rfl : k = 0 ∨ k = 1 ∨ k = 2 ∨ k = 3 ∨ k = 4 := by omega
  all_goals rfl
/-- A listed variable reads as it is listed (the list bears plain data alone). -/
theorem reads_of {l : List (String × DataW Unit)} {W : World} (h : laidMetH Tryz.prog l W) (hp : (l.all fun x => x.2.handleName?.isNone) = true) {n : String} {d : DataW Unit} (hm : (n, d) ∈ l) : Lib.VarReads Tryz.prog W n d := by
  rw [MakeChecks.laidMetH_plain _ _ _ hp] at h
  exact Lib.laidMet.reads h hm
end Go.Proofs.YtnaaanefndeafaaGreatDoor

/-
  What the listed steps of the chain give the walks: their cells.
-/
namespace Go.Proofs.YtnaaanefndeafaaGreatDoor
set_option maxRecDepth 100000
open Go.RowKit

theorem gSt : Tryz.prog.globalNamed "loop.example/g00004/impl.chainSteps" = some 10 := by kernel_rfl
theorem tSt : (Tryz.prog.globals[10]?).map (·.type) = some 233 := by kernel_rfl
theorem gIn : Tryz.prog.globalNamed "loop.example/g00004/impl.inverseStep" = some 8 := by kernel_rfl
theorem tIn : (Tryz.prog.globals[8]?).map (·.type) = some 212 := by kernel_rfl
theorem cStep : Tryz.prog.cellsOf 212 = 3 := by kernel_rfl
theorem cInt : Tryz.prog.cellsOf 3 = 1 := by kernel_rfl
theorem step_cells {W : World} {base : Nat} {sp : Nat → Bool} {held : Bool} {fuel : Nat} {cs : List Value} {x y z : Int} {p : List MemPlace}
    (h : DataW.trod (fun _ => ()) Tryz.prog W base sp held fuel 212 cs = some (.agg [.lit (.int .i64 x), .lit (.int .i64 y), .lit (.int .i64 z)], p)) : cs = [.int .i64 x, .int .i64 y, .int .i64 z] := by
  have := Lib.ints_of_struct (k := .i64) (zs := [x, y, z]) Tryz.underlying212 (fun i f hf => by
    match i, hf with
    | 0, hf => cases hf; exact ⟨Tryz.underlying3, rfl, cInt⟩
    | 1, hf => cases hf; exact ⟨Tryz.underlying3, rfl, cInt⟩
    | 2, hf => cases hf; exact ⟨Tryz.underlying3, rfl, cInt⟩
    | i + 3, hf => simp at hf) (by rw [cStep]; rfl) h
  simpa using this
theorem three_of_reads {W : World} {n : String} {g : Nat} {x y z : Int} (hn : Tryz.prog.globalNamed n = some g) (ht : (Tryz.prog.globals[g]?).map (·.type) = some 212)
    (h : Lib.VarReads Tryz.prog W n (.agg [.lit (.int .i64 x), .lit (.int .i64 y), .lit (.int .i64 z)])) : Has3 W g x y z := by
  obtain ⟨g', t, cs, fuel, p, hg, ht', hv, hd⟩ := h
  obtain rfl := Option.some.inj (hn.symm.trans hg)
  obtain rfl := Option.some.inj (ht.symm.trans ht')
  have hcs := step_cells hd
  obtain ⟨l⟩ := cs
  simp only at hcs
  subst hcs
  exact ⟨by rw [World.var?_cell hg hv 0]; rfl, by rw [World.var?_cell hg hv 1]; rfl, by rw [World.var?_cell hg hv 2]; rfl⟩
theorem st_of_reads {W : World} (h : Lib.VarReads Tryz.prog W "loop.example/g00004/impl.chainSteps" Rows.laid_loop_example_g00004_impl_chainSteps) : HasSt W 10 := by
  obtain ⟨g, t, cs, fuel, p, hg, ht, hv, hd⟩ := h
  obtain rfl := Option.some.inj (gSt.symm.trans hg)
  obtain rfl := Option.some.inj (tSt.symm.trans ht)
  have key : ∀ j, j < 11 → (cs.toList.drop (j * 3)).take 3 = [.int .i64 (stL.getD (3 * j) 0), .int .i64 (stL.getD (3 * j + 1) 0), .int .i64 (stL.getD (3 * j + 2) 0)] := by
    intro j hj
    obtain ⟨f', d, q, h1, h2⟩ := Lib.array_elem u86 hd j hj
    rw [cStep] at h2
    obtain rfl | rfl | rfl | rfl | rfl | rfl | rfl | rfl | rfl | rfl | rfl : j = 0 ∨ j = 1 ∨ j = 2 ∨ j = 3 ∨ j = 4 ∨ j = 5 ∨ j = 6 ∨ j = 7 ∨ j = 8 ∨ j = 9 ∨ j = 10 := by omega
    all_goals
      cases h1
      exact step_cells h2
  intro i hi
  rw [World.var?_cell hg hv i]
  have k := key (i / 3) (by omega)
  have e : cs[i]? = ((cs.toList.drop (i / 3 * 3)).take 3)[i % 3]? := by
    rw [List.getElem?_take, if_pos (by omega), List.getElem?_drop, show i / 3 * 3 + i % 3 = i by omega]
    simp
  rw [e, k]
  rcases (show i % 3 = 0 ∨ i % 3 = 1 ∨ i % 3 = 2 by omega) with r | r | r
  all_goals
    rw [r]
    simp only [List.getElem?_cons_zero, List.getElem?_cons_succ]
    congr 3
    omega
end Go.Proofs.YtnaaanefndeafaaGreatDoor

/-
  What the listed package-level variables give the ladder.
-/
namespace Go.Proofs.YtnaaanefndeafaaGreatDoor
set_option maxRecDepth 100000
open Go.RowKit

end Go.Proofs.YtnaaanefndeafaaGreatDoor

/-
  The law of the shared ladder.
-/
namespace Go.Proofs.YtnaaanefndeafaaGreatDoor
set_option maxRecDepth 100000
open Go Go.RowKit

theorem low7_fill {v : Int} (h0 : 0 ≤ v) (h1 : v < PP) : low7 (fill (byt v) 32) = fill (byt v) 32 := by
  refine eq_of_getD (by rw [low7_len]) (fun i hi => ?_)
  rw [low7_len, fill_len] at hi
  unfold low7
  by_cases e : 31 = i
  · subst e
    rw [getD_set_self _ _ _ (by rw [fill_len]; omega), fill_get _ _ _ (by omega)]
    unfold byt
    have : v / 256 ^ 31 < 128 := Int.ediv_lt_of_lt_mul (by decide) (Int.lt_trans h1 (by decide))
    have : 0 ≤ v / 256 ^ 31 := Int.ediv_nonneg h0 (by decide)
    omega
  · rw [getD_set_ne _ _ _ _ e]
/-- The clamped number of thirty-two bytes, as a natural. -/
def kn (ks : List Int) : Nat := (num (clampL ks)).toNat
theorem kn_is {ks : List Int} (hb : Byt ks) (hl : ks.length = 32) : ((kn ks : Nat) : Int) = num (clampL ks) := by
  have := clampL_bd hb hl
  unfold kn
  omega
theorem kn_clp {ks : List Int} (hb : Byt ks) (hl : ks.length = 32) : Clp (kn ks) := by
  have h := clampL_bd hb hl
  have e := kn_is hb hl
  exact ⟨by omega, by omega, by omega⟩
theorem ladA_is {ks us : List Int} (hb : Byt ks) (hk : ks.length = 32) (hu : us.length = 32) : ladA ks us = fill (byt (L (num (low7 us)) (kn ks))) 32 := by
  unfold ladA L
  rw [if_pos ⟨hk, hu⟩, kn_is hb hk]
  rfl

end Go.Proofs.YtnaaanefndeafaaGreatDoor

/-
  The program's LadderClamp.
-/
namespace Go.Proofs.YtnaaanefndeafaaGreatDoor
set_option maxRecDepth 100000
open Go Go.RowKit



theorem lsum_lt {xs : List Int} (hb : Byt xs) : ∀ n, 0 ≤ lsum (fun j => xs.getD j 0) n ∧ lsum (fun j => xs.getD j 0) n < 256 ^ n
  | 0 => by simp [lsum]
  | n + 1 => by
    have ih := lsum_lt hb n
    have h1 := hb n
    have hp := p256_pos n
    have : xs.getD n 0 * 256 ^ n ≤ 255 * 256 ^ n := Int.mul_le_mul_of_nonneg_right (by omega) (by omega)
    have : 0 ≤ xs.getD n 0 * 256 ^ n := Int.mul_nonneg h1.1 (by omega)
    rw [lsum, Int.pow_succ]
    omega
/-- Bytes are those of their number. -/
theorem fill_num {xs : List Int} (hb : Byt xs) (hl : xs.length = 32) : fill (byt (num xs)) 32 = xs := by
  refine eq_of_getD (by rw [fill_len, hl]) (fun i hi => ?_)
  rw [fill_len] at hi
  rw [fill_get _ _ _ hi]
  unfold num byt
  rw [hl]
  have key : ∀ n, i < n → lsum (fun j => xs.getD j 0) n / 256 ^ i % 256 = xs.getD i 0 := by
    intro n
    induction n with
    | zero => intro h; omega
    | succ n ih =>
      intro h
      have hp := p256_pos i
      rw [lsum]
      by_cases e : i = n
      · subst e
        have b := lsum_lt hb i
        have z := hb i
        rw [Int.add_mul_ediv_right _ _ (by omega), Int.ediv_eq_zero_of_lt b.1 b.2]
        omega
      · obtain ⟨d, hd⟩ : ∃ d, n = i + (d + 1) := ⟨n - i - 1, by omega⟩
        have e2 : xs.getD n 0 * 256 ^ n = (256 * (xs.getD n 0 * 256 ^ d)) * 256 ^ i := by
          rw [show (256 : Int) ^ n = 256 ^ i * (256 ^ d * 256) by rw [hd, Int.pow_add, Int.pow_succ]]
          simp only [Int.mul_comm, Int.mul_left_comm]
        have q := ih (by omega)
        rw [e2, Int.add_mul_ediv_right _ _ (by omega), Int.add_mul_emod_self_left]
        exact q
  exact key 32 hi
set_option maxHeartbeats 4000000 in
theorem implClamp_any (w : World) (g : Nat) (a : Option Addr) (c : Nat) (ks : List Int) (hk : Rd w g a .u8 ks) (bk : Byt ks) :
    Calls Tryz.prog 29 #[.slice a ks.length c] w fun e w' => NewRow w.heap.size w' e .u8 (clampA ks) ∧ Below w.heap.size w w' := by
  have T1 := fun w => isFieldSize_any w a c ks.length
  by_cases h1 : ks.length = 32
  · have RS := hide (readScalar_any w g a c ks hk bk h1)
    have CL := hide (fun w => clamp_any w _ (fun j _ => wv_lt bk 32 j))
    have BY := hide (fun w => scalarBytes_any w (clw (wv (fun j => ks.getD j 0) 32)) (clw_ok (fun j _ => wv_lt bk 32 j)))
    have KA : Hid (clampA ks = fill (byt (wval (clw (wv (fun j => ks.getD j 0) 32)))) 32) := by
      show _ = _
      unfold clampA
      rw [if_pos h1, clw_num bk h1, fill_num (clampL_byt bk h1) ((clampL_len ks).trans h1)]
    rw [← KA.out] at BY
    simp only [decide_eq_true h1] at T1
    rw [h1] at T1 ⊢
    clear h1 hk bk KA
    generalize clw (wv (fun j => ks.getD j 0) 32) = U at *
    generalize wv (fun j => ks.getD j 0) 32 = U0 at *
    simp only [ag4] at RS CL BY
    go_enter Tryz.func29, Tryz.ntmps29
    go_wp2_with fail
    refine (T1 w).mono ?_
    rintro r w0 ⟨rfl, rfl⟩
    clear T1
    go_wp2_with fail
    refine RS.out.mono ?_
    rintro r w1 ⟨rfl, n1⟩
    clear RS
    go_wp2_with fail
    refine (CL.out w1).mono ?_
    rintro r w2 ⟨rfl, n2⟩
    have N2 := nxt n1 n2
    have z := N2.size
    clear CL n1 n2
    go_wp2_with fail
    refine (BY.out w2).mono ?_
    rintro r w5 ⟨⟨a5, c5, g5, rfl, o5, p5, q5, r5⟩, n5⟩
    have N5 := nxt N2 n5
    clear BY N2 n5
    go_wp2
    go_ret
    exact ⟨⟨a5, c5, g5, rfl, o5, p5, q5, by omega⟩, N5⟩
  · have K : Hid (clampA ks = []) := by show _ = _; unfold clampA; rw [if_neg h1]
    simp only [decide_eq_false h1] at T1
    clear h1
    go_enter Tryz.func29, Tryz.ntmps29
    go_wp2_with fail
    refine (T1 w).mono ?_
    rintro r w0 ⟨rfl, rfl⟩
    clear T1
    go_wp2
    go_ret
    rw [K.out]
    exact ⟨⟨none, 0, _, rfl, Own.nil _ _ _ _, by simp, by simp, Nat.le_refl _⟩, Below.refl _ _⟩

end Go.Proofs.YtnaaanefndeafaaGreatDoor

/-
  Two points that are the same, as the laws ask it.
-/
namespace Go.Proofs.YtnaaanefndeafaaGreatDoor
set_option maxRecDepth 100000
open Go Go.RowKit

end Go.Proofs.YtnaaanefndeafaaGreatDoor

/-
  What the listed package-level variables give the points' calls.
-/
namespace Go.Proofs.YtnaaanefndeafaaGreatDoor
set_option maxRecDepth 100000
open Go.RowKit

theorem gCf : Tryz.prog.globalNamed "loop.example/g00004/impl.curveFactor" = some 6 := by kernel_rfl
theorem tCf : (Tryz.prog.globals[6]?).map (·.type) = some 73 := by kernel_rfl
theorem uEl : Tryz.prog.underlying 73 = some (.array 5 52) := by kernel_rfl
theorem cEl : Tryz.prog.cellsOf 73 = 5 := by kernel_rfl
theorem cf_of_reads {W : World} (h : Lib.VarReads Tryz.prog W "loop.example/g00004/impl.curveFactor" Rows.laid_loop_example_g00004_impl_curveFactor) : Em5 W 6 0 dGo := by
  obtain ⟨g, t, cs, fuel, p, hg, ht, hv, hd⟩ := h
  obtain rfl := Option.some.inj (gCf.symm.trans hg)
  obtain rfl := Option.some.inj (tCf.symm.trans ht)
  have hcs := Lib.cells_of_tab (zs := [929955233495203, 466365720129213, 1662059464998953, 2033849074728123, 1442794654840575]) uEl Tryz.underlying52 cU64 cEl hd
  obtain ⟨l⟩ := cs
  simp only at hcs
  subst hcs
  have key : ∀ j v, (cl5 dL)[j]? = some v → W.cell? ⟨6, 0 + j, none⟩ = some v := fun j v hv' => by
    rw [Nat.zero_add, World.var?_cell hg hv j, List.getElem?_toArray]
    exact hv'
  exact ⟨dL, key, block_lt_of_cell (by simpa using key 0 _ rfl), dL_is⟩
theorem gZp : Tryz.prog.globalNamed "loop.example/g00004/impl.zeroPoint" = some 2 := by kernel_rfl
theorem tZp : (Tryz.prog.globals[2]?).map (·.type) = some 75 := by kernel_rfl
theorem cAf : Tryz.prog.cellsOf 75 = 10 := by kernel_rfl
theorem row_of_reads {W : World} {n : String} {g : Nat} (e f : Nat → Int) (X Y : Int) (hn : Tryz.prog.globalNamed n = some g) (ht : (Tryz.prog.globals[g]?).map (·.type) = some 75)
    (h : Lib.VarReads Tryz.prog W n (.agg [.agg [.lit (.int .u64 (e 0)), .lit (.int .u64 (e 1)), .lit (.int .u64 (e 2)), .lit (.int .u64 (e 3)), .lit (.int .u64 (e 4))], .agg [.lit (.int .u64 (f 0)), .lit (.int .u64 (f 1)), .lit (.int .u64 (f 2)), .lit (.int .u64 (f 3)), .lit (.int .u64 (f 4))]]))
    (hx : Is5 e X) (hy : Is5 f Y) : RowN W g 0 [X, Y] := by
  obtain ⟨g', t, cs, fuel, p, hg, ht', hv, hd⟩ := h
  obtain rfl := Option.some.inj (hn.symm.trans hg)
  obtain rfl := Option.some.inj (ht.symm.trans ht')
  obtain ⟨y0, y1, m, hx', hl, h0, h1⟩ := ChangeShapes.trod_struct2 Tryz.underlying75 hd
  obtain ⟨d0, p0⟩ := y0
  obtain ⟨d1, p1⟩ := y1
  simp only [Prod.mk.injEq, DataW.agg.injEq, List.cons.injEq, and_true] at hx'
  obtain ⟨⟨rfl, rfl⟩, _⟩ := hx'
  have k0 := Lib.cells_of_tab (zs := [e 0, e 1, e 2, e 3, e 4]) uEl Tryz.underlying52 cU64 cEl h0
  have k1 := Lib.cells_of_tab (zs := [f 0, f 1, f 2, f 3, f 4]) uEl Tryz.underlying52 cU64 cEl h1
  rw [cAf] at hl
  obtain ⟨l⟩ := cs
  simp only at hl k0 k1
  rw [cEl] at k0 k1
  have e1 : l = clN [e, f] := by
    have s : l = (l.drop 0).take 5 ++ (l.drop 5).take 5 := by
      rw [List.drop_zero, List.take_of_length_le (l := l.drop 5) (by rw [List.length_drop]; omega), List.take_append_drop]
    rw [s]
    have k0' : (l.drop 0).take 5 = cl5 e := k0
    have k1' : (l.drop 5).take 5 = cl5 f := k1
    rw [k0', k1']
    simp [clN]
  subst e1
  have key : ∀ j v, (clN [e, f])[j]? = some v → W.cell? ⟨g, 0 + j, none⟩ = some v := fun j v hv' => by
    rw [Nat.zero_add, World.var?_cell hg hv j]
    simpa using hv'
  exact ⟨[e, f], key, block_lt_of_cell (by simpa using key 0 _ rfl), hx, hy, trivial⟩
theorem zp_of_reads {W : World} (h : Lib.VarReads Tryz.prog W "loop.example/g00004/impl.zeroPoint" Rows.laid_loop_example_g00004_impl_zeroPoint) : RowN W 2 0 [0, 1] :=
  row_of_reads (sm5 0) (sm5 1) 0 1 gZp tZp h (sm5_ok (by omega) (by omega)) (sm5_ok (by omega) (by omega))
end Go.Proofs.YtnaaanefndeafaaGreatDoor

/-
  Steps of the laws on points: structs of two lists read, copied, held against each other.
-/
namespace Go.Proofs.YtnaaanefndeafaaGreatDoor
set_option maxRecDepth 100000
open Go Go.RowKit

/-- A point of these two lists in blocks of their own. -/
def PR (xs ys : List Int) : Fact := ⟨fun v w => ∃ p q : Nat, v = .agg #[.slice (some ⟨p, 0, none⟩) xs.length xs.length, .slice (some ⟨q, 0, none⟩) ys.length ys.length] ∧ Blk w p .u8 xs ∧ Blk w q .u8 ys, fun n h => by
  obtain ⟨p, q, e, h1, h2⟩ := h
  exact ⟨p, q, e, h1.up n, h2.up n⟩⟩
section
variable {ops : Array Oper} {Q : Exit → Act → World → Prop} {md : Region.Mode} {F : Nat → Fact} {a0 : Act} {w0 : World} {i : Nat} {o : Oper} {ts : Array TypeId}
end
end Go.Proofs.YtnaaanefndeafaaGreatDoor

/-
  The law of PointValid.
-/
namespace Go.Proofs.YtnaaanefndeafaaGreatDoor
set_option maxRecDepth 100000
open Go Go.RowKit

end Go.Proofs.YtnaaanefndeafaaGreatDoor

/-
  The law of PointNegate.
-/
namespace Go.Proofs.YtnaaanefndeafaaGreatDoor
set_option maxRecDepth 100000
open Go Go.RowKit

end Go.Proofs.YtnaaanefndeafaaGreatDoor

/-
  The program's PointZero, PointBase, PointToLadder.
-/
namespace Go.Proofs.YtnaaanefndeafaaGreatDoor
set_option maxRecDepth 100000
open Go Go.RowKit

/-- The ladder's coordinate of a point, as bytes. -/
def tlA (D : Int) (xs ys : List Int) : List Int := if rpB D xs ys = true then fill (byt ((1 + rpY xs ys) * (1 - rpY xs ys) ^ eInv % PP)) 32 else []
set_option maxHeartbeats 2000000 in
theorem implToLadder_any (w : World) (g g' : Nat) (a a' : Option Addr) (c c' : Nat) (xs ys : List Int) (hx : Rd w g a .u8 xs) (hy : Rd w g' a' .u8 ys) (bx : Byt xs) (by' : Byt ys) (D : Int) (TT : HasTw w 7) (CC : Em5 w 6 0 D) (SS : HasSt w 10) (II : Has3 w 8 12 5 4) :
    Calls Tryz.prog 27 #[.agg #[.slice a xs.length c, .slice a' ys.length c']] w fun r w' => NewRow w.heap.size w' r .u8 (tlA D xs ys) ∧ Below w.heap.size w w' := by
  have T := two_cells w (.slice a xs.length c) (.slice a' ys.length c') 37
  have m1 : Below w.heap.size w (w.alloc (.cells #[.slice a xs.length c, .slice a' ys.length c'] 37)) := (Below.refl _ _).alloc (Nat.le_refl _) _
  have s1 : (w.alloc (.cells #[.slice a xs.length c, .slice a' ys.length c'] 37)).heap.size = w.heap.size + 1 := by simp
  have RX : RdOk w a xs := ⟨g, hx, bx⟩
  have RY : RdOk w a' ys := ⟨g', hy, by'⟩
  obtain ⟨CX, CY⟩ := T
  clear hx hy bx by'
  go_enter Tryz.func27, Tryz.ntmps27
  go_upto_region 1 with fail
  generalize w.alloc (.cells #[.slice a xs.length c, .slice a' ys.length c'] 37) = wa at *
  have N := m1
  clear m1 s1
  replace RX := RX.up N
  replace RY := RY.up N
  replace TT := TT.up N
  replace CC := CC.up N
  replace SS := SS.up N
  replace II := II.up N
  refine region_newN_asg 75 6 5 3 3 8 4 9 4 _ _ (fun i => [Fact.eq (.agg #[.slice a xs.length c, .slice a' ys.length c']), TB [rpX xs ys, rpY xs ys] (rpB D xs ys), TB [rpX xs ys, rpY xs ys] (rpB D xs ys), EN [rpX xs ys, rpY xs ys], Fact.eq (.bool (rpB D xs ys)), NB wa 10].getD i Fact.no) [rpX xs ys, rpY xs ys] (.bool (rpB D xs ys)) (by kernel_rfl) rfl rfl rfl rfl rfl rfl iA (Nat.zero_lt_succ _) rfl rfl rfl (by kernel_rfl) (by kernel_rfl) (by kernel_rfl) rfl rfl rfl (by decide) (by kernel_rfl) ?_ ?_
  · intro i hi
    obtain rfl | rfl | rfl | rfl | rfl | rfl : i = 0 ∨ i = 1 ∨ i = 2 ∨ i = 3 ∨ i = 4 ∨ i = 5 := by omega
    · exact step_lP rfl 1 rfl (by kernel_rfl) _ rfl _ _ CX CY rfl
    · exact step_rp TT CC rfl 6 0 rfl (by kernel_rfl) RX RY rfl rfl
    · exact step_move rfl 7 1 (by exact Or.inl rfl) (by kernel_rfl) rfl
    · exact step_tx0 rfl 5 2 _ _ rfl (by kernel_rfl) rfl rfl
    · exact step_tx1 rfl 5 2 _ _ rfl (by kernel_rfl) rfl rfl
    · exact step_newA rfl rfl rfl
  intro vs1 q3 W1 v3 b4 l3 n E3 T3
  replace RX := RX.up n
  replace RY := RY.up n
  replace TT := TT.up n
  replace CC := CC.up n
  replace SS := SS.up n
  replace II := II.up n
  replace CX := (n.cell (block_lt_of_cell CX)).trans CX
  replace CY := (n.cell (block_lt_of_cell CY)).trans CY
  replace N := nxt N n
  clear n T3 l3
  obtain ⟨ok1, hok1⟩ : ∃ b, b = rpB D xs ys := ⟨_, rfl⟩
  rw [← hok1] at b4
  have HK1 := hide hok1
  clear hok1
  simp only [puts, v3, b4, Act.put, List.setIfInBounds_toArray, List.set_cons_succ, List.set_cons_zero]
  clear v3 b4
  cases ok1 with
  | false =>
    have e1 : tlA D xs ys = [] := by unfold tlA; rw [← HK1.out]; rfl
    clear RX RY TT CC SS II E3 CX CY
    go_wp2
    go_ret
    exact ⟨by rw [e1]; exact ⟨none, 0, w.heap.size, rfl, Own.nil _ _ _ _, fun _ => rfl, Nat.le_refl _, Nat.le_refl _⟩, N⟩
  | true =>
    have e1 : tlA D xs ys = (fill (byt (((1 + (rpY xs ys)) * (1 - (rpY xs ys)) ^ eInv) % PP)) 32) := by unfold tlA; rw [if_pos HK1.out.symm]
    go_upto_region 4 with fail
    refine region_end 4 (fun i => [EN [rpX xs ys, rpY xs ys], EM ((1 + (rpY xs ys)) * (1 - (rpY xs ys)) ^ eInv), RN W1 (fun u9 => u9 = fill (byt (((1 + (rpY xs ys)) * (1 - (rpY xs ys)) ^ eInv) % PP)) 32), RN W1 (fun u9 => u9 = fill (byt (((1 + (rpY xs ys)) * (1 - (rpY xs ys)) ^ eInv) % PP)) 32)].getD i Fact.no) (by kernel_rfl) (by kernel_rfl) rfl ?_ ?_
    · intro i hi
      obtain rfl | rfl | rfl | rfl : i = 0 ∨ i = 1 ∨ i = 2 ∨ i = 3 := by omega
      · exact step_lA rfl 3 rfl (by kernel_rfl) _ rfl _ _  E3 rfl
      · exact step_coord TT SS II rfl 12 0 _ _ rfl (by kernel_rfl) rfl rfl
      · exact step_eb rfl 13 1 _ rfl (by kernel_rfl) rfl rfl
      · exact step_move rfl 14 2 (by exact Or.inr rfl) (by kernel_rfl) rfl
    intro A W hb hw hF
    have e2 := hF 3 2 (by kernel_rfl)
    obtain ⟨vs, hvs⟩ : ∃ vs : Nat → Value, ∀ d, A.tmps.getD d undef = vs d := ⟨_, fun _ => rfl⟩
    rw [hvs] at e2
    rw [puts_of (md := .any) (k := 4) (by kernel_rfl) rfl hb vs hvs]
    have N9 := nxt N hw
    have z := N.size
    clear hb hF hvs hw RX RY TT CC SS II E3 CX CY
    obtain ⟨zs, b, d, h, e3, o3, l3, hzs, k1, k2⟩ := e2
    replace hzs : zs = (fill (byt (((1 + (rpY xs ys)) * (1 - (rpY xs ys)) ^ eInv) % PP)) 32) := hzs
    subst hzs
    simp only [puts, e3, Act.put, List.setIfInBounds_toArray, List.set_cons_succ, List.set_cons_zero]
    go_wp2
    go_ret
    exact ⟨by rw [e1]; exact ⟨b, d, h, rfl, o3, k1, k2, by omega⟩, N9⟩
end Go.Proofs.YtnaaanefndeafaaGreatDoor

/-
  The program's sum of two points is the model's. Numbers alone.
-/
namespace Go.Proofs.YtnaaanefndeafaaGreatDoor
set_option maxRecDepth 100000

theorem iv_eInv (z : Int) : iv z = z ^ eInv := by
  unfold iv
  rw [show eIv = eInv from by decide +kernel]
theorem add_mod (p q : Int × Int) : addX p q % PP = (eadd (-1) d0 einv p q).1 % PP ∧ addY p q % PP = (eadd (-1) d0 einv p q).2 % PP := by
  have h := pAdd_pe p q
  have h1 := cong_dvd h.1
  have h2 := cong_dvd h.2
  unfold pAdd at h1 h2
  simp only [Int.emod_emod_of_dvd _ (Int.dvd_refl PP)] at h1 h2
  exact ⟨h1, h2⟩
end Go.Proofs.YtnaaanefndeafaaGreatDoor

/-
  The law of PointToLadder.
-/
namespace Go.Proofs.YtnaaanefndeafaaGreatDoor
set_option maxRecDepth 100000
open Go Go.RowKit

theorem tlA_eq (xs ys : List Int) : tlA dGo xs ys = toLad xs ys := by
  unfold tlA toLad
  rw [rp_valid]
  by_cases h : validP xs ys = true
  · rw [if_pos h, if_pos h, rpY_of h, iv_eInv]
  · rw [if_neg h, if_neg h]
/-- The tables that sums of points need. -/
def HasA (w : World) : Prop := HasTw w 7 ∧ Em5 w 6 0 dGo ∧ HasSt w 10 ∧ Has3 w 8 12 5 4
theorem hasA_of {l : List (String × DataW Unit)} {W : World} (h : laidMetH Tryz.prog l W) (hp : (l.all fun x => x.2.handleName?.isNone) = true)
    (h1 : ("loop.example/g00004/impl.chainSteps", Rows.laid_loop_example_g00004_impl_chainSteps) ∈ l) (h2 : ("loop.example/g00004/impl.inverseStep", Rows.laid_loop_example_g00004_impl_inverseStep) ∈ l)
    (h3 : ("loop.example/g00004/impl.twiceP", Rows.laid_loop_example_g00004_impl_twiceP) ∈ l) (h4 : ("loop.example/g00004/impl.curveFactor", Rows.laid_loop_example_g00004_impl_curveFactor) ∈ l) : HasA W :=
  ⟨tw_of_reads (reads_of h hp h3), cf_of_reads (reads_of h hp h4), st_of_reads (reads_of h hp h1), three_of_reads gIn tIn (reads_of h hp h2)⟩
end Go.Proofs.YtnaaanefndeafaaGreatDoor

/-
  The law by facts for a region that draws its order, with guarded operations that all are wanted. No program in sight.
-/
namespace Go.Proofs.YtnaaanefndeafaaGreatDoor
set_option maxRecDepth 100000
open Go Go.RowKit

section
variable {P : Program} {ops : Array Oper} {Q : Exit → Act → World → Prop} {md : Region.Mode} {F : Nat → Fact} {a0 : Act} {w0 : World}

def textEnd (md : Region.Mode) (ops : Array Oper) (n : Nat) : Bool :=
  (ops.all fun o => match o.dst with | some d => decide (d < n) | none => true)
  && ((List.range ops.size).all fun i => match ops[i]? with
    | some o => o.after.all (fun e => !Region.binds md e || decide (e.on < i)) && (List.range i).all fun j => match ops[j]? with
      | some x => x.dst.isNone || o.dst != x.dst
      | none => true
    | none => true)
structure TextE (md : Region.Mode) (ops : Array Oper) (n : Nat) : Prop where
  d : ∀ (i : Nat) o d, ops[i]? = some o → o.dst = some d → d < n
  a : ∀ (i : Nat) o, ops[i]? = some o → ∀ e ∈ o.after, Region.binds md e = true → e.on < i
  x : ∀ (i j : Nat) o o' d, ops[i]? = some o → ops[j]? = some o' → i ≠ j → o.dst = some d → o'.dst ≠ some d
theorem textE_of {n : Nat} (h : textEnd md ops n = true) : TextE md ops n := by
  unfold textEnd at h
  simp only [Bool.and_eq_true] at h
  obtain ⟨h1, h2⟩ := h
  rw [Array.all_eq_true_iff_forall_mem] at h1
  rw [List.all_eq_true] at h2
  have H : ∀ (i j : Nat) o o' d, j < i → ops[i]? = some o → ops[j]? = some o' → o.dst = some d → o'.dst ≠ some d := by
    intro i j o o' d hij hi hj hd hd'
    have q := h2 i (List.mem_range.2 (Array.getElem?_eq_some_iff.1 hi).1)
    simp only [hi, Bool.and_eq_true] at q
    have r := List.all_eq_true.1 q.2 j (List.mem_range.2 hij)
    simp only [hj, hd, hd'] at r
    simp at r
  refine ⟨?_, ?_, ?_⟩
  · intro i o d ho hd
    have q := h1 o (Array.mem_of_getElem? ho)
    simpa [hd] using q
  · intro i o ho e he hb
    have q := h2 i (List.mem_range.2 (Array.getElem?_eq_some_iff.1 ho).1)
    simp only [ho, Bool.and_eq_true] at q
    have r := (Array.all_eq_true_iff_forall_mem.1 q.1) e he
    rw [hb] at r
    simpa using r
  · intro i j o o' d hi hj hij hd hd'
    rcases Nat.lt_or_gt_of_ne hij with h | h
    · exact H j i o' o d h hj hi hd' hd
    · exact H i j o o' d h hi hj hd hd'
theorem Held.nextE {n : Nat} (T : TextE md ops n) (hn : n ≤ a0.tmps.size) {listed : Array Bool} {a : Act} {w : World} (H : Held md ops F a0 w0 listed a w) {i : Nat} {o : Oper} (ho : ops[i]? = some o) (hr : i ∈ Region.ready md ops listed)
    {v : Value} {w' : World} (hw : Below w.heap.size w w') (hf : (F i).p v w') : Held md ops F a0 w0 (listed.setIfInBounds i true) (a.put o.dst v) w' := by
  have hi : i < ops.size := (Array.getElem?_eq_some_iff.1 ho).1
  have hz : a.tmps.size = a0.tmps.size := H.b.2.1
  refine ⟨⟨by rw [put_defers]; exact H.b.1, by rw [put_size]; exact hz, fun d hd => ?_⟩, nxt H.n hw, ?_, ?_, by simp [H.s]⟩
  · rw [put_off]
    · exact H.b.2.2 d hd
    · have q := Array.all_eq_true_iff_forall_mem.1 hd o (Array.mem_of_getElem? ho)
      simpa using q
  · intro j oj d hoj hj hd
    by_cases e : i = j
    · subst e
      obtain rfl := Option.some.inj (ho.symm.trans hoj)
      rw [hd, put_at (Nat.lt_of_lt_of_le (T.d i o d ho hd) (hz ▸ hn))]
      exact hf
    · rw [getD_off e] at hj
      rw [put_off (T.x j i oj o d hoj ho (Ne.symm e) hd)]
      exact (F j).up hw (H.f j oj d hoj hj hd)
  · intro j oj hoj hj e he hb
    obtain ⟨_, o', ho', q⟩ := mem_ready.1 hr
    by_cases c : i = e.on
    · rw [← c]
      exact getD_same (by rw [H.s]; exact hi) _
    · rw [getD_off c]
      by_cases e' : i = j
      · subst e'
        obtain rfl := Option.some.inj (ho'.symm.trans hoj)
        exact q e he hb
      · rw [getD_off e'] at hj
        exact H.c j oj hoj hj e he hb
theorem any_end {n : Nat} (T : TextE md ops n) (hn : n ≤ a0.tmps.size) (steps : ∀ i, i < ops.size → StepOk P md ops Q F a0 w0 i)
    (hg : ∀ i o, ops[i]? = some o → ∀ (a : Act) (w : World), (∀ j d, waits md ops i j d = true → (F j).p (a.tmps.getD d undef) w) → Region.wanted o (yielded ops a.tmps) = true)
    (fin : ∀ a w, Based ops a0 a → Below w0.heap.size w0 w → (∀ i o d, ops[i]? = some o → o.dst = some d → (F i).p (a.tmps.getD d undef) w) → Q .normal a w) :
    ∀ (fuel : Nat) (listed : Array Bool) (a : Act) (w : World), left listed ops.size ≤ fuel → Held md ops F a0 w0 listed a w → wpAny P md ops Q fuel listed a w := by
  have done : ∀ (fuel : Nat) (listed : Array Bool) (a : Act) (w : World), Held md ops F a0 w0 listed a w → (∀ i, i < ops.size → listed.getD i false = true) → wpAny P md ops Q fuel listed a w := by
    intro fuel listed a w H hall
    refine wpAny_done ?_ (fin a w H.b H.n (fun i o d ho hd => H.f i o d ho (hall i (Array.getElem?_eq_some_iff.1 ho).1) hd)) fuel
    cases hr : Region.ready md ops listed with
    | nil => rfl
    | cons i t =>
      exfalso
      have hi : i ∈ Region.ready md ops listed := by rw [hr]; simp
      obtain ⟨h0, o, ho, _⟩ := mem_ready.1 hi
      have hlt := (Array.getElem?_eq_some_iff.1 ho).1
      rw [dflt (by rw [H.s]; exact hlt), hall i hlt] at h0
      simp at h0
  intro fuel
  induction fuel with
  | zero =>
    intro listed a w hl H
    exact done 0 listed a w H fun i hi => by
      rw [← dflt (by rw [H.s]; exact hi)]
      exact left_zero (n := ops.size) (by omega) i hi
  | succ fuel ih =>
    intro listed a w hl H
    by_cases hall : ∀ i, i < ops.size → listed.getD i false = true
    · exact done _ listed a w H hall
    · refine ⟨fun hr => ?_, fun i hi => ?_⟩
      · exfalso
        refine hall fun j hj => ?_
        have : ∀ m i, i < m → i < ops.size → listed.getD i false = true := by
          intro m
          induction m with
          | zero => intro i hi; omega
          | succ m ihm =>
            intro i hi hik
            rcases Nat.lt_or_ge i m with h1 | h1
            · exact ihm i h1 hik
            · obtain rfl : i = m := by omega
              cases hc : listed.getD i false
              · exfalso
                obtain ⟨o, ho⟩ : ∃ o, ops[i]? = some o := ⟨ops[i], by simp [hik]⟩
                have hr' : i ∈ Region.ready md ops listed := mem_ready.2 ⟨by rw [dflt (by rw [H.s]; omega)]; exact hc, o, ho, fun e he hb => ihm e.on (T.a i o ho e he hb) (by have := T.a i o ho e he hb; omega)⟩
                rw [hr] at hr'
                simp at hr'
              · rfl
        exact this (j + 1) j (by omega) hj
      · obtain ⟨h0, o, ho, hready⟩ := mem_ready.1 hi
        have hlt := (Array.getElem?_eq_some_iff.1 ho).1
        have hfacts : ∀ j d, waits md ops i j d = true → (F j).p (a.tmps.getD d undef) w := by
          intro j d hjd
          unfold waits at hjd
          rw [ho] at hjd
          cases hoj : ops[j]? with
          | none => rw [hoj] at hjd; simp at hjd
          | some oj =>
            rw [hoj] at hjd
            simp only [Bool.and_eq_true, beq_iff_eq] at hjd
            obtain ⟨e, he, hb⟩ := Array.any_eq_true'.1 hjd.1
            simp only [Bool.and_eq_true, beq_iff_eq] at hb
            exact H.f j oj d hoj (by rw [← hb.2]; exact hready e he hb.1) hjd.2
        have hwant := hg i o ho a w hfacts
        refine wpOp_step ho fun K' hK => ?_
        rw [if_pos hwant]
        have hll := left_set (by rw [H.s]; exact hlt) h0 ops.size hlt
        refine steps i hlt o ho a w H.b H.n hfacts K' fun v w' hw hf => ?_
        exact hK _ _ (ih _ _ _ (by omega) (H.nextE T hn ho hi hw hf))
/-- The same for the region. -/
theorem region_guard {id : Nat} {w : World} (F : Nat → Fact) (hm : P.follows .mixedOrders = true) (hT : textEnd .any ops a0.tmps.size = true) (steps : ∀ i, i < ops.size → StepOk P .any ops Q F a0 w i)
    (hg : ∀ i o, ops[i]? = some o → ∀ (a : Act) (w : World), (∀ j d, waits .any ops i j d = true → (F j).p (a.tmps.getD d undef) w) → Region.wanted o (yielded ops a.tmps) = true)
    (fin : ∀ a W, Based ops a0 a → Below w.heap.size w W → (∀ i d, writes ops i d = true → (F i).p (a.tmps.getD d undef) W) → Q .normal a W) : (Code.region id ops true).wp P Q a0 w := by
  have T := textE_of hT
  have z : ∀ j, (Array.replicate ops.size false).getD j false = false := fun j => by
    rw [Array.getD_eq_getD_getElem?, Array.getElem?_replicate]
    split <;> rfl
  refine wp_region_any hm ?_
  refine any_end (w0 := w) T (Nat.le_refl _) steps hg (fun a W hb hw hf => fin a W hb hw (fun i d hd => ?_)) ops.size _ a0 _ ?_ ⟨⟨rfl, rfl, fun _ _ => rfl⟩, (Below.refl _ _).drew, ?_, ?_, by simp⟩
  · obtain ⟨o, ho, hd'⟩ := writes_is hd
    exact hf i o d ho hd'
  · have : ∀ m, left (Array.replicate ops.size false) m ≤ m := by
      intro m
      induction m with
      | zero => exact Nat.le_refl _
      | succ m ih => unfold left; split <;> omega
    exact this _
  · intro i o d ho hl _
    rw [z] at hl
    simp at hl
  · intro i o ho hl
    rw [z] at hl
    simp at hl
theorem wanted_none {o : Oper} {a : Act} (h : o.guard = none) : Region.wanted o (yielded ops a.tmps) = true := by simp [Region.wanted, h]
theorem wanted_some {o : Oper} {a : Act} {g d : Nat} {v : Bool} (h : o.guard = some (g, v)) (hd : writes ops g d = true) (e : a.tmps.getD d undef = .bool v) : Region.wanted o (yielded ops a.tmps) = true := by
  obtain ⟨og, ho, hd'⟩ := writes_is hd
  have e1 : a.tmps[d]? = some (.bool v) := by
    rw [Array.getD_eq_getD_getElem?] at e
    cases hq : a.tmps[d]? with
    | none => rw [hq] at e; simp [undef] at e
    | some x => rw [hq] at e; simpa using e
  simp [Region.wanted, h, yielded, ho, hd', e1]
theorem puts_guard {n : Nat} (hT : textEnd md ops n = true) (hn : n = a0.tmps.size) {a : Act} (hb : Based ops a0 a) (vs : Nat → Value) (hv : ∀ d, a.tmps.getD d undef = vs d) : a = puts vs a0 ops.toList := by
  have T := textE_of hT
  have hin : ∀ o ∈ ops.toList, ∀ e, o.dst = some e → e < a0.tmps.size := fun o ho e he => by
    obtain ⟨i, hi⟩ := List.getElem?_of_mem ho
    have := T.d i o e (by simpa using hi) he
    rw [hn] at this
    exact this
  obtain ⟨s1, s2⟩ := puts_size vs ops.toList a0
  obtain ⟨ta, da⟩ := a
  obtain ⟨h1, h2, h3⟩ := hb
  have e1 : ta = (puts vs a0 ops.toList).tmps := by
    apply Array.ext
    · rw [s1]; exact h2
    · intro i hi hi'
      have g := puts_get vs i ops.toList a0 hin
      have l : ta[i] = ta.getD i undef := by simp [Array.getD_eq_getD_getElem?, hi]
      have r : (puts vs a0 ops.toList).tmps[i] = (puts vs a0 ops.toList).tmps.getD i undef := by simp only [Array.getD_eq_getD_getElem?, Array.getElem?_eq_getElem hi', Option.getD_some]
      rw [l, r, g]
      by_cases c : ops.toList.any (fun o => o.dst == some i) = true
      · rw [if_pos c]; exact hv i
      · rw [if_neg c]
        refine h3 i ?_
        unfold apart
        rw [Array.all_eq_true_iff_forall_mem]
        intro o ho
        have hne : ¬ (o.dst == some i) = true := fun x => c (List.any_eq_true.2 ⟨o, by simpa using ho, x⟩)
        simpa using hne
  have e2 : da = (puts vs a0 ops.toList).defers := h1.trans s2.symm
  subst e1
  subst e2
  rfl
end
end Go.Proofs.YtnaaanefndeafaaGreatDoor

/-
  Steps on points of the curve, for the laws that draw them.
-/
namespace Go.Proofs.YtnaaanefndeafaaGreatDoor
set_option maxRecDepth 100000
open Go Go.RowKit

/-- A point that may be read. -/
def RP (p : Int × Int) : Fact := ⟨fun v w => ∃ (a a' : Option Addr) (c c' g g' : Nat), v = .agg #[.slice a (lx p).length c, .slice a' (ly p).length c'] ∧ Rd w g a .u8 (lx p) ∧ Rd w g' a' .u8 (ly p), fun n h => by
  obtain ⟨a, a', c, c', g, g', e, o, o'⟩ := h
  exact ⟨a, a', c, c', g, g', e, o.up n, o'.up n⟩⟩
theorem rp_of_new2 {B : Nat} {w : World} {r : Ending} {p : Int × Int} {xs ys : List Int} (hx : xs = lx p) (hy : ys = ly p) (h : NewP2 B w r xs ys) : ∃ v, r = .returned v ∧ (RP p).p v w := by
  subst hx hy
  obtain ⟨a, c, g, a', c', g', rfl, o, o', _⟩ := h
  exact ⟨_, rfl, a, a', c, c', g, g', rfl, o.rd, o'.rd⟩
section
variable {ops : Array Oper} {Q : Exit → Act → World → Prop} {md : Region.Mode} {F : Nat → Fact} {a0 : Act} {w0 : World} {i : Nat} {o : Oper} {ts : Array TypeId}
theorem step_gload (hi : ops[i]? = some o) (p : Nat) (hop : o.op = .load 37 (.tmp p)) (hp : apart ops p = true) (B : Nat) (h0 : a0.tmps.getD p undef = .pointer (some ⟨B, 0, none⟩)) {x : Int × Int} {a a' : Option Addr} {c c' g g' : Nat} (T : Two w0 B (.slice a (lx x).length c) (.slice a' (ly x).length c')) (r : Rd w0 g a .u8 (lx x)) (r' : Rd w0 g' a' .u8 (ly x)) (hF : F i = RP x) : StepOk Tryz.prog md ops Q F a0 w0 i := by
  obtain ⟨fs, hu⟩ := uP
  refine step_load hi _ _ hop _ 2 hu rfl iP fun A w hb hw _ => ?_
  refine ⟨B, 0, [.slice a (lx x).length c, .slice a' (ly x).length c'], (based_at hb p hp).trans h0, fun j v hv => ?_, rfl, by rw [hF]; exact ⟨a, a', c, c', g, g', rfl, r.up hw, r'.up hw⟩⟩
  have T' := T.up hw
  match j, hv with
  | 0, hv => cases hv; exact T'.c0
  | 1, hv => cases hv; exact T'.c1
end
end Go.Proofs.YtnaaanefndeafaaGreatDoor

/-
  A law's copy of a list, still its own to be appended to; a list of the input that is nil holds nothing.
-/
namespace Go.Proofs.YtnaaanefndeafaaGreatDoor
set_option maxRecDepth 100000
open Go.RowKit

set_option maxHeartbeats 400000 in
theorem lwCopyO_any (w : World) (g : Nat) (a : Option Addr) (cap : Nat) (xs : List Int) (hr : Rd w g a .u8 xs) (hc : a = none → cap = 0) (hn : xs.length ≤ 1048576) :
    Calls Tryz.prog 12 #[.slice a xs.length cap] w fun e w' => ∃ v, e = .returned v ∧ w'.ownsRow w.heap.size 5 1 v xs.length (xs.map (Value.int .u8)) ∧ Below w.heap.size w w' := by
  obtain ⟨i0, hi, hz0, hz1, hz2⟩ := info_parts Tryz.info5
  have hown : (w.alloc (.cells #[] 5)).ownsRow w.heap.size 5 1 (.slice (some ⟨w.heap.size, 0, none⟩) 0 0) 0 [] := World.ownsRow_lit w #[] 0 (Nat.le_refl _) (by unfold maxLen; omega) (by simp)
  have hal : Below w.heap.size w (w.alloc (.cells #[] 5)) := (Below.refl _ _).alloc (Nat.le_refl _) _
  cases a with
  | none =>
    obtain rfl : xs = [] := by
      by_cases h0 : 0 < xs.length
      · obtain ⟨off, h, _⟩ := hr h0
        simp at h
      · exact List.eq_nil_of_length_eq_zero (by omega)
    obtain rfl := hc rfl
    go_enter Tryz.func12, Tryz.ntmps12
    go_wp2_with (at_builtin; refine wpList_append_own_none rfl _ _ 22 rfl w.heap.size 5 i0 1 Tryz.underlying22 hi _ 0 [] rfl hown rfl ?_)
    go_ret
    exact ⟨_, rfl, hown, hal⟩
  | some ad =>
    have hcell : ∀ j u, (xs.map (Value.int .u8))[j]? = some u → (w.alloc (.cells #[] 5)).cell? (ad.add j) = some u := by
      intro j u hj
      have hjl : j < xs.length := by
        have := (List.getElem?_eq_some_iff.1 hj).1
        simpa using this
      obtain ⟨off, ha, hcc⟩ := (hr.up hal) (by omega)
      simp only [Option.some.injEq] at ha
      subst ha
      rw [Addr.add_mid, hcc j hjl]
      simpa [hjl] using hj
    have hone : ∀ u ∈ xs.map (Value.int .u8), u.oneCell' = true := by
      intro u hu
      obtain ⟨x, _, rfl⟩ := List.mem_map.1 hu
      rfl
    go_enter Tryz.func12, Tryz.ntmps12
    go_wp2_with (at_builtin; refine wpList_append_own _ rfl _ _ 22 rfl w.heap.size 5 i0 (.int .u8 0) 1 1 Tryz.underlying22 hi hz0 hz1 hz2 rfl (by decide) (.slice (some ⟨w.heap.size, 0, none⟩) 0 0) 0 [] rfl hown ad xs.length cap (xs.map (Value.int .u8)) rfl (by simp) hcell hone (by unfold maxLen; omega) (by omega) (by simp) ?_; intro v' w1 hown' hgrow _)
    simp only [Nat.zero_add, List.nil_append] at hown'
    have hB : Below w.heap.size w w1 := hal.grown hgrow (by simp) (by intro k hk; simp [Value.ownBlock] at hk; omega)
    clear hgrow hown
    go_wp2
    go_ret
    exact ⟨_, rfl, hown', hB⟩
end Go.Proofs.YtnaaanefndeafaaGreatDoor

/-
  A row of bytes appended to an owned row of bytes, nil ones too, as one equation. No program in sight.
-/
namespace Go.Proofs.YtnaaanefndeafaaGreatDoor
set_option maxRecDepth 100000
open Go.RowKit

/-- A row of bytes that the walk owns. -/
def RowB (w : World) (base : Nat) (v : Value) (xs : List Int) : Prop := w.ownsRow base 5 1 v xs.length (xs.map (Value.int .u8))
theorem RowB.up {w w' : World} {base : Nat} {v : Value} {xs : List Int} (h : RowB w base v xs) (hb : Below w.heap.size w w') : RowB w' base v xs := by
  refine ⟨h.1, ?_⟩
  rcases h.2 with h' | ⟨g, cap, cur, rfl, hbg, hg, hnc, hcm, hcs, ht⟩
  · exact .inl h'
  · exact .inr ⟨g, cap, cur, rfl, hbg, by rw [hb.block g ((Array.getElem?_eq_some_iff.1 hg).1)]; exact hg, hnc, hcm, hcs, ht⟩
theorem RowB.only {w w' : World} {base q : Nat} {v : Value} {xs : List Int} (h : RowB w base v xs) (hb : Only q w w') (hq : q < base) : RowB w' base v xs := by
  refine ⟨h.1, ?_⟩
  rcases h.2 with h' | ⟨g, cap, cur, rfl, hbg, hg, hnc, hcm, hcs, ht⟩
  · exact .inl h'
  · exact .inr ⟨g, cap, cur, rfl, hbg, by rw [hb.block g (by omega)]; exact hg, hnc, hcm, hcs, ht⟩
theorem RowB.base {w : World} {base base' : Nat} {v : Value} {xs : List Int} (h : RowB w base v xs) (hb : base' ≤ base) : RowB w base' v xs := by
  refine ⟨h.1, ?_⟩
  rcases h.2 with h' | ⟨g, cap, cur, rfl, hbg, hg, hnc, hcm, hcs, ht⟩
  · exact .inl h'
  · exact .inr ⟨g, cap, cur, rfl, by omega, hg, hnc, hcm, hcs, ht⟩
theorem RowB.own {w : World} {base : Nat} {v : Value} {xs : List Int} (h : RowB w base v xs) :
    ∃ (a : Option Addr) (c g : Nat), v = .slice a xs.length c ∧ Own w g a .u8 xs ∧ (a = none → c = 0) ∧ xs.length ≤ c ∧ base ≤ g := Own.of_ownsRow h
theorem RowB.rd {w : World} {base : Nat} {v : Value} {xs : List Int} (h : RowB w base v xs) : ∃ (a : Option Addr) (c g : Nat), v = .slice a xs.length c ∧ Rd w g a .u8 xs ∧ (a = none → c = 0) ∧ xs.length ≤ c ∧ base ≤ g := by
  obtain ⟨a, c, g, h1, h2, h3⟩ := h.own
  exact ⟨a, c, g, h1, h2.rd, h3⟩
end Go.Proofs.YtnaaanefndeafaaGreatDoor

/-
  The law FnPointGroup (written by gens/lgrp.py).
-/
namespace Go.Proofs.YtnaaanefndeafaaGreatDoor
set_option maxRecDepth 100000
open Go Go.RowKit


theorem step_pickT {ops : Array Oper} {Q : Exit → Act → World → Prop} {md : Region.Mode} {F : Nat → Fact} {a0 : Act} {w0 : World} {i : Nat} {o : Oper} {P : Program} (hi : ops[i]? = some o) (p q j k : Nat) {v : Value} {x : Value} (hop : o.op = .pick (.tmp p) (.tmp q) (.const x)) (hj : waits md ops i j p = true) (hk : waits md ops i k q = true) (hFj : F j = Fact.eq (.bool true)) (hFk : F k = Fact.eq v) (hFi : F i = Fact.eq v) : StepOk P md ops Q F a0 w0 i := by
  refine step_pure hi fun a w _ _ hf => ⟨v, ?_, by rw [hFi]; exact rfl⟩
  have h1 := hf j p hj
  have h2 := hf k q hk
  rw [hFj] at h1
  rw [hFk] at h2
  have g1 : a.eval (.tmp p) = .bool true := h1
  have g2 : a.eval (.tmp q) = v := h2
  have g3 : a.eval (.const x) = x := rfl
  simp only [execOp, hop, g1, g2, g3]
  rfl
def HasG (w : World) : Prop := HasA w ∧ RowN w 2 0 [0, 1]
theorem HasG.up {w w' : World} (h : HasG w) (n : Below w.heap.size w w') : HasG w' := ⟨⟨h.1.1.up n, h.1.2.1.up n, h.1.2.2.1.up n, h.1.2.2.2.up n⟩, h.2.up n⟩
end Go.Proofs.YtnaaanefndeafaaGreatDoor

/-
  The law FnLadderOfPoints.
-/
namespace Go.Proofs.YtnaaanefndeafaaGreatDoor
set_option maxRecDepth 100000
open Go Go.RowKit

/-- A list that may be read. -/
def LS (xs : List Int) : Fact := ⟨fun v w => ∃ (a : Option Addr) (c g : Nat), v = .slice a xs.length c ∧ Rd w g a .u8 xs ∧ (a = none → c = 0), fun n h => by
  obtain ⟨a, c, g, e, r, k⟩ := h
  exact ⟨a, c, g, e, r.up n, k⟩⟩
/-- The first coordinate of a point on the ladder's curve, as bytes. -/
def lu (p : Int × Int) : List Int := fill (byt (toU p.2)) 32
theorem lu_len (p : Int × Int) : (lu p).length = 32 := fill_len _ _
theorem toU_bd (y : Int) : 0 ≤ toU y ∧ toU y < PP := ⟨Int.emod_nonneg _ (by decide), Int.emod_lt_of_pos _ (by decide)⟩
theorem lu_byt (p : Int × Int) : Byt (lu p) := by
  have := lx_byt (toU p.2, 0)
  exact this
theorem kn_sc {ks : List Int} (hl : ks.length = 32) : scV (clampA ks) = kn ks := by
  unfold scV kn clampA
  rw [if_pos hl]
  unfold num
  rw [clampL_len, hl]
theorem lop_eq {ks : List Int} (hb : Byt ks) (hl : ks.length = 32) {p : Int × Int} (hp : Pv p) : lu (pMul (scV (clampA ks)) p) = ladA ks (lu p) := by
  rw [ladA_is hb hl (lu_len p), kn_sc hl]
  unfold lu
  rw [low7_fill (toU_bd _).1 (toU_bd _).2, num_fill (toU_bd _).1 (toU_bd _).2, ladder_of_mul hp.on (kn_clp hb hl)]
theorem pv_mul {p : Int × Int} (hp : Pv p) (k : Nat) : Pv (pMul k p) := ⟨pMul_on hp.on k, pMul_cn k p⟩
theorem tl_of {p : Int × Int} (hp : Pv p) : tlA dGo (lx p) (ly p) = lu p := by
  rw [tlA_eq]
  unfold toLad lu toU
  rw [if_pos (lv_valid hp), ly_num hp]
theorem sk_of {ks : List Int} (hl : ks.length = 32) {p : Int × Int} (hp : Pv p) : skX ks (lx p) (ly p) = lx (pMul (scV ks) p) ∧ skY ks (lx p) (ly p) = ly (pMul (scV ks) p) := by
  unfold skX skY
  rw [if_pos ⟨hl, lv_valid hp⟩, if_pos ⟨hl, lv_valid hp⟩, lx_num hp, ly_num hp]
  exact ⟨rfl, rfl⟩
section
variable {ops : Array Oper} {Q : Exit → Act → World → Prop} {md : Region.Mode} {F : Nat → Fact} {a0 : Act} {w0 : World} {i : Nat} {o : Oper} {ts : Array TypeId}
theorem step_lsl {P : Program} (hi : ops[i]? = some o) (p : Nat) (hop : o.op = .move (.tmp p)) (hp : apart ops p = true) {a : Option Addr} {c g : Nat} {xs : List Int} (h0 : a0.tmps.getD p undef = .slice a xs.length c) (hr : Rd w0 g a .u8 xs) (hc : a = none → c = 0) (hF : F i = LS xs) : StepOk P md ops Q F a0 w0 i := by
  refine step_pure hi fun b w hb hw _ => ⟨.slice a xs.length c, ?_, by rw [hF]; exact ⟨a, c, g, rfl, hr.up hw, hc⟩⟩
  have e := (based_at hb p hp).trans h0
  simp [execOp, hop, e]
theorem step_lcp (hi : ops[i]? = some o) (p j : Nat) {xs : List Int} (hn : xs.length ≤ 1048576) (hop : o.op = .call { callee := .value (.func 12), args := #[.tmp p], argTypes := ts }) (hj : waits md ops i j p = true) (hFj : F j = LS xs) (hFi : F i = LS xs) : StepOk Tryz.prog md ops Q F a0 w0 i := by
  refine step_call hi _ _ ts hop (by kernel_rfl) fun A w _ hw hF => ?_
  have ea := hF j p hj
  rw [hFj] at ea
  obtain ⟨a, c, g, e1, r, k⟩ := ea
  show Calls Tryz.prog _ #[A.tmps.getD p undef] w _
  rw [e1]
  refine (lwCopyO_any w g a c xs r k hn).mono ?_
  rintro e w' ⟨v, rfl, ho, n⟩
  rw [hFi]
  obtain ⟨a2, c2, g2, e2, o2, k2, _⟩ := Own.of_ownsRow ho
  exact ⟨_, rfl, n, a2, c2, g2, e2, o2.rd, k2⟩
theorem step_lcl (hi : ops[i]? = some o) (p j : Nat) {xs : List Int} (hb : Byt xs) (hop : o.op = .call { callee := .value (.func 29), args := #[.tmp p], argTypes := ts }) (hj : waits md ops i j p = true) (hFj : F j = LS xs) (hFi : F i = LS (clampA xs)) : StepOk Tryz.prog md ops Q F a0 w0 i := by
  refine step_call hi _ _ ts hop (by kernel_rfl) fun A w _ hw hF => ?_
  have ea := hF j p hj
  rw [hFj] at ea
  obtain ⟨a, c, g, e1, r, k⟩ := ea
  show Calls Tryz.prog _ #[A.tmps.getD p undef] w _
  rw [e1]
  refine (implClamp_any w g a c xs r hb).mono ?_
  rintro e w' ⟨⟨a2, c2, g2, rfl, o2, k2, _⟩, n⟩
  rw [hFi]
  exact ⟨_, rfl, n, a2, c2, g2, rfl, o2.rd, k2⟩
theorem step_lsc (hG : HasG w0) (hi : ops[i]? = some o) (p q j k : Nat) {ks : List Int} (hb : Byt ks) (hl : ks.length = 32) {x : Int × Int} (hx : Pv x) (hop : o.op = .call { callee := .value (.func 28), args := #[.tmp p, .tmp q], argTypes := ts }) (hj : waits md ops i j p = true) (hk : waits md ops i k q = true) (hFj : F j = LS ks) (hFk : F k = RP x) (hFi : F i = RP (pMul (scV ks) x)) : StepOk Tryz.prog md ops Q F a0 w0 i := by
  refine step_call hi _ _ ts hop (by kernel_rfl) fun A w _ hw hF => ?_
  have ea := hF j p hj
  have eb := hF k q hk
  rw [hFj] at ea
  rw [hFk] at eb
  obtain ⟨a, c, g, e1, r, _⟩ := ea
  obtain ⟨a2, a2', c2, c2', g2, g2', e2, r2, r2'⟩ := eb
  show Calls Tryz.prog _ #[A.tmps.getD p undef, A.tmps.getD q undef] w _
  rw [e1, e2]
  refine (implScale_any w g a c ks r hb g2 g2' a2 a2' c2 c2' (lx x) (ly x) r2 r2' (lx_byt x) (ly_byt x) (hG.1.1.up hw) (hG.1.2.1.up hw) (hG.2.up hw) (hG.1.2.2.1.up hw) (hG.1.2.2.2.up hw)).mono ?_
  rintro r w' ⟨h, hn⟩
  rw [hFi]
  obtain ⟨v, e, hv⟩ := rp_of_new2 (sk_of hl hx).1 (sk_of hl hx).2 h
  exact ⟨v, e, hn, hv⟩
theorem step_ltl (hG : HasG w0) (hi : ops[i]? = some o) (p j : Nat) {x : Int × Int} (hx : Pv x) (hop : o.op = .call { callee := .value (.func 27), args := #[.tmp p], argTypes := ts }) (hj : waits md ops i j p = true) (hFj : F j = RP x) (hFi : F i = LS (lu x)) : StepOk Tryz.prog md ops Q F a0 w0 i := by
  refine step_call hi _ _ ts hop (by kernel_rfl) fun A w _ hw hF => ?_
  have ea := hF j p hj
  rw [hFj] at ea
  obtain ⟨a2, a2', c2, c2', g2, g2', e2, r2, r2'⟩ := ea
  show Calls Tryz.prog _ #[A.tmps.getD p undef] w _
  rw [e2]
  refine (implToLadder_any w g2 g2' a2 a2' c2 c2' (lx x) (ly x) r2 r2' (lx_byt x) (ly_byt x) dGo (hG.1.1.up hw) (hG.1.2.1.up hw) (hG.1.2.2.1.up hw) (hG.1.2.2.2.up hw)).mono ?_
  rintro e w' ⟨⟨a3, c3, g3, rfl, o3, k3, _⟩, n⟩
  rw [tl_of hx] at o3
  rw [hFi]
  exact ⟨_, rfl, n, a3, c3, g3, by rw [tl_of hx], o3.rd, k3⟩
theorem step_llad (hL : HasL w0) (hi : ops[i]? = some o) (p q j k : Nat) {ks us : List Int} (hb : Byt ks) (hu : Byt us) (hop : o.op = .call { callee := .value (.func 31), args := #[.tmp p, .tmp q], argTypes := ts }) (hj : waits md ops i j p = true) (hk : waits md ops i k q = true) (hFj : F j = LS ks) (hFk : F k = LS us) (hFi : F i = LS (ladA ks us)) : StepOk Tryz.prog md ops Q F a0 w0 i := by
  refine step_call hi _ _ ts hop (by kernel_rfl) fun A w _ hw hF => ?_
  have ea := hF j p hj
  have eb := hF k q hk
  rw [hFj] at ea
  rw [hFk] at eb
  obtain ⟨a, c, g, e1, r, _⟩ := ea
  obtain ⟨a2, c2, g2, e2, r2, _⟩ := eb
  show Calls Tryz.prog _ #[A.tmps.getD p undef, A.tmps.getD q undef] w _
  rw [e1, e2]
  refine (implLadder_any w g g2 a a2 c c2 ks us r r2 hb hu (hL.up hw)).mono ?_
  rintro e w' ⟨⟨a3, c3, g3, rfl, o3, k3, _⟩, n⟩
  rw [hFi]
  exact ⟨_, rfl, n, a3, c3, g3, rfl, o3.rd, k3⟩
theorem step_lsm (hi : ops[i]? = some o) (p q j k : Nat) {xs : List Int} (hop : o.op = .call { callee := .value (.func 30), args := #[.tmp p, .tmp q], argTypes := ts }) (hj : waits md ops i j p = true) (hk : waits md ops i k q = true) (hFj : F j = LS xs) (hFk : F k = LS xs) (hFi : F i = Fact.eq (.bool true)) : StepOk Tryz.prog md ops Q F a0 w0 i := by
  refine step_call hi _ _ ts hop (by kernel_rfl) fun A w _ hw hF => ?_
  have ea := hF j p hj
  have eb := hF k q hk
  rw [hFj] at ea
  rw [hFk] at eb
  obtain ⟨a, c, g, e1, r, _⟩ := ea
  obtain ⟨a2, c2, g2, e2, r2, _⟩ := eb
  show Calls Tryz.prog _ #[A.tmps.getD p undef, A.tmps.getD q undef] w _
  rw [e1, e2]
  refine (lwSame_same w g g2 a a2 c c2 xs r r2).mono ?_
  rintro e w' ⟨rfl, rfl⟩
  rw [hFi]
  exact ⟨_, rfl, Below.refl _ _, rfl⟩
theorem step_len32 {P : Program} (hi : ops[i]? = some o) (p j : Nat) {t : TypeId} {xs : List Int} (hl : xs.length = 32) (hop : o.op = .call { callee := .builtin .len, args := #[.tmp p], argTypes := #[t] }) (hu : P.underlying t = some (.slice (P.elem t))) (hj : waits md ops i j p = true) (hFj : F j = LS xs) (hFi : F i = Fact.eq (.int .i64 32)) : StepOk P md ops Q F a0 w0 i := by
  refine step_pure hi fun a w _ _ hf => ⟨.int .i64 32, ?_, by rw [hFi]; exact rfl⟩
  have ea := hf j p hj
  rw [hFj] at ea
  obtain ⟨b, c, g, e1, _, _⟩ := ea
  have g1 : a.eval (.tmp p) = .slice b xs.length c := e1
  have k := run_len_slice (P := P) w t o.type b xs.length c hu
  rw [hl] at k
  simp only [execOp, hop, resolve, List.map_toArray, List.map_cons, List.map_nil, g1]
  simp [invoke, builtin, hl]
  rw [k]
  rfl
theorem step_eq32 {P : Program} (hi : ops[i]? = some o) (p j : Nat) {t : TypeId} (hop : o.op = .binOp .eql t (.tmp p) (.const (.int .i64 32)) t) (hj : waits md ops i j p = true) (hFj : F j = Fact.eq (.int .i64 32)) (hFi : F i = Fact.eq (.bool true)) : StepOk P md ops Q F a0 w0 i := by
  refine step_pure hi fun a w _ _ hf => ⟨.bool true, ?_, by rw [hFi]; exact rfl⟩
  have ea := hf j p hj
  rw [hFj] at ea
  have g1 : a.tmps[p]?.getD undef = .int .i64 32 := by
    have : a.tmps.getD p undef = .int .i64 32 := ea
    simpa using this
  simp [execOp, hop, Act.eval, g1, eqGuard, binOp, Op.intCmp]
end

set_option maxHeartbeats 16000000 in
theorem lop_law (w : World) (g0 : Nat) (a0 : Option Addr) (c0 : Nat) (X0 : List Int) (hX0 : Rd w g0 a0 .u8 X0) (bX0 : Byt X0) (g1 : Nat) (a1 : Option Addr) (c1 : Nat) (X1 : List Int) (hX1 : Rd w g1 a1 .u8 X1) (bX1 : Byt X1) (hL : HasG w) :
    Calls Tryz.prog 5 #[.slice a0 X0.length c0, .slice a1 X1.length c1] w fun e w' => e = .returned (.bool true) ∧ Below w.heap.size w w' := by
  by_cases h0 : X0.length ≤ 1048576
  · have t0 : decide ((1048576 : Int) < (X0.length : Int)) = false := by simp; omega
    by_cases h1 : X1.length ≤ 1048576
    · have t1 : decide ((1048576 : Int) < (X1.length : Int)) = false := by simp; omega
      obtain ⟨p, hp, ep⟩ := lpP_is (xs := X0)
      have LP0 := lwPoint_any w g0 a0 c0 X0 hX0 bX0 (by omega)
      rw [ep] at LP0
      have LH0 := hide LP0
      have DL := hide (fun W (n : Below w.heap.size w W) => drawLadder_any W g1 a1 c1 X1 (hX1.up n) bX1 h1)
      clear LP0 ep
      simp only [] at LH0
      go_enter Tryz.func5, Tryz.ntmps5
      go_wp2_with fail
      refine LH0.out.mono ?_
      rintro r w1 ⟨⟨x1, y1, d1, e1, gx, gy, rfl, ox, oy, _, _⟩, n1⟩
      have rx := ox.rd
      have ry := oy.rd
      have T1 := Two.new w1 (.slice x1 (lx p).length d1) (.slice y1 (ly p).length e1) 37
      have m1 : Below w1.heap.size w1 (w1.alloc (.cells #[.slice x1 (lx p).length d1, .slice y1 (ly p).length e1] 37)) := (Below.refl _ _).alloc (Nat.le_refl _) _
      have N1 := nxt n1 m1
      replace rx := rx.up m1
      replace ry := ry.up m1
      clear LH0 ox oy n1
      go_upto_region 4 with fail
      generalize w1.alloc (.cells #[.slice x1 (lx p).length d1, .slice y1 (ly p).length e1] 37) = W1 at *
      clear m1
      have DL1 := hide (DL.out W1 N1)
      clear DL
      go_wp2_with fail
      refine DL1.out.mono ?_
      rintro r w2 ⟨xa, xb, xc, xd, xg, xh, ks0, us0, rfl, o1, _, b1, _, n2⟩
      have LW := hide (lw32_any w2 xg xa xc ks0 o1.rd)
      have N2 := nxt N1 n2
      replace T1 := T1.up n2
      replace rx := rx.up n2
      replace ry := ry.up n2
      clear DL1 n2
      go_wp2_with fail
      refine LW.out.mono ?_
      rintro r w3 ⟨rfl, B3, n3⟩
      have N3 := nxt N2 n3
      replace T1 := T1.up n3
      replace rx := rx.up n3
      replace ry := ry.up n3
      have bk := to32_byt b1
      have lk := hide (to32_len ks0)
      have rk : Rd w3 w2.heap.size (some ⟨w2.heap.size, 0, none⟩) .u8 (to32 ks0) := B3.own0.rd
      clear LW n3 b1 o1 B3 N2 N1
      generalize to32 ks0 = ks at *
      have HG := hL.up N3
      have lc : (clampA ks).length = 32 := by unfold clampA; rw [if_pos lk.out, clampL_len]; exact lk.out
      have bc : Byt (clampA ks) := by unfold clampA; rw [if_pos lk.out]; exact clampL_byt bk lk.out
      have E32 : Value.slice (some ⟨w2.heap.size, 0, none⟩) 32 32 = .slice (some ⟨w2.heap.size, 0, none⟩) ks.length 32 := by rw [lk.out]
      go_upto_region 6 with fail
      refine region_end 7 (fun i => [LS ks, LS ks, LS (clampA ks), RP p, RP (pMul (scV (clampA ks)) p), LS (lu (pMul (scV (clampA ks)) p)), LS (lu (pMul (scV (clampA ks)) p))].getD i Fact.no) (by kernel_rfl) (by kernel_rfl) rfl ?_ ?_
      · intro i hi
        obtain rfl | rfl | rfl | rfl | rfl | rfl | rfl : i = 0 ∨ i = 1 ∨ i = 2 ∨ i = 3 ∨ i = 4 ∨ i = 5 ∨ i = 6 := by omega
        · exact step_lsl rfl 8 rfl (by kernel_rfl) rfl rk (by simp) rfl
        · exact step_lcp rfl 27 0 (by rw [lk.out]; decide) rfl (by kernel_rfl) rfl rfl
        · exact step_lcl rfl 28 1 bk rfl (by kernel_rfl) rfl rfl
        · exact step_gload rfl 5 rfl (by kernel_rfl) _ rfl T1 rx ry rfl
        · exact step_lsc HG rfl 29 30 2 3 bc lc hp rfl (by kernel_rfl) (by kernel_rfl) rfl rfl rfl
        · exact step_ltl HG rfl 31 4 (pv_mul hp _) rfl (by kernel_rfl) rfl rfl
        · exact step_move rfl 32 5 (by exact Or.inr rfl) (by kernel_rfl) rfl
      intro A W4 hb hw hF
      obtain ⟨b9, c9, g9, e9, r9, k9⟩ := hF 6 9 (by kernel_rfl)
      obtain ⟨vs, hvs⟩ : ∃ vs : Nat → Value, ∀ d, A.tmps.getD d undef = vs d := ⟨_, fun _ => rfl⟩
      rw [hvs] at e9
      rw [puts_of (md := .any) (k := 7) (by kernel_rfl) rfl hb vs hvs]
      clear hb hF hvs
      have N4 := nxt N3 hw
      replace T1 := T1.up hw
      replace rx := rx.up hw
      replace ry := ry.up hw
      replace rk := rk.up hw
      replace HG := hL.up N4
      have EQ := hide (lop_eq bk lk.out hp)
      have l9 := hide (lu_len (pMul (scV (clampA ks)) p))
      simp only [puts, e9, Act.put, List.setIfInBounds_toArray, List.set_cons_succ, List.set_cons_zero]
      clear hw N3 e9
      have HL : HasL W4 := ⟨HG.1.1, HG.1.2.2.1, HG.1.2.2.2⟩
      go_upto_region 7 with fail
      refine region_guard (fun i => [LS (lu (pMul (scV (clampA ks)) p)), Fact.eq (.int .i64 32), Fact.eq (.bool true), Fact.eq (.bool true), LS (lu (pMul (scV (clampA ks)) p)), LS ks, LS ks, RP p, LS (lu p), LS (ladA ks (lu p)), Fact.eq (.bool true), Fact.eq (.bool true), Fact.eq (.bool true)].getD i Fact.no) (by kernel_rfl) (by kernel_rfl) ?_ ?_ ?_
      · intro i hi
        have hiN : i < 13 := hi
        obtain rfl | rfl | rfl | rfl | rfl | rfl | rfl | rfl | rfl | rfl | rfl | rfl | rfl : i = 0 ∨ i = 1 ∨ i = 2 ∨ i = 3 ∨ i = 4 ∨ i = 5 ∨ i = 6 ∨ i = 7 ∨ i = 8 ∨ i = 9 ∨ i = 10 ∨ i = 11 ∨ i = 12 := by omega
        · exact step_lsl rfl 9 rfl (by kernel_rfl) rfl r9 k9 rfl
        · exact step_len32 rfl 33 0 l9.out rfl (by kernel_rfl) (by kernel_rfl) rfl rfl
        · exact step_eq32 rfl 34 1 rfl (by kernel_rfl) rfl rfl
        · exact step_move rfl 35 2 (by exact Or.inl rfl) (by kernel_rfl) rfl
        · exact step_lsl rfl 9 rfl (by kernel_rfl) rfl r9 k9 rfl
        · exact step_lsl rfl 8 rfl (by kernel_rfl) rfl rk (by simp) rfl
        · exact step_lcp rfl 38 5 (by rw [lk.out]; decide) rfl (by kernel_rfl) rfl rfl
        · exact step_gload rfl 5 rfl (by kernel_rfl) _ rfl T1 rx ry rfl
        · exact step_ltl HG rfl 40 7 hp rfl (by kernel_rfl) rfl rfl
        · exact step_llad HL rfl 39 41 6 8 bk (lu_byt p) rfl (by kernel_rfl) (by kernel_rfl) rfl rfl rfl
        · exact step_lsm rfl 37 42 4 9 rfl (by kernel_rfl) (by kernel_rfl) rfl (by show LS (ladA ks (lu p)) = _; rw [← EQ.out]) rfl
        · exact step_pickT rfl 36 43 3 10 rfl (by kernel_rfl) (by kernel_rfl) rfl rfl rfl
        · exact step_move rfl 44 11 (by exact Or.inr rfl) (by kernel_rfl) rfl
      · intro i o ho A W hf
        have hiN : i < 13 := (Array.getElem?_eq_some_iff.1 ho).1
        obtain rfl | rfl | rfl | rfl | rfl | rfl | rfl | rfl | rfl | rfl | rfl | rfl | rfl : i = 0 ∨ i = 1 ∨ i = 2 ∨ i = 3 ∨ i = 4 ∨ i = 5 ∨ i = 6 ∨ i = 7 ∨ i = 8 ∨ i = 9 ∨ i = 10 ∨ i = 11 ∨ i = 12 := by omega
        · cases ho; exact wanted_none rfl
        · cases ho; exact wanted_none rfl
        · cases ho; exact wanted_none rfl
        · cases ho; exact wanted_none rfl
        · cases ho; exact wanted_some rfl (by kernel_rfl) (hf 3 36 (by kernel_rfl))
        · cases ho; exact wanted_some rfl (by kernel_rfl) (hf 3 36 (by kernel_rfl))
        · cases ho; exact wanted_some rfl (by kernel_rfl) (hf 3 36 (by kernel_rfl))
        · cases ho; exact wanted_some rfl (by kernel_rfl) (hf 3 36 (by kernel_rfl))
        · cases ho; exact wanted_some rfl (by kernel_rfl) (hf 3 36 (by kernel_rfl))
        · cases ho; exact wanted_some rfl (by kernel_rfl) (hf 3 36 (by kernel_rfl))
        · cases ho; exact wanted_some rfl (by kernel_rfl) (hf 3 36 (by kernel_rfl))
        · cases ho; exact wanted_none rfl
        · cases ho; exact wanted_none rfl
      intro A W5 hb' hw hF
      have e4 := hF 12 4 (by kernel_rfl)
      obtain ⟨vs5, hvs5⟩ : ∃ vs : Nat → Value, ∀ d, A.tmps.getD d undef = vs d := ⟨_, fun _ => rfl⟩
      rw [hvs5] at e4
      rw [puts_guard (md := .any) (by kernel_rfl) rfl hb' vs5 hvs5]
      have e4' : vs5 4 = .bool true := e4
      clear hb' hF hvs5 e4
      have N5 := nxt N4 hw
      simp only [puts, e4', Act.put, List.setIfInBounds_toArray, List.set_cons_succ, List.set_cons_zero]
      clear T1 rx ry rk HG HL r9 EQ e4' hw N4
      go_wp2
      go_ret
      exact ⟨rfl, N5⟩
    · have t1 : decide ((1048576 : Int) < (X1.length : Int)) = true := by simp; omega
      go_enter Tryz.func5, Tryz.ntmps5
      go_wp2
      go_ret
      exact ⟨rfl, Below.refl _ _⟩
  · have t0 : decide ((1048576 : Int) < (X0.length : Int)) = true := by simp; omega
    go_enter Tryz.func5, Tryz.ntmps5
    go_wp2
    go_ret
    exact ⟨rfl, Below.refl _ _⟩
theorem laid_lop {W : World} (h : laidMetH Tryz.prog Rows.fnLadderOfPointsRow.laid W) : HasG W :=
  ⟨hasA_of h (by kernel_rfl) (.head _) (.tail _ (.head _)) (.tail _ (.tail _ (.head _))) (.tail _ (.tail _ (.tail _ (.head _)))), zp_of_reads (reads_of h (by kernel_rfl) (.tail _ (.tail _ (.tail _ (.tail _ (.head _))))))⟩
end Go.Proofs.YtnaaanefndeafaaGreatDoor
