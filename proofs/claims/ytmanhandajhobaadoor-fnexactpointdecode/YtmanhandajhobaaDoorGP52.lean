import Derived.Test.YtmanhandajhobaaDoorGP51
import Derived.Test.YtmanhandajhobaaDoorGP49
import Derived.Deep.RegionHeld3
import Derived.Test.YtmanhandajhobaaDoorGP47

/-
  The model's PointBase.
-/
namespace Go.Proofs.YtmanhandajhobaaDoor
set_option maxRecDepth 100000
open Go Go.RowKit

set_option maxHeartbeats 2000000 in
theorem specBase_any (w : World) : Calls Tryd.prog 57 #[] w fun r w' => NewPt w.heap.size w' r (liX (4 * iv 5) false) (liY (4 * iv 5) false) ∧ Below w.heap.size w w' := by
  have TZ : Two (w.alloc pObj) w.heap.size (.slice none 0 0) (.slice none 0 0) := Two.new w (.slice none 0 0) (.slice none 0 0) 26
  have N : Below w.heap.size w (w.alloc pObj) := (Below.refl _ _).alloc (Nat.le_refl _) _
  go_enter Tryd.func57, Tryd.ntmps57
  go_upto_region 1 with fail
  change Code.wp _ _ _ _ (w.alloc pObj)
  generalize w.alloc pObj = wr at *
  go_wp2_with fail
  refine (l2SmallB_any wr 4 (by omega)).mono ?_
  rintro r w1 ⟨t4, rfl, L4, V4, n⟩
  replace TZ := TZ.up n
  replace N := nxt N n
  clear n
  go_wp2_with fail
  refine (l2SmallB_any w1 5 (by omega)).mono ?_
  rintro r w2 ⟨t5, rfl, L5, V5, n⟩
  replace TZ := TZ.up n
  replace N := nxt N n
  clear n
  go_wp2_with fail
  refine (l2Inv_any w2 t5 L5).mono ?_
  rintro r w3 ⟨t6, rfl, L6, V6, n⟩
  replace TZ := TZ.up n
  replace N := nxt N n
  clear n
  go_wp2_with fail
  refine (l2Mul_any w3 t4 t6 L4 L6).mono ?_
  rintro r w4 ⟨t7, rfl, L7, V7, n⟩
  replace TZ := TZ.up n
  replace N := nxt N n
  clear n
  have V : s16 t7 16 % PP = 4 * iv 5 % PP := by
    rw [V7]
    exact mod_mul V4 (V6.trans (pow_mod V5 _))
  have z4 := TZ.lt
  have LF := hide (l5Lift_any w4 t7 (4 * iv 5) ⟨L7, V⟩ false)
  clear V4 V5 V6 V7 V L4 L5 L6 L7
  obtain ⟨X, hX⟩ : ∃ X, X = liX (4 * iv 5) false := ⟨_, rfl⟩
  obtain ⟨Y, hY⟩ : ∃ Y, Y = liY (4 * iv 5) false := ⟨_, rfl⟩
  rw [← hX, ← hY] at LF
  have KX := hide hX
  have KY := hide hY
  clear hX hY
  generalize liB (4 * iv 5) false = bb at *
  go_wp2_with fail
  refine LF.out.mono ?_
  rintro r w5 ⟨⟨a1, a2, c1, c2, g1, g2, rfl, o1, o2, l1, l2⟩, n⟩
  replace TZ := TZ.up n
  have z := N.size
  have zz := TZ.lt
  replace N := nxt N n
  clear n LF
  have TN := Two.new w5 (.slice a1 X.length c1) (.slice a2 Y.length c2) 26
  have m : Below w5.heap.size w5 (w5.alloc (.cells #[.slice a1 X.length c1, .slice a2 Y.length c2] 26)) := (Below.refl _ _).alloc (Nat.le_refl _) _
  go_upto_region 2 with fail
  generalize w5.alloc (.cells #[.slice a1 X.length c1, .slice a2 Y.length c2] 26) = w6 at *
  obtain ⟨p0, p1, _, _⟩ := TN
  obtain ⟨y0, y1, f0, f1⟩ := TZ.up m
  replace N := nxt N m
  replace o1 := o1.up m
  replace o2 := o2.up m
  have O := (Only.setCell w6 w.heap.size 0 (.slice a1 X.length c1)).trans (Only.setCell _ w.heap.size 1 (.slice a2 Y.length c2))
  have o1' := o1.only O (fun _ => by omega)
  have o2' := o2.only O (fun _ => by omega)
  have N' := N.trans (O.below (Nat.le_refl _))
  clear TZ m o1 o2 O N
  go_wp2
  refine bodyPost_ret (v := .agg #[.slice a1 X.length c1, .slice a2 Y.length c2]) (by simp [results, Tryd.results57, go_sem, y0, y1]) rfl ⟨?_, N'⟩
  rw [← KX.out, ← KY.out]
  exact ⟨a1, a2, c1, c2, g1, g2, rfl, o1', o2', by omega, by omega⟩
end Go.Proofs.YtmanhandajhobaaDoor

/-
  The model's PointDecode.
-/
namespace Go.Proofs.YtmanhandajhobaaDoor
set_option maxRecDepth 100000
open Go Go.RowKit

def low7s (xs : List Int) : List Int := xs.set 31 (xs.getD 31 0 % 128)
def dcB (xs : List Int) : Bool := decide (xs.length = 32) && (canN (low7s xs) && liB (num (low7s xs)) (decide (128 ≤ xs.getD 31 0)))
def dcX (xs : List Int) : List Int := if dcB xs = true then liX (num (low7s xs)) (decide (128 ≤ xs.getD 31 0)) else []
def dcY (xs : List Int) : List Int := if dcB xs = true then liY (num (low7s xs)) (decide (128 ≤ xs.getD 31 0)) else []
def NewPR (B : Nat) (w' : World) (e : Ending) (b : Bool) (xs ys : List Int) : Prop :=
  ∃ (a a' : Option Addr) (c c' g g' : Nat), e = .returned (.agg #[.bool b, .slice a xs.length c, .slice a' ys.length c']) ∧ Own w' g a .u8 xs ∧ Own w' g' a' .u8 ys ∧ B ≤ g ∧ B ≤ g'
theorem newPR_nil {B : Nat} {w : World} : NewPR B w (.returned (.agg #[.bool false, .slice none 0 0, .slice none 0 0])) false [] [] := ⟨none, none, 0, 0, B, B, rfl, Own.nil _ _ _ _, Own.nil _ _ _ _, Nat.le_refl _, Nat.le_refl _⟩
theorem li_nil {A : Int} {odd : Bool} (h : liB A odd = false) : liX A odd = [] ∧ liY A odd = [] := by
  unfold liX liY
  rw [if_neg (by rw [h]; simp), if_neg (by rw [h]; simp)]
  exact ⟨rfl, rfl⟩
/-- What was lifted, as it is answered. -/
def LiF (w0 : World) (A : Int) (odd : Bool) : Fact := ⟨fun v w => ∃ (a a' : Option Addr) (c c' g g' : Nat), v = .tuple #[.bool (liB A odd), .agg #[.slice a (liX A odd).length c, .slice a' (liY A odd).length c']] ∧ Own w g a .u8 (liX A odd) ∧ Own w g' a' .u8 (liY A odd) ∧ w0.heap.size ≤ g ∧ w0.heap.size ≤ g', fun n h => by
  obtain ⟨a, a', c, c', g, g', e, o, o', q⟩ := h
  exact ⟨a, a', c, c', g, g', e, o.up n, o'.up n, q⟩⟩
/-- A point's block made in the region, still empty. -/
def NBp (w0 : World) : Fact := ⟨fun v w => ∃ q, v = .pointer (some ⟨q, 0, none⟩) ∧ w.heap[q]? = some pObj ∧ w0.heap.size ≤ q, fun {v w w'} n h => by
  obtain ⟨q, e, h, l⟩ := h
  exact ⟨q, e, (n.block q (Array.getElem?_eq_some_iff.1 h).1).trans h, l⟩⟩
theorem pObj_there {W : World} {q : Nat} (h : W.heap[q]? = some pObj) : W.there q 0 2 := fun j hj => by
  constructor
  · unfold World.cell?
    simp only
    rw [h]
    obtain rfl | rfl : j = 0 ∨ j = 1 := by omega
    all_goals rfl
  · unfold World.frozen?
    simp only
    rw [h]
    simp
theorem own_ne {W : World} {q g : Nat} {a : Option Addr} {xs : List Int} (h : W.heap[q]? = some pObj) (o : Own W g a .u8 xs) (h0 : 0 < xs.length) : g ≠ q := fun e => by
  obtain ⟨off, _, hc⟩ := o h0
  have c := (hc 0 h0).1
  subst e
  unfold World.cell? at c
  simp only at c
  rw [h] at c
  rcases (show off = 0 ∨ off = 1 ∨ 2 ≤ off by omega) with r | r | r
  · subst r
    simp at c
  · subst r
    simp at c
  · have : ([Value.slice none 0 0, .slice none 0 0].toArray)[off + 0]? = none := by simp; omega
    simp only [this] at c
    simp at c
theorem en_lift : enters Tryd.prog 54 = true := by kernel_rfl
section
variable {ops : Array Oper} {Q : Exit → Act → World → Prop} {md : Region.Mode} {F : Nat → Fact} {a0 : Act} {w0 : World} {i : Nat} {o : Oper} {ts : Array TypeId}
theorem step_mvp {P : Program} (hi : ops[i]? = some o) (p : Nat) (hop : o.op = .move (.tmp p)) (hp : apart ops p = true) {v : Value} (h0 : a0.tmps.getD p undef = v) (hF : F i = Fact.eq v) : StepOk P md ops Q F a0 w0 i := by
  refine step_pure hi fun b w hb hw _ => ⟨v, ?_, by rw [hF]; exact rfl⟩
  have e := (based_at hb p hp).trans h0
  simp [execOp, hop, e]
theorem step_of32 (hi : ops[i]? = some o) (p j : Nat) {a : Option Addr} {c : Nat} {xs : List Int} (hop : o.op = .call { callee := .value (.func 36), args := #[.tmp p], argTypes := ts })
    (hj : waits md ops i j p = true) (hO : OfOk w0 a xs) (hFj : F j = Fact.eq (.slice a 32 c)) (hFi : F i = EL (num xs)) : StepOk Tryd.prog md ops Q F a0 w0 i := by
  have hl : xs.length = 32 := by obtain ⟨_, _, _, h⟩ := hO; exact h
  exact step_of hi p j hop hj hO (hFj.trans (by rw [hl])) hFi
theorem step_at31 (hi : ops[i]? = some o) (p j : Nat) {g off c : Nat} (hop : o.op = .indexAddr 22 (.tmp p) (.const (.int .i64 31))) (hj : waits md ops i j p = true) (hFj : F j = Fact.eq (.slice (some ⟨g, off, none⟩) 32 c)) (hF : F i = Fact.eq (.pointer (some ⟨g, off + 31, none⟩))) : StepOk Tryd.prog md ops Q F a0 w0 i := by
  refine step_pure hi fun a w hb hw hf => ⟨.pointer (some ⟨g, off + 31, none⟩), ?_, by rw [hF]; exact rfl⟩
  have e := hf j p hj
  rw [hFj] at e
  have e' : a.eval (.tmp p) = .slice (some ⟨g, off, none⟩) 32 c := e
  have e2 : a.eval (.const (.int .i64 31)) = .int .i64 31 := rfl
  simp only [execOp, hop, e', e2]
  go_simp
theorem step_ld8 (hi : ops[i]? = some o) (p j : Nat) {q off : Nat} {v : Value} (hop : o.op = .load 5 (.tmp p)) (hj : waits md ops i j p = true) (hFj : F j = Fact.eq (.pointer (some ⟨q, off, none⟩))) (hc : w0.cell? ⟨q, off, none⟩ = some v) (hF : F i = Fact.eq v) : StepOk Tryd.prog md ops Q F a0 w0 i := by
  refine step_pure hi fun a w _ hw hf => ⟨v, ?_, by rw [hF]; exact rfl⟩
  have e := hf j p hj
  rw [hFj] at e
  have e' : a.eval (.tmp p) = .pointer (some ⟨q, off, none⟩) := e
  have c' : w.cell? ⟨q, off, none⟩ = some v := (hw.cell (block_lt_of_cell hc)).trans hc
  simp only [execOp, hop, e']
  go_simp
theorem step_geq (hi : ops[i]? = some o) (p j : Nat) {v : Int} {b : Bool} (hop : o.op = .binOp .geq 5 (.tmp p) (.const (.int .u8 128)) 5) (hj : waits md ops i j p = true) (hFj : F j = Fact.eq (.int .u8 v)) (hb : b = decide (128 ≤ v)) (hF : F i = Fact.eq (.bool b)) : StepOk Tryd.prog md ops Q F a0 w0 i := by
  refine step_pure hi fun a w _ hw hf => ⟨.bool b, ?_, by rw [hF]; exact rfl⟩
  have e := hf j p hj
  rw [hFj] at e
  have e' : a.eval (.tmp p) = .int .u8 v := e
  have e2 : a.eval (.const (.int .u8 128)) = .int .u8 128 := rfl
  subst hb
  simp only [execOp, hop, e', e2]
  go_simp
theorem step_lift (hi : ops[i]? = some o) (p q j k : Nat) {A : Int} {odd : Bool} (hop : o.op = .call { callee := .value (.func 54), args := #[.tmp p, .tmp q], argTypes := ts })
    (hj : waits md ops i j p = true) (hk : waits md ops i k q = true) (hFj : F j = EL A) (hFk : F k = Fact.eq (.bool odd)) (hFi : F i = LiF w0 A odd) : StepOk Tryd.prog md ops Q F a0 w0 i := by
  refine step_call hi _ _ ts hop en_lift fun a w _ hw hF => ?_
  have ea := hF j p hj
  have eb := hF k q hk
  rw [hFj] at ea
  rw [hFk] at eb
  obtain ⟨t, e1, L1, V1⟩ := ea
  have e2 : a.tmps.getD q undef = .bool odd := eb
  show Calls Tryd.prog 54 #[a.tmps.getD p undef, a.tmps.getD q undef] w _
  rw [e1, e2]
  refine (l5Lift_any w t A ⟨L1, V1⟩ odd).mono ?_
  rintro r w' ⟨⟨b, b', c, c', g, g', rfl, o1, o2, l1, l2⟩, hn⟩
  rw [hFi]
  exact ⟨_, rfl, hn, b, b', c, c', g, g', rfl, o1, o2, Nat.le_trans hw.size l1, Nat.le_trans hw.size l2⟩
theorem step_exL0 {P : Program} (hi : ops[i]? = some o) (p j : Nat) {A : Int} {odd : Bool} (hop : o.op = .extract (.tmp p) 0) (hj : waits md ops i j p = true) (hFj : F j = LiF w0 A odd) (hFi : F i = Fact.eq (.bool (liB A odd))) : StepOk P md ops Q F a0 w0 i := by
  refine step_pure hi fun a w _ _ hf => ⟨.bool (liB A odd), ?_, by rw [hFi]; exact rfl⟩
  have e := hf j p hj
  rw [hFj] at e
  obtain ⟨b, b', c, c', g, g', e, _⟩ := e
  have e' : a.eval (.tmp p) = .tuple #[.bool (liB A odd), .agg #[.slice b (liX A odd).length c, .slice b' (liY A odd).length c']] := e
  simp only [execOp, hop, e']
  rfl
theorem step_exL1 {P : Program} (hi : ops[i]? = some o) (p j : Nat) {A : Int} {odd : Bool} (hop : o.op = .extract (.tmp p) 1) (hj : waits md ops i j p = true) (hFj : F j = LiF w0 A odd) (hFi : F i = PT w0 (fun xs zs => xs = liX A odd ∧ zs = liY A odd)) : StepOk P md ops Q F a0 w0 i := by
  refine step_pure hi fun a w _ _ hf => ?_
  have e := hf j p hj
  rw [hFj] at e
  obtain ⟨b, b', c, c', g, g', e, o1, o2, l1, l2⟩ := e
  have e' : a.eval (.tmp p) = .tuple #[.bool (liB A odd), .agg #[.slice b (liX A odd).length c, .slice b' (liY A odd).length c']] := e
  refine ⟨.agg #[.slice b (liX A odd).length c, .slice b' (liY A odd).length c'], ?_, by rw [hFi]; exact ⟨_, _, b, b', c, c', g, g', rfl, o1, o2, l1, l2, rfl, rfl⟩⟩
  simp only [execOp, hop, e']
  rfl
theorem step_newP (hi : ops[i]? = some o) (hop : o.op = .alloc 26) (hF : F i = NBp w0) : StepOk Tryd.prog md ops Q F a0 w0 i := by
  refine step_grow hi fun a w _ hw _ => ⟨.pointer (some ⟨w.heap.size, 0, none⟩), w.alloc pObj, ?_, (Below.refl _ _).alloc (Nat.le_refl _) _, ?_⟩
  · simp only [execOp, hop]
    kernel_rfl
  · rw [hF]
    exact ⟨_, rfl, heap_alloc_last _ _, hw.size⟩
end
section
variable {ops : Array Oper} {Q : Exit → Act → World → Prop} {a0 : Act} {w : World} {id : Nat} {draw : Bool}
/-- A region that makes a point's block and lays one there. -/
theorem region_newPF (k jA jV pA pV : Nat) (o : Oper) (F : Nat → Fact) (p : List Int → List Int → Prop) (hT : textOk .any ops a0.tmps.size k = true) (hk : ops[k]? = some o) (hd : o.dst = none) (hop : o.op = .store 26 (.tmp pA) (.tmp pV))
    (wA : writes ops jA pA = true) (wV : writes ops jV pV = true) (FA : F jA = NBp w) (FV : F jV = PT w p) (steps : ∀ i, i < k → StepOk Tryd.prog .any ops Q F a0 w i)
    (fin : ∀ (vs : Nat → Value) (q : Nat) (W : World) (xs ys : List Int) (a a' : Option Addr) (c c' g g' : Nat), vs pA = .pointer (some ⟨q, 0, none⟩) → w.heap.size ≤ q → Below w.heap.size w W → W.rangeAt q 0 [.slice a xs.length c, .slice a' ys.length c'] → W.there q 0 2 → Own W g a .u8 xs → Own W g' a' .u8 ys → w.heap.size ≤ g → w.heap.size ≤ g' → p xs ys → (∀ i d, writes ops i d = true → ∃ Wp, (F i).p (vs d) Wp) → Q .normal (puts vs a0 ops.toList) W) :
    (Code.region id ops draw).wp Tryd.prog Q a0 w := by
  refine region_store k o F (by kernel_rfl) hT hk hd steps fun a W hb hw hF => ?_
  have h1 := hF jA pA wA
  have h2 := hF jV pV wV
  rw [FA] at h1
  rw [FV] at h2
  obtain ⟨q, eq, hq, lq⟩ := h1
  obtain ⟨xs, ys, b, b', c, c', g, g', ev, o1, o2, l1, l2, hpp⟩ := h2
  have th := pObj_there hq
  refine wp_store_mid 26 (.tmp pA) (.tmp pV) hop q 0 #[.slice b xs.length c, .slice b' ys.length c'] eq ev th iP (by simp [Value.oneCell']) ?_
  obtain ⟨vs, hvs⟩ : ∃ vs : Nat → Value, ∀ d, a.tmps.getD d undef = vs d := ⟨_, fun _ => rfl⟩
  rw [hd]
  show Q .normal a _
  rw [puts_of hT rfl hb vs hvs]
  refine fin vs q _ xs ys b b' c c' g g' ((hvs pA).symm.trans eq) lq (below_setCells lq _ _ _ hw) (World.rangeAt_setCells_same W q 0 _ th) (World.there_setCells th _ _ _) ?_ ?_ l1 l2 hpp (fun i d h => ⟨W, by rw [← hvs]; exact hF i d h⟩)
  · exact fun h0 => o1.of_block (setCells_other (own_ne hq o1 h0) _ 0 W) h0
  · exact fun h0 => o2.of_block (setCells_other (own_ne hq o2 h0) _ 0 W) h0
end
/-- Three cells that may be written. -/
structure Tri (w : World) (p : Nat) (x y z : Value) : Prop where
  c0 : w.cell? ⟨p, 0, none⟩ = some x
  c1 : w.cell? ⟨p, 1, none⟩ = some y
  c2 : w.cell? ⟨p, 2, none⟩ = some z
  f0 : w.frozen? ⟨p, 0, none⟩ = false
  f1 : w.frozen? ⟨p, 1, none⟩ = false
  f2 : w.frozen? ⟨p, 2, none⟩ = false
theorem Tri.lt {w : World} {p : Nat} {x y z : Value} (h : Tri w p x y z) : p < w.heap.size := block_lt_of_cell h.c0
theorem Tri.up {w w' : World} {p : Nat} {x y z : Value} (h : Tri w p x y z) (n : Below w.heap.size w w') : Tri w' p x y z := by
  have hb := n.block p h.lt
  exact ⟨(World.cell?_of_block (a := ⟨p, 0, none⟩) hb).trans h.c0, (World.cell?_of_block (a := ⟨p, 1, none⟩) hb).trans h.c1, (World.cell?_of_block (a := ⟨p, 2, none⟩) hb).trans h.c2, (World.frozen?_of_block (a := ⟨p, 0, none⟩) hb).trans h.f0, (World.frozen?_of_block (a := ⟨p, 1, none⟩) hb).trans h.f1, (World.frozen?_of_block (a := ⟨p, 2, none⟩) hb).trans h.f2⟩
theorem Tri.new (w : World) (x y z : Value) (t : TypeId) : Tri (w.alloc (.cells #[x, y, z] t)) w.heap.size x y z := by
  have e : (w.alloc (.cells #[x, y, z] t)).heap[w.heap.size]? = some (.cells #[x, y, z] t) := heap_alloc_last _ _
  refine ⟨?_, ?_, ?_, ?_, ?_, ?_⟩
  all_goals first
    | (unfold World.cell?; simp only; rw [e]; rfl)
    | (unfold World.frozen?; simp only; rw [e]; simp)
theorem low7s_len (xs : List Int) : (low7s xs).length = xs.length := by unfold low7s; simp
theorem low7s_byt {xs : List Int} (h : Byt xs) : Byt (low7s xs) := by
  intro j
  unfold low7s
  by_cases e : 31 = j
  · subst e
    by_cases c : 31 < xs.length
    · rw [getD_set_self _ _ _ c]
      have := h 31
      show 0 ≤ xs.getD 31 0 % 128 ∧ xs.getD 31 0 % 128 < 256
      omega
    · rw [List.set_eq_of_length_le (by omega)]
      exact h 31
  · rw [getD_set_ne _ _ _ _ e]
    exact h j
abbrev prObj : Obj := .cells #[.bool false, .slice none 0 0, .slice none 0 0] 38

set_option maxHeartbeats 2000000 in
theorem specDecode_any (w : World) (g : Nat) (a : Option Addr) (c : Nat) (xs : List Int) (hr : Rd w g a .u8 xs) (hb : Byt xs) (hc : a = none → c = 0) :
    Calls Tryd.prog 20 #[.slice a xs.length c] w fun r w' => NewPR w.heap.size w' r (dcB xs) (dcX xs) (dcY xs) ∧ Below w.heap.size w w' := by
  have TZ := Tri.new w (.bool false) (.slice none 0 0) (.slice none 0 0) 38
  have N : Below w.heap.size w (w.alloc prObj) := (Below.refl _ _).alloc (Nat.le_refl _) _
  by_cases hl : xs.length = 32
  · have CP := hide (fun W n => l1Copy_any W g a c xs (hr.up n) hc (by omega))
    have LH := hide hl
    have b31' := hb 31
    have DB : Hid (dcB xs = (canN (low7s xs) && liB (num (low7s xs)) (decide (128 ≤ xs.getD 31 0)))) := by show _ = _; unfold dcB; rw [decide_eq_true hl]; rfl
    have DX : Hid (dcX xs = if dcB xs = true then liX (num (low7s xs)) (decide (128 ≤ xs.getD 31 0)) else []) := by show _ = _; rfl
    have DY : Hid (dcY xs = if dcB xs = true then liY (num (low7s xs)) (decide (128 ≤ xs.getD 31 0)) else []) := by show _ = _; rfl
    obtain ⟨o0, rfl, rc⟩ := id hr (by omega)
    have CB0 := hide (rc 31 (by omega))
    have hg := hr.lt (by omega)
    rw [hl] at CP ⊢
    clear hl rc
    go_enter Tryd.func20, Tryd.ntmps20
    go_upto_region 3 with fail
    change Code.wp _ _ _ _ (w.alloc prObj)
    generalize w.alloc prObj = wr at *
    go_wp2_with fail
    refine (CP.out wr N).mono ?_
    rintro r w1 ⟨⟨a1, c1, g1, rfl, o1, p1, q1, r1⟩, n1⟩
    have z1 := TZ.lt
    replace TZ := TZ.up n1
    replace N := nxt N n1
    clear CP n1 p1
    rw [LH.out] at q1 ⊢
    obtain ⟨off, rfl, oc⟩ := id o1 (by rw [LH.out]; decide)
    have x31 := (oc 31 (by rw [LH.out]; decide)).1
    have f31 := (oc 31 (by rw [LH.out]; decide)).2
    have S1 := o1.store 31 (by rw [LH.out]; decide) (xs.getD 31 0 % 128)
    have N2 : Below w.heap.size w (w1.setCell ⟨g1, off + 31, none⟩ (.int .u8 (xs.getD 31 0 % 128))) := N.setCell (by show w.heap.size ≤ g1; omega) _
    have TZ2 : Tri (w1.setCell ⟨g1, off + 31, none⟩ (.int .u8 (xs.getD 31 0 % 128))) w.heap.size (.bool false) (.slice none 0 0) (.slice none 0 0) := by
      have hbk := heap_setCell_other w1 ⟨g1, off + 31, none⟩ w.heap.size (.int .u8 (xs.getD 31 0 % 128)) (by show w.heap.size ≠ g1; omega)
      exact ⟨(World.cell?_of_block (a := ⟨w.heap.size, 0, none⟩) hbk).trans TZ.c0, (World.cell?_of_block (a := ⟨w.heap.size, 1, none⟩) hbk).trans TZ.c1, (World.cell?_of_block (a := ⟨w.heap.size, 2, none⟩) hbk).trans TZ.c2, (World.frozen?_of_block (a := ⟨w.heap.size, 0, none⟩) hbk).trans TZ.f0, (World.frozen?_of_block (a := ⟨w.heap.size, 1, none⟩) hbk).trans TZ.f1, (World.frozen?_of_block (a := ⟨w.heap.size, 2, none⟩) hbk).trans TZ.f2⟩
    have YB := hide (low7s_byt hb)
    have YL := hide ((low7s_len xs).trans LH.out)
    have SO : Hid (Own (w1.setCell ⟨g1, off + 31, none⟩ (.int .u8 (xs.getD 31 0 % 128))) g1 (some ⟨g1, off, none⟩) .u8 (low7s xs)) := S1
    have CB : Hid ((w1.setCell ⟨g1, off + 31, none⟩ (.int .u8 (xs.getD 31 0 % 128))).cell? ⟨g, o0 + 31, none⟩ = some (.int .u8 (xs.getD 31 0))) := (N2.cell hg).trans CB0.out
    clear S1 o1 oc TZ N CB0 LH hb hr
    obtain ⟨ys, hys⟩ : ∃ ys, ys = low7s xs := ⟨_, rfl⟩
    rw [← hys] at YB YL SO DB DX DY
    clear hys
    obtain ⟨b31, h31⟩ : ∃ b, b = xs.getD 31 0 := ⟨_, rfl⟩
    rw [← h31] at x31 N2 TZ2 SO CB DB DX DY b31'
    clear h31
    obtain ⟨odd, hodd⟩ : ∃ o, o = decide (128 ≤ b31) := ⟨_, rfl⟩
    rw [← hodd] at DB DX DY
    have HO := hide hodd
    clear hodd
    have FC := hide (fun W (h : Rd W g1 (some ⟨g1, off, none⟩) .u8 ys) => specFieldCanonical_any W g1 (some ⟨g1, off, none⟩) c1 ys h YB.out)
    rw [YL.out] at FC
    cases hcn : canN ys with
    | false =>
      have KB : Hid (dcB xs = false) := by show _ = _; rw [DB.out, hcn]; rfl
      have KX : Hid (dcX xs = []) := by show _ = _; rw [DX.out, if_neg (by rw [KB.out]; simp)]
      have KY : Hid (dcY xs = []) := by show _ = _; rw [DY.out, if_neg (by rw [KB.out]; simp)]
      rw [hcn] at FC
      clear hcn DB DX DY CB
      go_wp2_with fail
      generalize w1.setCell ⟨g1, off + 31, none⟩ (.int .u8 (b31 % 128)) = w3 at *
      refine (FC.out w3 SO.out.rd).mono ?_
      rintro r w4 ⟨rfl, n⟩
      obtain ⟨y0, y1, y2, u0, u1, u2⟩ := TZ2.up n
      have N4 := nxt N2 n
      clear FC SO n TZ2 N2 x31 f31
      go_wp2
      refine bodyPost_ret (v := .agg #[.bool false, .slice none 0 0, .slice none 0 0]) (by simp [results, Tryd.results20, go_sem, y0, y1, y2]) rfl ⟨by rw [KB.out, KX.out, KY.out]; exact newPR_nil, ?_⟩
      exact ((N4.setCell (Nat.le_refl _) _).setCell (Nat.le_refl _) _).setCell (Nat.le_refl _) _
    | true =>
      rw [hcn] at DB FC
      clear hcn
      go_wp2_with fail
      generalize w1.setCell ⟨g1, off + 31, none⟩ (.int .u8 (b31 % 128)) = w3 at *
      refine (FC.out w3 SO.out.rd).mono ?_
      rintro r w4 ⟨rfl, n⟩
      have OY := hide (of_ok (SO.out.rd.up n) YB.out YL.out)
      replace CB := hide ((n.cell (block_lt_of_cell CB.out)).trans CB.out)
      replace TZ2 := TZ2.up n
      have N4 := nxt N2 n
      clear FC SO n N2 x31 f31
      go_upto_region 7 with fail
      refine region_newPF 12 10 9 5 31 _ (fun i => [Fact.eq (.slice (some ⟨g1, off, none⟩) 32 c1), EL (num ys), Fact.eq (.slice (some ⟨g, o0, none⟩) 32 c), Fact.eq (.pointer (some ⟨g, o0 + 31, none⟩)), Fact.eq (.int .u8 b31), Fact.eq (.bool odd), LiF w4 (num ys) odd, LiF w4 (num ys) odd, Fact.eq (.bool (liB (num ys) odd)), PT w4 (fun xs zs => xs = liX (num ys) odd ∧ zs = liY (num ys) odd), NBp w4, Fact.eq (.bool (liB (num ys) odd))].getD i Fact.no) (fun xs zs => xs = liX (num ys) odd ∧ zs = liY (num ys) odd) (by kernel_rfl) rfl rfl rfl (by kernel_rfl) (by kernel_rfl) rfl rfl ?_ ?_
      · intro i hi
        obtain rfl | rfl | rfl | rfl | rfl | rfl | rfl | rfl | rfl | rfl | rfl | rfl : i = 0 ∨ i = 1 ∨ i = 2 ∨ i = 3 ∨ i = 4 ∨ i = 5 ∨ i = 6 ∨ i = 7 ∨ i = 8 ∨ i = 9 ∨ i = 10 ∨ i = 11 := by omega
        · exact step_mvp rfl 3 rfl (by kernel_rfl) rfl rfl
        · exact step_of32 rfl 23 0 rfl (by kernel_rfl) OY.out rfl rfl
        · exact step_mvp rfl 0 rfl (by kernel_rfl) rfl rfl
        · exact step_at31 rfl 25 2 rfl (by kernel_rfl) rfl rfl
        · exact step_ld8 rfl 26 3 rfl (by kernel_rfl) rfl CB.out rfl
        · exact step_geq rfl 27 4 rfl (by kernel_rfl) rfl HO.out rfl
        · exact step_lift rfl 24 28 1 5 rfl (by kernel_rfl) (by kernel_rfl) rfl rfl rfl
        · exact step_move rfl 29 6 (by exact Or.inl rfl) (by kernel_rfl) rfl
        · exact step_exL0 rfl 22 7 rfl (by kernel_rfl) rfl rfl
        · exact step_exL1 rfl 22 7 rfl (by kernel_rfl) rfl rfl
        · exact step_newP rfl rfl rfl
        · exact step_move rfl 30 8 (by exact Or.inr rfl) (by kernel_rfl) rfl
      rintro vt q5 W7 ps qs b1 b2 d1 d2 h1 h2 v5 l5 n rg th o1 o2 l1 l2 ⟨rfl, rfl⟩ hF
      obtain ⟨_, v4⟩ := hF 11 4 (by kernel_rfl)
      clear hF
      change vt 4 = .bool (liB (num ys) odd) at v4
      have z4 := TZ2.lt
      replace TZ2 := TZ2.up n
      have z0 := N4.size
      replace N4 := nxt N4 n
      clear n OY CB th
      simp only [puts, v5, v4, Act.put, List.setIfInBounds_toArray, List.set_cons_succ, List.set_cons_zero]
      clear v4 v5
      have k0 := rg 0 _ rfl
      have k1 := rg 1 _ rfl
      simp only [Nat.zero_add] at k0 k1
      clear rg
      obtain ⟨y0, y1, y2, u0, u1, u2⟩ := TZ2
      cases hli : liB (num ys) odd with
      | false =>
        have KB : Hid (dcB xs = false) := by show _ = _; rw [DB.out, hli]; rfl
        have KX : Hid (dcX xs = []) := by show _ = _; rw [DX.out, if_neg (by rw [KB.out]; simp)]
        have KY : Hid (dcY xs = []) := by show _ = _; rw [DY.out, if_neg (by rw [KB.out]; simp)]
        clear DB DX DY o1 o2 hli
        go_wp2
        refine bodyPost_ret (v := .agg #[.bool false, .slice none 0 0, .slice none 0 0]) (by simp [results, Tryd.results20, go_sem, y0, y1, y2]) rfl ⟨by rw [KB.out, KX.out, KY.out]; exact newPR_nil, ?_⟩
        exact ((N4.setCell (Nat.le_refl _) _).setCell (Nat.le_refl _) _).setCell (Nat.le_refl _) _
      | true =>
        have KB : Hid (dcB xs = true) := by show _ = _; rw [DB.out, hli]; rfl
        have KX : Hid (dcX xs = liX (num ys) odd) := by show _ = _; rw [DX.out, if_pos KB.out]
        have KY : Hid (dcY xs = liY (num ys) odd) := by show _ = _; rw [DY.out, if_pos KB.out]
        clear DB DX DY hli
        generalize liX (num ys) odd = X at *
        generalize liY (num ys) odd = Y at *
        have O := ((Only.setCell W7 w.heap.size 0 (.bool true)).trans (Only.setCell _ w.heap.size 1 (.slice b1 X.length d1))).trans (Only.setCell _ w.heap.size 2 (.slice b2 Y.length d2))
        have o1' := o1.only O (fun _ => by omega)
        have o2' := o2.only O (fun _ => by omega)
        have N' := N4.trans (O.below (Nat.le_refl _))
        clear o1 o2 O N4
        go_wp2
        refine bodyPost_ret (v := .agg #[.bool true, .slice b1 X.length d1, .slice b2 Y.length d2]) (by simp [results, Tryd.results20, go_sem, y0, y1, y2]) rfl ⟨?_, N'⟩
        rw [KB.out, KX.out, KY.out]
        exact ⟨b1, b2, d1, d2, h1, h2, rfl, o1', o2', by omega, by omega⟩
  · have t : ((xs.length : Int) != 32) = true := by simp; omega
    have KB : Hid (dcB xs = false) := by show _ = _; unfold dcB; rw [decide_eq_false hl]; rfl
    have KX : Hid (dcX xs = []) := by show _ = _; unfold dcX; rw [if_neg (by rw [KB.out]; simp)]
    have KY : Hid (dcY xs = []) := by show _ = _; unfold dcY; rw [if_neg (by rw [KB.out]; simp)]
    obtain ⟨y0, y1, y2, u0, u1, u2⟩ := TZ
    clear hl
    go_enter Tryd.func20, Tryd.ntmps20
    go_upto_region 1 with fail
    change Code.wp _ _ _ _ (w.alloc prObj)
    generalize w.alloc prObj = wr at *
    go_wp2
    refine bodyPost_ret (v := .agg #[.bool false, .slice none 0 0, .slice none 0 0]) (by simp [results, Tryd.results20, go_sem, y0, y1, y2]) rfl ⟨by rw [KB.out, KX.out, KY.out]; exact newPR_nil, ?_⟩
    exact ((N.setCell (Nat.le_refl _) _).setCell (Nat.le_refl _) _).setCell (Nat.le_refl _) _
end Go.Proofs.YtmanhandajhobaaDoor

/-
  The law of PointAdd.
-/
namespace Go.Proofs.YtmanhandajhobaaDoor
set_option maxRecDepth 100000
open Go Go.RowKit

theorem two_of {W : World} {q : Nat} {u v : Value} (rg : W.rangeAt q 0 [u, v]) (th : W.there q 0 2) : Two W q u v :=
  ⟨rg 0 u rfl, rg 1 v rfl, (th 0 (by omega)).2, (th 1 (by omega)).2⟩
section
variable {ops : Array Oper} {Q : Exit → Act → World → Prop} {md : Region.Mode} {F : Nat → Fact} {a0 : Act} {w0 : World} {i : Nat} {o : Oper} {ts : Array TypeId}
/-- A call at two points that were copied. -/
theorem step_two_pts (hi : ops[i]? = some o) {n : FuncId} (p q j k : Nat) {X0 Y0 X1 Y1 rx ry : List Int} (hop : o.op = .call { callee := .value (.func n), args := #[.tmp p, .tmp q], argTypes := ts }) (he : enters Tryd.prog n = true)
    (hj : waits md ops i j p = true) (hk : waits md ops i k q = true)
    (law : ∀ (W : World), Below w0.heap.size w0 W → ∀ (p q p' q' : Nat), Blk W p .u8 X0 → Blk W q .u8 Y0 → Blk W p' .u8 X1 → Blk W q' .u8 Y1 → Calls Tryd.prog n #[.agg #[.slice (some ⟨p, 0, none⟩) X0.length X0.length, .slice (some ⟨q, 0, none⟩) Y0.length Y0.length], .agg #[.slice (some ⟨p', 0, none⟩) X1.length X1.length, .slice (some ⟨q', 0, none⟩) Y1.length Y1.length]] W fun r w' => NewPt W.heap.size w' r rx ry ∧ Below W.heap.size W w')
    (hFj : F j = PR X0 Y0) (hFk : F k = PR X1 Y1) (hFi : F i = PT w0 (fun u8 u9 => u8 = rx ∧ u9 = ry)) : StepOk Tryd.prog md ops Q F a0 w0 i := by
  refine step_call hi n _ ts hop he fun A w _ hw hF => ?_
  have ea := hF j p hj
  have eb := hF k q hk
  rw [hFj] at ea
  rw [hFk] at eb
  obtain ⟨p1, q1, e1, b1, b2⟩ := ea
  obtain ⟨p2, q2, e2, b3, b4⟩ := eb
  show Calls Tryd.prog n #[A.tmps.getD p undef, A.tmps.getD q undef] w _
  rw [e1, e2]
  refine (law w hw p1 q1 p2 q2 b1 b2 b3 b4).mono ?_
  rintro r w' ⟨⟨a, a', c, c', g, g', rfl, o1, o2, l1, l2⟩, hn⟩
  rw [hFi]
  have z := hw.size
  exact ⟨_, rfl, hn, rx, ry, a, a', c, c', g, g', rfl, o1, o2, by omega, by omega, rfl, rfl⟩
end
theorem NewP2.pt {B : Nat} {w : World} {e : Ending} {xs ys : List Int} (h : NewP2 B w e xs ys) : NewPt B w e xs ys := by
  obtain ⟨a, c, g, a', c', g', e, o1, o2, l1, l2, _⟩ := h
  exact ⟨a, a', c, c', g, g', e, o1, o2, l1, l2⟩
theorem laid_padd {W : World} (h : laidMetH Tryd.prog Rows.fnExactPointAddRow.laid W) : HasA W := hasA_of h (by kernel_rfl) (.head _) (.tail _ (.head _)) (.tail _ (.tail _ (.head _))) (.tail _ (.tail _ (.tail _ (.head _))))
set_option maxHeartbeats 8000000 in
theorem padd_law (w : World) (g0 : Nat) (a0 : Option Addr) (c0 : Nat) (X0 : List Int) (hX0 : Rd w g0 a0 .u8 X0) (bX0 : Byt X0) (lX0 : X0.length < 9223372036854775808) (g0' : Nat) (a0' : Option Addr) (c0' : Nat) (Y0 : List Int) (hY0 : Rd w g0' a0' .u8 Y0) (bY0 : Byt Y0) (lY0 : Y0.length < 9223372036854775808) (g1 : Nat) (a1 : Option Addr) (c1 : Nat) (X1 : List Int) (hX1 : Rd w g1 a1 .u8 X1) (bX1 : Byt X1) (lX1 : X1.length < 9223372036854775808) (g1' : Nat) (a1' : Option Addr) (c1' : Nat) (Y1 : List Int) (hY1 : Rd w g1' a1' .u8 Y1) (bY1 : Byt Y1) (lY1 : Y1.length < 9223372036854775808) (hL : HasA w) :
    Calls Tryd.prog 3 #[.agg #[.slice a0 X0.length c0, .slice a0' Y0.length c0'], .agg #[.slice a1 X1.length c1, .slice a1' Y1.length c1']] w fun e w' => e = .returned (.bool true) ∧ Below w.heap.size w w' := by
  have SP := fun W g1 g2 a1 a2 c1 c2 h1 h2 g3 g4 a3 a4 c3 c4 h3 h4 => specPointAdd_any W g1 g2 g3 g4 a1 a2 a3 a4 c1 c2 c3 c4 X0 Y0 X1 Y1 h1 h2 h3 h4 bX0 bY0 bX1 bY1
  have IM := fun W g1 g2 a1 a2 c1 c2 h1 h2 g3 g4 a3 a4 c3 c4 h3 h4 (n : Below w.heap.size w W) => implAdd_any W g1 g2 a1 a2 c1 c2 X0 Y0 h1 h2 bX0 bY0 g3 g4 a3 a4 c3 c4 X1 Y1 h3 h4 bX1 bY1 dGo (hL.1.up n) (hL.2.1.up n) (hL.2.2.1.up n) (hL.2.2.2.up n)
  simp only [adX_eq, adY_eq] at IM
  have SPp := fun W (_ : Below w.heap.size w W) (p q p' q' : Nat) (h1 : Blk W p .u8 X0) (h2 : Blk W q .u8 Y0) (h3 : Blk W p' .u8 X1) (h4 : Blk W q' .u8 Y1) => SP W p q (some ⟨p, 0, none⟩) (some ⟨q, 0, none⟩) X0.length Y0.length h1.own0.rd h2.own0.rd p' q' (some ⟨p', 0, none⟩) (some ⟨q', 0, none⟩) X1.length Y1.length h3.own0.rd h4.own0.rd
  have IMp := fun W (n : Below w.heap.size w W) (p q p' q' : Nat) (h1 : Blk W p .u8 X0) (h2 : Blk W q .u8 Y0) (h3 : Blk W p' .u8 X1) (h4 : Blk W q' .u8 Y1) => (IM W p q (some ⟨p, 0, none⟩) (some ⟨q, 0, none⟩) X0.length Y0.length h1.own0.rd h2.own0.rd p' q' (some ⟨p', 0, none⟩) (some ⟨q', 0, none⟩) X1.length Y1.length h3.own0.rd h4.own0.rd n).mono (fun r w' (h : NewP2 W.heap.size w' r (paX X0 Y0 X1 Y1) (paY X0 Y0 X1 Y1) ∧ Below W.heap.size W w') => (⟨h.1.pt, h.2⟩ : NewPt W.heap.size w' r (paX X0 Y0 X1 Y1) (paY X0 Y0 X1 Y1) ∧ Below W.heap.size W w'))
  have lrx : (paX X0 Y0 X1 Y1).length ≤ 1048576 := pa_len1 _ _ _ _
  obtain ⟨rx, hrx⟩ : ∃ l, l = paX X0 Y0 X1 Y1 := ⟨_, rfl⟩
  simp only [← hrx] at SP IM lrx SPp IMp
  clear hrx
  have lry : (paY X0 Y0 X1 Y1).length ≤ 1048576 := pa_len2 _ _ _ _
  obtain ⟨ry, hry⟩ : ∃ l, l = paY X0 Y0 X1 Y1 := ⟨_, rfl⟩
  simp only [← hry] at SP IM lry SPp IMp
  clear hry
  clear hL
  by_cases q0 : (X0.length + Y0.length) ≤ 1048576
  · skip
    by_cases q1 : (X0.length + Y0.length + X1.length + Y1.length) ≤ 1048576
    · skip
      have SZ0 := fun W => szPoint_any W a0 a0' X0.length c0 Y0.length c0' ((1048576 : Int)) lX0 lY0 (by omega) (by omega)
      rw [if_neg (show ¬ ((1048576 : Int)) < (X0.length : Int) + (Y0.length : Int) by omega)] at SZ0
      have t0 : decide (((1048576 : Int)) - (X0.length : Int) - (Y0.length : Int) < 0) = false := by simp; omega
      have SZ1 := fun W => szPoint_any W a1 a1' X1.length c1 Y1.length c1' ((1048576 : Int) - (X0.length : Int) - (Y0.length : Int)) lX1 lY1 (by omega) (by omega)
      rw [if_neg (show ¬ ((1048576 : Int) - (X0.length : Int) - (Y0.length : Int)) < (X1.length : Int) + (Y1.length : Int) by omega)] at SZ1
      have t1 : decide (((1048576 : Int) - (X0.length : Int) - (Y0.length : Int)) - (X1.length : Int) - (Y1.length : Int) < 0) = false := by simp; omega
      go_enter Tryd.func3, Tryd.ntmps3
      go_upto_region 1 with fail
      have B0 := Two.new w (.slice a0 X0.length c0) (.slice a0' Y0.length c0') 24
      have nb0 : Below w.heap.size w (w.alloc (.cells #[.slice a0 X0.length c0, .slice a0' Y0.length c0'] 24)) := (Below.refl _ _).alloc (Nat.le_refl _) _
      have sb0 : (w.alloc (.cells #[.slice a0 X0.length c0, .slice a0' Y0.length c0'] 24)).heap.size = w.heap.size + 1 := by simp
      generalize w.alloc (.cells #[.slice a0 X0.length c0, .slice a0' Y0.length c0'] 24) = v0 at *
      have B1 := Two.new v0 (.slice a1 X1.length c1) (.slice a1' Y1.length c1') 24
      have nb1 : Below v0.heap.size v0 (v0.alloc (.cells #[.slice a1 X1.length c1, .slice a1' Y1.length c1'] 24)) := (Below.refl _ _).alloc (Nat.le_refl _) _
      have sb1 : (v0.alloc (.cells #[.slice a1 X1.length c1, .slice a1' Y1.length c1'] 24)).heap.size = w.heap.size + 1 + 1 := by simp [sb0]
      rw [sb0] at B1
      replace B0 := B0.up nb1
      generalize v0.alloc (.cells #[.slice a1 X1.length c1, .slice a1' Y1.length c1'] 24) = v1 at *
      have N := (nxt nb0 nb1)
      have zv : w.heap.size + 2 ≤ v1.heap.size := by omega
      clear nb0 sb0 nb1 sb1
      have B00 := B0.c0
      have B01 := B0.c1
      go_wp2_with fail
      refine (SZ0 v1).mono ?_
      rintro e w1 ⟨rfl, n1⟩
      clear B00 B01
      replace B0 := B0.up n1
      replace B1 := B1.up n1
      replace N := nxt N n1
      have zn1 := n1.size
      clear n1
      have B10 := B1.c0
      have B11 := B1.c1
      go_wp2_with fail
      refine (SZ1 w1).mono ?_
      rintro e w2 ⟨rfl, n2⟩
      clear B10 B11
      replace B0 := B0.up n2
      replace B1 := B1.up n2
      replace N := nxt N n2
      have zn2 := n2.size
      clear n2
      go_upto_region 8 with fail
      refine region_newPF 6 5 4 6 28 _ (fun i => [Fact.eq (.agg #[.slice a0 X0.length c0, .slice a0' Y0.length c0']), PR X0 Y0, Fact.eq (.agg #[.slice a1 X1.length c1, .slice a1' Y1.length c1']), PR X1 Y1, PT w2 (fun u8 u9 => u8 = rx ∧ u9 = ry), NBp w2].getD i Fact.no) (fun u8 u9 => u8 = rx ∧ u9 = ry) (by kernel_rfl) rfl rfl rfl (by kernel_rfl) (by kernel_rfl) rfl rfl ?_ ?_
      · intro i hi
        obtain rfl | rfl | rfl | rfl | rfl | rfl : i = 0 ∨ i = 1 ∨ i = 2 ∨ i = 3 ∨ i = 4 ∨ i = 5 := by omega
        · exact step_l2 _ uLP iLP rfl 2 rfl (by kernel_rfl) _ rfl _ _ B0 rfl
        · exact step_toP rfl 24 0 rfl (by kernel_rfl) (hX0.up N) (hY0.up N) (by omega) (by omega) rfl rfl
        · exact step_l2 _ uLP iLP rfl 3 rfl (by kernel_rfl) _ rfl _ _ B1 rfl
        · exact step_toP rfl 26 2 rfl (by kernel_rfl) (hX1.up N) (hY1.up N) (by omega) (by omega) rfl rfl
        · exact step_two_pts rfl 25 27 1 3 rfl (by kernel_rfl) (by kernel_rfl) (by kernel_rfl) (fun W n p q p' q' h1 h2 h3 h4 => SPp W (nxt N n) p q p' q' h1 h2 h3 h4) rfl rfl rfl
        · exact step_newP rfl rfl rfl
      intro vs qT4 w3 xs' ys' sa sa' sc sc' sg sg' vq lq n3 rg th so so' sl sl' hp _
      obtain ⟨hp1, hp2⟩ := hp
      replace hp1 : xs' = rx := hp1
      replace hp2 : ys' = ry := hp2
      rw [hp1] at rg so
      rw [hp2] at rg so'
      clear hp1 hp2
      have T4 : Two w3 qT4 (.slice sa rx.length sc) (.slice sa' ry.length sc') := two_of rg th
      have o4 : PrP w3 sg sa rx sg' sa' ry := ⟨so, so'⟩
      clear rg th so so'
      simp only [puts, vq, Act.put, List.setIfInBounds_toArray, List.set_cons_succ, List.set_cons_zero]
      clear vq
      replace B0 := B0.up n3
      replace B1 := B1.up n3
      replace N := nxt N n3
      have zn3 := n3.size
      clear n3
      have uT4 := T4.lt
      have Y4 := hide o4.l.rd.lt
      have Y4' := hide o4.r.rd.lt
      have B00 := B0.c0
      have B01 := B0.c1
      go_wp2_with fail
      refine (toPoint_any w3 g0 g0' a0 a0' c0 c0' X0 Y0 (hX0.up N) (hY0.up N) (by omega) (by omega)).mono ?_
      rintro e w4 ⟨x0p, x0q, rfl, x0x, x0y, x01, x02, n4⟩
      clear B00 B01
      replace B0 := B0.up n4
      replace B1 := B1.up n4
      replace T4 := T4.up n4
      replace o4 := o4.up n4
      replace N := nxt N n4
      have zn4 := n4.size
      clear n4
      have x03 := x0y.lt
      have x04 := x0x.lt
      have T50 := Two.new w4 (.slice (some ⟨x0p, 0, none⟩) X0.length X0.length) (.slice (some ⟨x0q, 0, none⟩) Y0.length Y0.length) 26
      have n5 : Below w4.heap.size w4 (w4.alloc (.cells #[.slice (some ⟨x0p, 0, none⟩) X0.length X0.length, .slice (some ⟨x0q, 0, none⟩) Y0.length Y0.length] 26)) := (Below.refl _ _).alloc (Nat.le_refl _) _
      replace B0 := B0.up n5
      replace B1 := B1.up n5
      replace T4 := T4.up n5
      replace o4 := o4.up n5
      replace x0x := x0x.up n5
      replace x0y := x0y.up n5
      replace N := nxt N n5
      clear n5
      have B10 := B1.c0
      have B11 := B1.c1
      go_wp2_with fail
      generalize w4.alloc (.cells #[.slice (some ⟨x0p, 0, none⟩) X0.length X0.length, .slice (some ⟨x0q, 0, none⟩) Y0.length Y0.length] 26) = w5 at *
      have uT50 := T50.lt
      refine (toPoint_any w5 g1 g1' a1 a1' c1 c1' X1 Y1 (hX1.up N) (hY1.up N) (by omega) (by omega)).mono ?_
      rintro e w6 ⟨x1p, x1q, rfl, x1x, x1y, x11, x12, n6⟩
      clear B10 B11
      replace B0 := B0.up n6
      replace B1 := B1.up n6
      replace T4 := T4.up n6
      replace o4 := o4.up n6
      replace x0x := x0x.up n6
      replace x0y := x0y.up n6
      replace T50 := T50.up n6
      replace N := nxt N n6
      have zn6 := n6.size
      clear n6
      have x13 := x1y.lt
      have x14 := x1x.lt
      have T51 := Two.new w6 (.slice (some ⟨x1p, 0, none⟩) X1.length X1.length) (.slice (some ⟨x1q, 0, none⟩) Y1.length Y1.length) 26
      have n7 : Below w6.heap.size w6 (w6.alloc (.cells #[.slice (some ⟨x1p, 0, none⟩) X1.length X1.length, .slice (some ⟨x1q, 0, none⟩) Y1.length Y1.length] 26)) := (Below.refl _ _).alloc (Nat.le_refl _) _
      replace B0 := B0.up n7
      replace B1 := B1.up n7
      replace T4 := T4.up n7
      replace o4 := o4.up n7
      replace x0x := x0x.up n7
      replace x0y := x0y.up n7
      replace T50 := T50.up n7
      replace x1x := x1x.up n7
      replace x1y := x1y.up n7
      replace N := nxt N n7
      clear n7
      have T500 := T50.c0
      have T501 := T50.c1
      have T510 := T51.c0
      have T511 := T51.c1
      go_wp2_with fail
      generalize w6.alloc (.cells #[.slice (some ⟨x1p, 0, none⟩) X1.length X1.length, .slice (some ⟨x1q, 0, none⟩) Y1.length Y1.length] 26) = w7 at *
      have uT51 := T51.lt
      refine (IM w7 _ _ _ _ _ _ x0x.own0.rd x0y.own0.rd _ _ _ _ _ _ x1x.own0.rd x1y.own0.rd N).mono ?_
      rintro e w8 ⟨NR, n8⟩
      clear T500 T501 T510 T511
      have zn8 := n8.size
      obtain ⟨i6a, i6c, i6g, i6a', i6c', i6g', rfl, o6, i6l, i6h, i6l', i6h', i6r, i6r'⟩ := NR.at (B' := w6.heap.size) (by omega) (by omega)
      replace B0 := B0.up n8
      replace B1 := B1.up n8
      replace T4 := T4.up n8
      replace o4 := o4.up n8
      replace x0x := x0x.up n8
      replace x0y := x0y.up n8
      replace T50 := T50.up n8
      replace x1x := x1x.up n8
      replace x1y := x1y.up n8
      replace T51 := T51.up n8
      replace N := nxt N n8
      clear n8
      have T6 := Two.new w8 (.slice i6a rx.length i6c) (.slice i6a' ry.length i6c') 26
      have n9 : Below w8.heap.size w8 (w8.alloc (.cells #[.slice i6a rx.length i6c, .slice i6a' ry.length i6c'] 26)) := (Below.refl _ _).alloc (Nat.le_refl _) _
      replace B0 := B0.up n9
      replace B1 := B1.up n9
      replace T4 := T4.up n9
      replace o4 := o4.up n9
      replace x0x := x0x.up n9
      replace x0y := x0y.up n9
      replace T50 := T50.up n9
      replace x1x := x1x.up n9
      replace x1y := x1y.up n9
      replace T51 := T51.up n9
      replace o6 := o6.up n9
      replace N := nxt N n9
      clear n9
      have T60 := T6.c0
      have T61 := T6.c1
      have T40 := T4.c0
      have T41 := T4.c1
      go_wp2_with fail
      generalize w8.alloc (.cells #[.slice i6a rx.length i6c, .slice i6a' ry.length i6c'] 26) = w9 at *
      have uT6 := T6.lt
      refine (eqPoint_same w9 _ _ _ _ _ _ _ _ _ _ _ _ rx ry o6 o4 lrx lry).mono ?_
      rintro e w10 ⟨rfl, n10⟩
      clear T60 T61 T40 T41
      replace B0 := B0.up n10
      replace B1 := B1.up n10
      replace T4 := T4.up n10
      replace o4 := o4.up n10
      replace x0x := x0x.up n10
      replace x0y := x0y.up n10
      replace T50 := T50.up n10
      replace x1x := x1x.up n10
      replace x1y := x1y.up n10
      replace T51 := T51.up n10
      replace o6 := o6.up n10
      replace T6 := T6.up n10
      replace N := nxt N n10
      have zn10 := n10.size
      clear n10
      go_upto_region 14 with fail
      refine region_end 5 (fun i => [Fact.eq (.agg #[.slice (some ⟨x0p, 0, none⟩) X0.length X0.length, .slice (some ⟨x0q, 0, none⟩) Y0.length Y0.length]), Fact.eq (.agg #[.slice a0 X0.length c0, .slice a0' Y0.length c0']), PR X0 Y0, Fact.eq (.bool true), Fact.eq (.bool (!true))].getD i Fact.no) (by kernel_rfl) (by kernel_rfl) rfl ?_ ?_
      · intro i hi
        obtain rfl | rfl | rfl | rfl | rfl : i = 0 ∨ i = 1 ∨ i = 2 ∨ i = 3 ∨ i = 4 := by omega
        · exact step_l2 _ uP iP rfl 7 rfl (by kernel_rfl) _ rfl _ _ T50 rfl
        · exact step_l2 _ uLP iLP rfl 2 rfl (by kernel_rfl) _ rfl _ _ B0 rfl
        · exact step_toP rfl 41 1 rfl (by kernel_rfl) (hX0.up N) (hY0.up N) (by omega) (by omega) rfl rfl
        · exact step_eqP rfl 40 42 0 2 rfl (by kernel_rfl) (by kernel_rfl) (g := x0p) (g' := x0q) ⟨x0x.own0, x0y.own0⟩ (by omega) (by omega) rfl rfl rfl
        · exact step_notb rfl 43 3 rfl (by kernel_rfl) rfl rfl
      intro A w11 hb n11 hF
      have e2 := hF 4 44 (by kernel_rfl)
      obtain ⟨vs, hvs⟩ : ∃ vs : Nat → Value, ∀ d, A.tmps.getD d undef = vs d := ⟨_, fun _ => rfl⟩
      rw [hvs] at e2
      rw [puts_of (md := .any) (k := 5) (by kernel_rfl) rfl hb vs hvs]
      clear hb hF hvs
      have e3 : vs 44 = .bool false := e2
      clear e2
      simp only [puts, e3, Act.put, List.setIfInBounds_toArray, List.set_cons_succ, List.set_cons_zero]
      clear e3
      replace B0 := B0.up n11
      replace B1 := B1.up n11
      replace T4 := T4.up n11
      replace o4 := o4.up n11
      replace x0x := x0x.up n11
      replace x0y := x0y.up n11
      replace T50 := T50.up n11
      replace x1x := x1x.up n11
      replace x1y := x1y.up n11
      replace T51 := T51.up n11
      replace o6 := o6.up n11
      replace T6 := T6.up n11
      replace N := nxt N n11
      have zn11 := n11.size
      clear n11
      go_upto_region 16 with fail
      refine region_end 5 (fun i => [Fact.eq (.agg #[.slice (some ⟨x1p, 0, none⟩) X1.length X1.length, .slice (some ⟨x1q, 0, none⟩) Y1.length Y1.length]), Fact.eq (.agg #[.slice a1 X1.length c1, .slice a1' Y1.length c1']), PR X1 Y1, Fact.eq (.bool true), Fact.eq (.bool (!true))].getD i Fact.no) (by kernel_rfl) (by kernel_rfl) rfl ?_ ?_
      · intro i hi
        obtain rfl | rfl | rfl | rfl | rfl : i = 0 ∨ i = 1 ∨ i = 2 ∨ i = 3 ∨ i = 4 := by omega
        · exact step_l2 _ uP iP rfl 8 rfl (by kernel_rfl) _ rfl _ _ T51 rfl
        · exact step_l2 _ uLP iLP rfl 3 rfl (by kernel_rfl) _ rfl _ _ B1 rfl
        · exact step_toP rfl 46 1 rfl (by kernel_rfl) (hX1.up N) (hY1.up N) (by omega) (by omega) rfl rfl
        · exact step_eqP rfl 45 47 0 2 rfl (by kernel_rfl) (by kernel_rfl) (g := x1p) (g' := x1q) ⟨x1x.own0, x1y.own0⟩ (by omega) (by omega) rfl rfl rfl
        · exact step_notb rfl 48 3 rfl (by kernel_rfl) rfl rfl
      intro A w12 hb n12 hF
      have e2 := hF 4 49 (by kernel_rfl)
      obtain ⟨vs, hvs⟩ : ∃ vs : Nat → Value, ∀ d, A.tmps.getD d undef = vs d := ⟨_, fun _ => rfl⟩
      rw [hvs] at e2
      rw [puts_of (md := .any) (k := 5) (by kernel_rfl) rfl hb vs hvs]
      clear hb hF hvs
      have e3 : vs 49 = .bool false := e2
      clear e2
      simp only [puts, e3, Act.put, List.setIfInBounds_toArray, List.set_cons_succ, List.set_cons_zero]
      clear e3
      replace B0 := B0.up n12
      replace B1 := B1.up n12
      replace T4 := T4.up n12
      replace o4 := o4.up n12
      replace x0x := x0x.up n12
      replace x0y := x0y.up n12
      replace T50 := T50.up n12
      replace x1x := x1x.up n12
      replace x1y := x1y.up n12
      replace T51 := T51.up n12
      replace o6 := o6.up n12
      replace T6 := T6.up n12
      replace N := nxt N n12
      have zn12 := n12.size
      clear n12
      have T500 := T50.c0
      have T501 := T50.c1
      go_wp2_with fail
      refine (markPoint_any w12 x0p x0q _ _ _ _ X0 Y0 (1) ⟨x0x.own0, x0y.own0⟩ (by omega) (by omega) (by omega) (by omega) (fun _ => by omega) (fun _ => by omega) (by omega)).mono ?_
      rintro e w13 ⟨rfl, _, O13⟩
      have zz13 := O13.size
      clear T500 T501
      clear x0x x0y T50
      have NN := N.size
      replace N := N.trans (O13.below (B := w.heap.size) (by omega) (by omega) (by omega))
      clear NN
      replace B0 := B0.butP O13 (by omega) (by omega)
      replace B1 := B1.butP O13 (by omega) (by omega)
      replace T4 := T4.butP O13 (by omega) (by omega)
      replace o4 := o4.butP O13 (fun h => ⟨by have := Y4.out h; omega, by have := Y4.out h; omega⟩) (fun h => ⟨by have := Y4'.out h; omega, by have := Y4'.out h; omega⟩)
      replace x1x := x1x.of_block (O13.block _ (by have := x1x.lt; omega) (by omega) (by omega))
      replace x1y := x1y.of_block (O13.block _ (by have := x1y.lt; omega) (by omega) (by omega))
      replace T51 := T51.butP O13 (by omega) (by omega)
      replace o6 := o6.butP O13 (fun h => ⟨by have := i6r h; omega, by have := i6r h; omega⟩) (fun h => ⟨by have := i6r' h; omega, by have := i6r' h; omega⟩)
      replace T6 := T6.butP O13 (by omega) (by omega)
      clear O13
      have T510 := T51.c0
      have T511 := T51.c1
      go_wp2_with fail
      refine (markPoint_any w13 x1p x1q _ _ _ _ X1 Y1 (1 + (X0.length : Int) + (Y0.length : Int)) ⟨x1x.own0, x1y.own0⟩ (by omega) (by omega) (by omega) (by omega) (fun _ => by omega) (fun _ => by omega) (by omega)).mono ?_
      rintro e w14 ⟨rfl, _, O14⟩
      have zz14 := O14.size
      clear T510 T511
      clear x1x x1y T51
      have NN := N.size
      replace N := N.trans (O14.below (B := w.heap.size) (by omega) (by omega) (by omega))
      clear NN
      replace B0 := B0.butP O14 (by omega) (by omega)
      replace B1 := B1.butP O14 (by omega) (by omega)
      replace T4 := T4.butP O14 (by omega) (by omega)
      replace o4 := o4.butP O14 (fun h => ⟨by have := Y4.out h; omega, by have := Y4.out h; omega⟩) (fun h => ⟨by have := Y4'.out h; omega, by have := Y4'.out h; omega⟩)
      replace o6 := o6.butP O14 (fun h => ⟨by have := i6r h; omega, by have := i6r h; omega⟩) (fun h => ⟨by have := i6r' h; omega, by have := i6r' h; omega⟩)
      replace T6 := T6.butP O14 (by omega) (by omega)
      clear O14
      have tk : decide ((1 + (X0.length : Int) + (Y0.length : Int) + (X1.length : Int) + (Y1.length : Int) : Int) < 0) = false := by simp; omega
      have T60 := T6.c0
      have T61 := T6.c1
      have T40 := T4.c0
      have T41 := T4.c1
      go_wp2_with fail
      refine (eqPoint_same w14 _ _ _ _ _ _ _ _ _ _ _ _ rx ry o6 o4 lrx lry).mono ?_
      rintro e w15 ⟨rfl, n15⟩
      clear T60 T61 T40 T41
      replace B0 := B0.up n15
      replace B1 := B1.up n15
      replace T4 := T4.up n15
      replace o4 := o4.up n15
      replace o6 := o6.up n15
      replace T6 := T6.up n15
      replace N := nxt N n15
      have zn15 := n15.size
      clear n15
      have T60 := T6.c0
      have T61 := T6.c1
      go_wp2_with fail
      refine (markPoint_any w15 i6g i6g' _ _ _ _ rx ry 1 o6 lrx lry (by omega) (by omega) (fun h => (i6r h).2) (fun h => (i6r' h).2) (by omega)).mono ?_
      rintro e w16 ⟨rfl, oH, OH⟩
      have zzH := OH.size
      clear T60 T61
      clear o6
      have NN := N.size
      replace N := N.trans (OH.below (B := w.heap.size) (by omega) (by omega) (by omega))
      clear NN
      replace B0 := B0.butP OH (by omega) (by omega)
      replace B1 := B1.butP OH (by omega) (by omega)
      replace T4 := T4.butP OH (by omega) (by omega)
      replace o4 := o4.butP OH (fun h => ⟨by have := Y4.out h; omega, by have := Y4.out h; omega⟩) (fun h => ⟨by have := Y4'.out h; omega, by have := Y4'.out h; omega⟩)
      replace T6 := T6.butP OH (by omega) (by omega)
      clear OH
      have t4 : decide ((1 : Int) + (rx.length : Int) + (ry.length : Int) < 0) = false := by simp; omega
      have T60 := T6.c0
      have T61 := T6.c1
      go_wp2_with fail
      refine (heldPoint_any w16 i6g i6g' _ _ _ _ rx.length ry.length 1 oH lrx lry (by omega) (by omega)).mono ?_
      rintro e w17 ⟨rfl, n17⟩
      clear T60 T61
      replace B0 := B0.up n17
      replace B1 := B1.up n17
      replace T4 := T4.up n17
      replace o4 := o4.up n17
      replace T6 := T6.up n17
      replace oH := oH.up n17
      replace N := nxt N n17
      have zn17 := n17.size
      clear n17
      go_upto_region 31 with fail
      refine region_newPF 6 5 4 13 79 _ (fun i => [Fact.eq (.agg #[.slice a0 X0.length c0, .slice a0' Y0.length c0']), PR X0 Y0, Fact.eq (.agg #[.slice a1 X1.length c1, .slice a1' Y1.length c1']), PR X1 Y1, PT w17 (fun u8 u9 => u8 = rx ∧ u9 = ry), NBp w17].getD i Fact.no) (fun u8 u9 => u8 = rx ∧ u9 = ry) (by kernel_rfl) rfl rfl rfl (by kernel_rfl) (by kernel_rfl) rfl rfl ?_ ?_
      · intro i hi
        obtain rfl | rfl | rfl | rfl | rfl | rfl : i = 0 ∨ i = 1 ∨ i = 2 ∨ i = 3 ∨ i = 4 ∨ i = 5 := by omega
        · exact step_l2 _ uLP iLP rfl 2 rfl (by kernel_rfl) _ rfl _ _ B0 rfl
        · exact step_toP rfl 75 0 rfl (by kernel_rfl) (hX0.up N) (hY0.up N) (by omega) (by omega) rfl rfl
        · exact step_l2 _ uLP iLP rfl 3 rfl (by kernel_rfl) _ rfl _ _ B1 rfl
        · exact step_toP rfl 77 2 rfl (by kernel_rfl) (hX1.up N) (hY1.up N) (by omega) (by omega) rfl rfl
        · exact step_two_pts rfl 76 78 1 3 rfl (by kernel_rfl) (by kernel_rfl) (by kernel_rfl) (fun W n p q p' q' h1 h2 h3 h4 => IMp W (nxt N n) p q p' q' h1 h2 h3 h4) rfl rfl rfl
        · exact step_newP rfl rfl rfl
      intro vs qT9 w18 xs' ys' i9a i9a' i9c i9c' i9g i9g' vq lq n18 rg th so so' i9l i9l' hp _
      obtain ⟨hp1, hp2⟩ := hp
      replace hp1 : xs' = rx := hp1
      replace hp2 : ys' = ry := hp2
      rw [hp1] at rg so
      rw [hp2] at rg so'
      clear hp1 hp2
      have T9 : Two w18 qT9 (.slice i9a rx.length i9c) (.slice i9a' ry.length i9c') := two_of rg th
      have o9 : PrP w18 i9g i9a rx i9g' i9a' ry := ⟨so, so'⟩
      clear rg th so so'
      simp only [puts, vq, Act.put, List.setIfInBounds_toArray, List.set_cons_succ, List.set_cons_zero]
      clear vq
      replace B0 := B0.up n18
      replace B1 := B1.up n18
      replace T4 := T4.up n18
      replace o4 := o4.up n18
      replace T6 := T6.up n18
      replace oH := oH.up n18
      replace N := nxt N n18
      have zn18 := n18.size
      clear n18
      have uT9 := T9.lt
      have T90 := T9.c0
      have T91 := T9.c1
      have T40 := T4.c0
      have T41 := T4.c1
      go_wp2_with fail
      refine (eqPoint_same w18 _ _ _ _ _ _ _ _ _ _ _ _ rx ry o9 o4 lrx lry).mono ?_
      rintro e w19 ⟨rfl, n19⟩
      clear T90 T91 T40 T41
      replace B0 := B0.up n19
      replace B1 := B1.up n19
      replace T4 := T4.up n19
      replace o4 := o4.up n19
      replace T6 := T6.up n19
      replace oH := oH.up n19
      replace T9 := T9.up n19
      replace o9 := o9.up n19
      replace N := nxt N n19
      have zn19 := n19.size
      clear n19
      clear o9 o4 T9 T4
      have T60 := T6.c0
      have T61 := T6.c1
      go_wp2_with fail
      refine (heldPoint_any w19 i6g i6g' _ _ _ _ rx.length ry.length 1 oH lrx lry (by omega) (by omega)).mono ?_
      rintro e w20 ⟨rfl, n20⟩
      clear T60 T61
      replace B0 := B0.up n20
      replace B1 := B1.up n20
      replace T6 := T6.up n20
      replace oH := oH.up n20
      replace N := nxt N n20
      have zn20 := n20.size
      clear n20
      go_wp2
      go_ret
      exact ⟨rfl, N⟩
    · skip
      have SZ0 := fun W => szPoint_any W a0 a0' X0.length c0 Y0.length c0' ((1048576 : Int)) lX0 lY0 (by omega) (by omega)
      rw [if_neg (show ¬ ((1048576 : Int)) < (X0.length : Int) + (Y0.length : Int) by omega)] at SZ0
      have t0 : decide (((1048576 : Int)) - (X0.length : Int) - (Y0.length : Int) < 0) = false := by simp; omega
      have SZ1 := fun W => szPoint_any W a1 a1' X1.length c1 Y1.length c1' ((1048576 : Int) - (X0.length : Int) - (Y0.length : Int)) lX1 lY1 (by omega) (by omega)
      rw [if_pos (show ((1048576 : Int) - (X0.length : Int) - (Y0.length : Int)) < (X1.length : Int) + (Y1.length : Int) by omega)] at SZ1
      go_enter Tryd.func3, Tryd.ntmps3
      go_upto_region 1 with fail
      have B0 := Two.new w (.slice a0 X0.length c0) (.slice a0' Y0.length c0') 24
      have nb0 : Below w.heap.size w (w.alloc (.cells #[.slice a0 X0.length c0, .slice a0' Y0.length c0'] 24)) := (Below.refl _ _).alloc (Nat.le_refl _) _
      have sb0 : (w.alloc (.cells #[.slice a0 X0.length c0, .slice a0' Y0.length c0'] 24)).heap.size = w.heap.size + 1 := by simp
      generalize w.alloc (.cells #[.slice a0 X0.length c0, .slice a0' Y0.length c0'] 24) = v0 at *
      have B1 := Two.new v0 (.slice a1 X1.length c1) (.slice a1' Y1.length c1') 24
      have nb1 : Below v0.heap.size v0 (v0.alloc (.cells #[.slice a1 X1.length c1, .slice a1' Y1.length c1'] 24)) := (Below.refl _ _).alloc (Nat.le_refl _) _
      have sb1 : (v0.alloc (.cells #[.slice a1 X1.length c1, .slice a1' Y1.length c1'] 24)).heap.size = w.heap.size + 1 + 1 := by simp [sb0]
      rw [sb0] at B1
      replace B0 := B0.up nb1
      generalize v0.alloc (.cells #[.slice a1 X1.length c1, .slice a1' Y1.length c1'] 24) = v1 at *
      have N := (nxt nb0 nb1)
      have zv : w.heap.size + 2 ≤ v1.heap.size := by omega
      clear nb0 sb0 nb1 sb1
      have B00 := B0.c0
      have B01 := B0.c1
      go_wp2_with fail
      refine (SZ0 v1).mono ?_
      rintro e w1 ⟨rfl, n1⟩
      clear B00 B01
      replace B0 := B0.up n1
      replace B1 := B1.up n1
      replace N := nxt N n1
      have zn1 := n1.size
      clear n1
      have B10 := B1.c0
      have B11 := B1.c1
      go_wp2_with fail
      refine (SZ1 w1).mono ?_
      rintro e w2 ⟨rfl, n2⟩
      clear B10 B11
      replace B0 := B0.up n2
      replace B1 := B1.up n2
      replace N := nxt N n2
      have zn2 := n2.size
      clear n2
      go_wp2
      go_ret
      exact ⟨rfl, N⟩
  · skip
    have SZ0 := fun W => szPoint_any W a0 a0' X0.length c0 Y0.length c0' ((1048576 : Int)) lX0 lY0 (by omega) (by omega)
    rw [if_pos (show ((1048576 : Int)) < (X0.length : Int) + (Y0.length : Int) by omega)] at SZ0
    go_enter Tryd.func3, Tryd.ntmps3
    go_upto_region 1 with fail
    have B0 := Two.new w (.slice a0 X0.length c0) (.slice a0' Y0.length c0') 24
    have nb0 : Below w.heap.size w (w.alloc (.cells #[.slice a0 X0.length c0, .slice a0' Y0.length c0'] 24)) := (Below.refl _ _).alloc (Nat.le_refl _) _
    have sb0 : (w.alloc (.cells #[.slice a0 X0.length c0, .slice a0' Y0.length c0'] 24)).heap.size = w.heap.size + 1 := by simp
    generalize w.alloc (.cells #[.slice a0 X0.length c0, .slice a0' Y0.length c0'] 24) = v0 at *
    have B1 := Two.new v0 (.slice a1 X1.length c1) (.slice a1' Y1.length c1') 24
    have nb1 : Below v0.heap.size v0 (v0.alloc (.cells #[.slice a1 X1.length c1, .slice a1' Y1.length c1'] 24)) := (Below.refl _ _).alloc (Nat.le_refl _) _
    have sb1 : (v0.alloc (.cells #[.slice a1 X1.length c1, .slice a1' Y1.length c1'] 24)).heap.size = w.heap.size + 1 + 1 := by simp [sb0]
    rw [sb0] at B1
    replace B0 := B0.up nb1
    generalize v0.alloc (.cells #[.slice a1 X1.length c1, .slice a1' Y1.length c1'] 24) = v1 at *
    have N := (nxt nb0 nb1)
    have zv : w.heap.size + 2 ≤ v1.heap.size := by omega
    clear nb0 sb0 nb1 sb1
    have B00 := B0.c0
    have B01 := B0.c1
    go_wp2_with fail
    refine (SZ0 v1).mono ?_
    rintro e w1 ⟨rfl, n1⟩
    clear B00 B01
    replace B0 := B0.up n1
    replace B1 := B1.up n1
    replace N := nxt N n1
    have zn1 := n1.size
    clear n1
    go_wp2
    go_ret
    exact ⟨rfl, N⟩
end Go.Proofs.YtmanhandajhobaaDoor

/-
  The law by facts for a region that draws its order and ends with a store and an assignment, where one operation that touches no memory may come behind the store. No program in sight.
-/
namespace Go.Proofs.YtmanhandajhobaaDoor
set_option maxRecDepth 100000
open Go Go.RowKit

section
variable {P : Program} {ops : Array Oper} {Q : Exit → Act → World → Prop} {md : Region.Mode} {F : Nat → Fact} {a0 : Act} {w0 : World}

/-- Number k, the store, waits for all ahead of it but x; number k + 1, the last, for k and x. -/
def textLate (md : Region.Mode) (ops : Array Oper) (n k x : Nat) : Bool :=
  (ops.all fun o => o.guard.isNone && (match o.dst with | some d => decide (d < n) | none => true))
  && ((List.range ops.size).all fun i => match ops[i]? with
    | some o => o.after.all (fun e => !Region.binds md e || decide (e.on < i)) && (List.range i).all fun j => match ops[j]? with
      | some x => x.dst.isNone || o.dst != x.dst
      | none => true
    | none => true)
  && decide (ops.size = k + 2 ∧ x < k)
  && ((List.range k).all fun j => j == x || (List.range (k + 1)).any fun m => decide (j < m) && m != x && match ops[m]? with
    | some o => o.after.any (fun e => Region.binds md e && e.on == j)
    | none => false)
  && (match ops[k + 1]? with | some o => o.after.any (fun e => Region.binds md e && e.on == k) && o.after.any (fun e => Region.binds md e && e.on == x) | none => false)
  && (match ops[k]? with | some o => o.dst.isNone && o.after.all (fun e => !Region.binds md e || e.on != x) | none => false)
  && ((List.range k).all fun j => match ops[j]? with | some o => o.after.all (fun e => !Region.binds md e || e.on != x) | none => false)
structure TextL (md : Region.Mode) (ops : Array Oper) (n k x : Nat) : Prop where
  g : ∀ (i : Nat) o, ops[i]? = some o → o.guard = none
  d : ∀ (i : Nat) o d, ops[i]? = some o → o.dst = some d → d < n
  a : ∀ (i : Nat) o, ops[i]? = some o → ∀ e ∈ o.after, Region.binds md e = true → e.on < i
  dx : ∀ (i j : Nat) o o' d, ops[i]? = some o → ops[j]? = some o' → i ≠ j → o.dst = some d → o'.dst ≠ some d
  k2 : ops.size = k + 2
  kx : x < k
  c : ∀ j, j < k → j ≠ x → ∃ (m : Nat) (o : Oper), j < m ∧ m ≤ k ∧ m ≠ x ∧ ops[m]? = some o ∧ ∃ e ∈ o.after, Region.binds md e = true ∧ e.on = j
  l : ∀ o, ops[k + 1]? = some o → (∃ e ∈ o.after, Region.binds md e = true ∧ e.on = k) ∧ ∃ e ∈ o.after, Region.binds md e = true ∧ e.on = x
  n1 : ∀ o, ops[k]? = some o → o.dst = none
  f : ∀ j o, j ≤ k → ops[j]? = some o → ∀ e ∈ o.after, Region.binds md e = true → e.on ≠ x
theorem textL_of {n k x : Nat} (h : textLate md ops n k x = true) : TextL md ops n k x := by
  unfold textLate at h
  simp only [Bool.and_eq_true, decide_eq_true_eq] at h
  obtain ⟨⟨⟨⟨⟨⟨h1, h2⟩, h3⟩, h4⟩, h5⟩, h6⟩, h7⟩ := h
  rw [Array.all_eq_true_iff_forall_mem] at h1
  rw [List.all_eq_true] at h2 h4 h7
  have H : ∀ (i j : Nat) o o' d, j < i → ops[i]? = some o → ops[j]? = some o' → o.dst = some d → o'.dst ≠ some d := by
    intro i j o o' d hij hi hj hd hd'
    have q := h2 i (List.mem_range.2 (Array.getElem?_eq_some_iff.1 hi).1)
    simp only [hi, Bool.and_eq_true] at q
    have r := List.all_eq_true.1 q.2 j (List.mem_range.2 hij)
    simp only [hj, hd, hd'] at r
    simp at r
  have ne : ∀ (o : Oper), o.after.all (fun e => !Region.binds md e || e.on != x) = true → ∀ e ∈ o.after, Region.binds md e = true → e.on ≠ x := by
    intro o h e he hb
    have r := (Array.all_eq_true_iff_forall_mem.1 h) e he
    rw [hb] at r
    simpa using r
  refine ⟨?_, ?_, ?_, ?_, h3.1, h3.2, ?_, ?_, ?_, ?_⟩
  · intro i o ho
    have q := h1 o (Array.mem_of_getElem? ho)
    simp only [Bool.and_eq_true] at q
    exact Option.isNone_iff_eq_none.1 q.1
  · intro i o d ho hd
    have q := h1 o (Array.mem_of_getElem? ho)
    simp only [Bool.and_eq_true, hd, decide_eq_true_eq] at q
    exact q.2
  · intro i o ho e he hb
    have q := h2 i (List.mem_range.2 (Array.getElem?_eq_some_iff.1 ho).1)
    simp only [ho, Bool.and_eq_true] at q
    have r := (Array.all_eq_true_iff_forall_mem.1 q.1) e he
    rw [hb] at r
    simpa using r
  · intro i j o o' d hi hj hij hd hd'
    rcases Nat.lt_or_gt_of_ne hij with h | h
    · exact H j i o' o d h hj hi hd' hd
    · exact H i j o o' d h hi hj hd hd'
  · intro j hj hjx
    have q := h4 j (List.mem_range.2 hj)
    simp only [Bool.or_eq_true, beq_iff_eq] at q
    rcases q with q | q
    · exact absurd q hjx
    obtain ⟨m, hm, r⟩ := List.any_eq_true.1 q
    simp only [Bool.and_eq_true, decide_eq_true_eq, bne_iff_ne] at r
    cases ho : ops[m]? with
    | none => rw [ho] at r; simp at r
    | some o =>
      rw [ho] at r
      obtain ⟨e, he, hb⟩ := Array.any_eq_true'.1 r.2
      simp only [Bool.and_eq_true, beq_iff_eq] at hb
      exact ⟨m, o, r.1.1, by have := List.mem_range.1 hm; omega, r.1.2, ho, e, he, hb.1, hb.2⟩
  · intro o ho
    rw [ho] at h5
    simp only [Bool.and_eq_true] at h5
    obtain ⟨e, he, hb⟩ := Array.any_eq_true'.1 h5.1
    obtain ⟨e', he', hb'⟩ := Array.any_eq_true'.1 h5.2
    simp only [Bool.and_eq_true, beq_iff_eq] at hb hb'
    exact ⟨⟨e, he, hb.1, hb.2⟩, e', he', hb'.1, hb'.2⟩
  · intro o ho
    rw [ho] at h6
    simp only [Bool.and_eq_true] at h6
    exact Option.isNone_iff_eq_none.1 h6.1
  · intro j o hj ho
    rcases Nat.lt_or_ge j k with c | c
    · have q := h7 j (List.mem_range.2 c)
      rw [ho] at q
      exact ne o q
    · obtain rfl : j = k := by omega
      rw [ho] at h6
      simp only [Bool.and_eq_true] at h6
      exact ne o h6.2
theorem any_late {n k x : Nat} (T : TextL md ops n k x) (hn : n ≤ a0.tmps.size) (steps : ∀ i, i < k → StepOk P md ops Q F a0 w0 i) (o1 o2 : Oper) (hk1 : ops[k]? = some o1) (hk2 : ops[k + 1]? = some o2) (dx : Nat) (wx : writes ops x dx = true) (R : Act → World → Prop)
    (hR : ∀ a W W' v, Below W.heap.size W W' → R a W → R (a.put (some dx) v) W')
    (sx : ∀ j d v w w', waits md ops x j d = true → (F j).p v w → (F j).p v w') (fx : ∀ v w w', (F x).p v w → (F x).p v w')
    (fin : ∀ a w, Based ops a0 a → Below w0.heap.size w0 w → (∀ i o d, i < k → i ≠ x → ops[i]? = some o → o.dst = some d → (F i).p (a.tmps.getD d undef) w) →
      ∀ K : Act → World → Prop, (∀ W, Below w0.heap.size w0 W → R a W → K a W) → o1.wp P a w K Q)
    (last : ∀ a W, Based ops a0 a → R a W → (F x).p (a.tmps.getD dx undef) W → o2.wp P a W (fun a' w' => Q .normal a' w') Q) :
    ∀ (fuel : Nat) (listed : Array Bool) (a : Act) (w : World), left listed ops.size ≤ fuel → Held md ops F a0 w0 listed a w → listed.getD k false = false → listed.getD (k + 1) false = false → wpAny P md ops Q fuel listed a w := by
  obtain ⟨ox, hox, hdx⟩ := writes_is wx
  have hks : k < ops.size := by have := T.k2; omega
  have hks' : k + 1 < ops.size := by have := T.k2; omega
  intro fuel
  induction fuel with
  | zero =>
    intro listed a w hl H hk hk'
    have := left_zero (listed := listed) (n := ops.size) (by omega) k hks
    rw [dflt (by rw [H.s]; exact hks), hk] at this
    simp at this
  | succ fuel ih =>
    intro listed a w hl H hk hk'
    refine ⟨fun hr => ?_, fun i hi => ?_⟩
    · exfalso
      have hall : ∀ m i, i < m → i ≤ k → listed.getD i false = true := by
        intro m
        induction m with
        | zero => intro i hi; omega
        | succ m ihm =>
          intro i hi hik
          rcases Nat.lt_or_ge i m with h1 | h1
          · exact ihm i h1 hik
          · obtain rfl : i = m := by omega
            cases hc : listed.getD i false
            · exfalso
              obtain ⟨o, ho⟩ : ∃ o, ops[i]? = some o := ⟨ops[i], by simp [show i < ops.size by omega]⟩
              have hr' : i ∈ Region.ready md ops listed := mem_ready.2 ⟨by rw [dflt (by rw [H.s]; omega)]; exact hc, o, ho, fun e he hb => ihm e.on (T.a i o ho e he hb) (by have := T.a i o ho e he hb; omega)⟩
              rw [hr] at hr'
              simp at hr'
            · rfl
      rw [hall (k + 1) k (by omega) (Nat.le_refl _)] at hk
      simp at hk
    · obtain ⟨h0, o, ho, hall⟩ := mem_ready.1 hi
      have hlt := (Array.getElem?_eq_some_iff.1 ho).1
      have hwant : Region.wanted o (yielded ops a.tmps) = true := by simp [Region.wanted, T.g i o ho]
      refine wpOp_step ho fun K' hK => ?_
      rw [if_pos hwant]
      have hll := left_set (by rw [H.s]; exact hlt) h0 ops.size hlt
      have hfacts : ∀ j d, waits md ops i j d = true → (F j).p (a.tmps.getD d undef) w := by
        intro j d hjd
        unfold waits at hjd
        rw [ho] at hjd
        cases hoj : ops[j]? with
        | none => rw [hoj] at hjd; simp at hjd
        | some oj =>
          rw [hoj] at hjd
          simp only [Bool.and_eq_true, beq_iff_eq] at hjd
          obtain ⟨e, he, hb⟩ := Array.any_eq_true'.1 hjd.1
          simp only [Bool.and_eq_true, beq_iff_eq] at hb
          exact H.f j oj d hoj (by rw [← hb.2]; exact hall e he hb.1) hjd.2
      have TT : TextT md false ops n k := ⟨T.g, T.d, T.a, T.dx, by omega, (fun h => by cases h), (fun h => by cases h)⟩
      rcases Nat.lt_or_ge i k with h1 | h1
      · refine steps i h1 o ho a w H.b H.n hfacts K' fun v w' hw hf => ?_
        refine hK _ _ (ih _ _ _ (by omega) (H.nextT TT hn ho hi hw hf) ?_ ?_)
        · rw [getD_off (by omega)]
          exact hk
        · rw [getD_off (by omega)]
          exact hk'
      · rcases Nat.lt_or_ge k i with h2 | h2
        · exfalso
          obtain rfl : i = k + 1 := by have := T.k2; omega
          obtain ⟨⟨e, he, hb, hq⟩, _⟩ := T.l o ho
          have := hall e he hb
          rw [hq, hk] at this
          simp at this
        · obtain rfl : i = k := by omega
          obtain rfl := Option.some.inj (hk1.symm.trans ho)
          have hahead : ∀ m j, i - j ≤ m → j < i → j ≠ x → listed.getD j false = true := by
            intro m
            induction m with
            | zero => intro j hm hj; omega
            | succ m ihm =>
              intro j hm hj hjx
              obtain ⟨p, oo, hjp, hpk, hpx, hoo, e, he, hb, rfl⟩ := T.c j hj hjx
              rcases Nat.lt_or_ge p i with h1 | h1
              · exact H.c p oo hoo (ihm p (by omega) h1 hpx) e he hb
              · obtain rfl : p = i := by omega
                obtain rfl := Option.some.inj (ho.symm.trans hoo)
                exact hall e he hb
          have q := fin a w H.b H.n (fun j oj d hj hjx hoj hd => H.f j oj d hoj (hahead (i - j) j (Nat.le_refl _) hj hjx) hd)
          refine q _ fun W hW hRW => hK _ _ ?_
          have hs2 : (listed.setIfInBounds i true).size = ops.size := by simp [H.s]
          have g1 : (listed.setIfInBounds i true).getD (i + 1) true = false := by
            rw [getD_off (by omega), dflt (by rw [H.s]; exact hks')]
            exact hk'
          have hall2 : ∀ j, j ≠ i + 1 → j ≠ x → j < ops.size → (listed.setIfInBounds i true).getD j true = true := by
            intro j hj hjx hjs
            by_cases e : i = j
            · subst e
              exact getD_same (by rw [H.s]; exact hlt) _
            · rw [getD_off e, dflt (by rw [H.s]; exact hjs)]
              exact hahead (i - j) j (Nat.le_refl _) (by have := T.k2; omega) hjx
          have gx : (listed.setIfInBounds i true).getD x true = listed.getD x false := by
            rw [getD_off (by have := T.kx; omega), dflt (by rw [H.s]; have := T.kx; omega)]
          -- the last one alone is left
          have fin2 : ∀ (l2 : Array Bool) (fuel : Nat) (b : Act) (V : World), l2.size = ops.size → (∀ j, j ≠ i + 1 → j < ops.size → l2.getD j true = true) → l2.getD (i + 1) true = false → left l2 ops.size ≤ fuel → Based ops a0 b → R b V → (F x).p (b.tmps.getD dx undef) V → wpAny P md ops Q fuel l2 b V := by
            intro l2 fuel b V hs2 hl2 hg hf hb hRb hfx
            have l1 : 0 < left l2 ops.size := by
              rcases Nat.eq_zero_or_pos (left l2 ops.size) with z | z
              · have := left_zero (n := ops.size) z (i + 1) hks'
                rw [hg] at this
                simp at this
              · exact z
            obtain ⟨f2, rfl⟩ : ∃ f2, fuel = f2 + 1 := ⟨fuel - 1, by omega⟩
            refine ⟨fun hr => ?_, fun j hj => ?_⟩
            · exfalso
              have hr' : i + 1 ∈ Region.ready md ops l2 := mem_ready.2 ⟨hg, o2, hk2, fun e he hb => by
                have := T.a (i + 1) o2 hk2 e he hb
                rw [← dflt (by rw [hs2]; omega)]
                exact hl2 e.on (by omega) (by omega)⟩
              rw [hr] at hr'
              simp at hr'
            · obtain ⟨g0, oj, hoj, _⟩ := mem_ready.1 hj
              have hjl := (Array.getElem?_eq_some_iff.1 hoj).1
              by_cases e : j = i + 1
              · subst e
                obtain rfl := Option.some.inj (hk2.symm.trans hoj)
                have hwant2 : Region.wanted o2 (yielded ops b.tmps) = true := by simp [Region.wanted, T.g (i + 1) o2 hk2]
                refine wpOp_step hk2 fun K2 hK2 => ?_
                rw [if_pos hwant2]
                refine Oper.wp_mono (fun a2 w2 h2' => hK2 _ _ (wpAny_done ?_ h2' f2)) (last b V hb hRb hfx)
                cases hr : Region.ready md ops (l2.setIfInBounds (i + 1) true) with
                | nil => rfl
                | cons m t =>
                  exfalso
                  have hm : m ∈ Region.ready md ops (l2.setIfInBounds (i + 1) true) := by rw [hr]; simp
                  obtain ⟨q0, om, hom, _⟩ := mem_ready.1 hm
                  have hml := (Array.getElem?_eq_some_iff.1 hom).1
                  by_cases e : i + 1 = m
                  · subst e
                    rw [getD_same (by rw [hs2]; exact hks')] at q0
                    simp at q0
                  · rw [getD_off e, hl2 m (by omega) hml] at q0
                    simp at q0
              · exfalso
                rw [hl2 j e hjl] at g0
                simp at g0
          cases hxl : listed.getD x false with
          | true =>
            refine fin2 _ fuel a W hs2 (fun j hj hjs => ?_) g1 (by omega) H.b hRW (fx _ w _ (H.f x ox dx hox hxl hdx))
            by_cases c : j = x
            · rw [c, gx, hxl]
            · exact hall2 j hj c hjs
          | false =>
            have hxs : x < ops.size := by have := T.kx; omega
            have l1 : 0 < left (listed.setIfInBounds i true) ops.size := by
              rcases Nat.eq_zero_or_pos (left (listed.setIfInBounds i true) ops.size) with z | z
              · have := left_zero (n := ops.size) z (i + 1) hks'
                rw [g1] at this
                simp at this
              · exact z
            obtain ⟨f2, rfl⟩ : ∃ f2, fuel = f2 + 1 := ⟨fuel - 1, by omega⟩
            generalize hl2 : listed.setIfInBounds i true = l2 at *
            have rx : x ∈ Region.ready md ops l2 := mem_ready.2 ⟨by rw [gx, hxl], ox, hox, fun e he hb => by
              have h1 := T.a x ox hox e he hb
              rw [← dflt (by rw [hs2]; omega)]
              exact hall2 e.on (by have := T.kx; omega) (by omega) (by omega)⟩
            refine ⟨fun hr => ?_, fun j hj => ?_⟩
            · exfalso
              rw [hr] at rx
              simp at rx
            · obtain ⟨g0, oj, hoj, hready⟩ := mem_ready.1 hj
              have hjl := (Array.getElem?_eq_some_iff.1 hoj).1
              by_cases e : j = x
              · subst e
                obtain rfl := Option.some.inj (hox.symm.trans hoj)
                have hwant2 : Region.wanted ox (yielded ops a.tmps) = true := by simp [Region.wanted, T.g j ox hox]
                refine wpOp_step hox fun K2 hK2 => ?_
                rw [if_pos hwant2]
                have hll2 := left_set (by rw [hs2]; exact hxs) g0 ops.size hxs
                refine steps j T.kx ox hox a W H.b hW (fun p d hpd => ?_) K2 fun v w' hw hf => ?_
                · unfold waits at hpd
                  rw [hox] at hpd
                  cases hop : ops[p]? with
                  | none => rw [hop] at hpd; simp at hpd
                  | some op =>
                    have hpd0 := hpd
                    rw [hop] at hpd
                    simp only [Bool.and_eq_true, beq_iff_eq] at hpd
                    obtain ⟨e, he, hb⟩ := Array.any_eq_true'.1 hpd.1
                    simp only [Bool.and_eq_true, beq_iff_eq] at hb
                    have h1 := T.a j ox hox e he hb.1
                    have hw' : waits md ops j p d = true := by
                      unfold waits
                      rw [hox, hop]
                      simp only [Bool.and_eq_true, beq_iff_eq]
                      exact hpd
                    exact sx p d _ w W hw' (H.f p op d hop (hahead (i - p) p (Nat.le_refl _) (by have := T.kx; omega) (by omega)) hpd.2)
                · refine hK2 _ _ (fin2 (l2.setIfInBounds j true) f2 _ _ (by simp [hs2]) (fun m hm hms => ?_) ?_ (by omega) ?_ ?_ ?_)
                  · by_cases c : j = m
                    · subst c
                      exact getD_same (by rw [hs2]; exact hxs) _
                    · rw [getD_off c]
                      exact hall2 m hm (Ne.symm c) hms
                  · rw [getD_off (by have := T.kx; omega)]
                    exact g1
                  · exact H.b.put hox v
                  · rw [hdx]
                    exact hR a W w' v hw hRW
                  · rw [hdx, put_at (by rw [H.b.2.1]; exact Nat.lt_of_lt_of_le (T.d j ox dx hox hdx) hn)]
                    exact hf
              · exfalso
                by_cases e2 : j = i + 1
                · subst e2
                  obtain rfl := Option.some.inj (hk2.symm.trans hoj)
                  obtain ⟨_, ⟨e3, he3, hb3, hq3⟩⟩ := T.l o2 hk2
                  have := hready e3 he3 hb3
                  rw [hq3, ← dflt (by rw [hs2]; exact hxs), gx, hxl] at this
                  simp at this
                · rw [hall2 j e2 e hjl] at g0
                  simp at g0
/-- The same for the region. -/
theorem region_late {id : Nat} {w : World} (k x : Nat) (F : Nat → Fact) (hm : P.follows .mixedOrders = true) (hT : textLate .any ops a0.tmps.size k x = true) (steps : ∀ i, i < k → StepOk P .any ops Q F a0 w i) (o1 o2 : Oper) (hk1 : ops[k]? = some o1) (hk2 : ops[k + 1]? = some o2) (dx : Nat) (wx : writes ops x dx = true) (R : Act → World → Prop)
    (hR : ∀ a W W' v, Below W.heap.size W W' → R a W → R (a.put (some dx) v) W')
    (sx : ∀ j d v w w', waits .any ops x j d = true → (F j).p v w → (F j).p v w') (fx : ∀ v w w', (F x).p v w → (F x).p v w')
    (fin : ∀ a W, Based ops a0 a → Below w.heap.size w W → (∀ i d, decide (i < k ∧ i ≠ x) = true → writes ops i d = true → (F i).p (a.tmps.getD d undef) W) →
      ∀ K : Act → World → Prop, (∀ W', Below w.heap.size w W' → R a W' → K a W') → o1.wp P a W K Q)
    (last : ∀ a W, Based ops a0 a → R a W → (F x).p (a.tmps.getD dx undef) W → o2.wp P a W (fun a' w' => Q .normal a' w') Q) : (Code.region id ops true).wp P Q a0 w := by
  have T := textL_of hT
  have z : ∀ j, (Array.replicate ops.size false).getD j false = false := fun j => by
    rw [Array.getD_eq_getD_getElem?, Array.getElem?_replicate]
    split <;> rfl
  refine wp_region_any hm ?_
  refine any_late (w0 := w) T (Nat.le_refl _) steps o1 o2 hk1 hk2 dx wx R hR sx fx (fun a W hb hw hf => fin a W hb hw (fun i d hi hd => ?_)) last ops.size _ a0 _ ?_ ⟨⟨rfl, rfl, fun _ _ => rfl⟩, (Below.refl _ _).drew, ?_, ?_, by simp⟩ (z k) (z (k + 1))
  · obtain ⟨o, ho, hd'⟩ := writes_is hd
    have c := of_decide_eq_true hi
    exact hf i o d c.1 c.2 ho hd'
  · have : ∀ m, left (Array.replicate ops.size false) m ≤ m := by
      intro m
      induction m with
      | zero => exact Nat.le_refl _
      | succ m ih => unfold left; split <;> omega
    exact this _
  · intro i o d ho hl _
    rw [z] at hl
    simp at hl
  · intro i o ho hl
    rw [z] at hl
    simp at hl
theorem puts_late {n k x : Nat} (hT : textLate md ops n k x = true) (hn : n = a0.tmps.size) {a : Act} (hb : Based ops a0 a) (vs : Nat → Value) (hv : ∀ d, a.tmps.getD d undef = vs d) : a = puts vs a0 ops.toList := by
  have T := textL_of hT
  have hin : ∀ o ∈ ops.toList, ∀ e, o.dst = some e → e < a0.tmps.size := fun o ho e he => by
    obtain ⟨i, hi⟩ := List.getElem?_of_mem ho
    have := T.d i o e (by simpa using hi) he
    rw [hn] at this
    exact this
  obtain ⟨s1, s2⟩ := puts_size vs ops.toList a0
  obtain ⟨ta, da⟩ := a
  obtain ⟨h1, h2, h3⟩ := hb
  have e1 : ta = (puts vs a0 ops.toList).tmps := by
    apply Array.ext
    · rw [s1]; exact h2
    · intro i hi hi'
      have g := puts_get vs i ops.toList a0 hin
      have l : ta[i] = ta.getD i undef := by simp [Array.getD_eq_getD_getElem?, hi]
      have r : (puts vs a0 ops.toList).tmps[i] = (puts vs a0 ops.toList).tmps.getD i undef := by simp only [Array.getD_eq_getD_getElem?, Array.getElem?_eq_getElem hi', Option.getD_some]
      rw [l, r, g]
      by_cases c : ops.toList.any (fun o => o.dst == some i) = true
      · rw [if_pos c]; exact hv i
      · rw [if_neg c]
        refine h3 i ?_
        unfold apart
        rw [Array.all_eq_true_iff_forall_mem]
        intro o ho
        have hne : ¬ (o.dst == some i) = true := fun x => c (List.any_eq_true.2 ⟨o, by simpa using ho, x⟩)
        simpa using hne
  have e2 : da = (puts vs a0 ops.toList).defers := h1.trans s2.symm
  subst e1
  subst e2
  rfl
end
end Go.Proofs.YtmanhandajhobaaDoor

/-
  The program's root of an element.
-/
namespace Go.Proofs.YtmanhandajhobaaDoor
set_option maxRecDepth 100000
open Go.RowKit

theorem Blk.l5 {w : World} {g : Nat} {u : Nat → Int} (h : Blk w g .u64 [u 0, u 1, u 2, u 3, u 4]) : w.cell? ⟨g, 0, none⟩ = some (.int .u64 (u 0)) ∧ w.cell? ⟨g, 1, none⟩ = some (.int .u64 (u 1)) ∧ w.cell? ⟨g, 2, none⟩ = some (.int .u64 (u 2)) ∧ w.cell? ⟨g, 3, none⟩ = some (.int .u64 (u 3)) ∧ w.cell? ⟨g, 4, none⟩ = some (.int .u64 (u 4)) := h.f5.1
abbrev put5 (W : World) (p : Nat) (u : Nat → Int) : World := ((((W.setCell ⟨p, 0, none⟩ (.int .u64 (u 0))).setCell ⟨p, 1, none⟩ (.int .u64 (u 1))).setCell ⟨p, 2, none⟩ (.int .u64 (u 2))).setCell ⟨p, 3, none⟩ (.int .u64 (u 3))).setCell ⟨p, 4, none⟩ (.int .u64 (u 4))
theorem put5_same {W : World} {p : Nat} {a b c d e : Int} (u : Nat → Int) (h : Blk W p .u64 [a, b, c, d, e]) : Blk (put5 W p u) p .u64 [u 0, u 1, u 2, u 3, u 4] :=
  ((((h.store 0 _).store 1 _).store 2 _).store 3 _).store 4 _
theorem bset {W : World} {g p i : Nat} {k : IntKind} {ys : List Int} {v : Value} (h : Blk W g k ys) (hne : g ≠ p) : Blk (W.setCell ⟨p, i, none⟩ v) g k ys := h.of_block (heap_setCell_other W ⟨p, i, none⟩ g v hne)
theorem put5_keep {W : World} {p g : Nat} {k : IntKind} {ys : List Int} {u : Nat → Int} (h : Blk W g k ys) (hne : g ≠ p) : Blk (put5 W p u) g k ys := bset (bset (bset (bset (bset h hne) hne) hne) hne) hne

/-- What the root answers. -/
def RootOut (A : Int) (r : Ending) : Prop := (r1I A * r1I A % PP = A ∧ ∃ t, r = .returned (.tuple #[ag5 t, .bool true]) ∧ Lm t ∧ sv t 5 = fin2 (r1I A)) ∨ (¬ r1I A * r1I A % PP = A ∧ r = .returned (.tuple #[ag5 z5e, .bool false]))

set_option maxHeartbeats 8000000 in
theorem root_any (w : World) (e : Nat → Int) (he : Elm e) (hR : HasR w) :
    Calls Tryd.prog 116 #[ag5 e] w fun r w' => RootOut (sv e 5) r ∧ Below w.heap.size w w' := by
  have heL := he.1
  have B0 := blk_box w .u64 58 (e 0) (e 1) (e 2) (e 3) (e 4)
  have n0 : Below w.heap.size w (w.alloc (.cells #[.int .u64 (e 0), .int .u64 (e 1), .int .u64 (e 2), .int .u64 (e 3), .int .u64 (e 4)] 58)) := (Below.refl _ _).alloc (Nat.le_refl _) _
  have s0 : (w.alloc (.cells #[.int .u64 (e 0), .int .u64 (e 1), .int .u64 (e 2), .int .u64 (e 3), .int .u64 (e 4)] 58)).heap.size = w.heap.size + 1 := by simp
  have CH := fun W (h : Below w.heap.size w W) => chain_any W e he 12 2 2 (by omega) (by omega) (by omega) (hR.up h).1
  rw [eRt_ok] at CH
  simp only [ag5] at CH ⊢
  go_enter Tryd.func116, Tryd.ntmps116
  go_upto_region 1 with fail
  generalize w.alloc (.cells #[.int .u64 (e 0), .int .u64 (e 1), .int .u64 (e 2), .int .u64 (e 3), .int .u64 (e 4)] 58) = wa at *
  have B1 := blk_box wa .u64 58 0 0 0 0 0
  have n1 : Below wa.heap.size wa (wa.alloc (.cells #[.int .u64 0, .int .u64 0, .int .u64 0, .int .u64 0, .int .u64 0] 58)) := (Below.refl _ _).alloc (Nat.le_refl _) _
  rw [s0] at B1
  generalize wa.alloc (.cells #[.int .u64 0, .int .u64 0, .int .u64 0, .int .u64 0, .int .u64 0] 58) = wb at *
  have N1 := nxt n0 n1
  obtain ⟨⟨q0, q1, q2, q3, q4⟩, _⟩ := (B0.up n1).f5
  obtain ⟨i0, i1, i2⟩ := (hR.up N1).2.1
  have E0 := B0.up n1
  clear n0 n1 s0 B0
  go_wp2_with fail
  refine (CH wb N1).mono ?_
  rintro r w1 ⟨t, rfl, L, V, n2⟩
  have N2 := nxt N1 n2
  have E02 := E0.up n2
  have E12 := B1.up n2
  have T := blk_box w1 .u64 58 (t 0) (t 1) (t 2) (t 3) (t 4)
  have n3 : Below w1.heap.size w1 (w1.alloc (.cells #[.int .u64 (t 0), .int .u64 (t 1), .int .u64 (t 2), .int .u64 (t 3), .int .u64 (t 4)] 58)) := (Below.refl _ _).alloc (Nat.le_refl _) _
  have VR : Hid (sv t 5 = rtR (sv e 5)) := V
  have zz := E12.lt
  clear CH V q0 q1 q2 q3 q4 i0 i1 i2 E0 B1 N1 n2
  go_upto_region 2 with fail
  have E03 := E02.up n3
  have E13 := E12.up n3
  have N3 := nxt N2 n3
  generalize w1.alloc (.cells #[.int .u64 (t 0), .int .u64 (t 1), .int .u64 (t 2), .int .u64 (t 3), .int .u64 (t 4)] 58) = wr at *
  generalize w1.heap.size = pr at *
  have CE : Hid (∀ W, Below wr.heap.size wr W → (W.cell? ⟨pr, 0, none⟩ = some (.int .u64 (t 0)) ∧ W.cell? ⟨pr, 1, none⟩ = some (.int .u64 (t 1)) ∧ W.cell? ⟨pr, 2, none⟩ = some (.int .u64 (t 2)) ∧ W.cell? ⟨pr, 3, none⟩ = some (.int .u64 (t 3)) ∧ W.cell? ⟨pr, 4, none⟩ = some (.int .u64 (t 4))) ∧ (W.cell? ⟨w.heap.size, 0, none⟩ = some (.int .u64 (e 0)) ∧ W.cell? ⟨w.heap.size, 1, none⟩ = some (.int .u64 (e 1)) ∧ W.cell? ⟨w.heap.size, 2, none⟩ = some (.int .u64 (e 2)) ∧ W.cell? ⟨w.heap.size, 3, none⟩ = some (.int .u64 (e 3)) ∧ W.cell? ⟨w.heap.size, 4, none⟩ = some (.int .u64 (e 4)))) := fun W n => ⟨(T.up n).f5.1, (E03.up n).f5.1⟩
  have SQ : Hid (∀ W, Below wr.heap.size wr W → Calls Tryd.prog 109 #[.agg #[.int .u64 (t 0), .int .u64 (t 1), .int .u64 (t 2), .int .u64 (t 3), .int .u64 (t 4)]] W fun r w' => ∃ u, r = .returned (.agg #[.int .u64 (u 0), .int .u64 (u 1), .int .u64 (u 2), .int .u64 (u 3), .int .u64 (u 4)]) ∧ Hid (Lm u ∧ sv u 5 = sv t 5 * sv t 5 % PP) ∧ Below wr.heap.size wr w') := by
    intro W n
    refine (square_any W t L).mono ?_
    rintro r w' ⟨u, rfl, Lu, Vu, n'⟩
    exact ⟨u, rfl, ⟨Lu, Vu⟩, nxt n n'⟩
  have NG : Hid (∀ W, Below wr.heap.size wr W → Calls Tryd.prog 98 #[.agg #[.int .u64 (e 0), .int .u64 (e 1), .int .u64 (e 2), .int .u64 (e 3), .int .u64 (e 4)]] W fun r w' => ∃ u, r = .returned (.agg #[.int .u64 (u 0), .int .u64 (u 1), .int .u64 (u 2), .int .u64 (u 3), .int .u64 (u 4)]) ∧ Hid (Lm u ∧ sv u 5 = (0 - sv e 5) % PP) ∧ Below wr.heap.size wr w') := by
    intro W n
    refine (negate_any W e heL ((hR.up (nxt N3 n)).2.2.2)).mono ?_
    rintro r w' ⟨u, rfl, Lu, Vu, n'⟩
    exact ⟨u, rfl, ⟨Lu, Vu⟩, nxt n n'⟩
  have nd : Below wr.heap.size wr wr.drew := (Below.refl _ _).drew
  have EQ := eqElem
  go_cut [12] (fun v wc => v = .bool (decide (rtR (sv e 5) * rtR (sv e 5) % PP = (0 - sv e 5) % PP)) ∧ Below wr.heap.size wr wc)
  case first =>
    go_region_held3 (fun W => (W.cell? ⟨pr, 0, none⟩ = some (.int .u64 (t 0)) ∧ W.cell? ⟨pr, 1, none⟩ = some (.int .u64 (t 1)) ∧ W.cell? ⟨pr, 2, none⟩ = some (.int .u64 (t 2)) ∧ W.cell? ⟨pr, 3, none⟩ = some (.int .u64 (t 3)) ∧ W.cell? ⟨pr, 4, none⟩ = some (.int .u64 (t 4))) ∧ (W.cell? ⟨w.heap.size, 0, none⟩ = some (.int .u64 (e 0)) ∧ W.cell? ⟨w.heap.size, 1, none⟩ = some (.int .u64 (e 1)) ∧ W.cell? ⟨w.heap.size, 2, none⟩ = some (.int .u64 (e 2)) ∧ W.cell? ⟨w.heap.size, 3, none⟩ = some (.int .u64 (e 3)) ∧ W.cell? ⟨w.heap.size, 4, none⟩ = some (.int .u64 (e 4))))
      (first | exact (unhide CE) _ nd | exact (unhide CE) _ ns | exact (unhide CE) _ nm)
      (first
        | (go_at_call 109; refine ((unhide SQ) _ (by first | exact nd | exact nm)).mono ?_; rintro r ws ⟨u, rfl, LU, ns⟩)
        | (go_at_call 98; refine ((unhide NG) _ (by first | exact nd | exact ns)).mono ?_; rintro r wm ⟨v, rfl, LV, nm⟩))
    all_goals
      have BB : Hid ((u 0 == v 0 && u 1 == v 1 && u 2 == v 2 && u 3 == v 3 && u 4 == v 4) = decide (rtR (sv e 5) * rtR (sv e 5) % PP = (0 - sv e 5) % PP)) := by
        show _ = _
        rw [eq_Lm LU.out.1 LV.out.1, LU.out.2, LV.out.2, VR.out]
      clear SQ NG CE EQ
      go_wp2_with fail
      go_meet
      first
        | exact ⟨congrArg Value.bool BB.out, nm⟩
        | exact ⟨congrArg Value.bool BB.out, ns⟩
  case rest =>
    obtain ⟨rfl, nc⟩ := hcut
    have T4 := T.up nc
    have E04 := E03.up nc
    have E14 := E13.up nc
    have N4 := nxt N3 nc
    have hR4 := hR.up N4
    have MU := fun W => mulE_any W t iL L iL_lm
    rw [iL_val] at MU
    obtain ⟨j0, j1, j2, j3, j4⟩ : wc.cell? ⟨5, 0, none⟩ = some (.int .u64 (iL 0)) ∧ wc.cell? ⟨5, 1, none⟩ = some (.int .u64 (iL 1)) ∧ wc.cell? ⟨5, 2, none⟩ = some (.int .u64 (iL 2)) ∧ wc.cell? ⟨5, 3, none⟩ = some (.int .u64 (iL 3)) ∧ wc.cell? ⟨5, 4, none⟩ = some (.int .u64 (iL 4)) :=
      ⟨hR4.2.2.1 0 (by omega), hR4.2.2.1 1 (by omega), hR4.2.2.1 2 (by omega), hR4.2.2.1 3 (by omega), hR4.2.2.1 4 (by omega)⟩
    obtain ⟨il, hil⟩ : ∃ f, f = iL := ⟨_, rfl⟩
    rw [← hil] at MU j0 j1 j2 j3 j4
    have ple := T4.lt
    have pe := E04.lt
    clear hil SQ NG CE nd T E02 E12 E03 E13 N2 N3 nc n3
    simp only [ag5] at MU
    have KR : Hid (sv t 5 = rtR (sv e 5)) := VR
    go_upto_if 12 with fail
    go_cut [] (fun wc => ∃ t1, Blk wc pr .u64 [t1 0, t1 1, t1 2, t1 3, t1 4] ∧ Lm t1 ∧ Hid (sv t1 5 = r1I (sv e 5)) ∧ Blk wc w.heap.size .u64 [e 0, e 1, e 2, e 3, e 4] ∧ Blk wc (w.heap.size + 1) .u64 [0, 0, 0, 0, 0] ∧ Below w.heap.size w wc)
    case first =>
      by_cases cc : rtR (sv e 5) * rtR (sv e 5) % PP = (0 - sv e 5) % PP
      · have k1 : Hid (r1I (sv e 5) = sv t 5 * iM % PP) := by show _ = _; rw [KR.out, r1I, if_pos cc]
        rw [decide_eq_true cc]
        clear cc
        obtain ⟨y0, y1, y2, y3, y4⟩ := T4.f5.1
        go_wp2_with fail
        refine (MU wc).mono ?_
        rintro r wm ⟨t1, rfl, L1, V1, nm⟩
        obtain ⟨⟨z0, z1, z2, z3, z4⟩, ⟨f0, f1, f2, f3, f4⟩⟩ := (T4.up nm).f5
        have S0 := put5_same t1 (T4.up nm)
        have S1 := put5_keep (p := pr) (u := t1) (E04.up nm) (by omega)
        have S2 := put5_keep (p := pr) (u := t1) (E14.up nm) (by omega)
        have S3 : Below w.heap.size w (put5 wm pr t1) := below_set5 (nxt N4 nm) (by omega) _ _ _ _ _
        have V1' : Hid (sv t1 5 = r1I (sv e 5)) := by rw [k1.out]; exact V1
        clear MU j0 j1 j2 j3 j4 V1 y0 y1 y2 y3 y4
        go_wp2_with fail
        go_meet
        exact ⟨t1, S0, L1, V1', S1, S2, S3⟩
      · have k1 : Hid (sv t 5 = r1I (sv e 5)) := by show _ = _; rw [KR.out, r1I, if_neg cc]
        rw [decide_eq_false cc]
        clear cc
        go_wp2_with fail
        go_meet
        exact ⟨t, T4, L, k1, E04, E14, N4⟩
    case rest =>
      clear T4 E04 E14 MU j0 j1 j2 j3 j4 N4 hR4 KR VR L
      obtain ⟨t1, T1, L1, V1, E0, E1, N5⟩ := hcut
      have zr := T1.lt
      have CE : Hid (∀ W, Below wc.heap.size wc W → (W.cell? ⟨pr, 0, none⟩ = some (.int .u64 (t1 0)) ∧ W.cell? ⟨pr, 1, none⟩ = some (.int .u64 (t1 1)) ∧ W.cell? ⟨pr, 2, none⟩ = some (.int .u64 (t1 2)) ∧ W.cell? ⟨pr, 3, none⟩ = some (.int .u64 (t1 3)) ∧ W.cell? ⟨pr, 4, none⟩ = some (.int .u64 (t1 4))) ∧ (W.cell? ⟨w.heap.size, 0, none⟩ = some (.int .u64 (e 0)) ∧ W.cell? ⟨w.heap.size, 1, none⟩ = some (.int .u64 (e 1)) ∧ W.cell? ⟨w.heap.size, 2, none⟩ = some (.int .u64 (e 2)) ∧ W.cell? ⟨w.heap.size, 3, none⟩ = some (.int .u64 (e 3)) ∧ W.cell? ⟨w.heap.size, 4, none⟩ = some (.int .u64 (e 4)))) := fun W n => ⟨(T1.up n).f5.1, (E0.up n).f5.1⟩
      have SQ : Hid (∀ W, Below wc.heap.size wc W → Calls Tryd.prog 109 #[.agg #[.int .u64 (t1 0), .int .u64 (t1 1), .int .u64 (t1 2), .int .u64 (t1 3), .int .u64 (t1 4)]] W fun r w' => ∃ u, r = .returned (.agg #[.int .u64 (u 0), .int .u64 (u 1), .int .u64 (u 2), .int .u64 (u 3), .int .u64 (u 4)]) ∧ Hid (Lm u ∧ sv u 5 = sv t1 5 * sv t1 5 % PP) ∧ Below wc.heap.size wc w') := by
        intro W n
        refine (square_any W t1 L1).mono ?_
        rintro r w' ⟨u, rfl, Lu, Vu, n'⟩
        exact ⟨u, rfl, ⟨Lu, Vu⟩, nxt n n'⟩
      have nd : Below wc.heap.size wc wc.drew := (Below.refl _ _).drew
      go_upto_region 4 with fail
      go_cut [19] (fun v wd => v = .bool (!decide (r1I (sv e 5) * r1I (sv e 5) % PP = sv e 5)) ∧ Below wc.heap.size wc wd)
      case first =>
        go_region_held3 (fun W => (W.cell? ⟨pr, 0, none⟩ = some (.int .u64 (t1 0)) ∧ W.cell? ⟨pr, 1, none⟩ = some (.int .u64 (t1 1)) ∧ W.cell? ⟨pr, 2, none⟩ = some (.int .u64 (t1 2)) ∧ W.cell? ⟨pr, 3, none⟩ = some (.int .u64 (t1 3)) ∧ W.cell? ⟨pr, 4, none⟩ = some (.int .u64 (t1 4))) ∧ (W.cell? ⟨w.heap.size, 0, none⟩ = some (.int .u64 (e 0)) ∧ W.cell? ⟨w.heap.size, 1, none⟩ = some (.int .u64 (e 1)) ∧ W.cell? ⟨w.heap.size, 2, none⟩ = some (.int .u64 (e 2)) ∧ W.cell? ⟨w.heap.size, 3, none⟩ = some (.int .u64 (e 3)) ∧ W.cell? ⟨w.heap.size, 4, none⟩ = some (.int .u64 (e 4))))
          (first | exact (unhide CE) _ nd | exact (unhide CE) _ ns)
          (first
            | (go_at_call 109; refine ((unhide SQ) _ nd).mono ?_; rintro r ws ⟨u, rfl, LU, ns⟩))
        all_goals
          have BB : Hid ((u 0 == e 0 && u 1 == e 1 && u 2 == e 2 && u 3 == e 3 && u 4 == e 4) = decide (r1I (sv e 5) * r1I (sv e 5) % PP = sv e 5)) := by
            show _ = _
            rw [eq_Lm LU.out.1 heL, LU.out.2, V1.out]
          clear SQ CE EQ
          go_wp2_with fail
          go_meet
          exact ⟨by rw [← BB.out]; simp only [Bool.not_and], ns⟩
      case rest =>
        obtain ⟨rfl, nc⟩ := hcut
        have T6 := T1.up nc
        have E6 := E1.up nc
        have N6 := nxt N5 nc
        clear SQ CE EQ nd T1 E0 E1 N5 nc
        by_cases gg : r1I (sv e 5) * r1I (sv e 5) % PP = sv e 5
        · have G : Hid (r1I (sv e 5) * r1I (sv e 5) % PP = sv e 5) := gg
          rw [decide_eq_true gg]
          clear gg
          have EV := fun W => isEven_any W t1 L1
          obtain ⟨y0, y1, y2, y3, y4⟩ := T6.f5.1
          by_cases ev : sv t1 5 % 2 = 0
          · have K : Hid (sv t1 5 = fin2 (r1I (sv e 5))) := by show _ = _; rw [← V1.out, fin2, if_pos ev]
            rw [decide_eq_true ev] at EV
            clear ev
            simp only [ag5] at EV
            go_wp2_with fail
            refine (EV _).mono ?_
            rintro r w7 ⟨rfl, n7⟩
            have N7 := nxt N6 n7
            obtain ⟨⟨p0, p1, p2, p3, p4⟩, ⟨g0, g1, g2, g3, g4⟩⟩ := (E6.up n7).f5
            obtain ⟨x0, x1, x2, x3, x4⟩ := (T6.up n7).f5.1
            clear EV y0 y1 y2 y3 y4 T6 E6 N6 n7
            go_wp2
            refine bodyPost_ret (v := .tuple #[ag5 t1, .bool true]) (by simp [ag5, results, Tryd.results116, go_sem, p0, p1, p2, p3, p4]) rfl ⟨Or.inl ⟨G.out, t1, rfl, L1, K.out⟩, ?_⟩
            exact below_set5 N7 (by omega) _ _ _ _ _
          · have K : Hid ((0 - sv t1 5) % PP = fin2 (r1I (sv e 5))) := by show _ = _; rw [← V1.out, fin2, if_neg ev]
            rw [decide_eq_false ev] at EV
            clear ev
            simp only [ag5] at EV
            go_wp2_with fail
            refine (EV _).mono ?_
            rintro r w7 ⟨rfl, n7⟩
            have N7 := nxt N6 n7
            have E7 := E6.up n7
            have T7 := T6.up n7
            obtain ⟨x0, x1, x2, x3, x4⟩ := T7.f5.1
            have NG := fun W (h : Below w.heap.size w W) => negate_any W t1 L1 ((hR.up h).2.2.2)
            simp only [ag5] at NG
            clear EV y0 y1 y2 y3 y4 T6 E6 N6 n7
            go_wp2_with fail
            refine (NG w7 N7).mono ?_
            rintro r w8 ⟨t2, rfl, L2, W2, n8⟩
            have K2 : Hid (sv t2 5 = fin2 (r1I (sv e 5))) := by rw [← K.out]; exact W2
            have N8 := nxt N7 n8
            obtain ⟨⟨z0, z1, z2, z3, z4⟩, ⟨f0, f1, f2, f3, f4⟩⟩ := (T7.up n8).f5
            have S0 := put5_same t2 (T7.up n8)
            have S2 := put5_keep (p := pr) (u := t2) (E7.up n8) (by omega)
            have S3 : Below w.heap.size w (put5 w8 pr t2) := below_set5 N8 (by omega) _ _ _ _ _
            obtain ⟨⟨p0, p1, p2, p3, p4⟩, ⟨g0, g1, g2, g3, g4⟩⟩ := S2.f5
            obtain ⟨c0, c1, c2, c3, c4⟩ := S0.f5.1
            clear NG x0 x1 x2 x3 x4 T7 E7 N7 n8 W2 N8 S0 S2
            go_wp2
            refine bodyPost_ret (v := .tuple #[ag5 t2, .bool true]) (by simp [ag5, results, Tryd.results116, go_sem, p0, p1, p2, p3, p4]) rfl ⟨Or.inl ⟨G.out, t2, rfl, L2, K2.out⟩, ?_⟩
            exact below_set5 S3 (by omega) _ _ _ _ _
        · have G : Hid (¬ r1I (sv e 5) * r1I (sv e 5) % PP = sv e 5) := gg
          rw [decide_eq_false gg]
          clear gg
          obtain ⟨⟨p0, p1, p2, p3, p4⟩, ⟨g0, g1, g2, g3, g4⟩⟩ := E6.f5
          go_wp2
          refine bodyPost_ret (v := .tuple #[ag5 z5e, .bool false]) (by simp [ag5, z5e, results, Tryd.results116, go_sem, p0, p1, p2, p3, p4]) rfl ⟨Or.inr ⟨G.out, rfl⟩, ?_⟩
          exact below_set5 N6 (by omega) _ _ _ _ _
end Go.Proofs.YtmanhandajhobaaDoor

/-
  The program's pointWith: the point of a y and a parity.
-/
namespace Go.Proofs.YtmanhandajhobaaDoor
set_option maxRecDepth 100000
open Go Go.RowKit

/-- What the program's root answers. -/
def irB (A : Int) : Bool := decide (r1I (A % PP) * r1I (A % PP) % PP = A % PP)
def irV (A : Int) : Int := if irB A = true then fin2 (r1I (A % PP)) else 0
theorem r1I_in (A : Int) : 0 ≤ r1I A ∧ r1I A < PP := by
  have p : (0 : Int) < PP := by decide
  have q : PP ≠ 0 := by decide
  unfold r1I rtR
  split
  · exact ⟨Int.emod_nonneg _ q, Int.emod_lt_of_pos _ p⟩
  · exact ⟨Int.emod_nonneg _ q, Int.emod_lt_of_pos _ p⟩
theorem fin2_in {r : Int} (h : 0 ≤ r ∧ r < PP) : 0 ≤ fin2 r ∧ fin2 r < PP := by
  unfold fin2
  split
  · exact h
  · exact ⟨Int.emod_nonneg _ (by decide), Int.emod_lt_of_pos _ (by decide)⟩
/-- An operation that waits for one alone. -/
theorem late_one {md : Region.Mode} {ops : Array Oper} {x j d p : Nat} (h : (match ops[x]? with | some o => o.after.all (fun e => !Region.binds md e || e.on == p) | none => true) = true) (hw : waits md ops x j d = true) : j = p := by
  unfold waits at hw
  cases ho : ops[x]? with
  | none => rw [ho] at hw; simp at hw
  | some o =>
    rw [ho] at hw h
    cases hj : ops[j]? with
    | none => rw [hj] at hw; simp at hw
    | some oj =>
      rw [hj] at hw
      simp only [Bool.and_eq_true, beq_iff_eq] at hw
      obtain ⟨e, he, hb⟩ := Array.any_eq_true'.1 hw.1
      simp only [Bool.and_eq_true, beq_iff_eq] at hb
      have r := (Array.all_eq_true_iff_forall_mem.1 h) e he
      rw [hb.1, hb.2] at r
      simpa using r
section
variable {ops : Array Oper} {Q : Exit → Act → World → Prop} {a0 : Act} {w : World} {id : Nat}
theorem region_newN_late (ty : TypeId) (k jA jV pA pV jB pB dB : Nat) (o1 o2 : Oper) (F : Nat → Fact) (As : List Int) (b : Value) (hT : textLate .any ops a0.tmps.size k jB = true) (hk1 : ops[k]? = some o1) (hk2 : ops[k + 1]? = some o2) (hd1 : o1.dst = none) (hd2 : o2.dst = some dB)
    (hop1 : o1.op = .store ty (.tmp pA) (.tmp pV)) (hop2 : o2.op = .assign (.tmp pB)) (hs : (Tryd.prog.info? ty).map (·.size) = some (5 * As.length)) (ha : 0 < As.length)
    (qA : decide (jA < k ∧ jA ≠ jB) = true) (qV : decide (jV < k ∧ jV ≠ jB) = true) (wA : writes ops jA pA = true) (wV : writes ops jV pV = true) (wB : writes ops jB pB = true) (FA : F jA = NB w (5 * As.length)) (FV : F jV = EN As) (FB : F jB = Fact.eq b) (hne : dB ≠ pA) (hnB : pB ≠ pA) (hz : decide (dB < a0.tmps.size) = true)
    (sx : ∀ j d v w w', waits .any ops jB j d = true → (F j).p v w → (F j).p v w') (steps : ∀ i, i < k → StepOk Tryd.prog .any ops Q F a0 w i)
    (fin : ∀ (vs : Nat → Value) (q : Nat) (W : World), vs pA = .pointer (some ⟨q, 0, none⟩) → vs dB = b → w.heap.size ≤ q → Below w.heap.size w W → RowN W q 0 As → W.there q 0 (5 * As.length) → Q .normal (puts vs a0 ops.toList) W) :
    (Code.region id ops true).wp Tryd.prog Q a0 w := by
  refine region_late k jB F (by kernel_rfl) hT steps o1 o2 hk1 hk2 pB wB (fun a W => ∃ q, a.tmps.getD pA undef = .pointer (some ⟨q, 0, none⟩) ∧ w.heap.size ≤ q ∧ Below w.heap.size w W ∧ RowN W q 0 As ∧ W.there q 0 (5 * As.length)) ?_ sx (fun v u u' h => by rw [FB] at h ⊢; exact h) ?_ ?_
  · rintro a W W' v n ⟨q, e, l, hw, r, th⟩
    exact ⟨q, by rw [put_off (by simpa using hnB)]; exact e, l, nxt hw n, r.up n, there_up (by omega) th n⟩
  · intro a W hb hw hF K hK
    have h1 := hF jA pA qA wA
    have h2 := hF jV pV qV wV
    rw [FA] at h1
    rw [FV] at h2
    obtain ⟨_, q, eq, th, hq⟩ := h1
    obtain ⟨es, ev, V⟩ := h2
    refine wp_store_mid ty (.tmp pA) (.tmp pV) hop1 q 0 (clN es).toArray eq ev (by show W.there q 0 (clN es).length; rw [clN_len V]; exact th) (by show _ = some (clN es).length; rw [clN_len V]; exact hs) (clN_one es) ?_
    rw [hd1]
    exact hK _ (below_setCells hq _ _ _ hw) ⟨q, eq, hq, below_setCells hq _ _ _ hw, set_rowN th ha V, World.there_setCells th _ _ _⟩
  · rintro a W hb ⟨q, eq, hq, hw, r, th⟩ h3
    rw [FB] at h3
    refine wp_assign pB hop2 h3 ?_
    rw [hd2]
    have hb2 : Based ops a0 (a.put (some dB) b) := by rw [← hd2]; exact hb.put hk2 b
    obtain ⟨vs, hvs⟩ : ∃ vs : Nat → Value, ∀ d, (a.put (some dB) b).tmps.getD d undef = vs d := ⟨_, fun _ => rfl⟩
    rw [puts_late hT rfl hb2 vs hvs]
    refine fin vs q W ?_ ?_ hq hw r th
    · rw [← hvs, put_off (by simpa using hne)]
      exact eq
    · rw [← hvs, put_at (by rw [hb.2.1]; exact of_decide_eq_true hz)]
end
section
variable {ops : Array Oper} {Q : Exit → Act → World → Prop} {md : Region.Mode} {F : Nat → Fact} {a0 : Act} {w0 : World} {i : Nat} {o : Oper} {ts : Array TypeId}
theorem step_root5 (RR : HasR w0) (hi : ops[i]? = some o) (p j : Nat) (A : Int) (hop : o.op = .call { callee := .value (.func 116), args := #[.tmp p], argTypes := ts })
    (hj : waits md ops i j p = true) (hFj : F j = EM A) (hFi : F i = TB [irV A] (irB A)) : StepOk Tryd.prog md ops Q F a0 w0 i := by
  refine step_call hi _ _ ts hop (by kernel_rfl) fun a w _ hw hF => ?_
  have ea := hF j p hj
  rw [hFj] at ea
  obtain ⟨t, e1, L1, V1⟩ := ea
  show Calls Tryd.prog 116 #[a.tmps.getD p undef] w _
  rw [e1]
  refine (root_any w t (Elm.of L1 V1) (RR.up hw)).mono ?_
  rintro r w' ⟨hr, hn⟩
  rw [hFi]
  rw [V1] at hr
  rcases hr with ⟨h1, u, rfl, L, V⟩ | ⟨h1, rfl⟩
  · have hb : irB A = true := decide_eq_true h1
    refine ⟨_, rfl, hn, [u], by rw [hb]; simp [agN, clN, ag5, cl5], ⟨L, ?_⟩, trivial⟩
    unfold irV
    have k := fin2_in (r1I_in (A % PP))
    rw [if_pos hb, V, Int.emod_eq_of_lt k.1 k.2]
  · have hb : irB A = false := decide_eq_false h1
    refine ⟨_, rfl, hn, [z5e], by rw [hb]; simp [agN, clN, ag5, cl5], ⟨z5e_lm, ?_⟩, trivial⟩
    unfold irV
    rw [if_neg (by rw [hb]; simp), z5e_val]
    rfl
end
/-- The square of x that y tells, as the program has it; the x. -/
def pwZ (D A : Int) : Int := (A * A - 1) * (A * A * D + 1) ^ eInv
def pwX (D A : Int) (odd : Bool) : Int := if odd = true then 0 - irV (pwZ D A) else irV (pwZ D A)
set_option maxHeartbeats 4000000 in
theorem pointWith_any (w : World) (e : Nat → Int) (A : Int) (odd : Bool) (he : Is5 e A) (D : Int) (TT : HasTw w 2) (CC : Em5 w 1 0 D) (SS : HasSt w 6) (II : Has3 w 3 12 5 4) (RR : HasR w) :
    Calls Tryd.prog 96 #[ag5 e, .bool odd] w fun r w' => ∃ es, r = .returned (.tuple #[agN es, .bool (irB (pwZ D A))]) ∧ IsN es [pwX D A odd, A] ∧ Below w.heap.size w w' := by
  have EY := em5_new w 58 he
  have m1 : Below w.heap.size w (w.alloc (.cells #[.int .u64 (e 0), .int .u64 (e 1), .int .u64 (e 2), .int .u64 (e 3), .int .u64 (e 4)] 58)) := (Below.refl _ _).alloc (Nat.le_refl _) _
  have s1 : (w.alloc (.cells #[.int .u64 (e 0), .int .u64 (e 1), .int .u64 (e 2), .int .u64 (e 3), .int .u64 (e 4)] 58)).heap.size = w.heap.size + 1 := by simp
  simp only [ag5]
  go_enter Tryd.func96, Tryd.ntmps96
  go_upto_region 1 with fail
  generalize w.alloc (.cells #[.int .u64 (e 0), .int .u64 (e 1), .int .u64 (e 2), .int .u64 (e 3), .int .u64 (e 4)] 58) = wa at *
  have TR : (wa.alloc zA).there wa.heap.size 0 10 := there_new wa _ _
  have mz : Below wa.heap.size wa (wa.alloc zA) := (Below.refl _ _).alloc (Nat.le_refl _) _
  rw [s1] at TR
  have N := nxt m1 mz
  replace EY := EY.up mz
  obtain ⟨wr, hwr⟩ : ∃ W, W = wa.alloc zA := ⟨_, rfl⟩
  rw [← hwr] at TR N EY
  change Code.wp _ _ _ _ (wa.alloc zA)
  rw [← hwr]
  clear hwr m1 mz s1 he
  replace TT := TT.up N
  replace CC := CC.up N
  replace SS := SS.up N
  replace II := II.up N
  replace RR := RR.up N
  refine region_new2 5 3 0 6 12 4 2 7 14 _ _ (fun i => [EM (1), EM (A), EM ((A) * (A)), NB wr 5, NB wr 5].getD i Fact.no) (1) ((A) * (A)) (by kernel_rfl) rfl rfl rfl rfl rfl rfl rfl rfl rfl (by kernel_rfl) (by kernel_rfl) (by kernel_rfl) (by kernel_rfl) rfl rfl rfl rfl (by decide) (fresh_new5 rfl rfl rfl) (fresh_new5 rfl rfl rfl) ?_ ?_
  · intro i hi
    obtain rfl | rfl | rfl | rfl | rfl : i = 0 ∨ i = 1 ∨ i = 2 ∨ i = 3 ∨ i = 4 := by omega
    · exact step_b5 rfl 1 (by omega) rfl rfl
    · exact step_e5 rfl 2 rfl (by kernel_rfl) _ _ rfl _ EY rfl
    · exact step_sq5 rfl 13 1 _ rfl (by kernel_rfl) rfl rfl
    · exact step_new5 rfl rfl rfl
    · exact step_new5 rfl rfl rfl
  intro vs1 q6 q7 W1 v6 v7 l6 l7 n67 n E6 E7
  replace EY := EY.up n
  replace TT := TT.up n
  replace CC := CC.up n
  replace SS := SS.up n
  replace II := II.up n
  replace RR := RR.up n
  replace TR := there_up (by omega) TR n
  replace N := nxt N n
  clear n n67
  obtain ⟨x7, g7⟩ : ∃ e : Int, e = A * A := ⟨_, rfl⟩
  rw [← g7] at E7
  simp only [puts, v6, v7, Act.put, List.setIfInBounds_toArray, List.set_cons_succ, List.set_cons_zero]
  clear v6 v7
  go_upto_region 2 with fail
  refine region_new2 10 8 2 8 17 9 7 9 22 _ _ (fun i => [EM (x7), EM (1), EM ((x7) - (1)), EM (x7), EM (D), EM ((x7) * (D)), EM (1), EM (((x7) * (D)) + (1)), NB W1 5, NB W1 5].getD i Fact.no) ((x7) - (1)) (((x7) * (D)) + (1)) (by kernel_rfl) rfl rfl rfl rfl rfl rfl rfl rfl rfl (by kernel_rfl) (by kernel_rfl) (by kernel_rfl) (by kernel_rfl) rfl rfl rfl rfl (by decide) (fresh_new5 rfl rfl rfl) (fresh_new5 rfl rfl rfl) ?_ ?_
  · intro i hi
    obtain rfl | rfl | rfl | rfl | rfl | rfl | rfl | rfl | rfl | rfl : i = 0 ∨ i = 1 ∨ i = 2 ∨ i = 3 ∨ i = 4 ∨ i = 5 ∨ i = 6 ∨ i = 7 ∨ i = 8 ∨ i = 9 := by omega
    · exact step_e5 rfl 7 rfl (by kernel_rfl) _ _ rfl _ E7 rfl
    · exact step_e5 rfl 6 rfl (by kernel_rfl) _ _ rfl _ E6 rfl
    · exact step_sub5 TT rfl 15 16 0 1 _ _ rfl (by kernel_rfl) (by kernel_rfl) rfl rfl rfl
    · exact step_e5 rfl 7 rfl (by kernel_rfl) _ _ rfl _ E7 rfl
    · exact step_gl5 rfl 1 rfl _ CC rfl
    · exact step_mul5 rfl 18 19 3 4 _ _ rfl (by kernel_rfl) (by kernel_rfl) rfl rfl rfl
    · exact step_e5 rfl 6 rfl (by kernel_rfl) _ _ rfl _ E6 rfl
    · exact step_add5 rfl 20 21 5 6 _ _ rfl (by kernel_rfl) (by kernel_rfl) rfl rfl rfl
    · exact step_new5 rfl rfl rfl
    · exact step_new5 rfl rfl rfl
  intro vs2 q8 q9 W2 v8 v9 l8 l9 n89 n E8 E9
  replace EY := EY.up n
  replace TT := TT.up n
  replace SS := SS.up n
  replace II := II.up n
  replace RR := RR.up n
  replace TR := there_up (by omega) TR n
  replace N := nxt N n
  clear n n89 E6 E7 CC
  obtain ⟨x8, g8⟩ : ∃ e : Int, e = x7 - 1 := ⟨_, rfl⟩
  obtain ⟨x9, g9⟩ : ∃ e : Int, e = x7 * D + 1 := ⟨_, rfl⟩
  rw [← g8] at E8
  rw [← g9] at E9
  have hZ0 : pwZ D A = x8 * x9 ^ eInv := by rw [g8, g9, g7]; rfl
  simp only [puts, v8, v9, Act.put, List.setIfInBounds_toArray, List.set_cons_succ, List.set_cons_zero]
  clear v8 v9 g7 g8 g9
  go_upto_region 3 with fail
  refine region_newN_late 58 9 8 6 10 29 7 30 11 _ _ (fun i => [EM (x8), EM (x9), EM ((x9) ^ eInv), EM ((x8) * ((x9) ^ eInv)), TB [irV ((x8) * ((x9) ^ eInv))] (irB ((x8) * ((x9) ^ eInv))), TB [irV ((x8) * ((x9) ^ eInv))] (irB ((x8) * ((x9) ^ eInv))), EN [irV ((x8) * ((x9) ^ eInv))], Fact.eq (.bool (irB ((x8) * ((x9) ^ eInv)))), NB W2 5].getD i Fact.no) [irV ((x8) * ((x9) ^ eInv))] (.bool (irB ((x8) * ((x9) ^ eInv)))) (by kernel_rfl) rfl rfl rfl rfl rfl rfl i5 (Nat.zero_lt_succ _) rfl rfl (by kernel_rfl) (by kernel_rfl) (by kernel_rfl) rfl rfl rfl (by decide) (by decide) (by kernel_rfl) ?_ ?_ ?_
  · intro j d v u u' hw h
    obtain rfl : j = 5 := late_one (by kernel_rfl) hw
    exact h
  · intro i hi
    obtain rfl | rfl | rfl | rfl | rfl | rfl | rfl | rfl | rfl : i = 0 ∨ i = 1 ∨ i = 2 ∨ i = 3 ∨ i = 4 ∨ i = 5 ∨ i = 6 ∨ i = 7 ∨ i = 8 := by omega
    · exact step_e5 rfl 8 rfl (by kernel_rfl) _ _ rfl _ E8 rfl
    · exact step_e5 rfl 9 rfl (by kernel_rfl) _ _ rfl _ E9 rfl
    · exact step_inv5 SS II rfl 25 1 _ rfl (by kernel_rfl) rfl rfl
    · exact step_mul5 rfl 24 26 0 2 _ _ rfl (by kernel_rfl) (by kernel_rfl) rfl rfl rfl
    · exact step_root5 RR rfl 27 3 _ rfl (by kernel_rfl) rfl rfl
    · exact step_move rfl 28 4 (by exact Or.inl rfl) (by kernel_rfl) rfl
    · exact step_tx0 rfl 23 5 _ _ rfl (by kernel_rfl) rfl rfl
    · exact step_tx1 rfl 23 5 _ _ rfl (by kernel_rfl) rfl rfl
    · exact step_new5 rfl rfl rfl
  intro vs3 q10 W3 v10 b11 l10 n R10 T10
  have z3 := there_lt (by omega) TR
  replace EY := EY.up n
  replace TT := TT.up n
  replace TR := there_up (by omega) TR n
  have z2 := N.size
  replace N := nxt N n
  clear n E8 E9 SS II RR
  have E10 := R10.at0
  clear R10
  obtain ⟨Z, gZ⟩ : ∃ e : Int, e = x8 * x9 ^ eInv := ⟨_, rfl⟩
  rw [← gZ] at b11 E10 hZ0
  have hZ := hide hZ0
  clear gZ hZ0
  obtain ⟨x10, g10⟩ : ∃ e : Int, e = irV Z := ⟨_, rfl⟩
  rw [← g10] at E10
  have hW : q10 ≠ w.heap.size ∧ q10 ≠ w.heap.size + 1 := ⟨by omega, by omega⟩
  simp only [puts, v10, b11, Act.put, List.setIfInBounds_toArray, List.set_cons_succ, List.set_cons_zero]
  clear v10 b11
  cases odd with
  | false =>
    have hP := hide (show pwX D A false = x10 by unfold pwX; rw [hZ.out, ← g10]; rfl)
    clear g10
    obtain ⟨WW, hWW⟩ : ∃ W, W = W3 := ⟨_, rfl⟩
    rw [← hWW] at N TR E10 EY TT T10 ⊢
    clear hWW
    go_upto_region 6 with fail
    refine region_putN_asg 60 4 2 4 36 3 37 5 _ _ (fun i => [EM (x10), EM (A), EN [x10, A], Fact.eq (.bool (irB Z))].getD i Fact.no) [x10, A] (.bool (irB Z)) _ (by kernel_rfl) rfl rfl rfl rfl rfl rfl iA (Nat.zero_lt_succ _) (by kernel_rfl) rfl TR rfl rfl (by kernel_rfl) (by kernel_rfl) rfl rfl (by kernel_rfl) ?_ ?_
    · intro i hi
      obtain rfl | rfl | rfl | rfl : i = 0 ∨ i = 1 ∨ i = 2 ∨ i = 3 := by omega
      · exact step_e5 rfl 10 rfl (by kernel_rfl) _ _ rfl _ E10 rfl
      · exact step_e5 rfl 2 rfl (by kernel_rfl) _ _ rfl _ EY rfl
      · exact step_bA rfl 34 35 0 1 _ _ rfl (by kernel_rfl) (by kernel_rfl) rfl rfl rfl
      · exact step_mv rfl 11 rfl (by kernel_rfl) rfl rfl
    intro vs6 Wa Wb vb na bq RL nb
    have NS := nb w w.heap.size (nxt N na) (by omega)
    simp only [puts, vb, Act.put, List.setIfInBounds_toArray, List.set_cons_succ, List.set_cons_zero]
    clear vb bq nb na N TR E10 EY
    go_wp2
    obtain ⟨es, rg, _, ht⟩ := RL
    have lz := clN_len ht
    obtain ⟨fs, hfs⟩ := uA
    exact bodyPost_ret (v := .tuple #[agN es, .bool (irB Z)]) (results_cell_slot Tryd.results96 _ _ (w.heap.size + 1) (clN es) _ rfl rfl rg hfs rfl (by rw [lz]; exact iA)) rfl ⟨es, by rw [hZ.out], by rw [hP.out]; exact ht, NS⟩
  | true =>
    have hP := hide (show pwX D A true = 0 - x10 by unfold pwX; rw [hZ.out, ← g10]; rfl)
    clear g10
    go_upto_region 5 with fail
    refine region_put5 2 1 10 33 _ (fun i => [EM (x10), EM (0 - (x10))].getD i Fact.no) (0 - (x10)) _ (by kernel_rfl) rfl rfl rfl (by kernel_rfl) rfl T10 (by kernel_rfl) rfl ?_ ?_
    · intro i hi
      obtain rfl | rfl : i = 0 ∨ i = 1 := by omega
      · exact step_e5 rfl 10 rfl (by kernel_rfl) _ _ rfl _ E10 rfl
      · exact step_ngl TT rfl 32 0 _ rfl (by kernel_rfl) rfl rfl
    intro vs5 Wx WW n bq E10' nb
    replace EY := EY.but bq (Ne.symm hW.1)
    replace TR := there_but (by omega) TR bq (Ne.symm hW.2)
    have N' := nb w w.heap.size (nxt N n) (by omega)
    clear N n bq nb E10 T10
    have N := N'
    have E10 := E10'
    clear N' E10'
    simp only [puts, Act.put, List.setIfInBounds_toArray, List.set_cons_succ, List.set_cons_zero]
    go_upto_region 6 with fail
    refine region_putN_asg 60 4 2 4 36 3 37 5 _ _ (fun i => [EM (0 - x10), EM (A), EN [0 - x10, A], Fact.eq (.bool (irB Z))].getD i Fact.no) [0 - x10, A] (.bool (irB Z)) _ (by kernel_rfl) rfl rfl rfl rfl rfl rfl iA (Nat.zero_lt_succ _) (by kernel_rfl) rfl TR rfl rfl (by kernel_rfl) (by kernel_rfl) rfl rfl (by kernel_rfl) ?_ ?_
    · intro i hi
      obtain rfl | rfl | rfl | rfl : i = 0 ∨ i = 1 ∨ i = 2 ∨ i = 3 := by omega
      · exact step_e5 rfl 10 rfl (by kernel_rfl) _ _ rfl _ E10 rfl
      · exact step_e5 rfl 2 rfl (by kernel_rfl) _ _ rfl _ EY rfl
      · exact step_bA rfl 34 35 0 1 _ _ rfl (by kernel_rfl) (by kernel_rfl) rfl rfl rfl
      · exact step_mv rfl 11 rfl (by kernel_rfl) rfl rfl
    intro vs6 Wa Wb vb na bq RL nb
    have NS := nb w w.heap.size (nxt N na) (by omega)
    simp only [puts, vb, Act.put, List.setIfInBounds_toArray, List.set_cons_succ, List.set_cons_zero]
    clear vb bq nb na N TR E10 EY
    go_wp2
    obtain ⟨es, rg, _, ht⟩ := RL
    have lz := clN_len ht
    obtain ⟨fs, hfs⟩ := uA
    exact bodyPost_ret (v := .tuple #[agN es, .bool (irB Z)]) (results_cell_slot Tryd.results96 _ _ (w.heap.size + 1) (clN es) _ rfl rfl rg hfs rfl (by rw [lz]; exact iA)) rfl ⟨es, by rw [hZ.out], by rw [hP.out]; exact ht, NS⟩
end Go.Proofs.YtmanhandajhobaaDoor
