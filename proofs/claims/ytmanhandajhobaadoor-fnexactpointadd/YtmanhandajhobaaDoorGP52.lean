import Derived.Test.YtmanhandajhobaaDoorGP51

/-
  The model's PointBase.
-/
namespace Go.Proofs.YtmanhandajhobaaDoor
set_option maxRecDepth 100000
open Go Go.RowKit

set_option maxHeartbeats 2000000 in
theorem specBase_any (w : World) : Calls Tryd.prog 57 #[] w fun r w' => NewPt w.heap.size w' r (liX (4 * iv 5) false) (liY (4 * iv 5) false) ∧ Below w.heap.size w w' := by
  have TZ : Two (w.alloc pObj) w.heap.size (.slice none 0 0) (.slice none 0 0) := Two.new w (.slice none 0 0) (.slice none 0 0) 26
  have N : Below w.heap.size w (w.alloc pObj) := (Below.refl _ _).alloc (Nat.le_refl _) _
  go_enter Tryd.func57, Tryd.ntmps57
  go_upto_region 1 with fail
  change Code.wp _ _ _ _ (w.alloc pObj)
  generalize w.alloc pObj = wr at *
  go_wp2_with fail
  refine (l2SmallB_any wr 4 (by omega)).mono ?_
  rintro r w1 ⟨t4, rfl, L4, V4, n⟩
  replace TZ := TZ.up n
  replace N := nxt N n
  clear n
  go_wp2_with fail
  refine (l2SmallB_any w1 5 (by omega)).mono ?_
  rintro r w2 ⟨t5, rfl, L5, V5, n⟩
  replace TZ := TZ.up n
  replace N := nxt N n
  clear n
  go_wp2_with fail
  refine (l2Inv_any w2 t5 L5).mono ?_
  rintro r w3 ⟨t6, rfl, L6, V6, n⟩
  replace TZ := TZ.up n
  replace N := nxt N n
  clear n
  go_wp2_with fail
  refine (l2Mul_any w3 t4 t6 L4 L6).mono ?_
  rintro r w4 ⟨t7, rfl, L7, V7, n⟩
  replace TZ := TZ.up n
  replace N := nxt N n
  clear n
  have V : s16 t7 16 % PP = 4 * iv 5 % PP := by
    rw [V7]
    exact mod_mul V4 (V6.trans (pow_mod V5 _))
  have z4 := TZ.lt
  have LF := hide (l5Lift_any w4 t7 (4 * iv 5) ⟨L7, V⟩ false)
  clear V4 V5 V6 V7 V L4 L5 L6 L7
  obtain ⟨X, hX⟩ : ∃ X, X = liX (4 * iv 5) false := ⟨_, rfl⟩
  obtain ⟨Y, hY⟩ : ∃ Y, Y = liY (4 * iv 5) false := ⟨_, rfl⟩
  rw [← hX, ← hY] at LF
  have KX := hide hX
  have KY := hide hY
  clear hX hY
  generalize liB (4 * iv 5) false = bb at *
  go_wp2_with fail
  refine LF.out.mono ?_
  rintro r w5 ⟨⟨a1, a2, c1, c2, g1, g2, rfl, o1, o2, l1, l2⟩, n⟩
  replace TZ := TZ.up n
  have z := N.size
  have zz := TZ.lt
  replace N := nxt N n
  clear n LF
  have TN := Two.new w5 (.slice a1 X.length c1) (.slice a2 Y.length c2) 26
  have m : Below w5.heap.size w5 (w5.alloc (.cells #[.slice a1 X.length c1, .slice a2 Y.length c2] 26)) := (Below.refl _ _).alloc (Nat.le_refl _) _
  go_upto_region 2 with fail
  generalize w5.alloc (.cells #[.slice a1 X.length c1, .slice a2 Y.length c2] 26) = w6 at *
  obtain ⟨p0, p1, _, _⟩ := TN
  obtain ⟨y0, y1, f0, f1⟩ := TZ.up m
  replace N := nxt N m
  replace o1 := o1.up m
  replace o2 := o2.up m
  have O := (Only.setCell w6 w.heap.size 0 (.slice a1 X.length c1)).trans (Only.setCell _ w.heap.size 1 (.slice a2 Y.length c2))
  have o1' := o1.only O (fun _ => by omega)
  have o2' := o2.only O (fun _ => by omega)
  have N' := N.trans (O.below (Nat.le_refl _))
  clear TZ m o1 o2 O N
  go_wp2
  refine bodyPost_ret (v := .agg #[.slice a1 X.length c1, .slice a2 Y.length c2]) (by simp [results, Tryd.results57, go_sem, y0, y1]) rfl ⟨?_, N'⟩
  rw [← KX.out, ← KY.out]
  exact ⟨a1, a2, c1, c2, g1, g2, rfl, o1', o2', by omega, by omega⟩
end Go.Proofs.YtmanhandajhobaaDoor

/-
  The model's PointDecode.
-/
namespace Go.Proofs.YtmanhandajhobaaDoor
set_option maxRecDepth 100000
open Go Go.RowKit

def low7s (xs : List Int) : List Int := xs.set 31 (xs.getD 31 0 % 128)
def dcB (xs : List Int) : Bool := decide (xs.length = 32) && (canN (low7s xs) && liB (num (low7s xs)) (decide (128 ≤ xs.getD 31 0)))
def dcX (xs : List Int) : List Int := if dcB xs = true then liX (num (low7s xs)) (decide (128 ≤ xs.getD 31 0)) else []
def dcY (xs : List Int) : List Int := if dcB xs = true then liY (num (low7s xs)) (decide (128 ≤ xs.getD 31 0)) else []
def NewPR (B : Nat) (w' : World) (e : Ending) (b : Bool) (xs ys : List Int) : Prop :=
  ∃ (a a' : Option Addr) (c c' g g' : Nat), e = .returned (.agg #[.bool b, .slice a xs.length c, .slice a' ys.length c']) ∧ Own w' g a .u8 xs ∧ Own w' g' a' .u8 ys ∧ B ≤ g ∧ B ≤ g'
theorem newPR_nil {B : Nat} {w : World} : NewPR B w (.returned (.agg #[.bool false, .slice none 0 0, .slice none 0 0])) false [] [] := ⟨none, none, 0, 0, B, B, rfl, Own.nil _ _ _ _, Own.nil _ _ _ _, Nat.le_refl _, Nat.le_refl _⟩
theorem li_nil {A : Int} {odd : Bool} (h : liB A odd = false) : liX A odd = [] ∧ liY A odd = [] := by
  unfold liX liY
  rw [if_neg (by rw [h]; simp), if_neg (by rw [h]; simp)]
  exact ⟨rfl, rfl⟩
/-- What was lifted, as it is answered. -/
def LiF (w0 : World) (A : Int) (odd : Bool) : Fact := ⟨fun v w => ∃ (a a' : Option Addr) (c c' g g' : Nat), v = .tuple #[.bool (liB A odd), .agg #[.slice a (liX A odd).length c, .slice a' (liY A odd).length c']] ∧ Own w g a .u8 (liX A odd) ∧ Own w g' a' .u8 (liY A odd) ∧ w0.heap.size ≤ g ∧ w0.heap.size ≤ g', fun n h => by
  obtain ⟨a, a', c, c', g, g', e, o, o', q⟩ := h
  exact ⟨a, a', c, c', g, g', e, o.up n, o'.up n, q⟩⟩
/-- A point's block made in the region, still empty. -/
def NBp (w0 : World) : Fact := ⟨fun v w => ∃ q, v = .pointer (some ⟨q, 0, none⟩) ∧ w.heap[q]? = some pObj ∧ w0.heap.size ≤ q, fun {v w w'} n h => by
  obtain ⟨q, e, h, l⟩ := h
  exact ⟨q, e, (n.block q (Array.getElem?_eq_some_iff.1 h).1).trans h, l⟩⟩
theorem pObj_there {W : World} {q : Nat} (h : W.heap[q]? = some pObj) : W.there q 0 2 := fun j hj => by
  constructor
  · unfold World.cell?
    simp only
    rw [h]
    obtain rfl | rfl : j = 0 ∨ j = 1 := by omega
    all_goals rfl
  · unfold World.frozen?
    simp only
    rw [h]
    simp
theorem own_ne {W : World} {q g : Nat} {a : Option Addr} {xs : List Int} (h : W.heap[q]? = some pObj) (o : Own W g a .u8 xs) (h0 : 0 < xs.length) : g ≠ q := fun e => by
  obtain ⟨off, _, hc⟩ := o h0
  have c := (hc 0 h0).1
  subst e
  unfold World.cell? at c
  simp only at c
  rw [h] at c
  rcases (show off = 0 ∨ off = 1 ∨ 2 ≤ off by omega) with r | r | r
  · subst r
    simp at c
  · subst r
    simp at c
  · have : ([Value.slice none 0 0, .slice none 0 0].toArray)[off + 0]? = none := by simp; omega
    simp only [this] at c
    simp at c
theorem en_lift : enters Tryd.prog 54 = true := by kernel_rfl
section
variable {ops : Array Oper} {Q : Exit → Act → World → Prop} {md : Region.Mode} {F : Nat → Fact} {a0 : Act} {w0 : World} {i : Nat} {o : Oper} {ts : Array TypeId}
theorem step_mvp {P : Program} (hi : ops[i]? = some o) (p : Nat) (hop : o.op = .move (.tmp p)) (hp : apart ops p = true) {v : Value} (h0 : a0.tmps.getD p undef = v) (hF : F i = Fact.eq v) : StepOk P md ops Q F a0 w0 i := by
  refine step_pure hi fun b w hb hw _ => ⟨v, ?_, by rw [hF]; exact rfl⟩
  have e := (based_at hb p hp).trans h0
  simp [execOp, hop, e]
theorem step_of32 (hi : ops[i]? = some o) (p j : Nat) {a : Option Addr} {c : Nat} {xs : List Int} (hop : o.op = .call { callee := .value (.func 36), args := #[.tmp p], argTypes := ts })
    (hj : waits md ops i j p = true) (hO : OfOk w0 a xs) (hFj : F j = Fact.eq (.slice a 32 c)) (hFi : F i = EL (num xs)) : StepOk Tryd.prog md ops Q F a0 w0 i := by
  have hl : xs.length = 32 := by obtain ⟨_, _, _, h⟩ := hO; exact h
  exact step_of hi p j hop hj hO (hFj.trans (by rw [hl])) hFi
theorem step_at31 (hi : ops[i]? = some o) (p j : Nat) {g off c : Nat} (hop : o.op = .indexAddr 22 (.tmp p) (.const (.int .i64 31))) (hj : waits md ops i j p = true) (hFj : F j = Fact.eq (.slice (some ⟨g, off, none⟩) 32 c)) (hF : F i = Fact.eq (.pointer (some ⟨g, off + 31, none⟩))) : StepOk Tryd.prog md ops Q F a0 w0 i := by
  refine step_pure hi fun a w hb hw hf => ⟨.pointer (some ⟨g, off + 31, none⟩), ?_, by rw [hF]; exact rfl⟩
  have e := hf j p hj
  rw [hFj] at e
  have e' : a.eval (.tmp p) = .slice (some ⟨g, off, none⟩) 32 c := e
  have e2 : a.eval (.const (.int .i64 31)) = .int .i64 31 := rfl
  simp only [execOp, hop, e', e2]
  go_simp
theorem step_ld8 (hi : ops[i]? = some o) (p j : Nat) {q off : Nat} {v : Value} (hop : o.op = .load 5 (.tmp p)) (hj : waits md ops i j p = true) (hFj : F j = Fact.eq (.pointer (some ⟨q, off, none⟩))) (hc : w0.cell? ⟨q, off, none⟩ = some v) (hF : F i = Fact.eq v) : StepOk Tryd.prog md ops Q F a0 w0 i := by
  refine step_pure hi fun a w _ hw hf => ⟨v, ?_, by rw [hF]; exact rfl⟩
  have e := hf j p hj
  rw [hFj] at e
  have e' : a.eval (.tmp p) = .pointer (some ⟨q, off, none⟩) := e
  have c' : w.cell? ⟨q, off, none⟩ = some v := (hw.cell (block_lt_of_cell hc)).trans hc
  simp only [execOp, hop, e']
  go_simp
theorem step_geq (hi : ops[i]? = some o) (p j : Nat) {v : Int} {b : Bool} (hop : o.op = .binOp .geq 5 (.tmp p) (.const (.int .u8 128)) 5) (hj : waits md ops i j p = true) (hFj : F j = Fact.eq (.int .u8 v)) (hb : b = decide (128 ≤ v)) (hF : F i = Fact.eq (.bool b)) : StepOk Tryd.prog md ops Q F a0 w0 i := by
  refine step_pure hi fun a w _ hw hf => ⟨.bool b, ?_, by rw [hF]; exact rfl⟩
  have e := hf j p hj
  rw [hFj] at e
  have e' : a.eval (.tmp p) = .int .u8 v := e
  have e2 : a.eval (.const (.int .u8 128)) = .int .u8 128 := rfl
  subst hb
  simp only [execOp, hop, e', e2]
  go_simp
theorem step_lift (hi : ops[i]? = some o) (p q j k : Nat) {A : Int} {odd : Bool} (hop : o.op = .call { callee := .value (.func 54), args := #[.tmp p, .tmp q], argTypes := ts })
    (hj : waits md ops i j p = true) (hk : waits md ops i k q = true) (hFj : F j = EL A) (hFk : F k = Fact.eq (.bool odd)) (hFi : F i = LiF w0 A odd) : StepOk Tryd.prog md ops Q F a0 w0 i := by
  refine step_call hi _ _ ts hop en_lift fun a w _ hw hF => ?_
  have ea := hF j p hj
  have eb := hF k q hk
  rw [hFj] at ea
  rw [hFk] at eb
  obtain ⟨t, e1, L1, V1⟩ := ea
  have e2 : a.tmps.getD q undef = .bool odd := eb
  show Calls Tryd.prog 54 #[a.tmps.getD p undef, a.tmps.getD q undef] w _
  rw [e1, e2]
  refine (l5Lift_any w t A ⟨L1, V1⟩ odd).mono ?_
  rintro r w' ⟨⟨b, b', c, c', g, g', rfl, o1, o2, l1, l2⟩, hn⟩
  rw [hFi]
  exact ⟨_, rfl, hn, b, b', c, c', g, g', rfl, o1, o2, Nat.le_trans hw.size l1, Nat.le_trans hw.size l2⟩
theorem step_exL0 {P : Program} (hi : ops[i]? = some o) (p j : Nat) {A : Int} {odd : Bool} (hop : o.op = .extract (.tmp p) 0) (hj : waits md ops i j p = true) (hFj : F j = LiF w0 A odd) (hFi : F i = Fact.eq (.bool (liB A odd))) : StepOk P md ops Q F a0 w0 i := by
  refine step_pure hi fun a w _ _ hf => ⟨.bool (liB A odd), ?_, by rw [hFi]; exact rfl⟩
  have e := hf j p hj
  rw [hFj] at e
  obtain ⟨b, b', c, c', g, g', e, _⟩ := e
  have e' : a.eval (.tmp p) = .tuple #[.bool (liB A odd), .agg #[.slice b (liX A odd).length c, .slice b' (liY A odd).length c']] := e
  simp only [execOp, hop, e']
  rfl
theorem step_exL1 {P : Program} (hi : ops[i]? = some o) (p j : Nat) {A : Int} {odd : Bool} (hop : o.op = .extract (.tmp p) 1) (hj : waits md ops i j p = true) (hFj : F j = LiF w0 A odd) (hFi : F i = PT w0 (fun xs zs => xs = liX A odd ∧ zs = liY A odd)) : StepOk P md ops Q F a0 w0 i := by
  refine step_pure hi fun a w _ _ hf => ?_
  have e := hf j p hj
  rw [hFj] at e
  obtain ⟨b, b', c, c', g, g', e, o1, o2, l1, l2⟩ := e
  have e' : a.eval (.tmp p) = .tuple #[.bool (liB A odd), .agg #[.slice b (liX A odd).length c, .slice b' (liY A odd).length c']] := e
  refine ⟨.agg #[.slice b (liX A odd).length c, .slice b' (liY A odd).length c'], ?_, by rw [hFi]; exact ⟨_, _, b, b', c, c', g, g', rfl, o1, o2, l1, l2, rfl, rfl⟩⟩
  simp only [execOp, hop, e']
  rfl
theorem step_newP (hi : ops[i]? = some o) (hop : o.op = .alloc 26) (hF : F i = NBp w0) : StepOk Tryd.prog md ops Q F a0 w0 i := by
  refine step_grow hi fun a w _ hw _ => ⟨.pointer (some ⟨w.heap.size, 0, none⟩), w.alloc pObj, ?_, (Below.refl _ _).alloc (Nat.le_refl _) _, ?_⟩
  · simp only [execOp, hop]
    kernel_rfl
  · rw [hF]
    exact ⟨_, rfl, heap_alloc_last _ _, hw.size⟩
end
section
variable {ops : Array Oper} {Q : Exit → Act → World → Prop} {a0 : Act} {w : World} {id : Nat} {draw : Bool}
/-- A region that makes a point's block and lays one there. -/
theorem region_newPF (k jA jV pA pV : Nat) (o : Oper) (F : Nat → Fact) (p : List Int → List Int → Prop) (hT : textOk .any ops a0.tmps.size k = true) (hk : ops[k]? = some o) (hd : o.dst = none) (hop : o.op = .store 26 (.tmp pA) (.tmp pV))
    (wA : writes ops jA pA = true) (wV : writes ops jV pV = true) (FA : F jA = NBp w) (FV : F jV = PT w p) (steps : ∀ i, i < k → StepOk Tryd.prog .any ops Q F a0 w i)
    (fin : ∀ (vs : Nat → Value) (q : Nat) (W : World) (xs ys : List Int) (a a' : Option Addr) (c c' g g' : Nat), vs pA = .pointer (some ⟨q, 0, none⟩) → w.heap.size ≤ q → Below w.heap.size w W → W.rangeAt q 0 [.slice a xs.length c, .slice a' ys.length c'] → W.there q 0 2 → Own W g a .u8 xs → Own W g' a' .u8 ys → w.heap.size ≤ g → w.heap.size ≤ g' → p xs ys → (∀ i d, writes ops i d = true → ∃ Wp, (F i).p (vs d) Wp) → Q .normal (puts vs a0 ops.toList) W) :
    (Code.region id ops draw).wp Tryd.prog Q a0 w := by
  refine region_store k o F (by kernel_rfl) hT hk hd steps fun a W hb hw hF => ?_
  have h1 := hF jA pA wA
  have h2 := hF jV pV wV
  rw [FA] at h1
  rw [FV] at h2
  obtain ⟨q, eq, hq, lq⟩ := h1
  obtain ⟨xs, ys, b, b', c, c', g, g', ev, o1, o2, l1, l2, hpp⟩ := h2
  have th := pObj_there hq
  refine wp_store_mid 26 (.tmp pA) (.tmp pV) hop q 0 #[.slice b xs.length c, .slice b' ys.length c'] eq ev th iP (by simp [Value.oneCell']) ?_
  obtain ⟨vs, hvs⟩ : ∃ vs : Nat → Value, ∀ d, a.tmps.getD d undef = vs d := ⟨_, fun _ => rfl⟩
  rw [hd]
  show Q .normal a _
  rw [puts_of hT rfl hb vs hvs]
  refine fin vs q _ xs ys b b' c c' g g' ((hvs pA).symm.trans eq) lq (below_setCells lq _ _ _ hw) (World.rangeAt_setCells_same W q 0 _ th) (World.there_setCells th _ _ _) ?_ ?_ l1 l2 hpp (fun i d h => ⟨W, by rw [← hvs]; exact hF i d h⟩)
  · exact fun h0 => o1.of_block (setCells_other (own_ne hq o1 h0) _ 0 W) h0
  · exact fun h0 => o2.of_block (setCells_other (own_ne hq o2 h0) _ 0 W) h0
end
/-- Three cells that may be written. -/
structure Tri (w : World) (p : Nat) (x y z : Value) : Prop where
  c0 : w.cell? ⟨p, 0, none⟩ = some x
  c1 : w.cell? ⟨p, 1, none⟩ = some y
  c2 : w.cell? ⟨p, 2, none⟩ = some z
  f0 : w.frozen? ⟨p, 0, none⟩ = false
  f1 : w.frozen? ⟨p, 1, none⟩ = false
  f2 : w.frozen? ⟨p, 2, none⟩ = false
theorem Tri.lt {w : World} {p : Nat} {x y z : Value} (h : Tri w p x y z) : p < w.heap.size := block_lt_of_cell h.c0
theorem Tri.up {w w' : World} {p : Nat} {x y z : Value} (h : Tri w p x y z) (n : Below w.heap.size w w') : Tri w' p x y z := by
  have hb := n.block p h.lt
  exact ⟨(World.cell?_of_block (a := ⟨p, 0, none⟩) hb).trans h.c0, (World.cell?_of_block (a := ⟨p, 1, none⟩) hb).trans h.c1, (World.cell?_of_block (a := ⟨p, 2, none⟩) hb).trans h.c2, (World.frozen?_of_block (a := ⟨p, 0, none⟩) hb).trans h.f0, (World.frozen?_of_block (a := ⟨p, 1, none⟩) hb).trans h.f1, (World.frozen?_of_block (a := ⟨p, 2, none⟩) hb).trans h.f2⟩
theorem Tri.new (w : World) (x y z : Value) (t : TypeId) : Tri (w.alloc (.cells #[x, y, z] t)) w.heap.size x y z := by
  have e : (w.alloc (.cells #[x, y, z] t)).heap[w.heap.size]? = some (.cells #[x, y, z] t) := heap_alloc_last _ _
  refine ⟨?_, ?_, ?_, ?_, ?_, ?_⟩
  all_goals first
    | (unfold World.cell?; simp only; rw [e]; rfl)
    | (unfold World.frozen?; simp only; rw [e]; simp)
theorem low7s_len (xs : List Int) : (low7s xs).length = xs.length := by unfold low7s; simp
theorem low7s_byt {xs : List Int} (h : Byt xs) : Byt (low7s xs) := by
  intro j
  unfold low7s
  by_cases e : 31 = j
  · subst e
    by_cases c : 31 < xs.length
    · rw [getD_set_self _ _ _ c]
      have := h 31
      show 0 ≤ xs.getD 31 0 % 128 ∧ xs.getD 31 0 % 128 < 256
      omega
    · rw [List.set_eq_of_length_le (by omega)]
      exact h 31
  · rw [getD_set_ne _ _ _ _ e]
    exact h j
abbrev prObj : Obj := .cells #[.bool false, .slice none 0 0, .slice none 0 0] 38

set_option maxHeartbeats 2000000 in
theorem specDecode_any (w : World) (g : Nat) (a : Option Addr) (c : Nat) (xs : List Int) (hr : Rd w g a .u8 xs) (hb : Byt xs) (hc : a = none → c = 0) :
    Calls Tryd.prog 20 #[.slice a xs.length c] w fun r w' => NewPR w.heap.size w' r (dcB xs) (dcX xs) (dcY xs) ∧ Below w.heap.size w w' := by
  have TZ := Tri.new w (.bool false) (.slice none 0 0) (.slice none 0 0) 38
  have N : Below w.heap.size w (w.alloc prObj) := (Below.refl _ _).alloc (Nat.le_refl _) _
  by_cases hl : xs.length = 32
  · have CP := hide (fun W n => l1Copy_any W g a c xs (hr.up n) hc (by omega))
    have LH := hide hl
    have b31' := hb 31
    have DB : Hid (dcB xs = (canN (low7s xs) && liB (num (low7s xs)) (decide (128 ≤ xs.getD 31 0)))) := by show _ = _; unfold dcB; rw [decide_eq_true hl]; rfl
    have DX : Hid (dcX xs = if dcB xs = true then liX (num (low7s xs)) (decide (128 ≤ xs.getD 31 0)) else []) := by show _ = _; rfl
    have DY : Hid (dcY xs = if dcB xs = true then liY (num (low7s xs)) (decide (128 ≤ xs.getD 31 0)) else []) := by show _ = _; rfl
    obtain ⟨o0, rfl, rc⟩ := id hr (by omega)
    have CB0 := hide (rc 31 (by omega))
    have hg := hr.lt (by omega)
    rw [hl] at CP ⊢
    clear hl rc
    go_enter Tryd.func20, Tryd.ntmps20
    go_upto_region 3 with fail
    change Code.wp _ _ _ _ (w.alloc prObj)
    generalize w.alloc prObj = wr at *
    go_wp2_with fail
    refine (CP.out wr N).mono ?_
    rintro r w1 ⟨⟨a1, c1, g1, rfl, o1, p1, q1, r1⟩, n1⟩
    have z1 := TZ.lt
    replace TZ := TZ.up n1
    replace N := nxt N n1
    clear CP n1 p1
    rw [LH.out] at q1 ⊢
    obtain ⟨off, rfl, oc⟩ := id o1 (by rw [LH.out]; decide)
    have x31 := (oc 31 (by rw [LH.out]; decide)).1
    have f31 := (oc 31 (by rw [LH.out]; decide)).2
    have S1 := o1.store 31 (by rw [LH.out]; decide) (xs.getD 31 0 % 128)
    have N2 : Below w.heap.size w (w1.setCell ⟨g1, off + 31, none⟩ (.int .u8 (xs.getD 31 0 % 128))) := N.setCell (by show w.heap.size ≤ g1; omega) _
    have TZ2 : Tri (w1.setCell ⟨g1, off + 31, none⟩ (.int .u8 (xs.getD 31 0 % 128))) w.heap.size (.bool false) (.slice none 0 0) (.slice none 0 0) := by
      have hbk := heap_setCell_other w1 ⟨g1, off + 31, none⟩ w.heap.size (.int .u8 (xs.getD 31 0 % 128)) (by show w.heap.size ≠ g1; omega)
      exact ⟨(World.cell?_of_block (a := ⟨w.heap.size, 0, none⟩) hbk).trans TZ.c0, (World.cell?_of_block (a := ⟨w.heap.size, 1, none⟩) hbk).trans TZ.c1, (World.cell?_of_block (a := ⟨w.heap.size, 2, none⟩) hbk).trans TZ.c2, (World.frozen?_of_block (a := ⟨w.heap.size, 0, none⟩) hbk).trans TZ.f0, (World.frozen?_of_block (a := ⟨w.heap.size, 1, none⟩) hbk).trans TZ.f1, (World.frozen?_of_block (a := ⟨w.heap.size, 2, none⟩) hbk).trans TZ.f2⟩
    have YB := hide (low7s_byt hb)
    have YL := hide ((low7s_len xs).trans LH.out)
    have SO : Hid (Own (w1.setCell ⟨g1, off + 31, none⟩ (.int .u8 (xs.getD 31 0 % 128))) g1 (some ⟨g1, off, none⟩) .u8 (low7s xs)) := S1
    have CB : Hid ((w1.setCell ⟨g1, off + 31, none⟩ (.int .u8 (xs.getD 31 0 % 128))).cell? ⟨g, o0 + 31, none⟩ = some (.int .u8 (xs.getD 31 0))) := (N2.cell hg).trans CB0.out
    clear S1 o1 oc TZ N CB0 LH hb hr
    obtain ⟨ys, hys⟩ : ∃ ys, ys = low7s xs := ⟨_, rfl⟩
    rw [← hys] at YB YL SO DB DX DY
    clear hys
    obtain ⟨b31, h31⟩ : ∃ b, b = xs.getD 31 0 := ⟨_, rfl⟩
    rw [← h31] at x31 N2 TZ2 SO CB DB DX DY b31'
    clear h31
    obtain ⟨odd, hodd⟩ : ∃ o, o = decide (128 ≤ b31) := ⟨_, rfl⟩
    rw [← hodd] at DB DX DY
    have HO := hide hodd
    clear hodd
    have FC := hide (fun W (h : Rd W g1 (some ⟨g1, off, none⟩) .u8 ys) => specFieldCanonical_any W g1 (some ⟨g1, off, none⟩) c1 ys h YB.out)
    rw [YL.out] at FC
    cases hcn : canN ys with
    | false =>
      have KB : Hid (dcB xs = false) := by show _ = _; rw [DB.out, hcn]; rfl
      have KX : Hid (dcX xs = []) := by show _ = _; rw [DX.out, if_neg (by rw [KB.out]; simp)]
      have KY : Hid (dcY xs = []) := by show _ = _; rw [DY.out, if_neg (by rw [KB.out]; simp)]
      rw [hcn] at FC
      clear hcn DB DX DY CB
      go_wp2_with fail
      generalize w1.setCell ⟨g1, off + 31, none⟩ (.int .u8 (b31 % 128)) = w3 at *
      refine (FC.out w3 SO.out.rd).mono ?_
      rintro r w4 ⟨rfl, n⟩
      obtain ⟨y0, y1, y2, u0, u1, u2⟩ := TZ2.up n
      have N4 := nxt N2 n
      clear FC SO n TZ2 N2 x31 f31
      go_wp2
      refine bodyPost_ret (v := .agg #[.bool false, .slice none 0 0, .slice none 0 0]) (by simp [results, Tryd.results20, go_sem, y0, y1, y2]) rfl ⟨by rw [KB.out, KX.out, KY.out]; exact newPR_nil, ?_⟩
      exact ((N4.setCell (Nat.le_refl _) _).setCell (Nat.le_refl _) _).setCell (Nat.le_refl _) _
    | true =>
      rw [hcn] at DB FC
      clear hcn
      go_wp2_with fail
      generalize w1.setCell ⟨g1, off + 31, none⟩ (.int .u8 (b31 % 128)) = w3 at *
      refine (FC.out w3 SO.out.rd).mono ?_
      rintro r w4 ⟨rfl, n⟩
      have OY := hide (of_ok (SO.out.rd.up n) YB.out YL.out)
      replace CB := hide ((n.cell (block_lt_of_cell CB.out)).trans CB.out)
      replace TZ2 := TZ2.up n
      have N4 := nxt N2 n
      clear FC SO n N2 x31 f31
      go_upto_region 7 with fail
      refine region_newPF 12 10 9 5 31 _ (fun i => [Fact.eq (.slice (some ⟨g1, off, none⟩) 32 c1), EL (num ys), Fact.eq (.slice (some ⟨g, o0, none⟩) 32 c), Fact.eq (.pointer (some ⟨g, o0 + 31, none⟩)), Fact.eq (.int .u8 b31), Fact.eq (.bool odd), LiF w4 (num ys) odd, LiF w4 (num ys) odd, Fact.eq (.bool (liB (num ys) odd)), PT w4 (fun xs zs => xs = liX (num ys) odd ∧ zs = liY (num ys) odd), NBp w4, Fact.eq (.bool (liB (num ys) odd))].getD i Fact.no) (fun xs zs => xs = liX (num ys) odd ∧ zs = liY (num ys) odd) (by kernel_rfl) rfl rfl rfl (by kernel_rfl) (by kernel_rfl) rfl rfl ?_ ?_
      · intro i hi
        obtain rfl | rfl | rfl | rfl | rfl | rfl | rfl | rfl | rfl | rfl | rfl | rfl : i = 0 ∨ i = 1 ∨ i = 2 ∨ i = 3 ∨ i = 4 ∨ i = 5 ∨ i = 6 ∨ i = 7 ∨ i = 8 ∨ i = 9 ∨ i = 10 ∨ i = 11 := by omega
        · exact step_mvp rfl 3 rfl (by kernel_rfl) rfl rfl
        · exact step_of32 rfl 23 0 rfl (by kernel_rfl) OY.out rfl rfl
        · exact step_mvp rfl 0 rfl (by kernel_rfl) rfl rfl
        · exact step_at31 rfl 25 2 rfl (by kernel_rfl) rfl rfl
        · exact step_ld8 rfl 26 3 rfl (by kernel_rfl) rfl CB.out rfl
        · exact step_geq rfl 27 4 rfl (by kernel_rfl) rfl HO.out rfl
        · exact step_lift rfl 24 28 1 5 rfl (by kernel_rfl) (by kernel_rfl) rfl rfl rfl
        · exact step_move rfl 29 6 (by exact Or.inl rfl) (by kernel_rfl) rfl
        · exact step_exL0 rfl 22 7 rfl (by kernel_rfl) rfl rfl
        · exact step_exL1 rfl 22 7 rfl (by kernel_rfl) rfl rfl
        · exact step_newP rfl rfl rfl
        · exact step_move rfl 30 8 (by exact Or.inr rfl) (by kernel_rfl) rfl
      rintro vt q5 W7 ps qs b1 b2 d1 d2 h1 h2 v5 l5 n rg th o1 o2 l1 l2 ⟨rfl, rfl⟩ hF
      obtain ⟨_, v4⟩ := hF 11 4 (by kernel_rfl)
      clear hF
      change vt 4 = .bool (liB (num ys) odd) at v4
      have z4 := TZ2.lt
      replace TZ2 := TZ2.up n
      have z0 := N4.size
      replace N4 := nxt N4 n
      clear n OY CB th
      simp only [puts, v5, v4, Act.put, List.setIfInBounds_toArray, List.set_cons_succ, List.set_cons_zero]
      clear v4 v5
      have k0 := rg 0 _ rfl
      have k1 := rg 1 _ rfl
      simp only [Nat.zero_add] at k0 k1
      clear rg
      obtain ⟨y0, y1, y2, u0, u1, u2⟩ := TZ2
      cases hli : liB (num ys) odd with
      | false =>
        have KB : Hid (dcB xs = false) := by show _ = _; rw [DB.out, hli]; rfl
        have KX : Hid (dcX xs = []) := by show _ = _; rw [DX.out, if_neg (by rw [KB.out]; simp)]
        have KY : Hid (dcY xs = []) := by show _ = _; rw [DY.out, if_neg (by rw [KB.out]; simp)]
        clear DB DX DY o1 o2 hli
        go_wp2
        refine bodyPost_ret (v := .agg #[.bool false, .slice none 0 0, .slice none 0 0]) (by simp [results, Tryd.results20, go_sem, y0, y1, y2]) rfl ⟨by rw [KB.out, KX.out, KY.out]; exact newPR_nil, ?_⟩
        exact ((N4.setCell (Nat.le_refl _) _).setCell (Nat.le_refl _) _).setCell (Nat.le_refl _) _
      | true =>
        have KB : Hid (dcB xs = true) := by show _ = _; rw [DB.out, hli]; rfl
        have KX : Hid (dcX xs = liX (num ys) odd) := by show _ = _; rw [DX.out, if_pos KB.out]
        have KY : Hid (dcY xs = liY (num ys) odd) := by show _ = _; rw [DY.out, if_pos KB.out]
        clear DB DX DY hli
        generalize liX (num ys) odd = X at *
        generalize liY (num ys) odd = Y at *
        have O := ((Only.setCell W7 w.heap.size 0 (.bool true)).trans (Only.setCell _ w.heap.size 1 (.slice b1 X.length d1))).trans (Only.setCell _ w.heap.size 2 (.slice b2 Y.length d2))
        have o1' := o1.only O (fun _ => by omega)
        have o2' := o2.only O (fun _ => by omega)
        have N' := N4.trans (O.below (Nat.le_refl _))
        clear o1 o2 O N4
        go_wp2
        refine bodyPost_ret (v := .agg #[.bool true, .slice b1 X.length d1, .slice b2 Y.length d2]) (by simp [results, Tryd.results20, go_sem, y0, y1, y2]) rfl ⟨?_, N'⟩
        rw [KB.out, KX.out, KY.out]
        exact ⟨b1, b2, d1, d2, h1, h2, rfl, o1', o2', by omega, by omega⟩
  · have t : ((xs.length : Int) != 32) = true := by simp; omega
    have KB : Hid (dcB xs = false) := by show _ = _; unfold dcB; rw [decide_eq_false hl]; rfl
    have KX : Hid (dcX xs = []) := by show _ = _; unfold dcX; rw [if_neg (by rw [KB.out]; simp)]
    have KY : Hid (dcY xs = []) := by show _ = _; unfold dcY; rw [if_neg (by rw [KB.out]; simp)]
    obtain ⟨y0, y1, y2, u0, u1, u2⟩ := TZ
    clear hl
    go_enter Tryd.func20, Tryd.ntmps20
    go_upto_region 1 with fail
    change Code.wp _ _ _ _ (w.alloc prObj)
    generalize w.alloc prObj = wr at *
    go_wp2
    refine bodyPost_ret (v := .agg #[.bool false, .slice none 0 0, .slice none 0 0]) (by simp [results, Tryd.results20, go_sem, y0, y1, y2]) rfl ⟨by rw [KB.out, KX.out, KY.out]; exact newPR_nil, ?_⟩
    exact ((N.setCell (Nat.le_refl _) _).setCell (Nat.le_refl _) _).setCell (Nat.le_refl _) _
end Go.Proofs.YtmanhandajhobaaDoor

/-
  The law of PointAdd.
-/
namespace Go.Proofs.YtmanhandajhobaaDoor
set_option maxRecDepth 100000
open Go Go.RowKit

theorem two_of {W : World} {q : Nat} {u v : Value} (rg : W.rangeAt q 0 [u, v]) (th : W.there q 0 2) : Two W q u v :=
  ⟨rg 0 u rfl, rg 1 v rfl, (th 0 (by omega)).2, (th 1 (by omega)).2⟩
section
variable {ops : Array Oper} {Q : Exit → Act → World → Prop} {md : Region.Mode} {F : Nat → Fact} {a0 : Act} {w0 : World} {i : Nat} {o : Oper} {ts : Array TypeId}
/-- A call at two points that were copied. -/
theorem step_two_pts (hi : ops[i]? = some o) {n : FuncId} (p q j k : Nat) {X0 Y0 X1 Y1 rx ry : List Int} (hop : o.op = .call { callee := .value (.func n), args := #[.tmp p, .tmp q], argTypes := ts }) (he : enters Tryd.prog n = true)
    (hj : waits md ops i j p = true) (hk : waits md ops i k q = true)
    (law : ∀ (W : World), Below w0.heap.size w0 W → ∀ (p q p' q' : Nat), Blk W p .u8 X0 → Blk W q .u8 Y0 → Blk W p' .u8 X1 → Blk W q' .u8 Y1 → Calls Tryd.prog n #[.agg #[.slice (some ⟨p, 0, none⟩) X0.length X0.length, .slice (some ⟨q, 0, none⟩) Y0.length Y0.length], .agg #[.slice (some ⟨p', 0, none⟩) X1.length X1.length, .slice (some ⟨q', 0, none⟩) Y1.length Y1.length]] W fun r w' => NewPt W.heap.size w' r rx ry ∧ Below W.heap.size W w')
    (hFj : F j = PR X0 Y0) (hFk : F k = PR X1 Y1) (hFi : F i = PT w0 (fun u8 u9 => u8 = rx ∧ u9 = ry)) : StepOk Tryd.prog md ops Q F a0 w0 i := by
  refine step_call hi n _ ts hop he fun A w _ hw hF => ?_
  have ea := hF j p hj
  have eb := hF k q hk
  rw [hFj] at ea
  rw [hFk] at eb
  obtain ⟨p1, q1, e1, b1, b2⟩ := ea
  obtain ⟨p2, q2, e2, b3, b4⟩ := eb
  show Calls Tryd.prog n #[A.tmps.getD p undef, A.tmps.getD q undef] w _
  rw [e1, e2]
  refine (law w hw p1 q1 p2 q2 b1 b2 b3 b4).mono ?_
  rintro r w' ⟨⟨a, a', c, c', g, g', rfl, o1, o2, l1, l2⟩, hn⟩
  rw [hFi]
  have z := hw.size
  exact ⟨_, rfl, hn, rx, ry, a, a', c, c', g, g', rfl, o1, o2, by omega, by omega, rfl, rfl⟩
end
theorem NewP2.pt {B : Nat} {w : World} {e : Ending} {xs ys : List Int} (h : NewP2 B w e xs ys) : NewPt B w e xs ys := by
  obtain ⟨a, c, g, a', c', g', e, o1, o2, l1, l2, _⟩ := h
  exact ⟨a, a', c, c', g, g', e, o1, o2, l1, l2⟩
theorem laid_padd {W : World} (h : laidMetH Tryd.prog Rows.fnExactPointAddRow.laid W) : HasA W := hasA_of h (by kernel_rfl) (.head _) (.tail _ (.head _)) (.tail _ (.tail _ (.head _))) (.tail _ (.tail _ (.tail _ (.head _))))
set_option maxHeartbeats 8000000 in
theorem padd_law (w : World) (g0 : Nat) (a0 : Option Addr) (c0 : Nat) (X0 : List Int) (hX0 : Rd w g0 a0 .u8 X0) (bX0 : Byt X0) (lX0 : X0.length < 9223372036854775808) (g0' : Nat) (a0' : Option Addr) (c0' : Nat) (Y0 : List Int) (hY0 : Rd w g0' a0' .u8 Y0) (bY0 : Byt Y0) (lY0 : Y0.length < 9223372036854775808) (g1 : Nat) (a1 : Option Addr) (c1 : Nat) (X1 : List Int) (hX1 : Rd w g1 a1 .u8 X1) (bX1 : Byt X1) (lX1 : X1.length < 9223372036854775808) (g1' : Nat) (a1' : Option Addr) (c1' : Nat) (Y1 : List Int) (hY1 : Rd w g1' a1' .u8 Y1) (bY1 : Byt Y1) (lY1 : Y1.length < 9223372036854775808) (hL : HasA w) :
    Calls Tryd.prog 3 #[.agg #[.slice a0 X0.length c0, .slice a0' Y0.length c0'], .agg #[.slice a1 X1.length c1, .slice a1' Y1.length c1']] w fun e w' => e = .returned (.bool true) ∧ Below w.heap.size w w' := by
  have SP := fun W g1 g2 a1 a2 c1 c2 h1 h2 g3 g4 a3 a4 c3 c4 h3 h4 => specPointAdd_any W g1 g2 g3 g4 a1 a2 a3 a4 c1 c2 c3 c4 X0 Y0 X1 Y1 h1 h2 h3 h4 bX0 bY0 bX1 bY1
  have IM := fun W g1 g2 a1 a2 c1 c2 h1 h2 g3 g4 a3 a4 c3 c4 h3 h4 (n : Below w.heap.size w W) => implAdd_any W g1 g2 a1 a2 c1 c2 X0 Y0 h1 h2 bX0 bY0 g3 g4 a3 a4 c3 c4 X1 Y1 h3 h4 bX1 bY1 dGo (hL.1.up n) (hL.2.1.up n) (hL.2.2.1.up n) (hL.2.2.2.up n)
  simp only [adX_eq, adY_eq] at IM
  have SPp := fun W (_ : Below w.heap.size w W) (p q p' q' : Nat) (h1 : Blk W p .u8 X0) (h2 : Blk W q .u8 Y0) (h3 : Blk W p' .u8 X1) (h4 : Blk W q' .u8 Y1) => SP W p q (some ⟨p, 0, none⟩) (some ⟨q, 0, none⟩) X0.length Y0.length h1.own0.rd h2.own0.rd p' q' (some ⟨p', 0, none⟩) (some ⟨q', 0, none⟩) X1.length Y1.length h3.own0.rd h4.own0.rd
  have IMp := fun W (n : Below w.heap.size w W) (p q p' q' : Nat) (h1 : Blk W p .u8 X0) (h2 : Blk W q .u8 Y0) (h3 : Blk W p' .u8 X1) (h4 : Blk W q' .u8 Y1) => (IM W p q (some ⟨p, 0, none⟩) (some ⟨q, 0, none⟩) X0.length Y0.length h1.own0.rd h2.own0.rd p' q' (some ⟨p', 0, none⟩) (some ⟨q', 0, none⟩) X1.length Y1.length h3.own0.rd h4.own0.rd n).mono (fun r w' (h : NewP2 W.heap.size w' r (paX X0 Y0 X1 Y1) (paY X0 Y0 X1 Y1) ∧ Below W.heap.size W w') => (⟨h.1.pt, h.2⟩ : NewPt W.heap.size w' r (paX X0 Y0 X1 Y1) (paY X0 Y0 X1 Y1) ∧ Below W.heap.size W w'))
  have lrx : (paX X0 Y0 X1 Y1).length ≤ 1048576 := pa_len1 _ _ _ _
  obtain ⟨rx, hrx⟩ : ∃ l, l = paX X0 Y0 X1 Y1 := ⟨_, rfl⟩
  simp only [← hrx] at SP IM lrx SPp IMp
  clear hrx
  have lry : (paY X0 Y0 X1 Y1).length ≤ 1048576 := pa_len2 _ _ _ _
  obtain ⟨ry, hry⟩ : ∃ l, l = paY X0 Y0 X1 Y1 := ⟨_, rfl⟩
  simp only [← hry] at SP IM lry SPp IMp
  clear hry
  clear hL
  by_cases q0 : (X0.length + Y0.length) ≤ 1048576
  · skip
    by_cases q1 : (X0.length + Y0.length + X1.length + Y1.length) ≤ 1048576
    · skip
      have SZ0 := fun W => szPoint_any W a0 a0' X0.length c0 Y0.length c0' ((1048576 : Int)) lX0 lY0 (by omega) (by omega)
      rw [if_neg (show ¬ ((1048576 : Int)) < (X0.length : Int) + (Y0.length : Int) by omega)] at SZ0
      have t0 : decide (((1048576 : Int)) - (X0.length : Int) - (Y0.length : Int) < 0) = false := by simp; omega
      have SZ1 := fun W => szPoint_any W a1 a1' X1.length c1 Y1.length c1' ((1048576 : Int) - (X0.length : Int) - (Y0.length : Int)) lX1 lY1 (by omega) (by omega)
      rw [if_neg (show ¬ ((1048576 : Int) - (X0.length : Int) - (Y0.length : Int)) < (X1.length : Int) + (Y1.length : Int) by omega)] at SZ1
      have t1 : decide (((1048576 : Int) - (X0.length : Int) - (Y0.length : Int)) - (X1.length : Int) - (Y1.length : Int) < 0) = false := by simp; omega
      go_enter Tryd.func3, Tryd.ntmps3
      go_upto_region 1 with fail
      have B0 := Two.new w (.slice a0 X0.length c0) (.slice a0' Y0.length c0') 24
      have nb0 : Below w.heap.size w (w.alloc (.cells #[.slice a0 X0.length c0, .slice a0' Y0.length c0'] 24)) := (Below.refl _ _).alloc (Nat.le_refl _) _
      have sb0 : (w.alloc (.cells #[.slice a0 X0.length c0, .slice a0' Y0.length c0'] 24)).heap.size = w.heap.size + 1 := by simp
      generalize w.alloc (.cells #[.slice a0 X0.length c0, .slice a0' Y0.length c0'] 24) = v0 at *
      have B1 := Two.new v0 (.slice a1 X1.length c1) (.slice a1' Y1.length c1') 24
      have nb1 : Below v0.heap.size v0 (v0.alloc (.cells #[.slice a1 X1.length c1, .slice a1' Y1.length c1'] 24)) := (Below.refl _ _).alloc (Nat.le_refl _) _
      have sb1 : (v0.alloc (.cells #[.slice a1 X1.length c1, .slice a1' Y1.length c1'] 24)).heap.size = w.heap.size + 1 + 1 := by simp [sb0]
      rw [sb0] at B1
      replace B0 := B0.up nb1
      generalize v0.alloc (.cells #[.slice a1 X1.length c1, .slice a1' Y1.length c1'] 24) = v1 at *
      have N := (nxt nb0 nb1)
      have zv : w.heap.size + 2 ≤ v1.heap.size := by omega
      clear nb0 sb0 nb1 sb1
      have B00 := B0.c0
      have B01 := B0.c1
      go_wp2_with fail
      refine (SZ0 v1).mono ?_
      rintro e w1 ⟨rfl, n1⟩
      clear B00 B01
      replace B0 := B0.up n1
      replace B1 := B1.up n1
      replace N := nxt N n1
      have zn1 := n1.size
      clear n1
      have B10 := B1.c0
      have B11 := B1.c1
      go_wp2_with fail
      refine (SZ1 w1).mono ?_
      rintro e w2 ⟨rfl, n2⟩
      clear B10 B11
      replace B0 := B0.up n2
      replace B1 := B1.up n2
      replace N := nxt N n2
      have zn2 := n2.size
      clear n2
      go_upto_region 8 with fail
      refine region_newPF 6 5 4 6 28 _ (fun i => [Fact.eq (.agg #[.slice a0 X0.length c0, .slice a0' Y0.length c0']), PR X0 Y0, Fact.eq (.agg #[.slice a1 X1.length c1, .slice a1' Y1.length c1']), PR X1 Y1, PT w2 (fun u8 u9 => u8 = rx ∧ u9 = ry), NBp w2].getD i Fact.no) (fun u8 u9 => u8 = rx ∧ u9 = ry) (by kernel_rfl) rfl rfl rfl (by kernel_rfl) (by kernel_rfl) rfl rfl ?_ ?_
      · intro i hi
        obtain rfl | rfl | rfl | rfl | rfl | rfl : i = 0 ∨ i = 1 ∨ i = 2 ∨ i = 3 ∨ i = 4 ∨ i = 5 := by omega
        · exact step_l2 _ uLP iLP rfl 2 rfl (by kernel_rfl) _ rfl _ _ B0 rfl
        · exact step_toP rfl 24 0 rfl (by kernel_rfl) (hX0.up N) (hY0.up N) (by omega) (by omega) rfl rfl
        · exact step_l2 _ uLP iLP rfl 3 rfl (by kernel_rfl) _ rfl _ _ B1 rfl
        · exact step_toP rfl 26 2 rfl (by kernel_rfl) (hX1.up N) (hY1.up N) (by omega) (by omega) rfl rfl
        · exact step_two_pts rfl 25 27 1 3 rfl (by kernel_rfl) (by kernel_rfl) (by kernel_rfl) (fun W n p q p' q' h1 h2 h3 h4 => SPp W (nxt N n) p q p' q' h1 h2 h3 h4) rfl rfl rfl
        · exact step_newP rfl rfl rfl
      intro vs qT4 w3 xs' ys' sa sa' sc sc' sg sg' vq lq n3 rg th so so' sl sl' hp _
      obtain ⟨hp1, hp2⟩ := hp
      replace hp1 : xs' = rx := hp1
      replace hp2 : ys' = ry := hp2
      rw [hp1] at rg so
      rw [hp2] at rg so'
      clear hp1 hp2
      have T4 : Two w3 qT4 (.slice sa rx.length sc) (.slice sa' ry.length sc') := two_of rg th
      have o4 : PrP w3 sg sa rx sg' sa' ry := ⟨so, so'⟩
      clear rg th so so'
      simp only [puts, vq, Act.put, List.setIfInBounds_toArray, List.set_cons_succ, List.set_cons_zero]
      clear vq
      replace B0 := B0.up n3
      replace B1 := B1.up n3
      replace N := nxt N n3
      have zn3 := n3.size
      clear n3
      have uT4 := T4.lt
      have Y4 := hide o4.l.rd.lt
      have Y4' := hide o4.r.rd.lt
      have B00 := B0.c0
      have B01 := B0.c1
      go_wp2_with fail
      refine (toPoint_any w3 g0 g0' a0 a0' c0 c0' X0 Y0 (hX0.up N) (hY0.up N) (by omega) (by omega)).mono ?_
      rintro e w4 ⟨x0p, x0q, rfl, x0x, x0y, x01, x02, n4⟩
      clear B00 B01
      replace B0 := B0.up n4
      replace B1 := B1.up n4
      replace T4 := T4.up n4
      replace o4 := o4.up n4
      replace N := nxt N n4
      have zn4 := n4.size
      clear n4
      have x03 := x0y.lt
      have x04 := x0x.lt
      have T50 := Two.new w4 (.slice (some ⟨x0p, 0, none⟩) X0.length X0.length) (.slice (some ⟨x0q, 0, none⟩) Y0.length Y0.length) 26
      have n5 : Below w4.heap.size w4 (w4.alloc (.cells #[.slice (some ⟨x0p, 0, none⟩) X0.length X0.length, .slice (some ⟨x0q, 0, none⟩) Y0.length Y0.length] 26)) := (Below.refl _ _).alloc (Nat.le_refl _) _
      replace B0 := B0.up n5
      replace B1 := B1.up n5
      replace T4 := T4.up n5
      replace o4 := o4.up n5
      replace x0x := x0x.up n5
      replace x0y := x0y.up n5
      replace N := nxt N n5
      clear n5
      have B10 := B1.c0
      have B11 := B1.c1
      go_wp2_with fail
      generalize w4.alloc (.cells #[.slice (some ⟨x0p, 0, none⟩) X0.length X0.length, .slice (some ⟨x0q, 0, none⟩) Y0.length Y0.length] 26) = w5 at *
      have uT50 := T50.lt
      refine (toPoint_any w5 g1 g1' a1 a1' c1 c1' X1 Y1 (hX1.up N) (hY1.up N) (by omega) (by omega)).mono ?_
      rintro e w6 ⟨x1p, x1q, rfl, x1x, x1y, x11, x12, n6⟩
      clear B10 B11
      replace B0 := B0.up n6
      replace B1 := B1.up n6
      replace T4 := T4.up n6
      replace o4 := o4.up n6
      replace x0x := x0x.up n6
      replace x0y := x0y.up n6
      replace T50 := T50.up n6
      replace N := nxt N n6
      have zn6 := n6.size
      clear n6
      have x13 := x1y.lt
      have x14 := x1x.lt
      have T51 := Two.new w6 (.slice (some ⟨x1p, 0, none⟩) X1.length X1.length) (.slice (some ⟨x1q, 0, none⟩) Y1.length Y1.length) 26
      have n7 : Below w6.heap.size w6 (w6.alloc (.cells #[.slice (some ⟨x1p, 0, none⟩) X1.length X1.length, .slice (some ⟨x1q, 0, none⟩) Y1.length Y1.length] 26)) := (Below.refl _ _).alloc (Nat.le_refl _) _
      replace B0 := B0.up n7
      replace B1 := B1.up n7
      replace T4 := T4.up n7
      replace o4 := o4.up n7
      replace x0x := x0x.up n7
      replace x0y := x0y.up n7
      replace T50 := T50.up n7
      replace x1x := x1x.up n7
      replace x1y := x1y.up n7
      replace N := nxt N n7
      clear n7
      have T500 := T50.c0
      have T501 := T50.c1
      have T510 := T51.c0
      have T511 := T51.c1
      go_wp2_with fail
      generalize w6.alloc (.cells #[.slice (some ⟨x1p, 0, none⟩) X1.length X1.length, .slice (some ⟨x1q, 0, none⟩) Y1.length Y1.length] 26) = w7 at *
      have uT51 := T51.lt
      refine (IM w7 _ _ _ _ _ _ x0x.own0.rd x0y.own0.rd _ _ _ _ _ _ x1x.own0.rd x1y.own0.rd N).mono ?_
      rintro e w8 ⟨NR, n8⟩
      clear T500 T501 T510 T511
      have zn8 := n8.size
      obtain ⟨i6a, i6c, i6g, i6a', i6c', i6g', rfl, o6, i6l, i6h, i6l', i6h', i6r, i6r'⟩ := NR.at (B' := w6.heap.size) (by omega) (by omega)
      replace B0 := B0.up n8
      replace B1 := B1.up n8
      replace T4 := T4.up n8
      replace o4 := o4.up n8
      replace x0x := x0x.up n8
      replace x0y := x0y.up n8
      replace T50 := T50.up n8
      replace x1x := x1x.up n8
      replace x1y := x1y.up n8
      replace T51 := T51.up n8
      replace N := nxt N n8
      clear n8
      have T6 := Two.new w8 (.slice i6a rx.length i6c) (.slice i6a' ry.length i6c') 26
      have n9 : Below w8.heap.size w8 (w8.alloc (.cells #[.slice i6a rx.length i6c, .slice i6a' ry.length i6c'] 26)) := (Below.refl _ _).alloc (Nat.le_refl _) _
      replace B0 := B0.up n9
      replace B1 := B1.up n9
      replace T4 := T4.up n9
      replace o4 := o4.up n9
      replace x0x := x0x.up n9
      replace x0y := x0y.up n9
      replace T50 := T50.up n9
      replace x1x := x1x.up n9
      replace x1y := x1y.up n9
      replace T51 := T51.up n9
      replace o6 := o6.up n9
      replace N := nxt N n9
      clear n9
      have T60 := T6.c0
      have T61 := T6.c1
      have T40 := T4.c0
      have T41 := T4.c1
      go_wp2_with fail
      generalize w8.alloc (.cells #[.slice i6a rx.length i6c, .slice i6a' ry.length i6c'] 26) = w9 at *
      have uT6 := T6.lt
      refine (eqPoint_same w9 _ _ _ _ _ _ _ _ _ _ _ _ rx ry o6 o4 lrx lry).mono ?_
      rintro e w10 ⟨rfl, n10⟩
      clear T60 T61 T40 T41
      replace B0 := B0.up n10
      replace B1 := B1.up n10
      replace T4 := T4.up n10
      replace o4 := o4.up n10
      replace x0x := x0x.up n10
      replace x0y := x0y.up n10
      replace T50 := T50.up n10
      replace x1x := x1x.up n10
      replace x1y := x1y.up n10
      replace T51 := T51.up n10
      replace o6 := o6.up n10
      replace T6 := T6.up n10
      replace N := nxt N n10
      have zn10 := n10.size
      clear n10
      go_upto_region 14 with fail
      refine region_end 5 (fun i => [Fact.eq (.agg #[.slice (some ⟨x0p, 0, none⟩) X0.length X0.length, .slice (some ⟨x0q, 0, none⟩) Y0.length Y0.length]), Fact.eq (.agg #[.slice a0 X0.length c0, .slice a0' Y0.length c0']), PR X0 Y0, Fact.eq (.bool true), Fact.eq (.bool (!true))].getD i Fact.no) (by kernel_rfl) (by kernel_rfl) rfl ?_ ?_
      · intro i hi
        obtain rfl | rfl | rfl | rfl | rfl : i = 0 ∨ i = 1 ∨ i = 2 ∨ i = 3 ∨ i = 4 := by omega
        · exact step_l2 _ uP iP rfl 7 rfl (by kernel_rfl) _ rfl _ _ T50 rfl
        · exact step_l2 _ uLP iLP rfl 2 rfl (by kernel_rfl) _ rfl _ _ B0 rfl
        · exact step_toP rfl 41 1 rfl (by kernel_rfl) (hX0.up N) (hY0.up N) (by omega) (by omega) rfl rfl
        · exact step_eqP rfl 40 42 0 2 rfl (by kernel_rfl) (by kernel_rfl) (g := x0p) (g' := x0q) ⟨x0x.own0, x0y.own0⟩ (by omega) (by omega) rfl rfl rfl
        · exact step_notb rfl 43 3 rfl (by kernel_rfl) rfl rfl
      intro A w11 hb n11 hF
      have e2 := hF 4 44 (by kernel_rfl)
      obtain ⟨vs, hvs⟩ : ∃ vs : Nat → Value, ∀ d, A.tmps.getD d undef = vs d := ⟨_, fun _ => rfl⟩
      rw [hvs] at e2
      rw [puts_of (md := .any) (k := 5) (by kernel_rfl) rfl hb vs hvs]
      clear hb hF hvs
      have e3 : vs 44 = .bool false := e2
      clear e2
      simp only [puts, e3, Act.put, List.setIfInBounds_toArray, List.set_cons_succ, List.set_cons_zero]
      clear e3
      replace B0 := B0.up n11
      replace B1 := B1.up n11
      replace T4 := T4.up n11
      replace o4 := o4.up n11
      replace x0x := x0x.up n11
      replace x0y := x0y.up n11
      replace T50 := T50.up n11
      replace x1x := x1x.up n11
      replace x1y := x1y.up n11
      replace T51 := T51.up n11
      replace o6 := o6.up n11
      replace T6 := T6.up n11
      replace N := nxt N n11
      have zn11 := n11.size
      clear n11
      go_upto_region 16 with fail
      refine region_end 5 (fun i => [Fact.eq (.agg #[.slice (some ⟨x1p, 0, none⟩) X1.length X1.length, .slice (some ⟨x1q, 0, none⟩) Y1.length Y1.length]), Fact.eq (.agg #[.slice a1 X1.length c1, .slice a1' Y1.length c1']), PR X1 Y1, Fact.eq (.bool true), Fact.eq (.bool (!true))].getD i Fact.no) (by kernel_rfl) (by kernel_rfl) rfl ?_ ?_
      · intro i hi
        obtain rfl | rfl | rfl | rfl | rfl : i = 0 ∨ i = 1 ∨ i = 2 ∨ i = 3 ∨ i = 4 := by omega
        · exact step_l2 _ uP iP rfl 8 rfl (by kernel_rfl) _ rfl _ _ T51 rfl
        · exact step_l2 _ uLP iLP rfl 3 rfl (by kernel_rfl) _ rfl _ _ B1 rfl
        · exact step_toP rfl 46 1 rfl (by kernel_rfl) (hX1.up N) (hY1.up N) (by omega) (by omega) rfl rfl
        · exact step_eqP rfl 45 47 0 2 rfl (by kernel_rfl) (by kernel_rfl) (g := x1p) (g' := x1q) ⟨x1x.own0, x1y.own0⟩ (by omega) (by omega) rfl rfl rfl
        · exact step_notb rfl 48 3 rfl (by kernel_rfl) rfl rfl
      intro A w12 hb n12 hF
      have e2 := hF 4 49 (by kernel_rfl)
      obtain ⟨vs, hvs⟩ : ∃ vs : Nat → Value, ∀ d, A.tmps.getD d undef = vs d := ⟨_, fun _ => rfl⟩
      rw [hvs] at e2
      rw [puts_of (md := .any) (k := 5) (by kernel_rfl) rfl hb vs hvs]
      clear hb hF hvs
      have e3 : vs 49 = .bool false := e2
      clear e2
      simp only [puts, e3, Act.put, List.setIfInBounds_toArray, List.set_cons_succ, List.set_cons_zero]
      clear e3
      replace B0 := B0.up n12
      replace B1 := B1.up n12
      replace T4 := T4.up n12
      replace o4 := o4.up n12
      replace x0x := x0x.up n12
      replace x0y := x0y.up n12
      replace T50 := T50.up n12
      replace x1x := x1x.up n12
      replace x1y := x1y.up n12
      replace T51 := T51.up n12
      replace o6 := o6.up n12
      replace T6 := T6.up n12
      replace N := nxt N n12
      have zn12 := n12.size
      clear n12
      have T500 := T50.c0
      have T501 := T50.c1
      go_wp2_with fail
      refine (markPoint_any w12 x0p x0q _ _ _ _ X0 Y0 (1) ⟨x0x.own0, x0y.own0⟩ (by omega) (by omega) (by omega) (by omega) (fun _ => by omega) (fun _ => by omega) (by omega)).mono ?_
      rintro e w13 ⟨rfl, _, O13⟩
      have zz13 := O13.size
      clear T500 T501
      clear x0x x0y T50
      have NN := N.size
      replace N := N.trans (O13.below (B := w.heap.size) (by omega) (by omega) (by omega))
      clear NN
      replace B0 := B0.butP O13 (by omega) (by omega)
      replace B1 := B1.butP O13 (by omega) (by omega)
      replace T4 := T4.butP O13 (by omega) (by omega)
      replace o4 := o4.butP O13 (fun h => ⟨by have := Y4.out h; omega, by have := Y4.out h; omega⟩) (fun h => ⟨by have := Y4'.out h; omega, by have := Y4'.out h; omega⟩)
      replace x1x := x1x.of_block (O13.block _ (by have := x1x.lt; omega) (by omega) (by omega))
      replace x1y := x1y.of_block (O13.block _ (by have := x1y.lt; omega) (by omega) (by omega))
      replace T51 := T51.butP O13 (by omega) (by omega)
      replace o6 := o6.butP O13 (fun h => ⟨by have := i6r h; omega, by have := i6r h; omega⟩) (fun h => ⟨by have := i6r' h; omega, by have := i6r' h; omega⟩)
      replace T6 := T6.butP O13 (by omega) (by omega)
      clear O13
      have T510 := T51.c0
      have T511 := T51.c1
      go_wp2_with fail
      refine (markPoint_any w13 x1p x1q _ _ _ _ X1 Y1 (1 + (X0.length : Int) + (Y0.length : Int)) ⟨x1x.own0, x1y.own0⟩ (by omega) (by omega) (by omega) (by omega) (fun _ => by omega) (fun _ => by omega) (by omega)).mono ?_
      rintro e w14 ⟨rfl, _, O14⟩
      have zz14 := O14.size
      clear T510 T511
      clear x1x x1y T51
      have NN := N.size
      replace N := N.trans (O14.below (B := w.heap.size) (by omega) (by omega) (by omega))
      clear NN
      replace B0 := B0.butP O14 (by omega) (by omega)
      replace B1 := B1.butP O14 (by omega) (by omega)
      replace T4 := T4.butP O14 (by omega) (by omega)
      replace o4 := o4.butP O14 (fun h => ⟨by have := Y4.out h; omega, by have := Y4.out h; omega⟩) (fun h => ⟨by have := Y4'.out h; omega, by have := Y4'.out h; omega⟩)
      replace o6 := o6.butP O14 (fun h => ⟨by have := i6r h; omega, by have := i6r h; omega⟩) (fun h => ⟨by have := i6r' h; omega, by have := i6r' h; omega⟩)
      replace T6 := T6.butP O14 (by omega) (by omega)
      clear O14
      have tk : decide ((1 + (X0.length : Int) + (Y0.length : Int) + (X1.length : Int) + (Y1.length : Int) : Int) < 0) = false := by simp; omega
      have T60 := T6.c0
      have T61 := T6.c1
      have T40 := T4.c0
      have T41 := T4.c1
      go_wp2_with fail
      refine (eqPoint_same w14 _ _ _ _ _ _ _ _ _ _ _ _ rx ry o6 o4 lrx lry).mono ?_
      rintro e w15 ⟨rfl, n15⟩
      clear T60 T61 T40 T41
      replace B0 := B0.up n15
      replace B1 := B1.up n15
      replace T4 := T4.up n15
      replace o4 := o4.up n15
      replace o6 := o6.up n15
      replace T6 := T6.up n15
      replace N := nxt N n15
      have zn15 := n15.size
      clear n15
      have T60 := T6.c0
      have T61 := T6.c1
      go_wp2_with fail
      refine (markPoint_any w15 i6g i6g' _ _ _ _ rx ry 1 o6 lrx lry (by omega) (by omega) (fun h => (i6r h).2) (fun h => (i6r' h).2) (by omega)).mono ?_
      rintro e w16 ⟨rfl, oH, OH⟩
      have zzH := OH.size
      clear T60 T61
      clear o6
      have NN := N.size
      replace N := N.trans (OH.below (B := w.heap.size) (by omega) (by omega) (by omega))
      clear NN
      replace B0 := B0.butP OH (by omega) (by omega)
      replace B1 := B1.butP OH (by omega) (by omega)
      replace T4 := T4.butP OH (by omega) (by omega)
      replace o4 := o4.butP OH (fun h => ⟨by have := Y4.out h; omega, by have := Y4.out h; omega⟩) (fun h => ⟨by have := Y4'.out h; omega, by have := Y4'.out h; omega⟩)
      replace T6 := T6.butP OH (by omega) (by omega)
      clear OH
      have t4 : decide ((1 : Int) + (rx.length : Int) + (ry.length : Int) < 0) = false := by simp; omega
      have T60 := T6.c0
      have T61 := T6.c1
      go_wp2_with fail
      refine (heldPoint_any w16 i6g i6g' _ _ _ _ rx.length ry.length 1 oH lrx lry (by omega) (by omega)).mono ?_
      rintro e w17 ⟨rfl, n17⟩
      clear T60 T61
      replace B0 := B0.up n17
      replace B1 := B1.up n17
      replace T4 := T4.up n17
      replace o4 := o4.up n17
      replace T6 := T6.up n17
      replace oH := oH.up n17
      replace N := nxt N n17
      have zn17 := n17.size
      clear n17
      go_upto_region 31 with fail
      refine region_newPF 6 5 4 13 79 _ (fun i => [Fact.eq (.agg #[.slice a0 X0.length c0, .slice a0' Y0.length c0']), PR X0 Y0, Fact.eq (.agg #[.slice a1 X1.length c1, .slice a1' Y1.length c1']), PR X1 Y1, PT w17 (fun u8 u9 => u8 = rx ∧ u9 = ry), NBp w17].getD i Fact.no) (fun u8 u9 => u8 = rx ∧ u9 = ry) (by kernel_rfl) rfl rfl rfl (by kernel_rfl) (by kernel_rfl) rfl rfl ?_ ?_
      · intro i hi
        obtain rfl | rfl | rfl | rfl | rfl | rfl : i = 0 ∨ i = 1 ∨ i = 2 ∨ i = 3 ∨ i = 4 ∨ i = 5 := by omega
        · exact step_l2 _ uLP iLP rfl 2 rfl (by kernel_rfl) _ rfl _ _ B0 rfl
        · exact step_toP rfl 75 0 rfl (by kernel_rfl) (hX0.up N) (hY0.up N) (by omega) (by omega) rfl rfl
        · exact step_l2 _ uLP iLP rfl 3 rfl (by kernel_rfl) _ rfl _ _ B1 rfl
        · exact step_toP rfl 77 2 rfl (by kernel_rfl) (hX1.up N) (hY1.up N) (by omega) (by omega) rfl rfl
        · exact step_two_pts rfl 76 78 1 3 rfl (by kernel_rfl) (by kernel_rfl) (by kernel_rfl) (fun W n p q p' q' h1 h2 h3 h4 => IMp W (nxt N n) p q p' q' h1 h2 h3 h4) rfl rfl rfl
        · exact step_newP rfl rfl rfl
      intro vs qT9 w18 xs' ys' i9a i9a' i9c i9c' i9g i9g' vq lq n18 rg th so so' i9l i9l' hp _
      obtain ⟨hp1, hp2⟩ := hp
      replace hp1 : xs' = rx := hp1
      replace hp2 : ys' = ry := hp2
      rw [hp1] at rg so
      rw [hp2] at rg so'
      clear hp1 hp2
      have T9 : Two w18 qT9 (.slice i9a rx.length i9c) (.slice i9a' ry.length i9c') := two_of rg th
      have o9 : PrP w18 i9g i9a rx i9g' i9a' ry := ⟨so, so'⟩
      clear rg th so so'
      simp only [puts, vq, Act.put, List.setIfInBounds_toArray, List.set_cons_succ, List.set_cons_zero]
      clear vq
      replace B0 := B0.up n18
      replace B1 := B1.up n18
      replace T4 := T4.up n18
      replace o4 := o4.up n18
      replace T6 := T6.up n18
      replace oH := oH.up n18
      replace N := nxt N n18
      have zn18 := n18.size
      clear n18
      have uT9 := T9.lt
      have T90 := T9.c0
      have T91 := T9.c1
      have T40 := T4.c0
      have T41 := T4.c1
      go_wp2_with fail
      refine (eqPoint_same w18 _ _ _ _ _ _ _ _ _ _ _ _ rx ry o9 o4 lrx lry).mono ?_
      rintro e w19 ⟨rfl, n19⟩
      clear T90 T91 T40 T41
      replace B0 := B0.up n19
      replace B1 := B1.up n19
      replace T4 := T4.up n19
      replace o4 := o4.up n19
      replace T6 := T6.up n19
      replace oH := oH.up n19
      replace T9 := T9.up n19
      replace o9 := o9.up n19
      replace N := nxt N n19
      have zn19 := n19.size
      clear n19
      clear o9 o4 T9 T4
      have T60 := T6.c0
      have T61 := T6.c1
      go_wp2_with fail
      refine (heldPoint_any w19 i6g i6g' _ _ _ _ rx.length ry.length 1 oH lrx lry (by omega) (by omega)).mono ?_
      rintro e w20 ⟨rfl, n20⟩
      clear T60 T61
      replace B0 := B0.up n20
      replace B1 := B1.up n20
      replace T6 := T6.up n20
      replace oH := oH.up n20
      replace N := nxt N n20
      have zn20 := n20.size
      clear n20
      go_wp2
      go_ret
      exact ⟨rfl, N⟩
    · skip
      have SZ0 := fun W => szPoint_any W a0 a0' X0.length c0 Y0.length c0' ((1048576 : Int)) lX0 lY0 (by omega) (by omega)
      rw [if_neg (show ¬ ((1048576 : Int)) < (X0.length : Int) + (Y0.length : Int) by omega)] at SZ0
      have t0 : decide (((1048576 : Int)) - (X0.length : Int) - (Y0.length : Int) < 0) = false := by simp; omega
      have SZ1 := fun W => szPoint_any W a1 a1' X1.length c1 Y1.length c1' ((1048576 : Int) - (X0.length : Int) - (Y0.length : Int)) lX1 lY1 (by omega) (by omega)
      rw [if_pos (show ((1048576 : Int) - (X0.length : Int) - (Y0.length : Int)) < (X1.length : Int) + (Y1.length : Int) by omega)] at SZ1
      go_enter Tryd.func3, Tryd.ntmps3
      go_upto_region 1 with fail
      have B0 := Two.new w (.slice a0 X0.length c0) (.slice a0' Y0.length c0') 24
      have nb0 : Below w.heap.size w (w.alloc (.cells #[.slice a0 X0.length c0, .slice a0' Y0.length c0'] 24)) := (Below.refl _ _).alloc (Nat.le_refl _) _
      have sb0 : (w.alloc (.cells #[.slice a0 X0.length c0, .slice a0' Y0.length c0'] 24)).heap.size = w.heap.size + 1 := by simp
      generalize w.alloc (.cells #[.slice a0 X0.length c0, .slice a0' Y0.length c0'] 24) = v0 at *
      have B1 := Two.new v0 (.slice a1 X1.length c1) (.slice a1' Y1.length c1') 24
      have nb1 : Below v0.heap.size v0 (v0.alloc (.cells #[.slice a1 X1.length c1, .slice a1' Y1.length c1'] 24)) := (Below.refl _ _).alloc (Nat.le_refl _) _
      have sb1 : (v0.alloc (.cells #[.slice a1 X1.length c1, .slice a1' Y1.length c1'] 24)).heap.size = w.heap.size + 1 + 1 := by simp [sb0]
      rw [sb0] at B1
      replace B0 := B0.up nb1
      generalize v0.alloc (.cells #[.slice a1 X1.length c1, .slice a1' Y1.length c1'] 24) = v1 at *
      have N := (nxt nb0 nb1)
      have zv : w.heap.size + 2 ≤ v1.heap.size := by omega
      clear nb0 sb0 nb1 sb1
      have B00 := B0.c0
      have B01 := B0.c1
      go_wp2_with fail
      refine (SZ0 v1).mono ?_
      rintro e w1 ⟨rfl, n1⟩
      clear B00 B01
      replace B0 := B0.up n1
      replace B1 := B1.up n1
      replace N := nxt N n1
      have zn1 := n1.size
      clear n1
      have B10 := B1.c0
      have B11 := B1.c1
      go_wp2_with fail
      refine (SZ1 w1).mono ?_
      rintro e w2 ⟨rfl, n2⟩
      clear B10 B11
      replace B0 := B0.up n2
      replace B1 := B1.up n2
      replace N := nxt N n2
      have zn2 := n2.size
      clear n2
      go_wp2
      go_ret
      exact ⟨rfl, N⟩
  · skip
    have SZ0 := fun W => szPoint_any W a0 a0' X0.length c0 Y0.length c0' ((1048576 : Int)) lX0 lY0 (by omega) (by omega)
    rw [if_pos (show ((1048576 : Int)) < (X0.length : Int) + (Y0.length : Int) by omega)] at SZ0
    go_enter Tryd.func3, Tryd.ntmps3
    go_upto_region 1 with fail
    have B0 := Two.new w (.slice a0 X0.length c0) (.slice a0' Y0.length c0') 24
    have nb0 : Below w.heap.size w (w.alloc (.cells #[.slice a0 X0.length c0, .slice a0' Y0.length c0'] 24)) := (Below.refl _ _).alloc (Nat.le_refl _) _
    have sb0 : (w.alloc (.cells #[.slice a0 X0.length c0, .slice a0' Y0.length c0'] 24)).heap.size = w.heap.size + 1 := by simp
    generalize w.alloc (.cells #[.slice a0 X0.length c0, .slice a0' Y0.length c0'] 24) = v0 at *
    have B1 := Two.new v0 (.slice a1 X1.length c1) (.slice a1' Y1.length c1') 24
    have nb1 : Below v0.heap.size v0 (v0.alloc (.cells #[.slice a1 X1.length c1, .slice a1' Y1.length c1'] 24)) := (Below.refl _ _).alloc (Nat.le_refl _) _
    have sb1 : (v0.alloc (.cells #[.slice a1 X1.length c1, .slice a1' Y1.length c1'] 24)).heap.size = w.heap.size + 1 + 1 := by simp [sb0]
    rw [sb0] at B1
    replace B0 := B0.up nb1
    generalize v0.alloc (.cells #[.slice a1 X1.length c1, .slice a1' Y1.length c1'] 24) = v1 at *
    have N := (nxt nb0 nb1)
    have zv : w.heap.size + 2 ≤ v1.heap.size := by omega
    clear nb0 sb0 nb1 sb1
    have B00 := B0.c0
    have B01 := B0.c1
    go_wp2_with fail
    refine (SZ0 v1).mono ?_
    rintro e w1 ⟨rfl, n1⟩
    clear B00 B01
    replace B0 := B0.up n1
    replace B1 := B1.up n1
    replace N := nxt N n1
    have zn1 := n1.size
    clear n1
    go_wp2
    go_ret
    exact ⟨rfl, N⟩
end Go.Proofs.YtmanhandajhobaaDoor
