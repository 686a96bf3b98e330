import Derived.Test.YtmanhandajhobaaDoorGP51
import Derived.Test.YtmanhandajhobaaDoorDr
import Derived.Test.YtmanhandajhobaaDoorGP49
import Derived.Deep.QuietTactic
import Derived.BigQuiet
import Derived.Test.YtmanhandajhobaaDoorBase
import Derived.Laws.AppendOwnNone
import Derived.Lib.AppendZeros
import Derived.Deep.MidRow

/-
  The model's PointBase.
-/
namespace Go.Proofs.YtmanhandajhobaaDoor
set_option maxRecDepth 100000
open Go Go.RowKit

set_option maxHeartbeats 2000000 in
theorem specBase_any (w : World) : Calls Tryd.prog 57 #[] w fun r w' => NewPt w.heap.size w' r (liX (4 * iv 5) false) (liY (4 * iv 5) false) ∧ Below w.heap.size w w' := by
  have TZ : Two (w.alloc pObj) w.heap.size (.slice none 0 0) (.slice none 0 0) := Two.new w (.slice none 0 0) (.slice none 0 0) 26
  have N : Below w.heap.size w (w.alloc pObj) := (Below.refl _ _).alloc (Nat.le_refl _) _
  go_enter Tryd.func57, Tryd.ntmps57
  go_upto_region 1 with fail
  change Code.wp _ _ _ _ (w.alloc pObj)
  generalize w.alloc pObj = wr at *
  go_wp2_with fail
  refine (l2SmallB_any wr 4 (by omega)).mono ?_
  rintro r w1 ⟨t4, rfl, L4, V4, n⟩
  replace TZ := TZ.up n
  replace N := nxt N n
  clear n
  go_wp2_with fail
  refine (l2SmallB_any w1 5 (by omega)).mono ?_
  rintro r w2 ⟨t5, rfl, L5, V5, n⟩
  replace TZ := TZ.up n
  replace N := nxt N n
  clear n
  go_wp2_with fail
  refine (l2Inv_any w2 t5 L5).mono ?_
  rintro r w3 ⟨t6, rfl, L6, V6, n⟩
  replace TZ := TZ.up n
  replace N := nxt N n
  clear n
  go_wp2_with fail
  refine (l2Mul_any w3 t4 t6 L4 L6).mono ?_
  rintro r w4 ⟨t7, rfl, L7, V7, n⟩
  replace TZ := TZ.up n
  replace N := nxt N n
  clear n
  have V : s16 t7 16 % PP = 4 * iv 5 % PP := by
    rw [V7]
    exact mod_mul V4 (V6.trans (pow_mod V5 _))
  have z4 := TZ.lt
  have LF := hide (l5Lift_any w4 t7 (4 * iv 5) ⟨L7, V⟩ false)
  clear V4 V5 V6 V7 V L4 L5 L6 L7
  obtain ⟨X, hX⟩ : ∃ X, X = liX (4 * iv 5) false := ⟨_, rfl⟩
  obtain ⟨Y, hY⟩ : ∃ Y, Y = liY (4 * iv 5) false := ⟨_, rfl⟩
  rw [← hX, ← hY] at LF
  have KX := hide hX
  have KY := hide hY
  clear hX hY
  generalize liB (4 * iv 5) false = bb at *
  go_wp2_with fail
  refine LF.out.mono ?_
  rintro r w5 ⟨⟨a1, a2, c1, c2, g1, g2, rfl, o1, o2, l1, l2⟩, n⟩
  replace TZ := TZ.up n
  have z := N.size
  have zz := TZ.lt
  replace N := nxt N n
  clear n LF
  have TN := Two.new w5 (.slice a1 X.length c1) (.slice a2 Y.length c2) 26
  have m : Below w5.heap.size w5 (w5.alloc (.cells #[.slice a1 X.length c1, .slice a2 Y.length c2] 26)) := (Below.refl _ _).alloc (Nat.le_refl _) _
  go_upto_region 2 with fail
  generalize w5.alloc (.cells #[.slice a1 X.length c1, .slice a2 Y.length c2] 26) = w6 at *
  obtain ⟨p0, p1, _, _⟩ := TN
  obtain ⟨y0, y1, f0, f1⟩ := TZ.up m
  replace N := nxt N m
  replace o1 := o1.up m
  replace o2 := o2.up m
  have O := (Only.setCell w6 w.heap.size 0 (.slice a1 X.length c1)).trans (Only.setCell _ w.heap.size 1 (.slice a2 Y.length c2))
  have o1' := o1.only O (fun _ => by omega)
  have o2' := o2.only O (fun _ => by omega)
  have N' := N.trans (O.below (Nat.le_refl _))
  clear TZ m o1 o2 O N
  go_wp2
  refine bodyPost_ret (v := .agg #[.slice a1 X.length c1, .slice a2 Y.length c2]) (by simp [results, Tryd.results57, go_sem, y0, y1]) rfl ⟨?_, N'⟩
  rw [← KX.out, ← KY.out]
  exact ⟨a1, a2, c1, c2, g1, g2, rfl, o1', o2', by omega, by omega⟩
end Go.Proofs.YtmanhandajhobaaDoor

/-
  The model's PointDecode.
-/
namespace Go.Proofs.YtmanhandajhobaaDoor
set_option maxRecDepth 100000
open Go Go.RowKit

def low7s (xs : List Int) : List Int := xs.set 31 (xs.getD 31 0 % 128)
def dcB (xs : List Int) : Bool := decide (xs.length = 32) && (canN (low7s xs) && liB (num (low7s xs)) (decide (128 ≤ xs.getD 31 0)))
def dcX (xs : List Int) : List Int := if dcB xs = true then liX (num (low7s xs)) (decide (128 ≤ xs.getD 31 0)) else []
def dcY (xs : List Int) : List Int := if dcB xs = true then liY (num (low7s xs)) (decide (128 ≤ xs.getD 31 0)) else []
def NewPR (B : Nat) (w' : World) (e : Ending) (b : Bool) (xs ys : List Int) : Prop :=
  ∃ (a a' : Option Addr) (c c' g g' : Nat), e = .returned (.agg #[.bool b, .slice a xs.length c, .slice a' ys.length c']) ∧ Own w' g a .u8 xs ∧ Own w' g' a' .u8 ys ∧ B ≤ g ∧ B ≤ g'
theorem newPR_nil {B : Nat} {w : World} : NewPR B w (.returned (.agg #[.bool false, .slice none 0 0, .slice none 0 0])) false [] [] := ⟨none, none, 0, 0, B, B, rfl, Own.nil _ _ _ _, Own.nil _ _ _ _, Nat.le_refl _, Nat.le_refl _⟩
theorem li_nil {A : Int} {odd : Bool} (h : liB A odd = false) : liX A odd = [] ∧ liY A odd = [] := by
  unfold liX liY
  rw [if_neg (by rw [h]; simp), if_neg (by rw [h]; simp)]
  exact ⟨rfl, rfl⟩
/-- What was lifted, as it is answered. -/
def LiF (w0 : World) (A : Int) (odd : Bool) : Fact := ⟨fun v w => ∃ (a a' : Option Addr) (c c' g g' : Nat), v = .tuple #[.bool (liB A odd), .agg #[.slice a (liX A odd).length c, .slice a' (liY A odd).length c']] ∧ Own w g a .u8 (liX A odd) ∧ Own w g' a' .u8 (liY A odd) ∧ w0.heap.size ≤ g ∧ w0.heap.size ≤ g', fun n h => by
  obtain ⟨a, a', c, c', g, g', e, o, o', q⟩ := h
  exact ⟨a, a', c, c', g, g', e, o.up n, o'.up n, q⟩⟩
/-- A point's block made in the region, still empty. -/
def NBp (w0 : World) : Fact := ⟨fun v w => ∃ q, v = .pointer (some ⟨q, 0, none⟩) ∧ w.heap[q]? = some pObj ∧ w0.heap.size ≤ q, fun {v w w'} n h => by
  obtain ⟨q, e, h, l⟩ := h
  exact ⟨q, e, (n.block q (Array.getElem?_eq_some_iff.1 h).1).trans h, l⟩⟩
theorem pObj_there {W : World} {q : Nat} (h : W.heap[q]? = some pObj) : W.there q 0 2 := fun j hj => by
  constructor
  · unfold World.cell?
    simp only
    rw [h]
    obtain rfl | rfl : j = 0 ∨ j = 1 := by omega
    all_goals rfl
  · unfold World.frozen?
    simp only
    rw [h]
    simp
theorem own_ne {W : World} {q g : Nat} {a : Option Addr} {xs : List Int} (h : W.heap[q]? = some pObj) (o : Own W g a .u8 xs) (h0 : 0 < xs.length) : g ≠ q := fun e => by
  obtain ⟨off, _, hc⟩ := o h0
  have c := (hc 0 h0).1
  subst e
  unfold World.cell? at c
  simp only at c
  rw [h] at c
  rcases (show off = 0 ∨ off = 1 ∨ 2 ≤ off by omega) with r | r | r
  · subst r
    simp at c
  · subst r
    simp at c
  · have : ([Value.slice none 0 0, .slice none 0 0].toArray)[off + 0]? = none := by simp; omega
    simp only [this] at c
    simp at c
theorem en_lift : enters Tryd.prog 54 = true := by kernel_rfl
section
variable {ops : Array Oper} {Q : Exit → Act → World → Prop} {md : Region.Mode} {F : Nat → Fact} {a0 : Act} {w0 : World} {i : Nat} {o : Oper} {ts : Array TypeId}
theorem step_mvp {P : Program} (hi : ops[i]? = some o) (p : Nat) (hop : o.op = .move (.tmp p)) (hp : apart ops p = true) {v : Value} (h0 : a0.tmps.getD p undef = v) (hF : F i = Fact.eq v) : StepOk P md ops Q F a0 w0 i := by
  refine step_pure hi fun b w hb hw _ => ⟨v, ?_, by rw [hF]; exact rfl⟩
  have e := (based_at hb p hp).trans h0
  simp [execOp, hop, e]
theorem step_of32 (hi : ops[i]? = some o) (p j : Nat) {a : Option Addr} {c : Nat} {xs : List Int} (hop : o.op = .call { callee := .value (.func 36), args := #[.tmp p], argTypes := ts })
    (hj : waits md ops i j p = true) (hO : OfOk w0 a xs) (hFj : F j = Fact.eq (.slice a 32 c)) (hFi : F i = EL (num xs)) : StepOk Tryd.prog md ops Q F a0 w0 i := by
  have hl : xs.length = 32 := by obtain ⟨_, _, _, h⟩ := hO; exact h
  exact step_of hi p j hop hj hO (hFj.trans (by rw [hl])) hFi
theorem step_at31 (hi : ops[i]? = some o) (p j : Nat) {g off c : Nat} (hop : o.op = .indexAddr 22 (.tmp p) (.const (.int .i64 31))) (hj : waits md ops i j p = true) (hFj : F j = Fact.eq (.slice (some ⟨g, off, none⟩) 32 c)) (hF : F i = Fact.eq (.pointer (some ⟨g, off + 31, none⟩))) : StepOk Tryd.prog md ops Q F a0 w0 i := by
  refine step_pure hi fun a w hb hw hf => ⟨.pointer (some ⟨g, off + 31, none⟩), ?_, by rw [hF]; exact rfl⟩
  have e := hf j p hj
  rw [hFj] at e
  have e' : a.eval (.tmp p) = .slice (some ⟨g, off, none⟩) 32 c := e
  have e2 : a.eval (.const (.int .i64 31)) = .int .i64 31 := rfl
  simp only [execOp, hop, e', e2]
  go_simp
theorem step_ld8 (hi : ops[i]? = some o) (p j : Nat) {q off : Nat} {v : Value} (hop : o.op = .load 5 (.tmp p)) (hj : waits md ops i j p = true) (hFj : F j = Fact.eq (.pointer (some ⟨q, off, none⟩))) (hc : w0.cell? ⟨q, off, none⟩ = some v) (hF : F i = Fact.eq v) : StepOk Tryd.prog md ops Q F a0 w0 i := by
  refine step_pure hi fun a w _ hw hf => ⟨v, ?_, by rw [hF]; exact rfl⟩
  have e := hf j p hj
  rw [hFj] at e
  have e' : a.eval (.tmp p) = .pointer (some ⟨q, off, none⟩) := e
  have c' : w.cell? ⟨q, off, none⟩ = some v := (hw.cell (block_lt_of_cell hc)).trans hc
  simp only [execOp, hop, e']
  go_simp
theorem step_geq (hi : ops[i]? = some o) (p j : Nat) {v : Int} {b : Bool} (hop : o.op = .binOp .geq 5 (.tmp p) (.const (.int .u8 128)) 5) (hj : waits md ops i j p = true) (hFj : F j = Fact.eq (.int .u8 v)) (hb : b = decide (128 ≤ v)) (hF : F i = Fact.eq (.bool b)) : StepOk Tryd.prog md ops Q F a0 w0 i := by
  refine step_pure hi fun a w _ hw hf => ⟨.bool b, ?_, by rw [hF]; exact rfl⟩
  have e := hf j p hj
  rw [hFj] at e
  have e' : a.eval (.tmp p) = .int .u8 v := e
  have e2 : a.eval (.const (.int .u8 128)) = .int .u8 128 := rfl
  subst hb
  simp only [execOp, hop, e', e2]
  go_simp
theorem step_lift (hi : ops[i]? = some o) (p q j k : Nat) {A : Int} {odd : Bool} (hop : o.op = .call { callee := .value (.func 54), args := #[.tmp p, .tmp q], argTypes := ts })
    (hj : waits md ops i j p = true) (hk : waits md ops i k q = true) (hFj : F j = EL A) (hFk : F k = Fact.eq (.bool odd)) (hFi : F i = LiF w0 A odd) : StepOk Tryd.prog md ops Q F a0 w0 i := by
  refine step_call hi _ _ ts hop en_lift fun a w _ hw hF => ?_
  have ea := hF j p hj
  have eb := hF k q hk
  rw [hFj] at ea
  rw [hFk] at eb
  obtain ⟨t, e1, L1, V1⟩ := ea
  have e2 : a.tmps.getD q undef = .bool odd := eb
  show Calls Tryd.prog 54 #[a.tmps.getD p undef, a.tmps.getD q undef] w _
  rw [e1, e2]
  refine (l5Lift_any w t A ⟨L1, V1⟩ odd).mono ?_
  rintro r w' ⟨⟨b, b', c, c', g, g', rfl, o1, o2, l1, l2⟩, hn⟩
  rw [hFi]
  exact ⟨_, rfl, hn, b, b', c, c', g, g', rfl, o1, o2, Nat.le_trans hw.size l1, Nat.le_trans hw.size l2⟩
theorem step_exL0 {P : Program} (hi : ops[i]? = some o) (p j : Nat) {A : Int} {odd : Bool} (hop : o.op = .extract (.tmp p) 0) (hj : waits md ops i j p = true) (hFj : F j = LiF w0 A odd) (hFi : F i = Fact.eq (.bool (liB A odd))) : StepOk P md ops Q F a0 w0 i := by
  refine step_pure hi fun a w _ _ hf => ⟨.bool (liB A odd), ?_, by rw [hFi]; exact rfl⟩
  have e := hf j p hj
  rw [hFj] at e
  obtain ⟨b, b', c, c', g, g', e, _⟩ := e
  have e' : a.eval (.tmp p) = .tuple #[.bool (liB A odd), .agg #[.slice b (liX A odd).length c, .slice b' (liY A odd).length c']] := e
  simp only [execOp, hop, e']
  rfl
theorem step_exL1 {P : Program} (hi : ops[i]? = some o) (p j : Nat) {A : Int} {odd : Bool} (hop : o.op = .extract (.tmp p) 1) (hj : waits md ops i j p = true) (hFj : F j = LiF w0 A odd) (hFi : F i = PT w0 (fun xs zs => xs = liX A odd ∧ zs = liY A odd)) : StepOk P md ops Q F a0 w0 i := by
  refine step_pure hi fun a w _ _ hf => ?_
  have e := hf j p hj
  rw [hFj] at e
  obtain ⟨b, b', c, c', g, g', e, o1, o2, l1, l2⟩ := e
  have e' : a.eval (.tmp p) = .tuple #[.bool (liB A odd), .agg #[.slice b (liX A odd).length c, .slice b' (liY A odd).length c']] := e
  refine ⟨.agg #[.slice b (liX A odd).length c, .slice b' (liY A odd).length c'], ?_, by rw [hFi]; exact ⟨_, _, b, b', c, c', g, g', rfl, o1, o2, l1, l2, rfl, rfl⟩⟩
  simp only [execOp, hop, e']
  rfl
theorem step_newP (hi : ops[i]? = some o) (hop : o.op = .alloc 26) (hF : F i = NBp w0) : StepOk Tryd.prog md ops Q F a0 w0 i := by
  refine step_grow hi fun a w _ hw _ => ⟨.pointer (some ⟨w.heap.size, 0, none⟩), w.alloc pObj, ?_, (Below.refl _ _).alloc (Nat.le_refl _) _, ?_⟩
  · simp only [execOp, hop]
    kernel_rfl
  · rw [hF]
    exact ⟨_, rfl, heap_alloc_last _ _, hw.size⟩
end
section
variable {ops : Array Oper} {Q : Exit → Act → World → Prop} {a0 : Act} {w : World} {id : Nat} {draw : Bool}
/-- A region that makes a point's block and lays one there. -/
theorem region_newPF (k jA jV pA pV : Nat) (o : Oper) (F : Nat → Fact) (p : List Int → List Int → Prop) (hT : textOk .any ops a0.tmps.size k = true) (hk : ops[k]? = some o) (hd : o.dst = none) (hop : o.op = .store 26 (.tmp pA) (.tmp pV))
    (wA : writes ops jA pA = true) (wV : writes ops jV pV = true) (FA : F jA = NBp w) (FV : F jV = PT w p) (steps : ∀ i, i < k → StepOk Tryd.prog .any ops Q F a0 w i)
    (fin : ∀ (vs : Nat → Value) (q : Nat) (W : World) (xs ys : List Int) (a a' : Option Addr) (c c' g g' : Nat), vs pA = .pointer (some ⟨q, 0, none⟩) → w.heap.size ≤ q → Below w.heap.size w W → W.rangeAt q 0 [.slice a xs.length c, .slice a' ys.length c'] → W.there q 0 2 → Own W g a .u8 xs → Own W g' a' .u8 ys → w.heap.size ≤ g → w.heap.size ≤ g' → p xs ys → (∀ i d, writes ops i d = true → ∃ Wp, (F i).p (vs d) Wp) → Q .normal (puts vs a0 ops.toList) W) :
    (Code.region id ops draw).wp Tryd.prog Q a0 w := by
  refine region_store k o F (by kernel_rfl) hT hk hd steps fun a W hb hw hF => ?_
  have h1 := hF jA pA wA
  have h2 := hF jV pV wV
  rw [FA] at h1
  rw [FV] at h2
  obtain ⟨q, eq, hq, lq⟩ := h1
  obtain ⟨xs, ys, b, b', c, c', g, g', ev, o1, o2, l1, l2, hpp⟩ := h2
  have th := pObj_there hq
  refine wp_store_mid 26 (.tmp pA) (.tmp pV) hop q 0 #[.slice b xs.length c, .slice b' ys.length c'] eq ev th iP (by simp [Value.oneCell']) ?_
  obtain ⟨vs, hvs⟩ : ∃ vs : Nat → Value, ∀ d, a.tmps.getD d undef = vs d := ⟨_, fun _ => rfl⟩
  rw [hd]
  show Q .normal a _
  rw [puts_of hT rfl hb vs hvs]
  refine fin vs q _ xs ys b b' c c' g g' ((hvs pA).symm.trans eq) lq (below_setCells lq _ _ _ hw) (World.rangeAt_setCells_same W q 0 _ th) (World.there_setCells th _ _ _) ?_ ?_ l1 l2 hpp (fun i d h => ⟨W, by rw [← hvs]; exact hF i d h⟩)
  · exact fun h0 => o1.of_block (setCells_other (own_ne hq o1 h0) _ 0 W) h0
  · exact fun h0 => o2.of_block (setCells_other (own_ne hq o2 h0) _ 0 W) h0
end
/-- Three cells that may be written. -/
structure Tri (w : World) (p : Nat) (x y z : Value) : Prop where
  c0 : w.cell? ⟨p, 0, none⟩ = some x
  c1 : w.cell? ⟨p, 1, none⟩ = some y
  c2 : w.cell? ⟨p, 2, none⟩ = some z
  f0 : w.frozen? ⟨p, 0, none⟩ = false
  f1 : w.frozen? ⟨p, 1, none⟩ = false
  f2 : w.frozen? ⟨p, 2, none⟩ = false
theorem Tri.lt {w : World} {p : Nat} {x y z : Value} (h : Tri w p x y z) : p < w.heap.size := block_lt_of_cell h.c0
theorem Tri.up {w w' : World} {p : Nat} {x y z : Value} (h : Tri w p x y z) (n : Below w.heap.size w w') : Tri w' p x y z := by
  have hb := n.block p h.lt
  exact ⟨(World.cell?_of_block (a := ⟨p, 0, none⟩) hb).trans h.c0, (World.cell?_of_block (a := ⟨p, 1, none⟩) hb).trans h.c1, (World.cell?_of_block (a := ⟨p, 2, none⟩) hb).trans h.c2, (World.frozen?_of_block (a := ⟨p, 0, none⟩) hb).trans h.f0, (World.frozen?_of_block (a := ⟨p, 1, none⟩) hb).trans h.f1, (World.frozen?_of_block (a := ⟨p, 2, none⟩) hb).trans h.f2⟩
theorem Tri.new (w : World) (x y z : Value) (t : TypeId) : Tri (w.alloc (.cells #[x, y, z] t)) w.heap.size x y z := by
  have e : (w.alloc (.cells #[x, y, z] t)).heap[w.heap.size]? = some (.cells #[x, y, z] t) := heap_alloc_last _ _
  refine ⟨?_, ?_, ?_, ?_, ?_, ?_⟩
  all_goals first
    | (unfold World.cell?; simp only; rw [e]; rfl)
    | (unfold World.frozen?; simp only; rw [e]; simp)
theorem low7s_len (xs : List Int) : (low7s xs).length = xs.length := by unfold low7s; simp
theorem low7s_byt {xs : List Int} (h : Byt xs) : Byt (low7s xs) := by
  intro j
  unfold low7s
  by_cases e : 31 = j
  · subst e
    by_cases c : 31 < xs.length
    · rw [getD_set_self _ _ _ c]
      have := h 31
      show 0 ≤ xs.getD 31 0 % 128 ∧ xs.getD 31 0 % 128 < 256
      omega
    · rw [List.set_eq_of_length_le (by omega)]
      exact h 31
  · rw [getD_set_ne _ _ _ _ e]
    exact h j
abbrev prObj : Obj := .cells #[.bool false, .slice none 0 0, .slice none 0 0] 38

set_option maxHeartbeats 2000000 in
theorem specDecode_any (w : World) (g : Nat) (a : Option Addr) (c : Nat) (xs : List Int) (hr : Rd w g a .u8 xs) (hb : Byt xs) (hc : a = none → c = 0) :
    Calls Tryd.prog 20 #[.slice a xs.length c] w fun r w' => NewPR w.heap.size w' r (dcB xs) (dcX xs) (dcY xs) ∧ Below w.heap.size w w' := by
  have TZ := Tri.new w (.bool false) (.slice none 0 0) (.slice none 0 0) 38
  have N : Below w.heap.size w (w.alloc prObj) := (Below.refl _ _).alloc (Nat.le_refl _) _
  by_cases hl : xs.length = 32
  · have CP := hide (fun W n => l1Copy_any W g a c xs (hr.up n) hc (by omega))
    have LH := hide hl
    have b31' := hb 31
    have DB : Hid (dcB xs = (canN (low7s xs) && liB (num (low7s xs)) (decide (128 ≤ xs.getD 31 0)))) := by show _ = _; unfold dcB; rw [decide_eq_true hl]; rfl
    have DX : Hid (dcX xs = if dcB xs = true then liX (num (low7s xs)) (decide (128 ≤ xs.getD 31 0)) else []) := by show _ = _; rfl
    have DY : Hid (dcY xs = if dcB xs = true then liY (num (low7s xs)) (decide (128 ≤ xs.getD 31 0)) else []) := by show _ = _; rfl
    obtain ⟨o0, rfl, rc⟩ := id hr (by omega)
    have CB0 := hide (rc 31 (by omega))
    have hg := hr.lt (by omega)
    rw [hl] at CP ⊢
    clear hl rc
    go_enter Tryd.func20, Tryd.ntmps20
    go_upto_region 3 with fail
    change Code.wp _ _ _ _ (w.alloc prObj)
    generalize w.alloc prObj = wr at *
    go_wp2_with fail
    refine (CP.out wr N).mono ?_
    rintro r w1 ⟨⟨a1, c1, g1, rfl, o1, p1, q1, r1⟩, n1⟩
    have z1 := TZ.lt
    replace TZ := TZ.up n1
    replace N := nxt N n1
    clear CP n1 p1
    rw [LH.out] at q1 ⊢
    obtain ⟨off, rfl, oc⟩ := id o1 (by rw [LH.out]; decide)
    have x31 := (oc 31 (by rw [LH.out]; decide)).1
    have f31 := (oc 31 (by rw [LH.out]; decide)).2
    have S1 := o1.store 31 (by rw [LH.out]; decide) (xs.getD 31 0 % 128)
    have N2 : Below w.heap.size w (w1.setCell ⟨g1, off + 31, none⟩ (.int .u8 (xs.getD 31 0 % 128))) := N.setCell (by show w.heap.size ≤ g1; omega) _
    have TZ2 : Tri (w1.setCell ⟨g1, off + 31, none⟩ (.int .u8 (xs.getD 31 0 % 128))) w.heap.size (.bool false) (.slice none 0 0) (.slice none 0 0) := by
      have hbk := heap_setCell_other w1 ⟨g1, off + 31, none⟩ w.heap.size (.int .u8 (xs.getD 31 0 % 128)) (by show w.heap.size ≠ g1; omega)
      exact ⟨(World.cell?_of_block (a := ⟨w.heap.size, 0, none⟩) hbk).trans TZ.c0, (World.cell?_of_block (a := ⟨w.heap.size, 1, none⟩) hbk).trans TZ.c1, (World.cell?_of_block (a := ⟨w.heap.size, 2, none⟩) hbk).trans TZ.c2, (World.frozen?_of_block (a := ⟨w.heap.size, 0, none⟩) hbk).trans TZ.f0, (World.frozen?_of_block (a := ⟨w.heap.size, 1, none⟩) hbk).trans TZ.f1, (World.frozen?_of_block (a := ⟨w.heap.size, 2, none⟩) hbk).trans TZ.f2⟩
    have YB := hide (low7s_byt hb)
    have YL := hide ((low7s_len xs).trans LH.out)
    have SO : Hid (Own (w1.setCell ⟨g1, off + 31, none⟩ (.int .u8 (xs.getD 31 0 % 128))) g1 (some ⟨g1, off, none⟩) .u8 (low7s xs)) := S1
    have CB : Hid ((w1.setCell ⟨g1, off + 31, none⟩ (.int .u8 (xs.getD 31 0 % 128))).cell? ⟨g, o0 + 31, none⟩ = some (.int .u8 (xs.getD 31 0))) := (N2.cell hg).trans CB0.out
    clear S1 o1 oc TZ N CB0 LH hb hr
    obtain ⟨ys, hys⟩ : ∃ ys, ys = low7s xs := ⟨_, rfl⟩
    rw [← hys] at YB YL SO DB DX DY
    clear hys
    obtain ⟨b31, h31⟩ : ∃ b, b = xs.getD 31 0 := ⟨_, rfl⟩
    rw [← h31] at x31 N2 TZ2 SO CB DB DX DY b31'
    clear h31
    obtain ⟨odd, hodd⟩ : ∃ o, o = decide (128 ≤ b31) := ⟨_, rfl⟩
    rw [← hodd] at DB DX DY
    have HO := hide hodd
    clear hodd
    have FC := hide (fun W (h : Rd W g1 (some ⟨g1, off, none⟩) .u8 ys) => specFieldCanonical_any W g1 (some ⟨g1, off, none⟩) c1 ys h YB.out)
    rw [YL.out] at FC
    cases hcn : canN ys with
    | false =>
      have KB : Hid (dcB xs = false) := by show _ = _; rw [DB.out, hcn]; rfl
      have KX : Hid (dcX xs = []) := by show _ = _; rw [DX.out, if_neg (by rw [KB.out]; simp)]
      have KY : Hid (dcY xs = []) := by show _ = _; rw [DY.out, if_neg (by rw [KB.out]; simp)]
      rw [hcn] at FC
      clear hcn DB DX DY CB
      go_wp2_with fail
      generalize w1.setCell ⟨g1, off + 31, none⟩ (.int .u8 (b31 % 128)) = w3 at *
      refine (FC.out w3 SO.out.rd).mono ?_
      rintro r w4 ⟨rfl, n⟩
      obtain ⟨y0, y1, y2, u0, u1, u2⟩ := TZ2.up n
      have N4 := nxt N2 n
      clear FC SO n TZ2 N2 x31 f31
      go_wp2
      refine bodyPost_ret (v := .agg #[.bool false, .slice none 0 0, .slice none 0 0]) (by simp [results, Tryd.results20, go_sem, y0, y1, y2]) rfl ⟨by rw [KB.out, KX.out, KY.out]; exact newPR_nil, ?_⟩
      exact ((N4.setCell (Nat.le_refl _) _).setCell (Nat.le_refl _) _).setCell (Nat.le_refl _) _
    | true =>
      rw [hcn] at DB FC
      clear hcn
      go_wp2_with fail
      generalize w1.setCell ⟨g1, off + 31, none⟩ (.int .u8 (b31 % 128)) = w3 at *
      refine (FC.out w3 SO.out.rd).mono ?_
      rintro r w4 ⟨rfl, n⟩
      have OY := hide (of_ok (SO.out.rd.up n) YB.out YL.out)
      replace CB := hide ((n.cell (block_lt_of_cell CB.out)).trans CB.out)
      replace TZ2 := TZ2.up n
      have N4 := nxt N2 n
      clear FC SO n N2 x31 f31
      go_upto_region 7 with fail
      refine region_newPF 12 10 9 5 31 _ (fun i => [Fact.eq (.slice (some ⟨g1, off, none⟩) 32 c1), EL (num ys), Fact.eq (.slice (some ⟨g, o0, none⟩) 32 c), Fact.eq (.pointer (some ⟨g, o0 + 31, none⟩)), Fact.eq (.int .u8 b31), Fact.eq (.bool odd), LiF w4 (num ys) odd, LiF w4 (num ys) odd, Fact.eq (.bool (liB (num ys) odd)), PT w4 (fun xs zs => xs = liX (num ys) odd ∧ zs = liY (num ys) odd), NBp w4, Fact.eq (.bool (liB (num ys) odd))].getD i Fact.no) (fun xs zs => xs = liX (num ys) odd ∧ zs = liY (num ys) odd) (by kernel_rfl) rfl rfl rfl (by kernel_rfl) (by kernel_rfl) rfl rfl ?_ ?_
      · intro i hi
        obtain rfl | rfl | rfl | rfl | rfl | rfl | rfl | rfl | rfl | rfl | rfl | rfl : i = 0 ∨ i = 1 ∨ i = 2 ∨ i = 3 ∨ i = 4 ∨ i = 5 ∨ i = 6 ∨ i = 7 ∨ i = 8 ∨ i = 9 ∨ i = 10 ∨ i = 11 := by omega
        · exact step_mvp rfl 3 rfl (by kernel_rfl) rfl rfl
        · exact step_of32 rfl 23 0 rfl (by kernel_rfl) OY.out rfl rfl
        · exact step_mvp rfl 0 rfl (by kernel_rfl) rfl rfl
        · exact step_at31 rfl 25 2 rfl (by kernel_rfl) rfl rfl
        · exact step_ld8 rfl 26 3 rfl (by kernel_rfl) rfl CB.out rfl
        · exact step_geq rfl 27 4 rfl (by kernel_rfl) rfl HO.out rfl
        · exact step_lift rfl 24 28 1 5 rfl (by kernel_rfl) (by kernel_rfl) rfl rfl rfl
        · exact step_move rfl 29 6 (by exact Or.inl rfl) (by kernel_rfl) rfl
        · exact step_exL0 rfl 22 7 rfl (by kernel_rfl) rfl rfl
        · exact step_exL1 rfl 22 7 rfl (by kernel_rfl) rfl rfl
        · exact step_newP rfl rfl rfl
        · exact step_move rfl 30 8 (by exact Or.inr rfl) (by kernel_rfl) rfl
      rintro vt q5 W7 ps qs b1 b2 d1 d2 h1 h2 v5 l5 n rg th o1 o2 l1 l2 ⟨rfl, rfl⟩ hF
      obtain ⟨_, v4⟩ := hF 11 4 (by kernel_rfl)
      clear hF
      change vt 4 = .bool (liB (num ys) odd) at v4
      have z4 := TZ2.lt
      replace TZ2 := TZ2.up n
      have z0 := N4.size
      replace N4 := nxt N4 n
      clear n OY CB th
      simp only [puts, v5, v4, Act.put, List.setIfInBounds_toArray, List.set_cons_succ, List.set_cons_zero]
      clear v4 v5
      have k0 := rg 0 _ rfl
      have k1 := rg 1 _ rfl
      simp only [Nat.zero_add] at k0 k1
      clear rg
      obtain ⟨y0, y1, y2, u0, u1, u2⟩ := TZ2
      cases hli : liB (num ys) odd with
      | false =>
        have KB : Hid (dcB xs = false) := by show _ = _; rw [DB.out, hli]; rfl
        have KX : Hid (dcX xs = []) := by show _ = _; rw [DX.out, if_neg (by rw [KB.out]; simp)]
        have KY : Hid (dcY xs = []) := by show _ = _; rw [DY.out, if_neg (by rw [KB.out]; simp)]
        clear DB DX DY o1 o2 hli
        go_wp2
        refine bodyPost_ret (v := .agg #[.bool false, .slice none 0 0, .slice none 0 0]) (by simp [results, Tryd.results20, go_sem, y0, y1, y2]) rfl ⟨by rw [KB.out, KX.out, KY.out]; exact newPR_nil, ?_⟩
        exact ((N4.setCell (Nat.le_refl _) _).setCell (Nat.le_refl _) _).setCell (Nat.le_refl _) _
      | true =>
        have KB : Hid (dcB xs = true) := by show _ = _; rw [DB.out, hli]; rfl
        have KX : Hid (dcX xs = liX (num ys) odd) := by show _ = _; rw [DX.out, if_pos KB.out]
        have KY : Hid (dcY xs = liY (num ys) odd) := by show _ = _; rw [DY.out, if_pos KB.out]
        clear DB DX DY hli
        generalize liX (num ys) odd = X at *
        generalize liY (num ys) odd = Y at *
        have O := ((Only.setCell W7 w.heap.size 0 (.bool true)).trans (Only.setCell _ w.heap.size 1 (.slice b1 X.length d1))).trans (Only.setCell _ w.heap.size 2 (.slice b2 Y.length d2))
        have o1' := o1.only O (fun _ => by omega)
        have o2' := o2.only O (fun _ => by omega)
        have N' := N4.trans (O.below (Nat.le_refl _))
        clear o1 o2 O N4
        go_wp2
        refine bodyPost_ret (v := .agg #[.bool true, .slice b1 X.length d1, .slice b2 Y.length d2]) (by simp [results, Tryd.results20, go_sem, y0, y1, y2]) rfl ⟨?_, N'⟩
        rw [KB.out, KX.out, KY.out]
        exact ⟨b1, b2, d1, d2, h1, h2, rfl, o1', o2', by omega, by omega⟩
  · have t : ((xs.length : Int) != 32) = true := by simp; omega
    have KB : Hid (dcB xs = false) := by show _ = _; unfold dcB; rw [decide_eq_false hl]; rfl
    have KX : Hid (dcX xs = []) := by show _ = _; unfold dcX; rw [if_neg (by rw [KB.out]; simp)]
    have KY : Hid (dcY xs = []) := by show _ = _; unfold dcY; rw [if_neg (by rw [KB.out]; simp)]
    obtain ⟨y0, y1, y2, u0, u1, u2⟩ := TZ
    clear hl
    go_enter Tryd.func20, Tryd.ntmps20
    go_upto_region 1 with fail
    change Code.wp _ _ _ _ (w.alloc prObj)
    generalize w.alloc prObj = wr at *
    go_wp2
    refine bodyPost_ret (v := .agg #[.bool false, .slice none 0 0, .slice none 0 0]) (by simp [results, Tryd.results20, go_sem, y0, y1, y2]) rfl ⟨by rw [KB.out, KX.out, KY.out]; exact newPR_nil, ?_⟩
    exact ((N.setCell (Nat.le_refl _) _).setCell (Nat.le_refl _) _).setCell (Nat.le_refl _) _
end Go.Proofs.YtmanhandajhobaaDoor

/-
  The law of PointAdd.
-/
namespace Go.Proofs.YtmanhandajhobaaDoor
set_option maxRecDepth 100000
open Go Go.RowKit

theorem two_of {W : World} {q : Nat} {u v : Value} (rg : W.rangeAt q 0 [u, v]) (th : W.there q 0 2) : Two W q u v :=
  ⟨rg 0 u rfl, rg 1 v rfl, (th 0 (by omega)).2, (th 1 (by omega)).2⟩
section
variable {ops : Array Oper} {Q : Exit → Act → World → Prop} {md : Region.Mode} {F : Nat → Fact} {a0 : Act} {w0 : World} {i : Nat} {o : Oper} {ts : Array TypeId}
/-- A call at two points that were copied. -/
theorem step_two_pts (hi : ops[i]? = some o) {n : FuncId} (p q j k : Nat) {X0 Y0 X1 Y1 rx ry : List Int} (hop : o.op = .call { callee := .value (.func n), args := #[.tmp p, .tmp q], argTypes := ts }) (he : enters Tryd.prog n = true)
    (hj : waits md ops i j p = true) (hk : waits md ops i k q = true)
    (law : ∀ (W : World), Below w0.heap.size w0 W → ∀ (p q p' q' : Nat), Blk W p .u8 X0 → Blk W q .u8 Y0 → Blk W p' .u8 X1 → Blk W q' .u8 Y1 → Calls Tryd.prog n #[.agg #[.slice (some ⟨p, 0, none⟩) X0.length X0.length, .slice (some ⟨q, 0, none⟩) Y0.length Y0.length], .agg #[.slice (some ⟨p', 0, none⟩) X1.length X1.length, .slice (some ⟨q', 0, none⟩) Y1.length Y1.length]] W fun r w' => NewPt W.heap.size w' r rx ry ∧ Below W.heap.size W w')
    (hFj : F j = PR X0 Y0) (hFk : F k = PR X1 Y1) (hFi : F i = PT w0 (fun u8 u9 => u8 = rx ∧ u9 = ry)) : StepOk Tryd.prog md ops Q F a0 w0 i := by
  refine step_call hi n _ ts hop he fun A w _ hw hF => ?_
  have ea := hF j p hj
  have eb := hF k q hk
  rw [hFj] at ea
  rw [hFk] at eb
  obtain ⟨p1, q1, e1, b1, b2⟩ := ea
  obtain ⟨p2, q2, e2, b3, b4⟩ := eb
  show Calls Tryd.prog n #[A.tmps.getD p undef, A.tmps.getD q undef] w _
  rw [e1, e2]
  refine (law w hw p1 q1 p2 q2 b1 b2 b3 b4).mono ?_
  rintro r w' ⟨⟨a, a', c, c', g, g', rfl, o1, o2, l1, l2⟩, hn⟩
  rw [hFi]
  have z := hw.size
  exact ⟨_, rfl, hn, rx, ry, a, a', c, c', g, g', rfl, o1, o2, by omega, by omega, rfl, rfl⟩
end
theorem NewP2.pt {B : Nat} {w : World} {e : Ending} {xs ys : List Int} (h : NewP2 B w e xs ys) : NewPt B w e xs ys := by
  obtain ⟨a, c, g, a', c', g', e, o1, o2, l1, l2, _⟩ := h
  exact ⟨a, a', c, c', g, g', e, o1, o2, l1, l2⟩
theorem laid_padd {W : World} (h : laidMetH Tryd.prog Rows.fnExactPointAddRow.laid W) : HasA W := hasA_of h (by kernel_rfl) (.head _) (.tail _ (.head _)) (.tail _ (.tail _ (.head _))) (.tail _ (.tail _ (.tail _ (.head _))))
set_option maxHeartbeats 8000000 in
theorem padd_law (w : World) (g0 : Nat) (a0 : Option Addr) (c0 : Nat) (X0 : List Int) (hX0 : Rd w g0 a0 .u8 X0) (bX0 : Byt X0) (lX0 : X0.length < 9223372036854775808) (g0' : Nat) (a0' : Option Addr) (c0' : Nat) (Y0 : List Int) (hY0 : Rd w g0' a0' .u8 Y0) (bY0 : Byt Y0) (lY0 : Y0.length < 9223372036854775808) (g1 : Nat) (a1 : Option Addr) (c1 : Nat) (X1 : List Int) (hX1 : Rd w g1 a1 .u8 X1) (bX1 : Byt X1) (lX1 : X1.length < 9223372036854775808) (g1' : Nat) (a1' : Option Addr) (c1' : Nat) (Y1 : List Int) (hY1 : Rd w g1' a1' .u8 Y1) (bY1 : Byt Y1) (lY1 : Y1.length < 9223372036854775808) (hL : HasA w) :
    Calls Tryd.prog 3 #[.agg #[.slice a0 X0.length c0, .slice a0' Y0.length c0'], .agg #[.slice a1 X1.length c1, .slice a1' Y1.length c1']] w fun e w' => e = .returned (.bool true) ∧ Below w.heap.size w w' := by
  have SP := fun W g1 g2 a1 a2 c1 c2 h1 h2 g3 g4 a3 a4 c3 c4 h3 h4 => specPointAdd_any W g1 g2 g3 g4 a1 a2 a3 a4 c1 c2 c3 c4 X0 Y0 X1 Y1 h1 h2 h3 h4 bX0 bY0 bX1 bY1
  have IM := fun W g1 g2 a1 a2 c1 c2 h1 h2 g3 g4 a3 a4 c3 c4 h3 h4 (n : Below w.heap.size w W) => implAdd_any W g1 g2 a1 a2 c1 c2 X0 Y0 h1 h2 bX0 bY0 g3 g4 a3 a4 c3 c4 X1 Y1 h3 h4 bX1 bY1 dGo (hL.1.up n) (hL.2.1.up n) (hL.2.2.1.up n) (hL.2.2.2.up n)
  simp only [adX_eq, adY_eq] at IM
  have SPp := fun W (_ : Below w.heap.size w W) (p q p' q' : Nat) (h1 : Blk W p .u8 X0) (h2 : Blk W q .u8 Y0) (h3 : Blk W p' .u8 X1) (h4 : Blk W q' .u8 Y1) => SP W p q (some ⟨p, 0, none⟩) (some ⟨q, 0, none⟩) X0.length Y0.length h1.own0.rd h2.own0.rd p' q' (some ⟨p', 0, none⟩) (some ⟨q', 0, none⟩) X1.length Y1.length h3.own0.rd h4.own0.rd
  have IMp := fun W (n : Below w.heap.size w W) (p q p' q' : Nat) (h1 : Blk W p .u8 X0) (h2 : Blk W q .u8 Y0) (h3 : Blk W p' .u8 X1) (h4 : Blk W q' .u8 Y1) => (IM W p q (some ⟨p, 0, none⟩) (some ⟨q, 0, none⟩) X0.length Y0.length h1.own0.rd h2.own0.rd p' q' (some ⟨p', 0, none⟩) (some ⟨q', 0, none⟩) X1.length Y1.length h3.own0.rd h4.own0.rd n).mono (fun r w' (h : NewP2 W.heap.size w' r (paX X0 Y0 X1 Y1) (paY X0 Y0 X1 Y1) ∧ Below W.heap.size W w') => (⟨h.1.pt, h.2⟩ : NewPt W.heap.size w' r (paX X0 Y0 X1 Y1) (paY X0 Y0 X1 Y1) ∧ Below W.heap.size W w'))
  have lrx : (paX X0 Y0 X1 Y1).length ≤ 1048576 := pa_len1 _ _ _ _
  obtain ⟨rx, hrx⟩ : ∃ l, l = paX X0 Y0 X1 Y1 := ⟨_, rfl⟩
  simp only [← hrx] at SP IM lrx SPp IMp
  clear hrx
  have lry : (paY X0 Y0 X1 Y1).length ≤ 1048576 := pa_len2 _ _ _ _
  obtain ⟨ry, hry⟩ : ∃ l, l = paY X0 Y0 X1 Y1 := ⟨_, rfl⟩
  simp only [← hry] at SP IM lry SPp IMp
  clear hry
  clear hL
  by_cases q0 : (X0.length + Y0.length) ≤ 1048576
  · skip
    by_cases q1 : (X0.length + Y0.length + X1.length + Y1.length) ≤ 1048576
    · skip
      have SZ0 := fun W => szPoint_any W a0 a0' X0.length c0 Y0.length c0' ((1048576 : Int)) lX0 lY0 (by omega) (by omega)
      rw [if_neg (show ¬ ((1048576 : Int)) < (X0.length : Int) + (Y0.length : Int) by omega)] at SZ0
      have t0 : decide (((1048576 : Int)) - (X0.length : Int) - (Y0.length : Int) < 0) = false := by simp; omega
      have SZ1 := fun W => szPoint_any W a1 a1' X1.length c1 Y1.length c1' ((1048576 : Int) - (X0.length : Int) - (Y0.length : Int)) lX1 lY1 (by omega) (by omega)
      rw [if_neg (show ¬ ((1048576 : Int) - (X0.length : Int) - (Y0.length : Int)) < (X1.length : Int) + (Y1.length : Int) by omega)] at SZ1
      have t1 : decide (((1048576 : Int) - (X0.length : Int) - (Y0.length : Int)) - (X1.length : Int) - (Y1.length : Int) < 0) = false := by simp; omega
      go_enter Tryd.func3, Tryd.ntmps3
      go_upto_region 1 with fail
      have B0 := Two.new w (.slice a0 X0.length c0) (.slice a0' Y0.length c0') 24
      have nb0 : Below w.heap.size w (w.alloc (.cells #[.slice a0 X0.length c0, .slice a0' Y0.length c0'] 24)) := (Below.refl _ _).alloc (Nat.le_refl _) _
      have sb0 : (w.alloc (.cells #[.slice a0 X0.length c0, .slice a0' Y0.length c0'] 24)).heap.size = w.heap.size + 1 := by simp
      generalize w.alloc (.cells #[.slice a0 X0.length c0, .slice a0' Y0.length c0'] 24) = v0 at *
      have B1 := Two.new v0 (.slice a1 X1.length c1) (.slice a1' Y1.length c1') 24
      have nb1 : Below v0.heap.size v0 (v0.alloc (.cells #[.slice a1 X1.length c1, .slice a1' Y1.length c1'] 24)) := (Below.refl _ _).alloc (Nat.le_refl _) _
      have sb1 : (v0.alloc (.cells #[.slice a1 X1.length c1, .slice a1' Y1.length c1'] 24)).heap.size = w.heap.size + 1 + 1 := by simp [sb0]
      rw [sb0] at B1
      replace B0 := B0.up nb1
      generalize v0.alloc (.cells #[.slice a1 X1.length c1, .slice a1' Y1.length c1'] 24) = v1 at *
      have N := (nxt nb0 nb1)
      have zv : w.heap.size + 2 ≤ v1.heap.size := by omega
      clear nb0 sb0 nb1 sb1
      have B00 := B0.c0
      have B01 := B0.c1
      go_wp2_with fail
      refine (SZ0 v1).mono ?_
      rintro e w1 ⟨rfl, n1⟩
      clear B00 B01
      replace B0 := B0.up n1
      replace B1 := B1.up n1
      replace N := nxt N n1
      have zn1 := n1.size
      clear n1
      have B10 := B1.c0
      have B11 := B1.c1
      go_wp2_with fail
      refine (SZ1 w1).mono ?_
      rintro e w2 ⟨rfl, n2⟩
      clear B10 B11
      replace B0 := B0.up n2
      replace B1 := B1.up n2
      replace N := nxt N n2
      have zn2 := n2.size
      clear n2
      go_upto_region 8 with fail
      refine region_newPF 6 5 4 6 28 _ (fun i => [Fact.eq (.agg #[.slice a0 X0.length c0, .slice a0' Y0.length c0']), PR X0 Y0, Fact.eq (.agg #[.slice a1 X1.length c1, .slice a1' Y1.length c1']), PR X1 Y1, PT w2 (fun u8 u9 => u8 = rx ∧ u9 = ry), NBp w2].getD i Fact.no) (fun u8 u9 => u8 = rx ∧ u9 = ry) (by kernel_rfl) rfl rfl rfl (by kernel_rfl) (by kernel_rfl) rfl rfl ?_ ?_
      · intro i hi
        obtain rfl | rfl | rfl | rfl | rfl | rfl : i = 0 ∨ i = 1 ∨ i = 2 ∨ i = 3 ∨ i = 4 ∨ i = 5 := by omega
        · exact step_l2 _ uLP iLP rfl 2 rfl (by kernel_rfl) _ rfl _ _ B0 rfl
        · exact step_toP rfl 24 0 rfl (by kernel_rfl) (hX0.up N) (hY0.up N) (by omega) (by omega) rfl rfl
        · exact step_l2 _ uLP iLP rfl 3 rfl (by kernel_rfl) _ rfl _ _ B1 rfl
        · exact step_toP rfl 26 2 rfl (by kernel_rfl) (hX1.up N) (hY1.up N) (by omega) (by omega) rfl rfl
        · exact step_two_pts rfl 25 27 1 3 rfl (by kernel_rfl) (by kernel_rfl) (by kernel_rfl) (fun W n p q p' q' h1 h2 h3 h4 => SPp W (nxt N n) p q p' q' h1 h2 h3 h4) rfl rfl rfl
        · exact step_newP rfl rfl rfl
      intro vs qT4 w3 xs' ys' sa sa' sc sc' sg sg' vq lq n3 rg th so so' sl sl' hp _
      obtain ⟨hp1, hp2⟩ := hp
      replace hp1 : xs' = rx := hp1
      replace hp2 : ys' = ry := hp2
      rw [hp1] at rg so
      rw [hp2] at rg so'
      clear hp1 hp2
      have T4 : Two w3 qT4 (.slice sa rx.length sc) (.slice sa' ry.length sc') := two_of rg th
      have o4 : PrP w3 sg sa rx sg' sa' ry := ⟨so, so'⟩
      clear rg th so so'
      simp only [puts, vq, Act.put, List.setIfInBounds_toArray, List.set_cons_succ, List.set_cons_zero]
      clear vq
      replace B0 := B0.up n3
      replace B1 := B1.up n3
      replace N := nxt N n3
      have zn3 := n3.size
      clear n3
      have uT4 := T4.lt
      have Y4 := hide o4.l.rd.lt
      have Y4' := hide o4.r.rd.lt
      have B00 := B0.c0
      have B01 := B0.c1
      go_wp2_with fail
      refine (toPoint_any w3 g0 g0' a0 a0' c0 c0' X0 Y0 (hX0.up N) (hY0.up N) (by omega) (by omega)).mono ?_
      rintro e w4 ⟨x0p, x0q, rfl, x0x, x0y, x01, x02, n4⟩
      clear B00 B01
      replace B0 := B0.up n4
      replace B1 := B1.up n4
      replace T4 := T4.up n4
      replace o4 := o4.up n4
      replace N := nxt N n4
      have zn4 := n4.size
      clear n4
      have x03 := x0y.lt
      have x04 := x0x.lt
      have T50 := Two.new w4 (.slice (some ⟨x0p, 0, none⟩) X0.length X0.length) (.slice (some ⟨x0q, 0, none⟩) Y0.length Y0.length) 26
      have n5 : Below w4.heap.size w4 (w4.alloc (.cells #[.slice (some ⟨x0p, 0, none⟩) X0.length X0.length, .slice (some ⟨x0q, 0, none⟩) Y0.length Y0.length] 26)) := (Below.refl _ _).alloc (Nat.le_refl _) _
      replace B0 := B0.up n5
      replace B1 := B1.up n5
      replace T4 := T4.up n5
      replace o4 := o4.up n5
      replace x0x := x0x.up n5
      replace x0y := x0y.up n5
      replace N := nxt N n5
      clear n5
      have B10 := B1.c0
      have B11 := B1.c1
      go_wp2_with fail
      generalize w4.alloc (.cells #[.slice (some ⟨x0p, 0, none⟩) X0.length X0.length, .slice (some ⟨x0q, 0, none⟩) Y0.length Y0.length] 26) = w5 at *
      have uT50 := T50.lt
      refine (toPoint_any w5 g1 g1' a1 a1' c1 c1' X1 Y1 (hX1.up N) (hY1.up N) (by omega) (by omega)).mono ?_
      rintro e w6 ⟨x1p, x1q, rfl, x1x, x1y, x11, x12, n6⟩
      clear B10 B11
      replace B0 := B0.up n6
      replace B1 := B1.up n6
      replace T4 := T4.up n6
      replace o4 := o4.up n6
      replace x0x := x0x.up n6
      replace x0y := x0y.up n6
      replace T50 := T50.up n6
      replace N := nxt N n6
      have zn6 := n6.size
      clear n6
      have x13 := x1y.lt
      have x14 := x1x.lt
      have T51 := Two.new w6 (.slice (some ⟨x1p, 0, none⟩) X1.length X1.length) (.slice (some ⟨x1q, 0, none⟩) Y1.length Y1.length) 26
      have n7 : Below w6.heap.size w6 (w6.alloc (.cells #[.slice (some ⟨x1p, 0, none⟩) X1.length X1.length, .slice (some ⟨x1q, 0, none⟩) Y1.length Y1.length] 26)) := (Below.refl _ _).alloc (Nat.le_refl _) _
      replace B0 := B0.up n7
      replace B1 := B1.up n7
      replace T4 := T4.up n7
      replace o4 := o4.up n7
      replace x0x := x0x.up n7
      replace x0y := x0y.up n7
      replace T50 := T50.up n7
      replace x1x := x1x.up n7
      replace x1y := x1y.up n7
      replace N := nxt N n7
      clear n7
      have T500 := T50.c0
      have T501 := T50.c1
      have T510 := T51.c0
      have T511 := T51.c1
      go_wp2_with fail
      generalize w6.alloc (.cells #[.slice (some ⟨x1p, 0, none⟩) X1.length X1.length, .slice (some ⟨x1q, 0, none⟩) Y1.length Y1.length] 26) = w7 at *
      have uT51 := T51.lt
      refine (IM w7 _ _ _ _ _ _ x0x.own0.rd x0y.own0.rd _ _ _ _ _ _ x1x.own0.rd x1y.own0.rd N).mono ?_
      rintro e w8 ⟨NR, n8⟩
      clear T500 T501 T510 T511
      have zn8 := n8.size
      obtain ⟨i6a, i6c, i6g, i6a', i6c', i6g', rfl, o6, i6l, i6h, i6l', i6h', i6r, i6r'⟩ := NR.at (B' := w6.heap.size) (by omega) (by omega)
      replace B0 := B0.up n8
      replace B1 := B1.up n8
      replace T4 := T4.up n8
      replace o4 := o4.up n8
      replace x0x := x0x.up n8
      replace x0y := x0y.up n8
      replace T50 := T50.up n8
      replace x1x := x1x.up n8
      replace x1y := x1y.up n8
      replace T51 := T51.up n8
      replace N := nxt N n8
      clear n8
      have T6 := Two.new w8 (.slice i6a rx.length i6c) (.slice i6a' ry.length i6c') 26
      have n9 : Below w8.heap.size w8 (w8.alloc (.cells #[.slice i6a rx.length i6c, .slice i6a' ry.length i6c'] 26)) := (Below.refl _ _).alloc (Nat.le_refl _) _
      replace B0 := B0.up n9
      replace B1 := B1.up n9
      replace T4 := T4.up n9
      replace o4 := o4.up n9
      replace x0x := x0x.up n9
      replace x0y := x0y.up n9
      replace T50 := T50.up n9
      replace x1x := x1x.up n9
      replace x1y := x1y.up n9
      replace T51 := T51.up n9
      replace o6 := o6.up n9
      replace N := nxt N n9
      clear n9
      have T60 := T6.c0
      have T61 := T6.c1
      have T40 := T4.c0
      have T41 := T4.c1
      go_wp2_with fail
      generalize w8.alloc (.cells #[.slice i6a rx.length i6c, .slice i6a' ry.length i6c'] 26) = w9 at *
      have uT6 := T6.lt
      refine (eqPoint_same w9 _ _ _ _ _ _ _ _ _ _ _ _ rx ry o6 o4 lrx lry).mono ?_
      rintro e w10 ⟨rfl, n10⟩
      clear T60 T61 T40 T41
      replace B0 := B0.up n10
      replace B1 := B1.up n10
      replace T4 := T4.up n10
      replace o4 := o4.up n10
      replace x0x := x0x.up n10
      replace x0y := x0y.up n10
      replace T50 := T50.up n10
      replace x1x := x1x.up n10
      replace x1y := x1y.up n10
      replace T51 := T51.up n10
      replace o6 := o6.up n10
      replace T6 := T6.up n10
      replace N := nxt N n10
      have zn10 := n10.size
      clear n10
      go_upto_region 14 with fail
      refine region_end 5 (fun i => [Fact.eq (.agg #[.slice (some ⟨x0p, 0, none⟩) X0.length X0.length, .slice (some ⟨x0q, 0, none⟩) Y0.length Y0.length]), Fact.eq (.agg #[.slice a0 X0.length c0, .slice a0' Y0.length c0']), PR X0 Y0, Fact.eq (.bool true), Fact.eq (.bool (!true))].getD i Fact.no) (by kernel_rfl) (by kernel_rfl) rfl ?_ ?_
      · intro i hi
        obtain rfl | rfl | rfl | rfl | rfl : i = 0 ∨ i = 1 ∨ i = 2 ∨ i = 3 ∨ i = 4 := by omega
        · exact step_l2 _ uP iP rfl 7 rfl (by kernel_rfl) _ rfl _ _ T50 rfl
        · exact step_l2 _ uLP iLP rfl 2 rfl (by kernel_rfl) _ rfl _ _ B0 rfl
        · exact step_toP rfl 41 1 rfl (by kernel_rfl) (hX0.up N) (hY0.up N) (by omega) (by omega) rfl rfl
        · exact step_eqP rfl 40 42 0 2 rfl (by kernel_rfl) (by kernel_rfl) (g := x0p) (g' := x0q) ⟨x0x.own0, x0y.own0⟩ (by omega) (by omega) rfl rfl rfl
        · exact step_notb rfl 43 3 rfl (by kernel_rfl) rfl rfl
      intro A w11 hb n11 hF
      have e2 := hF 4 44 (by kernel_rfl)
      obtain ⟨vs, hvs⟩ : ∃ vs : Nat → Value, ∀ d, A.tmps.getD d undef = vs d := ⟨_, fun _ => rfl⟩
      rw [hvs] at e2
      rw [puts_of (md := .any) (k := 5) (by kernel_rfl) rfl hb vs hvs]
      clear hb hF hvs
      have e3 : vs 44 = .bool false := e2
      clear e2
      simp only [puts, e3, Act.put, List.setIfInBounds_toArray, List.set_cons_succ, List.set_cons_zero]
      clear e3
      replace B0 := B0.up n11
      replace B1 := B1.up n11
      replace T4 := T4.up n11
      replace o4 := o4.up n11
      replace x0x := x0x.up n11
      replace x0y := x0y.up n11
      replace T50 := T50.up n11
      replace x1x := x1x.up n11
      replace x1y := x1y.up n11
      replace T51 := T51.up n11
      replace o6 := o6.up n11
      replace T6 := T6.up n11
      replace N := nxt N n11
      have zn11 := n11.size
      clear n11
      go_upto_region 16 with fail
      refine region_end 5 (fun i => [Fact.eq (.agg #[.slice (some ⟨x1p, 0, none⟩) X1.length X1.length, .slice (some ⟨x1q, 0, none⟩) Y1.length Y1.length]), Fact.eq (.agg #[.slice a1 X1.length c1, .slice a1' Y1.length c1']), PR X1 Y1, Fact.eq (.bool true), Fact.eq (.bool (!true))].getD i Fact.no) (by kernel_rfl) (by kernel_rfl) rfl ?_ ?_
      · intro i hi
        obtain rfl | rfl | rfl | rfl | rfl : i = 0 ∨ i = 1 ∨ i = 2 ∨ i = 3 ∨ i = 4 := by omega
        · exact step_l2 _ uP iP rfl 8 rfl (by kernel_rfl) _ rfl _ _ T51 rfl
        · exact step_l2 _ uLP iLP rfl 3 rfl (by kernel_rfl) _ rfl _ _ B1 rfl
        · exact step_toP rfl 46 1 rfl (by kernel_rfl) (hX1.up N) (hY1.up N) (by omega) (by omega) rfl rfl
        · exact step_eqP rfl 45 47 0 2 rfl (by kernel_rfl) (by kernel_rfl) (g := x1p) (g' := x1q) ⟨x1x.own0, x1y.own0⟩ (by omega) (by omega) rfl rfl rfl
        · exact step_notb rfl 48 3 rfl (by kernel_rfl) rfl rfl
      intro A w12 hb n12 hF
      have e2 := hF 4 49 (by kernel_rfl)
      obtain ⟨vs, hvs⟩ : ∃ vs : Nat → Value, ∀ d, A.tmps.getD d undef = vs d := ⟨_, fun _ => rfl⟩
      rw [hvs] at e2
      rw [puts_of (md := .any) (k := 5) (by kernel_rfl) rfl hb vs hvs]
      clear hb hF hvs
      have e3 : vs 49 = .bool false := e2
      clear e2
      simp only [puts, e3, Act.put, List.setIfInBounds_toArray, List.set_cons_succ, List.set_cons_zero]
      clear e3
      replace B0 := B0.up n12
      replace B1 := B1.up n12
      replace T4 := T4.up n12
      replace o4 := o4.up n12
      replace x0x := x0x.up n12
      replace x0y := x0y.up n12
      replace T50 := T50.up n12
      replace x1x := x1x.up n12
      replace x1y := x1y.up n12
      replace T51 := T51.up n12
      replace o6 := o6.up n12
      replace T6 := T6.up n12
      replace N := nxt N n12
      have zn12 := n12.size
      clear n12
      have T500 := T50.c0
      have T501 := T50.c1
      go_wp2_with fail
      refine (markPoint_any w12 x0p x0q _ _ _ _ X0 Y0 (1) ⟨x0x.own0, x0y.own0⟩ (by omega) (by omega) (by omega) (by omega) (fun _ => by omega) (fun _ => by omega) (by omega)).mono ?_
      rintro e w13 ⟨rfl, _, O13⟩
      have zz13 := O13.size
      clear T500 T501
      clear x0x x0y T50
      have NN := N.size
      replace N := N.trans (O13.below (B := w.heap.size) (by omega) (by omega) (by omega))
      clear NN
      replace B0 := B0.butP O13 (by omega) (by omega)
      replace B1 := B1.butP O13 (by omega) (by omega)
      replace T4 := T4.butP O13 (by omega) (by omega)
      replace o4 := o4.butP O13 (fun h => ⟨by have := Y4.out h; omega, by have := Y4.out h; omega⟩) (fun h => ⟨by have := Y4'.out h; omega, by have := Y4'.out h; omega⟩)
      replace x1x := x1x.of_block (O13.block _ (by have := x1x.lt; omega) (by omega) (by omega))
      replace x1y := x1y.of_block (O13.block _ (by have := x1y.lt; omega) (by omega) (by omega))
      replace T51 := T51.butP O13 (by omega) (by omega)
      replace o6 := o6.butP O13 (fun h => ⟨by have := i6r h; omega, by have := i6r h; omega⟩) (fun h => ⟨by have := i6r' h; omega, by have := i6r' h; omega⟩)
      replace T6 := T6.butP O13 (by omega) (by omega)
      clear O13
      have T510 := T51.c0
      have T511 := T51.c1
      go_wp2_with fail
      refine (markPoint_any w13 x1p x1q _ _ _ _ X1 Y1 (1 + (X0.length : Int) + (Y0.length : Int)) ⟨x1x.own0, x1y.own0⟩ (by omega) (by omega) (by omega) (by omega) (fun _ => by omega) (fun _ => by omega) (by omega)).mono ?_
      rintro e w14 ⟨rfl, _, O14⟩
      have zz14 := O14.size
      clear T510 T511
      clear x1x x1y T51
      have NN := N.size
      replace N := N.trans (O14.below (B := w.heap.size) (by omega) (by omega) (by omega))
      clear NN
      replace B0 := B0.butP O14 (by omega) (by omega)
      replace B1 := B1.butP O14 (by omega) (by omega)
      replace T4 := T4.butP O14 (by omega) (by omega)
      replace o4 := o4.butP O14 (fun h => ⟨by have := Y4.out h; omega, by have := Y4.out h; omega⟩) (fun h => ⟨by have := Y4'.out h; omega, by have := Y4'.out h; omega⟩)
      replace o6 := o6.butP O14 (fun h => ⟨by have := i6r h; omega, by have := i6r h; omega⟩) (fun h => ⟨by have := i6r' h; omega, by have := i6r' h; omega⟩)
      replace T6 := T6.butP O14 (by omega) (by omega)
      clear O14
      have tk : decide ((1 + (X0.length : Int) + (Y0.length : Int) + (X1.length : Int) + (Y1.length : Int) : Int) < 0) = false := by simp; omega
      have T60 := T6.c0
      have T61 := T6.c1
      have T40 := T4.c0
      have T41 := T4.c1
      go_wp2_with fail
      refine (eqPoint_same w14 _ _ _ _ _ _ _ _ _ _ _ _ rx ry o6 o4 lrx lry).mono ?_
      rintro e w15 ⟨rfl, n15⟩
      clear T60 T61 T40 T41
      replace B0 := B0.up n15
      replace B1 := B1.up n15
      replace T4 := T4.up n15
      replace o4 := o4.up n15
      replace o6 := o6.up n15
      replace T6 := T6.up n15
      replace N := nxt N n15
      have zn15 := n15.size
      clear n15
      have T60 := T6.c0
      have T61 := T6.c1
      go_wp2_with fail
      refine (markPoint_any w15 i6g i6g' _ _ _ _ rx ry 1 o6 lrx lry (by omega) (by omega) (fun h => (i6r h).2) (fun h => (i6r' h).2) (by omega)).mono ?_
      rintro e w16 ⟨rfl, oH, OH⟩
      have zzH := OH.size
      clear T60 T61
      clear o6
      have NN := N.size
      replace N := N.trans (OH.below (B := w.heap.size) (by omega) (by omega) (by omega))
      clear NN
      replace B0 := B0.butP OH (by omega) (by omega)
      replace B1 := B1.butP OH (by omega) (by omega)
      replace T4 := T4.butP OH (by omega) (by omega)
      replace o4 := o4.butP OH (fun h => ⟨by have := Y4.out h; omega, by have := Y4.out h; omega⟩) (fun h => ⟨by have := Y4'.out h; omega, by have := Y4'.out h; omega⟩)
      replace T6 := T6.butP OH (by omega) (by omega)
      clear OH
      have t4 : decide ((1 : Int) + (rx.length : Int) + (ry.length : Int) < 0) = false := by simp; omega
      have T60 := T6.c0
      have T61 := T6.c1
      go_wp2_with fail
      refine (heldPoint_any w16 i6g i6g' _ _ _ _ rx.length ry.length 1 oH lrx lry (by omega) (by omega)).mono ?_
      rintro e w17 ⟨rfl, n17⟩
      clear T60 T61
      replace B0 := B0.up n17
      replace B1 := B1.up n17
      replace T4 := T4.up n17
      replace o4 := o4.up n17
      replace T6 := T6.up n17
      replace oH := oH.up n17
      replace N := nxt N n17
      have zn17 := n17.size
      clear n17
      go_upto_region 31 with fail
      refine region_newPF 6 5 4 13 79 _ (fun i => [Fact.eq (.agg #[.slice a0 X0.length c0, .slice a0' Y0.length c0']), PR X0 Y0, Fact.eq (.agg #[.slice a1 X1.length c1, .slice a1' Y1.length c1']), PR X1 Y1, PT w17 (fun u8 u9 => u8 = rx ∧ u9 = ry), NBp w17].getD i Fact.no) (fun u8 u9 => u8 = rx ∧ u9 = ry) (by kernel_rfl) rfl rfl rfl (by kernel_rfl) (by kernel_rfl) rfl rfl ?_ ?_
      · intro i hi
        obtain rfl | rfl | rfl | rfl | rfl | rfl : i = 0 ∨ i = 1 ∨ i = 2 ∨ i = 3 ∨ i = 4 ∨ i = 5 := by omega
        · exact step_l2 _ uLP iLP rfl 2 rfl (by kernel_rfl) _ rfl _ _ B0 rfl
        · exact step_toP rfl 75 0 rfl (by kernel_rfl) (hX0.up N) (hY0.up N) (by omega) (by omega) rfl rfl
        · exact step_l2 _ uLP iLP rfl 3 rfl (by kernel_rfl) _ rfl _ _ B1 rfl
        · exact step_toP rfl 77 2 rfl (by kernel_rfl) (hX1.up N) (hY1.up N) (by omega) (by omega) rfl rfl
        · exact step_two_pts rfl 76 78 1 3 rfl (by kernel_rfl) (by kernel_rfl) (by kernel_rfl) (fun W n p q p' q' h1 h2 h3 h4 => IMp W (nxt N n) p q p' q' h1 h2 h3 h4) rfl rfl rfl
        · exact step_newP rfl rfl rfl
      intro vs qT9 w18 xs' ys' i9a i9a' i9c i9c' i9g i9g' vq lq n18 rg th so so' i9l i9l' hp _
      obtain ⟨hp1, hp2⟩ := hp
      replace hp1 : xs' = rx := hp1
      replace hp2 : ys' = ry := hp2
      rw [hp1] at rg so
      rw [hp2] at rg so'
      clear hp1 hp2
      have T9 : Two w18 qT9 (.slice i9a rx.length i9c) (.slice i9a' ry.length i9c') := two_of rg th
      have o9 : PrP w18 i9g i9a rx i9g' i9a' ry := ⟨so, so'⟩
      clear rg th so so'
      simp only [puts, vq, Act.put, List.setIfInBounds_toArray, List.set_cons_succ, List.set_cons_zero]
      clear vq
      replace B0 := B0.up n18
      replace B1 := B1.up n18
      replace T4 := T4.up n18
      replace o4 := o4.up n18
      replace T6 := T6.up n18
      replace oH := oH.up n18
      replace N := nxt N n18
      have zn18 := n18.size
      clear n18
      have uT9 := T9.lt
      have T90 := T9.c0
      have T91 := T9.c1
      have T40 := T4.c0
      have T41 := T4.c1
      go_wp2_with fail
      refine (eqPoint_same w18 _ _ _ _ _ _ _ _ _ _ _ _ rx ry o9 o4 lrx lry).mono ?_
      rintro e w19 ⟨rfl, n19⟩
      clear T90 T91 T40 T41
      replace B0 := B0.up n19
      replace B1 := B1.up n19
      replace T4 := T4.up n19
      replace o4 := o4.up n19
      replace T6 := T6.up n19
      replace oH := oH.up n19
      replace T9 := T9.up n19
      replace o9 := o9.up n19
      replace N := nxt N n19
      have zn19 := n19.size
      clear n19
      clear o9 o4 T9 T4
      have T60 := T6.c0
      have T61 := T6.c1
      go_wp2_with fail
      refine (heldPoint_any w19 i6g i6g' _ _ _ _ rx.length ry.length 1 oH lrx lry (by omega) (by omega)).mono ?_
      rintro e w20 ⟨rfl, n20⟩
      clear T60 T61
      replace B0 := B0.up n20
      replace B1 := B1.up n20
      replace T6 := T6.up n20
      replace oH := oH.up n20
      replace N := nxt N n20
      have zn20 := n20.size
      clear n20
      go_wp2
      go_ret
      exact ⟨rfl, N⟩
    · skip
      have SZ0 := fun W => szPoint_any W a0 a0' X0.length c0 Y0.length c0' ((1048576 : Int)) lX0 lY0 (by omega) (by omega)
      rw [if_neg (show ¬ ((1048576 : Int)) < (X0.length : Int) + (Y0.length : Int) by omega)] at SZ0
      have t0 : decide (((1048576 : Int)) - (X0.length : Int) - (Y0.length : Int) < 0) = false := by simp; omega
      have SZ1 := fun W => szPoint_any W a1 a1' X1.length c1 Y1.length c1' ((1048576 : Int) - (X0.length : Int) - (Y0.length : Int)) lX1 lY1 (by omega) (by omega)
      rw [if_pos (show ((1048576 : Int) - (X0.length : Int) - (Y0.length : Int)) < (X1.length : Int) + (Y1.length : Int) by omega)] at SZ1
      go_enter Tryd.func3, Tryd.ntmps3
      go_upto_region 1 with fail
      have B0 := Two.new w (.slice a0 X0.length c0) (.slice a0' Y0.length c0') 24
      have nb0 : Below w.heap.size w (w.alloc (.cells #[.slice a0 X0.length c0, .slice a0' Y0.length c0'] 24)) := (Below.refl _ _).alloc (Nat.le_refl _) _
      have sb0 : (w.alloc (.cells #[.slice a0 X0.length c0, .slice a0' Y0.length c0'] 24)).heap.size = w.heap.size + 1 := by simp
      generalize w.alloc (.cells #[.slice a0 X0.length c0, .slice a0' Y0.length c0'] 24) = v0 at *
      have B1 := Two.new v0 (.slice a1 X1.length c1) (.slice a1' Y1.length c1') 24
      have nb1 : Below v0.heap.size v0 (v0.alloc (.cells #[.slice a1 X1.length c1, .slice a1' Y1.length c1'] 24)) := (Below.refl _ _).alloc (Nat.le_refl _) _
      have sb1 : (v0.alloc (.cells #[.slice a1 X1.length c1, .slice a1' Y1.length c1'] 24)).heap.size = w.heap.size + 1 + 1 := by simp [sb0]
      rw [sb0] at B1
      replace B0 := B0.up nb1
      generalize v0.alloc (.cells #[.slice a1 X1.length c1, .slice a1' Y1.length c1'] 24) = v1 at *
      have N := (nxt nb0 nb1)
      have zv : w.heap.size + 2 ≤ v1.heap.size := by omega
      clear nb0 sb0 nb1 sb1
      have B00 := B0.c0
      have B01 := B0.c1
      go_wp2_with fail
      refine (SZ0 v1).mono ?_
      rintro e w1 ⟨rfl, n1⟩
      clear B00 B01
      replace B0 := B0.up n1
      replace B1 := B1.up n1
      replace N := nxt N n1
      have zn1 := n1.size
      clear n1
      have B10 := B1.c0
      have B11 := B1.c1
      go_wp2_with fail
      refine (SZ1 w1).mono ?_
      rintro e w2 ⟨rfl, n2⟩
      clear B10 B11
      replace B0 := B0.up n2
      replace B1 := B1.up n2
      replace N := nxt N n2
      have zn2 := n2.size
      clear n2
      go_wp2
      go_ret
      exact ⟨rfl, N⟩
  · skip
    have SZ0 := fun W => szPoint_any W a0 a0' X0.length c0 Y0.length c0' ((1048576 : Int)) lX0 lY0 (by omega) (by omega)
    rw [if_pos (show ((1048576 : Int)) < (X0.length : Int) + (Y0.length : Int) by omega)] at SZ0
    go_enter Tryd.func3, Tryd.ntmps3
    go_upto_region 1 with fail
    have B0 := Two.new w (.slice a0 X0.length c0) (.slice a0' Y0.length c0') 24
    have nb0 : Below w.heap.size w (w.alloc (.cells #[.slice a0 X0.length c0, .slice a0' Y0.length c0'] 24)) := (Below.refl _ _).alloc (Nat.le_refl _) _
    have sb0 : (w.alloc (.cells #[.slice a0 X0.length c0, .slice a0' Y0.length c0'] 24)).heap.size = w.heap.size + 1 := by simp
    generalize w.alloc (.cells #[.slice a0 X0.length c0, .slice a0' Y0.length c0'] 24) = v0 at *
    have B1 := Two.new v0 (.slice a1 X1.length c1) (.slice a1' Y1.length c1') 24
    have nb1 : Below v0.heap.size v0 (v0.alloc (.cells #[.slice a1 X1.length c1, .slice a1' Y1.length c1'] 24)) := (Below.refl _ _).alloc (Nat.le_refl _) _
    have sb1 : (v0.alloc (.cells #[.slice a1 X1.length c1, .slice a1' Y1.length c1'] 24)).heap.size = w.heap.size + 1 + 1 := by simp [sb0]
    rw [sb0] at B1
    replace B0 := B0.up nb1
    generalize v0.alloc (.cells #[.slice a1 X1.length c1, .slice a1' Y1.length c1'] 24) = v1 at *
    have N := (nxt nb0 nb1)
    have zv : w.heap.size + 2 ≤ v1.heap.size := by omega
    clear nb0 sb0 nb1 sb1
    have B00 := B0.c0
    have B01 := B0.c1
    go_wp2_with fail
    refine (SZ0 v1).mono ?_
    rintro e w1 ⟨rfl, n1⟩
    clear B00 B01
    replace B0 := B0.up n1
    replace B1 := B1.up n1
    replace N := nxt N n1
    have zn1 := n1.size
    clear n1
    go_wp2
    go_ret
    exact ⟨rfl, N⟩
end Go.Proofs.YtmanhandajhobaaDoor

/-
  Canonical bytes are those of their number.
-/
namespace Go.Proofs.YtmanhandajhobaaDoor
set_option maxRecDepth 100000
open Go.RowKit

theorem lsum_inj {a b : Nat → Int} (ha : ∀ j, 0 ≤ a j ∧ a j < 256) (hb : ∀ j, 0 ≤ b j ∧ b j < 256) : ∀ n, lsum a n = lsum b n → ∀ j, j < n → a j = b j
  | 0, _, j, hj => by omega
  | n + 1, h, j, hj => by
    have bd : ∀ (c : Nat → Int), (∀ j, 0 ≤ c j ∧ c j < 256) → ∀ m, 0 ≤ lsum c m ∧ lsum c m < 256 ^ m := by
      intro c hc m
      induction m with
      | zero => simp [lsum]
      | succ m ih =>
        have hm := hc m
        have hp := p256_pos m
        rw [lsum, Int.pow_succ]
        have e1 : c m * 256 ^ m ≤ 255 * 256 ^ m := Int.mul_le_mul_of_nonneg_right (by omega) (Int.le_of_lt hp)
        have e2 : 0 ≤ c m * 256 ^ m := Int.mul_nonneg hm.1 (Int.le_of_lt hp)
        omega
    have h1 := bd a ha n
    have h2 := bd b hb n
    have hp := p256_pos n
    rw [lsum, lsum] at h
    have e : a n = b n := by
      rcases Int.lt_trichotomy (a n) (b n) with c | c | c
      · exfalso
        have : (a n + 1) * 256 ^ n ≤ b n * 256 ^ n := Int.mul_le_mul_of_nonneg_right (by omega) (Int.le_of_lt hp)
        rw [Int.add_mul] at this
        omega
      · exact c
      · exfalso
        have : (b n + 1) * 256 ^ n ≤ a n * 256 ^ n := Int.mul_le_mul_of_nonneg_right (by omega) (Int.le_of_lt hp)
        rw [Int.add_mul] at this
        omega
    rw [e] at h
    rcases Nat.lt_or_ge j n with c | c
    · exact lsum_inj ha hb n (by omega) j c
    · obtain rfl : j = n := by omega
      exact e
theorem valid_y1 {xs ys : List Int} (h : validP xs ys = true) : canN ys = true := by
  unfold validP at h
  simp only [Bool.and_eq_true] at h
  exact h.1.2
theorem valid_x1 {xs ys : List Int} (h : validP xs ys = true) : canN xs = true := by
  unfold validP at h
  simp only [Bool.and_eq_true] at h
  exact h.1.1
theorem num_ge {xs : List Int} (hb : Byt xs) : 0 ≤ num xs := lsum_nonneg (fun j => hb j) _
theorem can_lt {xs : List Int} (h : canN xs = true) : num xs < PP := by
  unfold canN at h
  simp at h
  exact h.2
theorem fill_can {xs : List Int} (hb : Byt xs) (h : canN xs = true) : fill (byt (num xs % PP)) 32 = xs := by
  have l := can_len h
  have e := num_modS (num xs)
  rw [Int.emod_eq_of_lt (num_ge hb) (can_lt h)] at e ⊢
  have k : ∀ j, j < 32 → (fill (byt (num xs)) 32).getD j 0 = xs.getD j 0 := by
    refine lsum_inj (fun j => bytes_L _ _ j) (fun j => hb j) 32 ?_
    have e1 : num (fill (byt (num xs)) 32) = lsum (fun j => (fill (byt (num xs)) 32).getD j 0) 32 := by unfold num; rw [fill_len]
    have e2 : num xs = lsum (fun j => xs.getD j 0) 32 := by unfold num; rw [l]
    rw [← e1, ← e2]
    exact e
  apply List.ext_getElem
  · rw [fill_len, l]
  · intro i h1 h2
    have := k i (by rw [fill_len] at h1; exact h1)
    simpa [List.getD_eq_getElem?_getD, h1, h2] using this
end Go.Proofs.YtmanhandajhobaaDoor

/-
  The model's PointNegate.
-/
namespace Go.Proofs.YtmanhandajhobaaDoor
set_option maxRecDepth 100000
open Go Go.RowKit

/-- The opposite point, as bytes; nothing, if there is none. -/
def nsX (xs ys : List Int) : List Int := if validP xs ys = true then fill (byt ((0 - num xs) % PP)) 32 else []
def nsY (xs ys : List Int) : List Int := if validP xs ys = true then ys else []
section
variable {ops : Array Oper} {Q : Exit → Act → World → Prop} {md : Region.Mode} {F : Nat → Fact} {a0 : Act} {w0 : World} {i : Nat} {o : Oper} {ts : Array TypeId}
theorem step_cpy (hi : ops[i]? = some o) (p j : Nat) {a : Option Addr} {c : Nat} {xs : List Int} (hop : o.op = .call { callee := .value (.func 52), args := #[.tmp p], argTypes := ts })
    (hj : waits md ops i j p = true) (hO : OfOk w0 a xs) (hFj : F j = Fact.eq (.slice a xs.length c)) (hFi : F i = RN w0 (fun u9 => u9 = xs)) : StepOk Tryd.prog md ops Q F a0 w0 i := by
  obtain ⟨g, hr, hb, hl⟩ := hO
  refine step_call hi _ _ ts hop (by kernel_rfl) fun A w _ hw hF => ?_
  have ea := hF j p hj
  rw [hFj] at ea
  show Calls Tryd.prog 52 #[A.tmps.getD p undef] w _
  rw [show A.tmps.getD p undef = _ from ea]
  have hs : a = none → c = 0 := fun e => by
    obtain ⟨_, e', _⟩ := hr (by omega)
    rw [e] at e'
    cases e'
  refine (l1Copy_any w g a c xs (hr.up hw) hs (by omega)).mono ?_
  rintro r w' ⟨⟨b, c', g', rfl, ow, k1, k2, hg⟩, hn⟩
  rw [hFi]
  have z := hw.size
  exact ⟨_, rfl, hn, xs, b, c', g', rfl, ow, by omega, rfl, k1, k2⟩
end
end Go.Proofs.YtmanhandajhobaaDoor

/-
  The model's l5Small.
-/
namespace Go.Proofs.YtmanhandajhobaaDoor
set_option maxRecDepth 100000
open Go Go.RowKit

theorem en_int : enters Tryd.prog 66 = true := by kernel_rfl
theorem en_little : enters Tryd.prog 65 = true := by kernel_rfl
theorem en_times : enters Tryd.prog 49 = true := by kernel_rfl
theorem en_plain : enters Tryd.prog 48 = true := by kernel_rfl
theorem en_zero : enters Tryd.prog 117 = true := by kernel_rfl
/-- Three elements, whatever they are. -/
def E3any : Fact := ⟨fun v _ => ∃ x y z, v = ag48 x y z ∧ L16 x ∧ L16 y ∧ L16 z, fun _ h => h⟩
/-- Two lists of thirty-two bytes. -/
def PtOk (xs ys : List Int) : Prop := (Byt xs ∧ xs.length = 32) ∧ (Byt ys ∧ ys.length = 32)
theorem bytes_5 (v : Int) (n : Nat) : Byt (fill (byt v) n) := fun i => by
  by_cases hi : i < n
  · rw [fill_get _ _ _ hi]; unfold byt; omega
  · rw [List.getD_eq_getElem?_getD, List.getElem?_eq_none (by rw [fill_len]; omega)]; simp
theorem dig_bytes_5 {xs : List Int} (h : Byt xs) (n : Nat) : Byt (fill (dig xs) n) := fun i => by
  by_cases hi : i < n
  · rw [fill_get _ _ _ hi]
    have := dig_byt h i
    omega
  · rw [List.getD_eq_getElem?_getD, List.getElem?_eq_none (by rw [fill_len]; omega)]; simp
section
variable {ops : Array Oper} {Q : Exit → Act → World → Prop} {md : Region.Mode} {F : Nat → Fact} {a0 : Act} {w0 : World} {i : Nat} {o : Oper} {ts : Array TypeId}
theorem step_mv0 {P : Program} (hi : ops[i]? = some o) (p : Nat) (hop : (match o.op with | .move (.tmp q) => q == p | .assign (.tmp q) => q == p | _ => false) = true) (hp : apart ops p = true) {v : Value} (h0 : a0.tmps.getD p undef = v) (hF : F i = Fact.eq v) : StepOk P md ops Q F a0 w0 i := by
  refine step_pure hi fun a w hb _ _ => ⟨v, ?_, by rw [hF]; exact rfl⟩
  have e := (based_at hb p hp).trans h0
  cases ho : o.op with
  | move x =>
    cases x with
    | tmp q =>
      rw [ho] at hop
      obtain rfl : q = p := by simpa using hop
      simp [execOp, ho, e]
    | _ => rw [ho] at hop; simp at hop
  | assign x =>
    cases x with
    | tmp q =>
      rw [ho] at hop
      obtain rfl : q = p := by simpa using hop
      simp [execOp, ho, e]
    | _ => rw [ho] at hop; simp at hop
  | _ => rw [ho] at hop; simp at hop
theorem step_int (hi : ops[i]? = some o) (p j : Nat) (v : Int) (hv : 0 ≤ v ∧ v ≤ 255) (hop : o.op = .call { callee := .value (.func 66), args := #[.tmp p], argTypes := ts })
    (hj : waits md ops i j p = true) (hFj : F j = Fact.eq (.int .i64 v)) (hFi : F i = RN w0 (fun xs => xs.length ≤ 1 ∧ Byt xs)) : StepOk Tryd.prog md ops Q F a0 w0 i := by
  refine step_call hi _ _ ts hop en_int fun a w _ hw hF => ?_
  have ea := hF j p hj
  rw [hFj] at ea
  have e1 : a.tmps.getD p undef = .int .i64 v := ea
  show Calls Tryd.prog 66 #[a.tmps.getD p undef] w _
  rw [e1]
  refine (l1Int_any w v hv.1 hv.2).mono ?_
  rintro r w' ⟨ys, hl, hb, ⟨b, c, g, rfl, ow, k1, k2, hg⟩, hn⟩
  rw [hFi]
  exact ⟨_, rfl, hn, ys, b, c, g, rfl, ow, Nat.le_trans hw.size hg, ⟨hl, hb⟩, k1, k2⟩
theorem step_lit (hi : ops[i]? = some o) (p j : Nat) (hop : o.op = .call { callee := .value (.func 65), args := #[.tmp p, .const (.int .i64 32)], argTypes := ts })
    (hj : waits md ops i j p = true) (hFj : F j = RN w0 (fun xs => xs.length ≤ 1 ∧ Byt xs)) (hFi : F i = RN w0 (fun xs => xs.length = 32 ∧ Byt xs)) : StepOk Tryd.prog md ops Q F a0 w0 i := by
  refine step_call hi _ _ ts hop en_little fun a w _ hw hF => ?_
  have ea := hF j p hj
  rw [hFj] at ea
  obtain ⟨xs, b, c, g, e1, ow, hg, ⟨hl, hb⟩, k1, k2⟩ := ea
  show Calls Tryd.prog 65 #[a.tmps.getD p undef, .int .i64 32] w _
  rw [e1]
  refine (l1Little_any w g b c xs 32 ow.rd hb (by omega) (by omega)).mono ?_
  rintro r w' ⟨rfl, B, hn⟩
  rw [hFi]
  refine ⟨_, rfl, hn, fill (dig xs) 32, _, 32, w.heap.size, by rw [fill_len], B.own0, hw.size, ⟨fill_len _ _, ?_⟩, by simp, by rw [fill_len]; omega⟩
  exact dig_bytes_5 hb 32
theorem step_times (hi : ops[i]? = some o) (p q j k : Nat) {f g : List Int} (hop : o.op = .call { callee := .value (.func 49), args := #[.tmp p, .tmp q], argTypes := ts })
    (hj : waits md ops i j p = true) (hk : waits md ops i k q = true) (hFj : F j = RN w0 (fun xs => xs.length = 32 ∧ Byt xs)) (hFk : F k = PT w0 (fun xs ys => xs = f ∧ ys = g)) (hFi : F i = E3any) (hf : PtOk f g := by exact ⟨⟨bytes_5 _ _, fill_len _ _⟩, bytes_5 _ _, fill_len _ _⟩) : StepOk Tryd.prog md ops Q F a0 w0 i := by
  refine step_call hi _ _ ts hop en_times fun a w _ _ hF => ?_
  have ea := hF j p hj
  have eb := hF k q hk
  rw [hFj] at ea
  rw [hFk] at eb
  obtain ⟨ks, b, c, h, e1, ow, _, ⟨hl, hb⟩, _, _⟩ := ea
  obtain ⟨xs, ys, b1, b2, c1, c2, h1, h2, e2, o1, o2, _, _, rfl, rfl⟩ := eb
  show Calls Tryd.prog 49 #[a.tmps.getD p undef, a.tmps.getD q undef] w _
  rw [e1, e2]
  refine (l5Times_any w h h1 h2 b b1 b2 c c1 c2 ks xs ys ow.rd hb (by omega) o1.rd o2.rd hf.1.1 hf.2.1 hf.1.2 hf.2.2).mono ?_
  rintro r w' ⟨top, P, x, y, z, _, _, rfl, hx, hy, hz, hn⟩
  rw [hFi]
  exact ⟨_, rfl, hn, x, y, z, rfl, hx.1, hy.1, hz.1⟩
theorem step_plain (hi : ops[i]? = some o) (p j : Nat) (hop : o.op = .call { callee := .value (.func 48), args := #[.tmp p], argTypes := ts })
    (hj : waits md ops i j p = true) (hFj : F j = E3any) (hFi : F i = PT w0 PtOk) : StepOk Tryd.prog md ops Q F a0 w0 i := by
  refine step_call hi _ _ ts hop en_plain fun a w _ hw hF => ?_
  have ea := hF j p hj
  rw [hFj] at ea
  obtain ⟨x, y, z, e1, hx, hy, hz⟩ := ea
  show Calls Tryd.prog 48 #[a.tmps.getD p undef] w _
  rw [e1]
  refine (l5Plain_any w x y z _ _ _ ⟨hx, rfl⟩ ⟨hy, rfl⟩ ⟨hz, rfl⟩).mono ?_
  rintro r w' ⟨⟨b, b', c, c', g, g', rfl, o1, o2, l1, l2⟩, hn⟩
  rw [hFi]
  exact ⟨_, rfl, hn, _, _, b, b', c, c', g, g', rfl, o1, o2, Nat.le_trans hw.size l1, Nat.le_trans hw.size l2, ⟨bytes_5 _ _, fill_len _ _⟩, bytes_5 _ _, fill_len _ _⟩
theorem step_zero (hi : ops[i]? = some o) (hop : o.op = .call { callee := .value (.func 117), args := #[], argTypes := ts }) (hFi : F i = PT w0 PtOk) : StepOk Tryd.prog md ops Q F a0 w0 i := by
  refine step_call hi _ _ ts hop en_zero fun a w _ hw _ => ?_
  refine (pointZero_any w).mono ?_
  rintro r w' ⟨⟨b, b', c, c', g, g', rfl, o1, o2, l1, l2⟩, hn⟩
  rw [hFi]
  exact ⟨_, rfl, hn, _, _, b, b', c, c', g, g', rfl, o1, o2, Nat.le_trans hw.size l1, Nat.le_trans hw.size l2, ⟨bytes_5 _ _, fill_len _ _⟩, bytes_5 _ _, fill_len _ _⟩
end

set_option maxHeartbeats 4000000 in
theorem l5Small_any (w : World) (k : Int) (k0 : 0 ≤ k) (k1 : k ≤ 255) :
    Calls Tryd.prog 102 #[.int .i64 k] w fun r w' => ∃ xs ys, NewPt w.heap.size w' r xs ys ∧ (Byt xs ∧ xs.length = 32) ∧ (Byt ys ∧ ys.length = 32) ∧ Below w.heap.size w w' := by
  go_enter Tryd.func102, Tryd.ntmps102
  go_upto_region 1 with fail
  change Code.wp _ _ _ _ (w.alloc pObj)
  have TR := there_p w
  have N : Below w.heap.size w (w.alloc pObj) := (Below.refl _ _).alloc (Nat.le_refl _) _
  generalize w.alloc pObj = wr at *
  have zr := there_lt (by omega) TR
  refine region_new16 2 1 0 3 10 _ (fun i => [EL dE, NB wr 16].getD i Fact.no) (dE) (by kernel_rfl) rfl rfl rfl (by kernel_rfl) (by kernel_rfl) rfl rfl ?_ ?_
  · intro i hi
    obtain rfl | rfl : i = 0 ∨ i = 1 := by omega
    · exact step_d rfl rfl rfl
    · exact step_new16 rfl rfl rfl
  intro vs1 q3 W1 v3 h3 n1 E3' T3
  have mn1 := n1.size
  replace TR := there_up (by omega) TR n1
  replace N := nxt N n1
  clear n1 T3
  simp only [puts, v3, Act.put, List.setIfInBounds_toArray, List.set_cons_succ, List.set_cons_zero]
  clear v3
  go_upto_region 2 with fail
  refine region_new16 9 7 6 5 17 _ (fun i => [EL 0, EL 1, EL ((0) - (1)), RT ((0) - (1)), RT ((0) - (1)), Fact.eq (.bool (rootB ((0) - (1)))), EL (rootV ((0) - (1))), NB W1 16, Fact.eq (.bool (rootB ((0) - (1))))].getD i Fact.no) (rootV ((0) - (1))) (by kernel_rfl) rfl rfl rfl (by kernel_rfl) (by kernel_rfl) rfl rfl ?_ ?_
  · intro i hi
    obtain rfl | rfl | rfl | rfl | rfl | rfl | rfl | rfl | rfl : i = 0 ∨ i = 1 ∨ i = 2 ∨ i = 3 ∨ i = 4 ∨ i = 5 ∨ i = 6 ∨ i = 7 ∨ i = 8 := by omega
    · exact step_small rfl 0 (by omega) rfl rfl
    · exact step_small rfl 1 (by omega) rfl rfl
    · exact step_sub rfl 12 13 0 1 _ _ rfl (by kernel_rfl) (by kernel_rfl) rfl rfl rfl
    · exact step_root rfl 14 2 _ rfl (by kernel_rfl) rfl rfl
    · exact step_move rfl 15 3 (by exact Or.inl rfl) (by kernel_rfl) rfl
    · exact step_ext0 rfl 11 4 _ rfl (by kernel_rfl) rfl rfl
    · exact step_ext1 rfl 11 4 _ rfl (by kernel_rfl) rfl rfl
    · exact step_new16 rfl rfl rfl
    · exact step_move rfl 16 5 (by exact Or.inr rfl) (by kernel_rfl) rfl
  intro vs2 q5 W2 v5 h5 n2 E5 T5
  have y5 := E5.lt
  have mn2 := n2.size
  replace E3' := E3'.up n2
  replace TR := there_up (by omega) TR n2
  replace N := nxt N n2
  clear n2 T5
  simp only [puts, v5, Act.put, List.setIfInBounds_toArray, List.set_cons_succ, List.set_cons_zero]
  clear v5
  go_upto_region 3 with fail
  refine region_new16 9 7 6 7 24 _ (fun i => [EL 1, EL (dE), EL ((1) + (dE)), RT ((1) + (dE)), RT ((1) + (dE)), Fact.eq (.bool (rootB ((1) + (dE)))), EL (rootV ((1) + (dE))), NB W2 16, Fact.eq (.bool (rootB ((1) + (dE))))].getD i Fact.no) (rootV ((1) + (dE))) (by kernel_rfl) rfl rfl rfl (by kernel_rfl) (by kernel_rfl) rfl rfl ?_ ?_
  · intro i hi
    obtain rfl | rfl | rfl | rfl | rfl | rfl | rfl | rfl | rfl : i = 0 ∨ i = 1 ∨ i = 2 ∨ i = 3 ∨ i = 4 ∨ i = 5 ∨ i = 6 ∨ i = 7 ∨ i = 8 := by omega
    · exact step_small rfl 1 (by omega) rfl rfl
    · exact step_el rfl 49 3 rfl Go.Proofs.YtmanhandajhobaaDoor.u50 i50 (by kernel_rfl) _ _ rfl _ E3' rfl
    · exact step_add rfl 19 20 0 1 _ _ rfl (by kernel_rfl) (by kernel_rfl) rfl rfl rfl
    · exact step_root rfl 21 2 _ rfl (by kernel_rfl) rfl rfl
    · exact step_move rfl 22 3 (by exact Or.inl rfl) (by kernel_rfl) rfl
    · exact step_ext0 rfl 18 4 _ rfl (by kernel_rfl) rfl rfl
    · exact step_ext1 rfl 18 4 _ rfl (by kernel_rfl) rfl rfl
    · exact step_new16 rfl rfl rfl
    · exact step_move rfl 23 5 (by exact Or.inr rfl) (by kernel_rfl) rfl
  intro vs3 q7 W3' v7 h7 n3 E7 T7
  have mn3 := n3.size
  replace E3' := E3'.up n3
  replace E5 := E5.up n3
  replace TR := there_up (by omega) TR n3
  replace N := nxt N n3
  clear n3 T7
  simp only [puts, v7, Act.put, List.setIfInBounds_toArray, List.set_cons_succ, List.set_cons_zero]
  clear v7
  go_upto_region 4 with fail
  refine region_new16F 12 10 9 9 34 _ (fun i => [EL 1, EL (rootV ((1) + (dE))), EL ((1) + (rootV ((1) + (dE)))), EL (dE), EL (iv (dE)), EL (((1) + (rootV ((1) + (dE)))) * (iv (dE))), RT (((1) + (rootV ((1) + (dE)))) * (iv (dE))), RT (((1) + (rootV ((1) + (dE)))) * (iv (dE))), Fact.eq (.bool (rootB (((1) + (rootV ((1) + (dE)))) * (iv (dE))))), EL (rootV (((1) + (rootV ((1) + (dE)))) * (iv (dE)))), NB W3' 16, Fact.eq (.bool (rootB (((1) + (rootV ((1) + (dE)))) * (iv (dE)))))].getD i Fact.no) (rootV (((1) + (rootV ((1) + (dE)))) * (iv (dE)))) (by kernel_rfl) rfl rfl rfl (by kernel_rfl) (by kernel_rfl) rfl rfl ?_ ?_
  · intro i hi
    obtain rfl | rfl | rfl | rfl | rfl | rfl | rfl | rfl | rfl | rfl | rfl | rfl : i = 0 ∨ i = 1 ∨ i = 2 ∨ i = 3 ∨ i = 4 ∨ i = 5 ∨ i = 6 ∨ i = 7 ∨ i = 8 ∨ i = 9 ∨ i = 10 ∨ i = 11 := by omega
    · exact step_small rfl 1 (by omega) rfl rfl
    · exact step_el rfl 49 7 rfl Go.Proofs.YtmanhandajhobaaDoor.u50 i50 (by kernel_rfl) _ _ rfl _ E7 rfl
    · exact step_add rfl 26 27 0 1 _ _ rfl (by kernel_rfl) (by kernel_rfl) rfl rfl rfl
    · exact step_el rfl 49 3 rfl Go.Proofs.YtmanhandajhobaaDoor.u50 i50 (by kernel_rfl) _ _ rfl _ E3' rfl
    · exact step_inv rfl 29 3 _ rfl (by kernel_rfl) rfl rfl
    · exact step_mul rfl 28 30 2 4 _ _ rfl (by kernel_rfl) (by kernel_rfl) rfl rfl rfl
    · exact step_root rfl 31 5 _ rfl (by kernel_rfl) rfl rfl
    · exact step_move rfl 32 6 (by exact Or.inl rfl) (by kernel_rfl) rfl
    · exact step_ext0 rfl 25 7 _ rfl (by kernel_rfl) rfl rfl
    · exact step_ext1 rfl 25 7 _ rfl (by kernel_rfl) rfl rfl
    · exact step_new16 rfl rfl rfl
    · exact step_move rfl 33 8 (by exact Or.inr rfl) (by kernel_rfl) rfl
  intro vs4 q9 W4 v9 h9 n4 E9 T9 hF
  obtain ⟨_, v8⟩ := hF 11 8 (by kernel_rfl)
  clear hF
  have mn4 := n4.size
  replace E3' := E3'.up n4
  replace E5 := E5.up n4
  replace E7 := E7.up n4
  replace TR := there_up (by omega) TR n4
  replace N := nxt N n4
  have y9 := E9.lt
  have y3 := E3'.lt
  have r5 : q5 ≠ q9 := by omega
  clear n4
  change vs4 8 = .bool (rootB _) at v8
  simp only [puts, v9, v8, Act.put, List.setIfInBounds_toArray, List.set_cons_succ, List.set_cons_zero]
  clear v9 v8
  cases rootB (((1) + (rootV ((1) + (dE)))) * (iv (dE))) with
  | true =>
    go_upto_region 9 with fail
    refine region_putP 12 11 2 61 _ (fun i => [Fact.eq (.int .i64 k), RN W4 (fun xs => xs.length ≤ 1 ∧ Byt xs), RN W4 (fun xs => xs.length = 32 ∧ Byt xs), EL (rootV (((1) + (rootV ((1) + (dE)))) * (iv (dE)))), RN W4 (fun xs => xs = fill (byt ((rootV (((1) + (rootV ((1) + (dE)))) * (iv (dE)))) % PP)) 32), EL (rootV (((1) + (rootV ((1) + (dE)))) * (iv (dE)))), EL (rootV ((0) - (1))), EL ((rootV (((1) + (rootV ((1) + (dE)))) * (iv (dE)))) * (rootV ((0) - (1)))), RN W4 (fun xs => xs = fill (byt (((rootV (((1) + (rootV ((1) + (dE)))) * (iv (dE)))) * (rootV ((0) - (1)))) % PP)) 32), PT W4 (fun xs ys => xs = fill (byt ((rootV (((1) + (rootV ((1) + (dE)))) * (iv (dE)))) % PP)) 32 ∧ ys = fill (byt (((rootV (((1) + (rootV ((1) + (dE)))) * (iv (dE)))) * (rootV ((0) - (1)))) % PP)) 32), E3any, PT W4 PtOk].getD i Fact.no) PtOk _ (by kernel_rfl) rfl rfl rfl (by kernel_rfl) rfl TR (by kernel_rfl) rfl ?_ ?_
    · intro i hi
      obtain rfl | rfl | rfl | rfl | rfl | rfl | rfl | rfl | rfl | rfl | rfl | rfl : i = 0 ∨ i = 1 ∨ i = 2 ∨ i = 3 ∨ i = 4 ∨ i = 5 ∨ i = 6 ∨ i = 7 ∨ i = 8 ∨ i = 9 ∨ i = 10 ∨ i = 11 := by omega
      · exact step_mv0 rfl 0 (by kernel_rfl) (by kernel_rfl) rfl rfl
      · exact step_int rfl 50 0 k ⟨k0, k1⟩ rfl (by kernel_rfl) rfl rfl
      · exact step_lit rfl 51 1 rfl (by kernel_rfl) rfl rfl
      · exact step_el rfl 49 9 rfl Go.Proofs.YtmanhandajhobaaDoor.u50 i50 (by kernel_rfl) _ _ rfl _ E9 rfl
      · exact step_bytes rfl 53 3 _ rfl (by kernel_rfl) rfl rfl
      · exact step_el rfl 49 9 rfl Go.Proofs.YtmanhandajhobaaDoor.u50 i50 (by kernel_rfl) _ _ rfl _ E9 rfl
      · exact step_el rfl 49 5 rfl Go.Proofs.YtmanhandajhobaaDoor.u50 i50 (by kernel_rfl) _ _ rfl _ E5 rfl
      · exact step_mul rfl 55 56 5 6 _ _ rfl (by kernel_rfl) (by kernel_rfl) rfl rfl rfl
      · exact step_bytes rfl 57 7 _ rfl (by kernel_rfl) rfl rfl
      · exact step_bp rfl 54 58 4 8 _ _ rfl (by kernel_rfl) (by kernel_rfl) rfl rfl rfl
      · exact step_times rfl 52 59 2 9 rfl (by kernel_rfl) (by kernel_rfl) rfl rfl rfl
      · exact step_plain rfl 60 10 rfl (by kernel_rfl) rfl rfl
    intro vs9 W W' xs ys a a' c c' g g' n bq rg o1 o2 l1 l2 hp nb
    have NS := nb w w.heap.size (nxt N n) (by omega)
    simp only [puts, Act.put, List.setIfInBounds_toArray, List.set_cons_succ, List.set_cons_zero]
    have z1 := N.size
    clear N n bq nb TR
    go_wp2
    obtain ⟨fs, hfs⟩ := uP
    exact bodyPost_ret (v := .agg #[_, _]) (results_cell_mid Tryd.results102 _ _ w.heap.size _ _ rfl rg hfs rfl iP) rfl ⟨xs, ys, ⟨a, a', c, c', g, g', rfl, o1, o2, by omega, by omega⟩, hp.1, hp.2, NS⟩
  | false =>
    go_upto_region 6 with fail
    refine region_put16F 11 9 9 46 _ (fun i => [EL 1, EL (rootV ((1) + (dE))), EL ((1) - (rootV ((1) + (dE)))), EL (dE), EL (iv (dE)), EL (((1) - (rootV ((1) + (dE)))) * (iv (dE))), RT (((1) - (rootV ((1) + (dE)))) * (iv (dE))), RT (((1) - (rootV ((1) + (dE)))) * (iv (dE))), Fact.eq (.bool (rootB (((1) - (rootV ((1) + (dE)))) * (iv (dE))))), EL (rootV (((1) - (rootV ((1) + (dE)))) * (iv (dE)))), Fact.eq (.bool (rootB (((1) - (rootV ((1) + (dE)))) * (iv (dE)))))].getD i Fact.no) (rootV (((1) - (rootV ((1) + (dE)))) * (iv (dE)))) _ (by kernel_rfl) rfl rfl rfl (by kernel_rfl) rfl T9 (by kernel_rfl) rfl ?_ ?_
    · intro i hi
      obtain rfl | rfl | rfl | rfl | rfl | rfl | rfl | rfl | rfl | rfl | rfl : i = 0 ∨ i = 1 ∨ i = 2 ∨ i = 3 ∨ i = 4 ∨ i = 5 ∨ i = 6 ∨ i = 7 ∨ i = 8 ∨ i = 9 ∨ i = 10 := by omega
      · exact step_small rfl 1 (by omega) rfl rfl
      · exact step_el rfl 49 7 rfl Go.Proofs.YtmanhandajhobaaDoor.u50 i50 (by kernel_rfl) _ _ rfl _ E7 rfl
      · exact step_sub rfl 38 39 0 1 _ _ rfl (by kernel_rfl) (by kernel_rfl) rfl rfl rfl
      · exact step_el rfl 49 3 rfl Go.Proofs.YtmanhandajhobaaDoor.u50 i50 (by kernel_rfl) _ _ rfl _ E3' rfl
      · exact step_inv rfl 41 3 _ rfl (by kernel_rfl) rfl rfl
      · exact step_mul rfl 40 42 2 4 _ _ rfl (by kernel_rfl) (by kernel_rfl) rfl rfl rfl
      · exact step_root rfl 43 5 _ rfl (by kernel_rfl) rfl rfl
      · exact step_move rfl 44 6 (by exact Or.inl rfl) (by kernel_rfl) rfl
      · exact step_ext0 rfl 37 7 _ rfl (by kernel_rfl) rfl rfl
      · exact step_ext1 rfl 37 7 _ rfl (by kernel_rfl) rfl rfl
      · exact step_move rfl 45 8 (by exact Or.inr rfl) (by kernel_rfl) rfl
    intro vs6 Wa W6 na bq E9n T9n nb hF
    obtain ⟨_, v8⟩ := hF 10 8 (by kernel_rfl)
    clear hF
    replace TR := there_but (by omega) TR bq (by omega)
    replace E5 := E5.but bq r5
    replace N := nb w w.heap.size (nxt N na) (by omega)
    clear bq nb na E9 E7 E3'
    have E9 := E9n
    change vs6 8 = .bool (rootB _) at v8
    simp only [puts, v8, Act.put, List.setIfInBounds_toArray, List.set_cons_succ, List.set_cons_zero]
    clear v8
    cases rootB (((1) - (rootV ((1) + (dE)))) * (iv (dE))) with
    | true =>
      go_upto_region 9 with fail
      refine region_putP 12 11 2 61 _ (fun i => [Fact.eq (.int .i64 k), RN W6 (fun xs => xs.length ≤ 1 ∧ Byt xs), RN W6 (fun xs => xs.length = 32 ∧ Byt xs), EL (rootV (((1) - (rootV ((1) + (dE)))) * (iv (dE)))), RN W6 (fun xs => xs = fill (byt ((rootV (((1) - (rootV ((1) + (dE)))) * (iv (dE)))) % PP)) 32), EL (rootV (((1) - (rootV ((1) + (dE)))) * (iv (dE)))), EL (rootV ((0) - (1))), EL ((rootV (((1) - (rootV ((1) + (dE)))) * (iv (dE)))) * (rootV ((0) - (1)))), RN W6 (fun xs => xs = fill (byt (((rootV (((1) - (rootV ((1) + (dE)))) * (iv (dE)))) * (rootV ((0) - (1)))) % PP)) 32), PT W6 (fun xs ys => xs = fill (byt ((rootV (((1) - (rootV ((1) + (dE)))) * (iv (dE)))) % PP)) 32 ∧ ys = fill (byt (((rootV (((1) - (rootV ((1) + (dE)))) * (iv (dE)))) * (rootV ((0) - (1)))) % PP)) 32), E3any, PT W6 PtOk].getD i Fact.no) PtOk _ (by kernel_rfl) rfl rfl rfl (by kernel_rfl) rfl TR (by kernel_rfl) rfl ?_ ?_
      · intro i hi
        obtain rfl | rfl | rfl | rfl | rfl | rfl | rfl | rfl | rfl | rfl | rfl | rfl : i = 0 ∨ i = 1 ∨ i = 2 ∨ i = 3 ∨ i = 4 ∨ i = 5 ∨ i = 6 ∨ i = 7 ∨ i = 8 ∨ i = 9 ∨ i = 10 ∨ i = 11 := by omega
        · exact step_mv0 rfl 0 (by kernel_rfl) (by kernel_rfl) rfl rfl
        · exact step_int rfl 50 0 k ⟨k0, k1⟩ rfl (by kernel_rfl) rfl rfl
        · exact step_lit rfl 51 1 rfl (by kernel_rfl) rfl rfl
        · exact step_el rfl 49 9 rfl Go.Proofs.YtmanhandajhobaaDoor.u50 i50 (by kernel_rfl) _ _ rfl _ E9 rfl
        · exact step_bytes rfl 53 3 _ rfl (by kernel_rfl) rfl rfl
        · exact step_el rfl 49 9 rfl Go.Proofs.YtmanhandajhobaaDoor.u50 i50 (by kernel_rfl) _ _ rfl _ E9 rfl
        · exact step_el rfl 49 5 rfl Go.Proofs.YtmanhandajhobaaDoor.u50 i50 (by kernel_rfl) _ _ rfl _ E5 rfl
        · exact step_mul rfl 55 56 5 6 _ _ rfl (by kernel_rfl) (by kernel_rfl) rfl rfl rfl
        · exact step_bytes rfl 57 7 _ rfl (by kernel_rfl) rfl rfl
        · exact step_bp rfl 54 58 4 8 _ _ rfl (by kernel_rfl) (by kernel_rfl) rfl rfl rfl
        · exact step_times rfl 52 59 2 9 rfl (by kernel_rfl) (by kernel_rfl) rfl rfl rfl
        · exact step_plain rfl 60 10 rfl (by kernel_rfl) rfl rfl
      intro vs9 W W' xs ys a a' c c' g g' n bq rg o1 o2 l1 l2 hp nb
      have NS := nb w w.heap.size (nxt N n) (by omega)
      simp only [puts, Act.put, List.setIfInBounds_toArray, List.set_cons_succ, List.set_cons_zero]
      have z1 := N.size
      clear N n bq nb TR
      go_wp2
      obtain ⟨fs, hfs⟩ := uP
      exact bodyPost_ret (v := .agg #[_, _]) (results_cell_mid Tryd.results102 _ _ w.heap.size _ _ rfl rg hfs rfl iP) rfl ⟨xs, ys, ⟨a, a', c, c', g, g', rfl, o1, o2, by omega, by omega⟩, hp.1, hp.2, NS⟩
    | false =>
      go_upto_region 8 with fail
      refine region_putP 1 0 2 49 _ (fun i => [PT W6 PtOk].getD i Fact.no) PtOk _ (by kernel_rfl) rfl rfl rfl (by kernel_rfl) rfl TR (by kernel_rfl) rfl ?_ ?_
      · intro i hi
        obtain rfl : i = 0 := by omega
        exact step_zero rfl rfl rfl
      intro vs9 W W' xs ys a a' c c' g g' n bq rg o1 o2 l1 l2 hp nb
      have NS := nb w w.heap.size (nxt N n) (by omega)
      simp only [puts, Act.put, List.setIfInBounds_toArray, List.set_cons_succ, List.set_cons_zero]
      have z1 := N.size
      clear N n bq nb TR
      go_wp2
      obtain ⟨fs, hfs⟩ := uP
      exact bodyPost_ret (v := .agg #[_, _]) (results_cell_mid Tryd.results102 _ _ w.heap.size _ _ rfl rg hfs rfl iP) rfl ⟨xs, ys, ⟨a, a', c, c', g, g', rfl, o1, o2, by omega, by omega⟩, hp.1, hp.2, NS⟩
end Go.Proofs.YtmanhandajhobaaDoor

/-
  What is drawn from a source, told by the source's bytes.
-/
namespace Go.Proofs.YtmanhandajhobaaDoor
set_option maxRecDepth 100000
open Go.RowKit

/-- The next number that is drawn. -/
def nxF (xs : List Int) (t n : Int) : Int :=
  if xs.length = 0 then t * 7 % n else
    (if 200 < n then (xs.getD (t % (xs.length : Int)).toNat 0 + t / (xs.length : Int) * 37) * 251 + xs.getD ((t + 1) % (xs.length : Int)).toNat 0 * 13 + t
      else xs.getD (t % (xs.length : Int)).toNat 0 + t / (xs.length : Int) * 37) % n
set_option maxHeartbeats 2000000 in
theorem l1NextV_any (w : World) (s g : Nat) (a : Option Addr) (c : Nat) (xs : List Int) (t n : Int) (hs : Src w s a xs.length c t) (hr : Rd w g a .u8 xs) (hne : 0 < xs.length → g ≠ s) (hb : Byt xs) (hl : xs.length ≤ 4194304)
    (t0 : 0 ≤ t) (t1 : t ≤ 1048576) (n0 : 1 ≤ n) (n1 : n ≤ 1048576) :
    Calls Tryd.prog 62 #[.pointer (some ⟨s, 0, none⟩), .int .i64 n] w fun e w' => e = .returned (.int .i64 (nxF xs t n)) ∧ (0 ≤ nxF xs t n ∧ nxF xs t n < n) ∧ Src w' s a xs.length c (t + 1) ∧ Only s w w' := by
  have c0 := hs.code
  have c1 := hs.at_
  have f1 := hs.free
  have k1 : (w.setCell ⟨s, 1, none⟩ (.int .i64 (t + 1))).cell? ⟨s, 1, none⟩ = some (.int .i64 (t + 1)) := World.cell?_setCell_same _ _ _ hs.at_
  have k0 : (w.setCell ⟨s, 1, none⟩ (.int .i64 (t + 1))).cell? ⟨s, 0, none⟩ = some (.slice a xs.length c) := by rw [World.cell?_setCell_other (h := by simp)]; exact hs.code
  have tn : decide (n < 1) = false := by simp; omega
  by_cases h0 : xs.length = 0
  · have hk : ((xs.length : Int) == 0) = true := by simp [h0]
    have r0 := Int.emod_nonneg (t * 7) (show n ≠ 0 by omega)
    have r1 := Int.emod_lt_of_pos (t * 7) (show 0 < n by omega)
    have V : nxF xs t n = t * 7 % n := by unfold nxF; rw [if_pos h0]
    rw [V]
    clear V
    have S := hs.step (t + 1) 0
    have O := Only.step w s (.int .i64 (t + 1)) 0
    clear h0
    go_enter Tryd.func62, Tryd.ntmps62
    go_wp2
    go_ret
    exact ⟨rfl, ⟨r0, r1⟩, S, O⟩
  · have hk : ((xs.length : Int) == 0) = false := beq_eq_false_iff_ne.2 (by omega)
    obtain ⟨off, rfl, hc⟩ := hr (by omega)
    have gs : g ≠ s := hne (by omega)
    obtain ⟨i1, hi1⟩ := Int.eq_ofNat_of_zero_le (Int.emod_nonneg t (show (xs.length : Int) ≠ 0 by omega))
    have li1 : (i1 : Int) < (xs.length : Int) := by rw [← hi1]; exact Int.emod_lt_of_pos _ (by omega)
    obtain ⟨i2, hi2⟩ := Int.eq_ofNat_of_zero_le (Int.emod_nonneg (t + 1) (show (xs.length : Int) ≠ 0 by omega))
    have li2 : (i2 : Int) < (xs.length : Int) := by rw [← hi2]; exact Int.emod_lt_of_pos _ (by omega)
    obtain ⟨q, hq⟩ : ∃ q, t / (xs.length : Int) = q := ⟨_, rfl⟩
    have q0 : 0 ≤ q := by rw [← hq]; exact Int.ediv_nonneg t0 (by omega)
    have q1 : q ≤ 1048576 := by rw [← hq]; exact Int.le_trans (Int.ediv_le_self _ t0) t1
    have x1 : (w.setCell ⟨s, 1, none⟩ (.int .i64 (t + 1))).cell? ⟨g, off + i1, none⟩ = some (.int .u8 (xs.getD i1 0)) := by rw [World.cell?_setCell_other (h := fun e => gs (by simpa using (congrArg Addr.block e).symm))]; exact hc i1 (by omega)
    have x2 : (w.setCell ⟨s, 1, none⟩ (.int .i64 (t + 1))).cell? ⟨g, off + i2, none⟩ = some (.int .u8 (xs.getD i2 0)) := by rw [World.cell?_setCell_other (h := fun e => gs (by simpa using (congrArg Addr.block e).symm))]; exact hc i2 (by omega)
    have b1 := hb i1
    have b2 := hb i2
    have S := fun m => hs.step (t + 1) m
    have O := fun m => Only.step w s (.int .i64 (t + 1)) m
    have V : nxF xs t n = (if 200 < n then (xs.getD i1 0 + q * 37) * 251 + xs.getD i2 0 * 13 + t else xs.getD i1 0 + q * 37) % n := by
      unfold nxF
      rw [if_neg h0, hi1, hi2, hq]
      rfl
    generalize xs.getD i1 0 = x at *
    generalize xs.getD i2 0 = y at *
    rw [V]
    clear V
    clear hc hs hr h0
    by_cases hn : n ≤ 200
    · have tn2 : decide (200 < n) = false := by simp; omega
      rw [if_neg (by omega : ¬ 200 < n)]
      have r0 := Int.emod_nonneg (x + q * 37) (show n ≠ 0 by omega)
      have r1 := Int.emod_lt_of_pos (x + q * 37) (show 0 < n by omega)
      clear x2 hi2 li2 b2
      go_enter Tryd.func62, Tryd.ntmps62
      go_wp2
      go_quiet (fail)
      go_wp2
      go_ret
      exact ⟨rfl, ⟨r0, r1⟩, S _, O _⟩
    · have tn2 : decide (200 < n) = true := by simp; omega
      rw [if_pos (by omega : 200 < n)]
      have r0 := Int.emod_nonneg ((x + q * 37) * 251 + y * 13 + t) (show n ≠ 0 by omega)
      have r1 := Int.emod_lt_of_pos ((x + q * 37) * 251 + y * 13 + t) (show 0 < n by omega)
      go_enter Tryd.func62, Tryd.ntmps62
      go_wp2
      go_quiet (fail)
      go_wp2
      go_quiet (fail)
      go_wp2
      go_ret
      exact ⟨rfl, ⟨r0, r1⟩, S _, O _⟩

/-- The bytes that are drawn. -/
def dbF (xs : List Int) (t : Int) : Nat → List Int
  | 0 => []
  | k + 1 => dbF xs t k ++ [nxF xs (t + (k : Int)) 256]
theorem dbF_len (xs : List Int) (t : Int) : ∀ k, (dbF xs t k).length = k
  | 0 => rfl
  | k + 1 => by simp [dbF, dbF_len xs t k]
theorem nx_in (xs : List Int) (t : Int) {n : Int} (h : 0 < n) : 0 ≤ nxF xs t n ∧ nxF xs t n < n := by
  unfold nxF
  split
  · exact ⟨Int.emod_nonneg _ (by omega), Int.emod_lt_of_pos _ h⟩
  · exact ⟨Int.emod_nonneg _ (by omega), Int.emod_lt_of_pos _ h⟩
theorem dbF_byt (xs : List Int) (t : Int) : ∀ k, Byt (dbF xs t k)
  | 0 => byt_nil
  | k + 1 => byt_snoc (dbF_byt xs t k) _ (nx_in xs _ (by decide)).1 (nx_in xs _ (by decide)).2
set_option maxHeartbeats 2000000 in
theorem l1DrawBytesV_any (w : World) (s g : Nat) (a : Option Addr) (c : Nat) (xs : List Int) (t : Int) (n : Nat) (hs : Src w s a xs.length c t) (hr : Rd w g a .u8 xs) (hne : 0 < xs.length → g ≠ s) (hb : Byt xs) (hl : xs.length ≤ 4194304)
    (t0 : 0 ≤ t) (t1 : t + (n : Int) ≤ 1048576) :
    Calls Tryd.prog 103 #[.pointer (some ⟨s, 0, none⟩), .int .i64 n] w fun e w' => NewRow w.heap.size w' e .u8 (dbF xs t n) ∧ Src w' s a xs.length c (t + (n : Int)) ∧ But s w w' := by
  obtain ⟨i0, hi, hz0, hz1, hz2⟩ := info_parts Tryd.info5
  have hown0 : (w.alloc (.cells #[] 5)).ownsRow w.heap.size 5 1 (.slice (some ⟨w.heap.size, 0, none⟩) 0 0) 0 [] := World.ownsRow_lit w #[] 0 (Nat.le_refl _) (by unfold maxLen; omega) (by simp)
  have hal : Below w.heap.size w (w.alloc (.cells #[] 5)) := (Below.refl _ _).alloc (Nat.le_refl _) _
  have hsl := hs.lt
  go_enter Tryd.func103, Tryd.ntmps103
  go_wp2
  go_loopw [5, 6] (fun v i wr => ∃ (k : Nat), k ≤ n ∧ i = .int .i64 k ∧ wr.ownsRow w.heap.size 5 1 v k ((dbF xs t k).map (Value.int .u8)) ∧ Src wr s a xs.length c (t + (k : Int)) ∧ But s w wr) (fun _ i _ => n - (intOf i).toNat)
  case atStart => exact ⟨0, Nat.zero_le _, rfl, hown0, by simpa using hs.up hal, But.ofBelow hal⟩
  case round =>
    obtain ⟨k, hk, rfl, hown, hS, hN⟩ := hrel
    have e1 : dbF xs t (k + 1) = dbF xs t k ++ [nxF xs (t + (k : Int)) 256] := rfl
    have hyl : Hid ((dbF xs t k).length = k) := dbF_len xs t k
    obtain ⟨ys, hys⟩ : ∃ ys, ys = dbF xs t k := ⟨_, rfl⟩
    rw [← hys] at hown e1 hyl
    have hr' := hr.but hN hne
    by_cases hlt : k < n
    · have hob := hown.lt
      go_wp2_with fail
      refine (l1NextV_any wr s g a c xs (t + (k : Int)) 256 hS hr' hne hb hl (by omega) (by omega) (by decide) (by decide)).mono ?_
      rintro e w1 ⟨rfl, ⟨r0, r1⟩, S1, O1⟩
      obtain ⟨r, hrr⟩ : ∃ r, r = nxF xs (t + (k : Int)) 256 := ⟨_, rfl⟩
      rw [← hrr] at r0 r1 e1 ⊢
      clear hys hrr
      have N1 := hN.only O1
      have hown1 := hown.kept O1.grown (by
        cases hv : Value.ownBlock _ with
        | none => exact .inl rfl
        | some q => exact .inr (fun e => by have := (hob q hv).1; simp at e; omega))
      have m1 : r % 256 = r := by omega
      have sz := N1.size
      clear hown hS hN O1 hr'
      go_wp2_with (at_builtin; refine wpList_append_own _ rfl _ _ 22 rfl w.heap.size 5 i0 (.int .u8 0) 1 1 Tryd.underlying22 hi hz0 hz1 hz2 rfl (by decide) _ k (ys.map (Value.int .u8)) rfl (hown1.alloc _) ⟨w1.heap.size, 0, none⟩ 1 1 [.int .u8 r] rfl rfl ?c1 ?c2 ?c3 ?c4 ?c5 ?_)
      case c1 =>
        intro j u hj
        match j, hj with
        | 0, hj => simp at hj; subst hj; simp [Addr.add]
      case c2 => intro u hu; simp at hu; subst hu; rfl
      case c3 => unfold maxLen; omega
      case c4 => omega
      case c5 => simp; omega
      · intro v' w2 hown2 hgrow _
        have nA : But s w (w1.alloc (.cells #[.int .u8 r] 5)) := N1.trans (But.ofBelow ((Below.refl _ _).alloc (Nat.le_refl _) _))
        have N2 := nA.grown hgrow (fun i hi => (hob i hi).1)
        have S2 : Src w2 s a xs.length c (t + ((k + 1 : Nat) : Int)) := by
          have := (S1.up ((Below.refl _ _).alloc (Nat.le_refl _) (.cells #[.int .u8 r] 5))).of_block (hgrow.block s (by simp; omega) (fun e => by have := (hob s e.symm).1; omega))
          rw [show t + ((k + 1 : Nat) : Int) = t + (k : Int) + 1 by omega]
          exact this
        have hown3 : w2.ownsRow w.heap.size 5 1 v' (k + 1) ((ys ++ [r]).map (Value.int .u8)) := by simpa using hown2
        rw [← e1] at hown3
        clear hown1 hown2 hgrow N1 S1 nA hob
        go_wp2
        go_roundw
        case rel => exact ⟨k + 1, by omega, by go_num, hown3, S2, N2⟩
        case measure => simp [intOf]; omega
    · obtain rfl : k = n := by omega
      have HY := hide hys
      clear hys e1
      have hown' := hown
      rw [← hyl.out] at hown'
      obtain ⟨a', c', g', hv, o1, o2, o3, o4⟩ := Own.of_ownsRow hown'
      subst hv
      clear hown hown'
      go_wp2
      go_ret
      obtain rfl := HY.out
      exact ⟨⟨_, _, g', rfl, o1, o2, o3, o4⟩, hS, hN⟩

set_option maxHeartbeats 400000 in
theorem l1ChanceV_any (w : World) (s g : Nat) (a : Option Addr) (c : Nat) (xs : List Int) (t n : Int) (hs : Src w s a xs.length c t) (hr : Rd w g a .u8 xs) (hne : 0 < xs.length → g ≠ s) (hb : Byt xs) (hl : xs.length ≤ 4194304)
    (t0 : 0 ≤ t) (t1 : t ≤ 1048576) (n0 : 1 ≤ n) (n1 : n ≤ 1048576) :
    Calls Tryd.prog 67 #[.pointer (some ⟨s, 0, none⟩), .int .i64 n] w fun e w' => e = .returned (.bool (nxF xs t n == 0)) ∧ Src w' s a xs.length c (t + 1) ∧ Only s w w' := by
  go_enter Tryd.func67, Tryd.ntmps67
  go_wp2_with fail
  refine (l1NextV_any w s g a c xs t n hs hr hne hb hl t0 t1 n0 n1).mono ?_
  rintro e w1 ⟨rfl, _, S1, O1⟩
  go_wp2
  go_ret
  exact ⟨rfl, S1, O1⟩

end Go.Proofs.YtmanhandajhobaaDoor

/-
  The model's numbers of int64, and its l5Small, told as values.
-/
namespace Go.Proofs.YtmanhandajhobaaDoor
set_option maxRecDepth 100000
open Go Go.RowKit

/-- The bytes of a number below 65536, the highest first. -/
def inF (v : Int) : List Int := if v = 0 then [] else if v < 256 then [v] else [v / 256, v % 256]
def InS (v t : Int) (ys : List Int) : Prop := (ys = [] ∧ t = v) ∨ (ys = [v % 256] ∧ t = v / 256 ∧ 0 < v) ∨ (ys = [v % 256, v / 256] ∧ t = 0 ∧ 256 ≤ v)
theorem InS.go {v t : Int} {ys : List Int} (h : InS v t ys) (h0 : 0 < t) (hv : v < 65536) : InS v (t / 256) (ys ++ [t % 256]) := by
  rcases h with ⟨rfl, rfl⟩ | ⟨rfl, rfl, h1⟩ | ⟨rfl, rfl, h1⟩
  · exact Or.inr (Or.inl ⟨rfl, rfl, h0⟩)
  · refine Or.inr (Or.inr ⟨?_, by omega, by omega⟩)
    rw [show v / 256 % 256 = v / 256 by omega]
    rfl
  · omega
theorem InS.short {v t : Int} {ys : List Int} (h : InS v t ys) (h0 : 0 < t) (hv : v < 65536) : ys.length + 1 ≤ 2 := by
  rcases h with ⟨rfl, rfl⟩ | ⟨rfl, rfl, h1⟩ | ⟨rfl, rfl, h1⟩
  · simp
  · simp
  · omega
theorem InS.turn {v : Int} {ys zs : List Int} (h : InS v 0 ys) (v0 : 0 ≤ v) (hv : v < 65536) (z : TurnTo ys zs ys.length) : zs = inF v := by
  obtain ⟨z1, z2⟩ := z
  unfold inF
  rcases h with ⟨rfl, rfl⟩ | ⟨rfl, h2, h1⟩ | ⟨rfl, _, h1⟩
  · rw [if_pos rfl]
    exact List.eq_nil_of_length_eq_zero z1
  · rw [if_neg (by omega), if_pos (by omega)]
    match zs, z1 with
    | [x], _ =>
      have := z2 0 (by simp)
      simp at this
      rw [this, show v % 256 = v by omega]
  · rw [if_neg (by omega), if_neg (by omega)]
    match zs, z1 with
    | [x, y], _ =>
      have a := z2 0 (by simp)
      have b := z2 1 (by simp)
      simp at a b
      rw [a, b]
theorem inF_byt {v : Int} (h0 : 0 ≤ v) (h1 : v < 65536) : Byt (inF v) ∧ (inF v).length ≤ 2 := by
  unfold inF
  split
  · exact ⟨byt_nil, by simp⟩
  · split
    · exact ⟨byt_snoc (ys := []) byt_nil v h0 (by omega), by simp⟩
    · exact ⟨byt_snoc (ys := [v / 256]) (byt_snoc (ys := []) byt_nil _ (by omega) (by omega)) _ (by omega) (by omega), by simp⟩
set_option maxHeartbeats 2000000 in
theorem l1IntV_any (w : World) (v : Int) (v0 : 0 ≤ v) (v1 : v < 65536) :
    Calls Tryd.prog 66 #[.int .i64 v] w fun e w' => NewRow w.heap.size w' e .u8 (inF v) ∧ Below w.heap.size w w' := by
  obtain ⟨i0, hi, hz0, hz1, hz2⟩ := info_parts Tryd.info5
  have hown0 : (w.alloc (.cells #[] 5)).ownsRow w.heap.size 5 1 (.slice (some ⟨w.heap.size, 0, none⟩) 0 0) 0 [] := World.ownsRow_lit w #[] 0 (Nat.le_refl _) (by unfold maxLen; omega) (by simp)
  have hal : Below w.heap.size w (w.alloc (.cells #[] 5)) := (Below.refl _ _).alloc (Nat.le_refl _) _
  go_enter Tryd.func66, Tryd.ntmps66
  go_wp2
  go_loopw [0, 3] (fun q ov wr => ∃ (k : Nat) (t : Int) (ys : List Int), q = .int .i64 t ∧ 0 ≤ t ∧ t < 65536 ∧ k ≤ 2 ∧ Hid (InS v t ys) ∧ Hid (ys.length = k) ∧ Byt ys ∧ wr.ownsRow w.heap.size 5 1 ov k (ys.map (Value.int .u8)) ∧ Below w.heap.size w wr) (fun q _ _ => (intOf q).toNat)
  case atStart => exact ⟨0, v, [], rfl, v0, v1, by omega, Or.inl ⟨rfl, rfl⟩, rfl, byt_nil, hown0, hal⟩
  case round =>
    obtain ⟨k, t, ys, rfl, ht0, ht1, hk1, hI, hyl, hyb, hown, hN⟩ := hrel
    have hob := hown.lt
    by_cases hlt : 0 < t
    · have hI2 := hide (InS.go hI.out hlt v1)
      have hk2 : k + 1 ≤ 2 := by have := InS.short hI.out hlt v1; rw [hyl.out] at this; exact this
      have c0 : 0 ≤ t % 256 := by omega
      have c1 : t % 256 < 256 := by omega
      obtain ⟨u, hu⟩ : ∃ u, u = t % 256 := ⟨_, rfl⟩
      rw [← hu] at hI2 c0 c1
      have hu2 := hu.symm
      clear hk1 hI hu
      go_wp2_with (at_builtin; refine wpList_append_own _ rfl _ _ 22 rfl w.heap.size 5 i0 (.int .u8 0) 1 1 Tryd.underlying22 hi hz0 hz1 hz2 rfl (by decide) _ k (ys.map (Value.int .u8)) rfl (hown.alloc _) ⟨wr.heap.size, 0, none⟩ 1 1 [.int .u8 u] rfl rfl ?c1 ?c2 ?c3 ?c4 ?c5 ?_)
      case c1 =>
        intro j x hj
        match j, hj with
        | 0, hj => simp at hj; subst hj; simp [Addr.add]
      case c2 => intro x hx; simp at hx; subst hx; rfl
      case c3 => unfold maxLen; omega
      case c4 => omega
      case c5 => simp; have := hN.size; omega
      · intro v' w2 hown2 hgrow _
        have nA : Below w.heap.size w (wr.alloc (.cells #[.int .u8 u] 5)) := hN.alloc hN.size _
        have N2 : Below w.heap.size w w2 := nA.grown hgrow (by simp; have := hN.size; omega) (fun i hi => (hob i hi).1)
        have hown3 : w2.ownsRow w.heap.size 5 1 v' (k + 1) ((ys ++ [u]).map (Value.int .u8)) := by simpa using hown2
        have hl3 : Hid ((ys ++ [u]).length = k + 1) := by show _ = _; have := hyl.out; simp; omega
        have hb3 := byt_snoc hyb u c0 c1
        clear hown hown2 hgrow nA hob
        go_wp2
        go_roundw
        case rel => exact ⟨k + 1, t / 256, ys ++ [u], rfl, by omega, by omega, hk2, hI2, hl3, hb3, hown3, N2⟩
        case measure => simp [intOf]; omega
    · obtain rfl : t = 0 := by omega
      have hown' := hown
      rw [← hyl.out] at hown'
      obtain ⟨a', c', g', hv, o1, o2, o3, o4⟩ := Own.of_ownsRow hown'
      subst hv
      have L : ys.length ≤ 2 := by rw [hyl.out]; exact hk1
      have T := l1Turn_any wr g' a' c' ys o1.rd hyb (by omega)
      have HT := hide T
      clear hown hown' T
      go_wp2_with fail
      refine (unhide HT).mono ?_
      rintro e w3 ⟨zs, zt, zb, ⟨a3, c3, g3, rfl, o31, o32, o33, o34⟩, n3⟩
      have ZI := hide (InS.turn hI.out v0 v1 zt)
      clear zt hI
      have N3 := nxt hN n3
      have sz := hN.size
      go_wp2
      go_ret
      rw [← ZI.out]
      exact ⟨⟨_, _, g3, rfl, o31, o32, o33, by omega⟩, N3⟩

/-- The bytes of a number, the highest first and none of them 0. -/
def topG : Nat → Int → List Int
  | 0, _ => []
  | n + 1, v => if v ≤ 0 then [] else topG n (v / 256) ++ [v % 256]
def topF (v : Int) : List Int := topG v.toNat v
theorem topG_is : ∀ (n : Nat) (v : Int), 0 ≤ v → v.toNat ≤ n → Canon (topG n v) v
  | 0, v, h, k => by
    obtain rfl : v = 0 := by omega
    exact ⟨byt_nil, rfl, fun h => absurd h (by simp [topG])⟩
  | n + 1, v, h, k => by
    rw [topG]
    by_cases c : v ≤ 0
    · rw [if_pos c]
      obtain rfl : v = 0 := by omega
      exact ⟨byt_nil, rfl, fun h => absurd h (by simp)⟩
    · rw [if_neg c]
      obtain ⟨b, e, t⟩ := topG_is n (v / 256) (by omega) (by omega)
      refine ⟨byt_snoc b _ (by omega) (by omega), by rw [bval_snoc, e]; omega, fun _ => ?_⟩
      generalize topG n (v / 256) = ys at *
      cases ys with
      | nil =>
        have e0 : (0 : Int) = v / 256 := e
        show v % 256 ≠ 0
        omega
      | cons x xs => exact t (by simp)
theorem topF_eq {t : List Int} {v : Int} (h : Canon t v) : topF v = t := (topG_is _ _ (h.2.1 ▸ bval_nonneg h.1) (Nat.le_refl _)).uniq h
/-- A point by a number. -/
def tmP (ks xs ys : List Int) : W3 := acc dE (num xs, num ys, 1) (bitOf (topF (lsum (fun j => ks.getD j 0) ks.length))) (8 * (topF (lsum (fun j => ks.getD j 0) ks.length)).length)
def plX (p : W3) : List Int := fill (byt (p.1 * iv p.2.2 % PP)) 32
def plY (p : W3) : List Int := fill (byt (p.2.1 * iv p.2.2 % PP)) 32
def E3F (p : W3) : Fact := ⟨fun v _ => ∃ x y z, v = ag48 x y z ∧ (L16 x ∧ s16 x 16 % PP = p.1 % PP) ∧ (L16 y ∧ s16 y 16 % PP = p.2.1 % PP) ∧ (L16 z ∧ s16 z 16 % PP = p.2.2 % PP), fun _ h => h⟩
section
variable {ops : Array Oper} {Q : Exit → Act → World → Prop} {md : Region.Mode} {F : Nat → Fact} {a0 : Act} {w0 : World} {i : Nat} {o : Oper} {ts : Array TypeId}
theorem step_intV (hi : ops[i]? = some o) (p j : Nat) (v : Int) (hv : 0 ≤ v ∧ v < 65536) (hop : o.op = .call { callee := .value (.func 66), args := #[.tmp p], argTypes := ts })
    (hj : waits md ops i j p = true) (hFj : F j = Fact.eq (.int .i64 v)) (hFi : F i = RN w0 (fun xs => xs = inF v)) : StepOk Tryd.prog md ops Q F a0 w0 i := by
  refine step_call hi _ _ ts hop en_int fun a w _ hw hF => ?_
  have ea := hF j p hj
  rw [hFj] at ea
  have e1 : a.tmps.getD p undef = .int .i64 v := ea
  show Calls Tryd.prog 66 #[a.tmps.getD p undef] w _
  rw [e1]
  refine (l1IntV_any w v hv.1 hv.2).mono ?_
  rintro r w' ⟨⟨b, c, g, rfl, ow, k1, k2, hg⟩, hn⟩
  rw [hFi]
  exact ⟨_, rfl, hn, inF v, b, c, g, rfl, ow, Nat.le_trans hw.size hg, rfl, k1, k2⟩
theorem step_litV (hi : ops[i]? = some o) (p j : Nat) {zs : List Int} (hop : o.op = .call { callee := .value (.func 65), args := #[.tmp p, .const (.int .i64 32)], argTypes := ts })
    (hj : waits md ops i j p = true) (hz : Byt zs ∧ zs.length ≤ 2) (hFj : F j = RN w0 (fun xs => xs = zs)) (hFi : F i = RN w0 (fun xs => xs = fill (dig zs) 32)) : StepOk Tryd.prog md ops Q F a0 w0 i := by
  refine step_call hi _ _ ts hop en_little fun a w _ hw hF => ?_
  have ea := hF j p hj
  rw [hFj] at ea
  obtain ⟨xs, b, c, g, e1, ow, hg, rfl, k1, k2⟩ := ea
  show Calls Tryd.prog 65 #[a.tmps.getD p undef, .int .i64 32] w _
  rw [e1]
  refine (l1Little_any w g b c xs 32 ow.rd hz.1 (by omega) (by omega)).mono ?_
  rintro r w' ⟨rfl, B, hn⟩
  rw [hFi]
  exact ⟨_, rfl, hn, fill (dig xs) 32, _, 32, w.heap.size, by rw [fill_len], B.own0, hw.size, rfl, by simp, by rw [fill_len]; omega⟩
theorem step_timesV (hi : ops[i]? = some o) (p q j k : Nat) {ks f g : List Int} (hop : o.op = .call { callee := .value (.func 49), args := #[.tmp p, .tmp q], argTypes := ts })
    (hj : waits md ops i j p = true) (hk : waits md ops i k q = true) (hks : Byt ks ∧ ks.length ≤ 4096) (hf : PtOk f g) (hFj : F j = RN w0 (fun xs => xs = ks)) (hFk : F k = PT w0 (fun xs ys => xs = f ∧ ys = g)) (hFi : F i = E3F (tmP ks f g)) : StepOk Tryd.prog md ops Q F a0 w0 i := by
  refine step_call hi _ _ ts hop en_times fun a w _ _ hF => ?_
  have ea := hF j p hj
  have eb := hF k q hk
  rw [hFj] at ea
  rw [hFk] at eb
  obtain ⟨ks, b, c, h, e1, ow, _, rfl, _, _⟩ := ea
  obtain ⟨xs, ys, b1, b2, c1, c2, h1, h2, e2, o1, o2, _, _, rfl, rfl⟩ := eb
  show Calls Tryd.prog 49 #[a.tmps.getD p undef, a.tmps.getD q undef] w _
  rw [e1, e2]
  refine (l5Times_any w h h1 h2 b b1 b2 c c1 c2 ks xs ys ow.rd hks.1 hks.2 o1.rd o2.rd hf.1.1 hf.2.1 hf.1.2 hf.2.2).mono ?_
  rintro r w' ⟨top, P, x, y, z, hc, hP, rfl, hx, hy, hz, hn⟩
  rw [hFi]
  have e : tmP ks xs ys = P := by unfold tmP; rw [topF_eq hc, hP]
  rw [e]
  exact ⟨_, rfl, hn, x, y, z, rfl, hx, hy, hz⟩
theorem step_plainV (hi : ops[i]? = some o) (p j : Nat) {P : W3} (hop : o.op = .call { callee := .value (.func 48), args := #[.tmp p], argTypes := ts })
    (hj : waits md ops i j p = true) (hFj : F j = E3F P) (hFi : F i = PT w0 (fun xs ys => xs = plX P ∧ ys = plY P)) : StepOk Tryd.prog md ops Q F a0 w0 i := by
  refine step_call hi _ _ ts hop en_plain fun a w _ hw hF => ?_
  have ea := hF j p hj
  rw [hFj] at ea
  obtain ⟨x, y, z, e1, hx, hy, hz⟩ := ea
  show Calls Tryd.prog 48 #[a.tmps.getD p undef] w _
  rw [e1]
  refine (l5Plain_any w x y z _ _ _ hx hy hz).mono ?_
  rintro r w' ⟨⟨b, b', c, c', g, g', rfl, o1, o2, l1, l2⟩, hn⟩
  rw [hFi]
  exact ⟨_, rfl, hn, _, _, b, b', c, c', g, g', rfl, o1, o2, Nat.le_trans hw.size l1, Nat.le_trans hw.size l2, rfl, rfl⟩
theorem step_zeroV (hi : ops[i]? = some o) (hop : o.op = .call { callee := .value (.func 117), args := #[], argTypes := ts }) (hFi : F i = PT w0 (fun xs ys => xs = fill (byt (0 % PP)) 32 ∧ ys = fill (byt (1 % PP)) 32)) : StepOk Tryd.prog md ops Q F a0 w0 i := by
  refine step_call hi _ _ ts hop en_zero fun a w _ hw _ => ?_
  refine (pointZero_any w).mono ?_
  rintro r w' ⟨⟨b, b', c, c', g, g', rfl, o1, o2, l1, l2⟩, hn⟩
  rw [hFi]
  exact ⟨_, rfl, hn, _, _, b, b', c, c', g, g', rfl, o1, o2, Nat.le_trans hw.size l1, Nat.le_trans hw.size l2, rfl, rfl⟩
end
def sqA : Int := ((1) + (rootV ((1) + (dE)))) * (iv (dE))
def sqB : Int := ((1) - (rootV ((1) + (dE)))) * (iv (dE))
def ptA : List Int × List Int := (fill (byt (rootV sqA % PP)) 32, fill (byt (rootV sqA * rootV (0 - 1) % PP)) 32)
def ptB : List Int × List Int := (fill (byt (rootV sqB % PP)) 32, fill (byt (rootV sqB * rootV (0 - 1) % PP)) 32)
theorem ptA_ok : PtOk ptA.1 ptA.2 := ⟨⟨bytes_5 _ _, fill_len _ _⟩, bytes_5 _ _, fill_len _ _⟩
theorem ptB_ok : PtOk ptB.1 ptB.2 := ⟨⟨bytes_5 _ _, fill_len _ _⟩, bytes_5 _ _, fill_len _ _⟩
/-- One of the eight small points. -/
def smP (k : Int) : List Int × List Int :=
  if rootB sqA = true then (plX (tmP (fill (dig (inF k)) 32) ptA.1 ptA.2), plY (tmP (fill (dig (inF k)) 32) ptA.1 ptA.2))
  else if rootB sqB = true then (plX (tmP (fill (dig (inF k)) 32) ptB.1 ptB.2), plY (tmP (fill (dig (inF k)) 32) ptB.1 ptB.2))
  else (fill (byt (0 % PP)) 32, fill (byt (1 % PP)) 32)
theorem pl_ok (p : W3) : PtOk (plX p) (plY p) := ⟨⟨bytes_5 _ _, fill_len _ _⟩, bytes_5 _ _, fill_len _ _⟩
theorem smP_ok (k : Int) : PtOk (smP k).1 (smP k).2 := by
  unfold smP
  generalize rootB sqA = p
  generalize rootB sqB = q
  cases p
  · cases q
    · exact ⟨⟨bytes_5 _ _, fill_len _ _⟩, bytes_5 _ _, fill_len _ _⟩
    · exact pl_ok _
  · exact pl_ok _
set_option maxHeartbeats 4000000 in
theorem l5SmallV_any (w : World) (k : Int) (k0 : 0 ≤ k) (k1 : k ≤ 255) :
    Calls Tryd.prog 102 #[.int .i64 k] w fun r w' => NewPt w.heap.size w' r (smP k).1 (smP k).2 ∧ Below w.heap.size w w' := by
  go_enter Tryd.func102, Tryd.ntmps102
  go_upto_region 1 with fail
  change Code.wp _ _ _ _ (w.alloc pObj)
  have TR := there_p w
  have N : Below w.heap.size w (w.alloc pObj) := (Below.refl _ _).alloc (Nat.le_refl _) _
  generalize w.alloc pObj = wr at *
  have zr := there_lt (by omega) TR
  refine region_new16 2 1 0 3 10 _ (fun i => [EL dE, NB wr 16].getD i Fact.no) (dE) (by kernel_rfl) rfl rfl rfl (by kernel_rfl) (by kernel_rfl) rfl rfl ?_ ?_
  · intro i hi
    obtain rfl | rfl : i = 0 ∨ i = 1 := by omega
    · exact step_d rfl rfl rfl
    · exact step_new16 rfl rfl rfl
  intro vs1 q3 W1 v3 h3 n1 E3' T3
  have mn1 := n1.size
  replace TR := there_up (by omega) TR n1
  replace N := nxt N n1
  clear n1 T3
  simp only [puts, v3, Act.put, List.setIfInBounds_toArray, List.set_cons_succ, List.set_cons_zero]
  clear v3
  go_upto_region 2 with fail
  refine region_new16 9 7 6 5 17 _ (fun i => [EL 0, EL 1, EL ((0) - (1)), RT ((0) - (1)), RT ((0) - (1)), Fact.eq (.bool (rootB ((0) - (1)))), EL (rootV ((0) - (1))), NB W1 16, Fact.eq (.bool (rootB ((0) - (1))))].getD i Fact.no) (rootV ((0) - (1))) (by kernel_rfl) rfl rfl rfl (by kernel_rfl) (by kernel_rfl) rfl rfl ?_ ?_
  · intro i hi
    obtain rfl | rfl | rfl | rfl | rfl | rfl | rfl | rfl | rfl : i = 0 ∨ i = 1 ∨ i = 2 ∨ i = 3 ∨ i = 4 ∨ i = 5 ∨ i = 6 ∨ i = 7 ∨ i = 8 := by omega
    · exact step_small rfl 0 (by omega) rfl rfl
    · exact step_small rfl 1 (by omega) rfl rfl
    · exact step_sub rfl 12 13 0 1 _ _ rfl (by kernel_rfl) (by kernel_rfl) rfl rfl rfl
    · exact step_root rfl 14 2 _ rfl (by kernel_rfl) rfl rfl
    · exact step_move rfl 15 3 (by exact Or.inl rfl) (by kernel_rfl) rfl
    · exact step_ext0 rfl 11 4 _ rfl (by kernel_rfl) rfl rfl
    · exact step_ext1 rfl 11 4 _ rfl (by kernel_rfl) rfl rfl
    · exact step_new16 rfl rfl rfl
    · exact step_move rfl 16 5 (by exact Or.inr rfl) (by kernel_rfl) rfl
  intro vs2 q5 W2 v5 h5 n2 E5 T5
  have y5 := E5.lt
  have mn2 := n2.size
  replace E3' := E3'.up n2
  replace TR := there_up (by omega) TR n2
  replace N := nxt N n2
  clear n2 T5
  simp only [puts, v5, Act.put, List.setIfInBounds_toArray, List.set_cons_succ, List.set_cons_zero]
  clear v5
  go_upto_region 3 with fail
  refine region_new16 9 7 6 7 24 _ (fun i => [EL 1, EL (dE), EL ((1) + (dE)), RT ((1) + (dE)), RT ((1) + (dE)), Fact.eq (.bool (rootB ((1) + (dE)))), EL (rootV ((1) + (dE))), NB W2 16, Fact.eq (.bool (rootB ((1) + (dE))))].getD i Fact.no) (rootV ((1) + (dE))) (by kernel_rfl) rfl rfl rfl (by kernel_rfl) (by kernel_rfl) rfl rfl ?_ ?_
  · intro i hi
    obtain rfl | rfl | rfl | rfl | rfl | rfl | rfl | rfl | rfl : i = 0 ∨ i = 1 ∨ i = 2 ∨ i = 3 ∨ i = 4 ∨ i = 5 ∨ i = 6 ∨ i = 7 ∨ i = 8 := by omega
    · exact step_small rfl 1 (by omega) rfl rfl
    · exact step_el rfl 49 3 rfl Go.Proofs.YtmanhandajhobaaDoor.u50 i50 (by kernel_rfl) _ _ rfl _ E3' rfl
    · exact step_add rfl 19 20 0 1 _ _ rfl (by kernel_rfl) (by kernel_rfl) rfl rfl rfl
    · exact step_root rfl 21 2 _ rfl (by kernel_rfl) rfl rfl
    · exact step_move rfl 22 3 (by exact Or.inl rfl) (by kernel_rfl) rfl
    · exact step_ext0 rfl 18 4 _ rfl (by kernel_rfl) rfl rfl
    · exact step_ext1 rfl 18 4 _ rfl (by kernel_rfl) rfl rfl
    · exact step_new16 rfl rfl rfl
    · exact step_move rfl 23 5 (by exact Or.inr rfl) (by kernel_rfl) rfl
  intro vs3 q7 W3' v7 h7 n3 E7 T7
  have mn3 := n3.size
  replace E3' := E3'.up n3
  replace E5 := E5.up n3
  replace TR := there_up (by omega) TR n3
  replace N := nxt N n3
  clear n3 T7
  simp only [puts, v7, Act.put, List.setIfInBounds_toArray, List.set_cons_succ, List.set_cons_zero]
  clear v7
  go_upto_region 4 with fail
  refine region_new16F 12 10 9 9 34 _ (fun i => [EL 1, EL (rootV ((1) + (dE))), EL ((1) + (rootV ((1) + (dE)))), EL (dE), EL (iv (dE)), EL (sqA), RT (sqA), RT (sqA), Fact.eq (.bool (rootB (sqA))), EL (rootV (sqA)), NB W3' 16, Fact.eq (.bool (rootB (sqA)))].getD i Fact.no) (rootV (sqA)) (by kernel_rfl) rfl rfl rfl (by kernel_rfl) (by kernel_rfl) rfl rfl ?_ ?_
  · intro i hi
    obtain rfl | rfl | rfl | rfl | rfl | rfl | rfl | rfl | rfl | rfl | rfl | rfl : i = 0 ∨ i = 1 ∨ i = 2 ∨ i = 3 ∨ i = 4 ∨ i = 5 ∨ i = 6 ∨ i = 7 ∨ i = 8 ∨ i = 9 ∨ i = 10 ∨ i = 11 := by omega
    · exact step_small rfl 1 (by omega) rfl rfl
    · exact step_el rfl 49 7 rfl Go.Proofs.YtmanhandajhobaaDoor.u50 i50 (by kernel_rfl) _ _ rfl _ E7 rfl
    · exact step_add rfl 26 27 0 1 _ _ rfl (by kernel_rfl) (by kernel_rfl) rfl rfl rfl
    · exact step_el rfl 49 3 rfl Go.Proofs.YtmanhandajhobaaDoor.u50 i50 (by kernel_rfl) _ _ rfl _ E3' rfl
    · exact step_inv rfl 29 3 _ rfl (by kernel_rfl) rfl rfl
    · exact step_mul rfl 28 30 2 4 _ _ rfl (by kernel_rfl) (by kernel_rfl) rfl rfl rfl
    · exact step_root rfl 31 5 _ rfl (by kernel_rfl) rfl rfl
    · exact step_move rfl 32 6 (by exact Or.inl rfl) (by kernel_rfl) rfl
    · exact step_ext0 rfl 25 7 _ rfl (by kernel_rfl) rfl rfl
    · exact step_ext1 rfl 25 7 _ rfl (by kernel_rfl) rfl rfl
    · exact step_new16 rfl rfl rfl
    · exact step_move rfl 33 8 (by exact Or.inr rfl) (by kernel_rfl) rfl
  intro vs4 q9 W4 v9 h9 n4 E9 T9 hF
  obtain ⟨_, v8⟩ := hF 11 8 (by kernel_rfl)
  clear hF
  have mn4 := n4.size
  replace E3' := E3'.up n4
  replace E5 := E5.up n4
  replace E7 := E7.up n4
  replace TR := there_up (by omega) TR n4
  replace N := nxt N n4
  have y9 := E9.lt
  have y3 := E3'.lt
  have r5 : q5 ≠ q9 := by omega
  clear n4
  change vs4 8 = .bool (rootB _) at v8
  simp only [puts, v9, v8, Act.put, List.setIfInBounds_toArray, List.set_cons_succ, List.set_cons_zero]
  clear v9 v8
  cases hA : rootB (sqA) with
  | true =>
    have HS : Hid (smP k = (plX (tmP (fill (dig (inF k)) 32) ptA.1 ptA.2), plY (tmP (fill (dig (inF k)) 32) ptA.1 ptA.2))) := by show _ = _; unfold smP; rw [if_pos hA]
    clear hA
    go_upto_region 9 with fail
    refine region_putP 12 11 2 61 _ (fun i => [Fact.eq (.int .i64 k), RN W4 (fun xs => xs = inF k), RN W4 (fun xs => xs = fill (dig (inF k)) 32), EL (rootV (sqA)), RN W4 (fun xs => xs = fill (byt ((rootV (sqA)) % PP)) 32), EL (rootV (sqA)), EL (rootV ((0) - (1))), EL ((rootV (sqA)) * (rootV ((0) - (1)))), RN W4 (fun xs => xs = fill (byt (((rootV (sqA)) * (rootV ((0) - (1)))) % PP)) 32), PT W4 (fun xs ys => xs = fill (byt ((rootV (sqA)) % PP)) 32 ∧ ys = fill (byt (((rootV (sqA)) * (rootV ((0) - (1)))) % PP)) 32), E3F (tmP (fill (dig (inF k)) 32) ptA.1 ptA.2), PT W4 (fun xs ys => xs = plX (tmP (fill (dig (inF k)) 32) ptA.1 ptA.2) ∧ ys = plY (tmP (fill (dig (inF k)) 32) ptA.1 ptA.2))].getD i Fact.no) (fun xs ys => xs = plX (tmP (fill (dig (inF k)) 32) ptA.1 ptA.2) ∧ ys = plY (tmP (fill (dig (inF k)) 32) ptA.1 ptA.2)) _ (by kernel_rfl) rfl rfl rfl (by kernel_rfl) rfl TR (by kernel_rfl) rfl ?_ ?_
    · intro i hi
      obtain rfl | rfl | rfl | rfl | rfl | rfl | rfl | rfl | rfl | rfl | rfl | rfl : i = 0 ∨ i = 1 ∨ i = 2 ∨ i = 3 ∨ i = 4 ∨ i = 5 ∨ i = 6 ∨ i = 7 ∨ i = 8 ∨ i = 9 ∨ i = 10 ∨ i = 11 := by omega
      · exact step_mv0 rfl 0 (by kernel_rfl) (by kernel_rfl) rfl rfl
      · exact step_intV rfl 50 0 k ⟨k0, by omega⟩ rfl (by kernel_rfl) rfl rfl
      · exact step_litV rfl 51 1 rfl (by kernel_rfl) (inF_byt k0 (by omega)) rfl rfl
      · exact step_el rfl 49 9 rfl Go.Proofs.YtmanhandajhobaaDoor.u50 i50 (by kernel_rfl) _ _ rfl _ E9 rfl
      · exact step_bytes rfl 53 3 _ rfl (by kernel_rfl) rfl rfl
      · exact step_el rfl 49 9 rfl Go.Proofs.YtmanhandajhobaaDoor.u50 i50 (by kernel_rfl) _ _ rfl _ E9 rfl
      · exact step_el rfl 49 5 rfl Go.Proofs.YtmanhandajhobaaDoor.u50 i50 (by kernel_rfl) _ _ rfl _ E5 rfl
      · exact step_mul rfl 55 56 5 6 _ _ rfl (by kernel_rfl) (by kernel_rfl) rfl rfl rfl
      · exact step_bytes rfl 57 7 _ rfl (by kernel_rfl) rfl rfl
      · exact step_bp rfl 54 58 4 8 _ _ rfl (by kernel_rfl) (by kernel_rfl) rfl rfl rfl
      · exact step_timesV rfl 52 59 2 9 rfl (by kernel_rfl) (by kernel_rfl) ⟨dig_bytes_5 (inF_byt k0 (by omega)).1 32, by rw [fill_len]; omega⟩ ptA_ok rfl rfl rfl
      · exact step_plainV rfl 60 10 rfl (by kernel_rfl) rfl rfl
    rintro vs9 W W' xs ys a a' c c' g g' n bq rg o1 o2 l1 l2 ⟨rfl, rfl⟩ nb
    have NS := nb w w.heap.size (nxt N n) (by omega)
    simp only [puts, Act.put, List.setIfInBounds_toArray, List.set_cons_succ, List.set_cons_zero]
    have z1 := N.size
    clear N n bq nb TR
    go_wp2
    obtain ⟨fs, hfs⟩ := uP
    exact bodyPost_ret (v := .agg #[_, _]) (results_cell_mid Tryd.results102 _ _ w.heap.size _ _ rfl rg hfs rfl iP) rfl ⟨by rw [HS.out]; exact ⟨a, a', c, c', g, g', rfl, o1, o2, by omega, by omega⟩, NS⟩
  | false =>
    have HA := hide hA
    clear hA
    go_upto_region 6 with fail
    refine region_put16F 11 9 9 46 _ (fun i => [EL 1, EL (rootV ((1) + (dE))), EL ((1) - (rootV ((1) + (dE)))), EL (dE), EL (iv (dE)), EL (sqB), RT (sqB), RT (sqB), Fact.eq (.bool (rootB (sqB))), EL (rootV (sqB)), Fact.eq (.bool (rootB (sqB)))].getD i Fact.no) (rootV (sqB)) _ (by kernel_rfl) rfl rfl rfl (by kernel_rfl) rfl T9 (by kernel_rfl) rfl ?_ ?_
    · intro i hi
      obtain rfl | rfl | rfl | rfl | rfl | rfl | rfl | rfl | rfl | rfl | rfl : i = 0 ∨ i = 1 ∨ i = 2 ∨ i = 3 ∨ i = 4 ∨ i = 5 ∨ i = 6 ∨ i = 7 ∨ i = 8 ∨ i = 9 ∨ i = 10 := by omega
      · exact step_small rfl 1 (by omega) rfl rfl
      · exact step_el rfl 49 7 rfl Go.Proofs.YtmanhandajhobaaDoor.u50 i50 (by kernel_rfl) _ _ rfl _ E7 rfl
      · exact step_sub rfl 38 39 0 1 _ _ rfl (by kernel_rfl) (by kernel_rfl) rfl rfl rfl
      · exact step_el rfl 49 3 rfl Go.Proofs.YtmanhandajhobaaDoor.u50 i50 (by kernel_rfl) _ _ rfl _ E3' rfl
      · exact step_inv rfl 41 3 _ rfl (by kernel_rfl) rfl rfl
      · exact step_mul rfl 40 42 2 4 _ _ rfl (by kernel_rfl) (by kernel_rfl) rfl rfl rfl
      · exact step_root rfl 43 5 _ rfl (by kernel_rfl) rfl rfl
      · exact step_move rfl 44 6 (by exact Or.inl rfl) (by kernel_rfl) rfl
      · exact step_ext0 rfl 37 7 _ rfl (by kernel_rfl) rfl rfl
      · exact step_ext1 rfl 37 7 _ rfl (by kernel_rfl) rfl rfl
      · exact step_move rfl 45 8 (by exact Or.inr rfl) (by kernel_rfl) rfl
    intro vs6 Wa W6 na bq E9n T9n nb hF
    obtain ⟨_, v8⟩ := hF 10 8 (by kernel_rfl)
    clear hF
    replace TR := there_but (by omega) TR bq (by omega)
    replace E5 := E5.but bq r5
    replace N := nb w w.heap.size (nxt N na) (by omega)
    clear bq nb na E9 E7 E3'
    have E9 := E9n
    change vs6 8 = .bool (rootB _) at v8
    simp only [puts, v8, Act.put, List.setIfInBounds_toArray, List.set_cons_succ, List.set_cons_zero]
    clear v8
    cases hB : rootB (sqB) with
    | true =>
      have HS : Hid (smP k = (plX (tmP (fill (dig (inF k)) 32) ptB.1 ptB.2), plY (tmP (fill (dig (inF k)) 32) ptB.1 ptB.2))) := by show _ = _; unfold smP; rw [if_neg (by rw [HA.out]; simp), if_pos hB]
      clear hB HA
      go_upto_region 9 with fail
      refine region_putP 12 11 2 61 _ (fun i => [Fact.eq (.int .i64 k), RN W6 (fun xs => xs = inF k), RN W6 (fun xs => xs = fill (dig (inF k)) 32), EL (rootV (sqB)), RN W6 (fun xs => xs = fill (byt ((rootV (sqB)) % PP)) 32), EL (rootV (sqB)), EL (rootV ((0) - (1))), EL ((rootV (sqB)) * (rootV ((0) - (1)))), RN W6 (fun xs => xs = fill (byt (((rootV (sqB)) * (rootV ((0) - (1)))) % PP)) 32), PT W6 (fun xs ys => xs = fill (byt ((rootV (sqB)) % PP)) 32 ∧ ys = fill (byt (((rootV (sqB)) * (rootV ((0) - (1)))) % PP)) 32), E3F (tmP (fill (dig (inF k)) 32) ptB.1 ptB.2), PT W6 (fun xs ys => xs = plX (tmP (fill (dig (inF k)) 32) ptB.1 ptB.2) ∧ ys = plY (tmP (fill (dig (inF k)) 32) ptB.1 ptB.2))].getD i Fact.no) (fun xs ys => xs = plX (tmP (fill (dig (inF k)) 32) ptB.1 ptB.2) ∧ ys = plY (tmP (fill (dig (inF k)) 32) ptB.1 ptB.2)) _ (by kernel_rfl) rfl rfl rfl (by kernel_rfl) rfl TR (by kernel_rfl) rfl ?_ ?_
      · intro i hi
        obtain rfl | rfl | rfl | rfl | rfl | rfl | rfl | rfl | rfl | rfl | rfl | rfl : i = 0 ∨ i = 1 ∨ i = 2 ∨ i = 3 ∨ i = 4 ∨ i = 5 ∨ i = 6 ∨ i = 7 ∨ i = 8 ∨ i = 9 ∨ i = 10 ∨ i = 11 := by omega
        · exact step_mv0 rfl 0 (by kernel_rfl) (by kernel_rfl) rfl rfl
        · exact step_intV rfl 50 0 k ⟨k0, by omega⟩ rfl (by kernel_rfl) rfl rfl
        · exact step_litV rfl 51 1 rfl (by kernel_rfl) (inF_byt k0 (by omega)) rfl rfl
        · exact step_el rfl 49 9 rfl Go.Proofs.YtmanhandajhobaaDoor.u50 i50 (by kernel_rfl) _ _ rfl _ E9 rfl
        · exact step_bytes rfl 53 3 _ rfl (by kernel_rfl) rfl rfl
        · exact step_el rfl 49 9 rfl Go.Proofs.YtmanhandajhobaaDoor.u50 i50 (by kernel_rfl) _ _ rfl _ E9 rfl
        · exact step_el rfl 49 5 rfl Go.Proofs.YtmanhandajhobaaDoor.u50 i50 (by kernel_rfl) _ _ rfl _ E5 rfl
        · exact step_mul rfl 55 56 5 6 _ _ rfl (by kernel_rfl) (by kernel_rfl) rfl rfl rfl
        · exact step_bytes rfl 57 7 _ rfl (by kernel_rfl) rfl rfl
        · exact step_bp rfl 54 58 4 8 _ _ rfl (by kernel_rfl) (by kernel_rfl) rfl rfl rfl
        · exact step_timesV rfl 52 59 2 9 rfl (by kernel_rfl) (by kernel_rfl) ⟨dig_bytes_5 (inF_byt k0 (by omega)).1 32, by rw [fill_len]; omega⟩ ptB_ok rfl rfl rfl
        · exact step_plainV rfl 60 10 rfl (by kernel_rfl) rfl rfl
      rintro vs9 W W' xs ys a a' c c' g g' n bq rg o1 o2 l1 l2 ⟨rfl, rfl⟩ nb
      have NS := nb w w.heap.size (nxt N n) (by omega)
      simp only [puts, Act.put, List.setIfInBounds_toArray, List.set_cons_succ, List.set_cons_zero]
      have z1 := N.size
      clear N n bq nb TR
      go_wp2
      obtain ⟨fs, hfs⟩ := uP
      exact bodyPost_ret (v := .agg #[_, _]) (results_cell_mid Tryd.results102 _ _ w.heap.size _ _ rfl rg hfs rfl iP) rfl ⟨by rw [HS.out]; exact ⟨a, a', c, c', g, g', rfl, o1, o2, by omega, by omega⟩, NS⟩
    | false =>
      have HS : Hid (smP k = (fill (byt (0 % PP)) 32, fill (byt (1 % PP)) 32)) := by show _ = _; unfold smP; rw [if_neg (by rw [HA.out]; simp), if_neg (by rw [hB]; simp)]
      clear hB HA
      go_upto_region 8 with fail
      refine region_putP 1 0 2 49 _ (fun i => [PT W6 (fun xs ys => xs = fill (byt (0 % PP)) 32 ∧ ys = fill (byt (1 % PP)) 32)].getD i Fact.no) (fun xs ys => xs = fill (byt (0 % PP)) 32 ∧ ys = fill (byt (1 % PP)) 32) _ (by kernel_rfl) rfl rfl rfl (by kernel_rfl) rfl TR (by kernel_rfl) rfl ?_ ?_
      · intro i hi
        obtain rfl : i = 0 := by omega
        exact step_zeroV rfl rfl rfl
      rintro vs9 W W' xs ys a a' c c' g g' n bq rg o1 o2 l1 l2 ⟨rfl, rfl⟩ nb
      have NS := nb w w.heap.size (nxt N n) (by omega)
      simp only [puts, Act.put, List.setIfInBounds_toArray, List.set_cons_succ, List.set_cons_zero]
      have z1 := N.size
      clear N n bq nb TR
      go_wp2
      obtain ⟨fs, hfs⟩ := uP
      exact bodyPost_ret (v := .agg #[_, _]) (results_cell_mid Tryd.results102 _ _ w.heap.size _ _ rfl rg hfs rfl iP) rfl ⟨by rw [HS.out]; exact ⟨a, a', c, c', g, g', rfl, o1, o2, by omega, by omega⟩, NS⟩
end Go.Proofs.YtmanhandajhobaaDoor

/-
  The model's l5Find.
-/
namespace Go.Proofs.YtmanhandajhobaaDoor
set_option maxRecDepth 100000
open Go Go.RowKit

def inc0 (ys : List Int) : List Int := ys.set 0 ((ys.getD 0 0 + 1) % 256)
/-- The first point at or behind these bytes. -/
def fdP : Nat → List Int → List Int × List Int
  | 0, _ => (liX (4 * iv 5) false, liY (4 * iv 5) false)
  | n + 1, ys => if dcB ys = true then (dcX ys, dcY ys) else fdP n (inc0 ys)
theorem inc0_byt {ys : List Int} (h : Byt ys) : Byt (inc0 ys) := by
  intro i
  unfold inc0
  have := h i
  by_cases e : i = 0
  · subst e
    by_cases l : 0 < ys.length
    · simp [List.getD_eq_getElem?_getD, l]
      omega
    · simp [List.getD_eq_getElem?_getD, l]
  · rw [List.getD_eq_getElem?_getD, List.getElem?_set_ne (by omega), ← List.getD_eq_getElem?_getD]
    exact this
theorem inc0_len (ys : List Int) : (inc0 ys).length = ys.length := by unfold inc0; simp
theorem Two.of_block' {w w' : World} {p : Nat} {x y : Value} (h : Two w p x y) (hb : w'.heap[p]? = w.heap[p]?) : Two w' p x y :=
  ⟨(World.cell?_of_block (a := ⟨p, 0, none⟩) hb).trans h.c0, (World.cell?_of_block (a := ⟨p, 1, none⟩) hb).trans h.c1, (World.frozen?_of_block (a := ⟨p, 0, none⟩) hb).trans h.f0, (World.frozen?_of_block (a := ⟨p, 1, none⟩) hb).trans h.f1⟩
set_option maxHeartbeats 4000000 in
theorem l5Find_any (w : World) (g off c : Nat) (bs : List Int) (ho : Own w g (some ⟨g, off, none⟩) .u8 bs) (hb : Byt bs) (hl : bs.length = 32) :
    Calls Tryd.prog 104 #[.slice (some ⟨g, off, none⟩) 32 c] w fun r w' => NewPt w.heap.size w' r (fdP 40 bs).1 (fdP 40 bs).2 ∧ But g w w' := by
  have TZ : Two (w.alloc pObj) w.heap.size (.slice none 0 0) (.slice none 0 0) := Two.new w (.slice none 0 0) (.slice none 0 0) 26
  have N : But g w (w.alloc pObj) := But.ofBelow ((Below.refl _ _).alloc (Nat.le_refl _) _)
  have hg := ho.rd.lt (by omega)
  have ho := ho.up ((Below.refl _ _).alloc (Nat.le_refl _) pObj)
  obtain ⟨R, hR⟩ : ∃ R, R = fdP 40 bs := ⟨_, rfl⟩
  rw [← hR]
  go_enter Tryd.func104, Tryd.ntmps104
  go_upto_region 1 with fail
  change Code.wp _ _ _ _ (w.alloc pObj)
  generalize w.alloc pObj = wz at *
  go_wp2
  go_loopw [3] (fun i wr => ∃ (k : Nat) (ys : List Int), k ≤ 40 ∧ i = .int .i64 k ∧ Hid (R = fdP (40 - k) ys) ∧ Hid (ys.length = 32) ∧ Byt ys ∧ Own wr g (some ⟨g, off, none⟩) .u8 ys ∧ Two wr w.heap.size (.slice none 0 0) (.slice none 0 0) ∧ But g w wr) (fun i _ => 40 - (intOf i).toNat)
  case atStart => exact ⟨0, bs, by omega, rfl, hR, hl, hb, ho, TZ, N⟩
  case round =>
    obtain ⟨k, ys, hk, rfl, HR, HL, yb, yo, T2, NB⟩ := hrel
    by_cases hlt : k < 40
    · have DC := hide (specDecode_any wr g (some ⟨g, off, none⟩) c ys yo.rd yb (fun h => nomatch h))
      have zb := NB.size
      have zt := T2.lt
      rw [HL.out] at DC
      have HS : Hid (R = if dcB ys = true then (dcX ys, dcY ys) else fdP (40 - (k + 1)) (inc0 ys)) := by
        show _ = _
        rw [HR.out, show 40 - k = (40 - (k + 1)) + 1 by omega]
        rfl
      clear HR
      go_wp2_with fail
      refine DC.out.mono ?_
      rintro r w1 ⟨⟨a1, a1', c1, c1', g1, g1', rfl, o1, o1', l1, l1'⟩, n1⟩
      have z1 := n1.size
      replace yo := yo.up n1
      replace T2 := T2.up n1
      have TT := Tri.new w1 (.bool (dcB ys)) (.slice a1 (dcX ys).length c1) (.slice a1' (dcY ys).length c1') 38
      have n2 : Below w1.heap.size w1 (w1.alloc (.cells #[.bool (dcB ys), .slice a1 (dcX ys).length c1, .slice a1' (dcY ys).length c1'] 38)) := (Below.refl _ _).alloc (Nat.le_refl _) _
      replace yo := yo.up n2
      replace T2 := T2.up n2
      replace o1 := o1.up n2
      replace o1' := o1'.up n2
      replace NB := (NB.trans (But.ofBelow n1)).trans (But.ofBelow n2)
      have z2 := n2.size
      clear n1 n2 DC
      cases hd : dcB ys with
      | true =>
        have HR : Hid (R = (dcX ys, dcY ys)) := by show _ = _; rw [HS.out, if_pos hd]
        rw [hd] at TT z2 yo T2 o1 o1' NB
        clear HS hd
        obtain ⟨t0, t1, t2, u0, u1, u2⟩ := TT
        obtain ⟨y0, y1, v0, v1⟩ := T2
        generalize dcX ys = X at *
        generalize dcY ys = Y at *
        have O := fun W => (Only.setCell W w.heap.size 0 (.slice a1 X.length c1)).trans (Only.setCell _ w.heap.size 1 (.slice a1' Y.length c1'))
        go_wp2
        generalize w1.alloc (.cells #[.bool true, .slice a1 X.length c1, .slice a1' Y.length c1'] 38) = W at *
        refine bodyPost_ret (v := .agg #[.slice a1 X.length c1, .slice a1' Y.length c1']) (by simp [results, Tryd.results104, go_sem, y0, y1]) rfl ⟨?_, (NB.setCell (Nat.le_refl _)).setCell (Nat.le_refl _)⟩
        rw [HR.out]
        exact ⟨a1, a1', c1, c1', g1, g1', rfl, o1.only (O W) (fun _ => by omega), o1'.only (O W) (fun _ => by omega), by omega, by omega⟩
      | false =>
        have HR : Hid (R = fdP (40 - (k + 1)) (inc0 ys)) := by show _ = _; rw [HS.out, if_neg (by rw [hd]; simp)]
        rw [hd] at TT z2 yo T2 o1 o1' NB
        clear HS hd
        obtain ⟨t0, t1, t2, u0, u1, u2⟩ := TT
        obtain ⟨off', he, hc⟩ := id yo (by rw [HL.out]; decide)
        obtain rfl : off = off' := by simpa using he
        have x0 := (hc 0 (by rw [HL.out]; decide)).1
        have f0 := (hc 0 (by rw [HL.out]; decide)).2
        rw [Nat.add_zero] at x0 f0
        have b0 := yb 0
        have S1 := yo.store 0 (by rw [HL.out]; decide) ((ys.getD 0 0 + 1) % 256)
        rw [Nat.add_zero] at S1
        have IB := inc0_byt yb
        have IL := hide ((inc0_len ys).trans HL.out)
        have SO : Hid (Own ((w1.alloc (.cells #[.bool false, .slice a1 (dcX ys).length c1, .slice a1' (dcY ys).length c1'] 38)).setCell ⟨g, off, none⟩ (.int .u8 ((ys.getD 0 0 + 1) % 256))) g (some ⟨g, off, none⟩) .u8 (inc0 ys)) := S1
        clear S1 hc he yo o1 o1'
        generalize inc0 ys = zs at *
        generalize ys.getD 0 0 = y at *
        go_wp2
        go_roundw
        case rel => exact ⟨k + 1, zs, by omega, by go_num, HR, IL, IB, SO.out, T2.of_block' (heap_setCell_other _ ⟨g, off, none⟩ w.heap.size _ (by show w.heap.size ≠ g; omega)), NB.only (Only.setCell _ g off _)⟩
        case measure => simp [intOf]; omega
    · obtain rfl : k = 40 := by omega
      have HB : Hid (R = (liX (4 * iv 5) false, liY (4 * iv 5) false)) := HR.out
      have zt := T2.lt
      clear HR
      have SB := hide (specBase_any wr)
      generalize liX (4 * iv 5) false = X at *
      generalize liY (4 * iv 5) false = Y at *
      go_wp2_with fail
      refine SB.out.mono ?_
      rintro r w1 ⟨⟨a1, a1', c1, c1', g1, g1', rfl, o1, o1', l1, l1'⟩, n1⟩
      have T3 := T2.up n1
      have N3 := NB.trans (But.ofBelow n1)
      obtain ⟨y0, y1, v0, v1⟩ := T3
      have O := (Only.setCell w1 w.heap.size 0 (.slice a1 X.length c1)).trans (Only.setCell _ w.heap.size 1 (.slice a1' Y.length c1'))
      go_wp2
      refine bodyPost_ret (v := .agg #[.slice a1 X.length c1, .slice a1' Y.length c1']) (by simp [results, Tryd.results104, go_sem, y0, y1]) rfl ⟨?_, (N3.setCell (Nat.le_refl _)).setCell (Nat.le_refl _)⟩
      rw [HB.out]
      exact ⟨a1, a1', c1, c1', g1, g1', rfl, o1.only O (fun _ => by omega), o1'.only O (fun _ => by omega), by omega, by omega⟩
end Go.Proofs.YtmanhandajhobaaDoor

/-
  The model's l5Draw, told as a value.
-/
namespace Go.Proofs.YtmanhandajhobaaDoor
set_option maxRecDepth 100000
open Go Go.RowKit

theorem li_byt (A : Int) (odd : Bool) : Byt (liX A odd) ∧ Byt (liY A odd) := by
  unfold liX liY
  split
  · exact ⟨bytes_5 _ _, bytes_5 _ _⟩
  · exact ⟨byt_nil, byt_nil⟩
theorem Two.put0 {w : World} {p : Nat} {x y : Value} (h : Two w p x y) (u : Value) : Two (w.setCell ⟨p, 0, none⟩ u) p u y :=
  ⟨World.cell?_setCell_same _ _ _ h.c0, by rw [World.cell?_setCell_other (h := by simp)]; exact h.c1, by rw [World.frozen?_setCell]; exact h.f0, by rw [World.frozen?_setCell]; exact h.f1⟩
theorem Two.put1 {w : World} {p : Nat} {x y : Value} (h : Two w p x y) (u : Value) : Two (w.setCell ⟨p, 1, none⟩ u) p x u :=
  ⟨by rw [World.cell?_setCell_other (h := by simp)]; exact h.c0, World.cell?_setCell_same _ _ _ h.c1, by rw [World.frozen?_setCell]; exact h.f0, by rw [World.frozen?_setCell]; exact h.f1⟩
theorem Two.put {w : World} {p : Nat} {x y : Value} (h : Two w p x y) (u v : Value) : Two ((w.setCell ⟨p, 0, none⟩ u).setCell ⟨p, 1, none⟩ v) p u v := (h.put0 u).put1 v
def bsX : List Int := liX (4 * iv 5) false
def bsY : List Int := liY (4 * iv 5) false
theorem bs_byt : Byt bsX ∧ Byt bsY := li_byt _ _
theorem bs_ok : PtOk bsX bsY := by
  have h : liB (4 * iv 5) false = true := by
    unfold liB
    rw [base_lift.1]
    simp
  unfold bsX bsY liX liY
  rw [if_pos h, if_pos h]
  exact ⟨⟨bytes_5 _ _, fill_len _ _⟩, bytes_5 _ _, fill_len _ _⟩
/-- The point that is drawn. -/
def drP (xs : List Int) (t : Int) : List Int × List Int :=
  if nxF xs t 8 = 0 then smP (nxF xs (t + 1) 8)
  else if nxF xs t 8 = 1 then (paX (smP (nxF xs (t + 1) 8)).1 (smP (nxF xs (t + 1) 8)).2 bsX bsY, paY (smP (nxF xs (t + 1) 8)).1 (smP (nxF xs (t + 1) 8)).2 bsX bsY)
  else if nxF xs t 8 < 4 then (plX (tmP (fill (dig (inF (nxF xs (t + 1) 1000))) 32) bsX bsY), plY (tmP (fill (dig (inF (nxF xs (t + 1) 1000))) 32) bsX bsY))
  else if nxF xs t 8 = 4 then
    (if nxF xs (t + 1) 2 = 0 then
      (if nxF xs (t + 1 + 1) 4 = 0 then (dbF xs (t + 1 + 1 + 1) 32, bsY)
       else if nxF xs (t + 1 + 1) 4 = 1 then (bsX, dbF xs (t + 1 + 1 + 1) 31)
       else if nxF xs (t + 1 + 1) 4 = 2 then (fill (dig pbytes) 32, fill (byt (1 % PP)) 32)
       else ([], []))
     else fdP 40 (dbF xs (t + 1 + 1) 32))
  else fdP 40 (dbF xs (t + 1) 32)
set_option maxHeartbeats 4000000 in
theorem l5DrawV_any (w : World) (s g : Nat) (a : Option Addr) (c : Nat) (xs : List Int) (t : Int) (hs : Src w s a xs.length c t) (hr : Rd w g a .u8 xs) (hne : 0 < xs.length → g ≠ s) (hb : Byt xs) (hl : xs.length ≤ 4194304) (t0 : 0 ≤ t) (t1 : t ≤ 10000) :
    Calls Tryd.prog 64 #[.pointer (some ⟨s, 0, none⟩)] w fun r w' => NewPt w.heap.size w' r (drP xs t).1 (drP xs t).2 ∧ But s w w' := by
  have TZ : Two (w.alloc pObj) w.heap.size (.slice none 0 0) (.slice none 0 0) := Two.new w (.slice none 0 0) (.slice none 0 0) 26
  have nz : Below w.heap.size w (w.alloc pObj) := (Below.refl _ _).alloc (Nat.le_refl _) _
  have zs := hs.lt
  have NX := hide (fun W (S : Src W s a xs.length c t) (R : Rd W g a .u8 xs) => l1NextV_any W s g a c xs t 8 S R hne hb hl (by omega) (by omega) (by decide) (by decide))
  have NY := hide (fun W n (S : Src W s a xs.length c (t + 1)) (R : Rd W g a .u8 xs) (h1 : 1 ≤ n) (h2 : n ≤ 1048576) => l1NextV_any W s g a c xs (t + 1) n S R hne hb hl (by omega) (by omega) h1 h2)
  have CH := hide (fun W (S : Src W s a xs.length c (t + 1)) (R : Rd W g a .u8 xs) => l1ChanceV_any W s g a c xs (t + 1) 2 S R hne hb hl (by omega) (by omega) (by decide) (by decide))
  have NW := hide (fun W (S : Src W s a xs.length c (t + 1 + 1)) (R : Rd W g a .u8 xs) => l1NextV_any W s g a c xs (t + 1 + 1) 4 S R hne hb hl (by omega) (by omega) (by decide) (by decide))
  have DB := hide (fun W u (n : Nat) (S : Src W s a xs.length c u) (R : Rd W g a .u8 xs) (h1 : 0 ≤ u) (h2 : u + (n : Int) ≤ 1048576) => l1DrawBytesV_any W s g a c xs u n S R hne hb hl h1 h2)
  obtain ⟨R, hR⟩ : ∃ R, R = drP xs t := ⟨_, rfl⟩
  rw [← hR]
  have k0 := nx_in xs t (show (0 : Int) < 8 by decide)
  unfold drP at hR
  have HR := hide hR
  clear hR
  have S0 := hs.up nz
  have hr0 := hr.up nz
  have N : But s w (w.alloc pObj) := But.ofBelow nz
  clear nz
  go_enter Tryd.func64, Tryd.ntmps64
  go_upto_region 1 with fail
  change Code.wp _ _ _ _ (w.alloc pObj)
  generalize w.alloc pObj = wz at *
  go_wp2_with fail
  refine (NX.out wz S0 hr0).mono ?_
  rintro e w1 ⟨rfl, _, S1, O1⟩
  have zz := TZ.lt
  have z1 := O1.size
  replace TZ := TZ.of_block' (O1.block w.heap.size (by omega))
  replace N := N.only O1
  have hr1 := hr.but N hne
  clear O1 NX S0 hr0 hs
  generalize nxF xs t 8 = k at *
  rcases (show k = 0 ∨ k = 1 ∨ k = 2 ∨ k = 3 ∨ k = 4 ∨ k = 5 ∨ k = 6 ∨ k = 7 by omega) with rfl | rfl | rfl | rfl | rfl | rfl | rfl | rfl
  · have HD : Hid (R = smP (nxF xs (t + 1) 8)) := by show _ = _; rw [HR.out, if_pos rfl]
    clear HR
    go_wp2_with fail
    refine (NY.out w1 8 S1 hr1 (by decide) (by decide)).mono ?_
    rintro e w2 ⟨rfl, ⟨r0, r1⟩, S2, O2⟩
    have z2 := O2.size
    replace TZ := TZ.of_block' (O2.block w.heap.size (by omega))
    replace N := N.only O2
    clear O2 S2 S1 NY CH NW DB
    obtain ⟨j, hj⟩ : ∃ j, j = nxF xs (t + 1) 8 := ⟨_, rfl⟩
    rw [← hj] at r0 r1 HD ⊢
    clear hj
    have SM := hide (l5SmallV_any w2 j r0 (by omega))
    generalize smP j = X at *
    go_wp2_with fail
    refine SM.out.mono ?_
    rintro r w3 ⟨⟨a1, a1', c1, c1', g1, g1', rfl, o1, o1', l1, l1'⟩, n3⟩
    have z3 := n3.size
    replace TZ := TZ.up n3
    replace N := N.trans (But.ofBelow n3)
    clear n3 SM
    obtain ⟨y0, y1, v0, v1⟩ := TZ
    have O := (Only.setCell w3 w.heap.size 0 (.slice a1 X.1.length c1)).trans (Only.setCell _ w.heap.size 1 (.slice a1' X.2.length c1'))
    go_wp2
    refine bodyPost_ret (v := .agg #[.slice a1 X.1.length c1, .slice a1' X.2.length c1']) (by simp [results, Tryd.results64, go_sem, y0, y1]) rfl ⟨?_, (N.setCell (Nat.le_refl _)).setCell (Nat.le_refl _)⟩
    rw [HD.out]
    exact ⟨a1, a1', c1, c1', g1, g1', rfl, o1.only O (fun _ => by omega), o1'.only O (fun _ => by omega), by omega, by omega⟩
  · have HD : Hid (R = (paX (smP (nxF xs (t + 1) 8)).1 (smP (nxF xs (t + 1) 8)).2 bsX bsY, paY (smP (nxF xs (t + 1) 8)).1 (smP (nxF xs (t + 1) 8)).2 bsX bsY)) := by show _ = _; rw [HR.out, if_neg (by decide), if_pos rfl]
    clear HR
    go_wp2_with fail
    refine (NY.out w1 8 S1 hr1 (by decide) (by decide)).mono ?_
    rintro e w2 ⟨rfl, ⟨r0, r1⟩, S2, O2⟩
    have z2 := O2.size
    replace TZ := TZ.of_block' (O2.block w.heap.size (by omega))
    replace N := N.only O2
    clear O2 S2 S1 NY CH NW DB
    obtain ⟨j, hj⟩ : ∃ j, j = nxF xs (t + 1) 8 := ⟨_, rfl⟩
    rw [← hj] at r0 r1 HD ⊢
    clear hj
    have SM := hide (l5SmallV_any w2 j r0 (by omega))
    have SK := hide (smP_ok j)
    generalize smP j = X at *
    go_wp2_with fail
    refine SM.out.mono ?_
    rintro r w3 ⟨⟨a3, a3', c3, c3', g3, g3', rfl, o3, o3', l3, l3'⟩, n3⟩
    have z3 := n3.size
    replace TZ := TZ.up n3
    replace N := N.trans (But.ofBelow n3)
    clear n3 SM
    have SB : Hid (Calls Tryd.prog 57 #[] w3 fun r w' => NewPt w3.heap.size w' r bsX bsY ∧ Below w3.heap.size w3 w') := specBase_any w3
    have BB := hide bs_byt
    generalize bsX = bx at *
    generalize bsY = by' at *
    go_wp2_with fail
    refine SB.out.mono ?_
    rintro r w4 ⟨⟨a4, a4', c4, c4', g4, g4', rfl, o4, o4', l4, l4'⟩, n4⟩
    have z4 := n4.size
    replace TZ := TZ.up n4
    replace N := N.trans (But.ofBelow n4)
    replace o3 := o3.up n4
    replace o3' := o3'.up n4
    clear n4 SB
    have AD := hide (specPointAdd_any w4 g3 g3' g4 g4' a3 a3' a4 a4' c3 c3' c4 c4' X.1 X.2 bx by' o3.rd o3'.rd o4.rd o4'.rd SK.out.1.1 SK.out.2.1 BB.out.1 BB.out.2)
    generalize paX X.1 X.2 bx by' = PX at *
    generalize paY X.1 X.2 bx by' = PY at *
    go_wp2_with fail
    refine AD.out.mono ?_
    rintro r w5 ⟨⟨a1, a1', c1, c1', g1, g1', rfl, o1, o1', l1, l1'⟩, n3⟩
    have z5 := n3.size
    replace TZ := TZ.up n3
    replace N := N.trans (But.ofBelow n3)
    clear n3 AD
    obtain ⟨y0, y1, v0, v1⟩ := TZ
    have O := (Only.setCell w5 w.heap.size 0 (.slice a1 PX.length c1)).trans (Only.setCell _ w.heap.size 1 (.slice a1' PY.length c1'))
    go_wp2
    refine bodyPost_ret (v := .agg #[.slice a1 PX.length c1, .slice a1' PY.length c1']) (by simp [results, Tryd.results64, go_sem, y0, y1]) rfl ⟨?_, (N.setCell (Nat.le_refl _)).setCell (Nat.le_refl _)⟩
    rw [HD.out]
    exact ⟨a1, a1', c1, c1', g1, g1', rfl, o1.only O (fun _ => by omega), o1'.only O (fun _ => by omega), by omega, by omega⟩
  · have HD : Hid (R = (plX (tmP (fill (dig (inF (nxF xs (t + 1) 1000))) 32) bsX bsY), plY (tmP (fill (dig (inF (nxF xs (t + 1) 1000))) 32) bsX bsY))) := by show _ = _; rw [HR.out, if_neg (by decide), if_neg (by decide), if_pos (by decide)]
    clear HR
    go_wp2_with fail
    refine (NY.out w1 1000 S1 hr1 (by decide) (by decide)).mono ?_
    rintro e w2 ⟨rfl, ⟨r0, r1⟩, S2, O2⟩
    have z2 := O2.size
    replace TZ := TZ.of_block' (O2.block w.heap.size (by omega))
    replace N := N.only O2
    clear O2 S2 S1 NY CH NW DB
    obtain ⟨j, hj⟩ : ∃ j, j = nxF xs (t + 1) 1000 := ⟨_, rfl⟩
    rw [← hj] at r0 r1 HD ⊢
    clear hj
    have SI := hide (l1IntV_any w2 j r0 (by omega))
    have IB := hide (inF_byt r0 (by omega))
    clear r0 r1
    generalize inF j = I at *
    go_wp2_with fail
    refine SI.out.mono ?_
    rintro r w3 ⟨⟨a3, c3, g3, rfl, o3, _, _, l3⟩, n3⟩
    have z3 := n3.size
    replace TZ := TZ.up n3
    replace N := N.trans (But.ofBelow n3)
    clear n3 SI
    have SL := hide (l1Little_any w3 g3 a3 c3 I 32 o3.rd IB.out.1 (by have := IB.out.2; omega) (by omega))
    have KB := hide (dig_bytes_5 IB.out.1 32)
    have KL := hide (fill_len (dig I) 32)
    generalize fill (dig I) 32 = K at *
    go_wp2_with fail
    refine SL.out.mono ?_
    rintro r w4 ⟨rfl, B4, n4⟩
    have z4 := n4.size
    replace TZ := TZ.up n4
    replace N := N.trans (But.ofBelow n4)
    clear n4 SL o3
    have SB : Hid (Calls Tryd.prog 57 #[] w4 fun r w' => NewPt w4.heap.size w' r bsX bsY ∧ Below w4.heap.size w4 w') := specBase_any w4
    have BB := hide bs_ok
    generalize bsX = bx at *
    generalize bsY = by' at *
    go_wp2_with fail
    refine SB.out.mono ?_
    rintro r w5 ⟨⟨a5, a5', c5, c5', g5, g5', rfl, o5, o5', l5, l5'⟩, n5⟩
    have z5 := n5.size
    replace TZ := TZ.up n5
    replace N := N.trans (But.ofBelow n5)
    have o4 := B4.own0.up n5
    clear n5 SB B4
    have ST := hide (l5Times_any w5 w3.heap.size g5 g5' (some ⟨w3.heap.size, 0, none⟩) a5 a5' 32 c5 c5' K bx by' o4.rd KB.out (by rw [KL.out]; omega) o5.rd o5'.rd BB.out.1.1 BB.out.2.1 BB.out.1.2 BB.out.2.2)
    rw [KL.out] at ST
    go_wp2_with fail
    refine ST.out.mono ?_
    rintro r w6 ⟨top, p, x, y, z, hc, hP, rfl, hx, hy, hz, n6⟩
    have z6 := n6.size
    replace TZ := TZ.up n6
    replace N := N.trans (But.ofBelow n6)
    have eP : Hid (tmP K bx by' = p) := by show _ = _; unfold tmP; rw [topF_eq (by rw [KL.out]; exact hc), hP]
    clear n6 ST hc hP o4 o5 o5'
    have SP : Hid (Calls Tryd.prog 48 #[ag48 x y z] w6 fun r w' => NewPt w6.heap.size w' r (plX p) (plY p) ∧ Below w6.heap.size w6 w') := l5Plain_any w6 x y z p.1 p.2.1 p.2.2 hx hy hz
    rw [eP.out] at HD
    clear eP hx hy hz
    generalize plX p = PX at *
    generalize plY p = PY at *
    generalize ag48 x y z = V at *
    go_wp2_with fail
    refine SP.out.mono ?_
    rintro r w7 ⟨⟨a1, a1', c1, c1', g1, g1', rfl, o1, o1', l1, l1'⟩, n3⟩
    have z7 := n3.size
    replace TZ := TZ.up n3
    replace N := N.trans (But.ofBelow n3)
    clear n3 SP
    obtain ⟨y0, y1, v0, v1⟩ := TZ
    have O := (Only.setCell w7 w.heap.size 0 (.slice a1 PX.length c1)).trans (Only.setCell _ w.heap.size 1 (.slice a1' PY.length c1'))
    go_wp2
    refine bodyPost_ret (v := .agg #[.slice a1 PX.length c1, .slice a1' PY.length c1']) (by simp [results, Tryd.results64, go_sem, y0, y1]) rfl ⟨?_, (N.setCell (Nat.le_refl _)).setCell (Nat.le_refl _)⟩
    rw [HD.out]
    exact ⟨a1, a1', c1, c1', g1, g1', rfl, o1.only O (fun _ => by omega), o1'.only O (fun _ => by omega), by omega, by omega⟩
  · have HD : Hid (R = (plX (tmP (fill (dig (inF (nxF xs (t + 1) 1000))) 32) bsX bsY), plY (tmP (fill (dig (inF (nxF xs (t + 1) 1000))) 32) bsX bsY))) := by show _ = _; rw [HR.out, if_neg (by decide), if_neg (by decide), if_pos (by decide)]
    clear HR
    go_wp2_with fail
    refine (NY.out w1 1000 S1 hr1 (by decide) (by decide)).mono ?_
    rintro e w2 ⟨rfl, ⟨r0, r1⟩, S2, O2⟩
    have z2 := O2.size
    replace TZ := TZ.of_block' (O2.block w.heap.size (by omega))
    replace N := N.only O2
    clear O2 S2 S1 NY CH NW DB
    obtain ⟨j, hj⟩ : ∃ j, j = nxF xs (t + 1) 1000 := ⟨_, rfl⟩
    rw [← hj] at r0 r1 HD ⊢
    clear hj
    have SI := hide (l1IntV_any w2 j r0 (by omega))
    have IB := hide (inF_byt r0 (by omega))
    clear r0 r1
    generalize inF j = I at *
    go_wp2_with fail
    refine SI.out.mono ?_
    rintro r w3 ⟨⟨a3, c3, g3, rfl, o3, _, _, l3⟩, n3⟩
    have z3 := n3.size
    replace TZ := TZ.up n3
    replace N := N.trans (But.ofBelow n3)
    clear n3 SI
    have SL := hide (l1Little_any w3 g3 a3 c3 I 32 o3.rd IB.out.1 (by have := IB.out.2; omega) (by omega))
    have KB := hide (dig_bytes_5 IB.out.1 32)
    have KL := hide (fill_len (dig I) 32)
    generalize fill (dig I) 32 = K at *
    go_wp2_with fail
    refine SL.out.mono ?_
    rintro r w4 ⟨rfl, B4, n4⟩
    have z4 := n4.size
    replace TZ := TZ.up n4
    replace N := N.trans (But.ofBelow n4)
    clear n4 SL o3
    have SB : Hid (Calls Tryd.prog 57 #[] w4 fun r w' => NewPt w4.heap.size w' r bsX bsY ∧ Below w4.heap.size w4 w') := specBase_any w4
    have BB := hide bs_ok
    generalize bsX = bx at *
    generalize bsY = by' at *
    go_wp2_with fail
    refine SB.out.mono ?_
    rintro r w5 ⟨⟨a5, a5', c5, c5', g5, g5', rfl, o5, o5', l5, l5'⟩, n5⟩
    have z5 := n5.size
    replace TZ := TZ.up n5
    replace N := N.trans (But.ofBelow n5)
    have o4 := B4.own0.up n5
    clear n5 SB B4
    have ST := hide (l5Times_any w5 w3.heap.size g5 g5' (some ⟨w3.heap.size, 0, none⟩) a5 a5' 32 c5 c5' K bx by' o4.rd KB.out (by rw [KL.out]; omega) o5.rd o5'.rd BB.out.1.1 BB.out.2.1 BB.out.1.2 BB.out.2.2)
    rw [KL.out] at ST
    go_wp2_with fail
    refine ST.out.mono ?_
    rintro r w6 ⟨top, p, x, y, z, hc, hP, rfl, hx, hy, hz, n6⟩
    have z6 := n6.size
    replace TZ := TZ.up n6
    replace N := N.trans (But.ofBelow n6)
    have eP : Hid (tmP K bx by' = p) := by show _ = _; unfold tmP; rw [topF_eq (by rw [KL.out]; exact hc), hP]
    clear n6 ST hc hP o4 o5 o5'
    have SP : Hid (Calls Tryd.prog 48 #[ag48 x y z] w6 fun r w' => NewPt w6.heap.size w' r (plX p) (plY p) ∧ Below w6.heap.size w6 w') := l5Plain_any w6 x y z p.1 p.2.1 p.2.2 hx hy hz
    rw [eP.out] at HD
    clear eP hx hy hz
    generalize plX p = PX at *
    generalize plY p = PY at *
    generalize ag48 x y z = V at *
    go_wp2_with fail
    refine SP.out.mono ?_
    rintro r w7 ⟨⟨a1, a1', c1, c1', g1, g1', rfl, o1, o1', l1, l1'⟩, n3⟩
    have z7 := n3.size
    replace TZ := TZ.up n3
    replace N := N.trans (But.ofBelow n3)
    clear n3 SP
    obtain ⟨y0, y1, v0, v1⟩ := TZ
    have O := (Only.setCell w7 w.heap.size 0 (.slice a1 PX.length c1)).trans (Only.setCell _ w.heap.size 1 (.slice a1' PY.length c1'))
    go_wp2
    refine bodyPost_ret (v := .agg #[.slice a1 PX.length c1, .slice a1' PY.length c1']) (by simp [results, Tryd.results64, go_sem, y0, y1]) rfl ⟨?_, (N.setCell (Nat.le_refl _)).setCell (Nat.le_refl _)⟩
    rw [HD.out]
    exact ⟨a1, a1', c1, c1', g1, g1', rfl, o1.only O (fun _ => by omega), o1'.only O (fun _ => by omega), by omega, by omega⟩
  · have HE := HR.out
    rw [if_neg (by decide), if_neg (by decide), if_neg (by decide), if_pos rfl] at HE
    replace HR := hide HE
    clear HE
    go_wp2_with fail
    refine (CH.out w1 S1 hr1).mono ?_
    rintro e w2 ⟨rfl, S2, O2⟩
    have z2 := O2.size
    replace TZ := TZ.of_block' (O2.block w.heap.size (by omega))
    replace N := N.only O2
    have hr2 := hr.but N hne
    clear O2 S1 hr1 CH
    generalize nxF xs (t + 1) 2 = q at *
    by_cases hq : q = 0
    · subst hq
      rw [if_pos rfl] at HR
      have SB : Hid (Calls Tryd.prog 57 #[] w2 fun r w' => NewPt w2.heap.size w' r bsX bsY ∧ Below w2.heap.size w2 w') := specBase_any w2
      rw [show ((0 : Int) == 0) = true from rfl]
      generalize bsX = bx at *
      generalize bsY = by' at *
      go_wp2_with fail
      refine SB.out.mono ?_
      rintro r w3 ⟨⟨a4, a4', c4, c4', g4, g4', rfl, o4, o4', l4, l4'⟩, n3⟩
      have z3 := n3.size
      have TP := Two.new w3 (.slice a4 bx.length c4) (.slice a4' by'.length c4') 26
      have n4 : Below w3.heap.size w3 (w3.alloc (.cells #[.slice a4 bx.length c4, .slice a4' by'.length c4'] 26)) := (Below.refl _ _).alloc (Nat.le_refl _) _
      have zl : w3.heap.size < (w3.alloc (.cells #[.slice a4 bx.length c4, .slice a4' by'.length c4'] 26)).heap.size := TP.lt
      have q4 := hide (fun h => o4.rd.lt h)
      have q4' := hide (fun h => o4'.rd.lt h)
      replace TZ := (TZ.up n3).up n4
      replace N := (N.trans (But.ofBelow n3)).trans (But.ofBelow n4)
      replace S2 := (S2.up n3).up n4
      replace o4 := o4.up n4
      replace o4' := o4'.up n4
      have hr3 := hr.but N hne
      clear n3 n4 SB hr2
      go_wp2_with fail
      generalize w3.alloc (.cells #[.slice a4 bx.length c4, .slice a4' by'.length c4'] 26) = w4 at *
      refine (NW.out w4 S2 hr3).mono ?_
      rintro e w5 ⟨rfl, ⟨r0, r1⟩, S5, O5⟩
      have z5 : w4.heap.size ≤ w5.heap.size := Nat.le_of_eq O5.size.symm
      replace TZ := TZ.of_block' (O5.block w.heap.size (by omega))
      replace TP := TP.of_block' (O5.block w3.heap.size (by omega))
      replace o4 := o4.only O5 (fun _ => by omega)
      replace o4' := o4'.only O5 (fun _ => by omega)
      replace N := N.only O5
      have hr5 := hr.but N hne
      clear O5 S2 hr3 NW NY
      generalize nxF xs (t + 1 + 1) 4 = j at *
      rcases (show j = 0 ∨ j = 1 ∨ j = 2 ∨ j = 3 by omega) with rfl | rfl | rfl | rfl
      · have HD : Hid (R = (dbF xs (t + 1 + 1 + 1) 32, by')) := by show _ = _; rw [HR.out, if_pos rfl]
        clear HR
        go_wp2_with fail
        refine (DB.out w5 (t + 1 + 1 + 1) 32 S5 hr5 (by omega) (by omega)).mono ?_
        rintro e w6 ⟨⟨a6, c6, g6, rfl, o6, _, _, l6⟩, S6, N6⟩
        have z6 := N6.size
        have z6p := TP.lt
        replace TZ := TZ.of_block' (N6.block w.heap.size (by omega) (by omega))
        replace TP := TP.of_block' (N6.block w3.heap.size (by omega) (by omega))
        replace o4 := o4.but N6 (fun _ => by omega)
        replace o4' := o4'.but N6 (fun _ => by omega)
        replace N := N.trans N6
        clear N6 S6 S5 DB
        generalize dbF xs (t + 1 + 1 + 1) 32 = D at *
        have O4 := Only.setCell w6 w3.heap.size 0 (.slice a6 D.length c6)
        have TP' := TP.put0 (.slice a6 D.length c6)
        replace TZ := TZ.of_block' (O4.block w.heap.size (by omega))
        replace N : But s w (w6.setCell ⟨w3.heap.size, 0, none⟩ (.slice a6 D.length c6)) := N.setCell (by omega)
        replace o6 := o6.only O4 (fun _ => by omega)
        replace o4 := o4.only O4 (fun h => by have := q4.out h; omega)
        replace o4' := o4'.only O4 (fun h => by have := q4'.out h; omega)
        obtain ⟨q0, q1, qf0, qf1⟩ := TP
        have TP := TP'
        clear TP' O4
        go_upto_region 19 with fail
        generalize w6.setCell ⟨w3.heap.size, 0, none⟩ (.slice a6 D.length c6) = w9 at *
        obtain ⟨p0, p1, pf0, pf1⟩ := TP
        obtain ⟨y0, y1, v0, v1⟩ := TZ
        have O := (Only.setCell w9 w.heap.size 0 (.slice a6 D.length c6)).trans (Only.setCell _ w.heap.size 1 (.slice a4' by'.length c4'))
        go_wp2
        refine bodyPost_ret (v := .agg #[.slice a6 D.length c6, .slice a4' by'.length c4']) (by simp [results, Tryd.results64, go_sem, y0, y1]) rfl ⟨?_, (N.setCell (Nat.le_refl _)).setCell (Nat.le_refl _)⟩
        rw [HD.out]
        exact ⟨a6, a4', c6, c4', g6, g4', rfl, o6.only O (fun _ => by omega), o4'.only O (fun _ => by omega), by omega, by omega⟩
      · have HD : Hid (R = (bx, dbF xs (t + 1 + 1 + 1) 31)) := by show _ = _; rw [HR.out, if_neg (by decide), if_pos rfl]
        clear HR
        go_wp2_with fail
        refine (DB.out w5 (t + 1 + 1 + 1) 31 S5 hr5 (by omega) (by omega)).mono ?_
        rintro e w6 ⟨⟨a6, c6, g6, rfl, o6, _, _, l6⟩, S6, N6⟩
        have z6 := N6.size
        have z6p := TP.lt
        replace TZ := TZ.of_block' (N6.block w.heap.size (by omega) (by omega))
        replace TP := TP.of_block' (N6.block w3.heap.size (by omega) (by omega))
        replace o4 := o4.but N6 (fun _ => by omega)
        replace o4' := o4'.but N6 (fun _ => by omega)
        replace N := N.trans N6
        clear N6 S6 S5 DB
        generalize dbF xs (t + 1 + 1 + 1) 31 = D at *
        have O4 := Only.setCell w6 w3.heap.size 1 (.slice a6 D.length c6)
        have TP' := TP.put1 (.slice a6 D.length c6)
        replace TZ := TZ.of_block' (O4.block w.heap.size (by omega))
        replace N : But s w (w6.setCell ⟨w3.heap.size, 1, none⟩ (.slice a6 D.length c6)) := N.setCell (by omega)
        replace o6 := o6.only O4 (fun _ => by omega)
        replace o4 := o4.only O4 (fun h => by have := q4.out h; omega)
        replace o4' := o4'.only O4 (fun h => by have := q4'.out h; omega)
        obtain ⟨q0, q1, qf0, qf1⟩ := TP
        have TP := TP'
        clear TP' O4
        go_upto_region 19 with fail
        generalize w6.setCell ⟨w3.heap.size, 1, none⟩ (.slice a6 D.length c6) = w9 at *
        obtain ⟨p0, p1, pf0, pf1⟩ := TP
        obtain ⟨y0, y1, v0, v1⟩ := TZ
        have O := (Only.setCell w9 w.heap.size 0 (.slice a4 bx.length c4)).trans (Only.setCell _ w.heap.size 1 (.slice a6 D.length c6))
        go_wp2
        refine bodyPost_ret (v := .agg #[.slice a4 bx.length c4, .slice a6 D.length c6]) (by simp [results, Tryd.results64, go_sem, y0, y1]) rfl ⟨?_, (N.setCell (Nat.le_refl _)).setCell (Nat.le_refl _)⟩
        rw [HD.out]
        exact ⟨a4, a6, c4, c6, g4, g6, rfl, o4.only O (fun _ => by omega), o6.only O (fun _ => by omega), by omega, by omega⟩
      · obtain ⟨PB, hPB⟩ : ∃ PB, PB = fill (dig pbytes) 32 := ⟨_, rfl⟩
        obtain ⟨QB, hQB⟩ : ∃ QB, QB = fill (byt (1 % PP)) 32 := ⟨_, rfl⟩
        have HD : Hid (R = (PB, QB)) := by show _ = _; rw [HR.out, if_neg (by decide), if_neg (by decide), if_pos rfl, hPB, hQB]
        have L7 : Hid (PB.length = 32) := by show _ = _; rw [hPB, fill_len]
        have HPB := hide hPB.symm
        have HQB := hide hQB.symm
        clear HR hPB hQB
        have PR := hide (l2Prime_any w5)
        have PY := hide pbytes_byt
        have PL := hide pbytes_len
        generalize pbytes = pb at *
        go_wp2_with fail
        refine PR.out.mono ?_
        rintro e w6 ⟨rfl, B6, n6⟩
        have z6 := n6.size
        replace TZ := TZ.up n6
        replace TP := TP.up n6
        replace N := N.trans (But.ofBelow n6)
        clear n6
        have SL := hide (l1Little_any w6 w5.heap.size (some ⟨w5.heap.size, 0, none⟩) 32 pb 32 B6.own0.rd PY.out (by rw [PL.out]; omega) (by omega))
        clear B6
        go_wp2_with fail
        refine SL.out.mono ?_
        rintro e w7 ⟨rfl, B7, n7⟩
        have z7 := n7.size
        replace TZ := TZ.up n7
        replace TP := TP.up n7
        replace N := N.trans (But.ofBelow n7)
        clear n7 SL
        have o7 := B7.own0
        rw [HPB.out] at o7
        clear HPB B7
        go_wp2_with fail
        refine (l2Small_any w7 1 (by decide)).mono ?_
        rintro e w8 ⟨f, rfl, hf, hfv, n8⟩
        have z8 := n8.size
        replace TZ := TZ.up n8
        replace TP := TP.up n8
        replace N := N.trans (But.ofBelow n8)
        replace o7 := o7.up n8
        have SY := hide (l2Bytes_any w8 f hf)
        rw [hfv, HQB.out] at SY
        clear n8 hf hfv HQB
        generalize ag16 f = V at *
        go_wp2_with fail
        refine SY.out.mono ?_
        rintro e wa ⟨⟨a8, c8, g8, rfl, o8, _, _, l8⟩, na⟩
        have za := na.size
        replace TZ := TZ.up na
        replace TP := TP.up na
        replace N := N.trans (But.ofBelow na)
        replace o7 := o7.up na
        clear na SY
        have O4 := (Only.setCell wa w3.heap.size 0 (.slice (some ⟨w6.heap.size, 0, none⟩) 32 32)).trans (Only.setCell _ w3.heap.size 1 (.slice a8 QB.length c8))
        have TP' := TP.put (.slice (some ⟨w6.heap.size, 0, none⟩) 32 32) (.slice a8 QB.length c8)
        replace TZ := TZ.of_block' (O4.block w.heap.size (by omega))
        replace N : But s w ((wa.setCell ⟨w3.heap.size, 0, none⟩ (.slice (some ⟨w6.heap.size, 0, none⟩) 32 32)).setCell ⟨w3.heap.size, 1, none⟩ (.slice a8 QB.length c8)) := (N.setCell (by omega)).setCell (by omega)
        obtain ⟨q0, q1, qf0, qf1⟩ := TP
        have TP := TP'
        clear TP'
        replace o7 := o7.only O4 (fun _ => by omega)
        replace o8 := o8.only O4 (fun _ => by omega)
        clear O4
        go_upto_region 19 with fail
        generalize (wa.setCell ⟨w3.heap.size, 0, none⟩ (.slice (some ⟨w6.heap.size, 0, none⟩) 32 32)).setCell ⟨w3.heap.size, 1, none⟩ (.slice a8 QB.length c8) = w9 at *
        obtain ⟨p0, p1, pf0, pf1⟩ := TP
        obtain ⟨y0, y1, v0, v1⟩ := TZ
        have O := (Only.setCell w9 w.heap.size 0 (.slice (some ⟨w6.heap.size, 0, none⟩) 32 32)).trans (Only.setCell _ w.heap.size 1 (.slice a8 QB.length c8))
        go_wp2
        refine bodyPost_ret (v := .agg #[.slice (some ⟨w6.heap.size, 0, none⟩) 32 32, .slice a8 QB.length c8]) (by simp [results, Tryd.results64, go_sem, y0, y1]) rfl ⟨?_, (N.setCell (Nat.le_refl _)).setCell (Nat.le_refl _)⟩
        rw [HD.out]
        exact ⟨(some ⟨w6.heap.size, 0, none⟩), a8, 32, c8, w6.heap.size, g8, by rw [L7.out], o7.only O (fun _ => by omega), o8.only O (fun _ => by omega), by omega, by omega⟩
      · have HD : Hid (R = ([], [])) := by show _ = _; rw [HR.out, if_neg (by decide), if_neg (by decide), if_neg (by decide)]
        clear HR
        have O4 := (Only.setCell w5 w3.heap.size 0 (.slice none 0 0)).trans (Only.setCell _ w3.heap.size 1 (.slice none 0 0))
        have TP' := TP.put (.slice none 0 0) (.slice none 0 0)
        replace TZ := TZ.of_block' (O4.block w.heap.size (by omega))
        replace N : But s w ((w5.setCell ⟨w3.heap.size, 0, none⟩ (.slice none 0 0)).setCell ⟨w3.heap.size, 1, none⟩ (.slice none 0 0)) := (N.setCell (by omega)).setCell (by omega)
        obtain ⟨q0, q1, qf0, qf1⟩ := TP
        have TP := TP'
        clear TP'
        clear O4
        go_upto_region 19 with fail
        generalize (w5.setCell ⟨w3.heap.size, 0, none⟩ (.slice none 0 0)).setCell ⟨w3.heap.size, 1, none⟩ (.slice none 0 0) = w9 at *
        obtain ⟨p0, p1, pf0, pf1⟩ := TP
        obtain ⟨y0, y1, v0, v1⟩ := TZ
        have O := (Only.setCell w9 w.heap.size 0 (.slice none 0 0)).trans (Only.setCell _ w.heap.size 1 (.slice none 0 0))
        go_wp2
        refine bodyPost_ret (v := .agg #[.slice none 0 0, .slice none 0 0]) (by simp [results, Tryd.results64, go_sem, y0, y1]) rfl ⟨?_, (N.setCell (Nat.le_refl _)).setCell (Nat.le_refl _)⟩
        rw [HD.out]
        exact ⟨none, none, 0, 0, w.heap.size, w.heap.size, rfl, Own.nil _ _ _ _, Own.nil _ _ _ _, by omega, by omega⟩
    · rw [show (q == 0) = false from beq_eq_false_iff_ne.2 hq]
      rw [if_neg hq] at HR
      have HD := HR
      clear HR hq
      go_wp2_with fail
      refine (DB.out w2 (t + 1 + 1) 32 S2 hr2 (by omega) (by omega)).mono ?_
      rintro e w8 ⟨⟨a8, c8, g8, rfl, o8, _, _, l8⟩, S8, N8⟩
      have z8 := N8.size
      have LB := hide (dbF_len xs (t + 1 + 1) 32)
      have BY := hide (dbF_byt xs (t + 1 + 1) 32)
      replace TZ := TZ.of_block' (N8.block w.heap.size (by omega) (by omega))
      replace N := N.trans N8
      clear N8 S8 DB NY NW S2
      generalize dbF xs (t + 1 + 1) 32 = B at *
      rw [LB.out]
      obtain ⟨o8f, ea, _⟩ := id o8 (by rw [LB.out]; decide)
      subst ea
      have zg := o8.rd.lt (by rw [LB.out]; decide)
      have FD := hide (l5Find_any w8 g8 o8f c8 B o8 BY.out LB.out)
      generalize fdP 40 B = X at *
      go_wp2_with fail
      refine FD.out.mono ?_
      rintro r w9 ⟨⟨a1, a1', c1, c1', g1, g1', rfl, o1, o1', l1, l1'⟩, n3⟩
      have z9 := n3.size
      replace TZ := TZ.of_block' (n3.block w.heap.size (by omega) (by omega))
      have N2 : But s w w9 := ⟨n3.os.trans N.os, n3.tape.trans N.tape, n3.output.trans N.output, Nat.le_trans N.size n3.size, fun i hi hn => (n3.block i (by omega) (by omega)).trans (N.block i hi hn)⟩
      clear n3 N FD o8
      obtain ⟨y0, y1, v0, v1⟩ := TZ
      have O := (Only.setCell w9 w.heap.size 0 (.slice a1 X.1.length c1)).trans (Only.setCell _ w.heap.size 1 (.slice a1' X.2.length c1'))
      go_wp2
      refine bodyPost_ret (v := .agg #[.slice a1 X.1.length c1, .slice a1' X.2.length c1']) (by simp [results, Tryd.results64, go_sem, y0, y1]) rfl ⟨?_, (N2.setCell (Nat.le_refl _)).setCell (Nat.le_refl _)⟩
      rw [HD.out]
      exact ⟨a1, a1', c1, c1', g1, g1', rfl, o1.only O (fun _ => by omega), o1'.only O (fun _ => by omega), by omega, by omega⟩
  · have HD : Hid (R = fdP 40 (dbF xs (t + 1) 32)) := by show _ = _; rw [HR.out, if_neg (by decide), if_neg (by decide), if_neg (by decide), if_neg (by decide)]
    clear HR
    go_wp2_with fail
    refine (DB.out w1 (t + 1) 32 S1 hr1 (by omega) (by omega)).mono ?_
    rintro e w8 ⟨⟨a8, c8, g8, rfl, o8, _, _, l8⟩, S8, N8⟩
    have z8 := N8.size
    have LB := hide (dbF_len xs (t + 1) 32)
    have BY := hide (dbF_byt xs (t + 1) 32)
    replace TZ := TZ.of_block' (N8.block w.heap.size (by omega) (by omega))
    replace N := N.trans N8
    clear N8 S8 DB NY CH NW S1
    generalize dbF xs (t + 1) 32 = B at *
    rw [LB.out]
    obtain ⟨o8f, ea, _⟩ := id o8 (by rw [LB.out]; decide)
    subst ea
    have zg := o8.rd.lt (by rw [LB.out]; decide)
    have FD := hide (l5Find_any w8 g8 o8f c8 B o8 BY.out LB.out)
    generalize fdP 40 B = X at *
    go_wp2_with fail
    refine FD.out.mono ?_
    rintro r w9 ⟨⟨a1, a1', c1, c1', g1, g1', rfl, o1, o1', l1, l1'⟩, n3⟩
    have z9 := n3.size
    replace TZ := TZ.of_block' (n3.block w.heap.size (by omega) (by omega))
    have N2 : But s w w9 := ⟨n3.os.trans N.os, n3.tape.trans N.tape, n3.output.trans N.output, Nat.le_trans N.size n3.size, fun i hi hn => (n3.block i (by omega) (by omega)).trans (N.block i hi hn)⟩
    clear n3 N FD o8
    obtain ⟨y0, y1, v0, v1⟩ := TZ
    have O := (Only.setCell w9 w.heap.size 0 (.slice a1 X.1.length c1)).trans (Only.setCell _ w.heap.size 1 (.slice a1' X.2.length c1'))
    go_wp2
    refine bodyPost_ret (v := .agg #[.slice a1 X.1.length c1, .slice a1' X.2.length c1']) (by simp [results, Tryd.results64, go_sem, y0, y1]) rfl ⟨?_, (N2.setCell (Nat.le_refl _)).setCell (Nat.le_refl _)⟩
    rw [HD.out]
    exact ⟨a1, a1', c1, c1', g1, g1', rfl, o1.only O (fun _ => by omega), o1'.only O (fun _ => by omega), by omega, by omega⟩
  · have HD : Hid (R = fdP 40 (dbF xs (t + 1) 32)) := by show _ = _; rw [HR.out, if_neg (by decide), if_neg (by decide), if_neg (by decide), if_neg (by decide)]
    clear HR
    go_wp2_with fail
    refine (DB.out w1 (t + 1) 32 S1 hr1 (by omega) (by omega)).mono ?_
    rintro e w8 ⟨⟨a8, c8, g8, rfl, o8, _, _, l8⟩, S8, N8⟩
    have z8 := N8.size
    have LB := hide (dbF_len xs (t + 1) 32)
    have BY := hide (dbF_byt xs (t + 1) 32)
    replace TZ := TZ.of_block' (N8.block w.heap.size (by omega) (by omega))
    replace N := N.trans N8
    clear N8 S8 DB NY CH NW S1
    generalize dbF xs (t + 1) 32 = B at *
    rw [LB.out]
    obtain ⟨o8f, ea, _⟩ := id o8 (by rw [LB.out]; decide)
    subst ea
    have zg := o8.rd.lt (by rw [LB.out]; decide)
    have FD := hide (l5Find_any w8 g8 o8f c8 B o8 BY.out LB.out)
    generalize fdP 40 B = X at *
    go_wp2_with fail
    refine FD.out.mono ?_
    rintro r w9 ⟨⟨a1, a1', c1, c1', g1, g1', rfl, o1, o1', l1, l1'⟩, n3⟩
    have z9 := n3.size
    replace TZ := TZ.of_block' (n3.block w.heap.size (by omega) (by omega))
    have N2 : But s w w9 := ⟨n3.os.trans N.os, n3.tape.trans N.tape, n3.output.trans N.output, Nat.le_trans N.size n3.size, fun i hi hn => (n3.block i (by omega) (by omega)).trans (N.block i hi hn)⟩
    clear n3 N FD o8
    obtain ⟨y0, y1, v0, v1⟩ := TZ
    have O := (Only.setCell w9 w.heap.size 0 (.slice a1 X.1.length c1)).trans (Only.setCell _ w.heap.size 1 (.slice a1' X.2.length c1'))
    go_wp2
    refine bodyPost_ret (v := .agg #[.slice a1 X.1.length c1, .slice a1' X.2.length c1']) (by simp [results, Tryd.results64, go_sem, y0, y1]) rfl ⟨?_, (N2.setCell (Nat.le_refl _)).setCell (Nat.le_refl _)⟩
    rw [HD.out]
    exact ⟨a1, a1', c1, c1', g1, g1', rfl, o1.only O (fun _ => by omega), o1'.only O (fun _ => by omega), by omega, by omega⟩
  · have HD : Hid (R = fdP 40 (dbF xs (t + 1) 32)) := by show _ = _; rw [HR.out, if_neg (by decide), if_neg (by decide), if_neg (by decide), if_neg (by decide)]
    clear HR
    go_wp2_with fail
    refine (DB.out w1 (t + 1) 32 S1 hr1 (by omega) (by omega)).mono ?_
    rintro e w8 ⟨⟨a8, c8, g8, rfl, o8, _, _, l8⟩, S8, N8⟩
    have z8 := N8.size
    have LB := hide (dbF_len xs (t + 1) 32)
    have BY := hide (dbF_byt xs (t + 1) 32)
    replace TZ := TZ.of_block' (N8.block w.heap.size (by omega) (by omega))
    replace N := N.trans N8
    clear N8 S8 DB NY CH NW S1
    generalize dbF xs (t + 1) 32 = B at *
    rw [LB.out]
    obtain ⟨o8f, ea, _⟩ := id o8 (by rw [LB.out]; decide)
    subst ea
    have zg := o8.rd.lt (by rw [LB.out]; decide)
    have FD := hide (l5Find_any w8 g8 o8f c8 B o8 BY.out LB.out)
    generalize fdP 40 B = X at *
    go_wp2_with fail
    refine FD.out.mono ?_
    rintro r w9 ⟨⟨a1, a1', c1, c1', g1, g1', rfl, o1, o1', l1, l1'⟩, n3⟩
    have z9 := n3.size
    replace TZ := TZ.of_block' (n3.block w.heap.size (by omega) (by omega))
    have N2 : But s w w9 := ⟨n3.os.trans N.os, n3.tape.trans N.tape, n3.output.trans N.output, Nat.le_trans N.size n3.size, fun i hi hn => (n3.block i (by omega) (by omega)).trans (N.block i hi hn)⟩
    clear n3 N FD o8
    obtain ⟨y0, y1, v0, v1⟩ := TZ
    have O := (Only.setCell w9 w.heap.size 0 (.slice a1 X.1.length c1)).trans (Only.setCell _ w.heap.size 1 (.slice a1' X.2.length c1'))
    go_wp2
    refine bodyPost_ret (v := .agg #[.slice a1 X.1.length c1, .slice a1' X.2.length c1']) (by simp [results, Tryd.results64, go_sem, y0, y1]) rfl ⟨?_, (N2.setCell (Nat.le_refl _)).setCell (Nat.le_refl _)⟩
    rw [HD.out]
    exact ⟨a1, a1', c1, c1', g1, g1', rfl, o1.only O (fun _ => by omega), o1'.only O (fun _ => by omega), by omega, by omega⟩
end Go.Proofs.YtmanhandajhobaaDoor

/-
  The point that a law draws.
-/
namespace Go.Proofs.YtmanhandajhobaaDoor
set_option maxRecDepth 100000
open Go Go.RowKit

theorem dc_byt (ys : List Int) : Byt (dcX ys) ∧ Byt (dcY ys) := by
  unfold dcX dcY
  by_cases h : dcB ys = true
  · rw [if_pos h, if_pos h]
    exact li_byt _ _
  · rw [if_neg h, if_neg h]
    exact ⟨byt_nil, byt_nil⟩
def BytP (p : List Int × List Int) : Prop := Byt p.1 ∧ Byt p.2
theorem bytP_mk {x y : List Int} (h : Byt x ∧ Byt y) : BytP (x, y) := h
theorem fdP_byt : ∀ n ys, BytP (fdP n ys)
  | 0, _ => by rw [fdP]; exact bytP_mk (li_byt _ _)
  | n + 1, ys => by
    rw [fdP]
    by_cases h : dcB ys = true
    · rw [if_pos h]
      exact bytP_mk (dc_byt ys)
    · rw [if_neg h]
      exact fdP_byt n _
theorem pa_byt (px py qx qy : List Int) : Byt (paX px py qx qy) ∧ Byt (paY px py qx qy) := by
  unfold paX paY
  by_cases h : validP px py = true ∧ validP qx qy = true
  · rw [if_pos h, if_pos h]
    exact ⟨bytes_5 _ _, bytes_5 _ _⟩
  · rw [if_neg h, if_neg h]
    exact ⟨byt_nil, byt_nil⟩
theorem ptok_byt {xs ys : List Int} (h : PtOk xs ys) : Byt xs ∧ Byt ys := ⟨h.1.1, h.2.1⟩
theorem smP_byt (k : Int) : BytP (smP k) := ptok_byt (smP_ok k)
theorem drP_byt (xs : List Int) (t : Int) : BytP (drP xs t) := by
  unfold drP
  by_cases h0 : nxF xs t 8 = 0
  · rw [if_pos h0]; exact smP_byt _
  rw [if_neg h0]
  by_cases h1 : nxF xs t 8 = 1
  · rw [if_pos h1]; exact bytP_mk (pa_byt _ _ _ _)
  rw [if_neg h1]
  by_cases h2 : nxF xs t 8 < 4
  · rw [if_pos h2]; exact bytP_mk (ptok_byt (pl_ok _))
  rw [if_neg h2]
  by_cases h4 : nxF xs t 8 = 4
  · rw [if_pos h4]
    by_cases h5 : nxF xs (t + 1) 2 = 0
    · rw [if_pos h5]
      by_cases j0 : nxF xs (t + 1 + 1) 4 = 0
      · rw [if_pos j0]; exact bytP_mk ⟨dbF_byt _ _ _, bs_byt.2⟩
      rw [if_neg j0]
      by_cases j1 : nxF xs (t + 1 + 1) 4 = 1
      · rw [if_pos j1]; exact bytP_mk ⟨bs_byt.1, dbF_byt _ _ _⟩
      rw [if_neg j1]
      by_cases j2 : nxF xs (t + 1 + 1) 4 = 2
      · rw [if_pos j2]; exact bytP_mk ⟨dig_bytes_5 pbytes_byt 32, bytes_5 _ _⟩
      rw [if_neg j2]
      exact bytP_mk ⟨byt_nil, byt_nil⟩
    · rw [if_neg h5]; exact fdP_byt _ _
  · rw [if_neg h4]; exact fdP_byt _ _
theorem Below.ofBut {w w1 w2 : World} {s : Nat} (h : Below w.heap.size w w1) (k : But s w1 w2) (hs : w.heap.size ≤ s) : Below w.heap.size w w2 :=
  ⟨k.os.trans h.os, k.tape.trans h.tape, k.output.trans h.output, Nat.le_trans h.size k.size, fun i hi => (k.block i (Nat.lt_of_lt_of_le hi h.size) (by omega)).trans (h.block i hi)⟩
set_option maxHeartbeats 400000 in
theorem l1SourceB_any (w : World) (a : Option Addr) (n c : Nat) (hn : n ≤ 4194304) :
    Calls Tryd.prog 61 #[.slice a n c] w fun e w' => e = .returned (.pointer (some ⟨w.heap.size, 0, none⟩)) ∧ Src w' w.heap.size a n c 0 ∧ Below w.heap.size w w' := by
  by_cases h : 12 < (n : Int) / 16
  · have t1 : decide (12 < (n : Int) / 16) = true := by simp; omega
    go_enter Tryd.func61, Tryd.ntmps61
    go_wp2
    go_ret
    exact ⟨rfl, ⟨by simp [World.cell?_alloc_at], by simp [World.cell?_alloc_at], by simp [World.frozen?_alloc_at]⟩, (Below.refl _ _).alloc (Nat.le_refl _) _⟩
  · have t1 : decide (12 < (n : Int) / 16) = false := by simp; omega
    go_enter Tryd.func61, Tryd.ntmps61
    go_wp2
    go_ret
    exact ⟨rfl, ⟨by simp [World.cell?_alloc_at], by simp [World.cell?_alloc_at], by simp [World.frozen?_alloc_at]⟩, (Below.refl _ _).alloc (Nat.le_refl _) _⟩
set_option maxHeartbeats 1000000 in
theorem drawNeg_any (w : World) (g : Nat) (a : Option Addr) (c : Nat) (xs : List Int) (hr : Rd w g a .u8 xs) (hb : Byt xs) (hl : xs.length ≤ 4194304) :
    Calls Tryd.prog 56 #[.slice a xs.length c] w fun r w' => NewPt w.heap.size w' r (drP xs 0).1 (drP xs 0).2 ∧ Below w.heap.size w w' := by
  have TZ : Two (w.alloc pObj) w.heap.size (.slice none 0 0) (.slice none 0 0) := Two.new w (.slice none 0 0) (.slice none 0 0) 26
  have N : Below w.heap.size w (w.alloc pObj) := (Below.refl _ _).alloc (Nat.le_refl _) _
  have DW := hide (fun W (s : Nat) (hs : Src W s a xs.length c 0) (h : Rd W g a .u8 xs) (hn : 0 < xs.length → g ≠ s) => l5DrawV_any W s g a c xs 0 hs h hn hb hl (by decide) (by decide))
  have SO := hide (fun W => l1SourceB_any W a xs.length c hl)
  have hg := hide (fun h => hr.lt h)
  generalize drP xs 0 = X at *
  go_enter Tryd.func56, Tryd.ntmps56
  go_upto_region 1 with fail
  change Code.wp _ _ _ _ (w.alloc pObj)
  generalize w.alloc pObj = wz at *
  go_wp2_with fail
  refine (SO.out wz).mono ?_
  rintro e w1 ⟨rfl, S1, n1⟩
  have zz := TZ.lt
  have z1 := n1.size
  replace TZ := TZ.up n1
  replace N := nxt N n1
  have hr1 := hr.up N
  have sl := S1.lt
  clear n1 SO
  go_wp2_with fail
  refine (DW.out w1 wz.heap.size S1 hr1 (fun h => by have := hg.out h; omega)).mono ?_
  rintro r w2 ⟨⟨a1, a1', c1, c1', g1, g1', rfl, o1, o1', l1, l1'⟩, n2⟩
  replace TZ := TZ.of_block' (n2.block w.heap.size (by omega) (by omega))
  replace N := Below.ofBut N n2 (by omega)
  clear n2 DW S1 hr1
  obtain ⟨y0, y1, v0, v1⟩ := TZ
  have O := (Only.setCell w2 w.heap.size 0 (.slice a1 X.1.length c1)).trans (Only.setCell _ w.heap.size 1 (.slice a1' X.2.length c1'))
  go_wp2
  refine bodyPost_ret (v := .agg #[.slice a1 X.1.length c1, .slice a1' X.2.length c1']) (by simp [results, Tryd.results56, go_sem, y0, y1]) rfl ⟨?_, (N.setCell (Nat.le_refl _) _).setCell (Nat.le_refl _) _⟩
  exact ⟨a1, a1', c1, c1', g1, g1', rfl, o1.only O (fun _ => by omega), o1'.only O (fun _ => by omega), by omega, by omega⟩
/-- The valid point of a code. -/
def lpP (xs : List Int) : List Int × List Int := if validP (drP xs 0).1 (drP xs 0).2 = true then drP xs 0 else (bsX, bsY)
set_option maxHeartbeats 2000000 in
theorem lwPoint_any (w : World) (g : Nat) (a : Option Addr) (c : Nat) (xs : List Int) (hr : Rd w g a .u8 xs) (hb : Byt xs) (hl : xs.length ≤ 4194304) :
    Calls Tryd.prog 25 #[.slice a xs.length c] w fun r w' => NewPt w.heap.size w' r (lpP xs).1 (lpP xs).2 ∧ Below w.heap.size w w' := by
  have TZ : Two (w.alloc pObj) w.heap.size (.slice none 0 0) (.slice none 0 0) := Two.new w (.slice none 0 0) (.slice none 0 0) 26
  have N : Below w.heap.size w (w.alloc pObj) := (Below.refl _ _).alloc (Nat.le_refl _) _
  have DW := hide (fun W (h : Rd W g a .u8 xs) => drawNeg_any W g a c xs h hb hl)
  have XB := hide (drP_byt xs 0)
  obtain ⟨R, hR⟩ : ∃ R, R = lpP xs := ⟨_, rfl⟩
  rw [← hR]
  unfold lpP at hR
  have HR := hide hR
  clear hR
  generalize drP xs 0 = X at *
  go_enter Tryd.func25, Tryd.ntmps25
  go_upto_region 1 with fail
  change Code.wp _ _ _ _ (w.alloc pObj)
  have hr0 := hr.up N
  generalize w.alloc pObj = wz at *
  go_wp2_with fail
  refine (DW.out wz hr0).mono ?_
  rintro r w1 ⟨⟨a1, a1', c1, c1', g1, g1', rfl, o1, o1', l1, l1'⟩, n1⟩
  have zz := TZ.lt
  have z1 := n1.size
  have TP := Two.new w1 (.slice a1 X.1.length c1) (.slice a1' X.2.length c1') 26
  have n2 : Below w1.heap.size w1 (w1.alloc (.cells #[.slice a1 X.1.length c1, .slice a1' X.2.length c1'] 26)) := (Below.refl _ _).alloc (Nat.le_refl _) _
  replace TZ := (TZ.up n1).up n2
  replace N := nxt (nxt N n1) n2
  replace o1 := o1.up n2
  replace o1' := o1'.up n2
  have z2 := n2.size
  clear n1 n2 DW hr0
  have zl := TP.lt
  have VA := hide (pointValid_any _ g1 g1' a1 a1' c1 c1' X.1 X.2 o1.rd o1'.rd XB.out.1 XB.out.2)
  obtain ⟨p0, p1, pf0, pf1⟩ := id TP
  obtain ⟨v, hv⟩ : ∃ v, v = validP X.1 X.2 := ⟨_, rfl⟩
  rw [← hv] at VA HR
  clear hv
  go_wp2_with fail
  generalize w1.alloc (.cells #[.slice a1 X.1.length c1, .slice a1' X.2.length c1'] 26) = w2 at *
  refine VA.out.mono ?_
  rintro e w3 ⟨rfl, n3⟩
  have z3 := n3.size
  replace TZ := TZ.up n3
  replace TP := TP.up n3
  replace N := nxt N n3
  replace o1 := o1.up n3
  replace o1' := o1'.up n3
  clear n3 VA p0 p1 pf0 pf1
  cases v with
  | true =>
    have HD : Hid (R = X) := by show _ = _; rw [HR.out, if_pos rfl]
    clear HR
    obtain ⟨p0, p1, pf0, pf1⟩ := TP
    obtain ⟨y0, y1, v0, v1⟩ := TZ
    have O := (Only.setCell w3 w.heap.size 0 (.slice a1 X.1.length c1)).trans (Only.setCell _ w.heap.size 1 (.slice a1' X.2.length c1'))
    go_wp2
    refine bodyPost_ret (v := .agg #[.slice a1 X.1.length c1, .slice a1' X.2.length c1']) (by simp [results, Tryd.results25, go_sem, y0, y1]) rfl ⟨?_, (N.setCell (Nat.le_refl _) _).setCell (Nat.le_refl _) _⟩
    rw [HD.out]
    exact ⟨a1, a1', c1, c1', g1, g1', rfl, o1.only O (fun _ => by omega), o1'.only O (fun _ => by omega), by omega, by omega⟩
  | false =>
    have HD : Hid (R = (bsX, bsY)) := by show _ = _; rw [HR.out, if_neg (by decide)]
    clear HR o1 o1'
    have SB : Hid (Calls Tryd.prog 57 #[] w3 fun r w' => NewPt w3.heap.size w' r bsX bsY ∧ Below w3.heap.size w3 w') := specBase_any w3
    generalize bsX = bx at *
    generalize bsY = by' at *
    go_wp2_with fail
    refine SB.out.mono ?_
    rintro r w4 ⟨⟨a4, a4', c4, c4', g4, g4', rfl, o4, o4', l4, l4'⟩, n4⟩
    have z4 := n4.size
    replace TZ := TZ.up n4
    replace N := nxt N n4
    clear n4 SB
    obtain ⟨y0, y1, v0, v1⟩ := TZ
    have O := (Only.setCell w4 w.heap.size 0 (.slice a4 bx.length c4)).trans (Only.setCell _ w.heap.size 1 (.slice a4' by'.length c4'))
    go_wp2
    refine bodyPost_ret (v := .agg #[.slice a4 bx.length c4, .slice a4' by'.length c4']) (by simp [results, Tryd.results25, go_sem, y0, y1]) rfl ⟨?_, (N.setCell (Nat.le_refl _) _).setCell (Nat.le_refl _) _⟩
    rw [HD.out]
    exact ⟨a4, a4', c4, c4', g4, g4', rfl, o4.only O (fun _ => by omega), o4'.only O (fun _ => by omega), by omega, by omega⟩
end Go.Proofs.YtmanhandajhobaaDoor

/-
  The group of the curve in lists of bytes. Numbers alone.
-/
namespace Go.Proofs.YtmanhandajhobaaDoor
set_option maxRecDepth 100000
open Go Go.RowKit

/-- A point of the curve in canonical coordinates. -/
structure Pv (p : Int × Int) : Prop where
  on : OnP PP (-1) d0 p
  cn : Cn p
def lx (p : Int × Int) : List Int := fill (byt p.1) 32
def ly (p : Int × Int) : List Int := fill (byt p.2) 32
theorem lx_byt (p : Int × Int) : Byt (lx p) := bytes_5 _ _
theorem ly_byt (p : Int × Int) : Byt (ly p) := bytes_5 _ _
theorem lx_len (p : Int × Int) : (lx p).length = 32 := fill_len _ _
theorem ly_len (p : Int × Int) : (ly p).length = 32 := fill_len _ _
theorem num_fill {v : Int} (h0 : 0 ≤ v) (h1 : v < PP) : num (fill (byt v) 32) = v := by
  have e := num_modS v
  rwa [Int.emod_eq_of_lt h0 h1] at e
theorem lx_num {p : Int × Int} (h : Pv p) : num (lx p) = p.1 := num_fill h.cn.x.1 h.cn.x.2
theorem ly_num {p : Int × Int} (h : Pv p) : num (ly p) = p.2 := num_fill h.cn.y.1 h.cn.y.2
theorem can_fill {v : Int} (h0 : 0 ≤ v) (h1 : v < PP) : canN (fill (byt v) 32) = true := by
  unfold canN
  rw [num_fill h0 h1, fill_len, decide_eq_true h1]
  rfl
theorem lv_valid {p : Int × Int} (h : Pv p) : validP (lx p) (ly p) = true := by
  unfold validP
  rw [lx_num h, ly_num h, show canN (lx p) = true from can_fill h.cn.x.1 h.cn.x.2, show canN (ly p) = true from can_fill h.cn.y.1 h.cn.y.2, on_valid h.on]
  rfl
theorem pv_of {xs ys : List Int} (hx : Byt xs) (hy : Byt ys) (h : validP xs ys = true) : Pv (num xs, num ys) ∧ xs = lx (num xs, num ys) ∧ ys = ly (num xs, num ys) := by
  have x1 := valid_x1 h
  have y1 := valid_y1 h
  refine ⟨⟨on_of h, ⟨num_ge hx, can_lt x1⟩, ⟨num_ge hy, can_lt y1⟩⟩, ?_, ?_⟩
  · have e := fill_can hx x1
    rw [Int.emod_eq_of_lt (num_ge hx) (can_lt x1)] at e
    exact e.symm
  · have e := fill_can hy y1
    rw [Int.emod_eq_of_lt (num_ge hy) (can_lt y1)] at e
    exact e.symm
theorem Pv.add {p q : Int × Int} (hp : Pv p) (hq : Pv q) : Pv (pAdd p q) := ⟨pAdd_on hp.on hq.on, pAdd_cn _ _⟩
theorem Pv.neg {p : Int × Int} (hp : Pv p) : Pv (pNeg p) := ⟨pNeg_on hp.on, pNeg_cn hp.cn⟩
theorem pa_of {p q : Int × Int} (hp : Pv p) (hq : Pv q) : paX (lx p) (ly p) (lx q) (ly q) = lx (pAdd p q) ∧ paY (lx p) (ly p) (lx q) (ly q) = ly (pAdd p q) := by
  unfold paX paY
  rw [if_pos ⟨lv_valid hp, lv_valid hq⟩, if_pos ⟨lv_valid hp, lv_valid hq⟩, lx_num hp, ly_num hp, lx_num hq, ly_num hq]
  exact ⟨rfl, rfl⟩
theorem ns_of {p : Int × Int} (hp : Pv p) : nsX (lx p) (ly p) = lx (pNeg p) ∧ nsY (lx p) (ly p) = ly (pNeg p) := by
  unfold nsX nsY
  rw [if_pos (lv_valid hp), if_pos (lv_valid hp), lx_num hp]
  exact ⟨rfl, rfl⟩
def pZero : Int × Int := (0, 1)
theorem pv_zero : Pv pZero := ⟨by show PP ∣ _; decide, zero_cn⟩
theorem ze_of : fill (byt (0 % PP)) 32 = lx pZero ∧ fill (byt (1 % PP)) 32 = ly pZero := ⟨rfl, rfl⟩
theorem pv_base : Pv (bX, bY) := ⟨base_on, base_cn⟩
theorem bs_of : bsX = lx (bX, bY) ∧ bsY = ly (bX, bY) := by
  have h : liB (4 * iv 5) false = true := by
    unfold liB
    rw [base_lift.1]
    simp
  have e1 : bX % PP = bX := Int.emod_eq_of_lt base_cn.x.1 base_cn.x.2
  unfold bsX bsY liX liY
  rw [if_pos h, if_pos h, base_lift.2, base_mod]
  refine ⟨?_, rfl⟩
  show fill (byt (bX % PP)) 32 = _
  rw [e1]
  rfl
/-- The point that is drawn. -/
theorem lpP_is {xs : List Int} : ∃ p, Pv p ∧ lpP xs = (lx p, ly p) := by
  have hb := drP_byt xs 0
  unfold lpP
  generalize drP xs 0 = X at *
  by_cases h : validP X.1 X.2 = true
  · rw [if_pos h]
    obtain ⟨k, e1, e2⟩ := pv_of hb.1 hb.2 h
    exact ⟨_, k, Prod.ext e1 e2⟩
  · rw [if_neg h]
    exact ⟨_, pv_base, by rw [bs_of.1, bs_of.2]⟩
theorem grp_comm {p q : Int × Int} (hp : Pv p) (hq : Pv q) : pAdd p q = pAdd q p := pAdd_comm hp.on hq.on
theorem grp_assoc {p q r : Int × Int} (hp : Pv p) (hq : Pv q) (hr : Pv r) : pAdd (pAdd p q) r = pAdd p (pAdd q r) := pAdd_assoc hp.on hq.on hr.on
theorem grp_zero {p : Int × Int} (hp : Pv p) : pAdd p pZero = p := pAdd_zero hp.on hp.cn
theorem grp_neg {p : Int × Int} (hp : Pv p) : pAdd p (pNeg p) = pZero := pAdd_neg hp.on
end Go.Proofs.YtmanhandajhobaaDoor

/-
  Two points that are the same, as the laws ask it.
-/
namespace Go.Proofs.YtmanhandajhobaaDoor
set_option maxRecDepth 100000
open Go Go.RowKit

set_option maxHeartbeats 2000000 in
theorem lwSamePoint_same (w : World) (g g' h h' : Nat) (a b p q : Option Addr) (ca cb cp cq : Nat) (ys ss : List Int) (h1 : Rd w g a .u8 ys) (h2 : Rd w h p .u8 ss) (h3 : Rd w g' b .u8 ys) (h4 : Rd w h' q .u8 ss) :
    Calls Tryd.prog 28 #[.agg #[.slice a ys.length ca, .slice p ss.length cp], .agg #[.slice b ys.length cb, .slice q ss.length cq]] w fun e w' => e = .returned (.bool true) ∧ Below w.heap.size w w' := by
  have n0 : Below w.heap.size w (w.alloc (.cells #[.slice a ys.length ca, .slice p ss.length cp] 26)) := (Below.refl _ _).alloc (Nat.le_refl _) _
  have n1 : Below w.heap.size w ((w.alloc (.cells #[.slice a ys.length ca, .slice p ss.length cp] 26)).alloc (.cells #[.slice b ys.length cb, .slice q ss.length cq] 26)) := n0.alloc (by simp) _
  have L1 := hide (lwSame_same _ g g' a b ca cb ys (h1.up n1) (h3.up n1))
  have L2 := hide (lwSame_same _ h h' p q cp cq ss (h2.up n1) (h4.up n1))
  go_enter Tryd.func28, Tryd.ntmps28
  go_wp2_with fail
  refine L1.out.mono ?_
  rintro e w3 ⟨rfl, rfl⟩
  go_wp2_with fail
  refine L2.out.mono ?_
  rintro e w4 ⟨rfl, rfl⟩
  go_wp2
  go_ret
  exact ⟨rfl, n1⟩
end Go.Proofs.YtmanhandajhobaaDoor

/-
  The law of PointNegate.
-/
namespace Go.Proofs.YtmanhandajhobaaDoor
set_option maxRecDepth 100000
open Go Go.RowKit

theorem ngX_eq (xs ys : List Int) : ngX dGo xs ys = nsX xs ys := by
  unfold ngX nsX
  rw [rp_valid]
  by_cases h : validP xs ys = true
  · rw [if_pos h, if_pos h, rpX_of h]
  · rw [if_neg h, if_neg h]
theorem ngY_eq {ys : List Int} (hb : Byt ys) (xs : List Int) : ngY dGo xs ys = nsY xs ys := by
  unfold ngY nsY
  rw [rp_valid]
  by_cases h : validP xs ys = true
  · rw [if_pos h, if_pos h, rpY_of h, fill_can hb (valid_y1 h)]
  · rw [if_neg h, if_neg h]
theorem ns_len1 (xs ys : List Int) : (nsX xs ys).length ≤ 1048576 := by
  unfold nsX
  split
  · rw [fill_len]; omega
  · simp
theorem ns_len2 (xs ys : List Int) : (nsY xs ys).length ≤ 1048576 := by
  unfold nsY
  split
  · rename_i h
    have := (valid_len h).2
    omega
  · simp
end Go.Proofs.YtmanhandajhobaaDoor

/-
  The law by facts for a region that draws its order, with guarded operations that all are wanted. No program in sight.
-/
namespace Go.Proofs.YtmanhandajhobaaDoor
set_option maxRecDepth 100000
open Go Go.RowKit

section
variable {P : Program} {ops : Array Oper} {Q : Exit → Act → World → Prop} {md : Region.Mode} {F : Nat → Fact} {a0 : Act} {w0 : World}

def textEnd (md : Region.Mode) (ops : Array Oper) (n : Nat) : Bool :=
  (ops.all fun o => match o.dst with | some d => decide (d < n) | none => true)
  && ((List.range ops.size).all fun i => match ops[i]? with
    | some o => o.after.all (fun e => !Region.binds md e || decide (e.on < i)) && (List.range i).all fun j => match ops[j]? with
      | some x => x.dst.isNone || o.dst != x.dst
      | none => true
    | none => true)
structure TextE (md : Region.Mode) (ops : Array Oper) (n : Nat) : Prop where
  d : ∀ (i : Nat) o d, ops[i]? = some o → o.dst = some d → d < n
  a : ∀ (i : Nat) o, ops[i]? = some o → ∀ e ∈ o.after, Region.binds md e = true → e.on < i
  x : ∀ (i j : Nat) o o' d, ops[i]? = some o → ops[j]? = some o' → i ≠ j → o.dst = some d → o'.dst ≠ some d
theorem textE_of {n : Nat} (h : textEnd md ops n = true) : TextE md ops n := by
  unfold textEnd at h
  simp only [Bool.and_eq_true] at h
  obtain ⟨h1, h2⟩ := h
  rw [Array.all_eq_true_iff_forall_mem] at h1
  rw [List.all_eq_true] at h2
  have H : ∀ (i j : Nat) o o' d, j < i → ops[i]? = some o → ops[j]? = some o' → o.dst = some d → o'.dst ≠ some d := by
    intro i j o o' d hij hi hj hd hd'
    have q := h2 i (List.mem_range.2 (Array.getElem?_eq_some_iff.1 hi).1)
    simp only [hi, Bool.and_eq_true] at q
    have r := List.all_eq_true.1 q.2 j (List.mem_range.2 hij)
    simp only [hj, hd, hd'] at r
    simp at r
  refine ⟨?_, ?_, ?_⟩
  · intro i o d ho hd
    have q := h1 o (Array.mem_of_getElem? ho)
    simpa [hd] using q
  · intro i o ho e he hb
    have q := h2 i (List.mem_range.2 (Array.getElem?_eq_some_iff.1 ho).1)
    simp only [ho, Bool.and_eq_true] at q
    have r := (Array.all_eq_true_iff_forall_mem.1 q.1) e he
    rw [hb] at r
    simpa using r
  · intro i j o o' d hi hj hij hd hd'
    rcases Nat.lt_or_gt_of_ne hij with h | h
    · exact H j i o' o d h hj hi hd' hd
    · exact H i j o o' d h hi hj hd hd'
theorem Held.nextE {n : Nat} (T : TextE md ops n) (hn : n ≤ a0.tmps.size) {listed : Array Bool} {a : Act} {w : World} (H : Held md ops F a0 w0 listed a w) {i : Nat} {o : Oper} (ho : ops[i]? = some o) (hr : i ∈ Region.ready md ops listed)
    {v : Value} {w' : World} (hw : Below w.heap.size w w') (hf : (F i).p v w') : Held md ops F a0 w0 (listed.setIfInBounds i true) (a.put o.dst v) w' := by
  have hi : i < ops.size := (Array.getElem?_eq_some_iff.1 ho).1
  have hz : a.tmps.size = a0.tmps.size := H.b.2.1
  refine ⟨⟨by rw [put_defers]; exact H.b.1, by rw [put_size]; exact hz, fun d hd => ?_⟩, nxt H.n hw, ?_, ?_, by simp [H.s]⟩
  · rw [put_off]
    · exact H.b.2.2 d hd
    · have q := Array.all_eq_true_iff_forall_mem.1 hd o (Array.mem_of_getElem? ho)
      simpa using q
  · intro j oj d hoj hj hd
    by_cases e : i = j
    · subst e
      obtain rfl := Option.some.inj (ho.symm.trans hoj)
      rw [hd, put_at (Nat.lt_of_lt_of_le (T.d i o d ho hd) (hz ▸ hn))]
      exact hf
    · rw [getD_off e] at hj
      rw [put_off (T.x j i oj o d hoj ho (Ne.symm e) hd)]
      exact (F j).up hw (H.f j oj d hoj hj hd)
  · intro j oj hoj hj e he hb
    obtain ⟨_, o', ho', q⟩ := mem_ready.1 hr
    by_cases c : i = e.on
    · rw [← c]
      exact getD_same (by rw [H.s]; exact hi) _
    · rw [getD_off c]
      by_cases e' : i = j
      · subst e'
        obtain rfl := Option.some.inj (ho'.symm.trans hoj)
        exact q e he hb
      · rw [getD_off e'] at hj
        exact H.c j oj hoj hj e he hb
theorem any_end {n : Nat} (T : TextE md ops n) (hn : n ≤ a0.tmps.size) (steps : ∀ i, i < ops.size → StepOk P md ops Q F a0 w0 i)
    (hg : ∀ i o, ops[i]? = some o → ∀ (a : Act) (w : World), (∀ j d, waits md ops i j d = true → (F j).p (a.tmps.getD d undef) w) → Region.wanted o (yielded ops a.tmps) = true)
    (fin : ∀ a w, Based ops a0 a → Below w0.heap.size w0 w → (∀ i o d, ops[i]? = some o → o.dst = some d → (F i).p (a.tmps.getD d undef) w) → Q .normal a w) :
    ∀ (fuel : Nat) (listed : Array Bool) (a : Act) (w : World), left listed ops.size ≤ fuel → Held md ops F a0 w0 listed a w → wpAny P md ops Q fuel listed a w := by
  have done : ∀ (fuel : Nat) (listed : Array Bool) (a : Act) (w : World), Held md ops F a0 w0 listed a w → (∀ i, i < ops.size → listed.getD i false = true) → wpAny P md ops Q fuel listed a w := by
    intro fuel listed a w H hall
    refine wpAny_done ?_ (fin a w H.b H.n (fun i o d ho hd => H.f i o d ho (hall i (Array.getElem?_eq_some_iff.1 ho).1) hd)) fuel
    cases hr : Region.ready md ops listed with
    | nil => rfl
    | cons i t =>
      exfalso
      have hi : i ∈ Region.ready md ops listed := by rw [hr]; simp
      obtain ⟨h0, o, ho, _⟩ := mem_ready.1 hi
      have hlt := (Array.getElem?_eq_some_iff.1 ho).1
      rw [dflt (by rw [H.s]; exact hlt), hall i hlt] at h0
      simp at h0
  intro fuel
  induction fuel with
  | zero =>
    intro listed a w hl H
    exact done 0 listed a w H fun i hi => by
      rw [← dflt (by rw [H.s]; exact hi)]
      exact left_zero (n := ops.size) (by omega) i hi
  | succ fuel ih =>
    intro listed a w hl H
    by_cases hall : ∀ i, i < ops.size → listed.getD i false = true
    · exact done _ listed a w H hall
    · refine ⟨fun hr => ?_, fun i hi => ?_⟩
      · exfalso
        refine hall fun j hj => ?_
        have : ∀ m i, i < m → i < ops.size → listed.getD i false = true := by
          intro m
          induction m with
          | zero => intro i hi; omega
          | succ m ihm =>
            intro i hi hik
            rcases Nat.lt_or_ge i m with h1 | h1
            · exact ihm i h1 hik
            · obtain rfl : i = m := by omega
              cases hc : listed.getD i false
              · exfalso
                obtain ⟨o, ho⟩ : ∃ o, ops[i]? = some o := ⟨ops[i], by simp [hik]⟩
                have hr' : i ∈ Region.ready md ops listed := mem_ready.2 ⟨by rw [dflt (by rw [H.s]; omega)]; exact hc, o, ho, fun e he hb => ihm e.on (T.a i o ho e he hb) (by have := T.a i o ho e he hb; omega)⟩
                rw [hr] at hr'
                simp at hr'
              · rfl
        exact this (j + 1) j (by omega) hj
      · obtain ⟨h0, o, ho, hready⟩ := mem_ready.1 hi
        have hlt := (Array.getElem?_eq_some_iff.1 ho).1
        have hfacts : ∀ j d, waits md ops i j d = true → (F j).p (a.tmps.getD d undef) w := by
          intro j d hjd
          unfold waits at hjd
          rw [ho] at hjd
          cases hoj : ops[j]? with
          | none => rw [hoj] at hjd; simp at hjd
          | some oj =>
            rw [hoj] at hjd
            simp only [Bool.and_eq_true, beq_iff_eq] at hjd
            obtain ⟨e, he, hb⟩ := Array.any_eq_true'.1 hjd.1
            simp only [Bool.and_eq_true, beq_iff_eq] at hb
            exact H.f j oj d hoj (by rw [← hb.2]; exact hready e he hb.1) hjd.2
        have hwant := hg i o ho a w hfacts
        refine wpOp_step ho fun K' hK => ?_
        rw [if_pos hwant]
        have hll := left_set (by rw [H.s]; exact hlt) h0 ops.size hlt
        refine steps i hlt o ho a w H.b H.n hfacts K' fun v w' hw hf => ?_
        exact hK _ _ (ih _ _ _ (by omega) (H.nextE T hn ho hi hw hf))
/-- The same for the region. -/
theorem region_guard {id : Nat} {w : World} (F : Nat → Fact) (hm : P.follows .mixedOrders = true) (hT : textEnd .any ops a0.tmps.size = true) (steps : ∀ i, i < ops.size → StepOk P .any ops Q F a0 w i)
    (hg : ∀ i o, ops[i]? = some o → ∀ (a : Act) (w : World), (∀ j d, waits .any ops i j d = true → (F j).p (a.tmps.getD d undef) w) → Region.wanted o (yielded ops a.tmps) = true)
    (fin : ∀ a W, Based ops a0 a → Below w.heap.size w W → (∀ i d, writes ops i d = true → (F i).p (a.tmps.getD d undef) W) → Q .normal a W) : (Code.region id ops true).wp P Q a0 w := by
  have T := textE_of hT
  have z : ∀ j, (Array.replicate ops.size false).getD j false = false := fun j => by
    rw [Array.getD_eq_getD_getElem?, Array.getElem?_replicate]
    split <;> rfl
  refine wp_region_any hm ?_
  refine any_end (w0 := w) T (Nat.le_refl _) steps hg (fun a W hb hw hf => fin a W hb hw (fun i d hd => ?_)) ops.size _ a0 _ ?_ ⟨⟨rfl, rfl, fun _ _ => rfl⟩, (Below.refl _ _).drew, ?_, ?_, by simp⟩
  · obtain ⟨o, ho, hd'⟩ := writes_is hd
    exact hf i o d ho hd'
  · have : ∀ m, left (Array.replicate ops.size false) m ≤ m := by
      intro m
      induction m with
      | zero => exact Nat.le_refl _
      | succ m ih => unfold left; split <;> omega
    exact this _
  · intro i o d ho hl _
    rw [z] at hl
    simp at hl
  · intro i o ho hl
    rw [z] at hl
    simp at hl
theorem wanted_none {o : Oper} {a : Act} (h : o.guard = none) : Region.wanted o (yielded ops a.tmps) = true := by simp [Region.wanted, h]
theorem wanted_some {o : Oper} {a : Act} {g d : Nat} {v : Bool} (h : o.guard = some (g, v)) (hd : writes ops g d = true) (e : a.tmps.getD d undef = .bool v) : Region.wanted o (yielded ops a.tmps) = true := by
  obtain ⟨og, ho, hd'⟩ := writes_is hd
  have e1 : a.tmps[d]? = some (.bool v) := by
    rw [Array.getD_eq_getD_getElem?] at e
    cases hq : a.tmps[d]? with
    | none => rw [hq] at e; simp [undef] at e
    | some x => rw [hq] at e; simpa using e
  simp [Region.wanted, h, yielded, ho, hd', e1]
theorem puts_guard {n : Nat} (hT : textEnd md ops n = true) (hn : n = a0.tmps.size) {a : Act} (hb : Based ops a0 a) (vs : Nat → Value) (hv : ∀ d, a.tmps.getD d undef = vs d) : a = puts vs a0 ops.toList := by
  have T := textE_of hT
  have hin : ∀ o ∈ ops.toList, ∀ e, o.dst = some e → e < a0.tmps.size := fun o ho e he => by
    obtain ⟨i, hi⟩ := List.getElem?_of_mem ho
    have := T.d i o e (by simpa using hi) he
    rw [hn] at this
    exact this
  obtain ⟨s1, s2⟩ := puts_size vs ops.toList a0
  obtain ⟨ta, da⟩ := a
  obtain ⟨h1, h2, h3⟩ := hb
  have e1 : ta = (puts vs a0 ops.toList).tmps := by
    apply Array.ext
    · rw [s1]; exact h2
    · intro i hi hi'
      have g := puts_get vs i ops.toList a0 hin
      have l : ta[i] = ta.getD i undef := by simp [Array.getD_eq_getD_getElem?, hi]
      have r : (puts vs a0 ops.toList).tmps[i] = (puts vs a0 ops.toList).tmps.getD i undef := by simp only [Array.getD_eq_getD_getElem?, Array.getElem?_eq_getElem hi', Option.getD_some]
      rw [l, r, g]
      by_cases c : ops.toList.any (fun o => o.dst == some i) = true
      · rw [if_pos c]; exact hv i
      · rw [if_neg c]
        refine h3 i ?_
        unfold apart
        rw [Array.all_eq_true_iff_forall_mem]
        intro o ho
        have hne : ¬ (o.dst == some i) = true := fun x => c (List.any_eq_true.2 ⟨o, by simpa using ho, x⟩)
        simpa using hne
  have e2 : da = (puts vs a0 ops.toList).defers := h1.trans s2.symm
  subst e1
  subst e2
  rfl
end
end Go.Proofs.YtmanhandajhobaaDoor

/-
  Steps on points of the curve, for the laws that draw them.
-/
namespace Go.Proofs.YtmanhandajhobaaDoor
set_option maxRecDepth 100000
open Go Go.RowKit

/-- A point that may be read. -/
def RP (p : Int × Int) : Fact := ⟨fun v w => ∃ (a a' : Option Addr) (c c' g g' : Nat), v = .agg #[.slice a (lx p).length c, .slice a' (ly p).length c'] ∧ Rd w g a .u8 (lx p) ∧ Rd w g' a' .u8 (ly p), fun n h => by
  obtain ⟨a, a', c, c', g, g', e, o, o'⟩ := h
  exact ⟨a, a', c, c', g, g', e, o.up n, o'.up n⟩⟩
theorem rp_of_new {B : Nat} {w : World} {r : Ending} {p : Int × Int} {xs ys : List Int} (hx : xs = lx p) (hy : ys = ly p) (h : NewPt B w r xs ys) : ∃ v, r = .returned v ∧ (RP p).p v w := by
  subst hx hy
  obtain ⟨a, a', c, c', g, g', rfl, o, o', _⟩ := h
  exact ⟨_, rfl, a, a', c, c', g, g', rfl, o.rd, o'.rd⟩
theorem rp_of_new2 {B : Nat} {w : World} {r : Ending} {p : Int × Int} {xs ys : List Int} (hx : xs = lx p) (hy : ys = ly p) (h : NewP2 B w r xs ys) : ∃ v, r = .returned v ∧ (RP p).p v w := by
  subst hx hy
  obtain ⟨a, c, g, a', c', g', rfl, o, o', _⟩ := h
  exact ⟨_, rfl, a, a', c, c', g, g', rfl, o.rd, o'.rd⟩
section
variable {ops : Array Oper} {Q : Exit → Act → World → Prop} {md : Region.Mode} {F : Nat → Fact} {a0 : Act} {w0 : World} {i : Nat} {o : Oper} {ts : Array TypeId}
theorem step_gadd (hA : HasA w0) (hi : ops[i]? = some o) (p q j k : Nat) {x y : Int × Int} (hx : Pv x) (hy : Pv y) (hop : o.op = .call { callee := .value (.func 11), args := #[.tmp p, .tmp q], argTypes := ts })
    (hj : waits md ops i j p = true) (hk : waits md ops i k q = true) (hFj : F j = RP x) (hFk : F k = RP y) (hFi : F i = RP (pAdd x y)) : StepOk Tryd.prog md ops Q F a0 w0 i := by
  refine step_call hi _ _ ts hop (by kernel_rfl) fun a w _ hw hF => ?_
  have ea := hF j p hj
  have eb := hF k q hk
  rw [hFj] at ea
  rw [hFk] at eb
  obtain ⟨a1, a1', c1, c1', g1, g1', e1, r1, r1'⟩ := ea
  obtain ⟨a2, a2', c2, c2', g2, g2', e2, r2, r2'⟩ := eb
  show Calls Tryd.prog 11 #[a.tmps.getD p undef, a.tmps.getD q undef] w _
  rw [e1, e2]
  refine (implAdd_any w g1 g1' a1 a1' c1 c1' (lx x) (ly x) r1 r1' (lx_byt x) (ly_byt x) g2 g2' a2 a2' c2 c2' (lx y) (ly y) r2 r2' (lx_byt y) (ly_byt y) dGo (hA.1.up hw) (hA.2.1.up hw) (hA.2.2.1.up hw) (hA.2.2.2.up hw)).mono ?_
  rintro r w' ⟨h, hn⟩
  rw [hFi]
  obtain ⟨v, e, hv⟩ := rp_of_new2 ((adX_eq _ _ _ _).trans (pa_of hx hy).1) ((adY_eq _ _ _ _).trans (pa_of hx hy).2) h
  exact ⟨v, e, hn, hv⟩
theorem step_gsadd (hi : ops[i]? = some o) (p q j k : Nat) {x y : Int × Int} (hx : Pv x) (hy : Pv y) (hop : o.op = .call { callee := .value (.func 9), args := #[.tmp p, .tmp q], argTypes := ts })
    (hj : waits md ops i j p = true) (hk : waits md ops i k q = true) (hFj : F j = RP x) (hFk : F k = RP y) (hFi : F i = RP (pAdd x y)) : StepOk Tryd.prog md ops Q F a0 w0 i := by
  refine step_call hi _ _ ts hop (by kernel_rfl) fun a w _ hw hF => ?_
  have ea := hF j p hj
  have eb := hF k q hk
  rw [hFj] at ea
  rw [hFk] at eb
  obtain ⟨a1, a1', c1, c1', g1, g1', e1, r1, r1'⟩ := ea
  obtain ⟨a2, a2', c2, c2', g2, g2', e2, r2, r2'⟩ := eb
  show Calls Tryd.prog 9 #[a.tmps.getD p undef, a.tmps.getD q undef] w _
  rw [e1, e2]
  refine (specPointAdd_any w g1 g1' g2 g2' a1 a1' a2 a2' c1 c1' c2 c2' (lx x) (ly x) (lx y) (ly y) r1 r1' r2 r2' (lx_byt x) (ly_byt x) (lx_byt y) (ly_byt y)).mono ?_
  rintro r w' ⟨h, hn⟩
  rw [hFi]
  obtain ⟨v, e, hv⟩ := rp_of_new (pa_of hx hy).1 (pa_of hx hy).2 h
  exact ⟨v, e, hn, hv⟩
theorem step_gneg (hA : HasA w0) (hi : ops[i]? = some o) (p j : Nat) {x : Int × Int} (hx : Pv x) (hop : o.op = .call { callee := .value (.func 30), args := #[.tmp p], argTypes := ts })
    (hj : waits md ops i j p = true) (hFj : F j = RP x) (hFi : F i = RP (pNeg x)) : StepOk Tryd.prog md ops Q F a0 w0 i := by
  refine step_call hi _ _ ts hop (by kernel_rfl) fun a w _ hw hF => ?_
  have ea := hF j p hj
  rw [hFj] at ea
  obtain ⟨a1, a1', c1, c1', g1, g1', e1, r1, r1'⟩ := ea
  show Calls Tryd.prog 30 #[a.tmps.getD p undef] w _
  rw [e1]
  refine (implNegate_any w g1 g1' a1 a1' c1 c1' (lx x) (ly x) r1 r1' (lx_byt x) (ly_byt x) dGo (hA.1.up hw) (hA.2.1.up hw)).mono ?_
  rintro r w' ⟨h, hn⟩
  rw [hFi]
  obtain ⟨v, e, hv⟩ := rp_of_new2 ((ngX_eq _ _).trans (ns_of hx).1) ((ngY_eq (ly_byt x) _).trans (ns_of hx).2) h
  exact ⟨v, e, hn, hv⟩
theorem step_gzero (hZ : RowN w0 0 0 [0, 1]) (hi : ops[i]? = some o) (hop : o.op = .call { callee := .value (.func 29), args := #[], argTypes := ts }) (hFi : F i = RP pZero) : StepOk Tryd.prog md ops Q F a0 w0 i := by
  refine step_call hi _ _ ts hop (by kernel_rfl) fun a w _ hw _ => ?_
  refine (implZero_any w (hZ.up hw)).mono ?_
  rintro r w' ⟨h, hn⟩
  rw [hFi]
  obtain ⟨v, e, hv⟩ := rp_of_new2 ze_of.1 ze_of.2 h
  exact ⟨v, e, hn, hv⟩
theorem step_gval (hA : HasA w0) (hi : ops[i]? = some o) (p j : Nat) {x : Int × Int} (hx : Pv x) (hop : o.op = .call { callee := .value (.func 27), args := #[.tmp p], argTypes := ts })
    (hj : waits md ops i j p = true) (hFj : F j = RP x) (hFi : F i = Fact.eq (.bool true)) : StepOk Tryd.prog md ops Q F a0 w0 i := by
  refine step_call hi _ _ ts hop (by kernel_rfl) fun a w _ hw hF => ?_
  have ea := hF j p hj
  rw [hFj] at ea
  obtain ⟨a1, a1', c1, c1', g1, g1', e1, r1, r1'⟩ := ea
  show Calls Tryd.prog 27 #[a.tmps.getD p undef] w _
  rw [e1]
  refine (implValid_any w g1 g1' a1 a1' c1 c1' (lx x) (ly x) r1 r1' (lx_byt x) (ly_byt x) dGo (hA.1.up hw) (hA.2.1.up hw)).mono ?_
  rintro r w' ⟨rfl, hn⟩
  rw [hFi]
  exact ⟨_, rfl, hn, by rw [rp_valid, lv_valid hx]; exact rfl⟩
theorem step_gsame (hi : ops[i]? = some o) (p q j k : Nat) {x : Int × Int} (hop : o.op = .call { callee := .value (.func 28), args := #[.tmp p, .tmp q], argTypes := ts })
    (hj : waits md ops i j p = true) (hk : waits md ops i k q = true) (hFj : F j = RP x) (hFk : F k = RP x) (hFi : F i = Fact.eq (.bool true)) : StepOk Tryd.prog md ops Q F a0 w0 i := by
  refine step_call hi _ _ ts hop (by kernel_rfl) fun a w _ hw hF => ?_
  have ea := hF j p hj
  have eb := hF k q hk
  rw [hFj] at ea
  rw [hFk] at eb
  obtain ⟨a1, a1', c1, c1', g1, g1', e1, r1, r1'⟩ := ea
  obtain ⟨a2, a2', c2, c2', g2, g2', e2, r2, r2'⟩ := eb
  show Calls Tryd.prog 28 #[a.tmps.getD p undef, a.tmps.getD q undef] w _
  rw [e1, e2]
  refine (lwSamePoint_same w g1 g2 g1' g2' a1 a2 a1' a2' c1 c2 c1' c2' (lx x) (ly x) r1 r1' r2 r2').mono ?_
  rintro r w' ⟨rfl, hn⟩
  rw [hFi]
  exact ⟨_, rfl, hn, rfl⟩
theorem step_glw (hi : ops[i]? = some o) (p j : Nat) {x : Int × Int} {g : Nat} {b : Option Addr} {c : Nat} {zs : List Int} (hr : Rd w0 g b .u8 zs) (hb : Byt zs) (hl : zs.length ≤ 4194304) (hx : lpP zs = (lx x, ly x)) (hop : o.op = .call { callee := .value (.func 25), args := #[.tmp p], argTypes := ts })
    (hj : waits md ops i j p = true) (hFj : F j = Fact.eq (.slice b zs.length c)) (hFi : F i = RP x) : StepOk Tryd.prog md ops Q F a0 w0 i := by
  refine step_call hi _ _ ts hop (by kernel_rfl) fun a w _ hw hF => ?_
  have ea := hF j p hj
  rw [hFj] at ea
  show Calls Tryd.prog 25 #[a.tmps.getD p undef] w _
  rw [show a.tmps.getD p undef = _ from ea]
  refine (lwPoint_any w g b c zs (hr.up hw) hb hl).mono ?_
  rintro r w' ⟨h, hn⟩
  rw [hFi]
  rw [hx] at h
  obtain ⟨v, e, hv⟩ := rp_of_new rfl rfl h
  exact ⟨v, e, hn, hv⟩
theorem step_gload (hi : ops[i]? = some o) (p : Nat) (hop : o.op = .load 26 (.tmp p)) (hp : apart ops p = true) (B : Nat) (h0 : a0.tmps.getD p undef = .pointer (some ⟨B, 0, none⟩)) {x : Int × Int} {a a' : Option Addr} {c c' g g' : Nat} (T : Two w0 B (.slice a (lx x).length c) (.slice a' (ly x).length c')) (r : Rd w0 g a .u8 (lx x)) (r' : Rd w0 g' a' .u8 (ly x)) (hF : F i = RP x) : StepOk Tryd.prog md ops Q F a0 w0 i := by
  obtain ⟨fs, hu⟩ := uP
  refine step_load hi _ _ hop _ 2 hu rfl iP fun A w hb hw _ => ?_
  refine ⟨B, 0, [.slice a (lx x).length c, .slice a' (ly x).length c'], (based_at hb p hp).trans h0, fun j v hv => ?_, rfl, by rw [hF]; exact ⟨a, a', c, c', g, g', rfl, r.up hw, r'.up hw⟩⟩
  have T' := T.up hw
  match j, hv with
  | 0, hv => cases hv; exact T'.c0
  | 1, hv => cases hv; exact T'.c1
end
end Go.Proofs.YtmanhandajhobaaDoor

/-
  A law's copy of a list, still its own to be appended to; a list of the input that is nil holds nothing.
-/
namespace Go.Proofs.YtmanhandajhobaaDoor
set_option maxRecDepth 100000
open Go.RowKit

set_option maxHeartbeats 400000 in
theorem lwCopyO_any (w : World) (g : Nat) (a : Option Addr) (cap : Nat) (xs : List Int) (hr : Rd w g a .u8 xs) (hc : a = none → cap = 0) (hn : xs.length ≤ 1048576) :
    Calls Tryd.prog 26 #[.slice a xs.length cap] w fun e w' => ∃ v, e = .returned v ∧ w'.ownsRow w.heap.size 5 1 v xs.length (xs.map (Value.int .u8)) ∧ Below w.heap.size w w' := by
  obtain ⟨i0, hi, hz0, hz1, hz2⟩ := info_parts Tryd.info5
  have hown : (w.alloc (.cells #[] 5)).ownsRow w.heap.size 5 1 (.slice (some ⟨w.heap.size, 0, none⟩) 0 0) 0 [] := World.ownsRow_lit w #[] 0 (Nat.le_refl _) (by unfold maxLen; omega) (by simp)
  have hal : Below w.heap.size w (w.alloc (.cells #[] 5)) := (Below.refl _ _).alloc (Nat.le_refl _) _
  cases a with
  | none =>
    obtain rfl : xs = [] := by
      by_cases h0 : 0 < xs.length
      · obtain ⟨off, h, _⟩ := hr h0
        simp at h
      · exact List.eq_nil_of_length_eq_zero (by omega)
    obtain rfl := hc rfl
    go_enter Tryd.func26, Tryd.ntmps26
    go_wp2_with (at_builtin; refine wpList_append_own_none rfl _ _ 22 rfl w.heap.size 5 i0 1 Tryd.underlying22 hi _ 0 [] rfl hown rfl ?_)
    go_ret
    exact ⟨_, rfl, hown, hal⟩
  | some ad =>
    have hcell : ∀ j u, (xs.map (Value.int .u8))[j]? = some u → (w.alloc (.cells #[] 5)).cell? (ad.add j) = some u := by
      intro j u hj
      have hjl : j < xs.length := by
        have := (List.getElem?_eq_some_iff.1 hj).1
        simpa using this
      obtain ⟨off, ha, hcc⟩ := (hr.up hal) (by omega)
      simp only [Option.some.injEq] at ha
      subst ha
      rw [Addr.add_mid, hcc j hjl]
      simpa [hjl] using hj
    have hone : ∀ u ∈ xs.map (Value.int .u8), u.oneCell' = true := by
      intro u hu
      obtain ⟨x, _, rfl⟩ := List.mem_map.1 hu
      rfl
    go_enter Tryd.func26, Tryd.ntmps26
    go_wp2_with (at_builtin; refine wpList_append_own _ rfl _ _ 22 rfl w.heap.size 5 i0 (.int .u8 0) 1 1 Tryd.underlying22 hi hz0 hz1 hz2 rfl (by decide) (.slice (some ⟨w.heap.size, 0, none⟩) 0 0) 0 [] rfl hown ad xs.length cap (xs.map (Value.int .u8)) rfl (by simp) hcell hone (by unfold maxLen; omega) (by omega) (by simp) ?_; intro v' w1 hown' hgrow _)
    simp only [Nat.zero_add, List.nil_append] at hown'
    have hB : Below w.heap.size w w1 := hal.grown hgrow (by simp) (by intro k hk; simp [Value.ownBlock] at hk; omega)
    clear hgrow hown
    go_wp2
    go_ret
    exact ⟨_, rfl, hown', hB⟩
theorem rd_of_row0 {w : World} {a : Option Addr} {len cap : Nat} {zs : List Int}
    (h : (a = none ∧ len = 0 ∧ cap = 0 ∧ zs = []) ∨ ∃ x, a = some x ∧ len ≤ cap ∧ cap ≤ maxLen ∧ zs.length = cap ∧ (∀ i, i < zs.length → w.cell? (x.add i) = some (.int .u8 (zs.getD i 0))) ∧ ∀ n ∈ zs, (Lit.int .u8 n).wf = true) :
    ∃ (g : Nat) (xs : List Int), xs.length = len ∧ Rd w g a .u8 xs ∧ Byt xs ∧ (a = none → cap = 0) := by
  obtain ⟨g, xs, hl, r, b⟩ := rd_of_row h
  refine ⟨g, xs, hl, r, b, fun e => ?_⟩
  rcases h with ⟨_, _, h, _⟩ | ⟨_, h, _⟩
  · exact h
  · rw [h] at e
    exact nomatch e
end Go.Proofs.YtmanhandajhobaaDoor

/-
  A row of bytes appended to an owned row of bytes, nil ones too, as one equation. No program in sight.
-/
namespace Go.Proofs.YtmanhandajhobaaDoor
set_option maxRecDepth 100000
open Go.RowKit

/-- A row of bytes that the walk owns. -/
def RowB (w : World) (base : Nat) (v : Value) (xs : List Int) : Prop := w.ownsRow base 5 1 v xs.length (xs.map (Value.int .u8))
theorem RowB.up {w w' : World} {base : Nat} {v : Value} {xs : List Int} (h : RowB w base v xs) (hb : Below w.heap.size w w') : RowB w' base v xs := by
  refine ⟨h.1, ?_⟩
  rcases h.2 with h' | ⟨g, cap, cur, rfl, hbg, hg, hnc, hcm, hcs, ht⟩
  · exact .inl h'
  · exact .inr ⟨g, cap, cur, rfl, hbg, by rw [hb.block g ((Array.getElem?_eq_some_iff.1 hg).1)]; exact hg, hnc, hcm, hcs, ht⟩
theorem RowB.only {w w' : World} {base q : Nat} {v : Value} {xs : List Int} (h : RowB w base v xs) (hb : Only q w w') (hq : q < base) : RowB w' base v xs := by
  refine ⟨h.1, ?_⟩
  rcases h.2 with h' | ⟨g, cap, cur, rfl, hbg, hg, hnc, hcm, hcs, ht⟩
  · exact .inl h'
  · exact .inr ⟨g, cap, cur, rfl, hbg, by rw [hb.block g (by omega)]; exact hg, hnc, hcm, hcs, ht⟩
theorem RowB.base {w : World} {base base' : Nat} {v : Value} {xs : List Int} (h : RowB w base v xs) (hb : base' ≤ base) : RowB w base' v xs := by
  refine ⟨h.1, ?_⟩
  rcases h.2 with h' | ⟨g, cap, cur, rfl, hbg, hg, hnc, hcm, hcs, ht⟩
  · exact .inl h'
  · exact .inr ⟨g, cap, cur, rfl, by omega, hg, hnc, hcm, hcs, ht⟩
theorem RowB.own {w : World} {base : Nat} {v : Value} {xs : List Int} (h : RowB w base v xs) :
    ∃ (a : Option Addr) (c g : Nat), v = .slice a xs.length c ∧ Own w g a .u8 xs ∧ (a = none → c = 0) ∧ xs.length ≤ c ∧ base ≤ g := Own.of_ownsRow h
/-- What an append leaves, with all that is asked of it. -/
theorem append_any {P : Program} (w : World) (ty : TypeId) (i : TypeInfo) (ht : P.underlying 22 = some (.slice 5)) (hi : P.info? 5 = some i) (hz : i.zero = some (.int .u8 0)) (hsize : i.size = 1) (hby : i.bytes = 1)
    (base B : Nat) (v : Value) (xs : List Int) (hown : RowB w base v xs) (g : Nat) (a : Option Addr) (c : Nat) (us : List Int) (hr : Rd w g a .u8 us) (hc : a = none → c = 0) (hl : xs.length + us.length ≤ 1099511627776) (hB : B ≤ base) (hbase : base ≤ w.heap.size) :
    ∃ v' w', (Builtin.append_ #[22, 22] ty #[v, .slice a us.length c]).run P w = .ok v' w' ∧ RowB w' base v' (xs ++ us) ∧ Below B w w' := by
  cases a with
  | none =>
    obtain rfl : us = [] := by
      by_cases h0 : 0 < us.length
      · obtain ⟨off, h, _⟩ := hr h0
        simp at h
      · exact List.eq_nil_of_length_eq_zero (by omega)
    obtain rfl := hc rfl
    exact ⟨v, w, run_append_owned_none (P := P) (w := w) base 22 ty 5 i 1 ht hi v _ _ hown, by rw [List.append_nil]; exact hown, Below.refl _ _⟩
  | some ad =>
    have hcell : ∀ j u, (us.map (Value.int .u8))[j]? = some u → w.cell? (ad.add j) = some u := by
      intro j u hj
      have hjl : j < us.length := by
        have := (List.getElem?_eq_some_iff.1 hj).1
        simpa using this
      obtain ⟨off, ha, hcc⟩ := hr (by omega)
      simp only [Option.some.injEq] at ha
      subst ha
      rw [Addr.add_mid, hcc j hjl]
      simpa [hjl] using hj
    have hone : ∀ u ∈ us.map (Value.int .u8), u.oneCell' = true := by
      intro u hu
      obtain ⟨x, _, rfl⟩ := List.mem_map.1 hu
      rfl
    obtain ⟨v', w', h1, h2, h3, _⟩ := run_append_own (P := P) w base 22 ty 5 i (.int .u8 0) 1 1 ht hi hz hsize hby rfl (by decide) v xs.length (xs.map (Value.int .u8)) hown ad us.length c (us.map (Value.int .u8)) (by simp) hcell hone (by unfold maxLen; omega) (by omega) hbase
    refine ⟨v', w', h1, ?_, (Below.refl B w).grown h3 (by omega) (fun k hk => by have := (World.ownsRow.lt hown k hk).1; omega)⟩
    show w'.ownsRow base 5 1 v' (xs ++ us).length ((xs ++ us).map (Value.int .u8))
    rw [List.length_append, List.map_append]
    exact h2
theorem RowB.lit0 (w : World) : RowB (w.alloc (.cells #[] 5)) w.heap.size (.slice (some ⟨w.heap.size, 0, none⟩) 0 0) [] :=
  World.ownsRow_lit w #[] 0 (Nat.le_refl _) (by unfold maxLen; omega) (by simp)
theorem RowB.lit1 (w : World) (x : Int) : RowB (w.alloc (.cells #[.int .u8 x] 5)) w.heap.size (.slice (some ⟨w.heap.size, 0, none⟩) 1 1) [x] :=
  World.ownsRow_lit w #[.int .u8 x] 1 (Nat.le_refl _) (by unfold maxLen; omega) (by simp)
theorem RowB.rd {w : World} {base : Nat} {v : Value} {xs : List Int} (h : RowB w base v xs) : ∃ (a : Option Addr) (c g : Nat), v = .slice a xs.length c ∧ Rd w g a .u8 xs ∧ (a = none → c = 0) ∧ xs.length ≤ c ∧ base ≤ g := by
  obtain ⟨a, c, g, h1, h2, h3⟩ := h.own
  exact ⟨a, c, g, h1, h2.rd, h3⟩
theorem newRow_e (w : World) (k : IntKind) : NewRow w.heap.size (w.alloc (.cells #[] 5)) (.returned (.slice (some ⟨w.heap.size, 0, none⟩) 0 0)) k [] :=
  ⟨_, 0, w.heap.size, rfl, Own.nil _ _ _ _, by simp, Nat.zero_le _, Nat.le_refl _⟩
theorem newRow_z (w : World) (k : IntKind) : NewRow w.heap.size w (.returned (.slice none 0 0)) k [] :=
  ⟨_, 0, w.heap.size, rfl, Own.nil _ _ _ _, by simp, Nat.zero_le _, Nat.le_refl _⟩
theorem blk_lit1 (w : World) (k : IntKind) (e : TypeId) (x : Int) : Blk (w.alloc (.cells #[.int k x] e)) w.heap.size k [x] := by
  refine ⟨e, ?_⟩
  show (w.heap.push _)[w.heap.size]? = _
  simp
end Go.Proofs.YtmanhandajhobaaDoor

/-
  The law FnPointGroup (written by gens/lgrp.py).
-/
namespace Go.Proofs.YtmanhandajhobaaDoor
set_option maxRecDepth 100000
open Go Go.RowKit

theorem byt_two {xs ys : List Int} (h : Byt xs) (k : Byt ys) : Byt (xs ++ ys) := by
  intro j
  rw [List.getD_eq_getElem?_getD]
  by_cases c : j < xs.length
  · rw [List.getElem?_append_left c, ← List.getD_eq_getElem?_getD]
    exact h j
  · rw [List.getElem?_append_right (by omega), ← List.getD_eq_getElem?_getD]
    exact k _

theorem step_pickT {ops : Array Oper} {Q : Exit → Act → World → Prop} {md : Region.Mode} {F : Nat → Fact} {a0 : Act} {w0 : World} {i : Nat} {o : Oper} {P : Program} (hi : ops[i]? = some o) (p q j k : Nat) {v : Value} {x : Value} (hop : o.op = .pick (.tmp p) (.tmp q) (.const x)) (hj : waits md ops i j p = true) (hk : waits md ops i k q = true) (hFj : F j = Fact.eq (.bool true)) (hFk : F k = Fact.eq v) (hFi : F i = Fact.eq v) : StepOk P md ops Q F a0 w0 i := by
  refine step_pure hi fun a w _ _ hf => ⟨v, ?_, by rw [hFi]; exact rfl⟩
  have h1 := hf j p hj
  have h2 := hf k q hk
  rw [hFj] at h1
  rw [hFk] at h2
  have g1 : a.eval (.tmp p) = .bool true := h1
  have g2 : a.eval (.tmp q) = v := h2
  have g3 : a.eval (.const x) = x := rfl
  simp only [execOp, hop, g1, g2, g3]
  rfl
theorem step_pickF {ops : Array Oper} {Q : Exit → Act → World → Prop} {md : Region.Mode} {F : Nat → Fact} {a0 : Act} {w0 : World} {i : Nat} {o : Oper} {P : Program} (hi : ops[i]? = some o) (p q j k : Nat) {v : Value} {x : Value} (hop : o.op = .pick (.tmp p) (.const x) (.tmp q)) (hj : waits md ops i j p = true) (hk : waits md ops i k q = true) (hFj : F j = Fact.eq (.bool false)) (hFk : F k = Fact.eq v) (hFi : F i = Fact.eq v) : StepOk P md ops Q F a0 w0 i := by
  refine step_pure hi fun a w _ _ hf => ⟨v, ?_, by rw [hFi]; exact rfl⟩
  have h1 := hf j p hj
  have h2 := hf k q hk
  rw [hFj] at h1
  rw [hFk] at h2
  have g1 : a.eval (.tmp p) = .bool false := h1
  have g2 : a.eval (.tmp q) = v := h2
  have g3 : a.eval (.const x) = x := rfl
  simp only [execOp, hop, g1, g2, g3]
  rfl
def HasG (w : World) : Prop := HasA w ∧ RowN w 0 0 [0, 1]
theorem HasG.up {w w' : World} (h : HasG w) (n : Below w.heap.size w w') : HasG w' := ⟨⟨h.1.1.up n, h.1.2.1.up n, h.1.2.2.1.up n, h.1.2.2.2.up n⟩, h.2.up n⟩
set_option maxHeartbeats 16000000 in
theorem pgroup_law (w : World) (g0 : Nat) (a0 : Option Addr) (c0 : Nat) (X0 : List Int) (hX0 : Rd w g0 a0 .u8 X0) (bX0 : Byt X0) (k0 : a0 = none → c0 = 0) (g1 : Nat) (a1 : Option Addr) (c1 : Nat) (X1 : List Int) (hX1 : Rd w g1 a1 .u8 X1) (bX1 : Byt X1) (k1 : a1 = none → c1 = 0) (hL : HasG w) :
    Calls Tryd.prog 6 #[.slice a0 X0.length c0, .slice a1 X1.length c1] w fun e w' => e = .returned (.bool true) ∧ Below w.heap.size w w' := by
  obtain ⟨i0, hi, hz0, hz1, hz2⟩ := info_parts Tryd.info5
  by_cases h0 : X0.length ≤ 1048576
  · have t0 : decide ((1048576 : Int) < (X0.length : Int)) = false := by simp; omega
    by_cases h1 : X1.length ≤ 1048576
    · have t1 : decide ((1048576 : Int) < (X1.length : Int)) = false := by simp; omega
      obtain ⟨p, hp, ep⟩ := lpP_is (xs := X0)
      obtain ⟨q, hq, eq⟩ := lpP_is (xs := X1)
      obtain ⟨s, hs, es⟩ := lpP_is (xs := X1 ++ X0)
      have LP0 := fun W (n : Below w.heap.size w W) => lwPoint_any W g0 a0 c0 X0 (hX0.up n) bX0 (by omega)
      have LP1 := fun W (n : Below w.heap.size w W) => lwPoint_any W g1 a1 c1 X1 (hX1.up n) bX1 (by omega)
      obtain ⟨zs, hzs⟩ : ∃ z, z = X1 ++ X0 := ⟨_, rfl⟩
      have zl : zs.length ≤ 4194304 := by rw [hzs, List.length_append]; omega
      have bz : Byt zs := by rw [hzs]; exact byt_two bX1 bX0
      rw [← hzs] at es
      have LPs := fun W g a c (h : Rd W g a .u8 zs) => lwPoint_any W g a c zs h bz zl
      rw [ep] at LP0
      rw [eq] at LP1
      rw [es] at LPs
      have HZ := hide hzs
      have E0 := hide ep
      have E1 := hide eq
      have LH0 := fun W n => hide (LP0 W n)
      have LH1 := fun W n => hide (LP1 W n)
      have LHs := fun W g a c h => hide (LPs W g a c h)
      clear LP0 LP1 LPs ep eq es hzs
      simp only [] at LH0 LH1 LHs
      go_enter Tryd.func6, Tryd.ntmps6
      go_wp2_with fail
      refine (LH0 w (Below.refl _ _)).out.mono ?_
      rintro r w1 ⟨⟨x1, y1, d1, e1, gx1, gy1, rfl, ox1, oy1, -, -⟩, n1⟩
      have T1 := Two.new w1 (.slice x1 (lx p).length d1) (.slice y1 (ly p).length e1) 26
      have m1 : Below w1.heap.size w1 (w1.alloc (.cells #[.slice x1 (lx p).length d1, .slice y1 (ly p).length e1] 26)) := (Below.refl _ _).alloc (Nat.le_refl _) _
      have N1 := nxt n1 m1
      have rx1 := ox1.rd.up m1
      have ry1 := oy1.rd.up m1
      go_wp2_with fail
      generalize w1.alloc (.cells #[.slice x1 (lx p).length d1, .slice y1 (ly p).length e1] 26) = W1 at *
      clear m1 ox1 oy1 n1
      refine (LH1 W1 N1).out.mono ?_
      rintro r w2 ⟨⟨x2, y2, d2, e2, gx2, gy2, rfl, ox2, oy2, -, -⟩, n2⟩
      have T2 := Two.new w2 (.slice x2 (lx q).length d2) (.slice y2 (ly q).length e2) 26
      have m2 : Below w2.heap.size w2 (w2.alloc (.cells #[.slice x2 (lx q).length d2, .slice y2 (ly q).length e2] 26)) := (Below.refl _ _).alloc (Nat.le_refl _) _
      have rx2 := ox2.rd.up m2
      have ry2 := oy2.rd.up m2
      have N2 := nxt (nxt N1 n2) m2
      replace T1 := T1.up n2
      replace rx1 := rx1.up n2
      replace ry1 := ry1.up n2
      replace T1 := T1.up m2
      replace rx1 := rx1.up m2
      replace ry1 := ry1.up m2
      clear n2 N1 ox2 oy2
      go_wp2_with fail
      generalize w2.alloc (.cells #[.slice x2 (lx q).length d2, .slice y2 (ly q).length e2] 26) = W2 at *
      clear m2
      refine (lwCopyO_any W2 g1 a1 c1 X1 (hX1.up N2) k1 h1).mono ?_
      rintro r w3 ⟨v3, rfl, o3, n3⟩
      obtain ⟨v4, w4, hap, o4, n4⟩ := append_any (P := Tryd.prog) w3 22 i0 Tryd.underlying22 hi hz0 hz1 hz2 W2.heap.size W2.heap.size _ _ o3 g0 a0 c0 X0 (hX0.up (nxt N2 n3)) k0 (by omega) (Nat.le_refl _) n3.size
      rw [← HZ.out] at o4
      obtain ⟨a4, c4, g4, rfl, r4, p4, q4, b4⟩ := o4.rd
      have n34 := n3.trans n4
      have N34 := nxt N2 n34
      replace T1 := T1.up n34
      replace rx1 := rx1.up n34
      replace ry1 := ry1.up n34
      replace T2 := T2.up n34
      replace rx2 := rx2.up n34
      replace ry2 := ry2.up n34
      clear n3 n4 n34 o3 N2 p4 q4 b4 o4
      go_wp2_with (at_builtin; refine Lib.wpList_append_run _ rfl _ _ 22 22 rfl _ _ rfl rfl _ _ hap ?_)
      clear hap
      go_wp2_with fail
      refine (LHs w4 g4 a4 c4 r4).out.mono ?_
      rintro r w5 ⟨⟨x3, y3, d3, e3, gx3, gy3, rfl, ox3, oy3, -, -⟩, n5⟩
      have T3 := Two.new w5 (.slice x3 (lx s).length d3) (.slice y3 (ly s).length e3) 26
      have m3 : Below w5.heap.size w5 (w5.alloc (.cells #[.slice x3 (lx s).length d3, .slice y3 (ly s).length e3] 26)) := (Below.refl _ _).alloc (Nat.le_refl _) _
      have rx3 := ox3.rd.up m3
      have ry3 := oy3.rd.up m3
      have N3 := nxt (nxt N34 n5) m3
      replace T1 := T1.up n5
      replace rx1 := rx1.up n5
      replace ry1 := ry1.up n5
      replace T2 := T2.up n5
      replace rx2 := rx2.up n5
      replace ry2 := ry2.up n5
      replace T1 := T1.up m3
      replace rx1 := rx1.up m3
      replace ry1 := ry1.up m3
      replace T2 := T2.up m3
      replace rx2 := rx2.up m3
      replace ry2 := ry2.up m3
      clear n5 N34 ox3 oy3 r4 LHs
      go_upto_region 6 with fail
      generalize w5.alloc (.cells #[.slice x3 (lx s).length d3, .slice y3 (ly s).length e3] 26) = W3 at *
      clear m3
      have q0 := T1.c0
      have q1 := T1.c1
      have q2 := T2.c0
      have q3 := T2.c1
      go_wp2_with fail
      clear q0 q1 q2 q3
      refine (implAdd_any W3 gx1 gy1 x1 y1 d1 e1 (lx p) (ly p) rx1 ry1 (lx_byt p) (ly_byt p) gx2 gy2 x2 y2 d2 e2 (lx q) (ly q) rx2 ry2 (lx_byt q) (ly_byt q) dGo (hL.1.1.up N3) (hL.1.2.1.up N3) (hL.1.2.2.1.up N3) (hL.1.2.2.2.up N3)).mono ?_
      rintro r w6 ⟨h6, n6⟩
      obtain ⟨v6, rfl, hv6⟩ := rp_of_new2 ((adX_eq _ _ _ _).trans (pa_of hp hq).1) ((adY_eq _ _ _ _).trans (pa_of hp hq).2) h6
      obtain ⟨x4, y4, d4, e4, gx4, gy4, rfl, rx4, ry4⟩ := hv6
      have T4 := Two.new w6 (.slice x4 (lx (pAdd p q)).length d4) (.slice y4 (ly (pAdd p q)).length e4) 26
      have m4 : Below w6.heap.size w6 (w6.alloc (.cells #[.slice x4 (lx (pAdd p q)).length d4, .slice y4 (ly (pAdd p q)).length e4] 26)) := (Below.refl _ _).alloc (Nat.le_refl _) _
      replace rx4 := rx4.up m4
      replace ry4 := ry4.up m4
      have N4 := nxt (nxt N3 n6) m4
      replace T1 := T1.up n6
      replace rx1 := rx1.up n6
      replace ry1 := ry1.up n6
      replace T2 := T2.up n6
      replace rx2 := rx2.up n6
      replace ry2 := ry2.up n6
      replace T3 := T3.up n6
      replace rx3 := rx3.up n6
      replace ry3 := ry3.up n6
      replace T1 := T1.up m4
      replace rx1 := rx1.up m4
      replace ry1 := ry1.up m4
      replace T2 := T2.up m4
      replace rx2 := rx2.up m4
      replace ry2 := ry2.up m4
      replace T3 := T3.up m4
      replace rx3 := rx3.up m4
      replace ry3 := ry3.up m4
      clear h6 n6 N3
      go_upto_region 7 with fail
      generalize w6.alloc (.cells #[.slice x4 (lx (pAdd p q)).length d4, .slice y4 (ly (pAdd p q)).length e4] 26) = W4 at *
      clear m4
      have pq := hp.add hq
      have LA := fun W (n : Below W4.heap.size W4 W) => (HasG.up hL (nxt N4 n))
      have HA := (hL.up N4).1
      refine region_guard (fun i => [RP (pAdd p q), Fact.eq (.bool true), Fact.eq (.bool (!true)), Fact.eq (.bool (!true)), RP (pAdd p q), RP q, RP p, RP (pAdd p q), Fact.eq (.bool true), Fact.eq (.bool (!true)), Fact.eq (.bool (!true))].getD i Fact.no) (by kernel_rfl) (by kernel_rfl) ?_ ?_ ?_
      · intro i hi
        have hiN : i < 11 := hi
        obtain rfl | rfl | rfl | rfl | rfl | rfl | rfl | rfl | rfl | rfl | rfl : i = 0 ∨ i = 1 ∨ i = 2 ∨ i = 3 ∨ i = 4 ∨ i = 5 ∨ i = 6 ∨ i = 7 ∨ i = 8 ∨ i = 9 ∨ i = 10 := by omega
        · exact step_gload rfl 8 rfl (by kernel_rfl) _ rfl T4 rx4 ry4 rfl
        · exact step_gval HA rfl 29 0 pq rfl (by kernel_rfl) rfl rfl
        · exact step_notb rfl 30 1 rfl (by kernel_rfl) rfl rfl
        · exact step_move rfl 31 2 (by exact Or.inl rfl) (by kernel_rfl) rfl
        · exact step_gload rfl 8 rfl (by kernel_rfl) _ rfl T4 rx4 ry4 rfl
        · exact step_gload rfl 6 rfl (by kernel_rfl) _ rfl T2 rx2 ry2 rfl
        · exact step_gload rfl 5 rfl (by kernel_rfl) _ rfl T1 rx1 ry1 rfl
        · exact step_gadd HA rfl 34 35 5 6 hq hp rfl (by kernel_rfl) (by kernel_rfl) rfl rfl (by show RP (pAdd p q) = _; rw [grp_comm hp hq])
        · exact step_gsame rfl 33 36 4 7 rfl (by kernel_rfl) (by kernel_rfl) rfl rfl rfl
        · exact step_notb rfl 37 8 rfl (by kernel_rfl) rfl rfl
        · exact step_pickF rfl 32 38 3 9 rfl (by kernel_rfl) (by kernel_rfl) rfl rfl rfl
      · intro i o ho A W hf
        have hiN : i < 11 := (Array.getElem?_eq_some_iff.1 ho).1
        obtain rfl | rfl | rfl | rfl | rfl | rfl | rfl | rfl | rfl | rfl | rfl : i = 0 ∨ i = 1 ∨ i = 2 ∨ i = 3 ∨ i = 4 ∨ i = 5 ∨ i = 6 ∨ i = 7 ∨ i = 8 ∨ i = 9 ∨ i = 10 := by omega
        · cases ho; exact wanted_none rfl
        · cases ho; exact wanted_none rfl
        · cases ho; exact wanted_none rfl
        · cases ho; exact wanted_none rfl
        · cases ho; exact wanted_some rfl (by kernel_rfl) (hf 3 32 (by kernel_rfl))
        · cases ho; exact wanted_some rfl (by kernel_rfl) (hf 3 32 (by kernel_rfl))
        · cases ho; exact wanted_some rfl (by kernel_rfl) (hf 3 32 (by kernel_rfl))
        · cases ho; exact wanted_some rfl (by kernel_rfl) (hf 3 32 (by kernel_rfl))
        · cases ho; exact wanted_some rfl (by kernel_rfl) (hf 3 32 (by kernel_rfl))
        · cases ho; exact wanted_some rfl (by kernel_rfl) (hf 3 32 (by kernel_rfl))
        · cases ho; exact wanted_none rfl
      intro A W5 hb' hw hF
      have e2 := hF 10 39 (by kernel_rfl)
      obtain ⟨vs, hvs⟩ : ∃ vs : Nat → Value, ∀ d, A.tmps.getD d undef = vs d := ⟨_, fun _ => rfl⟩
      rw [hvs] at e2
      rw [puts_guard (md := .any) (by kernel_rfl) rfl hb' vs hvs]
      clear hb' hF hvs
      have N5 := nxt N4 hw
      replace T1 := T1.up hw
      replace rx1 := rx1.up hw
      replace ry1 := ry1.up hw
      replace T2 := T2.up hw
      replace rx2 := rx2.up hw
      replace ry2 := ry2.up hw
      replace T3 := T3.up hw
      replace rx3 := rx3.up hw
      replace ry3 := ry3.up hw
      replace T4 := T4.up hw
      replace rx4 := rx4.up hw
      replace ry4 := ry4.up hw
      clear hw N4 HA
      have e3 : vs 39 = .bool false := e2
      clear e2
      simp only [puts, e3, Act.put, List.setIfInBounds_toArray, List.set_cons_succ, List.set_cons_zero]
      clear e3
      go_upto_region 9 with fail
      have HA := (hL.up N5).1
      refine region_end 10 (fun i => [RP (pAdd p q), RP s, RP (pAdd (pAdd p q) s), RP p, RP q, RP s, RP (pAdd q s), RP (pAdd (pAdd p q) s), Fact.eq (.bool true), Fact.eq (.bool (!true))].getD i Fact.no) (by kernel_rfl) (by kernel_rfl) rfl ?_ ?_
      · intro i hi
        have hiN : i < 10 := hi
        obtain rfl | rfl | rfl | rfl | rfl | rfl | rfl | rfl | rfl | rfl : i = 0 ∨ i = 1 ∨ i = 2 ∨ i = 3 ∨ i = 4 ∨ i = 5 ∨ i = 6 ∨ i = 7 ∨ i = 8 ∨ i = 9 := by omega
        · exact step_gload rfl 8 rfl (by kernel_rfl) _ rfl T4 rx4 ry4 rfl
        · exact step_gload rfl 7 rfl (by kernel_rfl) _ rfl T3 rx3 ry3 rfl
        · exact step_gadd HA rfl 40 41 0 1 pq hs rfl (by kernel_rfl) (by kernel_rfl) rfl rfl rfl
        · exact step_gload rfl 5 rfl (by kernel_rfl) _ rfl T1 rx1 ry1 rfl
        · exact step_gload rfl 6 rfl (by kernel_rfl) _ rfl T2 rx2 ry2 rfl
        · exact step_gload rfl 7 rfl (by kernel_rfl) _ rfl T3 rx3 ry3 rfl
        · exact step_gadd HA rfl 44 45 4 5 hq hs rfl (by kernel_rfl) (by kernel_rfl) rfl rfl rfl
        · exact step_gadd HA rfl 43 46 3 6 hp (hq.add hs) rfl (by kernel_rfl) (by kernel_rfl) rfl rfl (by show RP (pAdd (pAdd p q) s) = _; rw [grp_assoc hp hq hs])
        · exact step_gsame rfl 42 47 2 7 rfl (by kernel_rfl) (by kernel_rfl) rfl rfl rfl
        · exact step_notb rfl 48 8 rfl (by kernel_rfl) rfl rfl
      intro A W6 hb' hw hF
      have e2 := hF 9 49 (by kernel_rfl)
      obtain ⟨vs, hvs⟩ : ∃ vs : Nat → Value, ∀ d, A.tmps.getD d undef = vs d := ⟨_, fun _ => rfl⟩
      rw [hvs] at e2
      rw [puts_of (md := .any) (k := 10) (by kernel_rfl) rfl hb' vs hvs]
      clear hb' hF hvs
      have N6 := nxt N5 hw
      replace T1 := T1.up hw
      replace rx1 := rx1.up hw
      replace ry1 := ry1.up hw
      replace T2 := T2.up hw
      replace rx2 := rx2.up hw
      replace ry2 := ry2.up hw
      replace T3 := T3.up hw
      replace rx3 := rx3.up hw
      replace ry3 := ry3.up hw
      replace T4 := T4.up hw
      replace rx4 := rx4.up hw
      replace ry4 := ry4.up hw
      clear hw N5 HA
      have e3 : vs 49 = .bool false := e2
      clear e2
      simp only [puts, e3, Act.put, List.setIfInBounds_toArray, List.set_cons_succ, List.set_cons_zero]
      clear e3
      go_upto_region 11 with fail
      have HA := (hL.up N6).1
      have HZ0 := (hL.up N6).2
      refine region_guard (fun i => [RP p, RP pZero, RP p, RP p, Fact.eq (.bool true), Fact.eq (.bool true), RP p, RP p, RP (pNeg p), RP pZero, RP pZero, Fact.eq (.bool true), Fact.eq (.bool true), Fact.eq (.bool true), RP (pAdd p q), Fact.eq (.slice a0 X0.length c0), RP p, Fact.eq (.slice a1 X1.length c1), RP q, RP (pAdd p q), Fact.eq (.bool true), Fact.eq (.bool true), Fact.eq (.bool true)].getD i Fact.no) (by kernel_rfl) (by kernel_rfl) ?_ ?_ ?_
      · intro i hi
        have hiN : i < 23 := hi
        obtain rfl | rfl | rfl | rfl | rfl | rfl | rfl | rfl | rfl | rfl | rfl | rfl | rfl | rfl | rfl | rfl | rfl | rfl | rfl | rfl | rfl | rfl | rfl : i = 0 ∨ i = 1 ∨ i = 2 ∨ i = 3 ∨ i = 4 ∨ i = 5 ∨ i = 6 ∨ i = 7 ∨ i = 8 ∨ i = 9 ∨ i = 10 ∨ i = 11 ∨ i = 12 ∨ i = 13 ∨ i = 14 ∨ i = 15 ∨ i = 16 ∨ i = 17 ∨ i = 18 ∨ i = 19 ∨ i = 20 ∨ i = 21 ∨ i = 22 := by omega
        · exact step_gload rfl 5 rfl (by kernel_rfl) _ rfl T1 rx1 ry1 rfl
        · exact step_gzero HZ0 rfl rfl rfl
        · exact step_gadd HA rfl 50 51 0 1 hp pv_zero rfl (by kernel_rfl) (by kernel_rfl) rfl rfl (by show RP p = _; rw [grp_zero hp])
        · exact step_gload rfl 5 rfl (by kernel_rfl) _ rfl T1 rx1 ry1 rfl
        · exact step_gsame rfl 52 53 2 3 rfl (by kernel_rfl) (by kernel_rfl) rfl rfl rfl
        · exact step_move rfl 54 4 (by exact Or.inl rfl) (by kernel_rfl) rfl
        · exact step_gload rfl 5 rfl (by kernel_rfl) _ rfl T1 rx1 ry1 rfl
        · exact step_gload rfl 5 rfl (by kernel_rfl) _ rfl T1 rx1 ry1 rfl
        · exact step_gneg HA rfl 57 7 hp rfl (by kernel_rfl) rfl rfl
        · exact step_gadd HA rfl 56 58 6 8 hp hp.neg rfl (by kernel_rfl) (by kernel_rfl) rfl rfl (by show RP pZero = _; rw [grp_neg hp])
        · exact step_gzero HZ0 rfl rfl rfl
        · exact step_gsame rfl 59 60 9 10 rfl (by kernel_rfl) (by kernel_rfl) rfl rfl rfl
        · exact step_pickT rfl 55 61 5 11 rfl (by kernel_rfl) (by kernel_rfl) rfl rfl rfl
        · exact step_move rfl 62 12 (by exact Or.inl rfl) (by kernel_rfl) rfl
        · exact step_gload rfl 8 rfl (by kernel_rfl) _ rfl T4 rx4 ry4 rfl
        · exact step_mv rfl 0 rfl (by kernel_rfl) rfl rfl
        · exact step_glw rfl 65 15 (hX0.up N6) bX0 (by omega) E0.out rfl (by kernel_rfl) rfl rfl
        · exact step_mv rfl 1 rfl (by kernel_rfl) rfl rfl
        · exact step_glw rfl 67 17 (hX1.up N6) bX1 (by omega) E1.out rfl (by kernel_rfl) rfl rfl
        · exact step_gsadd rfl 66 68 16 18 hp hq rfl (by kernel_rfl) (by kernel_rfl) rfl rfl rfl
        · exact step_gsame rfl 64 69 14 19 rfl (by kernel_rfl) (by kernel_rfl) rfl rfl rfl
        · exact step_pickT rfl 63 70 13 20 rfl (by kernel_rfl) (by kernel_rfl) rfl rfl rfl
        · exact step_move rfl 71 21 (by exact Or.inr rfl) (by kernel_rfl) rfl
      · intro i o ho A W hf
        have hiN : i < 23 := (Array.getElem?_eq_some_iff.1 ho).1
        obtain rfl | rfl | rfl | rfl | rfl | rfl | rfl | rfl | rfl | rfl | rfl | rfl | rfl | rfl | rfl | rfl | rfl | rfl | rfl | rfl | rfl | rfl | rfl : i = 0 ∨ i = 1 ∨ i = 2 ∨ i = 3 ∨ i = 4 ∨ i = 5 ∨ i = 6 ∨ i = 7 ∨ i = 8 ∨ i = 9 ∨ i = 10 ∨ i = 11 ∨ i = 12 ∨ i = 13 ∨ i = 14 ∨ i = 15 ∨ i = 16 ∨ i = 17 ∨ i = 18 ∨ i = 19 ∨ i = 20 ∨ i = 21 ∨ i = 22 := by omega
        · cases ho; exact wanted_none rfl
        · cases ho; exact wanted_none rfl
        · cases ho; exact wanted_none rfl
        · cases ho; exact wanted_none rfl
        · cases ho; exact wanted_none rfl
        · cases ho; exact wanted_none rfl
        · cases ho; exact wanted_some rfl (by kernel_rfl) (hf 5 55 (by kernel_rfl))
        · cases ho; exact wanted_some rfl (by kernel_rfl) (hf 5 55 (by kernel_rfl))
        · cases ho; exact wanted_some rfl (by kernel_rfl) (hf 5 55 (by kernel_rfl))
        · cases ho; exact wanted_some rfl (by kernel_rfl) (hf 5 55 (by kernel_rfl))
        · cases ho; exact wanted_some rfl (by kernel_rfl) (hf 5 55 (by kernel_rfl))
        · cases ho; exact wanted_some rfl (by kernel_rfl) (hf 5 55 (by kernel_rfl))
        · cases ho; exact wanted_none rfl
        · cases ho; exact wanted_none rfl
        · cases ho; exact wanted_some rfl (by kernel_rfl) (hf 13 63 (by kernel_rfl))
        · cases ho; exact wanted_some rfl (by kernel_rfl) (hf 13 63 (by kernel_rfl))
        · cases ho; exact wanted_some rfl (by kernel_rfl) (hf 13 63 (by kernel_rfl))
        · cases ho; exact wanted_some rfl (by kernel_rfl) (hf 13 63 (by kernel_rfl))
        · cases ho; exact wanted_some rfl (by kernel_rfl) (hf 13 63 (by kernel_rfl))
        · cases ho; exact wanted_some rfl (by kernel_rfl) (hf 13 63 (by kernel_rfl))
        · cases ho; exact wanted_some rfl (by kernel_rfl) (hf 13 63 (by kernel_rfl))
        · cases ho; exact wanted_none rfl
        · cases ho; exact wanted_none rfl
      intro A W7 hb' hw hF
      have e2 := hF 22 4 (by kernel_rfl)
      obtain ⟨vs, hvs⟩ : ∃ vs : Nat → Value, ∀ d, A.tmps.getD d undef = vs d := ⟨_, fun _ => rfl⟩
      rw [hvs] at e2
      rw [puts_guard (md := .any) (by kernel_rfl) rfl hb' vs hvs]
      clear hb' hF hvs
      have N7 := nxt N6 hw
      have e3 : vs 4 = .bool true := e2
      clear e2 hw HA HZ0 N6
      simp only [puts, e3, Act.put, List.setIfInBounds_toArray, List.set_cons_succ, List.set_cons_zero]
      clear e3
      go_wp2
      go_ret
      exact ⟨rfl, N7⟩
    · have t1 : decide ((1048576 : Int) < (X1.length : Int)) = true := by simp; omega
      go_enter Tryd.func6, Tryd.ntmps6
      go_wp2
      go_ret
      exact ⟨rfl, Below.refl _ _⟩
  · have t0 : decide ((1048576 : Int) < (X0.length : Int)) = true := by simp; omega
    go_enter Tryd.func6, Tryd.ntmps6
    go_wp2
    go_ret
    exact ⟨rfl, Below.refl _ _⟩
theorem laid_pgroup {W : World} (h : laidMetH Tryd.prog Rows.fnPointGroupRow.laid W) : HasG W :=
  ⟨hasA_of h (by kernel_rfl) (.head _) (.tail _ (.head _)) (.tail _ (.tail _ (.head _))) (.tail _ (.tail _ (.tail _ (.head _)))), zp_of_reads (reads_of h (by kernel_rfl) (.tail _ (.tail _ (.tail _ (.tail _ (.head _))))))⟩
end Go.Proofs.YtmanhandajhobaaDoor
