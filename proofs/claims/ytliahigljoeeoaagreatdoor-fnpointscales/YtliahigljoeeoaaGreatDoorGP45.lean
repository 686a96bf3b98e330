import Derived.Test.YtliahigljoeeoaaGreatDoorGP44
import Derived.Test.YtliahigljoeeoaaGreatDoorGP43
import Derived.Deep.QuietTactic
import Derived.BigQuiet
import Derived.Test.YtliahigljoeeoaaGreatDoorRows
import Derived.Test.YtliahigljoeeoaaGreatDoorGP38
import Derived.Lib.LaidTab
import Derived.Lib.LaidU8
import Derived.LaidMore
import Derived.Test.YtliahigljoeeoaaGreatDoorGP42
import Derived.Test.YtliahigljoeeoaaGreatDoorGP40

/-
  The model's PointDecode.
-/
namespace Go.Proofs.YtliahigljoeeoaaGreatDoor
set_option maxRecDepth 100000
open Go Go.RowKit

def low7s (xs : List Int) : List Int := xs.set 31 (xs.getD 31 0 % 128)
def dcB (xs : List Int) : Bool := decide (xs.length = 32) && (canN (low7s xs) && liB (num (low7s xs)) (decide (128 ≤ xs.getD 31 0)))
def dcX (xs : List Int) : List Int := if dcB xs = true then liX (num (low7s xs)) (decide (128 ≤ xs.getD 31 0)) else []
def dcY (xs : List Int) : List Int := if dcB xs = true then liY (num (low7s xs)) (decide (128 ≤ xs.getD 31 0)) else []
def NewPR (B : Nat) (w' : World) (e : Ending) (b : Bool) (xs ys : List Int) : Prop :=
  ∃ (a a' : Option Addr) (c c' g g' : Nat), e = .returned (.agg #[.bool b, .slice a xs.length c, .slice a' ys.length c']) ∧ Own w' g a .u8 xs ∧ Own w' g' a' .u8 ys ∧ B ≤ g ∧ B ≤ g'
theorem newPR_nil {B : Nat} {w : World} : NewPR B w (.returned (.agg #[.bool false, .slice none 0 0, .slice none 0 0])) false [] [] := ⟨none, none, 0, 0, B, B, rfl, Own.nil _ _ _ _, Own.nil _ _ _ _, Nat.le_refl _, Nat.le_refl _⟩
/-- What was lifted, as it is answered. -/
def LiF (w0 : World) (A : Int) (odd : Bool) : Fact := ⟨fun v w => ∃ (a a' : Option Addr) (c c' g g' : Nat), v = .tuple #[.bool (liB A odd), .agg #[.slice a (liX A odd).length c, .slice a' (liY A odd).length c']] ∧ Own w g a .u8 (liX A odd) ∧ Own w g' a' .u8 (liY A odd) ∧ w0.heap.size ≤ g ∧ w0.heap.size ≤ g', fun n h => by
  obtain ⟨a, a', c, c', g, g', e, o, o', q⟩ := h
  exact ⟨a, a', c, c', g, g', e, o.up n, o'.up n, q⟩⟩
/-- A point's block made in the region, still empty. -/
def NBp (w0 : World) : Fact := ⟨fun v w => ∃ q, v = .pointer (some ⟨q, 0, none⟩) ∧ w.heap[q]? = some pObj ∧ w0.heap.size ≤ q, fun {v w w'} n h => by
  obtain ⟨q, e, h, l⟩ := h
  exact ⟨q, e, (n.block q (Array.getElem?_eq_some_iff.1 h).1).trans h, l⟩⟩
theorem pObj_there {W : World} {q : Nat} (h : W.heap[q]? = some pObj) : W.there q 0 2 := fun j hj => by
  constructor
  · unfold World.cell?
    simp only
    rw [h]
    obtain rfl | rfl : j = 0 ∨ j = 1 := by omega
    all_goals rfl
  · unfold World.frozen?
    simp only
    rw [h]
    simp
theorem own_ne {W : World} {q g : Nat} {a : Option Addr} {xs : List Int} (h : W.heap[q]? = some pObj) (o : Own W g a .u8 xs) (h0 : 0 < xs.length) : g ≠ q := fun e => by
  obtain ⟨off, _, hc⟩ := o h0
  have c := (hc 0 h0).1
  subst e
  unfold World.cell? at c
  simp only at c
  rw [h] at c
  rcases (show off = 0 ∨ off = 1 ∨ 2 ≤ off by omega) with r | r | r
  · subst r
    simp at c
  · subst r
    simp at c
  · have : ([Value.slice none 0 0, .slice none 0 0].toArray)[off + 0]? = none := by simp; omega
    simp only [this] at c
    simp at c
theorem en_lift : enters Tryz.prog 106 = true := by kernel_rfl
section
variable {ops : Array Oper} {Q : Exit → Act → World → Prop} {md : Region.Mode} {F : Nat → Fact} {a0 : Act} {w0 : World} {i : Nat} {o : Oper} {ts : Array TypeId}
theorem step_mvp {P : Program} (hi : ops[i]? = some o) (p : Nat) (hop : o.op = .move (.tmp p)) (hp : apart ops p = true) {v : Value} (h0 : a0.tmps.getD p undef = v) (hF : F i = Fact.eq v) : StepOk P md ops Q F a0 w0 i := by
  refine step_pure hi fun b w hb hw _ => ⟨v, ?_, by rw [hF]; exact rfl⟩
  have e := (based_at hb p hp).trans h0
  simp [execOp, hop, e]
theorem step_of32 (hi : ops[i]? = some o) (p j : Nat) {a : Option Addr} {c : Nat} {xs : List Int} (hop : o.op = .call { callee := .value (.func 72), args := #[.tmp p], argTypes := ts })
    (hj : waits md ops i j p = true) (hO : OfOk w0 a xs) (hFj : F j = Fact.eq (.slice a 32 c)) (hFi : F i = EL (num xs)) : StepOk Tryz.prog md ops Q F a0 w0 i := by
  have hl : xs.length = 32 := by obtain ⟨_, _, _, h⟩ := hO; exact h
  exact step_of hi p j hop hj hO (hFj.trans (by rw [hl])) hFi
theorem step_at31 (hi : ops[i]? = some o) (p j : Nat) {g off c : Nat} (hop : o.op = .indexAddr 22 (.tmp p) (.const (.int .i64 31))) (hj : waits md ops i j p = true) (hFj : F j = Fact.eq (.slice (some ⟨g, off, none⟩) 32 c)) (hF : F i = Fact.eq (.pointer (some ⟨g, off + 31, none⟩))) : StepOk Tryz.prog md ops Q F a0 w0 i := by
  refine step_pure hi fun a w hb hw hf => ⟨.pointer (some ⟨g, off + 31, none⟩), ?_, by rw [hF]; exact rfl⟩
  have e := hf j p hj
  rw [hFj] at e
  have e' : a.eval (.tmp p) = .slice (some ⟨g, off, none⟩) 32 c := e
  have e2 : a.eval (.const (.int .i64 31)) = .int .i64 31 := rfl
  simp only [execOp, hop, e', e2]
  go_simp
theorem step_ld8 (hi : ops[i]? = some o) (p j : Nat) {q off : Nat} {v : Value} (hop : o.op = .load 5 (.tmp p)) (hj : waits md ops i j p = true) (hFj : F j = Fact.eq (.pointer (some ⟨q, off, none⟩))) (hc : w0.cell? ⟨q, off, none⟩ = some v) (hF : F i = Fact.eq v) : StepOk Tryz.prog md ops Q F a0 w0 i := by
  refine step_pure hi fun a w _ hw hf => ⟨v, ?_, by rw [hF]; exact rfl⟩
  have e := hf j p hj
  rw [hFj] at e
  have e' : a.eval (.tmp p) = .pointer (some ⟨q, off, none⟩) := e
  have c' : w.cell? ⟨q, off, none⟩ = some v := (hw.cell (block_lt_of_cell hc)).trans hc
  simp only [execOp, hop, e']
  go_simp
theorem step_geq (hi : ops[i]? = some o) (p j : Nat) {v : Int} {b : Bool} (hop : o.op = .binOp .geq 5 (.tmp p) (.const (.int .u8 128)) 5) (hj : waits md ops i j p = true) (hFj : F j = Fact.eq (.int .u8 v)) (hb : b = decide (128 ≤ v)) (hF : F i = Fact.eq (.bool b)) : StepOk Tryz.prog md ops Q F a0 w0 i := by
  refine step_pure hi fun a w _ hw hf => ⟨.bool b, ?_, by rw [hF]; exact rfl⟩
  have e := hf j p hj
  rw [hFj] at e
  have e' : a.eval (.tmp p) = .int .u8 v := e
  have e2 : a.eval (.const (.int .u8 128)) = .int .u8 128 := rfl
  subst hb
  simp only [execOp, hop, e', e2]
  go_simp
theorem step_lift (hi : ops[i]? = some o) (p q j k : Nat) {A : Int} {odd : Bool} (hop : o.op = .call { callee := .value (.func 106), args := #[.tmp p, .tmp q], argTypes := ts })
    (hj : waits md ops i j p = true) (hk : waits md ops i k q = true) (hFj : F j = EL A) (hFk : F k = Fact.eq (.bool odd)) (hFi : F i = LiF w0 A odd) : StepOk Tryz.prog md ops Q F a0 w0 i := by
  refine step_call hi _ _ ts hop en_lift fun a w _ hw hF => ?_
  have ea := hF j p hj
  have eb := hF k q hk
  rw [hFj] at ea
  rw [hFk] at eb
  obtain ⟨t, e1, L1, V1⟩ := ea
  have e2 : a.tmps.getD q undef = .bool odd := eb
  show Calls Tryz.prog 106 #[a.tmps.getD p undef, a.tmps.getD q undef] w _
  rw [e1, e2]
  refine (l5Lift_any w t A ⟨L1, V1⟩ odd).mono ?_
  rintro r w' ⟨⟨b, b', c, c', g, g', rfl, o1, o2, l1, l2⟩, hn⟩
  rw [hFi]
  exact ⟨_, rfl, hn, b, b', c, c', g, g', rfl, o1, o2, Nat.le_trans hw.size l1, Nat.le_trans hw.size l2⟩
theorem step_exL0 {P : Program} (hi : ops[i]? = some o) (p j : Nat) {A : Int} {odd : Bool} (hop : o.op = .extract (.tmp p) 0) (hj : waits md ops i j p = true) (hFj : F j = LiF w0 A odd) (hFi : F i = Fact.eq (.bool (liB A odd))) : StepOk P md ops Q F a0 w0 i := by
  refine step_pure hi fun a w _ _ hf => ⟨.bool (liB A odd), ?_, by rw [hFi]; exact rfl⟩
  have e := hf j p hj
  rw [hFj] at e
  obtain ⟨b, b', c, c', g, g', e, _⟩ := e
  have e' : a.eval (.tmp p) = .tuple #[.bool (liB A odd), .agg #[.slice b (liX A odd).length c, .slice b' (liY A odd).length c']] := e
  simp only [execOp, hop, e']
  rfl
theorem step_exL1 {P : Program} (hi : ops[i]? = some o) (p j : Nat) {A : Int} {odd : Bool} (hop : o.op = .extract (.tmp p) 1) (hj : waits md ops i j p = true) (hFj : F j = LiF w0 A odd) (hFi : F i = PT w0 (fun xs zs => xs = liX A odd ∧ zs = liY A odd)) : StepOk P md ops Q F a0 w0 i := by
  refine step_pure hi fun a w _ _ hf => ?_
  have e := hf j p hj
  rw [hFj] at e
  obtain ⟨b, b', c, c', g, g', e, o1, o2, l1, l2⟩ := e
  have e' : a.eval (.tmp p) = .tuple #[.bool (liB A odd), .agg #[.slice b (liX A odd).length c, .slice b' (liY A odd).length c']] := e
  refine ⟨.agg #[.slice b (liX A odd).length c, .slice b' (liY A odd).length c'], ?_, by rw [hFi]; exact ⟨_, _, b, b', c, c', g, g', rfl, o1, o2, l1, l2, rfl, rfl⟩⟩
  simp only [execOp, hop, e']
  rfl
theorem step_newP (hi : ops[i]? = some o) (hop : o.op = .alloc 37) (hF : F i = NBp w0) : StepOk Tryz.prog md ops Q F a0 w0 i := by
  refine step_grow hi fun a w _ hw _ => ⟨.pointer (some ⟨w.heap.size, 0, none⟩), w.alloc pObj, ?_, (Below.refl _ _).alloc (Nat.le_refl _) _, ?_⟩
  · simp only [execOp, hop]
    kernel_rfl
  · rw [hF]
    exact ⟨_, rfl, heap_alloc_last _ _, hw.size⟩
end
section
variable {ops : Array Oper} {Q : Exit → Act → World → Prop} {a0 : Act} {w : World} {id : Nat} {draw : Bool}
/-- A region that makes a point's block and lays one there. -/
theorem region_newPF (k jA jV pA pV : Nat) (o : Oper) (F : Nat → Fact) (p : List Int → List Int → Prop) (hT : textOk .any ops a0.tmps.size k = true) (hk : ops[k]? = some o) (hd : o.dst = none) (hop : o.op = .store 37 (.tmp pA) (.tmp pV))
    (wA : writes ops jA pA = true) (wV : writes ops jV pV = true) (FA : F jA = NBp w) (FV : F jV = PT w p) (steps : ∀ i, i < k → StepOk Tryz.prog .any ops Q F a0 w i)
    (fin : ∀ (vs : Nat → Value) (q : Nat) (W : World) (xs ys : List Int) (a a' : Option Addr) (c c' g g' : Nat), vs pA = .pointer (some ⟨q, 0, none⟩) → w.heap.size ≤ q → Below w.heap.size w W → W.rangeAt q 0 [.slice a xs.length c, .slice a' ys.length c'] → W.there q 0 2 → Own W g a .u8 xs → Own W g' a' .u8 ys → w.heap.size ≤ g → w.heap.size ≤ g' → p xs ys → (∀ i d, writes ops i d = true → ∃ Wp, (F i).p (vs d) Wp) → Q .normal (puts vs a0 ops.toList) W) :
    (Code.region id ops draw).wp Tryz.prog Q a0 w := by
  refine region_store k o F (by kernel_rfl) hT hk hd steps fun a W hb hw hF => ?_
  have h1 := hF jA pA wA
  have h2 := hF jV pV wV
  rw [FA] at h1
  rw [FV] at h2
  obtain ⟨q, eq, hq, lq⟩ := h1
  obtain ⟨xs, ys, b, b', c, c', g, g', ev, o1, o2, l1, l2, hpp⟩ := h2
  have th := pObj_there hq
  refine wp_store_mid 37 (.tmp pA) (.tmp pV) hop q 0 #[.slice b xs.length c, .slice b' ys.length c'] eq ev th iP (by simp [Value.oneCell']) ?_
  obtain ⟨vs, hvs⟩ : ∃ vs : Nat → Value, ∀ d, a.tmps.getD d undef = vs d := ⟨_, fun _ => rfl⟩
  rw [hd]
  show Q .normal a _
  rw [puts_of hT rfl hb vs hvs]
  refine fin vs q _ xs ys b b' c c' g g' ((hvs pA).symm.trans eq) lq (below_setCells lq _ _ _ hw) (World.rangeAt_setCells_same W q 0 _ th) (World.there_setCells th _ _ _) ?_ ?_ l1 l2 hpp (fun i d h => ⟨W, by rw [← hvs]; exact hF i d h⟩)
  · exact fun h0 => o1.of_block (setCells_other (own_ne hq o1 h0) _ 0 W) h0
  · exact fun h0 => o2.of_block (setCells_other (own_ne hq o2 h0) _ 0 W) h0
end
/-- Three cells that may be written. -/
structure Tri (w : World) (p : Nat) (x y z : Value) : Prop where
  c0 : w.cell? ⟨p, 0, none⟩ = some x
  c1 : w.cell? ⟨p, 1, none⟩ = some y
  c2 : w.cell? ⟨p, 2, none⟩ = some z
  f0 : w.frozen? ⟨p, 0, none⟩ = false
  f1 : w.frozen? ⟨p, 1, none⟩ = false
  f2 : w.frozen? ⟨p, 2, none⟩ = false
theorem Tri.lt {w : World} {p : Nat} {x y z : Value} (h : Tri w p x y z) : p < w.heap.size := block_lt_of_cell h.c0
theorem Tri.up {w w' : World} {p : Nat} {x y z : Value} (h : Tri w p x y z) (n : Below w.heap.size w w') : Tri w' p x y z := by
  have hb := n.block p h.lt
  exact ⟨(World.cell?_of_block (a := ⟨p, 0, none⟩) hb).trans h.c0, (World.cell?_of_block (a := ⟨p, 1, none⟩) hb).trans h.c1, (World.cell?_of_block (a := ⟨p, 2, none⟩) hb).trans h.c2, (World.frozen?_of_block (a := ⟨p, 0, none⟩) hb).trans h.f0, (World.frozen?_of_block (a := ⟨p, 1, none⟩) hb).trans h.f1, (World.frozen?_of_block (a := ⟨p, 2, none⟩) hb).trans h.f2⟩
theorem Tri.new (w : World) (x y z : Value) (t : TypeId) : Tri (w.alloc (.cells #[x, y, z] t)) w.heap.size x y z := by
  have e : (w.alloc (.cells #[x, y, z] t)).heap[w.heap.size]? = some (.cells #[x, y, z] t) := heap_alloc_last _ _
  refine ⟨?_, ?_, ?_, ?_, ?_, ?_⟩
  all_goals first
    | (unfold World.cell?; simp only; rw [e]; rfl)
    | (unfold World.frozen?; simp only; rw [e]; simp)
theorem low7s_len (xs : List Int) : (low7s xs).length = xs.length := by unfold low7s; simp
theorem low7s_byt {xs : List Int} (h : Byt xs) : Byt (low7s xs) := by
  intro j
  unfold low7s
  by_cases e : 31 = j
  · subst e
    by_cases c : 31 < xs.length
    · rw [getD_set_self _ _ _ c]
      have := h 31
      show 0 ≤ xs.getD 31 0 % 128 ∧ xs.getD 31 0 % 128 < 256
      omega
    · rw [List.set_eq_of_length_le (by omega)]
      exact h 31
  · rw [getD_set_ne _ _ _ _ e]
    exact h j
abbrev prObj : Obj := .cells #[.bool false, .slice none 0 0, .slice none 0 0] 79

set_option maxHeartbeats 2000000 in
theorem specDecode_any (w : World) (g : Nat) (a : Option Addr) (c : Nat) (xs : List Int) (hr : Rd w g a .u8 xs) (hb : Byt xs) (hc : a = none → c = 0) :
    Calls Tryz.prog 63 #[.slice a xs.length c] w fun r w' => NewPR w.heap.size w' r (dcB xs) (dcX xs) (dcY xs) ∧ Below w.heap.size w w' := by
  have TZ := Tri.new w (.bool false) (.slice none 0 0) (.slice none 0 0) 79
  have N : Below w.heap.size w (w.alloc prObj) := (Below.refl _ _).alloc (Nat.le_refl _) _
  by_cases hl : xs.length = 32
  · have CP := hide (fun W n => l1Copy_any W g a c xs (hr.up n) hc (by omega))
    have LH := hide hl
    have b31' := hb 31
    have DB : Hid (dcB xs = (canN (low7s xs) && liB (num (low7s xs)) (decide (128 ≤ xs.getD 31 0)))) := by show _ = _; unfold dcB; rw [decide_eq_true hl]; rfl
    have DX : Hid (dcX xs = if dcB xs = true then liX (num (low7s xs)) (decide (128 ≤ xs.getD 31 0)) else []) := by show _ = _; rfl
    have DY : Hid (dcY xs = if dcB xs = true then liY (num (low7s xs)) (decide (128 ≤ xs.getD 31 0)) else []) := by show _ = _; rfl
    obtain ⟨o0, rfl, rc⟩ := id hr (by omega)
    have CB0 := hide (rc 31 (by omega))
    have hg := hr.lt (by omega)
    rw [hl] at CP ⊢
    clear hl rc
    go_enter Tryz.func63, Tryz.ntmps63
    go_upto_region 3 with fail
    change Code.wp _ _ _ _ (w.alloc prObj)
    generalize w.alloc prObj = wr at *
    go_wp2_with fail
    refine (CP.out wr N).mono ?_
    rintro r w1 ⟨⟨a1, c1, g1, rfl, o1, p1, q1, r1⟩, n1⟩
    have z1 := TZ.lt
    replace TZ := TZ.up n1
    replace N := nxt N n1
    clear CP n1 p1
    rw [LH.out] at q1 ⊢
    obtain ⟨off, rfl, oc⟩ := id o1 (by rw [LH.out]; decide)
    have x31 := (oc 31 (by rw [LH.out]; decide)).1
    have f31 := (oc 31 (by rw [LH.out]; decide)).2
    have S1 := o1.store 31 (by rw [LH.out]; decide) (xs.getD 31 0 % 128)
    have N2 : Below w.heap.size w (w1.setCell ⟨g1, off + 31, none⟩ (.int .u8 (xs.getD 31 0 % 128))) := N.setCell (by show w.heap.size ≤ g1; omega) _
    have TZ2 : Tri (w1.setCell ⟨g1, off + 31, none⟩ (.int .u8 (xs.getD 31 0 % 128))) w.heap.size (.bool false) (.slice none 0 0) (.slice none 0 0) := by
      have hbk := heap_setCell_other w1 ⟨g1, off + 31, none⟩ w.heap.size (.int .u8 (xs.getD 31 0 % 128)) (by show w.heap.size ≠ g1; omega)
      exact ⟨(World.cell?_of_block (a := ⟨w.heap.size, 0, none⟩) hbk).trans TZ.c0, (World.cell?_of_block (a := ⟨w.heap.size, 1, none⟩) hbk).trans TZ.c1, (World.cell?_of_block (a := ⟨w.heap.size, 2, none⟩) hbk).trans TZ.c2, (World.frozen?_of_block (a := ⟨w.heap.size, 0, none⟩) hbk).trans TZ.f0, (World.frozen?_of_block (a := ⟨w.heap.size, 1, none⟩) hbk).trans TZ.f1, (World.frozen?_of_block (a := ⟨w.heap.size, 2, none⟩) hbk).trans TZ.f2⟩
    have YB := hide (low7s_byt hb)
    have YL := hide ((low7s_len xs).trans LH.out)
    have SO : Hid (Own (w1.setCell ⟨g1, off + 31, none⟩ (.int .u8 (xs.getD 31 0 % 128))) g1 (some ⟨g1, off, none⟩) .u8 (low7s xs)) := S1
    have CB : Hid ((w1.setCell ⟨g1, off + 31, none⟩ (.int .u8 (xs.getD 31 0 % 128))).cell? ⟨g, o0 + 31, none⟩ = some (.int .u8 (xs.getD 31 0))) := (N2.cell hg).trans CB0.out
    clear S1 o1 oc TZ N CB0 LH hb hr
    obtain ⟨ys, hys⟩ : ∃ ys, ys = low7s xs := ⟨_, rfl⟩
    rw [← hys] at YB YL SO DB DX DY
    clear hys
    obtain ⟨b31, h31⟩ : ∃ b, b = xs.getD 31 0 := ⟨_, rfl⟩
    rw [← h31] at x31 N2 TZ2 SO CB DB DX DY b31'
    clear h31
    obtain ⟨odd, hodd⟩ : ∃ o, o = decide (128 ≤ b31) := ⟨_, rfl⟩
    rw [← hodd] at DB DX DY
    have HO := hide hodd
    clear hodd
    have FC := hide (fun W (h : Rd W g1 (some ⟨g1, off, none⟩) .u8 ys) => specFieldCanonical_any W g1 (some ⟨g1, off, none⟩) c1 ys h YB.out)
    rw [YL.out] at FC
    cases hcn : canN ys with
    | false =>
      have KB : Hid (dcB xs = false) := by show _ = _; rw [DB.out, hcn]; rfl
      have KX : Hid (dcX xs = []) := by show _ = _; rw [DX.out, if_neg (by rw [KB.out]; simp)]
      have KY : Hid (dcY xs = []) := by show _ = _; rw [DY.out, if_neg (by rw [KB.out]; simp)]
      rw [hcn] at FC
      clear hcn DB DX DY CB
      go_wp2_with fail
      generalize w1.setCell ⟨g1, off + 31, none⟩ (.int .u8 (b31 % 128)) = w3 at *
      refine (FC.out w3 SO.out.rd).mono ?_
      rintro r w4 ⟨rfl, n⟩
      obtain ⟨y0, y1, y2, u0, u1, u2⟩ := TZ2.up n
      have N4 := nxt N2 n
      clear FC SO n TZ2 N2 x31 f31
      go_wp2
      refine bodyPost_ret (v := .agg #[.bool false, .slice none 0 0, .slice none 0 0]) (by simp [results, Tryz.results63, go_sem, y0, y1, y2]) rfl ⟨by rw [KB.out, KX.out, KY.out]; exact newPR_nil, ?_⟩
      exact ((N4.setCell (Nat.le_refl _) _).setCell (Nat.le_refl _) _).setCell (Nat.le_refl _) _
    | true =>
      rw [hcn] at DB FC
      clear hcn
      go_wp2_with fail
      generalize w1.setCell ⟨g1, off + 31, none⟩ (.int .u8 (b31 % 128)) = w3 at *
      refine (FC.out w3 SO.out.rd).mono ?_
      rintro r w4 ⟨rfl, n⟩
      have OY := hide (of_ok (SO.out.rd.up n) YB.out YL.out)
      replace CB := hide ((n.cell (block_lt_of_cell CB.out)).trans CB.out)
      replace TZ2 := TZ2.up n
      have N4 := nxt N2 n
      clear FC SO n N2 x31 f31
      go_upto_region 7 with fail
      refine region_newPF 12 10 9 5 31 _ (fun i => [Fact.eq (.slice (some ⟨g1, off, none⟩) 32 c1), EL (num ys), Fact.eq (.slice (some ⟨g, o0, none⟩) 32 c), Fact.eq (.pointer (some ⟨g, o0 + 31, none⟩)), Fact.eq (.int .u8 b31), Fact.eq (.bool odd), LiF w4 (num ys) odd, LiF w4 (num ys) odd, Fact.eq (.bool (liB (num ys) odd)), PT w4 (fun xs zs => xs = liX (num ys) odd ∧ zs = liY (num ys) odd), NBp w4, Fact.eq (.bool (liB (num ys) odd))].getD i Fact.no) (fun xs zs => xs = liX (num ys) odd ∧ zs = liY (num ys) odd) (by kernel_rfl) rfl rfl rfl (by kernel_rfl) (by kernel_rfl) rfl rfl ?_ ?_
      · intro i hi
        obtain rfl | rfl | rfl | rfl | rfl | rfl | rfl | rfl | rfl | rfl | rfl | rfl : i = 0 ∨ i = 1 ∨ i = 2 ∨ i = 3 ∨ i = 4 ∨ i = 5 ∨ i = 6 ∨ i = 7 ∨ i = 8 ∨ i = 9 ∨ i = 10 ∨ i = 11 := by omega
        · exact step_mvp rfl 3 rfl (by kernel_rfl) rfl rfl
        · exact step_of32 rfl 23 0 rfl (by kernel_rfl) OY.out rfl rfl
        · exact step_mvp rfl 0 rfl (by kernel_rfl) rfl rfl
        · exact step_at31 rfl 25 2 rfl (by kernel_rfl) rfl rfl
        · exact step_ld8 rfl 26 3 rfl (by kernel_rfl) rfl CB.out rfl
        · exact step_geq rfl 27 4 rfl (by kernel_rfl) rfl HO.out rfl
        · exact step_lift rfl 24 28 1 5 rfl (by kernel_rfl) (by kernel_rfl) rfl rfl rfl
        · exact step_move rfl 29 6 (by exact Or.inl rfl) (by kernel_rfl) rfl
        · exact step_exL0 rfl 22 7 rfl (by kernel_rfl) rfl rfl
        · exact step_exL1 rfl 22 7 rfl (by kernel_rfl) rfl rfl
        · exact step_newP rfl rfl rfl
        · exact step_move rfl 30 8 (by exact Or.inr rfl) (by kernel_rfl) rfl
      rintro vt q5 W7 ps qs b1 b2 d1 d2 h1 h2 v5 l5 n rg th o1 o2 l1 l2 ⟨rfl, rfl⟩ hF
      obtain ⟨_, v4⟩ := hF 11 4 (by kernel_rfl)
      clear hF
      change vt 4 = .bool (liB (num ys) odd) at v4
      have z4 := TZ2.lt
      replace TZ2 := TZ2.up n
      have z0 := N4.size
      replace N4 := nxt N4 n
      clear n OY CB th
      simp only [puts, v5, v4, Act.put, List.setIfInBounds_toArray, List.set_cons_succ, List.set_cons_zero]
      clear v4 v5
      have k0 := rg 0 _ rfl
      have k1 := rg 1 _ rfl
      simp only [Nat.zero_add] at k0 k1
      clear rg
      obtain ⟨y0, y1, y2, u0, u1, u2⟩ := TZ2
      cases hli : liB (num ys) odd with
      | false =>
        have KB : Hid (dcB xs = false) := by show _ = _; rw [DB.out, hli]; rfl
        have KX : Hid (dcX xs = []) := by show _ = _; rw [DX.out, if_neg (by rw [KB.out]; simp)]
        have KY : Hid (dcY xs = []) := by show _ = _; rw [DY.out, if_neg (by rw [KB.out]; simp)]
        clear DB DX DY o1 o2 hli
        go_wp2
        refine bodyPost_ret (v := .agg #[.bool false, .slice none 0 0, .slice none 0 0]) (by simp [results, Tryz.results63, go_sem, y0, y1, y2]) rfl ⟨by rw [KB.out, KX.out, KY.out]; exact newPR_nil, ?_⟩
        exact ((N4.setCell (Nat.le_refl _) _).setCell (Nat.le_refl _) _).setCell (Nat.le_refl _) _
      | true =>
        have KB : Hid (dcB xs = true) := by show _ = _; rw [DB.out, hli]; rfl
        have KX : Hid (dcX xs = liX (num ys) odd) := by show _ = _; rw [DX.out, if_pos KB.out]
        have KY : Hid (dcY xs = liY (num ys) odd) := by show _ = _; rw [DY.out, if_pos KB.out]
        clear DB DX DY hli
        generalize liX (num ys) odd = X at *
        generalize liY (num ys) odd = Y at *
        have O := ((Only.setCell W7 w.heap.size 0 (.bool true)).trans (Only.setCell _ w.heap.size 1 (.slice b1 X.length d1))).trans (Only.setCell _ w.heap.size 2 (.slice b2 Y.length d2))
        have o1' := o1.only O (fun _ => by omega)
        have o2' := o2.only O (fun _ => by omega)
        have N' := N4.trans (O.below (Nat.le_refl _))
        clear o1 o2 O N4
        go_wp2
        refine bodyPost_ret (v := .agg #[.bool true, .slice b1 X.length d1, .slice b2 Y.length d2]) (by simp [results, Tryz.results63, go_sem, y0, y1, y2]) rfl ⟨?_, N'⟩
        rw [KB.out, KX.out, KY.out]
        exact ⟨b1, b2, d1, d2, h1, h2, rfl, o1', o2', by omega, by omega⟩
  · have t : ((xs.length : Int) != 32) = true := by simp; omega
    have KB : Hid (dcB xs = false) := by show _ = _; unfold dcB; rw [decide_eq_false hl]; rfl
    have KX : Hid (dcX xs = []) := by show _ = _; unfold dcX; rw [if_neg (by rw [KB.out]; simp)]
    have KY : Hid (dcY xs = []) := by show _ = _; unfold dcY; rw [if_neg (by rw [KB.out]; simp)]
    obtain ⟨y0, y1, y2, u0, u1, u2⟩ := TZ
    clear hl
    go_enter Tryz.func63, Tryz.ntmps63
    go_upto_region 1 with fail
    change Code.wp _ _ _ _ (w.alloc prObj)
    generalize w.alloc prObj = wr at *
    go_wp2
    refine bodyPost_ret (v := .agg #[.bool false, .slice none 0 0, .slice none 0 0]) (by simp [results, Tryz.results63, go_sem, y0, y1, y2]) rfl ⟨by rw [KB.out, KX.out, KY.out]; exact newPR_nil, ?_⟩
    exact ((N.setCell (Nat.le_refl _) _).setCell (Nat.le_refl _) _).setCell (Nat.le_refl _) _
end Go.Proofs.YtliahigljoeeoaaGreatDoor

/-
  The model's l5Find.
-/
namespace Go.Proofs.YtliahigljoeeoaaGreatDoor
set_option maxRecDepth 100000
open Go Go.RowKit

def inc0 (ys : List Int) : List Int := ys.set 0 ((ys.getD 0 0 + 1) % 256)
/-- The first point at or behind these bytes. -/
def fdP : Nat → List Int → List Int × List Int
  | 0, _ => (liX (4 * iv 5) false, liY (4 * iv 5) false)
  | n + 1, ys => if dcB ys = true then (dcX ys, dcY ys) else fdP n (inc0 ys)
theorem inc0_byt {ys : List Int} (h : Byt ys) : Byt (inc0 ys) := by
  intro i
  unfold inc0
  have := h i
  by_cases e : i = 0
  · subst e
    by_cases l : 0 < ys.length
    · simp [List.getD_eq_getElem?_getD, l]
      omega
    · simp [List.getD_eq_getElem?_getD, l]
  · rw [List.getD_eq_getElem?_getD, List.getElem?_set_ne (by omega), ← List.getD_eq_getElem?_getD]
    exact this
theorem inc0_len (ys : List Int) : (inc0 ys).length = ys.length := by unfold inc0; simp
theorem Two.of_block' {w w' : World} {p : Nat} {x y : Value} (h : Two w p x y) (hb : w'.heap[p]? = w.heap[p]?) : Two w' p x y :=
  ⟨(World.cell?_of_block (a := ⟨p, 0, none⟩) hb).trans h.c0, (World.cell?_of_block (a := ⟨p, 1, none⟩) hb).trans h.c1, (World.frozen?_of_block (a := ⟨p, 0, none⟩) hb).trans h.f0, (World.frozen?_of_block (a := ⟨p, 1, none⟩) hb).trans h.f1⟩
set_option maxHeartbeats 4000000 in
theorem l5Find_any (w : World) (g off c : Nat) (bs : List Int) (ho : Own w g (some ⟨g, off, none⟩) .u8 bs) (hb : Byt bs) (hl : bs.length = 32) :
    Calls Tryz.prog 157 #[.slice (some ⟨g, off, none⟩) 32 c] w fun r w' => NewPt w.heap.size w' r (fdP 40 bs).1 (fdP 40 bs).2 ∧ But g w w' := by
  have TZ : Two (w.alloc pObj) w.heap.size (.slice none 0 0) (.slice none 0 0) := Two.new w (.slice none 0 0) (.slice none 0 0) 37
  have N : But g w (w.alloc pObj) := But.ofBelow ((Below.refl _ _).alloc (Nat.le_refl _) _)
  have hg := ho.rd.lt (by omega)
  have ho := ho.up ((Below.refl _ _).alloc (Nat.le_refl _) pObj)
  obtain ⟨R, hR⟩ : ∃ R, R = fdP 40 bs := ⟨_, rfl⟩
  rw [← hR]
  go_enter Tryz.func157, Tryz.ntmps157
  go_upto_region 1 with fail
  change Code.wp _ _ _ _ (w.alloc pObj)
  generalize w.alloc pObj = wz at *
  go_wp2
  go_loopw [3] (fun i wr => ∃ (k : Nat) (ys : List Int), k ≤ 40 ∧ i = .int .i64 k ∧ Hid (R = fdP (40 - k) ys) ∧ Hid (ys.length = 32) ∧ Byt ys ∧ Own wr g (some ⟨g, off, none⟩) .u8 ys ∧ Two wr w.heap.size (.slice none 0 0) (.slice none 0 0) ∧ But g w wr) (fun i _ => 40 - (intOf i).toNat)
  case atStart => exact ⟨0, bs, by omega, rfl, hR, hl, hb, ho, TZ, N⟩
  case round =>
    obtain ⟨k, ys, hk, rfl, HR, HL, yb, yo, T2, NB⟩ := hrel
    by_cases hlt : k < 40
    · have DC := hide (specDecode_any wr g (some ⟨g, off, none⟩) c ys yo.rd yb (fun h => nomatch h))
      have zb := NB.size
      have zt := T2.lt
      rw [HL.out] at DC
      have HS : Hid (R = if dcB ys = true then (dcX ys, dcY ys) else fdP (40 - (k + 1)) (inc0 ys)) := by
        show _ = _
        rw [HR.out, show 40 - k = (40 - (k + 1)) + 1 by omega]
        rfl
      clear HR
      go_wp2_with fail
      refine DC.out.mono ?_
      rintro r w1 ⟨⟨a1, a1', c1, c1', g1, g1', rfl, o1, o1', l1, l1'⟩, n1⟩
      have z1 := n1.size
      replace yo := yo.up n1
      replace T2 := T2.up n1
      have TT := Tri.new w1 (.bool (dcB ys)) (.slice a1 (dcX ys).length c1) (.slice a1' (dcY ys).length c1') 79
      have n2 : Below w1.heap.size w1 (w1.alloc (.cells #[.bool (dcB ys), .slice a1 (dcX ys).length c1, .slice a1' (dcY ys).length c1'] 79)) := (Below.refl _ _).alloc (Nat.le_refl _) _
      replace yo := yo.up n2
      replace T2 := T2.up n2
      replace o1 := o1.up n2
      replace o1' := o1'.up n2
      replace NB := (NB.trans (But.ofBelow n1)).trans (But.ofBelow n2)
      have z2 := n2.size
      clear n1 n2 DC
      cases hd : dcB ys with
      | true =>
        have HR : Hid (R = (dcX ys, dcY ys)) := by show _ = _; rw [HS.out, if_pos hd]
        rw [hd] at TT z2 yo T2 o1 o1' NB
        clear HS hd
        obtain ⟨t0, t1, t2, u0, u1, u2⟩ := TT
        obtain ⟨y0, y1, v0, v1⟩ := T2
        generalize dcX ys = X at *
        generalize dcY ys = Y at *
        have O := fun W => (Only.setCell W w.heap.size 0 (.slice a1 X.length c1)).trans (Only.setCell _ w.heap.size 1 (.slice a1' Y.length c1'))
        go_wp2
        generalize w1.alloc (.cells #[.bool true, .slice a1 X.length c1, .slice a1' Y.length c1'] 79) = W at *
        refine bodyPost_ret (v := .agg #[.slice a1 X.length c1, .slice a1' Y.length c1']) (by simp [results, Tryz.results157, go_sem, y0, y1]) rfl ⟨?_, (NB.setCell (Nat.le_refl _)).setCell (Nat.le_refl _)⟩
        rw [HR.out]
        exact ⟨a1, a1', c1, c1', g1, g1', rfl, o1.only (O W) (fun _ => by omega), o1'.only (O W) (fun _ => by omega), by omega, by omega⟩
      | false =>
        have HR : Hid (R = fdP (40 - (k + 1)) (inc0 ys)) := by show _ = _; rw [HS.out, if_neg (by rw [hd]; simp)]
        rw [hd] at TT z2 yo T2 o1 o1' NB
        clear HS hd
        obtain ⟨t0, t1, t2, u0, u1, u2⟩ := TT
        obtain ⟨off', he, hc⟩ := id yo (by rw [HL.out]; decide)
        obtain rfl : off = off' := by simpa using he
        have x0 := (hc 0 (by rw [HL.out]; decide)).1
        have f0 := (hc 0 (by rw [HL.out]; decide)).2
        rw [Nat.add_zero] at x0 f0
        have b0 := yb 0
        have S1 := yo.store 0 (by rw [HL.out]; decide) ((ys.getD 0 0 + 1) % 256)
        rw [Nat.add_zero] at S1
        have IB := inc0_byt yb
        have IL := hide ((inc0_len ys).trans HL.out)
        have SO : Hid (Own ((w1.alloc (.cells #[.bool false, .slice a1 (dcX ys).length c1, .slice a1' (dcY ys).length c1'] 79)).setCell ⟨g, off, none⟩ (.int .u8 ((ys.getD 0 0 + 1) % 256))) g (some ⟨g, off, none⟩) .u8 (inc0 ys)) := S1
        clear S1 hc he yo o1 o1'
        generalize inc0 ys = zs at *
        generalize ys.getD 0 0 = y at *
        go_wp2
        go_roundw
        case rel => exact ⟨k + 1, zs, by omega, by go_num, HR, IL, IB, SO.out, T2.of_block' (heap_setCell_other _ ⟨g, off, none⟩ w.heap.size _ (by show w.heap.size ≠ g; omega)), NB.only (Only.setCell _ g off _)⟩
        case measure => simp [intOf]; omega
    · obtain rfl : k = 40 := by omega
      have HB : Hid (R = (liX (4 * iv 5) false, liY (4 * iv 5) false)) := HR.out
      have zt := T2.lt
      clear HR
      have SB := hide (specBase_any wr)
      generalize liX (4 * iv 5) false = X at *
      generalize liY (4 * iv 5) false = Y at *
      go_wp2_with fail
      refine SB.out.mono ?_
      rintro r w1 ⟨⟨a1, a1', c1, c1', g1, g1', rfl, o1, o1', l1, l1'⟩, n1⟩
      have T3 := T2.up n1
      have N3 := NB.trans (But.ofBelow n1)
      obtain ⟨y0, y1, v0, v1⟩ := T3
      have O := (Only.setCell w1 w.heap.size 0 (.slice a1 X.length c1)).trans (Only.setCell _ w.heap.size 1 (.slice a1' Y.length c1'))
      go_wp2
      refine bodyPost_ret (v := .agg #[.slice a1 X.length c1, .slice a1' Y.length c1']) (by simp [results, Tryz.results157, go_sem, y0, y1]) rfl ⟨?_, (N3.setCell (Nat.le_refl _)).setCell (Nat.le_refl _)⟩
      rw [HB.out]
      exact ⟨a1, a1', c1, c1', g1, g1', rfl, o1.only O (fun _ => by omega), o1'.only O (fun _ => by omega), by omega, by omega⟩
end Go.Proofs.YtliahigljoeeoaaGreatDoor

/-
  The model's l5Draw, told as a value.
-/
namespace Go.Proofs.YtliahigljoeeoaaGreatDoor
set_option maxRecDepth 100000
open Go Go.RowKit

theorem li_byt (A : Int) (odd : Bool) : Byt (liX A odd) ∧ Byt (liY A odd) := by
  unfold liX liY
  split
  · exact ⟨bytes_5 _ _, bytes_5 _ _⟩
  · exact ⟨byt_nil, byt_nil⟩
theorem Two.put0 {w : World} {p : Nat} {x y : Value} (h : Two w p x y) (u : Value) : Two (w.setCell ⟨p, 0, none⟩ u) p u y :=
  ⟨World.cell?_setCell_same _ _ _ h.c0, by rw [World.cell?_setCell_other (h := by simp)]; exact h.c1, by rw [World.frozen?_setCell]; exact h.f0, by rw [World.frozen?_setCell]; exact h.f1⟩
theorem Two.put1 {w : World} {p : Nat} {x y : Value} (h : Two w p x y) (u : Value) : Two (w.setCell ⟨p, 1, none⟩ u) p x u :=
  ⟨by rw [World.cell?_setCell_other (h := by simp)]; exact h.c0, World.cell?_setCell_same _ _ _ h.c1, by rw [World.frozen?_setCell]; exact h.f0, by rw [World.frozen?_setCell]; exact h.f1⟩
theorem Two.put {w : World} {p : Nat} {x y : Value} (h : Two w p x y) (u v : Value) : Two ((w.setCell ⟨p, 0, none⟩ u).setCell ⟨p, 1, none⟩ v) p u v := (h.put0 u).put1 v
def bsX : List Int := liX (4 * iv 5) false
def bsY : List Int := liY (4 * iv 5) false
theorem bs_byt : Byt bsX ∧ Byt bsY := li_byt _ _
theorem bs_ok : PtOk bsX bsY := by
  have h : liB (4 * iv 5) false = true := by
    unfold liB
    rw [base_lift.1]
    simp
  unfold bsX bsY liX liY
  rw [if_pos h, if_pos h]
  exact ⟨⟨bytes_5 _ _, fill_len _ _⟩, bytes_5 _ _, fill_len _ _⟩
/-- The point that is drawn. -/
def drP (xs : List Int) (t : Int) : List Int × List Int :=
  if nxF xs t 8 = 0 then smP (nxF xs (t + 1) 8)
  else if nxF xs t 8 = 1 then (paX (smP (nxF xs (t + 1) 8)).1 (smP (nxF xs (t + 1) 8)).2 bsX bsY, paY (smP (nxF xs (t + 1) 8)).1 (smP (nxF xs (t + 1) 8)).2 bsX bsY)
  else if nxF xs t 8 < 4 then (plX (tmP (fill (dig (inF (nxF xs (t + 1) 1000))) 32) bsX bsY), plY (tmP (fill (dig (inF (nxF xs (t + 1) 1000))) 32) bsX bsY))
  else if nxF xs t 8 = 4 then
    (if nxF xs (t + 1) 2 = 0 then
      (if nxF xs (t + 1 + 1) 4 = 0 then (dbF xs (t + 1 + 1 + 1) 32, bsY)
       else if nxF xs (t + 1 + 1) 4 = 1 then (bsX, dbF xs (t + 1 + 1 + 1) 31)
       else if nxF xs (t + 1 + 1) 4 = 2 then (fill (dig pbytes) 32, fill (byt (1 % PP)) 32)
       else ([], []))
     else fdP 40 (dbF xs (t + 1 + 1) 32))
  else fdP 40 (dbF xs (t + 1) 32)
set_option maxHeartbeats 4000000 in
theorem l5DrawV_any (w : World) (s g : Nat) (a : Option Addr) (c : Nat) (xs : List Int) (t : Int) (hs : Src w s a xs.length c t) (hr : Rd w g a .u8 xs) (hne : 0 < xs.length → g ≠ s) (hb : Byt xs) (hl : xs.length ≤ 4194304) (t0 : 0 ≤ t) (t1 : t ≤ 10000) :
    Calls Tryz.prog 100 #[.pointer (some ⟨s, 0, none⟩)] w fun r w' => NewPt w.heap.size w' r (drP xs t).1 (drP xs t).2 ∧ But s w w' := by
  have TZ : Two (w.alloc pObj) w.heap.size (.slice none 0 0) (.slice none 0 0) := Two.new w (.slice none 0 0) (.slice none 0 0) 37
  have nz : Below w.heap.size w (w.alloc pObj) := (Below.refl _ _).alloc (Nat.le_refl _) _
  have zs := hs.lt
  have NX := hide (fun W (S : Src W s a xs.length c t) (R : Rd W g a .u8 xs) => l1NextV_any W s g a c xs t 8 S R hne hb hl (by omega) (by omega) (by decide) (by decide))
  have NY := hide (fun W n (S : Src W s a xs.length c (t + 1)) (R : Rd W g a .u8 xs) (h1 : 1 ≤ n) (h2 : n ≤ 1048576) => l1NextV_any W s g a c xs (t + 1) n S R hne hb hl (by omega) (by omega) h1 h2)
  have CH := hide (fun W (S : Src W s a xs.length c (t + 1)) (R : Rd W g a .u8 xs) => l1ChanceV_any W s g a c xs (t + 1) 2 S R hne hb hl (by omega) (by omega) (by decide) (by decide))
  have NW := hide (fun W (S : Src W s a xs.length c (t + 1 + 1)) (R : Rd W g a .u8 xs) => l1NextV_any W s g a c xs (t + 1 + 1) 4 S R hne hb hl (by omega) (by omega) (by decide) (by decide))
  have DB := hide (fun W u (n : Nat) (S : Src W s a xs.length c u) (R : Rd W g a .u8 xs) (h1 : 0 ≤ u) (h2 : u + (n : Int) ≤ 1048576) => l1DrawBytesV_any W s g a c xs u n S R hne hb hl h1 h2)
  obtain ⟨R, hR⟩ : ∃ R, R = drP xs t := ⟨_, rfl⟩
  rw [← hR]
  have k0 := nx_in xs t (show (0 : Int) < 8 by decide)
  unfold drP at hR
  have HR := hide hR
  clear hR
  have S0 := hs.up nz
  have hr0 := hr.up nz
  have N : But s w (w.alloc pObj) := But.ofBelow nz
  clear nz
  go_enter Tryz.func100, Tryz.ntmps100
  go_upto_region 1 with fail
  change Code.wp _ _ _ _ (w.alloc pObj)
  generalize w.alloc pObj = wz at *
  go_wp2_with fail
  refine (NX.out wz S0 hr0).mono ?_
  rintro e w1 ⟨rfl, _, S1, O1⟩
  have zz := TZ.lt
  have z1 := O1.size
  replace TZ := TZ.of_block' (O1.block w.heap.size (by omega))
  replace N := N.only O1
  have hr1 := hr.but N hne
  clear O1 NX S0 hr0 hs
  generalize nxF xs t 8 = k at *
  rcases (show k = 0 ∨ k = 1 ∨ k = 2 ∨ k = 3 ∨ k = 4 ∨ k = 5 ∨ k = 6 ∨ k = 7 by omega) with rfl | rfl | rfl | rfl | rfl | rfl | rfl | rfl
  · have HD : Hid (R = smP (nxF xs (t + 1) 8)) := by show _ = _; rw [HR.out, if_pos rfl]
    clear HR
    go_wp2_with fail
    refine (NY.out w1 8 S1 hr1 (by decide) (by decide)).mono ?_
    rintro e w2 ⟨rfl, ⟨r0, r1⟩, S2, O2⟩
    have z2 := O2.size
    replace TZ := TZ.of_block' (O2.block w.heap.size (by omega))
    replace N := N.only O2
    clear O2 S2 S1 NY CH NW DB
    obtain ⟨j, hj⟩ : ∃ j, j = nxF xs (t + 1) 8 := ⟨_, rfl⟩
    rw [← hj] at r0 r1 HD ⊢
    clear hj
    have SM := hide (l5SmallV_any w2 j r0 (by omega))
    generalize smP j = X at *
    go_wp2_with fail
    refine SM.out.mono ?_
    rintro r w3 ⟨⟨a1, a1', c1, c1', g1, g1', rfl, o1, o1', l1, l1'⟩, n3⟩
    have z3 := n3.size
    replace TZ := TZ.up n3
    replace N := N.trans (But.ofBelow n3)
    clear n3 SM
    obtain ⟨y0, y1, v0, v1⟩ := TZ
    have O := (Only.setCell w3 w.heap.size 0 (.slice a1 X.1.length c1)).trans (Only.setCell _ w.heap.size 1 (.slice a1' X.2.length c1'))
    go_wp2
    refine bodyPost_ret (v := .agg #[.slice a1 X.1.length c1, .slice a1' X.2.length c1']) (by simp [results, Tryz.results100, go_sem, y0, y1]) rfl ⟨?_, (N.setCell (Nat.le_refl _)).setCell (Nat.le_refl _)⟩
    rw [HD.out]
    exact ⟨a1, a1', c1, c1', g1, g1', rfl, o1.only O (fun _ => by omega), o1'.only O (fun _ => by omega), by omega, by omega⟩
  · have HD : Hid (R = (paX (smP (nxF xs (t + 1) 8)).1 (smP (nxF xs (t + 1) 8)).2 bsX bsY, paY (smP (nxF xs (t + 1) 8)).1 (smP (nxF xs (t + 1) 8)).2 bsX bsY)) := by show _ = _; rw [HR.out, if_neg (by decide), if_pos rfl]
    clear HR
    go_wp2_with fail
    refine (NY.out w1 8 S1 hr1 (by decide) (by decide)).mono ?_
    rintro e w2 ⟨rfl, ⟨r0, r1⟩, S2, O2⟩
    have z2 := O2.size
    replace TZ := TZ.of_block' (O2.block w.heap.size (by omega))
    replace N := N.only O2
    clear O2 S2 S1 NY CH NW DB
    obtain ⟨j, hj⟩ : ∃ j, j = nxF xs (t + 1) 8 := ⟨_, rfl⟩
    rw [← hj] at r0 r1 HD ⊢
    clear hj
    have SM := hide (l5SmallV_any w2 j r0 (by omega))
    have SK := hide (smP_ok j)
    generalize smP j = X at *
    go_wp2_with fail
    refine SM.out.mono ?_
    rintro r w3 ⟨⟨a3, a3', c3, c3', g3, g3', rfl, o3, o3', l3, l3'⟩, n3⟩
    have z3 := n3.size
    replace TZ := TZ.up n3
    replace N := N.trans (But.ofBelow n3)
    clear n3 SM
    have SB : Hid (Calls Tryz.prog 54 #[] w3 fun r w' => NewPt w3.heap.size w' r bsX bsY ∧ Below w3.heap.size w3 w') := specBase_any w3
    have BB := hide bs_byt
    generalize bsX = bx at *
    generalize bsY = by' at *
    go_wp2_with fail
    refine SB.out.mono ?_
    rintro r w4 ⟨⟨a4, a4', c4, c4', g4, g4', rfl, o4, o4', l4, l4'⟩, n4⟩
    have z4 := n4.size
    replace TZ := TZ.up n4
    replace N := N.trans (But.ofBelow n4)
    replace o3 := o3.up n4
    replace o3' := o3'.up n4
    clear n4 SB
    have AD := hide (specPointAdd_any w4 g3 g3' g4 g4' a3 a3' a4 a4' c3 c3' c4 c4' X.1 X.2 bx by' o3.rd o3'.rd o4.rd o4'.rd SK.out.1.1 SK.out.2.1 BB.out.1 BB.out.2)
    generalize paX X.1 X.2 bx by' = PX at *
    generalize paY X.1 X.2 bx by' = PY at *
    go_wp2_with fail
    refine AD.out.mono ?_
    rintro r w5 ⟨⟨a1, a1', c1, c1', g1, g1', rfl, o1, o1', l1, l1'⟩, n3⟩
    have z5 := n3.size
    replace TZ := TZ.up n3
    replace N := N.trans (But.ofBelow n3)
    clear n3 AD
    obtain ⟨y0, y1, v0, v1⟩ := TZ
    have O := (Only.setCell w5 w.heap.size 0 (.slice a1 PX.length c1)).trans (Only.setCell _ w.heap.size 1 (.slice a1' PY.length c1'))
    go_wp2
    refine bodyPost_ret (v := .agg #[.slice a1 PX.length c1, .slice a1' PY.length c1']) (by simp [results, Tryz.results100, go_sem, y0, y1]) rfl ⟨?_, (N.setCell (Nat.le_refl _)).setCell (Nat.le_refl _)⟩
    rw [HD.out]
    exact ⟨a1, a1', c1, c1', g1, g1', rfl, o1.only O (fun _ => by omega), o1'.only O (fun _ => by omega), by omega, by omega⟩
  · have HD : Hid (R = (plX (tmP (fill (dig (inF (nxF xs (t + 1) 1000))) 32) bsX bsY), plY (tmP (fill (dig (inF (nxF xs (t + 1) 1000))) 32) bsX bsY))) := by show _ = _; rw [HR.out, if_neg (by decide), if_neg (by decide), if_pos (by decide)]
    clear HR
    go_wp2_with fail
    refine (NY.out w1 1000 S1 hr1 (by decide) (by decide)).mono ?_
    rintro e w2 ⟨rfl, ⟨r0, r1⟩, S2, O2⟩
    have z2 := O2.size
    replace TZ := TZ.of_block' (O2.block w.heap.size (by omega))
    replace N := N.only O2
    clear O2 S2 S1 NY CH NW DB
    obtain ⟨j, hj⟩ : ∃ j, j = nxF xs (t + 1) 1000 := ⟨_, rfl⟩
    rw [← hj] at r0 r1 HD ⊢
    clear hj
    have SI := hide (l1IntV_any w2 j r0 (by omega))
    have IB := hide (inF_byt r0 (by omega))
    clear r0 r1
    generalize inF j = I at *
    go_wp2_with fail
    refine SI.out.mono ?_
    rintro r w3 ⟨⟨a3, c3, g3, rfl, o3, _, _, l3⟩, n3⟩
    have z3 := n3.size
    replace TZ := TZ.up n3
    replace N := N.trans (But.ofBelow n3)
    clear n3 SI
    have SL := hide (l1Little_any w3 g3 a3 c3 I 32 o3.rd IB.out.1 (by have := IB.out.2; omega) (by omega))
    have KB := hide (dig_bytes_5 IB.out.1 32)
    have KL := hide (fill_len (dig I) 32)
    generalize fill (dig I) 32 = K at *
    go_wp2_with fail
    refine SL.out.mono ?_
    rintro r w4 ⟨rfl, B4, n4⟩
    have z4 := n4.size
    replace TZ := TZ.up n4
    replace N := N.trans (But.ofBelow n4)
    clear n4 SL o3
    have SB : Hid (Calls Tryz.prog 54 #[] w4 fun r w' => NewPt w4.heap.size w' r bsX bsY ∧ Below w4.heap.size w4 w') := specBase_any w4
    have BB := hide bs_ok
    generalize bsX = bx at *
    generalize bsY = by' at *
    go_wp2_with fail
    refine SB.out.mono ?_
    rintro r w5 ⟨⟨a5, a5', c5, c5', g5, g5', rfl, o5, o5', l5, l5'⟩, n5⟩
    have z5 := n5.size
    replace TZ := TZ.up n5
    replace N := N.trans (But.ofBelow n5)
    have o4 := B4.own0.up n5
    clear n5 SB B4
    have ST := hide (l5Times_any w5 w3.heap.size g5 g5' (some ⟨w3.heap.size, 0, none⟩) a5 a5' 32 c5 c5' K bx by' o4.rd KB.out (by rw [KL.out]; omega) o5.rd o5'.rd BB.out.1.1 BB.out.2.1 BB.out.1.2 BB.out.2.2)
    rw [KL.out] at ST
    go_wp2_with fail
    refine ST.out.mono ?_
    rintro r w6 ⟨top, p, x, y, z, hc, hP, rfl, hx, hy, hz, n6⟩
    have z6 := n6.size
    replace TZ := TZ.up n6
    replace N := N.trans (But.ofBelow n6)
    have eP : Hid (tmP K bx by' = p) := by show _ = _; unfold tmP; rw [topF_eq (by rw [KL.out]; exact hc), hP]
    clear n6 ST hc hP o4 o5 o5'
    have SP : Hid (Calls Tryz.prog 66 #[ag48 x y z] w6 fun r w' => NewPt w6.heap.size w' r (plX p) (plY p) ∧ Below w6.heap.size w6 w') := l5Plain_any w6 x y z p.1 p.2.1 p.2.2 hx hy hz
    rw [eP.out] at HD
    clear eP hx hy hz
    generalize plX p = PX at *
    generalize plY p = PY at *
    generalize ag48 x y z = V at *
    go_wp2_with fail
    refine SP.out.mono ?_
    rintro r w7 ⟨⟨a1, a1', c1, c1', g1, g1', rfl, o1, o1', l1, l1'⟩, n3⟩
    have z7 := n3.size
    replace TZ := TZ.up n3
    replace N := N.trans (But.ofBelow n3)
    clear n3 SP
    obtain ⟨y0, y1, v0, v1⟩ := TZ
    have O := (Only.setCell w7 w.heap.size 0 (.slice a1 PX.length c1)).trans (Only.setCell _ w.heap.size 1 (.slice a1' PY.length c1'))
    go_wp2
    refine bodyPost_ret (v := .agg #[.slice a1 PX.length c1, .slice a1' PY.length c1']) (by simp [results, Tryz.results100, go_sem, y0, y1]) rfl ⟨?_, (N.setCell (Nat.le_refl _)).setCell (Nat.le_refl _)⟩
    rw [HD.out]
    exact ⟨a1, a1', c1, c1', g1, g1', rfl, o1.only O (fun _ => by omega), o1'.only O (fun _ => by omega), by omega, by omega⟩
  · have HD : Hid (R = (plX (tmP (fill (dig (inF (nxF xs (t + 1) 1000))) 32) bsX bsY), plY (tmP (fill (dig (inF (nxF xs (t + 1) 1000))) 32) bsX bsY))) := by show _ = _; rw [HR.out, if_neg (by decide), if_neg (by decide), if_pos (by decide)]
    clear HR
    go_wp2_with fail
    refine (NY.out w1 1000 S1 hr1 (by decide) (by decide)).mono ?_
    rintro e w2 ⟨rfl, ⟨r0, r1⟩, S2, O2⟩
    have z2 := O2.size
    replace TZ := TZ.of_block' (O2.block w.heap.size (by omega))
    replace N := N.only O2
    clear O2 S2 S1 NY CH NW DB
    obtain ⟨j, hj⟩ : ∃ j, j = nxF xs (t + 1) 1000 := ⟨_, rfl⟩
    rw [← hj] at r0 r1 HD ⊢
    clear hj
    have SI := hide (l1IntV_any w2 j r0 (by omega))
    have IB := hide (inF_byt r0 (by omega))
    clear r0 r1
    generalize inF j = I at *
    go_wp2_with fail
    refine SI.out.mono ?_
    rintro r w3 ⟨⟨a3, c3, g3, rfl, o3, _, _, l3⟩, n3⟩
    have z3 := n3.size
    replace TZ := TZ.up n3
    replace N := N.trans (But.ofBelow n3)
    clear n3 SI
    have SL := hide (l1Little_any w3 g3 a3 c3 I 32 o3.rd IB.out.1 (by have := IB.out.2; omega) (by omega))
    have KB := hide (dig_bytes_5 IB.out.1 32)
    have KL := hide (fill_len (dig I) 32)
    generalize fill (dig I) 32 = K at *
    go_wp2_with fail
    refine SL.out.mono ?_
    rintro r w4 ⟨rfl, B4, n4⟩
    have z4 := n4.size
    replace TZ := TZ.up n4
    replace N := N.trans (But.ofBelow n4)
    clear n4 SL o3
    have SB : Hid (Calls Tryz.prog 54 #[] w4 fun r w' => NewPt w4.heap.size w' r bsX bsY ∧ Below w4.heap.size w4 w') := specBase_any w4
    have BB := hide bs_ok
    generalize bsX = bx at *
    generalize bsY = by' at *
    go_wp2_with fail
    refine SB.out.mono ?_
    rintro r w5 ⟨⟨a5, a5', c5, c5', g5, g5', rfl, o5, o5', l5, l5'⟩, n5⟩
    have z5 := n5.size
    replace TZ := TZ.up n5
    replace N := N.trans (But.ofBelow n5)
    have o4 := B4.own0.up n5
    clear n5 SB B4
    have ST := hide (l5Times_any w5 w3.heap.size g5 g5' (some ⟨w3.heap.size, 0, none⟩) a5 a5' 32 c5 c5' K bx by' o4.rd KB.out (by rw [KL.out]; omega) o5.rd o5'.rd BB.out.1.1 BB.out.2.1 BB.out.1.2 BB.out.2.2)
    rw [KL.out] at ST
    go_wp2_with fail
    refine ST.out.mono ?_
    rintro r w6 ⟨top, p, x, y, z, hc, hP, rfl, hx, hy, hz, n6⟩
    have z6 := n6.size
    replace TZ := TZ.up n6
    replace N := N.trans (But.ofBelow n6)
    have eP : Hid (tmP K bx by' = p) := by show _ = _; unfold tmP; rw [topF_eq (by rw [KL.out]; exact hc), hP]
    clear n6 ST hc hP o4 o5 o5'
    have SP : Hid (Calls Tryz.prog 66 #[ag48 x y z] w6 fun r w' => NewPt w6.heap.size w' r (plX p) (plY p) ∧ Below w6.heap.size w6 w') := l5Plain_any w6 x y z p.1 p.2.1 p.2.2 hx hy hz
    rw [eP.out] at HD
    clear eP hx hy hz
    generalize plX p = PX at *
    generalize plY p = PY at *
    generalize ag48 x y z = V at *
    go_wp2_with fail
    refine SP.out.mono ?_
    rintro r w7 ⟨⟨a1, a1', c1, c1', g1, g1', rfl, o1, o1', l1, l1'⟩, n3⟩
    have z7 := n3.size
    replace TZ := TZ.up n3
    replace N := N.trans (But.ofBelow n3)
    clear n3 SP
    obtain ⟨y0, y1, v0, v1⟩ := TZ
    have O := (Only.setCell w7 w.heap.size 0 (.slice a1 PX.length c1)).trans (Only.setCell _ w.heap.size 1 (.slice a1' PY.length c1'))
    go_wp2
    refine bodyPost_ret (v := .agg #[.slice a1 PX.length c1, .slice a1' PY.length c1']) (by simp [results, Tryz.results100, go_sem, y0, y1]) rfl ⟨?_, (N.setCell (Nat.le_refl _)).setCell (Nat.le_refl _)⟩
    rw [HD.out]
    exact ⟨a1, a1', c1, c1', g1, g1', rfl, o1.only O (fun _ => by omega), o1'.only O (fun _ => by omega), by omega, by omega⟩
  · have HE := HR.out
    rw [if_neg (by decide), if_neg (by decide), if_neg (by decide), if_pos rfl] at HE
    replace HR := hide HE
    clear HE
    go_wp2_with fail
    refine (CH.out w1 S1 hr1).mono ?_
    rintro e w2 ⟨rfl, S2, O2⟩
    have z2 := O2.size
    replace TZ := TZ.of_block' (O2.block w.heap.size (by omega))
    replace N := N.only O2
    have hr2 := hr.but N hne
    clear O2 S1 hr1 CH
    generalize nxF xs (t + 1) 2 = q at *
    by_cases hq : q = 0
    · subst hq
      rw [if_pos rfl] at HR
      have SB : Hid (Calls Tryz.prog 54 #[] w2 fun r w' => NewPt w2.heap.size w' r bsX bsY ∧ Below w2.heap.size w2 w') := specBase_any w2
      rw [show ((0 : Int) == 0) = true from rfl]
      generalize bsX = bx at *
      generalize bsY = by' at *
      go_wp2_with fail
      refine SB.out.mono ?_
      rintro r w3 ⟨⟨a4, a4', c4, c4', g4, g4', rfl, o4, o4', l4, l4'⟩, n3⟩
      have z3 := n3.size
      have TP := Two.new w3 (.slice a4 bx.length c4) (.slice a4' by'.length c4') 37
      have n4 : Below w3.heap.size w3 (w3.alloc (.cells #[.slice a4 bx.length c4, .slice a4' by'.length c4'] 37)) := (Below.refl _ _).alloc (Nat.le_refl _) _
      have zl : w3.heap.size < (w3.alloc (.cells #[.slice a4 bx.length c4, .slice a4' by'.length c4'] 37)).heap.size := TP.lt
      have q4 := hide (fun h => o4.rd.lt h)
      have q4' := hide (fun h => o4'.rd.lt h)
      replace TZ := (TZ.up n3).up n4
      replace N := (N.trans (But.ofBelow n3)).trans (But.ofBelow n4)
      replace S2 := (S2.up n3).up n4
      replace o4 := o4.up n4
      replace o4' := o4'.up n4
      have hr3 := hr.but N hne
      clear n3 n4 SB hr2
      go_wp2_with fail
      generalize w3.alloc (.cells #[.slice a4 bx.length c4, .slice a4' by'.length c4'] 37) = w4 at *
      refine (NW.out w4 S2 hr3).mono ?_
      rintro e w5 ⟨rfl, ⟨r0, r1⟩, S5, O5⟩
      have z5 : w4.heap.size ≤ w5.heap.size := Nat.le_of_eq O5.size.symm
      replace TZ := TZ.of_block' (O5.block w.heap.size (by omega))
      replace TP := TP.of_block' (O5.block w3.heap.size (by omega))
      replace o4 := o4.only O5 (fun _ => by omega)
      replace o4' := o4'.only O5 (fun _ => by omega)
      replace N := N.only O5
      have hr5 := hr.but N hne
      clear O5 S2 hr3 NW NY
      generalize nxF xs (t + 1 + 1) 4 = j at *
      rcases (show j = 0 ∨ j = 1 ∨ j = 2 ∨ j = 3 by omega) with rfl | rfl | rfl | rfl
      · have HD : Hid (R = (dbF xs (t + 1 + 1 + 1) 32, by')) := by show _ = _; rw [HR.out, if_pos rfl]
        clear HR
        go_wp2_with fail
        refine (DB.out w5 (t + 1 + 1 + 1) 32 S5 hr5 (by omega) (by omega)).mono ?_
        rintro e w6 ⟨⟨a6, c6, g6, rfl, o6, _, _, l6⟩, S6, N6⟩
        have z6 := N6.size
        have z6p := TP.lt
        replace TZ := TZ.of_block' (N6.block w.heap.size (by omega) (by omega))
        replace TP := TP.of_block' (N6.block w3.heap.size (by omega) (by omega))
        replace o4 := o4.but N6 (fun _ => by omega)
        replace o4' := o4'.but N6 (fun _ => by omega)
        replace N := N.trans N6
        clear N6 S6 S5 DB
        generalize dbF xs (t + 1 + 1 + 1) 32 = D at *
        have O4 := Only.setCell w6 w3.heap.size 0 (.slice a6 D.length c6)
        have TP' := TP.put0 (.slice a6 D.length c6)
        replace TZ := TZ.of_block' (O4.block w.heap.size (by omega))
        replace N : But s w (w6.setCell ⟨w3.heap.size, 0, none⟩ (.slice a6 D.length c6)) := N.setCell (by omega)
        replace o6 := o6.only O4 (fun _ => by omega)
        replace o4 := o4.only O4 (fun h => by have := q4.out h; omega)
        replace o4' := o4'.only O4 (fun h => by have := q4'.out h; omega)
        obtain ⟨q0, q1, qf0, qf1⟩ := TP
        have TP := TP'
        clear TP' O4
        go_upto_region 19 with fail
        generalize w6.setCell ⟨w3.heap.size, 0, none⟩ (.slice a6 D.length c6) = w9 at *
        obtain ⟨p0, p1, pf0, pf1⟩ := TP
        obtain ⟨y0, y1, v0, v1⟩ := TZ
        have O := (Only.setCell w9 w.heap.size 0 (.slice a6 D.length c6)).trans (Only.setCell _ w.heap.size 1 (.slice a4' by'.length c4'))
        go_wp2
        refine bodyPost_ret (v := .agg #[.slice a6 D.length c6, .slice a4' by'.length c4']) (by simp [results, Tryz.results100, go_sem, y0, y1]) rfl ⟨?_, (N.setCell (Nat.le_refl _)).setCell (Nat.le_refl _)⟩
        rw [HD.out]
        exact ⟨a6, a4', c6, c4', g6, g4', rfl, o6.only O (fun _ => by omega), o4'.only O (fun _ => by omega), by omega, by omega⟩
      · have HD : Hid (R = (bx, dbF xs (t + 1 + 1 + 1) 31)) := by show _ = _; rw [HR.out, if_neg (by decide), if_pos rfl]
        clear HR
        go_wp2_with fail
        refine (DB.out w5 (t + 1 + 1 + 1) 31 S5 hr5 (by omega) (by omega)).mono ?_
        rintro e w6 ⟨⟨a6, c6, g6, rfl, o6, _, _, l6⟩, S6, N6⟩
        have z6 := N6.size
        have z6p := TP.lt
        replace TZ := TZ.of_block' (N6.block w.heap.size (by omega) (by omega))
        replace TP := TP.of_block' (N6.block w3.heap.size (by omega) (by omega))
        replace o4 := o4.but N6 (fun _ => by omega)
        replace o4' := o4'.but N6 (fun _ => by omega)
        replace N := N.trans N6
        clear N6 S6 S5 DB
        generalize dbF xs (t + 1 + 1 + 1) 31 = D at *
        have O4 := Only.setCell w6 w3.heap.size 1 (.slice a6 D.length c6)
        have TP' := TP.put1 (.slice a6 D.length c6)
        replace TZ := TZ.of_block' (O4.block w.heap.size (by omega))
        replace N : But s w (w6.setCell ⟨w3.heap.size, 1, none⟩ (.slice a6 D.length c6)) := N.setCell (by omega)
        replace o6 := o6.only O4 (fun _ => by omega)
        replace o4 := o4.only O4 (fun h => by have := q4.out h; omega)
        replace o4' := o4'.only O4 (fun h => by have := q4'.out h; omega)
        obtain ⟨q0, q1, qf0, qf1⟩ := TP
        have TP := TP'
        clear TP' O4
        go_upto_region 19 with fail
        generalize w6.setCell ⟨w3.heap.size, 1, none⟩ (.slice a6 D.length c6) = w9 at *
        obtain ⟨p0, p1, pf0, pf1⟩ := TP
        obtain ⟨y0, y1, v0, v1⟩ := TZ
        have O := (Only.setCell w9 w.heap.size 0 (.slice a4 bx.length c4)).trans (Only.setCell _ w.heap.size 1 (.slice a6 D.length c6))
        go_wp2
        refine bodyPost_ret (v := .agg #[.slice a4 bx.length c4, .slice a6 D.length c6]) (by simp [results, Tryz.results100, go_sem, y0, y1]) rfl ⟨?_, (N.setCell (Nat.le_refl _)).setCell (Nat.le_refl _)⟩
        rw [HD.out]
        exact ⟨a4, a6, c4, c6, g4, g6, rfl, o4.only O (fun _ => by omega), o6.only O (fun _ => by omega), by omega, by omega⟩
      · obtain ⟨PB, hPB⟩ : ∃ PB, PB = fill (dig pbytes) 32 := ⟨_, rfl⟩
        obtain ⟨QB, hQB⟩ : ∃ QB, QB = fill (byt (1 % PP)) 32 := ⟨_, rfl⟩
        have HD : Hid (R = (PB, QB)) := by show _ = _; rw [HR.out, if_neg (by decide), if_neg (by decide), if_pos rfl, hPB, hQB]
        have L7 : Hid (PB.length = 32) := by show _ = _; rw [hPB, fill_len]
        have HPB := hide hPB.symm
        have HQB := hide hQB.symm
        clear HR hPB hQB
        have PR := hide (l2Prime_any w5)
        have PY := hide pbytes_byt
        have PL := hide pbytes_len
        generalize pbytes = pb at *
        go_wp2_with fail
        refine PR.out.mono ?_
        rintro e w6 ⟨rfl, B6, n6⟩
        have z6 := n6.size
        replace TZ := TZ.up n6
        replace TP := TP.up n6
        replace N := N.trans (But.ofBelow n6)
        clear n6
        have SL := hide (l1Little_any w6 w5.heap.size (some ⟨w5.heap.size, 0, none⟩) 32 pb 32 B6.own0.rd PY.out (by rw [PL.out]; omega) (by omega))
        clear B6
        go_wp2_with fail
        refine SL.out.mono ?_
        rintro e w7 ⟨rfl, B7, n7⟩
        have z7 := n7.size
        replace TZ := TZ.up n7
        replace TP := TP.up n7
        replace N := N.trans (But.ofBelow n7)
        clear n7 SL
        have o7 := B7.own0
        rw [HPB.out] at o7
        clear HPB B7
        go_wp2_with fail
        refine (l2Small_any w7 1 (by decide)).mono ?_
        rintro e w8 ⟨f, rfl, hf, hfv, n8⟩
        have z8 := n8.size
        replace TZ := TZ.up n8
        replace TP := TP.up n8
        replace N := N.trans (But.ofBelow n8)
        replace o7 := o7.up n8
        have SY := hide (l2Bytes_any w8 f hf)
        rw [hfv, HQB.out] at SY
        clear n8 hf hfv HQB
        generalize ag16 f = V at *
        go_wp2_with fail
        refine SY.out.mono ?_
        rintro e wa ⟨⟨a8, c8, g8, rfl, o8, _, _, l8⟩, na⟩
        have za := na.size
        replace TZ := TZ.up na
        replace TP := TP.up na
        replace N := N.trans (But.ofBelow na)
        replace o7 := o7.up na
        clear na SY
        have O4 := (Only.setCell wa w3.heap.size 0 (.slice (some ⟨w6.heap.size, 0, none⟩) 32 32)).trans (Only.setCell _ w3.heap.size 1 (.slice a8 QB.length c8))
        have TP' := TP.put (.slice (some ⟨w6.heap.size, 0, none⟩) 32 32) (.slice a8 QB.length c8)
        replace TZ := TZ.of_block' (O4.block w.heap.size (by omega))
        replace N : But s w ((wa.setCell ⟨w3.heap.size, 0, none⟩ (.slice (some ⟨w6.heap.size, 0, none⟩) 32 32)).setCell ⟨w3.heap.size, 1, none⟩ (.slice a8 QB.length c8)) := (N.setCell (by omega)).setCell (by omega)
        obtain ⟨q0, q1, qf0, qf1⟩ := TP
        have TP := TP'
        clear TP'
        replace o7 := o7.only O4 (fun _ => by omega)
        replace o8 := o8.only O4 (fun _ => by omega)
        clear O4
        go_upto_region 19 with fail
        generalize (wa.setCell ⟨w3.heap.size, 0, none⟩ (.slice (some ⟨w6.heap.size, 0, none⟩) 32 32)).setCell ⟨w3.heap.size, 1, none⟩ (.slice a8 QB.length c8) = w9 at *
        obtain ⟨p0, p1, pf0, pf1⟩ := TP
        obtain ⟨y0, y1, v0, v1⟩ := TZ
        have O := (Only.setCell w9 w.heap.size 0 (.slice (some ⟨w6.heap.size, 0, none⟩) 32 32)).trans (Only.setCell _ w.heap.size 1 (.slice a8 QB.length c8))
        go_wp2
        refine bodyPost_ret (v := .agg #[.slice (some ⟨w6.heap.size, 0, none⟩) 32 32, .slice a8 QB.length c8]) (by simp [results, Tryz.results100, go_sem, y0, y1]) rfl ⟨?_, (N.setCell (Nat.le_refl _)).setCell (Nat.le_refl _)⟩
        rw [HD.out]
        exact ⟨(some ⟨w6.heap.size, 0, none⟩), a8, 32, c8, w6.heap.size, g8, by rw [L7.out], o7.only O (fun _ => by omega), o8.only O (fun _ => by omega), by omega, by omega⟩
      · have HD : Hid (R = ([], [])) := by show _ = _; rw [HR.out, if_neg (by decide), if_neg (by decide), if_neg (by decide)]
        clear HR
        have O4 := (Only.setCell w5 w3.heap.size 0 (.slice none 0 0)).trans (Only.setCell _ w3.heap.size 1 (.slice none 0 0))
        have TP' := TP.put (.slice none 0 0) (.slice none 0 0)
        replace TZ := TZ.of_block' (O4.block w.heap.size (by omega))
        replace N : But s w ((w5.setCell ⟨w3.heap.size, 0, none⟩ (.slice none 0 0)).setCell ⟨w3.heap.size, 1, none⟩ (.slice none 0 0)) := (N.setCell (by omega)).setCell (by omega)
        obtain ⟨q0, q1, qf0, qf1⟩ := TP
        have TP := TP'
        clear TP'
        clear O4
        go_upto_region 19 with fail
        generalize (w5.setCell ⟨w3.heap.size, 0, none⟩ (.slice none 0 0)).setCell ⟨w3.heap.size, 1, none⟩ (.slice none 0 0) = w9 at *
        obtain ⟨p0, p1, pf0, pf1⟩ := TP
        obtain ⟨y0, y1, v0, v1⟩ := TZ
        have O := (Only.setCell w9 w.heap.size 0 (.slice none 0 0)).trans (Only.setCell _ w.heap.size 1 (.slice none 0 0))
        go_wp2
        refine bodyPost_ret (v := .agg #[.slice none 0 0, .slice none 0 0]) (by simp [results, Tryz.results100, go_sem, y0, y1]) rfl ⟨?_, (N.setCell (Nat.le_refl _)).setCell (Nat.le_refl _)⟩
        rw [HD.out]
        exact ⟨none, none, 0, 0, w.heap.size, w.heap.size, rfl, Own.nil _ _ _ _, Own.nil _ _ _ _, by omega, by omega⟩
    · rw [show (q == 0) = false from beq_eq_false_iff_ne.2 hq]
      rw [if_neg hq] at HR
      have HD := HR
      clear HR hq
      go_wp2_with fail
      refine (DB.out w2 (t + 1 + 1) 32 S2 hr2 (by omega) (by omega)).mono ?_
      rintro e w8 ⟨⟨a8, c8, g8, rfl, o8, _, _, l8⟩, S8, N8⟩
      have z8 := N8.size
      have LB := hide (dbF_len xs (t + 1 + 1) 32)
      have BY := hide (dbF_byt xs (t + 1 + 1) 32)
      replace TZ := TZ.of_block' (N8.block w.heap.size (by omega) (by omega))
      replace N := N.trans N8
      clear N8 S8 DB NY NW S2
      generalize dbF xs (t + 1 + 1) 32 = B at *
      rw [LB.out]
      obtain ⟨o8f, ea, _⟩ := id o8 (by rw [LB.out]; decide)
      subst ea
      have zg := o8.rd.lt (by rw [LB.out]; decide)
      have FD := hide (l5Find_any w8 g8 o8f c8 B o8 BY.out LB.out)
      generalize fdP 40 B = X at *
      go_wp2_with fail
      refine FD.out.mono ?_
      rintro r w9 ⟨⟨a1, a1', c1, c1', g1, g1', rfl, o1, o1', l1, l1'⟩, n3⟩
      have z9 := n3.size
      replace TZ := TZ.of_block' (n3.block w.heap.size (by omega) (by omega))
      have N2 : But s w w9 := ⟨n3.os.trans N.os, n3.tape.trans N.tape, n3.output.trans N.output, Nat.le_trans N.size n3.size, fun i hi hn => (n3.block i (by omega) (by omega)).trans (N.block i hi hn)⟩
      clear n3 N FD o8
      obtain ⟨y0, y1, v0, v1⟩ := TZ
      have O := (Only.setCell w9 w.heap.size 0 (.slice a1 X.1.length c1)).trans (Only.setCell _ w.heap.size 1 (.slice a1' X.2.length c1'))
      go_wp2
      refine bodyPost_ret (v := .agg #[.slice a1 X.1.length c1, .slice a1' X.2.length c1']) (by simp [results, Tryz.results100, go_sem, y0, y1]) rfl ⟨?_, (N2.setCell (Nat.le_refl _)).setCell (Nat.le_refl _)⟩
      rw [HD.out]
      exact ⟨a1, a1', c1, c1', g1, g1', rfl, o1.only O (fun _ => by omega), o1'.only O (fun _ => by omega), by omega, by omega⟩
  · have HD : Hid (R = fdP 40 (dbF xs (t + 1) 32)) := by show _ = _; rw [HR.out, if_neg (by decide), if_neg (by decide), if_neg (by decide), if_neg (by decide)]
    clear HR
    go_wp2_with fail
    refine (DB.out w1 (t + 1) 32 S1 hr1 (by omega) (by omega)).mono ?_
    rintro e w8 ⟨⟨a8, c8, g8, rfl, o8, _, _, l8⟩, S8, N8⟩
    have z8 := N8.size
    have LB := hide (dbF_len xs (t + 1) 32)
    have BY := hide (dbF_byt xs (t + 1) 32)
    replace TZ := TZ.of_block' (N8.block w.heap.size (by omega) (by omega))
    replace N := N.trans N8
    clear N8 S8 DB NY CH NW S1
    generalize dbF xs (t + 1) 32 = B at *
    rw [LB.out]
    obtain ⟨o8f, ea, _⟩ := id o8 (by rw [LB.out]; decide)
    subst ea
    have zg := o8.rd.lt (by rw [LB.out]; decide)
    have FD := hide (l5Find_any w8 g8 o8f c8 B o8 BY.out LB.out)
    generalize fdP 40 B = X at *
    go_wp2_with fail
    refine FD.out.mono ?_
    rintro r w9 ⟨⟨a1, a1', c1, c1', g1, g1', rfl, o1, o1', l1, l1'⟩, n3⟩
    have z9 := n3.size
    replace TZ := TZ.of_block' (n3.block w.heap.size (by omega) (by omega))
    have N2 : But s w w9 := ⟨n3.os.trans N.os, n3.tape.trans N.tape, n3.output.trans N.output, Nat.le_trans N.size n3.size, fun i hi hn => (n3.block i (by omega) (by omega)).trans (N.block i hi hn)⟩
    clear n3 N FD o8
    obtain ⟨y0, y1, v0, v1⟩ := TZ
    have O := (Only.setCell w9 w.heap.size 0 (.slice a1 X.1.length c1)).trans (Only.setCell _ w.heap.size 1 (.slice a1' X.2.length c1'))
    go_wp2
    refine bodyPost_ret (v := .agg #[.slice a1 X.1.length c1, .slice a1' X.2.length c1']) (by simp [results, Tryz.results100, go_sem, y0, y1]) rfl ⟨?_, (N2.setCell (Nat.le_refl _)).setCell (Nat.le_refl _)⟩
    rw [HD.out]
    exact ⟨a1, a1', c1, c1', g1, g1', rfl, o1.only O (fun _ => by omega), o1'.only O (fun _ => by omega), by omega, by omega⟩
  · have HD : Hid (R = fdP 40 (dbF xs (t + 1) 32)) := by show _ = _; rw [HR.out, if_neg (by decide), if_neg (by decide), if_neg (by decide), if_neg (by decide)]
    clear HR
    go_wp2_with fail
    refine (DB.out w1 (t + 1) 32 S1 hr1 (by omega) (by omega)).mono ?_
    rintro e w8 ⟨⟨a8, c8, g8, rfl, o8, _, _, l8⟩, S8, N8⟩
    have z8 := N8.size
    have LB := hide (dbF_len xs (t + 1) 32)
    have BY := hide (dbF_byt xs (t + 1) 32)
    replace TZ := TZ.of_block' (N8.block w.heap.size (by omega) (by omega))
    replace N := N.trans N8
    clear N8 S8 DB NY CH NW S1
    generalize dbF xs (t + 1) 32 = B at *
    rw [LB.out]
    obtain ⟨o8f, ea, _⟩ := id o8 (by rw [LB.out]; decide)
    subst ea
    have zg := o8.rd.lt (by rw [LB.out]; decide)
    have FD := hide (l5Find_any w8 g8 o8f c8 B o8 BY.out LB.out)
    generalize fdP 40 B = X at *
    go_wp2_with fail
    refine FD.out.mono ?_
    rintro r w9 ⟨⟨a1, a1', c1, c1', g1, g1', rfl, o1, o1', l1, l1'⟩, n3⟩
    have z9 := n3.size
    replace TZ := TZ.of_block' (n3.block w.heap.size (by omega) (by omega))
    have N2 : But s w w9 := ⟨n3.os.trans N.os, n3.tape.trans N.tape, n3.output.trans N.output, Nat.le_trans N.size n3.size, fun i hi hn => (n3.block i (by omega) (by omega)).trans (N.block i hi hn)⟩
    clear n3 N FD o8
    obtain ⟨y0, y1, v0, v1⟩ := TZ
    have O := (Only.setCell w9 w.heap.size 0 (.slice a1 X.1.length c1)).trans (Only.setCell _ w.heap.size 1 (.slice a1' X.2.length c1'))
    go_wp2
    refine bodyPost_ret (v := .agg #[.slice a1 X.1.length c1, .slice a1' X.2.length c1']) (by simp [results, Tryz.results100, go_sem, y0, y1]) rfl ⟨?_, (N2.setCell (Nat.le_refl _)).setCell (Nat.le_refl _)⟩
    rw [HD.out]
    exact ⟨a1, a1', c1, c1', g1, g1', rfl, o1.only O (fun _ => by omega), o1'.only O (fun _ => by omega), by omega, by omega⟩
  · have HD : Hid (R = fdP 40 (dbF xs (t + 1) 32)) := by show _ = _; rw [HR.out, if_neg (by decide), if_neg (by decide), if_neg (by decide), if_neg (by decide)]
    clear HR
    go_wp2_with fail
    refine (DB.out w1 (t + 1) 32 S1 hr1 (by omega) (by omega)).mono ?_
    rintro e w8 ⟨⟨a8, c8, g8, rfl, o8, _, _, l8⟩, S8, N8⟩
    have z8 := N8.size
    have LB := hide (dbF_len xs (t + 1) 32)
    have BY := hide (dbF_byt xs (t + 1) 32)
    replace TZ := TZ.of_block' (N8.block w.heap.size (by omega) (by omega))
    replace N := N.trans N8
    clear N8 S8 DB NY CH NW S1
    generalize dbF xs (t + 1) 32 = B at *
    rw [LB.out]
    obtain ⟨o8f, ea, _⟩ := id o8 (by rw [LB.out]; decide)
    subst ea
    have zg := o8.rd.lt (by rw [LB.out]; decide)
    have FD := hide (l5Find_any w8 g8 o8f c8 B o8 BY.out LB.out)
    generalize fdP 40 B = X at *
    go_wp2_with fail
    refine FD.out.mono ?_
    rintro r w9 ⟨⟨a1, a1', c1, c1', g1, g1', rfl, o1, o1', l1, l1'⟩, n3⟩
    have z9 := n3.size
    replace TZ := TZ.of_block' (n3.block w.heap.size (by omega) (by omega))
    have N2 : But s w w9 := ⟨n3.os.trans N.os, n3.tape.trans N.tape, n3.output.trans N.output, Nat.le_trans N.size n3.size, fun i hi hn => (n3.block i (by omega) (by omega)).trans (N.block i hi hn)⟩
    clear n3 N FD o8
    obtain ⟨y0, y1, v0, v1⟩ := TZ
    have O := (Only.setCell w9 w.heap.size 0 (.slice a1 X.1.length c1)).trans (Only.setCell _ w.heap.size 1 (.slice a1' X.2.length c1'))
    go_wp2
    refine bodyPost_ret (v := .agg #[.slice a1 X.1.length c1, .slice a1' X.2.length c1']) (by simp [results, Tryz.results100, go_sem, y0, y1]) rfl ⟨?_, (N2.setCell (Nat.le_refl _)).setCell (Nat.le_refl _)⟩
    rw [HD.out]
    exact ⟨a1, a1', c1, c1', g1, g1', rfl, o1.only O (fun _ => by omega), o1'.only O (fun _ => by omega), by omega, by omega⟩
end Go.Proofs.YtliahigljoeeoaaGreatDoor

/-
  The point that a law draws.
-/
namespace Go.Proofs.YtliahigljoeeoaaGreatDoor
set_option maxRecDepth 100000
open Go Go.RowKit

theorem dc_byt (ys : List Int) : Byt (dcX ys) ∧ Byt (dcY ys) := by
  unfold dcX dcY
  by_cases h : dcB ys = true
  · rw [if_pos h, if_pos h]
    exact li_byt _ _
  · rw [if_neg h, if_neg h]
    exact ⟨byt_nil, byt_nil⟩
def BytP (p : List Int × List Int) : Prop := Byt p.1 ∧ Byt p.2
theorem bytP_mk {x y : List Int} (h : Byt x ∧ Byt y) : BytP (x, y) := h
theorem fdP_byt : ∀ n ys, BytP (fdP n ys)
  | 0, _ => by rw [fdP]; exact bytP_mk (li_byt _ _)
  | n + 1, ys => by
    rw [fdP]
    by_cases h : dcB ys = true
    · rw [if_pos h]
      exact bytP_mk (dc_byt ys)
    · rw [if_neg h]
      exact fdP_byt n _
theorem pa_byt (px py qx qy : List Int) : Byt (paX px py qx qy) ∧ Byt (paY px py qx qy) := by
  unfold paX paY
  by_cases h : validP px py = true ∧ validP qx qy = true
  · rw [if_pos h, if_pos h]
    exact ⟨bytes_5 _ _, bytes_5 _ _⟩
  · rw [if_neg h, if_neg h]
    exact ⟨byt_nil, byt_nil⟩
theorem ptok_byt {xs ys : List Int} (h : PtOk xs ys) : Byt xs ∧ Byt ys := ⟨h.1.1, h.2.1⟩
theorem smP_byt (k : Int) : BytP (smP k) := ptok_byt (smP_ok k)
theorem drP_byt (xs : List Int) (t : Int) : BytP (drP xs t) := by
  unfold drP
  by_cases h0 : nxF xs t 8 = 0
  · rw [if_pos h0]; exact smP_byt _
  rw [if_neg h0]
  by_cases h1 : nxF xs t 8 = 1
  · rw [if_pos h1]; exact bytP_mk (pa_byt _ _ _ _)
  rw [if_neg h1]
  by_cases h2 : nxF xs t 8 < 4
  · rw [if_pos h2]; exact bytP_mk (ptok_byt (pl_ok _))
  rw [if_neg h2]
  by_cases h4 : nxF xs t 8 = 4
  · rw [if_pos h4]
    by_cases h5 : nxF xs (t + 1) 2 = 0
    · rw [if_pos h5]
      by_cases j0 : nxF xs (t + 1 + 1) 4 = 0
      · rw [if_pos j0]; exact bytP_mk ⟨dbF_byt _ _ _, bs_byt.2⟩
      rw [if_neg j0]
      by_cases j1 : nxF xs (t + 1 + 1) 4 = 1
      · rw [if_pos j1]; exact bytP_mk ⟨bs_byt.1, dbF_byt _ _ _⟩
      rw [if_neg j1]
      by_cases j2 : nxF xs (t + 1 + 1) 4 = 2
      · rw [if_pos j2]; exact bytP_mk ⟨dig_bytes_5 pbytes_byt 32, bytes_5 _ _⟩
      rw [if_neg j2]
      exact bytP_mk ⟨byt_nil, byt_nil⟩
    · rw [if_neg h5]; exact fdP_byt _ _
  · rw [if_neg h4]; exact fdP_byt _ _
theorem Below.ofBut {w w1 w2 : World} {s : Nat} (h : Below w.heap.size w w1) (k : But s w1 w2) (hs : w.heap.size ≤ s) : Below w.heap.size w w2 :=
  ⟨k.os.trans h.os, k.tape.trans h.tape, k.output.trans h.output, Nat.le_trans h.size k.size, fun i hi => (k.block i (Nat.lt_of_lt_of_le hi h.size) (by omega)).trans (h.block i hi)⟩
set_option maxHeartbeats 400000 in
theorem l1SourceB_any (w : World) (a : Option Addr) (n c : Nat) (hn : n ≤ 4194304) :
    Calls Tryz.prog 33 #[.slice a n c] w fun e w' => e = .returned (.pointer (some ⟨w.heap.size, 0, none⟩)) ∧ Src w' w.heap.size a n c 0 ∧ Below w.heap.size w w' := by
  by_cases h : 12 < (n : Int) / 16
  · have t1 : decide (12 < (n : Int) / 16) = true := by simp; omega
    go_enter Tryz.func33, Tryz.ntmps33
    go_wp2
    go_ret
    exact ⟨rfl, ⟨by simp [World.cell?_alloc_at], by simp [World.cell?_alloc_at], by simp [World.frozen?_alloc_at]⟩, (Below.refl _ _).alloc (Nat.le_refl _) _⟩
  · have t1 : decide (12 < (n : Int) / 16) = false := by simp; omega
    go_enter Tryz.func33, Tryz.ntmps33
    go_wp2
    go_ret
    exact ⟨rfl, ⟨by simp [World.cell?_alloc_at], by simp [World.cell?_alloc_at], by simp [World.frozen?_alloc_at]⟩, (Below.refl _ _).alloc (Nat.le_refl _) _⟩
set_option maxHeartbeats 1000000 in
theorem drawNeg_any (w : World) (g : Nat) (a : Option Addr) (c : Nat) (xs : List Int) (hr : Rd w g a .u8 xs) (hb : Byt xs) (hl : xs.length ≤ 4194304) :
    Calls Tryz.prog 52 #[.slice a xs.length c] w fun r w' => NewPt w.heap.size w' r (drP xs 0).1 (drP xs 0).2 ∧ Below w.heap.size w w' := by
  have TZ : Two (w.alloc pObj) w.heap.size (.slice none 0 0) (.slice none 0 0) := Two.new w (.slice none 0 0) (.slice none 0 0) 37
  have N : Below w.heap.size w (w.alloc pObj) := (Below.refl _ _).alloc (Nat.le_refl _) _
  have DW := hide (fun W (s : Nat) (hs : Src W s a xs.length c 0) (h : Rd W g a .u8 xs) (hn : 0 < xs.length → g ≠ s) => l5DrawV_any W s g a c xs 0 hs h hn hb hl (by decide) (by decide))
  have SO := hide (fun W => l1SourceB_any W a xs.length c hl)
  have hg := hide (fun h => hr.lt h)
  generalize drP xs 0 = X at *
  go_enter Tryz.func52, Tryz.ntmps52
  go_upto_region 1 with fail
  change Code.wp _ _ _ _ (w.alloc pObj)
  generalize w.alloc pObj = wz at *
  go_wp2_with fail
  refine (SO.out wz).mono ?_
  rintro e w1 ⟨rfl, S1, n1⟩
  have zz := TZ.lt
  have z1 := n1.size
  replace TZ := TZ.up n1
  replace N := nxt N n1
  have hr1 := hr.up N
  have sl := S1.lt
  clear n1 SO
  go_wp2_with fail
  refine (DW.out w1 wz.heap.size S1 hr1 (fun h => by have := hg.out h; omega)).mono ?_
  rintro r w2 ⟨⟨a1, a1', c1, c1', g1, g1', rfl, o1, o1', l1, l1'⟩, n2⟩
  replace TZ := TZ.of_block' (n2.block w.heap.size (by omega) (by omega))
  replace N := Below.ofBut N n2 (by omega)
  clear n2 DW S1 hr1
  obtain ⟨y0, y1, v0, v1⟩ := TZ
  have O := (Only.setCell w2 w.heap.size 0 (.slice a1 X.1.length c1)).trans (Only.setCell _ w.heap.size 1 (.slice a1' X.2.length c1'))
  go_wp2
  refine bodyPost_ret (v := .agg #[.slice a1 X.1.length c1, .slice a1' X.2.length c1']) (by simp [results, Tryz.results52, go_sem, y0, y1]) rfl ⟨?_, (N.setCell (Nat.le_refl _) _).setCell (Nat.le_refl _) _⟩
  exact ⟨a1, a1', c1, c1', g1, g1', rfl, o1.only O (fun _ => by omega), o1'.only O (fun _ => by omega), by omega, by omega⟩
/-- The valid point of a code. -/
def lpP (xs : List Int) : List Int × List Int := if validP (drP xs 0).1 (drP xs 0).2 = true then drP xs 0 else (bsX, bsY)
set_option maxHeartbeats 2000000 in
theorem lwPoint_any (w : World) (g : Nat) (a : Option Addr) (c : Nat) (xs : List Int) (hr : Rd w g a .u8 xs) (hb : Byt xs) (hl : xs.length ≤ 4194304) :
    Calls Tryz.prog 24 #[.slice a xs.length c] w fun r w' => NewPt w.heap.size w' r (lpP xs).1 (lpP xs).2 ∧ Below w.heap.size w w' := by
  have TZ : Two (w.alloc pObj) w.heap.size (.slice none 0 0) (.slice none 0 0) := Two.new w (.slice none 0 0) (.slice none 0 0) 37
  have N : Below w.heap.size w (w.alloc pObj) := (Below.refl _ _).alloc (Nat.le_refl _) _
  have DW := hide (fun W (h : Rd W g a .u8 xs) => drawNeg_any W g a c xs h hb hl)
  have XB := hide (drP_byt xs 0)
  obtain ⟨R, hR⟩ : ∃ R, R = lpP xs := ⟨_, rfl⟩
  rw [← hR]
  unfold lpP at hR
  have HR := hide hR
  clear hR
  generalize drP xs 0 = X at *
  go_enter Tryz.func24, Tryz.ntmps24
  go_upto_region 1 with fail
  change Code.wp _ _ _ _ (w.alloc pObj)
  have hr0 := hr.up N
  generalize w.alloc pObj = wz at *
  go_wp2_with fail
  refine (DW.out wz hr0).mono ?_
  rintro r w1 ⟨⟨a1, a1', c1, c1', g1, g1', rfl, o1, o1', l1, l1'⟩, n1⟩
  have zz := TZ.lt
  have z1 := n1.size
  have TP := Two.new w1 (.slice a1 X.1.length c1) (.slice a1' X.2.length c1') 37
  have n2 : Below w1.heap.size w1 (w1.alloc (.cells #[.slice a1 X.1.length c1, .slice a1' X.2.length c1'] 37)) := (Below.refl _ _).alloc (Nat.le_refl _) _
  replace TZ := (TZ.up n1).up n2
  replace N := nxt (nxt N n1) n2
  replace o1 := o1.up n2
  replace o1' := o1'.up n2
  have z2 := n2.size
  clear n1 n2 DW hr0
  have zl := TP.lt
  have VA := hide (pointValid_any _ g1 g1' a1 a1' c1 c1' X.1 X.2 o1.rd o1'.rd XB.out.1 XB.out.2)
  obtain ⟨p0, p1, pf0, pf1⟩ := id TP
  obtain ⟨v, hv⟩ : ∃ v, v = validP X.1 X.2 := ⟨_, rfl⟩
  rw [← hv] at VA HR
  clear hv
  go_wp2_with fail
  generalize w1.alloc (.cells #[.slice a1 X.1.length c1, .slice a1' X.2.length c1'] 37) = w2 at *
  refine VA.out.mono ?_
  rintro e w3 ⟨rfl, n3⟩
  have z3 := n3.size
  replace TZ := TZ.up n3
  replace TP := TP.up n3
  replace N := nxt N n3
  replace o1 := o1.up n3
  replace o1' := o1'.up n3
  clear n3 VA p0 p1 pf0 pf1
  cases v with
  | true =>
    have HD : Hid (R = X) := by show _ = _; rw [HR.out, if_pos rfl]
    clear HR
    obtain ⟨p0, p1, pf0, pf1⟩ := TP
    obtain ⟨y0, y1, v0, v1⟩ := TZ
    have O := (Only.setCell w3 w.heap.size 0 (.slice a1 X.1.length c1)).trans (Only.setCell _ w.heap.size 1 (.slice a1' X.2.length c1'))
    go_wp2
    refine bodyPost_ret (v := .agg #[.slice a1 X.1.length c1, .slice a1' X.2.length c1']) (by simp [results, Tryz.results24, go_sem, y0, y1]) rfl ⟨?_, (N.setCell (Nat.le_refl _) _).setCell (Nat.le_refl _) _⟩
    rw [HD.out]
    exact ⟨a1, a1', c1, c1', g1, g1', rfl, o1.only O (fun _ => by omega), o1'.only O (fun _ => by omega), by omega, by omega⟩
  | false =>
    have HD : Hid (R = (bsX, bsY)) := by show _ = _; rw [HR.out, if_neg (by decide)]
    clear HR o1 o1'
    have SB : Hid (Calls Tryz.prog 54 #[] w3 fun r w' => NewPt w3.heap.size w' r bsX bsY ∧ Below w3.heap.size w3 w') := specBase_any w3
    generalize bsX = bx at *
    generalize bsY = by' at *
    go_wp2_with fail
    refine SB.out.mono ?_
    rintro r w4 ⟨⟨a4, a4', c4, c4', g4, g4', rfl, o4, o4', l4, l4'⟩, n4⟩
    have z4 := n4.size
    replace TZ := TZ.up n4
    replace N := nxt N n4
    clear n4 SB
    obtain ⟨y0, y1, v0, v1⟩ := TZ
    have O := (Only.setCell w4 w.heap.size 0 (.slice a4 bx.length c4)).trans (Only.setCell _ w.heap.size 1 (.slice a4' by'.length c4'))
    go_wp2
    refine bodyPost_ret (v := .agg #[.slice a4 bx.length c4, .slice a4' by'.length c4']) (by simp [results, Tryz.results24, go_sem, y0, y1]) rfl ⟨?_, (N.setCell (Nat.le_refl _) _).setCell (Nat.le_refl _) _⟩
    rw [HD.out]
    exact ⟨a4, a4', c4, c4', g4, g4', rfl, o4.only O (fun _ => by omega), o4'.only O (fun _ => by omega), by omega, by omega⟩
end Go.Proofs.YtliahigljoeeoaaGreatDoor

/-
  The group of the curve in lists of bytes. Numbers alone.
-/
namespace Go.Proofs.YtliahigljoeeoaaGreatDoor
set_option maxRecDepth 100000
open Go Go.RowKit

/-- A point of the curve in canonical coordinates. -/
structure Pv (p : Int × Int) : Prop where
  on : OnP PP (-1) d0 p
  cn : Cn p
def lx (p : Int × Int) : List Int := fill (byt p.1) 32
def ly (p : Int × Int) : List Int := fill (byt p.2) 32
theorem lx_byt (p : Int × Int) : Byt (lx p) := bytes_5 _ _
theorem ly_byt (p : Int × Int) : Byt (ly p) := bytes_5 _ _
theorem lx_len (p : Int × Int) : (lx p).length = 32 := fill_len _ _
theorem ly_len (p : Int × Int) : (ly p).length = 32 := fill_len _ _
theorem num_fill {v : Int} (h0 : 0 ≤ v) (h1 : v < PP) : num (fill (byt v) 32) = v := by
  have e := num_modS v
  rwa [Int.emod_eq_of_lt h0 h1] at e
theorem lx_num {p : Int × Int} (h : Pv p) : num (lx p) = p.1 := num_fill h.cn.x.1 h.cn.x.2
theorem ly_num {p : Int × Int} (h : Pv p) : num (ly p) = p.2 := num_fill h.cn.y.1 h.cn.y.2
theorem can_fill {v : Int} (h0 : 0 ≤ v) (h1 : v < PP) : canN (fill (byt v) 32) = true := by
  unfold canN
  rw [num_fill h0 h1, fill_len, decide_eq_true h1]
  rfl
theorem lv_valid {p : Int × Int} (h : Pv p) : validP (lx p) (ly p) = true := by
  unfold validP
  rw [lx_num h, ly_num h, show canN (lx p) = true from can_fill h.cn.x.1 h.cn.x.2, show canN (ly p) = true from can_fill h.cn.y.1 h.cn.y.2, on_valid h.on]
  rfl
theorem pv_of {xs ys : List Int} (hx : Byt xs) (hy : Byt ys) (h : validP xs ys = true) : Pv (num xs, num ys) ∧ xs = lx (num xs, num ys) ∧ ys = ly (num xs, num ys) := by
  have x1 := valid_x1 h
  have y1 := valid_y1 h
  refine ⟨⟨on_of h, ⟨num_ge hx, can_lt x1⟩, ⟨num_ge hy, can_lt y1⟩⟩, ?_, ?_⟩
  · have e := fill_can hx x1
    rw [Int.emod_eq_of_lt (num_ge hx) (can_lt x1)] at e
    exact e.symm
  · have e := fill_can hy y1
    rw [Int.emod_eq_of_lt (num_ge hy) (can_lt y1)] at e
    exact e.symm
theorem Pv.add {p q : Int × Int} (hp : Pv p) (hq : Pv q) : Pv (pAdd p q) := ⟨pAdd_on hp.on hq.on, pAdd_cn _ _⟩
theorem pa_of {p q : Int × Int} (hp : Pv p) (hq : Pv q) : paX (lx p) (ly p) (lx q) (ly q) = lx (pAdd p q) ∧ paY (lx p) (ly p) (lx q) (ly q) = ly (pAdd p q) := by
  unfold paX paY
  rw [if_pos ⟨lv_valid hp, lv_valid hq⟩, if_pos ⟨lv_valid hp, lv_valid hq⟩, lx_num hp, ly_num hp, lx_num hq, ly_num hq]
  exact ⟨rfl, rfl⟩
def pZero : Int × Int := (0, 1)
theorem ze_of : fill (byt (0 % PP)) 32 = lx pZero ∧ fill (byt (1 % PP)) 32 = ly pZero := ⟨rfl, rfl⟩
theorem pv_base : Pv (bX, bY) := ⟨base_on, base_cn⟩
theorem bs_of : bsX = lx (bX, bY) ∧ bsY = ly (bX, bY) := by
  have h : liB (4 * iv 5) false = true := by
    unfold liB
    rw [base_lift.1]
    simp
  have e1 : bX % PP = bX := Int.emod_eq_of_lt base_cn.x.1 base_cn.x.2
  unfold bsX bsY liX liY
  rw [if_pos h, if_pos h, base_lift.2, base_mod]
  refine ⟨?_, rfl⟩
  show fill (byt (bX % PP)) 32 = _
  rw [e1]
  rfl
/-- The point that is drawn. -/
theorem lpP_is {xs : List Int} : ∃ p, Pv p ∧ lpP xs = (lx p, ly p) := by
  have hb := drP_byt xs 0
  unfold lpP
  generalize drP xs 0 = X at *
  by_cases h : validP X.1 X.2 = true
  · rw [if_pos h]
    obtain ⟨k, e1, e2⟩ := pv_of hb.1 hb.2 h
    exact ⟨_, k, Prod.ext e1 e2⟩
  · rw [if_neg h]
    exact ⟨_, pv_base, by rw [bs_of.1, bs_of.2]⟩
end Go.Proofs.YtliahigljoeeoaaGreatDoor

/-
  The program's PointScale.
-/
namespace Go.Proofs.YtliahigljoeeoaaGreatDoor
set_option maxRecDepth 100000
open Go Go.RowKit

/-- The number of these bytes, and the point scaled by it, as bytes. -/
def scV (ks : List Int) : Nat := (lsum (fun j => ks.getD j 0) 32).toNat
def skX (ks xs ys : List Int) : List Int := if ks.length = 32 ∧ validP xs ys = true then lx (pMul (scV ks) (num xs, num ys)) else []
def skY (ks xs ys : List Int) : List Int := if ks.length = 32 ∧ validP xs ys = true then ly (pMul (scV ks) (num xs, num ys)) else []
theorem byt_bt {ks : List Int} (h : Byt ks) : Bt (fun j => ks.getD j 0) := fun j => h j
theorem sc_words {ks : List Int} (h : Byt ks) : W4 (wv (fun j => ks.getD j 0) 32) ∧ wval (wv (fun j => ks.getD j 0) 32) = (scV ks : Int) := by
  refine ⟨fun j _ => wv_lt (byt_bt h) 32 j, ?_⟩
  rw [wv_sum _ 32 (by omega)]
  unfold scV
  have := lsum_nonneg (byt_bt h) 32
  omega
theorem valid_pt {xs ys : List Int} (h : validP xs ys = true) : OnP PP (-1) d0 (num xs, num ys) ∧ rpX xs ys = num xs ∧ rpY xs ys = num ys := by
  unfold validP at h
  have hc : rpC xs ys = true := by
    unfold rpC
    revert h
    cases canN xs <;> cases canN ys <;> simp
  have hv : validN (num xs) (num ys) = true := by
    revert h
    cases canN xs <;> cases canN ys <;> simp
  refine ⟨valid_on hv, ?_, ?_⟩
  · unfold rpX
    rw [if_pos hc]
  · unfold rpY
    rw [if_pos hc]
section
variable {ops : Array Oper} {Q : Exit → Act → World → Prop} {md : Region.Mode} {F : Nat → Fact} {a0 : Act} {w0 w : World} {i id : Nat} {o : Oper} {ts : Array TypeId} {draw : Bool}
theorem step_rs (hi : ops[i]? = some o) (p j : Nat) {a : Option Addr} {c : Nat} {ks : List Int} (hl : Hid (ks.length = 32)) (hop : o.op = .call { callee := .value (.func 41), args := #[.tmp p], argTypes := ts }) (hj : waits md ops i j p = true) (hR : RdOk w0 a ks) (hFj : F j = Fact.eq (.slice a ks.length c)) (hFi : F i = Fact.eq (ag4 (wv (fun j => ks.getD j 0) 32))) : StepOk Tryz.prog md ops Q F a0 w0 i := by
  refine step_call hi _ _ ts hop (by kernel_rfl) fun A w _ hw hF => ?_
  have ea := hF j p hj
  rw [hFj] at ea
  have e1 : A.tmps.getD p undef = .slice a ks.length c := ea
  obtain ⟨g, r, b⟩ := hR.up hw
  show Calls Tryz.prog _ #[A.tmps.getD p undef] w _
  rw [e1, hl.out]
  refine (readScalar_any w g a c ks r b hl.out).mono ?_
  rintro e w' ⟨rfl, hn⟩
  rw [hFi]
  exact ⟨_, rfl, hn, rfl⟩
theorem step_scl {D : Int} (hD : PP ∣ D - d0) (TT : HasTw w0 8) (CC : Em5 w0 6 0 D) (ZP : RowN w0 2 0 [0, 1]) (SS : HasSt w0 11) (II : Has3 w0 9 12 5 4) (X Y : Int) (hp : OnP PP (-1) d0 (X, Y)) {U : Nat → Int} (hU : W4 U) {v : Nat} (hv : wval U = (v : Int)) (hi : ops[i]? = some o) (p q j k : Nat) (hop : o.op = .call { callee := .value (.func 61), args := #[.tmp p, .tmp q], argTypes := ts }) (hj : waits md ops i j p = true) (hk : waits md ops i k q = true) (hFj : F j = Fact.eq (ag4 U)) (hFk : F k = EN [X, Y]) (hFi : F i = EN [(mlP v (X, Y)).1, (mlP v (X, Y)).2]) : StepOk Tryz.prog md ops Q F a0 w0 i := by
  refine step_call hi _ _ ts hop (by kernel_rfl) fun A w _ hw hF => ?_
  have ea := hF j p hj
  have eb := hF k q hk
  rw [hFj] at ea
  rw [hFk] at eb
  have e1 : A.tmps.getD p undef = ag4 U := ea
  obtain ⟨t, e2, L2⟩ := eb
  show Calls Tryz.prog _ #[A.tmps.getD p undef, A.tmps.getD q undef] w _
  rw [e1, e2]
  refine (scale_any w U hU v hv t X Y D L2 hp hD (TT.up hw) (CC.up hw) (ZP.up hw) (SS.up hw) (II.up hw)).mono ?_
  rintro e w' ⟨⟨s, X', Y', rfl, L, h1, h2⟩, hn⟩
  rw [hFi]
  exact ⟨_, rfl, hn, s, rfl, L.cg (by simp only [List.map_cons, List.map_nil, h1, h2])⟩
end

set_option maxHeartbeats 2000000 in
theorem implScale_any (w : World) (gk : Nat) (ak : Option Addr) (ck : Nat) (ks : List Int) (hk : Rd w gk ak .u8 ks) (bk : Byt ks) (g g' : Nat) (a a' : Option Addr) (c c' : Nat) (xs ys : List Int) (hx : Rd w g a .u8 xs) (hy : Rd w g' a' .u8 ys) (bx : Byt xs) (by' : Byt ys) (TT : HasTw w 8) (CC : Em5 w 6 0 dGo) (ZP : RowN w 2 0 [0, 1]) (SS : HasSt w 11) (II : Has3 w 9 12 5 4) :
    Calls Tryz.prog 28 #[.slice ak ks.length ck, .agg #[.slice a xs.length c, .slice a' ys.length c']] w fun r w' => NewP2 w.heap.size w' r (skX ks xs ys) (skY ks xs ys) ∧ Below w.heap.size w w' := by
  have T := two_cells w (.slice a xs.length c) (.slice a' ys.length c') 37
  have m1 : Below w.heap.size w (w.alloc (.cells #[.slice a xs.length c, .slice a' ys.length c'] 37)) := (Below.refl _ _).alloc (Nat.le_refl _) _
  have s1 : (w.alloc (.cells #[.slice a xs.length c, .slice a' ys.length c'] 37)).heap.size = w.heap.size + 1 := by simp
  have RX : RdOk w a xs := ⟨g, hx, bx⟩
  have RY : RdOk w a' ys := ⟨g', hy, by'⟩
  have RK : RdOk w ak ks := ⟨gk, hk, bk⟩
  have SW := hide (sc_words bk)
  obtain ⟨CX, CY⟩ := T
  clear hx hy bx by' hk bk
  go_enter Tryz.func28, Tryz.ntmps28
  go_upto_region 1 with fail
  generalize w.alloc (.cells #[.slice a xs.length c, .slice a' ys.length c'] 37) = wa at *
  have TZ := Two.new wa (.slice none 0 0) (.slice none 0 0) 37
  have mz : Below wa.heap.size wa (wa.alloc pObj) := (Below.refl _ _).alloc (Nat.le_refl _) _
  rw [s1] at TZ
  have N := nxt m1 mz
  replace CX := (mz.cell (block_lt_of_cell CX)).trans CX
  replace CY := (mz.cell (block_lt_of_cell CY)).trans CY
  obtain ⟨wr, hwr⟩ : ∃ W, W = wa.alloc pObj := ⟨_, rfl⟩
  change Two (wa.alloc pObj) _ _ _ at TZ
  rw [← hwr] at TZ N CX CY
  change Code.wp _ _ _ _ (wa.alloc pObj)
  rw [← hwr]
  clear hwr m1 mz s1
  replace RX := RX.up N
  replace RY := RY.up N
  replace RK := RK.up N
  replace TT := TT.up N
  replace CC := CC.up N
  replace ZP := ZP.up N
  replace SS := SS.up N
  replace II := II.up N
  refine region_newN_asg 74 6 5 3 5 10 4 11 6 _ _ (fun i => [Fact.eq (.agg #[.slice a xs.length c, .slice a' ys.length c']), TB [rpX xs ys, rpY xs ys] (rpB dGo xs ys), TB [rpX xs ys, rpY xs ys] (rpB dGo xs ys), EN [rpX xs ys, rpY xs ys], Fact.eq (.bool (rpB dGo xs ys)), NB wr 10].getD i Fact.no) [rpX xs ys, rpY xs ys] (.bool (rpB dGo xs ys)) (by kernel_rfl) rfl rfl rfl rfl rfl rfl iA (Nat.zero_lt_succ _) rfl rfl rfl (by kernel_rfl) (by kernel_rfl) (by kernel_rfl) rfl rfl rfl (by decide) (by kernel_rfl) ?_ ?_
  · intro i hi
    obtain rfl | rfl | rfl | rfl | rfl | rfl : i = 0 ∨ i = 1 ∨ i = 2 ∨ i = 3 ∨ i = 4 ∨ i = 5 := by omega
    · exact step_lP rfl 3 rfl (by kernel_rfl) _ rfl _ _ CX CY rfl
    · exact step_rp TT CC rfl 8 0 rfl (by kernel_rfl) RX RY rfl rfl
    · exact step_move rfl 9 1 (by exact Or.inl rfl) (by kernel_rfl) rfl
    · exact step_tx0 rfl 7 2 _ _ rfl (by kernel_rfl) rfl rfl
    · exact step_tx1 rfl 7 2 _ _ rfl (by kernel_rfl) rfl rfl
    · exact step_newA rfl rfl rfl
  intro vs1 q3 W1 v3 b4 l3 n E3 T3
  replace RK := RK.up n
  replace TT := TT.up n
  replace CC := CC.up n
  replace ZP := ZP.up n
  replace SS := SS.up n
  replace II := II.up n
  replace TZ := TZ.up n
  replace N := nxt N n
  clear n T3 l3 RX RY CX CY
  rw [rp_valid] at b4
  obtain ⟨ok1, hok1⟩ : ∃ b, b = validP xs ys := ⟨_, rfl⟩
  rw [← hok1] at b4
  have HK1 := hide hok1
  clear hok1
  simp only [puts, v3, b4, Act.put, List.setIfInBounds_toArray, List.set_cons_succ, List.set_cons_zero]
  clear v3 b4
  by_cases hbad : ks.length = 32 ∧ ok1 = true
  · obtain ⟨hl, rfl⟩ := hbad
    have HL := hide hl
    have VP := hide (valid_pt HK1.out.symm)
    have e1 : Hid (skX ks xs ys = fill (byt ((mlP (scV ks) (num xs, num ys)).1 % PP)) 32) := by
      show _ = _
      unfold skX
      rw [if_pos ⟨hl, HK1.out.symm⟩]
      rfl
    have e2 : Hid (skY ks xs ys = fill (byt ((mlP (scV ks) (num xs, num ys)).2 % PP)) 32) := by
      show _ = _
      unfold skY
      rw [if_pos ⟨hl, HK1.out.symm⟩]
      rfl
    rw [VP.out.2.1, VP.out.2.2] at E3
    have t1 : decide ((ks.length : Int) = 32) = true := by simp; omega
    have t2 : ((ks.length : Int) == 32) = true := by simp; omega
    clear hl
    generalize hm : mlP (scV ks) (num xs, num ys) = m at *
    have HM := hide hm
    clear hm
    go_upto_region 4 with fail
    clear t1 t2
    refine region_putD 5 4 4 24 _ (fun i => [Fact.eq (.slice ak ks.length ck), Fact.eq (ag4 (wv (fun j => ks.getD j 0) 32)), EN [num xs, num ys], EN [m.1, m.2], PD W1 (fill (byt (m.1 % PP)) 32) (fill (byt (m.2 % PP)) 32)].getD i Fact.no) (fill (byt (m.1 % PP)) 32) (fill (byt (m.2 % PP)) 32) _ (by kernel_rfl) rfl rfl rfl (by kernel_rfl) rfl TZ.there (by kernel_rfl) rfl ?_ ?_
    · intro i hi
      obtain rfl | rfl | rfl | rfl | rfl : i = 0 ∨ i = 1 ∨ i = 2 ∨ i = 3 ∨ i = 4 := by omega
      · exact step_mv rfl 0 rfl (by kernel_rfl) rfl rfl
      · exact step_rs rfl 20 0 HL rfl (by kernel_rfl) RK rfl rfl
      · exact step_lA rfl 5 rfl (by kernel_rfl) _ rfl _ _ E3 rfl
      · exact step_scl dGo_is TT CC ZP SS II _ _ VP.out.1 SW.out.1 SW.out.2 rfl 21 22 1 2 rfl (by kernel_rfl) (by kernel_rfl) rfl rfl (by show EN [m.1, m.2] = _; rw [← HM.out])
      · exact step_pt rfl 23 3 _ _ rfl (by kernel_rfl) rfl rfl
    intro vsL Wa Wb b b' k k' h h' na rg o1 o2 l1 l2 hne nb
    have z := N.size
    have NS := nb w w.heap.size (nxt N na) (by omega)
    simp only [puts, Act.put, List.setIfInBounds_toArray, List.set_cons_succ, List.set_cons_zero]
    clear na nb N TZ RK TT CC E3 ZP SS II
    obtain ⟨fs, hfs⟩ := uP
    go_wp2
    exact bodyPost_ret (v := .agg #[.slice b _ k, .slice b' _ k']) (results_cell_mid Tryz.results28 _ _ (w.heap.size + 1) [.slice b _ k, .slice b' _ k'] _ rfl rg hfs rfl iP) rfl ⟨by rw [e1.out, e2.out]; exact ⟨b, k, h, b', k', h', rfl, o1, o2, by omega, by omega, hne⟩, NS⟩
  · have e1 : Hid (skX ks xs ys = []) := by
      show _ = _
      unfold skX
      rw [if_neg (fun h => hbad ⟨h.1, HK1.out.trans h.2⟩)]
    have e2 : Hid (skY ks xs ys = []) := by
      show _ = _
      unfold skY
      rw [if_neg (fun h => hbad ⟨h.1, HK1.out.trans h.2⟩)]
    have c0 := TZ.c0
    have c1 := TZ.c1
    have f0 := TZ.f0
    have f1 := TZ.f1
    have TS := (TZ.set0 (.slice none 0 0)).set1 (.slice none 0 0)
    have NS := (N.setCell (p := ⟨w.heap.size + 1, 0, none⟩) (by show w.heap.size ≤ w.heap.size + 1; omega) (.slice none 0 0)).setCell (p := ⟨w.heap.size + 1, 1, none⟩) (by show w.heap.size ≤ w.heap.size + 1; omega) (.slice none 0 0)
    have k0 := TS.c0
    have k1 := TS.c1
    have FIN : Hid (NewP2 w.heap.size ((W1.setCell ⟨w.heap.size + 1, 0, none⟩ (.slice none 0 0)).setCell ⟨w.heap.size + 1, 1, none⟩ (.slice none 0 0)) (.returned (.agg #[.slice none 0 0, .slice none 0 0])) (skX ks xs ys) (skY ks xs ys) ∧ Below w.heap.size w ((W1.setCell ⟨w.heap.size + 1, 0, none⟩ (.slice none 0 0)).setCell ⟨w.heap.size + 1, 1, none⟩ (.slice none 0 0))) := ⟨by rw [e1.out, e2.out]; exact NewP2.nil, NS⟩
    clear E3 RK TT CC ZP SS II TZ N NS TS e1 e2 SW
    cases ok1 with
    | false =>
      clear hbad
      go_wp2
      exact bodyPost_ret (v := .agg #[.slice none 0 0, .slice none 0 0]) (by simp [results, Tryz.results28, go_sem, k0, k1]) rfl FIN.out
    | true =>
      have hl : ¬ ks.length = 32 := fun h => hbad ⟨h, rfl⟩
      have t1 : decide ((ks.length : Int) = 32) = false := by simp; omega
      have t2 : ((ks.length : Int) == 32) = false := by simp; omega
      clear hbad hl
      go_wp2
      exact bodyPost_ret (v := .agg #[.slice none 0 0, .slice none 0 0]) (by simp [results, Tryz.results28, go_sem, k0, k1]) rfl FIN.out
end Go.Proofs.YtliahigljoeeoaaGreatDoor

/-
  Two points that are the same, as the laws ask it.
-/
namespace Go.Proofs.YtliahigljoeeoaaGreatDoor
set_option maxRecDepth 100000
open Go Go.RowKit

set_option maxHeartbeats 2000000 in
theorem lwSamePoint_same (w : World) (g g' h h' : Nat) (a b p q : Option Addr) (ca cb cp cq : Nat) (ys ss : List Int) (h1 : Rd w g a .u8 ys) (h2 : Rd w h p .u8 ss) (h3 : Rd w g' b .u8 ys) (h4 : Rd w h' q .u8 ss) :
    Calls Tryz.prog 26 #[.agg #[.slice a ys.length ca, .slice p ss.length cp], .agg #[.slice b ys.length cb, .slice q ss.length cq]] w fun e w' => e = .returned (.bool true) ∧ Below w.heap.size w w' := by
  have n0 : Below w.heap.size w (w.alloc (.cells #[.slice a ys.length ca, .slice p ss.length cp] 37)) := (Below.refl _ _).alloc (Nat.le_refl _) _
  have n1 : Below w.heap.size w ((w.alloc (.cells #[.slice a ys.length ca, .slice p ss.length cp] 37)).alloc (.cells #[.slice b ys.length cb, .slice q ss.length cq] 37)) := n0.alloc (by simp) _
  have L1 := hide (lwSame_same _ g g' a b ca cb ys (h1.up n1) (h3.up n1))
  have L2 := hide (lwSame_same _ h h' p q cp cq ss (h2.up n1) (h4.up n1))
  go_enter Tryz.func26, Tryz.ntmps26
  go_wp2_with fail
  refine L1.out.mono ?_
  rintro e w3 ⟨rfl, rfl⟩
  go_wp2_with fail
  refine L2.out.mono ?_
  rintro e w4 ⟨rfl, rfl⟩
  go_wp2
  go_ret
  exact ⟨rfl, n1⟩
end Go.Proofs.YtliahigljoeeoaaGreatDoor

/-
  What the listed package-level variables give the walks: their cells.
-/
namespace Go.Proofs.YtliahigljoeeoaaGreatDoor
set_option maxRecDepth 100000
open Go.RowKit

theorem gTw : Tryz.prog.globalNamed "loop.example/g00004/impl.twiceP" = some 8 := by kernel_rfl
theorem tTw : (Tryz.prog.globals[8]?).map (·.type) = some 200 := by kernel_rfl
theorem uTw : Tryz.prog.underlying 200 = some (.array 5 51) := by kernel_rfl
theorem cTw : Tryz.prog.cellsOf 200 = 5 := by kernel_rfl
theorem cU64 : Tryz.prog.cellsOf 51 = 1 := by kernel_rfl
theorem tw_of_reads {W : World} (h : Lib.VarReads Tryz.prog W "loop.example/g00004/impl.twiceP" Rows.laid_loop_example_g00004_impl_twiceP) : HasTw W 8 := by
  obtain ⟨g, t, cs, fuel, p, hg, ht, hv, hd⟩ := h
  obtain rfl := Option.some.inj (gTw.symm.trans hg)
  obtain rfl := Option.some.inj (tTw.symm.trans ht)
  have hcs := Lib.cells_of_tab (zs := [4503599627370458, 4503599627370494, 4503599627370494, 4503599627370494, 4503599627370494]) uTw Tryz.underlying51 cU64 cTw hd
  intro k hk
  rw [World.var?_cell hg hv k]
  obtain ⟨l⟩ := cs
  simp only at hcs
  subst hcs
  obtain rfl | rfl | rfl | rfl | rfl : k = 0 ∨ k = 1 ∨ k = 2 ∨ k = 3 ∨ k = 4 := by omega
  all_goals rfl
/-- A listed variable reads as it is listed (the list bears plain data alone). -/
theorem reads_of {l : List (String × DataW Unit)} {W : World} (h : laidMetH Tryz.prog l W) (hp : (l.all fun x => x.2.handleName?.isNone) = true) {n : String} {d : DataW Unit} (hm : (n, d) ∈ l) : Lib.VarReads Tryz.prog W n d := by
  rw [MakeChecks.laidMetH_plain _ _ _ hp] at h
  exact Lib.laidMet.reads h hm
end Go.Proofs.YtliahigljoeeoaaGreatDoor

/-
  What the listed steps of the chain give the walks: their cells.
-/
namespace Go.Proofs.YtliahigljoeeoaaGreatDoor
set_option maxRecDepth 100000
open Go.RowKit

theorem gSt : Tryz.prog.globalNamed "loop.example/g00004/impl.chainSteps" = some 11 := by kernel_rfl
theorem tSt : (Tryz.prog.globals[11]?).map (·.type) = some 236 := by kernel_rfl
theorem gIn : Tryz.prog.globalNamed "loop.example/g00004/impl.inverseStep" = some 9 := by kernel_rfl
theorem tIn : (Tryz.prog.globals[9]?).map (·.type) = some 225 := by kernel_rfl
theorem cStep : Tryz.prog.cellsOf 225 = 3 := by kernel_rfl
theorem cInt : Tryz.prog.cellsOf 3 = 1 := by kernel_rfl
theorem step_cells {W : World} {base : Nat} {sp : Nat → Bool} {held : Bool} {fuel : Nat} {cs : List Value} {x y z : Int} {p : List MemPlace}
    (h : DataW.trod (fun _ => ()) Tryz.prog W base sp held fuel 225 cs = some (.agg [.lit (.int .i64 x), .lit (.int .i64 y), .lit (.int .i64 z)], p)) : cs = [.int .i64 x, .int .i64 y, .int .i64 z] := by
  have := Lib.ints_of_struct (k := .i64) (zs := [x, y, z]) Tryz.underlying225 (fun i f hf => by
    match i, hf with
    | 0, hf => cases hf; exact ⟨Tryz.underlying3, rfl, cInt⟩
    | 1, hf => cases hf; exact ⟨Tryz.underlying3, rfl, cInt⟩
    | 2, hf => cases hf; exact ⟨Tryz.underlying3, rfl, cInt⟩
    | i + 3, hf => simp at hf) (by rw [cStep]; rfl) h
  simpa using this
theorem three_of_reads {W : World} {n : String} {g : Nat} {x y z : Int} (hn : Tryz.prog.globalNamed n = some g) (ht : (Tryz.prog.globals[g]?).map (·.type) = some 225)
    (h : Lib.VarReads Tryz.prog W n (.agg [.lit (.int .i64 x), .lit (.int .i64 y), .lit (.int .i64 z)])) : Has3 W g x y z := by
  obtain ⟨g', t, cs, fuel, p, hg, ht', hv, hd⟩ := h
  obtain rfl := Option.some.inj (hn.symm.trans hg)
  obtain rfl := Option.some.inj (ht.symm.trans ht')
  have hcs := step_cells hd
  obtain ⟨l⟩ := cs
  simp only at hcs
  subst hcs
  exact ⟨by rw [World.var?_cell hg hv 0]; rfl, by rw [World.var?_cell hg hv 1]; rfl, by rw [World.var?_cell hg hv 2]; rfl⟩
theorem st_of_reads {W : World} (h : Lib.VarReads Tryz.prog W "loop.example/g00004/impl.chainSteps" Rows.laid_loop_example_g00004_impl_chainSteps) : HasSt W 11 := by
  obtain ⟨g, t, cs, fuel, p, hg, ht, hv, hd⟩ := h
  obtain rfl := Option.some.inj (gSt.symm.trans hg)
  obtain rfl := Option.some.inj (tSt.symm.trans ht)
  have key : ∀ j, j < 11 → (cs.toList.drop (j * 3)).take 3 = [.int .i64 (stL.getD (3 * j) 0), .int .i64 (stL.getD (3 * j + 1) 0), .int .i64 (stL.getD (3 * j + 2) 0)] := by
    intro j hj
    obtain ⟨f', d, q, h1, h2⟩ := Lib.array_elem u86 hd j hj
    rw [cStep] at h2
    obtain rfl | rfl | rfl | rfl | rfl | rfl | rfl | rfl | rfl | rfl | rfl : j = 0 ∨ j = 1 ∨ j = 2 ∨ j = 3 ∨ j = 4 ∨ j = 5 ∨ j = 6 ∨ j = 7 ∨ j = 8 ∨ j = 9 ∨ j = 10 := by omega
    all_goals
      cases h1
      exact step_cells h2
  intro i hi
  rw [World.var?_cell hg hv i]
  have k := key (i / 3) (by omega)
  have e : cs[i]? = ((cs.toList.drop (i / 3 * 3)).take 3)[i % 3]? := by
    rw [List.getElem?_take, if_pos (by omega), List.getElem?_drop, show i / 3 * 3 + i % 3 = i by omega]
    simp
  rw [e, k]
  rcases (show i % 3 = 0 ∨ i % 3 = 1 ∨ i % 3 = 2 by omega) with r | r | r
  all_goals
    rw [r]
    simp only [List.getElem?_cons_zero, List.getElem?_cons_succ]
    congr 3
    omega
end Go.Proofs.YtliahigljoeeoaaGreatDoor

/-
  What the listed package-level variables give the points' calls.
-/
namespace Go.Proofs.YtliahigljoeeoaaGreatDoor
set_option maxRecDepth 100000
open Go.RowKit

theorem gCf : Tryz.prog.globalNamed "loop.example/g00004/impl.curveFactor" = some 6 := by kernel_rfl
theorem tCf : (Tryz.prog.globals[6]?).map (·.type) = some 72 := by kernel_rfl
theorem uEl : Tryz.prog.underlying 72 = some (.array 5 51) := by kernel_rfl
theorem cEl : Tryz.prog.cellsOf 72 = 5 := by kernel_rfl
theorem cf_of_reads {W : World} (h : Lib.VarReads Tryz.prog W "loop.example/g00004/impl.curveFactor" Rows.laid_loop_example_g00004_impl_curveFactor) : Em5 W 6 0 dGo := by
  obtain ⟨g, t, cs, fuel, p, hg, ht, hv, hd⟩ := h
  obtain rfl := Option.some.inj (gCf.symm.trans hg)
  obtain rfl := Option.some.inj (tCf.symm.trans ht)
  have hcs := Lib.cells_of_tab (zs := [929955233495203, 466365720129213, 1662059464998953, 2033849074728123, 1442794654840575]) uEl Tryz.underlying51 cU64 cEl hd
  obtain ⟨l⟩ := cs
  simp only at hcs
  subst hcs
  have key : ∀ j v, (cl5 dL)[j]? = some v → W.cell? ⟨6, 0 + j, none⟩ = some v := fun j v hv' => by
    rw [Nat.zero_add, World.var?_cell hg hv j, List.getElem?_toArray]
    exact hv'
  exact ⟨dL, key, block_lt_of_cell (by simpa using key 0 _ rfl), dL_is⟩
theorem gZp : Tryz.prog.globalNamed "loop.example/g00004/impl.zeroPoint" = some 2 := by kernel_rfl
theorem tZp : (Tryz.prog.globals[2]?).map (·.type) = some 74 := by kernel_rfl
theorem gBp : Tryz.prog.globalNamed "loop.example/g00004/impl.basePoint" = some 1 := by kernel_rfl
theorem tBp : (Tryz.prog.globals[1]?).map (·.type) = some 74 := by kernel_rfl
theorem cAf : Tryz.prog.cellsOf 74 = 10 := by kernel_rfl
theorem row_of_reads {W : World} {n : String} {g : Nat} (e f : Nat → Int) (X Y : Int) (hn : Tryz.prog.globalNamed n = some g) (ht : (Tryz.prog.globals[g]?).map (·.type) = some 74)
    (h : Lib.VarReads Tryz.prog W n (.agg [.agg [.lit (.int .u64 (e 0)), .lit (.int .u64 (e 1)), .lit (.int .u64 (e 2)), .lit (.int .u64 (e 3)), .lit (.int .u64 (e 4))], .agg [.lit (.int .u64 (f 0)), .lit (.int .u64 (f 1)), .lit (.int .u64 (f 2)), .lit (.int .u64 (f 3)), .lit (.int .u64 (f 4))]]))
    (hx : Is5 e X) (hy : Is5 f Y) : RowN W g 0 [X, Y] := by
  obtain ⟨g', t, cs, fuel, p, hg, ht', hv, hd⟩ := h
  obtain rfl := Option.some.inj (hn.symm.trans hg)
  obtain rfl := Option.some.inj (ht.symm.trans ht')
  obtain ⟨y0, y1, m, hx', hl, h0, h1⟩ := ChangeShapes.trod_struct2 Tryz.underlying74 hd
  obtain ⟨d0, p0⟩ := y0
  obtain ⟨d1, p1⟩ := y1
  simp only [Prod.mk.injEq, DataW.agg.injEq, List.cons.injEq, and_true] at hx'
  obtain ⟨⟨rfl, rfl⟩, _⟩ := hx'
  have k0 := Lib.cells_of_tab (zs := [e 0, e 1, e 2, e 3, e 4]) uEl Tryz.underlying51 cU64 cEl h0
  have k1 := Lib.cells_of_tab (zs := [f 0, f 1, f 2, f 3, f 4]) uEl Tryz.underlying51 cU64 cEl h1
  rw [cAf] at hl
  obtain ⟨l⟩ := cs
  simp only at hl k0 k1
  rw [cEl] at k0 k1
  have e1 : l = clN [e, f] := by
    have s : l = (l.drop 0).take 5 ++ (l.drop 5).take 5 := by
      rw [List.drop_zero, List.take_of_length_le (l := l.drop 5) (by rw [List.length_drop]; omega), List.take_append_drop]
    rw [s]
    have k0' : (l.drop 0).take 5 = cl5 e := k0
    have k1' : (l.drop 5).take 5 = cl5 f := k1
    rw [k0', k1']
    simp [clN]
  subst e1
  have key : ∀ j v, (clN [e, f])[j]? = some v → W.cell? ⟨g, 0 + j, none⟩ = some v := fun j v hv' => by
    rw [Nat.zero_add, World.var?_cell hg hv j]
    simpa using hv'
  exact ⟨[e, f], key, block_lt_of_cell (by simpa using key 0 _ rfl), hx, hy, trivial⟩
theorem zp_of_reads {W : World} (h : Lib.VarReads Tryz.prog W "loop.example/g00004/impl.zeroPoint" Rows.laid_loop_example_g00004_impl_zeroPoint) : RowN W 2 0 [0, 1] :=
  row_of_reads (sm5 0) (sm5 1) 0 1 gZp tZp h (sm5_ok (by omega) (by omega)) (sm5_ok (by omega) (by omega))
end Go.Proofs.YtliahigljoeeoaaGreatDoor

/-
  Steps of the laws on points: structs of two lists read, copied, held against each other.
-/
namespace Go.Proofs.YtliahigljoeeoaaGreatDoor
set_option maxRecDepth 100000
open Go Go.RowKit

/-- A point of these two lists in blocks of their own. -/
def PR (xs ys : List Int) : Fact := ⟨fun v w => ∃ p q : Nat, v = .agg #[.slice (some ⟨p, 0, none⟩) xs.length xs.length, .slice (some ⟨q, 0, none⟩) ys.length ys.length] ∧ Blk w p .u8 xs ∧ Blk w q .u8 ys, fun n h => by
  obtain ⟨p, q, e, h1, h2⟩ := h
  exact ⟨p, q, e, h1.up n, h2.up n⟩⟩
section
variable {ops : Array Oper} {Q : Exit → Act → World → Prop} {md : Region.Mode} {F : Nat → Fact} {a0 : Act} {w0 : World} {i : Nat} {o : Oper} {ts : Array TypeId}
end
end Go.Proofs.YtliahigljoeeoaaGreatDoor

/-
  The law of PointValid.
-/
namespace Go.Proofs.YtliahigljoeeoaaGreatDoor
set_option maxRecDepth 100000
open Go Go.RowKit

end Go.Proofs.YtliahigljoeeoaaGreatDoor

/-
  The law of PointNegate.
-/
namespace Go.Proofs.YtliahigljoeeoaaGreatDoor
set_option maxRecDepth 100000
open Go Go.RowKit

end Go.Proofs.YtliahigljoeeoaaGreatDoor

/-
  The program's PointZero, PointBase, PointToLadder.
-/
namespace Go.Proofs.YtliahigljoeeoaaGreatDoor
set_option maxRecDepth 100000
open Go Go.RowKit

set_option maxHeartbeats 2000000 in
theorem implZero_any (w : World) (ZP : RowN w 2 0 [0, 1]) :
    Calls Tryz.prog 30 #[] w fun r w' => NewP2 w.heap.size w' r (fill (byt ((0) % PP)) 32) (fill (byt ((1) % PP)) 32) ∧ Below w.heap.size w w' := by
  have TZ := Two.new w (.slice none 0 0) (.slice none 0 0) 37
  have N : Below w.heap.size w (w.alloc pObj) := (Below.refl _ _).alloc (Nat.le_refl _) _
  go_enter Tryz.func30, Tryz.ntmps30
  go_upto_region 1 with fail
  obtain ⟨wr, hwr⟩ : ∃ W, W = w.alloc pObj := ⟨_, rfl⟩
  change Two (w.alloc pObj) _ _ _ at TZ
  rw [← hwr] at TZ N
  change Code.wp _ _ _ _ (w.alloc pObj)
  rw [← hwr]
  clear hwr
  replace ZP := ZP.up N
  refine region_putD 2 1 0 2 _ (fun i => [EN [0, 1], PD wr (fill (byt ((0) % PP)) 32) (fill (byt ((1) % PP)) 32)].getD i Fact.no) (fill (byt ((0) % PP)) 32) (fill (byt ((1) % PP)) 32) _ (by kernel_rfl) rfl rfl rfl (by kernel_rfl) rfl TZ.there (by kernel_rfl) rfl ?_ ?_
  · intro i hi
    obtain rfl | rfl : i = 0 ∨ i = 1 := by omega
    · exact step_glA rfl 2 rfl _ _ ZP rfl
    · exact step_pt rfl 1 0 _ _ rfl (by kernel_rfl) rfl rfl
  intro vsL Wa Wb b b' k k' h h' na rg o1 o2 l1 l2 hne nb
  have z := N.size
  have NS := nb w w.heap.size (nxt N na) (by omega)
  simp only [puts, Act.put, List.setIfInBounds_toArray, List.set_cons_succ, List.set_cons_zero]
  clear na nb N TZ ZP
  obtain ⟨fs, hfs⟩ := uP
  go_wp2
  exact bodyPost_ret (v := .agg #[.slice b _ k, .slice b' _ k']) (results_cell_mid Tryz.results30 _ _ w.heap.size [.slice b _ k, .slice b' _ k'] _ rfl rg hfs rfl iP) rfl ⟨⟨b, k, h, b', k', h', rfl, o1, o2, by omega, by omega, hne⟩, NS⟩
set_option maxHeartbeats 2000000 in
theorem implBase_any (w : World) (X Y : Int) (ZP : RowN w 1 0 [X, Y]) :
    Calls Tryz.prog 29 #[] w fun r w' => NewP2 w.heap.size w' r (fill (byt ((X) % PP)) 32) (fill (byt ((Y) % PP)) 32) ∧ Below w.heap.size w w' := by
  have TZ := Two.new w (.slice none 0 0) (.slice none 0 0) 37
  have N : Below w.heap.size w (w.alloc pObj) := (Below.refl _ _).alloc (Nat.le_refl _) _
  go_enter Tryz.func29, Tryz.ntmps29
  go_upto_region 1 with fail
  obtain ⟨wr, hwr⟩ : ∃ W, W = w.alloc pObj := ⟨_, rfl⟩
  change Two (w.alloc pObj) _ _ _ at TZ
  rw [← hwr] at TZ N
  change Code.wp _ _ _ _ (w.alloc pObj)
  rw [← hwr]
  clear hwr
  replace ZP := ZP.up N
  refine region_putD 2 1 0 2 _ (fun i => [EN [X, Y], PD wr (fill (byt ((X) % PP)) 32) (fill (byt ((Y) % PP)) 32)].getD i Fact.no) (fill (byt ((X) % PP)) 32) (fill (byt ((Y) % PP)) 32) _ (by kernel_rfl) rfl rfl rfl (by kernel_rfl) rfl TZ.there (by kernel_rfl) rfl ?_ ?_
  · intro i hi
    obtain rfl | rfl : i = 0 ∨ i = 1 := by omega
    · exact step_glA rfl 1 rfl _ _ ZP rfl
    · exact step_pt rfl 1 0 _ _ rfl (by kernel_rfl) rfl rfl
  intro vsL Wa Wb b b' k k' h h' na rg o1 o2 l1 l2 hne nb
  have z := N.size
  have NS := nb w w.heap.size (nxt N na) (by omega)
  simp only [puts, Act.put, List.setIfInBounds_toArray, List.set_cons_succ, List.set_cons_zero]
  clear na nb N TZ ZP
  obtain ⟨fs, hfs⟩ := uP
  go_wp2
  exact bodyPost_ret (v := .agg #[.slice b _ k, .slice b' _ k']) (results_cell_mid Tryz.results29 _ _ w.heap.size [.slice b _ k, .slice b' _ k'] _ rfl rg hfs rfl iP) rfl ⟨⟨b, k, h, b', k', h', rfl, o1, o2, by omega, by omega, hne⟩, NS⟩
end Go.Proofs.YtliahigljoeeoaaGreatDoor

/-
  The program's sum of two points is the model's. Numbers alone.
-/
namespace Go.Proofs.YtliahigljoeeoaaGreatDoor
set_option maxRecDepth 100000

theorem iv_eInv (z : Int) : iv z = z ^ eInv := by
  unfold iv
  rw [show eIv = eInv from by decide +kernel]
/-- A point in extended coordinates, told by two. -/
theorem ex_plain {X Y Z T : Int} {q : Int × Int} (h : Ex X Y Z T q) : X * Z ^ eInv % PP = q.1 % PP ∧ Y * Z ^ eInv % PP = q.2 % PP := by
  have k := pj_plain h.pj
  simp only [iv_eInv] at k
  exact k
theorem add_mod (p q : Int × Int) : addX p q % PP = (eadd (-1) d0 einv p q).1 % PP ∧ addY p q % PP = (eadd (-1) d0 einv p q).2 % PP := by
  have h := pAdd_pe p q
  have h1 := cong_dvd h.1
  have h2 := cong_dvd h.2
  unfold pAdd at h1 h2
  simp only [Int.emod_emod_of_dvd _ (Int.dvd_refl PP)] at h1 h2
  exact ⟨h1, h2⟩
theorem ps_ok {p q : Int × Int} (hp : OnP PP (-1) d0 p) (hq : OnP PP (-1) d0 q) :
    psX dGo p.1 p.2 q.1 q.2 * psZ dGo p.1 p.2 q.1 q.2 ^ eInv % PP = addX p q % PP ∧ psY dGo p.1 p.2 q.1 q.2 * psZ dGo p.1 p.2 q.1 q.2 ^ eInv % PP = addY p q % PP := by
  have e := ex_plain (ex_sum dGo_is hp hq (ex_one p) (ex_one q))
  have a := add_mod p q
  exact ⟨e.1.trans a.1.symm, e.2.trans a.2.symm⟩
theorem adX_eq (xs ys us vs : List Int) : adX dGo xs ys us vs = paX xs ys us vs := by
  unfold adX paX
  rw [rp_valid, rp_valid]
  by_cases h : validP xs ys = true ∧ validP us vs = true
  · rw [if_pos h, if_pos (by simp [h.1, h.2]), rpX_of h.1, rpY_of h.1, rpX_of h.2, rpY_of h.2]
    rw [(ps_ok (on_of h.1) (on_of h.2)).1]
  · rw [if_neg h, if_neg (by simpa using h)]
theorem adY_eq (xs ys us vs : List Int) : adY dGo xs ys us vs = paY xs ys us vs := by
  unfold adY paY
  rw [rp_valid, rp_valid]
  by_cases h : validP xs ys = true ∧ validP us vs = true
  · rw [if_pos h, if_pos (by simp [h.1, h.2]), rpX_of h.1, rpY_of h.1, rpX_of h.2, rpY_of h.2]
    rw [(ps_ok (on_of h.1) (on_of h.2)).2]
  · rw [if_neg h, if_neg (by simpa using h)]
end Go.Proofs.YtliahigljoeeoaaGreatDoor

/-
  The law of PointToLadder.
-/
namespace Go.Proofs.YtliahigljoeeoaaGreatDoor
set_option maxRecDepth 100000
open Go Go.RowKit

/-- The tables that sums of points need. -/
def HasA (w : World) : Prop := HasTw w 8 ∧ Em5 w 6 0 dGo ∧ HasSt w 11 ∧ Has3 w 9 12 5 4
theorem hasA_of {l : List (String × DataW Unit)} {W : World} (h : laidMetH Tryz.prog l W) (hp : (l.all fun x => x.2.handleName?.isNone) = true)
    (h1 : ("loop.example/g00004/impl.chainSteps", Rows.laid_loop_example_g00004_impl_chainSteps) ∈ l) (h2 : ("loop.example/g00004/impl.inverseStep", Rows.laid_loop_example_g00004_impl_inverseStep) ∈ l)
    (h3 : ("loop.example/g00004/impl.twiceP", Rows.laid_loop_example_g00004_impl_twiceP) ∈ l) (h4 : ("loop.example/g00004/impl.curveFactor", Rows.laid_loop_example_g00004_impl_curveFactor) ∈ l) : HasA W :=
  ⟨tw_of_reads (reads_of h hp h3), cf_of_reads (reads_of h hp h4), st_of_reads (reads_of h hp h1), three_of_reads gIn tIn (reads_of h hp h2)⟩
end Go.Proofs.YtliahigljoeeoaaGreatDoor
