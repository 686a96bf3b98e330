import Derived.Test.YthapcapiiknjdaaDoorGB38
import Derived.Test.YthapcapiiknjdaaDoorGB36
import Derived.Test.YthapcapiiknjdaaDoorGB37
import Derived.Deep.QuietTactic
import Derived.BigQuiet
import Derived.Test.YthapcapiiknjdaaDoorGB32
import Derived.Test.YthapcapiiknjdaaDoorGB33
import Derived.Test.YthapcapiiknjdaaDoorGB35
import Derived.Test.YthapcapiiknjdaaDoorGB34
import Derived.Test.YthapcapiiknjdaaDoorGB25

/-
  The program's PointDecode.
-/
namespace Go.Proofs.YthapcapiiknjdaaDoor
set_option maxRecDepth 100000
open Go Go.RowKit

theorem foF (q : Nat) (w : World) : (Instr.fieldAt 70 (.pointer (some ⟨q, 0, none⟩)) 1).run Tryd.prog w = .ok (.pointer (some ⟨q, 4, none⟩)) w := by kernel_rfl
set_option maxHeartbeats 4000000 in
theorem eqW9 (a0 a1 a2 a3 b0 b1 b2 b3 : Int) (w : World) :
    (Op.equalIn 9999 68 (.agg #[.int .u64 a0, .int .u64 a1, .int .u64 a2, .int .u64 a3]) (.agg #[.int .u64 b0, .int .u64 b1, .int .u64 b2, .int .u64 b3])).run Tryd.prog w = .ok (a0 == b0 && a1 == b1 && a2 == b2 && a3 == b3) w := by
  have u3 := Tryd.underlying54
  have a3' := Tryd.isAgg54
  have z3 := Tryd.sizeOf54
  rw [show (9999 : Nat) = 9998 + 1 from rfl, Op.equalIn]
  simp only [Sem.run_bind, run_underlying Tryd.underlying68, Result.andThen_ok]
  simp only [Std.Legacy.Range.forIn_eq_forIn_range', Std.Legacy.Range.size, Nat.sub_zero, Nat.add_sub_cancel, Nat.div_one, List.range'_succ, List.range'_zero, List.forIn_cons, List.forIn_nil]
  go_simp
  by_cases h0 : a0 = b0 <;> by_cases h1 : a1 = b1 <;> by_cases h2 : a2 = b2 <;> by_cases h3 : a3 = b3 <;> simp [h0, h1, h2, h3]
theorem eqB9 (p q : Bool) (w : World) : (Op.equalIn 9999 4 (.bool p) (.bool q)).run Tryd.prog w = .ok (p == q) w := by kernel_rfl
theorem partY (a0 a1 a2 a3 : Int) (p : Bool) (w : World) : (part 68 #[.int .u64 a0, .int .u64 a1, .int .u64 a2, .int .u64 a3, .bool p] 0).run Tryd.prog w = .ok (.agg #[.int .u64 a0, .int .u64 a1, .int .u64 a2, .int .u64 a3]) w := by kernel_rfl
theorem partB (a0 a1 a2 a3 : Int) (p : Bool) (w : World) : (part 4 #[.int .u64 a0, .int .u64 a1, .int .u64 a2, .int .u64 a3, .bool p] 4).run Tryd.prog w = .ok (.bool p) w := by kernel_rfl
set_option maxHeartbeats 4000000 in
theorem eqForm (a0 a1 a2 a3 b0 b1 b2 b3 : Int) (p q : Bool) (w : World) :
    (Op.equalIn 10000 70 (.agg #[.int .u64 a0, .int .u64 a1, .int .u64 a2, .int .u64 a3, .bool p]) (.agg #[.int .u64 b0, .int .u64 b1, .int .u64 b2, .int .u64 b3, .bool q])).run Tryd.prog w = .ok ((a0 == b0 && a1 == b1 && a2 == b2 && a3 == b3) && p == q) w := by
  have hs : Tryd.prog.stoodInHeld 70 = false := by kernel_rfl
  rw [show (10000 : Nat) = 9999 + 1 from rfl, Op.equalIn]
  simp only [Sem.run_bind, run_underlying Tryd.underlying70, Result.andThen_ok]
  cases h : (a0 == b0 && a1 == b1 && a2 == b2 && a3 == b3)
  · simp [hs, partY, partB, eqW9, eqB9, h]
  · cases k : (p == q) <;> simp [hs, partY, partB, eqW9, eqB9, h, k]
section
variable {ops : Array Oper} {Q : Exit → Act → World → Prop} {md : Region.Mode} {F : Nat → Fact} {a0 : Act} {w0 : World} {i : Nat} {o : Oper} {ts : Array TypeId}
theorem step_rc (hi : ops[i]? = some o) (p j : Nat) {a : Option Addr} {c : Nat} {xs : List Int} (hop : o.op = .call { callee := .value (.func 79), args := #[.tmp p], argTypes := ts })
    (hj : waits md ops i j p = true) (hO : OfOk w0 a xs) (hFj : F j = Fact.eq (.slice a 32 c)) (hFi : F i = EM (num (low7 xs))) : StepOk Tryd.prog md ops Q F a0 w0 i := by
  obtain ⟨g, hr, hb, hl⟩ := hO
  refine step_call hi _ _ ts hop (by kernel_rfl) fun A w _ hw hF => ?_
  have ea := hF j p hj
  rw [hFj] at ea
  show Calls Tryd.prog 79 #[A.tmps.getD p undef] w _
  rw [show A.tmps.getD p undef = _ from ea]
  refine (readCoordinate_any w g a c xs (hr.up hw) hb hl).mono ?_
  rintro r w' ⟨rfl, n⟩
  rw [hFi]
  exact ⟨_, rfl, n, elt (low7 xs), rfl, elt_ok (low7_byt hb) (by rw [low7_len]; exact hl)⟩
theorem step_ldb (hi : ops[i]? = some o) (p j : Nat) {q off : Nat} {v : Value} (hop : o.op = .load 4 (.tmp p)) (hj : waits md ops i j p = true) (hFj : F j = Fact.eq (.pointer (some ⟨q, off, none⟩))) (hc : w0.cell? ⟨q, off, none⟩ = some v) (hF : F i = Fact.eq v) : StepOk Tryd.prog md ops Q F a0 w0 i := by
  refine step_pure hi fun a w _ hw hf => ⟨v, ?_, by rw [hF]; exact rfl⟩
  have e := hf j p hj
  rw [hFj] at e
  have e' : a.eval (.tmp p) = .pointer (some ⟨q, off, none⟩) := e
  have c' : w.cell? ⟨q, off, none⟩ = some v := (hw.cell (block_lt_of_cell hc)).trans hc
  simp only [execOp, hop, e']
  go_simp
theorem step_pw (TT : HasTw w0 3) {D : Int} (CC : Em5 w0 2 0 D) (SS : HasSt w0 7) (II : Has3 w0 4 12 5 4) (RR : HasR w0) (hi : ops[i]? = some o) (p q j k : Nat) {A : Int} {odd : Bool} (hop : o.op = .call { callee := .value (.func 78), args := #[.tmp p, .tmp q], argTypes := ts })
    (hj : waits md ops i j p = true) (hk : waits md ops i k q = true) (hFj : F j = EM A) (hFk : F k = Fact.eq (.bool odd)) (hFi : F i = TB [pwX D A odd, A] (irB (pwZ D A))) : StepOk Tryd.prog md ops Q F a0 w0 i := by
  refine step_call hi _ _ ts hop (by kernel_rfl) fun a w _ hw hF => ?_
  have ea := hF j p hj
  have eb := hF k q hk
  rw [hFj] at ea
  rw [hFk] at eb
  obtain ⟨t, e1, L1⟩ := ea
  show Calls Tryd.prog 78 #[a.tmps.getD p undef, a.tmps.getD q undef] w _
  rw [e1, show a.tmps.getD q undef = _ from eb]
  refine (pointWith_any w t A odd L1 D (TT.up hw) (CC.up hw) (SS.up hw) (II.up hw) (RR.up hw)).mono ?_
  rintro r w' ⟨es, rfl, L, hn⟩
  rw [hFi]
  exact ⟨_, rfl, hn, es, rfl, L⟩
end
/-- A truth and a new point whose two lists lie apart. -/
def NewP3 (B : Nat) (w' : World) (e : Ending) (b : Bool) (xs ys : List Int) : Prop :=
  ∃ (a : Option Addr) (c g : Nat) (a' : Option Addr) (c' g' : Nat), e = .returned (.agg #[.bool b, .slice a xs.length c, .slice a' ys.length c']) ∧ Own w' g a .u8 xs ∧ Own w' g' a' .u8 ys ∧ B ≤ g ∧ B ≤ g' ∧ (0 < xs.length → 0 < ys.length → g ≠ g')
theorem NewP3.nil {B : Nat} {w : World} : NewP3 B w (.returned (.agg #[.bool false, .slice none 0 0, .slice none 0 0])) false [] [] := ⟨none, 0, B, none, 0, B, rfl, Own.nil _ _ _ _, Own.nil _ _ _ _, Nat.le_refl _, Nat.le_refl _, fun h => absurd h (by simp)⟩
theorem Tri.there {w : World} {p : Nat} {x y z : Value} (h : Tri w p x y z) : w.there p 0 3 := fun j hj => by
  obtain rfl | rfl | rfl : j = 0 ∨ j = 1 ∨ j = 2 := by omega
  · exact ⟨by rw [show (⟨p, 0 + 0, none⟩ : Addr) = ⟨p, 0, none⟩ from rfl, h.c0]; rfl, h.f0⟩
  · exact ⟨by rw [show (⟨p, 0 + 1, none⟩ : Addr) = ⟨p, 1, none⟩ from rfl, h.c1]; rfl, h.f1⟩
  · exact ⟨by rw [show (⟨p, 0 + 2, none⟩ : Addr) = ⟨p, 2, none⟩ from rfl, h.c2]; rfl, h.f2⟩
theorem Tri.put {w : World} {p : Nat} {x y z : Value} (h : Tri w p x y z) (u v t : Value) : Tri (((w.setCell ⟨p, 0, none⟩ u).setCell ⟨p, 1, none⟩ v).setCell ⟨p, 2, none⟩ t) p u v t := by
  have k0 : (w.setCell ⟨p, 0, none⟩ u).cell? ⟨p, 0, none⟩ = some u := World.cell?_setCell_same _ _ _ h.c0
  have k1 : (w.setCell ⟨p, 0, none⟩ u).cell? ⟨p, 1, none⟩ = some y := by rw [World.cell?_setCell_other (h := by simp)]; exact h.c1
  have k2 : (w.setCell ⟨p, 0, none⟩ u).cell? ⟨p, 2, none⟩ = some z := by rw [World.cell?_setCell_other (h := by simp)]; exact h.c2
  have l0 : ((w.setCell ⟨p, 0, none⟩ u).setCell ⟨p, 1, none⟩ v).cell? ⟨p, 0, none⟩ = some u := by rw [World.cell?_setCell_other (h := by simp)]; exact k0
  have l1 : ((w.setCell ⟨p, 0, none⟩ u).setCell ⟨p, 1, none⟩ v).cell? ⟨p, 1, none⟩ = some v := World.cell?_setCell_same _ _ _ k1
  have l2 : ((w.setCell ⟨p, 0, none⟩ u).setCell ⟨p, 1, none⟩ v).cell? ⟨p, 2, none⟩ = some z := by rw [World.cell?_setCell_other (h := by simp)]; exact k2
  refine ⟨?_, ?_, World.cell?_setCell_same _ _ _ l2, ?_, ?_, ?_⟩
  · rw [World.cell?_setCell_other (h := by simp)]; exact l0
  · rw [World.cell?_setCell_other (h := by simp)]; exact l1
  · rw [World.frozen?_setCell, World.frozen?_setCell, World.frozen?_setCell]; exact h.f0
  · rw [World.frozen?_setCell, World.frozen?_setCell, World.frozen?_setCell]; exact h.f1
  · rw [World.frozen?_setCell, World.frozen?_setCell, World.frozen?_setCell]; exact h.f2
def PD3 (w0 : World) (xs ys : List Int) : Fact := ⟨fun v w => ∃ (a a' : Option Addr) (c c' g g' : Nat), v = .agg #[.bool true, .slice a xs.length c, .slice a' ys.length c'] ∧ Own w g a .u8 xs ∧ Own w g' a' .u8 ys ∧ w0.heap.size ≤ g ∧ w0.heap.size ≤ g' ∧ (0 < xs.length → 0 < ys.length → g ≠ g'), fun n h => by
  obtain ⟨a, a', c, c', g, g', e, o, o', q⟩ := h
  exact ⟨a, a', c, c', g, g', e, o.up n, o'.up n, q⟩⟩
theorem bu3 (w : World) (a a' : Option Addr) (m m' c c' : Nat) : (Instr.build 44 #[(0, .bool true), (1, .agg #[.slice a m c, .slice a' m' c'])]).run Tryd.prog w = .ok (.agg #[.bool true, .slice a m c, .slice a' m' c']) w := by kernel_rfl
theorem i3R : (Tryd.prog.info? 44).map (·.size) = some 3 := by kernel_rfl
theorem u3R : ∃ fs, Tryd.prog.underlying 44 = some (.struct fs) := ⟨_, Tryd.underlying44⟩
theorem eq_W4 {U V : Nat → Int} (hU : W4 U) (hV : W4 V) : (U 0 == V 0 && U 1 == V 1 && U 2 == V 2 && U 3 == V 3) = decide (wval U = wval V) := by
  by_cases h : wval U = wval V
  · have e := hU.uniq hV h
    rw [e 0 (by omega), e 1 (by omega), e 2 (by omega), e 3 (by omega)]
    simp [h]
  · rw [decide_eq_false h]
    cases hq : (U 0 == V 0 && U 1 == V 1 && U 2 == V 2 && U 3 == V 3)
    · rfl
    · exfalso
      simp only [Bool.and_eq_true, beq_iff_eq] at hq
      exact h (by unfold wval; rw [hq.1.1.1, hq.1.1.2, hq.1.2, hq.2])
theorem lo_ok {u : Nat → Int} (h : W4 u) : W4 (loW u) := fun j hj => by
  have := h j hj
  unfold loW
  split
  · omega
  · exact this
theorem beq_form (U V : Nat → Int) (p q : Bool) (x y : Nat) (w : World) : (do eqGuard .neq 70 (.tmp x) (.tmp y) (FmV U p) (FmV V q); binOp .neq 70 (FmV U p) (FmV V q) : Sem Value).run Tryd.prog w = .ok (.bool (!((U 0 == V 0 && U 1 == V 1 && U 2 == V 2 && U 3 == V 3) && p == q))) w := by
  have h : (eqGuard .neq 70 (.tmp x) (.tmp y) (FmV U p) (FmV V q)).run Tryd.prog w = .ok () w := by kernel_rfl
  have h2 : (binOp .neq 70 (FmV U p) (FmV V q)).run Tryd.prog w = .ok (.bool (!((U 0 == V 0 && U 1 == V 1 && U 2 == V 2 && U 3 == V 3) && p == q))) w := by
    have k := eqForm (U 0) (U 1) (U 2) (U 3) (V 0) (V 1) (V 2) (V 3) p q w
    show (do pure (.bool (!(← Op.equal 70 (FmV U p) (FmV V q)))) : Sem Value).run Tryd.prog w = _
    rw [Sem.run_bind]
    have k' : (Op.equal 70 (FmV U p) (FmV V q)).run Tryd.prog w = _ := k
    rw [k']
    rfl
  rw [Sem.run_bind, h]
  exact h2
section
variable {ops : Array Oper} {Q : Exit → Act → World → Prop} {md : Region.Mode} {F : Nat → Fact} {a0 : Act} {w0 : World} {i : Nat} {o : Oper}
theorem step_lF (hi : ops[i]? = some o) (p : Nat) (hop : o.op = .load 70 (.tmp p)) (hp : apart ops p = true) (q : Nat) (h0 : a0.tmps.getD p undef = .pointer (some ⟨q, 0, none⟩)) (U : Nat → Int) (b : Bool) (hc : w0.rangeAt q 0 (fmC U b)) (lq : q < w0.heap.size) (hF : F i = Fact.eq (FmV U b)) : StepOk Tryd.prog md ops Q F a0 w0 i := by
  obtain ⟨fs, hu⟩ := uF
  refine step_load hi _ _ hop _ 5 hu rfl iF fun a w hb hw _ => ?_
  exact ⟨q, 0, _, (based_at hb p hp).trans h0, fun j v hv => (World.cell?_of_block (a := ⟨q, 0 + j, none⟩) (hw.block q lq)).trans (hc j v hv), rfl, by rw [hF]; exact rfl⟩
theorem step_neF (hi : ops[i]? = some o) (p q j k : Nat) (v : Int) (b c : Bool) (V : Nat → Int) (hV : W4 V) {t : TypeId} (hop : o.op = .binOp .neq 70 (.tmp p) (.tmp q) t)
    (hj : waits md ops i j p = true) (hk : waits md ops i k q = true) (hFj : F j = FM v b) (hFk : F k = Fact.eq (FmV V c)) (hFi : F i = Fact.eq (.bool (!(decide (v = wval V) && b == c)))) : StepOk Tryd.prog md ops Q F a0 w0 i := by
  refine step_pure hi fun a w _ _ hf => ⟨.bool (!(decide (v = wval V) && b == c)), ?_, by rw [hFi]; exact rfl⟩
  have h1 := hf j p hj
  have h2 := hf k q hk
  rw [hFj] at h1
  rw [hFk] at h2
  obtain ⟨U, e1, X, hX⟩ := h1
  have g1 : a.eval (.tmp p) = FmV U b := e1
  have g2 : a.eval (.tmp q) = FmV V c := h2
  have k := beq_form U V b c p q w
  rw [eq_W4 X hV, hX] at k
  simp only [execOp, hop, g1, g2]
  rw [Sem.run_bind, k]
  rfl
theorem step_pick {P : Program} (hi : ops[i]? = some o) (p q j k : Nat) {v : Value} {x : Value} (hop : o.op = .pick (.tmp p) (.const x) (.tmp q)) (hj : waits md ops i j p = true) (hk : waits md ops i k q = true) (hFj : F j = Fact.eq (.bool false)) (hFk : F k = Fact.eq v) (hFi : F i = Fact.eq v) : StepOk P md ops Q F a0 w0 i := by
  refine step_pure hi fun a w _ _ hf => ⟨v, ?_, by rw [hFi]; exact rfl⟩
  have h1 := hf j p hj
  have h2 := hf k q hk
  rw [hFj] at h1
  rw [hFk] at h2
  have g1 : a.eval (.tmp p) = .bool false := h1
  have g2 : a.eval (.tmp q) = v := h2
  have g3 : a.eval (.const x) = x := rfl
  simp only [execOp, hop, g1, g2, g3]
  rfl
end
theorem step_b3 {ops : Array Oper} {Q : Exit → Act → World → Prop} {md : Region.Mode} {F : Nat → Fact} {a0 : Act} {w0 : World} {i : Nat} {o : Oper} (hi : ops[i]? = some o) (p j : Nat) {xs ys : List Int} (hop : o.op = .build 44 #[(0, .const (.bool true)), (1, .tmp p)])
    (hj : waits md ops i j p = true) (hFj : F j = PD w0 xs ys) (hFi : F i = PD3 w0 xs ys) : StepOk Tryd.prog md ops Q F a0 w0 i := by
  refine step_pure hi fun a w _ _ hf => ?_
  have h1 := hf j p hj
  rw [hFj] at h1
  obtain ⟨b, b', c, c', g, g', e1, q⟩ := h1
  refine ⟨.agg #[.bool true, .slice b xs.length c, .slice b' ys.length c'], ?_, by rw [hFi]; exact ⟨b, b', c, c', g, g', rfl, q⟩⟩
  have g1 : a.eval (.tmp p) = .agg #[.slice b xs.length c, .slice b' ys.length c'] := e1
  have g2 : a.eval (.const (.bool true)) = .bool true := rfl
  have gg : (#[(0, Operand.const (.bool true)), (1, Operand.tmp p)].map fun (n, x) => (n, a.eval x)) = #[(0, .bool true), (1, .agg #[.slice b xs.length c, .slice b' ys.length c'])] := by simp [g1, g2]
  simp only [execOp, hop, gg]
  rw [Sem.run_bind, bu3]
  rfl
theorem region_put3 {ops : Array Oper} {Q : Exit → Act → World → Prop} {a0 : Act} {w : World} {id : Nat} {draw : Bool} (k jV pD pV : Nat) (o : Oper) (F : Nat → Fact) (xs ys : List Int) (q : Nat) (hT : textOk .any ops a0.tmps.size k = true) (hk : ops[k]? = some o) (hd : o.dst = none) (hop : o.op = .store 44 (.tmp pD) (.tmp pV))
    (hp : apart ops pD = true) (h0 : a0.tmps.getD pD undef = .pointer (some ⟨q, 0, none⟩)) (ht : w.there q 0 3)
    (wV : writes ops jV pV = true) (FV : F jV = PD3 w xs ys) (steps : ∀ i, i < k → StepOk Tryd.prog .any ops Q F a0 w i)
    (fin : ∀ (vs : Nat → Value) (W W' : World) (a a' : Option Addr) (c c' g g' : Nat), Below w.heap.size w W → W'.rangeAt q 0 [.bool true, .slice a xs.length c, .slice a' ys.length c'] → Own W' g a .u8 xs → Own W' g' a' .u8 ys → w.heap.size ≤ g → w.heap.size ≤ g' → (0 < xs.length → 0 < ys.length → g ≠ g') → (∀ (w1 : World) (B : Nat), Below B w1 W → B ≤ q → Below B w1 W') → Q .normal (puts vs a0 ops.toList) W') :
    (Code.region id ops draw).wp Tryd.prog Q a0 w := by
  refine region_store k o F (by kernel_rfl) hT hk hd steps fun a W hb hw hF => ?_
  have h2 := hF jV pV wV
  rw [FV] at h2
  obtain ⟨b, b', c, c', g, g', ev, o1, o2, l1, l2, hpp⟩ := h2
  have th := there_up (by omega) ht hw
  refine wp_store_mid 44 (.tmp pD) (.tmp pV) hop q 0 #[.bool true, .slice b xs.length c, .slice b' ys.length c'] ((based_at hb pD hp).trans h0) ev th i3R (by simp [Value.oneCell']) ?_
  obtain ⟨vs, hvs⟩ : ∃ vs : Nat → Value, ∀ d, a.tmps.getD d undef = vs d := ⟨_, fun _ => rfl⟩
  rw [hd]
  show Q .normal a _
  rw [puts_of hT rfl hb vs hvs]
  have lq := there_lt (by omega) ht
  refine fin vs W _ b b' c c' g g' hw (World.rangeAt_setCells_same W q 0 _ th) ?_ ?_ l1 l2 hpp (fun w1 B n hB => below_setCells hB _ _ _ n)
  · exact fun h0 => o1.of_block (setCells_other (by omega) _ 0 W) h0
  · exact fun h0 => o2.of_block (setCells_other (by omega) _ 0 W) h0
/-- The highest bit; whether the form comes back; what is decoded. -/
def oddW (xs : List Int) : Bool := decide (9223372036854775808 ≤ wv (fun j => xs.getD j 0) 32 3)
def fmB (D : Int) (xs : List Int) : Bool := decide (num (low7 xs) % PP = wval (loW (wv (fun j => xs.getD j 0) 32))) && (!decide (pwX D (num (low7 xs)) (oddW xs) % PP % 2 = 0)) == oddW xs
def idB (D : Int) (xs : List Int) : Bool := decide (xs.length = 32) && (irB (pwZ D (num (low7 xs))) && fmB D xs)
def idX (D : Int) (xs : List Int) : List Int := if idB D xs = true then fill (byt (pwX D (num (low7 xs)) (oddW xs) % PP)) 32 else []
def idY (D : Int) (xs : List Int) : List Int := if idB D xs = true then fill (byt (num (low7 xs) % PP)) 32 else []
theorem id_nil {D : Int} {xs : List Int} (h : idB D xs = false) : idX D xs = [] ∧ idY D xs = [] := by
  unfold idX idY
  rw [if_neg (by rw [h]; simp), if_neg (by rw [h]; simp)]
  exact ⟨rfl, rfl⟩
set_option maxHeartbeats 8000000 in
theorem implDecode_any (w : World) (g : Nat) (a : Option Addr) (c : Nat) (xs : List Int) (hr : Rd w g a .u8 xs) (hb : Byt xs) (D : Int) (TT : HasTw w 3) (CC : Em5 w 2 0 D) (SS : HasSt w 7) (II : Has3 w 4 12 5 4) (RR : HasR w) :
    Calls Tryd.prog 40 #[.slice a xs.length c] w fun r w' => NewP3 w.heap.size w' r (idB D xs) (idX D xs) (idY D xs) ∧ Below w.heap.size w w' := by
  have TZ := Tri.new w (.bool false) (.slice none 0 0) (.slice none 0 0) 44
  have N : Below w.heap.size w (w.alloc prObj) := (Below.refl _ _).alloc (Nat.le_refl _) _
  have T := fun W => isFieldSize_any W a c xs.length
  by_cases hl : xs.length = 32
  · have RF := hide (fun W (n : Below w.heap.size w W) => readForm_any W g a c xs (hr.up n) hb hl)
    have OX := hide (fun W (n : Below w.heap.size w W) => of_ok (hr.up n) hb hl)
    have LI : Hid (decide (xs.length = 32) = true) := decide_eq_true hl
    rw [hl] at T ⊢
    clear hl hr
    go_enter Tryd.func40, Tryd.ntmps40
    go_wp2_with fail
    change Calls _ _ _ (w.alloc prObj) _
    generalize w.alloc prObj = wa at *
    refine (T wa).mono ?_
    rintro e wb ⟨rfl, eW⟩
    subst eW
    clear T
    go_wp2_with fail
    refine (RF.out wb N).mono ?_
    rintro r w1 ⟨u, rfl, hu, hU, n1⟩
    replace TZ := TZ.up n1
    replace N := nxt N n1
    clear n1 RF
    obtain ⟨odd, hodd⟩ : ∃ b, b = decide (9223372036854775808 ≤ u 3) := ⟨_, rfl⟩
    rw [← hodd]
    have HO : Hid (odd = oddW xs) := by show _ = _; rw [hodd, hU]; rfl
    have HU := hide hU
    clear hodd hU
    simp only [FmV, fmC]
    have n2 : Below w1.heap.size w1 (w1.alloc (.cells #[.int .u64 (loW u 0), .int .u64 (loW u 1), .int .u64 (loW u 2), .int .u64 (loW u 3), .bool odd] 70)) := (Below.refl _ _).alloc (Nat.le_refl _) _
    have hB : (w1.alloc (.cells #[.int .u64 (loW u 0), .int .u64 (loW u 1), .int .u64 (loW u 2), .int .u64 (loW u 3), .bool odd] 70)).heap[w1.heap.size]? = some (.cells #[.int .u64 (loW u 0), .int .u64 (loW u 1), .int .u64 (loW u 2), .int .u64 (loW u 3), .bool odd] 70) := heap_alloc_last _ _
    replace TZ := TZ.up n2
    replace N := nxt N n2
    clear n2
    go_upto_region 4 with fail
    generalize w1.alloc (.cells #[.int .u64 (loW u 0), .int .u64 (loW u 1), .int .u64 (loW u 2), .int .u64 (loW u 3), .bool odd] 70) = w2 at *
    have FC : ∀ W : World, W.heap[w1.heap.size]? = w2.heap[w1.heap.size]? → W.cell? ⟨w1.heap.size, 0, none⟩ = some (.int .u64 (loW u 0)) ∧ W.cell? ⟨w1.heap.size, 1, none⟩ = some (.int .u64 (loW u 1)) ∧ W.cell? ⟨w1.heap.size, 2, none⟩ = some (.int .u64 (loW u 2)) ∧ W.cell? ⟨w1.heap.size, 3, none⟩ = some (.int .u64 (loW u 3)) ∧ W.cell? ⟨w1.heap.size, 4, none⟩ = some (.bool odd) := fun W h => by
      rw [hB] at h
      refine ⟨?_, ?_, ?_, ?_, ?_⟩ <;> (unfold World.cell?; simp only; rw [h]; rfl)
    have lB : w1.heap.size < w2.heap.size := (Array.getElem?_eq_some_iff.1 hB).1
    have CB := (FC w2 rfl).2.2.2.2
    have HFC := hide FC
    clear FC hB
    replace OX := hide (OX.out w2 N)
    replace TT := TT.up N
    replace CC := CC.up N
    replace SS := SS.up N
    replace II := II.up N
    replace RR := RR.up N
    refine region_newN_late 58 9 8 6 4 18 7 19 5 _ _ (fun i => [Fact.eq (.slice a 32 c), EM (num (low7 xs)), Fact.eq (.pointer (some ⟨w1.heap.size, 4, none⟩)), Fact.eq (.bool odd), TB [pwX D (num (low7 xs)) odd, num (low7 xs)] (irB (pwZ D (num (low7 xs)))), TB [pwX D (num (low7 xs)) odd, num (low7 xs)] (irB (pwZ D (num (low7 xs)))), EN [pwX D (num (low7 xs)) odd, num (low7 xs)], Fact.eq (.bool (irB (pwZ D (num (low7 xs))))), NB w2 10].getD i Fact.no) [pwX D (num (low7 xs)) odd, num (low7 xs)] (.bool (irB (pwZ D (num (low7 xs))))) (by kernel_rfl) rfl rfl rfl rfl rfl rfl iA (Nat.zero_lt_succ _) rfl rfl (by kernel_rfl) (by kernel_rfl) (by kernel_rfl) rfl rfl rfl (by decide) (by decide) (by kernel_rfl) ?_ ?_ ?_
    · intro j d v u u' hw h
      obtain rfl : j = 5 := late_one (by kernel_rfl) hw
      exact h
    · intro i hi
      obtain rfl | rfl | rfl | rfl | rfl | rfl | rfl | rfl | rfl : i = 0 ∨ i = 1 ∨ i = 2 ∨ i = 3 ∨ i = 4 ∨ i = 5 ∨ i = 6 ∨ i = 7 ∨ i = 8 := by omega
      · exact step_mv rfl 0 rfl (by kernel_rfl) rfl rfl
      · exact step_rc rfl 13 0 rfl (by kernel_rfl) OX.out rfl rfl
      · exact step_fld rfl 70 3 1 rfl (by kernel_rfl) _ _ rfl (foF _) rfl
      · exact step_ldb rfl 15 2 rfl (by kernel_rfl) rfl CB rfl
      · exact step_pw TT CC SS II RR rfl 14 16 1 3 rfl (by kernel_rfl) (by kernel_rfl) rfl rfl rfl
      · exact step_move rfl 17 4 (by exact Or.inl rfl) (by kernel_rfl) rfl
      · exact step_tx0 rfl 12 5 _ _ rfl (by kernel_rfl) rfl rfl
      · exact step_tx1 rfl 12 5 _ _ rfl (by kernel_rfl) rfl rfl
      · exact step_newA rfl rfl rfl
    intro vs4 q4 W4' v4 b5 l4 n R4 T4
    replace TZ := TZ.up n
    replace N := nxt N n
    have HB := HFC.out W4' (n.block w1.heap.size lB)
    clear n T4 OX TT CC SS II RR CB HFC
    obtain ⟨gd, hgd⟩ : ∃ b, b = irB (pwZ D (num (low7 xs))) := ⟨_, rfl⟩
    rw [← hgd] at b5
    have HG := hide hgd
    clear hgd
    simp only [puts, v4, b5, Act.put, List.setIfInBounds_toArray, List.set_cons_succ, List.set_cons_zero]
    clear v4 b5
    cases gd with
    | false =>
      have eB : idB D xs = false := by unfold idB; rw [LI.out, ← HG.out]; rfl
      obtain ⟨eX, eY⟩ := id_nil eB
      clear HB R4
      go_upto_region 5 with fail
      go_quiet (fail)
      have nd : Below W4'.heap.size W4' (W4'.drewN nq) := (Only.drewN W4' W4'.heap.size nq).below (Nat.le_refl _)
      replace TZ := TZ.up nd
      replace N := nxt N nd
      clear nd
      generalize W4'.drewN nq = Wq at *
      have c0 := TZ.c0
      have c1 := TZ.c1
      have c2 := TZ.c2
      have f0 := TZ.f0
      have f1 := TZ.f1
      have f2 := TZ.f2
      have NS := ((N.setCell (p := ⟨w.heap.size, 0, none⟩) (Nat.le_refl _) (.bool false)).setCell (p := ⟨w.heap.size, 1, none⟩) (Nat.le_refl _) (.slice none 0 0)).setCell (p := ⟨w.heap.size, 2, none⟩) (Nat.le_refl _) (.slice none 0 0)
      have TS := TZ.put (.bool false) (.slice none 0 0) (.slice none 0 0)
      go_wp2
      have k0 := TS.c0
      have k1 := TS.c1
      have k2 := TS.c2
      exact bodyPost_ret (v := .agg #[.bool false, .slice none 0 0, .slice none 0 0]) (by simp [results, Tryd.results40, go_sem, k0, k1, k2]) rfl ⟨by rw [eB, eX, eY]; exact NewP3.nil, NS⟩
    | true =>
      have RF : W4'.rangeAt w1.heap.size 0 (fmC (loW u) odd) := fun j v hv => by
        obtain ⟨h0, h1, h2, h3, h4⟩ := HB
        have hj : j < 5 := (List.getElem?_eq_some_iff.1 hv).1
        obtain rfl | rfl | rfl | rfl | rfl : j = 0 ∨ j = 1 ∨ j = 2 ∨ j = 3 ∨ j = 4 := by omega
        · cases hv; exact h0
        · cases hv; exact h1
        · cases hv; exact h2
        · cases hv; exact h3
        · cases hv; exact h4
      have lB' : w1.heap.size < W4'.heap.size := block_lt_of_cell HB.1
      clear HB
      go_upto_region 5 with fail
      refine region_guard (fun i => [Fact.eq (.bool true), Fact.eq (.bool (!true)), Fact.eq (.bool (!true)), EN [pwX D (num (low7 xs)) odd, num (low7 xs)], FM (num (low7 xs) % PP) (!decide (pwX D (num (low7 xs)) odd % PP % 2 = 0)), Fact.eq (FmV (loW u) odd), Fact.eq (.bool (!(decide (num (low7 xs) % PP = wval (loW u)) && (!decide (pwX D (num (low7 xs)) odd % PP % 2 = 0)) == odd))), Fact.eq (.bool (!(decide (num (low7 xs) % PP = wval (loW u)) && (!decide (pwX D (num (low7 xs)) odd % PP % 2 = 0)) == odd)))].getD i Fact.no) (by kernel_rfl) (by kernel_rfl) ?_ ?_ ?_
      · intro i hi
        have hi8 : i < 8 := hi
        obtain rfl | rfl | rfl | rfl | rfl | rfl | rfl | rfl : i = 0 ∨ i = 1 ∨ i = 2 ∨ i = 3 ∨ i = 4 ∨ i = 5 ∨ i = 6 ∨ i = 7 := by omega
        · exact step_mv rfl 5 rfl (by kernel_rfl) rfl rfl
        · exact step_notb rfl 20 0 rfl (by kernel_rfl) rfl rfl
        · exact step_move rfl 21 1 (by exact Or.inl rfl) (by kernel_rfl) rfl
        · exact step_lA rfl 4 rfl (by kernel_rfl) _ rfl _ _ R4 rfl
        · exact step_form rfl 23 3 _ _ rfl (by kernel_rfl) rfl rfl
        · exact step_lF rfl 3 rfl (by kernel_rfl) _ rfl _ _ RF lB' rfl
        · exact step_neF rfl 24 25 4 5 _ _ _ _ (lo_ok hu) rfl (by kernel_rfl) (by kernel_rfl) rfl rfl rfl
        · exact step_pick rfl 22 26 2 6 rfl (by kernel_rfl) (by kernel_rfl) rfl rfl rfl
      · intro i o ho A W hf
        have hi8 : i < 8 := (Array.getElem?_eq_some_iff.1 ho).1
        obtain rfl | rfl | rfl | rfl | rfl | rfl | rfl | rfl : i = 0 ∨ i = 1 ∨ i = 2 ∨ i = 3 ∨ i = 4 ∨ i = 5 ∨ i = 6 ∨ i = 7 := by omega
        · cases ho; exact wanted_none rfl
        · cases ho; exact wanted_none rfl
        · cases ho; exact wanted_none rfl
        · cases ho; exact wanted_some rfl (by kernel_rfl) (hf 2 22 (by kernel_rfl))
        · cases ho; exact wanted_some rfl (by kernel_rfl) (hf 2 22 (by kernel_rfl))
        · cases ho; exact wanted_some rfl (by kernel_rfl) (hf 2 22 (by kernel_rfl))
        · cases ho; exact wanted_some rfl (by kernel_rfl) (hf 2 22 (by kernel_rfl))
        · cases ho; exact wanted_none rfl
      intro A W hb' hw hF
      have e2 := hF 7 27 (by kernel_rfl)
      obtain ⟨vs, hvs⟩ : ∃ vs : Nat → Value, ∀ d, A.tmps.getD d undef = vs d := ⟨_, fun _ => rfl⟩
      rw [hvs] at e2
      rw [puts_guard (md := .any) (by kernel_rfl) rfl hb' vs hvs]
      replace TZ := TZ.up hw
      replace N := nxt N hw
      replace R4 := R4.up hw
      clear hb' hF hvs hw RF
      obtain ⟨fe, hfe⟩ : ∃ b, b = (decide (num (low7 xs) % PP = wval (loW u)) && (!decide (pwX D (num (low7 xs)) odd % PP % 2 = 0)) == odd) := ⟨_, rfl⟩
      have e3 : vs 27 = .bool (!fe) := by rw [hfe]; exact e2
      have HE := hide hfe
      clear e2 hfe
      simp only [puts, e3, Act.put, List.setIfInBounds_toArray, List.set_cons_succ, List.set_cons_zero]
      clear e3 lB'
      have EB : Hid (idB D xs = fe) := by
        show _ = _
        unfold idB fmB
        rw [LI.out, ← HG.out, HE.out, HO.out, HU.out]
        rfl
      cases fe with
      | false =>
        have eB := EB.out
        obtain ⟨eX, eY⟩ := id_nil eB
        clear EB HE R4
        have c0 := TZ.c0
        have c1 := TZ.c1
        have c2 := TZ.c2
        have f0 := TZ.f0
        have f1 := TZ.f1
        have f2 := TZ.f2
        have NS := ((N.setCell (p := ⟨w.heap.size, 0, none⟩) (Nat.le_refl _) (.bool false)).setCell (p := ⟨w.heap.size, 1, none⟩) (Nat.le_refl _) (.slice none 0 0)).setCell (p := ⟨w.heap.size, 2, none⟩) (Nat.le_refl _) (.slice none 0 0)
        have TS := TZ.put (.bool false) (.slice none 0 0) (.slice none 0 0)
        go_wp2
        have k0 := TS.c0
        have k1 := TS.c1
        have k2 := TS.c2
        exact bodyPost_ret (v := .agg #[.bool false, .slice none 0 0, .slice none 0 0]) (by simp [results, Tryd.results40, go_sem, k0, k1, k2]) rfl ⟨by rw [eB, eX, eY]; exact NewP3.nil, NS⟩
      | true =>
        have e1 := hide (show idX D xs = (fill (byt ((pwX D (num (low7 xs)) odd) % PP)) 32) by unfold idX; rw [if_pos EB.out, ← HO.out])
        have e2 := hide (show idY D xs = (fill (byt ((num (low7 xs)) % PP)) 32) by unfold idY; rw [if_pos EB.out])
        go_upto_region 7 with fail
        refine region_put3 3 2 2 31 _ (fun i => [EN [pwX D (num (low7 xs)) odd, num (low7 xs)], PD W (fill (byt ((pwX D (num (low7 xs)) odd) % PP)) 32) (fill (byt ((num (low7 xs)) % PP)) 32), PD3 W (fill (byt ((pwX D (num (low7 xs)) odd) % PP)) 32) (fill (byt ((num (low7 xs)) % PP)) 32)].getD i Fact.no) (fill (byt ((pwX D (num (low7 xs)) odd) % PP)) 32) (fill (byt ((num (low7 xs)) % PP)) 32) _ (by kernel_rfl) rfl rfl rfl (by kernel_rfl) rfl TZ.there (by kernel_rfl) rfl ?_ ?_
        · intro i hi
          obtain rfl | rfl | rfl : i = 0 ∨ i = 1 ∨ i = 2 := by omega
          · exact step_lA rfl 4 rfl (by kernel_rfl) _ rfl _ _  R4 rfl
          · exact step_pt rfl 29 0 _ _ rfl (by kernel_rfl) rfl rfl
          · exact step_b3 rfl 30 1 rfl (by kernel_rfl) rfl rfl
        intro vsL Wa Wb b b' k k' h h' na rg o1 o2 l1 l2 hne nb
        have z := N.size
        have NS := nb w w.heap.size (nxt N na) (by omega)
        simp only [puts, Act.put, List.setIfInBounds_toArray, List.set_cons_succ, List.set_cons_zero]
        clear na nb N TZ R4
        obtain ⟨fs, hfs⟩ := u3R
        go_wp2
        exact bodyPost_ret (v := .agg #[.bool true, .slice b _ k, .slice b' _ k']) (results_cell_mid Tryd.results40 _ _ w.heap.size [.bool true, .slice b _ k, .slice b' _ k'] _ rfl rg hfs rfl i3R) rfl ⟨by rw [EB.out, e1.out, e2.out]; exact ⟨b, k, h, b', k', h', rfl, o1, o2, by omega, by omega, hne⟩, NS⟩
  · have eB : idB D xs = false := by unfold idB; rw [decide_eq_false hl]; rfl
    obtain ⟨eX, eY⟩ := id_nil eB
    have t1 : decide (xs.length = 32) = false := decide_eq_false hl
    rw [t1] at T
    clear hl t1 hr TT CC SS II RR
    go_enter Tryd.func40, Tryd.ntmps40
    go_wp2_with fail
    change Calls _ _ _ (w.alloc prObj) _
    change Tri (w.alloc prObj) _ _ _ _ at TZ
    generalize w.alloc prObj = wa at *
    refine (T wa).mono ?_
    rintro e wb ⟨rfl, eW⟩
    subst eW
    clear T
    have c0 := TZ.c0
    have c1 := TZ.c1
    have c2 := TZ.c2
    have f0 := TZ.f0
    have f1 := TZ.f1
    have f2 := TZ.f2
    have NS := ((N.setCell (p := ⟨w.heap.size, 0, none⟩) (Nat.le_refl _) (.bool false)).setCell (p := ⟨w.heap.size, 1, none⟩) (Nat.le_refl _) (.slice none 0 0)).setCell (p := ⟨w.heap.size, 2, none⟩) (Nat.le_refl _) (.slice none 0 0)
    have TS := TZ.put (.bool false) (.slice none 0 0) (.slice none 0 0)
    go_wp2
    have k0 := TS.c0
    have k1 := TS.c1
    have k2 := TS.c2
    exact bodyPost_ret (v := .agg #[.bool false, .slice none 0 0, .slice none 0 0]) (by simp [results, Tryd.results40, go_sem, k0, k1, k2]) rfl ⟨by rw [eB, eX, eY]; exact NewP3.nil, NS⟩
end Go.Proofs.YthapcapiiknjdaaDoor

/-
  The program's sum of two points is the model's. Numbers alone.
-/
namespace Go.Proofs.YthapcapiiknjdaaDoor
set_option maxRecDepth 100000

theorem iv_eInv (z : Int) : iv z = z ^ eInv := by
  unfold iv
  rw [show eIv = eInv from by decide +kernel]
theorem add_mod (p q : Int × Int) : addX p q % PP = (eadd (-1) d0 einv p q).1 % PP ∧ addY p q % PP = (eadd (-1) d0 einv p q).2 % PP := by
  have h := pAdd_pe p q
  have h1 := cong_dvd h.1
  have h2 := cong_dvd h.2
  unfold pAdd at h1 h2
  simp only [Int.emod_emod_of_dvd _ (Int.dvd_refl PP)] at h1 h2
  exact ⟨h1, h2⟩
end Go.Proofs.YthapcapiiknjdaaDoor

/-
  The decoding of the program is the model's. Numbers alone.
-/
namespace Go.Proofs.YthapcapiiknjdaaDoor
set_option maxRecDepth 100000
open Go Go.RowKit

theorem lsum_set' {xs : List Int} {v : Int} : ∀ n, n ≤ 31 → lsum (fun j => (xs.set 31 v).getD j 0) n = lsum (fun j => xs.getD j 0) n
  | 0, _ => rfl
  | n + 1, h => by
    rw [lsum, lsum, lsum_set' n (by omega)]
    congr 2
    simp [List.getD_eq_getElem?_getD, show ¬ (31 = n) by omega]
theorem num_set' {xs : List Int} {v : Int} (hl : xs.length = 32) : num (xs.set 31 v) = num xs + (v - xs.getD 31 0) * 256 ^ 31 := by
  unfold num
  rw [List.length_set, hl]
  show lsum (fun j => (xs.set 31 v).getD j 0) 31 + (xs.set 31 v).getD 31 0 * 256 ^ 31 = lsum (fun j => xs.getD j 0) 31 + xs.getD 31 0 * 256 ^ 31 + (v - xs.getD 31 0) * 256 ^ 31
  rw [lsum_set' 31 (by omega), Int.sub_mul]
  have e : (xs.set 31 v).getD 31 0 = v := by simp [List.getD_eq_getElem?_getD, hl]
  rw [e]
  omega
theorem w3_top {a : Nat → Int} (h : Bt a) : wv a 32 3 = wv a 31 3 + a 31 * 72057594037927936 ∧ 0 ≤ wv a 31 3 ∧ wv a 31 3 < 72057594037927936 := by
  have e : wv a 32 3 = wv a 31 3 + if (31 : Nat) / 8 = 3 then a 31 * 256 ^ (31 % 8) else 0 := rfl
  rw [if_pos (by decide)] at e
  have b := wv_bd h 3 31
  have k : (256 : Int) ^ (min (31 - 8 * 3) 8) = 72057594037927936 := by decide
  rw [k] at b
  exact ⟨by rw [e]; rfl, b.1, b.2⟩
theorem odd_is {xs : List Int} (hb : Byt xs) : oddW xs = decide (128 ≤ xs.getD 31 0) := by
  unfold oddW
  have h := w3_top (a := fun j => xs.getD j 0) (fun j => hb j)
  have e : wv (fun j => xs.getD j 0) 32 3 = wv (fun j => xs.getD j 0) 31 3 + xs.getD 31 0 * 72057594037927936 := h.1
  rw [e]
  have v := hb 31
  by_cases c : 128 ≤ xs.getD 31 0
  · rw [decide_eq_true c]
    exact decide_eq_true (by omega)
  · rw [decide_eq_false c]
    exact decide_eq_false (by omega)
theorem lo_val {xs : List Int} (hb : Byt xs) (hl : xs.length = 32) : wval (loW (wv (fun j => xs.getD j 0) 32)) = num (low7 xs) := by
  have s := wv_sum (fun j => xs.getD j 0) 32 (Nat.le_refl _)
  have e : num (low7 xs) = num xs + (xs.getD 31 0 % 128 - xs.getD 31 0) * 256 ^ 31 := num_set' hl
  have n : num xs = lsum (fun j => xs.getD j 0) 32 := by unfold num; rw [hl]
  rw [e, n, ← s]
  have h := w3_top (a := fun j => xs.getD j 0) (fun j => hb j)
  have e3 : wv (fun j => xs.getD j 0) 32 3 = wv (fun j => xs.getD j 0) 31 3 + xs.getD 31 0 * 72057594037927936 := h.1
  have h1 := h.2
  have v := hb 31
  have p : (256 : Int) ^ 31 = 72057594037927936 * 6277101735386680763835789423207666416102355444464034512896 := by decide
  rw [p]
  unfold wval loW
  simp only [if_true, show ¬ ((0 : Nat) = 3) by decide, show ¬ ((1 : Nat) = 3) by decide, show ¬ ((2 : Nat) = 3) by decide, if_false]
  have m : wv (fun j => xs.getD j 0) 32 3 % 9223372036854775808 = wv (fun j => xs.getD j 0) 32 3 + (xs.getD 31 0 % 128 - xs.getD 31 0) * 72057594037927936 := by
    rw [e3]
    omega
  rw [m, Int.add_mul, Int.mul_assoc]
  generalize wv (fun j => xs.getD j 0) 32 = u
  generalize (xs.getD 31 0 % 128 - xs.getD 31 0) * (72057594037927936 * 6277101735386680763835789423207666416102355444464034512896) = q
  omega
theorem lift_mod (A : Int) : liftZ A % PP = pwZ dGo A % PP := by
  have d : PP ∣ dE - dGo := by
    have := Int.dvd_sub dE_is dGo_is
    rwa [show dE - d0 - (dGo - d0) = dE - dGo by omega] at this
  obtain ⟨k, hk⟩ := d
  have e : dE * (A * A) + 1 = (A * A * dGo + 1) + PP * (k * (A * A)) := by
    rw [show dE = dGo + PP * k by omega]
    generalize PP = P
    grind
  unfold liftZ pwZ
  rw [iv_eInv, e]
  generalize eInv = m
  exact mod_mul rfl (pow_mod (Int.add_mul_emod_self_left _ _ _) m)
theorem ir_root {A B : Int} (h : A % PP = B % PP) : irB B = rootB A ∧ irV B = rootV A := by
  have p0 : 0 ≤ A % PP := Int.emod_nonneg A (by decide)
  have p1 : A % PP < PP := Int.emod_lt_of_pos A (by decide)
  have s := same_root p0 p1
  unfold irV rootV irB rootB
  rw [← h]
  generalize A % PP = a at *
  generalize r1I a = x at *
  generalize r1S a = y at *
  generalize PP = P at *
  by_cases c : y * y % P = a
  · have c' := s.1.2 c
    have e := s.2 c
    subst e
    rw [decide_eq_true c]
    exact ⟨rfl, rfl⟩
  · have c' : ¬ x * x % P = a := fun k => c (s.1.1 k)
    rw [decide_eq_false c, decide_eq_false c']
    exact ⟨rfl, rfl⟩
theorem neg_of {r : Int} (h0 : 0 < r) (h1 : r < PP) : (0 - r) % PP = PP - r := by
  rw [show 0 - r = (PP - r) + PP * (-1) by generalize PP = P; omega, Int.add_mul_emod_self_left]
  exact Int.emod_eq_of_lt (by generalize PP = P at *; omega) (by generalize PP = P at *; omega)
theorem odd_P : PP % 2 = 1 := by decide
theorem fin_even {r : Int} (h : 0 ≤ r ∧ r < PP) : 0 ≤ fin2 r ∧ fin2 r < PP ∧ fin2 r % 2 = 0 := by
  obtain ⟨h0, h1⟩ := h
  unfold fin2
  by_cases c : r % 2 = 0
  · rw [if_pos c]
    exact ⟨h0, h1, c⟩
  · rw [if_neg c, neg_of (by omega) h1]
    have := odd_P
    generalize PP = P at *
    omega
theorem root_even (A : Int) : 0 ≤ irV A ∧ irV A < PP ∧ irV A % 2 = 0 := by
  have h := fin_even (r1I_in (A % PP))
  unfold irV
  generalize fin2 (r1I (A % PP)) = r at *
  generalize irB A = b
  cases b
  · exact ⟨show (0 : Int) ≤ 0 by decide, show (0 : Int) < PP by decide, show (0 : Int) % 2 = 0 by decide⟩
  · exact h
theorem par_is (v : Int) (odd : Bool) (h : 0 ≤ v ∧ v < PP ∧ v % 2 = 0) : ((!decide ((if odd = true then 0 - v else v) % PP % 2 = 0)) == odd) = !(odd && decide (v % PP = 0)) := by
  obtain ⟨h0, h1, h2⟩ := h
  have e : v % PP = v := Int.emod_eq_of_lt h0 h1
  cases odd
  · simp only [Bool.false_eq_true, if_false]
    rw [e, decide_eq_true h2]
    rfl
  · simp only [if_true, Bool.true_and]
    rw [e]
    by_cases c : v = 0
    · subst c
      decide
    · rw [decide_eq_false c, neg_of (by omega) h1, decide_eq_false]
      · rfl
      · have := odd_P
        generalize PP = P at *
        omega
theorem can_low {A : Int} (h0 : 0 ≤ A) : decide (A % PP = A) = decide (A < PP) := by
  by_cases c : A < PP
  · rw [decide_eq_true c, decide_eq_true (Int.emod_eq_of_lt h0 c)]
  · rw [decide_eq_false c, decide_eq_false]
    intro h
    have := Int.emod_lt_of_pos A (by decide : (0 : Int) < PP)
    omega
theorem idB_eq {xs : List Int} (hb : Byt xs) : idB dGo xs = dcB xs := by
  unfold idB dcB
  by_cases hl : xs.length = 32
  · have L : low7s xs = low7 xs := rfl
    rw [L]
    have r := ir_root (lift_mod (num (low7 xs)))
    have h0 := num_ge (low7_byt hb)
    have k := par_is (irV (pwZ dGo (num (low7 xs)))) (decide (128 ≤ xs.getD 31 0)) (root_even _)
    unfold fmB canN liB pwX
    rw [lo_val hb hl, can_low h0, odd_is hb, k, r.1, r.2, low7_len, hl]
    generalize decide (num (low7 xs) < PP) = p
    generalize rootB (liftZ (num (low7 xs))) = q
    generalize (!(decide (128 ≤ xs.getD 31 0) && decide (rootV (liftZ (num (low7 xs))) % PP = 0))) = s
    cases p <;> cases q <;> cases s <;> rfl
  · rw [decide_eq_false hl]
    rfl
theorem idX_eq {xs : List Int} (hb : Byt xs) : idX dGo xs = dcX xs := by
  unfold idX dcX
  rw [idB_eq hb]
  by_cases h : dcB xs = true
  · rw [if_pos h, if_pos h]
    have h' := h
    unfold dcB at h'
    simp only [Bool.and_eq_true] at h'
    unfold liX
    rw [if_pos h'.2.2]
    have r := ir_root (lift_mod (num (low7 xs)))
    unfold pwX
    rw [r.2, odd_is hb]
    rfl
  · rw [if_neg h, if_neg h]
theorem idY_eq {xs : List Int} (hb : Byt xs) : idY dGo xs = dcY xs := by
  unfold idY dcY
  rw [idB_eq hb]
  by_cases h : dcB xs = true
  · rw [if_pos h, if_pos h]
    have h' := h
    unfold dcB at h'
    simp only [Bool.and_eq_true] at h'
    unfold liY
    rw [if_pos h'.2.2]
    rfl
  · rw [if_neg h, if_neg h]
end Go.Proofs.YthapcapiiknjdaaDoor

/-
  The law of PointEncode.
-/
namespace Go.Proofs.YthapcapiiknjdaaDoor
set_option maxRecDepth 100000
open Go Go.RowKit

theorem lsum_set {xs : List Int} {v : Int} : ∀ n, n ≤ 31 → lsum (fun j => (xs.set 31 v).getD j 0) n = lsum (fun j => xs.getD j 0) n
  | 0, _ => rfl
  | n + 1, h => by
    rw [lsum, lsum, lsum_set n (by omega)]
    congr 2
    simp [List.getD_eq_getElem?_getD, show ¬ (31 = n) by omega]
theorem num_set {xs : List Int} {v : Int} (hl : xs.length = 32) : num (xs.set 31 v) = num xs + (v - xs.getD 31 0) * 256 ^ 31 := by
  unfold num
  rw [List.length_set, hl]
  show lsum (fun j => (xs.set 31 v).getD j 0) 31 + (xs.set 31 v).getD 31 0 * 256 ^ 31 = lsum (fun j => xs.getD j 0) 31 + xs.getD 31 0 * 256 ^ 31 + (v - xs.getD 31 0) * 256 ^ 31
  rw [lsum_set 31 (by omega), Int.sub_mul]
  have e : (xs.set 31 v).getD 31 0 = v := by simp [List.getD_eq_getElem?_getD, hl]
  rw [e]
  omega
theorem can_top {ys : List Int} (hb : Byt ys) (h : canN ys = true) : ys.getD 31 0 < 128 := by
  have l := can_len h
  have k := can_lt h
  have b := lsum_nonneg (fun j => hb j) 31
  unfold num at k
  rw [l, lsum] at k
  have v := hb 31
  have p : PP < 128 * 256 ^ 31 := by decide
  rcases (show ys.getD 31 0 < 128 ∨ 128 ≤ ys.getD 31 0 by omega) with c | c
  · exact c
  · exfalso
    have : 128 * 256 ^ 31 ≤ ys.getD 31 0 * 256 ^ 31 := Int.mul_le_mul_of_nonneg_right c (by decide)
    have e1 : lsum (fun j => ys.getD j 0) 31 + ys.getD 31 0 * 256 ^ 31 < PP := k
    generalize (256 : Int) ^ 31 = q at *
    generalize PP = P at *
    omega
theorem num_odd {xs : List Int} (hl : xs.length = 32) : num xs % 2 = xs.getD 0 0 % 2 := by
  unfold num
  rw [hl]
  have key : ∀ n, lsum (fun j => xs.getD j 0) (n + 1) % 2 = xs.getD 0 0 % 2 := by
    intro n
    induction n with
    | zero => simp [lsum]
    | succ n ih =>
      rw [lsum, Int.pow_succ, ← Int.mul_assoc]
      omega
  exact key 31
theorem fill_byt {zs : List Int} (hb : Byt zs) (l : zs.length = 32) : fill (byt (num zs)) 32 = zs := by
  have h0 := num_ge hb
  have k : ∀ j, j < 32 → (fill (byt (num zs)) 32).getD j 0 = zs.getD j 0 := by
    refine lsum_inj (fun j => bytes_L _ _ j) (fun j => hb j) 32 ?_
    have e2 : num zs = lsum (fun j => zs.getD j 0) 32 := by unfold num; rw [l]
    rw [lsum_congr (b := byt (num zs)) 32 (fun j hj => fill_get _ _ _ hj), lsum_bytS _ h0, ← e2]
    refine Int.emod_eq_of_lt h0 ?_
    have bd : ∀ m, lsum (fun j => zs.getD j 0) m < 256 ^ m := by
      intro m
      induction m with
      | zero => simp [lsum]
      | succ m ih =>
        have hm := hb m
        have hp := p256_pos m
        rw [lsum, Int.pow_succ]
        have e1 : zs.getD m 0 * 256 ^ m ≤ 255 * 256 ^ m := Int.mul_le_mul_of_nonneg_right (by omega) (Int.le_of_lt hp)
        omega
    rw [e2]
    exact bd 32
  apply List.ext_getElem
  · rw [fill_len, l]
  · intro i h1 h2
    have := k i (by rw [fill_len] at h1; exact h1)
    simpa [List.getD_eq_getElem?_getD, h1, h2] using this
theorem enA_eq {xs ys : List Int} (hx : Byt xs) (hy : Byt ys) : enA dGo xs ys = esA xs ys := by
  unfold enA esA
  rw [rp_valid]
  by_cases h : validP xs ys = true
  · rw [if_pos h, if_pos h, rpX_of h, rpY_of h]
    have lx := can_len (valid_x1 h)
    have ly := can_len (valid_y1 h)
    rw [Int.emod_eq_of_lt (num_ge hx) (can_lt (valid_x1 h)), Int.emod_eq_of_lt (num_ge hy) (can_lt (valid_y1 h)), num_odd lx]
    have v0 := hx 0
    have t := can_top hy (valid_y1 h)
    have v31 := hy 31
    have e : num (ys.set 31 (ys.getD 31 0 + 128 * (xs.getD 0 0 % 2))) = num ys + if (!decide (xs.getD 0 0 % 2 = 0)) = true then 57896044618658097711785492504343953926634992332820282019728792003956564819968 else 0 := by
      rw [num_set ly]
      rcases (show xs.getD 0 0 % 2 = 0 ∨ xs.getD 0 0 % 2 = 1 by omega) with c | c
      · rw [c]
        simp
      · rw [c]
        simp
        omega
    rw [← e]
    refine fill_byt (fun i => ?_) (by rw [List.length_set]; exact ly)
    by_cases c : i = 31
    · subst c
      simp only [List.getD_eq_getElem?_getD, List.getElem?_set, ly]
      simp
      have t' : ys[31]?.getD (0 : Int) < 128 := by simpa [List.getD_eq_getElem?_getD] using t
      have v31' : 0 ≤ ys[31]?.getD (0 : Int) := by simpa [List.getD_eq_getElem?_getD] using v31.1
      omega
    · have := hy i
      simpa [List.getD_eq_getElem?_getD, List.getElem?_set, Ne.symm c] using this
  · rw [if_neg h, if_neg h]
end Go.Proofs.YthapcapiiknjdaaDoor

/-
  The program's PointZero, PointBase, PointToLadder.
-/
namespace Go.Proofs.YthapcapiiknjdaaDoor
set_option maxRecDepth 100000
open Go Go.RowKit

end Go.Proofs.YthapcapiiknjdaaDoor

/-
  The law of PointToLadder.
-/
namespace Go.Proofs.YthapcapiiknjdaaDoor
set_option maxRecDepth 100000
open Go Go.RowKit

/-- The tables that sums of points need. -/
def HasA (w : World) : Prop := HasTw w 3 ∧ Em5 w 2 0 dGo ∧ HasSt w 7 ∧ Has3 w 4 12 5 4
theorem hasA_of {l : List (String × DataW Unit)} {W : World} (h : laidMetH Tryd.prog l W) (hp : (l.all fun x => x.2.handleName?.isNone) = true)
    (h1 : ("loop.example/g00004/impl.chainSteps", Rows.laid_loop_example_g00004_impl_chainSteps) ∈ l) (h2 : ("loop.example/g00004/impl.inverseStep", Rows.laid_loop_example_g00004_impl_inverseStep) ∈ l)
    (h3 : ("loop.example/g00004/impl.twiceP", Rows.laid_loop_example_g00004_impl_twiceP) ∈ l) (h4 : ("loop.example/g00004/impl.curveFactor", Rows.laid_loop_example_g00004_impl_curveFactor) ∈ l) : HasA W :=
  ⟨tw_of_reads (reads_of h hp h3), cf_of_reads (reads_of h hp h4), st_of_reads (reads_of h hp h1), three_of_reads gIn tIn (reads_of h hp h2)⟩
end Go.Proofs.YthapcapiiknjdaaDoor

/-
  The laws' helpers on a truth and a point.
-/
namespace Go.Proofs.YthapcapiiknjdaaDoor
set_option maxRecDepth 100000
open Go Go.RowKit

theorem Tri.of_block {w w' : World} {p : Nat} {x y z : Value} (h : Tri w p x y z) (hb : w'.heap[p]? = w.heap[p]?) : Tri w' p x y z :=
  ⟨(World.cell?_of_block (a := ⟨p, 0, none⟩) hb).trans h.c0, (World.cell?_of_block (a := ⟨p, 1, none⟩) hb).trans h.c1, (World.cell?_of_block (a := ⟨p, 2, none⟩) hb).trans h.c2, (World.frozen?_of_block (a := ⟨p, 0, none⟩) hb).trans h.f0, (World.frozen?_of_block (a := ⟨p, 1, none⟩) hb).trans h.f1, (World.frozen?_of_block (a := ⟨p, 2, none⟩) hb).trans h.f2⟩
theorem Tri.only {w w' : World} {p g : Nat} {x y z : Value} (h : Tri w p x y z) (n : Only g w w') (hne : p ≠ g) : Tri w' p x y z := h.of_block (n.block p hne)
/-- A row that is not read may be said to lie anywhere. -/
theorem NewP3.at {B B' : Nat} {w : World} {e : Ending} {t : Bool} {ys ss : List Int} (h : NewP3 B w e t ys ss) (h1 : B' < B) (h2 : B' < w.heap.size) :
    ∃ (a : Option Addr) (c g : Nat) (a' : Option Addr) (c' g' : Nat), e = .returned (.agg #[.bool t, .slice a ys.length c, .slice a' ss.length c']) ∧ PrP w g a ys g' a' ss ∧ B' ≤ g ∧ g < w.heap.size ∧ B' ≤ g' ∧ g' < w.heap.size ∧ (0 < ys.length → B ≤ g ∧ g ≠ g') ∧ (0 < ss.length → B ≤ g' ∧ g ≠ g') := by
  obtain ⟨a, c, g, a', c', g', he, o, o', hg, hg', hne⟩ := h
  by_cases h0 : 0 < ys.length
  · by_cases k0 : 0 < ss.length
    · exact ⟨a, c, g, a', c', g', he, ⟨o, o'⟩, by omega, o.rd.lt h0, by omega, o'.rd.lt k0, fun _ => ⟨hg, hne h0 k0⟩, fun _ => ⟨hg', hne h0 k0⟩⟩
    · obtain rfl : ss = [] := List.eq_nil_of_length_eq_zero (by omega)
      exact ⟨a, c, g, a', c', B', he, ⟨o, Own.nil _ _ _ _⟩, by omega, o.rd.lt h0, Nat.le_refl _, h2, fun _ => ⟨hg, by omega⟩, fun h => absurd h (by simp)⟩
  · obtain rfl : ys = [] := List.eq_nil_of_length_eq_zero (by omega)
    by_cases k0 : 0 < ss.length
    · exact ⟨a, c, B', a', c', g', he, ⟨Own.nil _ _ _ _, o'⟩, Nat.le_refl _, h2, by omega, o'.rd.lt k0, fun h => absurd h (by simp), fun _ => ⟨hg', by omega⟩⟩
    · obtain rfl : ss = [] := List.eq_nil_of_length_eq_zero (by omega)
      exact ⟨a, c, B', a', c', B', he, ⟨Own.nil _ _ _ _, Own.nil _ _ _ _⟩, Nat.le_refl _, h2, Nat.le_refl _, h2, fun h => absurd h (by simp), fun h => absurd h (by simp)⟩
end Go.Proofs.YthapcapiiknjdaaDoor

/-
  The law of PointDecode.
-/
namespace Go.Proofs.YthapcapiiknjdaaDoor
set_option maxRecDepth 100000
open Go Go.RowKit

theorem gRm : Tryd.prog.globalNamed "loop.example/g00004/impl.rootOfMinusOne" = some 6 := by kernel_rfl
theorem tRm : (Tryd.prog.globals[6]?).map (·.type) = some 56 := by kernel_rfl
theorem rm_of_reads {W : World} (h : Lib.VarReads Tryd.prog W "loop.example/g00004/impl.rootOfMinusOne" Rows.laid_loop_example_g00004_impl_rootOfMinusOne) : Has5 W 6 iL := by
  obtain ⟨g, t, cs, fuel, p, hg, ht, hv, hd⟩ := h
  obtain rfl := Option.some.inj (gRm.symm.trans hg)
  obtain rfl := Option.some.inj (tRm.symm.trans ht)
  have hcs := Lib.cells_of_tab (zs := [1718705420411056, 234908883556509, 2233514472574048, 2117202627021982, 765476049583133]) uEl Tryd.underlying54 cU64 cEl hd
  intro k hk
  rw [World.var?_cell hg hv k]
  obtain ⟨l⟩ := cs
  simp only at hcs
  subst hcs
  obtain rfl | rfl | rfl | rfl | rfl : k = 0 ∨ k = 1 ∨ k = 2 ∨ k = 3 ∨ k = 4 := by omega
  all_goals rfl
theorem hasR_ofp {l : List (String × DataW Unit)} {W : World} (h : laidMetH Tryd.prog l W) (hp : (l.all fun x => x.2.handleName?.isNone) = true)
    (h1 : ("loop.example/g00004/impl.chainSteps", Rows.laid_loop_example_g00004_impl_chainSteps) ∈ l) (h2 : ("loop.example/g00004/impl.rootStep", Rows.laid_loop_example_g00004_impl_rootStep) ∈ l)
    (h3 : ("loop.example/g00004/impl.rootOfMinusOne", Rows.laid_loop_example_g00004_impl_rootOfMinusOne) ∈ l) (h4 : ("loop.example/g00004/impl.twiceP", Rows.laid_loop_example_g00004_impl_twiceP) ∈ l) : HasR W :=
  ⟨st_of_reads (reads_of h hp h1), three_of_reads gRo tRo (reads_of h hp h2), rm_of_reads (reads_of h hp h3), tw_of_reads (reads_of h hp h4)⟩
/-- The tables that decoding needs. -/
def HasD (w : World) : Prop := HasA w ∧ HasR w
end Go.Proofs.YthapcapiiknjdaaDoor
