import Derived.Test.YtkglcainhkbgbaaGreatDoorSG45
import Derived.Test.YtkglcainhkbgbaaGreatDoorSG44
import Derived.Deep.QuietTactic
import Derived.BigQuiet
import Derived.Test.YtkglcainhkbgbaaGreatDoorRows
import Derived.Test.YtkglcainhkbgbaaGreatDoorSG39
import Derived.Lib.LaidTab
import Derived.Lib.LaidU8
import Derived.LaidMore
import Derived.Test.YtkglcainhkbgbaaGreatDoorSG43
import Derived.Test.YtkglcainhkbgbaaGreatDoorSG4
import Derived.Deep.MidRow
import Derived.Test.YtkglcainhkbgbaaGreatDoorSG1
import Derived.Test.YtkglcainhkbgbaaGreatDoorSG6
import Derived.Laws.AppendOwnNone
import Derived.Lib.AppendZeros
import Derived.Test.YtkglcainhkbgbaaGreatDoorSG5
import Derived.Test.YtkglcainhkbgbaaGreatDoorSG11
namespace Go.Proofs.YtkglcainhkbgbaaGreatDoor
set_option maxRecDepth 100000
open Go Go.RowKit
theorem foF (q : Nat) (w : World) : (Instr.fieldAt 104 (.pointer (some ⟨q, 0, none⟩)) 1).run Tryz.prog w = .ok (.pointer (some ⟨q, 4, none⟩)) w := by kernel_rfl
set_option maxHeartbeats 4000000 in
theorem eqW9 (a0 a1 a2 a3 b0 b1 b2 b3 : Int) (w : World) :
    (Op.equalIn 9999 40 (.agg #[.int .u64 a0, .int .u64 a1, .int .u64 a2, .int .u64 a3]) (.agg #[.int .u64 b0, .int .u64 b1, .int .u64 b2, .int .u64 b3])).run Tryz.prog w = .ok (a0 == b0 && a1 == b1 && a2 == b2 && a3 == b3) w := by
  have u3 := Tryz.underlying39
  have a3' := Tryz.isAgg39
  have z3 := Tryz.sizeOf39
  rw [show (9999 : Nat) = 9998 + 1 from rfl, Op.equalIn]
  simp only [Sem.run_bind, run_underlying Tryz.underlying40, Result.andThen_ok]
  simp only [Std.Legacy.Range.forIn_eq_forIn_range', Std.Legacy.Range.size, Nat.sub_zero, Nat.add_sub_cancel, Nat.div_one, List.range'_succ, List.range'_zero, List.forIn_cons, List.forIn_nil]
  go_simp
  by_cases h0 : a0 = b0 <;> by_cases h1 : a1 = b1 <;> by_cases h2 : a2 = b2 <;> by_cases h3 : a3 = b3 <;> simp [h0, h1, h2, h3]
theorem eqB9 (p q : Bool) (w : World) : (Op.equalIn 9999 4 (.bool p) (.bool q)).run Tryz.prog w = .ok (p == q) w := by kernel_rfl
theorem partY (a0 a1 a2 a3 : Int) (p : Bool) (w : World) : (part 40 #[.int .u64 a0, .int .u64 a1, .int .u64 a2, .int .u64 a3, .bool p] 0).run Tryz.prog w = .ok (.agg #[.int .u64 a0, .int .u64 a1, .int .u64 a2, .int .u64 a3]) w := by kernel_rfl
theorem partB (a0 a1 a2 a3 : Int) (p : Bool) (w : World) : (part 4 #[.int .u64 a0, .int .u64 a1, .int .u64 a2, .int .u64 a3, .bool p] 4).run Tryz.prog w = .ok (.bool p) w := by kernel_rfl
set_option maxHeartbeats 4000000 in
theorem eqForm (a0 a1 a2 a3 b0 b1 b2 b3 : Int) (p q : Bool) (w : World) :
    (Op.equalIn 10000 104 (.agg #[.int .u64 a0, .int .u64 a1, .int .u64 a2, .int .u64 a3, .bool p]) (.agg #[.int .u64 b0, .int .u64 b1, .int .u64 b2, .int .u64 b3, .bool q])).run Tryz.prog w = .ok ((a0 == b0 && a1 == b1 && a2 == b2 && a3 == b3) && p == q) w := by
  have hs : Tryz.prog.stoodInHeld 104 = false := by kernel_rfl
  rw [show (10000 : Nat) = 9999 + 1 from rfl, Op.equalIn]
  simp only [Sem.run_bind, run_underlying Tryz.underlying104, Result.andThen_ok]
  cases h : (a0 == b0 && a1 == b1 && a2 == b2 && a3 == b3)
  · simp [hs, partY, partB, eqW9, eqB9, h]
  · cases k : (p == q) <;> simp [hs, partY, partB, eqW9, eqB9, h, k]
section
variable {ops : Array Oper} {Q : Exit → Act → World → Prop} {md : Region.Mode} {F : Nat → Fact} {a0 : Act} {w0 : World} {i : Nat} {o : Oper} {ts : Array TypeId}
theorem step_rc (hi : ops[i]? = some o) (p j : Nat) {a : Option Addr} {c : Nat} {xs : List Int} (hop : o.op = .call { callee := .value (.func 90), args := #[.tmp p], argTypes := ts })
    (hj : waits md ops i j p = true) (hO : OfOk w0 a xs) (hFj : F j = Fact.eq (.slice a 32 c)) (hFi : F i = EM (num (low7 xs))) : StepOk Tryz.prog md ops Q F a0 w0 i := by
  obtain ⟨g, hr, hb, hl⟩ := hO
  refine step_call hi _ _ ts hop (by kernel_rfl) fun A w _ hw hF => ?_
  have ea := hF j p hj
  rw [hFj] at ea
  show Calls Tryz.prog 90 #[A.tmps.getD p undef] w _
  rw [show A.tmps.getD p undef = _ from ea]
  refine (readCoordinate_any w g a c xs (hr.up hw) hb hl).mono ?_
  rintro r w' ⟨rfl, n⟩
  rw [hFi]
  exact ⟨_, rfl, n, elt (low7 xs), rfl, elt_ok (low7_byt hb) (by rw [low7_len]; exact hl)⟩
theorem step_ldb (hi : ops[i]? = some o) (p j : Nat) {q off : Nat} {v : Value} (hop : o.op = .load 4 (.tmp p)) (hj : waits md ops i j p = true) (hFj : F j = Fact.eq (.pointer (some ⟨q, off, none⟩))) (hc : w0.cell? ⟨q, off, none⟩ = some v) (hF : F i = Fact.eq v) : StepOk Tryz.prog md ops Q F a0 w0 i := by
  refine step_pure hi fun a w _ hw hf => ⟨v, ?_, by rw [hF]; exact rfl⟩
  have e := hf j p hj
  rw [hFj] at e
  have e' : a.eval (.tmp p) = .pointer (some ⟨q, off, none⟩) := e
  have c' : w.cell? ⟨q, off, none⟩ = some v := (hw.cell (block_lt_of_cell hc)).trans hc
  simp only [execOp, hop, e']
  go_simp
theorem step_pw (TT : HasTw w0 9) {D : Int} (CC : Em5 w0 8 0 D) (SS : HasSt w0 13) (II : Has3 w0 10 12 5 4) (RR : HasR w0) (hi : ops[i]? = some o) (p q j k : Nat) {A : Int} {odd : Bool} (hop : o.op = .call { callee := .value (.func 89), args := #[.tmp p, .tmp q], argTypes := ts })
    (hj : waits md ops i j p = true) (hk : waits md ops i k q = true) (hFj : F j = EM A) (hFk : F k = Fact.eq (.bool odd)) (hFi : F i = TB [pwX D A odd, A] (irB (pwZ D A))) : StepOk Tryz.prog md ops Q F a0 w0 i := by
  refine step_call hi _ _ ts hop (by kernel_rfl) fun a w _ hw hF => ?_
  have ea := hF j p hj
  have eb := hF k q hk
  rw [hFj] at ea
  rw [hFk] at eb
  obtain ⟨t, e1, L1⟩ := ea
  show Calls Tryz.prog 89 #[a.tmps.getD p undef, a.tmps.getD q undef] w _
  rw [e1, show a.tmps.getD q undef = _ from eb]
  refine (pointWith_any w t A odd L1 D (TT.up hw) (CC.up hw) (SS.up hw) (II.up hw) (RR.up hw)).mono ?_
  rintro r w' ⟨es, rfl, L, hn⟩
  rw [hFi]
  exact ⟨_, rfl, hn, es, rfl, L⟩
end
def NewP3 (B : Nat) (w' : World) (e : Ending) (b : Bool) (xs ys : List Int) : Prop :=
  ∃ (a : Option Addr) (c g : Nat) (a' : Option Addr) (c' g' : Nat), e = .returned (.agg #[.bool b, .slice a xs.length c, .slice a' ys.length c']) ∧ Own w' g a .u8 xs ∧ Own w' g' a' .u8 ys ∧ B ≤ g ∧ B ≤ g' ∧ (0 < xs.length → 0 < ys.length → g ≠ g')
theorem NewP3.nil {B : Nat} {w : World} : NewP3 B w (.returned (.agg #[.bool false, .slice none 0 0, .slice none 0 0])) false [] [] := ⟨none, 0, B, none, 0, B, rfl, Own.nil _ _ _ _, Own.nil _ _ _ _, Nat.le_refl _, Nat.le_refl _, fun h => absurd h (by simp)⟩
theorem Tri.there {w : World} {p : Nat} {x y z : Value} (h : Tri w p x y z) : w.there p 0 3 := fun j hj => by
  obtain rfl | rfl | rfl : j = 0 ∨ j = 1 ∨ j = 2 := by omega
  · exact ⟨by rw [show (⟨p, 0 + 0, none⟩ : Addr) = ⟨p, 0, none⟩ from rfl, h.c0]; rfl, h.f0⟩
  · exact ⟨by rw [show (⟨p, 0 + 1, none⟩ : Addr) = ⟨p, 1, none⟩ from rfl, h.c1]; rfl, h.f1⟩
  · exact ⟨by rw [show (⟨p, 0 + 2, none⟩ : Addr) = ⟨p, 2, none⟩ from rfl, h.c2]; rfl, h.f2⟩
theorem Tri.put {w : World} {p : Nat} {x y z : Value} (h : Tri w p x y z) (u v t : Value) : Tri (((w.setCell ⟨p, 0, none⟩ u).setCell ⟨p, 1, none⟩ v).setCell ⟨p, 2, none⟩ t) p u v t := by
  have k0 : (w.setCell ⟨p, 0, none⟩ u).cell? ⟨p, 0, none⟩ = some u := World.cell?_setCell_same _ _ _ h.c0
  have k1 : (w.setCell ⟨p, 0, none⟩ u).cell? ⟨p, 1, none⟩ = some y := by rw [World.cell?_setCell_other (h := by simp)]; exact h.c1
  have k2 : (w.setCell ⟨p, 0, none⟩ u).cell? ⟨p, 2, none⟩ = some z := by rw [World.cell?_setCell_other (h := by simp)]; exact h.c2
  have l0 : ((w.setCell ⟨p, 0, none⟩ u).setCell ⟨p, 1, none⟩ v).cell? ⟨p, 0, none⟩ = some u := by rw [World.cell?_setCell_other (h := by simp)]; exact k0
  have l1 : ((w.setCell ⟨p, 0, none⟩ u).setCell ⟨p, 1, none⟩ v).cell? ⟨p, 1, none⟩ = some v := World.cell?_setCell_same _ _ _ k1
  have l2 : ((w.setCell ⟨p, 0, none⟩ u).setCell ⟨p, 1, none⟩ v).cell? ⟨p, 2, none⟩ = some z := by rw [World.cell?_setCell_other (h := by simp)]; exact k2
  refine ⟨?_, ?_, World.cell?_setCell_same _ _ _ l2, ?_, ?_, ?_⟩
  · rw [World.cell?_setCell_other (h := by simp)]; exact l0
  · rw [World.cell?_setCell_other (h := by simp)]; exact l1
  · rw [World.frozen?_setCell, World.frozen?_setCell, World.frozen?_setCell]; exact h.f0
  · rw [World.frozen?_setCell, World.frozen?_setCell, World.frozen?_setCell]; exact h.f1
  · rw [World.frozen?_setCell, World.frozen?_setCell, World.frozen?_setCell]; exact h.f2
theorem eq_W4p {U V : Nat → Int} (hU : W4 U) (hV : W4 V) : (U 0 == V 0 && U 1 == V 1 && U 2 == V 2 && U 3 == V 3) = decide (wval U = wval V) := by
  by_cases h : wval U = wval V
  · have e := hU.uniq hV h
    rw [e 0 (by omega), e 1 (by omega), e 2 (by omega), e 3 (by omega)]
    simp [h]
  · rw [decide_eq_false h]
    cases hq : (U 0 == V 0 && U 1 == V 1 && U 2 == V 2 && U 3 == V 3)
    · rfl
    · exfalso
      simp only [Bool.and_eq_true, beq_iff_eq] at hq
      exact h (by unfold wval; rw [hq.1.1.1, hq.1.1.2, hq.1.2, hq.2])
theorem lo_ok {u : Nat → Int} (h : W4 u) : W4 (loW u) := fun j hj => by
  have := h j hj
  unfold loW
  split
  · omega
  · exact this
theorem beq_form (U V : Nat → Int) (p q : Bool) (x y : Nat) (w : World) : (do eqGuard .neq 104 (.tmp x) (.tmp y) (FmV U p) (FmV V q); binOp .neq 104 (FmV U p) (FmV V q) : Sem Value).run Tryz.prog w = .ok (.bool (!((U 0 == V 0 && U 1 == V 1 && U 2 == V 2 && U 3 == V 3) && p == q))) w := by
  have h : (eqGuard .neq 104 (.tmp x) (.tmp y) (FmV U p) (FmV V q)).run Tryz.prog w = .ok () w := by kernel_rfl
  have h2 : (binOp .neq 104 (FmV U p) (FmV V q)).run Tryz.prog w = .ok (.bool (!((U 0 == V 0 && U 1 == V 1 && U 2 == V 2 && U 3 == V 3) && p == q))) w := by
    have k := eqForm (U 0) (U 1) (U 2) (U 3) (V 0) (V 1) (V 2) (V 3) p q w
    show (do pure (.bool (!(← Op.equal 104 (FmV U p) (FmV V q)))) : Sem Value).run Tryz.prog w = _
    rw [Sem.run_bind]
    have k' : (Op.equal 104 (FmV U p) (FmV V q)).run Tryz.prog w = _ := k
    rw [k']
    rfl
  rw [Sem.run_bind, h]
  exact h2
section
variable {ops : Array Oper} {Q : Exit → Act → World → Prop} {md : Region.Mode} {F : Nat → Fact} {a0 : Act} {w0 : World} {i : Nat} {o : Oper}
theorem step_lF (hi : ops[i]? = some o) (p : Nat) (hop : o.op = .load 104 (.tmp p)) (hp : apart ops p = true) (q : Nat) (h0 : a0.tmps.getD p undef = .pointer (some ⟨q, 0, none⟩)) (U : Nat → Int) (b : Bool) (hc : w0.rangeAt q 0 (fmC U b)) (lq : q < w0.heap.size) (hF : F i = Fact.eq (FmV U b)) : StepOk Tryz.prog md ops Q F a0 w0 i := by
  obtain ⟨fs, hu⟩ := uF
  refine step_load hi _ _ hop _ 5 hu rfl iF fun a w hb hw _ => ?_
  exact ⟨q, 0, _, (based_at hb p hp).trans h0, fun j v hv => (World.cell?_of_block (a := ⟨q, 0 + j, none⟩) (hw.block q lq)).trans (hc j v hv), rfl, by rw [hF]; exact rfl⟩
theorem step_neF (hi : ops[i]? = some o) (p q j k : Nat) (v : Int) (b c : Bool) (V : Nat → Int) (hV : W4 V) {t : TypeId} (hop : o.op = .binOp .neq 104 (.tmp p) (.tmp q) t)
    (hj : waits md ops i j p = true) (hk : waits md ops i k q = true) (hFj : F j = FM v b) (hFk : F k = Fact.eq (FmV V c)) (hFi : F i = Fact.eq (.bool (!(decide (v = wval V) && b == c)))) : StepOk Tryz.prog md ops Q F a0 w0 i := by
  refine step_pure hi fun a w _ _ hf => ⟨.bool (!(decide (v = wval V) && b == c)), ?_, by rw [hFi]; exact rfl⟩
  have h1 := hf j p hj
  have h2 := hf k q hk
  rw [hFj] at h1
  rw [hFk] at h2
  obtain ⟨U, e1, X, hX⟩ := h1
  have g1 : a.eval (.tmp p) = FmV U b := e1
  have g2 : a.eval (.tmp q) = FmV V c := h2
  have k := beq_form U V b c p q w
  rw [eq_W4p X hV, hX] at k
  simp only [execOp, hop, g1, g2]
  rw [Sem.run_bind, k]
  rfl
theorem step_pick {P : Program} (hi : ops[i]? = some o) (p q j k : Nat) {v : Value} {x : Value} (hop : o.op = .pick (.tmp p) (.const x) (.tmp q)) (hj : waits md ops i j p = true) (hk : waits md ops i k q = true) (hFj : F j = Fact.eq (.bool false)) (hFk : F k = Fact.eq v) (hFi : F i = Fact.eq v) : StepOk P md ops Q F a0 w0 i := by
  refine step_pure hi fun a w _ _ hf => ⟨v, ?_, by rw [hFi]; exact rfl⟩
  have h1 := hf j p hj
  have h2 := hf k q hk
  rw [hFj] at h1
  rw [hFk] at h2
  have g1 : a.eval (.tmp p) = .bool false := h1
  have g2 : a.eval (.tmp q) = v := h2
  have g3 : a.eval (.const x) = x := rfl
  simp only [execOp, hop, g1, g2, g3]
  rfl
end
def oddW (xs : List Int) : Bool := decide (9223372036854775808 ≤ wv (fun j => xs.getD j 0) 32 3)
def fmB (D : Int) (xs : List Int) : Bool := decide (num (low7 xs) % PP = wval (loW (wv (fun j => xs.getD j 0) 32))) && (!decide (pwX D (num (low7 xs)) (oddW xs) % PP % 2 = 0)) == oddW xs
def idB (D : Int) (xs : List Int) : Bool := decide (xs.length = 32) && (irB (pwZ D (num (low7 xs))) && fmB D xs)
def idX (D : Int) (xs : List Int) : List Int := if idB D xs = true then fill (byt (pwX D (num (low7 xs)) (oddW xs) % PP)) 32 else []
def idY (D : Int) (xs : List Int) : List Int := if idB D xs = true then fill (byt (num (low7 xs) % PP)) 32 else []
def dpX (D : Int) (xs : List Int) : Int := if idB D xs = true then pwX D (num (low7 xs)) (oddW xs) else 0
def dpY (D : Int) (xs : List Int) : Int := if idB D xs = true then num (low7 xs) else 0
theorem dp_nil {D : Int} {xs : List Int} (h : idB D xs = false) : dpX D xs = 0 ∧ dpY D xs = 0 := by
  unfold dpX dpY
  rw [if_neg (by rw [h]; simp), if_neg (by rw [h]; simp)]
  exact ⟨rfl, rfl⟩
set_option maxHeartbeats 8000000 in
theorem decodePoint_any (w : World) (g : Nat) (a : Option Addr) (c : Nat) (xs : List Int) (hr : Rd w g a .u8 xs) (hb : Byt xs) (D : Int) (TT : HasTw w 9) (CC : Em5 w 8 0 D) (SS : HasSt w 13) (II : Has3 w 10 12 5 4) (RR : HasR w) :
    Calls Tryz.prog 65 #[.slice a xs.length c] w fun r w' => ∃ es, r = .returned (.tuple #[agN es, .bool (idB D xs)]) ∧ IsN es [dpX D xs, dpY D xs] ∧ Below w.heap.size w w' := by
  have TR : (w.alloc zA).there w.heap.size 0 10 := there_new w _ _
  have N : Below w.heap.size w (w.alloc zA) := (Below.refl _ _).alloc (Nat.le_refl _) _
  have T := fun W => isFieldSize_any W a c xs.length
  by_cases hl : xs.length = 32
  · have RF := hide (fun W (n : Below w.heap.size w W) => readForm_any W g a c xs (hr.up n) hb hl)
    have OX := hide (fun W (n : Below w.heap.size w W) => of_ok (hr.up n) hb hl)
    have LI : Hid (decide (xs.length = 32) = true) := decide_eq_true hl
    rw [hl] at T ⊢
    clear hl hr
    go_enter Tryz.func65, Tryz.ntmps65
    go_wp2_with fail
    change Calls _ _ _ (w.alloc zA) _
    generalize w.alloc zA = wa at *
    refine (T wa).mono ?_
    rintro e wb ⟨rfl, eW⟩
    subst eW
    clear T
    go_wp2_with fail
    refine (RF.out wb N).mono ?_
    rintro r w1 ⟨u, rfl, hu, hU, n1⟩
    replace TR := there_up (by omega) TR n1
    replace N := nxt N n1
    clear n1 RF
    obtain ⟨odd, hodd⟩ : ∃ b, b = decide (9223372036854775808 ≤ u 3) := ⟨_, rfl⟩
    rw [← hodd]
    have HO : Hid (odd = oddW xs) := by show _ = _; rw [hodd, hU]; rfl
    have HU := hide hU
    clear hodd hU
    simp only [FmV, fmC]
    have n2 : Below w1.heap.size w1 (w1.alloc (.cells #[.int .u64 (loW u 0), .int .u64 (loW u 1), .int .u64 (loW u 2), .int .u64 (loW u 3), .bool odd] 104)) := (Below.refl _ _).alloc (Nat.le_refl _) _
    have hB : (w1.alloc (.cells #[.int .u64 (loW u 0), .int .u64 (loW u 1), .int .u64 (loW u 2), .int .u64 (loW u 3), .bool odd] 104)).heap[w1.heap.size]? = some (.cells #[.int .u64 (loW u 0), .int .u64 (loW u 1), .int .u64 (loW u 2), .int .u64 (loW u 3), .bool odd] 104) := heap_alloc_last _ _
    replace TR := there_up (by omega) TR n2
    replace N := nxt N n2
    clear n2
    go_upto_region 4 with fail
    generalize w1.alloc (.cells #[.int .u64 (loW u 0), .int .u64 (loW u 1), .int .u64 (loW u 2), .int .u64 (loW u 3), .bool odd] 104) = w2 at *
    have FC : ∀ W : World, W.heap[w1.heap.size]? = w2.heap[w1.heap.size]? → W.cell? ⟨w1.heap.size, 0, none⟩ = some (.int .u64 (loW u 0)) ∧ W.cell? ⟨w1.heap.size, 1, none⟩ = some (.int .u64 (loW u 1)) ∧ W.cell? ⟨w1.heap.size, 2, none⟩ = some (.int .u64 (loW u 2)) ∧ W.cell? ⟨w1.heap.size, 3, none⟩ = some (.int .u64 (loW u 3)) ∧ W.cell? ⟨w1.heap.size, 4, none⟩ = some (.bool odd) := fun W h => by
      rw [hB] at h
      refine ⟨?_, ?_, ?_, ?_, ?_⟩ <;> (unfold World.cell?; simp only; rw [h]; rfl)
    have lB : w1.heap.size < w2.heap.size := (Array.getElem?_eq_some_iff.1 hB).1
    have CB := (FC w2 rfl).2.2.2.2
    have HFC := hide FC
    clear FC hB
    replace OX := hide (OX.out w2 N)
    replace TT := TT.up N
    replace CC := CC.up N
    replace SS := SS.up N
    replace II := II.up N
    replace RR := RR.up N
    refine region_newN_late 82 9 8 6 5 19 7 20 6 _ _ (fun i => [Fact.eq (.slice a 32 c), EM (num (low7 xs)), Fact.eq (.pointer (some ⟨w1.heap.size, 4, none⟩)), Fact.eq (.bool odd), TB [pwX D (num (low7 xs)) odd, num (low7 xs)] (irB (pwZ D (num (low7 xs)))), TB [pwX D (num (low7 xs)) odd, num (low7 xs)] (irB (pwZ D (num (low7 xs)))), EN [pwX D (num (low7 xs)) odd, num (low7 xs)], Fact.eq (.bool (irB (pwZ D (num (low7 xs))))), NB w2 10].getD i Fact.no) [pwX D (num (low7 xs)) odd, num (low7 xs)] (.bool (irB (pwZ D (num (low7 xs))))) (by kernel_rfl) rfl rfl rfl rfl rfl rfl iA (Nat.zero_lt_succ _) rfl rfl (by kernel_rfl) (by kernel_rfl) (by kernel_rfl) rfl rfl rfl (by decide) (by decide) (by kernel_rfl) ?_ ?_ ?_
    · intro j d v u u' hw h
      obtain rfl : j = 5 := late_one (by kernel_rfl) hw
      exact h
    · intro i hi
      obtain rfl | rfl | rfl | rfl | rfl | rfl | rfl | rfl | rfl : i = 0 ∨ i = 1 ∨ i = 2 ∨ i = 3 ∨ i = 4 ∨ i = 5 ∨ i = 6 ∨ i = 7 ∨ i = 8 := by omega
      · exact step_mv rfl 0 rfl (by kernel_rfl) rfl rfl
      · exact step_rc rfl 14 0 rfl (by kernel_rfl) OX.out rfl rfl
      · exact step_fld rfl 104 4 1 rfl (by kernel_rfl) _ _ rfl (foF _) rfl
      · exact step_ldb rfl 16 2 rfl (by kernel_rfl) rfl CB rfl
      · exact step_pw TT CC SS II RR rfl 15 17 1 3 rfl (by kernel_rfl) (by kernel_rfl) rfl rfl rfl
      · exact step_move rfl 18 4 (by exact Or.inl rfl) (by kernel_rfl) rfl
      · exact step_tx0 rfl 13 5 _ _ rfl (by kernel_rfl) rfl rfl
      · exact step_tx1 rfl 13 5 _ _ rfl (by kernel_rfl) rfl rfl
      · exact step_newA rfl rfl rfl
    intro vs4 q4 W4' v4 b5 l4 n R4 T4
    replace TR := there_up (by omega) TR n
    replace N := nxt N n
    have HB := HFC.out W4' (n.block w1.heap.size lB)
    clear n T4 OX TT CC SS II RR CB HFC
    obtain ⟨gd, hgd⟩ : ∃ b, b = irB (pwZ D (num (low7 xs))) := ⟨_, rfl⟩
    rw [← hgd] at b5
    have HG := hide hgd
    clear hgd
    simp only [puts, v4, b5, Act.put, List.setIfInBounds_toArray, List.set_cons_succ, List.set_cons_zero]
    clear v4 b5
    cases gd with
    | false =>
      have eB : idB D xs = false := by unfold idB; rw [LI.out, ← HG.out]; rfl
      obtain ⟨eX, eY⟩ := dp_nil eB
      clear HB R4
      go_upto_region 5 with fail
      go_quiet (fail)
      have nd : Below W4'.heap.size W4' (W4'.drewN nq) := (Only.drewN W4' W4'.heap.size nq).below (Nat.le_refl _)
      replace TR := there_up (by omega) TR nd
      replace N := nxt N nd
      clear nd
      generalize W4'.drewN nq = Wq at *
      go_upto_region 6 with fail
      refine region_putN_asgc 82 1 0 2 29 3 _ _ (fun i => [EN [0, 0]].getD i Fact.no) [0, 0] (.bool false) _ (by kernel_rfl) rfl rfl rfl rfl rfl rfl iA (Nat.zero_lt_succ _) (by kernel_rfl) rfl TR rfl (by kernel_rfl) rfl (by kernel_rfl) ?_ ?_
      · intro i hi
        obtain rfl : i = 0 := by omega
        exact step_b0A rfl rfl rfl
      intro vsL Wa Wb vb na bq RL nb
      have NS := nb w w.heap.size (nxt N na) (by omega)
      simp only [puts, vb, Act.put, List.setIfInBounds_toArray, List.set_cons_succ, List.set_cons_zero]
      clear vb bq nb na N TR
      go_wp2
      obtain ⟨es, rg, _, ht⟩ := RL
      have lz := clN_len ht
      obtain ⟨fs, hfs⟩ := uA
      exact bodyPost_ret (v := .tuple #[agN es, .bool false]) (results_cell_slot Tryz.results65 _ _ w.heap.size (clN es) _ rfl rfl rg hfs rfl (by rw [lz]; exact iA)) rfl ⟨es, by rw [eB], by rw [eX, eY]; exact ht, NS⟩
    | true =>
      have RF : W4'.rangeAt w1.heap.size 0 (fmC (loW u) odd) := fun j v hv => by
        obtain ⟨h0, h1, h2, h3, h4⟩ := HB
        have hj : j < 5 := (List.getElem?_eq_some_iff.1 hv).1
        obtain rfl | rfl | rfl | rfl | rfl : j = 0 ∨ j = 1 ∨ j = 2 ∨ j = 3 ∨ j = 4 := by omega
        · cases hv; exact h0
        · cases hv; exact h1
        · cases hv; exact h2
        · cases hv; exact h3
        · cases hv; exact h4
      have lB' : w1.heap.size < W4'.heap.size := block_lt_of_cell HB.1
      clear HB
      go_upto_region 5 with fail
      refine region_guard (fun i => [Fact.eq (.bool true), Fact.eq (.bool (!true)), Fact.eq (.bool (!true)), EN [pwX D (num (low7 xs)) odd, num (low7 xs)], FM (num (low7 xs) % PP) (!decide (pwX D (num (low7 xs)) odd % PP % 2 = 0)), Fact.eq (FmV (loW u) odd), Fact.eq (.bool (!(decide (num (low7 xs) % PP = wval (loW u)) && (!decide (pwX D (num (low7 xs)) odd % PP % 2 = 0)) == odd))), Fact.eq (.bool (!(decide (num (low7 xs) % PP = wval (loW u)) && (!decide (pwX D (num (low7 xs)) odd % PP % 2 = 0)) == odd)))].getD i Fact.no) (by kernel_rfl) (by kernel_rfl) ?_ ?_ ?_
      · intro i hi
        have hi8 : i < 8 := hi
        obtain rfl | rfl | rfl | rfl | rfl | rfl | rfl | rfl : i = 0 ∨ i = 1 ∨ i = 2 ∨ i = 3 ∨ i = 4 ∨ i = 5 ∨ i = 6 ∨ i = 7 := by omega
        · exact step_mv rfl 6 rfl (by kernel_rfl) rfl rfl
        · exact step_notb rfl 21 0 rfl (by kernel_rfl) rfl rfl
        · exact step_move rfl 22 1 (by exact Or.inl rfl) (by kernel_rfl) rfl
        · exact step_lA rfl 5 rfl (by kernel_rfl) _ rfl _ _ R4 rfl
        · exact step_form rfl 24 3 _ _ rfl (by kernel_rfl) rfl rfl
        · exact step_lF rfl 4 rfl (by kernel_rfl) _ rfl _ _ RF lB' rfl
        · exact step_neF rfl 25 26 4 5 _ _ _ _ (lo_ok hu) rfl (by kernel_rfl) (by kernel_rfl) rfl rfl rfl
        · exact step_pick rfl 23 27 2 6 rfl (by kernel_rfl) (by kernel_rfl) rfl rfl rfl
      · intro i o ho A W hf
        have hi8 : i < 8 := (Array.getElem?_eq_some_iff.1 ho).1
        obtain rfl | rfl | rfl | rfl | rfl | rfl | rfl | rfl : i = 0 ∨ i = 1 ∨ i = 2 ∨ i = 3 ∨ i = 4 ∨ i = 5 ∨ i = 6 ∨ i = 7 := by omega
        · cases ho; exact wanted_none rfl
        · cases ho; exact wanted_none rfl
        · cases ho; exact wanted_none rfl
        · cases ho; exact wanted_some rfl (by kernel_rfl) (hf 2 23 (by kernel_rfl))
        · cases ho; exact wanted_some rfl (by kernel_rfl) (hf 2 23 (by kernel_rfl))
        · cases ho; exact wanted_some rfl (by kernel_rfl) (hf 2 23 (by kernel_rfl))
        · cases ho; exact wanted_some rfl (by kernel_rfl) (hf 2 23 (by kernel_rfl))
        · cases ho; exact wanted_none rfl
      intro A W hb' hw hF
      have e2 := hF 7 28 (by kernel_rfl)
      obtain ⟨vs, hvs⟩ : ∃ vs : Nat → Value, ∀ d, A.tmps.getD d undef = vs d := ⟨_, fun _ => rfl⟩
      rw [hvs] at e2
      rw [puts_guard (md := .any) (by kernel_rfl) rfl hb' vs hvs]
      replace TR := there_up (by omega) TR hw
      replace N := nxt N hw
      replace R4 := R4.up hw
      clear hb' hF hvs hw RF
      obtain ⟨fe, hfe⟩ : ∃ b, b = (decide (num (low7 xs) % PP = wval (loW u)) && (!decide (pwX D (num (low7 xs)) odd % PP % 2 = 0)) == odd) := ⟨_, rfl⟩
      have e3 : vs 28 = .bool (!fe) := by rw [hfe]; exact e2
      have HE := hide hfe
      clear e2 hfe
      simp only [puts, e3, Act.put, List.setIfInBounds_toArray, List.set_cons_succ, List.set_cons_zero]
      clear e3 lB'
      have EB : Hid (idB D xs = fe) := by
        show _ = _
        unfold idB fmB
        rw [LI.out, ← HG.out, HE.out, HO.out, HU.out]
        rfl
      cases fe with
      | false =>
        have eB := EB.out
        obtain ⟨eX, eY⟩ := dp_nil eB
        clear EB HE R4
        go_upto_region 6 with fail
        refine region_putN_asgc 82 1 0 2 29 3 _ _ (fun i => [EN [0, 0]].getD i Fact.no) [0, 0] (.bool false) _ (by kernel_rfl) rfl rfl rfl rfl rfl rfl iA (Nat.zero_lt_succ _) (by kernel_rfl) rfl TR rfl (by kernel_rfl) rfl (by kernel_rfl) ?_ ?_
        · intro i hi
          obtain rfl : i = 0 := by omega
          exact step_b0A rfl rfl rfl
        intro vsL Wa Wb vb na bq RL nb
        have NS := nb w w.heap.size (nxt N na) (by omega)
        simp only [puts, vb, Act.put, List.setIfInBounds_toArray, List.set_cons_succ, List.set_cons_zero]
        clear vb bq nb na N TR
        go_wp2
        obtain ⟨es, rg, _, ht⟩ := RL
        have lz := clN_len ht
        obtain ⟨fs, hfs⟩ := uA
        exact bodyPost_ret (v := .tuple #[agN es, .bool false]) (results_cell_slot Tryz.results65 _ _ w.heap.size (clN es) _ rfl rfl rg hfs rfl (by rw [lz]; exact iA)) rfl ⟨es, by rw [eB], by rw [eX, eY]; exact ht, NS⟩
      | true =>
        have e1 := hide (show dpX D xs = pwX D (num (low7 xs)) odd by unfold dpX; rw [if_pos EB.out, ← HO.out])
        have e2 := hide (show dpY D xs = num (low7 xs) by unfold dpY; rw [if_pos EB.out])
        go_upto_region 7 with fail
        refine region_putN_asgc 82 1 0 2 30 3 _ _ (fun i => [EN [pwX D (num (low7 xs)) odd, num (low7 xs)]].getD i Fact.no) [pwX D (num (low7 xs)) odd, num (low7 xs)] (.bool true) _ (by kernel_rfl) rfl rfl rfl rfl rfl rfl iA (Nat.zero_lt_succ _) (by kernel_rfl) rfl TR rfl (by kernel_rfl) rfl (by kernel_rfl) ?_ ?_
        · intro i hi
          obtain rfl : i = 0 := by omega
          exact step_lA rfl 5 rfl (by kernel_rfl) _ rfl _ _ R4 rfl
        intro vsL Wa Wb vb na bq RL nb
        have NS := nb w w.heap.size (nxt N na) (by omega)
        simp only [puts, vb, Act.put, List.setIfInBounds_toArray, List.set_cons_succ, List.set_cons_zero]
        clear vb bq nb na N TR R4
        go_wp2
        obtain ⟨es, rg, _, ht⟩ := RL
        have lz := clN_len ht
        obtain ⟨fs, hfs⟩ := uA
        exact bodyPost_ret (v := .tuple #[agN es, .bool true]) (results_cell_slot Tryz.results65 _ _ w.heap.size (clN es) _ rfl rfl rg hfs rfl (by rw [lz]; exact iA)) rfl ⟨es, by rw [EB.out], by rw [e1.out, e2.out]; exact ht, NS⟩
  · have eB : idB D xs = false := by unfold idB; rw [decide_eq_false hl]; rfl
    obtain ⟨eX, eY⟩ := dp_nil eB
    have t1 : decide (xs.length = 32) = false := decide_eq_false hl
    rw [t1] at T
    clear hl t1 hr TT CC SS II RR
    go_enter Tryz.func65, Tryz.ntmps65
    go_wp2_with fail
    change Calls _ _ _ (w.alloc zA) _
    generalize w.alloc zA = wa at *
    refine (T wa).mono ?_
    rintro e wb ⟨rfl, eW⟩
    subst eW
    clear T
    go_upto_region 2 with fail
    refine region_putN_asgc 82 1 0 2 10 3 _ _ (fun i => [EN [0, 0]].getD i Fact.no) [0, 0] (.bool false) _ (by kernel_rfl) rfl rfl rfl rfl rfl rfl iA (Nat.zero_lt_succ _) (by kernel_rfl) rfl TR rfl (by kernel_rfl) rfl (by kernel_rfl) ?_ ?_
    · intro i hi
      obtain rfl : i = 0 := by omega
      exact step_b0A rfl rfl rfl
    intro vsL Wa Wb vb na bq RL nb
    have NS := nb w w.heap.size (nxt N na) (by omega)
    simp only [puts, vb, Act.put, List.setIfInBounds_toArray, List.set_cons_succ, List.set_cons_zero]
    clear vb bq nb na N TR
    go_wp2
    obtain ⟨es, rg, _, ht⟩ := RL
    have lz := clN_len ht
    obtain ⟨fs, hfs⟩ := uA
    exact bodyPost_ret (v := .tuple #[agN es, .bool false]) (results_cell_slot Tryz.results65 _ _ w.heap.size (clN es) _ rfl rfl rg hfs rfl (by rw [lz]; exact iA)) rfl ⟨es, by rw [eB], by rw [eX, eY]; exact ht, NS⟩
end Go.Proofs.YtkglcainhkbgbaaGreatDoor
namespace Go.Proofs.YtkglcainhkbgbaaGreatDoor
set_option maxRecDepth 100000
open Go Go.RowKit
theorem lsum_set' {xs : List Int} {v : Int} : ∀ n, n ≤ 31 → lsum (fun j => (xs.set 31 v).getD j 0) n = lsum (fun j => xs.getD j 0) n
  | 0, _ => rfl
  | n + 1, h => by
    rw [lsum, lsum, lsum_set' n (by omega)]
    congr 2
    simp [List.getD_eq_getElem?_getD, show ¬ (31 = n) by omega]
theorem num_set' {xs : List Int} {v : Int} (hl : xs.length = 32) : num (xs.set 31 v) = num xs + (v - xs.getD 31 0) * 256 ^ 31 := by
  unfold num
  rw [List.length_set, hl]
  show lsum (fun j => (xs.set 31 v).getD j 0) 31 + (xs.set 31 v).getD 31 0 * 256 ^ 31 = lsum (fun j => xs.getD j 0) 31 + xs.getD 31 0 * 256 ^ 31 + (v - xs.getD 31 0) * 256 ^ 31
  rw [lsum_set' 31 (by omega), Int.sub_mul]
  have e : (xs.set 31 v).getD 31 0 = v := by simp [List.getD_eq_getElem?_getD, hl]
  rw [e]
  omega
theorem w3_top {a : Nat → Int} (h : Bt a) : wv a 32 3 = wv a 31 3 + a 31 * 72057594037927936 ∧ 0 ≤ wv a 31 3 ∧ wv a 31 3 < 72057594037927936 := by
  have e : wv a 32 3 = wv a 31 3 + if (31 : Nat) / 8 = 3 then a 31 * 256 ^ (31 % 8) else 0 := rfl
  rw [if_pos (by decide)] at e
  have b := wv_bd h 3 31
  have k : (256 : Int) ^ (min (31 - 8 * 3) 8) = 72057594037927936 := by decide
  rw [k] at b
  exact ⟨by rw [e]; rfl, b.1, b.2⟩
theorem odd_is {xs : List Int} (hb : Byt xs) : oddW xs = decide (128 ≤ xs.getD 31 0) := by
  unfold oddW
  have h := w3_top (a := fun j => xs.getD j 0) (fun j => hb j)
  have e : wv (fun j => xs.getD j 0) 32 3 = wv (fun j => xs.getD j 0) 31 3 + xs.getD 31 0 * 72057594037927936 := h.1
  rw [e]
  have v := hb 31
  by_cases c : 128 ≤ xs.getD 31 0
  · rw [decide_eq_true c]
    exact decide_eq_true (by omega)
  · rw [decide_eq_false c]
    exact decide_eq_false (by omega)
theorem lo_val {xs : List Int} (hb : Byt xs) (hl : xs.length = 32) : wval (loW (wv (fun j => xs.getD j 0) 32)) = num (low7 xs) := by
  have s := wv_sum (fun j => xs.getD j 0) 32 (Nat.le_refl _)
  have e : num (low7 xs) = num xs + (xs.getD 31 0 % 128 - xs.getD 31 0) * 256 ^ 31 := num_set' hl
  have n : num xs = lsum (fun j => xs.getD j 0) 32 := by unfold num; rw [hl]
  rw [e, n, ← s]
  have h := w3_top (a := fun j => xs.getD j 0) (fun j => hb j)
  have e3 : wv (fun j => xs.getD j 0) 32 3 = wv (fun j => xs.getD j 0) 31 3 + xs.getD 31 0 * 72057594037927936 := h.1
  have h1 := h.2
  have v := hb 31
  have p : (256 : Int) ^ 31 = 72057594037927936 * 6277101735386680763835789423207666416102355444464034512896 := by decide
  rw [p]
  unfold wval loW
  simp only [if_true, show ¬ ((0 : Nat) = 3) by decide, show ¬ ((1 : Nat) = 3) by decide, show ¬ ((2 : Nat) = 3) by decide, if_false]
  have m : wv (fun j => xs.getD j 0) 32 3 % 9223372036854775808 = wv (fun j => xs.getD j 0) 32 3 + (xs.getD 31 0 % 128 - xs.getD 31 0) * 72057594037927936 := by
    rw [e3]
    omega
  rw [m, Int.add_mul, Int.mul_assoc]
  generalize wv (fun j => xs.getD j 0) 32 = u
  generalize (xs.getD 31 0 % 128 - xs.getD 31 0) * (72057594037927936 * 6277101735386680763835789423207666416102355444464034512896) = q
  omega
theorem lift_mod (A : Int) : liftZ A % PP = pwZ dGo A % PP := by
  have d : PP ∣ dE - dGo := by
    have := Int.dvd_sub dE_is dGo_is
    rwa [show dE - d0 - (dGo - d0) = dE - dGo by omega] at this
  obtain ⟨k, hk⟩ := d
  have e : dE * (A * A) + 1 = (A * A * dGo + 1) + PP * (k * (A * A)) := by
    rw [show dE = dGo + PP * k by omega]
    generalize PP = P
    grind
  unfold liftZ pwZ
  rw [iv_eInv, e]
  generalize eInv = m
  exact mod_mul rfl (pow_mod (Int.add_mul_emod_self_left _ _ _) m)
theorem ir_root {A B : Int} (h : A % PP = B % PP) : irB B = rootB A ∧ irV B = rootV A := by
  have p0 : 0 ≤ A % PP := Int.emod_nonneg A (by decide)
  have p1 : A % PP < PP := Int.emod_lt_of_pos A (by decide)
  have s := same_root p0 p1
  unfold irV rootV irB rootB
  rw [← h]
  generalize A % PP = a at *
  generalize r1I a = x at *
  generalize r1S a = y at *
  generalize PP = P at *
  by_cases c : y * y % P = a
  · have c' := s.1.2 c
    have e := s.2 c
    subst e
    rw [decide_eq_true c]
    exact ⟨rfl, rfl⟩
  · have c' : ¬ x * x % P = a := fun k => c (s.1.1 k)
    rw [decide_eq_false c, decide_eq_false c']
    exact ⟨rfl, rfl⟩
theorem neg_of {r : Int} (h0 : 0 < r) (h1 : r < PP) : (0 - r) % PP = PP - r := by
  rw [show 0 - r = (PP - r) + PP * (-1) by generalize PP = P; omega, Int.add_mul_emod_self_left]
  exact Int.emod_eq_of_lt (by generalize PP = P at *; omega) (by generalize PP = P at *; omega)
theorem odd_P : PP % 2 = 1 := by decide
theorem fin_even {r : Int} (h : 0 ≤ r ∧ r < PP) : 0 ≤ fin2 r ∧ fin2 r < PP ∧ fin2 r % 2 = 0 := by
  obtain ⟨h0, h1⟩ := h
  unfold fin2
  by_cases c : r % 2 = 0
  · rw [if_pos c]
    exact ⟨h0, h1, c⟩
  · rw [if_neg c, neg_of (by omega) h1]
    have := odd_P
    generalize PP = P at *
    omega
theorem root_even (A : Int) : 0 ≤ irV A ∧ irV A < PP ∧ irV A % 2 = 0 := by
  have h := fin_even (r1I_in (A % PP))
  unfold irV
  generalize fin2 (r1I (A % PP)) = r at *
  generalize irB A = b
  cases b
  · exact ⟨show (0 : Int) ≤ 0 by decide, show (0 : Int) < PP by decide, show (0 : Int) % 2 = 0 by decide⟩
  · exact h
theorem par_is (v : Int) (odd : Bool) (h : 0 ≤ v ∧ v < PP ∧ v % 2 = 0) : ((!decide ((if odd = true then 0 - v else v) % PP % 2 = 0)) == odd) = !(odd && decide (v % PP = 0)) := by
  obtain ⟨h0, h1, h2⟩ := h
  have e : v % PP = v := Int.emod_eq_of_lt h0 h1
  cases odd
  · simp only [Bool.false_eq_true, if_false]
    rw [e, decide_eq_true h2]
    rfl
  · simp only [if_true, Bool.true_and]
    rw [e]
    by_cases c : v = 0
    · subst c
      decide
    · rw [decide_eq_false c, neg_of (by omega) h1, decide_eq_false]
      · rfl
      · have := odd_P
        generalize PP = P at *
        omega
theorem can_low {A : Int} (h0 : 0 ≤ A) : decide (A % PP = A) = decide (A < PP) := by
  by_cases c : A < PP
  · rw [decide_eq_true c, decide_eq_true (Int.emod_eq_of_lt h0 c)]
  · rw [decide_eq_false c, decide_eq_false]
    intro h
    have := Int.emod_lt_of_pos A (by decide : (0 : Int) < PP)
    omega
theorem idB_eq {xs : List Int} (hb : Byt xs) : idB dGo xs = dcB xs := by
  unfold idB dcB
  by_cases hl : xs.length = 32
  · have L : low7s xs = low7 xs := rfl
    rw [L]
    have r := ir_root (lift_mod (num (low7 xs)))
    have h0 := num_ge (low7_byt hb)
    have k := par_is (irV (pwZ dGo (num (low7 xs)))) (decide (128 ≤ xs.getD 31 0)) (root_even _)
    unfold fmB canN liB pwX
    rw [lo_val hb hl, can_low h0, odd_is hb, k, r.1, r.2, low7_len, hl]
    generalize decide (num (low7 xs) < PP) = p
    generalize rootB (liftZ (num (low7 xs))) = q
    generalize (!(decide (128 ≤ xs.getD 31 0) && decide (rootV (liftZ (num (low7 xs))) % PP = 0))) = s
    cases p <;> cases q <;> cases s <;> rfl
  · rw [decide_eq_false hl]
    rfl
theorem idX_eq {xs : List Int} (hb : Byt xs) : idX dGo xs = dcX xs := by
  unfold idX dcX
  rw [idB_eq hb]
  by_cases h : dcB xs = true
  · rw [if_pos h, if_pos h]
    have h' := h
    unfold dcB at h'
    simp only [Bool.and_eq_true] at h'
    unfold liX
    rw [if_pos h'.2.2]
    have r := ir_root (lift_mod (num (low7 xs)))
    unfold pwX
    rw [r.2, odd_is hb]
    rfl
  · rw [if_neg h, if_neg h]
theorem idY_eq {xs : List Int} (hb : Byt xs) : idY dGo xs = dcY xs := by
  unfold idY dcY
  rw [idB_eq hb]
  by_cases h : dcB xs = true
  · rw [if_pos h, if_pos h]
    have h' := h
    unfold dcB at h'
    simp only [Bool.and_eq_true] at h'
    unfold liY
    rw [if_pos h'.2.2]
    rfl
  · rw [if_neg h, if_neg h]
end Go.Proofs.YtkglcainhkbgbaaGreatDoor
namespace Go.Proofs.YtkglcainhkbgbaaGreatDoor
set_option maxRecDepth 100000
open Go.RowKit
theorem gTw : Tryz.prog.globalNamed "loop.example/g00004/impl.twiceP" = some 9 := by kernel_rfl
theorem tTw : (Tryz.prog.globals[9]?).map (·.type) = some 179 := by kernel_rfl
theorem uTw : Tryz.prog.underlying 179 = some (.array 5 39) := by kernel_rfl
theorem cTw : Tryz.prog.cellsOf 179 = 5 := by kernel_rfl
theorem cU64 : Tryz.prog.cellsOf 39 = 1 := by kernel_rfl
theorem tw_of_reads {W : World} (h : Lib.VarReads Tryz.prog W "loop.example/g00004/impl.twiceP" Rows.laid_loop_example_g00004_impl_twiceP) : HasTw W 9 := by
  obtain ⟨g, t, cs, fuel, p, hg, ht, hv, hd⟩ := h
  obtain rfl := Option.some.inj (gTw.symm.trans hg)
  obtain rfl := Option.some.inj (tTw.symm.trans ht)
  have hcs := Lib.cells_of_tab (zs := [4503599627370458, 4503599627370494, 4503599627370494, 4503599627370494, 4503599627370494]) uTw Tryz.underlying39 cU64 cTw hd
  intro k hk
  rw [World.var?_cell hg hv k]
  obtain ⟨l⟩ := cs
  simp only at hcs
  subst hcs
  obtain rfl | rfl | rfl | rfl | rfl : k = 0 ∨ k = 1 ∨ k = 2 ∨ k = 3 ∨ k = 4 := by omega
  all_goals rfl
theorem reads_of {l : List (String × DataW Unit)} {W : World} (h : laidMetH Tryz.prog l W) (hp : (l.all fun x => x.2.handleName?.isNone) = true) {n : String} {d : DataW Unit} (hm : (n, d) ∈ l) : Lib.VarReads Tryz.prog W n d := by
  rw [MakeChecks.laidMetH_plain _ _ _ hp] at h
  exact Lib.laidMet.reads h hm
end Go.Proofs.YtkglcainhkbgbaaGreatDoor
namespace Go.Proofs.YtkglcainhkbgbaaGreatDoor
set_option maxRecDepth 100000
open Go.RowKit
theorem gSt : Tryz.prog.globalNamed "loop.example/g00004/impl.chainSteps" = some 13 := by kernel_rfl
theorem tSt : (Tryz.prog.globals[13]?).map (·.type) = some 186 := by kernel_rfl
theorem gIn : Tryz.prog.globalNamed "loop.example/g00004/impl.inverseStep" = some 10 := by kernel_rfl
theorem tIn : (Tryz.prog.globals[10]?).map (·.type) = some 184 := by kernel_rfl
theorem gRo : Tryz.prog.globalNamed "loop.example/g00004/impl.rootStep" = some 11 := by kernel_rfl
theorem tRo : (Tryz.prog.globals[11]?).map (·.type) = some 184 := by kernel_rfl
theorem cStep : Tryz.prog.cellsOf 184 = 3 := by kernel_rfl
theorem cInt : Tryz.prog.cellsOf 3 = 1 := by kernel_rfl
theorem step_cells {W : World} {base : Nat} {sp : Nat → Bool} {held : Bool} {fuel : Nat} {cs : List Value} {x y z : Int} {p : List MemPlace}
    (h : DataW.trod (fun _ => ()) Tryz.prog W base sp held fuel 184 cs = some (.agg [.lit (.int .i64 x), .lit (.int .i64 y), .lit (.int .i64 z)], p)) : cs = [.int .i64 x, .int .i64 y, .int .i64 z] := by
  have := Lib.ints_of_struct (k := .i64) (zs := [x, y, z]) Tryz.underlying184 (fun i f hf => by
    match i, hf with
    | 0, hf => cases hf; exact ⟨Tryz.underlying3, rfl, cInt⟩
    | 1, hf => cases hf; exact ⟨Tryz.underlying3, rfl, cInt⟩
    | 2, hf => cases hf; exact ⟨Tryz.underlying3, rfl, cInt⟩
    | i + 3, hf => simp at hf) (by rw [cStep]; rfl) h
  simpa using this
theorem three_of_reads {W : World} {n : String} {g : Nat} {x y z : Int} (hn : Tryz.prog.globalNamed n = some g) (ht : (Tryz.prog.globals[g]?).map (·.type) = some 184)
    (h : Lib.VarReads Tryz.prog W n (.agg [.lit (.int .i64 x), .lit (.int .i64 y), .lit (.int .i64 z)])) : Has3 W g x y z := by
  obtain ⟨g', t, cs, fuel, p, hg, ht', hv, hd⟩ := h
  obtain rfl := Option.some.inj (hn.symm.trans hg)
  obtain rfl := Option.some.inj (ht.symm.trans ht')
  have hcs := step_cells hd
  obtain ⟨l⟩ := cs
  simp only at hcs
  subst hcs
  exact ⟨by rw [World.var?_cell hg hv 0]; rfl, by rw [World.var?_cell hg hv 1]; rfl, by rw [World.var?_cell hg hv 2]; rfl⟩
theorem st_of_reads {W : World} (h : Lib.VarReads Tryz.prog W "loop.example/g00004/impl.chainSteps" Rows.laid_loop_example_g00004_impl_chainSteps) : HasSt W 13 := by
  obtain ⟨g, t, cs, fuel, p, hg, ht, hv, hd⟩ := h
  obtain rfl := Option.some.inj (gSt.symm.trans hg)
  obtain rfl := Option.some.inj (tSt.symm.trans ht)
  have key : ∀ j, j < 11 → (cs.toList.drop (j * 3)).take 3 = [.int .i64 (stL.getD (3 * j) 0), .int .i64 (stL.getD (3 * j + 1) 0), .int .i64 (stL.getD (3 * j + 2) 0)] := by
    intro j hj
    obtain ⟨f', d, q, h1, h2⟩ := Lib.array_elem u86 hd j hj
    rw [cStep] at h2
    obtain rfl | rfl | rfl | rfl | rfl | rfl | rfl | rfl | rfl | rfl | rfl : j = 0 ∨ j = 1 ∨ j = 2 ∨ j = 3 ∨ j = 4 ∨ j = 5 ∨ j = 6 ∨ j = 7 ∨ j = 8 ∨ j = 9 ∨ j = 10 := by omega
    all_goals
      cases h1
      exact step_cells h2
  intro i hi
  rw [World.var?_cell hg hv i]
  have k := key (i / 3) (by omega)
  have e : cs[i]? = ((cs.toList.drop (i / 3 * 3)).take 3)[i % 3]? := by
    rw [List.getElem?_take, if_pos (by omega), List.getElem?_drop, show i / 3 * 3 + i % 3 = i by omega]
    simp
  rw [e, k]
  rcases (show i % 3 = 0 ∨ i % 3 = 1 ∨ i % 3 = 2 by omega) with r | r | r
  all_goals
    rw [r]
    simp only [List.getElem?_cons_zero, List.getElem?_cons_succ]
    congr 3
    omega
end Go.Proofs.YtkglcainhkbgbaaGreatDoor
namespace Go.Proofs.YtkglcainhkbgbaaGreatDoor
set_option maxRecDepth 100000
open Go.RowKit
theorem gCf : Tryz.prog.globalNamed "loop.example/g00004/impl.curveFactor" = some 8 := by kernel_rfl
theorem tCf : (Tryz.prog.globals[8]?).map (·.type) = some 80 := by kernel_rfl
theorem uEl : Tryz.prog.underlying 80 = some (.array 5 39) := by kernel_rfl
theorem cEl : Tryz.prog.cellsOf 80 = 5 := by kernel_rfl
theorem cf_of_reads {W : World} (h : Lib.VarReads Tryz.prog W "loop.example/g00004/impl.curveFactor" Rows.laid_loop_example_g00004_impl_curveFactor) : Em5 W 8 0 dGo := by
  obtain ⟨g, t, cs, fuel, p, hg, ht, hv, hd⟩ := h
  obtain rfl := Option.some.inj (gCf.symm.trans hg)
  obtain rfl := Option.some.inj (tCf.symm.trans ht)
  have hcs := Lib.cells_of_tab (zs := [929955233495203, 466365720129213, 1662059464998953, 2033849074728123, 1442794654840575]) uEl Tryz.underlying39 cU64 cEl hd
  obtain ⟨l⟩ := cs
  simp only at hcs
  subst hcs
  have key : ∀ j v, (cl5 dL)[j]? = some v → W.cell? ⟨8, 0 + j, none⟩ = some v := fun j v hv' => by
    rw [Nat.zero_add, World.var?_cell hg hv j, List.getElem?_toArray]
    exact hv'
  exact ⟨dL, key, block_lt_of_cell (by simpa using key 0 _ rfl), dL_is⟩
theorem gZp : Tryz.prog.globalNamed "loop.example/g00004/impl.zeroPoint" = some 6 := by kernel_rfl
theorem tZp : (Tryz.prog.globals[6]?).map (·.type) = some 82 := by kernel_rfl
theorem gBp : Tryz.prog.globalNamed "loop.example/g00004/impl.basePoint" = some 2 := by kernel_rfl
theorem tBp : (Tryz.prog.globals[2]?).map (·.type) = some 82 := by kernel_rfl
theorem cAf : Tryz.prog.cellsOf 82 = 10 := by kernel_rfl
theorem row_of_reads {W : World} {n : String} {g : Nat} (e f : Nat → Int) (X Y : Int) (hn : Tryz.prog.globalNamed n = some g) (ht : (Tryz.prog.globals[g]?).map (·.type) = some 82)
    (h : Lib.VarReads Tryz.prog W n (.agg [.agg [.lit (.int .u64 (e 0)), .lit (.int .u64 (e 1)), .lit (.int .u64 (e 2)), .lit (.int .u64 (e 3)), .lit (.int .u64 (e 4))], .agg [.lit (.int .u64 (f 0)), .lit (.int .u64 (f 1)), .lit (.int .u64 (f 2)), .lit (.int .u64 (f 3)), .lit (.int .u64 (f 4))]]))
    (hx : Is5 e X) (hy : Is5 f Y) : RowN W g 0 [X, Y] := by
  obtain ⟨g', t, cs, fuel, p, hg, ht', hv, hd⟩ := h
  obtain rfl := Option.some.inj (hn.symm.trans hg)
  obtain rfl := Option.some.inj (ht.symm.trans ht')
  obtain ⟨y0, y1, m, hx', hl, h0, h1⟩ := ChangeShapes.trod_struct2 Tryz.underlying82 hd
  obtain ⟨d0, p0⟩ := y0
  obtain ⟨d1, p1⟩ := y1
  simp only [Prod.mk.injEq, DataW.agg.injEq, List.cons.injEq, and_true] at hx'
  obtain ⟨⟨rfl, rfl⟩, _⟩ := hx'
  have k0 := Lib.cells_of_tab (zs := [e 0, e 1, e 2, e 3, e 4]) uEl Tryz.underlying39 cU64 cEl h0
  have k1 := Lib.cells_of_tab (zs := [f 0, f 1, f 2, f 3, f 4]) uEl Tryz.underlying39 cU64 cEl h1
  rw [cAf] at hl
  obtain ⟨l⟩ := cs
  simp only at hl k0 k1
  rw [cEl] at k0 k1
  have e1 : l = clN [e, f] := by
    have s : l = (l.drop 0).take 5 ++ (l.drop 5).take 5 := by
      rw [List.drop_zero, List.take_of_length_le (l := l.drop 5) (by rw [List.length_drop]; omega), List.take_append_drop]
    rw [s]
    have k0' : (l.drop 0).take 5 = cl5 e := k0
    have k1' : (l.drop 5).take 5 = cl5 f := k1
    rw [k0', k1']
    simp [clN]
  subst e1
  have key : ∀ j v, (clN [e, f])[j]? = some v → W.cell? ⟨g, 0 + j, none⟩ = some v := fun j v hv' => by
    rw [Nat.zero_add, World.var?_cell hg hv j]
    simpa using hv'
  exact ⟨[e, f], key, block_lt_of_cell (by simpa using key 0 _ rfl), hx, hy, trivial⟩
theorem zp_of_reads {W : World} (h : Lib.VarReads Tryz.prog W "loop.example/g00004/impl.zeroPoint" Rows.laid_loop_example_g00004_impl_zeroPoint) : RowN W 6 0 [0, 1] :=
  row_of_reads (sm5 0) (sm5 1) 0 1 gZp tZp h (sm5_ok (by omega) (by omega)) (sm5_ok (by omega) (by omega))
end Go.Proofs.YtkglcainhkbgbaaGreatDoor
namespace Go.Proofs.YtkglcainhkbgbaaGreatDoor
set_option maxRecDepth 100000
open Go Go.RowKit
section
variable {ops : Array Oper} {Q : Exit → Act → World → Prop} {md : Region.Mode} {F : Nat → Fact} {a0 : Act} {w0 : World} {i : Nat} {o : Oper} {ts : Array TypeId}
end
end Go.Proofs.YtkglcainhkbgbaaGreatDoor
namespace Go.Proofs.YtkglcainhkbgbaaGreatDoor
set_option maxRecDepth 100000
open Go Go.RowKit
end Go.Proofs.YtkglcainhkbgbaaGreatDoor
namespace Go.Proofs.YtkglcainhkbgbaaGreatDoor
set_option maxRecDepth 100000
open Go Go.RowKit
def esA (xs ys : List Int) : List Int := if validP xs ys = true then ys.set 31 (ys.getD 31 0 + 128 * (xs.getD 0 0 % 2)) else []
section
variable {ops : Array Oper} {Q : Exit → Act → World → Prop} {md : Region.Mode} {F : Nat → Fact} {a0 : Act} {w0 : World} {i : Nat} {o : Oper}
end
end Go.Proofs.YtkglcainhkbgbaaGreatDoor
namespace Go.Proofs.YtkglcainhkbgbaaGreatDoor
set_option maxRecDepth 100000
open Go Go.RowKit
theorem lsum_set {xs : List Int} {v : Int} : ∀ n, n ≤ 31 → lsum (fun j => (xs.set 31 v).getD j 0) n = lsum (fun j => xs.getD j 0) n
  | 0, _ => rfl
  | n + 1, h => by
    rw [lsum, lsum, lsum_set n (by omega)]
    congr 2
    simp [List.getD_eq_getElem?_getD, show ¬ (31 = n) by omega]
theorem num_set {xs : List Int} {v : Int} (hl : xs.length = 32) : num (xs.set 31 v) = num xs + (v - xs.getD 31 0) * 256 ^ 31 := by
  unfold num
  rw [List.length_set, hl]
  show lsum (fun j => (xs.set 31 v).getD j 0) 31 + (xs.set 31 v).getD 31 0 * 256 ^ 31 = lsum (fun j => xs.getD j 0) 31 + xs.getD 31 0 * 256 ^ 31 + (v - xs.getD 31 0) * 256 ^ 31
  rw [lsum_set 31 (by omega), Int.sub_mul]
  have e : (xs.set 31 v).getD 31 0 = v := by simp [List.getD_eq_getElem?_getD, hl]
  rw [e]
  omega
theorem can_top {ys : List Int} (hb : Byt ys) (h : canN ys = true) : ys.getD 31 0 < 128 := by
  have l := can_len h
  have k := can_lt h
  have b := lsum_nonneg (fun j => hb j) 31
  unfold num at k
  rw [l, lsum] at k
  have v := hb 31
  have p : PP < 128 * 256 ^ 31 := by decide
  rcases (show ys.getD 31 0 < 128 ∨ 128 ≤ ys.getD 31 0 by omega) with c | c
  · exact c
  · exfalso
    have : 128 * 256 ^ 31 ≤ ys.getD 31 0 * 256 ^ 31 := Int.mul_le_mul_of_nonneg_right c (by decide)
    have e1 : lsum (fun j => ys.getD j 0) 31 + ys.getD 31 0 * 256 ^ 31 < PP := k
    generalize (256 : Int) ^ 31 = q at *
    generalize PP = P at *
    omega
theorem num_odd {xs : List Int} (hl : xs.length = 32) : num xs % 2 = xs.getD 0 0 % 2 := by
  unfold num
  rw [hl]
  have key : ∀ n, lsum (fun j => xs.getD j 0) (n + 1) % 2 = xs.getD 0 0 % 2 := by
    intro n
    induction n with
    | zero => simp [lsum]
    | succ n ih =>
      rw [lsum, Int.pow_succ, ← Int.mul_assoc]
      omega
  exact key 31
theorem fill_byt {zs : List Int} (hb : Byt zs) (l : zs.length = 32) : fill (byt (num zs)) 32 = zs := by
  have h0 := num_ge hb
  have k : ∀ j, j < 32 → (fill (byt (num zs)) 32).getD j 0 = zs.getD j 0 := by
    refine lsum_inj (fun j => bytes_L _ _ j) (fun j => hb j) 32 ?_
    have e2 : num zs = lsum (fun j => zs.getD j 0) 32 := by unfold num; rw [l]
    rw [lsum_congr (b := byt (num zs)) 32 (fun j hj => fill_get _ _ _ hj), lsum_bytS _ h0, ← e2]
    refine Int.emod_eq_of_lt h0 ?_
    have bd : ∀ m, lsum (fun j => zs.getD j 0) m < 256 ^ m := by
      intro m
      induction m with
      | zero => simp [lsum]
      | succ m ih =>
        have hm := hb m
        have hp := p256_pos m
        rw [lsum, Int.pow_succ]
        have e1 : zs.getD m 0 * 256 ^ m ≤ 255 * 256 ^ m := Int.mul_le_mul_of_nonneg_right (by omega) (Int.le_of_lt hp)
        omega
    rw [e2]
    exact bd 32
  apply List.ext_getElem
  · rw [fill_len, l]
  · intro i h1 h2
    have := k i (by rw [fill_len] at h1; exact h1)
    simpa [List.getD_eq_getElem?_getD, h1, h2] using this
theorem enA_eq {xs ys : List Int} (hx : Byt xs) (hy : Byt ys) : enA dGo xs ys = esA xs ys := by
  unfold enA esA
  rw [rp_valid]
  by_cases h : validP xs ys = true
  · rw [if_pos h, if_pos h, rpX_of h, rpY_of h]
    have lx := can_len (valid_x1 h)
    have ly := can_len (valid_y1 h)
    rw [Int.emod_eq_of_lt (num_ge hx) (can_lt (valid_x1 h)), Int.emod_eq_of_lt (num_ge hy) (can_lt (valid_y1 h)), num_odd lx]
    have v0 := hx 0
    have t := can_top hy (valid_y1 h)
    have v31 := hy 31
    have e : num (ys.set 31 (ys.getD 31 0 + 128 * (xs.getD 0 0 % 2))) = num ys + if (!decide (xs.getD 0 0 % 2 = 0)) = true then 57896044618658097711785492504343953926634992332820282019728792003956564819968 else 0 := by
      rw [num_set ly]
      rcases (show xs.getD 0 0 % 2 = 0 ∨ xs.getD 0 0 % 2 = 1 by omega) with c | c
      · rw [c]
        simp
      · rw [c]
        simp
        omega
    rw [← e]
    refine fill_byt (fun i => ?_) (by rw [List.length_set]; exact ly)
    by_cases c : i = 31
    · subst c
      simp only [List.getD_eq_getElem?_getD, List.getElem?_set, ly]
      simp
      have t' : ys[31]?.getD (0 : Int) < 128 := by simpa [List.getD_eq_getElem?_getD] using t
      have v31' : 0 ≤ ys[31]?.getD (0 : Int) := by simpa [List.getD_eq_getElem?_getD] using v31.1
      omega
    · have := hy i
      simpa [List.getD_eq_getElem?_getD, List.getElem?_set, Ne.symm c] using this
  · rw [if_neg h, if_neg h]
end Go.Proofs.YtkglcainhkbgbaaGreatDoor
namespace Go.Proofs.YtkglcainhkbgbaaGreatDoor
set_option maxRecDepth 100000
open Go Go.RowKit
end Go.Proofs.YtkglcainhkbgbaaGreatDoor
namespace Go.Proofs.YtkglcainhkbgbaaGreatDoor
set_option maxRecDepth 100000
open Go Go.RowKit
def bxL : Nat → Int
  | 0 => 1738742601995546
  | 1 => 1146398526822698
  | 2 => 2070867633025821
  | 3 => 562264141797630
  | 4 => 587772402128613
  | _ => 0
def byL : Nat → Int
  | 0 => 1801439850948184
  | 1 => 1351079888211148
  | 2 => 450359962737049
  | 3 => 900719925474099
  | 4 => 1801439850948198
  | _ => 0
theorem bxL_is : Is5 bxL bX := ⟨by unfold Lm; decide, by decide +kernel⟩
theorem byL_is : Is5 byL bY := ⟨by unfold Lm; decide, by decide +kernel⟩
theorem bp_of_reads {W : World} (h : Lib.VarReads Tryz.prog W "loop.example/g00004/impl.basePoint" Rows.laid_loop_example_g00004_impl_basePoint) : RowN W 2 0 [bX, bY] := row_of_reads bxL byL bX bY gBp tBp h bxL_is byL_is
end Go.Proofs.YtkglcainhkbgbaaGreatDoor
namespace Go.Proofs.YtkglcainhkbgbaaGreatDoor
set_option maxRecDepth 100000
open Go Go.RowKit
def en (p : Int × Int) : List Int := (ly p).set 31 ((ly p).getD 31 0 + 128 * (p.1 % 2))
theorem lx_low (p : Int × Int) : (lx p).getD 0 0 % 2 = p.1 % 2 := by
  unfold lx
  rw [fill_get _ _ _ (by omega)]
  unfold byt
  simp only [Int.pow_zero, Int.ediv_one]
  omega
theorem ly_top {p : Int × Int} (h : Pv p) : 0 ≤ (ly p).getD 31 0 ∧ (ly p).getD 31 0 < 128 := by
  unfold ly
  rw [fill_get _ _ _ (by omega)]
  unfold byt
  have h0 := h.cn.y.1
  have h1 : p.2 < 57896044618658097711785492504343953926634992332820282019728792003956564819968 := Int.lt_trans h.cn.y.2 (by decide)
  have e : (256 : Int) ^ 31 = 452312848583266388373324160190187140051835877600158453279131187530910662656 := by decide
  rw [e]
  generalize p.2 = y at *
  omega
theorem es_en {p : Int × Int} (h : Pv p) : esA (lx p) (ly p) = en p := by
  unfold esA en
  rw [if_pos (lv_valid h), lx_low]
theorem en_len (p : Int × Int) : (en p).length = 32 := by
  unfold en
  rw [List.length_set, ly_len]
theorem en_31 (p : Int × Int) : (en p).getD 31 0 = (ly p).getD 31 0 + 128 * (p.1 % 2) := by
  unfold en
  generalize (ly p).getD 31 0 + 128 * (p.1 % 2) = v
  rw [List.getD_eq_getElem?_getD, List.getElem?_set_self (by rw [ly_len]; omega)]
  rfl
theorem set_getD {xs : List Int} {k : Nat} (h : k < xs.length) : xs.set k (xs.getD k 0) = xs := by
  rw [List.getD_eq_getElem?_getD, List.getElem?_eq_getElem h]
  exact List.set_getElem_self h
theorem en_low {p : Int × Int} (h : Pv p) : low7s (en p) = ly p := by
  have t := ly_top h
  unfold low7s
  rw [en_31]
  have e : ((ly p).getD 31 0 + 128 * (p.1 % 2)) % 128 = (ly p).getD 31 0 := by omega
  rw [e]
  unfold en
  rw [List.set_set]
  exact set_getD (by rw [ly_len]; omega)
theorem en_odd {p : Int × Int} (h : Pv p) : decide (128 ≤ (en p).getD 31 0) = decide (p.1 % 2 = 1) := by
  have t := ly_top h
  rw [en_31]
  by_cases c : p.1 % 2 = 1
  · rw [decide_eq_true c]
    exact decide_eq_true (by omega)
  · rw [decide_eq_false c]
    exact decide_eq_false (by omega)
theorem en_byt {p : Int × Int} (h : Pv p) : Byt (en p) := fun j => by
  by_cases c : j = 31
  · subst c
    have t := ly_top h
    rw [en_31]
    omega
  · unfold en
    rw [List.getD_eq_getElem?_getD, List.getElem?_set_ne (by omega), ← List.getD_eq_getElem?_getD]
    exact ly_byt p j
theorem dec_en {p : Int × Int} (h : Pv p) : dcB (en p) = true ∧ dcX (en p) = lx p ∧ dcY (en p) = ly p := by
  have x0 := h.cn.x.1
  have x1 := h.cn.x.2
  have y0 := h.cn.y.1
  have y1 := h.cn.y.2
  have r := lift_back (y := p.2) x0 x1 h.on
  have L : liB p.2 (decide (p.1 % 2 = 1)) = true := by
    unfold liB
    rw [r.1, r.2]
    by_cases c : p.1 % 2 = 1
    · rw [decide_eq_true c, if_neg (by omega), Int.emod_eq_of_lt (by omega) (by omega)]
      have : ¬ (PP - p.1 = 0) := by omega
      rw [decide_eq_false this]
      rfl
    · rw [decide_eq_false c]
      rfl
  have B : dcB (en p) = true := by
    unfold dcB
    rw [en_low h, en_odd h, en_len, ly_num h, show canN (ly p) = true from can_fill y0 y1, L]
    rfl
  refine ⟨B, ?_, ?_⟩
  · unfold dcX
    rw [if_pos B, en_low h, en_odd h, ly_num h]
    unfold liX
    rw [if_pos L, r.2]
    by_cases c : p.1 % 2 = 1
    · rw [if_pos (decide_eq_true c), if_neg (by omega), show 0 - (PP - p.1) = p.1 + PP * (-1) by generalize PP = P; omega, Int.add_mul_emod_self_left, Int.emod_eq_of_lt x0 x1]
      rfl
    · rw [if_neg (by simpa using c), if_pos (by omega), Int.emod_eq_of_lt x0 x1]
      rfl
  · unfold dcY
    rw [if_pos B, en_low h, en_odd h, ly_num h]
    unfold liY
    rw [if_pos L, Int.emod_eq_of_lt y0 y1]
    rfl
end Go.Proofs.YtkglcainhkbgbaaGreatDoor
namespace Go.Proofs.YtkglcainhkbgbaaGreatDoor
set_option maxRecDepth 100000
open Go Go.RowKit
theorem gdv {a : Act} {p : Nat} {v : Value} (h : a.tmps.getD p undef = v) : a.tmps[p]?.getD undef = v := by rw [← h]; simp
section
variable {P : Program} {ops : Array Oper} {Q : Exit → Act → World → Prop} {md : Region.Mode} {F : Nat → Fact} {a0 : Act} {w0 : World}
theorem step_callv {i : Nat} {o : Oper} (hi : ops[i]? = some o) (n : FuncId) (args : Array Operand) (ts : Array TypeId) (hop : o.op = .call { callee := .value (.func n), args := args, argTypes := ts }) (he : enters P n = true)
    (G : ∀ a w, Based ops a0 a → Below w0.heap.size w0 w → Facts md ops F i a w → Calls P n (args.toList.map a.eval).toArray w fun e w' => ∃ v, e = .returned v ∧ Below w.heap.size w w' ∧ (F i).p v w') : StepOk P md ops Q F a0 w0 i := by
  intro o' ho' a w hb hw hf K hK
  obtain rfl := Option.some.inj (hi.symm.trans ho')
  have hr : (execOp a.eval o).run P w = .ok (.enter n (args.map a.eval)) w := by
    have h0 : (Deferred.ofValue (Value.func (Fn.func n) #[] #[]) (args.map a.eval)).run P w = .ok { target := .fn (.func n) #[], args := args.map a.eval } w := by simp [Deferred.ofValue]
    simp [execOp, hop, resolve, invoke, Act.eval, h0, run_enter he]
  have e : args.map a.eval = (args.toList.map a.eval).toArray := by cases args; simp
  unfold Oper.wp
  rw [hr, e, Oper.upon_enter]
  refine (G a w hb hw hf).mono ?_
  rintro e w' ⟨v, rfl, hn, hv⟩
  exact hK v w' hn hv
theorem region_put {id : Nat} {draw : Bool} {w : World} (k jD jV pD pV : Nat) (o : Oper) (F : Nat → Fact) (q off : Nat) (ty : TypeId) (cells : List Value) (hm : P.follows .mixedOrders = true) (hT : textOk .any ops a0.tmps.size k = true) (hk : ops[k]? = some o) (hd : o.dst = none)
    (hop : o.op = .store ty (.tmp pD) (.tmp pV)) (wD : writes ops jD pD = true) (FD : F jD = Fact.eq (.pointer (some ⟨q, off, none⟩))) (wV : writes ops jV pV = true) (FV : F jV = Fact.eq (.agg cells.toArray))
    (hth : ∀ W, Below w.heap.size w W → W.there q off cells.length) (hi : (P.info? ty).map (·.size) = some cells.length) (h1 : cells.toArray.all (·.oneCell') = true) (steps : ∀ i, i < k → StepOk P .any ops Q F a0 w i)
    (fin : ∀ (vs : Nat → Value) (W : World), Below w.heap.size w W → Q .normal (puts vs a0 ops.toList) (W.setCells q off cells)) : (Code.region id ops draw).wp P Q a0 w := by
  refine region_store k o F hm hT hk hd steps fun a W hb hw hF => ?_
  have e1 := hF jD pD wD
  have e2 := hF jV pV wV
  rw [FD] at e1
  rw [FV] at e2
  refine wp_store_mid ty (.tmp pD) (.tmp pV) hop q off cells.toArray e1 e2 (by rw [List.size_toArray]; exact hth W hw) (by rw [List.size_toArray]; exact hi) h1 ?_
  obtain ⟨vs, hvs⟩ : ∃ vs : Nat → Value, ∀ d, a.tmps.getD d undef = vs d := ⟨_, fun _ => rfl⟩
  rw [hd]
  show Q .normal a _
  rw [puts_of hT rfl hb vs hvs]
  exact fin vs W hw
end
end Go.Proofs.YtkglcainhkbgbaaGreatDoor
namespace Go.Proofs.YtkglcainhkbgbaaGreatDoor
set_option maxRecDepth 100000
open Go.RowKit
theorem Rd.dropA {w : World} {g : Nat} {a : Option Addr} {k : IntKind} {xs : List Int} (h : Rd w g a k xs) (n : Nat) (hn : n < xs.length) : ∃ o, a = some ⟨g, o, none⟩ ∧ Rd w g (some ⟨g, o + n, none⟩) k (xs.drop n) := by
  obtain ⟨o, rfl, hc⟩ := h (by omega)
  refine ⟨o, rfl, fun _ => ⟨o + n, rfl, fun i hi => ?_⟩⟩
  rw [List.length_drop] at hi
  rw [Nat.add_assoc, hc (n + i) (by omega), List.getD_eq_getElem?_getD, List.getD_eq_getElem?_getD, List.getElem?_drop]
theorem Rd.takeA {w : World} {g : Nat} {a : Option Addr} {k : IntKind} {xs : List Int} (h : Rd w g a k xs) (n : Nat) : Rd w g a k (xs.take n) := fun h0 => by
  rw [List.length_take] at h0
  obtain ⟨o, e, hc⟩ := h (by omega)
  refine ⟨o, e, fun i hi => ?_⟩
  rw [List.length_take] at hi
  rw [hc i (by omega), List.getD_eq_getElem?_getD, List.getD_eq_getElem?_getD, List.getElem?_take, if_pos (by omega)]
end Go.Proofs.YtkglcainhkbgbaaGreatDoor
namespace Go.Proofs.YtkglcainhkbgbaaGreatDoor
set_option maxRecDepth 100000
open Go Go.RowKit
section
variable {P : Program} {ops : Array Oper} {Q : Exit → Act → World → Prop} {a0 : Act}
theorem region_putB {id : Nat} {draw : Bool} {w : World} (k pD jV pV : Nat) (o : Oper) (F : Nat → Fact) (q N : Nat) (ty : TypeId) (R : List Value → World → Prop) (hm : P.follows .mixedOrders = true) (hT : textOk .any ops a0.tmps.size k = true) (hk : ops[k]? = some o) (hd : o.dst = none)
    (hop : o.op = .store ty (.tmp pD) (.tmp pV)) (aD : apart ops pD = true) (eD : a0.tmps.getD pD undef = .pointer (some ⟨q, 0, none⟩)) (wV : writes ops jV pV = true)
    (FV : ∀ v W, (F jV).p v W → ∃ cells : List Value, v = .agg cells.toArray ∧ cells.length = N ∧ cells.toArray.all (·.oneCell') = true ∧ R cells W)
    (hth : ∀ W, Below w.heap.size w W → W.there q 0 N) (hi : (P.info? ty).map (·.size) = some N) (steps : ∀ i, i < k → StepOk P .any ops Q F a0 w i)
    (fin : ∀ (vs : Nat → Value) (W : World) (cells : List Value), Below w.heap.size w W → R cells W → Q .normal (puts vs a0 ops.toList) (W.setCells q 0 cells)) : (Code.region id ops draw).wp P Q a0 w := by
  refine region_store k o F hm hT hk hd steps fun a W hb hw hF => ?_
  obtain ⟨cells, e2, hl, h1, hR⟩ := FV _ _ (hF jV pV wV)
  have e1 : a.eval (.tmp pD) = .pointer (some ⟨q, 0, none⟩) := (hb.2.2 pD aD).trans eD
  refine wp_store_mid ty (.tmp pD) (.tmp pV) hop q 0 cells.toArray e1 e2 (by rw [List.size_toArray, hl]; exact hth W hw) (by rw [List.size_toArray, hl]; exact hi) h1 ?_
  obtain ⟨vs, hvs⟩ : ∃ vs : Nat → Value, ∀ d, a.tmps.getD d undef = vs d := ⟨_, fun _ => rfl⟩
  rw [hd]
  show Q .normal a _
  rw [puts_of hT rfl hb vs hvs]
  exact fin vs W cells hw hR
end
end Go.Proofs.YtkglcainhkbgbaaGreatDoor
namespace Go.Proofs.YtkglcainhkbgbaaGreatDoor
set_option maxRecDepth 100000
open Go.RowKit
def bigL (v : Int) (t : Nat) : List Int := (List.range t).map fun j => v / 256 ^ (t - 1 - j) % 256
theorem bigL_len (v : Int) (t : Nat) : (bigL v t).length = t := by simp [bigL]
theorem bigL_get (v : Int) (t j : Nat) (h : j < t) : (bigL v t).getD j 0 = v / 256 ^ (t - 1 - j) % 256 := by simp [bigL, h]
theorem bigL_byt (v : Int) (t : Nat) : Byt (bigL v t) := by
  intro j
  by_cases h : j < t
  · rw [bigL_get v t j h]
    omega
  · have : (bigL v t).getD j 0 = 0 := by
      rw [List.getD_eq_getElem?_getD, List.getElem?_eq_none (by rw [bigL_len]; omega)]
      rfl
    rw [this]
    omega
def BigTo (v : Int) (t : Nat) (ys : List Int) (k : Nat) : Prop := ys.length = t ∧ ∀ j, t - k ≤ j → j < t → ys.getD j 0 = v / 256 ^ (t - 1 - j) % 256
theorem BigTo.zero (v : Int) (t : Nat) : BigTo v t (List.replicate t 0) 0 := ⟨by simp, fun j h h' => absurd h (by omega)⟩
theorem BigTo.step {v : Int} {t : Nat} {ys : List Int} {k : Nat} (h : BigTo v t ys k) (hk : k < t) : BigTo v t (ys.set (t - 1 - k) (v / 256 ^ k % 256)) (k + 1) := by
  refine ⟨by simpa using h.1, fun j hj hj' => ?_⟩
  by_cases e : t - 1 - k = j
  · subst e
    rw [getD_set_self _ _ _ (by rw [h.1]; omega), show t - 1 - (t - 1 - k) = k by omega]
  · rw [getD_set_ne _ _ _ _ e]
    exact h.2 j (by omega) hj'
theorem BigTo.all {v : Int} {t : Nat} {ys : List Int} (h : BigTo v t ys t) : ys = bigL v t :=
  eq_of_getD (by rw [h.1, bigL_len]) (fun i hi => by rw [h.1] at hi; rw [h.2 i (by omega) hi, bigL_get v t i hi])
theorem getD_apd_right (xs ys : List Int) (i : Nat) (h : xs.length ≤ i) : (xs ++ ys).getD i 0 = ys.getD (i - xs.length) 0 := by
  rw [List.getD_eq_getElem?_getD, List.getElem?_append_right h, ← List.getD_eq_getElem?_getD]
theorem getD_apd_left (xs ys : List Int) (i : Nat) (h : i < xs.length) : (xs ++ ys).getD i 0 = xs.getD i 0 := by
  rw [List.getD_eq_getElem?_getD, List.getElem?_append_left h, ← List.getD_eq_getElem?_getD]
def padZ (n : Int) (B t : Nat) : Nat := (((B : Int) - (n + 1 + (t : Int)) % (B : Int)) % (B : Int)).toNat
def padL (n : Int) (B t : Nat) : List Int := 128 :: (List.replicate (padZ n B t) 0 ++ bigL (8 * n) t)
theorem padL_len (n : Int) (B t : Nat) : (padL n B t).length = 1 + padZ n B t + t := by
  unfold padL
  simp [bigL_len]
  omega
theorem byt_cons {x : Int} {xs : List Int} (h0 : 0 ≤ x) (h1 : x < 256) (h : Byt xs) : Byt (x :: xs) := by
  intro j
  cases j with
  | zero => exact ⟨h0, h1⟩
  | succ j => exact h j
theorem byt_apd {xs ys : List Int} (h : Byt xs) (k : Byt ys) : Byt (xs ++ ys) := by
  intro j
  rw [List.getD_eq_getElem?_getD]
  by_cases c : j < xs.length
  · rw [List.getElem?_append_left c, ← List.getD_eq_getElem?_getD]
    exact h j
  · rw [List.getElem?_append_right (by omega), ← List.getD_eq_getElem?_getD]
    exact k _
theorem byt_rep0 (n : Nat) : Byt (List.replicate n 0) := by
  intro j
  rw [List.getD_eq_getElem?_getD, List.getElem?_replicate]
  split <;> simp
theorem padL_byt (n : Int) (B t : Nat) : Byt (padL n B t) := byt_cons (by omega) (by omega) (byt_apd (byt_rep0 _) (bigL_byt _ _))
theorem padZ_lt (n : Int) {B t : Nat} (h : 0 < B) : padZ n B t < B := by
  unfold padZ
  have h0 := Int.emod_nonneg ((B : Int) - (n + 1 + (t : Int)) % (B : Int)) (show (B : Int) ≠ 0 by omega)
  have h1 := Int.emod_lt_of_pos ((B : Int) - (n + 1 + (t : Int)) % (B : Int)) (show (0 : Int) < (B : Int) by omega)
  omega
def padS (n : Int) (B t : Nat) : Nat := 1 + padZ n B t + t
theorem padS_64 (n : Int) : ((padS n 128 16 : Nat) : Int) = if 128 - n % 128 < 17 then 128 - n % 128 + 128 else 128 - n % 128 := by
  unfold padS padZ
  split <;> omega
def PadTo (n : Int) (s : Nat) (ys : List Int) (k : Nat) : Prop :=
  ys.length = s ∧ ys.getD 0 0 = 128 ∧ (∀ j, 0 < j → j < s - k → ys.getD j 0 = 0) ∧ ∀ j, s - k ≤ j → j < s → ys.getD j 0 = 8 * n / 256 ^ (s - 1 - j) % 256
theorem PadTo.zero (n : Int) (s : Nat) (h : 0 < s) : PadTo n s ((List.replicate s 0).set 0 128) 0 := by
  refine ⟨by simp, ?_, fun j h0 hj => ?_, fun j hj hj' => absurd hj (by omega)⟩
  · rw [getD_set_self _ _ _ (by simpa using h)]
  · rw [getD_set_ne _ _ _ _ (by omega)]
    rw [List.getD_eq_getElem?_getD, List.getElem?_replicate]
    split <;> rfl
theorem PadTo.step {n : Int} {s : Nat} {ys : List Int} {k : Nat} (h : PadTo n s ys k) (hk : k + 1 < s) : PadTo n s (ys.set (s - 1 - k) (8 * n / 256 ^ k % 256)) (k + 1) := by
  obtain ⟨h1, h2, h3, h4⟩ := h
  refine ⟨by simpa using h1, ?_, fun j h0 hj => ?_, fun j hj hj' => ?_⟩
  · rw [getD_set_ne _ _ _ _ (by omega)]
    exact h2
  · rw [getD_set_ne _ _ _ _ (by omega)]
    exact h3 j h0 (by omega)
  · by_cases e : s - 1 - k = j
    · subst e
      rw [getD_set_self _ _ _ (by rw [h1]; omega), show s - 1 - (s - 1 - k) = k by omega]
    · rw [getD_set_ne _ _ _ _ e]
      exact h4 j (by omega) hj'
theorem PadTo.all {n : Int} {B t : Nat} {ys : List Int} (h0 : 0 ≤ n) (h1 : n ≤ 1099511627776) (ht : t = 8 ∨ t = 16) (h : PadTo n (padS n B t) ys 8) : ys = padL n B t := by
  obtain ⟨a1, a2, a3, a4⟩ := h
  refine eq_of_getD (by rw [a1, padL_len]; rfl) (fun i hi => ?_)
  rw [a1] at hi
  have hs : padS n B t = 1 + padZ n B t + t := rfl
  unfold padL
  cases i with
  | zero => rw [a2]; rfl
  | succ i =>
    rw [List.getD_cons_succ]
    by_cases c : i < padZ n B t
    · rw [a3 _ (by omega) (by omega), List.getD_eq_getElem?_getD, List.getElem?_append_left (by simpa using c), List.getElem?_replicate, if_pos c]
      rfl
    · rw [getD_apd_right (List.replicate (padZ n B t) 0) _ i (by simpa using c), List.length_replicate, bigL_get _ _ _ (by omega)]
      by_cases d : padS n B t - 8 ≤ i + 1
      · rw [a4 _ d hi, show padS n B t - 1 - (i + 1) = t - 1 - (i - padZ n B t) by omega]
      · rw [a3 _ (by omega) (by omega)]
        obtain ⟨e, he⟩ : ∃ e, t - 1 - (i - padZ n B t) = 8 + e := ⟨t - 1 - (i - padZ n B t) - 8, by omega⟩
        rw [he, Int.pow_add]
        have hp := p256_pos e
        have hz : 8 * n / ((256 : Int) ^ 8 * 256 ^ e) = 0 := by
          refine Int.ediv_eq_zero_of_lt (by omega) ?_
          have : (256 : Int) ^ 8 * 1 ≤ 256 ^ 8 * 256 ^ e := Int.mul_le_mul_of_nonneg_left (by omega) (by decide)
          have : (256 : Int) ^ 8 = 18446744073709551616 := by decide
          omega
        rw [hz]
        rfl
end Go.Proofs.YtkglcainhkbgbaaGreatDoor
namespace Go.Proofs.YtkglcainhkbgbaaGreatDoor
set_option maxRecDepth 100000
open Go.RowKit
def RowB (w : World) (base : Nat) (v : Value) (xs : List Int) : Prop := w.ownsRow base 5 1 v xs.length (xs.map (Value.int .u8))
theorem RowB.up {w w' : World} {base : Nat} {v : Value} {xs : List Int} (h : RowB w base v xs) (hb : Below w.heap.size w w') : RowB w' base v xs := by
  refine ⟨h.1, ?_⟩
  rcases h.2 with h' | ⟨g, cap, cur, rfl, hbg, hg, hnc, hcm, hcs, ht⟩
  · exact .inl h'
  · exact .inr ⟨g, cap, cur, rfl, hbg, by rw [hb.block g ((Array.getElem?_eq_some_iff.1 hg).1)]; exact hg, hnc, hcm, hcs, ht⟩
theorem RowB.only {w w' : World} {base q : Nat} {v : Value} {xs : List Int} (h : RowB w base v xs) (hb : Only q w w') (hq : q < base) : RowB w' base v xs := by
  refine ⟨h.1, ?_⟩
  rcases h.2 with h' | ⟨g, cap, cur, rfl, hbg, hg, hnc, hcm, hcs, ht⟩
  · exact .inl h'
  · exact .inr ⟨g, cap, cur, rfl, hbg, by rw [hb.block g (by omega)]; exact hg, hnc, hcm, hcs, ht⟩
theorem RowB.base {w : World} {base base' : Nat} {v : Value} {xs : List Int} (h : RowB w base v xs) (hb : base' ≤ base) : RowB w base' v xs := by
  refine ⟨h.1, ?_⟩
  rcases h.2 with h' | ⟨g, cap, cur, rfl, hbg, hg, hnc, hcm, hcs, ht⟩
  · exact .inl h'
  · exact .inr ⟨g, cap, cur, rfl, by omega, hg, hnc, hcm, hcs, ht⟩
theorem RowB.own {w : World} {base : Nat} {v : Value} {xs : List Int} (h : RowB w base v xs) :
    ∃ (a : Option Addr) (c g : Nat), v = .slice a xs.length c ∧ Own w g a .u8 xs ∧ (a = none → c = 0) ∧ xs.length ≤ c ∧ base ≤ g := Own.of_ownsRow h
theorem append_any {P : Program} (w : World) (ty : TypeId) (i : TypeInfo) (ht : P.underlying 22 = some (.slice 5)) (hi : P.info? 5 = some i) (hz : i.zero = some (.int .u8 0)) (hsize : i.size = 1) (hby : i.bytes = 1)
    (base B : Nat) (v : Value) (xs : List Int) (hown : RowB w base v xs) (g : Nat) (a : Option Addr) (c : Nat) (us : List Int) (hr : Rd w g a .u8 us) (hc : a = none → c = 0) (hl : xs.length + us.length ≤ 1099511627776) (hB : B ≤ base) (hbase : base ≤ w.heap.size) :
    ∃ v' w', (Builtin.append_ #[22, 22] ty #[v, .slice a us.length c]).run P w = .ok v' w' ∧ RowB w' base v' (xs ++ us) ∧ Below B w w' := by
  cases a with
  | none =>
    obtain rfl : us = [] := by
      by_cases h0 : 0 < us.length
      · obtain ⟨off, h, _⟩ := hr h0
        simp at h
      · exact List.eq_nil_of_length_eq_zero (by omega)
    obtain rfl := hc rfl
    exact ⟨v, w, run_append_owned_none (P := P) (w := w) base 22 ty 5 i 1 ht hi v _ _ hown, by rw [List.append_nil]; exact hown, Below.refl _ _⟩
  | some ad =>
    have hcell : ∀ j u, (us.map (Value.int .u8))[j]? = some u → w.cell? (ad.add j) = some u := by
      intro j u hj
      have hjl : j < us.length := by
        have := (List.getElem?_eq_some_iff.1 hj).1
        simpa using this
      obtain ⟨off, ha, hcc⟩ := hr (by omega)
      simp only [Option.some.injEq] at ha
      subst ha
      rw [Addr.add_mid, hcc j hjl]
      simpa [hjl] using hj
    have hone : ∀ u ∈ us.map (Value.int .u8), u.oneCell' = true := by
      intro u hu
      obtain ⟨x, _, rfl⟩ := List.mem_map.1 hu
      rfl
    obtain ⟨v', w', h1, h2, h3, _⟩ := run_append_own (P := P) w base 22 ty 5 i (.int .u8 0) 1 1 ht hi hz hsize hby rfl (by decide) v xs.length (xs.map (Value.int .u8)) hown ad us.length c (us.map (Value.int .u8)) (by simp) hcell hone (by unfold maxLen; omega) (by omega) hbase
    refine ⟨v', w', h1, ?_, (Below.refl B w).grown h3 (by omega) (fun k hk => by have := (World.ownsRow.lt hown k hk).1; omega)⟩
    show w'.ownsRow base 5 1 v' (xs ++ us).length ((xs ++ us).map (Value.int .u8))
    rw [List.length_append, List.map_append]
    exact h2
theorem RowB.rd {w : World} {base : Nat} {v : Value} {xs : List Int} (h : RowB w base v xs) : ∃ (a : Option Addr) (c g : Nat), v = .slice a xs.length c ∧ Rd w g a .u8 xs ∧ (a = none → c = 0) ∧ xs.length ≤ c ∧ base ≤ g := by
  obtain ⟨a, c, g, h1, h2, h3⟩ := h.own
  exact ⟨a, c, g, h1, h2.rd, h3⟩
theorem newRow_z (w : World) (k : IntKind) : NewRow w.heap.size w (.returned (.slice none 0 0)) k [] :=
  ⟨_, 0, w.heap.size, rfl, Own.nil _ _ _ _, by simp, Nat.zero_le _, Nat.le_refl _⟩
end Go.Proofs.YtkglcainhkbgbaaGreatDoor
namespace Go.Proofs.YtkglcainhkbgbaaGreatDoor
set_option maxRecDepth 100000
open Go.RowKit
theorem p256_two (k : Nat) : (256 : Int) ^ k = 2 ^ (8 * k) := by rw [Int.pow_mul]; rfl
set_option maxRecDepth 20000 in
set_option maxHeartbeats 1000000 in
theorem len64_64 (w : World) : Calls Tryz.prog 111 #[.int .u64 18446744073709551615] w fun e w' => e = .returned (.int .i64 64) ∧ w' = w := by
  go_enter Tryz.func111, Tryz.ntmps111
  go_wp2
  go_ret
  exact ⟨by kernel_rfl, rfl⟩
set_option maxHeartbeats 1000000 in
theorem wordBits_64 (w : World) : Calls Tryz.prog 92 #[] w fun e w' => e = .returned (.int .i64 64) ∧ w' = w := by
  go_enter Tryz.func92, Tryz.ntmps92
  go_wp2_with fail
  refine (len64_64 w).mono ?_
  rintro r w1 ⟨rfl, rfl⟩
  go_wp2
  go_ret
  exact ⟨rfl, rfl⟩
theorem wordSize_64 (w : World) : Calls Tryz.prog 93 #[] w fun e w' => e = .returned (.int .i64 8) ∧ w' = w := by
  go_enter Tryz.func93, Tryz.ntmps93
  go_wp2_with fail
  refine (wordBits_64 w).mono ?_
  rintro r w1 ⟨rfl, rfl⟩
  go_wp2
  go_ret
  exact ⟨rfl, rfl⟩
theorem blockSize_64 (w : World) : Calls Tryz.prog 72 #[] w fun e w' => e = .returned (.int .i64 128) ∧ w' = w := by
  go_enter Tryz.func72, Tryz.ntmps72
  go_wp2_with fail
  refine (wordSize_64 w).mono ?_
  rintro r w1 ⟨rfl, rfl⟩
  go_wp2
  go_ret
  exact ⟨rfl, rfl⟩
set_option maxHeartbeats 4000000 in
theorem padding_64 (w : World) (n : Int) (h0 : 0 ≤ n) (h1 : n ≤ 1099511627776) :
    Calls Tryz.prog 76 #[.int .i64 n] w fun e w' => NewRow w.heap.size w' e .u8 (padL n 128 16) ∧ Below w.heap.size w w' := by
  obtain ⟨i0, hi, hz0, hz1, hz2⟩ := info_parts Tryz.info5
  have PS := padS_64 n
  have PL : padS n 128 16 = (padL n 128 16).length := (padL_len n 128 16).symm
  have PA := fun ys => hide (fun h => PadTo.all (n := n) (B := 128) (t := 16) (ys := ys) h0 h1 (by decide) h)
  have S1 : 17 ≤ padS n 128 16 ∧ padS n 128 16 ≤ 256 := by have := padZ_lt n (B := 128) (t := 16) (by decide); unfold padS; omega
  have T : decide (128 - n % 128 < 17) = true ∧ 128 - n % 128 + 128 = (padS n 128 16 : Int) ∨ decide (128 - n % 128 < 17) = false ∧ 128 - n % 128 = (padS n 128 16 : Int) := by
    rw [PS]
    split
    · left; simp_all
    · right; simp_all
  generalize padL n 128 16 = pl at *
  generalize padS n 128 16 = s at *
  clear PS
  have KL := hide PL
  clear PL
  have z0 : 0 ≤ n % 128 ∧ n % 128 < 128 := by omega
  rcases T with ⟨t1, t2⟩ | ⟨t1, t2⟩
  · go_enter Tryz.func76, Tryz.ntmps76
    go_wp2_with fail
    refine (blockSize_64 w).mono ?_
    rintro r w1 ⟨rfl, rfl⟩
    go_wp2_with fail
    refine (blockSize_64 w1).mono ?_
    rintro r w2 ⟨rfl, rfl⟩
    go_wp2_with fail
    refine (wordSize_64 w2).mono ?_
    rintro r w3 ⟨rfl, rfl⟩
    go_wp2_with fail
    refine (blockSize_64 w3).mono ?_
    rintro r w4 ⟨rfl, rfl⟩
    go_wp2_with (at_make; refine wpList_make_full _ rfl _ _ 22 rfl w4.heap.size 5 i0 (.int .u8 0) 1 Tryz.underlying22 hi hz0 hz1 .i64 .i64 _ _ s rfl rfl rfl rfl (by rw [hz2]; omega) (by unfold maxLen; omega) (Nat.le_refl _) ?_; intro w5 hown hgrow; have hB0 := Blk.of_made hown; have h00 := hB0.cell (i := 0) (by simp; omega); generalize (List.replicate s (0 : Int)).getD 0 0 = y0 at h00; have f00 := hB0.free 0; have s0 : (0 : Int) < (s : Int) := by omega)
    have hN0 : Below w4.heap.size w4 w5 := (Below.refl _ _).grown hgrow (Nat.le_refl _) (by simp)
    have hB1 := hB0.store 0 128
    have hN1 : Below w4.heap.size w4 (w5.setCell ⟨w4.heap.size, 0, none⟩ (.int .u8 128)) := hN0.setCell (Nat.le_refl _) _
    have P0 := PadTo.zero n s (by omega)
    clear hown hgrow hB0 hN0
    go_loopw [23] (fun i wr => ∃ (k : Nat) (ys : List Int), k ≤ 8 ∧ i = .int .i64 k ∧ PadTo n s ys k ∧ Blk wr w4.heap.size .u8 ys ∧ Below w4.heap.size w4 wr) (fun i _ => 8 - (intOf i).toNat)
    case atStart => exact ⟨0, _, Nat.zero_le _, rfl, P0, hB1, hN1⟩
    case round =>
      obtain ⟨k, ys, hk, rfl, hT, hB, hN⟩ := hrel
      by_cases hlt : k < 8
      · have R := hT.step (by omega)
        rw [p256_two k] at R
        obtain ⟨p, hp⟩ : ∃ p : Nat, s - 1 - k = p := ⟨_, rfl⟩
        rw [hp] at R
        have hl : p < ys.length := by rw [hT.1]; omega
        have p1 : (s : Int) - 1 - (k : Int) = (p : Int) := by omega
        have p2 : (p : Int) < (s : Int) := by omega
        have hcy := hB.cell hl
        have hfy := hB.free p
        have hB' := hB.store p (8 * n / 2 ^ (8 * k) % 256)
        have hN' : Below w4.heap.size w4 (wr.setCell ⟨w4.heap.size, p, none⟩ (.int .u8 (8 * n / 2 ^ (8 * k) % 256))) := hN.setCell (Nat.le_refl _) _
        clear hB hN hT
        go_wp2
        go_roundw
        case rel => exact ⟨k + 1, _, by omega, by go_num, R, hB', hN'⟩
        case measure => simp [intOf]; omega
      · obtain rfl : k = 8 := by omega
        have K := hide ((PA ys).out hT)
        have LS := hide hT.1
        clear hT PA
        go_wp2
        go_ret
        refine ⟨⟨_, s, w4.heap.size, by rw [KL.out]; rfl, ?_, by simp, by rw [← KL.out]; exact Nat.le_refl _, Nat.le_refl _⟩, hN⟩
        rw [← K.out]
        exact hB.own0
  · go_enter Tryz.func76, Tryz.ntmps76
    go_wp2_with fail
    refine (blockSize_64 w).mono ?_
    rintro r w1 ⟨rfl, rfl⟩
    go_wp2_with fail
    refine (blockSize_64 w1).mono ?_
    rintro r w2 ⟨rfl, rfl⟩
    go_wp2_with fail
    refine (wordSize_64 w2).mono ?_
    rintro r w3 ⟨rfl, rfl⟩
    go_wp2_with (at_make; refine wpList_make_full _ rfl _ _ 22 rfl w3.heap.size 5 i0 (.int .u8 0) 1 Tryz.underlying22 hi hz0 hz1 .i64 .i64 _ _ s rfl rfl rfl rfl (by rw [hz2]; omega) (by unfold maxLen; omega) (Nat.le_refl _) ?_; intro w5 hown hgrow; have hB0 := Blk.of_made hown; have h00 := hB0.cell (i := 0) (by simp; omega); generalize (List.replicate s (0 : Int)).getD 0 0 = y0 at h00; have f00 := hB0.free 0; have s0 : (0 : Int) < (s : Int) := by omega)
    have hN0 : Below w3.heap.size w3 w5 := (Below.refl _ _).grown hgrow (Nat.le_refl _) (by simp)
    have hB1 := hB0.store 0 128
    have hN1 : Below w3.heap.size w3 (w5.setCell ⟨w3.heap.size, 0, none⟩ (.int .u8 128)) := hN0.setCell (Nat.le_refl _) _
    have P0 := PadTo.zero n s (by omega)
    clear hown hgrow hB0 hN0
    go_loopw [23] (fun i wr => ∃ (k : Nat) (ys : List Int), k ≤ 8 ∧ i = .int .i64 k ∧ PadTo n s ys k ∧ Blk wr w3.heap.size .u8 ys ∧ Below w3.heap.size w3 wr) (fun i _ => 8 - (intOf i).toNat)
    case atStart => exact ⟨0, _, Nat.zero_le _, rfl, P0, hB1, hN1⟩
    case round =>
      obtain ⟨k, ys, hk, rfl, hT, hB, hN⟩ := hrel
      by_cases hlt : k < 8
      · have R := hT.step (by omega)
        rw [p256_two k] at R
        obtain ⟨p, hp⟩ : ∃ p : Nat, s - 1 - k = p := ⟨_, rfl⟩
        rw [hp] at R
        have hl : p < ys.length := by rw [hT.1]; omega
        have p1 : (s : Int) - 1 - (k : Int) = (p : Int) := by omega
        have p2 : (p : Int) < (s : Int) := by omega
        have hcy := hB.cell hl
        have hfy := hB.free p
        have hB' := hB.store p (8 * n / 2 ^ (8 * k) % 256)
        have hN' : Below w3.heap.size w3 (wr.setCell ⟨w3.heap.size, p, none⟩ (.int .u8 (8 * n / 2 ^ (8 * k) % 256))) := hN.setCell (Nat.le_refl _) _
        clear hB hN hT
        go_wp2
        go_roundw
        case rel => exact ⟨k + 1, _, by omega, by go_num, R, hB', hN'⟩
        case measure => simp [intOf]; omega
      · obtain rfl : k = 8 := by omega
        have K := hide ((PA ys).out hT)
        have LS := hide hT.1
        clear hT PA
        go_wp2
        go_ret
        refine ⟨⟨_, s, w3.heap.size, by rw [KL.out]; rfl, ?_, by simp, by rw [← KL.out]; exact Nat.le_refl _, Nat.le_refl _⟩, hN⟩
        rw [← K.out]
        exact hB.own0
end Go.Proofs.YtkglcainhkbgbaaGreatDoor
namespace Go.Proofs.YtkglcainhkbgbaaGreatDoor
set_option maxRecDepth 100000
open Go.RowKit
def vlen (v : Value) : Nat := match v with | .slice _ n _ => n | _ => 0
theorem vlen_slice (a : Option Addr) (n c : Nat) : vlen (.slice a n c) = n := rfl
end Go.Proofs.YtkglcainhkbgbaaGreatDoor
