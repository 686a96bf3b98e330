import Derived.Test.YtnaaanefndeafaaGreatDoorGP41
import Derived.Test.YtnaaanefndeafaaGreatDoorGP40
import Derived.Test.YtnaaanefndeafaaGreatDoorHelp
import Derived.Test.YtnaaanefndeafaaGreatDoorNum
import Derived.Laws.AppendOwnNone
import Derived.Deep.MidRow
import Derived.Test.YtnaaanefndeafaaGreatDoorNum2
import Derived.Test.YtnaaanefndeafaaGreatDoorSpecA

/-
  Steps and regions for the program's points: package variables, answers of two parts, rows laid and a slot set behind it.
-/
namespace Go.Proofs.YtnaaanefndeafaaGreatDoor
set_option maxRecDepth 100000
open Go Go.RowKit

/-- A row of elements and a truth. -/
def TB (As : List Int) (b : Bool) : Fact := ⟨fun v _ => ∃ es, v = .tuple #[agN es, .bool b] ∧ IsN es As, fun _ h => h⟩
theorem beq_agg (e f : Nat → Int) (w : World) : (do eqGuard .eql 73 (.tmp 0) (.tmp 1) (ag5 e) (ag5 f); binOp .eql 73 (ag5 e) (ag5 f) : Sem Value).run Tryz.prog w = .ok (.bool (e 0 == f 0 && e 1 == f 1 && e 2 == f 2 && e 3 == f 3 && e 4 == f 4)) w := by
  have h : (eqGuard .eql 73 (.tmp 0) (.tmp 1) (ag5 e) (ag5 f)).run Tryz.prog w = .ok () w := by kernel_rfl
  have h2 : (binOp .eql 73 (ag5 e) (ag5 f)).run Tryz.prog w = .ok (.bool (e 0 == f 0 && e 1 == f 1 && e 2 == f 2 && e 3 == f 3 && e 4 == f 4)) w := by
    have k := eqElem (e 0) (e 1) (e 2) (e 3) (e 4) (f 0) (f 1) (f 2) (f 3) (f 4) w
    show (do pure (.bool (← Op.equal 73 (ag5 e) (ag5 f))) : Sem Value).run Tryz.prog w = _
    rw [Sem.run_bind]
    have k' : (Op.equal 73 (ag5 e) (ag5 f)).run Tryz.prog w = _ := k
    rw [k']
    rfl
  rw [Sem.run_bind, h]
  exact h2
section
variable {ops : Array Oper} {Q : Exit → Act → World → Prop} {md : Region.Mode} {F : Nat → Fact} {a0 : Act} {w0 : World} {i : Nat} {o : Oper} {ts : Array TypeId}
theorem step_gl5 (hi : ops[i]? = some o) (g : Nat) (hop : o.op = .load 73 (.global g)) (A : Int) (hE : Em5 w0 g 0 A) (hF : F i = EM A) : StepOk Tryz.prog md ops Q F a0 w0 i := by
  refine step_load hi _ _ hop _ 5 u5 rfl i5 fun a w hb hw _ => ?_
  obtain ⟨t, r, _, h⟩ := hE.up hw
  exact ⟨g, 0, _, rfl, r, rfl, by rw [hF]; exact ⟨t, rfl, h⟩⟩
theorem step_glA (hi : ops[i]? = some o) (g : Nat) (hop : o.op = .load 75 (.global g)) (A B : Int) (hE : RowN w0 g 0 [A, B]) (hF : F i = EN [A, B]) : StepOk Tryz.prog md ops Q F a0 w0 i := by
  obtain ⟨fs, hu⟩ := uA
  refine step_load hi _ _ hop _ 10 hu rfl iA fun a w hb hw _ => ?_
  obtain ⟨t, r, _, h⟩ := hE.up hw
  exact ⟨g, 0, _, rfl, r, clN_len h, by rw [hF]; exact ⟨t, rfl, h⟩⟩
theorem step_lA (hi : ops[i]? = some o) (p : Nat) (hop : o.op = .load 75 (.tmp p)) (hp : apart ops p = true) (q : Nat) (h0 : a0.tmps.getD p undef = .pointer (some ⟨q, 0, none⟩)) (A B : Int) (hE : RowN w0 q 0 [A, B]) (hF : F i = EN [A, B]) : StepOk Tryz.prog md ops Q F a0 w0 i := by
  obtain ⟨fs, hu⟩ := uA
  exact step_en _ _ 10 hu rfl iA hi p hop hp q 0 h0 _ rfl hE hF
theorem step_lJf (hi : ops[i]? = some o) (p j : Nat) (hop : o.op = .load 146 (.tmp p)) (hj : waits md ops i j p = true) (q : Nat) (hFj : F j = Fact.eq (.pointer (some ⟨q, 0, none⟩))) (A B C : Int) (hE : RowN w0 q 0 [A, B, C]) (hF : F i = EN [A, B, C]) : StepOk Tryz.prog md ops Q F a0 w0 i := by
  obtain ⟨fs, hu⟩ := uJ
  exact step_enf _ _ 15 hu rfl iJ hi p j hop hj q 0 hFj _ rfl hE hF
theorem step_eq5 (hi : ops[i]? = some o) (p q j k : Nat) (A B : Int) {t : TypeId} (hop : o.op = .binOp .eql 73 (.tmp p) (.tmp q) t)
    (hj : waits md ops i j p = true) (hk : waits md ops i k q = true) (hFj : F j = EM A) (hFk : F k = EM B) (hFi : F i = Fact.eq (.bool (decide (A % PP = B % PP)))) : StepOk Tryz.prog md ops Q F a0 w0 i := by
  refine step_pure hi fun a w _ _ hf => ⟨.bool (decide (A % PP = B % PP)), ?_, by rw [hFi]; exact rfl⟩
  have h1 := hf j p hj
  have h2 := hf k q hk
  rw [hFj] at h1
  rw [hFk] at h2
  obtain ⟨x, e1, X⟩ := h1
  obtain ⟨y, e2, Y⟩ := h2
  have g1 : a.eval (.tmp p) = ag5 x := e1
  have g2 : a.eval (.tmp q) = ag5 y := e2
  have k := beq_agg x y w
  rw [eq_Lm X.1 Y.1, X.2, Y.2] at k
  simp only [execOp, hop, g1, g2]
  rw [Sem.run_bind]
  have k' : (do eqGuard .eql 73 (.tmp p) (.tmp q) (ag5 x) (ag5 y); binOp .eql 73 (ag5 x) (ag5 y) : Sem Value).run Tryz.prog w = .ok (.bool (decide (A % PP = B % PP))) w := k
  rw [k']
  rfl
theorem step_tx0 {P : Program} (hi : ops[i]? = some o) (p j : Nat) (As : List Int) (b : Bool) (hop : o.op = .extract (.tmp p) 0) (hj : waits md ops i j p = true) (hFj : F j = TB As b) (hFi : F i = EN As) : StepOk P md ops Q F a0 w0 i := by
  refine step_pure hi fun a w _ _ hf => ?_
  have e := hf j p hj
  rw [hFj] at e
  obtain ⟨t, e, L⟩ := e
  have e' : a.eval (.tmp p) = .tuple #[agN t, .bool b] := e
  refine ⟨agN t, ?_, by rw [hFi]; exact ⟨t, rfl, L⟩⟩
  simp only [execOp, hop, e']
  rfl
theorem step_tx1 {P : Program} (hi : ops[i]? = some o) (p j : Nat) (As : List Int) (b : Bool) (hop : o.op = .extract (.tmp p) 1) (hj : waits md ops i j p = true) (hFj : F j = TB As b) (hFi : F i = Fact.eq (.bool b)) : StepOk P md ops Q F a0 w0 i := by
  refine step_pure hi fun a w _ _ hf => ⟨.bool b, ?_, by rw [hFi]; exact rfl⟩
  have e := hf j p hj
  rw [hFj] at e
  obtain ⟨t, e, L⟩ := e
  have e' : a.eval (.tmp p) = .tuple #[agN t, .bool b] := e
  simp only [execOp, hop, e']
  rfl
theorem fresh_newN (ty : TypeId) (n : Nat) (cs : List Value) (hz : ∀ (a : Act) (w : World), (execOp a.eval o).run Tryz.prog w = .ok (.value (.pointer (some ⟨w.heap.size, 0, none⟩))) (w.alloc (.cells cs.toArray ty))) (hn : cs.length = n) (h0 : 0 < n) (hi : ops[i]? = some o) (hF : F i = NB w0 n) : FreshOk Tryz.prog md ops Q F a0 w0 i := by
  refine fresh_grow hi (.cells cs.toArray ty) fun a w hw => ⟨hz a w, ?_⟩
  rw [hF]
  exact ⟨h0, _, rfl, by rw [← hn]; exact there_new w cs ty, hw.size⟩
theorem fresh_newA (hi : ops[i]? = some o) (hop : o.op = .alloc 75) (hF : F i = NB w0 10) : FreshOk Tryz.prog md ops Q F a0 w0 i :=
  fresh_newN 75 10 (clN [sm5 0, sm5 0]) (fun a w => by
    simp only [execOp, hop]
    kernel_rfl) rfl (by omega) hi hF
theorem fresh_newX (hi : ops[i]? = some o) (hop : o.op = .alloc 148) (hF : F i = NB w0 20) : FreshOk Tryz.prog md ops Q F a0 w0 i :=
  fresh_newN 148 20 (clN [sm5 0, sm5 0, sm5 0, sm5 0]) (fun a w => by
    simp only [execOp, hop]
    kernel_rfl) rfl (by omega) hi hF
theorem step_b0A (hi : ops[i]? = some o) (hop : o.op = .build 75 #[]) (hF : F i = EN [0, 0]) : StepOk Tryz.prog md ops Q F a0 w0 i := by
  refine step_pure hi fun a w _ _ _ => ⟨agN [sm5 0, sm5 0], ?_, by rw [hF]; exact ⟨_, rfl, sm5_ok (by omega) (by omega), sm5_ok (by omega) (by omega), trivial⟩⟩
  simp only [execOp, hop]
  kernel_rfl
theorem step_newA (hi : ops[i]? = some o) (hop : o.op = .alloc 75) (hF : F i = NB w0 10) : StepOk Tryz.prog md ops Q F a0 w0 i := (fresh_newA hi hop hF).step
theorem step_newX (hi : ops[i]? = some o) (hop : o.op = .alloc 148) (hF : F i = NB w0 20) : StepOk Tryz.prog md ops Q F a0 w0 i := (fresh_newX hi hop hF).step
end
section
variable {ops : Array Oper} {Q : Exit → Act → World → Prop} {a0 : Act} {w : World} {id : Nat} {draw : Bool}
theorem wp_assign {P : Program} {o : Oper} {a : Act} {W : World} {K : Act → World → Prop} (p : Nat) {v : Value} (hop : o.op = .assign (.tmp p)) (e : a.tmps.getD p undef = v) (hK : K (a.put o.dst v) W) : o.wp P a W K Q := by
  have e' : a.eval (.tmp p) = v := e
  have hr : (execOp a.eval o).run P W = .ok (.value v) W := by simp [execOp, hop, e']
  unfold Oper.wp
  rw [hr]
  exact hK
/-- A row of elements is laid into a new block, and a slot is set. -/
theorem region_newN_asg (ty : TypeId) (k jA jV pA pV jB pB dB : Nat) (o1 o2 : Oper) (F : Nat → Fact) (As : List Int) (b : Value) (hT : textTail .any draw ops a0.tmps.size k = true) (hdrop : ops.toList.drop k = [o1, o2]) (hk2 : ops[k + 1]? = some o2) (hd1 : o1.dst = none) (hd2 : o2.dst = some dB)
    (hop1 : o1.op = .store ty (.tmp pA) (.tmp pV)) (hop2 : o2.op = .assign (.tmp pB)) (hs : (Tryz.prog.info? ty).map (·.size) = some (5 * As.length)) (ha : 0 < As.length)
    (qA : decide (jA < k) = true) (qV : decide (jV < k) = true) (qB : decide (jB < k) = true) (wA : writes ops jA pA = true) (wV : writes ops jV pV = true) (wB : writes ops jB pB = true) (FA : F jA = NB w (5 * As.length)) (FV : F jV = EN As) (FB : F jB = Fact.eq b) (hne : dB ≠ pA) (hz : decide (dB < a0.tmps.size) = true) (steps : ∀ i, i < k → StepOk Tryz.prog .any ops Q F a0 w i)
    (fin : ∀ (vs : Nat → Value) (q : Nat) (W : World), vs pA = .pointer (some ⟨q, 0, none⟩) → vs dB = b → w.heap.size ≤ q → Below w.heap.size w W → RowN W q 0 As → W.there q 0 (5 * As.length) → Q .normal (puts vs a0 ops.toList) W) :
    (Code.region id ops draw).wp Tryz.prog Q a0 w := by
  refine region_tail k F (by kernel_rfl) hT steps [] (fun p hp => by cases hp) (fun p hp => by cases hp) fun a W hb hw hF _ => ?_
  have h1 := hF jA pA qA wA
  have h2 := hF jV pV qV wV
  have h3 := hF jB pB qB wB
  rw [FA] at h1
  rw [FV] at h2
  rw [FB] at h3
  obtain ⟨_, q, eq, th, hq⟩ := h1
  obtain ⟨es, ev, V⟩ := h2
  rw [hdrop]
  show o1.wp _ a W (fun a' w' => o2.wp _ a' w' (fun a'' w'' => Q .normal a'' w'') Q) Q
  refine wp_store_mid ty (.tmp pA) (.tmp pV) hop1 q 0 (clN es).toArray eq ev (by show W.there q 0 (clN es).length; rw [clN_len V]; exact th) (by show _ = some (clN es).length; rw [clN_len V]; exact hs) (clN_one es) ?_
  rw [hd1]
  show o2.wp _ a _ _ _
  refine wp_assign pB hop2 h3 ?_
  rw [hd2]
  have hb2 : Based ops a0 (a.put (some dB) b) := by rw [← hd2]; exact hb.put hk2 b
  obtain ⟨vs, hvs⟩ : ∃ vs : Nat → Value, ∀ d, (a.put (some dB) b).tmps.getD d undef = vs d := ⟨_, fun _ => rfl⟩
  rw [puts_tail hT rfl hb2 vs hvs]
  refine fin vs q _ ?_ ?_ hq (below_setCells hq _ _ _ hw) (set_rowN th ha V) (World.there_setCells th _ _ _)
  · rw [← hvs, put_off (by simpa using hne)]
    exact eq
  · rw [← hvs, put_at (by rw [hb.2.1]; exact of_decide_eq_true hz)]
/-- A row of elements is laid into a block that was there, and a slot is set. -/
theorem region_putN_asg (ty : TypeId) (k jV pD pV jB pB dB : Nat) (o1 o2 : Oper) (F : Nat → Fact) (As : List Int) (b : Value) (q : Nat) (hT : textTail .any draw ops a0.tmps.size k = true) (hdrop : ops.toList.drop k = [o1, o2]) (hk2 : ops[k + 1]? = some o2) (hd1 : o1.dst = none) (hd2 : o2.dst = some dB)
    (hop1 : o1.op = .store ty (.tmp pD) (.tmp pV)) (hop2 : o2.op = .assign (.tmp pB)) (hs : (Tryz.prog.info? ty).map (·.size) = some (5 * As.length)) (ha : 0 < As.length)
    (hp : apart ops pD = true) (h0 : a0.tmps.getD pD undef = .pointer (some ⟨q, 0, none⟩)) (ht : w.there q 0 (5 * As.length)) (qV : decide (jV < k) = true) (qB : decide (jB < k) = true) (wV : writes ops jV pV = true) (wB : writes ops jB pB = true) (FV : F jV = EN As) (FB : F jB = Fact.eq b) (hz : decide (dB < a0.tmps.size) = true) (steps : ∀ i, i < k → StepOk Tryz.prog .any ops Q F a0 w i)
    (fin : ∀ (vs : Nat → Value) (W W' : World), vs dB = b → Below w.heap.size w W → ButQ q w W' → RowN W' q 0 As → (∀ (w1 : World) (B : Nat), Below B w1 W → B ≤ q → Below B w1 W') → Q .normal (puts vs a0 ops.toList) W') :
    (Code.region id ops draw).wp Tryz.prog Q a0 w := by
  refine region_tail k F (by kernel_rfl) hT steps [] (fun p hp => by cases hp) (fun p hp => by cases hp) fun a W hb hw hF _ => ?_
  have h2 := hF jV pV qV wV
  have h3 := hF jB pB qB wB
  rw [FV] at h2
  rw [FB] at h3
  obtain ⟨es, ev, V⟩ := h2
  have th := there_up (by omega) ht hw
  rw [hdrop]
  show o1.wp _ a W (fun a' w' => o2.wp _ a' w' (fun a'' w'' => Q .normal a'' w'') Q) Q
  refine wp_store_mid ty (.tmp pD) (.tmp pV) hop1 q 0 (clN es).toArray ((based_at hb pD hp).trans h0) ev (by show W.there q 0 (clN es).length; rw [clN_len V]; exact th) (by show _ = some (clN es).length; rw [clN_len V]; exact hs) (clN_one es) ?_
  rw [hd1]
  show o2.wp _ a _ _ _
  refine wp_assign pB hop2 h3 ?_
  rw [hd2]
  have hb2 : Based ops a0 (a.put (some dB) b) := by rw [← hd2]; exact hb.put hk2 b
  obtain ⟨vs, hvs⟩ : ∃ vs : Nat → Value, ∀ d, (a.put (some dB) b).tmps.getD d undef = vs d := ⟨_, fun _ => rfl⟩
  rw [puts_tail hT rfl hb2 vs hvs]
  refine fin vs W _ ?_ hw (but_set hw _) (set_rowN th ha V) (fun w1 B n hB => below_setCells hB _ _ _ n)
  rw [← hvs, put_at (by rw [hb.2.1]; exact of_decide_eq_true hz)]
theorem wp_assignc {P : Program} {o : Oper} {a : Act} {W : World} {K : Act → World → Prop} {v : Value} (hop : o.op = .assign (.const v)) (hK : K (a.put o.dst v) W) : o.wp P a W K Q := by
  have hr : (execOp a.eval o).run P W = .ok (.value v) W := by simp [execOp, hop, Act.eval]
  unfold Oper.wp
  rw [hr]
  exact hK
/-- A row of elements is laid into a block that was there, and a slot is set to a constant. -/
theorem region_putN_asgc (ty : TypeId) (k jV pD pV dB : Nat) (o1 o2 : Oper) (F : Nat → Fact) (As : List Int) (b : Value) (q : Nat) (hT : textTail .any draw ops a0.tmps.size k = true) (hdrop : ops.toList.drop k = [o1, o2]) (hk2 : ops[k + 1]? = some o2) (hd1 : o1.dst = none) (hd2 : o2.dst = some dB)
    (hop1 : o1.op = .store ty (.tmp pD) (.tmp pV)) (hop2 : o2.op = .assign (.const b)) (hs : (Tryz.prog.info? ty).map (·.size) = some (5 * As.length)) (ha : 0 < As.length)
    (hp : apart ops pD = true) (h0 : a0.tmps.getD pD undef = .pointer (some ⟨q, 0, none⟩)) (ht : w.there q 0 (5 * As.length)) (qV : decide (jV < k) = true) (wV : writes ops jV pV = true) (FV : F jV = EN As) (hz : decide (dB < a0.tmps.size) = true) (steps : ∀ i, i < k → StepOk Tryz.prog .any ops Q F a0 w i)
    (fin : ∀ (vs : Nat → Value) (W W' : World), vs dB = b → Below w.heap.size w W → ButQ q w W' → RowN W' q 0 As → (∀ (w1 : World) (B : Nat), Below B w1 W → B ≤ q → Below B w1 W') → Q .normal (puts vs a0 ops.toList) W') :
    (Code.region id ops draw).wp Tryz.prog Q a0 w := by
  refine region_tail k F (by kernel_rfl) hT steps [] (fun p hp => by cases hp) (fun p hp => by cases hp) fun a W hb hw hF _ => ?_
  have h2 := hF jV pV qV wV
  rw [FV] at h2
  obtain ⟨es, ev, V⟩ := h2
  have th := there_up (by omega) ht hw
  rw [hdrop]
  show o1.wp _ a W (fun a' w' => o2.wp _ a' w' (fun a'' w'' => Q .normal a'' w'') Q) Q
  refine wp_store_mid ty (.tmp pD) (.tmp pV) hop1 q 0 (clN es).toArray ((based_at hb pD hp).trans h0) ev (by show W.there q 0 (clN es).length; rw [clN_len V]; exact th) (by show _ = some (clN es).length; rw [clN_len V]; exact hs) (clN_one es) ?_
  rw [hd1]
  show o2.wp _ a _ _ _
  refine wp_assignc hop2 ?_
  rw [hd2]
  have hb2 : Based ops a0 (a.put (some dB) b) := by rw [← hd2]; exact hb.put hk2 b
  obtain ⟨vs, hvs⟩ : ∃ vs : Nat → Value, ∀ d, (a.put (some dB) b).tmps.getD d undef = vs d := ⟨_, fun _ => rfl⟩
  rw [puts_tail hT rfl hb2 vs hvs]
  refine fin vs W _ ?_ hw (but_set hw _) (set_rowN th ha V) (fun w1 B n hB => below_setCells hB _ _ _ n)
  rw [← hvs, put_at (by rw [hb.2.1]; exact of_decide_eq_true hz)]
/-- Two new elements, in a region of any kind. -/
theorem region_new2 (k jA jV pA pV jB jU pB pU : Nat) (o1 o2 : Oper) (F : Nat → Fact) (A B : Int) (hT : textTail .any draw ops a0.tmps.size k = true) (hdrop : ops.toList.drop k = [o1, o2]) (hd1 : o1.dst = none) (hd2 : o2.dst = none)
    (hop1 : o1.op = .store 73 (.tmp pA) (.tmp pV)) (hop2 : o2.op = .store 73 (.tmp pB) (.tmp pU))
    (qA : decide (jA < k) = true) (qV : decide (jV < k) = true) (qB : decide (jB < k) = true) (qU : decide (jU < k) = true) (wA : writes ops jA pA = true) (wV : writes ops jV pV = true) (wB : writes ops jB pB = true) (wU : writes ops jU pU = true) (FA : F jA = NB w 5) (FV : F jV = EM A) (FB : F jB = NB w 5) (FU : F jU = EM B)
    (hne : jA ≠ jB) (fA : FreshOk Tryz.prog .any ops Q F a0 w jA) (fB : FreshOk Tryz.prog .any ops Q F a0 w jB) (steps : ∀ i, i < k → StepOk Tryz.prog .any ops Q F a0 w i)
    (fin : ∀ (vs : Nat → Value) (q q' : Nat) (W : World), vs pA = .pointer (some ⟨q, 0, none⟩) → vs pB = .pointer (some ⟨q', 0, none⟩) → w.heap.size ≤ q → w.heap.size ≤ q' → q ≠ q' → Below w.heap.size w W → Em5 W q 0 A → Em5 W q' 0 B → Q .normal (puts vs a0 ops.toList) W) :
    (Code.region id ops draw).wp Tryz.prog Q a0 w := by
  refine region_tail k F (by kernel_rfl) hT steps [(jA, pA), (jB, pB)] (fun p hp => ?_) (fun p hp p' hp' hn => ?_) fun a W hb hw hF hS => ?_
  · simp only [List.mem_cons, List.not_mem_nil, or_false] at hp
    rcases hp with rfl | rfl
    · exact ⟨of_decide_eq_true qA, wA, fA.g⟩
    · exact ⟨of_decide_eq_true qB, wB, fB.g⟩
  · simp only [List.mem_cons, List.not_mem_nil, or_false] at hp hp'
    rcases hp with rfl | rfl <;> rcases hp' with rfl | rfl
    · exact absurd rfl hn
    · exact hne
    · exact hne.symm
    · exact absurd rfl hn
  have h1 := hF jA pA qA wA
  have h2 := hF jV pV qV wV
  have h3 := hF jB pB qB wB
  have h4 := hF jU pU qU wU
  rw [FA] at h1
  rw [FV] at h2
  rw [FB] at h3
  rw [FU] at h4
  obtain ⟨_, q, eq, th, hq⟩ := h1
  obtain ⟨t, ev, V⟩ := h2
  obtain ⟨_, q', eq', th', hq'⟩ := h3
  obtain ⟨u, eu, U⟩ := h4
  have hn := hS (jA, pA) (by simp) (jB, pB) (by simp) (fun e => hne (Prod.mk.inj e).1)
  simp only at hn
  rw [eq, eq'] at hn
  have hqq : q ≠ q' := fun e => hn (by rw [e])
  rw [hdrop]
  show o1.wp _ a W (fun a' w' => o2.wp _ a' w' (fun a'' w'' => Q .normal a'' w'') Q) Q
  refine wp_store_mid 73 (.tmp pA) (.tmp pV) hop1 q 0 (cl5 t).toArray eq ev th i5 (cl5_one t) ?_
  rw [hd1]
  show o2.wp _ a _ _ _
  have b1 : ButQ q W (W.setCells q 0 (cl5 t)) := but_set (Below.refl _ _) _
  have n1 := below_setCells hq (cl5 t) 0 _ hw
  refine wp_store_mid 73 (.tmp pB) (.tmp pU) hop2 q' 0 (cl5 u).toArray eq' eu (there_but (n := 5) (by decide) th' b1 (Ne.symm hqq)) i5 (cl5_one u) ?_
  obtain ⟨vs, hvs⟩ : ∃ vs : Nat → Value, ∀ d, a.tmps.getD d undef = vs d := ⟨_, fun _ => rfl⟩
  rw [hd2]
  show Q .normal a _
  rw [puts_tail hT rfl hb vs hvs]
  exact fin vs q q' _ ((hvs pA).symm.trans eq) ((hvs pB).symm.trans eq') hq hq' hqq (below_setCells hq' _ _ _ n1) ((set_em th V).but (but_set (q := q') (Below.refl _ _) _) hqq) (set_em (there_but (by decide) th' b1 (Ne.symm hqq)) U)
/-- Three new elements. -/
theorem region_new3 (k jA jV pA pV jB jU pB pU jC jX pC pX : Nat) (o1 o2 o3 : Oper) (F : Nat → Fact) (A B C : Int) (hT : textTail .any draw ops a0.tmps.size k = true) (hdrop : ops.toList.drop k = [o1, o2, o3]) (hd1 : o1.dst = none) (hd2 : o2.dst = none) (hd3 : o3.dst = none)
    (hop1 : o1.op = .store 73 (.tmp pA) (.tmp pV)) (hop2 : o2.op = .store 73 (.tmp pB) (.tmp pU)) (hop3 : o3.op = .store 73 (.tmp pC) (.tmp pX))
    (qA : decide (jA < k) = true) (qV : decide (jV < k) = true) (qB : decide (jB < k) = true) (qU : decide (jU < k) = true) (qC : decide (jC < k) = true) (qX : decide (jX < k) = true) (wA : writes ops jA pA = true) (wV : writes ops jV pV = true) (wB : writes ops jB pB = true) (wU : writes ops jU pU = true) (wC : writes ops jC pC = true) (wX : writes ops jX pX = true)
    (FA : F jA = NB w 5) (FV : F jV = EM A) (FB : F jB = NB w 5) (FU : F jU = EM B) (FC : F jC = NB w 5) (FX : F jX = EM C)
    (hAB : jA ≠ jB) (hAC : jA ≠ jC) (hBC : jB ≠ jC) (fA : FreshOk Tryz.prog .any ops Q F a0 w jA) (fB : FreshOk Tryz.prog .any ops Q F a0 w jB) (fC : FreshOk Tryz.prog .any ops Q F a0 w jC) (steps : ∀ i, i < k → StepOk Tryz.prog .any ops Q F a0 w i)
    (fin : ∀ (vs : Nat → Value) (q q' q'' : Nat) (W : World), vs pA = .pointer (some ⟨q, 0, none⟩) → vs pB = .pointer (some ⟨q', 0, none⟩) → vs pC = .pointer (some ⟨q'', 0, none⟩) → w.heap.size ≤ q → w.heap.size ≤ q' → w.heap.size ≤ q'' → Below w.heap.size w W → Em5 W q 0 A → Em5 W q' 0 B → Em5 W q'' 0 C → Q .normal (puts vs a0 ops.toList) W) :
    (Code.region id ops draw).wp Tryz.prog Q a0 w := by
  refine region_tail k F (by kernel_rfl) hT steps [(jA, pA), (jB, pB), (jC, pC)] (fun p hp => ?_) (fun p hp p' hp' hn => ?_) fun a W hb hw hF hS => ?_
  · simp only [List.mem_cons, List.not_mem_nil, or_false] at hp
    rcases hp with rfl | rfl | rfl
    · exact ⟨of_decide_eq_true qA, wA, fA.g⟩
    · exact ⟨of_decide_eq_true qB, wB, fB.g⟩
    · exact ⟨of_decide_eq_true qC, wC, fC.g⟩
  · simp only [List.mem_cons, List.not_mem_nil, or_false] at hp hp'
    rcases hp with rfl | rfl | rfl <;> rcases hp' with rfl | rfl | rfl
    · exact absurd rfl hn
    · exact hAB
    · exact hAC
    · exact hAB.symm
    · exact absurd rfl hn
    · exact hBC
    · exact hAC.symm
    · exact hBC.symm
    · exact absurd rfl hn
  have h1 := hF jA pA qA wA
  have h2 := hF jV pV qV wV
  have h3 := hF jB pB qB wB
  have h4 := hF jU pU qU wU
  have h5 := hF jC pC qC wC
  have h6 := hF jX pX qX wX
  rw [FA] at h1
  rw [FV] at h2
  rw [FB] at h3
  rw [FU] at h4
  rw [FC] at h5
  rw [FX] at h6
  obtain ⟨_, q, eq, th, hq⟩ := h1
  obtain ⟨t, ev, V⟩ := h2
  obtain ⟨_, q', eq', th', hq'⟩ := h3
  obtain ⟨u, eu, U⟩ := h4
  obtain ⟨_, q'', eq'', th'', hq''⟩ := h5
  obtain ⟨x, ex, X⟩ := h6
  have n1 := hS (jA, pA) (by simp) (jB, pB) (by simp) (fun e => hAB (Prod.mk.inj e).1)
  have n2 := hS (jA, pA) (by simp) (jC, pC) (by simp) (fun e => hAC (Prod.mk.inj e).1)
  have n3 := hS (jB, pB) (by simp) (jC, pC) (by simp) (fun e => hBC (Prod.mk.inj e).1)
  simp only at n1 n2 n3
  rw [eq, eq'] at n1
  rw [eq, eq''] at n2
  rw [eq', eq''] at n3
  have m1 : q ≠ q' := fun e => n1 (by rw [e])
  have m2 : q ≠ q'' := fun e => n2 (by rw [e])
  have m3 : q' ≠ q'' := fun e => n3 (by rw [e])
  rw [hdrop]
  show o1.wp _ a W (fun a' w' => o2.wp _ a' w' (fun a'' w'' => o3.wp _ a'' w'' (fun a3 w3 => Q .normal a3 w3) Q) Q) Q
  refine wp_store_mid 73 (.tmp pA) (.tmp pV) hop1 q 0 (cl5 t).toArray eq ev th i5 (cl5_one t) ?_
  rw [hd1]
  show o2.wp _ a _ _ _
  have b1 : ButQ q W (W.setCells q 0 (cl5 t)) := but_set (Below.refl _ _) _
  have k1 := below_setCells hq (cl5 t) 0 _ hw
  have tB := there_but (n := 5) (by decide) th' b1 (Ne.symm m1)
  have tC := there_but (n := 5) (by decide) th'' b1 (Ne.symm m2)
  have e1 := set_em th V
  show o2.wp _ a (W.setCells q 0 (cl5 t)) _ _
  generalize W.setCells q 0 (cl5 t) = W1 at *
  refine wp_store_mid 73 (.tmp pB) (.tmp pU) hop2 q' 0 (cl5 u).toArray eq' eu tB i5 (cl5_one u) ?_
  rw [hd2]
  show o3.wp _ a (W1.setCells q' 0 (cl5 u)) _ _
  have b2 : ButQ q' W1 (W1.setCells q' 0 (cl5 u)) := but_set (Below.refl _ _) _
  have k2 := below_setCells hq' (cl5 u) 0 _ k1
  have tC' := there_but (n := 5) (by decide) tC b2 (Ne.symm m3)
  have e1' := e1.but b2 m1
  have e2 := set_em tB U
  generalize W1.setCells q' 0 (cl5 u) = W2 at *
  refine wp_store_mid 73 (.tmp pC) (.tmp pX) hop3 q'' 0 (cl5 x).toArray eq'' ex tC' i5 (cl5_one x) ?_
  obtain ⟨vs, hvs⟩ : ∃ vs : Nat → Value, ∀ d, a.tmps.getD d undef = vs d := ⟨_, fun _ => rfl⟩
  rw [hd3]
  show Q .normal a (W2.setCells q'' 0 (cl5 x))
  rw [puts_tail hT rfl hb vs hvs]
  have b3 : ButQ q'' W2 (W2.setCells q'' 0 (cl5 x)) := but_set (Below.refl _ _) _
  exact fin vs q q' q'' _ ((hvs pA).symm.trans eq) ((hvs pB).symm.trans eq') ((hvs pC).symm.trans eq'') hq hq' hq'' (below_setCells hq'' _ _ _ k2) (e1'.but b3 m2) (e2.but b3 m3) (set_em tC' X)
end
end Go.Proofs.YtnaaanefndeafaaGreatDoor

/-
  The program's sums of points: fromRatios, add, double, and from one form of a point to another.
-/
namespace Go.Proofs.YtnaaanefndeafaaGreatDoor
set_option maxRecDepth 100000
open Go Go.RowKit

abbrev zX : Obj := .cells #[.int .u64 0, .int .u64 0, .int .u64 0, .int .u64 0, .int .u64 0, .int .u64 0, .int .u64 0, .int .u64 0, .int .u64 0, .int .u64 0, .int .u64 0, .int .u64 0, .int .u64 0, .int .u64 0, .int .u64 0, .int .u64 0, .int .u64 0, .int .u64 0, .int .u64 0, .int .u64 0] 148
abbrev zA : Obj := .cells #[.int .u64 0, .int .u64 0, .int .u64 0, .int .u64 0, .int .u64 0, .int .u64 0, .int .u64 0, .int .u64 0, .int .u64 0, .int .u64 0] 75
set_option maxHeartbeats 4000000 in
theorem fromRatios_any (w : World) (es fs : List (Nat → Int)) (A B C E : Int) (hes : IsN es [A, B]) (hfs : IsN fs [C, E]) :
    Calls Tryz.prog 185 #[agN es, agN fs] w fun r w' => ∃ ts, r = .returned (agN ts) ∧ IsN ts [A * E, C * B, B * E, A * C] ∧ Below w.heap.size w w' := by
  show Calls Tryz.prog 185 #[.agg (clN es).toArray, .agg (clN fs).toArray] w _
  have H0 := rowN_new w 158 hes
  have m0 : Below w.heap.size w (w.alloc (.cells (clN es).toArray 158)) := (Below.refl _ _).alloc (Nat.le_refl _) _
  have s0 : (w.alloc (.cells (clN es).toArray 158)).heap.size = w.heap.size + 1 := by simp
  have H1 := fun W => rowN_new W 158 hfs
  obtain ⟨V0, hV0⟩ : ∃ V, V = (clN es).toArray := ⟨_, rfl⟩
  obtain ⟨V1, hV1⟩ : ∃ V, V = (clN fs).toArray := ⟨_, rfl⟩
  rw [← hV0] at H0 m0 s0 ⊢
  simp only [← hV1] at H1 ⊢
  clear hV0 hV1 hes hfs
  go_enter Tryz.func185, Tryz.ntmps185
  go_upto_region 1 with fail
  generalize w.alloc (.cells V0 158) = wa0 at *
  have H1' := H1 wa0
  have m1 : Below wa0.heap.size wa0 (wa0.alloc (.cells V1 158)) := (Below.refl _ _).alloc (Nat.le_refl _) _
  have s1 : (wa0.alloc (.cells V1 158)).heap.size = wa0.heap.size + 1 := by simp
  rw [s0] at H1' s1
  generalize wa0.alloc (.cells V1 158) = wa1 at *
  have TR : (wa1.alloc zX).there wa1.heap.size 0 20 := there_new wa1 _ _
  have mz : Below wa1.heap.size wa1 (wa1.alloc zX) := (Below.refl _ _).alloc (Nat.le_refl _) _
  rw [s1] at TR
  have P0 := (H0.up m1).up mz
  have P1 := H1'.up mz
  have N := nxt (nxt m0 m1) mz
  clear H0 H1 H1' m0 s0 m1 s1 mz
  obtain ⟨wr, hwr⟩ : ∃ W, W = wa1.alloc zX := ⟨_, rfl⟩
  rw [← hwr] at TR N P0 P1
  change Code.wp _ _ _ _ (wa1.alloc zX)
  rw [← hwr]
  clear hwr
  refine region_putN 148 22 21 4 26 _ (fun i => [Fact.eq (.pointer (some ⟨w.heap.size, 0, none⟩)), EM (A), Fact.eq (.pointer (some ⟨w.heap.size + 1, 5, none⟩)), EM (E), EM ((A) * (E)), Fact.eq (.pointer (some ⟨w.heap.size + 1, 0, none⟩)), EM (C), Fact.eq (.pointer (some ⟨w.heap.size, 5, none⟩)), EM (B), EM ((C) * (B)), Fact.eq (.pointer (some ⟨w.heap.size, 5, none⟩)), EM (B), Fact.eq (.pointer (some ⟨w.heap.size + 1, 5, none⟩)), EM (E), EM ((B) * (E)), EN [(A) * (E), (C) * (B), (B) * (E)], Fact.eq (.pointer (some ⟨w.heap.size, 0, none⟩)), EM (A), Fact.eq (.pointer (some ⟨w.heap.size + 1, 0, none⟩)), EM (C), EM ((A) * (C)), EN [(A) * (E), (C) * (B), (B) * (E), (A) * (C)]].getD i Fact.no) [(A) * (E), (C) * (B), (B) * (E), (A) * (C)] _ (by kernel_rfl) rfl rfl rfl iX (Nat.zero_lt_succ _) (by kernel_rfl) rfl TR (by kernel_rfl) rfl ?_ ?_
  · intro i hi
    obtain rfl | rfl | rfl | rfl | rfl | rfl | rfl | rfl | rfl | rfl | rfl | rfl | rfl | rfl | rfl | rfl | rfl | rfl | rfl | rfl | rfl | rfl : i = 0 ∨ i = 1 ∨ i = 2 ∨ i = 3 ∨ i = 4 ∨ i = 5 ∨ i = 6 ∨ i = 7 ∨ i = 8 ∨ i = 9 ∨ i = 10 ∨ i = 11 ∨ i = 12 ∨ i = 13 ∨ i = 14 ∨ i = 15 ∨ i = 16 ∨ i = 17 ∨ i = 18 ∨ i = 19 ∨ i = 20 ∨ i = 21 := by omega
    · exact step_fld rfl 158 2 0 rfl (by kernel_rfl) _ _ rfl (fx10 _) rfl
    · exact step_e5f rfl 5 0 rfl (by kernel_rfl) _ _ rfl _ P0.at0 rfl
    · exact step_fld rfl 158 3 1 rfl (by kernel_rfl) _ _ rfl (fy10 _) rfl
    · exact step_e5f rfl 7 2 rfl (by kernel_rfl) _ _ rfl _ P1.tail.at0 rfl
    · exact step_mul5 rfl 6 8 1 3 _ _ rfl (by kernel_rfl) (by kernel_rfl) rfl rfl rfl
    · exact step_fld rfl 158 3 0 rfl (by kernel_rfl) _ _ rfl (fx10 _) rfl
    · exact step_e5f rfl 10 5 rfl (by kernel_rfl) _ _ rfl _ P1.at0 rfl
    · exact step_fld rfl 158 2 1 rfl (by kernel_rfl) _ _ rfl (fy10 _) rfl
    · exact step_e5f rfl 12 7 rfl (by kernel_rfl) _ _ rfl _ P0.tail.at0 rfl
    · exact step_mul5 rfl 11 13 6 8 _ _ rfl (by kernel_rfl) (by kernel_rfl) rfl rfl rfl
    · exact step_fld rfl 158 2 1 rfl (by kernel_rfl) _ _ rfl (fy10 _) rfl
    · exact step_e5f rfl 15 10 rfl (by kernel_rfl) _ _ rfl _ P0.tail.at0 rfl
    · exact step_fld rfl 158 3 1 rfl (by kernel_rfl) _ _ rfl (fy10 _) rfl
    · exact step_e5f rfl 17 12 rfl (by kernel_rfl) _ _ rfl _ P1.tail.at0 rfl
    · exact step_mul5 rfl 16 18 11 13 _ _ rfl (by kernel_rfl) (by kernel_rfl) rfl rfl rfl
    · exact step_bP rfl 9 14 19 4 9 14 _ _ _ rfl (by kernel_rfl) (by kernel_rfl) (by kernel_rfl) rfl rfl rfl rfl
    · exact step_fld rfl 158 2 0 rfl (by kernel_rfl) _ _ rfl (fx10 _) rfl
    · exact step_e5f rfl 21 16 rfl (by kernel_rfl) _ _ rfl _ P0.at0 rfl
    · exact step_fld rfl 158 3 0 rfl (by kernel_rfl) _ _ rfl (fx10 _) rfl
    · exact step_e5f rfl 23 18 rfl (by kernel_rfl) _ _ rfl _ P1.at0 rfl
    · exact step_mul5 rfl 22 24 17 19 _ _ rfl (by kernel_rfl) (by kernel_rfl) rfl rfl rfl
    · exact step_bX rfl 20 25 15 20 _ _ _ _ rfl (by kernel_rfl) (by kernel_rfl) rfl rfl rfl
  intro vsL Wa Wb na bq RL nb TL
  have NS := nb w w.heap.size (nxt N na) (by omega)
  simp only [puts, Act.put, List.setIfInBounds_toArray, List.set_cons_succ, List.set_cons_zero]
  clear bq nb na N TR TL P0 P1
  go_wp2
  obtain ⟨ts, rg, _, ht⟩ := RL
  have lz := clN_len ht
  obtain ⟨fs, hfs⟩ := uX
  exact bodyPost_ret (v := agN ts) (results_cell_mid Tryz.results185 _ _ (w.heap.size + 1 + 1) (clN ts) _ rfl rg hfs rfl (by rw [lz]; exact iX)) rfl ⟨ts, rfl, ht, NS⟩
section
variable {ops : Array Oper} {Q : Exit → Act → World → Prop} {md : Region.Mode} {F : Nat → Fact} {a0 : Act} {w0 : World} {i : Nat} {o : Oper} {ts : Array TypeId}
theorem step_fr (hi : ops[i]? = some o) (p q j k : Nat) (A B C E : Int) (hop : o.op = .call { callee := .value (.func 185), args := #[.tmp p, .tmp q], argTypes := ts })
    (hj : waits md ops i j p = true) (hk : waits md ops i k q = true) (hFj : F j = EN [A, B]) (hFk : F k = EN [C, E]) (hFi : F i = EN [A * E, C * B, B * E, A * C]) : StepOk Tryz.prog md ops Q F a0 w0 i :=
  step_twoN hi _ p q hop (by kernel_rfl) j k _ _ _ (fun w es fs _ he hf => fromRatios_any w es fs A B C E he hf) hj hk hFj hFk hFi
end
def xaR (X Y X' Y' : Int) : Int := (Y + X) * (Y' + X') - (Y - X) * (Y' - X')
def yaR (X Y X' Y' : Int) : Int := (Y + X) * (Y' + X') + (Y - X) * (Y' - X')
def xbR (Z T Z' T' D : Int) : Int := (Z * Z' + Z * Z') + (T * T' * D + T * T' * D)
def ybR (Z T Z' T' D : Int) : Int := (Z * Z' + Z * Z') - (T * T' * D + T * T' * D)
set_option maxHeartbeats 4000000 in
theorem extAdd_any (w : World) (D : Int) (es fs : List (Nat → Int)) (T T' X X' Y Y' Z Z' : Int) (hes : IsN es [X, Y, Z, T]) (hfs : IsN fs [X', Y', Z', T']) (TT : HasTw w 7) (CC : Em5 w 6 0 D) :
    Calls Tryz.prog 137 #[agN es, agN fs] w fun r w' => ∃ ts, r = .returned (agN ts) ∧ IsN ts [xaR X Y X' Y' * ybR Z T Z' T' D, yaR X Y X' Y' * xbR Z T Z' T' D, xbR Z T Z' T' D * ybR Z T Z' T' D, xaR X Y X' Y' * yaR X Y X' Y'] ∧ Below w.heap.size w w' := by
  show Calls Tryz.prog 137 #[.agg (clN es).toArray, .agg (clN fs).toArray] w _
  have H0 := rowN_new w 148 hes
  have m0 : Below w.heap.size w (w.alloc (.cells (clN es).toArray 148)) := (Below.refl _ _).alloc (Nat.le_refl _) _
  have s0 : (w.alloc (.cells (clN es).toArray 148)).heap.size = w.heap.size + 1 := by simp
  have H1 := fun W => rowN_new W 148 hfs
  obtain ⟨V0, hV0⟩ : ∃ V, V = (clN es).toArray := ⟨_, rfl⟩
  obtain ⟨V1, hV1⟩ : ∃ V, V = (clN fs).toArray := ⟨_, rfl⟩
  rw [← hV0] at H0 m0 s0 ⊢
  simp only [← hV1] at H1 ⊢
  clear hV0 hV1 hes hfs
  go_enter Tryz.func137, Tryz.ntmps137
  go_upto_region 1 with fail
  generalize w.alloc (.cells V0 148) = wa0 at *
  have H1' := H1 wa0
  have m1 : Below wa0.heap.size wa0 (wa0.alloc (.cells V1 148)) := (Below.refl _ _).alloc (Nat.le_refl _) _
  have s1 : (wa0.alloc (.cells V1 148)).heap.size = wa0.heap.size + 1 := by simp
  rw [s0] at H1' s1
  generalize wa0.alloc (.cells V1 148) = wa1 at *
  have TR : (wa1.alloc zX).there wa1.heap.size 0 20 := there_new wa1 _ _
  have mz : Below wa1.heap.size wa1 (wa1.alloc zX) := (Below.refl _ _).alloc (Nat.le_refl _) _
  rw [s1] at TR
  have P0 := (H0.up m1).up mz
  have P1 := H1'.up mz
  have N := nxt (nxt m0 m1) mz
  clear H0 H1 H1' m0 s0 m1 s1 mz
  obtain ⟨wr, hwr⟩ : ∃ W, W = wa1.alloc zX := ⟨_, rfl⟩
  rw [← hwr] at TR N P0 P1
  change Code.wp _ _ _ _ (wa1.alloc zX)
  rw [← hwr]
  clear hwr
  replace TT := TT.up N
  replace CC := CC.up N
  refine region_new5 16 15 14 5 25 _ (fun i => [Fact.eq (.pointer (some ⟨w.heap.size, 0, none⟩)), Fact.eq (.pointer (some ⟨w.heap.size, 5, none⟩)), EM (Y), Fact.eq (.pointer (some ⟨w.heap.size, 0, none⟩)), Fact.eq (.pointer (some ⟨w.heap.size, 0, none⟩)), EM (X), EM ((Y) - (X)), Fact.eq (.pointer (some ⟨w.heap.size + 1, 0, none⟩)), Fact.eq (.pointer (some ⟨w.heap.size + 1, 5, none⟩)), EM (Y'), Fact.eq (.pointer (some ⟨w.heap.size + 1, 0, none⟩)), Fact.eq (.pointer (some ⟨w.heap.size + 1, 0, none⟩)), EM (X'), EM ((Y') - (X')), EM (((Y) - (X)) * ((Y') - (X'))), NB wr 5].getD i Fact.no) (((Y) - (X)) * ((Y') - (X'))) (by kernel_rfl) rfl rfl rfl (by kernel_rfl) (by kernel_rfl) rfl rfl ?_ ?_
  · intro i hi
    obtain rfl | rfl | rfl | rfl | rfl | rfl | rfl | rfl | rfl | rfl | rfl | rfl | rfl | rfl | rfl | rfl : i = 0 ∨ i = 1 ∨ i = 2 ∨ i = 3 ∨ i = 4 ∨ i = 5 ∨ i = 6 ∨ i = 7 ∨ i = 8 ∨ i = 9 ∨ i = 10 ∨ i = 11 ∨ i = 12 ∨ i = 13 ∨ i = 14 ∨ i = 15 := by omega
    · exact step_fld rfl 148 2 0 rfl (by kernel_rfl) _ _ rfl (fpX _) rfl
    · exact step_fldf rfl 146 11 1 0 rfl (by kernel_rfl) _ _ rfl (fyJ _) rfl
    · exact step_e5f rfl 12 1 rfl (by kernel_rfl) _ _ rfl _ P0.tail.at0 rfl
    · exact step_fld rfl 148 2 0 rfl (by kernel_rfl) _ _ rfl (fpX _) rfl
    · exact step_fldf rfl 146 14 0 3 rfl (by kernel_rfl) _ _ rfl (fxJ _) rfl
    · exact step_e5f rfl 15 4 rfl (by kernel_rfl) _ _ rfl _ P0.at0 rfl
    · exact step_sub5 TT rfl 13 16 2 5 _ _ rfl (by kernel_rfl) (by kernel_rfl) rfl rfl rfl
    · exact step_fld rfl 148 3 0 rfl (by kernel_rfl) _ _ rfl (fpX _) rfl
    · exact step_fldf rfl 146 18 1 7 rfl (by kernel_rfl) _ _ rfl (fyJ _) rfl
    · exact step_e5f rfl 19 8 rfl (by kernel_rfl) _ _ rfl _ P1.tail.at0 rfl
    · exact step_fld rfl 148 3 0 rfl (by kernel_rfl) _ _ rfl (fpX _) rfl
    · exact step_fldf rfl 146 21 0 10 rfl (by kernel_rfl) _ _ rfl (fxJ _) rfl
    · exact step_e5f rfl 22 11 rfl (by kernel_rfl) _ _ rfl _ P1.at0 rfl
    · exact step_sub5 TT rfl 20 23 9 12 _ _ rfl (by kernel_rfl) (by kernel_rfl) rfl rfl rfl
    · exact step_mul5 rfl 17 24 6 13 _ _ rfl (by kernel_rfl) (by kernel_rfl) rfl rfl rfl
    · exact step_new5 rfl rfl rfl
  intro vs1 q5 W1 v5 l5 n E5
  replace P0 := P0.up n
  replace P1 := P1.up n
  replace TT := TT.up n
  replace CC := CC.up n
  replace TR := there_up (by omega) TR n
  replace N := nxt N n
  clear n
  obtain ⟨x5, g5⟩ : ∃ e : Int, e = ((Y) - (X)) * ((Y') - (X')) := ⟨_, rfl⟩
  rw [← g5] at E5
  simp only [puts, v5, Act.put, List.setIfInBounds_toArray, List.set_cons_succ, List.set_cons_zero]
  clear v5
  go_upto_region 2 with fail
  refine region_new5 16 15 14 6 40 _ (fun i => [Fact.eq (.pointer (some ⟨w.heap.size, 0, none⟩)), Fact.eq (.pointer (some ⟨w.heap.size, 5, none⟩)), EM (Y), Fact.eq (.pointer (some ⟨w.heap.size, 0, none⟩)), Fact.eq (.pointer (some ⟨w.heap.size, 0, none⟩)), EM (X), EM ((Y) + (X)), Fact.eq (.pointer (some ⟨w.heap.size + 1, 0, none⟩)), Fact.eq (.pointer (some ⟨w.heap.size + 1, 5, none⟩)), EM (Y'), Fact.eq (.pointer (some ⟨w.heap.size + 1, 0, none⟩)), Fact.eq (.pointer (some ⟨w.heap.size + 1, 0, none⟩)), EM (X'), EM ((Y') + (X')), EM (((Y) + (X)) * ((Y') + (X'))), NB W1 5].getD i Fact.no) (((Y) + (X)) * ((Y') + (X'))) (by kernel_rfl) rfl rfl rfl (by kernel_rfl) (by kernel_rfl) rfl rfl ?_ ?_
  · intro i hi
    obtain rfl | rfl | rfl | rfl | rfl | rfl | rfl | rfl | rfl | rfl | rfl | rfl | rfl | rfl | rfl | rfl : i = 0 ∨ i = 1 ∨ i = 2 ∨ i = 3 ∨ i = 4 ∨ i = 5 ∨ i = 6 ∨ i = 7 ∨ i = 8 ∨ i = 9 ∨ i = 10 ∨ i = 11 ∨ i = 12 ∨ i = 13 ∨ i = 14 ∨ i = 15 := by omega
    · exact step_fld rfl 148 2 0 rfl (by kernel_rfl) _ _ rfl (fpX _) rfl
    · exact step_fldf rfl 146 26 1 0 rfl (by kernel_rfl) _ _ rfl (fyJ _) rfl
    · exact step_e5f rfl 27 1 rfl (by kernel_rfl) _ _ rfl _ P0.tail.at0 rfl
    · exact step_fld rfl 148 2 0 rfl (by kernel_rfl) _ _ rfl (fpX _) rfl
    · exact step_fldf rfl 146 29 0 3 rfl (by kernel_rfl) _ _ rfl (fxJ _) rfl
    · exact step_e5f rfl 30 4 rfl (by kernel_rfl) _ _ rfl _ P0.at0 rfl
    · exact step_add5 rfl 28 31 2 5 _ _ rfl (by kernel_rfl) (by kernel_rfl) rfl rfl rfl
    · exact step_fld rfl 148 3 0 rfl (by kernel_rfl) _ _ rfl (fpX _) rfl
    · exact step_fldf rfl 146 33 1 7 rfl (by kernel_rfl) _ _ rfl (fyJ _) rfl
    · exact step_e5f rfl 34 8 rfl (by kernel_rfl) _ _ rfl _ P1.tail.at0 rfl
    · exact step_fld rfl 148 3 0 rfl (by kernel_rfl) _ _ rfl (fpX _) rfl
    · exact step_fldf rfl 146 36 0 10 rfl (by kernel_rfl) _ _ rfl (fxJ _) rfl
    · exact step_e5f rfl 37 11 rfl (by kernel_rfl) _ _ rfl _ P1.at0 rfl
    · exact step_add5 rfl 35 38 9 12 _ _ rfl (by kernel_rfl) (by kernel_rfl) rfl rfl rfl
    · exact step_mul5 rfl 32 39 6 13 _ _ rfl (by kernel_rfl) (by kernel_rfl) rfl rfl rfl
    · exact step_new5 rfl rfl rfl
  intro vs2 q6 W2 v6 l6 n E6
  replace P0 := P0.up n
  replace P1 := P1.up n
  replace TT := TT.up n
  replace CC := CC.up n
  replace E5 := E5.up n
  replace TR := there_up (by omega) TR n
  replace N := nxt N n
  clear n
  obtain ⟨x6, g6⟩ : ∃ e : Int, e = ((Y) + (X)) * ((Y') + (X')) := ⟨_, rfl⟩
  rw [← g6] at E6
  simp only [puts, v6, Act.put, List.setIfInBounds_toArray, List.set_cons_succ, List.set_cons_zero]
  clear v6
  go_upto_region 3 with fail
  refine region_new2 16 14 6 7 47 15 13 8 54 _ _ (fun i => [Fact.eq (.pointer (some ⟨w.heap.size, 15, none⟩)), EM (T), Fact.eq (.pointer (some ⟨w.heap.size + 1, 15, none⟩)), EM (T'), EM ((T) * (T')), EM (D), EM (((T) * (T')) * (D)), Fact.eq (.pointer (some ⟨w.heap.size, 0, none⟩)), Fact.eq (.pointer (some ⟨w.heap.size, 10, none⟩)), EM (Z), Fact.eq (.pointer (some ⟨w.heap.size + 1, 0, none⟩)), Fact.eq (.pointer (some ⟨w.heap.size + 1, 10, none⟩)), EM (Z'), EM ((Z) * (Z')), NB W2 5, NB W2 5].getD i Fact.no) (((T) * (T')) * (D)) ((Z) * (Z')) (by kernel_rfl) rfl rfl rfl rfl rfl rfl rfl rfl rfl (by kernel_rfl) (by kernel_rfl) (by kernel_rfl) (by kernel_rfl) rfl rfl rfl rfl (by decide) (fresh_new5 rfl rfl rfl) (fresh_new5 rfl rfl rfl) ?_ ?_
  · intro i hi
    obtain rfl | rfl | rfl | rfl | rfl | rfl | rfl | rfl | rfl | rfl | rfl | rfl | rfl | rfl | rfl | rfl : i = 0 ∨ i = 1 ∨ i = 2 ∨ i = 3 ∨ i = 4 ∨ i = 5 ∨ i = 6 ∨ i = 7 ∨ i = 8 ∨ i = 9 ∨ i = 10 ∨ i = 11 ∨ i = 12 ∨ i = 13 ∨ i = 14 ∨ i = 15 := by omega
    · exact step_fld rfl 148 2 1 rfl (by kernel_rfl) _ _ rfl (ftX _) rfl
    · exact step_e5f rfl 41 0 rfl (by kernel_rfl) _ _ rfl _ P0.tail.tail.tail.at0 rfl
    · exact step_fld rfl 148 3 1 rfl (by kernel_rfl) _ _ rfl (ftX _) rfl
    · exact step_e5f rfl 43 2 rfl (by kernel_rfl) _ _ rfl _ P1.tail.tail.tail.at0 rfl
    · exact step_mul5 rfl 42 44 1 3 _ _ rfl (by kernel_rfl) (by kernel_rfl) rfl rfl rfl
    · exact step_gl5 rfl 6 rfl _ CC rfl
    · exact step_mul5 rfl 45 46 4 5 _ _ rfl (by kernel_rfl) (by kernel_rfl) rfl rfl rfl
    · exact step_fld rfl 148 2 0 rfl (by kernel_rfl) _ _ rfl (fpX _) rfl
    · exact step_fldf rfl 146 48 2 7 rfl (by kernel_rfl) _ _ rfl (fzJ _) rfl
    · exact step_e5f rfl 49 8 rfl (by kernel_rfl) _ _ rfl _ P0.tail.tail.at0 rfl
    · exact step_fld rfl 148 3 0 rfl (by kernel_rfl) _ _ rfl (fpX _) rfl
    · exact step_fldf rfl 146 51 2 10 rfl (by kernel_rfl) _ _ rfl (fzJ _) rfl
    · exact step_e5f rfl 52 11 rfl (by kernel_rfl) _ _ rfl _ P1.tail.tail.at0 rfl
    · exact step_mul5 rfl 50 53 9 12 _ _ rfl (by kernel_rfl) (by kernel_rfl) rfl rfl rfl
    · exact step_new5 rfl rfl rfl
    · exact step_new5 rfl rfl rfl
  intro vs3 q7 q8 W3 v7 v8 l7 l8 n55 n E7 E8
  clear n55
  replace P0 := P0.up n
  replace P1 := P1.up n
  replace TT := TT.up n
  replace CC := CC.up n
  replace E5 := E5.up n
  replace E6 := E6.up n
  replace TR := there_up (by omega) TR n
  replace N := nxt N n
  clear n
  obtain ⟨x7, g7⟩ : ∃ e : Int, e = ((T) * (T')) * (D) := ⟨_, rfl⟩
  rw [← g7] at E7
  obtain ⟨x8, g8⟩ : ∃ e : Int, e = (Z) * (Z') := ⟨_, rfl⟩
  rw [← g8] at E8
  simp only [puts, v7, v8, Act.put, List.setIfInBounds_toArray, List.set_cons_succ, List.set_cons_zero]
  clear v7 v8
  go_upto_region 4 with fail
  refine region_new2 8 6 2 9 57 7 5 10 60 _ _ (fun i => [EM (x7), EM (x7), EM ((x7) + (x7)), EM (x8), EM (x8), EM ((x8) + (x8)), NB W3 5, NB W3 5].getD i Fact.no) ((x7) + (x7)) ((x8) + (x8)) (by kernel_rfl) rfl rfl rfl rfl rfl rfl rfl rfl rfl (by kernel_rfl) (by kernel_rfl) (by kernel_rfl) (by kernel_rfl) rfl rfl rfl rfl (by decide) (fresh_new5 rfl rfl rfl) (fresh_new5 rfl rfl rfl) ?_ ?_
  · intro i hi
    obtain rfl | rfl | rfl | rfl | rfl | rfl | rfl | rfl : i = 0 ∨ i = 1 ∨ i = 2 ∨ i = 3 ∨ i = 4 ∨ i = 5 ∨ i = 6 ∨ i = 7 := by omega
    · exact step_e5 rfl 7 rfl (by kernel_rfl) _ _ rfl _ E7 rfl
    · exact step_e5 rfl 7 rfl (by kernel_rfl) _ _ rfl _ E7 rfl
    · exact step_add5 rfl 55 56 0 1 _ _ rfl (by kernel_rfl) (by kernel_rfl) rfl rfl rfl
    · exact step_e5 rfl 8 rfl (by kernel_rfl) _ _ rfl _ E8 rfl
    · exact step_e5 rfl 8 rfl (by kernel_rfl) _ _ rfl _ E8 rfl
    · exact step_add5 rfl 58 59 3 4 _ _ rfl (by kernel_rfl) (by kernel_rfl) rfl rfl rfl
    · exact step_new5 rfl rfl rfl
    · exact step_new5 rfl rfl rfl
  intro vs4 q9 q10 W4 v9 v10 l9 l10 n55 n E9 E10
  clear n55
  replace P0 := P0.up n
  replace P1 := P1.up n
  replace TT := TT.up n
  replace CC := CC.up n
  replace E5 := E5.up n
  replace E6 := E6.up n
  replace E7 := E7.up n
  replace E8 := E8.up n
  replace TR := there_up (by omega) TR n
  replace N := nxt N n
  clear n
  obtain ⟨x9, g9⟩ : ∃ e : Int, e = (x7) + (x7) := ⟨_, rfl⟩
  rw [← g9] at E9
  obtain ⟨x10, g10⟩ : ∃ e : Int, e = (x8) + (x8) := ⟨_, rfl⟩
  rw [← g10] at E10
  simp only [puts, v9, v10, Act.put, List.setIfInBounds_toArray, List.set_cons_succ, List.set_cons_zero]
  clear v9 v10
  go_upto_region 5 with fail
  refine region_putN 148 15 14 4 75 _ (fun i => [EM (x6), EM (x5), EM ((x6) - (x5)), EM (x10), EM (x9), EM ((x10) + (x9)), EN [(x6) - (x5), (x10) + (x9)], EM (x6), EM (x5), EM ((x6) + (x5)), EM (x10), EM (x9), EM ((x10) - (x9)), EN [(x6) + (x5), (x10) - (x9)], EN [((x6) - (x5)) * ((x10) - (x9)), ((x6) + (x5)) * ((x10) + (x9)), ((x10) + (x9)) * ((x10) - (x9)), ((x6) - (x5)) * ((x6) + (x5))]].getD i Fact.no) [((x6) - (x5)) * ((x10) - (x9)), ((x6) + (x5)) * ((x10) + (x9)), ((x10) + (x9)) * ((x10) - (x9)), ((x6) - (x5)) * ((x6) + (x5))] _ (by kernel_rfl) rfl rfl rfl iX (Nat.zero_lt_succ _) (by kernel_rfl) rfl TR (by kernel_rfl) rfl ?_ ?_
  · intro i hi
    obtain rfl | rfl | rfl | rfl | rfl | rfl | rfl | rfl | rfl | rfl | rfl | rfl | rfl | rfl | rfl : i = 0 ∨ i = 1 ∨ i = 2 ∨ i = 3 ∨ i = 4 ∨ i = 5 ∨ i = 6 ∨ i = 7 ∨ i = 8 ∨ i = 9 ∨ i = 10 ∨ i = 11 ∨ i = 12 ∨ i = 13 ∨ i = 14 := by omega
    · exact step_e5 rfl 6 rfl (by kernel_rfl) _ _ rfl _ E6 rfl
    · exact step_e5 rfl 5 rfl (by kernel_rfl) _ _ rfl _ E5 rfl
    · exact step_sub5 TT rfl 61 62 0 1 _ _ rfl (by kernel_rfl) (by kernel_rfl) rfl rfl rfl
    · exact step_e5 rfl 10 rfl (by kernel_rfl) _ _ rfl _ E10 rfl
    · exact step_e5 rfl 9 rfl (by kernel_rfl) _ _ rfl _ E9 rfl
    · exact step_add5 rfl 64 65 3 4 _ _ rfl (by kernel_rfl) (by kernel_rfl) rfl rfl rfl
    · exact step_bR rfl 63 66 2 5 _ _ rfl (by kernel_rfl) (by kernel_rfl) rfl rfl rfl
    · exact step_e5 rfl 6 rfl (by kernel_rfl) _ _ rfl _ E6 rfl
    · exact step_e5 rfl 5 rfl (by kernel_rfl) _ _ rfl _ E5 rfl
    · exact step_add5 rfl 68 69 7 8 _ _ rfl (by kernel_rfl) (by kernel_rfl) rfl rfl rfl
    · exact step_e5 rfl 10 rfl (by kernel_rfl) _ _ rfl _ E10 rfl
    · exact step_e5 rfl 9 rfl (by kernel_rfl) _ _ rfl _ E9 rfl
    · exact step_sub5 TT rfl 71 72 10 11 _ _ rfl (by kernel_rfl) (by kernel_rfl) rfl rfl rfl
    · exact step_bR rfl 70 73 9 12 _ _ rfl (by kernel_rfl) (by kernel_rfl) rfl rfl rfl
    · exact step_fr rfl 67 74 6 13 _ _ _ _ rfl (by kernel_rfl) (by kernel_rfl) rfl rfl rfl
  intro vsL Wa Wb na bq RL nb TL
  have NS := nb w w.heap.size (nxt N na) (by omega)
  simp only [puts, Act.put, List.setIfInBounds_toArray, List.set_cons_succ, List.set_cons_zero]
  clear bq nb na N TR TL P0 P1 TT CC E5 E6 E7 E8 E9 E10
  go_wp2
  subst g5 g6 g7 g8 g9 g10
  obtain ⟨ts, rg, _, ht⟩ := RL
  have lz := clN_len ht
  obtain ⟨fs, hfs⟩ := uX
  exact bodyPost_ret (v := agN ts) (results_cell_mid Tryz.results137 _ _ (w.heap.size + 1 + 1) (clN ts) _ rfl rg hfs rfl (by rw [lz]; exact iX)) rfl ⟨ts, rfl, ht, NS⟩
set_option maxHeartbeats 4000000 in
theorem double_any (w : World) (es fs : List (Nat → Int)) (T' X X' Y Y' Z Z' : Int) (hes : IsN es [X, Y, Z]) (hfs : IsN fs [X', Y', Z', T']) (TT : HasTw w 7) :
    Calls Tryz.prog 136 #[agN es, agN fs] w fun r w' => ∃ ts, r = .returned (agN ts) ∧ IsN ts [((X + Y) * (X + Y) - (Y * Y + X * X)) * ((Z * Z + Z * Z) - (Y * Y - X * X)), (Y * Y + X * X) * (Y * Y - X * X), (Y * Y - X * X) * ((Z * Z + Z * Z) - (Y * Y - X * X)), ((X + Y) * (X + Y) - (Y * Y + X * X)) * (Y * Y + X * X)] ∧ Below w.heap.size w w' := by
  show Calls Tryz.prog 136 #[.agg (clN es).toArray, .agg (clN fs).toArray] w _
  have H0 := rowN_new w 146 hes
  have m0 : Below w.heap.size w (w.alloc (.cells (clN es).toArray 146)) := (Below.refl _ _).alloc (Nat.le_refl _) _
  have s0 : (w.alloc (.cells (clN es).toArray 146)).heap.size = w.heap.size + 1 := by simp
  have H1 := fun W => rowN_new W 148 hfs
  obtain ⟨V0, hV0⟩ : ∃ V, V = (clN es).toArray := ⟨_, rfl⟩
  obtain ⟨V1, hV1⟩ : ∃ V, V = (clN fs).toArray := ⟨_, rfl⟩
  rw [← hV0] at H0 m0 s0 ⊢
  simp only [← hV1] at H1 ⊢
  clear hV0 hV1 hes hfs
  go_enter Tryz.func136, Tryz.ntmps136
  go_upto_region 1 with fail
  generalize w.alloc (.cells V0 146) = wa0 at *
  have H1' := H1 wa0
  have m1 : Below wa0.heap.size wa0 (wa0.alloc (.cells V1 148)) := (Below.refl _ _).alloc (Nat.le_refl _) _
  have s1 : (wa0.alloc (.cells V1 148)).heap.size = wa0.heap.size + 1 := by simp
  rw [s0] at H1' s1
  generalize wa0.alloc (.cells V1 148) = wa1 at *
  have TR : (wa1.alloc zX).there wa1.heap.size 0 20 := there_new wa1 _ _
  have mz : Below wa1.heap.size wa1 (wa1.alloc zX) := (Below.refl _ _).alloc (Nat.le_refl _) _
  rw [s1] at TR
  have P0 := (H0.up m1).up mz
  have P1 := H1'.up mz
  have N := nxt (nxt m0 m1) mz
  clear H0 H1 H1' m0 s0 m1 s1 mz
  obtain ⟨wr, hwr⟩ : ∃ W, W = wa1.alloc zX := ⟨_, rfl⟩
  rw [← hwr] at TR N P0 P1
  change Code.wp _ _ _ _ (wa1.alloc zX)
  rw [← hwr]
  clear hwr
  replace TT := TT.up N
  refine region_new3 12 9 2 5 12 10 5 6 15 11 8 7 18 _ _ _ (fun i => [Fact.eq (.pointer (some ⟨w.heap.size, 0, none⟩)), EM (X), EM ((X) * (X)), Fact.eq (.pointer (some ⟨w.heap.size, 5, none⟩)), EM (Y), EM ((Y) * (Y)), Fact.eq (.pointer (some ⟨w.heap.size, 10, none⟩)), EM (Z), EM ((Z) * (Z)), NB wr 5, NB wr 5, NB wr 5].getD i Fact.no) ((X) * (X)) ((Y) * (Y)) ((Z) * (Z)) (by kernel_rfl) rfl rfl rfl rfl rfl rfl rfl rfl rfl rfl rfl rfl rfl (by kernel_rfl) (by kernel_rfl) (by kernel_rfl) (by kernel_rfl) (by kernel_rfl) (by kernel_rfl) rfl rfl rfl rfl rfl rfl (by decide) (by decide) (by decide) (fresh_new5 rfl rfl rfl) (fresh_new5 rfl rfl rfl) (fresh_new5 rfl rfl rfl) ?_ ?_
  · intro i hi
    obtain rfl | rfl | rfl | rfl | rfl | rfl | rfl | rfl | rfl | rfl | rfl | rfl : i = 0 ∨ i = 1 ∨ i = 2 ∨ i = 3 ∨ i = 4 ∨ i = 5 ∨ i = 6 ∨ i = 7 ∨ i = 8 ∨ i = 9 ∨ i = 10 ∨ i = 11 := by omega
    · exact step_fld rfl 146 2 0 rfl (by kernel_rfl) _ _ rfl (fxJ _) rfl
    · exact step_e5f rfl 10 0 rfl (by kernel_rfl) _ _ rfl _ P0.at0 rfl
    · exact step_sq5 rfl 11 1 _ rfl (by kernel_rfl) rfl rfl
    · exact step_fld rfl 146 2 1 rfl (by kernel_rfl) _ _ rfl (fyJ _) rfl
    · exact step_e5f rfl 13 3 rfl (by kernel_rfl) _ _ rfl _ P0.tail.at0 rfl
    · exact step_sq5 rfl 14 4 _ rfl (by kernel_rfl) rfl rfl
    · exact step_fld rfl 146 2 2 rfl (by kernel_rfl) _ _ rfl (fzJ _) rfl
    · exact step_e5f rfl 16 6 rfl (by kernel_rfl) _ _ rfl _ P0.tail.tail.at0 rfl
    · exact step_sq5 rfl 17 7 _ rfl (by kernel_rfl) rfl rfl
    · exact step_new5 rfl rfl rfl
    · exact step_new5 rfl rfl rfl
    · exact step_new5 rfl rfl rfl
  intro vs1 q5 q6 q7 W1 v5 v6 v7 l5 l6 l7 n E5 E6 E7
  replace P0 := P0.up n
  replace P1 := P1.up n
  replace TT := TT.up n
  replace TR := there_up (by omega) TR n
  replace N := nxt N n
  clear n
  obtain ⟨x5, g5⟩ : ∃ e : Int, e = (X) * (X) := ⟨_, rfl⟩
  rw [← g5] at E5
  obtain ⟨x6, g6⟩ : ∃ e : Int, e = (Y) * (Y) := ⟨_, rfl⟩
  rw [← g6] at E6
  obtain ⟨x7, g7⟩ : ∃ e : Int, e = (Z) * (Z) := ⟨_, rfl⟩
  rw [← g7] at E7
  simp only [puts, v5, v6, v7, Act.put, List.setIfInBounds_toArray, List.set_cons_succ, List.set_cons_zero]
  clear v5 v6 v7
  go_upto_region 2 with fail
  refine region_new2 8 6 2 8 21 7 5 9 24 _ _ (fun i => [EM (x6), EM (x5), EM ((x6) - (x5)), EM (x6), EM (x5), EM ((x6) + (x5)), NB W1 5, NB W1 5].getD i Fact.no) ((x6) - (x5)) ((x6) + (x5)) (by kernel_rfl) rfl rfl rfl rfl rfl rfl rfl rfl rfl (by kernel_rfl) (by kernel_rfl) (by kernel_rfl) (by kernel_rfl) rfl rfl rfl rfl (by decide) (fresh_new5 rfl rfl rfl) (fresh_new5 rfl rfl rfl) ?_ ?_
  · intro i hi
    obtain rfl | rfl | rfl | rfl | rfl | rfl | rfl | rfl : i = 0 ∨ i = 1 ∨ i = 2 ∨ i = 3 ∨ i = 4 ∨ i = 5 ∨ i = 6 ∨ i = 7 := by omega
    · exact step_e5 rfl 6 rfl (by kernel_rfl) _ _ rfl _ E6 rfl
    · exact step_e5 rfl 5 rfl (by kernel_rfl) _ _ rfl _ E5 rfl
    · exact step_sub5 TT rfl 19 20 0 1 _ _ rfl (by kernel_rfl) (by kernel_rfl) rfl rfl rfl
    · exact step_e5 rfl 6 rfl (by kernel_rfl) _ _ rfl _ E6 rfl
    · exact step_e5 rfl 5 rfl (by kernel_rfl) _ _ rfl _ E5 rfl
    · exact step_add5 rfl 22 23 3 4 _ _ rfl (by kernel_rfl) (by kernel_rfl) rfl rfl rfl
    · exact step_new5 rfl rfl rfl
    · exact step_new5 rfl rfl rfl
  intro vs2 q8 q9 W2 v8 v9 l8 l9 n55 n E8 E9
  clear n55
  replace P0 := P0.up n
  replace P1 := P1.up n
  replace TT := TT.up n
  replace E5 := E5.up n
  replace E6 := E6.up n
  replace E7 := E7.up n
  replace TR := there_up (by omega) TR n
  replace N := nxt N n
  clear n
  obtain ⟨x8, g8⟩ : ∃ e : Int, e = (x6) - (x5) := ⟨_, rfl⟩
  rw [← g8] at E8
  obtain ⟨x9, g9⟩ : ∃ e : Int, e = (x6) + (x5) := ⟨_, rfl⟩
  rw [← g9] at E9
  simp only [puts, v8, v9, Act.put, List.setIfInBounds_toArray, List.set_cons_succ, List.set_cons_zero]
  clear v8 v9
  go_upto_region 3 with fail
  refine region_putN 148 18 17 4 42 _ (fun i => [Fact.eq (.pointer (some ⟨w.heap.size, 0, none⟩)), EM (X), Fact.eq (.pointer (some ⟨w.heap.size, 5, none⟩)), EM (Y), EM ((X) + (Y)), EM (((X) + (Y)) * ((X) + (Y))), EM (x9), EM ((((X) + (Y)) * ((X) + (Y))) - (x9)), EM (x8), EN [(((X) + (Y)) * ((X) + (Y))) - (x9), x8], EM (x9), EM (x7), EM (x7), EM ((x7) + (x7)), EM (x8), EM (((x7) + (x7)) - (x8)), EN [x9, ((x7) + (x7)) - (x8)], EN [((((X) + (Y)) * ((X) + (Y))) - (x9)) * (((x7) + (x7)) - (x8)), (x9) * (x8), (x8) * (((x7) + (x7)) - (x8)), ((((X) + (Y)) * ((X) + (Y))) - (x9)) * (x9)]].getD i Fact.no) [((((X) + (Y)) * ((X) + (Y))) - (x9)) * (((x7) + (x7)) - (x8)), (x9) * (x8), (x8) * (((x7) + (x7)) - (x8)), ((((X) + (Y)) * ((X) + (Y))) - (x9)) * (x9)] _ (by kernel_rfl) rfl rfl rfl iX (Nat.zero_lt_succ _) (by kernel_rfl) rfl TR (by kernel_rfl) rfl ?_ ?_
  · intro i hi
    obtain rfl | rfl | rfl | rfl | rfl | rfl | rfl | rfl | rfl | rfl | rfl | rfl | rfl | rfl | rfl | rfl | rfl | rfl : i = 0 ∨ i = 1 ∨ i = 2 ∨ i = 3 ∨ i = 4 ∨ i = 5 ∨ i = 6 ∨ i = 7 ∨ i = 8 ∨ i = 9 ∨ i = 10 ∨ i = 11 ∨ i = 12 ∨ i = 13 ∨ i = 14 ∨ i = 15 ∨ i = 16 ∨ i = 17 := by omega
    · exact step_fld rfl 146 2 0 rfl (by kernel_rfl) _ _ rfl (fxJ _) rfl
    · exact step_e5f rfl 25 0 rfl (by kernel_rfl) _ _ rfl _ P0.at0 rfl
    · exact step_fld rfl 146 2 1 rfl (by kernel_rfl) _ _ rfl (fyJ _) rfl
    · exact step_e5f rfl 27 2 rfl (by kernel_rfl) _ _ rfl _ P0.tail.at0 rfl
    · exact step_add5 rfl 26 28 1 3 _ _ rfl (by kernel_rfl) (by kernel_rfl) rfl rfl rfl
    · exact step_sq5 rfl 29 4 _ rfl (by kernel_rfl) rfl rfl
    · exact step_e5 rfl 9 rfl (by kernel_rfl) _ _ rfl _ E9 rfl
    · exact step_sub5 TT rfl 30 31 5 6 _ _ rfl (by kernel_rfl) (by kernel_rfl) rfl rfl rfl
    · exact step_e5 rfl 8 rfl (by kernel_rfl) _ _ rfl _ E8 rfl
    · exact step_bR rfl 32 33 7 8 _ _ rfl (by kernel_rfl) (by kernel_rfl) rfl rfl rfl
    · exact step_e5 rfl 9 rfl (by kernel_rfl) _ _ rfl _ E9 rfl
    · exact step_e5 rfl 7 rfl (by kernel_rfl) _ _ rfl _ E7 rfl
    · exact step_e5 rfl 7 rfl (by kernel_rfl) _ _ rfl _ E7 rfl
    · exact step_add5 rfl 36 37 11 12 _ _ rfl (by kernel_rfl) (by kernel_rfl) rfl rfl rfl
    · exact step_e5 rfl 8 rfl (by kernel_rfl) _ _ rfl _ E8 rfl
    · exact step_sub5 TT rfl 38 39 13 14 _ _ rfl (by kernel_rfl) (by kernel_rfl) rfl rfl rfl
    · exact step_bR rfl 35 40 10 15 _ _ rfl (by kernel_rfl) (by kernel_rfl) rfl rfl rfl
    · exact step_fr rfl 34 41 9 16 _ _ _ _ rfl (by kernel_rfl) (by kernel_rfl) rfl rfl rfl
  intro vsL Wa Wb na bq RL nb TL
  have NS := nb w w.heap.size (nxt N na) (by omega)
  simp only [puts, Act.put, List.setIfInBounds_toArray, List.set_cons_succ, List.set_cons_zero]
  clear bq nb na N TR TL P0 P1 TT E5 E6 E7 E8 E9
  go_wp2
  subst g5 g6 g7 g8 g9
  obtain ⟨ts, rg, _, ht⟩ := RL
  have lz := clN_len ht
  obtain ⟨fs, hfs⟩ := uX
  exact bodyPost_ret (v := agN ts) (results_cell_mid Tryz.results136 _ _ (w.heap.size + 1 + 1) (clN ts) _ rfl rg hfs rfl (by rw [lz]; exact iX)) rfl ⟨ts, rfl, ht, NS⟩
set_option maxHeartbeats 4000000 in
theorem toAffine_any (w : World) (es : List (Nat → Int)) (X Y Z : Int) (hes : IsN es [X, Y, Z]) (SS : HasSt w 10) (II : Has3 w 8 12 5 4) :
    Calls Tryz.prog 142 #[agN es] w fun r w' => ∃ ts, r = .returned (agN ts) ∧ IsN ts [X * Z ^ eInv, Y * Z ^ eInv] ∧ Below w.heap.size w w' := by
  show Calls Tryz.prog 142 #[.agg (clN es).toArray] w _
  have H0 := rowN_new w 146 hes
  have m0 : Below w.heap.size w (w.alloc (.cells (clN es).toArray 146)) := (Below.refl _ _).alloc (Nat.le_refl _) _
  have s0 : (w.alloc (.cells (clN es).toArray 146)).heap.size = w.heap.size + 1 := by simp
  obtain ⟨V0, hV0⟩ : ∃ V, V = (clN es).toArray := ⟨_, rfl⟩
  rw [← hV0] at H0 m0 s0 ⊢
  clear hV0 hes
  go_enter Tryz.func142, Tryz.ntmps142
  go_upto_region 1 with fail
  generalize w.alloc (.cells V0 146) = wa0 at *
  have TR : (wa0.alloc zA).there wa0.heap.size 0 10 := there_new wa0 _ _
  have mz : Below wa0.heap.size wa0 (wa0.alloc zA) := (Below.refl _ _).alloc (Nat.le_refl _) _
  rw [s0] at TR
  have P0 := H0.up mz
  have N := nxt m0 mz
  clear H0 m0 s0 mz
  obtain ⟨wr, hwr⟩ : ∃ W, W = wa0.alloc zA := ⟨_, rfl⟩
  rw [← hwr] at TR N P0
  change Code.wp _ _ _ _ (wa0.alloc zA)
  rw [← hwr]
  clear hwr
  replace SS := SS.up N
  replace II := II.up N
  refine region_new5 4 3 2 3 6 _ (fun i => [Fact.eq (.pointer (some ⟨w.heap.size, 10, none⟩)), EM (Z), EM ((Z) ^ eInv), NB wr 5].getD i Fact.no) ((Z) ^ eInv) (by kernel_rfl) rfl rfl rfl (by kernel_rfl) (by kernel_rfl) rfl rfl ?_ ?_
  · intro i hi
    obtain rfl | rfl | rfl | rfl : i = 0 ∨ i = 1 ∨ i = 2 ∨ i = 3 := by omega
    · exact step_fld rfl 146 1 2 rfl (by kernel_rfl) _ _ rfl (fzJ _) rfl
    · exact step_e5f rfl 4 0 rfl (by kernel_rfl) _ _ rfl _ P0.tail.tail.at0 rfl
    · exact step_inv5 SS II rfl 5 1 _ rfl (by kernel_rfl) rfl rfl
    · exact step_new5 rfl rfl rfl
  intro vs1 q3 W1 v3 l3 n E3
  replace P0 := P0.up n
  replace SS := SS.up n
  replace II := II.up n
  replace TR := there_up (by omega) TR n
  replace N := nxt N n
  clear n
  obtain ⟨x3, g3⟩ : ∃ e : Int, e = (Z) ^ eInv := ⟨_, rfl⟩
  rw [← g3] at E3
  simp only [puts, v3, Act.put, List.setIfInBounds_toArray, List.set_cons_succ, List.set_cons_zero]
  clear v3
  go_upto_region 2 with fail
  refine region_putN 75 9 8 2 15 _ (fun i => [Fact.eq (.pointer (some ⟨w.heap.size, 0, none⟩)), EM (X), EM (x3), EM ((X) * (x3)), Fact.eq (.pointer (some ⟨w.heap.size, 5, none⟩)), EM (Y), EM (x3), EM ((Y) * (x3)), EN [(X) * (x3), (Y) * (x3)]].getD i Fact.no) [(X) * (x3), (Y) * (x3)] _ (by kernel_rfl) rfl rfl rfl iA (Nat.zero_lt_succ _) (by kernel_rfl) rfl TR (by kernel_rfl) rfl ?_ ?_
  · intro i hi
    obtain rfl | rfl | rfl | rfl | rfl | rfl | rfl | rfl | rfl : i = 0 ∨ i = 1 ∨ i = 2 ∨ i = 3 ∨ i = 4 ∨ i = 5 ∨ i = 6 ∨ i = 7 ∨ i = 8 := by omega
    · exact step_fld rfl 146 1 0 rfl (by kernel_rfl) _ _ rfl (fxJ _) rfl
    · exact step_e5f rfl 7 0 rfl (by kernel_rfl) _ _ rfl _ P0.at0 rfl
    · exact step_e5 rfl 3 rfl (by kernel_rfl) _ _ rfl _ E3 rfl
    · exact step_mul5 rfl 8 9 1 2 _ _ rfl (by kernel_rfl) (by kernel_rfl) rfl rfl rfl
    · exact step_fld rfl 146 1 1 rfl (by kernel_rfl) _ _ rfl (fyJ _) rfl
    · exact step_e5f rfl 11 4 rfl (by kernel_rfl) _ _ rfl _ P0.tail.at0 rfl
    · exact step_e5 rfl 3 rfl (by kernel_rfl) _ _ rfl _ E3 rfl
    · exact step_mul5 rfl 12 13 5 6 _ _ rfl (by kernel_rfl) (by kernel_rfl) rfl rfl rfl
    · exact step_bA rfl 10 14 3 7 _ _ rfl (by kernel_rfl) (by kernel_rfl) rfl rfl rfl
  intro vsL Wa Wb na bq RL nb TL
  have NS := nb w w.heap.size (nxt N na) (by omega)
  simp only [puts, Act.put, List.setIfInBounds_toArray, List.set_cons_succ, List.set_cons_zero]
  clear bq nb na N TR TL P0 SS II E3
  go_wp2
  subst g3
  obtain ⟨ts, rg, _, ht⟩ := RL
  have lz := clN_len ht
  obtain ⟨fs, hfs⟩ := uA
  exact bodyPost_ret (v := agN ts) (results_cell_mid Tryz.results142 _ _ (w.heap.size + 1) (clN ts) _ rfl rg hfs rfl (by rw [lz]; exact iA)) rfl ⟨ts, rfl, ht, NS⟩
set_option maxHeartbeats 4000000 in
theorem toExt_any (w : World) (es : List (Nat → Int)) (X Y : Int) (hes : IsN es [X, Y]) :
    Calls Tryz.prog 139 #[agN es] w fun r w' => ∃ ts, r = .returned (agN ts) ∧ IsN ts [X, Y, 1, X * Y] ∧ Below w.heap.size w w' := by
  show Calls Tryz.prog 139 #[.agg (clN es).toArray] w _
  have H0 := rowN_new w 75 hes
  have m0 : Below w.heap.size w (w.alloc (.cells (clN es).toArray 75)) := (Below.refl _ _).alloc (Nat.le_refl _) _
  have s0 : (w.alloc (.cells (clN es).toArray 75)).heap.size = w.heap.size + 1 := by simp
  obtain ⟨V0, hV0⟩ : ∃ V, V = (clN es).toArray := ⟨_, rfl⟩
  rw [← hV0] at H0 m0 s0 ⊢
  clear hV0 hes
  go_enter Tryz.func139, Tryz.ntmps139
  go_upto_region 1 with fail
  generalize w.alloc (.cells V0 75) = wa0 at *
  have TR : (wa0.alloc zX).there wa0.heap.size 0 20 := there_new wa0 _ _
  have mz : Below wa0.heap.size wa0 (wa0.alloc zX) := (Below.refl _ _).alloc (Nat.le_refl _) _
  rw [s0] at TR
  have P0 := H0.up mz
  have N := nxt m0 mz
  clear H0 m0 s0 mz
  obtain ⟨wr, hwr⟩ : ∃ W, W = wa0.alloc zX := ⟨_, rfl⟩
  rw [← hwr] at TR N P0
  change Code.wp _ _ _ _ (wa0.alloc zX)
  rw [← hwr]
  clear hwr
  refine region_putN 148 12 11 2 14 _ (fun i => [Fact.eq (.pointer (some ⟨w.heap.size, 0, none⟩)), EM (X), Fact.eq (.pointer (some ⟨w.heap.size, 5, none⟩)), EM (Y), EM (1), EN [X, Y, 1], Fact.eq (.pointer (some ⟨w.heap.size, 0, none⟩)), EM (X), Fact.eq (.pointer (some ⟨w.heap.size, 5, none⟩)), EM (Y), EM ((X) * (Y)), EN [X, Y, 1, (X) * (Y)]].getD i Fact.no) [X, Y, 1, (X) * (Y)] _ (by kernel_rfl) rfl rfl rfl iX (Nat.zero_lt_succ _) (by kernel_rfl) rfl TR (by kernel_rfl) rfl ?_ ?_
  · intro i hi
    obtain rfl | rfl | rfl | rfl | rfl | rfl | rfl | rfl | rfl | rfl | rfl | rfl : i = 0 ∨ i = 1 ∨ i = 2 ∨ i = 3 ∨ i = 4 ∨ i = 5 ∨ i = 6 ∨ i = 7 ∨ i = 8 ∨ i = 9 ∨ i = 10 ∨ i = 11 := by omega
    · exact step_fld rfl 75 1 0 rfl (by kernel_rfl) _ _ rfl (fxA _) rfl
    · exact step_e5f rfl 3 0 rfl (by kernel_rfl) _ _ rfl _ P0.at0 rfl
    · exact step_fld rfl 75 1 1 rfl (by kernel_rfl) _ _ rfl (fyA _) rfl
    · exact step_e5f rfl 5 2 rfl (by kernel_rfl) _ _ rfl _ P0.tail.at0 rfl
    · exact step_b5 rfl 1 (by omega) rfl rfl
    · exact step_bP rfl 4 6 7 1 3 4 _ _ _ rfl (by kernel_rfl) (by kernel_rfl) (by kernel_rfl) rfl rfl rfl rfl
    · exact step_fld rfl 75 1 0 rfl (by kernel_rfl) _ _ rfl (fxA _) rfl
    · exact step_e5f rfl 9 6 rfl (by kernel_rfl) _ _ rfl _ P0.at0 rfl
    · exact step_fld rfl 75 1 1 rfl (by kernel_rfl) _ _ rfl (fyA _) rfl
    · exact step_e5f rfl 11 8 rfl (by kernel_rfl) _ _ rfl _ P0.tail.at0 rfl
    · exact step_mul5 rfl 10 12 7 9 _ _ rfl (by kernel_rfl) (by kernel_rfl) rfl rfl rfl
    · exact step_bX rfl 8 13 5 10 _ _ _ _ rfl (by kernel_rfl) (by kernel_rfl) rfl rfl rfl
  intro vsL Wa Wb na bq RL nb TL
  have NS := nb w w.heap.size (nxt N na) (by omega)
  simp only [puts, Act.put, List.setIfInBounds_toArray, List.set_cons_succ, List.set_cons_zero]
  clear bq nb na N TR TL P0
  go_wp2
  obtain ⟨ts, rg, _, ht⟩ := RL
  have lz := clN_len ht
  obtain ⟨fs, hfs⟩ := uX
  exact bodyPost_ret (v := agN ts) (results_cell_mid Tryz.results139 _ _ (w.heap.size + 1) (clN ts) _ rfl rg hfs rfl (by rw [lz]; exact iX)) rfl ⟨ts, rfl, ht, NS⟩
end Go.Proofs.YtnaaanefndeafaaGreatDoor

/-
  Bytes without zeros ahead: the model's and the program's.
-/
namespace Go.Proofs.YtnaaanefndeafaaGreatDoor
set_option maxRecDepth 100000
open Go.RowKit



end Go.Proofs.YtnaaanefndeafaaGreatDoor

/-
  Results that are told as a struct: good, and a value.
-/
namespace Go.Proofs.YtnaaanefndeafaaGreatDoor
set_option maxRecDepth 100000
open Go.RowKit

/-- What is answered for a number: its one form, if it has at most 128 bytes. -/
def ResOf (v : Int) (b : Bool) (ys : List Int) : Prop := ∃ c, Canon c v ∧ ((c.length ≤ 128 ∧ b = true ∧ ys = c) ∨ (128 < c.length ∧ b = false ∧ ys = []))
/-- .. where A holds; else nothing. -/
def NumOf (A : Prop) (v : Int) (b : Bool) (ys : List Int) : Prop := (A ∧ ResOf v b ys) ∨ (¬ A ∧ b = false ∧ ys = [])
theorem ResOf.uniq {v : Int} {b d : Bool} {ys zs : List Int} (h : ResOf v b ys) (k : ResOf v d zs) : b = d ∧ ys = zs := by
  obtain ⟨c, hc, h⟩ := h
  obtain ⟨c', hc', k⟩ := k
  obtain rfl := hc.uniq hc'
  rcases h with ⟨h1, rfl, rfl⟩ | ⟨h1, rfl, rfl⟩
  · rcases k with ⟨k1, rfl, rfl⟩ | ⟨k1, rfl, rfl⟩
    · exact ⟨rfl, rfl⟩
    · omega
  · rcases k with ⟨k1, rfl, rfl⟩ | ⟨k1, rfl, rfl⟩
    · omega
    · exact ⟨rfl, rfl⟩
theorem NumOf.uniq {A : Prop} {v : Int} {b d : Bool} {ys zs : List Int} (h : NumOf A v b ys) (k : NumOf A v d zs) : b = d ∧ ys = zs := by
  rcases h with ⟨h1, h2⟩ | ⟨h1, rfl, rfl⟩
  · rcases k with ⟨k1, k2⟩ | ⟨k1, rfl, rfl⟩
    · exact h2.uniq k2
    · exact absurd h1 k1
  · rcases k with ⟨k1, k2⟩ | ⟨k1, rfl, rfl⟩
    · exact absurd k1 h1
    · exact ⟨rfl, rfl⟩
theorem NumOf.len {A : Prop} {v : Int} {b : Bool} {ys : List Int} (h : NumOf A v b ys) : ys.length ≤ 128 := by
  rcases h with ⟨_, c, _, ⟨h1, _, rfl⟩ | ⟨_, _, rfl⟩⟩ | ⟨_, _, rfl⟩
  · exact h1
  · simp
  · simp

/-- A struct of a truth and a slice that the call made is handed back. -/
def NewRes (B : Nat) (w' : World) (e : Ending) (b : Bool) (ys : List Int) : Prop :=
  ∃ (a : Option Addr) (c g : Nat), e = .returned (.agg #[.bool b, .slice a ys.length c]) ∧ Own w' g a .u8 ys ∧ (a = none → c = 0) ∧ ys.length ≤ c ∧ B ≤ g
theorem NewRes.none {B : Nat} {w : World} (h : B ≤ w.heap.size) : NewRes B w (.returned (.agg #[.bool false, .slice none 0 0])) false [] :=
  ⟨_, 0, w.heap.size, rfl, Own.nil _ _ _ _, by simp, Nat.zero_le _, h⟩

end Go.Proofs.YtnaaanefndeafaaGreatDoor

/-
  spec.NumAdd.
-/
namespace Go.Proofs.YtnaaanefndeafaaGreatDoor
set_option maxRecDepth 100000
open Go.RowKit

/-- A cell of a new block of two, behind calls that keep what was there. -/
theorem two_kept {w w1 : World} {x y : Value} {t : TypeId} (n : Below (w.alloc (.cells #[x, y] t)).heap.size (w.alloc (.cells #[x, y] t)) w1) :
    w1.cell? ⟨w.heap.size, 0, none⟩ = some x ∧ w1.cell? ⟨w.heap.size, 1, none⟩ = some y ∧ w1.frozen? ⟨w.heap.size, 0, none⟩ = false ∧ w1.frozen? ⟨w.heap.size, 1, none⟩ = false ∧ w.heap.size < w1.heap.size := by
  have hs : w.heap.size < (w.alloc (.cells #[x, y] t)).heap.size := by simp
  refine ⟨?_, ?_, ?_, ?_, by have := n.size; omega⟩
  · rw [n.cell (p := ⟨w.heap.size, 0, none⟩) hs]; simp [World.cell?_alloc_at]
  · rw [n.cell (p := ⟨w.heap.size, 1, none⟩) hs]; simp [World.cell?_alloc_at]
  · rw [n.frozen (p := ⟨w.heap.size, 0, none⟩) hs]; simp [World.frozen?_alloc_at]
  · rw [n.frozen (p := ⟨w.heap.size, 1, none⟩) hs]; simp [World.frozen?_alloc_at]

/-- A block of two cells, known and free. -/
structure Two (w : World) (p : Nat) (x y : Value) : Prop where
  c0 : w.cell? ⟨p, 0, none⟩ = some x
  c1 : w.cell? ⟨p, 1, none⟩ = some y
  f0 : w.frozen? ⟨p, 0, none⟩ = false
  f1 : w.frozen? ⟨p, 1, none⟩ = false
theorem Two.lt {w : World} {p : Nat} {x y : Value} (h : Two w p x y) : p < w.heap.size := block_lt_of_cell h.c0
theorem Two.of_block {w w' : World} {p : Nat} {x y : Value} (h : Two w p x y) (hb : w'.heap[p]? = w.heap[p]?) : Two w' p x y :=
  ⟨(World.cell?_of_block (a := ⟨p, 0, none⟩) hb).trans h.c0, (World.cell?_of_block (a := ⟨p, 1, none⟩) hb).trans h.c1, (World.frozen?_of_block (a := ⟨p, 0, none⟩) hb).trans h.f0, (World.frozen?_of_block (a := ⟨p, 1, none⟩) hb).trans h.f1⟩
theorem Two.up {w w' : World} {p : Nat} {x y : Value} (h : Two w p x y) (n : Below w.heap.size w w') : Two w' p x y := h.of_block (n.block p h.lt)
theorem Two.only {w w' : World} {p g : Nat} {x y : Value} (h : Two w p x y) (n : Only g w w') (hne : p ≠ g) : Two w' p x y := h.of_block (n.block p hne)
theorem Two.new (w : World) (x y : Value) (t : TypeId) : Two (w.alloc (.cells #[x, y] t)) w.heap.size x y := by
  obtain ⟨k1, k2, k3, k4, _⟩ := two_kept (Below.refl (w.alloc (.cells #[x, y] t)).heap.size (w.alloc (.cells #[x, y] t)))
  exact ⟨k1, k2, k3, k4⟩


end Go.Proofs.YtnaaanefndeafaaGreatDoor

/-
  The laws' helpers on points: two slices.
-/
namespace Go.Proofs.YtnaaanefndeafaaGreatDoor
set_option maxRecDepth 100000
open Go.RowKit

/-- Of what was there nothing but the blocks g and h has turned. -/
structure ButP (g h : Nat) (w w' : World) : Prop where
  os : w'.os = w.os
  tape : w'.tape = w.tape
  output : w'.output = w.output
  size : w.heap.size ≤ w'.heap.size
  block : ∀ k, k < w.heap.size → k ≠ g → k ≠ h → w'.heap[k]? = w.heap[k]?
theorem ButP.of {g h : Nat} {a b c d : World} (n : Below a.heap.size a b) (k : Only g b c) (l : Only h c d) : ButP g h a d :=
  ⟨(l.os.trans k.os).trans n.os, (l.tape.trans k.tape).trans n.tape, (l.output.trans k.output).trans n.output, by rw [l.size, k.size]; exact n.size, fun i hi h1 h2 => ((l.block i h2).trans (k.block i h1)).trans (n.block i hi)⟩
theorem ButP.below {g h B : Nat} {w w' : World} (n : ButP g h w w') (hB : B ≤ g) (hC : B ≤ h) (hs : B ≤ w.heap.size) : Below B w w' := ⟨n.os, n.tape, n.output, n.size, fun k hk => n.block k (by omega) (by omega) (by omega)⟩
theorem ButP.up {g h : Nat} {a b c : World} (n : ButP g h a b) (k : Below b.heap.size b c) : ButP g h a c :=
  ⟨k.os.trans n.os, k.tape.trans n.tape, k.output.trans n.output, Nat.le_trans n.size k.size, fun i hi h1 h2 => (k.block i (Nat.lt_of_lt_of_le hi n.size)).trans (n.block i hi h1 h2)⟩
theorem ButP.from {g h : Nat} {a b c : World} (k : Below a.heap.size a b) (n : ButP g h b c) : ButP g h a c :=
  ⟨n.os.trans k.os, n.tape.trans k.tape, n.output.trans k.output, Nat.le_trans k.size n.size, fun i hi h1 h2 => (n.block i (Nat.lt_of_lt_of_le hi k.size) h1 h2).trans (k.block i hi)⟩
/-- Two rows of bytes. -/
structure PrP (w : World) (g : Nat) (a : Option Addr) (xs : List Int) (g' : Nat) (a' : Option Addr) (ys : List Int) : Prop where
  l : Own w g a .u8 xs
  r : Own w g' a' .u8 ys
theorem PrP.up {w w' : World} {g g' : Nat} {a a' : Option Addr} {xs ys : List Int} (h : PrP w g a xs g' a' ys) (n : Below w.heap.size w w') : PrP w' g a xs g' a' ys := ⟨h.l.up n, h.r.up n⟩
theorem PrP.only {w w' : World} {g g' k : Nat} {a a' : Option Addr} {xs ys : List Int} (h : PrP w g a xs g' a' ys) (n : Only k w w') (h1 : 0 < xs.length → g ≠ k) (h2 : 0 < ys.length → g' ≠ k) : PrP w' g a xs g' a' ys := ⟨h.l.only n h1, h.r.only n h2⟩
/-- A new point whose two lists lie apart. -/
def NewP2 (B : Nat) (w' : World) (e : Ending) (xs ys : List Int) : Prop :=
  ∃ (a : Option Addr) (c g : Nat) (a' : Option Addr) (c' g' : Nat), e = .returned (.agg #[.slice a xs.length c, .slice a' ys.length c']) ∧ Own w' g a .u8 xs ∧ Own w' g' a' .u8 ys ∧ B ≤ g ∧ B ≤ g' ∧ (0 < xs.length → 0 < ys.length → g ≠ g')
theorem NewP2.nil {B : Nat} {w : World} : NewP2 B w (.returned (.agg #[.slice none 0 0, .slice none 0 0])) [] [] := ⟨none, 0, B, none, 0, B, rfl, Own.nil _ _ _ _, Own.nil _ _ _ _, Nat.le_refl _, Nat.le_refl _, fun h => absurd h (by simp)⟩
/-- A row that is not read may be said to lie anywhere. -/
theorem NewP2.at {B B' : Nat} {w : World} {e : Ending} {ys ss : List Int} (h : NewP2 B w e ys ss) (h1 : B' < B) (h2 : B' < w.heap.size) :
    ∃ (a : Option Addr) (c g : Nat) (a' : Option Addr) (c' g' : Nat), e = .returned (.agg #[.slice a ys.length c, .slice a' ss.length c']) ∧ PrP w g a ys g' a' ss ∧ B' ≤ g ∧ g < w.heap.size ∧ B' ≤ g' ∧ g' < w.heap.size ∧ (0 < ys.length → B ≤ g ∧ g ≠ g') ∧ (0 < ss.length → B ≤ g' ∧ g ≠ g') := by
  obtain ⟨a, c, g, a', c', g', he, o, o', hg, hg', hne⟩ := h
  by_cases h0 : 0 < ys.length
  · by_cases k0 : 0 < ss.length
    · exact ⟨a, c, g, a', c', g', he, ⟨o, o'⟩, by omega, o.rd.lt h0, by omega, o'.rd.lt k0, fun _ => ⟨hg, hne h0 k0⟩, fun _ => ⟨hg', hne h0 k0⟩⟩
    · obtain rfl : ss = [] := List.eq_nil_of_length_eq_zero (by omega)
      exact ⟨a, c, g, a', c', B', he, ⟨o, Own.nil _ _ _ _⟩, by omega, o.rd.lt h0, Nat.le_refl _, h2, fun _ => ⟨hg, by omega⟩, fun h => absurd h (by simp)⟩
  · obtain rfl : ys = [] := List.eq_nil_of_length_eq_zero (by omega)
    by_cases k0 : 0 < ss.length
    · exact ⟨a, c, B', a', c', g', he, ⟨Own.nil _ _ _ _, o'⟩, Nat.le_refl _, h2, by omega, o'.rd.lt k0, fun h => absurd h (by simp), fun _ => ⟨hg', by omega⟩⟩
    · obtain rfl : ss = [] := List.eq_nil_of_length_eq_zero (by omega)
      exact ⟨a, c, B', a', c', B', he, ⟨Own.nil _ _ _ _, Own.nil _ _ _ _⟩, Nat.le_refl _, h2, Nat.le_refl _, h2, fun h => absurd h (by simp), fun h => absurd h (by simp)⟩

theorem Two.set0 {w : World} {p : Nat} {x y : Value} (h : Two w p x y) (u : Value) : Two (w.setCell ⟨p, 0, none⟩ u) p u y :=
  ⟨World.cell?_setCell_same _ _ _ h.c0, by rw [World.cell?_setCell_other (h := by simp)]; exact h.c1, by rw [World.frozen?_setCell]; exact h.f0, by rw [World.frozen?_setCell]; exact h.f1⟩
theorem Two.set1 {w : World} {p : Nat} {x y : Value} (h : Two w p x y) (u : Value) : Two (w.setCell ⟨p, 1, none⟩ u) p x u :=
  ⟨by rw [World.cell?_setCell_other (h := by simp)]; exact h.c0, World.cell?_setCell_same _ _ _ h.c1, by rw [World.frozen?_setCell]; exact h.f0, by rw [World.frozen?_setCell]; exact h.f1⟩
end Go.Proofs.YtnaaanefndeafaaGreatDoor

/-
  The program's points of two coordinates: the opposite, the ladder's coordinate, their bytes.
-/
namespace Go.Proofs.YtnaaanefndeafaaGreatDoor
set_option maxRecDepth 100000
open Go Go.RowKit

theorem en_eb : enters Tryz.prog 65 = true := by kernel_rfl
/-- A new point of these two lists, which lie apart. -/
def PD (w0 : World) (xs ys : List Int) : Fact := ⟨fun v w => ∃ (a a' : Option Addr) (c c' g g' : Nat), v = .agg #[.slice a xs.length c, .slice a' ys.length c'] ∧ Own w g a .u8 xs ∧ Own w g' a' .u8 ys ∧ w0.heap.size ≤ g ∧ w0.heap.size ≤ g' ∧ (0 < xs.length → 0 < ys.length → g ≠ g'), fun n h => by
  obtain ⟨a, a', c, c', g, g', e, o, o', q⟩ := h
  exact ⟨a, a', c, c', g, g', e, o.up n, o'.up n, q⟩⟩
section
variable {ops : Array Oper} {Q : Exit → Act → World → Prop} {md : Region.Mode} {F : Nat → Fact} {a0 : Act} {w0 : World} {i : Nat} {o : Oper} {ts : Array TypeId}
theorem fresh_call {P : Program} (hi : ops[i]? = some o) (n : FuncId) (args : Array Operand) (ts : Array TypeId) (hop : o.op = .call { callee := .value (.func n), args := args, argTypes := ts }) (he : enters P n = true)
    (G : ∀ a w, Based ops a0 a → Below w0.heap.size w0 w → Facts md ops F i a w → Calls P n (args.toList.map a.eval).toArray w fun e w' => ∃ v, e = .returned v ∧ Below w.heap.size w w' ∧ (F i).p v w' ∧ ∃ b, blkOf v = some b ∧ w.heap.size ≤ b ∧ b < w'.heap.size) : FreshG P md ops Q F a0 w0 i := by
  intro o' ho' a w hb hw hf K hK
  obtain rfl := Option.some.inj (hi.symm.trans ho')
  have hr : (execOp a.eval o).run P w = .ok (.enter n (args.map a.eval)) w := by
    have h0 : (Deferred.ofValue (Value.func (Fn.func n) #[] #[]) (args.map a.eval)).run P w = .ok { target := .fn (.func n) #[], args := args.map a.eval } w := by simp [Deferred.ofValue]
    simp [execOp, hop, resolve, invoke, Act.eval, h0, run_enter he]
  have e : args.map a.eval = (args.toList.map a.eval).toArray := by cases args; simp
  unfold Oper.wp
  rw [hr, e, Oper.upon_enter]
  refine (G a w hb hw hf).mono ?_
  rintro e w' ⟨v, rfl, hn, hv, hfr⟩
  exact hK v w' hn hv hfr
theorem fresh_eb (hi : ops[i]? = some o) (p j : Nat) (A : Int) (hop : o.op = .call { callee := .value (.func 65), args := #[.tmp p], argTypes := ts })
    (hj : waits md ops i j p = true) (hFj : F j = EM A) (hFi : F i = RN w0 (fun xs => xs = fill (byt (A % PP)) 32)) : FreshG Tryz.prog md ops Q F a0 w0 i := by
  refine fresh_call hi _ _ ts hop en_eb fun a w _ hw hF => ?_
  have ea := hF j p hj
  rw [hFj] at ea
  obtain ⟨t, e1, L1, V1⟩ := ea
  show Calls Tryz.prog 65 #[a.tmps.getD p undef] w _
  rw [e1]
  refine (bytes_any w t L1).mono ?_
  rintro r w' ⟨⟨b, c, g, rfl, ow, k1, k2, hg⟩, hn⟩
  rw [V1] at ow k2 ⊢
  have l32 : (fill (byt (A % PP)) 32).length = 32 := fill_len _ _
  obtain ⟨off, rfl, _⟩ := ow (by rw [l32]; omega)
  rw [hFi]
  refine ⟨_, rfl, hn, ⟨_, _, c, g, rfl, ow, Nat.le_trans hw.size hg, rfl, k1, k2⟩, g, rfl, hg, ow.rd.lt (by rw [l32]; omega)⟩
theorem step_eb (hi : ops[i]? = some o) (p j : Nat) (A : Int) (hop : o.op = .call { callee := .value (.func 65), args := #[.tmp p], argTypes := ts })
    (hj : waits md ops i j p = true) (hFj : F j = EM A) (hFi : F i = RN w0 (fun xs => xs = fill (byt (A % PP)) 32)) : StepOk Tryz.prog md ops Q F a0 w0 i := (fresh_eb hi p j A hop hj hFj hFi).step
end
section
variable {ops : Array Oper} {Q : Exit → Act → World → Prop} {a0 : Act} {w : World} {id : Nat} {draw : Bool}
theorem wp_value {P : Program} {o : Oper} {a : Act} {W : World} {K : Act → World → Prop} {v : Value} (hr : (execOp a.eval o).run P W = .ok (.value v) W) (hK : K (a.put o.dst v) W) : o.wp P a W K Q := by
  unfold Oper.wp
  rw [hr]
  exact hK
/-- Two new lists are made a point, which is laid into a block that was there. -/
theorem region_pt (k j l p q d pD : Nat) (o1 o2 : Oper) (F : Nat → Fact) (xs ys : List Int) (qb : Nat) (hT : textTail .any draw ops a0.tmps.size k = true) (hdrop : ops.toList.drop k = [o1, o2]) (hk1 : ops[k]? = some o1) (hd1 : o1.dst = some d) (hd2 : o2.dst = none)
    (hop1 : o1.op = .build 37 #[(0, .tmp p), (1, .tmp q)]) (hop2 : o2.op = .store 37 (.tmp pD) (.tmp d)) (hz : decide (d < a0.tmps.size) = true)
    (hp : apart ops pD = true) (hpd : pD ≠ d) (h0 : a0.tmps.getD pD undef = .pointer (some ⟨qb, 0, none⟩)) (ht : w.there qb 0 2) (qj : decide (j < k) = true) (ql : decide (l < k) = true) (wj : writes ops j p = true) (wl : writes ops l q = true) (hjl : j ≠ l)
    (Fj : F j = RN w (fun zs => zs = xs)) (Fl : F l = RN w (fun zs => zs = ys)) (lx : 0 < xs.length) (ly : 0 < ys.length) (fj : FreshG Tryz.prog .any ops Q F a0 w j) (fl : FreshG Tryz.prog .any ops Q F a0 w l) (steps : ∀ i, i < k → StepOk Tryz.prog .any ops Q F a0 w i)
    (fin : ∀ (vs : Nat → Value) (W W' : World) (a a' : Option Addr) (c c' g g' : Nat), Below w.heap.size w W → W'.rangeAt qb 0 [.slice a xs.length c, .slice a' ys.length c'] → Own W' g a .u8 xs → Own W' g' a' .u8 ys → w.heap.size ≤ g → w.heap.size ≤ g' → g ≠ g' → (∀ (w1 : World) (B : Nat), Below B w1 W → B ≤ qb → Below B w1 W') → Q .normal (puts vs a0 ops.toList) W') :
    (Code.region id ops draw).wp Tryz.prog Q a0 w := by
  refine region_tail k F (by kernel_rfl) hT steps [(j, p), (l, q)] (fun p hp => ?_) (fun p hp p' hp' hn => ?_) fun a W hb hw hF hS => ?_
  · simp only [List.mem_cons, List.not_mem_nil, or_false] at hp
    rcases hp with rfl | rfl
    · exact ⟨of_decide_eq_true qj, wj, fj⟩
    · exact ⟨of_decide_eq_true ql, wl, fl⟩
  · simp only [List.mem_cons, List.not_mem_nil, or_false] at hp hp'
    rcases hp with rfl | rfl <;> rcases hp' with rfl | rfl
    · exact absurd rfl hn
    · exact hjl
    · exact hjl.symm
    · exact absurd rfl hn
  have h1 := hF j p qj wj
  have h2 := hF l q ql wl
  rw [Fj] at h1
  rw [Fl] at h2
  obtain ⟨zs, b, c, g, e1, w1, l1, hz1, _, _⟩ := h1
  obtain ⟨us, b', c', g', e2, w2, l2, hz2, _, _⟩ := h2
  replace hz1 : zs = xs := hz1
  replace hz2 : us = ys := hz2
  rw [hz1] at e1 w1
  rw [hz2] at e2 w2
  have hne := hS (j, p) (by simp) (l, q) (by simp) (fun e => hjl (Prod.mk.inj e).1)
  simp only at hne
  rw [e1, e2] at hne
  have hgg : g ≠ g' := by
    obtain ⟨_, rfl, _⟩ := w1 lx
    obtain ⟨_, rfl, _⟩ := w2 ly
    exact fun e => hne (by rw [e]; rfl)
  rw [hdrop]
  show o1.wp _ a W (fun a' w' => o2.wp _ a' w' (fun a'' w'' => Q .normal a'' w'') Q) Q
  have g1 : a.eval (.tmp p) = .slice b xs.length c := e1
  have g2 : a.eval (.tmp q) = .slice b' ys.length c' := e2
  have gg : (#[(0, Operand.tmp p), (1, Operand.tmp q)].map fun (n, x) => (n, a.eval x)) = #[(0, Value.slice b xs.length c), (1, .slice b' ys.length c')] := by simp [g1, g2]
  have hr : (execOp a.eval o1).run Tryz.prog W = .ok (.value (.agg #[.slice b xs.length c, .slice b' ys.length c'])) W := by
    simp only [execOp, hop1, gg]
    rw [Sem.run_bind, buP]
    rfl
  refine wp_value hr ?_
  rw [hd1]
  show o2.wp _ (a.put (some d) _) W _ _
  have th := there_up (by omega) ht hw
  have hb2 : Based ops a0 (a.put (some d) (.agg #[.slice b xs.length c, .slice b' ys.length c'])) := by rw [← hd1]; exact hb.put hk1 _
  refine wp_store_mid 37 (.tmp pD) (.tmp d) hop2 qb 0 #[.slice b xs.length c, .slice b' ys.length c'] ?_ ?_ th iP (by simp [Value.oneCell']) ?_
  · show (a.put _ _).tmps.getD pD undef = _
    rw [put_off (by simpa using Ne.symm hpd)]
    exact (based_at hb pD hp).trans h0
  · show (a.put _ _).tmps.getD d undef = _
    exact put_at (by rw [hb.2.1]; exact of_decide_eq_true hz)
  rw [hd2]
  obtain ⟨vs, hvs⟩ : ∃ vs : Nat → Value, ∀ e, (a.put (some d) (.agg #[.slice b xs.length c, .slice b' ys.length c'])).tmps.getD e undef = vs e := ⟨_, fun _ => rfl⟩
  show Q .normal (a.put (some d) _) _
  rw [puts_tail hT rfl hb2 vs hvs]
  have lq := there_lt (by omega) ht
  refine fin vs W _ b b' c c' g g' hw (World.rangeAt_setCells_same W qb 0 _ th) ?_ ?_ l1 l2 hgg (fun w1 B n hB => below_setCells hB _ _ _ n)
  · exact fun h0 => w1.of_block (setCells_other (by omega) _ 0 W) h0
  · exact fun h0 => w2.of_block (setCells_other (by omega) _ 0 W) h0
/-- A point of two lists that lie apart is laid into a block that was there. -/
theorem region_putD (k jV pD pV : Nat) (o : Oper) (F : Nat → Fact) (xs ys : List Int) (q : Nat) (hT : textOk .any ops a0.tmps.size k = true) (hk : ops[k]? = some o) (hd : o.dst = none) (hop : o.op = .store 37 (.tmp pD) (.tmp pV))
    (hp : apart ops pD = true) (h0 : a0.tmps.getD pD undef = .pointer (some ⟨q, 0, none⟩)) (ht : w.there q 0 2)
    (wV : writes ops jV pV = true) (FV : F jV = PD w xs ys) (steps : ∀ i, i < k → StepOk Tryz.prog .any ops Q F a0 w i)
    (fin : ∀ (vs : Nat → Value) (W W' : World) (a a' : Option Addr) (c c' g g' : Nat), Below w.heap.size w W → W'.rangeAt q 0 [.slice a xs.length c, .slice a' ys.length c'] → Own W' g a .u8 xs → Own W' g' a' .u8 ys → w.heap.size ≤ g → w.heap.size ≤ g' → (0 < xs.length → 0 < ys.length → g ≠ g') → (∀ (w1 : World) (B : Nat), Below B w1 W → B ≤ q → Below B w1 W') → Q .normal (puts vs a0 ops.toList) W') :
    (Code.region id ops draw).wp Tryz.prog Q a0 w := by
  refine region_store k o F (by kernel_rfl) hT hk hd steps fun a W hb hw hF => ?_
  have h2 := hF jV pV wV
  rw [FV] at h2
  obtain ⟨b, b', c, c', g, g', ev, o1, o2, l1, l2, hpp⟩ := h2
  have th := there_up (by omega) ht hw
  refine wp_store_mid 37 (.tmp pD) (.tmp pV) hop q 0 #[.slice b xs.length c, .slice b' ys.length c'] ((based_at hb pD hp).trans h0) ev th iP (by simp [Value.oneCell']) ?_
  obtain ⟨vs, hvs⟩ : ∃ vs : Nat → Value, ∀ d, a.tmps.getD d undef = vs d := ⟨_, fun _ => rfl⟩
  rw [hd]
  show Q .normal a _
  rw [puts_of hT rfl hb vs hvs]
  have lq := there_lt (by omega) ht
  refine fin vs W _ b b' c c' g g' hw (World.rangeAt_setCells_same W q 0 _ th) ?_ ?_ l1 l2 hpp (fun w1 B n hB => below_setCells hB _ _ _ n)
  · exact fun h0 => o1.of_block (setCells_other (by omega) _ 0 W) h0
  · exact fun h0 => o2.of_block (setCells_other (by omega) _ 0 W) h0
end
set_option maxHeartbeats 4000000 in
theorem coord_any (w : World) (es : List (Nat → Int)) (X Y : Int) (hes : IsN es [X, Y]) (TT : HasTw w 7) (SS : HasSt w 10) (II : Has3 w 8 12 5 4) :
    Calls Tryz.prog 64 #[agN es] w fun r w' => ∃ t, r = .returned (ag5 t) ∧ Is5 t ((1 + Y) * (1 - Y) ^ eInv) ∧ Below w.heap.size w w' := by
  show Calls Tryz.prog 64 #[.agg (clN es).toArray] w _
  have H0 := rowN_new w 75 hes
  have m0 : Below w.heap.size w (w.alloc (.cells (clN es).toArray 75)) := (Below.refl _ _).alloc (Nat.le_refl _) _
  have s0 : (w.alloc (.cells (clN es).toArray 75)).heap.size = w.heap.size + 1 := by simp
  obtain ⟨V0, hV0⟩ : ∃ V, V = (clN es).toArray := ⟨_, rfl⟩
  rw [← hV0] at H0 m0 s0 ⊢
  clear hV0 hes
  go_enter Tryz.func64, Tryz.ntmps64
  go_upto_region 1 with fail
  generalize w.alloc (.cells V0 75) = wa0 at *
  have TR : (wa0.alloc zObj5).there wa0.heap.size 0 5 := there_new wa0 _ _
  have mz : Below wa0.heap.size wa0 (wa0.alloc zObj5) := (Below.refl _ _).alloc (Nat.le_refl _) _
  rw [s0] at TR
  have P0 := H0.up mz
  have N := nxt m0 mz
  clear H0 m0 s0 mz
  obtain ⟨wr, hwr⟩ : ∃ W, W = wa0.alloc zObj5 := ⟨_, rfl⟩
  rw [← hwr] at TR N P0
  change Code.wp _ _ _ _ (wa0.alloc zObj5)
  rw [← hwr]
  clear hwr
  replace TT := TT.up N
  replace SS := SS.up N
  replace II := II.up N
  refine region_new5 2 1 0 3 4 _ (fun i => [EM (1), NB wr 5].getD i Fact.no) (1) (by kernel_rfl) rfl rfl rfl (by kernel_rfl) (by kernel_rfl) rfl rfl ?_ ?_
  · intro i hi
    obtain rfl | rfl : i = 0 ∨ i = 1 := by omega
    · exact step_b5 rfl 1 (by omega) rfl rfl
    · exact step_new5 rfl rfl rfl
  intro vs1 q3 W1 v3 l3 n E3
  replace P0 := P0.up n
  replace TT := TT.up n
  replace SS := SS.up n
  replace II := II.up n
  replace TR := there_up (by omega) TR n
  replace N := nxt N n
  clear n
  obtain ⟨x3, g3⟩ : ∃ e : Int, e = 1 := ⟨_, rfl⟩
  rw [← g3] at E3
  simp only [puts, v3, Act.put, List.setIfInBounds_toArray, List.set_cons_succ, List.set_cons_zero]
  clear v3
  go_upto_region 2 with fail
  refine region_put5 10 9 2 14 _ (fun i => [EM (x3), Fact.eq (.pointer (some ⟨w.heap.size, 5, none⟩)), EM (Y), EM ((x3) + (Y)), EM (x3), Fact.eq (.pointer (some ⟨w.heap.size, 5, none⟩)), EM (Y), EM ((x3) - (Y)), EM (((x3) - (Y)) ^ eInv), EM (((x3) + (Y)) * (((x3) - (Y)) ^ eInv))].getD i Fact.no) (((x3) + (Y)) * (((x3) - (Y)) ^ eInv)) _ (by kernel_rfl) rfl rfl rfl (by kernel_rfl) rfl TR (by kernel_rfl) rfl ?_ ?_
  · intro i hi
    obtain rfl | rfl | rfl | rfl | rfl | rfl | rfl | rfl | rfl | rfl : i = 0 ∨ i = 1 ∨ i = 2 ∨ i = 3 ∨ i = 4 ∨ i = 5 ∨ i = 6 ∨ i = 7 ∨ i = 8 ∨ i = 9 := by omega
    · exact step_e5 rfl 3 rfl (by kernel_rfl) _ _ rfl _ E3 rfl
    · exact step_fld rfl 75 1 1 rfl (by kernel_rfl) _ _ rfl (fyA _) rfl
    · exact step_e5f rfl 6 1 rfl (by kernel_rfl) _ _ rfl _ P0.tail.at0 rfl
    · exact step_add5 rfl 5 7 0 2 _ _ rfl (by kernel_rfl) (by kernel_rfl) rfl rfl rfl
    · exact step_e5 rfl 3 rfl (by kernel_rfl) _ _ rfl _ E3 rfl
    · exact step_fld rfl 75 1 1 rfl (by kernel_rfl) _ _ rfl (fyA _) rfl
    · exact step_e5f rfl 10 5 rfl (by kernel_rfl) _ _ rfl _ P0.tail.at0 rfl
    · exact step_sub5 TT rfl 9 11 4 6 _ _ rfl (by kernel_rfl) (by kernel_rfl) rfl rfl rfl
    · exact step_inv5 SS II rfl 12 7 _ rfl (by kernel_rfl) rfl rfl
    · exact step_mul5 rfl 8 13 3 8 _ _ rfl (by kernel_rfl) (by kernel_rfl) rfl rfl rfl
  intro vsL Wa Wb na bq RL nb
  have NS := nb w w.heap.size (nxt N na) (by omega)
  simp only [puts, Act.put, List.setIfInBounds_toArray, List.set_cons_succ, List.set_cons_zero]
  clear bq nb na N TR P0 TT SS II E3
  go_wp2
  subst g3
  obtain ⟨ts, rg, _, ht⟩ := RL
  exact bodyPost_ret (v := ag5 ts) (results_cell_mid Tryz.results64 _ _ (w.heap.size + 1) (cl5 ts) _ rfl rg u5 rfl i5) rfl ⟨ts, rfl, ht, NS⟩
set_option maxHeartbeats 2000000 in
theorem point_any (w : World) (es : List (Nat → Int)) (X Y : Int) (hes : IsN es [X, Y]) :
    Calls Tryz.prog 67 #[agN es] w fun r w' => NewP2 w.heap.size w' r (fill (byt (X % PP)) 32) (fill (byt (Y % PP)) 32) ∧ Below w.heap.size w w' := by
  show Calls Tryz.prog 67 #[.agg (clN es).toArray] w _
  have H0 := rowN_new w 75 hes
  have m0 : Below w.heap.size w (w.alloc (.cells (clN es).toArray 75)) := (Below.refl _ _).alloc (Nat.le_refl _) _
  have s0 : (w.alloc (.cells (clN es).toArray 75)).heap.size = w.heap.size + 1 := by simp
  obtain ⟨V0, hV0⟩ : ∃ V, V = (clN es).toArray := ⟨_, rfl⟩
  rw [← hV0] at H0 m0 s0 ⊢
  clear hV0 hes
  go_enter Tryz.func67, Tryz.ntmps67
  go_upto_region 1 with fail
  generalize w.alloc (.cells V0 75) = wa0 at *
  have TR : (wa0.alloc pObj).there wa0.heap.size 0 2 := there_new wa0 _ _
  have mz : Below wa0.heap.size wa0 (wa0.alloc pObj) := (Below.refl _ _).alloc (Nat.le_refl _) _
  rw [s0] at TR
  have P0 := H0.up mz
  have N := nxt m0 mz
  clear H0 m0 s0 mz
  obtain ⟨wr, hwr⟩ : ∃ W, W = wa0.alloc pObj := ⟨_, rfl⟩
  rw [← hwr] at TR N P0
  change Code.wp _ _ _ _ (wa0.alloc pObj)
  rw [← hwr]
  clear hwr
  have l1 : 0 < (fill (byt (X % PP)) 32).length := by rw [fill_len]; omega
  have l2 : 0 < (fill (byt (Y % PP)) 32).length := by rw [fill_len]; omega
  refine region_pt 6 2 5 5 8 9 2 _ _ (fun i => [Fact.eq (.pointer (some ⟨w.heap.size, 0, none⟩)), EM (X), RN wr (fun xs => xs = fill (byt ((X) % PP)) 32), Fact.eq (.pointer (some ⟨w.heap.size, 5, none⟩)), EM (Y), RN wr (fun xs => xs = fill (byt ((Y) % PP)) 32)].getD i Fact.no) (fill (byt (X % PP)) 32) (fill (byt (Y % PP)) 32) _ (by kernel_rfl) rfl rfl rfl rfl rfl rfl (by kernel_rfl) (by kernel_rfl) (by decide) rfl TR rfl rfl (by kernel_rfl) (by kernel_rfl) (by decide) rfl rfl l1 l2 (fresh_eb rfl 4 1 _ rfl (by kernel_rfl) rfl rfl) (fresh_eb rfl 7 4 _ rfl (by kernel_rfl) rfl rfl) ?_ ?_
  · intro i hi
    obtain rfl | rfl | rfl | rfl | rfl | rfl : i = 0 ∨ i = 1 ∨ i = 2 ∨ i = 3 ∨ i = 4 ∨ i = 5 := by omega
    · exact step_fld rfl 75 1 0 rfl (by kernel_rfl) _ _ rfl (fxA _) rfl
    · exact step_e5f rfl 3 0 rfl (by kernel_rfl) _ _ rfl _ P0.at0 rfl
    · exact step_eb rfl 4 1 _ rfl (by kernel_rfl) rfl rfl
    · exact step_fld rfl 75 1 1 rfl (by kernel_rfl) _ _ rfl (fyA _) rfl
    · exact step_e5f rfl 6 3 rfl (by kernel_rfl) _ _ rfl _ P0.tail.at0 rfl
    · exact step_eb rfl 7 4 _ rfl (by kernel_rfl) rfl rfl
  intro vs W W' b b' c c' g g' n rg o1 o2 k1 k2 hne nb
  have z := N.size
  have NS := nb w w.heap.size (nxt N n) (by omega)
  simp only [puts, Act.put, List.setIfInBounds_toArray, List.set_cons_succ, List.set_cons_zero]
  clear n nb N TR P0
  obtain ⟨fs, hfs⟩ := uP
  go_wp2
  exact bodyPost_ret (v := .agg #[.slice b (fill (byt (X % PP)) 32).length c, .slice b' (fill (byt (Y % PP)) 32).length c']) (results_cell_mid Tryz.results67 _ _ (w.heap.size + 1) [.slice b (fill (byt (X % PP)) 32).length c, .slice b' (fill (byt (Y % PP)) 32).length c'] _ rfl rg hfs rfl iP) rfl ⟨⟨b, c, g, b', c', g', rfl, o1, o2, by omega, by omega, fun _ _ => hne⟩, NS⟩
end Go.Proofs.YtnaaanefndeafaaGreatDoor
