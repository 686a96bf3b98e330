import Derived.Test.YthapcapiiknjdaaDoorGB27
import Derived.Test.YthapcapiiknjdaaDoorGB28
import Derived.Test.YthapcapiiknjdaaDoorGB25

/-
  Steps and regions for the program's points: package variables, answers of two parts, rows laid and a slot set behind it.
-/
namespace Go.Proofs.YthapcapiiknjdaaDoor
set_option maxRecDepth 100000
open Go Go.RowKit

/-- A row of elements and a truth. -/
def TB (As : List Int) (b : Bool) : Fact := ⟨fun v _ => ∃ es, v = .tuple #[agN es, .bool b] ∧ IsN es As, fun _ h => h⟩
theorem beq_agg (e f : Nat → Int) (w : World) : (do eqGuard .eql 56 (.tmp 0) (.tmp 1) (ag5 e) (ag5 f); binOp .eql 56 (ag5 e) (ag5 f) : Sem Value).run Tryd.prog w = .ok (.bool (e 0 == f 0 && e 1 == f 1 && e 2 == f 2 && e 3 == f 3 && e 4 == f 4)) w := by
  have h : (eqGuard .eql 56 (.tmp 0) (.tmp 1) (ag5 e) (ag5 f)).run Tryd.prog w = .ok () w := by kernel_rfl
  have h2 : (binOp .eql 56 (ag5 e) (ag5 f)).run Tryd.prog w = .ok (.bool (e 0 == f 0 && e 1 == f 1 && e 2 == f 2 && e 3 == f 3 && e 4 == f 4)) w := by
    have k := eqElem (e 0) (e 1) (e 2) (e 3) (e 4) (f 0) (f 1) (f 2) (f 3) (f 4) w
    show (do pure (.bool (← Op.equal 56 (ag5 e) (ag5 f))) : Sem Value).run Tryd.prog w = _
    rw [Sem.run_bind]
    have k' : (Op.equal 56 (ag5 e) (ag5 f)).run Tryd.prog w = _ := k
    rw [k']
    rfl
  rw [Sem.run_bind, h]
  exact h2
section
variable {ops : Array Oper} {Q : Exit → Act → World → Prop} {md : Region.Mode} {F : Nat → Fact} {a0 : Act} {w0 : World} {i : Nat} {o : Oper} {ts : Array TypeId}
theorem step_gl5 (hi : ops[i]? = some o) (g : Nat) (hop : o.op = .load 56 (.global g)) (A : Int) (hE : Em5 w0 g 0 A) (hF : F i = EM A) : StepOk Tryd.prog md ops Q F a0 w0 i := by
  refine step_load hi _ _ hop _ 5 u5 rfl i5 fun a w hb hw _ => ?_
  obtain ⟨t, r, _, h⟩ := hE.up hw
  exact ⟨g, 0, _, rfl, r, rfl, by rw [hF]; exact ⟨t, rfl, h⟩⟩
theorem step_lA (hi : ops[i]? = some o) (p : Nat) (hop : o.op = .load 58 (.tmp p)) (hp : apart ops p = true) (q : Nat) (h0 : a0.tmps.getD p undef = .pointer (some ⟨q, 0, none⟩)) (A B : Int) (hE : RowN w0 q 0 [A, B]) (hF : F i = EN [A, B]) : StepOk Tryd.prog md ops Q F a0 w0 i := by
  obtain ⟨fs, hu⟩ := uA
  exact step_en _ _ 10 hu rfl iA hi p hop hp q 0 h0 _ rfl hE hF
theorem step_eq5 (hi : ops[i]? = some o) (p q j k : Nat) (A B : Int) {t : TypeId} (hop : o.op = .binOp .eql 56 (.tmp p) (.tmp q) t)
    (hj : waits md ops i j p = true) (hk : waits md ops i k q = true) (hFj : F j = EM A) (hFk : F k = EM B) (hFi : F i = Fact.eq (.bool (decide (A % PP = B % PP)))) : StepOk Tryd.prog md ops Q F a0 w0 i := by
  refine step_pure hi fun a w _ _ hf => ⟨.bool (decide (A % PP = B % PP)), ?_, by rw [hFi]; exact rfl⟩
  have h1 := hf j p hj
  have h2 := hf k q hk
  rw [hFj] at h1
  rw [hFk] at h2
  obtain ⟨x, e1, X⟩ := h1
  obtain ⟨y, e2, Y⟩ := h2
  have g1 : a.eval (.tmp p) = ag5 x := e1
  have g2 : a.eval (.tmp q) = ag5 y := e2
  have k := beq_agg x y w
  rw [eq_Lm X.1 Y.1, X.2, Y.2] at k
  simp only [execOp, hop, g1, g2]
  rw [Sem.run_bind]
  have k' : (do eqGuard .eql 56 (.tmp p) (.tmp q) (ag5 x) (ag5 y); binOp .eql 56 (ag5 x) (ag5 y) : Sem Value).run Tryd.prog w = .ok (.bool (decide (A % PP = B % PP))) w := k
  rw [k']
  rfl
theorem step_ngl (hT : HasTw w0 3) (hi : ops[i]? = some o) (p j : Nat) (A : Int) (hop : o.op = .call { callee := .value (.func 110), args := #[.tmp p], argTypes := ts })
    (hj : waits md ops i j p = true) (hFj : F j = EM A) (hFi : F i = EM (0 - A)) : StepOk Tryd.prog md ops Q F a0 w0 i :=
  step_one5 hi _ p hop (by kernel_rfl) (fun a => 0 - a) (fun w a hw ha => negate_any w a ha.1 (hT.up hw)) (fun _ _ h => mod_sub rfl h) j A hj hFj hFi
theorem step_tx0 {P : Program} (hi : ops[i]? = some o) (p j : Nat) (As : List Int) (b : Bool) (hop : o.op = .extract (.tmp p) 0) (hj : waits md ops i j p = true) (hFj : F j = TB As b) (hFi : F i = EN As) : StepOk P md ops Q F a0 w0 i := by
  refine step_pure hi fun a w _ _ hf => ?_
  have e := hf j p hj
  rw [hFj] at e
  obtain ⟨t, e, L⟩ := e
  have e' : a.eval (.tmp p) = .tuple #[agN t, .bool b] := e
  refine ⟨agN t, ?_, by rw [hFi]; exact ⟨t, rfl, L⟩⟩
  simp only [execOp, hop, e']
  rfl
theorem step_tx1 {P : Program} (hi : ops[i]? = some o) (p j : Nat) (As : List Int) (b : Bool) (hop : o.op = .extract (.tmp p) 1) (hj : waits md ops i j p = true) (hFj : F j = TB As b) (hFi : F i = Fact.eq (.bool b)) : StepOk P md ops Q F a0 w0 i := by
  refine step_pure hi fun a w _ _ hf => ⟨.bool b, ?_, by rw [hFi]; exact rfl⟩
  have e := hf j p hj
  rw [hFj] at e
  obtain ⟨t, e, L⟩ := e
  have e' : a.eval (.tmp p) = .tuple #[agN t, .bool b] := e
  simp only [execOp, hop, e']
  rfl
theorem fresh_newN (ty : TypeId) (n : Nat) (cs : List Value) (hz : ∀ (a : Act) (w : World), (execOp a.eval o).run Tryd.prog w = .ok (.value (.pointer (some ⟨w.heap.size, 0, none⟩))) (w.alloc (.cells cs.toArray ty))) (hn : cs.length = n) (h0 : 0 < n) (hi : ops[i]? = some o) (hF : F i = NB w0 n) : FreshOk Tryd.prog md ops Q F a0 w0 i := by
  refine fresh_grow hi (.cells cs.toArray ty) fun a w hw => ⟨hz a w, ?_⟩
  rw [hF]
  exact ⟨h0, _, rfl, by rw [← hn]; exact there_new w cs ty, hw.size⟩
theorem fresh_newA (hi : ops[i]? = some o) (hop : o.op = .alloc 58) (hF : F i = NB w0 10) : FreshOk Tryd.prog md ops Q F a0 w0 i :=
  fresh_newN 58 10 (clN [sm5 0, sm5 0]) (fun a w => by
    simp only [execOp, hop]
    kernel_rfl) rfl (by omega) hi hF
theorem step_b0A (hi : ops[i]? = some o) (hop : o.op = .build 58 #[]) (hF : F i = EN [0, 0]) : StepOk Tryd.prog md ops Q F a0 w0 i := by
  refine step_pure hi fun a w _ _ _ => ⟨agN [sm5 0, sm5 0], ?_, by rw [hF]; exact ⟨_, rfl, sm5_ok (by omega) (by omega), sm5_ok (by omega) (by omega), trivial⟩⟩
  simp only [execOp, hop]
  kernel_rfl
theorem step_newA (hi : ops[i]? = some o) (hop : o.op = .alloc 58) (hF : F i = NB w0 10) : StepOk Tryd.prog md ops Q F a0 w0 i := (fresh_newA hi hop hF).step
end
section
variable {ops : Array Oper} {Q : Exit → Act → World → Prop} {a0 : Act} {w : World} {id : Nat} {draw : Bool}
theorem wp_assign {P : Program} {o : Oper} {a : Act} {W : World} {K : Act → World → Prop} (p : Nat) {v : Value} (hop : o.op = .assign (.tmp p)) (e : a.tmps.getD p undef = v) (hK : K (a.put o.dst v) W) : o.wp P a W K Q := by
  have e' : a.eval (.tmp p) = v := e
  have hr : (execOp a.eval o).run P W = .ok (.value v) W := by simp [execOp, hop, e']
  unfold Oper.wp
  rw [hr]
  exact hK
/-- A row of elements is laid into a new block, and a slot is set. -/
theorem region_newN_asg (ty : TypeId) (k jA jV pA pV jB pB dB : Nat) (o1 o2 : Oper) (F : Nat → Fact) (As : List Int) (b : Value) (hT : textTail .any draw ops a0.tmps.size k = true) (hdrop : ops.toList.drop k = [o1, o2]) (hk2 : ops[k + 1]? = some o2) (hd1 : o1.dst = none) (hd2 : o2.dst = some dB)
    (hop1 : o1.op = .store ty (.tmp pA) (.tmp pV)) (hop2 : o2.op = .assign (.tmp pB)) (hs : (Tryd.prog.info? ty).map (·.size) = some (5 * As.length)) (ha : 0 < As.length)
    (qA : decide (jA < k) = true) (qV : decide (jV < k) = true) (qB : decide (jB < k) = true) (wA : writes ops jA pA = true) (wV : writes ops jV pV = true) (wB : writes ops jB pB = true) (FA : F jA = NB w (5 * As.length)) (FV : F jV = EN As) (FB : F jB = Fact.eq b) (hne : dB ≠ pA) (hz : decide (dB < a0.tmps.size) = true) (steps : ∀ i, i < k → StepOk Tryd.prog .any ops Q F a0 w i)
    (fin : ∀ (vs : Nat → Value) (q : Nat) (W : World), vs pA = .pointer (some ⟨q, 0, none⟩) → vs dB = b → w.heap.size ≤ q → Below w.heap.size w W → RowN W q 0 As → W.there q 0 (5 * As.length) → Q .normal (puts vs a0 ops.toList) W) :
    (Code.region id ops draw).wp Tryd.prog Q a0 w := by
  refine region_tail k F (by kernel_rfl) hT steps [] (fun p hp => by cases hp) (fun p hp => by cases hp) fun a W hb hw hF _ => ?_
  have h1 := hF jA pA qA wA
  have h2 := hF jV pV qV wV
  have h3 := hF jB pB qB wB
  rw [FA] at h1
  rw [FV] at h2
  rw [FB] at h3
  obtain ⟨_, q, eq, th, hq⟩ := h1
  obtain ⟨es, ev, V⟩ := h2
  rw [hdrop]
  show o1.wp _ a W (fun a' w' => o2.wp _ a' w' (fun a'' w'' => Q .normal a'' w'') Q) Q
  refine wp_store_mid ty (.tmp pA) (.tmp pV) hop1 q 0 (clN es).toArray eq ev (by show W.there q 0 (clN es).length; rw [clN_len V]; exact th) (by show _ = some (clN es).length; rw [clN_len V]; exact hs) (clN_one es) ?_
  rw [hd1]
  show o2.wp _ a _ _ _
  refine wp_assign pB hop2 h3 ?_
  rw [hd2]
  have hb2 : Based ops a0 (a.put (some dB) b) := by rw [← hd2]; exact hb.put hk2 b
  obtain ⟨vs, hvs⟩ : ∃ vs : Nat → Value, ∀ d, (a.put (some dB) b).tmps.getD d undef = vs d := ⟨_, fun _ => rfl⟩
  rw [puts_tail hT rfl hb2 vs hvs]
  refine fin vs q _ ?_ ?_ hq (below_setCells hq _ _ _ hw) (set_rowN th ha V) (World.there_setCells th _ _ _)
  · rw [← hvs, put_off (by simpa using hne)]
    exact eq
  · rw [← hvs, put_at (by rw [hb.2.1]; exact of_decide_eq_true hz)]
/-- A row of elements is laid into a block that was there, and a slot is set. -/
theorem region_putN_asg (ty : TypeId) (k jV pD pV jB pB dB : Nat) (o1 o2 : Oper) (F : Nat → Fact) (As : List Int) (b : Value) (q : Nat) (hT : textTail .any draw ops a0.tmps.size k = true) (hdrop : ops.toList.drop k = [o1, o2]) (hk2 : ops[k + 1]? = some o2) (hd1 : o1.dst = none) (hd2 : o2.dst = some dB)
    (hop1 : o1.op = .store ty (.tmp pD) (.tmp pV)) (hop2 : o2.op = .assign (.tmp pB)) (hs : (Tryd.prog.info? ty).map (·.size) = some (5 * As.length)) (ha : 0 < As.length)
    (hp : apart ops pD = true) (h0 : a0.tmps.getD pD undef = .pointer (some ⟨q, 0, none⟩)) (ht : w.there q 0 (5 * As.length)) (qV : decide (jV < k) = true) (qB : decide (jB < k) = true) (wV : writes ops jV pV = true) (wB : writes ops jB pB = true) (FV : F jV = EN As) (FB : F jB = Fact.eq b) (hz : decide (dB < a0.tmps.size) = true) (steps : ∀ i, i < k → StepOk Tryd.prog .any ops Q F a0 w i)
    (fin : ∀ (vs : Nat → Value) (W W' : World), vs dB = b → Below w.heap.size w W → ButQ q w W' → RowN W' q 0 As → (∀ (w1 : World) (B : Nat), Below B w1 W → B ≤ q → Below B w1 W') → Q .normal (puts vs a0 ops.toList) W') :
    (Code.region id ops draw).wp Tryd.prog Q a0 w := by
  refine region_tail k F (by kernel_rfl) hT steps [] (fun p hp => by cases hp) (fun p hp => by cases hp) fun a W hb hw hF _ => ?_
  have h2 := hF jV pV qV wV
  have h3 := hF jB pB qB wB
  rw [FV] at h2
  rw [FB] at h3
  obtain ⟨es, ev, V⟩ := h2
  have th := there_up (by omega) ht hw
  rw [hdrop]
  show o1.wp _ a W (fun a' w' => o2.wp _ a' w' (fun a'' w'' => Q .normal a'' w'') Q) Q
  refine wp_store_mid ty (.tmp pD) (.tmp pV) hop1 q 0 (clN es).toArray ((based_at hb pD hp).trans h0) ev (by show W.there q 0 (clN es).length; rw [clN_len V]; exact th) (by show _ = some (clN es).length; rw [clN_len V]; exact hs) (clN_one es) ?_
  rw [hd1]
  show o2.wp _ a _ _ _
  refine wp_assign pB hop2 h3 ?_
  rw [hd2]
  have hb2 : Based ops a0 (a.put (some dB) b) := by rw [← hd2]; exact hb.put hk2 b
  obtain ⟨vs, hvs⟩ : ∃ vs : Nat → Value, ∀ d, (a.put (some dB) b).tmps.getD d undef = vs d := ⟨_, fun _ => rfl⟩
  rw [puts_tail hT rfl hb2 vs hvs]
  refine fin vs W _ ?_ hw (but_set hw _) (set_rowN th ha V) (fun w1 B n hB => below_setCells hB _ _ _ n)
  rw [← hvs, put_at (by rw [hb.2.1]; exact of_decide_eq_true hz)]
theorem wp_assignc {P : Program} {o : Oper} {a : Act} {W : World} {K : Act → World → Prop} {v : Value} (hop : o.op = .assign (.const v)) (hK : K (a.put o.dst v) W) : o.wp P a W K Q := by
  have hr : (execOp a.eval o).run P W = .ok (.value v) W := by simp [execOp, hop, Act.eval]
  unfold Oper.wp
  rw [hr]
  exact hK
/-- A row of elements is laid into a block that was there, and a slot is set to a constant. -/
theorem region_putN_asgc (ty : TypeId) (k jV pD pV dB : Nat) (o1 o2 : Oper) (F : Nat → Fact) (As : List Int) (b : Value) (q : Nat) (hT : textTail .any draw ops a0.tmps.size k = true) (hdrop : ops.toList.drop k = [o1, o2]) (hk2 : ops[k + 1]? = some o2) (hd1 : o1.dst = none) (hd2 : o2.dst = some dB)
    (hop1 : o1.op = .store ty (.tmp pD) (.tmp pV)) (hop2 : o2.op = .assign (.const b)) (hs : (Tryd.prog.info? ty).map (·.size) = some (5 * As.length)) (ha : 0 < As.length)
    (hp : apart ops pD = true) (h0 : a0.tmps.getD pD undef = .pointer (some ⟨q, 0, none⟩)) (ht : w.there q 0 (5 * As.length)) (qV : decide (jV < k) = true) (wV : writes ops jV pV = true) (FV : F jV = EN As) (hz : decide (dB < a0.tmps.size) = true) (steps : ∀ i, i < k → StepOk Tryd.prog .any ops Q F a0 w i)
    (fin : ∀ (vs : Nat → Value) (W W' : World), vs dB = b → Below w.heap.size w W → ButQ q w W' → RowN W' q 0 As → (∀ (w1 : World) (B : Nat), Below B w1 W → B ≤ q → Below B w1 W') → Q .normal (puts vs a0 ops.toList) W') :
    (Code.region id ops draw).wp Tryd.prog Q a0 w := by
  refine region_tail k F (by kernel_rfl) hT steps [] (fun p hp => by cases hp) (fun p hp => by cases hp) fun a W hb hw hF _ => ?_
  have h2 := hF jV pV qV wV
  rw [FV] at h2
  obtain ⟨es, ev, V⟩ := h2
  have th := there_up (by omega) ht hw
  rw [hdrop]
  show o1.wp _ a W (fun a' w' => o2.wp _ a' w' (fun a'' w'' => Q .normal a'' w'') Q) Q
  refine wp_store_mid ty (.tmp pD) (.tmp pV) hop1 q 0 (clN es).toArray ((based_at hb pD hp).trans h0) ev (by show W.there q 0 (clN es).length; rw [clN_len V]; exact th) (by show _ = some (clN es).length; rw [clN_len V]; exact hs) (clN_one es) ?_
  rw [hd1]
  show o2.wp _ a _ _ _
  refine wp_assignc hop2 ?_
  rw [hd2]
  have hb2 : Based ops a0 (a.put (some dB) b) := by rw [← hd2]; exact hb.put hk2 b
  obtain ⟨vs, hvs⟩ : ∃ vs : Nat → Value, ∀ d, (a.put (some dB) b).tmps.getD d undef = vs d := ⟨_, fun _ => rfl⟩
  rw [puts_tail hT rfl hb2 vs hvs]
  refine fin vs W _ ?_ hw (but_set hw _) (set_rowN th ha V) (fun w1 B n hB => below_setCells hB _ _ _ n)
  rw [← hvs, put_at (by rw [hb.2.1]; exact of_decide_eq_true hz)]
/-- Two new elements, in a region of any kind. -/
theorem region_new2 (k jA jV pA pV jB jU pB pU : Nat) (o1 o2 : Oper) (F : Nat → Fact) (A B : Int) (hT : textTail .any draw ops a0.tmps.size k = true) (hdrop : ops.toList.drop k = [o1, o2]) (hd1 : o1.dst = none) (hd2 : o2.dst = none)
    (hop1 : o1.op = .store 56 (.tmp pA) (.tmp pV)) (hop2 : o2.op = .store 56 (.tmp pB) (.tmp pU))
    (qA : decide (jA < k) = true) (qV : decide (jV < k) = true) (qB : decide (jB < k) = true) (qU : decide (jU < k) = true) (wA : writes ops jA pA = true) (wV : writes ops jV pV = true) (wB : writes ops jB pB = true) (wU : writes ops jU pU = true) (FA : F jA = NB w 5) (FV : F jV = EM A) (FB : F jB = NB w 5) (FU : F jU = EM B)
    (hne : jA ≠ jB) (fA : FreshOk Tryd.prog .any ops Q F a0 w jA) (fB : FreshOk Tryd.prog .any ops Q F a0 w jB) (steps : ∀ i, i < k → StepOk Tryd.prog .any ops Q F a0 w i)
    (fin : ∀ (vs : Nat → Value) (q q' : Nat) (W : World), vs pA = .pointer (some ⟨q, 0, none⟩) → vs pB = .pointer (some ⟨q', 0, none⟩) → w.heap.size ≤ q → w.heap.size ≤ q' → q ≠ q' → Below w.heap.size w W → Em5 W q 0 A → Em5 W q' 0 B → Q .normal (puts vs a0 ops.toList) W) :
    (Code.region id ops draw).wp Tryd.prog Q a0 w := by
  refine region_tail k F (by kernel_rfl) hT steps [(jA, pA), (jB, pB)] (fun p hp => ?_) (fun p hp p' hp' hn => ?_) fun a W hb hw hF hS => ?_
  · simp only [List.mem_cons, List.not_mem_nil, or_false] at hp
    rcases hp with rfl | rfl
    · exact ⟨of_decide_eq_true qA, wA, fA.g⟩
    · exact ⟨of_decide_eq_true qB, wB, fB.g⟩
  · simp only [List.mem_cons, List.not_mem_nil, or_false] at hp hp'
    rcases hp with rfl | rfl <;> rcases hp' with rfl | rfl
    · exact absurd rfl hn
    · exact hne
    · exact hne.symm
    · exact absurd rfl hn
  have h1 := hF jA pA qA wA
  have h2 := hF jV pV qV wV
  have h3 := hF jB pB qB wB
  have h4 := hF jU pU qU wU
  rw [FA] at h1
  rw [FV] at h2
  rw [FB] at h3
  rw [FU] at h4
  obtain ⟨_, q, eq, th, hq⟩ := h1
  obtain ⟨t, ev, V⟩ := h2
  obtain ⟨_, q', eq', th', hq'⟩ := h3
  obtain ⟨u, eu, U⟩ := h4
  have hn := hS (jA, pA) (by simp) (jB, pB) (by simp) (fun e => hne (Prod.mk.inj e).1)
  simp only at hn
  rw [eq, eq'] at hn
  have hqq : q ≠ q' := fun e => hn (by rw [e])
  rw [hdrop]
  show o1.wp _ a W (fun a' w' => o2.wp _ a' w' (fun a'' w'' => Q .normal a'' w'') Q) Q
  refine wp_store_mid 56 (.tmp pA) (.tmp pV) hop1 q 0 (cl5 t).toArray eq ev th i5 (cl5_one t) ?_
  rw [hd1]
  show o2.wp _ a _ _ _
  have b1 : ButQ q W (W.setCells q 0 (cl5 t)) := but_set (Below.refl _ _) _
  have n1 := below_setCells hq (cl5 t) 0 _ hw
  refine wp_store_mid 56 (.tmp pB) (.tmp pU) hop2 q' 0 (cl5 u).toArray eq' eu (there_but (n := 5) (by decide) th' b1 (Ne.symm hqq)) i5 (cl5_one u) ?_
  obtain ⟨vs, hvs⟩ : ∃ vs : Nat → Value, ∀ d, a.tmps.getD d undef = vs d := ⟨_, fun _ => rfl⟩
  rw [hd2]
  show Q .normal a _
  rw [puts_tail hT rfl hb vs hvs]
  exact fin vs q q' _ ((hvs pA).symm.trans eq) ((hvs pB).symm.trans eq') hq hq' hqq (below_setCells hq' _ _ _ n1) ((set_em th V).but (but_set (q := q') (Below.refl _ _) _) hqq) (set_em (there_but (by decide) th' b1 (Ne.symm hqq)) U)
end
end Go.Proofs.YthapcapiiknjdaaDoor
