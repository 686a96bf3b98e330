import Derived.Test.YtmhfjkhanlciiaaDoorGP33
import Derived.Test.YtmhfjkhanlciiaaDoorGP20
import Derived.Test.YtmhfjkhanlciiaaDoorGP35
import Derived.Test.YtmhfjkhanlciiaaDoorGP32
import Derived.Test.YtmhfjkhanlciiaaDoorGP34

/-
  The form of a point as bytes: the program's form, its bytes, readForm.
-/
namespace Go.Proofs.YtmhfjkhanlciiaaDoor
set_option maxRecDepth 100000
open Go Go.RowKit

/-- Four words and a truth. -/
def fmC (W : Nat → Int) (b : Bool) : List Value := [.int .u64 (W 0), .int .u64 (W 1), .int .u64 (W 2), .int .u64 (W 3), .bool b]
def FmV (W : Nat → Int) (b : Bool) : Value := .agg (fmC W b).toArray
def FM (v : Int) (b : Bool) : Fact := ⟨fun x _ => ∃ W, x = FmV W b ∧ W4 W ∧ wval W = v, fun _ h => h⟩
def WF (v : Int) : Fact := ⟨fun x _ => ∃ W, x = ag4 W ∧ W4 W ∧ wval W = v, fun _ h => h⟩
theorem buF (W : Nat → Int) (b : Bool) (w : World) : (Instr.build 69 #[(0, ag4 W), (1, .bool b)]).run Tryd.prog w = .ok (FmV W b) w := by kernel_rfl
theorem iF : (Tryd.prog.info? 69).map (·.size) = some 5 := by kernel_rfl
theorem uF : ∃ fs, Tryd.prog.underlying 69 = some (.struct fs) := ⟨_, Tryd.underlying69⟩
theorem fmC_one (W : Nat → Int) (b : Bool) : (fmC W b).toArray.all (·.oneCell') = true := by simp [fmC, Value.oneCell']
section
variable {ops : Array Oper} {Q : Exit → Act → World → Prop} {md : Region.Mode} {F : Nat → Fact} {a0 : Act} {w0 : World} {i : Nat} {o : Oper} {ts : Array TypeId}
theorem step_words (hi : ops[i]? = some o) (p j : Nat) (A : Int) (hop : o.op = .call { callee := .value (.func 99), args := #[.tmp p], argTypes := ts })
    (hj : waits md ops i j p = true) (hFj : F j = EM A) (hFi : F i = WF (A % PP)) : StepOk Tryd.prog md ops Q F a0 w0 i := by
  refine step_call hi _ _ ts hop (by kernel_rfl) fun a w _ hw hF => ?_
  have ea := hF j p hj
  rw [hFj] at ea
  obtain ⟨t, e1, L1, V1⟩ := ea
  show Calls Tryd.prog 99 #[a.tmps.getD p undef] w _
  rw [e1]
  refine (words_any w t L1).mono ?_
  rintro r w' ⟨rfl, hn⟩
  rw [hFi]
  have k := lw_ok L1
  exact ⟨_, rfl, hn, lw t, rfl, k.2, k.1.trans V1⟩
theorem step_even (hi : ops[i]? = some o) (p j : Nat) (A : Int) (hop : o.op = .call { callee := .value (.func 100), args := #[.tmp p], argTypes := ts })
    (hj : waits md ops i j p = true) (hFj : F j = EM A) (hFi : F i = Fact.eq (.bool (decide (A % PP % 2 = 0)))) : StepOk Tryd.prog md ops Q F a0 w0 i := by
  refine step_call hi _ _ ts hop (by kernel_rfl) fun a w _ hw hF => ?_
  have ea := hF j p hj
  rw [hFj] at ea
  obtain ⟨t, e1, L1, V1⟩ := ea
  show Calls Tryd.prog 100 #[a.tmps.getD p undef] w _
  rw [e1]
  refine (isEven_any w t L1).mono ?_
  rintro r w' ⟨rfl, hn⟩
  rw [hFi, V1]
  exact ⟨_, rfl, hn, rfl⟩
theorem step_bF (hi : ops[i]? = some o) (p q j k : Nat) (v : Int) (b : Bool) (hop : o.op = .build 69 #[(0, .tmp p), (1, .tmp q)])
    (hj : waits md ops i j p = true) (hk : waits md ops i k q = true) (hFj : F j = WF v) (hFk : F k = Fact.eq (.bool b)) (hFi : F i = FM v b) : StepOk Tryd.prog md ops Q F a0 w0 i := by
  refine step_pure hi fun a w _ _ hf => ?_
  have h1 := hf j p hj
  have h2 := hf k q hk
  rw [hFj] at h1
  rw [hFk] at h2
  obtain ⟨W, e1, X⟩ := h1
  refine ⟨FmV W b, ?_, by rw [hFi]; exact ⟨W, rfl, X⟩⟩
  have g1 : a.eval (.tmp p) = ag4 W := e1
  have g2 : a.eval (.tmp q) = .bool b := h2
  have g : (#[(0, Operand.tmp p), (1, Operand.tmp q)].map fun (n, x) => (n, a.eval x)) = #[(0, ag4 W), (1, .bool b)] := by simp [g1, g2]
  simp only [execOp, hop, g]
  rw [Sem.run_bind, buF]
  rfl
end
section
variable {ops : Array Oper} {Q : Exit → Act → World → Prop} {a0 : Act} {w : World} {id : Nat} {draw : Bool}
theorem region_putF (k jV pD pV : Nat) (o : Oper) (F : Nat → Fact) (v : Int) (b : Bool) (q : Nat) (hT : textOk .any ops a0.tmps.size k = true) (hk : ops[k]? = some o) (hd : o.dst = none) (hop : o.op = .store 69 (.tmp pD) (.tmp pV))
    (hp : apart ops pD = true) (h0 : a0.tmps.getD pD undef = .pointer (some ⟨q, 0, none⟩)) (ht : w.there q 0 5) (wV : writes ops jV pV = true) (FV : F jV = FM v b) (steps : ∀ i, i < k → StepOk Tryd.prog .any ops Q F a0 w i)
    (fin : ∀ (vs : Nat → Value) (W W' : World) (u : Nat → Int), Below w.heap.size w W → W'.rangeAt q 0 (fmC u b) → W4 u → wval u = v → (∀ (w1 : World) (B : Nat), Below B w1 W → B ≤ q → Below B w1 W') → Q .normal (puts vs a0 ops.toList) W') :
    (Code.region id ops draw).wp Tryd.prog Q a0 w := by
  refine region_store k o F (by kernel_rfl) hT hk hd steps fun a W hb hw hF => ?_
  have h2 := hF jV pV wV
  rw [FV] at h2
  obtain ⟨u, ev, hu, hv⟩ := h2
  have th := there_up (by omega) ht hw
  refine wp_store_mid 69 (.tmp pD) (.tmp pV) hop q 0 (fmC u b).toArray ((based_at hb pD hp).trans h0) ev th iF (fmC_one u b) ?_
  obtain ⟨vs, hvs⟩ : ∃ vs : Nat → Value, ∀ d, a.tmps.getD d undef = vs d := ⟨_, fun _ => rfl⟩
  rw [hd]
  show Q .normal a _
  rw [puts_of hT rfl hb vs hvs]
  exact fin vs W _ u hw (World.rangeAt_setCells_same W q 0 _ th) hu hv (fun w1 B n hB => below_setCells hB _ _ _ n)
end
abbrev zF : Obj := .cells #[.int .u64 0, .int .u64 0, .int .u64 0, .int .u64 0, .bool false] 69
set_option maxHeartbeats 2000000 in
theorem form_any (w : World) (es : List (Nat → Int)) (X Y : Int) (hes : IsN es [X, Y]) :
    Calls Tryd.prog 61 #[agN es] w fun r w' => ∃ u, r = .returned (FmV u (!decide (X % PP % 2 = 0))) ∧ W4 u ∧ wval u = Y % PP ∧ Below w.heap.size w w' := by
  show Calls Tryd.prog 61 #[.agg (clN es).toArray] w _
  have H0 := rowN_new w 61 hes
  have m0 : Below w.heap.size w (w.alloc (.cells (clN es).toArray 61)) := (Below.refl _ _).alloc (Nat.le_refl _) _
  have s0 : (w.alloc (.cells (clN es).toArray 61)).heap.size = w.heap.size + 1 := by simp
  obtain ⟨V0, hV0⟩ : ∃ V, V = (clN es).toArray := ⟨_, rfl⟩
  rw [← hV0] at H0 m0 s0 ⊢
  clear hV0 hes
  go_enter Tryd.func61, Tryd.ntmps61
  go_upto_region 1 with fail
  generalize w.alloc (.cells V0 61) = wa0 at *
  have TR : (wa0.alloc zF).there wa0.heap.size 0 5 := there_new wa0 _ _
  have mz : Below wa0.heap.size wa0 (wa0.alloc zF) := (Below.refl _ _).alloc (Nat.le_refl _) _
  rw [s0] at TR
  have P0 := H0.up mz
  have N := nxt m0 mz
  clear H0 m0 s0 mz
  obtain ⟨wr, hwr⟩ : ∃ W, W = wa0.alloc zF := ⟨_, rfl⟩
  rw [← hwr] at TR N P0
  change Code.wp _ _ _ _ (wa0.alloc zF)
  rw [← hwr]
  clear hwr
  refine region_putF 8 7 2 10 _ (fun i => [Fact.eq (.pointer (some ⟨w.heap.size, 5, none⟩)), EM (Y), WF (Y % PP), Fact.eq (.pointer (some ⟨w.heap.size, 0, none⟩)), EM (X), Fact.eq (.bool (decide (X % PP % 2 = 0))), Fact.eq (.bool (!(decide (X % PP % 2 = 0)))), FM (Y % PP) (!decide (X % PP % 2 = 0))].getD i Fact.no) (Y % PP) (!decide (X % PP % 2 = 0)) _ (by kernel_rfl) rfl rfl rfl (by kernel_rfl) rfl TR (by kernel_rfl) rfl ?_ ?_
  · intro i hi
    obtain rfl | rfl | rfl | rfl | rfl | rfl | rfl | rfl : i = 0 ∨ i = 1 ∨ i = 2 ∨ i = 3 ∨ i = 4 ∨ i = 5 ∨ i = 6 ∨ i = 7 := by omega
    · exact step_fld rfl 61 1 1 rfl (by kernel_rfl) _ _ rfl (fyA _) rfl
    · exact step_e5f rfl 3 0 rfl (by kernel_rfl) _ _ rfl _ P0.tail.at0 rfl
    · exact step_words rfl 4 1 _ rfl (by kernel_rfl) rfl rfl
    · exact step_fld rfl 61 1 0 rfl (by kernel_rfl) _ _ rfl (fxA _) rfl
    · exact step_e5f rfl 6 3 rfl (by kernel_rfl) _ _ rfl _ P0.at0 rfl
    · exact step_even rfl 7 4 _ rfl (by kernel_rfl) rfl rfl
    · exact step_notb rfl 8 5 rfl (by kernel_rfl) rfl rfl
    · exact step_bF rfl 5 9 2 6 _ _ rfl (by kernel_rfl) (by kernel_rfl) rfl rfl rfl
  intro vs W W' u n rg hu hv nb
  have z := N.size
  have NS := nb w w.heap.size (nxt N n) (by omega)
  simp only [puts, Act.put, List.setIfInBounds_toArray, List.set_cons_succ, List.set_cons_zero]
  clear n nb N TR P0
  obtain ⟨fs, hfs⟩ := uF
  go_wp2
  exact bodyPost_ret (v := FmV u (!decide (X % PP % 2 = 0))) (results_cell_mid Tryd.results61 _ _ (w.heap.size + 1) (fmC u _) _ rfl rg hfs rfl iF) rfl ⟨u, rfl, hu, hv, NS⟩
theorem or63 (x : Int) (h0 : 0 ≤ x) (h1 : x < 9223372036854775808) : bits BinOp.or IntKind.u64 x 9223372036854775808 = x + 9223372036854775808 := by
  have h := or64 x 1 63 9223372036854775808 (by decide) h0 h1 (by omega) (by omega) (by omega)
  simpa [Int.add_comm] using h
/-- The words with the mark of an odd x. -/
def mkW (u : Nat → Int) (b : Bool) (j : Nat) : Int := if j = 3 ∧ b = true then u 3 + 9223372036854775808 else u j
set_option maxHeartbeats 4000000 in
theorem formBytes_any (w : World) (u : Nat → Int) (b : Bool) (hu : W4 u) (h3 : u 3 < 9223372036854775808) :
    Calls Tryd.prog 62 #[FmV u b] w fun r w' => NewRow w.heap.size w' r .u8 (fill (byt (wval (mkW u b))) 32) ∧ Below w.heap.size w w' := by
  have b3 := hu 3 (by omega)
  have e3 := or63 (u 3) b3.1 h3
  have hM : W4 (mkW u b) := fun j hj => by
    have := hu j hj
    unfold mkW
    split
    · rename_i c
      obtain ⟨rfl, _⟩ := c
      omega
    · exact this
  have WB := hide (fun w => wordsBytes_any w (mkW u b) hM)
  show Calls Tryd.prog 62 #[.agg #[.int .u64 (u 0), .int .u64 (u 1), .int .u64 (u 2), .int .u64 (u 3), .bool b]] w _
  have al1 : Below w.heap.size w (w.alloc (.cells #[.int .u64 (u 0), .int .u64 (u 1), .int .u64 (u 2), .int .u64 (u 3), .bool b] 69)) := (Below.refl _ _).alloc (Nat.le_refl _) _
  cases b
  all_goals
    go_enter Tryd.func62, Tryd.ntmps62
    go_wp2_with fail
    refine (WB.out _).mono ?_
    rintro r w3 ⟨rfl, B3, n3⟩
    have N3 := nxt (al1.alloc (by simp) _) n3
    rw [show ∀ a b : Obj, ((w.alloc a).alloc b).heap.size = w.heap.size + 1 + 1 from fun a b => by simp] at B3
    have z := B3.lt
    clear WB n3 hM
    go_wp2
    go_ret
    have l32 : ∀ f : Nat → Int, (fill f 32).length = 32 := fun f => fill_len f 32
    exact ⟨⟨_, 32, _, by rw [l32]; rfl, B3.own0, (fun h => by cases h), by rw [l32]; omega, by omega⟩, N3⟩
/-- The words without the highest bit. -/
def loW (u : Nat → Int) (j : Nat) : Int := if j = 3 then u 3 % 9223372036854775808 else u j
theorem and63 (x : Int) (h0 : 0 ≤ x) (h1 : x < 18446744073709551616) : bits BinOp.and IntKind.u64 x 9223372036854775808 = if 9223372036854775808 ≤ x then 9223372036854775808 else 0 := by
  obtain ⟨m, rfl⟩ := Int.eq_ofNat_of_zero_le h0
  have h := bits_and_u64_nat m 9223372036854775808 (by omega) (by omega)
  have e : m &&& 9223372036854775808 = if 9223372036854775808 ≤ m then 9223372036854775808 else 0 := by
    have k : (9223372036854775808 : Nat) = 2 ^ 63 := by decide
    have hm : m < 2 ^ 64 := by omega
    rw [k]
    apply Nat.eq_of_testBit_eq
    intro i
    rw [Nat.testBit_and, Nat.testBit_two_pow]
    by_cases c : 2 ^ 63 ≤ m
    · rw [if_pos c, Nat.testBit_two_pow]
      by_cases d : 63 = i
      · subst d
        have : m / 2 ^ 63 = 1 := by omega
        rw [Nat.testBit_eq_decide_div_mod_eq, this]
        simp
      · simp [d]
    · rw [if_neg c, Nat.zero_testBit]
      by_cases d : 63 = i
      · subst d
        have : m / 2 ^ 63 = 0 := by omega
        rw [Nat.testBit_eq_decide_div_mod_eq, this]
        simp
      · simp [d]
  rw [e] at h
  refine (by simpa using h : _ = _).trans ?_
  by_cases c : 9223372036854775808 ≤ m
  · rw [if_pos c, if_pos (by omega)]
    rfl
  · rw [if_neg c, if_neg (by omega)]
    rfl
set_option maxHeartbeats 4000000 in
theorem readForm_any (w : World) (g : Nat) (a : Option Addr) (cap : Nat) (xs : List Int) (hr : Rd w g a .u8 xs) (hb : Byt xs) (hl : xs.length = 32) :
    Calls Tryd.prog 75 #[.slice a 32 cap] w fun r w' => ∃ u, r = .returned (FmV (loW u) (decide (9223372036854775808 ≤ u 3))) ∧ W4 u ∧ u = wv (fun j => xs.getD j 0) 32 ∧ Below w.heap.size w w' := by
  have al1 : Below w.heap.size w (w.alloc zF) := (Below.refl _ _).alloc (Nat.le_refl _) _
  have s1 : (w.alloc zF).heap.size = w.heap.size + 1 := by simp
  have TR : (w.alloc zF).there w.heap.size 0 5 := there_new w _ _
  have RW' := hide (fun w' n => readWords_any w' g a cap xs (hr.up n) hb hl)
  have hW : W4 (wv (fun j => xs.getD j 0) 32) := fun j _ => wv_lt hb 32 j
  clear hl
  go_enter Tryd.func75, Tryd.ntmps75
  go_wp2_with fail
  change Calls _ _ _ (w.alloc zF) _
  generalize w.alloc zF = wa at *
  refine (RW'.out wa al1).mono ?_
  rintro r w1 ⟨rfl, n1⟩
  obtain ⟨u, hu⟩ : ∃ u, u = wv (fun j => xs.getD j 0) 32 := ⟨_, rfl⟩
  rw [← hu] at hW ⊢
  have hU := hide hu
  clear hu RW' hr hb
  have b3 := hW 3 (by omega)
  have e1 := and63 (u 3) b3.1 b3.2
  have e2 := and_not63 (u 3) b3.1 b3.2
  have N := nxt al1 n1
  replace TR := there_up (by omega) TR n1
  have z1 := N.size
  have z2 := there_lt (by omega) TR
  clear n1 al1 s1
  obtain ⟨x0, c0⟩ := Option.isSome_iff_exists.1 (TR 0 (by omega)).1
  obtain ⟨x1, c1⟩ := Option.isSome_iff_exists.1 (TR 1 (by omega)).1
  obtain ⟨x2, c2⟩ := Option.isSome_iff_exists.1 (TR 2 (by omega)).1
  obtain ⟨x3, c3⟩ := Option.isSome_iff_exists.1 (TR 3 (by omega)).1
  obtain ⟨x4, c4⟩ := Option.isSome_iff_exists.1 (TR 4 (by omega)).1
  have f0 := (TR 0 (by omega)).2
  have f1 := (TR 1 (by omega)).2
  have f2 := (TR 2 (by omega)).2
  have f3 := (TR 3 (by omega)).2
  have f4 := (TR 4 (by omega)).2
  simp only [Nat.zero_add] at c0 c1 c2 c3 c4 f0 f1 f2 f3 f4
  obtain ⟨fs, hfs⟩ := uF
  have RG : ∀ (b : Bool) (ob : Obj), ((w1.setCells w.heap.size 0 (fmC (loW u) b)).alloc ob).rangeAt w.heap.size 0 (fmC (loW u) b) := fun b ob j v hv => by
    have rg := World.rangeAt_setCells_same w1 w.heap.size 0 (fmC (loW u) b) TR
    have n : Below (w1.setCells w.heap.size 0 (fmC (loW u) b)).heap.size (w1.setCells w.heap.size 0 (fmC (loW u) b)) ((w1.setCells w.heap.size 0 (fmC (loW u) b)).alloc ob) := (Below.refl _ _).alloc (Nat.le_refl _) _
    exact (n.cell (p := ⟨w.heap.size, 0 + j, none⟩) (by rw [heap_size_setCells]; exact z2)).trans (rg j v hv)
  have RG' := hide RG
  clear TR RG
  by_cases c : 9223372036854775808 ≤ u 3
  · have D := hide (decide_eq_true c)
    simp only [c, if_true] at e1
    simp only [ag4]
    go_wp2
    exact bodyPost_ret (v := FmV (loW u) true) (results_cell_mid Tryd.results75 _ _ w.heap.size (fmC (loW u) true) _ rfl (RG'.out true _) hfs rfl iF) rfl ⟨u, by rw [D.out], hW, hU.out, (below_set5 N (Nat.le_refl _) _ _ _ _ _).alloc (by simp; omega) _⟩
  · have D := hide (decide_eq_false c)
    simp only [c, if_false] at e1
    simp only [ag4]
    go_wp2
    exact bodyPost_ret (v := FmV (loW u) false) (results_cell_mid Tryd.results75 _ _ w.heap.size (fmC (loW u) false) _ rfl (RG'.out false _) hfs rfl iF) rfl ⟨u, by rw [D.out], hW, hU.out, (below_set5 N (Nat.le_refl _) _ _ _ _ _).alloc (by simp; omega) _⟩
end Go.Proofs.YtmhfjkhanlciiaaDoor

/-
  The program's PointEncode.
-/
namespace Go.Proofs.YtmhfjkhanlciiaaDoor
set_option maxRecDepth 100000
open Go Go.RowKit

theorem wval_top {u : Nat → Int} (h : W4 u) (hv : wval u < 57896044618658097711785492504343953926634992332820282019728792003956564819968) : u 3 < 9223372036854775808 := by
  have h0 := h 0 (by omega); have h1 := h 1 (by omega); have h2 := h 2 (by omega); have h3 := h 3 (by omega)
  unfold wval at hv
  omega
theorem wval_mk {u : Nat → Int} (b : Bool) : wval (mkW u b) = wval u + if b = true then 57896044618658097711785492504343953926634992332820282019728792003956564819968 else 0 := by
  unfold wval mkW
  cases b <;> simp <;> omega
theorem PP_lt : PP < 57896044618658097711785492504343953926634992332820282019728792003956564819968 := by decide
section
variable {ops : Array Oper} {Q : Exit → Act → World → Prop} {md : Region.Mode} {F : Nat → Fact} {a0 : Act} {w0 : World} {i : Nat} {o : Oper} {ts : Array TypeId}
theorem step_form (hi : ops[i]? = some o) (p j : Nat) (X Y : Int) (hop : o.op = .call { callee := .value (.func 61), args := #[.tmp p], argTypes := ts })
    (hj : waits md ops i j p = true) (hFj : F j = EN [X, Y]) (hFi : F i = FM (Y % PP) (!decide (X % PP % 2 = 0))) : StepOk Tryd.prog md ops Q F a0 w0 i := by
  refine step_call hi _ _ ts hop (by kernel_rfl) fun a w _ hw hF => ?_
  have ea := hF j p hj
  rw [hFj] at ea
  obtain ⟨t, e1, L1⟩ := ea
  show Calls Tryd.prog 61 #[a.tmps.getD p undef] w _
  rw [e1]
  refine (form_any w t X Y L1).mono ?_
  rintro r w' ⟨u, rfl, h1, h2, hn⟩
  rw [hFi]
  exact ⟨_, rfl, hn, u, rfl, h1, h2⟩
theorem step_fby (hi : ops[i]? = some o) (p j : Nat) (Y : Int) (b : Bool) (hop : o.op = .call { callee := .value (.func 62), args := #[.tmp p], argTypes := ts })
    (hj : waits md ops i j p = true) (hFj : F j = FM (Y % PP) b) (hFi : F i = RN w0 (fun u9 => u9 = fill (byt (Y % PP + if b = true then 57896044618658097711785492504343953926634992332820282019728792003956564819968 else 0)) 32)) : StepOk Tryd.prog md ops Q F a0 w0 i := by
  refine step_call hi _ _ ts hop (by kernel_rfl) fun a w _ hw hF => ?_
  have ea := hF j p hj
  rw [hFj] at ea
  obtain ⟨u, e1, h1, h2⟩ := ea
  show Calls Tryd.prog 62 #[a.tmps.getD p undef] w _
  rw [e1]
  have hlt : wval u < 57896044618658097711785492504343953926634992332820282019728792003956564819968 := by
    rw [h2]
    exact Int.lt_trans (Int.emod_lt_of_pos _ (by decide)) PP_lt
  refine (formBytes_any w u b h1 (wval_top h1 hlt)).mono ?_
  rintro r w' ⟨⟨a', c, g, rfl, ow, k1, k2, hg⟩, hn⟩
  rw [wval_mk, h2] at ow k2 ⊢
  rw [hFi]
  have z := hw.size
  exact ⟨_, rfl, hn, _, a', c, g, rfl, ow, by omega, rfl, k1, k2⟩
end
/-- The form of a point, as bytes. -/
def enA (D : Int) (xs ys : List Int) : List Int := if rpB D xs ys = true then fill (byt (rpY xs ys % PP + if (!decide (rpX xs ys % PP % 2 = 0)) = true then 57896044618658097711785492504343953926634992332820282019728792003956564819968 else 0)) 32 else []
set_option maxHeartbeats 2000000 in
theorem implEncode_any (w : World) (g g' : Nat) (a a' : Option Addr) (c c' : Nat) (xs ys : List Int) (hx : Rd w g a .u8 xs) (hy : Rd w g' a' .u8 ys) (bx : Byt xs) (by' : Byt ys) (D : Int) (TT : HasTw w 3) (CC : Em5 w 2 0 D) :
    Calls Tryd.prog 23 #[.agg #[.slice a xs.length c, .slice a' ys.length c']] w fun r w' => NewRow w.heap.size w' r .u8 (enA D xs ys) ∧ Below w.heap.size w w' := by
  have T := two_cells w (.slice a xs.length c) (.slice a' ys.length c') 27
  have m1 : Below w.heap.size w (w.alloc (.cells #[.slice a xs.length c, .slice a' ys.length c'] 27)) := (Below.refl _ _).alloc (Nat.le_refl _) _
  have s1 : (w.alloc (.cells #[.slice a xs.length c, .slice a' ys.length c'] 27)).heap.size = w.heap.size + 1 := by simp
  have RX : RdOk w a xs := ⟨g, hx, bx⟩
  have RY : RdOk w a' ys := ⟨g', hy, by'⟩
  obtain ⟨CX, CY⟩ := T
  clear hx hy bx by'
  go_enter Tryd.func23, Tryd.ntmps23
  go_upto_region 1 with fail
  generalize w.alloc (.cells #[.slice a xs.length c, .slice a' ys.length c'] 27) = wa at *
  have N := m1
  clear m1 s1
  replace RX := RX.up N
  replace RY := RY.up N
  replace TT := TT.up N
  replace CC := CC.up N
  refine region_newN_asg 61 6 5 3 3 8 4 9 4 _ _ (fun i => [Fact.eq (.agg #[.slice a xs.length c, .slice a' ys.length c']), TB [rpX xs ys, rpY xs ys] (rpB D xs ys), TB [rpX xs ys, rpY xs ys] (rpB D xs ys), EN [rpX xs ys, rpY xs ys], Fact.eq (.bool (rpB D xs ys)), NB wa 10].getD i Fact.no) [rpX xs ys, rpY xs ys] (.bool (rpB D xs ys)) (by kernel_rfl) rfl rfl rfl rfl rfl rfl iA (Nat.zero_lt_succ _) rfl rfl rfl (by kernel_rfl) (by kernel_rfl) (by kernel_rfl) rfl rfl rfl (by decide) (by kernel_rfl) ?_ ?_
  · intro i hi
    obtain rfl | rfl | rfl | rfl | rfl | rfl : i = 0 ∨ i = 1 ∨ i = 2 ∨ i = 3 ∨ i = 4 ∨ i = 5 := by omega
    · exact step_lP rfl 1 rfl (by kernel_rfl) _ rfl _ _ CX CY rfl
    · exact step_rp TT CC rfl 6 0 rfl (by kernel_rfl) RX RY rfl rfl
    · exact step_move rfl 7 1 (by exact Or.inl rfl) (by kernel_rfl) rfl
    · exact step_tx0 rfl 5 2 _ _ rfl (by kernel_rfl) rfl rfl
    · exact step_tx1 rfl 5 2 _ _ rfl (by kernel_rfl) rfl rfl
    · exact step_newA rfl rfl rfl
  intro vs1 q3 W1 v3 b4 l3 n E3 T3
  replace RX := RX.up n
  replace RY := RY.up n
  replace TT := TT.up n
  replace CC := CC.up n
  replace CX := (n.cell (block_lt_of_cell CX)).trans CX
  replace CY := (n.cell (block_lt_of_cell CY)).trans CY
  replace N := nxt N n
  clear n T3 l3
  obtain ⟨ok1, hok1⟩ : ∃ b, b = rpB D xs ys := ⟨_, rfl⟩
  rw [← hok1] at b4
  have HK1 := hide hok1
  clear hok1
  simp only [puts, v3, b4, Act.put, List.setIfInBounds_toArray, List.set_cons_succ, List.set_cons_zero]
  clear v3 b4
  cases ok1 with
  | false =>
    have e1 : enA D xs ys = [] := by unfold enA; rw [← HK1.out]; rfl
    clear RX RY TT CC E3 CX CY
    go_wp2
    go_ret
    exact ⟨by rw [e1]; exact ⟨none, 0, w.heap.size, rfl, Own.nil _ _ _ _, fun _ => rfl, Nat.le_refl _, Nat.le_refl _⟩, N⟩
  | true =>
    have e1 := hide (show enA D xs ys = fill (byt (rpY xs ys % PP + if (!decide (rpX xs ys % PP % 2 = 0)) = true then 57896044618658097711785492504343953926634992332820282019728792003956564819968 else 0)) 32 by unfold enA; rw [if_pos HK1.out.symm])
    go_upto_region 4 with fail
    refine region_end 4 (fun i => [EN [rpX xs ys, rpY xs ys], FM (rpY xs ys % PP) (!decide (rpX xs ys % PP % 2 = 0)), RN W1 (fun u9 => u9 = fill (byt (rpY xs ys % PP + if (!decide (rpX xs ys % PP % 2 = 0)) = true then 57896044618658097711785492504343953926634992332820282019728792003956564819968 else 0)) 32), RN W1 (fun u9 => u9 = fill (byt (rpY xs ys % PP + if (!decide (rpX xs ys % PP % 2 = 0)) = true then 57896044618658097711785492504343953926634992332820282019728792003956564819968 else 0)) 32)].getD i Fact.no) (by kernel_rfl) (by kernel_rfl) rfl ?_ ?_
    · intro i hi
      obtain rfl | rfl | rfl | rfl : i = 0 ∨ i = 1 ∨ i = 2 ∨ i = 3 := by omega
      · exact step_lA rfl 3 rfl (by kernel_rfl) _ rfl _ _  E3 rfl
      · exact step_form rfl 12 0 _ _ rfl (by kernel_rfl) rfl rfl
      · exact step_fby rfl 13 1 _ _ rfl (by kernel_rfl) rfl rfl
      · exact step_move rfl 14 2 (by exact Or.inr rfl) (by kernel_rfl) rfl
    intro A W hb hw hF
    have e2 := hF 3 2 (by kernel_rfl)
    obtain ⟨vs, hvs⟩ : ∃ vs : Nat → Value, ∀ d, A.tmps.getD d undef = vs d := ⟨_, fun _ => rfl⟩
    rw [hvs] at e2
    rw [puts_of (md := .any) (k := 4) (by kernel_rfl) rfl hb vs hvs]
    have N9 := nxt N hw
    have z := N.size
    clear hb hF hvs hw RX RY TT CC E3 CX CY
    obtain ⟨zs, b, d, h, e3, o3, l3, hzs, k1, k2⟩ := e2
    replace hzs : zs = fill (byt (rpY xs ys % PP + if (!decide (rpX xs ys % PP % 2 = 0)) = true then 57896044618658097711785492504343953926634992332820282019728792003956564819968 else 0)) 32 := hzs
    have HZ := hide hzs
    clear hzs
    simp only [puts, e3, Act.put, List.setIfInBounds_toArray, List.set_cons_succ, List.set_cons_zero]
    go_wp2
    go_ret
    exact ⟨by rw [e1.out, ← HZ.out]; exact ⟨b, d, h, rfl, o3, k1, k2, by omega⟩, N9⟩
end Go.Proofs.YtmhfjkhanlciiaaDoor

/-
  Canonical bytes are those of their number.
-/
namespace Go.Proofs.YtmhfjkhanlciiaaDoor
set_option maxRecDepth 100000
open Go.RowKit

theorem lsum_inj {a b : Nat → Int} (ha : ∀ j, 0 ≤ a j ∧ a j < 256) (hb : ∀ j, 0 ≤ b j ∧ b j < 256) : ∀ n, lsum a n = lsum b n → ∀ j, j < n → a j = b j
  | 0, _, j, hj => by omega
  | n + 1, h, j, hj => by
    have bd : ∀ (c : Nat → Int), (∀ j, 0 ≤ c j ∧ c j < 256) → ∀ m, 0 ≤ lsum c m ∧ lsum c m < 256 ^ m := by
      intro c hc m
      induction m with
      | zero => simp [lsum]
      | succ m ih =>
        have hm := hc m
        have hp := p256_pos m
        rw [lsum, Int.pow_succ]
        have e1 : c m * 256 ^ m ≤ 255 * 256 ^ m := Int.mul_le_mul_of_nonneg_right (by omega) (Int.le_of_lt hp)
        have e2 : 0 ≤ c m * 256 ^ m := Int.mul_nonneg hm.1 (Int.le_of_lt hp)
        omega
    have h1 := bd a ha n
    have h2 := bd b hb n
    have hp := p256_pos n
    rw [lsum, lsum] at h
    have e : a n = b n := by
      rcases Int.lt_trichotomy (a n) (b n) with c | c | c
      · exfalso
        have : (a n + 1) * 256 ^ n ≤ b n * 256 ^ n := Int.mul_le_mul_of_nonneg_right (by omega) (Int.le_of_lt hp)
        rw [Int.add_mul] at this
        omega
      · exact c
      · exfalso
        have : (b n + 1) * 256 ^ n ≤ a n * 256 ^ n := Int.mul_le_mul_of_nonneg_right (by omega) (Int.le_of_lt hp)
        rw [Int.add_mul] at this
        omega
    rw [e] at h
    rcases Nat.lt_or_ge j n with c | c
    · exact lsum_inj ha hb n (by omega) j c
    · obtain rfl : j = n := by omega
      exact e
theorem valid_y1 {xs ys : List Int} (h : validP xs ys = true) : canN ys = true := by
  unfold validP at h
  simp only [Bool.and_eq_true] at h
  exact h.1.2
theorem valid_x1 {xs ys : List Int} (h : validP xs ys = true) : canN xs = true := by
  unfold validP at h
  simp only [Bool.and_eq_true] at h
  exact h.1.1
theorem num_ge {xs : List Int} (hb : Byt xs) : 0 ≤ num xs := lsum_nonneg (fun j => hb j) _
theorem can_lt {xs : List Int} (h : canN xs = true) : num xs < PP := by
  unfold canN at h
  simp at h
  exact h.2
theorem fill_can {xs : List Int} (hb : Byt xs) (h : canN xs = true) : fill (byt (num xs % PP)) 32 = xs := by
  have l := can_len h
  have e := num_modS (num xs)
  rw [Int.emod_eq_of_lt (num_ge hb) (can_lt h)] at e ⊢
  have k : ∀ j, j < 32 → (fill (byt (num xs)) 32).getD j 0 = xs.getD j 0 := by
    refine lsum_inj (fun j => bytes_L _ _ j) (fun j => hb j) 32 ?_
    have e1 : num (fill (byt (num xs)) 32) = lsum (fun j => (fill (byt (num xs)) 32).getD j 0) 32 := by unfold num; rw [fill_len]
    have e2 : num xs = lsum (fun j => xs.getD j 0) 32 := by unfold num; rw [l]
    rw [← e1, ← e2]
    exact e
  apply List.ext_getElem
  · rw [fill_len, l]
  · intro i h1 h2
    have := k i (by rw [fill_len] at h1; exact h1)
    simpa [List.getD_eq_getElem?_getD, h1, h2] using this
end Go.Proofs.YtmhfjkhanlciiaaDoor

/-
  The law of PointEncode.
-/
namespace Go.Proofs.YtmhfjkhanlciiaaDoor
set_option maxRecDepth 100000
open Go Go.RowKit

theorem lsum_set {xs : List Int} {v : Int} : ∀ n, n ≤ 31 → lsum (fun j => (xs.set 31 v).getD j 0) n = lsum (fun j => xs.getD j 0) n
  | 0, _ => rfl
  | n + 1, h => by
    rw [lsum, lsum, lsum_set n (by omega)]
    congr 2
    simp [List.getD_eq_getElem?_getD, show ¬ (31 = n) by omega]
theorem num_set {xs : List Int} {v : Int} (hl : xs.length = 32) : num (xs.set 31 v) = num xs + (v - xs.getD 31 0) * 256 ^ 31 := by
  unfold num
  rw [List.length_set, hl]
  show lsum (fun j => (xs.set 31 v).getD j 0) 31 + (xs.set 31 v).getD 31 0 * 256 ^ 31 = lsum (fun j => xs.getD j 0) 31 + xs.getD 31 0 * 256 ^ 31 + (v - xs.getD 31 0) * 256 ^ 31
  rw [lsum_set 31 (by omega), Int.sub_mul]
  have e : (xs.set 31 v).getD 31 0 = v := by simp [List.getD_eq_getElem?_getD, hl]
  rw [e]
  omega
theorem can_top {ys : List Int} (hb : Byt ys) (h : canN ys = true) : ys.getD 31 0 < 128 := by
  have l := can_len h
  have k := can_lt h
  have b := lsum_nonneg (fun j => hb j) 31
  unfold num at k
  rw [l, lsum] at k
  have v := hb 31
  have p : PP < 128 * 256 ^ 31 := by decide
  rcases (show ys.getD 31 0 < 128 ∨ 128 ≤ ys.getD 31 0 by omega) with c | c
  · exact c
  · exfalso
    have : 128 * 256 ^ 31 ≤ ys.getD 31 0 * 256 ^ 31 := Int.mul_le_mul_of_nonneg_right c (by decide)
    have e1 : lsum (fun j => ys.getD j 0) 31 + ys.getD 31 0 * 256 ^ 31 < PP := k
    generalize (256 : Int) ^ 31 = q at *
    generalize PP = P at *
    omega
theorem num_odd {xs : List Int} (hl : xs.length = 32) : num xs % 2 = xs.getD 0 0 % 2 := by
  unfold num
  rw [hl]
  have key : ∀ n, lsum (fun j => xs.getD j 0) (n + 1) % 2 = xs.getD 0 0 % 2 := by
    intro n
    induction n with
    | zero => simp [lsum]
    | succ n ih =>
      rw [lsum, Int.pow_succ, ← Int.mul_assoc]
      omega
  exact key 31
theorem fill_byt {zs : List Int} (hb : Byt zs) (l : zs.length = 32) : fill (byt (num zs)) 32 = zs := by
  have h0 := num_ge hb
  have k : ∀ j, j < 32 → (fill (byt (num zs)) 32).getD j 0 = zs.getD j 0 := by
    refine lsum_inj (fun j => bytes_L _ _ j) (fun j => hb j) 32 ?_
    have e2 : num zs = lsum (fun j => zs.getD j 0) 32 := by unfold num; rw [l]
    rw [lsum_congr (b := byt (num zs)) 32 (fun j hj => fill_get _ _ _ hj), lsum_bytS _ h0, ← e2]
    refine Int.emod_eq_of_lt h0 ?_
    have bd : ∀ m, lsum (fun j => zs.getD j 0) m < 256 ^ m := by
      intro m
      induction m with
      | zero => simp [lsum]
      | succ m ih =>
        have hm := hb m
        have hp := p256_pos m
        rw [lsum, Int.pow_succ]
        have e1 : zs.getD m 0 * 256 ^ m ≤ 255 * 256 ^ m := Int.mul_le_mul_of_nonneg_right (by omega) (Int.le_of_lt hp)
        omega
    rw [e2]
    exact bd 32
  apply List.ext_getElem
  · rw [fill_len, l]
  · intro i h1 h2
    have := k i (by rw [fill_len] at h1; exact h1)
    simpa [List.getD_eq_getElem?_getD, h1, h2] using this
theorem enA_eq {xs ys : List Int} (hx : Byt xs) (hy : Byt ys) : enA dGo xs ys = esA xs ys := by
  unfold enA esA
  rw [rp_valid]
  by_cases h : validP xs ys = true
  · rw [if_pos h, if_pos h, rpX_of h, rpY_of h]
    have lx := can_len (valid_x1 h)
    have ly := can_len (valid_y1 h)
    rw [Int.emod_eq_of_lt (num_ge hx) (can_lt (valid_x1 h)), Int.emod_eq_of_lt (num_ge hy) (can_lt (valid_y1 h)), num_odd lx]
    have v0 := hx 0
    have t := can_top hy (valid_y1 h)
    have v31 := hy 31
    have e : num (ys.set 31 (ys.getD 31 0 + 128 * (xs.getD 0 0 % 2))) = num ys + if (!decide (xs.getD 0 0 % 2 = 0)) = true then 57896044618658097711785492504343953926634992332820282019728792003956564819968 else 0 := by
      rw [num_set ly]
      rcases (show xs.getD 0 0 % 2 = 0 ∨ xs.getD 0 0 % 2 = 1 by omega) with c | c
      · rw [c]
        simp
      · rw [c]
        simp
        omega
    rw [← e]
    refine fill_byt (fun i => ?_) (by rw [List.length_set]; exact ly)
    by_cases c : i = 31
    · subst c
      simp only [List.getD_eq_getElem?_getD, List.getElem?_set, ly]
      simp
      have t' : ys[31]?.getD (0 : Int) < 128 := by simpa [List.getD_eq_getElem?_getD] using t
      have v31' : 0 ≤ ys[31]?.getD (0 : Int) := by simpa [List.getD_eq_getElem?_getD] using v31.1
      omega
    · have := hy i
      simpa [List.getD_eq_getElem?_getD, List.getElem?_set, Ne.symm c] using this
  · rw [if_neg h, if_neg h]
theorem es_len (xs ys : List Int) : (esA xs ys).length ≤ 1048576 := by
  unfold esA
  split
  · rename_i h
    rw [List.length_set, can_len (valid_y1 h)]
    omega
  · simp
theorem laid_penc {W : World} (h : laidMetH Tryd.prog Rows.fnExactPointEncodeRow.laid W) : HasB W := ⟨tw_of_reads (reads_of h (by kernel_rfl) (.head _)), cf_of_reads (reads_of h (by kernel_rfl) (.tail _ (.head _)))⟩
set_option maxHeartbeats 8000000 in
theorem penc_law (w : World) (g0 : Nat) (a0 : Option Addr) (c0 : Nat) (X0 : List Int) (hX0 : Rd w g0 a0 .u8 X0) (bX0 : Byt X0) (lX0 : X0.length < 9223372036854775808) (g0' : Nat) (a0' : Option Addr) (c0' : Nat) (Y0 : List Int) (hY0 : Rd w g0' a0' .u8 Y0) (bY0 : Byt Y0) (lY0 : Y0.length < 9223372036854775808) (hL : HasB w) :
    Calls Tryd.prog 5 #[.agg #[.slice a0 X0.length c0, .slice a0' Y0.length c0']] w fun e w' => e = .returned (.bool true) ∧ Below w.heap.size w w' := by
  have SP := fun W g1 g2 a1 a2 c1 c2 h1 h2 => specEncode_any W g1 g2 a1 a2 c1 c2 X0 Y0 h1 h2 bX0 bY0 (fun h => can_top bY0 (valid_y1 h))
  have IM := fun W g1 g2 a1 a2 c1 c2 h1 h2 (n : Below w.heap.size w W) => implEncode_any W g1 g2 a1 a2 c1 c2 X0 Y0 h1 h2 bX0 bY0 dGo (hL.1.up n) (hL.2.up n)
  simp only [enA_eq bX0 bY0] at IM
  have lrx : (esA X0 Y0).length ≤ 1048576 := es_len _ _
  obtain ⟨rx, hrx⟩ : ∃ l, l = esA X0 Y0 := ⟨_, rfl⟩
  simp only [← hrx] at SP IM lrx
  clear hrx
  clear hL
  by_cases q0 : (X0.length + Y0.length) ≤ 1048576
  · skip
    have SZ0 := fun W => szPoint_any W a0 a0' X0.length c0 Y0.length c0' ((1048576 : Int)) lX0 lY0 (by omega) (by omega)
    rw [if_neg (show ¬ ((1048576 : Int)) < (X0.length : Int) + (Y0.length : Int) by omega)] at SZ0
    have t0 : decide (((1048576 : Int)) - (X0.length : Int) - (Y0.length : Int) < 0) = false := by simp; omega
    go_enter Tryd.func5, Tryd.ntmps5
    go_upto_region 1 with fail
    have B0 := Two.new w (.slice a0 X0.length c0) (.slice a0' Y0.length c0') 24
    have nb0 : Below w.heap.size w (w.alloc (.cells #[.slice a0 X0.length c0, .slice a0' Y0.length c0'] 24)) := (Below.refl _ _).alloc (Nat.le_refl _) _
    have sb0 : (w.alloc (.cells #[.slice a0 X0.length c0, .slice a0' Y0.length c0'] 24)).heap.size = w.heap.size + 1 := by simp
    generalize w.alloc (.cells #[.slice a0 X0.length c0, .slice a0' Y0.length c0'] 24) = v0 at *
    have N := nb0
    have zv : w.heap.size + 1 ≤ v0.heap.size := by omega
    clear nb0 sb0
    have B00 := B0.c0
    have B01 := B0.c1
    go_wp2_with fail
    refine (SZ0 v0).mono ?_
    rintro e w1 ⟨rfl, n1⟩
    clear B00 B01
    replace B0 := B0.up n1
    replace N := nxt N n1
    have zn1 := n1.size
    clear n1
    have B00 := B0.c0
    have B01 := B0.c1
    go_wp2_with fail
    refine (toPoint_any w1 g0 g0' a0 a0' c0 c0' X0 Y0 (hX0.up N) (hY0.up N) (by omega) (by omega)).mono ?_
    rintro e w2 ⟨m0p, m0q, rfl, m0x, m0y, m01, m02, n2⟩
    clear B00 B01
    replace B0 := B0.up n2
    replace N := nxt N n2
    have zn2 := n2.size
    clear n2
    have m03 := m0y.lt
    have m04 := m0x.lt
    go_wp2_with fail
    refine (SP w2 _ _ _ _ _ _ m0x.own0.rd m0y.own0.rd).mono ?_
    rintro e w3 ⟨⟨sa, sc, sg, rfl, o4, sk1, sk2, sl⟩, n3⟩
    replace B0 := B0.up n3
    replace m0x := m0x.up n3
    replace m0y := m0y.up n3
    replace N := nxt N n3
    have zn3 := n3.size
    clear n3
    clear sk1 sk2
    have Y4 := hide o4.rd.lt
    clear m0x m0y
    have B00 := B0.c0
    have B01 := B0.c1
    go_wp2_with fail
    refine (toPoint_any w3 g0 g0' a0 a0' c0 c0' X0 Y0 (hX0.up N) (hY0.up N) (by omega) (by omega)).mono ?_
    rintro e w4 ⟨x0p, x0q, rfl, x0x, x0y, x01, x02, n4⟩
    clear B00 B01
    replace B0 := B0.up n4
    replace o4 := o4.up n4
    replace N := nxt N n4
    have zn4 := n4.size
    clear n4
    have x03 := x0y.lt
    have x04 := x0x.lt
    have T50 := Two.new w4 (.slice (some ⟨x0p, 0, none⟩) X0.length X0.length) (.slice (some ⟨x0q, 0, none⟩) Y0.length Y0.length) 27
    have n5 : Below w4.heap.size w4 (w4.alloc (.cells #[.slice (some ⟨x0p, 0, none⟩) X0.length X0.length, .slice (some ⟨x0q, 0, none⟩) Y0.length Y0.length] 27)) := (Below.refl _ _).alloc (Nat.le_refl _) _
    replace B0 := B0.up n5
    replace o4 := o4.up n5
    replace x0x := x0x.up n5
    replace x0y := x0y.up n5
    replace N := nxt N n5
    clear n5
    have T500 := T50.c0
    have T501 := T50.c1
    go_wp2_with fail
    generalize w4.alloc (.cells #[.slice (some ⟨x0p, 0, none⟩) X0.length X0.length, .slice (some ⟨x0q, 0, none⟩) Y0.length Y0.length] 27) = w5 at *
    have uT50 := T50.lt
    refine (IM w5 _ _ _ _ _ _ x0x.own0.rd x0y.own0.rd N).mono ?_
    rintro e w6 ⟨⟨i6a, i6c, i6g, rfl, o6, i6k1, i6k2, i6l⟩, n6⟩
    clear T500 T501
    replace B0 := B0.up n6
    replace o4 := o4.up n6
    replace x0x := x0x.up n6
    replace x0y := x0y.up n6
    replace T50 := T50.up n6
    replace N := nxt N n6
    have zn6 := n6.size
    clear n6
    clear i6k1 i6k2
    go_wp2_with fail
    refine (eqByteS_same w6 _ _ _ _ _ _ rx o6.rd o4.rd lrx).mono ?_
    rintro e w7 ⟨rfl, n7⟩
    replace B0 := B0.up n7
    replace o4 := o4.up n7
    replace x0x := x0x.up n7
    replace x0y := x0y.up n7
    replace T50 := T50.up n7
    replace o6 := o6.up n7
    replace N := nxt N n7
    have zn7 := n7.size
    clear n7
    go_upto_region 10 with fail
    refine region_end 5 (fun i => [Fact.eq (.agg #[.slice (some ⟨x0p, 0, none⟩) X0.length X0.length, .slice (some ⟨x0q, 0, none⟩) Y0.length Y0.length]), Fact.eq (.agg #[.slice a0 X0.length c0, .slice a0' Y0.length c0']), PR X0 Y0, Fact.eq (.bool true), Fact.eq (.bool (!true))].getD i Fact.no) (by kernel_rfl) (by kernel_rfl) rfl ?_ ?_
    · intro i hi
      obtain rfl | rfl | rfl | rfl | rfl : i = 0 ∨ i = 1 ∨ i = 2 ∨ i = 3 ∨ i = 4 := by omega
      · exact step_l2 _ uP iP rfl 5 rfl (by kernel_rfl) _ rfl _ _ T50 rfl
      · exact step_l2 _ uLP iLP rfl 1 rfl (by kernel_rfl) _ rfl _ _ B0 rfl
      · exact step_toP rfl 28 1 rfl (by kernel_rfl) (hX0.up N) (hY0.up N) (by omega) (by omega) rfl rfl
      · exact step_eqP rfl 27 29 0 2 rfl (by kernel_rfl) (by kernel_rfl) (g := x0p) (g' := x0q) ⟨x0x.own0, x0y.own0⟩ (by omega) (by omega) rfl rfl rfl
      · exact step_notb rfl 30 3 rfl (by kernel_rfl) rfl rfl
    intro A w8 hb n8 hF
    have e2 := hF 4 31 (by kernel_rfl)
    obtain ⟨vs, hvs⟩ : ∃ vs : Nat → Value, ∀ d, A.tmps.getD d undef = vs d := ⟨_, fun _ => rfl⟩
    rw [hvs] at e2
    rw [puts_of (md := .any) (k := 5) (by kernel_rfl) rfl hb vs hvs]
    clear hb hF hvs
    have e3 : vs 31 = .bool false := e2
    clear e2
    simp only [puts, e3, Act.put, List.setIfInBounds_toArray, List.set_cons_succ, List.set_cons_zero]
    clear e3
    replace B0 := B0.up n8
    replace o4 := o4.up n8
    replace x0x := x0x.up n8
    replace x0y := x0y.up n8
    replace T50 := T50.up n8
    replace o6 := o6.up n8
    replace N := nxt N n8
    have zn8 := n8.size
    clear n8
    have T500 := T50.c0
    have T501 := T50.c1
    go_wp2_with fail
    refine (markPoint_any w8 x0p x0q _ _ _ _ X0 Y0 (1) ⟨x0x.own0, x0y.own0⟩ (by omega) (by omega) (by omega) (by omega) (fun _ => by omega) (fun _ => by omega) (by omega)).mono ?_
    rintro e w9 ⟨rfl, _, O9⟩
    have zz9 := O9.size
    clear T500 T501
    clear x0x x0y T50
    have NN := N.size
    replace N := N.trans (O9.below (B := w.heap.size) (by omega) (by omega) (by omega))
    clear NN
    replace B0 := B0.butP O9 (by omega) (by omega)
    replace o4 := o4.butP O9 (fun h => ⟨by have := Y4.out h; omega, by have := Y4.out h; omega⟩)
    replace o6 := o6.butP O9 (fun h => ⟨by omega, by omega⟩)
    clear O9
    have tk : decide ((1 + (X0.length : Int) + (Y0.length : Int) : Int) < 0) = false := by simp; omega
    go_wp2_with fail
    refine (eqByteS_same w9 _ _ _ _ _ _ rx o6.rd o4.rd lrx).mono ?_
    rintro e w10 ⟨rfl, n10⟩
    replace B0 := B0.up n10
    replace o4 := o4.up n10
    replace o6 := o6.up n10
    replace N := nxt N n10
    have zn10 := n10.size
    clear n10
    go_wp2_with fail
    refine (markByteS_any w10 _ _ _ rx 1 o6 lrx (by omega) (by omega)).mono ?_
    rintro e w11 ⟨rfl, oH, OH⟩
    have zzH := OH.size
    clear o6
    have NN := N.size
    replace N := N.trans (OH.below (B := w.heap.size) (by omega))
    clear NN
    replace B0 := B0.only OH (by omega)
    replace o4 := o4.only OH (fun h => by have := Y4.out h; omega)
    clear OH
    have t4 : decide ((1 : Int) + (rx.length : Int) < 0) = false := by simp; omega
    go_wp2_with fail
    refine (heldByteS_any w11 _ _ _ rx.length 1 oH.rd lrx (by omega) (by omega)).mono ?_
    rintro e w12 ⟨rfl, eW⟩
    subst eW
    have B00 := B0.c0
    have B01 := B0.c1
    go_wp2_with fail
    refine (toPoint_any w12 g0 g0' a0 a0' c0 c0' X0 Y0 (hX0.up N) (hY0.up N) (by omega) (by omega)).mono ?_
    rintro e w13 ⟨y0p, y0q, rfl, y0x, y0y, y01, y02, n13⟩
    clear B00 B01
    replace B0 := B0.up n13
    replace o4 := o4.up n13
    replace oH := oH.up n13
    replace N := nxt N n13
    have zn13 := n13.size
    clear n13
    have y03 := y0y.lt
    have y04 := y0x.lt
    go_wp2_with fail
    refine (IM w13 _ _ _ _ _ _ y0x.own0.rd y0y.own0.rd N).mono ?_
    rintro e w14 ⟨⟨i9a, i9c, i9g, rfl, o9, i9k1, i9k2, i9l⟩, n14⟩
    replace B0 := B0.up n14
    replace o4 := o4.up n14
    replace oH := oH.up n14
    replace y0x := y0x.up n14
    replace y0y := y0y.up n14
    replace N := nxt N n14
    have zn14 := n14.size
    clear n14
    clear i9k1 i9k2
    clear y0x y0y
    go_wp2_with fail
    refine (eqByteS_same w14 _ _ _ _ _ _ rx o9.rd o4.rd lrx).mono ?_
    rintro e w15 ⟨rfl, n15⟩
    replace B0 := B0.up n15
    replace o4 := o4.up n15
    replace oH := oH.up n15
    replace o9 := o9.up n15
    replace N := nxt N n15
    have zn15 := n15.size
    clear n15
    clear o9 o4
    go_wp2_with fail
    refine (heldByteS_any w15 _ _ _ rx.length 1 oH.rd lrx (by omega) (by omega)).mono ?_
    rintro e w16 ⟨rfl, eW⟩
    subst eW
    go_wp2
    go_ret
    exact ⟨rfl, N⟩
  · skip
    have SZ0 := fun W => szPoint_any W a0 a0' X0.length c0 Y0.length c0' ((1048576 : Int)) lX0 lY0 (by omega) (by omega)
    rw [if_pos (show ((1048576 : Int)) < (X0.length : Int) + (Y0.length : Int) by omega)] at SZ0
    go_enter Tryd.func5, Tryd.ntmps5
    go_upto_region 1 with fail
    have B0 := Two.new w (.slice a0 X0.length c0) (.slice a0' Y0.length c0') 24
    have nb0 : Below w.heap.size w (w.alloc (.cells #[.slice a0 X0.length c0, .slice a0' Y0.length c0'] 24)) := (Below.refl _ _).alloc (Nat.le_refl _) _
    have sb0 : (w.alloc (.cells #[.slice a0 X0.length c0, .slice a0' Y0.length c0'] 24)).heap.size = w.heap.size + 1 := by simp
    generalize w.alloc (.cells #[.slice a0 X0.length c0, .slice a0' Y0.length c0'] 24) = v0 at *
    have N := nb0
    have zv : w.heap.size + 1 ≤ v0.heap.size := by omega
    clear nb0 sb0
    have B00 := B0.c0
    have B01 := B0.c1
    go_wp2_with fail
    refine (SZ0 v0).mono ?_
    rintro e w1 ⟨rfl, n1⟩
    clear B00 B01
    replace B0 := B0.up n1
    replace N := nxt N n1
    have zn1 := n1.size
    clear n1
    go_wp2
    go_ret
    exact ⟨rfl, N⟩
end Go.Proofs.YtmhfjkhanlciiaaDoor
