import Derived.Test.YthapcapiiknjdaaDoorGB18
import Derived.Test.YthapcapiiknjdaaDoorGB15
import Derived.Test.YthapcapiiknjdaaDoorGB13
import Derived.Deep.DeepCutAuto

/-
  The model's l2Root, by facts.
-/
namespace Go.Proofs.YthapcapiiknjdaaDoor
set_option maxRecDepth 100000
open Go Go.RowKit

def rootB (A : Int) : Bool := decide (r1S (A % PP) * r1S (A % PP) % PP = A % PP)
def rootV (A : Int) : Int := if rootB A = true then fin2 (r1S (A % PP)) else 0
def rt0 (A : Int) : Int := A ^ eRt
def tw2 : Int := 2 ^ eI
theorem rt0_mod (A : Int) : rt0 A % PP = rtR (A % PP) := by
  unfold rt0 rtR
  exact pow_mod (Int.emod_emod_of_dvd _ (Int.dvd_refl _)).symm _
theorem tw2_mod : tw2 % PP = iM % PP := by
  unfold tw2
  rw [two_pow_i]
  decide
theorem rtR_mod5 (A : Int) : rtR A % PP = rtR A := Int.emod_emod_of_dvd _ (Int.dvd_refl _)
/-- With the first power, if its square is A. -/
theorem first_is {A : Int} (h : (rt0 A * rt0 A) % PP = A % PP) : rt0 A % PP = r1S (A % PP) % PP := by
  have e : rtR (A % PP) * rtR (A % PP) % PP = A % PP := by rw [← rt0_mod, ← Int.mul_emod]; exact h
  rw [r1S, if_pos e, rtR_mod5, rt0_mod]
theorem second_is {A : Int} (h : ¬ (rt0 A * rt0 A) % PP = A % PP) : (rt0 A * tw2) % PP = r1S (A % PP) % PP := by
  have e : ¬ rtR (A % PP) * rtR (A % PP) % PP = A % PP := by rw [← rt0_mod, ← Int.mul_emod]; exact h
  rw [r1S, if_neg e, Int.emod_emod_of_dvd _ (Int.dvd_refl _)]
  exact mod_mul (by rw [rt0_mod, rtR_mod5]) tw2_mod
theorem Elt.cg {W : World} {q o : Nat} {A B : Int} (h : Elt W q o A) (e : A % PP = B % PP) : Elt W q o B := by
  obtain ⟨t, r, l, L, V⟩ := h
  exact ⟨t, r, l, L, V.trans e⟩
theorem elt_new5 (W : World) (t : TypeId) {a : Nat → Int} {A : Int} (ha : L16 a ∧ s16 a 16 % PP = A % PP) : Elt (W.alloc (.cells (a16 a) t)) W.heap.size 0 A :=
  Elt.ofR (R16.ofBlk (blk16 W t a)) ha.1 ha.2
theorem results_two5 {fn : Func} {s p : Tmp} (h : fn.results = #[.tmp s, .cell p 52]) (tmps : Array Value) (w : World) (g : Nat) (cs : Array Value) (b : Bool)
    (hs : tmps.getD s undef = .bool b) (hp : tmps.getD p undef = .pointer (some ⟨g, 0, none⟩)) (hg : w.rangeAt g 0 cs.toList) (hi : (Tryd.prog.info? 52).map (·.size) = some cs.size) :
    (results fn tmps).run Tryd.prog w = .ok (.tuple #[.bool b, .agg cs]) w := by
  have hs' : tmps[s]?.getD undef = .bool b := by simpa using hs
  have hp' : tmps[p]?.getD undef = .pointer (some ⟨g, 0, none⟩) := by simpa using hp
  have hl := run_loadVar_mid (P := Tryd.prog) w g 0 52 cs.toList (.array 16 2) hg Go.Proofs.YthapcapiiknjdaaDoor.u50 rfl (by simpa using hi)
  simp [results, h, hs', hp', asAddr, hl]
theorem en_shift : enters Tryd.prog 124 = true := by kernel_rfl
theorem en_same : enters Tryd.prog 56 = true := by kernel_rfl
section
variable {ops : Array Oper} {Q : Exit → Act → World → Prop} {md : Region.Mode} {F : Nat → Fact} {a0 : Act} {w0 : World} {i : Nat} {o : Oper} {ts : Array TypeId}
theorem step_one8 (hi : ops[i]? = some o) (d : Int) (hop : o.op = .buildSlice 22 1 #[(0, .const (.int .u8 d))]) (hF : F i = RW (fun xs => xs = [d])) : StepOk Tryd.prog md ops Q F a0 w0 i := by
  refine step_grow hi fun a W _ _ _ => ⟨.slice (some ⟨W.heap.size, 0, none⟩) 1 1, W.alloc (.cells #[.int .u8 d] 5), ?_, (Below.refl _ _).alloc (Nat.le_refl _) _, by rw [hF]; exact ⟨[d], _, _, W.heap.size, rfl, Blk.own0 ⟨5, by rw [heap_alloc_last]; rfl⟩, rfl⟩⟩
  simp only [execOp, hop]
  go_simp
theorem step_sh252 (hi : ops[i]? = some o) (p j : Nat) (hop : o.op = .call { callee := .value (.func 124), args := #[.tmp p, .const (.int .i64 252)], argTypes := ts })
    (hj : waits md ops i j p = true) (hFj : F j = RW (fun xs => xs = [1])) (hFi : F i = RW (fun xs => Canon xs 7237005577332262213973186563042994240829374041602535252466099000494570602496)) : StepOk Tryd.prog md ops Q F a0 w0 i := by
  refine step_call hi _ _ ts hop en_shift fun a w _ _ hF => ?_
  have ea := hF j p hj
  rw [hFj] at ea
  obtain ⟨xs, b, c, g, e1, ow, rfl⟩ := ea
  obtain ⟨off, rfl, _⟩ := ow (by simp)
  show Calls Tryd.prog 124 #[a.tmps.getD p undef, .int .i64 252] w _
  rw [e1]
  refine (l1Shift252_any w g _ c [1] ow.rd (byt_one (by omega) (by omega)) (by simp) (by simp)).mono ?_
  rintro r w' ⟨ys, C, ⟨a', c', g', rfl, o', _, _, _⟩, n'⟩
  have e1 : bval [1] = 1 := by decide
  rw [e1, Int.one_mul] at C
  rw [hFi]
  exact ⟨_, rfl, n', ys, a', c', g', rfl, o', C⟩
theorem step_sh253 (hi : ops[i]? = some o) (p j : Nat) (hop : o.op = .call { callee := .value (.func 124), args := #[.tmp p, .const (.int .i64 253)], argTypes := ts })
    (hj : waits md ops i j p = true) (hFj : F j = RW (fun xs => xs = [1])) (hFi : F i = RW (fun xs => Canon xs 14474011154664524427946373126085988481658748083205070504932198000989141204992)) : StepOk Tryd.prog md ops Q F a0 w0 i := by
  refine step_call hi _ _ ts hop en_shift fun a w _ _ hF => ?_
  have ea := hF j p hj
  rw [hFj] at ea
  obtain ⟨xs, b, c, g, e1, ow, rfl⟩ := ea
  obtain ⟨off, rfl, _⟩ := ow (by simp)
  show Calls Tryd.prog 124 #[a.tmps.getD p undef, .int .i64 253] w _
  rw [e1]
  refine (l1Shift253_any w g _ c [1] ow.rd (byt_one (by omega) (by omega)) (by simp) (by simp)).mono ?_
  rintro r w' ⟨ys, C, ⟨a', c', g', rfl, o', _, _, _⟩, n'⟩
  have e1 : bval [1] = 1 := by decide
  rw [e1, Int.one_mul] at C
  rw [hFi]
  exact ⟨_, rfl, n', ys, a', c', g', rfl, o', C⟩
theorem step_l1sub (hi : ops[i]? = some o) (p q j k : Nat) (A d B : Int) (hA : A < 256 ^ 64) (hd : 0 ≤ d ∧ d < 256) (h1 : 0 < A ∧ d ≤ A) (hB : A - d = B) (hop : o.op = .call { callee := .value (.func 87), args := #[.tmp p, .tmp q], argTypes := ts })
    (hj : waits md ops i j p = true) (hk : waits md ops i k q = true) (hFj : F j = RW (fun xs => Canon xs A)) (hFk : F k = RW (fun xs => xs = [d])) (hFi : F i = RW (fun xs => Canon xs B)) : StepOk Tryd.prog md ops Q F a0 w0 i := by
  refine step_call hi _ _ ts hop en_l1Sub fun a W _ _ hF => ?_
  have ea := hF j p hj
  have eb := hF k q hk
  rw [hFj] at ea
  rw [hFk] at eb
  obtain ⟨xs, b, c, g, e1, o1, C⟩ := ea
  obtain ⟨ys, b', c', g', e2, o2, rfl⟩ := eb
  show Calls Tryd.prog 87 #[a.tmps.getD p undef, a.tmps.getD q undef] W _
  rw [e1, e2]
  have L : xs.length ≤ 64 := C.len hA
  have P1 : 1 ≤ xs.length := canon_ge1 C h1.1
  have E2 : bval [d] = d := by simp [bval]
  refine (l1Sub_any W g g' b b' c c' xs [d] o1.rd o2.rd C.1 (byt_one hd.1 hd.2) (by omega) (by simpa using P1) (by rw [C.2.1, E2]; exact h1.2)).mono ?_
  rintro r W' ⟨zs, D, ⟨a', c', g', rfl, o', _, _, _⟩, n'⟩
  rw [C.2.1, E2, hB] at D
  rw [hFi]
  exact ⟨_, rfl, n', zs, _, _, _, rfl, o', D⟩
theorem step_pow (hi : ops[i]? = some o) (p q j k : Nat) (A : Int) (e : Nat) (he : (e : Int) < 256 ^ 64) (hop : o.op = .call { callee := .value (.func 101), args := #[.tmp p, .tmp q], argTypes := ts })
    (hj : waits md ops i j p = true) (hk : waits md ops i k q = true) (hFj : F j = EL A) (hFk : F k = RW (fun xs => Canon xs (e : Int))) (hFi : F i = EL (A ^ e)) : StepOk Tryd.prog md ops Q F a0 w0 i := by
  refine step_call hi _ _ ts hop en_power fun a W _ _ hF => ?_
  have ea := hF j p hj
  have eb := hF k q hk
  rw [hFj] at ea
  rw [hFk] at eb
  obtain ⟨t, e1, L1, V1⟩ := ea
  obtain ⟨ys, b', c', g', e2, o2, C⟩ := eb
  show Calls Tryd.prog 101 #[a.tmps.getD p undef, a.tmps.getD q undef] W _
  rw [e1, e2]
  have L : ys.length ≤ 4096 := by
    have := C.len he
    omega
  refine (l2Power_any W t g' b' c' ys L1 o2.rd C.1 L).mono ?_
  rintro r W' ⟨u, rfl, LT, VT, n'⟩
  rw [hFi]
  refine ⟨_, rfl, n', u, rfl, LT, ?_⟩
  rw [VT, canon_nat C]
  exact pow_mod V1 _
theorem step_same (hi : ops[i]? = some o) (p q j k : Nat) (A B : Int) (hop : o.op = .call { callee := .value (.func 56), args := #[.tmp p, .tmp q], argTypes := ts })
    (hj : waits md ops i j p = true) (hk : waits md ops i k q = true) (hFj : F j = EL A) (hFk : F k = EL B) (hFi : F i = Fact.eq (.bool (decide (A % PP = B % PP)))) : StepOk Tryd.prog md ops Q F a0 w0 i := by
  refine step_call hi _ _ ts hop en_same fun a w _ _ hF => ?_
  have ea := hF j p hj
  have eb := hF k q hk
  rw [hFj] at ea
  rw [hFk] at eb
  obtain ⟨t, e1, L1, V1⟩ := ea
  obtain ⟨u, e2, L2, V2⟩ := eb
  show Calls Tryd.prog 56 #[a.tmps.getD p undef, a.tmps.getD q undef] w _
  rw [e1, e2]
  refine (l2Same_any w t u L1 L2).mono ?_
  rintro r w' ⟨rfl, hn⟩
  exact ⟨_, rfl, hn, by rw [hFi, V1, V2]; exact rfl⟩
theorem step_notb {P : Program} (hi : ops[i]? = some o) (p j : Nat) {b : Bool} {t : TypeId} (hop : o.op = .unOp .not t (.tmp p)) (hj : waits md ops i j p = true) (hFj : F j = Fact.eq (.bool b)) (hFi : F i = Fact.eq (.bool (!b))) : StepOk P md ops Q F a0 w0 i := by
  refine step_pure hi fun a w _ _ hf => ⟨.bool (!b), ?_, by rw [hFi]; exact rfl⟩
  have e := hf j p hj
  rw [hFj] at e
  have e' : a.eval (.tmp p) = .bool b := e
  simp only [execOp, hop, e']
  rfl
theorem step_const {P : Program} (hi : ops[i]? = some o) {v : Value} (hop : o.op = .move (.const v) ∨ o.op = .assign (.const v)) (hF : F i = Fact.eq v) : StepOk P md ops Q F a0 w0 i := by
  refine step_pure hi fun a w _ _ _ => ⟨v, ?_, by rw [hF]; exact rfl⟩
  rcases hop with h | h <;> simp [execOp, h, Act.eval]
end
section
variable {ops : Array Oper} {Q : Exit → Act → World → Prop} {a0 : Act} {w : World} {id : Nat} {draw : Bool}
theorem region_put16F (k jV pD pV : Nat) (o : Oper) (F : Nat → Fact) (A : Int) (q : Nat) (hT : textOk .any ops a0.tmps.size k = true) (hk : ops[k]? = some o) (hd : o.dst = none) (hop : o.op = .store 52 (.tmp pD) (.tmp pV))
    (hp : apart ops pD = true) (h0 : a0.tmps.getD pD undef = .pointer (some ⟨q, 0, none⟩)) (ht : w.there q 0 16) (wV : writes ops jV pV = true) (FV : F jV = EL A) (steps : ∀ i, i < k → StepOk Tryd.prog .any ops Q F a0 w i)
    (fin : ∀ (vs : Nat → Value) (W W' : World), Below w.heap.size w W → ButQ q w W' → Elt W' q 0 A → W'.there q 0 16 → (∀ (w1 : World) (B : Nat), Below B w1 W → B ≤ q → Below B w1 W') → (∀ i d, writes ops i d = true → ∃ Wp, (F i).p (vs d) Wp) → Q .normal (puts vs a0 ops.toList) W') :
    (Code.region id ops draw).wp Tryd.prog Q a0 w := by
  refine region_store k o F (by kernel_rfl) hT hk hd steps fun a W hb hw hF => ?_
  have h2 := hF jV pV wV
  rw [FV] at h2
  obtain ⟨t, ev, L, V⟩ := h2
  have th := there_up (by omega) ht hw
  refine wp_store_mid 52 (.tmp pD) (.tmp pV) hop q 0 (a16 t) ((based_at hb pD hp).trans h0) ev (by rw [a16_size]; exact th) (by rw [a16_size]; exact i50) (a16_one t) ?_
  obtain ⟨vs, hvs⟩ : ∃ vs : Nat → Value, ∀ d, a.tmps.getD d undef = vs d := ⟨_, fun _ => rfl⟩
  rw [hd]
  show Q .normal a _
  rw [puts_of hT rfl hb vs hvs]
  exact fin vs W _ hw (but_set hw _) (set_elt th L V) (World.there_setCells th _ _ _) (fun w1 B n hB => below_setCells hB _ _ _ n) (fun i d h => ⟨W, by rw [← hvs]; exact hF i d h⟩)
end

set_option maxHeartbeats 4000000 in
theorem l2RootF_any (w : World) (f : Nat → Int) (hf : L16 f) (A : Int) (hA : s16 f 16 % PP = A % PP) :
    Calls Tryd.prog 99 #[ag16 f] w fun r w' => ∃ t, r = .returned (.tuple #[.bool (rootB A), ag16 t]) ∧ L16 t ∧ s16 t 16 % PP = rootV A % PP ∧ Below w.heap.size w w' := by
  show Calls Tryd.prog 99 #[.agg (a16 f)] w _
  have H1 := elt_new5 w 52 ⟨hf, hA⟩
  have m1 : Below w.heap.size w (w.alloc (.cells (a16 f) 52)) := (Below.refl _ _).alloc (Nat.le_refl _) _
  have s1 : (w.alloc (.cells (a16 f) 52)).heap.size = w.heap.size + 1 := by simp
  obtain ⟨V1, hV1⟩ : ∃ V, V = a16 f := ⟨_, rfl⟩
  rw [← hV1] at H1 m1 s1 ⊢
  clear hV1 hf hA
  go_enter Tryd.func99, Tryd.ntmps99
  go_upto_region 1 with fail
  generalize w.alloc (.cells V1 52) = wa at *
  change Code.wp _ _ _ _ (wa.alloc zObj)
  have TR : (wa.alloc zObj).there wa.heap.size 0 16 := there_new wa _ _
  have m2 : Below wa.heap.size wa (wa.alloc zObj) := (Below.refl _ _).alloc (Nat.le_refl _) _
  rw [s1] at TR
  have EA := H1.up m2
  have N := nxt m1 m2
  clear H1 m1 m2 s1
  generalize wa.alloc zObj = wr at *
  have zr := there_lt (by omega) TR
  refine region_new16 7 6 5 4 10 _ (fun i => [EL (A), RW (fun xs => xs = [1]), RW (fun xs => Canon xs 7237005577332262213973186563042994240829374041602535252466099000494570602496), RW (fun xs => xs = [2]), RW (fun xs => Canon xs (eRt : Int)), EL (rt0 A), NB wr 16].getD i Fact.no) (rt0 A) (by kernel_rfl) rfl rfl rfl (by kernel_rfl) (by kernel_rfl) rfl rfl ?_ ?_
  · intro i hi
    obtain rfl | rfl | rfl | rfl | rfl | rfl | rfl : i = 0 ∨ i = 1 ∨ i = 2 ∨ i = 3 ∨ i = 4 ∨ i = 5 ∨ i = 6 := by omega
    · exact step_el rfl 52 1 rfl Go.Proofs.YthapcapiiknjdaaDoor.u50 i50 (by kernel_rfl) _ _ rfl _ EA rfl
    · exact step_one8 rfl 1 rfl rfl
    · exact step_sh252 rfl 6 1 rfl (by kernel_rfl) rfl rfl
    · exact step_one8 rfl 2 rfl rfl
    · exact step_l1sub rfl 7 8 2 3 _ 2 _ (by decide) (by decide) (by decide) (by decide) rfl (by kernel_rfl) (by kernel_rfl) rfl rfl rfl
    · exact step_pow rfl 5 9 0 4 _ eRt (by decide) rfl (by kernel_rfl) (by kernel_rfl) rfl rfl rfl
    · exact step_new16 rfl rfl rfl
  intro vs1 q4 W1 v4 h4 n1 E4 T4
  replace EA := EA.up n1
  replace TR := there_up (by omega) TR n1
  replace N := nxt N n1
  clear n1
  simp only [puts, v4, Act.put, List.setIfInBounds_toArray, List.set_cons_succ, List.set_cons_zero]
  clear v4
  have ne1 : w.heap.size ≠ q4 := by omega
  have ne2 : w.heap.size + 1 ≠ q4 := by omega
  go_upto_region 2 with fail
  refine region_end 6 (fun i => [EL (rt0 A), EL (rt0 A), EL ((rt0 A) * (rt0 A)), EL (A), Fact.eq (.bool (decide (((rt0 A) * (rt0 A)) % PP = (A) % PP))), Fact.eq (.bool (!decide (((rt0 A) * (rt0 A)) % PP = (A) % PP)))].getD i Fact.no) (by kernel_rfl) (by kernel_rfl) rfl ?_ ?_
  · intro i hi
    obtain rfl | rfl | rfl | rfl | rfl | rfl : i = 0 ∨ i = 1 ∨ i = 2 ∨ i = 3 ∨ i = 4 ∨ i = 5 := by omega
    · exact step_el rfl 52 4 rfl Go.Proofs.YthapcapiiknjdaaDoor.u50 i50 (by kernel_rfl) _ _ rfl _ E4 rfl
    · exact step_el rfl 52 4 rfl Go.Proofs.YthapcapiiknjdaaDoor.u50 i50 (by kernel_rfl) _ _ rfl _ E4 rfl
    · exact step_mul rfl 11 12 0 1 _ _ rfl (by kernel_rfl) (by kernel_rfl) rfl rfl rfl
    · exact step_el rfl 52 1 rfl Go.Proofs.YthapcapiiknjdaaDoor.u50 i50 (by kernel_rfl) _ _ rfl _ EA rfl
    · exact step_same rfl 13 14 2 3 _ _ rfl (by kernel_rfl) (by kernel_rfl) rfl rfl rfl
    · exact step_notb rfl 15 4 rfl (by kernel_rfl) rfl rfl
  intro aa2 W2 hb hw hF
  have ev := hF 5 16 (by kernel_rfl)
  obtain ⟨vs2, hvs⟩ : ∃ vs : Nat → Value, ∀ d, aa2.tmps.getD d undef = vs d := ⟨_, fun _ => rfl⟩
  rw [hvs] at ev
  rw [puts_of (md := .any) (k := 6) (by kernel_rfl) rfl hb vs2 hvs]
  replace EA := EA.up hw
  replace E4 := E4.up hw
  replace T4 := there_up (by omega) T4 hw
  replace TR := there_up (by omega) TR hw
  replace N := nxt N hw
  clear hb hF hvs hw
  change vs2 16 = .bool (!decide ((rt0 A * rt0 A) % PP = A % PP)) at ev
  simp only [puts, ev, Act.put, List.setIfInBounds_toArray, List.set_cons_succ, List.set_cons_zero]
  clear ev
  go_upto_if 16 with fail
  go_cut [4] (fun v wc => v = .pointer (some ⟨q4, 0, none⟩) ∧ Elt wc q4 0 (r1S (A % PP)) ∧ wc.there q4 0 16 ∧ Elt wc w.heap.size 0 A ∧ wc.there (w.heap.size + 1) 0 16 ∧ Below w.heap.size w wc)
  case first =>
    by_cases hq : (rt0 A * rt0 A) % PP = A % PP
    · rw [decide_eq_true hq]
      replace E4 := E4.cg (first_is hq)
      clear hq
      go_wp2_with fail
      go_meet
      exact ⟨rfl, E4, T4, EA, TR, N⟩
    · rw [decide_eq_false hq]
      have HQ := hide (second_is hq)
      clear hq
      go_upto_region 3 with fail
      refine region_put16 8 7 4 24 _ (fun i => [EL (rt0 A), EL 2, RW (fun xs => xs = [1]), RW (fun xs => Canon xs 14474011154664524427946373126085988481658748083205070504932198000989141204992), RW (fun xs => xs = [5]), RW (fun xs => Canon xs (eI : Int)), EL tw2, EL ((rt0 A) * (tw2))].getD i Fact.no) ((rt0 A) * (tw2)) _ (by kernel_rfl) rfl rfl rfl (by kernel_rfl) rfl T4 (by kernel_rfl) rfl ?_ ?_
      · intro i hi
        obtain rfl | rfl | rfl | rfl | rfl | rfl | rfl | rfl : i = 0 ∨ i = 1 ∨ i = 2 ∨ i = 3 ∨ i = 4 ∨ i = 5 ∨ i = 6 ∨ i = 7 := by omega
        · exact step_el rfl 52 4 rfl Go.Proofs.YthapcapiiknjdaaDoor.u50 i50 (by kernel_rfl) _ _ rfl _ E4 rfl
        · exact step_small rfl 2 (by omega) rfl rfl
        · exact step_one8 rfl 1 rfl rfl
        · exact step_sh253 rfl 19 2 rfl (by kernel_rfl) rfl rfl
        · exact step_one8 rfl 5 rfl rfl
        · exact step_l1sub rfl 20 21 3 4 _ 5 _ (by decide) (by decide) (by decide) (by decide) rfl (by kernel_rfl) (by kernel_rfl) rfl rfl rfl
        · exact step_pow rfl 18 22 1 5 2 eI (by decide) rfl (by kernel_rfl) (by kernel_rfl) rfl rfl rfl
        · exact step_mul rfl 17 23 0 6 _ _ rfl (by kernel_rfl) (by kernel_rfl) rfl rfl rfl
      intro vs3 Wa W3 na bq E4n T4n nb
      replace N := nb w w.heap.size (nxt N na) (by omega)
      replace EA := EA.but bq ne1
      replace TR := there_but (by omega) TR bq ne2
      replace E4n := E4n.cg HQ.out
      clear na bq nb E4 T4
      simp only [puts, Act.put, List.setIfInBounds_toArray, List.set_cons_succ, List.set_cons_zero]
      go_wp2_with fail
      go_meet
      exact ⟨rfl, E4n, T4n, EA, TR, N⟩
  case rest =>
    clear E4 T4 EA TR N
    obtain ⟨rfl, E4, T4, EA, TR, N⟩ := hcut
    obtain ⟨r1, hr1⟩ : ∃ r, r = r1S (A % PP) := ⟨_, rfl⟩
    rw [← hr1] at E4
    have HR := hide hr1
    have rb := hide (show 0 ≤ r1 ∧ r1 < PP by rw [hr1]; exact r1S_bd _)
    clear hr1
    go_upto_region 4 with fail
    refine region_end 6 (fun i => [EL (r1), EL (r1), EL ((r1) * (r1)), EL (A), Fact.eq (.bool (decide (((r1) * (r1)) % PP = (A) % PP))), Fact.eq (.bool (!decide (((r1) * (r1)) % PP = (A) % PP)))].getD i Fact.no) (by kernel_rfl) (by kernel_rfl) rfl ?_ ?_
    · intro i hi
      obtain rfl | rfl | rfl | rfl | rfl | rfl : i = 0 ∨ i = 1 ∨ i = 2 ∨ i = 3 ∨ i = 4 ∨ i = 5 := by omega
      · exact step_el rfl 52 4 rfl Go.Proofs.YthapcapiiknjdaaDoor.u50 i50 (by kernel_rfl) _ _ rfl _ E4 rfl
      · exact step_el rfl 52 4 rfl Go.Proofs.YthapcapiiknjdaaDoor.u50 i50 (by kernel_rfl) _ _ rfl _ E4 rfl
      · exact step_mul rfl 25 26 0 1 _ _ rfl (by kernel_rfl) (by kernel_rfl) rfl rfl rfl
      · exact step_el rfl 52 1 rfl Go.Proofs.YthapcapiiknjdaaDoor.u50 i50 (by kernel_rfl) _ _ rfl _ EA rfl
      · exact step_same rfl 27 28 2 3 _ _ rfl (by kernel_rfl) (by kernel_rfl) rfl rfl rfl
      · exact step_notb rfl 29 4 rfl (by kernel_rfl) rfl rfl
    intro aa4 W4 hb hw hF
    have ev := hF 5 30 (by kernel_rfl)
    obtain ⟨vs4, hvs⟩ : ∃ vs : Nat → Value, ∀ d, aa4.tmps.getD d undef = vs d := ⟨_, fun _ => rfl⟩
    rw [hvs] at ev
    rw [puts_of (md := .any) (k := 6) (by kernel_rfl) rfl hb vs4 hvs]
    replace EA := EA.up hw
    replace E4 := E4.up hw
    replace T4 := there_up (by omega) T4 hw
    replace TR := there_up (by omega) TR hw
    replace N := nxt N hw
    clear hb hF hvs hw
    change vs4 30 = .bool (!decide ((r1 * r1) % PP = A % PP)) at ev
    simp only [puts, ev, Act.put, List.setIfInBounds_toArray, List.set_cons_succ, List.set_cons_zero]
    clear ev
    by_cases hq : (r1 * r1) % PP = A % PP
    · have HB : Hid (rootB A = true) := by show _ = _; unfold rootB; rw [← HR.out]; exact decide_eq_true hq
      rw [decide_eq_true hq]
      clear hq
      have HV : Hid (rootV A = fin2 r1) := by show _ = _; rw [rootV, if_pos HB.out, ← HR.out]
      obtain ⟨u, rg, lq, LU, VU⟩ := id E4
      have BY := l2Bytes_any W4 u LU
      rw [VU, Int.emod_eq_of_lt rb.out.1 rb.out.2] at BY
      have y0 : (fill (byt r1) 32).getD 0 0 = r1 % 256 := by rw [fill_get _ _ _ (by omega)]; unfold byt; rw [Int.pow_zero, Int.ediv_one]
      have yl := hide (fill_len (byt r1) 32)
      have ybd : 0 ≤ r1 % 256 ∧ r1 % 256 < 256 := by omega
      have e1 := and1u8 _ ybd.1 ybd.2
      have e2 : r1 % 256 % 2 = r1 % 2 := by omega
      have yp : (0 : Int) < ((fill (byt r1) 32).length : Int) := by rw [fill_len]; omega
      generalize fill (byt r1) 32 = ys at *
      go_wp2_with (refine wpList_load_mid rfl 52 (.tmp 4) rfl q4 0 rfl (a16 u).toList (.array 16 2) rg Go.Proofs.YthapcapiiknjdaaDoor.u50 rfl (by rw [a16_len]; exact i50) ?_)
      refine BY.mono ?_
      rintro r wd ⟨⟨aB, cB, gB, rfl, oB, pB, qB, rB⟩, nB⟩
      obtain ⟨off, rfl, hc⟩ := oB (by omega)
      have c0 := (hc 0 (by omega)).1
      rw [y0, Nat.add_zero] at c0
      replace EA := EA.up nB
      replace E4 := E4.up nB
      replace T4 := there_up (by omega) T4 nB
      replace TR := there_up (by omega) TR nB
      replace N := nxt N nB
      clear BY oB pB qB rB nB hc rg lq LU VU y0
      by_cases hev : r1 % 2 = 0
      · have hv : Hid (fin2 r1 = r1) := by show _ = _; rw [fin2, if_pos hev]
        have tb : (r1 % 256 % 2 == 1) = false := by simp; omega
        clear hev
        go_upto_region 8 with fail
        refine region_put16F 2 0 3 41 _ (fun i => [EL (r1), Fact.eq (.bool true)].getD i Fact.no) (r1) _ (by kernel_rfl) rfl rfl rfl (by kernel_rfl) rfl TR (by kernel_rfl) rfl ?_ ?_
        · intro i hi
          obtain rfl | rfl : i = 0 ∨ i = 1 := by omega
          · exact step_el rfl 52 4 rfl Go.Proofs.YthapcapiiknjdaaDoor.u50 i50 (by kernel_rfl) _ _ rfl _ E4 rfl
          · exact step_const rfl (Or.inr rfl) rfl
        intro vs8 Wa W8 na bq E3n T3n nb hF
        obtain ⟨_, v2⟩ := hF 1 2 (by kernel_rfl)
        clear hF
        change vs8 2 = .bool true at v2
        have NS := nb w w.heap.size (nxt N na) (by omega)
        simp only [puts, v2, Act.put, List.setIfInBounds_toArray, List.set_cons_succ, List.set_cons_zero]
        clear EA E4 T4 TR N v2
        obtain ⟨t, rg, _, L, V⟩ := E3n
        clear bq nb na T3n
        go_wp2
        exact bodyPost_ret (v := .tuple #[.bool true, .agg (a16 t)]) (results_two5 Tryd.results99 _ _ (w.heap.size + 1) (a16 t) true rfl rfl rg (by rw [a16_size]; exact i50)) rfl ⟨t, by rw [HB.out]; rfl, L, by rw [V]; exact (by rw [HV.out, hv.out]), NS⟩
      · have hv : Hid (fin2 r1 % PP = (0 - r1) % PP) := by show _ = _; rw [fin2, if_neg hev, Int.emod_emod_of_dvd _ (Int.dvd_refl _)]
        have tb : (r1 % 256 % 2 == 1) = true := by simp; omega
        clear hev
        go_upto_region 7 with fail
        refine region_put16 3 2 4 40 _ (fun i => [EL 0, EL (r1), EL ((0) - (r1))].getD i Fact.no) ((0) - (r1)) _ (by kernel_rfl) rfl rfl rfl (by kernel_rfl) rfl T4 (by kernel_rfl) rfl ?_ ?_
        · intro i hi
          obtain rfl | rfl | rfl : i = 0 ∨ i = 1 ∨ i = 2 := by omega
          · exact step_small rfl 0 (by omega) rfl rfl
          · exact step_el rfl 52 4 rfl Go.Proofs.YthapcapiiknjdaaDoor.u50 i50 (by kernel_rfl) _ _ rfl _ E4 rfl
          · exact step_sub rfl 38 39 0 1 _ _ rfl (by kernel_rfl) (by kernel_rfl) rfl rfl rfl
        intro vs7 Wa W7 na bq E4n T4n nb
        replace N := nb w w.heap.size (nxt N na) (by omega)
        replace TR := there_but (by omega) TR bq ne2
        replace E4 := E4n
        clear na bq nb T4 EA T4n E4n
        simp only [puts, Act.put, List.setIfInBounds_toArray, List.set_cons_succ, List.set_cons_zero]
        go_upto_region 8 with fail
        refine region_put16F 2 0 3 41 _ (fun i => [EL ((0) - (r1)), Fact.eq (.bool true)].getD i Fact.no) ((0) - (r1)) _ (by kernel_rfl) rfl rfl rfl (by kernel_rfl) rfl TR (by kernel_rfl) rfl ?_ ?_
        · intro i hi
          obtain rfl | rfl : i = 0 ∨ i = 1 := by omega
          · exact step_el rfl 52 4 rfl Go.Proofs.YthapcapiiknjdaaDoor.u50 i50 (by kernel_rfl) _ _ rfl _ E4 rfl
          · exact step_const rfl (Or.inr rfl) rfl
        intro vs8 Wb W8 na bq E3n T3n nb hF
        obtain ⟨_, v2⟩ := hF 1 2 (by kernel_rfl)
        clear hF
        change vs8 2 = .bool true at v2
        have NS := nb w w.heap.size (nxt N na) (by omega)
        simp only [puts, v2, Act.put, List.setIfInBounds_toArray, List.set_cons_succ, List.set_cons_zero]
        clear E4 TR N v2
        obtain ⟨t, rg, _, L, V⟩ := E3n
        clear bq nb na T3n
        go_wp2
        exact bodyPost_ret (v := .tuple #[.bool true, .agg (a16 t)]) (results_two5 Tryd.results99 _ _ (w.heap.size + 1) (a16 t) true rfl rfl rg (by rw [a16_size]; exact i50)) rfl ⟨t, by rw [HB.out]; rfl, L, by rw [V]; exact (by rw [HV.out]; exact hv.out.symm), NS⟩

    · have HB : Hid (rootB A = false) := by show _ = _; unfold rootB; rw [← HR.out]; exact decide_eq_false hq
      rw [decide_eq_false hq]
      clear hq
      go_upto_region 5 with fail
      refine region_put16F 2 0 3 31 _ (fun i => [EL 0, Fact.eq (.bool false)].getD i Fact.no) (0) _ (by kernel_rfl) rfl rfl rfl (by kernel_rfl) rfl TR (by kernel_rfl) rfl ?_ ?_
      · intro i hi
        obtain rfl | rfl : i = 0 ∨ i = 1 := by omega
        · exact step_small rfl 0 (by omega) rfl rfl
        · exact step_const rfl (Or.inr rfl) rfl
      intro vs5 Wa W5 na bq E3n T3n nb hF
      obtain ⟨_, v2⟩ := hF 1 2 (by kernel_rfl)
      clear hF
      change vs5 2 = .bool false at v2
      have NS := nb w w.heap.size (nxt N na) (by omega)
      simp only [puts, v2, Act.put, List.setIfInBounds_toArray, List.set_cons_succ, List.set_cons_zero]
      clear EA E4 T4 TR N v2
      obtain ⟨t, rg, _, L, V⟩ := E3n
      clear bq nb na T3n
      go_wp2
      exact bodyPost_ret (v := .tuple #[.bool false, .agg (a16 t)]) (results_two5 Tryd.results99 _ _ (w.heap.size + 1) (a16 t) false rfl rfl rg (by rw [a16_size]; exact i50)) rfl ⟨t, by rw [HB.out]; rfl, L, by rw [V]; exact (by rw [rootV, if_neg (by rw [HB.out]; simp)]), NS⟩
end Go.Proofs.YthapcapiiknjdaaDoor
