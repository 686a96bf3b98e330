import Derived.Test.YteedfhljbdnmnaaGreatDoorGT39
import Derived.Test.YteedfhljbdnmnaaGreatDoorGT38
import Derived.Test.YteedfhljbdnmnaaGreatDoorGT35
import Derived.Deep.DeepCutAuto
import Derived.Test.YteedfhljbdnmnaaGreatDoorGT41
import Derived.Test.YteedfhljbdnmnaaGreatDoorGT24
import Derived.Test.YteedfhljbdnmnaaGreatDoorGT31
import Derived.Test.YteedfhljbdnmnaaGreatDoorGT2
import Derived.Test.YteedfhljbdnmnaaGreatDoorGT3
import Derived.Laws.AppendOwnNone
import Derived.Deep.MidRow
import Derived.Test.YteedfhljbdnmnaaGreatDoorGT4
import Derived.Test.YteedfhljbdnmnaaGreatDoorGT5
import Derived.Test.YteedfhljbdnmnaaGreatDoorGT36
namespace Go.Proofs.YteedfhljbdnmnaaGreatDoor
set_option maxRecDepth 100000
open Go Go.RowKit
def rootB (A : Int) : Bool := decide (r1S (A % PP) * r1S (A % PP) % PP = A % PP)
def rootV (A : Int) : Int := if rootB A = true then fin2 (r1S (A % PP)) else 0
def rt0 (A : Int) : Int := A ^ eRt
def tw2 : Int := 2 ^ eI
theorem rt0_mod (A : Int) : rt0 A % PP = rtR (A % PP) := by
  unfold rt0 rtR
  exact pow_mod (Int.emod_emod_of_dvd _ (Int.dvd_refl _)).symm _
theorem tw2_mod : tw2 % PP = iM % PP := by
  unfold tw2
  rw [two_pow_i]
  decide
theorem rtR_mod5 (A : Int) : rtR A % PP = rtR A := Int.emod_emod_of_dvd _ (Int.dvd_refl _)
theorem first_is {A : Int} (h : (rt0 A * rt0 A) % PP = A % PP) : rt0 A % PP = r1S (A % PP) % PP := by
  have e : rtR (A % PP) * rtR (A % PP) % PP = A % PP := by rw [← rt0_mod, ← Int.mul_emod]; exact h
  rw [r1S, if_pos e, rtR_mod5, rt0_mod]
theorem second_is {A : Int} (h : ¬ (rt0 A * rt0 A) % PP = A % PP) : (rt0 A * tw2) % PP = r1S (A % PP) % PP := by
  have e : ¬ rtR (A % PP) * rtR (A % PP) % PP = A % PP := by rw [← rt0_mod, ← Int.mul_emod]; exact h
  rw [r1S, if_neg e, Int.emod_emod_of_dvd _ (Int.dvd_refl _)]
  exact mod_mul (by rw [rt0_mod, rtR_mod5]) tw2_mod
theorem Elt.cg {W : World} {q o : Nat} {A B : Int} (h : Elt W q o A) (e : A % PP = B % PP) : Elt W q o B := by
  obtain ⟨t, r, l, L, V⟩ := h
  exact ⟨t, r, l, L, V.trans e⟩
theorem elt_new5 (W : World) (t : TypeId) {a : Nat → Int} {A : Int} (ha : L16 a ∧ s16 a 16 % PP = A % PP) : Elt (W.alloc (.cells (a16 a) t)) W.heap.size 0 A :=
  Elt.ofR (R16.ofBlk (blk16 W t a)) ha.1 ha.2
theorem results_two5 {fn : Func} {s p : Tmp} (h : fn.results = #[.tmp s, .cell p 131]) (tmps : Array Value) (w : World) (g : Nat) (cs : Array Value) (b : Bool)
    (hs : tmps.getD s undef = .bool b) (hp : tmps.getD p undef = .pointer (some ⟨g, 0, none⟩)) (hg : w.rangeAt g 0 cs.toList) (hi : (Tryz.prog.info? 131).map (·.size) = some cs.size) :
    (results fn tmps).run Tryz.prog w = .ok (.tuple #[.bool b, .agg cs]) w := by
  have hs' : tmps[s]?.getD undef = .bool b := by simpa using hs
  have hp' : tmps[p]?.getD undef = .pointer (some ⟨g, 0, none⟩) := by simpa using hp
  have hl := run_loadVar_mid (P := Tryz.prog) w g 0 131 cs.toList (.array 16 2) hg Go.Proofs.YteedfhljbdnmnaaGreatDoor.u50 rfl (by simpa using hi)
  simp [results, h, hs', hp', asAddr, hl]
theorem en_shift : enters Tryz.prog 83 = true := by kernel_rfl
theorem en_same : enters Tryz.prog 138 = true := by kernel_rfl
section
variable {ops : Array Oper} {Q : Exit → Act → World → Prop} {md : Region.Mode} {F : Nat → Fact} {a0 : Act} {w0 : World} {i : Nat} {o : Oper} {ts : Array TypeId}
theorem step_one8 (hi : ops[i]? = some o) (d : Int) (hop : o.op = .buildSlice 22 1 #[(0, .const (.int .u8 d))]) (hF : F i = RW (fun xs => xs = [d])) : StepOk Tryz.prog md ops Q F a0 w0 i := by
  refine step_grow hi fun a W _ _ _ => ⟨.slice (some ⟨W.heap.size, 0, none⟩) 1 1, W.alloc (.cells #[.int .u8 d] 5), ?_, (Below.refl _ _).alloc (Nat.le_refl _) _, by rw [hF]; exact ⟨[d], _, _, W.heap.size, rfl, Blk.own0 ⟨5, by rw [heap_alloc_last]; rfl⟩, rfl⟩⟩
  simp only [execOp, hop]
  go_simp
theorem step_sh252 (hi : ops[i]? = some o) (p j : Nat) (hop : o.op = .call { callee := .value (.func 83), args := #[.tmp p, .const (.int .i64 252)], argTypes := ts })
    (hj : waits md ops i j p = true) (hFj : F j = RW (fun xs => xs = [1])) (hFi : F i = RW (fun xs => Canon xs 7237005577332262213973186563042994240829374041602535252466099000494570602496)) : StepOk Tryz.prog md ops Q F a0 w0 i := by
  refine step_call hi _ _ ts hop en_shift fun a w _ _ hF => ?_
  have ea := hF j p hj
  rw [hFj] at ea
  obtain ⟨xs, b, c, g, e1, ow, rfl⟩ := ea
  obtain ⟨off, rfl, _⟩ := ow (by simp)
  show Calls Tryz.prog 83 #[a.tmps.getD p undef, .int .i64 252] w _
  rw [e1]
  refine (l1Shift252_any w g _ c [1] ow.rd (byt_one (by omega) (by omega)) (by simp) (by simp)).mono ?_
  rintro r w' ⟨ys, C, ⟨a', c', g', rfl, o', _, _, _⟩, n'⟩
  have e1 : bval [1] = 1 := by decide
  rw [e1, Int.one_mul] at C
  rw [hFi]
  exact ⟨_, rfl, n', ys, a', c', g', rfl, o', C⟩
theorem step_sh253 (hi : ops[i]? = some o) (p j : Nat) (hop : o.op = .call { callee := .value (.func 83), args := #[.tmp p, .const (.int .i64 253)], argTypes := ts })
    (hj : waits md ops i j p = true) (hFj : F j = RW (fun xs => xs = [1])) (hFi : F i = RW (fun xs => Canon xs 14474011154664524427946373126085988481658748083205070504932198000989141204992)) : StepOk Tryz.prog md ops Q F a0 w0 i := by
  refine step_call hi _ _ ts hop en_shift fun a w _ _ hF => ?_
  have ea := hF j p hj
  rw [hFj] at ea
  obtain ⟨xs, b, c, g, e1, ow, rfl⟩ := ea
  obtain ⟨off, rfl, _⟩ := ow (by simp)
  show Calls Tryz.prog 83 #[a.tmps.getD p undef, .int .i64 253] w _
  rw [e1]
  refine (l1Shift253_any w g _ c [1] ow.rd (byt_one (by omega) (by omega)) (by simp) (by simp)).mono ?_
  rintro r w' ⟨ys, C, ⟨a', c', g', rfl, o', _, _, _⟩, n'⟩
  have e1 : bval [1] = 1 := by decide
  rw [e1, Int.one_mul] at C
  rw [hFi]
  exact ⟨_, rfl, n', ys, a', c', g', rfl, o', C⟩
theorem step_l1sub (hi : ops[i]? = some o) (p q j k : Nat) (A d B : Int) (hA : A < 256 ^ 64) (hd : 0 ≤ d ∧ d < 256) (h1 : 0 < A ∧ d ≤ A) (hB : A - d = B) (hop : o.op = .call { callee := .value (.func 80), args := #[.tmp p, .tmp q], argTypes := ts })
    (hj : waits md ops i j p = true) (hk : waits md ops i k q = true) (hFj : F j = RW (fun xs => Canon xs A)) (hFk : F k = RW (fun xs => xs = [d])) (hFi : F i = RW (fun xs => Canon xs B)) : StepOk Tryz.prog md ops Q F a0 w0 i := by
  refine step_call hi _ _ ts hop en_l1Sub fun a W _ _ hF => ?_
  have ea := hF j p hj
  have eb := hF k q hk
  rw [hFj] at ea
  rw [hFk] at eb
  obtain ⟨xs, b, c, g, e1, o1, C⟩ := ea
  obtain ⟨ys, b', c', g', e2, o2, rfl⟩ := eb
  show Calls Tryz.prog 80 #[a.tmps.getD p undef, a.tmps.getD q undef] W _
  rw [e1, e2]
  have L : xs.length ≤ 64 := C.len hA
  have P1 : 1 ≤ xs.length := canon_ge1 C h1.1
  have E2 : bval [d] = d := by simp [bval]
  refine (l1Sub_any W g g' b b' c c' xs [d] o1.rd o2.rd C.1 (byt_one hd.1 hd.2) (by omega) (by simpa using P1) (by rw [C.2.1, E2]; exact h1.2)).mono ?_
  rintro r W' ⟨zs, D, ⟨a', c', g', rfl, o', _, _, _⟩, n'⟩
  rw [C.2.1, E2, hB] at D
  rw [hFi]
  exact ⟨_, rfl, n', zs, _, _, _, rfl, o', D⟩
theorem step_pow (hi : ops[i]? = some o) (p q j k : Nat) (A : Int) (e : Nat) (he : (e : Int) < 256 ^ 64) (hop : o.op = .call { callee := .value (.func 141), args := #[.tmp p, .tmp q], argTypes := ts })
    (hj : waits md ops i j p = true) (hk : waits md ops i k q = true) (hFj : F j = EL A) (hFk : F k = RW (fun xs => Canon xs (e : Int))) (hFi : F i = EL (A ^ e)) : StepOk Tryz.prog md ops Q F a0 w0 i := by
  refine step_call hi _ _ ts hop en_power fun a W _ _ hF => ?_
  have ea := hF j p hj
  have eb := hF k q hk
  rw [hFj] at ea
  rw [hFk] at eb
  obtain ⟨t, e1, L1, V1⟩ := ea
  obtain ⟨ys, b', c', g', e2, o2, C⟩ := eb
  show Calls Tryz.prog 141 #[a.tmps.getD p undef, a.tmps.getD q undef] W _
  rw [e1, e2]
  have L : ys.length ≤ 4096 := by
    have := C.len he
    omega
  refine (l2Power_any W t g' b' c' ys L1 o2.rd C.1 L).mono ?_
  rintro r W' ⟨u, rfl, LT, VT, n'⟩
  rw [hFi]
  refine ⟨_, rfl, n', u, rfl, LT, ?_⟩
  rw [VT, canon_nat C]
  exact pow_mod V1 _
theorem step_same (hi : ops[i]? = some o) (p q j k : Nat) (A B : Int) (hop : o.op = .call { callee := .value (.func 138), args := #[.tmp p, .tmp q], argTypes := ts })
    (hj : waits md ops i j p = true) (hk : waits md ops i k q = true) (hFj : F j = EL A) (hFk : F k = EL B) (hFi : F i = Fact.eq (.bool (decide (A % PP = B % PP)))) : StepOk Tryz.prog md ops Q F a0 w0 i := by
  refine step_call hi _ _ ts hop en_same fun a w _ _ hF => ?_
  have ea := hF j p hj
  have eb := hF k q hk
  rw [hFj] at ea
  rw [hFk] at eb
  obtain ⟨t, e1, L1, V1⟩ := ea
  obtain ⟨u, e2, L2, V2⟩ := eb
  show Calls Tryz.prog 138 #[a.tmps.getD p undef, a.tmps.getD q undef] w _
  rw [e1, e2]
  refine (l2Same_any w t u L1 L2).mono ?_
  rintro r w' ⟨rfl, hn⟩
  exact ⟨_, rfl, hn, by rw [hFi, V1, V2]; exact rfl⟩
theorem step_notb {P : Program} (hi : ops[i]? = some o) (p j : Nat) {b : Bool} {t : TypeId} (hop : o.op = .unOp .not t (.tmp p)) (hj : waits md ops i j p = true) (hFj : F j = Fact.eq (.bool b)) (hFi : F i = Fact.eq (.bool (!b))) : StepOk P md ops Q F a0 w0 i := by
  refine step_pure hi fun a w _ _ hf => ⟨.bool (!b), ?_, by rw [hFi]; exact rfl⟩
  have e := hf j p hj
  rw [hFj] at e
  have e' : a.eval (.tmp p) = .bool b := e
  simp only [execOp, hop, e']
  rfl
theorem step_const {P : Program} (hi : ops[i]? = some o) {v : Value} (hop : o.op = .move (.const v) ∨ o.op = .assign (.const v)) (hF : F i = Fact.eq v) : StepOk P md ops Q F a0 w0 i := by
  refine step_pure hi fun a w _ _ _ => ⟨v, ?_, by rw [hF]; exact rfl⟩
  rcases hop with h | h <;> simp [execOp, h, Act.eval]
end
section
variable {ops : Array Oper} {Q : Exit → Act → World → Prop} {a0 : Act} {w : World} {id : Nat} {draw : Bool}
theorem region_put16F (k jV pD pV : Nat) (o : Oper) (F : Nat → Fact) (A : Int) (q : Nat) (hT : textOk .any ops a0.tmps.size k = true) (hk : ops[k]? = some o) (hd : o.dst = none) (hop : o.op = .store 131 (.tmp pD) (.tmp pV))
    (hp : apart ops pD = true) (h0 : a0.tmps.getD pD undef = .pointer (some ⟨q, 0, none⟩)) (ht : w.there q 0 16) (wV : writes ops jV pV = true) (FV : F jV = EL A) (steps : ∀ i, i < k → StepOk Tryz.prog .any ops Q F a0 w i)
    (fin : ∀ (vs : Nat → Value) (W W' : World), Below w.heap.size w W → ButQ q w W' → Elt W' q 0 A → W'.there q 0 16 → (∀ (w1 : World) (B : Nat), Below B w1 W → B ≤ q → Below B w1 W') → (∀ i d, writes ops i d = true → ∃ Wp, (F i).p (vs d) Wp) → Q .normal (puts vs a0 ops.toList) W') :
    (Code.region id ops draw).wp Tryz.prog Q a0 w := by
  refine region_store k o F (by kernel_rfl) hT hk hd steps fun a W hb hw hF => ?_
  have h2 := hF jV pV wV
  rw [FV] at h2
  obtain ⟨t, ev, L, V⟩ := h2
  have th := there_up (by omega) ht hw
  refine wp_store_mid 131 (.tmp pD) (.tmp pV) hop q 0 (a16 t) ((based_at hb pD hp).trans h0) ev (by rw [a16_size]; exact th) (by rw [a16_size]; exact i50) (a16_one t) ?_
  obtain ⟨vs, hvs⟩ : ∃ vs : Nat → Value, ∀ d, a.tmps.getD d undef = vs d := ⟨_, fun _ => rfl⟩
  rw [hd]
  show Q .normal a _
  rw [puts_of hT rfl hb vs hvs]
  exact fin vs W _ hw (but_set hw _) (set_elt th L V) (World.there_setCells th _ _ _) (fun w1 B n hB => below_setCells hB _ _ _ n) (fun i d h => ⟨W, by rw [← hvs]; exact hF i d h⟩)
end
set_option maxHeartbeats 4000000 in
theorem l2RootF_any (w : World) (f : Nat → Int) (hf : L16 f) (A : Int) (hA : s16 f 16 % PP = A % PP) :
    Calls Tryz.prog 124 #[ag16 f] w fun r w' => ∃ t, r = .returned (.tuple #[.bool (rootB A), ag16 t]) ∧ L16 t ∧ s16 t 16 % PP = rootV A % PP ∧ Below w.heap.size w w' := by
  show Calls Tryz.prog 124 #[.agg (a16 f)] w _
  have H1 := elt_new5 w 131 ⟨hf, hA⟩
  have m1 : Below w.heap.size w (w.alloc (.cells (a16 f) 131)) := (Below.refl _ _).alloc (Nat.le_refl _) _
  have s1 : (w.alloc (.cells (a16 f) 131)).heap.size = w.heap.size + 1 := by simp
  obtain ⟨V1, hV1⟩ : ∃ V, V = a16 f := ⟨_, rfl⟩
  rw [← hV1] at H1 m1 s1 ⊢
  clear hV1 hf hA
  go_enter Tryz.func124, Tryz.ntmps124
  go_upto_region 1 with fail
  generalize w.alloc (.cells V1 131) = wa at *
  change Code.wp _ _ _ _ (wa.alloc zObj)
  have TR : (wa.alloc zObj).there wa.heap.size 0 16 := there_new wa _ _
  have m2 : Below wa.heap.size wa (wa.alloc zObj) := (Below.refl _ _).alloc (Nat.le_refl _) _
  rw [s1] at TR
  have EA := H1.up m2
  have N := nxt m1 m2
  clear H1 m1 m2 s1
  generalize wa.alloc zObj = wr at *
  have zr := there_lt (by omega) TR
  refine region_new16 7 6 5 4 10 _ (fun i => [EL (A), RW (fun xs => xs = [1]), RW (fun xs => Canon xs 7237005577332262213973186563042994240829374041602535252466099000494570602496), RW (fun xs => xs = [2]), RW (fun xs => Canon xs (eRt : Int)), EL (rt0 A), NB wr 16].getD i Fact.no) (rt0 A) (by kernel_rfl) rfl rfl rfl (by kernel_rfl) (by kernel_rfl) rfl rfl ?_ ?_
  · intro i hi
    obtain rfl | rfl | rfl | rfl | rfl | rfl | rfl : i = 0 ∨ i = 1 ∨ i = 2 ∨ i = 3 ∨ i = 4 ∨ i = 5 ∨ i = 6 := by omega
    · exact step_el rfl 131 1 rfl Go.Proofs.YteedfhljbdnmnaaGreatDoor.u50 i50 (by kernel_rfl) _ _ rfl _ EA rfl
    · exact step_one8 rfl 1 rfl rfl
    · exact step_sh252 rfl 6 1 rfl (by kernel_rfl) rfl rfl
    · exact step_one8 rfl 2 rfl rfl
    · exact step_l1sub rfl 7 8 2 3 _ 2 _ (by decide) (by decide) (by decide) (by decide) rfl (by kernel_rfl) (by kernel_rfl) rfl rfl rfl
    · exact step_pow rfl 5 9 0 4 _ eRt (by decide) rfl (by kernel_rfl) (by kernel_rfl) rfl rfl rfl
    · exact step_new16 rfl rfl rfl
  intro vs1 q4 W1 v4 h4 n1 E4 T4
  replace EA := EA.up n1
  replace TR := there_up (by omega) TR n1
  replace N := nxt N n1
  clear n1
  simp only [puts, v4, Act.put, List.setIfInBounds_toArray, List.set_cons_succ, List.set_cons_zero]
  clear v4
  have ne1 : w.heap.size ≠ q4 := by omega
  have ne2 : w.heap.size + 1 ≠ q4 := by omega
  go_upto_region 2 with fail
  refine region_end 6 (fun i => [EL (rt0 A), EL (rt0 A), EL ((rt0 A) * (rt0 A)), EL (A), Fact.eq (.bool (decide (((rt0 A) * (rt0 A)) % PP = (A) % PP))), Fact.eq (.bool (!decide (((rt0 A) * (rt0 A)) % PP = (A) % PP)))].getD i Fact.no) (by kernel_rfl) (by kernel_rfl) rfl ?_ ?_
  · intro i hi
    obtain rfl | rfl | rfl | rfl | rfl | rfl : i = 0 ∨ i = 1 ∨ i = 2 ∨ i = 3 ∨ i = 4 ∨ i = 5 := by omega
    · exact step_el rfl 131 4 rfl Go.Proofs.YteedfhljbdnmnaaGreatDoor.u50 i50 (by kernel_rfl) _ _ rfl _ E4 rfl
    · exact step_el rfl 131 4 rfl Go.Proofs.YteedfhljbdnmnaaGreatDoor.u50 i50 (by kernel_rfl) _ _ rfl _ E4 rfl
    · exact step_mul rfl 11 12 0 1 _ _ rfl (by kernel_rfl) (by kernel_rfl) rfl rfl rfl
    · exact step_el rfl 131 1 rfl Go.Proofs.YteedfhljbdnmnaaGreatDoor.u50 i50 (by kernel_rfl) _ _ rfl _ EA rfl
    · exact step_same rfl 13 14 2 3 _ _ rfl (by kernel_rfl) (by kernel_rfl) rfl rfl rfl
    · exact step_notb rfl 15 4 rfl (by kernel_rfl) rfl rfl
  intro aa2 W2 hb hw hF
  have ev := hF 5 16 (by kernel_rfl)
  obtain ⟨vs2, hvs⟩ : ∃ vs : Nat → Value, ∀ d, aa2.tmps.getD d undef = vs d := ⟨_, fun _ => rfl⟩
  rw [hvs] at ev
  rw [puts_of (md := .any) (k := 6) (by kernel_rfl) rfl hb vs2 hvs]
  replace EA := EA.up hw
  replace E4 := E4.up hw
  replace T4 := there_up (by omega) T4 hw
  replace TR := there_up (by omega) TR hw
  replace N := nxt N hw
  clear hb hF hvs hw
  change vs2 16 = .bool (!decide ((rt0 A * rt0 A) % PP = A % PP)) at ev
  simp only [puts, ev, Act.put, List.setIfInBounds_toArray, List.set_cons_succ, List.set_cons_zero]
  clear ev
  go_upto_if 16 with fail
  go_cut [4] (fun v wc => v = .pointer (some ⟨q4, 0, none⟩) ∧ Elt wc q4 0 (r1S (A % PP)) ∧ wc.there q4 0 16 ∧ Elt wc w.heap.size 0 A ∧ wc.there (w.heap.size + 1) 0 16 ∧ Below w.heap.size w wc)
  case first =>
    by_cases hq : (rt0 A * rt0 A) % PP = A % PP
    · rw [decide_eq_true hq]
      replace E4 := E4.cg (first_is hq)
      clear hq
      go_wp2_with fail
      go_meet
      exact ⟨rfl, E4, T4, EA, TR, N⟩
    · rw [decide_eq_false hq]
      have HQ := hide (second_is hq)
      clear hq
      go_upto_region 3 with fail
      refine region_put16 8 7 4 24 _ (fun i => [EL (rt0 A), EL 2, RW (fun xs => xs = [1]), RW (fun xs => Canon xs 14474011154664524427946373126085988481658748083205070504932198000989141204992), RW (fun xs => xs = [5]), RW (fun xs => Canon xs (eI : Int)), EL tw2, EL ((rt0 A) * (tw2))].getD i Fact.no) ((rt0 A) * (tw2)) _ (by kernel_rfl) rfl rfl rfl (by kernel_rfl) rfl T4 (by kernel_rfl) rfl ?_ ?_
      · intro i hi
        obtain rfl | rfl | rfl | rfl | rfl | rfl | rfl | rfl : i = 0 ∨ i = 1 ∨ i = 2 ∨ i = 3 ∨ i = 4 ∨ i = 5 ∨ i = 6 ∨ i = 7 := by omega
        · exact step_el rfl 131 4 rfl Go.Proofs.YteedfhljbdnmnaaGreatDoor.u50 i50 (by kernel_rfl) _ _ rfl _ E4 rfl
        · exact step_small rfl 2 (by omega) rfl rfl
        · exact step_one8 rfl 1 rfl rfl
        · exact step_sh253 rfl 19 2 rfl (by kernel_rfl) rfl rfl
        · exact step_one8 rfl 5 rfl rfl
        · exact step_l1sub rfl 20 21 3 4 _ 5 _ (by decide) (by decide) (by decide) (by decide) rfl (by kernel_rfl) (by kernel_rfl) rfl rfl rfl
        · exact step_pow rfl 18 22 1 5 2 eI (by decide) rfl (by kernel_rfl) (by kernel_rfl) rfl rfl rfl
        · exact step_mul rfl 17 23 0 6 _ _ rfl (by kernel_rfl) (by kernel_rfl) rfl rfl rfl
      intro vs3 Wa W3 na bq E4n T4n nb
      replace N := nb w w.heap.size (nxt N na) (by omega)
      replace EA := EA.but bq ne1
      replace TR := there_but (by omega) TR bq ne2
      replace E4n := E4n.cg HQ.out
      clear na bq nb E4 T4
      simp only [puts, Act.put, List.setIfInBounds_toArray, List.set_cons_succ, List.set_cons_zero]
      go_wp2_with fail
      go_meet
      exact ⟨rfl, E4n, T4n, EA, TR, N⟩
  case rest =>
    clear E4 T4 EA TR N
    obtain ⟨rfl, E4, T4, EA, TR, N⟩ := hcut
    obtain ⟨r1, hr1⟩ : ∃ r, r = r1S (A % PP) := ⟨_, rfl⟩
    rw [← hr1] at E4
    have HR := hide hr1
    have rb := hide (show 0 ≤ r1 ∧ r1 < PP by rw [hr1]; exact r1S_bd _)
    clear hr1
    go_upto_region 4 with fail
    refine region_end 6 (fun i => [EL (r1), EL (r1), EL ((r1) * (r1)), EL (A), Fact.eq (.bool (decide (((r1) * (r1)) % PP = (A) % PP))), Fact.eq (.bool (!decide (((r1) * (r1)) % PP = (A) % PP)))].getD i Fact.no) (by kernel_rfl) (by kernel_rfl) rfl ?_ ?_
    · intro i hi
      obtain rfl | rfl | rfl | rfl | rfl | rfl : i = 0 ∨ i = 1 ∨ i = 2 ∨ i = 3 ∨ i = 4 ∨ i = 5 := by omega
      · exact step_el rfl 131 4 rfl Go.Proofs.YteedfhljbdnmnaaGreatDoor.u50 i50 (by kernel_rfl) _ _ rfl _ E4 rfl
      · exact step_el rfl 131 4 rfl Go.Proofs.YteedfhljbdnmnaaGreatDoor.u50 i50 (by kernel_rfl) _ _ rfl _ E4 rfl
      · exact step_mul rfl 25 26 0 1 _ _ rfl (by kernel_rfl) (by kernel_rfl) rfl rfl rfl
      · exact step_el rfl 131 1 rfl Go.Proofs.YteedfhljbdnmnaaGreatDoor.u50 i50 (by kernel_rfl) _ _ rfl _ EA rfl
      · exact step_same rfl 27 28 2 3 _ _ rfl (by kernel_rfl) (by kernel_rfl) rfl rfl rfl
      · exact step_notb rfl 29 4 rfl (by kernel_rfl) rfl rfl
    intro aa4 W4 hb hw hF
    have ev := hF 5 30 (by kernel_rfl)
    obtain ⟨vs4, hvs⟩ : ∃ vs : Nat → Value, ∀ d, aa4.tmps.getD d undef = vs d := ⟨_, fun _ => rfl⟩
    rw [hvs] at ev
    rw [puts_of (md := .any) (k := 6) (by kernel_rfl) rfl hb vs4 hvs]
    replace EA := EA.up hw
    replace E4 := E4.up hw
    replace T4 := there_up (by omega) T4 hw
    replace TR := there_up (by omega) TR hw
    replace N := nxt N hw
    clear hb hF hvs hw
    change vs4 30 = .bool (!decide ((r1 * r1) % PP = A % PP)) at ev
    simp only [puts, ev, Act.put, List.setIfInBounds_toArray, List.set_cons_succ, List.set_cons_zero]
    clear ev
    by_cases hq : (r1 * r1) % PP = A % PP
    · have HB : Hid (rootB A = true) := by show _ = _; unfold rootB; rw [← HR.out]; exact decide_eq_true hq
      rw [decide_eq_true hq]
      clear hq
      have HV : Hid (rootV A = fin2 r1) := by show _ = _; rw [rootV, if_pos HB.out, ← HR.out]
      obtain ⟨u, rg, lq, LU, VU⟩ := id E4
      have BY := l2Bytes_any W4 u LU
      rw [VU, Int.emod_eq_of_lt rb.out.1 rb.out.2] at BY
      have y0 : (fill (byt r1) 32).getD 0 0 = r1 % 256 := by rw [fill_get _ _ _ (by omega)]; unfold byt; rw [Int.pow_zero, Int.ediv_one]
      have yl := hide (fill_len (byt r1) 32)
      have ybd : 0 ≤ r1 % 256 ∧ r1 % 256 < 256 := by omega
      have e1 := and1u8 _ ybd.1 ybd.2
      have e2 : r1 % 256 % 2 = r1 % 2 := by omega
      have yp : (0 : Int) < ((fill (byt r1) 32).length : Int) := by rw [fill_len]; omega
      generalize fill (byt r1) 32 = ys at *
      go_wp2_with (refine wpList_load_mid rfl 131 (.tmp 4) rfl q4 0 rfl (a16 u).toList (.array 16 2) rg Go.Proofs.YteedfhljbdnmnaaGreatDoor.u50 rfl (by rw [a16_len]; exact i50) ?_)
      refine BY.mono ?_
      rintro r wd ⟨⟨aB, cB, gB, rfl, oB, pB, qB, rB⟩, nB⟩
      obtain ⟨off, rfl, hc⟩ := oB (by omega)
      have c0 := (hc 0 (by omega)).1
      rw [y0, Nat.add_zero] at c0
      replace EA := EA.up nB
      replace E4 := E4.up nB
      replace T4 := there_up (by omega) T4 nB
      replace TR := there_up (by omega) TR nB
      replace N := nxt N nB
      clear BY oB pB qB rB nB hc rg lq LU VU y0
      by_cases hev : r1 % 2 = 0
      · have hv : Hid (fin2 r1 = r1) := by show _ = _; rw [fin2, if_pos hev]
        have tb : (r1 % 256 % 2 == 1) = false := by simp; omega
        clear hev
        go_upto_region 8 with fail
        refine region_put16F 2 0 3 41 _ (fun i => [EL (r1), Fact.eq (.bool true)].getD i Fact.no) (r1) _ (by kernel_rfl) rfl rfl rfl (by kernel_rfl) rfl TR (by kernel_rfl) rfl ?_ ?_
        · intro i hi
          obtain rfl | rfl : i = 0 ∨ i = 1 := by omega
          · exact step_el rfl 131 4 rfl Go.Proofs.YteedfhljbdnmnaaGreatDoor.u50 i50 (by kernel_rfl) _ _ rfl _ E4 rfl
          · exact step_const rfl (Or.inr rfl) rfl
        intro vs8 Wa W8 na bq E3n T3n nb hF
        obtain ⟨_, v2⟩ := hF 1 2 (by kernel_rfl)
        clear hF
        change vs8 2 = .bool true at v2
        have NS := nb w w.heap.size (nxt N na) (by omega)
        simp only [puts, v2, Act.put, List.setIfInBounds_toArray, List.set_cons_succ, List.set_cons_zero]
        clear EA E4 T4 TR N v2
        obtain ⟨t, rg, _, L, V⟩ := E3n
        clear bq nb na T3n
        go_wp2
        exact bodyPost_ret (v := .tuple #[.bool true, .agg (a16 t)]) (results_two5 Tryz.results124 _ _ (w.heap.size + 1) (a16 t) true rfl rfl rg (by rw [a16_size]; exact i50)) rfl ⟨t, by rw [HB.out]; rfl, L, by rw [V]; exact (by rw [HV.out, hv.out]), NS⟩
      · have hv : Hid (fin2 r1 % PP = (0 - r1) % PP) := by show _ = _; rw [fin2, if_neg hev, Int.emod_emod_of_dvd _ (Int.dvd_refl _)]
        have tb : (r1 % 256 % 2 == 1) = true := by simp; omega
        clear hev
        go_upto_region 7 with fail
        refine region_put16 3 2 4 40 _ (fun i => [EL 0, EL (r1), EL ((0) - (r1))].getD i Fact.no) ((0) - (r1)) _ (by kernel_rfl) rfl rfl rfl (by kernel_rfl) rfl T4 (by kernel_rfl) rfl ?_ ?_
        · intro i hi
          obtain rfl | rfl | rfl : i = 0 ∨ i = 1 ∨ i = 2 := by omega
          · exact step_small rfl 0 (by omega) rfl rfl
          · exact step_el rfl 131 4 rfl Go.Proofs.YteedfhljbdnmnaaGreatDoor.u50 i50 (by kernel_rfl) _ _ rfl _ E4 rfl
          · exact step_sub rfl 38 39 0 1 _ _ rfl (by kernel_rfl) (by kernel_rfl) rfl rfl rfl
        intro vs7 Wa W7 na bq E4n T4n nb
        replace N := nb w w.heap.size (nxt N na) (by omega)
        replace TR := there_but (by omega) TR bq ne2
        replace E4 := E4n
        clear na bq nb T4 EA T4n E4n
        simp only [puts, Act.put, List.setIfInBounds_toArray, List.set_cons_succ, List.set_cons_zero]
        go_upto_region 8 with fail
        refine region_put16F 2 0 3 41 _ (fun i => [EL ((0) - (r1)), Fact.eq (.bool true)].getD i Fact.no) ((0) - (r1)) _ (by kernel_rfl) rfl rfl rfl (by kernel_rfl) rfl TR (by kernel_rfl) rfl ?_ ?_
        · intro i hi
          obtain rfl | rfl : i = 0 ∨ i = 1 := by omega
          · exact step_el rfl 131 4 rfl Go.Proofs.YteedfhljbdnmnaaGreatDoor.u50 i50 (by kernel_rfl) _ _ rfl _ E4 rfl
          · exact step_const rfl (Or.inr rfl) rfl
        intro vs8 Wb W8 na bq E3n T3n nb hF
        obtain ⟨_, v2⟩ := hF 1 2 (by kernel_rfl)
        clear hF
        change vs8 2 = .bool true at v2
        have NS := nb w w.heap.size (nxt N na) (by omega)
        simp only [puts, v2, Act.put, List.setIfInBounds_toArray, List.set_cons_succ, List.set_cons_zero]
        clear E4 TR N v2
        obtain ⟨t, rg, _, L, V⟩ := E3n
        clear bq nb na T3n
        go_wp2
        exact bodyPost_ret (v := .tuple #[.bool true, .agg (a16 t)]) (results_two5 Tryz.results124 _ _ (w.heap.size + 1) (a16 t) true rfl rfl rg (by rw [a16_size]; exact i50)) rfl ⟨t, by rw [HB.out]; rfl, L, by rw [V]; exact (by rw [HV.out]; exact hv.out.symm), NS⟩
    · have HB : Hid (rootB A = false) := by show _ = _; unfold rootB; rw [← HR.out]; exact decide_eq_false hq
      rw [decide_eq_false hq]
      clear hq
      go_upto_region 5 with fail
      refine region_put16F 2 0 3 31 _ (fun i => [EL 0, Fact.eq (.bool false)].getD i Fact.no) (0) _ (by kernel_rfl) rfl rfl rfl (by kernel_rfl) rfl TR (by kernel_rfl) rfl ?_ ?_
      · intro i hi
        obtain rfl | rfl : i = 0 ∨ i = 1 := by omega
        · exact step_small rfl 0 (by omega) rfl rfl
        · exact step_const rfl (Or.inr rfl) rfl
      intro vs5 Wa W5 na bq E3n T3n nb hF
      obtain ⟨_, v2⟩ := hF 1 2 (by kernel_rfl)
      clear hF
      change vs5 2 = .bool false at v2
      have NS := nb w w.heap.size (nxt N na) (by omega)
      simp only [puts, v2, Act.put, List.setIfInBounds_toArray, List.set_cons_succ, List.set_cons_zero]
      clear EA E4 T4 TR N v2
      obtain ⟨t, rg, _, L, V⟩ := E3n
      clear bq nb na T3n
      go_wp2
      exact bodyPost_ret (v := .tuple #[.bool false, .agg (a16 t)]) (results_two5 Tryz.results124 _ _ (w.heap.size + 1) (a16 t) false rfl rfl rg (by rw [a16_size]; exact i50)) rfl ⟨t, by rw [HB.out]; rfl, L, by rw [V]; exact (by rw [rootV, if_neg (by rw [HB.out]; simp)]), NS⟩
end Go.Proofs.YteedfhljbdnmnaaGreatDoor
namespace Go.Proofs.YteedfhljbdnmnaaGreatDoor
set_option maxRecDepth 100000
open Go Go.RowKit
theorem sg_neg (x y : Int) : decide (sg x y < 0) = decide (x < y) := by
  unfold sg
  by_cases h : x < y
  · rw [if_pos h]; simp [h]
  · rw [if_neg h]
    by_cases h2 : y < x
    · rw [if_pos h2, decide_eq_false h]; rfl
    · rw [if_neg h2, decide_eq_false h]; rfl
set_option maxHeartbeats 2000000 in
theorem specFieldCanonical_any (w : World) (g : Nat) (a : Option Addr) (c : Nat) (xs : List Int) (hr : Rd w g a .u8 xs) (hb : Byt xs) :
    Calls Tryz.prog 137 #[.slice a xs.length c] w fun e w' => e = .returned (.bool (canN xs)) ∧ Below w.heap.size w w' := by
  by_cases hl : xs.length = 32
  · have R1 := l2Num_any w g a c xs hr hb (by omega)
    have K : canN xs = decide (num xs < PP) := by simp [canN, hl]
    have hK := hide K
    have hl' : (xs.length : Int) = 32 := by omega
    have hL := hide hl
    clear K
    rw [hl] at R1 ⊢
    clear hl hl'
    go_enter Tryz.func137, Tryz.ntmps137
    go_wp2_with fail
    refine R1.mono ?_
    rintro e w1 ⟨ys, C, l1, ⟨a1, c1, g1, rfl, o1, p1, p2, p3⟩, n1⟩
    go_wp2_with fail
    refine (l2Prime_any w1).mono ?_
    rintro e w2 ⟨rfl, B2, n2⟩
    go_wp2_with fail
    refine (l1Cmp_any w2 g1 _ a1 _ c1 32 ys pbytes (o1.up n2).rd B2.own0.rd C.1 pbytes_byt (by omega) (by decide)).mono ?_
    rintro e w3 ⟨rfl, rfl⟩
    have N := nxt n1 n2
    have Q : Hid (decide (sg (bval ys) (bval pbytes) < 0) = canN xs) := by
      show _ = _
      have hv := C.2.1
      have e32 : num xs = lsum (fun j => xs.getD j 0) 32 := by unfold num; rw [hL.out]
      rw [hK.out, pbytes_val, hv, e32, sg_neg]
    generalize sg (bval ys) (bval pbytes) = s at *
    clear R1 C B2 n1 n2 o1 p1 p2 p3 l1
    go_wp2
    go_ret
    exact ⟨by rw [← Q.out]; rfl, N⟩
  · have K : canN xs = false := by simp [canN, hl]
    have hK := hide K
    have t : ((xs.length : Int) == 32) = false := by simp; omega
    clear K hl
    go_enter Tryz.func137, Tryz.ntmps137
    go_wp2
    go_ret
    exact ⟨by rw [hK.out]; rfl, Below.refl _ _⟩
theorem fxP (q : Nat) (w : World) : (Instr.fieldAt 107 (.pointer (some ⟨q, 0, none⟩)) 0).run Tryz.prog w = .ok (.pointer (some ⟨q, 0, none⟩)) w := by kernel_rfl
theorem fyP (q : Nat) (w : World) : (Instr.fieldAt 107 (.pointer (some ⟨q, 0, none⟩)) 1).run Tryz.prog w = .ok (.pointer (some ⟨q, 1, none⟩)) w := by kernel_rfl
def OfOk (W : World) (a : Option Addr) (xs : List Int) : Prop := ∃ g, Rd W g a .u8 xs ∧ Byt xs ∧ xs.length = 32
theorem of_ok {W : World} {g : Nat} {a : Option Addr} {xs : List Int} (h : Rd W g a .u8 xs) (b : Byt xs) (l : xs.length = 32) : OfOk W a xs := ⟨g, h, b, l⟩
section
variable {ops : Array Oper} {Q : Exit → Act → World → Prop} {md : Region.Mode} {F : Nat → Fact} {a0 : Act} {w0 : World} {i : Nat} {o : Oper} {ts : Array TypeId}
theorem step_move {P : Program} (hi : ops[i]? = some o) (p j : Nat) (hop : o.op = .move (.tmp p) ∨ o.op = .assign (.tmp p)) (hj : waits md ops i j p = true) (hF : F i = F j) : StepOk P md ops Q F a0 w0 i := by
  refine step_pure hi fun a w _ _ hf => ⟨a.eval (.tmp p), ?_, by rw [hF]; exact hf j p hj⟩
  rcases hop with h | h <;> simp [execOp, h]
theorem step_lds (hi : ops[i]? = some o) (p j : Nat) (hop : o.op = .load 22 (.tmp p)) (hj : waits md ops i j p = true) (q off : Nat) (hFj : F j = Fact.eq (.pointer (some ⟨q, off, none⟩))) (a : Option Addr) (n c : Nat)
    (hc : w0.cell? ⟨q, off, none⟩ = some (.slice a n c)) (hF : F i = Fact.eq (.slice a n c)) : StepOk Tryz.prog md ops Q F a0 w0 i := by
  refine step_pure hi fun b w _ hw hf => ⟨_, ?_, by rw [hF]; exact rfl⟩
  have e := hf j p hj
  rw [hFj] at e
  have e' : b.eval (.tmp p) = .pointer (some ⟨q, off, none⟩) := e
  have hc' : w.cell? ⟨q, off, none⟩ = some (.slice a n c) := (hw.cell (block_lt_of_cell hc)).trans hc
  simp only [execOp, hop, e']
  go_simp
theorem step_of (hi : ops[i]? = some o) (p j : Nat) {a : Option Addr} {c : Nat} {xs : List Int} (hop : o.op = .call { callee := .value (.func 116), args := #[.tmp p], argTypes := ts })
    (hj : waits md ops i j p = true) (hO : OfOk w0 a xs) (hFj : F j = Fact.eq (.slice a xs.length c)) (hFi : F i = EL (num xs)) : StepOk Tryz.prog md ops Q F a0 w0 i := by
  obtain ⟨g, hr, hb, hl⟩ := hO
  refine step_call hi _ _ ts hop en_of fun A w _ hw hF => ?_
  have ea := hF j p hj
  rw [hFj] at ea
  have e1 : A.tmps.getD p undef = .slice a 32 c := by rw [← hl]; exact ea
  show Calls Tryz.prog 116 #[A.tmps.getD p undef] w _
  rw [e1]
  refine (l2Of_any w g a c xs (hr.up hw) hb hl).mono ?_
  rintro r w' ⟨rfl, hn⟩
  rw [hFi]
  exact ⟨_, rfl, hn, _, rfl, of16_ok (fun j => hb j), by rw [of16_val, num, hl]⟩
end
theorem two_cells (w : World) (u v : Value) (t : TypeId) : (w.alloc (.cells #[u, v] t)).cell? ⟨w.heap.size, 0, none⟩ = some u ∧ (w.alloc (.cells #[u, v] t)).cell? ⟨w.heap.size, 1, none⟩ = some v := by
  have e : (w.alloc (.cells #[u, v] t)).heap[w.heap.size]? = some (.cells #[u, v] t) := heap_alloc_last _ _
  constructor <;> (unfold World.cell?; simp only; rw [e]; rfl)
theorem can_len {xs : List Int} (h : canN xs = true) : xs.length = 32 := by
  unfold canN at h
  simp at h
  exact h.1
def validN (x y : Int) : Bool := decide ((y * y - x * x) % PP = (1 + dE * (x * x * (y * y))) % PP)
def validP (xs ys : List Int) : Bool := canN xs && canN ys && validN (num xs) (num ys)
set_option maxHeartbeats 2000000 in
theorem pointValid_any (w : World) (g g' : Nat) (a a' : Option Addr) (c c' : Nat) (xs ys : List Int) (hx : Rd w g a .u8 xs) (hy : Rd w g' a' .u8 ys) (bx : Byt xs) (by' : Byt ys) :
    Calls Tryz.prog 115 #[.agg #[.slice a xs.length c, .slice a' ys.length c']] w fun r w' => r = .returned (.bool (validP xs ys)) ∧ Below w.heap.size w w' := by
  have T := two_cells w (.slice a xs.length c) (.slice a' ys.length c') 107
  have N : Below w.heap.size w (w.alloc (.cells #[.slice a xs.length c, .slice a' ys.length c'] 107)) := (Below.refl _ _).alloc (Nat.le_refl _) _
  obtain ⟨CX, CY⟩ := T
  have CN := fun W h => specFieldCanonical_any W g a c xs h bx
  have CM := fun W h => specFieldCanonical_any W g' a' c' ys h by'
  go_enter Tryz.func115, Tryz.ntmps115
  go_upto_region 1 with fail
  generalize w.alloc (.cells #[.slice a xs.length c, .slice a' ys.length c'] 107) = wa at *
  have RX := hx.up N
  have RY := hy.up N
  clear hx hy
  cases hkx : canN xs with
  | false =>
    have VP : validP xs ys = false := by unfold validP; rw [hkx]; rfl
    replace VP := hide VP
    simp only [hkx] at CN
    go_wp2_with fail
    refine (CN wa RX).mono ?_
    rintro e w1 ⟨rfl, n1⟩
    have N1 := nxt N n1
    clear CN CM
    go_wp2
    go_ret
    exact ⟨by rw [VP.out]; rfl, N1⟩
  | true =>
    simp only [hkx] at CN
    go_wp2_with fail
    refine (CN wa RX).mono ?_
    rintro e w1 ⟨rfl, n1⟩
    replace CX := (n1.cell (block_lt_of_cell CX)).trans CX
    replace CY := (n1.cell (block_lt_of_cell CY)).trans CY
    replace RX := RX.up n1
    replace RY := RY.up n1
    replace N := nxt N n1
    clear n1 CN
    cases hky : canN ys with
    | false =>
      have VP : validP xs ys = false := by unfold validP; rw [hkx, hky]; rfl
      replace VP := hide VP
      simp only [hky] at CM
      go_wp2_with fail
      refine (CM w1 RY).mono ?_
      rintro e w2 ⟨rfl, n2⟩
      have N1 := nxt N n2
      clear CM
      go_wp2
      go_ret
      exact ⟨by rw [VP.out]; rfl, N1⟩
    | true =>
      have VP : validP xs ys = validN (num xs) (num ys) := by unfold validP; rw [hkx, hky]; rfl
      replace VP := hide VP
      have LX := hide (can_len hkx)
      have LY := hide (can_len hky)
      clear hkx
      simp only [hky] at CM
      go_wp2_with fail
      refine (CM w1 RY).mono ?_
      rintro e wr ⟨rfl, n2⟩
      replace CX := (n2.cell (block_lt_of_cell CX)).trans CX
      replace CY := (n2.cell (block_lt_of_cell CY)).trans CY
      replace RX := RX.up n2
      replace RY := RY.up n2
      replace N := nxt N n2
      have OX := hide (of_ok RX bx LX.out)
      have OY := hide (of_ok RY by' LY.out)
      clear CM n2 hky
      go_upto_region 3 with fail
      refine region_new16 4 3 2 3 19 _ (fun i => [Fact.eq (.pointer (some ⟨w.heap.size, 0, none⟩)), Fact.eq (.slice a xs.length c), EL (num xs), NB wr 16].getD i Fact.no) (num xs) (by kernel_rfl) rfl rfl rfl (by kernel_rfl) (by kernel_rfl) rfl rfl ?_ ?_
      · intro i hi
        obtain rfl | rfl | rfl | rfl : i = 0 ∨ i = 1 ∨ i = 2 ∨ i = 3 := by omega
        · exact step_fld rfl 107 1 0 rfl (by kernel_rfl) _ _ rfl (fxP _) rfl
        · exact step_lds rfl 17 0 rfl (by kernel_rfl) _ _ rfl _ _ _ CX rfl
        · exact step_of rfl 18 1 rfl (by kernel_rfl) OX.out rfl rfl
        · exact step_new16 rfl rfl rfl
      intro vs3 q3 W3 v3 h3 n3 E3 T3
      clear T3
      replace CX := (n3.cell (block_lt_of_cell CX)).trans CX
      replace CY := (n3.cell (block_lt_of_cell CY)).trans CY
      replace RX := RX.up n3
      replace RY := RY.up n3
      replace N := nxt N n3
      have OX := hide (of_ok RX bx LX.out)
      have OY := hide (of_ok RY by' LY.out)
      clear n3
      simp only [puts, v3, Act.put, List.setIfInBounds_toArray, List.set_cons_succ, List.set_cons_zero]
      clear v3
      go_upto_region 4 with fail
      refine region_new16 4 3 2 4 22 _ (fun i => [Fact.eq (.pointer (some ⟨w.heap.size, 1, none⟩)), Fact.eq (.slice a' ys.length c'), EL (num ys), NB W3 16].getD i Fact.no) (num ys) (by kernel_rfl) rfl rfl rfl (by kernel_rfl) (by kernel_rfl) rfl rfl ?_ ?_
      · intro i hi
        obtain rfl | rfl | rfl | rfl : i = 0 ∨ i = 1 ∨ i = 2 ∨ i = 3 := by omega
        · exact step_fld rfl 107 1 1 rfl (by kernel_rfl) _ _ rfl (fyP _) rfl
        · exact step_lds rfl 20 0 rfl (by kernel_rfl) _ _ rfl _ _ _ CY rfl
        · exact step_of rfl 21 1 rfl (by kernel_rfl) OY.out rfl rfl
        · exact step_new16 rfl rfl rfl
      intro vs4 q4 W4 v4 h4 n4 E4 T4
      clear T4
      replace E3 := E3.up n4
      replace CX := (n4.cell (block_lt_of_cell CX)).trans CX
      replace CY := (n4.cell (block_lt_of_cell CY)).trans CY
      replace RX := RX.up n4
      replace RY := RY.up n4
      replace N := nxt N n4
      have OX := hide (of_ok RX bx LX.out)
      have OY := hide (of_ok RY by' LY.out)
      clear n4
      simp only [puts, v4, Act.put, List.setIfInBounds_toArray, List.set_cons_succ, List.set_cons_zero]
      clear v4
      go_upto_region 5 with fail
      refine region_new16 4 3 2 5 25 _ (fun i => [EL (num xs), EL (num xs), EL ((num xs) * (num xs)), NB W4 16].getD i Fact.no) ((num xs) * (num xs)) (by kernel_rfl) rfl rfl rfl (by kernel_rfl) (by kernel_rfl) rfl rfl ?_ ?_
      · intro i hi
        obtain rfl | rfl | rfl | rfl : i = 0 ∨ i = 1 ∨ i = 2 ∨ i = 3 := by omega
        · exact step_el rfl 131 3 rfl Go.Proofs.YteedfhljbdnmnaaGreatDoor.u50 i50 (by kernel_rfl) _ _ rfl _ E3 rfl
        · exact step_el rfl 131 3 rfl Go.Proofs.YteedfhljbdnmnaaGreatDoor.u50 i50 (by kernel_rfl) _ _ rfl _ E3 rfl
        · exact step_mul rfl 23 24 0 1 _ _ rfl (by kernel_rfl) (by kernel_rfl) rfl rfl rfl
        · exact step_new16 rfl rfl rfl
      intro vs5 q5 W5 v5 h5 n5 E5 T5
      clear T5
      replace E3 := E3.up n5
      replace E4 := E4.up n5
      replace CX := (n5.cell (block_lt_of_cell CX)).trans CX
      replace CY := (n5.cell (block_lt_of_cell CY)).trans CY
      replace RX := RX.up n5
      replace RY := RY.up n5
      replace N := nxt N n5
      have OX := hide (of_ok RX bx LX.out)
      have OY := hide (of_ok RY by' LY.out)
      clear n5
      simp only [puts, v5, Act.put, List.setIfInBounds_toArray, List.set_cons_succ, List.set_cons_zero]
      clear v5
      go_upto_region 6 with fail
      refine region_new16 4 3 2 6 28 _ (fun i => [EL (num ys), EL (num ys), EL ((num ys) * (num ys)), NB W5 16].getD i Fact.no) ((num ys) * (num ys)) (by kernel_rfl) rfl rfl rfl (by kernel_rfl) (by kernel_rfl) rfl rfl ?_ ?_
      · intro i hi
        obtain rfl | rfl | rfl | rfl : i = 0 ∨ i = 1 ∨ i = 2 ∨ i = 3 := by omega
        · exact step_el rfl 131 4 rfl Go.Proofs.YteedfhljbdnmnaaGreatDoor.u50 i50 (by kernel_rfl) _ _ rfl _ E4 rfl
        · exact step_el rfl 131 4 rfl Go.Proofs.YteedfhljbdnmnaaGreatDoor.u50 i50 (by kernel_rfl) _ _ rfl _ E4 rfl
        · exact step_mul rfl 26 27 0 1 _ _ rfl (by kernel_rfl) (by kernel_rfl) rfl rfl rfl
        · exact step_new16 rfl rfl rfl
      intro vs6 q6 W6 v6 h6 n6 E6 T6
      clear T6
      replace E3 := E3.up n6
      replace E4 := E4.up n6
      replace E5 := E5.up n6
      replace CX := (n6.cell (block_lt_of_cell CX)).trans CX
      replace CY := (n6.cell (block_lt_of_cell CY)).trans CY
      replace RX := RX.up n6
      replace RY := RY.up n6
      replace N := nxt N n6
      have OX := hide (of_ok RX bx LX.out)
      have OY := hide (of_ok RY by' LY.out)
      clear n6
      simp only [puts, v6, Act.put, List.setIfInBounds_toArray, List.set_cons_succ, List.set_cons_zero]
      clear v6
      go_upto_region 7 with fail
      refine region_end 12 (fun i => [EL ((num ys) * (num ys)), EL ((num xs) * (num xs)), EL (((num ys) * (num ys)) - ((num xs) * (num xs))), EL 1, EL dE, EL ((num xs) * (num xs)), EL ((num ys) * (num ys)), EL (((num xs) * (num xs)) * ((num ys) * (num ys))), EL ((dE) * (((num xs) * (num xs)) * ((num ys) * (num ys)))), EL ((1) + ((dE) * (((num xs) * (num xs)) * ((num ys) * (num ys))))), Fact.eq (.bool (decide ((((num ys) * (num ys)) - ((num xs) * (num xs))) % PP = ((1) + ((dE) * (((num xs) * (num xs)) * ((num ys) * (num ys))))) % PP))), Fact.eq (.bool (decide ((((num ys) * (num ys)) - ((num xs) * (num xs))) % PP = ((1) + ((dE) * (((num xs) * (num xs)) * ((num ys) * (num ys))))) % PP)))].getD i Fact.no) (by kernel_rfl) (by kernel_rfl) rfl ?_ ?_
      · intro i hi
        obtain rfl | rfl | rfl | rfl | rfl | rfl | rfl | rfl | rfl | rfl | rfl | rfl : i = 0 ∨ i = 1 ∨ i = 2 ∨ i = 3 ∨ i = 4 ∨ i = 5 ∨ i = 6 ∨ i = 7 ∨ i = 8 ∨ i = 9 ∨ i = 10 ∨ i = 11 := by omega
        · exact step_el rfl 131 6 rfl Go.Proofs.YteedfhljbdnmnaaGreatDoor.u50 i50 (by kernel_rfl) _ _ rfl _ E6 rfl
        · exact step_el rfl 131 5 rfl Go.Proofs.YteedfhljbdnmnaaGreatDoor.u50 i50 (by kernel_rfl) _ _ rfl _ E5 rfl
        · exact step_sub rfl 29 30 0 1 _ _ rfl (by kernel_rfl) (by kernel_rfl) rfl rfl rfl
        · exact step_small rfl 1 (by omega) rfl rfl
        · exact step_d rfl rfl rfl
        · exact step_el rfl 131 5 rfl Go.Proofs.YteedfhljbdnmnaaGreatDoor.u50 i50 (by kernel_rfl) _ _ rfl _ E5 rfl
        · exact step_el rfl 131 6 rfl Go.Proofs.YteedfhljbdnmnaaGreatDoor.u50 i50 (by kernel_rfl) _ _ rfl _ E6 rfl
        · exact step_mul rfl 34 35 5 6 _ _ rfl (by kernel_rfl) (by kernel_rfl) rfl rfl rfl
        · exact step_mul rfl 33 36 4 7 _ _ rfl (by kernel_rfl) (by kernel_rfl) rfl rfl rfl
        · exact step_add rfl 32 37 3 8 _ _ rfl (by kernel_rfl) (by kernel_rfl) rfl rfl rfl
        · exact step_same rfl 31 38 2 9 _ _ rfl (by kernel_rfl) (by kernel_rfl) rfl rfl rfl
        · exact step_move rfl 39 10 (by exact Or.inr rfl) (by kernel_rfl) rfl
      intro A W hb hw hF
      have e2 := hF 11 2 (by kernel_rfl)
      obtain ⟨vs, hvs⟩ : ∃ vs : Nat → Value, ∀ d, A.tmps.getD d undef = vs d := ⟨_, fun _ => rfl⟩
      rw [hvs] at e2
      rw [puts_of (md := .any) (k := 12) (by kernel_rfl) rfl hb vs hvs]
      have N9 := nxt N hw
      clear hb hF hvs hw
      change vs 2 = _ at e2
      simp only [puts, e2, Act.put, List.setIfInBounds_toArray, List.set_cons_succ, List.set_cons_zero]
      go_wp2
      go_ret
      exact ⟨by rw [VP.out]; rfl, N9⟩
end Go.Proofs.YteedfhljbdnmnaaGreatDoor
namespace Go.Proofs.YteedfhljbdnmnaaGreatDoor
set_option maxRecDepth 100000
open Go.RowKit
theorem lsum_bytS (v : Int) (h0 : 0 ≤ v) : ∀ n, lsum (byt v) n = v % 256 ^ n
  | 0 => by simp [lsum]
  | n + 1 => by
    have ih := lsum_bytS v h0 n
    have hp := p256_pos n
    rw [lsum, ih, byt, Int.pow_succ]
    have e1 := Int.emod_add_mul_ediv v (256 ^ n)
    have e2 := Int.emod_add_mul_ediv v (256 ^ n * 256)
    rw [← Int.ediv_ediv_of_nonneg (Int.le_of_lt hp)] at e2
    have e3 := Int.emod_add_mul_ediv (v / 256 ^ n) 256
    generalize v / 256 ^ n = q at *
    generalize v % 256 ^ n = r at *
    generalize v % (256 ^ n * 256) = s at *
    generalize (256 : Int) ^ n = p at *
    generalize q / 256 = a at *
    generalize q % 256 = b at *
    subst e3
    have : (b + 256 * a) * p = b * p + 256 * a * p := Int.add_mul _ _ _
    have h1 : p * (b + 256 * a) = b * p + 256 * a * p := by rw [Int.mul_comm, this]
    have h2 : p * 256 * a = 256 * a * p := by rw [Int.mul_assoc, Int.mul_comm]
    omega
theorem num_modS (v : Int) : num (fill (byt (v % PP)) 32) = v % PP := by
  have h0 := Int.emod_nonneg v (show PP ≠ 0 by decide)
  have h1 := Int.emod_lt_of_pos v (show (0 : Int) < PP by decide)
  unfold num
  rw [fill_len, lsum_congr (b := byt (v % PP)) 32 (fun j hj => fill_get _ _ _ hj), lsum_bytS _ h0, Int.emod_eq_of_lt h0 (Int.lt_trans h1 (by decide))]
theorem bytes_L (v : Int) (n : Nat) : Byt (fill (byt v) n) := fun i => by
  rcases Nat.lt_or_ge i n with h | h
  · rw [fill_get _ _ _ h]
    unfold byt
    omega
  · rw [List.getD_eq_getElem?_getD, List.getElem?_eq_none (by rw [fill_len]; omega)]
    simp
end Go.Proofs.YteedfhljbdnmnaaGreatDoor
namespace Go.Proofs.YteedfhljbdnmnaaGreatDoor
set_option maxRecDepth 100000
open Go Go.RowKit
section
variable {ops : Array Oper} {Q : Exit → Act → World → Prop} {md : Region.Mode} {F : Nat → Fact} {a0 : Act} {w0 : World} {i : Nat} {o : Oper} {ts : Array TypeId}
end
def ladS (x K : Int) : Int := ladE x (fun i => kbit K (255 - i)) 256
def ladA (ks us : List Int) : List Int := if ks.length = 32 ∧ us.length = 32 then fill (byt (ladS (num (low7 us)) (num (clampL ks)) % PP)) 32 else []
end Go.Proofs.YteedfhljbdnmnaaGreatDoor
namespace Go.Proofs.YteedfhljbdnmnaaGreatDoor
set_option maxRecDepth 100000
open Go Go.RowKit
structure HasL (w : World) : Prop where
  t : HasTw w 3
  s : HasSt w 4
  i : Has3 w 1 12 5 4
theorem HasL.up {w w' : World} (h : HasL w) (n : Below w.heap.size w w') : HasL w' := ⟨h.t.up n, h.s.up n, h.i.up n⟩
theorem lad_impl {ks : List Int} (hb : Byt ks) (hl : ks.length = 32) (X : Int) : ladE X (fun i => wbit (clw (wv (fun j => ks.getD j 0) 32)) (254 - i)) 255 % PP = ladS X (num (clampL ks)) % PP := by
  have hW : W4 (clw (wv (fun j => ks.getD j 0) 32)) := clw_ok (fun j _ => wv_lt hb 32 j)
  obtain ⟨k1, k2, _⟩ := clampL_bd hb hl
  have e : ladE X (fun i => wbit (clw (wv (fun j => ks.getD j 0) 32)) (254 - i)) 255 = ladE X (fun i => kbit (num (clampL ks)) (254 - i)) 255 := by
    unfold ladE
    rw [lrnds_congr X (fun i => wbit (clw (wv (fun j => ks.getD j 0) 32)) (254 - i)) (fun i => kbit (num (clampL ks)) (254 - i)) 255 (fun i hi => by rw [wbit_k hW (by omega), clw_num hb hl])]
  rw [e]
  unfold ladS
  refine (lad_same X (fun i => kbit (num (clampL ks)) (254 - i)) (fun i => kbit (num (clampL ks)) (255 - i)) ?_ (fun i => by rw [show 255 - (i + 1) = 254 - i by omega]) ?_ 254).symm
  · generalize num (clampL ks) = K at *
    unfold kbit
    have : K / 2 ^ (255 - 0) = 0 := Int.ediv_eq_zero_of_lt (by omega) (by simpa using k2)
    rw [this]
    rfl
  · generalize num (clampL ks) = K at *
    unfold kbit
    have : K / 2 ^ (254 - 0) = 1 := by
      have h : (2 : Int) ^ (254 - 0) = 28948022309329048855892746252171976963317496166410141009864396001978282409984 := by decide
      rw [h]
      omega
    rw [this]
    rfl
def nine : List Int := fill (dig [9]) 32
theorem nine_low : num (low7 nine) = 9 := by decide +kernel
theorem nine_len : nine.length = 32 := fill_len _ _
def pubA (ks : List Int) : List Int := ladA ks nine
set_option maxHeartbeats 4000000 in
theorem implPublic_any (w : World) (g : Nat) (a : Option Addr) (c : Nat) (ks : List Int) (hk : Rd w g a .u8 ks) (bk : Byt ks) (hL : HasL w) :
    Calls Tryz.prog 8 #[.slice a ks.length c] w fun e w' => NewRow w.heap.size w' e .u8 (pubA ks) ∧ Below w.heap.size w w' := by
  have T1 := fun w => isFieldSize_any w a c ks.length
  by_cases h1 : ks.length = 32
  · have RS := hide (readScalar_any w g a c ks hk bk h1)
    have CL := hide (fun w => clamp_any w _ (fun j _ => wv_lt bk 32 j))
    have LD := hide (fun w' n => ladder_any w' _ (clw_ok (fun j _ => wv_lt bk 32 j)) _ 9 (sm5_ok (n := 9) (by decide) (by decide)) (hL.up n).t (hL.up n).s (hL.up n).i)
    have KA : Hid (pubA ks = fill (byt (ladE 9 (fun i => wbit (clw (wv (fun j => ks.getD j 0) 32)) (254 - i)) 255 % PP)) 32) := by show _ = _; unfold pubA ladA; rw [if_pos ⟨h1, nine_len⟩, lad_impl bk h1, nine_low]
    simp only [decide_eq_true h1] at T1
    rw [h1] at T1 ⊢
    clear h1 hk bk
    generalize ladE 9 (fun i => wbit (clw (wv (fun j => ks.getD j 0) 32)) (254 - i)) 255 = V at *
    generalize clw (wv (fun j => ks.getD j 0) 32) = U at *
    generalize wv (fun j => ks.getD j 0) 32 = U0 at *
    have LD' : Hid (∀ w', Below w.heap.size w w' → Calls Tryz.prog 26 #[ag4 U, .agg #[.int .u64 9, .int .u64 0, .int .u64 0, .int .u64 0, .int .u64 0]] w' fun r w'' => ∃ t, r = .returned (ag5 t) ∧ Is5 t V ∧ Below w'.heap.size w' w'') := LD
    clear LD
    simp only [ag5, ag4] at RS CL LD'
    go_enter Tryz.func8, Tryz.ntmps8
    go_wp2_with fail
    refine (T1 w).mono ?_
    rintro r w0 ⟨rfl, rfl⟩
    clear T1
    go_wp2_with fail
    refine RS.out.mono ?_
    rintro r w1 ⟨rfl, n1⟩
    clear RS
    go_wp2_with fail
    refine (CL.out w1).mono ?_
    rintro r w2 ⟨rfl, n2⟩
    have N2 := nxt n1 n2
    clear CL n1 n2
    go_wp2_with fail
    refine (LD'.out w2 N2).mono ?_
    rintro r w4 ⟨t, rfl, IT, n4⟩
    have N4 := nxt N2 n4
    clear LD' n4 N2
    have BY := hide (bytes_any w4 t IT.1)
    rw [IT.2, ← KA.out] at BY
    simp only [ag5] at BY
    have z4 := N4.size
    clear KA IT hL
    go_wp2_with fail
    refine BY.out.mono ?_
    rintro r w5 ⟨⟨a5, c5, g5, rfl, o5, p5, q5, r5⟩, n5⟩
    have N5 := nxt N4 n5
    clear BY N4 n5
    go_wp2
    go_ret
    exact ⟨⟨a5, c5, g5, rfl, o5, p5, q5, by omega⟩, N5⟩
  · have K : Hid (pubA ks = []) := by show _ = _; unfold pubA ladA; rw [if_neg (fun h => h1 h.1)]
    simp only [decide_eq_false h1] at T1
    clear h1
    go_enter Tryz.func8, Tryz.ntmps8
    go_wp2_with fail
    refine (T1 w).mono ?_
    rintro r w0 ⟨rfl, rfl⟩
    clear T1
    go_wp2
    go_ret
    rw [K.out]
    exact ⟨⟨none, 0, _, rfl, Own.nil _ _ _ _, by simp, by simp, Nat.le_refl _⟩, Below.refl _ _⟩
end Go.Proofs.YteedfhljbdnmnaaGreatDoor
namespace Go.Proofs.YteedfhljbdnmnaaGreatDoor
set_option maxRecDepth 100000
open Go.RowKit
set_option maxHeartbeats 4000000 in
theorem eqElem (a0 a1 a2 a3 a4 b0 b1 b2 b3 b4 : Int) (w : World) :
    (Op.equalIn 10000 42 (.agg #[.int .u64 a0, .int .u64 a1, .int .u64 a2, .int .u64 a3, .int .u64 a4]) (.agg #[.int .u64 b0, .int .u64 b1, .int .u64 b2, .int .u64 b3, .int .u64 b4])).run Tryz.prog w = .ok (a0 == b0 && a1 == b1 && a2 == b2 && a3 == b3 && a4 == b4) w := by
  have u3 := Tryz.underlying40
  have a3' := Tryz.isAgg40
  have z3 := Tryz.sizeOf40
  rw [show (10000 : Nat) = 9999 + 1 from rfl, Op.equalIn]
  simp only [Sem.run_bind, run_underlying Tryz.underlying42, Result.andThen_ok]
  simp only [Std.Legacy.Range.forIn_eq_forIn_range', Std.Legacy.Range.size, Nat.sub_zero, Nat.add_sub_cancel, Nat.div_one, List.range'_succ, List.range'_zero, List.forIn_cons, List.forIn_nil]
  go_simp
  by_cases h0 : a0 = b0 <;> by_cases h1 : a1 = b1 <;> by_cases h2 : a2 = b2 <;> by_cases h3 : a3 = b3 <;> by_cases h4 : a4 = b4 <;> simp [h0, h1, h2, h3, h4]
theorem eq_Lm {U V : Nat → Int} (hU : Lm U) (hV : Lm V) : (U 0 == V 0 && U 1 == V 1 && U 2 == V 2 && U 3 == V 3 && U 4 == V 4) = decide (sv U 5 = sv V 5) := by
  by_cases h : sv U 5 = sv V 5
  · have e := hU.uniq hV h
    rw [e 0 (by omega), e 1 (by omega), e 2 (by omega), e 3 (by omega), e 4 (by omega)]
    simp [h]
  · rw [decide_eq_false h]
    cases hq : (U 0 == V 0 && U 1 == V 1 && U 2 == V 2 && U 3 == V 3 && U 4 == V 4)
    · rfl
    · exfalso
      simp only [Bool.and_eq_true, beq_iff_eq] at hq
      exact h (by simp only [sv]; rw [hq.1.1.1.1, hq.1.1.1.2, hq.1.1.2, hq.1.2, hq.2])
end Go.Proofs.YteedfhljbdnmnaaGreatDoor
namespace Go.Proofs.YteedfhljbdnmnaaGreatDoor
set_option maxRecDepth 100000
open Go.RowKit
end Go.Proofs.YteedfhljbdnmnaaGreatDoor
namespace Go.Proofs.YteedfhljbdnmnaaGreatDoor
set_option maxRecDepth 100000
open Go.RowKit
def ResOf (v : Int) (b : Bool) (ys : List Int) : Prop := ∃ c, Canon c v ∧ ((c.length ≤ 128 ∧ b = true ∧ ys = c) ∨ (128 < c.length ∧ b = false ∧ ys = []))
def NumOf (A : Prop) (v : Int) (b : Bool) (ys : List Int) : Prop := (A ∧ ResOf v b ys) ∨ (¬ A ∧ b = false ∧ ys = [])
theorem ResOf.uniq {v : Int} {b d : Bool} {ys zs : List Int} (h : ResOf v b ys) (k : ResOf v d zs) : b = d ∧ ys = zs := by
  obtain ⟨c, hc, h⟩ := h
  obtain ⟨c', hc', k⟩ := k
  obtain rfl := hc.uniq hc'
  rcases h with ⟨h1, rfl, rfl⟩ | ⟨h1, rfl, rfl⟩
  · rcases k with ⟨k1, rfl, rfl⟩ | ⟨k1, rfl, rfl⟩
    · exact ⟨rfl, rfl⟩
    · omega
  · rcases k with ⟨k1, rfl, rfl⟩ | ⟨k1, rfl, rfl⟩
    · omega
    · exact ⟨rfl, rfl⟩
theorem NumOf.uniq {A : Prop} {v : Int} {b d : Bool} {ys zs : List Int} (h : NumOf A v b ys) (k : NumOf A v d zs) : b = d ∧ ys = zs := by
  rcases h with ⟨h1, h2⟩ | ⟨h1, rfl, rfl⟩
  · rcases k with ⟨k1, k2⟩ | ⟨k1, rfl, rfl⟩
    · exact h2.uniq k2
    · exact absurd h1 k1
  · rcases k with ⟨k1, k2⟩ | ⟨k1, rfl, rfl⟩
    · exact absurd k1 h1
    · exact ⟨rfl, rfl⟩
theorem NumOf.len {A : Prop} {v : Int} {b : Bool} {ys : List Int} (h : NumOf A v b ys) : ys.length ≤ 128 := by
  rcases h with ⟨_, c, _, ⟨h1, _, rfl⟩ | ⟨_, _, rfl⟩⟩ | ⟨_, _, rfl⟩
  · exact h1
  · simp
  · simp
def NewRes (B : Nat) (w' : World) (e : Ending) (b : Bool) (ys : List Int) : Prop :=
  ∃ (a : Option Addr) (c g : Nat), e = .returned (.agg #[.bool b, .slice a ys.length c]) ∧ Own w' g a .u8 ys ∧ (a = none → c = 0) ∧ ys.length ≤ c ∧ B ≤ g
theorem NewRes.none {B : Nat} {w : World} (h : B ≤ w.heap.size) : NewRes B w (.returned (.agg #[.bool false, .slice none 0 0])) false [] :=
  ⟨_, 0, w.heap.size, rfl, Own.nil _ _ _ _, by simp, Nat.zero_le _, h⟩
end Go.Proofs.YteedfhljbdnmnaaGreatDoor
namespace Go.Proofs.YteedfhljbdnmnaaGreatDoor
set_option maxRecDepth 100000
open Go.RowKit
theorem two_kept {w w1 : World} {x y : Value} {t : TypeId} (n : Below (w.alloc (.cells #[x, y] t)).heap.size (w.alloc (.cells #[x, y] t)) w1) :
    w1.cell? ⟨w.heap.size, 0, none⟩ = some x ∧ w1.cell? ⟨w.heap.size, 1, none⟩ = some y ∧ w1.frozen? ⟨w.heap.size, 0, none⟩ = false ∧ w1.frozen? ⟨w.heap.size, 1, none⟩ = false ∧ w.heap.size < w1.heap.size := by
  have hs : w.heap.size < (w.alloc (.cells #[x, y] t)).heap.size := by simp
  refine ⟨?_, ?_, ?_, ?_, by have := n.size; omega⟩
  · rw [n.cell (p := ⟨w.heap.size, 0, none⟩) hs]; simp [World.cell?_alloc_at]
  · rw [n.cell (p := ⟨w.heap.size, 1, none⟩) hs]; simp [World.cell?_alloc_at]
  · rw [n.frozen (p := ⟨w.heap.size, 0, none⟩) hs]; simp [World.frozen?_alloc_at]
  · rw [n.frozen (p := ⟨w.heap.size, 1, none⟩) hs]; simp [World.frozen?_alloc_at]
structure Two (w : World) (p : Nat) (x y : Value) : Prop where
  c0 : w.cell? ⟨p, 0, none⟩ = some x
  c1 : w.cell? ⟨p, 1, none⟩ = some y
  f0 : w.frozen? ⟨p, 0, none⟩ = false
  f1 : w.frozen? ⟨p, 1, none⟩ = false
theorem Two.lt {w : World} {p : Nat} {x y : Value} (h : Two w p x y) : p < w.heap.size := block_lt_of_cell h.c0
theorem Two.of_block {w w' : World} {p : Nat} {x y : Value} (h : Two w p x y) (hb : w'.heap[p]? = w.heap[p]?) : Two w' p x y :=
  ⟨(World.cell?_of_block (a := ⟨p, 0, none⟩) hb).trans h.c0, (World.cell?_of_block (a := ⟨p, 1, none⟩) hb).trans h.c1, (World.frozen?_of_block (a := ⟨p, 0, none⟩) hb).trans h.f0, (World.frozen?_of_block (a := ⟨p, 1, none⟩) hb).trans h.f1⟩
theorem Two.up {w w' : World} {p : Nat} {x y : Value} (h : Two w p x y) (n : Below w.heap.size w w') : Two w' p x y := h.of_block (n.block p h.lt)
theorem Two.only {w w' : World} {p g : Nat} {x y : Value} (h : Two w p x y) (n : Only g w w') (hne : p ≠ g) : Two w' p x y := h.of_block (n.block p hne)
theorem Two.new (w : World) (x y : Value) (t : TypeId) : Two (w.alloc (.cells #[x, y] t)) w.heap.size x y := by
  obtain ⟨k1, k2, k3, k4, _⟩ := two_kept (Below.refl (w.alloc (.cells #[x, y] t)).heap.size (w.alloc (.cells #[x, y] t)))
  exact ⟨k1, k2, k3, k4⟩
end Go.Proofs.YteedfhljbdnmnaaGreatDoor
namespace Go.Proofs.YteedfhljbdnmnaaGreatDoor
set_option maxRecDepth 100000
open Go.RowKit
theorem Two.but {w w' : World} {p g : Nat} {x y : Value} (h : Two w p x y) (n : But g w w') (hne : p ≠ g) : Two w' p x y := h.of_block (n.block p h.lt hne)
theorem NewRes.at {B B' : Nat} {w : World} {e : Ending} {b : Bool} {ys : List Int} (h : NewRes B w e b ys) (h1 : B' ≤ B) (h2 : B' < w.heap.size) :
    ∃ (a : Option Addr) (c g : Nat), e = .returned (.agg #[.bool b, .slice a ys.length c]) ∧ Own w g a .u8 ys ∧ B' ≤ g ∧ g < w.heap.size ∧ (0 < ys.length → B ≤ g) := by
  obtain ⟨a, c, g, he, o, _, _, hg⟩ := h
  by_cases h0 : 0 < ys.length
  · exact ⟨a, c, g, he, o, by omega, o.rd.lt h0, fun _ => hg⟩
  · obtain rfl : ys = [] := List.eq_nil_of_length_eq_zero (by omega)
    exact ⟨a, c, B', he, Own.nil _ _ _ _, Nat.le_refl _, h2, fun h => absurd h (by simp)⟩
end Go.Proofs.YteedfhljbdnmnaaGreatDoor
namespace Go.Proofs.YteedfhljbdnmnaaGreatDoor
set_option maxRecDepth 100000
open Go Go.RowKit
def shB (ks us : List Int) : Bool := decide (ks.length = 32 ∧ us.length = 32) && !decide (ladS (num (low7 us)) (num (clampL ks)) % PP = 0)
def shL (ks us : List Int) : List Int := if shB ks us = true then ladA ks us else []
theorem z5L : Lm (fun _ => 0) := fun j _ => by show (0 : Int) ≤ 0 ∧ (0 : Int) < 2251799813685248; omega
set_option maxHeartbeats 8000000 in
theorem implShared_any (w : World) (g g' : Nat) (a b : Option Addr) (c c' : Nat) (ks us : List Int) (hk : Rd w g a .u8 ks) (hu : Rd w g' b .u8 us) (bk : Byt ks) (bu : Byt us) (hL : HasL w) :
    Calls Tryz.prog 7 #[.slice a ks.length c, .slice b us.length c'] w fun e w' => NewRes w.heap.size w' e (shB ks us) (shL ks us) ∧ Below w.heap.size w w' := by
  have hal : Below w.heap.size w (w.alloc (.cells #[.bool false, .slice none 0 0] 28)) := (Below.refl _ _).alloc (Nat.le_refl _) _
  have T0 := Two.new w (.bool false) (.slice none 0 0) 28
  have s0 : (w.alloc (.cells #[.bool false, .slice none 0 0] 28)).heap.size = w.heap.size + 1 := by simp
  have T1 := fun w => isFieldSize_any w a c ks.length
  have T2 := fun w => isFieldSize_any w b c' us.length
  by_cases h1 : ks.length = 32
  · by_cases h2 : us.length = 32
    · have RS := hide (fun w' n => readScalar_any w' g a c ks (hk.up n) bk h1)
      have CL := hide (fun w => clamp_any w _ (fun j _ => wv_lt bk 32 j))
      have RC := hide (fun w' n => readCoordinate_any w' g' b c' us (hu.up n) bu h2)
      have E1 := elt_ok (low7_byt bu) ((low7_len us).trans h2)
      have LD := hide (fun w' n => ladder_any w' _ (clw_ok (fun j _ => wv_lt bk 32 j)) _ (num (low7 us)) E1 (hL.up n).t (hL.up n).s (hL.up n).i)
      have HI := hide (lad_impl bk h1 (num (low7 us)))
      have KA : Hid (ladA ks us = fill (byt (ladE (num (low7 us)) (fun i => wbit (clw (wv (fun j => ks.getD j 0) 32)) (254 - i)) 255 % PP)) 32) := by show _ = _; unfold ladA; rw [if_pos ⟨h1, h2⟩, lad_impl bk h1]
      have KB : Hid (shB ks us = !decide (ladE (num (low7 us)) (fun i => wbit (clw (wv (fun j => ks.getD j 0) 32)) (254 - i)) 255 % PP = 0)) := by show _ = _; unfold shB; rw [decide_eq_true ⟨h1, h2⟩, HI.out]; rfl
      simp only [decide_eq_true h1] at T1
      simp only [decide_eq_true h2] at T2
      rw [h1] at T1 ⊢
      rw [h2] at T2 ⊢
      clear h1 h2 hk hu bk bu E1 HI
      generalize ladE (num (low7 us)) (fun i => wbit (clw (wv (fun j => ks.getD j 0) 32)) (254 - i)) 255 = V at *
      generalize elt (low7 us) = x at *
      generalize clw (wv (fun j => ks.getD j 0) 32) = U at *
      generalize wv (fun j => ks.getD j 0) 32 = U0 at *
      simp only [ag5, ag4] at RS CL RC LD
      go_enter Tryz.func7, Tryz.ntmps7
      go_upto_region 1 with fail
      generalize w.alloc (.cells #[.bool false, .slice none 0 0] 28) = wa at *
      go_wp2_with (first
        | (go_at_call_of 23 (Value.slice a 32 c); refine (T1 _).mono ?_; rintro r wz ⟨rfl, rfl⟩)
        | (go_at_call_of 23 (Value.slice b 32 c'); refine (T2 _).mono ?_; rintro r wz ⟨rfl, rfl⟩))
      refine (RS.out _ hal).mono ?_
      rintro r w1 ⟨rfl, n1⟩
      have N1 := nxt hal n1
      replace T0 := T0.up n1
      clear RS n1
      go_wp2_with fail
      refine (CL.out w1).mono ?_
      rintro r w2 ⟨rfl, n2⟩
      have N2 := nxt N1 n2
      replace T0 := T0.up n2
      clear CL N1 n2
      go_wp2_with fail
      refine (RC.out w2 N2).mono ?_
      rintro r w3 ⟨rfl, n3⟩
      have N3 := nxt N2 n3
      replace T0 := T0.up n3
      clear RC n3 N2
      go_wp2_with fail
      refine (LD.out w3 N3).mono ?_
      rintro r w4 ⟨t, rfl, IT, n4⟩
      have N4 := nxt N3 n4
      replace T0 := T0.up n4
      clear LD n4 N3
      have n5 : Below w4.heap.size w4 (w4.alloc (.cells #[.int .u64 (t 0), .int .u64 (t 1), .int .u64 (t 2), .int .u64 (t 3), .int .u64 (t 4)] 42)) := (Below.refl _ _).alloc (Nat.le_refl _) _
      have X5 := blk_box w4 .u64 42 (t 0) (t 1) (t 2) (t 3) (t 4)
      have EQ := fun w => eqElem (t 0) (t 1) (t 2) (t 3) (t 4) 0 0 0 0 0 w
      have EL' : (t 0 == 0 && t 1 == 0 && t 2 == 0 && t 3 == 0 && t 4 == 0) = decide (V % PP = 0) := by
        have e := eq_Lm IT.1 z5L
        rw [IT.2] at e
        exact e
      rw [EL'] at EQ
      clear EL'
      have BY := hide (fun w => bytes_any w t IT.1)
      rw [IT.2, ← KA.out] at BY
      simp only [ag5] at BY
      have z0 := T0.lt
      have z4 := N4.size
      clear IT hL T1 T2
      by_cases hz : V % PP = 0
      · have KB' : Hid (shB ks us = false) := by show _ = _; rw [KB.out, decide_eq_true hz]; rfl
        have KL : Hid (shL ks us = []) := by show _ = _; unfold shL; rw [if_neg (by rw [KB'.out]; simp)]
        simp only [decide_eq_true hz] at EQ
        clear hz KA KB BY
        go_upto_region 4 with fail
        generalize w4.alloc (.cells #[.int .u64 (t 0), .int .u64 (t 1), .int .u64 (t 2), .int .u64 (t 3), .int .u64 (t 4)] 42) = w5 at *
        obtain ⟨⟨x0, x1, x2, x3, x4⟩, _⟩ := X5.f5
        obtain ⟨c0, c1, f0, f1⟩ := T0.up n5
        have N5 := nxt N4 n5
        have z5 := N5.size
        clear X5 T0 n5 N4
        go_wp2
        refine bodyPost_ret (v := .agg #[.bool false, .slice none 0 0]) (by simp [results, Tryz.results7, go_sem, c0, c1]) rfl ⟨?_, ?_⟩
        · rw [KB'.out, KL.out]
          exact NewRes.none (by simp [World.setCell]; omega)
        · exact (N5.setCell (Nat.le_refl _) _).setCell (Nat.le_refl _) _
      · have KB' : Hid (shB ks us = true) := by show _ = _; rw [KB.out, decide_eq_false hz]; rfl
        have KL : Hid (shL ks us = ladA ks us) := by show _ = _; unfold shL; rw [if_pos KB'.out]
        simp only [decide_eq_false hz] at EQ
        clear hz KA KB
        go_upto_region 4 with fail
        generalize w4.alloc (.cells #[.int .u64 (t 0), .int .u64 (t 1), .int .u64 (t 2), .int .u64 (t 3), .int .u64 (t 4)] 42) = w5 at *
        obtain ⟨⟨x0, x1, x2, x3, x4⟩, _⟩ := X5.f5
        have T5 := T0.up n5
        have N5 := nxt N4 n5
        have z5 := N5.size
        have z45 := n5.size
        clear X5 T0 n5 N4
        go_wp2_with fail
        refine (BY.out w5).mono ?_
        rintro r w6 ⟨⟨a6, c6, g6, rfl, o6, p6, q6, r6⟩, n6⟩
        have N6 := nxt N5 n6
        obtain ⟨c0, c1, f0, f1⟩ := T5.up n6
        have O := (Only.setCell w6 w.heap.size 0 (.bool true)).trans (Only.setCell _ w.heap.size 1 (.slice a6 (ladA ks us).length c6))
        have o7 := o6.only O (fun _ => by omega)
        have N7 := N6.trans (O.below (Nat.le_refl _))
        clear BY T5 N5 N6 n6 O o6 x0 x1 x2 x3 x4 EQ
        generalize ladA ks us = ys at *
        go_wp2
        refine bodyPost_ret (v := .agg #[.bool true, .slice a6 ys.length c6]) (by simp [results, Tryz.results7, go_sem, c0, c1]) rfl ⟨?_, N7⟩
        rw [KB'.out, KL.out]
        exact ⟨a6, c6, g6, rfl, o7, p6, q6, by omega⟩
    · have KB : Hid (shB ks us = false) := by show _ = _; unfold shB; rw [decide_eq_false (fun h => h2 h.2)]; rfl
      have KL : Hid (shL ks us = []) := by show _ = _; unfold shL; rw [if_neg (by rw [KB.out]; simp)]
      simp only [decide_eq_true h1] at T1
      simp only [decide_eq_false h2] at T2
      rw [h1] at T1 ⊢
      obtain ⟨c0, c1, f0, f1⟩ := T0
      clear h1 h2
      go_enter Tryz.func7, Tryz.ntmps7
      go_upto_region 1 with fail
      generalize w.alloc (.cells #[.bool false, .slice none 0 0] 28) = wa at *
      go_wp2_with (first
        | (go_at_call_of 23 (Value.slice a 32 c); refine (T1 _).mono ?_; rintro r wz ⟨rfl, rfl⟩)
        | (go_at_call_of 23 (Value.slice b us.length c'); refine (T2 _).mono ?_; rintro r wz ⟨rfl, rfl⟩))
      refine bodyPost_ret (v := .agg #[.bool false, .slice none 0 0]) (by simp [results, Tryz.results7, go_sem, c0, c1]) rfl ⟨?_, ?_⟩
      · rw [KB.out, KL.out]
        exact NewRes.none (by simp [World.setCell]; omega)
      · exact (hal.setCell (Nat.le_refl _) _).setCell (Nat.le_refl _) _
  · have KB : Hid (shB ks us = false) := by show _ = _; unfold shB; rw [decide_eq_false (fun h => h1 h.1)]; rfl
    have KL : Hid (shL ks us = []) := by show _ = _; unfold shL; rw [if_neg (by rw [KB.out]; simp)]
    simp only [decide_eq_false h1] at T1
    obtain ⟨c0, c1, f0, f1⟩ := T0
    clear h1
    go_enter Tryz.func7, Tryz.ntmps7
    go_upto_region 1 with fail
    generalize w.alloc (.cells #[.bool false, .slice none 0 0] 28) = wa at *
    go_wp2_with (first
      | (go_at_call_of 23 (Value.slice a ks.length c); refine (T1 _).mono ?_; rintro r wz ⟨rfl, rfl⟩))
    refine bodyPost_ret (v := .agg #[.bool false, .slice none 0 0]) (by simp [results, Tryz.results7, go_sem, c0, c1]) rfl ⟨?_, ?_⟩
    · rw [KB.out, KL.out]
      exact NewRes.none (by simp [World.setCell]; omega)
    · exact (hal.setCell (Nat.le_refl _) _).setCell (Nat.le_refl _) _
end Go.Proofs.YteedfhljbdnmnaaGreatDoor
namespace Go.Proofs.YteedfhljbdnmnaaGreatDoor
set_option maxRecDepth 100000
section
variable {P a d b s k : Int} {inv : Int → Int}
def Rep (P s : Int) (w : Int × Int) (y : Int) : Prop := P ∣ w.1 * (1 - y) - s * w.2 * (1 + y) ∧ ¬ (P ∣ w.1 ∧ P ∣ w.2)
def ldbl (k : Int) (w : Int × Int) : Int × Int :=
  ((w.1 + w.2) * (w.1 + w.2) * ((w.1 - w.2) * (w.1 - w.2)), ((w.1 + w.2) * (w.1 + w.2) - (w.1 - w.2) * (w.1 - w.2)) * ((w.1 + w.2) * (w.1 + w.2) + k * ((w.1 + w.2) * (w.1 + w.2) - (w.1 - w.2) * (w.1 - w.2))))
def lsum2 (p q : Int × Int) (x : Int) : Int × Int :=
  (((q.1 - q.2) * (p.1 + p.2) + (q.1 + q.2) * (p.1 - p.2)) * ((q.1 - q.2) * (p.1 + p.2) + (q.1 + q.2) * (p.1 - p.2)), x * (((q.1 - q.2) * (p.1 + p.2) - (q.1 + q.2) * (p.1 - p.2)) * ((q.1 - q.2) * (p.1 + p.2) - (q.1 + q.2) * (p.1 - p.2))))
theorem Rep.st (hP : Pri P) (hs : s = 1 ∨ s = -1) {w : Int × Int} {y : Int} (h : Rep P s w y) : P ∣ (w.1 - s * w.2) - y * (w.1 + s * w.2) ∧ ¬ P ∣ w.1 + s * w.2 := by
  have t : P ∣ (w.1 - s * w.2) - y * (w.1 + s * w.2) := dv2 h.1 h.1 (c1 := 1) (c2 := 0) (by grind)
  refine ⟨t, fun hS => h.2 ?_⟩
  have hT : P ∣ w.1 - s * w.2 := dv2 t hS (c1 := 1) (c2 := y) (by grind)
  have u : P ∣ 2 * w.1 := dv2 hS hT (c1 := 1) (c2 := 1) (by grind)
  have v : P ∣ 2 * w.2 := dv2 hS hT (c1 := s) (c2 := -s) (by rcases hs with rfl | rfl <;> grind)
  exact ⟨(hP.mul u).resolve_left hP.two, (hP.mul v).resolve_left hP.two⟩
structure Mon (P a d b s k : Int) : Prop where
  s1 : s = 1 ∨ s = -1
  bd : P ∣ b * (a - d) - d
  kb : 2 * k + 1 = s * (2 * b + 1)
  ad : ¬ P ∣ a - d
  a0 : ¬ P ∣ a
theorem Rep.dbl (hP : Pri P) (hC : Cpl P a d) (M : Mon P a d b s k) {w : Int × Int} {x y x2 y2 : Int} (h : Rep P s w y) (ho : On P a d x y) (hm : Sm P a d x y x y x2 y2) : Rep P s (ldbl k w) y2 := by
  obtain ⟨t, hS⟩ := h.st hP M.s1
  have E1 : P ∣ y ^ 2 - (1 + b * (1 - y ^ 2)) * (1 - a * x ^ 2) := cancel hP M.ad (dv2 ho M.bd (c1 := a) (c2 := -((1 - y ^ 2) * (1 - a * x ^ 2))) (by grind))
  have hq := hC.q ho ho
  have my := hm.y
  obtain ⟨U, V⟩ := w
  simp only at t hS
  have ST : ∃ S T, P ∣ T - y * S ∧ ¬ P ∣ S ∧ (ldbl k (U, V)).1 = S ^ 2 * T ^ 2 ∧ (ldbl k (U, V)).2 = s * (S ^ 2 - T ^ 2) * (S ^ 2 + b * (S ^ 2 - T ^ 2)) := by
    refine ⟨U + s * V, U - s * V, t, hS, ?_, ?_⟩
    · unfold ldbl
      rcases M.s1 with e | e <;> subst e <;> grind
    · unfold ldbl
      have kb := M.kb
      rcases M.s1 with e | e
      · subst e
        obtain rfl : k = b := by omega
        grind
      · subst e
        obtain rfl : k = -1 - b := by omega
        grind
  obtain ⟨S, T, hT, hS, e1, e2⟩ := ST
  have tau : P ∣ T ^ 2 - y ^ 2 * S ^ 2 := dv2 hT hT (c1 := T + y * S) (c2 := 0) (by grind)
  have ss : s * s = 1 := by rcases M.s1 with e | e <;> subst e <;> decide
  unfold Rep
  rw [e1, e2]
  constructor
  · have g1 : P ∣ S ^ 2 * T ^ 2 * (1 - y ^ 2) - (S ^ 2 - T ^ 2) * (S ^ 2 + b * (S ^ 2 - T ^ 2)) * (1 - a * x ^ 2) :=
      dv2 E1 tau (c1 := S ^ 4 * (1 - y ^ 2)) (c2 := S ^ 2 * (1 - y ^ 2) + (1 - a * x ^ 2) * (S ^ 2 * (1 + b * (1 - y ^ 2)) + b * (S ^ 2 * (1 - y ^ 2) - (T ^ 2 - y ^ 2 * S ^ 2)))) (by grind)
    refine cancel hP hq (dv3 g1 ho my (c1 := 2) (c2 := S ^ 2 * T ^ 2 - (S ^ 2 - T ^ 2) * (S ^ 2 + b * (S ^ 2 - T ^ 2))) (c3 := -(S ^ 2 * T ^ 2 + (S ^ 2 - T ^ 2) * (S ^ 2 + b * (S ^ 2 - T ^ 2)))) ?_)
    grind
  · rintro ⟨z1, z2⟩
    have zT : P ∣ T := by
      have h1 : P ∣ (S * T) * (S * T) := dv2 z1 z1 (c1 := 1) (c2 := 0) (by grind)
      rcases hP.mul h1 with h | h <;> exact (hP.mul h).resolve_left hS
    have z3 : P ∣ (1 + b) * (S ^ 2 * S ^ 2) := dv2 z2 zT (c1 := s) (c2 := T * (S ^ 2 + b * (S ^ 2 - T ^ 2)) + S ^ 2 * b * T) (by grind)
    have n2 : ¬ P ∣ S ^ 2 * S ^ 2 := by
      have n1 : ¬ P ∣ S ^ 2 := by rw [show S ^ 2 = S * S by grind]; exact nz_mul hP hS hS
      exact nz_mul hP n1 n1
    have z4 := cancel hP n2 z3
    exact M.a0 (dv2 z4 M.bd (c1 := a - d) (c2 := -1) (by grind))
theorem Rep.sum (hP : Pri P) (hC : Cpl P a d) (hs : s = 1 ∨ s = -1) {p q : Int × Int} {x x1 y1 x2 y2 xs ys xd yd : Int} (h1 : Rep P s p y1) (h2 : Rep P s q y2) (o1 : On P a d x1 y1) (o2 : On P a d x2 y2)
    (hm : Sm P a d x1 y1 x2 y2 xs ys) (hd : Sm P a d x1 y1 (-x2) y2 xd yd) (hx : P ∣ x * (1 - yd) - s * (1 + yd)) (hn : ¬ P ∣ 1 - yd) (h0 : ¬ P ∣ x) : Rep P s (lsum2 p q x) ys := by
  obtain ⟨t1, n1⟩ := h1.st hP hs
  obtain ⟨t2, n2⟩ := h2.st hP hs
  have hp := hC.p o1 o2
  have hq := hC.q o1 o2
  have D := dv2 o1 o2 (ed_diff x1 y1 x2 y2 a d)
  have dy : P ∣ yd * (1 + d * x1 * x2 * y1 * y2) - (y1 * y2 + a * x1 * x2) := dv2 hd.y hd.y (c1 := 1) (c2 := 0) (by grind)
  have sy := hm.y
  have ss : s * s = 1 := by rcases hs with e | e <;> subst e <;> decide
  have K : P ∣ (1 + ys) * (1 + yd) * (y1 - y2) ^ 2 - (1 - ys) * (1 - yd) * (y1 + y2) ^ 2 := by
    have g1 : P ∣ ((1 - d * x1 * x2 * y1 * y2) * (1 + ys)) * ((1 + d * x1 * x2 * y1 * y2) * (1 + yd)) * (y1 - y2) ^ 2 - ((1 - d * x1 * x2 * y1 * y2) * (1 - ys)) * ((1 + d * x1 * x2 * y1 * y2) * (1 - yd)) * (y1 + y2) ^ 2 := by
      generalize 1 - d * x1 * x2 * y1 * y2 = Q at *
      generalize 1 + d * x1 * x2 * y1 * y2 = R at *
      generalize y1 * y2 - a * x1 * x2 = X at *
      generalize y1 * y2 + a * x1 * x2 = Y at *
      refine dv3 D sy dy (c1 := 1) (c2 := R * (1 + yd) * (y1 - y2) ^ 2 + R * (1 - yd) * (y1 + y2) ^ 2) (c3 := (Q + X) * (y1 - y2) ^ 2 + (Q - X) * (y1 + y2) ^ 2) ?_
      grind
    refine cancel hP (nz_mul hP hq hp) (dv2 g1 g1 (c1 := 1) (c2 := 0) ?_)
    grind
  have M : P ∣ x * (1 + ys) * (y1 - y2) ^ 2 - s * (1 - ys) * (y1 + y2) ^ 2 := by
    refine cancel hP hn (dv2 K hx (c1 := s) (c2 := (1 + ys) * (y1 - y2) ^ 2) ?_)
    grind
  obtain ⟨U1, V1⟩ := p
  obtain ⟨U2, V2⟩ := q
  simp only at t1 n1 t2 n2
  have ST : ∃ S1 T1 S2 T2, P ∣ T1 - y1 * S1 ∧ ¬ P ∣ S1 ∧ P ∣ T2 - y2 * S2 ∧ ¬ P ∣ S2 ∧ (lsum2 (U1, V1) (U2, V2) x).1 = (S1 * T2 + S2 * T1) ^ 2 ∧ (lsum2 (U1, V1) (U2, V2) x).2 = x * (S1 * T2 - S2 * T1) ^ 2 := by
    refine ⟨U1 + s * V1, U1 - s * V1, U2 + s * V2, U2 - s * V2, t1, n1, t2, n2, ?_, ?_⟩
    · unfold lsum2
      rcases hs with e | e <;> subst e <;> grind
    · unfold lsum2
      rcases hs with e | e <;> subst e <;> grind
  obtain ⟨S1, T1, S2, T2, k1, m1, k2, m2, e1, e2⟩ := ST
  have f1 : P ∣ (S1 * T2 + S2 * T1) - S1 * S2 * (y1 + y2) := dv2 k1 k2 (c1 := S2) (c2 := S1) (by grind)
  have f2 : P ∣ (S1 * T2 - S2 * T1) - S1 * S2 * (y2 - y1) := dv2 k1 k2 (c1 := -S2) (c2 := S1) (by grind)
  unfold Rep
  rw [e1, e2]
  constructor
  · refine dv3 M f1 f2 (c1 := -(s * (S1 * S2) ^ 2)) (c2 := (1 - ys) * (S1 * T2 + S2 * T1 + S1 * S2 * (y1 + y2))) (c3 := -(s * x * (1 + ys) * (S1 * T2 - S2 * T1 + S1 * S2 * (y2 - y1)))) ?_
    grind
  · rintro ⟨z1, z2⟩
    have sq : ∀ z : Int, P ∣ z ^ 2 → P ∣ z := fun z hz => by
      rw [show z ^ 2 = z * z by grind] at hz
      exact (hP.mul hz).elim id id
    have z1' := sq _ z1
    have z2' := sq _ ((hP.mul z2).resolve_left h0)
    have y1z : P ∣ y1 := by
      have g : P ∣ y1 * (2 * (S1 * S2)) := dv3 z1' z2' k1 (c1 := 1) (c2 := -1) (c3 := -(2 * S2)) (by grind)
      exact cancel hP (nz_mul hP hP.two (nz_mul hP m1 m2)) g
    have y2z : P ∣ y2 := by
      have g : P ∣ y2 * (2 * (S1 * S2)) := dv3 z1' z2' k2 (c1 := 1) (c2 := 1) (c3 := -(2 * S1)) (by grind)
      exact cancel hP (nz_mul hP hP.two (nz_mul hP m1 m2)) g
    have a1 : P ∣ a * x1 ^ 2 - 1 := dv2 o1 y1z (c1 := 1) (c2 := -(y1 - d * x1 ^ 2 * y1)) (by grind)
    have a2 : P ∣ a * x2 ^ 2 - 1 := dv2 o2 y2z (c1 := 1) (c2 := -(y2 - d * x2 ^ 2 * y2)) (by grind)
    have ydv : P ∣ yd - a * x1 * x2 := dv2 dy y1z (c1 := 1) (c2 := y2 - yd * d * x1 * x2 * y2) (by grind)
    have yd1 : P ∣ (1 - yd) * (1 + yd) := dv3 ydv a1 a2 (c1 := -(yd + a * x1 * x2)) (c2 := -(a * x2 ^ 2)) (c3 := -1) (by grind)
    have yd2 : P ∣ 1 + yd := (hP.mul yd1).resolve_left hn
    have yx : P ∣ x * (1 - yd) := dv2 hx yd2 (c1 := 1) (c2 := s) (by grind)
    rcases hP.mul yx with h | h
    · exact h0 h
    · exact hn h
end
end Go.Proofs.YteedfhljbdnmnaaGreatDoor
namespace Go.Proofs.YteedfhljbdnmnaaGreatDoor
set_option maxRecDepth 100000
abbrev d0 : Int := 37095705934669439343138083508754565189542113879843219016388785533085940283555
abbrev i0 : Int := 19681161376707505956807079304988542015446066515923890162744021073123829784752
abbrev r0 : Int := 55487632915927625549282413919184614932259505768049324239291840100650878933168
theorem eI_H : eInv + 1 = 2 * eH := by decide +kernel
theorem fer2 {l : Int} (h : ¬ PP ∣ l) : l ^ (2 * eH) % PP = 1 := by rw [← eI_H]; exact fer h
def einv (c : Int) : Int := c ^ eInv
theorem einv_ok : ∀ c, ¬ PP ∣ c → PP ∣ einv c * c - 1 := fun c h => by
  have f := fer h
  unfold einv
  rw [← Int.pow_succ]
  refine PP_dvd.2 ?_
  rw [Int.sub_emod, f]
  rfl
theorem cong_dvd {x y : Int} (h : PP ∣ x - y) : x % PP = y % PP := Int.emod_eq_emod_iff_emod_sub_eq_zero.2 (PP_dvd.1 h)
theorem dvd_cong {x y : Int} (h : x % PP = y % PP) : PP ∣ x - y := PP_dvd.2 (Int.emod_eq_emod_iff_emod_sub_eq_zero.1 h)
theorem nsq_of {d : Int} (h : d ^ eH % PP = PP - 1) : NSq PP d := by
  intro r t hrt
  by_cases ht : PP ∣ t
  · exact ht
  exfalso
  have e := pow_mod (cong_dvd hrt) eH
  have et : (d * t ^ 2) ^ eH % PP = PP - 1 := by
    rw [Int.mul_pow, ← Int.pow_mul, Int.mul_emod, h, fer2 ht]
    decide
  rw [et] at e
  by_cases hr : PP ∣ r
  · have z : PP ∣ r ^ 2 := by rw [Int.pow_succ]; exact Int.dvd_mul_of_dvd_right hr
    have z2 : (r ^ 2) ^ eH % PP = 0 := by
      rw [show eH = eH - 1 + 1 from rfl, Int.pow_succ]
      exact PP_dvd.1 (Int.dvd_mul_of_dvd_right z)
    rw [z2] at e
    exact absurd e (by decide)
  · rw [← Int.pow_mul, fer2 hr] at e
    exact absurd e (by decide)
theorem nsq2 : NSq PP 2 := nsq_of two_half
theorem i0_sq : PP ∣ i0 ^ 2 - (-1) := by decide +kernel
theorem i0_nz : ¬ PP ∣ i0 := by decide +kernel
theorem nsqm2 : NSq PP (-2) := by
  intro r t h
  have k : PP ∣ r ^ 2 - 2 * (i0 * t) ^ 2 := dv2 h i0_sq (c1 := 1) (c2 := -(2 * t ^ 2)) (by grind)
  exact (pri_PP.mul (nsq2 r (i0 * t) k)).resolve_left i0_nz
theorem d0_half : d0 ^ eH % PP = PP - 1 := by
  have h : pm P25519 255 37095705934669439343138083508754565189542113879843219016388785533085940283555 eH = P25519 - 1 := by decide +kernel
  rw [pm_eq _ _ _ _ (by decide +kernel)] at h
  have h' : (((37095705934669439343138083508754565189542113879843219016388785533085940283555 : Nat) ^ eH % P25519 : Nat) : Int) = ((P25519 - 1 : Nat) : Int) := by rw [h]
  rw [Int.natCast_emod, Int.natCast_pow] at h'
  rw [PP_nat]
  exact h'
theorem nsqd : NSq PP d0 := nsq_of d0_half
theorem r0_sq : PP ∣ r0 ^ 2 - 2 * d0 := by decide +kernel
theorem crv1 : Crv PP (-1) d0 einv := ⟨pri_PP, cpl_of pri_PP i0_sq nsqd, einv_ok⟩
theorem crv2 : Crv PP (2 * d0) (-2) einv := ⟨pri_PP, cpl_of pri_PP r0_sq nsqm2, einv_ok⟩
theorem mon1 : Mon PP (-1) d0 121665 1 121665 := ⟨Or.inl rfl, by decide +kernel, by decide, by decide +kernel, by decide +kernel⟩
theorem mon2 : Mon PP (2 * d0) (-2) (-121666) (-1) 121665 := ⟨Or.inr rfl, by decide +kernel, by decide, by decide +kernel, by decide +kernel⟩
theorem sq_or {z : Int} (hz : ¬ PP ∣ z) : (∃ v, PP ∣ v ^ 2 - z) ∨ ∃ v, PP ∣ v ^ 2 - 2 * z := by
  have h1 : 0 < z % PP := by
    have := Int.emod_nonneg z (show PP ≠ 0 by decide)
    rcases Int.lt_or_eq_of_le this with k | k
    · exact k
    · exact absurd (PP_dvd.2 k.symm) hz
  have h2 := Int.emod_lt_of_pos z (show (0 : Int) < PP by decide)
  have sq : ∀ A : Int, 0 < A → A < PP → A ^ eH % PP = 1 → ∃ v, PP ∣ v ^ 2 - A := fun A a0 a1 ha => by
    refine ⟨r1I A, dvd_cong ?_⟩
    rw [show r1I A ^ 2 = r1I A * r1I A by rw [Int.pow_succ, Int.pow_succ, Int.pow_zero, Int.one_mul], has_of a0 a1 ha, Int.emod_eq_of_lt (Int.le_of_lt a0) a1]
  have back : ∀ {v A B : Int}, PP ∣ v ^ 2 - A → A % PP = B % PP → PP ∣ v ^ 2 - B := fun {v A B} h e => by
    have := Int.dvd_add h (dvd_cong e)
    rwa [show v ^ 2 - A + (A - B) = v ^ 2 - B by omega] at this
  rcases half_one h1 h2 with k | k
  · obtain ⟨v, hv⟩ := sq _ h1 h2 k
    exact Or.inl ⟨v, back hv (Int.emod_emod_of_dvd _ (Int.dvd_refl _))⟩
  · have e : (2 * z) ^ eH % PP = 1 := by
      rw [Int.mul_pow, Int.mul_emod, two_half, ← pwm z, k]
      decide +kernel
    have g1 : 0 < 2 * z % PP := by
      have := Int.emod_nonneg (2 * z) (show PP ≠ 0 by decide)
      rcases Int.lt_or_eq_of_le this with q | q
      · exact q
      · exact absurd (PP_dvd.2 q.symm) (nz_mul pri_PP (by decide) hz)
    obtain ⟨v, hv⟩ := sq _ g1 (Int.emod_lt_of_pos _ (by decide)) (by rw [pwm]; exact e)
    exact Or.inr ⟨v, back hv (Int.emod_emod_of_dvd _ (Int.dvd_refl _))⟩
end Go.Proofs.YteedfhljbdnmnaaGreatDoor
