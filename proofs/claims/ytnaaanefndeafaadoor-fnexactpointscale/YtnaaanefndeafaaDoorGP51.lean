import Derived.Test.YtnaaanefndeafaaDoorGP50
import Derived.Test.YtnaaanefndeafaaDoorLCan
import Derived.Test.YtnaaanefndeafaaDoorGP49
import Derived.Test.YtnaaanefndeafaaDoorLaidI
import Derived.Test.YtnaaanefndeafaaDoorGP48
import Derived.Test.YtnaaanefndeafaaDoorDr
import Derived.Test.YtnaaanefndeafaaDoorBn16
import Derived.Test.YtnaaanefndeafaaDoorBy16
import Derived.Test.YtnaaanefndeafaaDoorS1
import Derived.Test.YtnaaanefndeafaaDoorGP46
import Derived.BigFrame

/-
  The program's isOnCurve and readPoint.
-/
namespace Go.Proofs.YtnaaanefndeafaaDoor
set_option maxRecDepth 100000
open Go Go.RowKit

theorem results_cell_slot {P : Program} {fn : Func} {p s : Tmp} {ty : TypeId} {v : Value} (h : fn.results = #[.cell p ty, .tmp s]) (tmps : Array Value) (w : World) (g : Nat) (cs : List Value) (d : TypeDesc)
    (hp : tmps.getD p undef = .pointer (some ⟨g, 0, none⟩)) (hs : tmps.getD s undef = v) (hc : w.rangeAt g 0 cs) (hu : P.underlying ty = some d) (hd : d.isRow = true) (hi : (P.info? ty).map (·.size) = some cs.length) :
    (results fn tmps).run P w = .ok (.tuple #[.agg cs.toArray, v]) w := by
  have hp' : tmps[p]?.getD undef = .pointer (some ⟨g, 0, none⟩) := by simpa using hp
  have hs' : tmps[s]?.getD undef = v := by simpa using hs
  simp [results, h, hp', hs', asAddr, run_loadVar_mid w g 0 ty cs d hc hu hd hi]
/-- The curve's equation, by the program's factor D. -/
def onB (D x y : Int) : Bool := decide ((y * y - x * x) % PP = (1 + D * (x * x) * (y * y)) % PP)
set_option maxHeartbeats 2000000 in
theorem isOn_any (w : World) (es : List (Nat → Int)) (D X Y : Int) (hes : IsN es [X, Y]) (TT : HasTw w 2) (CC : Em5 w 1 0 D) :
    Calls Tryd.prog 66 #[agN es] w fun r w' => r = .returned (.bool (onB D X Y)) ∧ Below w.heap.size w w' := by
  show Calls Tryd.prog 66 #[.agg (clN es).toArray] w _
  have P0 := rowN_new w 51 hes
  have N : Below w.heap.size w (w.alloc (.cells (clN es).toArray 51)) := (Below.refl _ _).alloc (Nat.le_refl _) _
  obtain ⟨V0, hV0⟩ : ∃ V, V = (clN es).toArray := ⟨_, rfl⟩
  rw [← hV0] at P0 N ⊢
  clear hV0 hes
  replace TT := TT.up N
  replace CC := CC.up N
  go_enter Tryd.func66, Tryd.ntmps66
  go_upto_region 1 with fail
  generalize w.alloc (.cells V0 51) = wr at *
  refine region_new2 8 6 2 3 7 7 5 4 10 _ _ (fun i => [Fact.eq (.pointer (some ⟨w.heap.size, 0, none⟩)), EM (X), EM ((X) * (X)), Fact.eq (.pointer (some ⟨w.heap.size, 5, none⟩)), EM (Y), EM ((Y) * (Y)), NB wr 5, NB wr 5].getD i Fact.no) ((X) * (X)) ((Y) * (Y)) (by kernel_rfl) rfl rfl rfl rfl rfl rfl rfl rfl rfl (by kernel_rfl) (by kernel_rfl) (by kernel_rfl) (by kernel_rfl) rfl rfl rfl rfl (by decide) (fresh_new5 rfl rfl rfl) (fresh_new5 rfl rfl rfl) ?_ ?_
  · intro i hi
    obtain rfl | rfl | rfl | rfl | rfl | rfl | rfl | rfl : i = 0 ∨ i = 1 ∨ i = 2 ∨ i = 3 ∨ i = 4 ∨ i = 5 ∨ i = 6 ∨ i = 7 := by omega
    · exact step_fld rfl 51 1 0 rfl (by kernel_rfl) _ _ rfl (fxA _) rfl
    · exact step_e5f rfl 5 0 rfl (by kernel_rfl) _ _ rfl _ P0.at0 rfl
    · exact step_sq5 rfl 6 1 _ rfl (by kernel_rfl) rfl rfl
    · exact step_fld rfl 51 1 1 rfl (by kernel_rfl) _ _ rfl (fyA _) rfl
    · exact step_e5f rfl 8 3 rfl (by kernel_rfl) _ _ rfl _ P0.tail.at0 rfl
    · exact step_sq5 rfl 9 4 _ rfl (by kernel_rfl) rfl rfl
    · exact step_new5 rfl rfl rfl
    · exact step_new5 rfl rfl rfl
  intro vs1 q3 q4 W1 v3 v4 l3 l4 n55 n E3 E4
  replace TT := TT.up n
  replace CC := CC.up n
  replace N := nxt N n
  clear n n55 P0
  simp only [puts, v3, v4, Act.put, List.setIfInBounds_toArray, List.set_cons_succ, List.set_cons_zero]
  clear v3 v4
  go_upto_region 2 with fail
  refine region_end 12 (fun i => [EM ((Y) * (Y)), EM ((X) * (X)), EM (((Y) * (Y)) - ((X) * (X))), EM (1), EM (D), EM ((X) * (X)), EM ((D) * ((X) * (X))), EM ((Y) * (Y)), EM (((D) * ((X) * (X))) * ((Y) * (Y))), EM ((1) + (((D) * ((X) * (X))) * ((Y) * (Y)))), Fact.eq (.bool (decide ((((Y) * (Y)) - ((X) * (X))) % PP = ((1) + (((D) * ((X) * (X))) * ((Y) * (Y)))) % PP))), Fact.eq (.bool (decide ((((Y) * (Y)) - ((X) * (X))) % PP = ((1) + (((D) * ((X) * (X))) * ((Y) * (Y)))) % PP)))].getD i Fact.no) (by kernel_rfl) (by kernel_rfl) rfl ?_ ?_
  · intro i hi
    obtain rfl | rfl | rfl | rfl | rfl | rfl | rfl | rfl | rfl | rfl | rfl | rfl : i = 0 ∨ i = 1 ∨ i = 2 ∨ i = 3 ∨ i = 4 ∨ i = 5 ∨ i = 6 ∨ i = 7 ∨ i = 8 ∨ i = 9 ∨ i = 10 ∨ i = 11 := by omega
    · exact step_e5 rfl 4 rfl (by kernel_rfl) _ _ rfl _ E4 rfl
    · exact step_e5 rfl 3 rfl (by kernel_rfl) _ _ rfl _ E3 rfl
    · exact step_sub5 TT rfl 11 12 0 1 _ _ rfl (by kernel_rfl) (by kernel_rfl) rfl rfl rfl
    · exact step_b5 rfl 1 (by omega) rfl rfl
    · exact step_gl5 rfl 1 rfl _ CC rfl
    · exact step_e5 rfl 3 rfl (by kernel_rfl) _ _ rfl _ E3 rfl
    · exact step_mul5 rfl 15 16 4 5 _ _ rfl (by kernel_rfl) (by kernel_rfl) rfl rfl rfl
    · exact step_e5 rfl 4 rfl (by kernel_rfl) _ _ rfl _ E4 rfl
    · exact step_mul5 rfl 17 18 6 7 _ _ rfl (by kernel_rfl) (by kernel_rfl) rfl rfl rfl
    · exact step_add5 rfl 14 19 3 8 _ _ rfl (by kernel_rfl) (by kernel_rfl) rfl rfl rfl
    · exact step_eq5 rfl 13 20 2 9 _ _ rfl (by kernel_rfl) (by kernel_rfl) rfl rfl rfl
    · exact step_move rfl 21 10 (by exact Or.inr rfl) (by kernel_rfl) rfl
  intro A W hb hw hF
  have e2 := hF 11 2 (by kernel_rfl)
  obtain ⟨vs, hvs⟩ : ∃ vs : Nat → Value, ∀ d, A.tmps.getD d undef = vs d := ⟨_, fun _ => rfl⟩
  rw [hvs] at e2
  rw [puts_of (md := .any) (k := 12) (by kernel_rfl) rfl hb vs hvs]
  have N9 := nxt N hw
  clear hb hF hvs hw
  have e3 : vs 2 = .bool (onB D X Y) := e2
  clear e2
  simp only [puts, e3, Act.put, List.setIfInBounds_toArray, List.set_cons_succ, List.set_cons_zero]
  go_wp2
  go_ret
  exact ⟨rfl, N9⟩
section
variable {ops : Array Oper} {Q : Exit → Act → World → Prop} {md : Region.Mode} {F : Nat → Fact} {a0 : Act} {w0 : World} {i : Nat} {o : Oper} {ts : Array TypeId}
theorem step_re (hi : ops[i]? = some o) (p j : Nat) {a : Option Addr} {c : Nat} {xs : List Int} (hop : o.op = .call { callee := .value (.func 65), args := #[.tmp p], argTypes := ts })
    (hj : waits md ops i j p = true) (hO : OfOk w0 a xs) (hFj : F j = Fact.eq (.slice a xs.length c)) (hFi : F i = EM (num xs)) : StepOk Tryd.prog md ops Q F a0 w0 i := by
  obtain ⟨g, hr, hb, hl⟩ := hO
  refine step_call hi _ _ ts hop (by kernel_rfl) fun A w _ hw hF => ?_
  have ea := hF j p hj
  rw [hFj] at ea
  show Calls Tryd.prog 65 #[A.tmps.getD p undef] w _
  have e1 : A.tmps.getD p undef = .slice a 32 c := by rw [← hl]; exact ea
  rw [e1]
  refine (readElement_any w g a c xs (hr.up hw) hb hl).mono ?_
  rintro r w' ⟨rfl, n⟩
  rw [hFi]
  exact ⟨_, rfl, n, elt xs, rfl, elt_ok hb hl⟩
theorem step_ion (TT : HasTw w0 2) {D : Int} (CC : Em5 w0 1 0 D) (hi : ops[i]? = some o) (p j : Nat) (A B : Int) (hop : o.op = .call { callee := .value (.func 66), args := #[.tmp p], argTypes := ts })
    (hj : waits md ops i j p = true) (hFj : F j = EN [A, B]) (hFi : F i = Fact.eq (.bool (onB D A B))) : StepOk Tryd.prog md ops Q F a0 w0 i := by
  refine step_call hi _ _ ts hop (by kernel_rfl) fun a w _ hw hF => ?_
  have ea := hF j p hj
  rw [hFj] at ea
  obtain ⟨t, e1, L1⟩ := ea
  show Calls Tryd.prog 66 #[a.tmps.getD p undef] w _
  rw [e1]
  refine (isOn_any w t D A B L1 (TT.up hw) (CC.up hw)).mono ?_
  rintro r w' ⟨rfl, hn⟩
  rw [hFi]
  exact ⟨_, rfl, hn, rfl⟩
end
/-- What readPoint reads: the coordinates, or zeros. -/
def rpC (xs ys : List Int) : Bool := canN xs && canN ys
def rpX (xs ys : List Int) : Int := if rpC xs ys = true then num xs else 0
def rpY (xs ys : List Int) : Int := if rpC xs ys = true then num ys else 0
def rpB (D : Int) (xs ys : List Int) : Bool := rpC xs ys && onB D (num xs) (num ys)
set_option maxHeartbeats 4000000 in
theorem readPoint_any (w : World) (g g' : Nat) (a a' : Option Addr) (c c' : Nat) (xs ys : List Int) (hx : Rd w g a .u8 xs) (hy : Rd w g' a' .u8 ys) (bx : Byt xs) (by' : Byt ys) (D : Int) (TT : HasTw w 2) (CC : Em5 w 1 0 D) :
    Calls Tryd.prog 28 #[.agg #[.slice a xs.length c, .slice a' ys.length c']] w fun r w' => ∃ es, r = .returned (.tuple #[agN es, .bool (rpB D xs ys)]) ∧ IsN es [rpX xs ys, rpY xs ys] ∧ Below w.heap.size w w' := by
  have T := two_cells w (.slice a xs.length c) (.slice a' ys.length c') 26
  have m1 : Below w.heap.size w (w.alloc (.cells #[.slice a xs.length c, .slice a' ys.length c'] 26)) := (Below.refl _ _).alloc (Nat.le_refl _) _
  have s1 : (w.alloc (.cells #[.slice a xs.length c, .slice a' ys.length c'] 26)).heap.size = w.heap.size + 1 := by simp
  have CN := fun W h => implFieldCanonical_any W g a c xs h bx
  have CM := fun W h => implFieldCanonical_any W g' a' c' ys h by'
  obtain ⟨CX, CY⟩ := T
  go_enter Tryd.func28, Tryd.ntmps28
  go_upto_region 1 with fail
  generalize w.alloc (.cells #[.slice a xs.length c, .slice a' ys.length c'] 26) = wa at *
  have TR : (wa.alloc zA).there wa.heap.size 0 10 := there_new wa _ _
  have RZ : RowN (wa.alloc zA) wa.heap.size 0 [0, 0] := rowN_new wa 51 (es := [sm5 0, sm5 0]) ⟨sm5_ok (by omega) (by omega), sm5_ok (by omega) (by omega), trivial⟩
  have mz : Below wa.heap.size wa (wa.alloc zA) := (Below.refl _ _).alloc (Nat.le_refl _) _
  rw [s1] at TR RZ
  have N := nxt m1 mz
  replace CX := (mz.cell (block_lt_of_cell CX)).trans CX
  replace CY := (mz.cell (block_lt_of_cell CY)).trans CY
  obtain ⟨wr, hwr⟩ : ∃ W, W = wa.alloc zA := ⟨_, rfl⟩
  rw [← hwr] at TR RZ N CX CY
  change Code.wp _ _ _ _ (wa.alloc zA)
  rw [← hwr]
  clear hwr m1 mz s1
  have RX := hx.up N
  have RY := hy.up N
  clear hx hy
  replace TT := TT.up N
  replace CC := CC.up N
  have bad : rpC xs ys = false → rpB D xs ys = false ∧ rpX xs ys = 0 ∧ rpY xs ys = 0 := fun h => by
    unfold rpB rpX rpY
    rw [h]
    simp
  have BAD := hide bad
  clear bad
  cases hk : canN xs with
  | false =>
    obtain ⟨b1, b2, b3⟩ := BAD.out (by unfold rpC; rw [hk]; rfl)
    simp only [hk] at CN
    go_wp2_with fail
    refine (CN wr RX).mono ?_
    rintro e w1 ⟨rfl, n1⟩
    replace N := nxt N n1
    replace RZ := RZ.up n1
    replace TR := there_up (by omega) TR n1
    clear CN CM n1 CX CY RX RY TT CC
    go_upto_region 2 with fail
    refine region_putN_asgc 51 1 0 2 15 3 _ _ (fun i => [EN [0, 0]].getD i Fact.no) [0, 0] (.bool false) _ (by kernel_rfl) rfl rfl rfl rfl rfl rfl iA (Nat.zero_lt_succ _) (by kernel_rfl) rfl TR rfl (by kernel_rfl) rfl (by kernel_rfl) ?_ ?_
    · intro i hi
      obtain rfl : i = 0 := by omega
      exact step_b0A rfl rfl rfl
    intro vs4 Wa Wb vb na bq RL nb
    have NS := nb w w.heap.size (nxt N na) (by omega)
    simp only [puts, vb, Act.put, List.setIfInBounds_toArray, List.set_cons_succ, List.set_cons_zero]
    clear vb bq nb na N TR RZ
    go_wp2
    obtain ⟨es, rg, _, ht⟩ := RL
    have lz := clN_len ht
    obtain ⟨fs, hfs⟩ := uA
    exact bodyPost_ret (v := .tuple #[agN es, .bool false]) (results_cell_slot Tryd.results28 _ _ (w.heap.size + 1) (clN es) _ rfl rfl rg hfs rfl (by rw [lz]; exact iA)) rfl ⟨es, by rw [b1], by rw [b2, b3]; exact ht, NS⟩
  | true =>
    simp only [hk] at CN
    go_wp2_with fail
    refine (CN wr RX).mono ?_
    rintro e w1 ⟨rfl, n1⟩
    replace N := nxt N n1
    replace RZ := RZ.up n1
    replace TR := there_up (by omega) TR n1
    replace RX := RX.up n1
    replace RY := RY.up n1
    replace CX := (n1.cell (block_lt_of_cell CX)).trans CX
    replace CY := (n1.cell (block_lt_of_cell CY)).trans CY
    replace TT := TT.up n1
    replace CC := CC.up n1
    clear CN n1
    cases hl : canN ys with
    | false =>
      obtain ⟨b1, b2, b3⟩ := BAD.out (by unfold rpC; rw [hk, hl]; rfl)
      simp only [hl] at CM
      go_wp2_with fail
      refine (CM w1 RY).mono ?_
      rintro e w2 ⟨rfl, n1⟩
      replace N := nxt N n1
      replace RZ := RZ.up n1
      replace TR := there_up (by omega) TR n1
      clear CM n1 CX CY RX RY TT CC
      go_upto_region 2 with fail
      refine region_putN_asgc 51 1 0 2 15 3 _ _ (fun i => [EN [0, 0]].getD i Fact.no) [0, 0] (.bool false) _ (by kernel_rfl) rfl rfl rfl rfl rfl rfl iA (Nat.zero_lt_succ _) (by kernel_rfl) rfl TR rfl (by kernel_rfl) rfl (by kernel_rfl) ?_ ?_
      · intro i hi
        obtain rfl : i = 0 := by omega
        exact step_b0A rfl rfl rfl
      intro vs4 Wa Wb vb na bq RL nb
      have NS := nb w w.heap.size (nxt N na) (by omega)
      simp only [puts, vb, Act.put, List.setIfInBounds_toArray, List.set_cons_succ, List.set_cons_zero]
      clear vb bq nb na N TR RZ
      go_wp2
      obtain ⟨es, rg, _, ht⟩ := RL
      have lz := clN_len ht
      obtain ⟨fs, hfs⟩ := uA
      exact bodyPost_ret (v := .tuple #[agN es, .bool false]) (results_cell_slot Tryd.results28 _ _ (w.heap.size + 1) (clN es) _ rfl rfl rg hfs rfl (by rw [lz]; exact iA)) rfl ⟨es, by rw [b1], by rw [b2, b3]; exact ht, NS⟩
    | true =>
      have RC : rpC xs ys = true := by unfold rpC; rw [hk, hl]; rfl
      have b1 : rpB D xs ys = onB D (num xs) (num ys) := by unfold rpB; rw [RC]; rfl
      have b2 : rpX xs ys = num xs := by unfold rpX; rw [if_pos RC]
      have b3 : rpY xs ys = num ys := by unfold rpY; rw [if_pos RC]
      replace b1 := hide b1
      replace b2 := hide b2
      replace b3 := hide b3
      have OX := hide (fun W (n : Below w1.heap.size w1 W) => of_ok (RX.up n) bx (can_len hk))
      have OY := hide (fun W (n : Below w1.heap.size w1 W) => of_ok (RY.up n) by' (can_len hl))
      simp only [hl] at CM
      clear hk hl RC BAD
      go_wp2_with fail
      refine (CM w1 RY).mono ?_
      rintro e w2 ⟨rfl, n1⟩
      replace N := nxt N n1
      replace TR := there_up (by omega) TR n1
      replace OX := hide (OX.out w2 n1)
      replace OY := hide (OY.out w2 n1)
      replace CX := (n1.cell (block_lt_of_cell CX)).trans CX
      replace CY := (n1.cell (block_lt_of_cell CY)).trans CY
      replace TT := TT.up n1
      replace CC := CC.up n1
      clear CM n1 RX RY RZ
      go_upto_region 3 with fail
      refine region_newN 51 8 7 6 4 22 _ (fun i => [Fact.eq (.pointer (some ⟨w.heap.size, 0, none⟩)), Fact.eq (.slice a xs.length c), EM (num xs), Fact.eq (.pointer (some ⟨w.heap.size, 1, none⟩)), Fact.eq (.slice a' ys.length c'), EM (num ys), EN [num xs, num ys], NB w2 10].getD i Fact.no) [num xs, num ys] (by kernel_rfl) rfl rfl rfl iA (Nat.zero_lt_succ _) (by kernel_rfl) (by kernel_rfl) rfl rfl ?_ ?_
      · intro i hi
        obtain rfl | rfl | rfl | rfl | rfl | rfl | rfl | rfl : i = 0 ∨ i = 1 ∨ i = 2 ∨ i = 3 ∨ i = 4 ∨ i = 5 ∨ i = 6 ∨ i = 7 := by omega
        · exact step_fld rfl 26 1 0 rfl (by kernel_rfl) _ _ rfl (fxP _) rfl
        · exact step_lds rfl 16 0 rfl (by kernel_rfl) _ _ rfl _ _ _ CX rfl
        · exact step_re rfl 17 1 rfl (by kernel_rfl) OX.out rfl rfl
        · exact step_fld rfl 26 1 1 rfl (by kernel_rfl) _ _ rfl (fyP _) rfl
        · exact step_lds rfl 19 3 rfl (by kernel_rfl) _ _ rfl _ _ _ CY rfl
        · exact step_re rfl 20 4 rfl (by kernel_rfl) OY.out rfl rfl
        · exact step_bA rfl 18 21 2 5 _ _ rfl (by kernel_rfl) (by kernel_rfl) rfl rfl rfl
        · exact step_newA rfl rfl rfl
      intro vs3 q4 W3 v4 l4 n E4 T4
      replace TT := TT.up n
      replace CC := CC.up n
      replace N := nxt N n
      replace TR := there_up (by omega) TR n
      clear n T4 CX CY OX OY
      simp only [puts, v4, Act.put, List.setIfInBounds_toArray, List.set_cons_succ, List.set_cons_zero]
      clear v4
      go_upto_region 4 with fail
      refine region_putN_asg 51 3 0 2 23 2 25 3 _ _ (fun i => [EN [num xs, num ys], EN [num xs, num ys], Fact.eq (.bool (onB D (num xs) (num ys)))].getD i Fact.no) [num xs, num ys] (.bool (onB D (num xs) (num ys))) _ (by kernel_rfl) rfl rfl rfl rfl rfl rfl iA (Nat.zero_lt_succ _) (by kernel_rfl) rfl TR rfl rfl (by kernel_rfl) (by kernel_rfl) rfl rfl (by kernel_rfl) ?_ ?_
      · intro i hi
        obtain rfl | rfl | rfl : i = 0 ∨ i = 1 ∨ i = 2 := by omega
        · exact step_lA rfl 4 rfl (by kernel_rfl) _ rfl _ _  E4 rfl
        · exact step_lA rfl 4 rfl (by kernel_rfl) _ rfl _ _  E4 rfl
        · exact step_ion TT CC rfl 24 1 _ _ rfl (by kernel_rfl) rfl rfl
      intro vs4 Wa Wb vb na bq RL nb
      have NS := nb w w.heap.size (nxt N na) (by omega)
      simp only [puts, vb, Act.put, List.setIfInBounds_toArray, List.set_cons_succ, List.set_cons_zero]
      clear vb bq nb na N TR E4 TT CC
      go_wp2
      obtain ⟨es, rg, _, ht⟩ := RL
      have lz := clN_len ht
      obtain ⟨fs, hfs⟩ := uA
      exact bodyPost_ret (v := .tuple #[agN es, .bool (onB D (num xs) (num ys))]) (results_cell_slot Tryd.results28 _ _ (w.heap.size + 1) (clN es) _ rfl rfl rg hfs rfl (by rw [lz]; exact iA)) rfl ⟨es, by rw [b1.out], by rw [b2.out, b3.out]; exact ht, NS⟩
end Go.Proofs.YtnaaanefndeafaaDoor

/-
  The program's factor of the curve is the model's, its points are the model's points. Numbers alone.
-/
namespace Go.Proofs.YtnaaanefndeafaaDoor
set_option maxRecDepth 100000

/-- The limbs of the program's factor. -/
def dL : Nat → Int
  | 0 => 929955233495203
  | 1 => 466365720129213
  | 2 => 1662059464998953
  | 3 => 2033849074728123
  | 4 => 1442794654840575
  | _ => 0
theorem dL_lm : Lm dL := by unfold Lm; decide
def dGo : Int := 37095705934669439343138083508754565189542113879843219016388785533085940283555
theorem dL_is : Is5 dL dGo := ⟨dL_lm, by decide +kernel⟩
theorem dGo_is : PP ∣ dGo - d0 := by decide +kernel
theorem onB_valid (x y : Int) : onB dGo x y = validN x y := by
  have h : (1 + dGo * (x * x) * (y * y)) % PP = (1 + dE * (x * x * (y * y))) % PP := by
    have k := dE_is
    have l := dGo_is
    refine cong_dvd ?_
    generalize dE = E at *
    generalize dGo = G at *
    generalize d0 = d at *
    exact dv2 l k (c1 := x * x * (y * y)) (c2 := -(x * x * (y * y))) (by grind)
  unfold onB validN
  rw [h]
theorem rp_valid (xs ys : List Int) : rpB dGo xs ys = validP xs ys := by
  unfold rpB validP rpC
  rw [onB_valid]
theorem rpC_of {xs ys : List Int} (h : validP xs ys = true) : rpC xs ys = true := by
  unfold validP at h
  unfold rpC
  simp only [Bool.and_eq_true] at h ⊢
  exact h.1
theorem rpX_of {xs ys : List Int} (h : validP xs ys = true) : rpX xs ys = num xs := by unfold rpX; rw [if_pos (rpC_of h)]
theorem rpY_of {xs ys : List Int} (h : validP xs ys = true) : rpY xs ys = num ys := by unfold rpY; rw [if_pos (rpC_of h)]
theorem on_of {xs ys : List Int} (h : validP xs ys = true) : OnP PP (-1) d0 (num xs, num ys) := by
  unfold validP at h
  simp only [Bool.and_eq_true] at h
  exact valid_on h.2
end Go.Proofs.YtnaaanefndeafaaDoor

/-
  What the listed package-level variables give the points' calls.
-/
namespace Go.Proofs.YtnaaanefndeafaaDoor
set_option maxRecDepth 100000
open Go.RowKit

theorem gCf : Tryd.prog.globalNamed "loop.example/g00004/impl.curveFactor" = some 1 := by kernel_rfl
theorem tCf : (Tryd.prog.globals[1]?).map (·.type) = some 49 := by kernel_rfl
theorem uEl : Tryd.prog.underlying 49 = some (.array 5 47) := by kernel_rfl
theorem cEl : Tryd.prog.cellsOf 49 = 5 := by kernel_rfl
theorem cf_of_reads {W : World} (h : Lib.VarReads Tryd.prog W "loop.example/g00004/impl.curveFactor" Rows.laid_loop_example_g00004_impl_curveFactor) : Em5 W 1 0 dGo := by
  obtain ⟨g, t, cs, fuel, p, hg, ht, hv, hd⟩ := h
  obtain rfl := Option.some.inj (gCf.symm.trans hg)
  obtain rfl := Option.some.inj (tCf.symm.trans ht)
  have hcs := Lib.cells_of_tab (zs := [929955233495203, 466365720129213, 1662059464998953, 2033849074728123, 1442794654840575]) uEl Tryd.underlying47 cU64 cEl hd
  obtain ⟨l⟩ := cs
  simp only at hcs
  subst hcs
  have key : ∀ j v, (cl5 dL)[j]? = some v → W.cell? ⟨1, 0 + j, none⟩ = some v := fun j v hv' => by
    rw [Nat.zero_add, World.var?_cell hg hv j, List.getElem?_toArray]
    exact hv'
  exact ⟨dL, key, block_lt_of_cell (by simpa using key 0 _ rfl), dL_is⟩
theorem gZp : Tryd.prog.globalNamed "loop.example/g00004/impl.zeroPoint" = some 0 := by kernel_rfl
theorem tZp : (Tryd.prog.globals[0]?).map (·.type) = some 51 := by kernel_rfl
theorem cAf : Tryd.prog.cellsOf 51 = 10 := by kernel_rfl
theorem row_of_reads {W : World} {n : String} {g : Nat} (e f : Nat → Int) (X Y : Int) (hn : Tryd.prog.globalNamed n = some g) (ht : (Tryd.prog.globals[g]?).map (·.type) = some 51)
    (h : Lib.VarReads Tryd.prog W n (.agg [.agg [.lit (.int .u64 (e 0)), .lit (.int .u64 (e 1)), .lit (.int .u64 (e 2)), .lit (.int .u64 (e 3)), .lit (.int .u64 (e 4))], .agg [.lit (.int .u64 (f 0)), .lit (.int .u64 (f 1)), .lit (.int .u64 (f 2)), .lit (.int .u64 (f 3)), .lit (.int .u64 (f 4))]]))
    (hx : Is5 e X) (hy : Is5 f Y) : RowN W g 0 [X, Y] := by
  obtain ⟨g', t, cs, fuel, p, hg, ht', hv, hd⟩ := h
  obtain rfl := Option.some.inj (hn.symm.trans hg)
  obtain rfl := Option.some.inj (ht.symm.trans ht')
  obtain ⟨y0, y1, m, hx', hl, h0, h1⟩ := ChangeShapes.trod_struct2 Tryd.underlying51 hd
  obtain ⟨d0, p0⟩ := y0
  obtain ⟨d1, p1⟩ := y1
  simp only [Prod.mk.injEq, DataW.agg.injEq, List.cons.injEq, and_true] at hx'
  obtain ⟨⟨rfl, rfl⟩, _⟩ := hx'
  have k0 := Lib.cells_of_tab (zs := [e 0, e 1, e 2, e 3, e 4]) uEl Tryd.underlying47 cU64 cEl h0
  have k1 := Lib.cells_of_tab (zs := [f 0, f 1, f 2, f 3, f 4]) uEl Tryd.underlying47 cU64 cEl h1
  rw [cAf] at hl
  obtain ⟨l⟩ := cs
  simp only at hl k0 k1
  rw [cEl] at k0 k1
  have e1 : l = clN [e, f] := by
    have s : l = (l.drop 0).take 5 ++ (l.drop 5).take 5 := by
      rw [List.drop_zero, List.take_of_length_le (l := l.drop 5) (by rw [List.length_drop]; omega), List.take_append_drop]
    rw [s]
    have k0' : (l.drop 0).take 5 = cl5 e := k0
    have k1' : (l.drop 5).take 5 = cl5 f := k1
    rw [k0', k1']
    simp [clN]
  subst e1
  have key : ∀ j v, (clN [e, f])[j]? = some v → W.cell? ⟨g, 0 + j, none⟩ = some v := fun j v hv' => by
    rw [Nat.zero_add, World.var?_cell hg hv j]
    simpa using hv'
  exact ⟨[e, f], key, block_lt_of_cell (by simpa using key 0 _ rfl), hx, hy, trivial⟩
theorem zp_of_reads {W : World} (h : Lib.VarReads Tryd.prog W "loop.example/g00004/impl.zeroPoint" Rows.laid_loop_example_g00004_impl_zeroPoint) : RowN W 0 0 [0, 1] :=
  row_of_reads (sm5 0) (sm5 1) 0 1 gZp tZp h (sm5_ok (by omega) (by omega)) (sm5_ok (by omega) (by omega))
end Go.Proofs.YtnaaanefndeafaaDoor

/-
  Steps: the program's calls on points.
-/
namespace Go.Proofs.YtnaaanefndeafaaDoor
set_option maxRecDepth 100000
open Go Go.RowKit

theorem field_X (x y z t : Nat → Int) (w : World) : (Instr.field 94 (agN [x, y, z, t]) 0).run Tryd.prog w = .ok (agN [x, y, z]) w := by kernel_rfl
/-- A list of bytes that may be read. -/
def RdOk (W : World) (a : Option Addr) (xs : List Int) : Prop := ∃ g, Rd W g a .u8 xs ∧ Byt xs
theorem RdOk.up {W W' : World} {a : Option Addr} {xs : List Int} (h : RdOk W a xs) (n : Below W.heap.size W W') : RdOk W' a xs := by
  obtain ⟨g, r, b⟩ := h
  exact ⟨g, r.up n, b⟩
theorem Two.there {w : World} {p : Nat} {x y : Value} (h : Two w p x y) : w.there p 0 2 := fun j hj => by
  obtain rfl | rfl : j = 0 ∨ j = 1 := by omega
  · exact ⟨by rw [show (⟨p, 0 + 0, none⟩ : Addr) = ⟨p, 0, none⟩ from rfl, h.c0]; rfl, h.f0⟩
  · exact ⟨by rw [show (⟨p, 0 + 1, none⟩ : Addr) = ⟨p, 1, none⟩ from rfl, h.c1]; rfl, h.f1⟩
section
variable {ops : Array Oper} {Q : Exit → Act → World → Prop} {md : Region.Mode} {F : Nat → Fact} {a0 : Act} {w0 : World} {i : Nat} {o : Oper} {ts : Array TypeId}
theorem step_ext (hi : ops[i]? = some o) (p j : Nat) (A B : Int) (hop : o.op = .call { callee := .value (.func 71), args := #[.tmp p], argTypes := ts })
    (hj : waits md ops i j p = true) (hFj : F j = EN [A, B]) (hFi : F i = EN [A, B, 1, A * B]) : StepOk Tryd.prog md ops Q F a0 w0 i :=
  step_oneN hi _ p hop (by kernel_rfl) j _ _ (fun w es _ he => toExt_any w es A B he) hj hFj hFi
theorem step_xadd (TT : HasTw w0 2) {D : Int} (CC : Em5 w0 1 0 D) (hi : ops[i]? = some o) (p q j k : Nat) (X Y Z T X' Y' Z' T' : Int) (hop : o.op = .call { callee := .value (.func 69), args := #[.tmp p, .tmp q], argTypes := ts })
    (hj : waits md ops i j p = true) (hk : waits md ops i k q = true) (hFj : F j = EN [X, Y, Z, T]) (hFk : F k = EN [X', Y', Z', T'])
    (hFi : F i = EN [xaR X Y X' Y' * ybR Z T Z' T' D, yaR X Y X' Y' * xbR Z T Z' T' D, xbR Z T Z' T' D * ybR Z T Z' T' D, xaR X Y X' Y' * yaR X Y X' Y']) : StepOk Tryd.prog md ops Q F a0 w0 i :=
  step_twoN hi _ p q hop (by kernel_rfl) j k _ _ _ (fun w es fs hw he hf => extAdd_any w D es fs T T' X X' Y Y' Z Z' he hf (TT.up hw) (CC.up hw)) hj hk hFj hFk hFi
theorem step_fldX (hi : ops[i]? = some o) (p j : Nat) (A B C T : Int) (hop : o.op = .field 94 (.tmp p) 0)
    (hj : waits md ops i j p = true) (hFj : F j = EN [A, B, C, T]) (hFi : F i = EN [A, B, C]) : StepOk Tryd.prog md ops Q F a0 w0 i := by
  refine step_pure hi fun a w _ _ hf => ?_
  have h1 := hf j p hj
  rw [hFj] at h1
  obtain ⟨es, e1, X⟩ := h1
  obtain ⟨x, y, z, t, rfl, hx, hy, hz, ht⟩ := isN4 X
  refine ⟨agN [x, y, z], ?_, by rw [hFi]; exact ⟨_, rfl, hx, hy, hz, trivial⟩⟩
  have g1 : a.eval (.tmp p) = agN [x, y, z, t] := e1
  simp only [execOp, hop, g1]
  rw [Sem.run_bind, field_X]
  rfl
theorem step_aff (SS : HasSt w0 6) (II : Has3 w0 3 12 5 4) (hi : ops[i]? = some o) (p j : Nat) (X Y Z : Int) (hop : o.op = .call { callee := .value (.func 74), args := #[.tmp p], argTypes := ts })
    (hj : waits md ops i j p = true) (hFj : F j = EN [X, Y, Z]) (hFi : F i = EN [X * Z ^ eInv, Y * Z ^ eInv]) : StepOk Tryd.prog md ops Q F a0 w0 i :=
  step_oneN hi _ p hop (by kernel_rfl) j _ _ (fun w es hw he => toAffine_any w es X Y Z he (SS.up hw) (II.up hw)) hj hFj hFi
theorem step_pt (hi : ops[i]? = some o) (p j : Nat) (X Y : Int) (hop : o.op = .call { callee := .value (.func 31), args := #[.tmp p], argTypes := ts })
    (hj : waits md ops i j p = true) (hFj : F j = EN [X, Y]) (hFi : F i = PD w0 (fill (byt (X % PP)) 32) (fill (byt (Y % PP)) 32)) : StepOk Tryd.prog md ops Q F a0 w0 i := by
  refine step_call hi _ _ ts hop (by kernel_rfl) fun a w _ hw hF => ?_
  have ea := hF j p hj
  rw [hFj] at ea
  obtain ⟨t, e1, L1⟩ := ea
  show Calls Tryd.prog 31 #[a.tmps.getD p undef] w _
  rw [e1]
  refine (point_any w t X Y L1).mono ?_
  rintro r w' ⟨⟨b, c, g, b', c', g', rfl, o1, o2, k1, k2, hne⟩, hn⟩
  rw [hFi]
  have z := hw.size
  exact ⟨_, rfl, hn, b, b', c, c', g, g', rfl, o1, o2, by omega, by omega, hne⟩
/-- A struct of two cells is read. -/
theorem step_lP (hi : ops[i]? = some o) (p : Nat) (hop : o.op = .load 26 (.tmp p)) (hp : apart ops p = true) (q : Nat) (h0 : a0.tmps.getD p undef = .pointer (some ⟨q, 0, none⟩)) (u v : Value) (c0 : w0.cell? ⟨q, 0, none⟩ = some u) (c1 : w0.cell? ⟨q, 1, none⟩ = some v) (hF : F i = Fact.eq (.agg #[u, v])) : StepOk Tryd.prog md ops Q F a0 w0 i := by
  obtain ⟨fs, hu⟩ := uP
  refine step_load hi _ _ hop _ 2 hu rfl iP fun a w hb hw _ => ?_
  refine ⟨q, 0, [u, v], (based_at hb p hp).trans h0, fun j x hx => ?_, rfl, by rw [hF]; exact rfl⟩
  have d0 := (hw.cell (block_lt_of_cell c0)).trans c0
  have d1 := (hw.cell (block_lt_of_cell c1)).trans c1
  have hj : j < 2 := (List.getElem?_eq_some_iff.1 hx).1
  obtain rfl | rfl : j = 0 ∨ j = 1 := by omega
  · cases hx
    exact d0
  · cases hx
    exact d1
theorem step_rp (TT : HasTw w0 2) {D : Int} (CC : Em5 w0 1 0 D) (hi : ops[i]? = some o) (p j : Nat) {a a' : Option Addr} {c c' : Nat} {xs ys : List Int} (hop : o.op = .call { callee := .value (.func 28), args := #[.tmp p], argTypes := ts })
    (hj : waits md ops i j p = true) (hX : RdOk w0 a xs) (hY : RdOk w0 a' ys) (hFj : F j = Fact.eq (.agg #[.slice a xs.length c, .slice a' ys.length c'])) (hFi : F i = TB [rpX xs ys, rpY xs ys] (rpB D xs ys)) : StepOk Tryd.prog md ops Q F a0 w0 i := by
  refine step_call hi _ _ ts hop (by kernel_rfl) fun A w _ hw hF => ?_
  have ea := hF j p hj
  rw [hFj] at ea
  show Calls Tryd.prog 28 #[A.tmps.getD p undef] w _
  rw [show A.tmps.getD p undef = _ from ea]
  obtain ⟨g, r1, b1⟩ := hX
  obtain ⟨g', r2, b2⟩ := hY
  refine (readPoint_any w g g' a a' c c' xs ys (r1.up hw) (r2.up hw) b1 b2 D (TT.up hw) (CC.up hw)).mono ?_
  rintro r w' ⟨es, rfl, L, hn⟩
  rw [hFi]
  exact ⟨_, rfl, hn, es, rfl, L⟩
end
end Go.Proofs.YtnaaanefndeafaaDoor

/-
  The program's sum of two points of two coordinates.
-/
namespace Go.Proofs.YtnaaanefndeafaaDoor
set_option maxRecDepth 100000
open Go Go.RowKit

section
variable {ops : Array Oper} {Q : Exit → Act → World → Prop} {md : Region.Mode} {F : Nat → Fact} {a0 : Act} {w0 : World} {i : Nat} {o : Oper} {ts : Array TypeId}
end
end Go.Proofs.YtnaaanefndeafaaDoor

/-
  The program's calls on points, but for scaling and their forms as bytes.
-/
namespace Go.Proofs.YtnaaanefndeafaaDoor
set_option maxRecDepth 100000
open Go Go.RowKit

set_option maxHeartbeats 2000000 in
theorem implValid_any (w : World) (g g' : Nat) (a a' : Option Addr) (c c' : Nat) (xs ys : List Int) (hx : Rd w g a .u8 xs) (hy : Rd w g' a' .u8 ys) (bx : Byt xs) (by' : Byt ys) (D : Int) (TT : HasTw w 2) (CC : Em5 w 1 0 D) :
    Calls Tryd.prog 22 #[.agg #[.slice a xs.length c, .slice a' ys.length c']] w fun r w' => r = .returned (.bool (rpB D xs ys)) ∧ Below w.heap.size w w' := by
  have T := two_cells w (.slice a xs.length c) (.slice a' ys.length c') 26
  have m1 : Below w.heap.size w (w.alloc (.cells #[.slice a xs.length c, .slice a' ys.length c'] 26)) := (Below.refl _ _).alloc (Nat.le_refl _) _
  have s1 : (w.alloc (.cells #[.slice a xs.length c, .slice a' ys.length c'] 26)).heap.size = w.heap.size + 1 := by simp
  have RX : RdOk w a xs := ⟨g, hx, bx⟩
  have RY : RdOk w a' ys := ⟨g', hy, by'⟩
  obtain ⟨CX, CY⟩ := T
  clear hx hy bx by'
  go_enter Tryd.func22, Tryd.ntmps22
  go_upto_region 1 with fail
  generalize w.alloc (.cells #[.slice a xs.length c, .slice a' ys.length c'] 26) = wa at *
  have N := m1
  clear m1 s1
  replace RX := RX.up N
  replace RY := RY.up N
  replace TT := TT.up N
  replace CC := CC.up N
  refine region_newN_asg 51 6 5 3 3 8 4 9 4 _ _ (fun i => [Fact.eq (.agg #[.slice a xs.length c, .slice a' ys.length c']), TB [rpX xs ys, rpY xs ys] (rpB D xs ys), TB [rpX xs ys, rpY xs ys] (rpB D xs ys), EN [rpX xs ys, rpY xs ys], Fact.eq (.bool (rpB D xs ys)), NB wa 10].getD i Fact.no) [rpX xs ys, rpY xs ys] (.bool (rpB D xs ys)) (by kernel_rfl) rfl rfl rfl rfl rfl rfl iA (Nat.zero_lt_succ _) rfl rfl rfl (by kernel_rfl) (by kernel_rfl) (by kernel_rfl) rfl rfl rfl (by decide) (by kernel_rfl) ?_ ?_
  · intro i hi
    obtain rfl | rfl | rfl | rfl | rfl | rfl : i = 0 ∨ i = 1 ∨ i = 2 ∨ i = 3 ∨ i = 4 ∨ i = 5 := by omega
    · exact step_lP rfl 1 rfl (by kernel_rfl) _ rfl _ _ CX CY rfl
    · exact step_rp TT CC rfl 6 0 rfl (by kernel_rfl) RX RY rfl rfl
    · exact step_move rfl 7 1 (by exact Or.inl rfl) (by kernel_rfl) rfl
    · exact step_tx0 rfl 5 2 _ _ rfl (by kernel_rfl) rfl rfl
    · exact step_tx1 rfl 5 2 _ _ rfl (by kernel_rfl) rfl rfl
    · exact step_newA rfl rfl rfl
  intro vs1 q3 W1 v3 b4 l3 n E3 T3
  replace RX := RX.up n
  replace RY := RY.up n
  replace TT := TT.up n
  replace CC := CC.up n
  replace CX := (n.cell (block_lt_of_cell CX)).trans CX
  replace CY := (n.cell (block_lt_of_cell CY)).trans CY
  replace N := nxt N n
  clear n T3 l3
  obtain ⟨ok1, hok1⟩ : ∃ b, b = rpB D xs ys := ⟨_, rfl⟩
  rw [← hok1] at b4
  have HK1 := hide hok1
  clear hok1
  simp only [puts, v3, b4, Act.put, List.setIfInBounds_toArray, List.set_cons_succ, List.set_cons_zero]
  clear v3 b4
  go_wp2
  go_ret
  exact ⟨by rw [← HK1.out]; rfl, N⟩
/-- The opposite point, as bytes. -/
def ngX (D : Int) (xs ys : List Int) : List Int := if rpB D xs ys = true then fill (byt ((0 - rpX xs ys) % PP)) 32 else []
def ngY (D : Int) (xs ys : List Int) : List Int := if rpB D xs ys = true then fill (byt (rpY xs ys % PP)) 32 else []
/-- The sum over its common denominator. -/
def psX (D X Y X' Y' : Int) : Int := xaR X Y X' Y' * ybR 1 (X * Y) 1 (X' * Y') D
def psY (D X Y X' Y' : Int) : Int := yaR X Y X' Y' * xbR 1 (X * Y) 1 (X' * Y') D
def psZ (D X Y X' Y' : Int) : Int := xbR 1 (X * Y) 1 (X' * Y') D * ybR 1 (X * Y) 1 (X' * Y') D
def adX (D : Int) (xs ys us vs : List Int) : List Int := if (rpB D xs ys && rpB D us vs) = true then fill (byt (psX D (rpX xs ys) (rpY xs ys) (rpX us vs) (rpY us vs) * psZ D (rpX xs ys) (rpY xs ys) (rpX us vs) (rpY us vs) ^ eInv % PP)) 32 else []
def adY (D : Int) (xs ys us vs : List Int) : List Int := if (rpB D xs ys && rpB D us vs) = true then fill (byt (psY D (rpX xs ys) (rpY xs ys) (rpX us vs) (rpY us vs) * psZ D (rpX xs ys) (rpY xs ys) (rpX us vs) (rpY us vs) ^ eInv % PP)) 32 else []
end Go.Proofs.YtnaaanefndeafaaDoor

/-
  Steps of the laws on points: structs of two lists read, copied, held against each other.
-/
namespace Go.Proofs.YtnaaanefndeafaaDoor
set_option maxRecDepth 100000
open Go Go.RowKit

theorem iLP : (Tryd.prog.info? 24).map (·.size) = some 2 := by kernel_rfl
theorem uLP : ∃ fs, Tryd.prog.underlying 24 = some (.struct fs) := ⟨_, Tryd.underlying24⟩
/-- A point of these two lists in blocks of their own. -/
def PR (xs ys : List Int) : Fact := ⟨fun v w => ∃ p q : Nat, v = .agg #[.slice (some ⟨p, 0, none⟩) xs.length xs.length, .slice (some ⟨q, 0, none⟩) ys.length ys.length] ∧ Blk w p .u8 xs ∧ Blk w q .u8 ys, fun n h => by
  obtain ⟨p, q, e, h1, h2⟩ := h
  exact ⟨p, q, e, h1.up n, h2.up n⟩⟩
section
variable {ops : Array Oper} {Q : Exit → Act → World → Prop} {md : Region.Mode} {F : Nat → Fact} {a0 : Act} {w0 : World} {i : Nat} {o : Oper} {ts : Array TypeId}
theorem step_l2 (ty : TypeId) (hu : ∃ fs, Tryd.prog.underlying ty = some (.struct fs)) (hs : (Tryd.prog.info? ty).map (·.size) = some 2) (hi : ops[i]? = some o) (p : Nat) (hop : o.op = .load ty (.tmp p)) (hp : apart ops p = true) (q : Nat) (h0 : a0.tmps.getD p undef = .pointer (some ⟨q, 0, none⟩)) (u v : Value) (T : Two w0 q u v) (hF : F i = Fact.eq (.agg #[u, v])) : StepOk Tryd.prog md ops Q F a0 w0 i := by
  obtain ⟨fs, hu⟩ := hu
  refine step_load hi _ _ hop _ 2 hu rfl hs fun a w hb hw _ => ?_
  refine ⟨q, 0, [u, v], (based_at hb p hp).trans h0, fun j x hx => ?_, rfl, by rw [hF]; exact rfl⟩
  have T' := T.up hw
  have hj : j < 2 := (List.getElem?_eq_some_iff.1 hx).1
  obtain rfl | rfl : j = 0 ∨ j = 1 := by omega
  · cases hx
    exact T'.c0
  · cases hx
    exact T'.c1
theorem step_toP (hi : ops[i]? = some o) (p j : Nat) {a a' : Option Addr} {c c' : Nat} {xs ys : List Int} (hop : o.op = .call { callee := .value (.func 8), args := #[.tmp p], argTypes := ts })
    (hj : waits md ops i j p = true) {g g' : Nat} (hx : Rd w0 g a .u8 xs) (hy : Rd w0 g' a' .u8 ys) (hn : xs.length ≤ 1048576) (hm : ys.length ≤ 1048576) (hFj : F j = Fact.eq (.agg #[.slice a xs.length c, .slice a' ys.length c'])) (hFi : F i = PR xs ys) : StepOk Tryd.prog md ops Q F a0 w0 i := by
  refine step_call hi _ _ ts hop (by kernel_rfl) fun A w _ hw hF => ?_
  have ea := hF j p hj
  rw [hFj] at ea
  show Calls Tryd.prog 8 #[A.tmps.getD p undef] w _
  rw [show A.tmps.getD p undef = _ from ea]
  refine (toPoint_any w g g' a a' c c' xs ys (hx.up hw) (hy.up hw) hn hm).mono ?_
  rintro r w' ⟨p, q, rfl, b1, b2, _, _, hn⟩
  rw [hFi]
  exact ⟨_, rfl, hn, p, q, rfl, b1, b2⟩
theorem step_eqP (hi : ops[i]? = some o) (p q j k : Nat) {a a' : Option Addr} {c c' : Nat} {xs ys : List Int} (hop : o.op = .call { callee := .value (.func 10), args := #[.tmp p, .tmp q], argTypes := ts })
    (hj : waits md ops i j p = true) (hk : waits md ops i k q = true) {g g' : Nat} (hP : PrP w0 g a xs g' a' ys) (hn : xs.length ≤ 1048576) (hm : ys.length ≤ 1048576) (hFj : F j = Fact.eq (.agg #[.slice a xs.length c, .slice a' ys.length c'])) (hFk : F k = PR xs ys) (hFi : F i = Fact.eq (.bool true)) : StepOk Tryd.prog md ops Q F a0 w0 i := by
  refine step_call hi _ _ ts hop (by kernel_rfl) fun A w _ hw hF => ?_
  have ea := hF j p hj
  have eb := hF k q hk
  rw [hFj] at ea
  rw [hFk] at eb
  obtain ⟨p', q', e2, b1, b2⟩ := eb
  show Calls Tryd.prog 10 #[A.tmps.getD p undef, A.tmps.getD q undef] w _
  rw [show A.tmps.getD p undef = _ from ea, e2]
  refine (eqPoint_same w g p' g' q' a _ a' _ c _ c' _ xs ys (hP.up hw) ⟨b1.own0, b2.own0⟩ hn hm).mono ?_
  rintro r w' ⟨rfl, hn⟩
  rw [hFi]
  exact ⟨_, rfl, hn, rfl⟩
end
end Go.Proofs.YtnaaanefndeafaaDoor

/-
  The law of PointValid.
-/
namespace Go.Proofs.YtnaaanefndeafaaDoor
set_option maxRecDepth 100000
open Go Go.RowKit

/-- The tables that the reading of a point needs. -/
def HasB (w : World) : Prop := HasTw w 2 ∧ Em5 w 1 0 dGo
end Go.Proofs.YtnaaanefndeafaaDoor

/-
  The program's PointZero, PointBase, PointToLadder.
-/
namespace Go.Proofs.YtnaaanefndeafaaDoor
set_option maxRecDepth 100000
open Go Go.RowKit

/-- The ladder's coordinate of a point, as bytes. -/
def tlA (D : Int) (xs ys : List Int) : List Int := if rpB D xs ys = true then fill (byt ((1 + rpY xs ys) * (1 - rpY xs ys) ^ eInv % PP)) 32 else []
end Go.Proofs.YtnaaanefndeafaaDoor

/-
  The model's PointAdd.
-/
namespace Go.Proofs.YtnaaanefndeafaaDoor
set_option maxRecDepth 100000
open Go Go.RowKit

theorem of_up5 {W W' : World} {a : Option Addr} {px : List Int} (h : OfOk W a px) (n : Below W.heap.size W W') : OfOk W' a px := by
  obtain ⟨g, r, b, l⟩ := h
  exact ⟨g, r.up n, b, l⟩
theorem valid_len {px py : List Int} (h : validP px py = true) : px.length = 32 ∧ py.length = 32 := by
  unfold validP at h
  simp only [Bool.and_eq_true] at h
  exact ⟨can_len h.1.1, can_len h.1.2⟩
/-- The coordinates of the sum, as bytes; nothing, if one of the points is none. -/
def paX (px py qx qy : List Int) : List Int := if validP px py = true ∧ validP qx qy = true then fill (byt (addX (num px, num py) (num qx, num qy) % PP)) 32 else []
def paY (px py qx qy : List Int) : List Int := if validP px py = true ∧ validP qx qy = true then fill (byt (addY (num px, num py) (num qx, num qy) % PP)) 32 else []
theorem newPt_nil {B : Nat} {w : World} : NewPt B w (.returned (.agg #[.slice none 0 0, .slice none 0 0])) [] [] := ⟨none, none, 0, 0, B, B, rfl, Own.nil _ _ _ _, Own.nil _ _ _ _, Nat.le_refl _, Nat.le_refl _⟩

set_option maxHeartbeats 2000000 in
theorem specPointAdd_any (w : World) (g1 g2 g3 g4 : Nat) (a1 a2 a3 a4 : Option Addr) (c1 c2 c3 c4 : Nat) (px py qx qy : List Int) (hx : Rd w g1 a1 .u8 px) (hy : Rd w g2 a2 .u8 py) (hu : Rd w g3 a3 .u8 qx) (hv : Rd w g4 a4 .u8 qy) (bx : Byt px) (by' : Byt py) (bu : Byt qx) (bv : Byt qy) :
    Calls Tryd.prog 84 #[.agg #[.slice a1 px.length c1, .slice a2 py.length c2], .agg #[.slice a3 qx.length c3, .slice a4 qy.length c4]] w fun r w' => NewPt w.heap.size w' r (paX px py qx qy) (paY px py qx qy) ∧ Below w.heap.size w w' := by
  have T := two_cells w (.slice a1 px.length c1) (.slice a2 py.length c2) 26
  have T2 := fun W => two_cells W (.slice a3 qx.length c3) (.slice a4 qy.length c4) 26
  have m1 : Below w.heap.size w (w.alloc (.cells #[.slice a1 px.length c1, .slice a2 py.length c2] 26)) := (Below.refl _ _).alloc (Nat.le_refl _) _
  have s1 : (w.alloc (.cells #[.slice a1 px.length c1, .slice a2 py.length c2] 26)).heap.size = w.heap.size + 1 := by simp
  have PV1 := fun W h h' => pointValid_any W g1 g2 a1 a2 c1 c2 px py h h' bx by'
  have PV2 := fun W h h' => pointValid_any W g3 g4 a3 a4 c3 c4 qx qy h h' bu bv
  obtain ⟨CX, CY⟩ := T
  go_enter Tryd.func84, Tryd.ntmps84
  go_upto_region 1 with fail
  generalize w.alloc (.cells #[.slice a1 px.length c1, .slice a2 py.length c2] 26) = wa at *
  have T2' := T2 wa
  have m2 : Below wa.heap.size wa (wa.alloc (.cells #[.slice a3 qx.length c3, .slice a4 qy.length c4] 26)) := (Below.refl _ _).alloc (Nat.le_refl _) _
  have s2 : (wa.alloc (.cells #[.slice a3 qx.length c3, .slice a4 qy.length c4] 26)).heap.size = wa.heap.size + 1 := by simp
  rw [s1] at T2' s2
  obtain ⟨CU, CV⟩ := T2'
  generalize wa.alloc (.cells #[.slice a3 qx.length c3, .slice a4 qy.length c4] 26) = wb at *
  change Code.wp _ _ _ _ (wb.alloc pObj)
  have TR := there_p wb
  have TZ : Two (wb.alloc pObj) wb.heap.size (.slice none 0 0) (.slice none 0 0) := Two.new wb (.slice none 0 0) (.slice none 0 0) 26
  have m3 : Below wb.heap.size wb (wb.alloc pObj) := (Below.refl _ _).alloc (Nat.le_refl _) _
  rw [s2] at TR TZ
  replace CX := ((nxt m2 m3).cell (block_lt_of_cell CX)).trans CX
  replace CY := ((nxt m2 m3).cell (block_lt_of_cell CY)).trans CY
  replace CU := (m3.cell (block_lt_of_cell CU)).trans CU
  replace CV := (m3.cell (block_lt_of_cell CV)).trans CV
  have N := nxt (nxt m1 m2) m3
  have RX := hx.up N
  have RY := hy.up N
  have RU := hu.up N
  have RV := hv.up N
  clear hx hy hu hv T2 m1 m2 m3 s1 s2
  generalize wb.alloc pObj = wr at *
  cases h1 : validP px py with
  | false =>
    have KX : Hid (paX px py qx qy = []) := by show _ = _; unfold paX; rw [if_neg (fun h => by rw [h1] at h; simp at h)]
    have KY : Hid (paY px py qx qy = []) := by show _ = _; unfold paY; rw [if_neg (fun h => by rw [h1] at h; simp at h)]
    simp only [h1] at PV1
    go_wp2_with fail
    refine (PV1 wr RX RY).mono ?_
    rintro e w1 ⟨rfl, n1⟩
    replace N := nxt N n1
    obtain ⟨y0, y1, f0, f1⟩ := TZ.up n1
    clear PV1 PV2 n1 CX CY CU CV RX RY RU RV TR TZ
    go_wp2
    refine bodyPost_ret (v := .agg #[.slice none 0 0, .slice none 0 0]) (by simp [results, Tryd.results84, go_sem, y0, y1]) rfl ⟨by rw [KX.out, KY.out]; exact newPt_nil, ?_⟩
    exact (N.setCell (by show w.heap.size ≤ w.heap.size + 1 + 1; omega) _).setCell (by show w.heap.size ≤ w.heap.size + 1 + 1; omega) _
  | true =>
    simp only [h1] at PV1
    go_wp2_with fail
    refine (PV1 wr RX RY).mono ?_
    rintro e w1 ⟨rfl, n1⟩
    replace CX := (n1.cell (block_lt_of_cell CX)).trans CX
    replace CY := (n1.cell (block_lt_of_cell CY)).trans CY
    replace CU := (n1.cell (block_lt_of_cell CU)).trans CU
    replace CV := (n1.cell (block_lt_of_cell CV)).trans CV
    replace RX := RX.up n1
    replace RY := RY.up n1
    replace RU := RU.up n1
    replace RV := RV.up n1
    replace N := nxt N n1
    replace TR := there_up (by omega) TR n1
    replace TZ := TZ.up n1
    clear PV1 n1
    cases h2 : validP qx qy with
    | false =>
      have KX : Hid (paX px py qx qy = []) := by show _ = _; unfold paX; rw [if_neg (fun h => by rw [h2] at h; simp at h)]
      have KY : Hid (paY px py qx qy = []) := by show _ = _; unfold paY; rw [if_neg (fun h => by rw [h2] at h; simp at h)]
      simp only [h2] at PV2
      go_wp2_with fail
      refine (PV2 w1 RU RV).mono ?_
      rintro e w2 ⟨rfl, n1⟩
      replace N := nxt N n1
      obtain ⟨y0, y1, f0, f1⟩ := TZ.up n1
      clear PV2 n1 CX CY CU CV RX RY RU RV TR TZ
      go_wp2
      refine bodyPost_ret (v := .agg #[.slice none 0 0, .slice none 0 0]) (by simp [results, Tryd.results84, go_sem, y0, y1]) rfl ⟨by rw [KX.out, KY.out]; exact newPt_nil, ?_⟩
      exact (N.setCell (by show w.heap.size ≤ w.heap.size + 1 + 1; omega) _).setCell (by show w.heap.size ≤ w.heap.size + 1 + 1; omega) _
    | true =>
      have KX : Hid (paX px py qx qy = fill (byt (addX (num px, num py) (num qx, num qy) % PP)) 32) := by show _ = _; unfold paX; rw [if_pos ⟨h1, h2⟩]
      have KY : Hid (paY px py qx qy = fill (byt (addY (num px, num py) (num qx, num qy) % PP)) 32) := by show _ = _; unfold paY; rw [if_pos ⟨h1, h2⟩]
      have l1 := hide (valid_len h1)
      have l2 := hide (valid_len h2)
      simp only [h2] at PV2
      go_wp2_with fail
      refine (PV2 w1 RU RV).mono ?_
      rintro e w2 ⟨rfl, n1⟩
      replace CX := (n1.cell (block_lt_of_cell CX)).trans CX
      replace CY := (n1.cell (block_lt_of_cell CY)).trans CY
      replace CU := (n1.cell (block_lt_of_cell CU)).trans CU
      replace CV := (n1.cell (block_lt_of_cell CV)).trans CV
      have OX := hide (of_ok (RX.up n1) bx l1.1)
      have OY := hide (of_ok (RY.up n1) by' l1.2)
      have OU := hide (of_ok (RU.up n1) bu l2.1)
      have OV := hide (of_ok (RV.up n1) bv l2.2)
      replace N := nxt N n1
      replace TR := there_up (by omega) TR n1
      clear PV2 n1 RX RY RU RV TZ h1 h2 l1 l2
      go_upto_region 3 with fail
      refine region_new16 4 3 2 5 23 _ (fun i => [Fact.eq (.pointer (some ⟨w.heap.size, 0, none⟩)), Fact.eq (.slice a1 px.length c1), EL (num px), NB w2 16].getD i Fact.no) (num px) (by kernel_rfl) rfl rfl rfl (by kernel_rfl) (by kernel_rfl) rfl rfl ?_ ?_
      · intro i hi
        obtain rfl | rfl | rfl | rfl : i = 0 ∨ i = 1 ∨ i = 2 ∨ i = 3 := by omega
        · exact step_fld rfl 26 2 0 rfl (by kernel_rfl) _ _ rfl (fxP _) rfl
        · exact step_lds rfl 21 0 rfl (by kernel_rfl) _ _ rfl _ _ _ CX rfl
        · exact step_of rfl 22 1 rfl (by kernel_rfl) OX.out rfl rfl
        · exact step_new16 rfl rfl rfl
      intro qy3 q5 W3' v5 l5 n E5 T5
      replace CX := (n.cell (block_lt_of_cell CX)).trans CX
      replace CY := (n.cell (block_lt_of_cell CY)).trans CY
      replace CU := (n.cell (block_lt_of_cell CU)).trans CU
      replace CV := (n.cell (block_lt_of_cell CV)).trans CV
      replace OX := hide (of_up5 OX.out n)
      replace OY := hide (of_up5 OY.out n)
      replace OU := hide (of_up5 OU.out n)
      replace OV := hide (of_up5 OV.out n)
      replace TR := there_up (by omega) TR n
      replace N := nxt N n
      clear n T5
      simp only [puts, v5, Act.put, List.setIfInBounds_toArray, List.set_cons_succ, List.set_cons_zero]
      clear v5
      go_upto_region 4 with fail
      refine region_new16 4 3 2 6 26 _ (fun i => [Fact.eq (.pointer (some ⟨w.heap.size, 1, none⟩)), Fact.eq (.slice a2 py.length c2), EL (num py), NB W3' 16].getD i Fact.no) (num py) (by kernel_rfl) rfl rfl rfl (by kernel_rfl) (by kernel_rfl) rfl rfl ?_ ?_
      · intro i hi
        obtain rfl | rfl | rfl | rfl : i = 0 ∨ i = 1 ∨ i = 2 ∨ i = 3 := by omega
        · exact step_fld rfl 26 2 1 rfl (by kernel_rfl) _ _ rfl (fyP _) rfl
        · exact step_lds rfl 24 0 rfl (by kernel_rfl) _ _ rfl _ _ _ CY rfl
        · exact step_of rfl 25 1 rfl (by kernel_rfl) OY.out rfl rfl
        · exact step_new16 rfl rfl rfl
      intro qy4 q6 W4' v6 l6 n E6 T6
      replace CX := (n.cell (block_lt_of_cell CX)).trans CX
      replace CY := (n.cell (block_lt_of_cell CY)).trans CY
      replace CU := (n.cell (block_lt_of_cell CU)).trans CU
      replace CV := (n.cell (block_lt_of_cell CV)).trans CV
      replace OX := hide (of_up5 OX.out n)
      replace OY := hide (of_up5 OY.out n)
      replace OU := hide (of_up5 OU.out n)
      replace OV := hide (of_up5 OV.out n)
      replace E5 := E5.up n
      replace TR := there_up (by omega) TR n
      replace N := nxt N n
      clear n T6
      simp only [puts, v6, Act.put, List.setIfInBounds_toArray, List.set_cons_succ, List.set_cons_zero]
      clear v6
      go_upto_region 5 with fail
      refine region_new16 4 3 2 7 29 _ (fun i => [Fact.eq (.pointer (some ⟨(w.heap.size + 1), 0, none⟩)), Fact.eq (.slice a3 qx.length c3), EL (num qx), NB W4' 16].getD i Fact.no) (num qx) (by kernel_rfl) rfl rfl rfl (by kernel_rfl) (by kernel_rfl) rfl rfl ?_ ?_
      · intro i hi
        obtain rfl | rfl | rfl | rfl : i = 0 ∨ i = 1 ∨ i = 2 ∨ i = 3 := by omega
        · exact step_fld rfl 26 3 0 rfl (by kernel_rfl) _ _ rfl (fxP _) rfl
        · exact step_lds rfl 27 0 rfl (by kernel_rfl) _ _ rfl _ _ _ CU rfl
        · exact step_of rfl 28 1 rfl (by kernel_rfl) OU.out rfl rfl
        · exact step_new16 rfl rfl rfl
      intro qy5 q7 W5 v7 l7 n E7 T7
      replace CX := (n.cell (block_lt_of_cell CX)).trans CX
      replace CY := (n.cell (block_lt_of_cell CY)).trans CY
      replace CU := (n.cell (block_lt_of_cell CU)).trans CU
      replace CV := (n.cell (block_lt_of_cell CV)).trans CV
      replace OX := hide (of_up5 OX.out n)
      replace OY := hide (of_up5 OY.out n)
      replace OU := hide (of_up5 OU.out n)
      replace OV := hide (of_up5 OV.out n)
      replace E5 := E5.up n
      replace E6 := E6.up n
      replace TR := there_up (by omega) TR n
      replace N := nxt N n
      clear n T7
      simp only [puts, v7, Act.put, List.setIfInBounds_toArray, List.set_cons_succ, List.set_cons_zero]
      clear v7
      go_upto_region 6 with fail
      refine region_new16 4 3 2 8 32 _ (fun i => [Fact.eq (.pointer (some ⟨(w.heap.size + 1), 1, none⟩)), Fact.eq (.slice a4 qy.length c4), EL (num qy), NB W5 16].getD i Fact.no) (num qy) (by kernel_rfl) rfl rfl rfl (by kernel_rfl) (by kernel_rfl) rfl rfl ?_ ?_
      · intro i hi
        obtain rfl | rfl | rfl | rfl : i = 0 ∨ i = 1 ∨ i = 2 ∨ i = 3 := by omega
        · exact step_fld rfl 26 3 1 rfl (by kernel_rfl) _ _ rfl (fyP _) rfl
        · exact step_lds rfl 30 0 rfl (by kernel_rfl) _ _ rfl _ _ _ CV rfl
        · exact step_of rfl 31 1 rfl (by kernel_rfl) OV.out rfl rfl
        · exact step_new16 rfl rfl rfl
      intro qy6 q8 W6 v8 l8 n E8 T8
      replace CX := (n.cell (block_lt_of_cell CX)).trans CX
      replace CY := (n.cell (block_lt_of_cell CY)).trans CY
      replace CU := (n.cell (block_lt_of_cell CU)).trans CU
      replace CV := (n.cell (block_lt_of_cell CV)).trans CV
      replace OX := hide (of_up5 OX.out n)
      replace OY := hide (of_up5 OY.out n)
      replace OU := hide (of_up5 OU.out n)
      replace OV := hide (of_up5 OV.out n)
      replace E5 := E5.up n
      replace E6 := E6.up n
      replace E7 := E7.up n
      replace TR := there_up (by omega) TR n
      replace N := nxt N n
      clear n T8
      simp only [puts, v8, Act.put, List.setIfInBounds_toArray, List.set_cons_succ, List.set_cons_zero]
      clear v8
      go_upto_region 7 with fail
      refine region_new16 10 9 8 9 41 _ (fun i => [EL dE, EL (num px), EL (num qx), EL ((num px) * (num qx)), EL (num py), EL (num qy), EL ((num py) * (num qy)), EL (((num px) * (num qx)) * ((num py) * (num qy))), EL ((dE) * (((num px) * (num qx)) * ((num py) * (num qy)))), NB W6 16].getD i Fact.no) ((dE) * (((num px) * (num qx)) * ((num py) * (num qy)))) (by kernel_rfl) rfl rfl rfl (by kernel_rfl) (by kernel_rfl) rfl rfl ?_ ?_
      · intro i hi
        obtain rfl | rfl | rfl | rfl | rfl | rfl | rfl | rfl | rfl | rfl : i = 0 ∨ i = 1 ∨ i = 2 ∨ i = 3 ∨ i = 4 ∨ i = 5 ∨ i = 6 ∨ i = 7 ∨ i = 8 ∨ i = 9 := by omega
        · exact step_d rfl rfl rfl
        · exact step_el rfl 43 5 rfl Go.Proofs.YtnaaanefndeafaaDoor.u50 i50 (by kernel_rfl) _ _ rfl _ E5 rfl
        · exact step_el rfl 43 7 rfl Go.Proofs.YtnaaanefndeafaaDoor.u50 i50 (by kernel_rfl) _ _ rfl _ E7 rfl
        · exact step_mul rfl 34 35 1 2 _ _ rfl (by kernel_rfl) (by kernel_rfl) rfl rfl rfl
        · exact step_el rfl 43 6 rfl Go.Proofs.YtnaaanefndeafaaDoor.u50 i50 (by kernel_rfl) _ _ rfl _ E6 rfl
        · exact step_el rfl 43 8 rfl Go.Proofs.YtnaaanefndeafaaDoor.u50 i50 (by kernel_rfl) _ _ rfl _ E8 rfl
        · exact step_mul rfl 37 38 4 5 _ _ rfl (by kernel_rfl) (by kernel_rfl) rfl rfl rfl
        · exact step_mul rfl 36 39 3 6 _ _ rfl (by kernel_rfl) (by kernel_rfl) rfl rfl rfl
        · exact step_mul rfl 33 40 0 7 _ _ rfl (by kernel_rfl) (by kernel_rfl) rfl rfl rfl
        · exact step_new16 rfl rfl rfl
      intro qy7 q9 W7 v9 l9 n E9 T9
      replace CX := (n.cell (block_lt_of_cell CX)).trans CX
      replace CY := (n.cell (block_lt_of_cell CY)).trans CY
      replace CU := (n.cell (block_lt_of_cell CU)).trans CU
      replace CV := (n.cell (block_lt_of_cell CV)).trans CV
      replace OX := hide (of_up5 OX.out n)
      replace OY := hide (of_up5 OY.out n)
      replace OU := hide (of_up5 OU.out n)
      replace OV := hide (of_up5 OV.out n)
      replace E5 := E5.up n
      replace E6 := E6.up n
      replace E7 := E7.up n
      replace E8 := E8.up n
      replace TR := there_up (by omega) TR n
      replace N := nxt N n
      clear n T9
      simp only [puts, v9, Act.put, List.setIfInBounds_toArray, List.set_cons_succ, List.set_cons_zero]
      clear v9
      go_upto_region 8 with fail
      refine region_new16 13 12 11 10 53 _ (fun i => [EL (num px), EL (num qy), EL ((num px) * (num qy)), EL (num py), EL (num qx), EL ((num py) * (num qx)), EL (((num px) * (num qy)) + ((num py) * (num qx))), EL 1, EL ((dE) * (((num px) * (num qx)) * ((num py) * (num qy)))), EL ((1) + ((dE) * (((num px) * (num qx)) * ((num py) * (num qy))))), EL (iv ((1) + ((dE) * (((num px) * (num qx)) * ((num py) * (num qy)))))), EL ((((num px) * (num qy)) + ((num py) * (num qx))) * (iv ((1) + ((dE) * (((num px) * (num qx)) * ((num py) * (num qy))))))), NB W7 16].getD i Fact.no) ((((num px) * (num qy)) + ((num py) * (num qx))) * (iv ((1) + ((dE) * (((num px) * (num qx)) * ((num py) * (num qy))))))) (by kernel_rfl) rfl rfl rfl (by kernel_rfl) (by kernel_rfl) rfl rfl ?_ ?_
      · intro i hi
        obtain rfl | rfl | rfl | rfl | rfl | rfl | rfl | rfl | rfl | rfl | rfl | rfl | rfl : i = 0 ∨ i = 1 ∨ i = 2 ∨ i = 3 ∨ i = 4 ∨ i = 5 ∨ i = 6 ∨ i = 7 ∨ i = 8 ∨ i = 9 ∨ i = 10 ∨ i = 11 ∨ i = 12 := by omega
        · exact step_el rfl 43 5 rfl Go.Proofs.YtnaaanefndeafaaDoor.u50 i50 (by kernel_rfl) _ _ rfl _ E5 rfl
        · exact step_el rfl 43 8 rfl Go.Proofs.YtnaaanefndeafaaDoor.u50 i50 (by kernel_rfl) _ _ rfl _ E8 rfl
        · exact step_mul rfl 42 43 0 1 _ _ rfl (by kernel_rfl) (by kernel_rfl) rfl rfl rfl
        · exact step_el rfl 43 6 rfl Go.Proofs.YtnaaanefndeafaaDoor.u50 i50 (by kernel_rfl) _ _ rfl _ E6 rfl
        · exact step_el rfl 43 7 rfl Go.Proofs.YtnaaanefndeafaaDoor.u50 i50 (by kernel_rfl) _ _ rfl _ E7 rfl
        · exact step_mul rfl 45 46 3 4 _ _ rfl (by kernel_rfl) (by kernel_rfl) rfl rfl rfl
        · exact step_add rfl 44 47 2 5 _ _ rfl (by kernel_rfl) (by kernel_rfl) rfl rfl rfl
        · exact step_small rfl 1 (by omega) rfl rfl
        · exact step_el rfl 43 9 rfl Go.Proofs.YtnaaanefndeafaaDoor.u50 i50 (by kernel_rfl) _ _ rfl _ E9 rfl
        · exact step_add rfl 49 50 7 8 _ _ rfl (by kernel_rfl) (by kernel_rfl) rfl rfl rfl
        · exact step_inv rfl 51 9 _ rfl (by kernel_rfl) rfl rfl
        · exact step_mul rfl 48 52 6 10 _ _ rfl (by kernel_rfl) (by kernel_rfl) rfl rfl rfl
        · exact step_new16 rfl rfl rfl
      intro qy8 q10 W8 v10 l10 n E10 T10
      replace CX := (n.cell (block_lt_of_cell CX)).trans CX
      replace CY := (n.cell (block_lt_of_cell CY)).trans CY
      replace CU := (n.cell (block_lt_of_cell CU)).trans CU
      replace CV := (n.cell (block_lt_of_cell CV)).trans CV
      replace OX := hide (of_up5 OX.out n)
      replace OY := hide (of_up5 OY.out n)
      replace OU := hide (of_up5 OU.out n)
      replace OV := hide (of_up5 OV.out n)
      replace E5 := E5.up n
      replace E6 := E6.up n
      replace E7 := E7.up n
      replace E8 := E8.up n
      replace E9 := E9.up n
      replace TR := there_up (by omega) TR n
      replace N := nxt N n
      clear n T10
      simp only [puts, v10, Act.put, List.setIfInBounds_toArray, List.set_cons_succ, List.set_cons_zero]
      clear v10
      go_upto_region 9 with fail
      refine region_new16 13 12 11 11 65 _ (fun i => [EL (num py), EL (num qy), EL ((num py) * (num qy)), EL (num px), EL (num qx), EL ((num px) * (num qx)), EL (((num py) * (num qy)) + ((num px) * (num qx))), EL 1, EL ((dE) * (((num px) * (num qx)) * ((num py) * (num qy)))), EL ((1) - ((dE) * (((num px) * (num qx)) * ((num py) * (num qy))))), EL (iv ((1) - ((dE) * (((num px) * (num qx)) * ((num py) * (num qy)))))), EL ((((num py) * (num qy)) + ((num px) * (num qx))) * (iv ((1) - ((dE) * (((num px) * (num qx)) * ((num py) * (num qy))))))), NB W8 16].getD i Fact.no) ((((num py) * (num qy)) + ((num px) * (num qx))) * (iv ((1) - ((dE) * (((num px) * (num qx)) * ((num py) * (num qy))))))) (by kernel_rfl) rfl rfl rfl (by kernel_rfl) (by kernel_rfl) rfl rfl ?_ ?_
      · intro i hi
        obtain rfl | rfl | rfl | rfl | rfl | rfl | rfl | rfl | rfl | rfl | rfl | rfl | rfl : i = 0 ∨ i = 1 ∨ i = 2 ∨ i = 3 ∨ i = 4 ∨ i = 5 ∨ i = 6 ∨ i = 7 ∨ i = 8 ∨ i = 9 ∨ i = 10 ∨ i = 11 ∨ i = 12 := by omega
        · exact step_el rfl 43 6 rfl Go.Proofs.YtnaaanefndeafaaDoor.u50 i50 (by kernel_rfl) _ _ rfl _ E6 rfl
        · exact step_el rfl 43 8 rfl Go.Proofs.YtnaaanefndeafaaDoor.u50 i50 (by kernel_rfl) _ _ rfl _ E8 rfl
        · exact step_mul rfl 54 55 0 1 _ _ rfl (by kernel_rfl) (by kernel_rfl) rfl rfl rfl
        · exact step_el rfl 43 5 rfl Go.Proofs.YtnaaanefndeafaaDoor.u50 i50 (by kernel_rfl) _ _ rfl _ E5 rfl
        · exact step_el rfl 43 7 rfl Go.Proofs.YtnaaanefndeafaaDoor.u50 i50 (by kernel_rfl) _ _ rfl _ E7 rfl
        · exact step_mul rfl 57 58 3 4 _ _ rfl (by kernel_rfl) (by kernel_rfl) rfl rfl rfl
        · exact step_add rfl 56 59 2 5 _ _ rfl (by kernel_rfl) (by kernel_rfl) rfl rfl rfl
        · exact step_small rfl 1 (by omega) rfl rfl
        · exact step_el rfl 43 9 rfl Go.Proofs.YtnaaanefndeafaaDoor.u50 i50 (by kernel_rfl) _ _ rfl _ E9 rfl
        · exact step_sub rfl 61 62 7 8 _ _ rfl (by kernel_rfl) (by kernel_rfl) rfl rfl rfl
        · exact step_inv rfl 63 9 _ rfl (by kernel_rfl) rfl rfl
        · exact step_mul rfl 60 64 6 10 _ _ rfl (by kernel_rfl) (by kernel_rfl) rfl rfl rfl
        · exact step_new16 rfl rfl rfl
      intro qy9 q11 W9 v11 l11 n E11 T11
      replace CX := (n.cell (block_lt_of_cell CX)).trans CX
      replace CY := (n.cell (block_lt_of_cell CY)).trans CY
      replace CU := (n.cell (block_lt_of_cell CU)).trans CU
      replace CV := (n.cell (block_lt_of_cell CV)).trans CV
      replace OX := hide (of_up5 OX.out n)
      replace OY := hide (of_up5 OY.out n)
      replace OU := hide (of_up5 OU.out n)
      replace OV := hide (of_up5 OV.out n)
      replace E5 := E5.up n
      replace E6 := E6.up n
      replace E7 := E7.up n
      replace E8 := E8.up n
      replace E9 := E9.up n
      replace E10 := E10.up n
      replace TR := there_up (by omega) TR n
      replace N := nxt N n
      clear n T11
      simp only [puts, v11, Act.put, List.setIfInBounds_toArray, List.set_cons_succ, List.set_cons_zero]
      clear v11
      go_upto_region 10 with fail
      refine region_putP 5 4 4 70 _ (fun i => [EL ((((num px) * (num qy)) + ((num py) * (num qx))) * (iv ((1) + ((dE) * (((num px) * (num qx)) * ((num py) * (num qy))))))), RN W9 (fun xs => xs = fill (byt (((((num px) * (num qy)) + ((num py) * (num qx))) * (iv ((1) + ((dE) * (((num px) * (num qx)) * ((num py) * (num qy))))))) % PP)) 32), EL ((((num py) * (num qy)) + ((num px) * (num qx))) * (iv ((1) - ((dE) * (((num px) * (num qx)) * ((num py) * (num qy))))))), RN W9 (fun xs => xs = fill (byt (((((num py) * (num qy)) + ((num px) * (num qx))) * (iv ((1) - ((dE) * (((num px) * (num qx)) * ((num py) * (num qy))))))) % PP)) 32), PT W9 (fun xs ys => xs = fill (byt (((((num px) * (num qy)) + ((num py) * (num qx))) * (iv ((1) + ((dE) * (((num px) * (num qx)) * ((num py) * (num qy))))))) % PP)) 32 ∧ ys = fill (byt (((((num py) * (num qy)) + ((num px) * (num qx))) * (iv ((1) - ((dE) * (((num px) * (num qx)) * ((num py) * (num qy))))))) % PP)) 32)].getD i Fact.no) (fun xs ys => xs = fill (byt (((((num px) * (num qy)) + ((num py) * (num qx))) * (iv ((1) + ((dE) * (((num px) * (num qx)) * ((num py) * (num qy))))))) % PP)) 32 ∧ ys = fill (byt (((((num py) * (num qy)) + ((num px) * (num qx))) * (iv ((1) - ((dE) * (((num px) * (num qx)) * ((num py) * (num qy))))))) % PP)) 32) _ (by kernel_rfl) rfl rfl rfl (by kernel_rfl) rfl TR (by kernel_rfl) rfl ?_ ?_
      · intro i hi
        obtain rfl | rfl | rfl | rfl | rfl : i = 0 ∨ i = 1 ∨ i = 2 ∨ i = 3 ∨ i = 4 := by omega
        · exact step_el rfl 43 10 rfl Go.Proofs.YtnaaanefndeafaaDoor.u50 i50 (by kernel_rfl) _ _ rfl _ E10 rfl
        · exact step_bytes rfl 66 0 _ rfl (by kernel_rfl) rfl rfl
        · exact step_el rfl 43 11 rfl Go.Proofs.YtnaaanefndeafaaDoor.u50 i50 (by kernel_rfl) _ _ rfl _ E11 rfl
        · exact step_bytes rfl 68 2 _ rfl (by kernel_rfl) rfl rfl
        · exact step_bp rfl 67 69 1 3 _ _ rfl (by kernel_rfl) (by kernel_rfl) rfl rfl rfl
      rintro vt Wa Wb ps qs b1 b2 d1 d2 h1 h2 n bq rg o1 o2 l1 l2 ⟨rfl, rfl⟩ nb
      have NS := nb w w.heap.size (nxt N n) (by omega)
      simp only [puts, Act.put, List.setIfInBounds_toArray, List.set_cons_succ, List.set_cons_zero]
      have z1 := N.size
      clear N n bq nb TR CX CY CU CV OX OY OU OV E5 E6 E7 E8 E9 E10 E11
      rw [show fill (byt (((((num px) * (num qy)) + ((num py) * (num qx))) * (iv ((1) + ((dE) * (((num px) * (num qx)) * ((num py) * (num qy))))))) % PP)) 32 = paX px py qx qy from KX.out.symm] at o1 rg
      rw [show fill (byt (((((num py) * (num qy)) + ((num px) * (num qx))) * (iv ((1) - ((dE) * (((num px) * (num qx)) * ((num py) * (num qy))))))) % PP)) 32 = paY px py qx qy from KY.out.symm] at o2 rg
      clear KX KY
      go_wp2
      obtain ⟨fs, hfs⟩ := uP
      exact bodyPost_ret (v := .agg #[_, _]) (results_cell_mid Tryd.results84 _ _ (w.heap.size + 1 + 1) _ _ rfl rg hfs rfl iP) rfl ⟨⟨b1, b2, d1, d2, h1, h2, rfl, o1, o2, by omega, by omega⟩, NS⟩
end Go.Proofs.YtnaaanefndeafaaDoor

/-
  The program's sum of two points is the model's. Numbers alone.
-/
namespace Go.Proofs.YtnaaanefndeafaaDoor
set_option maxRecDepth 100000

theorem iv_eInv (z : Int) : iv z = z ^ eInv := by
  unfold iv
  rw [show eIv = eInv from by decide +kernel]
/-- A point in extended coordinates, told by two. -/
theorem ex_plain {X Y Z T : Int} {q : Int × Int} (h : Ex X Y Z T q) : X * Z ^ eInv % PP = q.1 % PP ∧ Y * Z ^ eInv % PP = q.2 % PP := by
  have k := pj_plain h.pj
  simp only [iv_eInv] at k
  exact k
theorem add_mod (p q : Int × Int) : addX p q % PP = (eadd (-1) d0 einv p q).1 % PP ∧ addY p q % PP = (eadd (-1) d0 einv p q).2 % PP := by
  have h := pAdd_pe p q
  have h1 := cong_dvd h.1
  have h2 := cong_dvd h.2
  unfold pAdd at h1 h2
  simp only [Int.emod_emod_of_dvd _ (Int.dvd_refl PP)] at h1 h2
  exact ⟨h1, h2⟩
theorem ps_ok {p q : Int × Int} (hp : OnP PP (-1) d0 p) (hq : OnP PP (-1) d0 q) :
    psX dGo p.1 p.2 q.1 q.2 * psZ dGo p.1 p.2 q.1 q.2 ^ eInv % PP = addX p q % PP ∧ psY dGo p.1 p.2 q.1 q.2 * psZ dGo p.1 p.2 q.1 q.2 ^ eInv % PP = addY p q % PP := by
  have e := ex_plain (ex_sum dGo_is hp hq (ex_one p) (ex_one q))
  have a := add_mod p q
  exact ⟨e.1.trans a.1.symm, e.2.trans a.2.symm⟩
theorem adX_eq (xs ys us vs : List Int) : adX dGo xs ys us vs = paX xs ys us vs := by
  unfold adX paX
  rw [rp_valid, rp_valid]
  by_cases h : validP xs ys = true ∧ validP us vs = true
  · rw [if_pos h, if_pos (by simp [h.1, h.2]), rpX_of h.1, rpY_of h.1, rpX_of h.2, rpY_of h.2]
    rw [(ps_ok (on_of h.1) (on_of h.2)).1]
  · rw [if_neg h, if_neg (by simpa using h)]
theorem adY_eq (xs ys us vs : List Int) : adY dGo xs ys us vs = paY xs ys us vs := by
  unfold adY paY
  rw [rp_valid, rp_valid]
  by_cases h : validP xs ys = true ∧ validP us vs = true
  · rw [if_pos h, if_pos (by simp [h.1, h.2]), rpX_of h.1, rpY_of h.1, rpX_of h.2, rpY_of h.2]
    rw [(ps_ok (on_of h.1) (on_of h.2)).2]
  · rw [if_neg h, if_neg (by simpa using h)]
theorem pa_len1 (xs ys us vs : List Int) : (paX xs ys us vs).length ≤ 1048576 := by
  unfold paX
  split
  · rw [fill_len]; omega
  · simp
theorem pa_len2 (xs ys us vs : List Int) : (paY xs ys us vs).length ≤ 1048576 := by
  unfold paY
  split
  · rw [fill_len]; omega
  · simp
end Go.Proofs.YtnaaanefndeafaaDoor

/-
  The law of PointToLadder.
-/
namespace Go.Proofs.YtnaaanefndeafaaDoor
set_option maxRecDepth 100000
open Go Go.RowKit

theorem tlA_eq (xs ys : List Int) : tlA dGo xs ys = toLad xs ys := by
  unfold tlA toLad
  rw [rp_valid]
  by_cases h : validP xs ys = true
  · rw [if_pos h, if_pos h, rpY_of h, iv_eInv]
  · rw [if_neg h, if_neg h]
theorem tl_len (xs ys : List Int) : (toLad xs ys).length ≤ 1048576 := by
  unfold toLad
  split
  · rw [fill_len]; omega
  · simp
/-- The tables that sums of points need. -/
def HasA (w : World) : Prop := HasTw w 2 ∧ Em5 w 1 0 dGo ∧ HasSt w 6 ∧ Has3 w 3 12 5 4
theorem hasA_of {l : List (String × DataW Unit)} {W : World} (h : laidMetH Tryd.prog l W) (hp : (l.all fun x => x.2.handleName?.isNone) = true)
    (h1 : ("loop.example/g00004/impl.chainSteps", Rows.laid_loop_example_g00004_impl_chainSteps) ∈ l) (h2 : ("loop.example/g00004/impl.inverseStep", Rows.laid_loop_example_g00004_impl_inverseStep) ∈ l)
    (h3 : ("loop.example/g00004/impl.twiceP", Rows.laid_loop_example_g00004_impl_twiceP) ∈ l) (h4 : ("loop.example/g00004/impl.curveFactor", Rows.laid_loop_example_g00004_impl_curveFactor) ∈ l) : HasA W :=
  ⟨tw_of_reads (reads_of h hp h3), cf_of_reads (reads_of h hp h4), st_of_reads (reads_of h hp h1), three_of_reads gIn tIn (reads_of h hp h2)⟩
end Go.Proofs.YtnaaanefndeafaaDoor

/-
  The model's l5Small.
-/
namespace Go.Proofs.YtnaaanefndeafaaDoor
set_option maxRecDepth 100000
open Go Go.RowKit

/-- A root, as it is answered. -/
def RT (A : Int) : Fact := ⟨fun v _ => ∃ t, v = .tuple #[.bool (rootB A), ag16 t] ∧ L16 t ∧ s16 t 16 % PP = rootV A % PP, fun _ h => h⟩
theorem en_root : enters Tryd.prog 91 = true := by kernel_rfl
section
variable {ops : Array Oper} {Q : Exit → Act → World → Prop} {md : Region.Mode} {F : Nat → Fact} {a0 : Act} {w0 : World} {i : Nat} {o : Oper} {ts : Array TypeId}
theorem step_root (hi : ops[i]? = some o) (p j : Nat) (A : Int) (hop : o.op = .call { callee := .value (.func 91), args := #[.tmp p], argTypes := ts })
    (hj : waits md ops i j p = true) (hFj : F j = EL A) (hFi : F i = RT A) : StepOk Tryd.prog md ops Q F a0 w0 i := by
  refine step_call hi _ _ ts hop en_root fun a w _ _ hF => ?_
  have ea := hF j p hj
  rw [hFj] at ea
  obtain ⟨t, e1, L1, V1⟩ := ea
  show Calls Tryd.prog 91 #[a.tmps.getD p undef] w _
  rw [e1]
  refine (l2RootF_any w t L1 A V1).mono ?_
  rintro r w' ⟨u, rfl, L, V, hn⟩
  rw [hFi]
  exact ⟨_, rfl, hn, u, rfl, L, V⟩
theorem step_ext0 {P : Program} (hi : ops[i]? = some o) (p j : Nat) (A : Int) (hop : o.op = .extract (.tmp p) 0) (hj : waits md ops i j p = true) (hFj : F j = RT A) (hFi : F i = Fact.eq (.bool (rootB A))) : StepOk P md ops Q F a0 w0 i := by
  refine step_pure hi fun a w _ _ hf => ⟨.bool (rootB A), ?_, by rw [hFi]; exact rfl⟩
  have e := hf j p hj
  rw [hFj] at e
  obtain ⟨t, e, _⟩ := e
  have e' : a.eval (.tmp p) = .tuple #[.bool (rootB A), ag16 t] := e
  simp only [execOp, hop, e']
  rfl
theorem step_ext1 {P : Program} (hi : ops[i]? = some o) (p j : Nat) (A : Int) (hop : o.op = .extract (.tmp p) 1) (hj : waits md ops i j p = true) (hFj : F j = RT A) (hFi : F i = EL (rootV A)) : StepOk P md ops Q F a0 w0 i := by
  refine step_pure hi fun a w _ _ hf => ?_
  have e := hf j p hj
  rw [hFj] at e
  obtain ⟨t, e, L, V⟩ := e
  have e' : a.eval (.tmp p) = .tuple #[.bool (rootB A), ag16 t] := e
  refine ⟨ag16 t, ?_, by rw [hFi]; exact ⟨t, rfl, L, V⟩⟩
  simp only [execOp, hop, e']
  rfl
end
section
variable {ops : Array Oper} {Q : Exit → Act → World → Prop} {a0 : Act} {w : World} {id : Nat} {draw : Bool}
theorem region_new16F (k jA jV pA pV : Nat) (o : Oper) (F : Nat → Fact) (A : Int) (hT : textOk .any ops a0.tmps.size k = true) (hk : ops[k]? = some o) (hd : o.dst = none) (hop : o.op = .store 43 (.tmp pA) (.tmp pV))
    (wA : writes ops jA pA = true) (wV : writes ops jV pV = true) (FA : F jA = NB w 16) (FV : F jV = EL A) (steps : ∀ i, i < k → StepOk Tryd.prog .any ops Q F a0 w i)
    (fin : ∀ (vs : Nat → Value) (q : Nat) (W : World), vs pA = .pointer (some ⟨q, 0, none⟩) → w.heap.size ≤ q → Below w.heap.size w W → Elt W q 0 A → W.there q 0 16 → (∀ i d, writes ops i d = true → ∃ Wp, (F i).p (vs d) Wp) → Q .normal (puts vs a0 ops.toList) W) :
    (Code.region id ops draw).wp Tryd.prog Q a0 w := by
  refine region_store k o F (by kernel_rfl) hT hk hd steps fun a W hb hw hF => ?_
  have h1 := hF jA pA wA
  have h2 := hF jV pV wV
  rw [FA] at h1
  rw [FV] at h2
  obtain ⟨_, q, eq, th, hq⟩ := h1
  obtain ⟨t, ev, L, V⟩ := h2
  refine wp_store_mid 43 (.tmp pA) (.tmp pV) hop q 0 (a16 t) eq ev (by rw [a16_size]; exact th) (by rw [a16_size]; exact i50) (a16_one t) ?_
  obtain ⟨vs, hvs⟩ : ∃ vs : Nat → Value, ∀ d, a.tmps.getD d undef = vs d := ⟨_, fun _ => rfl⟩
  rw [hd]
  show Q .normal a _
  rw [puts_of hT rfl hb vs hvs]
  exact fin vs q _ ((hvs pA).symm.trans eq) hq (below_setCells hq _ _ _ hw) (set_elt th L V) (World.there_setCells th _ _ _) (fun i d h => ⟨W, by rw [← hvs]; exact hF i d h⟩)
end
end Go.Proofs.YtnaaanefndeafaaDoor

/-
  Numbers told as thirty-two bytes.
-/
namespace Go.Proofs.YtnaaanefndeafaaDoor
set_option maxRecDepth 100000
open Go.RowKit

theorem lsum_bytS (v : Int) (h0 : 0 ≤ v) : ∀ n, lsum (byt v) n = v % 256 ^ n
  | 0 => by simp [lsum]
  | n + 1 => by
    have ih := lsum_bytS v h0 n
    have hp := p256_pos n
    rw [lsum, ih, byt, Int.pow_succ]
    have e1 := Int.emod_add_mul_ediv v (256 ^ n)
    have e2 := Int.emod_add_mul_ediv v (256 ^ n * 256)
    rw [← Int.ediv_ediv_of_nonneg (Int.le_of_lt hp)] at e2
    have e3 := Int.emod_add_mul_ediv (v / 256 ^ n) 256
    generalize v / 256 ^ n = q at *
    generalize v % 256 ^ n = r at *
    generalize v % (256 ^ n * 256) = s at *
    generalize (256 : Int) ^ n = p at *
    generalize q / 256 = a at *
    generalize q % 256 = b at *
    subst e3
    have : (b + 256 * a) * p = b * p + 256 * a * p := Int.add_mul _ _ _
    have h1 : p * (b + 256 * a) = b * p + 256 * a * p := by rw [Int.mul_comm, this]
    have h2 : p * 256 * a = 256 * a * p := by rw [Int.mul_assoc, Int.mul_comm]
    omega
theorem num_modS (v : Int) : num (fill (byt (v % PP)) 32) = v % PP := by
  have h0 := Int.emod_nonneg v (show PP ≠ 0 by decide)
  have h1 := Int.emod_lt_of_pos v (show (0 : Int) < PP by decide)
  unfold num
  rw [fill_len, lsum_congr (b := byt (v % PP)) 32 (fun j hj => fill_get _ _ _ hj), lsum_bytS _ h0, Int.emod_eq_of_lt h0 (Int.lt_trans h1 (by decide))]
theorem bytes_L (v : Int) (n : Nat) : Byt (fill (byt v) n) := fun i => by
  rcases Nat.lt_or_ge i n with h | h
  · rw [fill_get _ _ _ h]
    unfold byt
    omega
  · rw [List.getD_eq_getElem?_getD, List.getElem?_eq_none (by rw [fill_len]; omega)]
    simp
theorem bval_zero_all {xs : List Int} (h : Byt xs) (hb : bval xs = 0) : ∀ j, xs.getD j 0 = 0 := by
  intro j
  by_cases hj : j < xs.length
  · have e : dig xs (xs.length - 1 - j) = xs.getD j 0 := by
      unfold dig
      rw [if_pos (by omega), show xs.length - 1 - (xs.length - 1 - j) = j by omega]
    have d : dig xs (xs.length - 1 - j) = dig [] (xs.length - 1 - j) := dig_same (b := []) h (fun i => by simp) (hb.trans rfl) _
    rw [← e, d]
    rfl
  · rw [List.getD_eq_getElem?_getD, List.getElem?_eq_none (by omega)]
    rfl
theorem lsum_all0 {a : Nat → Int} : ∀ n, (∀ j, j < n → a j = 0) → lsum a n = 0
  | 0, _ => rfl
  | n + 1, h => by rw [lsum, lsum_all0 n (fun j hj => h j (by omega)), h n (by omega)]; omega
theorem canon_pos' {zs : List Int} {v : Int} (h : Canon zs v) (hl : 0 < zs.length) : v ≠ 0 := fun e => by
  have := bval_zero_all h.1 (h.2.1.trans e) 0
  exact h.2.2 hl this
end Go.Proofs.YtnaaanefndeafaaDoor

/-
  The model's l2IsZero.
-/
namespace Go.Proofs.YtnaaanefndeafaaDoor
set_option maxRecDepth 100000
open Go Go.RowKit

theorem zero_bytes (V : Int) : bval (fill (byt (V % PP)) 32) = 0 ↔ V % PP = 0 := by
  constructor
  · intro hb
    have h0 := bval_zero_all (bytes_L (V % PP) 32) hb
    have n0 := num_modS V
    have : num (fill (byt (V % PP)) 32) = 0 := by
      unfold num
      rw [fill_len]
      exact lsum_all0 32 (fun j _ => h0 j)
    omega
  · intro h
    rw [h]
    decide +kernel

set_option maxHeartbeats 2000000 in
theorem l2IsZero_any (w : World) (f : Nat → Int) (hf : L16 f) : Calls Tryd.prog 92 #[ag16 f] w fun r w' => r = .returned (.bool (decide (s16 f 16 % PP = 0))) ∧ Below w.heap.size w w' := by
  show Calls Tryd.prog 92 #[.agg (a16 f)] w _
  have n1 : Below w.heap.size w (w.alloc (.cells (a16 f) 43)) := (Below.refl _ _).alloc (Nat.le_refl _) _
  have B1 : Blk (w.alloc (.cells (a16 f) 43)) w.heap.size .i64 (ls16 f) := blk16 w 43 f
  have BY := fun W => l2Bytes_any W f hf
  have Z := zero_bytes (s16 f 16)
  go_enter Tryd.func92, Tryd.ntmps92
  go_upto_region 1 with fail
  generalize w.alloc (.cells (a16 f) 43) = wa at *
  obtain ⟨t, hF⟩ := B1
  go_wp2_with (refine wpList_load_row rfl 43 (.tmp 1) rfl w.heap.size rfl t (a16 f) (0, 0) (.array 16 2) hF Go.Proofs.YtnaaanefndeafaaDoor.u50 rfl (by rw [a16_size]; exact i50) ?_)
  refine (BY wa).mono ?_
  rintro r w2 ⟨⟨a2, c2, g2, rfl, o2, p2, q2, r2⟩, n2⟩
  have N2 := nxt n1 n2
  have TM := hide (l1Trim_any w2 g2 a2 c2 _ o2.rd (bytes_L _ _) p2 q2 (by rw [fill_len]; decide))
  clear BY n1 n2 hF o2 p2 q2 r2
  go_wp2_with fail
  refine TM.out.mono ?_
  rintro r w3 ⟨zs, CZ, lz, ⟨a3, c3, g3, rfl, o3, p3, q3, r3⟩, n3⟩
  have N3 := nxt N2 n3
  clear TM N2 n3 o3 p3 q3 r3
  by_cases hz : zs.length = 0
  · have tz : ((zs.length : Int) == 0) = true := by simp [hz]
    have bz : s16 f 16 % PP = 0 := by
      refine Z.1 ?_
      have : zs = [] := List.eq_nil_of_length_eq_zero hz
      rw [← CZ.2.1, this]
      rfl
    have K := hide (decide_eq_true bz)
    clear hz bz CZ Z
    go_wp2
    go_ret
    exact ⟨by rw [K.out]; rfl, N3⟩
  · have tz : ((zs.length : Int) == 0) = false := by simp; intro h; exact hz (by rw [h]; rfl)
    have bz : ¬ s16 f 16 % PP = 0 := fun h => canon_pos' CZ (by omega) (Z.2 h)
    have K := hide (decide_eq_false bz)
    clear hz bz CZ Z
    go_wp2
    go_ret
    exact ⟨by rw [K.out]; rfl, N3⟩
end Go.Proofs.YtnaaanefndeafaaDoor

/-
  The model's l5Lift.
-/
namespace Go.Proofs.YtnaaanefndeafaaDoor
set_option maxRecDepth 100000
open Go Go.RowKit

theorem wpList_load_want {P : Program} {ops : Array Oper} {rest : List Oper} {op : Oper} {a : Act} {w : World} {Q : Exit → Act → World → Prop} (hw : Region.wanted op (yielded ops a.tmps) = true) (ty : TypeId) (x : Operand) (ho : op.op = .load ty x)
    (b o : Nat) (hx : a.eval x = .pointer (some ⟨b, o, none⟩)) (cs : List Value) (d : TypeDesc) (hc : w.rangeAt b o cs)
    (hu : P.underlying ty = some d) (hd : d.isRow = true) (hi : (P.info? ty).map (·.size) = some cs.length)
    (h : wpList P ops Q rest (a.put op.dst (.agg cs.toArray)) w) : wpList P ops Q (op :: rest) a w :=
  BigFrame.wpList_want hw fun _ hK => wp_load_mid ty x ho b o hx cs d hc hu hd hi (hK _ _ h)
/-- What is lifted: is there a point, and its bytes. -/
def liB (A : Int) (odd : Bool) : Bool := rootB (liftZ A) && !(odd && decide (rootV (liftZ A) % PP = 0))
def liX (A : Int) (odd : Bool) : List Int := if liB A odd = true then fill (byt ((if odd = true then 0 - rootV (liftZ A) else rootV (liftZ A)) % PP)) 32 else []
def liY (A : Int) (odd : Bool) : List Int := if liB A odd = true then fill (byt (A % PP)) 32 else []
def NewLi (B : Nat) (w' : World) (e : Ending) (b : Bool) (xs ys : List Int) : Prop :=
  ∃ (a a' : Option Addr) (c c' g g' : Nat), e = .returned (.tuple #[.bool b, .agg #[.slice a xs.length c, .slice a' ys.length c']]) ∧ Own w' g a .u8 xs ∧ Own w' g' a' .u8 ys ∧ B ≤ g ∧ B ≤ g'
theorem newLi_nil {B : Nat} {w : World} : NewLi B w (.returned (.tuple #[.bool false, .agg #[.slice none 0 0, .slice none 0 0]])) false [] [] := ⟨none, none, 0, 0, B, B, rfl, Own.nil _ _ _ _, Own.nil _ _ _ _, Nat.le_refl _, Nat.le_refl _⟩
section
variable {ops : Array Oper} {Q : Exit → Act → World → Prop} {md : Region.Mode} {F : Nat → Fact} {a0 : Act} {w0 : World} {i : Nat} {o : Oper}
theorem step_konst {P : Program} (hi : ops[i]? = some o) {v : Value} (hop : o.op = .assign (.const v)) (hF : F i = Fact.eq v) : StepOk P md ops Q F a0 w0 i :=
  step_pure hi fun a w _ _ _ => ⟨v, by simp [execOp, hop, Act.eval], by rw [hF]; exact rfl⟩
end

section
variable {ops : Array Oper} {Q : Exit → Act → World → Prop} {a0 : Act} {w : World} {id : Nat} {draw : Bool}
theorem region_putPF (k jV pD pV : Nat) (o : Oper) (F : Nat → Fact) (p : List Int → List Int → Prop) (q : Nat) (hT : textOk .any ops a0.tmps.size k = true) (hk : ops[k]? = some o) (hd : o.dst = none) (hop : o.op = .store 26 (.tmp pD) (.tmp pV))
    (hp : apart ops pD = true) (h0 : a0.tmps.getD pD undef = .pointer (some ⟨q, 0, none⟩)) (ht : w.there q 0 2)
    (wV : writes ops jV pV = true) (FV : F jV = PT w p) (steps : ∀ i, i < k → StepOk Tryd.prog .any ops Q F a0 w i)
    (fin : ∀ (vs : Nat → Value) (W W' : World) (xs ys : List Int) (a a' : Option Addr) (c c' g g' : Nat), Below w.heap.size w W → ButQ q w W' → W'.rangeAt q 0 [.slice a xs.length c, .slice a' ys.length c'] → Own W' g a .u8 xs → Own W' g' a' .u8 ys → w.heap.size ≤ g → w.heap.size ≤ g' → p xs ys → (∀ (w1 : World) (B : Nat), Below B w1 W → B ≤ q → Below B w1 W') → (∀ i d, writes ops i d = true → ∃ Wp, (F i).p (vs d) Wp) → Q .normal (puts vs a0 ops.toList) W') :
    (Code.region id ops draw).wp Tryd.prog Q a0 w := by
  refine region_store k o F (by kernel_rfl) hT hk hd steps fun a W hb hw hF => ?_
  have h2 := hF jV pV wV
  rw [FV] at h2
  obtain ⟨xs, ys, b, b', c, c', g, g', ev, o1, o2, l1, l2, hpp⟩ := h2
  have th := there_up (by omega) ht hw
  refine wp_store_mid 26 (.tmp pD) (.tmp pV) hop q 0 #[.slice b xs.length c, .slice b' ys.length c'] ((based_at hb pD hp).trans h0) ev th iP (by simp [Value.oneCell']) ?_
  obtain ⟨vs, hvs⟩ : ∃ vs : Nat → Value, ∀ d, a.tmps.getD d undef = vs d := ⟨_, fun _ => rfl⟩
  rw [hd]
  show Q .normal a _
  rw [puts_of hT rfl hb vs hvs]
  have lq := there_lt (by omega) ht
  refine fin vs W _ xs ys b b' c c' g g' hw (but_set hw _) (World.rangeAt_setCells_same W q 0 _ th) ?_ ?_ l1 l2 hpp (fun w1 B n hB => below_setCells hB _ _ _ n) (fun i d h => ⟨W, by rw [← hvs]; exact hF i d h⟩)
  · exact fun h0 => o1.of_block (setCells_other (by omega) _ 0 W) h0
  · exact fun h0 => o2.of_block (setCells_other (by omega) _ 0 W) h0
end

set_option maxHeartbeats 2000000 in
theorem l5Lift_any (w : World) (f : Nat → Int) (A : Int) (hf : L16 f ∧ s16 f 16 % PP = A % PP) (odd : Bool) :
    Calls Tryd.prog 51 #[ag16 f, .bool odd] w fun r w' => NewLi w.heap.size w' r (liB A odd) (liX A odd) (liY A odd) ∧ Below w.heap.size w w' := by
  show Calls Tryd.prog 51 #[.agg (a16 f), .bool odd] w _
  have H1 := elt_new5 w 43 hf
  have m1 : Below w.heap.size w (w.alloc (.cells (a16 f) 43)) := (Below.refl _ _).alloc (Nat.le_refl _) _
  have s1 : (w.alloc (.cells (a16 f) 43)).heap.size = w.heap.size + 1 := by simp
  obtain ⟨V1, hV1⟩ : ∃ V, V = a16 f := ⟨_, rfl⟩
  rw [← hV1] at H1 m1 s1 ⊢
  clear hV1 hf
  go_enter Tryd.func51, Tryd.ntmps51
  go_upto_region 1 with fail
  generalize w.alloc (.cells V1 43) = wa at *
  change Code.wp _ _ _ _ (wa.alloc pObj)
  have TR := there_p wa
  have TZ : Two (wa.alloc pObj) wa.heap.size (.slice none 0 0) (.slice none 0 0) := Two.new wa (.slice none 0 0) (.slice none 0 0) 26
  have m2 : Below wa.heap.size wa (wa.alloc pObj) := (Below.refl _ _).alloc (Nat.le_refl _) _
  rw [s1] at TR TZ
  have E2' := H1.up m2
  have N := nxt m1 m2
  clear H1 m1 m2 s1
  generalize wa.alloc pObj = wr at *
  refine region_new16 4 3 2 6 11 _ (fun i => [EL (A), EL (A), EL ((A) * (A)), NB wr 16].getD i Fact.no) ((A) * (A)) (by kernel_rfl) rfl rfl rfl (by kernel_rfl) (by kernel_rfl) rfl rfl ?_ ?_
  · intro i hi
    obtain rfl | rfl | rfl | rfl : i = 0 ∨ i = 1 ∨ i = 2 ∨ i = 3 := by omega
    · exact step_el rfl 43 2 rfl Go.Proofs.YtnaaanefndeafaaDoor.u50 i50 (by kernel_rfl) _ _ rfl _ E2' rfl
    · exact step_el rfl 43 2 rfl Go.Proofs.YtnaaanefndeafaaDoor.u50 i50 (by kernel_rfl) _ _ rfl _ E2' rfl
    · exact step_mul rfl 9 10 0 1 _ _ rfl (by kernel_rfl) (by kernel_rfl) rfl rfl rfl
    · exact step_new16 rfl rfl rfl
  intro vs1 q6 W1 v6 l6 n E6 T6
  have y6 := there_lt (by omega) T6
  replace E2' := E2'.up n
  replace TR := there_up (by omega) TR n
  replace TZ := TZ.up n
  replace N := nxt N n
  clear n T6
  simp only [puts, v6, Act.put, List.setIfInBounds_toArray, List.set_cons_succ, List.set_cons_zero]
  clear v6
  go_upto_region 2 with fail
  refine region_new16F 16 14 13 8 25 _ (fun i => [EL ((A) * (A)), EL 1, EL (((A) * (A)) - (1)), EL dE, EL ((A) * (A)), EL ((dE) * ((A) * (A))), EL 1, EL (((dE) * ((A) * (A))) + (1)), EL (iv (((dE) * ((A) * (A))) + (1))), EL ((((A) * (A)) - (1)) * (iv (((dE) * ((A) * (A))) + (1)))), RT ((((A) * (A)) - (1)) * (iv (((dE) * ((A) * (A))) + (1)))), RT ((((A) * (A)) - (1)) * (iv (((dE) * ((A) * (A))) + (1)))), Fact.eq (.bool (rootB ((((A) * (A)) - (1)) * (iv (((dE) * ((A) * (A))) + (1)))))), EL (rootV ((((A) * (A)) - (1)) * (iv (((dE) * ((A) * (A))) + (1))))), NB W1 16, Fact.eq (.bool (rootB ((((A) * (A)) - (1)) * (iv (((dE) * ((A) * (A))) + (1))))))].getD i Fact.no) (rootV ((((A) * (A)) - (1)) * (iv (((dE) * ((A) * (A))) + (1))))) (by kernel_rfl) rfl rfl rfl (by kernel_rfl) (by kernel_rfl) rfl rfl ?_ ?_
  · intro i hi
    obtain rfl | rfl | rfl | rfl | rfl | rfl | rfl | rfl | rfl | rfl | rfl | rfl | rfl | rfl | rfl | rfl : i = 0 ∨ i = 1 ∨ i = 2 ∨ i = 3 ∨ i = 4 ∨ i = 5 ∨ i = 6 ∨ i = 7 ∨ i = 8 ∨ i = 9 ∨ i = 10 ∨ i = 11 ∨ i = 12 ∨ i = 13 ∨ i = 14 ∨ i = 15 := by omega
    · exact step_el rfl 43 6 rfl Go.Proofs.YtnaaanefndeafaaDoor.u50 i50 (by kernel_rfl) _ _ rfl _ E6 rfl
    · exact step_small rfl 1 (by omega) rfl rfl
    · exact step_sub rfl 13 14 0 1 _ _ rfl (by kernel_rfl) (by kernel_rfl) rfl rfl rfl
    · exact step_d rfl rfl rfl
    · exact step_el rfl 43 6 rfl Go.Proofs.YtnaaanefndeafaaDoor.u50 i50 (by kernel_rfl) _ _ rfl _ E6 rfl
    · exact step_mul rfl 16 17 3 4 _ _ rfl (by kernel_rfl) (by kernel_rfl) rfl rfl rfl
    · exact step_small rfl 1 (by omega) rfl rfl
    · exact step_add rfl 18 19 5 6 _ _ rfl (by kernel_rfl) (by kernel_rfl) rfl rfl rfl
    · exact step_inv rfl 20 7 _ rfl (by kernel_rfl) rfl rfl
    · exact step_mul rfl 15 21 2 8 _ _ rfl (by kernel_rfl) (by kernel_rfl) rfl rfl rfl
    · exact step_root rfl 22 9 _ rfl (by kernel_rfl) rfl rfl
    · exact step_move rfl 23 10 (by exact Or.inl rfl) (by kernel_rfl) rfl
    · exact step_ext0 rfl 12 11 _ rfl (by kernel_rfl) rfl rfl
    · exact step_ext1 rfl 12 11 _ rfl (by kernel_rfl) rfl rfl
    · exact step_new16 rfl rfl rfl
    · exact step_move rfl 24 12 (by exact Or.inr rfl) (by kernel_rfl) rfl
  intro vs2 q8 W2 v8 l8 n E8 T8 hF
  have v7' := hF 15 7 (by kernel_rfl)
  have zr := there_lt (by omega) TR
  replace E2' := E2'.up n
  replace TR := there_up (by omega) TR n
  replace TZ := TZ.up n
  replace N := nxt N n
  obtain ⟨_, v7⟩ := v7'
  clear n hF
  obtain ⟨Z, hZ⟩ : ∃ Z, Z = liftZ A := ⟨_, rfl⟩
  change vs2 7 = .bool (rootB (liftZ A)) at v7
  replace E8 : Elt W2 q8 0 (rootV (liftZ A)) := E8
  rw [← hZ] at v7 E8
  have KB : Hid (liB A odd = (rootB Z && !(odd && decide (rootV Z % PP = 0)))) := by show _ = _; rw [hZ]; rfl
  have KX0 : Hid (liX A odd = if liB A odd = true then fill (byt ((if odd = true then 0 - rootV Z else rootV Z) % PP)) 32 else []) := by show _ = _; rw [hZ]; rfl
  have KY0 : Hid (liY A odd = if liB A odd = true then fill (byt (A % PP)) 32 else []) := by show _ = _; rfl
  clear hZ
  obtain ⟨V, hV⟩ : ∃ V, V = rootV Z := ⟨_, rfl⟩
  rw [← hV] at E8 KB KX0
  obtain ⟨rb, hrb⟩ : ∃ b, b = rootB Z := ⟨_, rfl⟩
  rw [← hrb] at v7 KB
  clear hV hrb
  simp only [puts, v8, v7, Act.put, List.setIfInBounds_toArray, List.set_cons_succ, List.set_cons_zero]
  clear v8 v7
  have gq : w.heap.size + 1 < q8 := by omega
  clear l6 y6 l8 E6 zr
  cases rb with
  | false =>
    have KK : Hid (liB A odd = false) := by show _ = _; rw [KB.out]; rfl
    have KX : Hid (liX A odd = []) := by show _ = _; rw [KX0.out, if_neg (by rw [KK.out]; simp)]
    have KY : Hid (liY A odd = []) := by show _ = _; rw [KY0.out, if_neg (by rw [KK.out]; simp)]
    obtain ⟨y0, y1, f0, f1⟩ := TZ
    clear KB KX0 KY0 E2' E8 T8 TR
    go_wp2
    refine bodyPost_ret (v := .tuple #[.bool false, .agg #[.slice none 0 0, .slice none 0 0]]) (by simp [results, Tryd.results51, go_sem, y0, y1]) rfl ⟨by rw [KK.out, KX.out, KY.out]; exact newLi_nil, ?_⟩
    exact (N.setCell (by show w.heap.size ≤ w.heap.size + 1; omega) _).setCell (by show w.heap.size ≤ w.heap.size + 1; omega) _
  | true =>
    cases odd with
    | false =>
      have KK : Hid (liB A false = true) := by show _ = _; rw [KB.out]; rfl
      have KX : Hid (liX A false = fill (byt ((V) % PP)) 32) := by show _ = _; rw [KX0.out, if_pos KK.out]; rfl
      have KY : Hid (liY A false = fill (byt ((A) % PP)) 32) := by show _ = _; rw [KY0.out, if_pos KK.out]
      clear KB KX0 KY0 TZ
      go_upto_region 7 with fail
      refine region_putPF 6 4 5 44 _ (fun i => [EL (V), RN W2 (fun xs => xs = fill (byt ((V) % PP)) 32), EL (A), RN W2 (fun xs => xs = fill (byt ((A) % PP)) 32), PT W2 (fun xs ys => xs = fill (byt ((V) % PP)) 32 ∧ ys = fill (byt ((A) % PP)) 32), Fact.eq (.bool true)].getD i Fact.no) (fun xs ys => xs = fill (byt ((V) % PP)) 32 ∧ ys = fill (byt ((A) % PP)) 32) _ (by kernel_rfl) rfl rfl rfl (by kernel_rfl) rfl TR (by kernel_rfl) rfl ?_ ?_
      · intro i hi
        obtain rfl | rfl | rfl | rfl | rfl | rfl : i = 0 ∨ i = 1 ∨ i = 2 ∨ i = 3 ∨ i = 4 ∨ i = 5 := by omega
        · exact step_el rfl 43 8 rfl Go.Proofs.YtnaaanefndeafaaDoor.u50 i50 (by kernel_rfl) _ _ rfl _ E8 rfl
        · exact step_bytes rfl 40 0 _ rfl (by kernel_rfl) rfl rfl
        · exact step_el rfl 43 2 rfl Go.Proofs.YtnaaanefndeafaaDoor.u50 i50 (by kernel_rfl) _ _ rfl _ E2' rfl
        · exact step_bytes rfl 42 2 _ rfl (by kernel_rfl) rfl rfl
        · exact step_bp rfl 41 43 1 3 _ _ rfl (by kernel_rfl) (by kernel_rfl) rfl rfl rfl
        · exact step_konst rfl rfl rfl
      rintro vt Wa Wb ps qs b1 b2 d1 d2 h1 h2 n bq rg o1 o2 l1 l2 ⟨rfl, rfl⟩ nb hF
      obtain ⟨_, v4⟩ := hF 5 4 (by kernel_rfl)
      clear hF
      change vt 4 = .bool true at v4
      have NS := nb w w.heap.size (nxt N n) (by omega)
      simp only [puts, v4, Act.put, List.setIfInBounds_toArray, List.set_cons_succ, List.set_cons_zero]
      clear v4
      have z1 := N.size
      clear N n bq nb TR E2' E8
      rw [show fill (byt ((V) % PP)) 32 = liX A false from KX.out.symm] at o1 rg
      rw [show fill (byt ((A) % PP)) 32 = liY A false from KY.out.symm] at o2 rg
      clear KX KY
      go_wp2
      have k0 := rg 0 _ rfl
      have k1 := rg 1 _ rfl
      simp only [Nat.zero_add] at k0 k1
      refine bodyPost_ret (v := .tuple #[.bool true, .agg #[.slice b1 (liX A false).length d1, .slice b2 (liY A false).length d2]]) (by simp [results, Tryd.results51, go_sem, k0, k1]) rfl ⟨?_, NS⟩
      rw [KK.out]
      exact ⟨b1, b2, d1, d2, h1, h2, rfl, o1, o2, by omega, by omega⟩
    | true =>
      obtain ⟨t8, rg8, _, L8, V8⟩ := id E8
      have IZ := hide (fun W => l2IsZero_any W t8 L8)
      simp only [show ∀ f, ag16 f = .agg (a16 f) from fun _ => rfl] at IZ
      have LD := hide rg8
      rw [V8] at IZ
      clear L8 V8 rg8
      by_cases hz : V % PP = 0
      · have KK : Hid (liB A true = false) := by show _ = _; rw [KB.out, decide_eq_true hz]; rfl
        have KX : Hid (liX A true = []) := by show _ = _; rw [KX0.out, if_neg (by rw [KK.out]; simp)]
        have KY : Hid (liY A true = []) := by show _ = _; rw [KY0.out, if_neg (by rw [KK.out]; simp)]
        simp only [decide_eq_true hz] at IZ
        clear KB KX0 KY0 E2' E8 T8 TR hz
        go_wp2_with (refine wpList_load_want rfl 43 (.tmp 8) rfl q8 0 rfl (a16 t8).toList (.array 16 2) LD.out Go.Proofs.YtnaaanefndeafaaDoor.u50 rfl (by rw [a16_len]; exact i50) ?_)
        refine (IZ.out W2).mono ?_
        rintro r W3' ⟨rfl, n⟩
        replace N := nxt N n
        obtain ⟨y0, y1, f0, f1⟩ := TZ.up n
        clear IZ LD n TZ
        go_wp2
        refine bodyPost_ret (v := .tuple #[.bool false, .agg #[.slice none 0 0, .slice none 0 0]]) (by simp [results, Tryd.results51, go_sem, y0, y1]) rfl ⟨by rw [KK.out, KX.out, KY.out]; exact newLi_nil, ?_⟩
        exact (N.setCell (by show w.heap.size ≤ w.heap.size + 1; omega) _).setCell (by show w.heap.size ≤ w.heap.size + 1; omega) _
      · have KK : Hid (liB A true = true) := by show _ = _; rw [KB.out, decide_eq_false hz]; rfl
        have KX : Hid (liX A true = fill (byt (((0) - (V)) % PP)) 32) := by show _ = _; rw [KX0.out, if_pos KK.out]; rfl
        have KY : Hid (liY A true = fill (byt ((A) % PP)) 32) := by show _ = _; rw [KY0.out, if_pos KK.out]
        simp only [decide_eq_false hz] at IZ
        clear KB KX0 KY0 TZ hz
        go_wp2_with (refine wpList_load_want rfl 43 (.tmp 8) rfl q8 0 rfl (a16 t8).toList (.array 16 2) LD.out Go.Proofs.YtnaaanefndeafaaDoor.u50 rfl (by rw [a16_len]; exact i50) ?_)
        refine (IZ.out W2).mono ?_
        rintro r W5 ⟨rfl, n⟩
        replace E2' := E2'.up n
        replace E8 := E8.up n
        replace TR := there_up (by omega) TR n
        replace T8 := there_up (by omega) T8 n
        replace N := nxt N n
        clear IZ LD n
        go_upto_region 6 with fail
        refine region_put16 3 2 8 39 _ (fun i => [EL 0, EL (V), EL ((0) - (V))].getD i Fact.no) ((0) - (V)) _ (by kernel_rfl) rfl rfl rfl (by kernel_rfl) rfl T8 (by kernel_rfl) rfl ?_ ?_
        · intro i hi
          obtain rfl | rfl | rfl : i = 0 ∨ i = 1 ∨ i = 2 := by omega
          · exact step_small rfl 0 (by omega) rfl rfl
          · exact step_el rfl 43 8 rfl Go.Proofs.YtnaaanefndeafaaDoor.u50 i50 (by kernel_rfl) _ _ rfl _ E8 rfl
          · exact step_sub rfl 37 38 0 1 _ _ rfl (by kernel_rfl) (by kernel_rfl) rfl rfl rfl
        intro vs6 Wc W6 n b E8n T8n nb
        replace E2' := E2'.but b (by omega)
        replace TR := there_but (by omega) TR b (by omega)
        replace N := nb w w.heap.size (nxt N n) (by omega)
        clear n b nb T8n T8 E8
        simp only [puts, Act.put, List.setIfInBounds_toArray, List.set_cons_succ, List.set_cons_zero]
        go_upto_region 7 with fail
        refine region_putPF 6 4 5 44 _ (fun i => [EL ((0) - (V)), RN W6 (fun xs => xs = fill (byt (((0) - (V)) % PP)) 32), EL (A), RN W6 (fun xs => xs = fill (byt ((A) % PP)) 32), PT W6 (fun xs ys => xs = fill (byt (((0) - (V)) % PP)) 32 ∧ ys = fill (byt ((A) % PP)) 32), Fact.eq (.bool true)].getD i Fact.no) (fun xs ys => xs = fill (byt (((0) - (V)) % PP)) 32 ∧ ys = fill (byt ((A) % PP)) 32) _ (by kernel_rfl) rfl rfl rfl (by kernel_rfl) rfl TR (by kernel_rfl) rfl ?_ ?_
        · intro i hi
          obtain rfl | rfl | rfl | rfl | rfl | rfl : i = 0 ∨ i = 1 ∨ i = 2 ∨ i = 3 ∨ i = 4 ∨ i = 5 := by omega
          · exact step_el rfl 43 8 rfl Go.Proofs.YtnaaanefndeafaaDoor.u50 i50 (by kernel_rfl) _ _ rfl _ E8n rfl
          · exact step_bytes rfl 40 0 _ rfl (by kernel_rfl) rfl rfl
          · exact step_el rfl 43 2 rfl Go.Proofs.YtnaaanefndeafaaDoor.u50 i50 (by kernel_rfl) _ _ rfl _ E2' rfl
          · exact step_bytes rfl 42 2 _ rfl (by kernel_rfl) rfl rfl
          · exact step_bp rfl 41 43 1 3 _ _ rfl (by kernel_rfl) (by kernel_rfl) rfl rfl rfl
          · exact step_konst rfl rfl rfl
        rintro vt Wa Wb ps qs b1 b2 d1 d2 h1 h2 n bq rg o1 o2 l1 l2 ⟨rfl, rfl⟩ nb hF
        obtain ⟨_, v4⟩ := hF 5 4 (by kernel_rfl)
        clear hF
        change vt 4 = .bool true at v4
        have NS := nb w w.heap.size (nxt N n) (by omega)
        simp only [puts, v4, Act.put, List.setIfInBounds_toArray, List.set_cons_succ, List.set_cons_zero]
        clear v4
        have z1 := N.size
        clear N n bq nb TR E2' E8n
        rw [show fill (byt (((0) - (V)) % PP)) 32 = liX A true from KX.out.symm] at o1 rg
        rw [show fill (byt ((A) % PP)) 32 = liY A true from KY.out.symm] at o2 rg
        clear KX KY
        go_wp2
        have k0 := rg 0 _ rfl
        have k1 := rg 1 _ rfl
        simp only [Nat.zero_add] at k0 k1
        refine bodyPost_ret (v := .tuple #[.bool true, .agg #[.slice b1 (liX A true).length d1, .slice b2 (liY A true).length d2]]) (by simp [results, Tryd.results51, go_sem, k0, k1]) rfl ⟨?_, NS⟩
        rw [KK.out]
        exact ⟨b1, b2, d1, d2, h1, h2, rfl, o1, o2, by omega, by omega⟩
end Go.Proofs.YtnaaanefndeafaaDoor
