import Derived.Test.YthapcapiiknjdaaDoorGB35
import Derived.Test.YthapcapiiknjdaaDoorGB2
import Derived.Test.YthapcapiiknjdaaDoorGB17
import Derived.BigFrame

/-
  The model's numbers of int64, and its l5Small, told as values.
-/
namespace Go.Proofs.YthapcapiiknjdaaDoor
set_option maxRecDepth 100000
open Go Go.RowKit

/-- The bytes of a number below 65536, the highest first. -/
def inF (v : Int) : List Int := if v = 0 then [] else if v < 256 then [v] else [v / 256, v % 256]
def InS (v t : Int) (ys : List Int) : Prop := (ys = [] ∧ t = v) ∨ (ys = [v % 256] ∧ t = v / 256 ∧ 0 < v) ∨ (ys = [v % 256, v / 256] ∧ t = 0 ∧ 256 ≤ v)
theorem InS.go {v t : Int} {ys : List Int} (h : InS v t ys) (h0 : 0 < t) (hv : v < 65536) : InS v (t / 256) (ys ++ [t % 256]) := by
  rcases h with ⟨rfl, rfl⟩ | ⟨rfl, rfl, h1⟩ | ⟨rfl, rfl, h1⟩
  · exact Or.inr (Or.inl ⟨rfl, rfl, h0⟩)
  · refine Or.inr (Or.inr ⟨?_, by omega, by omega⟩)
    rw [show v / 256 % 256 = v / 256 by omega]
    rfl
  · omega
theorem InS.short {v t : Int} {ys : List Int} (h : InS v t ys) (h0 : 0 < t) (hv : v < 65536) : ys.length + 1 ≤ 2 := by
  rcases h with ⟨rfl, rfl⟩ | ⟨rfl, rfl, h1⟩ | ⟨rfl, rfl, h1⟩
  · simp
  · simp
  · omega
theorem InS.turn {v : Int} {ys zs : List Int} (h : InS v 0 ys) (v0 : 0 ≤ v) (hv : v < 65536) (z : TurnTo ys zs ys.length) : zs = inF v := by
  obtain ⟨z1, z2⟩ := z
  unfold inF
  rcases h with ⟨rfl, rfl⟩ | ⟨rfl, h2, h1⟩ | ⟨rfl, _, h1⟩
  · rw [if_pos rfl]
    exact List.eq_nil_of_length_eq_zero z1
  · rw [if_neg (by omega), if_pos (by omega)]
    match zs, z1 with
    | [x], _ =>
      have := z2 0 (by simp)
      simp at this
      rw [this, show v % 256 = v by omega]
  · rw [if_neg (by omega), if_neg (by omega)]
    match zs, z1 with
    | [x, y], _ =>
      have a := z2 0 (by simp)
      have b := z2 1 (by simp)
      simp at a b
      rw [a, b]
theorem inF_byt {v : Int} (h0 : 0 ≤ v) (h1 : v < 65536) : Byt (inF v) ∧ (inF v).length ≤ 2 := by
  unfold inF
  split
  · exact ⟨byt_nil, by simp⟩
  · split
    · exact ⟨byt_snoc (ys := []) byt_nil v h0 (by omega), by simp⟩
    · exact ⟨byt_snoc (ys := [v / 256]) (byt_snoc (ys := []) byt_nil _ (by omega) (by omega)) _ (by omega) (by omega), by simp⟩
set_option maxHeartbeats 2000000 in
theorem l1IntV_any (w : World) (v : Int) (v0 : 0 ≤ v) (v1 : v < 65536) :
    Calls Tryd.prog 85 #[.int .i64 v] w fun e w' => NewRow w.heap.size w' e .u8 (inF v) ∧ Below w.heap.size w w' := by
  obtain ⟨i0, hi, hz0, hz1, hz2⟩ := info_parts Tryd.info5
  have hown0 : (w.alloc (.cells #[] 5)).ownsRow w.heap.size 5 1 (.slice (some ⟨w.heap.size, 0, none⟩) 0 0) 0 [] := World.ownsRow_lit w #[] 0 (Nat.le_refl _) (by unfold maxLen; omega) (by simp)
  have hal : Below w.heap.size w (w.alloc (.cells #[] 5)) := (Below.refl _ _).alloc (Nat.le_refl _) _
  go_enter Tryd.func85, Tryd.ntmps85
  go_wp2
  go_loopw [0, 3] (fun q ov wr => ∃ (k : Nat) (t : Int) (ys : List Int), q = .int .i64 t ∧ 0 ≤ t ∧ t < 65536 ∧ k ≤ 2 ∧ Hid (InS v t ys) ∧ Hid (ys.length = k) ∧ Byt ys ∧ wr.ownsRow w.heap.size 5 1 ov k (ys.map (Value.int .u8)) ∧ Below w.heap.size w wr) (fun q _ _ => (intOf q).toNat)
  case atStart => exact ⟨0, v, [], rfl, v0, v1, by omega, Or.inl ⟨rfl, rfl⟩, rfl, byt_nil, hown0, hal⟩
  case round =>
    obtain ⟨k, t, ys, rfl, ht0, ht1, hk1, hI, hyl, hyb, hown, hN⟩ := hrel
    have hob := hown.lt
    by_cases hlt : 0 < t
    · have hI2 := hide (InS.go hI.out hlt v1)
      have hk2 : k + 1 ≤ 2 := by have := InS.short hI.out hlt v1; rw [hyl.out] at this; exact this
      have c0 : 0 ≤ t % 256 := by omega
      have c1 : t % 256 < 256 := by omega
      obtain ⟨u, hu⟩ : ∃ u, u = t % 256 := ⟨_, rfl⟩
      rw [← hu] at hI2 c0 c1
      have hu2 := hu.symm
      clear hk1 hI hu
      go_wp2_with (at_builtin; refine wpList_append_own _ rfl _ _ 22 rfl w.heap.size 5 i0 (.int .u8 0) 1 1 Tryd.underlying22 hi hz0 hz1 hz2 rfl (by decide) _ k (ys.map (Value.int .u8)) rfl (hown.alloc _) ⟨wr.heap.size, 0, none⟩ 1 1 [.int .u8 u] rfl rfl ?c1 ?c2 ?c3 ?c4 ?c5 ?_)
      case c1 =>
        intro j x hj
        match j, hj with
        | 0, hj => simp at hj; subst hj; simp [Addr.add]
      case c2 => intro x hx; simp at hx; subst hx; rfl
      case c3 => unfold maxLen; omega
      case c4 => omega
      case c5 => simp; have := hN.size; omega
      · intro v' w2 hown2 hgrow _
        have nA : Below w.heap.size w (wr.alloc (.cells #[.int .u8 u] 5)) := hN.alloc hN.size _
        have N2 : Below w.heap.size w w2 := nA.grown hgrow (by simp; have := hN.size; omega) (fun i hi => (hob i hi).1)
        have hown3 : w2.ownsRow w.heap.size 5 1 v' (k + 1) ((ys ++ [u]).map (Value.int .u8)) := by simpa using hown2
        have hl3 : Hid ((ys ++ [u]).length = k + 1) := by show _ = _; have := hyl.out; simp; omega
        have hb3 := byt_snoc hyb u c0 c1
        clear hown hown2 hgrow nA hob
        go_wp2
        go_roundw
        case rel => exact ⟨k + 1, t / 256, ys ++ [u], rfl, by omega, by omega, hk2, hI2, hl3, hb3, hown3, N2⟩
        case measure => simp [intOf]; omega
    · obtain rfl : t = 0 := by omega
      have hown' := hown
      rw [← hyl.out] at hown'
      obtain ⟨a', c', g', hv, o1, o2, o3, o4⟩ := Own.of_ownsRow hown'
      subst hv
      have L : ys.length ≤ 2 := by rw [hyl.out]; exact hk1
      have T := l1Turn_any wr g' a' c' ys o1.rd hyb (by omega)
      have HT := hide T
      clear hown hown' T
      go_wp2_with fail
      refine (unhide HT).mono ?_
      rintro e w3 ⟨zs, zt, zb, ⟨a3, c3, g3, rfl, o31, o32, o33, o34⟩, n3⟩
      have ZI := hide (InS.turn hI.out v0 v1 zt)
      clear zt hI
      have N3 := nxt hN n3
      have sz := hN.size
      go_wp2
      go_ret
      rw [← ZI.out]
      exact ⟨⟨_, _, g3, rfl, o31, o32, o33, by omega⟩, N3⟩

/-- The bytes of a number, the highest first and none of them 0. -/
def topG : Nat → Int → List Int
  | 0, _ => []
  | n + 1, v => if v ≤ 0 then [] else topG n (v / 256) ++ [v % 256]
def topF (v : Int) : List Int := topG v.toNat v
theorem topG_is : ∀ (n : Nat) (v : Int), 0 ≤ v → v.toNat ≤ n → Canon (topG n v) v
  | 0, v, h, k => by
    obtain rfl : v = 0 := by omega
    exact ⟨byt_nil, rfl, fun h => absurd h (by simp [topG])⟩
  | n + 1, v, h, k => by
    rw [topG]
    by_cases c : v ≤ 0
    · rw [if_pos c]
      obtain rfl : v = 0 := by omega
      exact ⟨byt_nil, rfl, fun h => absurd h (by simp)⟩
    · rw [if_neg c]
      obtain ⟨b, e, t⟩ := topG_is n (v / 256) (by omega) (by omega)
      refine ⟨byt_snoc b _ (by omega) (by omega), by rw [bval_snoc, e]; omega, fun _ => ?_⟩
      generalize topG n (v / 256) = ys at *
      cases ys with
      | nil =>
        have e0 : (0 : Int) = v / 256 := e
        show v % 256 ≠ 0
        omega
      | cons x xs => exact t (by simp)
theorem topF_eq {t : List Int} {v : Int} (h : Canon t v) : topF v = t := (topG_is _ _ (h.2.1 ▸ bval_nonneg h.1) (Nat.le_refl _)).uniq h
/-- A point by a number. -/
def tmP (ks xs ys : List Int) : W3 := acc dE (num xs, num ys, 1) (bitOf (topF (lsum (fun j => ks.getD j 0) ks.length))) (8 * (topF (lsum (fun j => ks.getD j 0) ks.length)).length)
def plX (p : W3) : List Int := fill (byt (p.1 * iv p.2.2 % PP)) 32
def plY (p : W3) : List Int := fill (byt (p.2.1 * iv p.2.2 % PP)) 32
def E3F (p : W3) : Fact := ⟨fun v _ => ∃ x y z, v = ag48 x y z ∧ (L16 x ∧ s16 x 16 % PP = p.1 % PP) ∧ (L16 y ∧ s16 y 16 % PP = p.2.1 % PP) ∧ (L16 z ∧ s16 z 16 % PP = p.2.2 % PP), fun _ h => h⟩
section
variable {ops : Array Oper} {Q : Exit → Act → World → Prop} {md : Region.Mode} {F : Nat → Fact} {a0 : Act} {w0 : World} {i : Nat} {o : Oper} {ts : Array TypeId}
theorem step_intV (hi : ops[i]? = some o) (p j : Nat) (v : Int) (hv : 0 ≤ v ∧ v < 65536) (hop : o.op = .call { callee := .value (.func 85), args := #[.tmp p], argTypes := ts })
    (hj : waits md ops i j p = true) (hFj : F j = Fact.eq (.int .i64 v)) (hFi : F i = RN w0 (fun xs => xs = inF v)) : StepOk Tryd.prog md ops Q F a0 w0 i := by
  refine step_call hi _ _ ts hop en_int fun a w _ hw hF => ?_
  have ea := hF j p hj
  rw [hFj] at ea
  have e1 : a.tmps.getD p undef = .int .i64 v := ea
  show Calls Tryd.prog 85 #[a.tmps.getD p undef] w _
  rw [e1]
  refine (l1IntV_any w v hv.1 hv.2).mono ?_
  rintro r w' ⟨⟨b, c, g, rfl, ow, k1, k2, hg⟩, hn⟩
  rw [hFi]
  exact ⟨_, rfl, hn, inF v, b, c, g, rfl, ow, Nat.le_trans hw.size hg, rfl, k1, k2⟩
theorem step_litV (hi : ops[i]? = some o) (p j : Nat) {zs : List Int} (hop : o.op = .call { callee := .value (.func 84), args := #[.tmp p, .const (.int .i64 32)], argTypes := ts })
    (hj : waits md ops i j p = true) (hz : Byt zs ∧ zs.length ≤ 2) (hFj : F j = RN w0 (fun xs => xs = zs)) (hFi : F i = RN w0 (fun xs => xs = fill (dig zs) 32)) : StepOk Tryd.prog md ops Q F a0 w0 i := by
  refine step_call hi _ _ ts hop en_little fun a w _ hw hF => ?_
  have ea := hF j p hj
  rw [hFj] at ea
  obtain ⟨xs, b, c, g, e1, ow, hg, rfl, k1, k2⟩ := ea
  show Calls Tryd.prog 84 #[a.tmps.getD p undef, .int .i64 32] w _
  rw [e1]
  refine (l1Little_any w g b c xs 32 ow.rd hz.1 (by omega) (by omega)).mono ?_
  rintro r w' ⟨rfl, B, hn⟩
  rw [hFi]
  exact ⟨_, rfl, hn, fill (dig xs) 32, _, 32, w.heap.size, by rw [fill_len], B.own0, hw.size, rfl, by simp, by rw [fill_len]; omega⟩
theorem step_timesV (hi : ops[i]? = some o) (p q j k : Nat) {ks f g : List Int} (hop : o.op = .call { callee := .value (.func 73), args := #[.tmp p, .tmp q], argTypes := ts })
    (hj : waits md ops i j p = true) (hk : waits md ops i k q = true) (hks : Byt ks ∧ ks.length ≤ 4096) (hf : PtOk f g) (hFj : F j = RN w0 (fun xs => xs = ks)) (hFk : F k = PT w0 (fun xs ys => xs = f ∧ ys = g)) (hFi : F i = E3F (tmP ks f g)) : StepOk Tryd.prog md ops Q F a0 w0 i := by
  refine step_call hi _ _ ts hop en_times fun a w _ _ hF => ?_
  have ea := hF j p hj
  have eb := hF k q hk
  rw [hFj] at ea
  rw [hFk] at eb
  obtain ⟨ks, b, c, h, e1, ow, _, rfl, _, _⟩ := ea
  obtain ⟨xs, ys, b1, b2, c1, c2, h1, h2, e2, o1, o2, _, _, rfl, rfl⟩ := eb
  show Calls Tryd.prog 73 #[a.tmps.getD p undef, a.tmps.getD q undef] w _
  rw [e1, e2]
  refine (l5Times_any w h h1 h2 b b1 b2 c c1 c2 ks xs ys ow.rd hks.1 hks.2 o1.rd o2.rd hf.1.1 hf.2.1 hf.1.2 hf.2.2).mono ?_
  rintro r w' ⟨top, P, x, y, z, hc, hP, rfl, hx, hy, hz, hn⟩
  rw [hFi]
  have e : tmP ks xs ys = P := by unfold tmP; rw [topF_eq hc, hP]
  rw [e]
  exact ⟨_, rfl, hn, x, y, z, rfl, hx, hy, hz⟩
theorem step_plainV (hi : ops[i]? = some o) (p j : Nat) {P : W3} (hop : o.op = .call { callee := .value (.func 72), args := #[.tmp p], argTypes := ts })
    (hj : waits md ops i j p = true) (hFj : F j = E3F P) (hFi : F i = PT w0 (fun xs ys => xs = plX P ∧ ys = plY P)) : StepOk Tryd.prog md ops Q F a0 w0 i := by
  refine step_call hi _ _ ts hop en_plain fun a w _ hw hF => ?_
  have ea := hF j p hj
  rw [hFj] at ea
  obtain ⟨x, y, z, e1, hx, hy, hz⟩ := ea
  show Calls Tryd.prog 72 #[a.tmps.getD p undef] w _
  rw [e1]
  refine (l5Plain_any w x y z _ _ _ hx hy hz).mono ?_
  rintro r w' ⟨⟨b, b', c, c', g, g', rfl, o1, o2, l1, l2⟩, hn⟩
  rw [hFi]
  exact ⟨_, rfl, hn, _, _, b, b', c, c', g, g', rfl, o1, o2, Nat.le_trans hw.size l1, Nat.le_trans hw.size l2, rfl, rfl⟩
theorem step_zeroV (hi : ops[i]? = some o) (hop : o.op = .call { callee := .value (.func 14), args := #[], argTypes := ts }) (hFi : F i = PT w0 (fun xs ys => xs = fill (byt (0 % PP)) 32 ∧ ys = fill (byt (1 % PP)) 32)) : StepOk Tryd.prog md ops Q F a0 w0 i := by
  refine step_call hi _ _ ts hop en_zero fun a w _ hw _ => ?_
  refine (pointZero_any w).mono ?_
  rintro r w' ⟨⟨b, b', c, c', g, g', rfl, o1, o2, l1, l2⟩, hn⟩
  rw [hFi]
  exact ⟨_, rfl, hn, _, _, b, b', c, c', g, g', rfl, o1, o2, Nat.le_trans hw.size l1, Nat.le_trans hw.size l2, rfl, rfl⟩
end
def sqA : Int := ((1) + (rootV ((1) + (dE)))) * (iv (dE))
def sqB : Int := ((1) - (rootV ((1) + (dE)))) * (iv (dE))
def ptA : List Int × List Int := (fill (byt (rootV sqA % PP)) 32, fill (byt (rootV sqA * rootV (0 - 1) % PP)) 32)
def ptB : List Int × List Int := (fill (byt (rootV sqB % PP)) 32, fill (byt (rootV sqB * rootV (0 - 1) % PP)) 32)
theorem ptA_ok : PtOk ptA.1 ptA.2 := ⟨⟨bytes_5 _ _, fill_len _ _⟩, bytes_5 _ _, fill_len _ _⟩
theorem ptB_ok : PtOk ptB.1 ptB.2 := ⟨⟨bytes_5 _ _, fill_len _ _⟩, bytes_5 _ _, fill_len _ _⟩
/-- One of the eight small points. -/
def smP (k : Int) : List Int × List Int :=
  if rootB sqA = true then (plX (tmP (fill (dig (inF k)) 32) ptA.1 ptA.2), plY (tmP (fill (dig (inF k)) 32) ptA.1 ptA.2))
  else if rootB sqB = true then (plX (tmP (fill (dig (inF k)) 32) ptB.1 ptB.2), plY (tmP (fill (dig (inF k)) 32) ptB.1 ptB.2))
  else (fill (byt (0 % PP)) 32, fill (byt (1 % PP)) 32)
theorem pl_ok (p : W3) : PtOk (plX p) (plY p) := ⟨⟨bytes_5 _ _, fill_len _ _⟩, bytes_5 _ _, fill_len _ _⟩
theorem smP_ok (k : Int) : PtOk (smP k).1 (smP k).2 := by
  unfold smP
  generalize rootB sqA = p
  generalize rootB sqB = q
  cases p
  · cases q
    · exact ⟨⟨bytes_5 _ _, fill_len _ _⟩, bytes_5 _ _, fill_len _ _⟩
    · exact pl_ok _
  · exact pl_ok _
set_option maxHeartbeats 4000000 in
theorem l5SmallV_any (w : World) (k : Int) (k0 : 0 ≤ k) (k1 : k ≤ 255) :
    Calls Tryd.prog 120 #[.int .i64 k] w fun r w' => NewPt w.heap.size w' r (smP k).1 (smP k).2 ∧ Below w.heap.size w w' := by
  go_enter Tryd.func120, Tryd.ntmps120
  go_upto_region 1 with fail
  change Code.wp _ _ _ _ (w.alloc pObj)
  have TR := there_p w
  have N : Below w.heap.size w (w.alloc pObj) := (Below.refl _ _).alloc (Nat.le_refl _) _
  generalize w.alloc pObj = wr at *
  have zr := there_lt (by omega) TR
  refine region_new16 2 1 0 3 10 _ (fun i => [EL dE, NB wr 16].getD i Fact.no) (dE) (by kernel_rfl) rfl rfl rfl (by kernel_rfl) (by kernel_rfl) rfl rfl ?_ ?_
  · intro i hi
    obtain rfl | rfl : i = 0 ∨ i = 1 := by omega
    · exact step_d rfl rfl rfl
    · exact step_new16 rfl rfl rfl
  intro vs1 q3 W1 v3 h3 n1 E3' T3
  have mn1 := n1.size
  replace TR := there_up (by omega) TR n1
  replace N := nxt N n1
  clear n1 T3
  simp only [puts, v3, Act.put, List.setIfInBounds_toArray, List.set_cons_succ, List.set_cons_zero]
  clear v3
  go_upto_region 2 with fail
  refine region_new16 9 7 6 5 17 _ (fun i => [EL 0, EL 1, EL ((0) - (1)), RT ((0) - (1)), RT ((0) - (1)), Fact.eq (.bool (rootB ((0) - (1)))), EL (rootV ((0) - (1))), NB W1 16, Fact.eq (.bool (rootB ((0) - (1))))].getD i Fact.no) (rootV ((0) - (1))) (by kernel_rfl) rfl rfl rfl (by kernel_rfl) (by kernel_rfl) rfl rfl ?_ ?_
  · intro i hi
    obtain rfl | rfl | rfl | rfl | rfl | rfl | rfl | rfl | rfl : i = 0 ∨ i = 1 ∨ i = 2 ∨ i = 3 ∨ i = 4 ∨ i = 5 ∨ i = 6 ∨ i = 7 ∨ i = 8 := by omega
    · exact step_small rfl 0 (by omega) rfl rfl
    · exact step_small rfl 1 (by omega) rfl rfl
    · exact step_sub rfl 12 13 0 1 _ _ rfl (by kernel_rfl) (by kernel_rfl) rfl rfl rfl
    · exact step_root rfl 14 2 _ rfl (by kernel_rfl) rfl rfl
    · exact step_move rfl 15 3 (by exact Or.inl rfl) (by kernel_rfl) rfl
    · exact step_ext0 rfl 11 4 _ rfl (by kernel_rfl) rfl rfl
    · exact step_ext1 rfl 11 4 _ rfl (by kernel_rfl) rfl rfl
    · exact step_new16 rfl rfl rfl
    · exact step_move rfl 16 5 (by exact Or.inr rfl) (by kernel_rfl) rfl
  intro vs2 q5 W2 v5 h5 n2 E5 T5
  have y5 := E5.lt
  have mn2 := n2.size
  replace E3' := E3'.up n2
  replace TR := there_up (by omega) TR n2
  replace N := nxt N n2
  clear n2 T5
  simp only [puts, v5, Act.put, List.setIfInBounds_toArray, List.set_cons_succ, List.set_cons_zero]
  clear v5
  go_upto_region 3 with fail
  refine region_new16 9 7 6 7 24 _ (fun i => [EL 1, EL (dE), EL ((1) + (dE)), RT ((1) + (dE)), RT ((1) + (dE)), Fact.eq (.bool (rootB ((1) + (dE)))), EL (rootV ((1) + (dE))), NB W2 16, Fact.eq (.bool (rootB ((1) + (dE))))].getD i Fact.no) (rootV ((1) + (dE))) (by kernel_rfl) rfl rfl rfl (by kernel_rfl) (by kernel_rfl) rfl rfl ?_ ?_
  · intro i hi
    obtain rfl | rfl | rfl | rfl | rfl | rfl | rfl | rfl | rfl : i = 0 ∨ i = 1 ∨ i = 2 ∨ i = 3 ∨ i = 4 ∨ i = 5 ∨ i = 6 ∨ i = 7 ∨ i = 8 := by omega
    · exact step_small rfl 1 (by omega) rfl rfl
    · exact step_el rfl 52 3 rfl Go.Proofs.YthapcapiiknjdaaDoor.u50 i50 (by kernel_rfl) _ _ rfl _ E3' rfl
    · exact step_add rfl 19 20 0 1 _ _ rfl (by kernel_rfl) (by kernel_rfl) rfl rfl rfl
    · exact step_root rfl 21 2 _ rfl (by kernel_rfl) rfl rfl
    · exact step_move rfl 22 3 (by exact Or.inl rfl) (by kernel_rfl) rfl
    · exact step_ext0 rfl 18 4 _ rfl (by kernel_rfl) rfl rfl
    · exact step_ext1 rfl 18 4 _ rfl (by kernel_rfl) rfl rfl
    · exact step_new16 rfl rfl rfl
    · exact step_move rfl 23 5 (by exact Or.inr rfl) (by kernel_rfl) rfl
  intro vs3 q7 W3' v7 h7 n3 E7 T7
  have mn3 := n3.size
  replace E3' := E3'.up n3
  replace E5 := E5.up n3
  replace TR := there_up (by omega) TR n3
  replace N := nxt N n3
  clear n3 T7
  simp only [puts, v7, Act.put, List.setIfInBounds_toArray, List.set_cons_succ, List.set_cons_zero]
  clear v7
  go_upto_region 4 with fail
  refine region_new16F 12 10 9 9 34 _ (fun i => [EL 1, EL (rootV ((1) + (dE))), EL ((1) + (rootV ((1) + (dE)))), EL (dE), EL (iv (dE)), EL (sqA), RT (sqA), RT (sqA), Fact.eq (.bool (rootB (sqA))), EL (rootV (sqA)), NB W3' 16, Fact.eq (.bool (rootB (sqA)))].getD i Fact.no) (rootV (sqA)) (by kernel_rfl) rfl rfl rfl (by kernel_rfl) (by kernel_rfl) rfl rfl ?_ ?_
  · intro i hi
    obtain rfl | rfl | rfl | rfl | rfl | rfl | rfl | rfl | rfl | rfl | rfl | rfl : i = 0 ∨ i = 1 ∨ i = 2 ∨ i = 3 ∨ i = 4 ∨ i = 5 ∨ i = 6 ∨ i = 7 ∨ i = 8 ∨ i = 9 ∨ i = 10 ∨ i = 11 := by omega
    · exact step_small rfl 1 (by omega) rfl rfl
    · exact step_el rfl 52 7 rfl Go.Proofs.YthapcapiiknjdaaDoor.u50 i50 (by kernel_rfl) _ _ rfl _ E7 rfl
    · exact step_add rfl 26 27 0 1 _ _ rfl (by kernel_rfl) (by kernel_rfl) rfl rfl rfl
    · exact step_el rfl 52 3 rfl Go.Proofs.YthapcapiiknjdaaDoor.u50 i50 (by kernel_rfl) _ _ rfl _ E3' rfl
    · exact step_inv rfl 29 3 _ rfl (by kernel_rfl) rfl rfl
    · exact step_mul rfl 28 30 2 4 _ _ rfl (by kernel_rfl) (by kernel_rfl) rfl rfl rfl
    · exact step_root rfl 31 5 _ rfl (by kernel_rfl) rfl rfl
    · exact step_move rfl 32 6 (by exact Or.inl rfl) (by kernel_rfl) rfl
    · exact step_ext0 rfl 25 7 _ rfl (by kernel_rfl) rfl rfl
    · exact step_ext1 rfl 25 7 _ rfl (by kernel_rfl) rfl rfl
    · exact step_new16 rfl rfl rfl
    · exact step_move rfl 33 8 (by exact Or.inr rfl) (by kernel_rfl) rfl
  intro vs4 q9 W4 v9 h9 n4 E9 T9 hF
  obtain ⟨_, v8⟩ := hF 11 8 (by kernel_rfl)
  clear hF
  have mn4 := n4.size
  replace E3' := E3'.up n4
  replace E5 := E5.up n4
  replace E7 := E7.up n4
  replace TR := there_up (by omega) TR n4
  replace N := nxt N n4
  have y9 := E9.lt
  have y3 := E3'.lt
  have r5 : q5 ≠ q9 := by omega
  clear n4
  change vs4 8 = .bool (rootB _) at v8
  simp only [puts, v9, v8, Act.put, List.setIfInBounds_toArray, List.set_cons_succ, List.set_cons_zero]
  clear v9 v8
  cases hA : rootB (sqA) with
  | true =>
    have HS : Hid (smP k = (plX (tmP (fill (dig (inF k)) 32) ptA.1 ptA.2), plY (tmP (fill (dig (inF k)) 32) ptA.1 ptA.2))) := by show _ = _; unfold smP; rw [if_pos hA]
    clear hA
    go_upto_region 9 with fail
    refine region_putP 12 11 2 61 _ (fun i => [Fact.eq (.int .i64 k), RN W4 (fun xs => xs = inF k), RN W4 (fun xs => xs = fill (dig (inF k)) 32), EL (rootV (sqA)), RN W4 (fun xs => xs = fill (byt ((rootV (sqA)) % PP)) 32), EL (rootV (sqA)), EL (rootV ((0) - (1))), EL ((rootV (sqA)) * (rootV ((0) - (1)))), RN W4 (fun xs => xs = fill (byt (((rootV (sqA)) * (rootV ((0) - (1)))) % PP)) 32), PT W4 (fun xs ys => xs = fill (byt ((rootV (sqA)) % PP)) 32 ∧ ys = fill (byt (((rootV (sqA)) * (rootV ((0) - (1)))) % PP)) 32), E3F (tmP (fill (dig (inF k)) 32) ptA.1 ptA.2), PT W4 (fun xs ys => xs = plX (tmP (fill (dig (inF k)) 32) ptA.1 ptA.2) ∧ ys = plY (tmP (fill (dig (inF k)) 32) ptA.1 ptA.2))].getD i Fact.no) (fun xs ys => xs = plX (tmP (fill (dig (inF k)) 32) ptA.1 ptA.2) ∧ ys = plY (tmP (fill (dig (inF k)) 32) ptA.1 ptA.2)) _ (by kernel_rfl) rfl rfl rfl (by kernel_rfl) rfl TR (by kernel_rfl) rfl ?_ ?_
    · intro i hi
      obtain rfl | rfl | rfl | rfl | rfl | rfl | rfl | rfl | rfl | rfl | rfl | rfl : i = 0 ∨ i = 1 ∨ i = 2 ∨ i = 3 ∨ i = 4 ∨ i = 5 ∨ i = 6 ∨ i = 7 ∨ i = 8 ∨ i = 9 ∨ i = 10 ∨ i = 11 := by omega
      · exact step_mv0 rfl 0 (by kernel_rfl) (by kernel_rfl) rfl rfl
      · exact step_intV rfl 50 0 k ⟨k0, by omega⟩ rfl (by kernel_rfl) rfl rfl
      · exact step_litV rfl 51 1 rfl (by kernel_rfl) (inF_byt k0 (by omega)) rfl rfl
      · exact step_el rfl 52 9 rfl Go.Proofs.YthapcapiiknjdaaDoor.u50 i50 (by kernel_rfl) _ _ rfl _ E9 rfl
      · exact step_bytes rfl 53 3 _ rfl (by kernel_rfl) rfl rfl
      · exact step_el rfl 52 9 rfl Go.Proofs.YthapcapiiknjdaaDoor.u50 i50 (by kernel_rfl) _ _ rfl _ E9 rfl
      · exact step_el rfl 52 5 rfl Go.Proofs.YthapcapiiknjdaaDoor.u50 i50 (by kernel_rfl) _ _ rfl _ E5 rfl
      · exact step_mul rfl 55 56 5 6 _ _ rfl (by kernel_rfl) (by kernel_rfl) rfl rfl rfl
      · exact step_bytes rfl 57 7 _ rfl (by kernel_rfl) rfl rfl
      · exact step_bp rfl 54 58 4 8 _ _ rfl (by kernel_rfl) (by kernel_rfl) rfl rfl rfl
      · exact step_timesV rfl 52 59 2 9 rfl (by kernel_rfl) (by kernel_rfl) ⟨dig_bytes_5 (inF_byt k0 (by omega)).1 32, by rw [fill_len]; omega⟩ ptA_ok rfl rfl rfl
      · exact step_plainV rfl 60 10 rfl (by kernel_rfl) rfl rfl
    rintro vs9 W W' xs ys a a' c c' g g' n bq rg o1 o2 l1 l2 ⟨rfl, rfl⟩ nb
    have NS := nb w w.heap.size (nxt N n) (by omega)
    simp only [puts, Act.put, List.setIfInBounds_toArray, List.set_cons_succ, List.set_cons_zero]
    have z1 := N.size
    clear N n bq nb TR
    go_wp2
    obtain ⟨fs, hfs⟩ := uP
    exact bodyPost_ret (v := .agg #[_, _]) (results_cell_mid Tryd.results120 _ _ w.heap.size _ _ rfl rg hfs rfl iP) rfl ⟨by rw [HS.out]; exact ⟨a, a', c, c', g, g', rfl, o1, o2, by omega, by omega⟩, NS⟩
  | false =>
    have HA := hide hA
    clear hA
    go_upto_region 6 with fail
    refine region_put16F 11 9 9 46 _ (fun i => [EL 1, EL (rootV ((1) + (dE))), EL ((1) - (rootV ((1) + (dE)))), EL (dE), EL (iv (dE)), EL (sqB), RT (sqB), RT (sqB), Fact.eq (.bool (rootB (sqB))), EL (rootV (sqB)), Fact.eq (.bool (rootB (sqB)))].getD i Fact.no) (rootV (sqB)) _ (by kernel_rfl) rfl rfl rfl (by kernel_rfl) rfl T9 (by kernel_rfl) rfl ?_ ?_
    · intro i hi
      obtain rfl | rfl | rfl | rfl | rfl | rfl | rfl | rfl | rfl | rfl | rfl : i = 0 ∨ i = 1 ∨ i = 2 ∨ i = 3 ∨ i = 4 ∨ i = 5 ∨ i = 6 ∨ i = 7 ∨ i = 8 ∨ i = 9 ∨ i = 10 := by omega
      · exact step_small rfl 1 (by omega) rfl rfl
      · exact step_el rfl 52 7 rfl Go.Proofs.YthapcapiiknjdaaDoor.u50 i50 (by kernel_rfl) _ _ rfl _ E7 rfl
      · exact step_sub rfl 38 39 0 1 _ _ rfl (by kernel_rfl) (by kernel_rfl) rfl rfl rfl
      · exact step_el rfl 52 3 rfl Go.Proofs.YthapcapiiknjdaaDoor.u50 i50 (by kernel_rfl) _ _ rfl _ E3' rfl
      · exact step_inv rfl 41 3 _ rfl (by kernel_rfl) rfl rfl
      · exact step_mul rfl 40 42 2 4 _ _ rfl (by kernel_rfl) (by kernel_rfl) rfl rfl rfl
      · exact step_root rfl 43 5 _ rfl (by kernel_rfl) rfl rfl
      · exact step_move rfl 44 6 (by exact Or.inl rfl) (by kernel_rfl) rfl
      · exact step_ext0 rfl 37 7 _ rfl (by kernel_rfl) rfl rfl
      · exact step_ext1 rfl 37 7 _ rfl (by kernel_rfl) rfl rfl
      · exact step_move rfl 45 8 (by exact Or.inr rfl) (by kernel_rfl) rfl
    intro vs6 Wa W6 na bq E9n T9n nb hF
    obtain ⟨_, v8⟩ := hF 10 8 (by kernel_rfl)
    clear hF
    replace TR := there_but (by omega) TR bq (by omega)
    replace E5 := E5.but bq r5
    replace N := nb w w.heap.size (nxt N na) (by omega)
    clear bq nb na E9 E7 E3'
    have E9 := E9n
    change vs6 8 = .bool (rootB _) at v8
    simp only [puts, v8, Act.put, List.setIfInBounds_toArray, List.set_cons_succ, List.set_cons_zero]
    clear v8
    cases hB : rootB (sqB) with
    | true =>
      have HS : Hid (smP k = (plX (tmP (fill (dig (inF k)) 32) ptB.1 ptB.2), plY (tmP (fill (dig (inF k)) 32) ptB.1 ptB.2))) := by show _ = _; unfold smP; rw [if_neg (by rw [HA.out]; simp), if_pos hB]
      clear hB HA
      go_upto_region 9 with fail
      refine region_putP 12 11 2 61 _ (fun i => [Fact.eq (.int .i64 k), RN W6 (fun xs => xs = inF k), RN W6 (fun xs => xs = fill (dig (inF k)) 32), EL (rootV (sqB)), RN W6 (fun xs => xs = fill (byt ((rootV (sqB)) % PP)) 32), EL (rootV (sqB)), EL (rootV ((0) - (1))), EL ((rootV (sqB)) * (rootV ((0) - (1)))), RN W6 (fun xs => xs = fill (byt (((rootV (sqB)) * (rootV ((0) - (1)))) % PP)) 32), PT W6 (fun xs ys => xs = fill (byt ((rootV (sqB)) % PP)) 32 ∧ ys = fill (byt (((rootV (sqB)) * (rootV ((0) - (1)))) % PP)) 32), E3F (tmP (fill (dig (inF k)) 32) ptB.1 ptB.2), PT W6 (fun xs ys => xs = plX (tmP (fill (dig (inF k)) 32) ptB.1 ptB.2) ∧ ys = plY (tmP (fill (dig (inF k)) 32) ptB.1 ptB.2))].getD i Fact.no) (fun xs ys => xs = plX (tmP (fill (dig (inF k)) 32) ptB.1 ptB.2) ∧ ys = plY (tmP (fill (dig (inF k)) 32) ptB.1 ptB.2)) _ (by kernel_rfl) rfl rfl rfl (by kernel_rfl) rfl TR (by kernel_rfl) rfl ?_ ?_
      · intro i hi
        obtain rfl | rfl | rfl | rfl | rfl | rfl | rfl | rfl | rfl | rfl | rfl | rfl : i = 0 ∨ i = 1 ∨ i = 2 ∨ i = 3 ∨ i = 4 ∨ i = 5 ∨ i = 6 ∨ i = 7 ∨ i = 8 ∨ i = 9 ∨ i = 10 ∨ i = 11 := by omega
        · exact step_mv0 rfl 0 (by kernel_rfl) (by kernel_rfl) rfl rfl
        · exact step_intV rfl 50 0 k ⟨k0, by omega⟩ rfl (by kernel_rfl) rfl rfl
        · exact step_litV rfl 51 1 rfl (by kernel_rfl) (inF_byt k0 (by omega)) rfl rfl
        · exact step_el rfl 52 9 rfl Go.Proofs.YthapcapiiknjdaaDoor.u50 i50 (by kernel_rfl) _ _ rfl _ E9 rfl
        · exact step_bytes rfl 53 3 _ rfl (by kernel_rfl) rfl rfl
        · exact step_el rfl 52 9 rfl Go.Proofs.YthapcapiiknjdaaDoor.u50 i50 (by kernel_rfl) _ _ rfl _ E9 rfl
        · exact step_el rfl 52 5 rfl Go.Proofs.YthapcapiiknjdaaDoor.u50 i50 (by kernel_rfl) _ _ rfl _ E5 rfl
        · exact step_mul rfl 55 56 5 6 _ _ rfl (by kernel_rfl) (by kernel_rfl) rfl rfl rfl
        · exact step_bytes rfl 57 7 _ rfl (by kernel_rfl) rfl rfl
        · exact step_bp rfl 54 58 4 8 _ _ rfl (by kernel_rfl) (by kernel_rfl) rfl rfl rfl
        · exact step_timesV rfl 52 59 2 9 rfl (by kernel_rfl) (by kernel_rfl) ⟨dig_bytes_5 (inF_byt k0 (by omega)).1 32, by rw [fill_len]; omega⟩ ptB_ok rfl rfl rfl
        · exact step_plainV rfl 60 10 rfl (by kernel_rfl) rfl rfl
      rintro vs9 W W' xs ys a a' c c' g g' n bq rg o1 o2 l1 l2 ⟨rfl, rfl⟩ nb
      have NS := nb w w.heap.size (nxt N n) (by omega)
      simp only [puts, Act.put, List.setIfInBounds_toArray, List.set_cons_succ, List.set_cons_zero]
      have z1 := N.size
      clear N n bq nb TR
      go_wp2
      obtain ⟨fs, hfs⟩ := uP
      exact bodyPost_ret (v := .agg #[_, _]) (results_cell_mid Tryd.results120 _ _ w.heap.size _ _ rfl rg hfs rfl iP) rfl ⟨by rw [HS.out]; exact ⟨a, a', c, c', g, g', rfl, o1, o2, by omega, by omega⟩, NS⟩
    | false =>
      have HS : Hid (smP k = (fill (byt (0 % PP)) 32, fill (byt (1 % PP)) 32)) := by show _ = _; unfold smP; rw [if_neg (by rw [HA.out]; simp), if_neg (by rw [hB]; simp)]
      clear hB HA
      go_upto_region 8 with fail
      refine region_putP 1 0 2 49 _ (fun i => [PT W6 (fun xs ys => xs = fill (byt (0 % PP)) 32 ∧ ys = fill (byt (1 % PP)) 32)].getD i Fact.no) (fun xs ys => xs = fill (byt (0 % PP)) 32 ∧ ys = fill (byt (1 % PP)) 32) _ (by kernel_rfl) rfl rfl rfl (by kernel_rfl) rfl TR (by kernel_rfl) rfl ?_ ?_
      · intro i hi
        obtain rfl : i = 0 := by omega
        exact step_zeroV rfl rfl rfl
      rintro vs9 W W' xs ys a a' c c' g g' n bq rg o1 o2 l1 l2 ⟨rfl, rfl⟩ nb
      have NS := nb w w.heap.size (nxt N n) (by omega)
      simp only [puts, Act.put, List.setIfInBounds_toArray, List.set_cons_succ, List.set_cons_zero]
      have z1 := N.size
      clear N n bq nb TR
      go_wp2
      obtain ⟨fs, hfs⟩ := uP
      exact bodyPost_ret (v := .agg #[_, _]) (results_cell_mid Tryd.results120 _ _ w.heap.size _ _ rfl rg hfs rfl iP) rfl ⟨by rw [HS.out]; exact ⟨a, a', c, c', g, g', rfl, o1, o2, by omega, by omega⟩, NS⟩
end Go.Proofs.YthapcapiiknjdaaDoor

/-
  The model's l2IsZero.
-/
namespace Go.Proofs.YthapcapiiknjdaaDoor
set_option maxRecDepth 100000
open Go Go.RowKit

theorem zero_bytes (V : Int) : bval (fill (byt (V % PP)) 32) = 0 ↔ V % PP = 0 := by
  constructor
  · intro hb
    have h0 := bval_zero_all (bytes_L (V % PP) 32) hb
    have n0 := num_modS V
    have : num (fill (byt (V % PP)) 32) = 0 := by
      unfold num
      rw [fill_len]
      exact lsum_all0 32 (fun j _ => h0 j)
    omega
  · intro h
    rw [h]
    decide +kernel

set_option maxHeartbeats 2000000 in
theorem l2IsZero_any (w : World) (f : Nat → Int) (hf : L16 f) : Calls Tryd.prog 100 #[ag16 f] w fun r w' => r = .returned (.bool (decide (s16 f 16 % PP = 0))) ∧ Below w.heap.size w w' := by
  show Calls Tryd.prog 100 #[.agg (a16 f)] w _
  have n1 : Below w.heap.size w (w.alloc (.cells (a16 f) 52)) := (Below.refl _ _).alloc (Nat.le_refl _) _
  have B1 : Blk (w.alloc (.cells (a16 f) 52)) w.heap.size .i64 (ls16 f) := blk16 w 52 f
  have BY := fun W => l2Bytes_any W f hf
  have Z := zero_bytes (s16 f 16)
  go_enter Tryd.func100, Tryd.ntmps100
  go_upto_region 1 with fail
  generalize w.alloc (.cells (a16 f) 52) = wa at *
  obtain ⟨t, hF⟩ := B1
  go_wp2_with (refine wpList_load_row rfl 52 (.tmp 1) rfl w.heap.size rfl t (a16 f) (0, 0) (.array 16 2) hF Go.Proofs.YthapcapiiknjdaaDoor.u50 rfl (by rw [a16_size]; exact i50) ?_)
  refine (BY wa).mono ?_
  rintro r w2 ⟨⟨a2, c2, g2, rfl, o2, p2, q2, r2⟩, n2⟩
  have N2 := nxt n1 n2
  have TM := hide (l1Trim_any w2 g2 a2 c2 _ o2.rd (bytes_L _ _) p2 q2 (by rw [fill_len]; decide))
  clear BY n1 n2 hF o2 p2 q2 r2
  go_wp2_with fail
  refine TM.out.mono ?_
  rintro r w3 ⟨zs, CZ, lz, ⟨a3, c3, g3, rfl, o3, p3, q3, r3⟩, n3⟩
  have N3 := nxt N2 n3
  clear TM N2 n3 o3 p3 q3 r3
  by_cases hz : zs.length = 0
  · have tz : ((zs.length : Int) == 0) = true := by simp [hz]
    have bz : s16 f 16 % PP = 0 := by
      refine Z.1 ?_
      have : zs = [] := List.eq_nil_of_length_eq_zero hz
      rw [← CZ.2.1, this]
      rfl
    have K := hide (decide_eq_true bz)
    clear hz bz CZ Z
    go_wp2
    go_ret
    exact ⟨by rw [K.out]; rfl, N3⟩
  · have tz : ((zs.length : Int) == 0) = false := by simp; intro h; exact hz (by rw [h]; rfl)
    have bz : ¬ s16 f 16 % PP = 0 := fun h => canon_pos' CZ (by omega) (Z.2 h)
    have K := hide (decide_eq_false bz)
    clear hz bz CZ Z
    go_wp2
    go_ret
    exact ⟨by rw [K.out]; rfl, N3⟩
end Go.Proofs.YthapcapiiknjdaaDoor

/-
  The model's l5Lift.
-/
namespace Go.Proofs.YthapcapiiknjdaaDoor
set_option maxRecDepth 100000
open Go Go.RowKit

theorem wpList_load_want {P : Program} {ops : Array Oper} {rest : List Oper} {op : Oper} {a : Act} {w : World} {Q : Exit → Act → World → Prop} (hw : Region.wanted op (yielded ops a.tmps) = true) (ty : TypeId) (x : Operand) (ho : op.op = .load ty x)
    (b o : Nat) (hx : a.eval x = .pointer (some ⟨b, o, none⟩)) (cs : List Value) (d : TypeDesc) (hc : w.rangeAt b o cs)
    (hu : P.underlying ty = some d) (hd : d.isRow = true) (hi : (P.info? ty).map (·.size) = some cs.length)
    (h : wpList P ops Q rest (a.put op.dst (.agg cs.toArray)) w) : wpList P ops Q (op :: rest) a w :=
  BigFrame.wpList_want hw fun _ hK => wp_load_mid ty x ho b o hx cs d hc hu hd hi (hK _ _ h)
/-- What is lifted: is there a point, and its bytes. -/
def liB (A : Int) (odd : Bool) : Bool := rootB (liftZ A) && !(odd && decide (rootV (liftZ A) % PP = 0))
def liX (A : Int) (odd : Bool) : List Int := if liB A odd = true then fill (byt ((if odd = true then 0 - rootV (liftZ A) else rootV (liftZ A)) % PP)) 32 else []
def liY (A : Int) (odd : Bool) : List Int := if liB A odd = true then fill (byt (A % PP)) 32 else []
def NewLi (B : Nat) (w' : World) (e : Ending) (b : Bool) (xs ys : List Int) : Prop :=
  ∃ (a a' : Option Addr) (c c' g g' : Nat), e = .returned (.tuple #[.bool b, .agg #[.slice a xs.length c, .slice a' ys.length c']]) ∧ Own w' g a .u8 xs ∧ Own w' g' a' .u8 ys ∧ B ≤ g ∧ B ≤ g'
theorem newLi_nil {B : Nat} {w : World} : NewLi B w (.returned (.tuple #[.bool false, .agg #[.slice none 0 0, .slice none 0 0]])) false [] [] := ⟨none, none, 0, 0, B, B, rfl, Own.nil _ _ _ _, Own.nil _ _ _ _, Nat.le_refl _, Nat.le_refl _⟩
section
variable {ops : Array Oper} {Q : Exit → Act → World → Prop} {md : Region.Mode} {F : Nat → Fact} {a0 : Act} {w0 : World} {i : Nat} {o : Oper}
theorem step_konst {P : Program} (hi : ops[i]? = some o) {v : Value} (hop : o.op = .assign (.const v)) (hF : F i = Fact.eq v) : StepOk P md ops Q F a0 w0 i :=
  step_pure hi fun a w _ _ _ => ⟨v, by simp [execOp, hop, Act.eval], by rw [hF]; exact rfl⟩
end

section
variable {ops : Array Oper} {Q : Exit → Act → World → Prop} {a0 : Act} {w : World} {id : Nat} {draw : Bool}
theorem region_putPF (k jV pD pV : Nat) (o : Oper) (F : Nat → Fact) (p : List Int → List Int → Prop) (q : Nat) (hT : textOk .any ops a0.tmps.size k = true) (hk : ops[k]? = some o) (hd : o.dst = none) (hop : o.op = .store 24 (.tmp pD) (.tmp pV))
    (hp : apart ops pD = true) (h0 : a0.tmps.getD pD undef = .pointer (some ⟨q, 0, none⟩)) (ht : w.there q 0 2)
    (wV : writes ops jV pV = true) (FV : F jV = PT w p) (steps : ∀ i, i < k → StepOk Tryd.prog .any ops Q F a0 w i)
    (fin : ∀ (vs : Nat → Value) (W W' : World) (xs ys : List Int) (a a' : Option Addr) (c c' g g' : Nat), Below w.heap.size w W → ButQ q w W' → W'.rangeAt q 0 [.slice a xs.length c, .slice a' ys.length c'] → Own W' g a .u8 xs → Own W' g' a' .u8 ys → w.heap.size ≤ g → w.heap.size ≤ g' → p xs ys → (∀ (w1 : World) (B : Nat), Below B w1 W → B ≤ q → Below B w1 W') → (∀ i d, writes ops i d = true → ∃ Wp, (F i).p (vs d) Wp) → Q .normal (puts vs a0 ops.toList) W') :
    (Code.region id ops draw).wp Tryd.prog Q a0 w := by
  refine region_store k o F (by kernel_rfl) hT hk hd steps fun a W hb hw hF => ?_
  have h2 := hF jV pV wV
  rw [FV] at h2
  obtain ⟨xs, ys, b, b', c, c', g, g', ev, o1, o2, l1, l2, hpp⟩ := h2
  have th := there_up (by omega) ht hw
  refine wp_store_mid 24 (.tmp pD) (.tmp pV) hop q 0 #[.slice b xs.length c, .slice b' ys.length c'] ((based_at hb pD hp).trans h0) ev th iP (by simp [Value.oneCell']) ?_
  obtain ⟨vs, hvs⟩ : ∃ vs : Nat → Value, ∀ d, a.tmps.getD d undef = vs d := ⟨_, fun _ => rfl⟩
  rw [hd]
  show Q .normal a _
  rw [puts_of hT rfl hb vs hvs]
  have lq := there_lt (by omega) ht
  refine fin vs W _ xs ys b b' c c' g g' hw (but_set hw _) (World.rangeAt_setCells_same W q 0 _ th) ?_ ?_ l1 l2 hpp (fun w1 B n hB => below_setCells hB _ _ _ n) (fun i d h => ⟨W, by rw [← hvs]; exact hF i d h⟩)
  · exact fun h0 => o1.of_block (setCells_other (by omega) _ 0 W) h0
  · exact fun h0 => o2.of_block (setCells_other (by omega) _ 0 W) h0
end

set_option maxHeartbeats 2000000 in
theorem l5Lift_any (w : World) (f : Nat → Int) (A : Int) (hf : L16 f ∧ s16 f 16 % PP = A % PP) (odd : Bool) :
    Calls Tryd.prog 61 #[ag16 f, .bool odd] w fun r w' => NewLi w.heap.size w' r (liB A odd) (liX A odd) (liY A odd) ∧ Below w.heap.size w w' := by
  show Calls Tryd.prog 61 #[.agg (a16 f), .bool odd] w _
  have H1 := elt_new5 w 52 hf
  have m1 : Below w.heap.size w (w.alloc (.cells (a16 f) 52)) := (Below.refl _ _).alloc (Nat.le_refl _) _
  have s1 : (w.alloc (.cells (a16 f) 52)).heap.size = w.heap.size + 1 := by simp
  obtain ⟨V1, hV1⟩ : ∃ V, V = a16 f := ⟨_, rfl⟩
  rw [← hV1] at H1 m1 s1 ⊢
  clear hV1 hf
  go_enter Tryd.func61, Tryd.ntmps61
  go_upto_region 1 with fail
  generalize w.alloc (.cells V1 52) = wa at *
  change Code.wp _ _ _ _ (wa.alloc pObj)
  have TR := there_p wa
  have TZ : Two (wa.alloc pObj) wa.heap.size (.slice none 0 0) (.slice none 0 0) := Two.new wa (.slice none 0 0) (.slice none 0 0) 24
  have m2 : Below wa.heap.size wa (wa.alloc pObj) := (Below.refl _ _).alloc (Nat.le_refl _) _
  rw [s1] at TR TZ
  have E2' := H1.up m2
  have N := nxt m1 m2
  clear H1 m1 m2 s1
  generalize wa.alloc pObj = wr at *
  refine region_new16 4 3 2 6 11 _ (fun i => [EL (A), EL (A), EL ((A) * (A)), NB wr 16].getD i Fact.no) ((A) * (A)) (by kernel_rfl) rfl rfl rfl (by kernel_rfl) (by kernel_rfl) rfl rfl ?_ ?_
  · intro i hi
    obtain rfl | rfl | rfl | rfl : i = 0 ∨ i = 1 ∨ i = 2 ∨ i = 3 := by omega
    · exact step_el rfl 52 2 rfl Go.Proofs.YthapcapiiknjdaaDoor.u50 i50 (by kernel_rfl) _ _ rfl _ E2' rfl
    · exact step_el rfl 52 2 rfl Go.Proofs.YthapcapiiknjdaaDoor.u50 i50 (by kernel_rfl) _ _ rfl _ E2' rfl
    · exact step_mul rfl 9 10 0 1 _ _ rfl (by kernel_rfl) (by kernel_rfl) rfl rfl rfl
    · exact step_new16 rfl rfl rfl
  intro vs1 q6 W1 v6 l6 n E6 T6
  have y6 := there_lt (by omega) T6
  replace E2' := E2'.up n
  replace TR := there_up (by omega) TR n
  replace TZ := TZ.up n
  replace N := nxt N n
  clear n T6
  simp only [puts, v6, Act.put, List.setIfInBounds_toArray, List.set_cons_succ, List.set_cons_zero]
  clear v6
  go_upto_region 2 with fail
  refine region_new16F 16 14 13 8 25 _ (fun i => [EL ((A) * (A)), EL 1, EL (((A) * (A)) - (1)), EL dE, EL ((A) * (A)), EL ((dE) * ((A) * (A))), EL 1, EL (((dE) * ((A) * (A))) + (1)), EL (iv (((dE) * ((A) * (A))) + (1))), EL ((((A) * (A)) - (1)) * (iv (((dE) * ((A) * (A))) + (1)))), RT ((((A) * (A)) - (1)) * (iv (((dE) * ((A) * (A))) + (1)))), RT ((((A) * (A)) - (1)) * (iv (((dE) * ((A) * (A))) + (1)))), Fact.eq (.bool (rootB ((((A) * (A)) - (1)) * (iv (((dE) * ((A) * (A))) + (1)))))), EL (rootV ((((A) * (A)) - (1)) * (iv (((dE) * ((A) * (A))) + (1))))), NB W1 16, Fact.eq (.bool (rootB ((((A) * (A)) - (1)) * (iv (((dE) * ((A) * (A))) + (1))))))].getD i Fact.no) (rootV ((((A) * (A)) - (1)) * (iv (((dE) * ((A) * (A))) + (1))))) (by kernel_rfl) rfl rfl rfl (by kernel_rfl) (by kernel_rfl) rfl rfl ?_ ?_
  · intro i hi
    obtain rfl | rfl | rfl | rfl | rfl | rfl | rfl | rfl | rfl | rfl | rfl | rfl | rfl | rfl | rfl | rfl : i = 0 ∨ i = 1 ∨ i = 2 ∨ i = 3 ∨ i = 4 ∨ i = 5 ∨ i = 6 ∨ i = 7 ∨ i = 8 ∨ i = 9 ∨ i = 10 ∨ i = 11 ∨ i = 12 ∨ i = 13 ∨ i = 14 ∨ i = 15 := by omega
    · exact step_el rfl 52 6 rfl Go.Proofs.YthapcapiiknjdaaDoor.u50 i50 (by kernel_rfl) _ _ rfl _ E6 rfl
    · exact step_small rfl 1 (by omega) rfl rfl
    · exact step_sub rfl 13 14 0 1 _ _ rfl (by kernel_rfl) (by kernel_rfl) rfl rfl rfl
    · exact step_d rfl rfl rfl
    · exact step_el rfl 52 6 rfl Go.Proofs.YthapcapiiknjdaaDoor.u50 i50 (by kernel_rfl) _ _ rfl _ E6 rfl
    · exact step_mul rfl 16 17 3 4 _ _ rfl (by kernel_rfl) (by kernel_rfl) rfl rfl rfl
    · exact step_small rfl 1 (by omega) rfl rfl
    · exact step_add rfl 18 19 5 6 _ _ rfl (by kernel_rfl) (by kernel_rfl) rfl rfl rfl
    · exact step_inv rfl 20 7 _ rfl (by kernel_rfl) rfl rfl
    · exact step_mul rfl 15 21 2 8 _ _ rfl (by kernel_rfl) (by kernel_rfl) rfl rfl rfl
    · exact step_root rfl 22 9 _ rfl (by kernel_rfl) rfl rfl
    · exact step_move rfl 23 10 (by exact Or.inl rfl) (by kernel_rfl) rfl
    · exact step_ext0 rfl 12 11 _ rfl (by kernel_rfl) rfl rfl
    · exact step_ext1 rfl 12 11 _ rfl (by kernel_rfl) rfl rfl
    · exact step_new16 rfl rfl rfl
    · exact step_move rfl 24 12 (by exact Or.inr rfl) (by kernel_rfl) rfl
  intro vs2 q8 W2 v8 l8 n E8 T8 hF
  have v7' := hF 15 7 (by kernel_rfl)
  have zr := there_lt (by omega) TR
  replace E2' := E2'.up n
  replace TR := there_up (by omega) TR n
  replace TZ := TZ.up n
  replace N := nxt N n
  obtain ⟨_, v7⟩ := v7'
  clear n hF
  obtain ⟨Z, hZ⟩ : ∃ Z, Z = liftZ A := ⟨_, rfl⟩
  change vs2 7 = .bool (rootB (liftZ A)) at v7
  replace E8 : Elt W2 q8 0 (rootV (liftZ A)) := E8
  rw [← hZ] at v7 E8
  have KB : Hid (liB A odd = (rootB Z && !(odd && decide (rootV Z % PP = 0)))) := by show _ = _; rw [hZ]; rfl
  have KX0 : Hid (liX A odd = if liB A odd = true then fill (byt ((if odd = true then 0 - rootV Z else rootV Z) % PP)) 32 else []) := by show _ = _; rw [hZ]; rfl
  have KY0 : Hid (liY A odd = if liB A odd = true then fill (byt (A % PP)) 32 else []) := by show _ = _; rfl
  clear hZ
  obtain ⟨V, hV⟩ : ∃ V, V = rootV Z := ⟨_, rfl⟩
  rw [← hV] at E8 KB KX0
  obtain ⟨rb, hrb⟩ : ∃ b, b = rootB Z := ⟨_, rfl⟩
  rw [← hrb] at v7 KB
  clear hV hrb
  simp only [puts, v8, v7, Act.put, List.setIfInBounds_toArray, List.set_cons_succ, List.set_cons_zero]
  clear v8 v7
  have gq : w.heap.size + 1 < q8 := by omega
  clear l6 y6 l8 E6 zr
  cases rb with
  | false =>
    have KK : Hid (liB A odd = false) := by show _ = _; rw [KB.out]; rfl
    have KX : Hid (liX A odd = []) := by show _ = _; rw [KX0.out, if_neg (by rw [KK.out]; simp)]
    have KY : Hid (liY A odd = []) := by show _ = _; rw [KY0.out, if_neg (by rw [KK.out]; simp)]
    obtain ⟨y0, y1, f0, f1⟩ := TZ
    clear KB KX0 KY0 E2' E8 T8 TR
    go_wp2
    refine bodyPost_ret (v := .tuple #[.bool false, .agg #[.slice none 0 0, .slice none 0 0]]) (by simp [results, Tryd.results61, go_sem, y0, y1]) rfl ⟨by rw [KK.out, KX.out, KY.out]; exact newLi_nil, ?_⟩
    exact (N.setCell (by show w.heap.size ≤ w.heap.size + 1; omega) _).setCell (by show w.heap.size ≤ w.heap.size + 1; omega) _
  | true =>
    cases odd with
    | false =>
      have KK : Hid (liB A false = true) := by show _ = _; rw [KB.out]; rfl
      have KX : Hid (liX A false = fill (byt ((V) % PP)) 32) := by show _ = _; rw [KX0.out, if_pos KK.out]; rfl
      have KY : Hid (liY A false = fill (byt ((A) % PP)) 32) := by show _ = _; rw [KY0.out, if_pos KK.out]
      clear KB KX0 KY0 TZ
      go_upto_region 7 with fail
      refine region_putPF 6 4 5 44 _ (fun i => [EL (V), RN W2 (fun xs => xs = fill (byt ((V) % PP)) 32), EL (A), RN W2 (fun xs => xs = fill (byt ((A) % PP)) 32), PT W2 (fun xs ys => xs = fill (byt ((V) % PP)) 32 ∧ ys = fill (byt ((A) % PP)) 32), Fact.eq (.bool true)].getD i Fact.no) (fun xs ys => xs = fill (byt ((V) % PP)) 32 ∧ ys = fill (byt ((A) % PP)) 32) _ (by kernel_rfl) rfl rfl rfl (by kernel_rfl) rfl TR (by kernel_rfl) rfl ?_ ?_
      · intro i hi
        obtain rfl | rfl | rfl | rfl | rfl | rfl : i = 0 ∨ i = 1 ∨ i = 2 ∨ i = 3 ∨ i = 4 ∨ i = 5 := by omega
        · exact step_el rfl 52 8 rfl Go.Proofs.YthapcapiiknjdaaDoor.u50 i50 (by kernel_rfl) _ _ rfl _ E8 rfl
        · exact step_bytes rfl 40 0 _ rfl (by kernel_rfl) rfl rfl
        · exact step_el rfl 52 2 rfl Go.Proofs.YthapcapiiknjdaaDoor.u50 i50 (by kernel_rfl) _ _ rfl _ E2' rfl
        · exact step_bytes rfl 42 2 _ rfl (by kernel_rfl) rfl rfl
        · exact step_bp rfl 41 43 1 3 _ _ rfl (by kernel_rfl) (by kernel_rfl) rfl rfl rfl
        · exact step_konst rfl rfl rfl
      rintro vt Wa Wb ps qs b1 b2 d1 d2 h1 h2 n bq rg o1 o2 l1 l2 ⟨rfl, rfl⟩ nb hF
      obtain ⟨_, v4⟩ := hF 5 4 (by kernel_rfl)
      clear hF
      change vt 4 = .bool true at v4
      have NS := nb w w.heap.size (nxt N n) (by omega)
      simp only [puts, v4, Act.put, List.setIfInBounds_toArray, List.set_cons_succ, List.set_cons_zero]
      clear v4
      have z1 := N.size
      clear N n bq nb TR E2' E8
      rw [show fill (byt ((V) % PP)) 32 = liX A false from KX.out.symm] at o1 rg
      rw [show fill (byt ((A) % PP)) 32 = liY A false from KY.out.symm] at o2 rg
      clear KX KY
      go_wp2
      have k0 := rg 0 _ rfl
      have k1 := rg 1 _ rfl
      simp only [Nat.zero_add] at k0 k1
      refine bodyPost_ret (v := .tuple #[.bool true, .agg #[.slice b1 (liX A false).length d1, .slice b2 (liY A false).length d2]]) (by simp [results, Tryd.results61, go_sem, k0, k1]) rfl ⟨?_, NS⟩
      rw [KK.out]
      exact ⟨b1, b2, d1, d2, h1, h2, rfl, o1, o2, by omega, by omega⟩
    | true =>
      obtain ⟨t8, rg8, _, L8, V8⟩ := id E8
      have IZ := hide (fun W => l2IsZero_any W t8 L8)
      simp only [show ∀ f, ag16 f = .agg (a16 f) from fun _ => rfl] at IZ
      have LD := hide rg8
      rw [V8] at IZ
      clear L8 V8 rg8
      by_cases hz : V % PP = 0
      · have KK : Hid (liB A true = false) := by show _ = _; rw [KB.out, decide_eq_true hz]; rfl
        have KX : Hid (liX A true = []) := by show _ = _; rw [KX0.out, if_neg (by rw [KK.out]; simp)]
        have KY : Hid (liY A true = []) := by show _ = _; rw [KY0.out, if_neg (by rw [KK.out]; simp)]
        simp only [decide_eq_true hz] at IZ
        clear KB KX0 KY0 E2' E8 T8 TR hz
        go_wp2_with (refine wpList_load_want rfl 52 (.tmp 8) rfl q8 0 rfl (a16 t8).toList (.array 16 2) LD.out Go.Proofs.YthapcapiiknjdaaDoor.u50 rfl (by rw [a16_len]; exact i50) ?_)
        refine (IZ.out W2).mono ?_
        rintro r W3' ⟨rfl, n⟩
        replace N := nxt N n
        obtain ⟨y0, y1, f0, f1⟩ := TZ.up n
        clear IZ LD n TZ
        go_wp2
        refine bodyPost_ret (v := .tuple #[.bool false, .agg #[.slice none 0 0, .slice none 0 0]]) (by simp [results, Tryd.results61, go_sem, y0, y1]) rfl ⟨by rw [KK.out, KX.out, KY.out]; exact newLi_nil, ?_⟩
        exact (N.setCell (by show w.heap.size ≤ w.heap.size + 1; omega) _).setCell (by show w.heap.size ≤ w.heap.size + 1; omega) _
      · have KK : Hid (liB A true = true) := by show _ = _; rw [KB.out, decide_eq_false hz]; rfl
        have KX : Hid (liX A true = fill (byt (((0) - (V)) % PP)) 32) := by show _ = _; rw [KX0.out, if_pos KK.out]; rfl
        have KY : Hid (liY A true = fill (byt ((A) % PP)) 32) := by show _ = _; rw [KY0.out, if_pos KK.out]
        simp only [decide_eq_false hz] at IZ
        clear KB KX0 KY0 TZ hz
        go_wp2_with (refine wpList_load_want rfl 52 (.tmp 8) rfl q8 0 rfl (a16 t8).toList (.array 16 2) LD.out Go.Proofs.YthapcapiiknjdaaDoor.u50 rfl (by rw [a16_len]; exact i50) ?_)
        refine (IZ.out W2).mono ?_
        rintro r W5 ⟨rfl, n⟩
        replace E2' := E2'.up n
        replace E8 := E8.up n
        replace TR := there_up (by omega) TR n
        replace T8 := there_up (by omega) T8 n
        replace N := nxt N n
        clear IZ LD n
        go_upto_region 6 with fail
        refine region_put16 3 2 8 39 _ (fun i => [EL 0, EL (V), EL ((0) - (V))].getD i Fact.no) ((0) - (V)) _ (by kernel_rfl) rfl rfl rfl (by kernel_rfl) rfl T8 (by kernel_rfl) rfl ?_ ?_
        · intro i hi
          obtain rfl | rfl | rfl : i = 0 ∨ i = 1 ∨ i = 2 := by omega
          · exact step_small rfl 0 (by omega) rfl rfl
          · exact step_el rfl 52 8 rfl Go.Proofs.YthapcapiiknjdaaDoor.u50 i50 (by kernel_rfl) _ _ rfl _ E8 rfl
          · exact step_sub rfl 37 38 0 1 _ _ rfl (by kernel_rfl) (by kernel_rfl) rfl rfl rfl
        intro vs6 Wc W6 n b E8n T8n nb
        replace E2' := E2'.but b (by omega)
        replace TR := there_but (by omega) TR b (by omega)
        replace N := nb w w.heap.size (nxt N n) (by omega)
        clear n b nb T8n T8 E8
        simp only [puts, Act.put, List.setIfInBounds_toArray, List.set_cons_succ, List.set_cons_zero]
        go_upto_region 7 with fail
        refine region_putPF 6 4 5 44 _ (fun i => [EL ((0) - (V)), RN W6 (fun xs => xs = fill (byt (((0) - (V)) % PP)) 32), EL (A), RN W6 (fun xs => xs = fill (byt ((A) % PP)) 32), PT W6 (fun xs ys => xs = fill (byt (((0) - (V)) % PP)) 32 ∧ ys = fill (byt ((A) % PP)) 32), Fact.eq (.bool true)].getD i Fact.no) (fun xs ys => xs = fill (byt (((0) - (V)) % PP)) 32 ∧ ys = fill (byt ((A) % PP)) 32) _ (by kernel_rfl) rfl rfl rfl (by kernel_rfl) rfl TR (by kernel_rfl) rfl ?_ ?_
        · intro i hi
          obtain rfl | rfl | rfl | rfl | rfl | rfl : i = 0 ∨ i = 1 ∨ i = 2 ∨ i = 3 ∨ i = 4 ∨ i = 5 := by omega
          · exact step_el rfl 52 8 rfl Go.Proofs.YthapcapiiknjdaaDoor.u50 i50 (by kernel_rfl) _ _ rfl _ E8n rfl
          · exact step_bytes rfl 40 0 _ rfl (by kernel_rfl) rfl rfl
          · exact step_el rfl 52 2 rfl Go.Proofs.YthapcapiiknjdaaDoor.u50 i50 (by kernel_rfl) _ _ rfl _ E2' rfl
          · exact step_bytes rfl 42 2 _ rfl (by kernel_rfl) rfl rfl
          · exact step_bp rfl 41 43 1 3 _ _ rfl (by kernel_rfl) (by kernel_rfl) rfl rfl rfl
          · exact step_konst rfl rfl rfl
        rintro vt Wa Wb ps qs b1 b2 d1 d2 h1 h2 n bq rg o1 o2 l1 l2 ⟨rfl, rfl⟩ nb hF
        obtain ⟨_, v4⟩ := hF 5 4 (by kernel_rfl)
        clear hF
        change vt 4 = .bool true at v4
        have NS := nb w w.heap.size (nxt N n) (by omega)
        simp only [puts, v4, Act.put, List.setIfInBounds_toArray, List.set_cons_succ, List.set_cons_zero]
        clear v4
        have z1 := N.size
        clear N n bq nb TR E2' E8n
        rw [show fill (byt (((0) - (V)) % PP)) 32 = liX A true from KX.out.symm] at o1 rg
        rw [show fill (byt ((A) % PP)) 32 = liY A true from KY.out.symm] at o2 rg
        clear KX KY
        go_wp2
        have k0 := rg 0 _ rfl
        have k1 := rg 1 _ rfl
        simp only [Nat.zero_add] at k0 k1
        refine bodyPost_ret (v := .tuple #[.bool true, .agg #[.slice b1 (liX A true).length d1, .slice b2 (liY A true).length d2]]) (by simp [results, Tryd.results61, go_sem, k0, k1]) rfl ⟨?_, NS⟩
        rw [KK.out]
        exact ⟨b1, b2, d1, d2, h1, h2, rfl, o1, o2, by omega, by omega⟩
end Go.Proofs.YthapcapiiknjdaaDoor

/-
  The model's PointBase.
-/
namespace Go.Proofs.YthapcapiiknjdaaDoor
set_option maxRecDepth 100000
open Go Go.RowKit

set_option maxHeartbeats 2000000 in
theorem specBase_any (w : World) : Calls Tryd.prog 23 #[] w fun r w' => NewPt w.heap.size w' r (liX (4 * iv 5) false) (liY (4 * iv 5) false) ∧ Below w.heap.size w w' := by
  have TZ : Two (w.alloc pObj) w.heap.size (.slice none 0 0) (.slice none 0 0) := Two.new w (.slice none 0 0) (.slice none 0 0) 24
  have N : Below w.heap.size w (w.alloc pObj) := (Below.refl _ _).alloc (Nat.le_refl _) _
  go_enter Tryd.func23, Tryd.ntmps23
  go_upto_region 1 with fail
  change Code.wp _ _ _ _ (w.alloc pObj)
  generalize w.alloc pObj = wr at *
  go_wp2_with fail
  refine (l2SmallB_any wr 4 (by omega)).mono ?_
  rintro r w1 ⟨t4, rfl, L4, V4, n⟩
  replace TZ := TZ.up n
  replace N := nxt N n
  clear n
  go_wp2_with fail
  refine (l2SmallB_any w1 5 (by omega)).mono ?_
  rintro r w2 ⟨t5, rfl, L5, V5, n⟩
  replace TZ := TZ.up n
  replace N := nxt N n
  clear n
  go_wp2_with fail
  refine (l2Inv_any w2 t5 L5).mono ?_
  rintro r w3 ⟨t6, rfl, L6, V6, n⟩
  replace TZ := TZ.up n
  replace N := nxt N n
  clear n
  go_wp2_with fail
  refine (l2Mul_any w3 t4 t6 L4 L6).mono ?_
  rintro r w4 ⟨t7, rfl, L7, V7, n⟩
  replace TZ := TZ.up n
  replace N := nxt N n
  clear n
  have V : s16 t7 16 % PP = 4 * iv 5 % PP := by
    rw [V7]
    exact mod_mul V4 (V6.trans (pow_mod V5 _))
  have z4 := TZ.lt
  have LF := hide (l5Lift_any w4 t7 (4 * iv 5) ⟨L7, V⟩ false)
  clear V4 V5 V6 V7 V L4 L5 L6 L7
  obtain ⟨X, hX⟩ : ∃ X, X = liX (4 * iv 5) false := ⟨_, rfl⟩
  obtain ⟨Y, hY⟩ : ∃ Y, Y = liY (4 * iv 5) false := ⟨_, rfl⟩
  rw [← hX, ← hY] at LF
  have KX := hide hX
  have KY := hide hY
  clear hX hY
  generalize liB (4 * iv 5) false = bb at *
  go_wp2_with fail
  refine LF.out.mono ?_
  rintro r w5 ⟨⟨a1, a2, c1, c2, g1, g2, rfl, o1, o2, l1, l2⟩, n⟩
  replace TZ := TZ.up n
  have z := N.size
  have zz := TZ.lt
  replace N := nxt N n
  clear n LF
  have TN := Two.new w5 (.slice a1 X.length c1) (.slice a2 Y.length c2) 24
  have m : Below w5.heap.size w5 (w5.alloc (.cells #[.slice a1 X.length c1, .slice a2 Y.length c2] 24)) := (Below.refl _ _).alloc (Nat.le_refl _) _
  go_upto_region 2 with fail
  generalize w5.alloc (.cells #[.slice a1 X.length c1, .slice a2 Y.length c2] 24) = w6 at *
  obtain ⟨p0, p1, _, _⟩ := TN
  obtain ⟨y0, y1, f0, f1⟩ := TZ.up m
  replace N := nxt N m
  replace o1 := o1.up m
  replace o2 := o2.up m
  have O := (Only.setCell w6 w.heap.size 0 (.slice a1 X.length c1)).trans (Only.setCell _ w.heap.size 1 (.slice a2 Y.length c2))
  have o1' := o1.only O (fun _ => by omega)
  have o2' := o2.only O (fun _ => by omega)
  have N' := N.trans (O.below (Nat.le_refl _))
  clear TZ m o1 o2 O N
  go_wp2
  refine bodyPost_ret (v := .agg #[.slice a1 X.length c1, .slice a2 Y.length c2]) (by simp [results, Tryd.results23, go_sem, y0, y1]) rfl ⟨?_, N'⟩
  rw [← KX.out, ← KY.out]
  exact ⟨a1, a2, c1, c2, g1, g2, rfl, o1', o2', by omega, by omega⟩
end Go.Proofs.YthapcapiiknjdaaDoor

/-
  The model's PointDecode.
-/
namespace Go.Proofs.YthapcapiiknjdaaDoor
set_option maxRecDepth 100000
open Go Go.RowKit

def low7s (xs : List Int) : List Int := xs.set 31 (xs.getD 31 0 % 128)
def dcB (xs : List Int) : Bool := decide (xs.length = 32) && (canN (low7s xs) && liB (num (low7s xs)) (decide (128 ≤ xs.getD 31 0)))
def dcX (xs : List Int) : List Int := if dcB xs = true then liX (num (low7s xs)) (decide (128 ≤ xs.getD 31 0)) else []
def dcY (xs : List Int) : List Int := if dcB xs = true then liY (num (low7s xs)) (decide (128 ≤ xs.getD 31 0)) else []
def NewPR (B : Nat) (w' : World) (e : Ending) (b : Bool) (xs ys : List Int) : Prop :=
  ∃ (a a' : Option Addr) (c c' g g' : Nat), e = .returned (.agg #[.bool b, .slice a xs.length c, .slice a' ys.length c']) ∧ Own w' g a .u8 xs ∧ Own w' g' a' .u8 ys ∧ B ≤ g ∧ B ≤ g'
theorem newPR_nil {B : Nat} {w : World} : NewPR B w (.returned (.agg #[.bool false, .slice none 0 0, .slice none 0 0])) false [] [] := ⟨none, none, 0, 0, B, B, rfl, Own.nil _ _ _ _, Own.nil _ _ _ _, Nat.le_refl _, Nat.le_refl _⟩
/-- What was lifted, as it is answered. -/
def LiF (w0 : World) (A : Int) (odd : Bool) : Fact := ⟨fun v w => ∃ (a a' : Option Addr) (c c' g g' : Nat), v = .tuple #[.bool (liB A odd), .agg #[.slice a (liX A odd).length c, .slice a' (liY A odd).length c']] ∧ Own w g a .u8 (liX A odd) ∧ Own w g' a' .u8 (liY A odd) ∧ w0.heap.size ≤ g ∧ w0.heap.size ≤ g', fun n h => by
  obtain ⟨a, a', c, c', g, g', e, o, o', q⟩ := h
  exact ⟨a, a', c, c', g, g', e, o.up n, o'.up n, q⟩⟩
/-- A point's block made in the region, still empty. -/
def NBp (w0 : World) : Fact := ⟨fun v w => ∃ q, v = .pointer (some ⟨q, 0, none⟩) ∧ w.heap[q]? = some pObj ∧ w0.heap.size ≤ q, fun {v w w'} n h => by
  obtain ⟨q, e, h, l⟩ := h
  exact ⟨q, e, (n.block q (Array.getElem?_eq_some_iff.1 h).1).trans h, l⟩⟩
theorem pObj_there {W : World} {q : Nat} (h : W.heap[q]? = some pObj) : W.there q 0 2 := fun j hj => by
  constructor
  · unfold World.cell?
    simp only
    rw [h]
    obtain rfl | rfl : j = 0 ∨ j = 1 := by omega
    all_goals rfl
  · unfold World.frozen?
    simp only
    rw [h]
    simp
theorem own_ne {W : World} {q g : Nat} {a : Option Addr} {xs : List Int} (h : W.heap[q]? = some pObj) (o : Own W g a .u8 xs) (h0 : 0 < xs.length) : g ≠ q := fun e => by
  obtain ⟨off, _, hc⟩ := o h0
  have c := (hc 0 h0).1
  subst e
  unfold World.cell? at c
  simp only at c
  rw [h] at c
  rcases (show off = 0 ∨ off = 1 ∨ 2 ≤ off by omega) with r | r | r
  · subst r
    simp at c
  · subst r
    simp at c
  · have : ([Value.slice none 0 0, .slice none 0 0].toArray)[off + 0]? = none := by simp; omega
    simp only [this] at c
    simp at c
theorem en_lift : enters Tryd.prog 61 = true := by kernel_rfl
section
variable {ops : Array Oper} {Q : Exit → Act → World → Prop} {md : Region.Mode} {F : Nat → Fact} {a0 : Act} {w0 : World} {i : Nat} {o : Oper} {ts : Array TypeId}
theorem step_mvp {P : Program} (hi : ops[i]? = some o) (p : Nat) (hop : o.op = .move (.tmp p)) (hp : apart ops p = true) {v : Value} (h0 : a0.tmps.getD p undef = v) (hF : F i = Fact.eq v) : StepOk P md ops Q F a0 w0 i := by
  refine step_pure hi fun b w hb hw _ => ⟨v, ?_, by rw [hF]; exact rfl⟩
  have e := (based_at hb p hp).trans h0
  simp [execOp, hop, e]
theorem step_of32 (hi : ops[i]? = some o) (p j : Nat) {a : Option Addr} {c : Nat} {xs : List Int} (hop : o.op = .call { callee := .value (.func 54), args := #[.tmp p], argTypes := ts })
    (hj : waits md ops i j p = true) (hO : OfOk w0 a xs) (hFj : F j = Fact.eq (.slice a 32 c)) (hFi : F i = EL (num xs)) : StepOk Tryd.prog md ops Q F a0 w0 i := by
  have hl : xs.length = 32 := by obtain ⟨_, _, _, h⟩ := hO; exact h
  exact step_of hi p j hop hj hO (hFj.trans (by rw [hl])) hFi
theorem step_at31 (hi : ops[i]? = some o) (p j : Nat) {g off c : Nat} (hop : o.op = .indexAddr 22 (.tmp p) (.const (.int .i64 31))) (hj : waits md ops i j p = true) (hFj : F j = Fact.eq (.slice (some ⟨g, off, none⟩) 32 c)) (hF : F i = Fact.eq (.pointer (some ⟨g, off + 31, none⟩))) : StepOk Tryd.prog md ops Q F a0 w0 i := by
  refine step_pure hi fun a w hb hw hf => ⟨.pointer (some ⟨g, off + 31, none⟩), ?_, by rw [hF]; exact rfl⟩
  have e := hf j p hj
  rw [hFj] at e
  have e' : a.eval (.tmp p) = .slice (some ⟨g, off, none⟩) 32 c := e
  have e2 : a.eval (.const (.int .i64 31)) = .int .i64 31 := rfl
  simp only [execOp, hop, e', e2]
  go_simp
theorem step_ld8 (hi : ops[i]? = some o) (p j : Nat) {q off : Nat} {v : Value} (hop : o.op = .load 5 (.tmp p)) (hj : waits md ops i j p = true) (hFj : F j = Fact.eq (.pointer (some ⟨q, off, none⟩))) (hc : w0.cell? ⟨q, off, none⟩ = some v) (hF : F i = Fact.eq v) : StepOk Tryd.prog md ops Q F a0 w0 i := by
  refine step_pure hi fun a w _ hw hf => ⟨v, ?_, by rw [hF]; exact rfl⟩
  have e := hf j p hj
  rw [hFj] at e
  have e' : a.eval (.tmp p) = .pointer (some ⟨q, off, none⟩) := e
  have c' : w.cell? ⟨q, off, none⟩ = some v := (hw.cell (block_lt_of_cell hc)).trans hc
  simp only [execOp, hop, e']
  go_simp
theorem step_geq (hi : ops[i]? = some o) (p j : Nat) {v : Int} {b : Bool} (hop : o.op = .binOp .geq 5 (.tmp p) (.const (.int .u8 128)) 5) (hj : waits md ops i j p = true) (hFj : F j = Fact.eq (.int .u8 v)) (hb : b = decide (128 ≤ v)) (hF : F i = Fact.eq (.bool b)) : StepOk Tryd.prog md ops Q F a0 w0 i := by
  refine step_pure hi fun a w _ hw hf => ⟨.bool b, ?_, by rw [hF]; exact rfl⟩
  have e := hf j p hj
  rw [hFj] at e
  have e' : a.eval (.tmp p) = .int .u8 v := e
  have e2 : a.eval (.const (.int .u8 128)) = .int .u8 128 := rfl
  subst hb
  simp only [execOp, hop, e', e2]
  go_simp
theorem step_lift (hi : ops[i]? = some o) (p q j k : Nat) {A : Int} {odd : Bool} (hop : o.op = .call { callee := .value (.func 61), args := #[.tmp p, .tmp q], argTypes := ts })
    (hj : waits md ops i j p = true) (hk : waits md ops i k q = true) (hFj : F j = EL A) (hFk : F k = Fact.eq (.bool odd)) (hFi : F i = LiF w0 A odd) : StepOk Tryd.prog md ops Q F a0 w0 i := by
  refine step_call hi _ _ ts hop en_lift fun a w _ hw hF => ?_
  have ea := hF j p hj
  have eb := hF k q hk
  rw [hFj] at ea
  rw [hFk] at eb
  obtain ⟨t, e1, L1, V1⟩ := ea
  have e2 : a.tmps.getD q undef = .bool odd := eb
  show Calls Tryd.prog 61 #[a.tmps.getD p undef, a.tmps.getD q undef] w _
  rw [e1, e2]
  refine (l5Lift_any w t A ⟨L1, V1⟩ odd).mono ?_
  rintro r w' ⟨⟨b, b', c, c', g, g', rfl, o1, o2, l1, l2⟩, hn⟩
  rw [hFi]
  exact ⟨_, rfl, hn, b, b', c, c', g, g', rfl, o1, o2, Nat.le_trans hw.size l1, Nat.le_trans hw.size l2⟩
theorem step_exL0 {P : Program} (hi : ops[i]? = some o) (p j : Nat) {A : Int} {odd : Bool} (hop : o.op = .extract (.tmp p) 0) (hj : waits md ops i j p = true) (hFj : F j = LiF w0 A odd) (hFi : F i = Fact.eq (.bool (liB A odd))) : StepOk P md ops Q F a0 w0 i := by
  refine step_pure hi fun a w _ _ hf => ⟨.bool (liB A odd), ?_, by rw [hFi]; exact rfl⟩
  have e := hf j p hj
  rw [hFj] at e
  obtain ⟨b, b', c, c', g, g', e, _⟩ := e
  have e' : a.eval (.tmp p) = .tuple #[.bool (liB A odd), .agg #[.slice b (liX A odd).length c, .slice b' (liY A odd).length c']] := e
  simp only [execOp, hop, e']
  rfl
theorem step_exL1 {P : Program} (hi : ops[i]? = some o) (p j : Nat) {A : Int} {odd : Bool} (hop : o.op = .extract (.tmp p) 1) (hj : waits md ops i j p = true) (hFj : F j = LiF w0 A odd) (hFi : F i = PT w0 (fun xs zs => xs = liX A odd ∧ zs = liY A odd)) : StepOk P md ops Q F a0 w0 i := by
  refine step_pure hi fun a w _ _ hf => ?_
  have e := hf j p hj
  rw [hFj] at e
  obtain ⟨b, b', c, c', g, g', e, o1, o2, l1, l2⟩ := e
  have e' : a.eval (.tmp p) = .tuple #[.bool (liB A odd), .agg #[.slice b (liX A odd).length c, .slice b' (liY A odd).length c']] := e
  refine ⟨.agg #[.slice b (liX A odd).length c, .slice b' (liY A odd).length c'], ?_, by rw [hFi]; exact ⟨_, _, b, b', c, c', g, g', rfl, o1, o2, l1, l2, rfl, rfl⟩⟩
  simp only [execOp, hop, e']
  rfl
theorem step_newP (hi : ops[i]? = some o) (hop : o.op = .alloc 24) (hF : F i = NBp w0) : StepOk Tryd.prog md ops Q F a0 w0 i := by
  refine step_grow hi fun a w _ hw _ => ⟨.pointer (some ⟨w.heap.size, 0, none⟩), w.alloc pObj, ?_, (Below.refl _ _).alloc (Nat.le_refl _) _, ?_⟩
  · simp only [execOp, hop]
    kernel_rfl
  · rw [hF]
    exact ⟨_, rfl, heap_alloc_last _ _, hw.size⟩
end
section
variable {ops : Array Oper} {Q : Exit → Act → World → Prop} {a0 : Act} {w : World} {id : Nat} {draw : Bool}
/-- A region that makes a point's block and lays one there. -/
theorem region_newPF (k jA jV pA pV : Nat) (o : Oper) (F : Nat → Fact) (p : List Int → List Int → Prop) (hT : textOk .any ops a0.tmps.size k = true) (hk : ops[k]? = some o) (hd : o.dst = none) (hop : o.op = .store 24 (.tmp pA) (.tmp pV))
    (wA : writes ops jA pA = true) (wV : writes ops jV pV = true) (FA : F jA = NBp w) (FV : F jV = PT w p) (steps : ∀ i, i < k → StepOk Tryd.prog .any ops Q F a0 w i)
    (fin : ∀ (vs : Nat → Value) (q : Nat) (W : World) (xs ys : List Int) (a a' : Option Addr) (c c' g g' : Nat), vs pA = .pointer (some ⟨q, 0, none⟩) → w.heap.size ≤ q → Below w.heap.size w W → W.rangeAt q 0 [.slice a xs.length c, .slice a' ys.length c'] → W.there q 0 2 → Own W g a .u8 xs → Own W g' a' .u8 ys → w.heap.size ≤ g → w.heap.size ≤ g' → p xs ys → (∀ i d, writes ops i d = true → ∃ Wp, (F i).p (vs d) Wp) → Q .normal (puts vs a0 ops.toList) W) :
    (Code.region id ops draw).wp Tryd.prog Q a0 w := by
  refine region_store k o F (by kernel_rfl) hT hk hd steps fun a W hb hw hF => ?_
  have h1 := hF jA pA wA
  have h2 := hF jV pV wV
  rw [FA] at h1
  rw [FV] at h2
  obtain ⟨q, eq, hq, lq⟩ := h1
  obtain ⟨xs, ys, b, b', c, c', g, g', ev, o1, o2, l1, l2, hpp⟩ := h2
  have th := pObj_there hq
  refine wp_store_mid 24 (.tmp pA) (.tmp pV) hop q 0 #[.slice b xs.length c, .slice b' ys.length c'] eq ev th iP (by simp [Value.oneCell']) ?_
  obtain ⟨vs, hvs⟩ : ∃ vs : Nat → Value, ∀ d, a.tmps.getD d undef = vs d := ⟨_, fun _ => rfl⟩
  rw [hd]
  show Q .normal a _
  rw [puts_of hT rfl hb vs hvs]
  refine fin vs q _ xs ys b b' c c' g g' ((hvs pA).symm.trans eq) lq (below_setCells lq _ _ _ hw) (World.rangeAt_setCells_same W q 0 _ th) (World.there_setCells th _ _ _) ?_ ?_ l1 l2 hpp (fun i d h => ⟨W, by rw [← hvs]; exact hF i d h⟩)
  · exact fun h0 => o1.of_block (setCells_other (own_ne hq o1 h0) _ 0 W) h0
  · exact fun h0 => o2.of_block (setCells_other (own_ne hq o2 h0) _ 0 W) h0
end
/-- Three cells that may be written. -/
structure Tri (w : World) (p : Nat) (x y z : Value) : Prop where
  c0 : w.cell? ⟨p, 0, none⟩ = some x
  c1 : w.cell? ⟨p, 1, none⟩ = some y
  c2 : w.cell? ⟨p, 2, none⟩ = some z
  f0 : w.frozen? ⟨p, 0, none⟩ = false
  f1 : w.frozen? ⟨p, 1, none⟩ = false
  f2 : w.frozen? ⟨p, 2, none⟩ = false
theorem Tri.lt {w : World} {p : Nat} {x y z : Value} (h : Tri w p x y z) : p < w.heap.size := block_lt_of_cell h.c0
theorem Tri.up {w w' : World} {p : Nat} {x y z : Value} (h : Tri w p x y z) (n : Below w.heap.size w w') : Tri w' p x y z := by
  have hb := n.block p h.lt
  exact ⟨(World.cell?_of_block (a := ⟨p, 0, none⟩) hb).trans h.c0, (World.cell?_of_block (a := ⟨p, 1, none⟩) hb).trans h.c1, (World.cell?_of_block (a := ⟨p, 2, none⟩) hb).trans h.c2, (World.frozen?_of_block (a := ⟨p, 0, none⟩) hb).trans h.f0, (World.frozen?_of_block (a := ⟨p, 1, none⟩) hb).trans h.f1, (World.frozen?_of_block (a := ⟨p, 2, none⟩) hb).trans h.f2⟩
theorem Tri.new (w : World) (x y z : Value) (t : TypeId) : Tri (w.alloc (.cells #[x, y, z] t)) w.heap.size x y z := by
  have e : (w.alloc (.cells #[x, y, z] t)).heap[w.heap.size]? = some (.cells #[x, y, z] t) := heap_alloc_last _ _
  refine ⟨?_, ?_, ?_, ?_, ?_, ?_⟩
  all_goals first
    | (unfold World.cell?; simp only; rw [e]; rfl)
    | (unfold World.frozen?; simp only; rw [e]; simp)
theorem low7s_len (xs : List Int) : (low7s xs).length = xs.length := by unfold low7s; simp
theorem low7s_byt {xs : List Int} (h : Byt xs) : Byt (low7s xs) := by
  intro j
  unfold low7s
  by_cases e : 31 = j
  · subst e
    by_cases c : 31 < xs.length
    · rw [getD_set_self _ _ _ c]
      have := h 31
      show 0 ≤ xs.getD 31 0 % 128 ∧ xs.getD 31 0 % 128 < 256
      omega
    · rw [List.set_eq_of_length_le (by omega)]
      exact h 31
  · rw [getD_set_ne _ _ _ _ e]
    exact h j
abbrev prObj : Obj := .cells #[.bool false, .slice none 0 0, .slice none 0 0] 44

set_option maxHeartbeats 2000000 in
theorem specDecode_any (w : World) (g : Nat) (a : Option Addr) (c : Nat) (xs : List Int) (hr : Rd w g a .u8 xs) (hb : Byt xs) (hc : a = none → c = 0) :
    Calls Tryd.prog 39 #[.slice a xs.length c] w fun r w' => NewPR w.heap.size w' r (dcB xs) (dcX xs) (dcY xs) ∧ Below w.heap.size w w' := by
  have TZ := Tri.new w (.bool false) (.slice none 0 0) (.slice none 0 0) 44
  have N : Below w.heap.size w (w.alloc prObj) := (Below.refl _ _).alloc (Nat.le_refl _) _
  by_cases hl : xs.length = 32
  · have CP := hide (fun W n => l1Copy_any W g a c xs (hr.up n) hc (by omega))
    have LH := hide hl
    have b31' := hb 31
    have DB : Hid (dcB xs = (canN (low7s xs) && liB (num (low7s xs)) (decide (128 ≤ xs.getD 31 0)))) := by show _ = _; unfold dcB; rw [decide_eq_true hl]; rfl
    have DX : Hid (dcX xs = if dcB xs = true then liX (num (low7s xs)) (decide (128 ≤ xs.getD 31 0)) else []) := by show _ = _; rfl
    have DY : Hid (dcY xs = if dcB xs = true then liY (num (low7s xs)) (decide (128 ≤ xs.getD 31 0)) else []) := by show _ = _; rfl
    obtain ⟨o0, rfl, rc⟩ := id hr (by omega)
    have CB0 := hide (rc 31 (by omega))
    have hg := hr.lt (by omega)
    rw [hl] at CP ⊢
    clear hl rc
    go_enter Tryd.func39, Tryd.ntmps39
    go_upto_region 3 with fail
    change Code.wp _ _ _ _ (w.alloc prObj)
    generalize w.alloc prObj = wr at *
    go_wp2_with fail
    refine (CP.out wr N).mono ?_
    rintro r w1 ⟨⟨a1, c1, g1, rfl, o1, p1, q1, r1⟩, n1⟩
    have z1 := TZ.lt
    replace TZ := TZ.up n1
    replace N := nxt N n1
    clear CP n1 p1
    rw [LH.out] at q1 ⊢
    obtain ⟨off, rfl, oc⟩ := id o1 (by rw [LH.out]; decide)
    have x31 := (oc 31 (by rw [LH.out]; decide)).1
    have f31 := (oc 31 (by rw [LH.out]; decide)).2
    have S1 := o1.store 31 (by rw [LH.out]; decide) (xs.getD 31 0 % 128)
    have N2 : Below w.heap.size w (w1.setCell ⟨g1, off + 31, none⟩ (.int .u8 (xs.getD 31 0 % 128))) := N.setCell (by show w.heap.size ≤ g1; omega) _
    have TZ2 : Tri (w1.setCell ⟨g1, off + 31, none⟩ (.int .u8 (xs.getD 31 0 % 128))) w.heap.size (.bool false) (.slice none 0 0) (.slice none 0 0) := by
      have hbk := heap_setCell_other w1 ⟨g1, off + 31, none⟩ w.heap.size (.int .u8 (xs.getD 31 0 % 128)) (by show w.heap.size ≠ g1; omega)
      exact ⟨(World.cell?_of_block (a := ⟨w.heap.size, 0, none⟩) hbk).trans TZ.c0, (World.cell?_of_block (a := ⟨w.heap.size, 1, none⟩) hbk).trans TZ.c1, (World.cell?_of_block (a := ⟨w.heap.size, 2, none⟩) hbk).trans TZ.c2, (World.frozen?_of_block (a := ⟨w.heap.size, 0, none⟩) hbk).trans TZ.f0, (World.frozen?_of_block (a := ⟨w.heap.size, 1, none⟩) hbk).trans TZ.f1, (World.frozen?_of_block (a := ⟨w.heap.size, 2, none⟩) hbk).trans TZ.f2⟩
    have YB := hide (low7s_byt hb)
    have YL := hide ((low7s_len xs).trans LH.out)
    have SO : Hid (Own (w1.setCell ⟨g1, off + 31, none⟩ (.int .u8 (xs.getD 31 0 % 128))) g1 (some ⟨g1, off, none⟩) .u8 (low7s xs)) := S1
    have CB : Hid ((w1.setCell ⟨g1, off + 31, none⟩ (.int .u8 (xs.getD 31 0 % 128))).cell? ⟨g, o0 + 31, none⟩ = some (.int .u8 (xs.getD 31 0))) := (N2.cell hg).trans CB0.out
    clear S1 o1 oc TZ N CB0 LH hb hr
    obtain ⟨ys, hys⟩ : ∃ ys, ys = low7s xs := ⟨_, rfl⟩
    rw [← hys] at YB YL SO DB DX DY
    clear hys
    obtain ⟨b31, h31⟩ : ∃ b, b = xs.getD 31 0 := ⟨_, rfl⟩
    rw [← h31] at x31 N2 TZ2 SO CB DB DX DY b31'
    clear h31
    obtain ⟨odd, hodd⟩ : ∃ o, o = decide (128 ≤ b31) := ⟨_, rfl⟩
    rw [← hodd] at DB DX DY
    have HO := hide hodd
    clear hodd
    have FC := hide (fun W (h : Rd W g1 (some ⟨g1, off, none⟩) .u8 ys) => specFieldCanonical_any W g1 (some ⟨g1, off, none⟩) c1 ys h YB.out)
    rw [YL.out] at FC
    cases hcn : canN ys with
    | false =>
      have KB : Hid (dcB xs = false) := by show _ = _; rw [DB.out, hcn]; rfl
      have KX : Hid (dcX xs = []) := by show _ = _; rw [DX.out, if_neg (by rw [KB.out]; simp)]
      have KY : Hid (dcY xs = []) := by show _ = _; rw [DY.out, if_neg (by rw [KB.out]; simp)]
      rw [hcn] at FC
      clear hcn DB DX DY CB
      go_wp2_with fail
      generalize w1.setCell ⟨g1, off + 31, none⟩ (.int .u8 (b31 % 128)) = w3 at *
      refine (FC.out w3 SO.out.rd).mono ?_
      rintro r w4 ⟨rfl, n⟩
      obtain ⟨y0, y1, y2, u0, u1, u2⟩ := TZ2.up n
      have N4 := nxt N2 n
      clear FC SO n TZ2 N2 x31 f31
      go_wp2
      refine bodyPost_ret (v := .agg #[.bool false, .slice none 0 0, .slice none 0 0]) (by simp [results, Tryd.results39, go_sem, y0, y1, y2]) rfl ⟨by rw [KB.out, KX.out, KY.out]; exact newPR_nil, ?_⟩
      exact ((N4.setCell (Nat.le_refl _) _).setCell (Nat.le_refl _) _).setCell (Nat.le_refl _) _
    | true =>
      rw [hcn] at DB FC
      clear hcn
      go_wp2_with fail
      generalize w1.setCell ⟨g1, off + 31, none⟩ (.int .u8 (b31 % 128)) = w3 at *
      refine (FC.out w3 SO.out.rd).mono ?_
      rintro r w4 ⟨rfl, n⟩
      have OY := hide (of_ok (SO.out.rd.up n) YB.out YL.out)
      replace CB := hide ((n.cell (block_lt_of_cell CB.out)).trans CB.out)
      replace TZ2 := TZ2.up n
      have N4 := nxt N2 n
      clear FC SO n N2 x31 f31
      go_upto_region 7 with fail
      refine region_newPF 12 10 9 5 31 _ (fun i => [Fact.eq (.slice (some ⟨g1, off, none⟩) 32 c1), EL (num ys), Fact.eq (.slice (some ⟨g, o0, none⟩) 32 c), Fact.eq (.pointer (some ⟨g, o0 + 31, none⟩)), Fact.eq (.int .u8 b31), Fact.eq (.bool odd), LiF w4 (num ys) odd, LiF w4 (num ys) odd, Fact.eq (.bool (liB (num ys) odd)), PT w4 (fun xs zs => xs = liX (num ys) odd ∧ zs = liY (num ys) odd), NBp w4, Fact.eq (.bool (liB (num ys) odd))].getD i Fact.no) (fun xs zs => xs = liX (num ys) odd ∧ zs = liY (num ys) odd) (by kernel_rfl) rfl rfl rfl (by kernel_rfl) (by kernel_rfl) rfl rfl ?_ ?_
      · intro i hi
        obtain rfl | rfl | rfl | rfl | rfl | rfl | rfl | rfl | rfl | rfl | rfl | rfl : i = 0 ∨ i = 1 ∨ i = 2 ∨ i = 3 ∨ i = 4 ∨ i = 5 ∨ i = 6 ∨ i = 7 ∨ i = 8 ∨ i = 9 ∨ i = 10 ∨ i = 11 := by omega
        · exact step_mvp rfl 3 rfl (by kernel_rfl) rfl rfl
        · exact step_of32 rfl 23 0 rfl (by kernel_rfl) OY.out rfl rfl
        · exact step_mvp rfl 0 rfl (by kernel_rfl) rfl rfl
        · exact step_at31 rfl 25 2 rfl (by kernel_rfl) rfl rfl
        · exact step_ld8 rfl 26 3 rfl (by kernel_rfl) rfl CB.out rfl
        · exact step_geq rfl 27 4 rfl (by kernel_rfl) rfl HO.out rfl
        · exact step_lift rfl 24 28 1 5 rfl (by kernel_rfl) (by kernel_rfl) rfl rfl rfl
        · exact step_move rfl 29 6 (by exact Or.inl rfl) (by kernel_rfl) rfl
        · exact step_exL0 rfl 22 7 rfl (by kernel_rfl) rfl rfl
        · exact step_exL1 rfl 22 7 rfl (by kernel_rfl) rfl rfl
        · exact step_newP rfl rfl rfl
        · exact step_move rfl 30 8 (by exact Or.inr rfl) (by kernel_rfl) rfl
      rintro vt q5 W7 ps qs b1 b2 d1 d2 h1 h2 v5 l5 n rg th o1 o2 l1 l2 ⟨rfl, rfl⟩ hF
      obtain ⟨_, v4⟩ := hF 11 4 (by kernel_rfl)
      clear hF
      change vt 4 = .bool (liB (num ys) odd) at v4
      have z4 := TZ2.lt
      replace TZ2 := TZ2.up n
      have z0 := N4.size
      replace N4 := nxt N4 n
      clear n OY CB th
      simp only [puts, v5, v4, Act.put, List.setIfInBounds_toArray, List.set_cons_succ, List.set_cons_zero]
      clear v4 v5
      have k0 := rg 0 _ rfl
      have k1 := rg 1 _ rfl
      simp only [Nat.zero_add] at k0 k1
      clear rg
      obtain ⟨y0, y1, y2, u0, u1, u2⟩ := TZ2
      cases hli : liB (num ys) odd with
      | false =>
        have KB : Hid (dcB xs = false) := by show _ = _; rw [DB.out, hli]; rfl
        have KX : Hid (dcX xs = []) := by show _ = _; rw [DX.out, if_neg (by rw [KB.out]; simp)]
        have KY : Hid (dcY xs = []) := by show _ = _; rw [DY.out, if_neg (by rw [KB.out]; simp)]
        clear DB DX DY o1 o2 hli
        go_wp2
        refine bodyPost_ret (v := .agg #[.bool false, .slice none 0 0, .slice none 0 0]) (by simp [results, Tryd.results39, go_sem, y0, y1, y2]) rfl ⟨by rw [KB.out, KX.out, KY.out]; exact newPR_nil, ?_⟩
        exact ((N4.setCell (Nat.le_refl _) _).setCell (Nat.le_refl _) _).setCell (Nat.le_refl _) _
      | true =>
        have KB : Hid (dcB xs = true) := by show _ = _; rw [DB.out, hli]; rfl
        have KX : Hid (dcX xs = liX (num ys) odd) := by show _ = _; rw [DX.out, if_pos KB.out]
        have KY : Hid (dcY xs = liY (num ys) odd) := by show _ = _; rw [DY.out, if_pos KB.out]
        clear DB DX DY hli
        generalize liX (num ys) odd = X at *
        generalize liY (num ys) odd = Y at *
        have O := ((Only.setCell W7 w.heap.size 0 (.bool true)).trans (Only.setCell _ w.heap.size 1 (.slice b1 X.length d1))).trans (Only.setCell _ w.heap.size 2 (.slice b2 Y.length d2))
        have o1' := o1.only O (fun _ => by omega)
        have o2' := o2.only O (fun _ => by omega)
        have N' := N4.trans (O.below (Nat.le_refl _))
        clear o1 o2 O N4
        go_wp2
        refine bodyPost_ret (v := .agg #[.bool true, .slice b1 X.length d1, .slice b2 Y.length d2]) (by simp [results, Tryd.results39, go_sem, y0, y1, y2]) rfl ⟨?_, N'⟩
        rw [KB.out, KX.out, KY.out]
        exact ⟨b1, b2, d1, d2, h1, h2, rfl, o1', o2', by omega, by omega⟩
  · have t : ((xs.length : Int) != 32) = true := by simp; omega
    have KB : Hid (dcB xs = false) := by show _ = _; unfold dcB; rw [decide_eq_false hl]; rfl
    have KX : Hid (dcX xs = []) := by show _ = _; unfold dcX; rw [if_neg (by rw [KB.out]; simp)]
    have KY : Hid (dcY xs = []) := by show _ = _; unfold dcY; rw [if_neg (by rw [KB.out]; simp)]
    obtain ⟨y0, y1, y2, u0, u1, u2⟩ := TZ
    clear hl
    go_enter Tryd.func39, Tryd.ntmps39
    go_upto_region 1 with fail
    change Code.wp _ _ _ _ (w.alloc prObj)
    generalize w.alloc prObj = wr at *
    go_wp2
    refine bodyPost_ret (v := .agg #[.bool false, .slice none 0 0, .slice none 0 0]) (by simp [results, Tryd.results39, go_sem, y0, y1, y2]) rfl ⟨by rw [KB.out, KX.out, KY.out]; exact newPR_nil, ?_⟩
    exact ((N.setCell (Nat.le_refl _) _).setCell (Nat.le_refl _) _).setCell (Nat.le_refl _) _
end Go.Proofs.YthapcapiiknjdaaDoor

/-
  The model's l5Find.
-/
namespace Go.Proofs.YthapcapiiknjdaaDoor
set_option maxRecDepth 100000
open Go Go.RowKit

def inc0 (ys : List Int) : List Int := ys.set 0 ((ys.getD 0 0 + 1) % 256)
/-- The first point at or behind these bytes. -/
def fdP : Nat → List Int → List Int × List Int
  | 0, _ => (liX (4 * iv 5) false, liY (4 * iv 5) false)
  | n + 1, ys => if dcB ys = true then (dcX ys, dcY ys) else fdP n (inc0 ys)
theorem inc0_byt {ys : List Int} (h : Byt ys) : Byt (inc0 ys) := by
  intro i
  unfold inc0
  have := h i
  by_cases e : i = 0
  · subst e
    by_cases l : 0 < ys.length
    · simp [List.getD_eq_getElem?_getD, l]
      omega
    · simp [List.getD_eq_getElem?_getD, l]
  · rw [List.getD_eq_getElem?_getD, List.getElem?_set_ne (by omega), ← List.getD_eq_getElem?_getD]
    exact this
theorem inc0_len (ys : List Int) : (inc0 ys).length = ys.length := by unfold inc0; simp
theorem Two.of_block' {w w' : World} {p : Nat} {x y : Value} (h : Two w p x y) (hb : w'.heap[p]? = w.heap[p]?) : Two w' p x y :=
  ⟨(World.cell?_of_block (a := ⟨p, 0, none⟩) hb).trans h.c0, (World.cell?_of_block (a := ⟨p, 1, none⟩) hb).trans h.c1, (World.frozen?_of_block (a := ⟨p, 0, none⟩) hb).trans h.f0, (World.frozen?_of_block (a := ⟨p, 1, none⟩) hb).trans h.f1⟩
set_option maxHeartbeats 4000000 in
theorem l5Find_any (w : World) (g off c : Nat) (bs : List Int) (ho : Own w g (some ⟨g, off, none⟩) .u8 bs) (hb : Byt bs) (hl : bs.length = 32) :
    Calls Tryd.prog 122 #[.slice (some ⟨g, off, none⟩) 32 c] w fun r w' => NewPt w.heap.size w' r (fdP 40 bs).1 (fdP 40 bs).2 ∧ But g w w' := by
  have TZ : Two (w.alloc pObj) w.heap.size (.slice none 0 0) (.slice none 0 0) := Two.new w (.slice none 0 0) (.slice none 0 0) 24
  have N : But g w (w.alloc pObj) := But.ofBelow ((Below.refl _ _).alloc (Nat.le_refl _) _)
  have hg := ho.rd.lt (by omega)
  have ho := ho.up ((Below.refl _ _).alloc (Nat.le_refl _) pObj)
  obtain ⟨R, hR⟩ : ∃ R, R = fdP 40 bs := ⟨_, rfl⟩
  rw [← hR]
  go_enter Tryd.func122, Tryd.ntmps122
  go_upto_region 1 with fail
  change Code.wp _ _ _ _ (w.alloc pObj)
  generalize w.alloc pObj = wz at *
  go_wp2
  go_loopw [3] (fun i wr => ∃ (k : Nat) (ys : List Int), k ≤ 40 ∧ i = .int .i64 k ∧ Hid (R = fdP (40 - k) ys) ∧ Hid (ys.length = 32) ∧ Byt ys ∧ Own wr g (some ⟨g, off, none⟩) .u8 ys ∧ Two wr w.heap.size (.slice none 0 0) (.slice none 0 0) ∧ But g w wr) (fun i _ => 40 - (intOf i).toNat)
  case atStart => exact ⟨0, bs, by omega, rfl, hR, hl, hb, ho, TZ, N⟩
  case round =>
    obtain ⟨k, ys, hk, rfl, HR, HL, yb, yo, T2, NB⟩ := hrel
    by_cases hlt : k < 40
    · have DC := hide (specDecode_any wr g (some ⟨g, off, none⟩) c ys yo.rd yb (fun h => nomatch h))
      have zb := NB.size
      have zt := T2.lt
      rw [HL.out] at DC
      have HS : Hid (R = if dcB ys = true then (dcX ys, dcY ys) else fdP (40 - (k + 1)) (inc0 ys)) := by
        show _ = _
        rw [HR.out, show 40 - k = (40 - (k + 1)) + 1 by omega]
        rfl
      clear HR
      go_wp2_with fail
      refine DC.out.mono ?_
      rintro r w1 ⟨⟨a1, a1', c1, c1', g1, g1', rfl, o1, o1', l1, l1'⟩, n1⟩
      have z1 := n1.size
      replace yo := yo.up n1
      replace T2 := T2.up n1
      have TT := Tri.new w1 (.bool (dcB ys)) (.slice a1 (dcX ys).length c1) (.slice a1' (dcY ys).length c1') 44
      have n2 : Below w1.heap.size w1 (w1.alloc (.cells #[.bool (dcB ys), .slice a1 (dcX ys).length c1, .slice a1' (dcY ys).length c1'] 44)) := (Below.refl _ _).alloc (Nat.le_refl _) _
      replace yo := yo.up n2
      replace T2 := T2.up n2
      replace o1 := o1.up n2
      replace o1' := o1'.up n2
      replace NB := (NB.trans (But.ofBelow n1)).trans (But.ofBelow n2)
      have z2 := n2.size
      clear n1 n2 DC
      cases hd : dcB ys with
      | true =>
        have HR : Hid (R = (dcX ys, dcY ys)) := by show _ = _; rw [HS.out, if_pos hd]
        rw [hd] at TT z2 yo T2 o1 o1' NB
        clear HS hd
        obtain ⟨t0, t1, t2, u0, u1, u2⟩ := TT
        obtain ⟨y0, y1, v0, v1⟩ := T2
        generalize dcX ys = X at *
        generalize dcY ys = Y at *
        have O := fun W => (Only.setCell W w.heap.size 0 (.slice a1 X.length c1)).trans (Only.setCell _ w.heap.size 1 (.slice a1' Y.length c1'))
        go_wp2
        generalize w1.alloc (.cells #[.bool true, .slice a1 X.length c1, .slice a1' Y.length c1'] 44) = W at *
        refine bodyPost_ret (v := .agg #[.slice a1 X.length c1, .slice a1' Y.length c1']) (by simp [results, Tryd.results122, go_sem, y0, y1]) rfl ⟨?_, (NB.setCell (Nat.le_refl _)).setCell (Nat.le_refl _)⟩
        rw [HR.out]
        exact ⟨a1, a1', c1, c1', g1, g1', rfl, o1.only (O W) (fun _ => by omega), o1'.only (O W) (fun _ => by omega), by omega, by omega⟩
      | false =>
        have HR : Hid (R = fdP (40 - (k + 1)) (inc0 ys)) := by show _ = _; rw [HS.out, if_neg (by rw [hd]; simp)]
        rw [hd] at TT z2 yo T2 o1 o1' NB
        clear HS hd
        obtain ⟨t0, t1, t2, u0, u1, u2⟩ := TT
        obtain ⟨off', he, hc⟩ := id yo (by rw [HL.out]; decide)
        obtain rfl : off = off' := by simpa using he
        have x0 := (hc 0 (by rw [HL.out]; decide)).1
        have f0 := (hc 0 (by rw [HL.out]; decide)).2
        rw [Nat.add_zero] at x0 f0
        have b0 := yb 0
        have S1 := yo.store 0 (by rw [HL.out]; decide) ((ys.getD 0 0 + 1) % 256)
        rw [Nat.add_zero] at S1
        have IB := inc0_byt yb
        have IL := hide ((inc0_len ys).trans HL.out)
        have SO : Hid (Own ((w1.alloc (.cells #[.bool false, .slice a1 (dcX ys).length c1, .slice a1' (dcY ys).length c1'] 44)).setCell ⟨g, off, none⟩ (.int .u8 ((ys.getD 0 0 + 1) % 256))) g (some ⟨g, off, none⟩) .u8 (inc0 ys)) := S1
        clear S1 hc he yo o1 o1'
        generalize inc0 ys = zs at *
        generalize ys.getD 0 0 = y at *
        go_wp2
        go_roundw
        case rel => exact ⟨k + 1, zs, by omega, by go_num, HR, IL, IB, SO.out, T2.of_block' (heap_setCell_other _ ⟨g, off, none⟩ w.heap.size _ (by show w.heap.size ≠ g; omega)), NB.only (Only.setCell _ g off _)⟩
        case measure => simp [intOf]; omega
    · obtain rfl : k = 40 := by omega
      have HB : Hid (R = (liX (4 * iv 5) false, liY (4 * iv 5) false)) := HR.out
      have zt := T2.lt
      clear HR
      have SB := hide (specBase_any wr)
      generalize liX (4 * iv 5) false = X at *
      generalize liY (4 * iv 5) false = Y at *
      go_wp2_with fail
      refine SB.out.mono ?_
      rintro r w1 ⟨⟨a1, a1', c1, c1', g1, g1', rfl, o1, o1', l1, l1'⟩, n1⟩
      have T3 := T2.up n1
      have N3 := NB.trans (But.ofBelow n1)
      obtain ⟨y0, y1, v0, v1⟩ := T3
      have O := (Only.setCell w1 w.heap.size 0 (.slice a1 X.length c1)).trans (Only.setCell _ w.heap.size 1 (.slice a1' Y.length c1'))
      go_wp2
      refine bodyPost_ret (v := .agg #[.slice a1 X.length c1, .slice a1' Y.length c1']) (by simp [results, Tryd.results122, go_sem, y0, y1]) rfl ⟨?_, (N3.setCell (Nat.le_refl _)).setCell (Nat.le_refl _)⟩
      rw [HB.out]
      exact ⟨a1, a1', c1, c1', g1, g1', rfl, o1.only O (fun _ => by omega), o1'.only O (fun _ => by omega), by omega, by omega⟩
end Go.Proofs.YthapcapiiknjdaaDoor
