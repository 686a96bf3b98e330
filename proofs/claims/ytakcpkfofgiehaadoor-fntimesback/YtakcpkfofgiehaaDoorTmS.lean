
/-
  The model's calendar, digits and EncodeTime.
-/
import Derived.Test.YtakcpkfofgiehaaDoorHelp
import Derived.Test.YtakcpkfofgiehaaDoorTmN
import Derived.Test.YtakcpkfofgiehaaDoorApd
namespace Go.Proofs.YtakcpkfofgiehaaDoor
set_option maxRecDepth 100000
open Go Go.RowKit

/-- A block of bytes of its own kind. -/
def Bk5 (w : World) (g : Nat) (ys : List Int) : Prop := w.heap[g]? = some (.cells (ys.map (Value.int .u8)).toArray 5 (0, 0))
theorem Bk5.blk {w : World} {g : Nat} {ys : List Int} (h : Bk5 w g ys) : Blk w g .u8 ys := ⟨5, h⟩
theorem Bk5.of_made {w : World} {base : Nat} {g n : Nat} (h : w.ownsRow base 5 1 (.slice (some ⟨g, 0, none⟩) n n) n (madeCells (Value.int .u8 0).cells (n * 1)).toList) : Bk5 w g (List.replicate n 0) := by
  obtain ⟨t, hb⟩ := Blk.of_made h
  rcases h.2 with ⟨h', _⟩ | ⟨g', cap', cur, h', _, hg, _⟩
  · simp at h'
  · simp only [Value.slice.injEq, Option.some.injEq, Addr.mk.injEq, and_true, true_and] at h'
    obtain ⟨rfl, rfl⟩ := h'
    rw [hg] at hb
    simp only [Option.some.injEq, Obj.cells.injEq, and_true] at hb
    show w.heap[g]? = _
    rw [hg, hb.1]
theorem Bk5.store {w : World} {g : Nat} {ys : List Int} (h : Bk5 w g ys) (i : Nat) (z : Int) : Bk5 (w.setCell ⟨g, i, none⟩ (.int .u8 z)) g (ys.set i z) := by
  show (w.heap.modify g _)[g]? = _
  rw [Array.getElem?_modify, if_pos rfl, h]
  show some (Obj.cells ((ys.map (Value.int .u8)).toArray.setIfInBounds i (.int .u8 z)) 5 (0, 0)) = _
  rw [List.setIfInBounds_toArray, List.map_set]
theorem Bk5.row {w : World} {g base : Nat} {ys : List Int} (h : Bk5 w g ys) (hb : base ≤ g) (hl : ys.length ≤ 1048576) : RowB w base (.slice (some ⟨g, 0, none⟩) ys.length ys.length) ys := by
  refine ⟨by simp, .inr ⟨g, ys.length, _, rfl, hb, h, Nat.le_refl _, by unfold maxLen; omega, by simp, ?_⟩⟩
  rw [List.take_of_length_le (by simp)]

set_option maxHeartbeats 400000 in
theorem l10Leap_any (w : World) (y : Int) (h0 : 0 ≤ y) :
    Calls Tryd.prog 33 #[.int .i64 y] w fun e w' => e = .returned (.bool (leap y)) ∧ w' = w := by
  by_cases c400 : y % 400 = 0
  · have E : Hid (leap y = true) := by show leap y = _; unfold leap; simp [c400]
    go_enter Tryd.func33, Tryd.ntmps33
    go_wp2
    go_ret
    exact ⟨by rw [E.out]; rfl, rfl⟩
  · have t4 : (y % 400 == 0) = false := by simpa using c400
    have t5 : decide (y % 400 = 0) = false := decide_eq_false c400
    by_cases c4 : y % 4 = 0
    · by_cases c100 : y % 100 = 0
      · have E : Hid (leap y = false) := by show leap y = _; unfold leap; simp [c400, c100]
        clear c400
        go_enter Tryd.func33, Tryd.ntmps33
        go_wp2
        go_ret
        exact ⟨by rw [E.out]; rfl, rfl⟩
      · have E : Hid (leap y = true) := by show leap y = _; unfold leap; simp [c4, c100]
        have t6 : Hid ((y % 100 != 0) = true) := by show (y % 100 != 0) = true; simpa using c100
        clear c100
        go_enter Tryd.func33, Tryd.ntmps33
        go_wp2
        go_ret
        exact ⟨by rw [E.out]; exact congrArg (fun b => Ending.returned (.bool b)) t6.out, rfl⟩
    · have E : Hid (leap y = false) := by show leap y = _; unfold leap; simp [c400, c4]
      have t6 : (y % 4 == 0) = false := by simpa using c4
      have t7 : decide (y % 4 = 0) = false := decide_eq_false c4
      go_enter Tryd.func33, Tryd.ntmps33
      go_wp2
      go_ret
      exact ⟨by rw [E.out]; rfl, rfl⟩
set_option maxHeartbeats 400000 in
theorem l10YearDays_any (w : World) (y : Int) (h0 : 0 ≤ y) :
    Calls Tryd.prog 19 #[.int .i64 y] w fun e w' => e = .returned (.int .i64 (ydI y)) ∧ w' = w := by
  have LP := hide (l10Leap_any w y h0)
  have E : Hid (ydI y = if leap y = true then 366 else 365) := rfl
  cases hl : leap y
  all_goals
    rw [hl] at LP E
    go_enter Tryd.func19, Tryd.ntmps19
    go_wp2_with fail
    refine LP.out.mono ?_
    rintro e w1 ⟨rfl, h⟩
    have h := h.symm
    subst h
    go_wp2
    go_ret
    exact ⟨by rw [E.out]; rfl, rfl⟩
set_option maxHeartbeats 1000000 in
theorem l10MonthDays_any (w : World) (y : Int) (k : Nat) (h0 : 0 ≤ y) (hk : k < 12) :
    Calls Tryd.prog 20 #[.int .i64 y, .int .i64 ((k : Int) + 1)] w fun e w' => e = .returned (.int .i64 (mdI y ((k : Int) + 1))) ∧ w' = w := by
  have LP := hide (l10Leap_any w y h0)
  have E : Hid (mdI y ((k : Int) + 1) = if (k : Int) + 1 = 2 then (if leap y = true then 29 else 28) else if (k : Int) + 1 = 4 ∨ (k : Int) + 1 = 6 ∨ (k : Int) + 1 = 9 ∨ (k : Int) + 1 = 11 then 30 else 31) := rfl
  generalize mdI y ((k : Int) + 1) = md at *
  obtain rfl | hk1 : k = 1 ∨ k ≠ 1 := by omega
  · cases hl : leap y
    all_goals
      rw [hl] at LP E
      go_enter Tryd.func20, Tryd.ntmps20
      go_wp2_with fail
      refine LP.out.mono ?_
      rintro e w1 ⟨rfl, h⟩
      have h := h.symm
      subst h
      go_wp2
      go_ret
      exact ⟨by rw [E.out]; rfl, rfl⟩
  · clear LP
    obtain rfl | rfl | rfl | rfl | rfl | rfl | rfl | rfl | rfl | rfl | rfl : k = 0 ∨ k = 2 ∨ k = 3 ∨ k = 4 ∨ k = 5 ∨ k = 6 ∨ k = 7 ∨ k = 8 ∨ k = 9 ∨ k = 10 ∨ k = 11 := by omega
    all_goals
      go_enter Tryd.func20, Tryd.ntmps20
      go_wp2
      go_ret
      exact ⟨by rw [E.out]; rfl, rfl⟩

set_option maxHeartbeats 1000000 in
theorem l10Digits_any (w : World) (v : Int) (n : Nat) (h0 : 0 ≤ v) (h1 : v < 10 ^ n) (hv : v < 100000) (hn : n ≤ 100) :
    Calls Tryd.prog 21 #[.int .i64 v, .int .i64 (n : Int)] w fun e w' => (∃ r, e = .returned r ∧ RowB w' w.heap.size r (dgs n v)) ∧ Below w.heap.size w w' := by
  obtain ⟨i0, hi, hz0, hz1, hz2⟩ := info_parts Tryd.info5
  go_enter Tryd.func21, Tryd.ntmps21
  go_wp2_with (at_make; refine wpList_make_full _ rfl _ _ 22 rfl w.heap.size 5 i0 (.int .u8 0) 1 Tryd.underlying22 hi hz0 hz1 .i64 .i64 _ _ n rfl rfl rfl rfl (by rw [hz2]; omega) (by unfold maxLen; omega) (Nat.le_refl _) ?_; intro w1 hown hgrow)
  have hB0 := Bk5.of_made hown
  have hN0 : Below w.heap.size w w1 := (Below.refl _ _).grown hgrow (Nat.le_refl _) (by simp)
  clear hown hgrow
  go_loopw [0, 6] (fun q i wr => ∃ (k : Nat) (u j : Int) (ys : List Int), k ≤ n ∧ q = .int .i64 u ∧ i = .int .i64 j ∧ Hid (j = (n : Int) - 1 - (k : Int)) ∧ 0 ≤ u ∧ u < 100000 ∧ Hid (u = v / 10 ^ k) ∧ Hid (ys.length = n) ∧ Hid (∀ m, n - k ≤ m → m < n → ys.getD m 0 = (dgs n v).getD m 0) ∧ Bk5 wr w.heap.size ys ∧ Below w.heap.size w wr) (fun _ i _ => (intOf i + 1).toNat)
  case atStart => exact ⟨0, v, (n : Int) - 1, _, Nat.zero_le _, rfl, by go_num, by show _ = _; omega, h0, hv, by show _ = _; simp, by show _ = _; simp, fun m a b => absurd a (by omega), hB0, hN0⟩
  case round =>
    obtain ⟨k, u, j, ys, hk, rfl, rfl, hj, u0, u1, hu, hl, hT, hB, hN⟩ := hrel
    by_cases hlt : k < n
    · obtain ⟨p, hp⟩ : ∃ p : Nat, p = n - 1 - k := ⟨_, rfl⟩
      obtain rfl : j = (p : Int) := by have := hj.out; omega
      have hlp : p < ys.length := by rw [hl.out]; omega
      have hcy := hB.blk.cell hlp
      have hfy := hB.blk.free p
      have hB' := hB.store p (48 + u % 10)
      have hN' : Below w.heap.size w (wr.setCell ⟨w.heap.size, p, none⟩ (.int .u8 (48 + u % 10))) := hN.setCell (Nat.le_refl _) _
      have hl' : Hid ((ys.set p (48 + u % 10)).length = n) := by show _ = _; rw [List.length_set]; exact hl.out
      have hu' : Hid (u / 10 = v / 10 ^ (k + 1)) := by show _ = _; rw [hu.out, Int.pow_succ, Int.ediv_ediv_of_nonneg (Int.le_of_lt (p10_pos _))]
      have hT' : Hid (∀ m, n - (k + 1) ≤ m → m < n → (ys.set p (48 + u % 10)).getD m 0 = (dgs n v).getD m 0) := by
        intro m a b
        by_cases e : p = m
        · subst e
          rw [getD_set_self _ _ _ hlp, dgs_get _ _ _ b, show n - 1 - p = k by omega, ← hu.out]
        · rw [getD_set_ne _ _ _ _ e]
          exact hT.out m (by omega) b
      have pn : (p : Int) < (n : Int) := by omega
      have m0 : 0 ≤ u % 10 ∧ u % 10 < 10 := by omega
      have HP := hide hp
      clear hB hN hT hl hlp hj hu hp
      go_wp2
      go_roundw
      case rel => exact ⟨k + 1, u / 10, (p : Int) - 1, _, by omega, by go_num, by go_num, by show _ = _; have := HP.out; omega, by omega, by omega, hu', hl', hT', hB', hN'⟩
      case measure => simp [intOf]
    · obtain rfl : k = n := by omega
      obtain rfl : j = -1 := by have := hj.out; omega
      have K : Hid (ys = dgs k v) := eq_of_getD (by rw [hl.out, dgs_len]) (fun i hi => hT.out i (by omega) (by rw [← hl.out]; exact hi))
      have RW := hB.row (base := w.heap.size) (Nat.le_refl _) (by rw [hl.out]; omega)
      rw [hl.out] at RW
      rw [K.out] at RW
      clear hT hj hu hB
      go_wp2
      go_ret
      exact ⟨⟨_, rfl, RW⟩, hN⟩

/-- The parts one behind the other are the digits of all. -/
theorem dgs_parts {y : Int} {k : Nat} {x t : Int} (hk : k < 12) (x0 : 0 ≤ x) (x1 : x < 31) : dgs 4 y ++ dgs 2 ((k : Int) + 1) ++ dgs 2 (x + 1) ++ dgs 2 (t % 86400 / 3600) ++ dgs 2 (t % 3600 / 60) ++ dgs 2 (t % 60) = dgs 14 (pts y k x (t % 86400)) := by
  have e1 : t % 3600 / 60 = t % 86400 / 60 % 60 := by omega
  have e2 : t % 60 = t % 86400 % 60 := by omega
  rw [e1, e2]
  generalize hs : t % 86400 = s
  have s0 : 0 ≤ s ∧ s < 86400 := by omega
  rw [dgs_app 4 2 _ _ (by omega) (by omega), dgs_app 6 2 _ _ (by omega) (by omega), dgs_app 8 2 _ _ (by omega) (by omega), dgs_app 10 2 _ _ (by omega) (by omega), dgs_app 12 2 _ _ (by omega) (by omega)]
  rfl

set_option maxHeartbeats 2000000 in
theorem specEncodeTime_row (w : World) (t : Int) (L : List Int) (hL : EtIs t L) :
    Calls Tryd.prog 6 #[.int .i64 t] w fun e w' => (∃ r, e = .returned r ∧ RowB w' w.heap.size r L) ∧ Below w.heap.size w w' := by
  obtain ⟨i0, hi, hz0, hz1, hz2⟩ := info_parts Tryd.info5
  rcases hL with ⟨ht, y, k, x, hd, rfl⟩ | ⟨ht, rfl⟩
  · have ta : 0 ≤ t := ht.1
    have t0 : decide (t < 0) = false := by simp; omega
    have t1 : decide (253402300799 < t) = false := by simp; omega
    have HT := hide ht
    have HD := hide hd
    have YD := fun y h => hide (l10YearDays_any w y h)
    have MD := fun y k h hk => hide (l10MonthDays_any w y k h hk)
    obtain ⟨d, hdd⟩ : ∃ d, t / 86400 = d := ⟨_, rfl⟩
    rw [hdd] at HD
    have d0 : 0 ≤ t / 86400 ∧ t / 86400 ≤ 2932896 := by omega
    have HDD := hide hdd
    clear hd ht hdd
    go_enter Tryd.func6, Tryd.ntmps6
    go_wp2
    go_loop [3, 4] (fun u v => ∃ (r z : Int), u = .int .i64 r ∧ v = .int .i64 z ∧ 0 ≤ r ∧ r ≤ 2932896 ∧ 1970 ≤ z ∧ z ≤ 20000 ∧ Hid (d = dyA z + r)) (fun u _ => (intOf u).toNat)
    case atStart => exact ⟨t / 86400, 1970, rfl, rfl, by omega, by omega, by omega, by omega, by show d = 0 + t / 86400; rw [HDD.out]; omega⟩
    case round =>
      obtain ⟨r, z, rfl, rfl, r0, r1, z0, z1, hz⟩ := hrel
      have yd := YD z (by omega)
      have yb := ydI_bd z
      have st := dyA_step z
      have gz := dyA_ge (z + 1) (by omega)
      by_cases c : ydI z ≤ r
      · have t2 : decide (ydI z ≤ r) = true := decide_eq_true c
        have nz : Hid (d = dyA (z + 1) + (r - ydI z)) := by show _ = _; have := hz.out; omega
        have z2 : z + 1 ≤ 20000 := by have := nz.out; have := HDD.out; omega
        clear st gz hz
        generalize ydI z = yz at *
        go_wp2_with fail
        refine yd.out.mono ?_
        rintro e w1 ⟨rfl, h⟩
        have h := h.symm
        subst h
        go_wp2_with fail
        refine yd.out.mono ?_
        rintro e w1 ⟨rfl, h⟩
        have h := h.symm
        subst h
        go_wp2
        go_round
        case rel => exact ⟨r - yz, z + 1, by go_num, by go_num, by omega, by omega, by omega, z2, nz⟩
        case measure => simp [intOf]; omega
      · have t2 : decide (ydI z ≤ r) = false := decide_eq_false c
        have rs : Hid (r < mdS z 12) := by show r < _; rw [mdS_all]; omega
        clear st gz
        generalize ydI z = yz at *
        go_wp2_with fail
        refine yd.out.mono ?_
        rintro e w1 ⟨rfl, h⟩
        have h := h.symm
        subst h
        clear YD yd yb
        go_wp2
        go_loop [3, 5] (fun u v => ∃ (m : Nat) (q : Int), m < 12 ∧ u = .int .i64 q ∧ v = .int .i64 ((m : Int) + 1) ∧ 0 ≤ q ∧ q ≤ 2932896 ∧ Hid (r = mdS z m + q)) (fun _ v => (12 - intOf v).toNat)
        case atStart => exact ⟨0, r, by omega, rfl, by go_num, r0, r1, by show r = 0 + r; omega⟩
        case round =>
          obtain ⟨m, q, hm, rfl, rfl, q0, q1, hq⟩ := hrel
          have md := MD z m (by omega) hm
          have mb := mdI_bd z ((m : Int) + 1)
          have sk : Hid (mdS z (m + 1) = mdS z m + mdI z ((m : Int) + 1)) := rfl
          by_cases c : mdI z ((m : Int) + 1) ≤ q
          · have t2 : decide (mdI z ((m : Int) + 1) ≤ q) = true := decide_eq_true c
            have m11 : m < 11 := by
              by_cases e : m < 11
              · exact e
              · obtain rfl : m = 11 := by omega
                have a := rs.out
                have b := hq.out
                have s2 : mdS z 12 = mdS z 11 + mdI z ((11 : Nat) + 1) := rfl
                omega
            have nx : Hid (r = mdS z (m + 1) + (q - mdI z ((m : Int) + 1))) := by show _ = _; have := hq.out; have := sk.out; omega
            clear hq sk
            generalize mdI z ((m : Int) + 1) = mz at *
            go_wp2_with fail
            refine md.out.mono ?_
            rintro e w1 ⟨rfl, h⟩
            have h := h.symm
            subst h
            go_wp2_with fail
            refine md.out.mono ?_
            rintro e w1 ⟨rfl, h⟩
            have h := h.symm
            subst h
            go_wp2
            go_round
            case rel => exact ⟨m + 1, q - mz, by omega, by go_num, by go_num, by omega, by omega, nx⟩
            case measure => simp [intOf]; omega
          · have t2 : decide (mdI z ((m : Int) + 1) ≤ q) = false := decide_eq_false c
            have FD : IsDay d z m q := ⟨z0, hm, q0, by omega, by have := hz.out; have := hq.out; omega⟩
            obtain ⟨rfl, rfl, rfl⟩ := HD.out.uniq FD
            have y9 := IsDay.year_le (t := t) (by rw [HDD.out]; exact FD) HT.out.2
            have DP := hide (dgs_parts (y := y) (t := t) hm q0 (by omega))
            have q31 : x < 31 := by omega
            clear FD hz hq sk mb c rs MD HD
            generalize mdI y ((k : Int) + 1) = mz at *
            go_wp2_with fail
            refine md.out.mono ?_
            rintro e w1 ⟨rfl, h⟩
            have h := h.symm
            subst h
            have D4 : Hid (∀ W v, 0 ≤ v → v < 10000 → Calls Tryd.prog 21 #[.int .i64 v, .int .i64 4] W fun e w' => (∃ r, e = .returned r ∧ RowB w' W.heap.size r (dgs 4 v)) ∧ Below W.heap.size W w') := fun W v a b => l10Digits_any W v 4 a (by omega) (by omega) (by omega)
            have D2 : Hid (∀ W v, 0 ≤ v → v < 100 → Calls Tryd.prog 21 #[.int .i64 v, .int .i64 2] W fun e w' => (∃ r, e = .returned r ∧ RowB w' W.heap.size r (dgs 2 v)) ∧ Below W.heap.size W w') := fun W v a b => l10Digits_any W v 2 a (by omega) (by omega) (by omega)
            clear md
            go_wp2_with fail
            refine (D4.out w y (by omega) (by omega)).mono ?_
            rintro e w1 ⟨⟨r1, rfl, o1⟩, n1⟩
            have N := n1
            have AL : Hid ((dgs 4 y).length ≤ 4) := Nat.le_of_eq (dgs_len 4 y)
            obtain ⟨A, hA⟩ : ∃ A, A = dgs 4 y := ⟨_, rfl⟩
            rw [← hA] at o1 AL
            have HA := hide hA
            clear hA n1
            go_wp2_with fail
            refine (D2.out w1 ((k : Int) + 1) (by omega) (by omega)).mono ?_
            rintro e x2 ⟨⟨s2, rfl, q2⟩, m2⟩
            obtain ⟨a2, c2, g2, rfl, d2, p2, -, -⟩ := q2.rd
            have M2 := nxt N m2
            have L2 := hide (dgs_len 2 ((k : Int) + 1))
            obtain ⟨r2, w2, hap2, o2, n2⟩ := append_any (P := Tryd.prog) x2 22 i0 Tryd.underlying22 hi hz0 hz1 hz2 w.heap.size w.heap.size _ _ (o1.up m2) g2 a2 c2 _ d2 p2 (by have := AL.out; rw [L2.out]; omega) (Nat.le_refl _) M2.size
            have N := M2.trans n2
            have AL2 : Hid ((A ++ dgs 2 ((k : Int) + 1)).length ≤ 6) := by show _ ≤ _; rw [List.length_append, L2.out]; have := AL.out; omega
            clear o1 q2 m2 M2 n2 d2
            generalize (dgs 2 ((k : Int) + 1)).length = l2 at hap2 ⊢
            go_wp2_with (at_builtin; refine Lib.wpList_append_run _ rfl _ _ 22 22 rfl _ _ rfl rfl _ _ hap2 ?_)
            clear hap2
            obtain ⟨A2, hA2⟩ : ∃ B, B = A ++ dgs 2 ((k : Int) + 1) := ⟨_, rfl⟩
            rw [← hA2] at o2 AL2
            have HA2 := hide hA2
            clear hA2
            go_wp2_with fail
            refine (D2.out w2 (x + 1) (by omega) (by omega)).mono ?_
            rintro e x3 ⟨⟨s3, rfl, q3⟩, m3⟩
            obtain ⟨a3, c3, g3, rfl, d3, p3, -, -⟩ := q3.rd
            have M3 := nxt N m3
            have L3 := hide (dgs_len 2 (x + 1))
            obtain ⟨r3, w3, hap3, o3, n3⟩ := append_any (P := Tryd.prog) x3 22 i0 Tryd.underlying22 hi hz0 hz1 hz2 w.heap.size w.heap.size _ _ (o2.up m3) g3 a3 c3 _ d3 p3 (by have := AL2.out; rw [L3.out]; omega) (Nat.le_refl _) M3.size
            have N := M3.trans n3
            have AL23 : Hid ((A2 ++ dgs 2 (x + 1)).length ≤ 8) := by show _ ≤ _; rw [List.length_append, L3.out]; have := AL2.out; omega
            clear o2 q3 m3 M3 n3 d3
            generalize (dgs 2 (x + 1)).length = l3 at hap3 ⊢
            go_wp2_with (at_builtin; refine Lib.wpList_append_run _ rfl _ _ 22 22 rfl _ _ rfl rfl _ _ hap3 ?_)
            clear hap3
            obtain ⟨A3, hA3⟩ : ∃ B, B = A2 ++ dgs 2 (x + 1) := ⟨_, rfl⟩
            rw [← hA3] at o3 AL23
            have HA3 := hide hA3
            clear hA3
            go_wp2_with fail
            refine (D2.out w3 (t % 86400 / 3600) (by omega) (by omega)).mono ?_
            rintro e x4 ⟨⟨s4, rfl, q4⟩, m4⟩
            obtain ⟨a4, c4, g4, rfl, d4, p4, -, -⟩ := q4.rd
            have M4 := nxt N m4
            have L4 := hide (dgs_len 2 (t % 86400 / 3600))
            obtain ⟨r4, w4, hap4, o4, n4⟩ := append_any (P := Tryd.prog) x4 22 i0 Tryd.underlying22 hi hz0 hz1 hz2 w.heap.size w.heap.size _ _ (o3.up m4) g4 a4 c4 _ d4 p4 (by have := AL23.out; rw [L4.out]; omega) (Nat.le_refl _) M4.size
            have N := M4.trans n4
            have AL234 : Hid ((A3 ++ dgs 2 (t % 86400 / 3600)).length ≤ 10) := by show _ ≤ _; rw [List.length_append, L4.out]; have := AL23.out; omega
            clear o3 q4 m4 M4 n4 d4
            generalize (dgs 2 (t % 86400 / 3600)).length = l4 at hap4 ⊢
            go_wp2_with (at_builtin; refine Lib.wpList_append_run _ rfl _ _ 22 22 rfl _ _ rfl rfl _ _ hap4 ?_)
            clear hap4
            obtain ⟨A4, hA4⟩ : ∃ B, B = A3 ++ dgs 2 (t % 86400 / 3600) := ⟨_, rfl⟩
            rw [← hA4] at o4 AL234
            have HA4 := hide hA4
            clear hA4
            go_wp2_with fail
            refine (D2.out w4 (t % 3600 / 60) (by omega) (by omega)).mono ?_
            rintro e x5 ⟨⟨s5, rfl, q5⟩, m5⟩
            obtain ⟨a5, c5, g5, rfl, d5, p5, -, -⟩ := q5.rd
            have M5 := nxt N m5
            have L5 := hide (dgs_len 2 (t % 3600 / 60))
            obtain ⟨r5, w5, hap5, o5, n5⟩ := append_any (P := Tryd.prog) x5 22 i0 Tryd.underlying22 hi hz0 hz1 hz2 w.heap.size w.heap.size _ _ (o4.up m5) g5 a5 c5 _ d5 p5 (by have := AL234.out; rw [L5.out]; omega) (Nat.le_refl _) M5.size
            have N := M5.trans n5
            have AL2345 : Hid ((A4 ++ dgs 2 (t % 3600 / 60)).length ≤ 12) := by show _ ≤ _; rw [List.length_append, L5.out]; have := AL234.out; omega
            clear o4 q5 m5 M5 n5 d5
            generalize (dgs 2 (t % 3600 / 60)).length = l5 at hap5 ⊢
            go_wp2_with (at_builtin; refine Lib.wpList_append_run _ rfl _ _ 22 22 rfl _ _ rfl rfl _ _ hap5 ?_)
            clear hap5
            obtain ⟨A5, hA5⟩ : ∃ B, B = A4 ++ dgs 2 (t % 3600 / 60) := ⟨_, rfl⟩
            rw [← hA5] at o5 AL2345
            have HA5 := hide hA5
            clear hA5
            go_wp2_with fail
            refine (D2.out w5 (t % 60) (by omega) (by omega)).mono ?_
            rintro e x6 ⟨⟨s6, rfl, q6⟩, m6⟩
            obtain ⟨a6, c6, g6, rfl, d6, p6, -, -⟩ := q6.rd
            have M6 := nxt N m6
            have L6 := hide (dgs_len 2 (t % 60))
            obtain ⟨r6, w6, hap6, o6, n6⟩ := append_any (P := Tryd.prog) x6 22 i0 Tryd.underlying22 hi hz0 hz1 hz2 w.heap.size w.heap.size _ _ (o5.up m6) g6 a6 c6 _ d6 p6 (by have := AL2345.out; rw [L6.out]; omega) (Nat.le_refl _) M6.size
            have N := M6.trans n6
            have AL23456 : Hid ((A5 ++ dgs 2 (t % 60)).length ≤ 14) := by show _ ≤ _; rw [List.length_append, L6.out]; have := AL2345.out; omega
            clear o5 q6 m6 M6 n6 d6
            generalize (dgs 2 (t % 60)).length = l6 at hap6 ⊢
            obtain ⟨A6, hA6⟩ : ∃ B, B = A5 ++ dgs 2 (t % 60) := ⟨_, rfl⟩
            rw [← hA6] at o6 AL23456
            have HA6 := hide hA6
            clear hA6
            have na : Below w6.heap.size w6 (w6.alloc (.cells #[.int .u8 90] 5)) := (Below.refl _ _).alloc (Nat.le_refl _) _
            have B1 : Blk (w6.alloc (.cells #[.int .u8 90] 5)) w6.heap.size .u8 [90] := blk_lit1 w6 .u8 5 90
            have Na := nxt N na
            obtain ⟨v9, w9, hap, o9, n9⟩ := append_any (P := Tryd.prog) (w6.alloc (.cells #[.int .u8 90] 5)) 22 i0 Tryd.underlying22 hi hz0 hz1 hz2 w.heap.size w.heap.size _ _ (o6.up na) _ _ 1 [90] B1.own0.rd (by simp) (by have := AL23456.out; simp; omega) (Nat.le_refl _) Na.size
            have N9 := Na.trans n9
            clear o6 na B1 Na n9
            go_wp2_with (at_builtin; first | (refine Lib.wpList_append_run _ rfl _ _ 22 22 rfl _ _ rfl rfl _ _ hap6 ?_) | (refine Lib.wpList_append_run _ rfl _ _ 22 22 rfl _ _ rfl rfl _ _ hap ?_))
            clear hap hap6
            have AE : A6 = dgs 14 (pts y k x (t % 86400)) := by rw [HA6.out, HA5.out, HA4.out, HA3.out, HA2.out, HA.out]; exact DP.out
            rw [AE] at o9
            clear AE
            go_wp2
            go_ret
            exact ⟨⟨_, rfl, o9⟩, N9⟩
  · have hal : Below w.heap.size w (w.alloc (.cells #[] 5)) := (Below.refl _ _).alloc (Nat.le_refl _) _
    by_cases c0 : t < 0
    · have t0 : decide (t < 0) = true := decide_eq_true c0
      go_enter Tryd.func6, Tryd.ntmps6
      go_wp2
      go_ret
      exact ⟨⟨_, rfl, RowB.lit0 w⟩, hal⟩
    · have t0 : decide (t < 0) = false := decide_eq_false c0
      have t1 : decide (253402300799 < t) = true := by simp; omega
      go_enter Tryd.func6, Tryd.ntmps6
      go_wp2
      go_ret
      exact ⟨⟨_, rfl, RowB.lit0 w⟩, hal⟩
theorem specEncodeTime_any (w : World) (t : Int) (L : List Int) (hL : EtIs t L) :
    Calls Tryd.prog 6 #[.int .i64 t] w fun e w' => NewRow w.heap.size w' e .u8 L ∧ Below w.heap.size w w' :=
  (specEncodeTime_row w t L hL).mono fun e w' ⟨⟨r, h, o⟩, n⟩ => by
    obtain ⟨aF, cF, gF, rfl, oF, pF, qF, rF⟩ := o.own
    subst h
    exact ⟨⟨aF, cF, gF, rfl, oF, pF, qF, rF⟩, n⟩
end Go.Proofs.YtakcpkfofgiehaaDoor
