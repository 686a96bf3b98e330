
/-
  The program's EncodeTime.
-/
import Derived.Test.YtakcpkfofgiehaaDoorTmB
import Derived.Test.YtakcpkfofgiehaaDoorAiL
import Derived.Test.YtakcpkfofgiehaaDoorApd
import Derived.Lib.ItoaLen
namespace Go.Proofs.YtakcpkfofgiehaaDoor
set_option maxRecDepth 100000
open Go Go.RowKit

/-- A number of n digits in decimal. -/
theorem itoa_dgs (n : Nat) (v : Int) (h0 : 10 ^ n ≤ v) (h1 : v < 10 ^ (n + 1)) : Lib.byteCells (Lib.itoa v) = (dgs (n + 1) v).map (Value.int .u8) := by
  have p := p10_pos n
  obtain ⟨u, rfl⟩ := Int.eq_ofNat_of_zero_le (show 0 ≤ v by omega)
  have e : Lib.itoa (u : Int) = Lib.decDigits u := by
    unfold Lib.itoa
    rw [if_neg (by omega), Int.toNat_natCast]
  have hn : Lib.nDigits u = n + 1 := Lib.nDigits_unique n u (by exact_mod_cast h0) (by exact_mod_cast h1)
  rw [e, Lib.decDigits_eq, hn]
  unfold Lib.byteCells dgs fill
  rw [List.map_map, List.map_map]
  refine List.map_congr_left fun t ht => ?_
  show Value.int .u8 ((Lib.dg u (n + 1 - 1 - t)).toNat : Int) = Value.int .u8 (48 + (u : Int) / 10 ^ (n + 1 - 1 - t) % 10)
  unfold Lib.dg
  congr 1
  have q : (48 + u / 10 ^ (n + 1 - 1 - t) % 10) < 256 := by omega
  rw [UInt8.toNat_ofNat', Nat.mod_eq_of_lt q]
  exact_mod_cast rfl
theorem itoa_len (n : Nat) (v : Int) (h0 : 10 ^ n ≤ v) (h1 : v < 10 ^ (n + 1)) : (Lib.itoa v).length = n + 1 := by
  have := congrArg List.length (itoa_dgs n v h0 h1)
  rw [List.length_map, dgs_len] at this
  unfold Lib.byteCells at this
  rwa [List.length_map] at this
def HasP (w : World) : Prop := Lib.TabIs Tryd.prog w "internal/strconv.uint64pow10" .u64 Lib.pow10Tab
theorem HasP.up {w w' : World} (h : HasP w) (n : Below w.heap.size w w') : HasP w' := Lib.tabBelow_of_tabIs h w' n
/-- AppendInt to nothing. -/
theorem appendInt_any (w : World) (hP : HasP w) (n : Nat) (v : Int) (h0 : 10 ^ n ≤ v) (h1 : v < 10 ^ (n + 1)) (hv : v ≤ 9223372036854775807) :
    Calls Tryd.prog 23 #[.slice none 0 0, .int .i64 v, .int .i64 10] w fun e w' => ∃ r, e = .returned r ∧ RowB w' w.heap.size r (dgs (n + 1) v) ∧ Below w.heap.size w w' := by
  have p := p10_pos n
  refine (Tryd.strconv_AppendInt_10 w.heap.size 0 v (by omega) hv (.slice none 0 0) [] w (World.ownsRow_nil _ _ _ _) (Nat.le_refl _) (by decide) (Lib.tabBelow_of_tabIs hP)).mono ?_
  rintro e w' ⟨r, rfl, o, b, _⟩
  refine ⟨r, rfl, ?_, b⟩
  show w'.ownsRow w.heap.size 5 1 r (dgs (n + 1) v).length ((dgs (n + 1) v).map (Value.int .u8))
  rw [itoa_dgs n v h0 h1, itoa_len n v h0 h1, Nat.zero_add, List.nil_append] at o
  rw [dgs_len]
  exact o
/-- The parts of a time behind the year. -/
def prt (k : Nat) (x s : Int) : Nat → Int
  | 0 => (k : Int) + 1
  | 1 => x + 1
  | 2 => s / 3600
  | 3 => s / 60 % 60
  | _ => s % 60
theorem idx5 (p0 p1 p2 p3 p4 : Int) (f : Nat → Int) (h0 : f 0 = p0) (h1 : f 1 = p1) (h2 : f 2 = p2) (h3 : f 3 = p3) (h4 : f 4 = p4) (j : Nat) (hj : j < 5) (W : World) :
    (Instr.index 40 (.agg #[.int .i64 p0, .int .i64 p1, .int .i64 p2, .int .i64 p3, .int .i64 p4]) (.int .i64 (j : Int))).run Tryd.prog W = .ok (.int .i64 (f j)) W := by
  subst h0 h1 h2 h3 h4
  obtain rfl | rfl | rfl | rfl | rfl : j = 0 ∨ j = 1 ∨ j = 2 ∨ j = 3 ∨ j = 4 := by omega
  all_goals kernel_rfl
def pdN (y : Int) (f : Nat → Int) : Nat → Int
  | 0 => y
  | j + 1 => 100 * pdN y f j + f j
theorem pdN_pts (y : Int) (k : Nat) (x s : Int) : pdN y (prt k x s) 5 = pts y k x s := by
  unfold pts
  simp only [pdN, prt]
  omega
theorem pdN_bd {y : Int} {f : Nat → Int} (hy : 0 ≤ y ∧ y ≤ 9999) (hf : ∀ j, 0 ≤ f j ∧ f j ≤ 99) : ∀ j, 0 ≤ pdN y f j ∧ pdN y f j < 10 ^ (4 + 2 * j)
  | 0 => by simp only [pdN]; omega
  | j + 1 => by
    have ih := pdN_bd hy hf j
    have := hf j
    simp only [pdN]
    rw [show 4 + 2 * (j + 1) = 4 + 2 * j + 2 by omega, Int.pow_add]
    generalize (10 : Int) ^ (4 + 2 * j) = q at *
    omega

theorem pts_bd {y : Int} {k : Nat} {x s : Int} (y0 : 1970 ≤ y) (y1 : y ≤ 9999) (hk : k < 12) (x0 : 0 ≤ x) (x1 : x < 31) (s0 : 0 ≤ s) (s1 : s < 86400) : 10 ^ 13 ≤ pts y k x s ∧ pts y k x s < 10 ^ (13 + 1) := by
  unfold pts
  omega

set_option maxHeartbeats 2000000 in
theorem implEncodeTime_any (w : World) (t : Int) (L : List Int) (hL : EtIs t L) (hM : HasM w) (hP : HasP w) :
    Calls Tryd.prog 7 #[.int .i64 t] w fun e w' => NewRow w.heap.size w' e .u8 L ∧ Below w.heap.size w w' := by
  obtain ⟨i0, hi, hz0, hz1, hz2⟩ := info_parts Tryd.info5
  rcases hL with ⟨ht, y, k, x, hd, rfl⟩ | ⟨ht, rfl⟩
  · have ta : 0 ≤ t := ht.1
    have t0 : decide (t < 0) = false := by simp; omega
    have t1 : decide (253402300799 < t) = false := by simp; omega
    have y1 := hd.year_le ht.2
    obtain ⟨y0, hk, x0, x1, -⟩ := id hd
    have mb := mdI_bd y ((k : Int) + 1)
    have DO := hide (dateOf_any w (t / 86400) hM (by omega) (by omega))
    have HD := hide hd
    obtain ⟨s, hs⟩ : ∃ s, t % 86400 = s := ⟨_, rfl⟩
    have s0 : 0 ≤ s ∧ s < 86400 := by omega
    rw [hs]
    have PB : ∀ j, 0 ≤ prt k x s j ∧ prt k x s j ≤ 99 := fun j => by
      match j with
      | 0 => simp only [prt]; omega
      | 1 => simp only [prt]; omega
      | 2 => simp only [prt]; omega
      | 3 => simp only [prt]; omega
      | j + 4 => simp only [prt]; omega
    have PD := fun j => hide (pdN_bd (y := y) (f := prt k x s) (by omega) PB j)
    have PE : Hid (pdN y (prt k x s) 5 = pts y k x s) := pdN_pts y k x s
    have PZ : Hid (pdN y (prt k x s) 0 = y) := rfl
    have PS := fun j => hide (show pdN y (prt k x s) (j + 1) = 100 * pdN y (prt k x s) j + prt k x s j from rfl)
    have PT := hide (pts_bd y0 y1 hk x0 (by omega) s0.1 s0.2)
    have IX := fun j hj => idx5 ((k : Int) + 1) (x + 1) (s / 3600) (s / 60 % 60) (s % 60) (prt k x s) rfl rfl rfl rfl rfl j hj
    have P5 : Hid (∀ j, j ≤ 5 → (10 : Int) ^ (4 + 2 * j) ≤ 100000000000000) := fun j hj => by
      have : (10 : Int) ^ (4 + 2 * j) ≤ 10 ^ 14 := by exact_mod_cast Nat.pow_le_pow_right (by decide) (by omega)
      simpa using this
    have AI := fun W h => hide (appendInt_any W h 13 (pts y k x s) PT.out.1 PT.out.2 (by have := PT.out.2; omega))
    clear hd
    go_enter Tryd.func7, Tryd.ntmps7
    go_wp2_with fail
    refine DO.out.mono ?_
    rintro e w1 ⟨y', k', x', hd', rfl, n1⟩
    obtain ⟨rfl, rfl, rfl⟩ := hd'.uniq HD.out
    have n2 : Below w1.heap.size w1 (w1.alloc (.cells #[.int .i64 y', .int .i64 ((k' : Int) + 1), .int .i64 (x' + 1)] 38)) := (Below.refl _ _).alloc (Nat.le_refl _) _
    have N2 := nxt n1 n2
    have P2 := hP.up N2
    clear hd' HD DO n2
    go_wp2
    generalize w1.alloc (.cells #[.int .i64 y', .int .i64 ((k' : Int) + 1), .int .i64 (x' + 1)] 38) = w2 at *
    generalize prt k' x' s = f at *
    generalize hpv : pts y' k' x' s = pv at *
    have HPV := hide hpv
    clear hpv
    go_loop [5, 33] (fun u v => ∃ j : Nat, j ≤ 5 ∧ u = .int .i64 (pdN y' f j) ∧ v = .int .i64 (j : Int)) (fun _ v => 5 - (intOf v).toNat)
    case atStart => exact ⟨0, by omega, by rw [PZ.out], rfl⟩
    case round =>
      obtain ⟨j, hj, rfl, rfl⟩ := hrel
      by_cases hlt : j < 5
      · have ix := IX j hlt
        have p1 := (PD j).out
        have p2 := (PD (j + 1)).out
        have p3 := P5.out (j + 1) (by omega)
        have p4 := P5.out j (by omega)
        have pb := PB j
        have ps := PS j
        have u0 : 0 ≤ 100 * pdN y' f j + f j ∧ 100 * pdN y' f j + f j ≤ 100000000000000 := by rw [← ps.out]; omega
        have u1 : 0 ≤ pdN y' f j ∧ pdN y' f j ≤ 100000000000000 := by omega
        clear p1 p2 p3 p4
        generalize hq : pdN y' f j = q at *
        have HQ := hide hq
        clear hq
        go_wp2
        go_round
        case rel => exact ⟨j + 1, by omega, by rw [ps.out], by go_num⟩
        case measure => simp [intOf]; omega
      · obtain rfl : j = 5 := by omega
        rw [PE.out]
        clear IX PB PD PS hlt
        go_wp2_with fail
        refine (AI w2 P2).out.mono ?_
        rintro e w3 ⟨r3, rfl, o3, n3⟩
        have N3 := nxt N2 n3
        have na : Below w3.heap.size w3 (w3.alloc (.cells #[.int .u8 90] 5)) := (Below.refl _ _).alloc (Nat.le_refl _) _
        have B1 : Blk (w3.alloc (.cells #[.int .u8 90] 5)) w3.heap.size .u8 [90] := blk_lit1 w3 .u8 5 90
        have z3 := N3.size
        obtain ⟨v4, w4, hap, o4, n4⟩ := append_any (P := Tryd.prog) (w3.alloc (.cells #[.int .u8 90] 5)) 22 i0 Tryd.underlying22 hi hz0 hz1 hz2 w2.heap.size w2.heap.size _ _ (o3.up na) _ _ 1 [90] B1.own0.rd (by simp) (by rw [dgs_len]; simp) (Nat.le_refl _) (by have := na.size; have := n3.size; omega)
        have N4 : Below w.heap.size w w4 := (nxt N3 na).trans (n4.mono N2.size)
        clear o3 na B1 n4 AI P2 n3
        go_wp2_with (at_builtin; refine Lib.wpList_append_run _ rfl _ _ 22 22 rfl _ _ rfl rfl _ _ hap ?_)
        clear hap
        obtain ⟨a5, c5, g5, rfl, o5, p5, q5, r5⟩ := o4.own
        have z2 := N2.size
        go_wp2
        go_ret
        exact ⟨by rw [HPV.out]; exact ⟨a5, c5, g5, rfl, o5, p5, q5, by omega⟩, N4⟩
  · by_cases c0 : t < 0
    · have t0 : decide (t < 0) = true := decide_eq_true c0
      go_enter Tryd.func7, Tryd.ntmps7
      go_wp2
      go_ret
      exact ⟨newRow_z _ _, Below.refl _ _⟩
    · have t0 : decide (t < 0) = false := decide_eq_false c0
      have t1 : decide (253402300799 < t) = true := by simp; omega
      go_enter Tryd.func7, Tryd.ntmps7
      go_wp2
      go_ret
      exact ⟨newRow_z _ _, Below.refl _ _⟩
end Go.Proofs.YtakcpkfofgiehaaDoor
