import Derived.Test.YtkpomobhjkikeaaGreatDoorSS3
import Derived.Test.YtkpomobhjkikeaaGreatDoorSS6
import Derived.Test.YtkpomobhjkikeaaGreatDoorSS7
import Derived.Laws.AppendOwnNone
import Derived.Deep.MidRow
namespace Go.Proofs.YtkpomobhjkikeaaGreatDoor
set_option maxRecDepth 100000
open Go.RowKit
set_option maxRecDepth 100000 in
set_option maxHeartbeats 400000 in
theorem l1Copy_any (w : World) (g : Nat) (a : Option Addr) (cap : Nat) (xs : List Int) (hr : Rd w g a .u8 xs) (hc : a = none → cap = 0) (hn : xs.length ≤ 1048576) :
    Calls Tryz.prog 69 #[.slice a xs.length cap] w fun e w' => NewRow w.heap.size w' e .u8 xs ∧ Below w.heap.size w w' := by
  obtain ⟨i0, hi, hz0, hz1, hz2⟩ := info_parts Tryz.info5
  have hown : (w.alloc (.cells #[] 5)).ownsRow w.heap.size 5 1 (.slice (some ⟨w.heap.size, 0, none⟩) 0 0) 0 [] := World.ownsRow_lit w #[] 0 (Nat.le_refl _) (by unfold maxLen; omega) (by simp)
  have hal : Below w.heap.size w (w.alloc (.cells #[] 5)) := (Below.refl _ _).alloc (Nat.le_refl _) _
  cases a with
  | none =>
    obtain rfl : xs = [] := by
      by_cases h0 : 0 < xs.length
      · obtain ⟨off, h, _⟩ := hr h0
        simp at h
      · exact List.eq_nil_of_length_eq_zero (by omega)
    obtain rfl := hc rfl
    go_enter Tryz.func69, Tryz.ntmps69
    go_wp2_with (at_builtin; refine wpList_append_own_none rfl _ _ 22 rfl w.heap.size 5 i0 1 Tryz.underlying22 hi _ 0 [] rfl hown rfl ?_)
    go_ret
    exact ⟨⟨_, _, w.heap.size, rfl, Own.nil _ _ _ _, by simp, Nat.zero_le _, Nat.le_refl _⟩, hal⟩
  | some ad =>
    have hcell : ∀ j u, (xs.map (Value.int .u8))[j]? = some u → (w.alloc (.cells #[] 5)).cell? (ad.add j) = some u := by
      intro j u hj
      have hjl : j < xs.length := by
        have := (List.getElem?_eq_some_iff.1 hj).1
        simpa using this
      obtain ⟨off, ha, hcc⟩ := (hr.up hal) (by omega)
      simp only [Option.some.injEq] at ha
      subst ha
      rw [Addr.add_mid, hcc j hjl]
      simpa [hjl] using hj
    have hone : ∀ u ∈ xs.map (Value.int .u8), u.oneCell' = true := by
      intro u hu
      obtain ⟨x, _, rfl⟩ := List.mem_map.1 hu
      rfl
    go_enter Tryz.func69, Tryz.ntmps69
    go_wp2_with (at_builtin; refine wpList_append_own _ rfl _ _ 22 rfl w.heap.size 5 i0 (.int .u8 0) 1 1 Tryz.underlying22 hi hz0 hz1 hz2 rfl (by decide) (.slice (some ⟨w.heap.size, 0, none⟩) 0 0) 0 [] rfl hown ad xs.length cap (xs.map (Value.int .u8)) rfl (by simp) hcell hone (by unfold maxLen; omega) (by omega) (by simp) ?_; intro v' w1 hown' hgrow _)
    simp only [Nat.zero_add, List.nil_append] at hown'
    obtain ⟨a', c', g', rfl, h1, h2, h3, h4⟩ := Own.of_ownsRow hown'
    have hB : Below w.heap.size w w1 := hal.grown hgrow (by simp) (by intro k hk; simp [Value.ownBlock] at hk; omega)
    clear hown' hgrow hown
    go_wp2
    go_ret
    exact ⟨⟨_, _, g', rfl, h1, h2, h3, h4⟩, hB⟩
set_option maxRecDepth 100000 in
set_option maxHeartbeats 400000 in
theorem l1Trim_any (w : World) (g : Nat) (a : Option Addr) (cap : Nat) (xs : List Int) (hr : Rd w g a .u8 xs) (hb : Byt xs) (hc : a = none → cap = 0) (hcap : xs.length ≤ cap) (hn : xs.length ≤ 1048576) :
    Calls Tryz.prog 68 #[.slice a xs.length cap] w fun e w' => ∃ ys, Canon ys (bval xs) ∧ ys.length ≤ xs.length ∧ NewRow w.heap.size w' e .u8 ys ∧ Below w.heap.size w w' := by
  go_enter Tryz.func68, Tryz.ntmps68
  go_wp2
  go_loop [3] (fun i => ∃ k : Nat, k ≤ xs.length ∧ i = .int .i64 k ∧ ZeroTo xs k) (fun i => xs.length - (intOf i).toNat)
  case atStart => exact ⟨0, Nat.zero_le _, rfl, fun j hj => absurd hj (by omega)⟩
  case round =>
    obtain ⟨k, hk, rfl, hz⟩ := hrel
    by_cases hlt : k < xs.length
    · obtain ⟨off, rfl, hcc⟩ := hr (by omega)
      have hcx := hcc k hlt
      have R := hz.step
      obtain ⟨x, hx⟩ : ∃ x, x = xs.getD k 0 := ⟨_, rfl⟩
      rw [← hx] at hcx R
      have Hx : Hid (x = xs.getD k 0) := hx
      clear hx
      by_cases h0 : x = 0
      · have R' := R h0
        subst h0
        clear R hcc Hx hz
        go_wp2
        go_round
        case rel => exact ⟨k + 1, by omega, by go_num, R'⟩
        case measure => simp [intOf]; omega
      · have h1 : (x == 0) = false := by simp [h0]
        have C := hz.canon hb (fun _ => by rw [← Hx.out]; exact h0)
        have hr' : Rd w g (some ⟨g, off + k, none⟩) .u8 (xs.drop k) := by
          intro _
          refine ⟨off + k, rfl, fun i hi => ?_⟩
          rw [List.length_drop] at hi
          rw [Nat.add_assoc, hcc (k + i) (by omega)]
          simp [List.getElem?_drop]
        have K := l1Copy_any w g (some ⟨g, off + k, none⟩) (cap - k) (xs.drop k) hr' (by simp) (by rw [List.length_drop]; omega)
        rw [List.length_drop] at K
        have HK := hide K
        clear R hcc Hx hz K
        go_wp2_with fail
        refine (unhide HK).mono ?_
        rintro e w1 ⟨⟨a1, c1, g1, rfl, o1, q1, q2, q3⟩, n1⟩
        go_wp2
        go_ret
        exact ⟨_, C, by rw [List.length_drop]; omega, ⟨_, _, _, ret_slice (List.length_drop).symm, o1, q1, q2, q3⟩, n1⟩
    · obtain rfl : k = xs.length := by omega
      have C := hz.canon hb (fun h => absurd h (by omega))
      rw [List.drop_length] at C
      go_wp2_with fail
      · have K := l1Copy_any w 0 a 0 [] (Rd.nil _ _ _ _) (fun _ => rfl) (by simp)
        refine K.mono ?_
        rintro e w1 ⟨⟨a1, c1, g1, rfl, o1, q1, q2, q3⟩, n1⟩
        go_wp2
        go_ret
        exact ⟨_, C, Nat.zero_le _, ⟨_, _, _, rfl, o1, q1, q2, q3⟩, n1⟩
      · have K := l1Copy_any w 0 (Option.map (fun x => x.add xs.length) a) (cap - xs.length) [] (Rd.nil _ _ _ _) (fun h => by simp at h; rw [hc h]; omega) (by simp)
        refine K.mono ?_
        rintro e w1 ⟨⟨a1, c1, g1, rfl, o1, q1, q2, q3⟩, n1⟩
        go_wp2
        go_ret
        exact ⟨_, C, Nat.zero_le _, ⟨_, _, _, rfl, o1, q1, q2, q3⟩, n1⟩
set_option maxRecDepth 100000 in
set_option maxHeartbeats 2000000 in
theorem l1Add_any (w : World) (g g' : Nat) (a b : Option Addr) (ca cb : Nat) (xs us : List Int) (ha : Rd w g a .u8 xs) (hb : Rd w g' b .u8 us) (hx : Byt xs) (hu : Byt us)
    (hn : xs.length ≤ 4096) (hm : us.length ≤ 4096) :
    Calls Tryz.prog 51 #[.slice a xs.length ca, .slice b us.length cb] w fun e w' => ∃ ys, Canon ys (bval xs + bval us) ∧ NewRow w.heap.size w' e .u8 ys ∧ Below w.heap.size w w' := by
  obtain ⟨i0, hi, hz0, hz1, hz2⟩ := info_parts Tryz.info5
  by_cases hlen : xs.length < us.length
  · have t0 : decide ((xs.length : Int) < (us.length : Int)) = true := by simp; omega
    go_enter Tryz.func51, Tryz.ntmps51
    go_wp2_with (at_make; refine wpList_make_full _ rfl _ _ 22 rfl w.heap.size 5 i0 (.int .u8 0) 1 Tryz.underlying22 hi hz0 hz1 .i64 .i64 _ _ (us.length + 1) rfl rfl (by omega) (by omega) (by rw [hz2]; omega) (by unfold maxLen; omega) (Nat.le_refl _) ?_; intro w1 hown hgrow)
    have hB0 := Blk.of_made hown
    have hN0 : Below w.heap.size w w1 := (Below.refl _ _).grown hgrow (Nat.le_refl _) (by simp)
    clear hown hgrow
    go_loopw [7, 8] (fun q i wr => ∃ (k : Nat) (c : Int) (ys : List Int), k ≤ us.length + 1 ∧ i = .int .i64 k ∧ q = .int .i64 c ∧ (0 ≤ c ∧ c ≤ 1) ∧ (us.length < k → c = 0) ∧ AddTo xs us ys us.length k c ∧ Blk wr w.heap.size .u8 ys ∧ Below w.heap.size w wr) (fun _ i _ => us.length + 1 - (intOf i).toNat)
    case atStart => exact ⟨0, 0, _, Nat.zero_le _, rfl, rfl, ⟨by omega, by omega⟩, fun _ => rfl, ⟨by simp, byt_zeros _, ⟨by omega, by omega⟩, rfl⟩, hB0, hN0⟩
    case round =>
      obtain ⟨k, c, ys, hk, rfl, rfl, hc, hc0, hA, hB, hN⟩ := hrel
      by_cases hlt : k ≤ us.length
      · have R := hA.step hx hu hlt
        have hl : ys.length = us.length + 1 := hA.1
        have hcy : wr.cell? ⟨w.heap.size, us.length - k, none⟩ = some (.int .u8 (ys.getD (us.length - k) 0)) := hB.cell (by omega)
        have hfy := hB.free (us.length - k)
        have hB' := hB.store (us.length - k) ((dig xs k + dig us k + c) % 256)
        have hN' : Below w.heap.size w (wr.setCell ⟨w.heap.size, us.length - k, none⟩ (.int .u8 ((dig xs k + dig us k + c) % 256))) := hN.setCell (Nat.le_refl _) _
        have d1 := dig_byt hx k
        have d2 := dig_byt hu k
        have z1 : us.length < k + 1 → (dig xs k + dig us k + c) / 256 = 0 := fun h => by rw [dig_past xs k (by omega), dig_past us k (by omega)]; omega
        obtain ⟨p, hp⟩ : ∃ p : Nat, us.length - k = p := ⟨_, rfl⟩
        rw [hp] at hcy hfy hB' hN' R
        have p1 : (us.length : Int) - (k : Int) = (p : Int) := by omega
        have p2 : (p : Int) < (us.length : Int) + 1 := by omega
        have ha' := ha.up hN
        have hb' := hb.up hN
        clear hB hN hA hl hp hc0
        go_wp2_with fail
        refine (l1Digit_any wr g a ca xs _ ha' hx (by omega) (by omega) (by omega)).mono ?_
        rintro e w' ⟨rfl, rfl⟩
        rw [Int.toNat_natCast]
        go_wp2_with fail
        refine (l1Digit_any w' g' b cb us _ hb' hu (by omega) (by omega) (by omega)).mono ?_
        rintro e w'' ⟨rfl, rfl⟩
        rw [Int.toNat_natCast]
        generalize dig xs k = x at *
        generalize dig us k = y at *
        have m1 : (x + y + c) % 256 % 256 = (x + y + c) % 256 := by omega
        have R' := hide R
        have z1' := hide z1
        clear R z1
        go_wp2
        go_roundw
        case rel => exact ⟨k + 1, _, _, by omega, by go_num, rfl, ⟨by omega, by omega⟩, z1'.out, R'.out, hB', hN'⟩
        case measure => simp [intOf]; omega
      · obtain rfl : k = us.length + 1 := by omega
        have v := hA.done (Nat.le_of_lt_succ (by omega)) (Nat.le_of_lt_succ (by omega)) (hc0 (by omega))
        have hl : us.length + 1 = ys.length := hA.1.symm
        have V := hide v
        have L := hide hl
        have hyb := hA.2.1
        clear v hl hA hc0
        go_wp2_with fail
        rw [L.out]
        refine (l1Trim_any wr _ _ _ ys hB.own0.rd hyb (by simp) (Nat.le_refl _) (by rw [← L.out]; omega)).mono ?_
        rintro e w2 ⟨zs, C, _, ⟨a1, c1, g1, rfl, o1, q1, q2, q3⟩, n2⟩
        rw [V.out] at C
        go_wp2
        go_ret
        exact ⟨zs, C, ⟨_, _, _, rfl, o1, q1, q2, by have := hN.size; omega⟩, nxt hN n2⟩
  · have t0 : decide ((xs.length : Int) < (us.length : Int)) = false := by simp; omega
    go_enter Tryz.func51, Tryz.ntmps51
    go_wp2_with (at_make; refine wpList_make_full _ rfl _ _ 22 rfl w.heap.size 5 i0 (.int .u8 0) 1 Tryz.underlying22 hi hz0 hz1 .i64 .i64 _ _ (xs.length + 1) rfl rfl (by omega) (by omega) (by rw [hz2]; omega) (by unfold maxLen; omega) (Nat.le_refl _) ?_; intro w1 hown hgrow)
    have hB0 := Blk.of_made hown
    have hN0 : Below w.heap.size w w1 := (Below.refl _ _).grown hgrow (Nat.le_refl _) (by simp)
    clear hown hgrow
    go_loopw [7, 8] (fun q i wr => ∃ (k : Nat) (c : Int) (ys : List Int), k ≤ xs.length + 1 ∧ i = .int .i64 k ∧ q = .int .i64 c ∧ (0 ≤ c ∧ c ≤ 1) ∧ (xs.length < k → c = 0) ∧ AddTo xs us ys xs.length k c ∧ Blk wr w.heap.size .u8 ys ∧ Below w.heap.size w wr) (fun _ i _ => xs.length + 1 - (intOf i).toNat)
    case atStart => exact ⟨0, 0, _, Nat.zero_le _, rfl, rfl, ⟨by omega, by omega⟩, fun _ => rfl, ⟨by simp, byt_zeros _, ⟨by omega, by omega⟩, rfl⟩, hB0, hN0⟩
    case round =>
      obtain ⟨k, c, ys, hk, rfl, rfl, hc, hc0, hA, hB, hN⟩ := hrel
      by_cases hlt : k ≤ xs.length
      · have R := hA.step hx hu hlt
        have hl : ys.length = xs.length + 1 := hA.1
        have hcy : wr.cell? ⟨w.heap.size, xs.length - k, none⟩ = some (.int .u8 (ys.getD (xs.length - k) 0)) := hB.cell (by omega)
        have hfy := hB.free (xs.length - k)
        have hB' := hB.store (xs.length - k) ((dig xs k + dig us k + c) % 256)
        have hN' : Below w.heap.size w (wr.setCell ⟨w.heap.size, xs.length - k, none⟩ (.int .u8 ((dig xs k + dig us k + c) % 256))) := hN.setCell (Nat.le_refl _) _
        have d1 := dig_byt hx k
        have d2 := dig_byt hu k
        have z1 : xs.length < k + 1 → (dig xs k + dig us k + c) / 256 = 0 := fun h => by rw [dig_past xs k (by omega), dig_past us k (by omega)]; omega
        obtain ⟨p, hp⟩ : ∃ p : Nat, xs.length - k = p := ⟨_, rfl⟩
        rw [hp] at hcy hfy hB' hN' R
        have p1 : (xs.length : Int) - (k : Int) = (p : Int) := by omega
        have p2 : (p : Int) < (xs.length : Int) + 1 := by omega
        have ha' := ha.up hN
        have hb' := hb.up hN
        clear hB hN hA hl hp hc0
        go_wp2_with fail
        refine (l1Digit_any wr g a ca xs _ ha' hx (by omega) (by omega) (by omega)).mono ?_
        rintro e w' ⟨rfl, rfl⟩
        rw [Int.toNat_natCast]
        go_wp2_with fail
        refine (l1Digit_any w' g' b cb us _ hb' hu (by omega) (by omega) (by omega)).mono ?_
        rintro e w'' ⟨rfl, rfl⟩
        rw [Int.toNat_natCast]
        generalize dig xs k = x at *
        generalize dig us k = y at *
        have m1 : (x + y + c) % 256 % 256 = (x + y + c) % 256 := by omega
        have R' := hide R
        have z1' := hide z1
        clear R z1
        go_wp2
        go_roundw
        case rel => exact ⟨k + 1, _, _, by omega, by go_num, rfl, ⟨by omega, by omega⟩, z1'.out, R'.out, hB', hN'⟩
        case measure => simp [intOf]; omega
      · obtain rfl : k = xs.length + 1 := by omega
        have v := hA.done (Nat.le_of_lt_succ (by omega)) (Nat.le_of_lt_succ (by omega)) (hc0 (by omega))
        have hl : xs.length + 1 = ys.length := hA.1.symm
        have V := hide v
        have L := hide hl
        have hyb := hA.2.1
        clear v hl hA hc0
        go_wp2_with fail
        rw [L.out]
        refine (l1Trim_any wr _ _ _ ys hB.own0.rd hyb (by simp) (Nat.le_refl _) (by rw [← L.out]; omega)).mono ?_
        rintro e w2 ⟨zs, C, _, ⟨a1, c1, g1, rfl, o1, q1, q2, q3⟩, n2⟩
        rw [V.out] at C
        go_wp2
        go_ret
        exact ⟨zs, C, ⟨_, _, _, rfl, o1, q1, q2, by have := hN.size; omega⟩, nxt hN n2⟩
set_option maxRecDepth 100000 in
set_option maxHeartbeats 1000000 in
theorem l1Little_any (w : World) (g : Nat) (a : Option Addr) (cap : Nat) (xs : List Int) (n : Nat) (hr : Rd w g a .u8 xs) (hb : Byt xs) (hn : xs.length ≤ 1048576) (hm : n ≤ 1048576) :
    Calls Tryz.prog 48 #[.slice a xs.length cap, .int .i64 n] w fun e w' => e = .returned (.slice (some ⟨w.heap.size, 0, none⟩) n n) ∧ Blk w' w.heap.size .u8 (fill (dig xs) n) ∧ Below w.heap.size w w' := by
  obtain ⟨i0, hi, hz0, hz1, hz2⟩ := info_parts Tryz.info5
  go_enter Tryz.func48, Tryz.ntmps48
  go_wp2_with (at_make; refine wpList_make_full _ rfl _ _ 22 rfl w.heap.size 5 i0 (.int .u8 0) 1 Tryz.underlying22 hi hz0 hz1 .i64 .i64 _ _ n rfl rfl rfl rfl (by rw [hz2]; omega) (by unfold maxLen; omega) (Nat.le_refl _) ?_; intro w1 hown hgrow)
  have hB0 := Blk.of_made hown
  have hN0 : Below w.heap.size w w1 := (Below.refl _ _).grown hgrow (Nat.le_refl _) (by simp)
  clear hown hgrow
  go_loopw [6] (fun i wr => ∃ (k : Nat) (ys : List Int), k ≤ n ∧ i = .int .i64 k ∧ FillTo (dig xs) ys n k ∧ Blk wr w.heap.size .u8 ys ∧ Below w.heap.size w wr) (fun i _ => n - (intOf i).toNat)
  case atStart => exact ⟨0, _, Nat.zero_le _, rfl, ⟨by simp, fun j h => absurd h (by omega)⟩, hB0, hN0⟩
  case round =>
    obtain ⟨k, ys, hk, rfl, hcp, hB, hN⟩ := hrel
    by_cases hlt : k < n
    · have R := hcp.step hlt
      have hcy : wr.cell? ⟨w.heap.size, k, none⟩ = some (.int .u8 (ys.getD k 0)) := hB.cell (by rw [hcp.1]; exact hlt)
      have hfy := hB.free k
      have hB' := hB.store k (dig xs k)
      have hN' : Below w.heap.size w (wr.setCell ⟨w.heap.size, k, none⟩ (.int .u8 (dig xs k))) := hN.setCell (Nat.le_refl _) _
      have hr' := hr.up hN
      have hd := dig_byt hb k
      have hd' : dig xs k % 256 = dig xs k := by omega
      clear hB hN hcp
      go_wp2_with fail
      refine (l1Digit_any wr g a cap xs _ hr' hb hn (by omega) (by omega)).mono ?_
      rintro e w' ⟨rfl, rfl⟩
      rw [Int.toNat_natCast]
      generalize dig xs k = x at *
      go_wp2
      go_roundw
      case rel => exact ⟨k + 1, _, by omega, by go_num, R, hB', hN'⟩
      case measure => simp [intOf]; omega
    · obtain rfl : k = n := by omega
      go_wp2
      go_ret
      refine ⟨rfl, ?_, hN⟩
      rw [← hcp.all]
      exact hB
end Go.Proofs.YtkpomobhjkikeaaGreatDoor
