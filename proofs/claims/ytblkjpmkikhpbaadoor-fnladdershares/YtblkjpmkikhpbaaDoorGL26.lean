import Derived.Test.YtblkjpmkikhpbaaDoorGL4
import Derived.Test.YtblkjpmkikhpbaaDoorGL5
import Derived.Deep.RegionWith
import Derived.Deep.RegionHeld3
import Derived.Test.YtblkjpmkikhpbaaDoorGL25
import Derived.Lib.AppendZeros
import Derived.Laws.Strings
import Derived.Deep.WholeRow
import Derived.Test.YtblkjpmkikhpbaaDoorGL24

/-
  The model's product.
-/
namespace Go.Proofs.YtblkjpmkikhpbaaDoor
set_option maxRecDepth 100000
open Go.RowKit

theorem Tryd.info2 : (Tryd.prog.info? 2).map (fun i => (i.zero, i.size, i.bytes)) = some (some (.int .i64 0), 1, 8) := by kernel_rfl

set_option maxHeartbeats 4000000 in
theorem l1Mul_any (w : World) (g g' : Nat) (a b : Option Addr) (ca cb : Nat) (xs us : List Int) (ha : Rd w g a .u8 xs) (hb : Rd w g' b .u8 us) (hx : Byt xs) (hu : Byt us)
    (hn : xs.length ≤ 4096) (hm : us.length ≤ 4096) :
    Calls Tryd.prog 82 #[.slice a xs.length ca, .slice b us.length cb] w fun e w' => ∃ ys, Canon ys (bval xs * bval us) ∧ NewRow w.heap.size w' e .u8 ys ∧ Below w.heap.size w w' := by
  obtain ⟨i0, hi, hz0, hz1, hz2⟩ := info_parts Tryd.info5
  obtain ⟨j0, ji, jz0, jz1, jz2⟩ := info_parts Tryd.info2
  go_enter Tryd.func82, Tryd.ntmps82
  go_wp2_with (at_make; refine wpList_make_full _ rfl _ _ 112 rfl w.heap.size 2 j0 (.int .i64 0) 1 Tryd.underlying112 ji jz0 jz1 .i64 .i64 _ _ (xs.length + us.length + 1) rfl rfl (by omega) (by omega) (by rw [jz2]; omega) (by unfold maxLen; omega) (Nat.le_refl _) ?_; intro w1 hown hgrow)
  have hB0 := Blk.of_made hown
  have hN0 : Below w.heap.size w w1 := (Below.refl _ _).grown hgrow (Nat.le_refl _) (by simp)
  clear hown hgrow
  go_loopw [6] (fun i wr => ∃ (k : Nat) (cs : List Int), k ≤ xs.length ∧ i = .int .i64 k ∧ ColTo xs us cs (xs.length + us.length + 1) k 0 ∧ Blk wr w.heap.size .i64 cs ∧ Below w.heap.size w wr) (fun i _ => xs.length - (intOf i).toNat)
  case atStart => exact ⟨0, _, Nat.zero_le _, rfl, ColTo.zero xs us _, hB0, hN0⟩
  case round =>
    obtain ⟨k, cs, hk, rfl, hA, hB, hN⟩ := hrel
    by_cases hlt : k < xs.length
    · go_wp2
      go_loopw [7] (fun i wq => ∃ (j : Nat) (qs : List Int), j ≤ us.length ∧ i = .int .i64 j ∧ ColTo xs us qs (xs.length + us.length + 1) k j ∧ Blk wq w.heap.size .i64 qs ∧ Below w.heap.size w wq) (fun i _ => us.length - (intOf i).toNat)
      case atStart => exact ⟨0, cs, Nat.zero_le _, rfl, hA, hB, hN⟩
      case round =>
        obtain ⟨j, qs, hj', rfl, hA2, hB2, hN2⟩ := hrel
        by_cases hjl : j < us.length
        · have R := hA2.step hx hu (by omega)
          have hl := hA2.1
          have qb := hA2.2.1 (k + j)
          rw [if_neg (by omega)] at qb
          have c3 : wr.cell? ⟨w.heap.size, k + j, none⟩ = some (.int .i64 (qs.getD (k + j) 0)) := hB2.cell (by omega)
          have f3 := hB2.free (k + j)
          have S := hB2.store (k + j) (qs.getD (k + j) 0 + dig xs k * dig us j)
          have Sn : ∀ n v, Below w.heap.size w ((wr.drewN n).setCell ⟨w.heap.size, k + j, none⟩ v) := fun n v => (below_drewN hN2 n).setCell (Nat.le_refl _) v
          have d1 := dig_byt hx k
          have d2 := dig_byt hu j
          have u0 : 0 ≤ dig xs k * dig us j := Int.mul_nonneg d1.1 d2.1
          have u1 : dig xs k * dig us j ≤ 65025 := Int.le_trans (Int.mul_le_mul_of_nonneg_right d1.2 d2.1) (Int.mul_le_mul_of_nonneg_left d2.2 (by decide))
          have i1 : (k : Int) + (j : Int) < (xs.length : Int) + (us.length : Int) + 1 := by omega
          have i2 : ((k : Int) + (j : Int)).toNat = k + j := by omega
          have i5 : (0 : Int) ≤ (k : Int) + (j : Int) := by omega
          have i6 : (k : Int) + (j : Int) < ((xs.length + us.length + 1 : Nat) : Int) := by omega
          have ha' := fun n => ha.up (below_drewN hN2 n)
          have hb' := fun n => hb.up (below_drewN hN2 n)
          have L1 : ∀ W, (∃ n, W = wr.drewN n) → Calls Tryd.prog 64 #[.slice a xs.length ca, .int .i64 (k : Int)] W fun e w' => e = .returned (.int .i64 (dig xs k)) ∧ w' = W := by
            rintro W ⟨n, rfl⟩
            have := l1Digit_any (wr.drewN n) g a ca xs (k : Int) (ha' n) hx (by omega) (by omega) (by omega)
            rwa [Int.toNat_natCast] at this
          have L2 : ∀ W, (∃ n, W = wr.drewN n) → Calls Tryd.prog 64 #[.slice b us.length cb, .int .i64 (j : Int)] W fun e w' => e = .returned (.int .i64 (dig us j)) ∧ w' = W := by
            rintro W ⟨n, rfl⟩
            have := l1Digit_any (wr.drewN n) g' b cb us (j : Int) (hb' n) hu (by omega) (by omega) (by omega)
            rwa [Int.toNat_natCast] at this
          have e1 : IntKind.i64.wrap ((k : Int) + (j : Int)) = (k : Int) + (j : Int) := by rw [IntKind.wrap_i64]; omega
          have e2 : IntKind.i64.wrap (dig xs k * dig us j) = dig xs k * dig us j := by rw [IntKind.wrap_i64]; omega
          have e3 : IntKind.i64.wrap (qs.getD (k + j) 0 + dig xs k * dig us j) = qs.getD (k + j) 0 + dig xs k * dig us j := by rw [IntKind.wrap_i64]; omega
          have H1 := hide L1
          have H2 := hide L2
          have R' := hide R
          generalize dig xs k = x at *
          generalize dig us j = y at *
          generalize qs.getD (k + j) 0 = p at *
          clear hA hB hN hA2 hB2 hN2 L1 L2 ha' hb' hl R
          go_wp2
          go_region_with (first | (go_at_call_of 64 (Value.slice a xs.length ca); refine ((unhide H1) _ ?_).mono ?_; exact ⟨1, rfl⟩; rintro e w' ⟨rfl, rfl⟩) | (go_at_call_of 64 (Value.slice b us.length cb); refine ((unhide H2) _ ?_).mono ?_; exact ⟨1, rfl⟩; rintro e w' ⟨rfl, rfl⟩))
          all_goals
            clear e1 e2 e3
            go_wp2
            go_roundw
            case rel => exact ⟨j + 1, _, by omega, by go_num, R'.out, S, Sn 1 _⟩
            case measure => simp [intOf]; omega
        · obtain rfl : j = us.length := by omega
          have R' := hide hA2.row
          clear hA hB hN hA2
          go_wp2
          go_roundw
          case rel => exact ⟨k + 1, _, by omega, by go_num, R'.out, hB2, hN2⟩
          case measure => simp [intOf]; omega
    · obtain rfl : k = xs.length := by omega
      have hlt2 := hB.lt
      have hs := hN.size
      go_wp2_with (at_make; refine wpList_make_full _ rfl _ _ 22 rfl wr.heap.size 5 i0 (.int .u8 0) 1 Tryd.underlying22 hi hz0 hz1 .i64 .i64 _ _ (xs.length + us.length + 1) rfl rfl (by omega) (by omega) (by rw [hz2]; omega) (by unfold maxLen; omega) (Nat.le_refl _) ?_; intro w3 hown hgrow)
      have hB3 := Blk.of_made hown
      have hN3 : Below wr.heap.size wr w3 := (Below.refl _ _).grown hgrow (Nat.le_refl _) (by simp)
      have HC := hide hA
      have hcb := hA.2.1
      have hcl := hide hA.1
      clear hown hgrow hA
      obtain ⟨wv, rfl⟩ : ∃ wv, wv = wr := ⟨_, rfl⟩
      go_loopw [9, 10] (fun q i wq => ∃ (t : Nat) (c : Int) (ys : List Int), t ≤ xs.length + us.length + 1 ∧ i = .int .i64 t ∧ q = .int .i64 c ∧ (0 ≤ c ∧ c ≤ 1099511627776) ∧ OutTo cs ys (xs.length + us.length + 1) t c ∧ Blk wq wv.heap.size .u8 ys ∧ Below wv.heap.size wv wq) (fun _ i _ => xs.length + us.length + 1 - (intOf i).toNat)
      case atStart => exact ⟨0, 0, _, Nat.zero_le _, rfl, rfl, ⟨by omega, by omega⟩, ⟨by simp, byt_zeros _, rfl⟩, hB3, hN3⟩
      case round =>
        obtain ⟨t, c, ys, ht, rfl, rfl, hc, hO, hBq, hNq⟩ := hrel
        by_cases htl : t < xs.length + us.length + 1
        · have R := hide (hO.step htl)
          have hyl := hO.1
          have cb := hcb t
          have cb2 : cs.getD t 0 ≤ 266407425 := by
            have h2 := cb.2
            split at h2 <;> omega
          have cb1 := cb.1
          have c1 : wr.cell? ⟨w.heap.size, t, none⟩ = some (.int .i64 (cs.getD t 0)) := (hNq.cell (p := ⟨w.heap.size, t, none⟩) hlt2).trans (hB.cell (by rw [hcl.out]; exact htl))
          have c2 : wr.cell? ⟨wv.heap.size, xs.length + us.length + 1 - 1 - t, none⟩ = some (.int .u8 (ys.getD (xs.length + us.length + 1 - 1 - t) 0)) := hBq.cell (by omega)
          have f2 := hBq.free (xs.length + us.length + 1 - 1 - t)
          have S := hBq.store (xs.length + us.length + 1 - 1 - t) ((cs.getD t 0 + c) % 256)
          have Sn : Below wv.heap.size wv (wr.setCell ⟨wv.heap.size, xs.length + us.length + 1 - 1 - t, none⟩ (.int .u8 ((cs.getD t 0 + c) % 256))) := hNq.setCell (Nat.le_refl _) _
          obtain ⟨p, hp⟩ : ∃ p : Nat, xs.length + us.length + 1 - 1 - t = p := ⟨_, rfl⟩
          rw [hp] at c2 f2 S Sn R
          have p1 : (xs.length : Int) + (us.length : Int) + 1 - 1 - (t : Int) = (p : Int) := by omega
          have p1' : (xs.length : Int) + (us.length : Int) - (t : Int) = (p : Int) := by omega
          have p2 : (p : Int) < (xs.length : Int) + (us.length : Int) + 1 := by omega
          have i1 : (t : Int) < (xs.length : Int) + (us.length : Int) + 1 := by omega
          generalize cs.getD t 0 = x at *
          have m1 : (x + c) % 256 % 256 = (x + c) % 256 := by omega
          clear hB hN hO hBq hNq hp cb hcb hyl HC hcl
          go_wp2
          go_roundw
          case rel => exact ⟨t + 1, _, _, by omega, by go_num, rfl, ⟨by omega, by omega⟩, R.out, S, Sn⟩
          case measure => simp [intOf]; omega
        · obtain rfl : t = xs.length + us.length + 1 := by omega
          have V := hide (hO.done hc.1 HC.out hx hu)
          have L := hide hO.1
          have hyb := hO.2.1
          clear hO hB hcb hcl HC
          go_wp2_with fail
          rw [← L.out]
          refine (l1Trim_any wr _ _ _ ys hBq.own0.rd hyb (by simp) (Nat.le_refl _) (by rw [L.out]; omega)).mono ?_
          rintro e w4 ⟨zs, C, _, ⟨a1, c1, g1, rfl, o1, q1, q2, q3⟩, n4⟩
          rw [V.out] at C
          have sq := hNq.size
          have nn := nxt (nxt hN hNq) n4
          go_wp2
          go_ret
          exact ⟨zs, C, ⟨_, _, _, rfl, o1, q1, q2, by omega⟩, nn⟩

end Go.Proofs.YtblkjpmkikhpbaaDoor

/-
  Twice a number by the model's shift; thirty-two bytes of a list; two texts compared.
-/
namespace Go.Proofs.YtblkjpmkikhpbaaDoor
set_option maxRecDepth 100000
open Go.RowKit

theorem append_none (w : World) (ad : Addr) (n c : Nat) (h : n ≤ c) : (Builtin.append_ #[22, 3] 22 #[.slice (some ad) n c, .int .i64 0]).run Tryd.prog w = .ok (.slice (some ad) n c) w := by
  obtain ⟨i0, hi, hz0, _, hz2⟩ := info_parts Tryd.info5
  have hw : IntKind.i64.wrap 0 = 0 := by decide
  simp [Builtin.append_, run_underlying Tryd.underlying22, run_underlying Tryd.underlying3, sizeOf, typeInfo, zeroValue, hi, hz0, hz2, asInt, asIntOf, hw, h, storeCells]
theorem str_data : ∀ (xs : List Int) (acc : ByteArray), (xs.foldl (fun r n => r.push (UInt8.ofNat n.toNat)) acc).data = acc.data ++ (xs.map (fun n => UInt8.ofNat n.toNat)).toArray
  | [], acc => by simp
  | x :: r, acc => by
    rw [List.foldl_cons, str_data r]
    simp [ByteArray.push]
theorem toList_inj {s t : ByteArray} (h : s.toList = t.toList) : s = t := by
  rw [ByteArray.toList_eq, ByteArray.toList_eq] at h
  have := Array.ext' h
  cases s; cases t; simp_all
/-- 'copy' into a block that is known whole, of as much as fits. -/
theorem copy_min {P : Program} (w : World) (ty rt e : TypeId) (hu : P.underlying ty = some (.slice e)) (hsz : (P.info? e).map (·.size) = some 1) {g : Nat} {k : IntKind} {zs : List Int} (hB : Blk w g k zs)
    (gs : Nat) (sp : Option Addr) (ys : List Int) (hr : Rd w gs sp k ys) (dc sc : Nat) :
    ∃ w2, (Builtin.copy_ #[ty, ty] rt #[.slice (some ⟨g, 0, none⟩) zs.length dc, .slice sp ys.length sc]).run P w = .ok (goInt (ys.take zs.length).length) w2 ∧ Blk w2 g k (ys.take zs.length ++ zs.drop (ys.take zs.length).length) ∧ Only g w w2 := by
  by_cases h0 : 0 < ys.length
  · obtain ⟨off, rfl, hc⟩ := hr h0
    obtain ⟨t, hB⟩ := hB
    have hrun := run_copy_row (P := P) w ty ty rt e g 0 zs.length dc ⟨gs, off, none⟩ ys.length sc _ t ((ys.take zs.length).map (Value.int k)) hu hsz hB (by simp [Nat.min_comm])
      (fun j v hj => by
        have hjl : j < (ys.take zs.length).length := by
          have := (List.getElem?_eq_some_iff.1 hj).1
          simpa using this
        have hj1 : j < ys.length := by simp at hjl; omega
        have hj2 : j < zs.length := by simp at hjl; omega
        rw [add_mid, hc j hj1]
        simpa [hj1, hj2, List.getElem?_take] using hj) (by simp; omega) (oneCells _ _)
    rw [List.length_map] at hrun
    refine ⟨_, hrun, ⟨t, ?_⟩, ⟨rfl, rfl, rfl, by simp, fun i hi => setRow_other w g i _ hi⟩⟩
    rw [setRow_heap w g _ _ t _ hB]
    simp
  · obtain rfl : ys = [] := List.eq_nil_of_length_eq_zero (by omega)
    exact ⟨w, by simpa using run_copy_none (P := P) w ty ty rt e _ _ _ _ _ _ hu hsz (by simp), by simpa using hB, Only.refl _ _⟩
theorem str_inj {xs ys : List Int} (hx : Byt xs) (hy : Byt ys) (h : str xs = str ys) : xs = ys := by
  have h1 : (xs.map (fun n => UInt8.ofNat n.toNat)) = (ys.map (fun n => UInt8.ofNat n.toNat)) := by
    have := congrArg ByteArray.data h
    unfold str at this
    rw [str_data, str_data] at this
    simpa using this
  have hl : xs.length = ys.length := by have := congrArg List.length h1; simpa using this
  refine eq_of_getD hl (fun i hi => ?_)
  have h2 : (xs.map (fun n => UInt8.ofNat n.toNat))[i]? = (ys.map (fun n => UInt8.ofNat n.toNat))[i]? := by rw [h1]
  have a := hx i
  have b := hy i
  have hi' : i < ys.length := by omega
  simp [hi, hi'] at h2 a b ⊢
  have h3 := congrArg UInt8.toNat h2
  simp at h3
  omega

set_option maxHeartbeats 1000000 in
theorem lwSame_diff (w : World) (g g' : Nat) (a b : Option Addr) (ca cb : Nat) (xs ys : List Int) (ha : Rd w g a .u8 xs) (hb : Rd w g' b .u8 ys) (hx : Byt xs) (hy : Byt ys) (hne : xs ≠ ys) :
    Calls Tryd.prog 22 #[.slice a xs.length ca, .slice b ys.length cb] w fun e w' => e = .returned (.bool false) ∧ w' = w := by
  have h1 := conv_run w g a ca xs ha
  have h2 := conv_run w g' b cb ys hb
  have h3 : str xs ≠ str ys := fun h => hne (str_inj hx hy h)
  clear hne
  generalize str xs = s at *
  generalize str ys = t at *
  have H3 := hide h3
  clear h3
  go_enter Tryd.func22, Tryd.ntmps22
  go_wp2
  go_ret
  have e : (s.toList == t.toList) = false := by
    cases h : (s.toList == t.toList)
    · rfl
    · exact absurd (toList_inj (beq_iff_eq.1 h)) H3.out
  exact ⟨by rw [← e]; rfl, rfl⟩

set_option maxHeartbeats 1000000 in
theorem l1Shift1_any (w : World) (g : Nat) (a : Option Addr) (c : Nat) (xs : List Int) (ha : Rd w g a .u8 xs) (hb : Byt xs) (hc : a = none → c = 0) (hl : xs.length ≤ 64) (h0 : 0 < xs.length) :
    Calls Tryd.prog 84 #[.slice a xs.length c, .int .i64 1] w fun e w' => ∃ ys, Canon ys (bval xs * 2) ∧ NewRow w.heap.size w' e .u8 ys ∧ Below w.heap.size w w' := by
  go_enter Tryd.func84, Tryd.ntmps84
  go_wp2_with fail
  refine (l1Copy_any w g a c xs ha hc (by omega)).mono ?_
  rintro e w1 ⟨⟨a1, c1, g1, rfl, o1, p1, q1, r1⟩, n1⟩
  obtain ⟨off, rfl, _⟩ := o1 h0
  have hap := append_none w1 ⟨g1, off, none⟩ xs.length c1 q1
  go_wp2_with (at_builtin; refine Lib.wpList_append_run _ rfl _ _ 22 3 rfl _ _ rfl rfl _ _ hap ?_)
  have n2 : Below w1.heap.size w1 (w1.alloc (.cells #[.int .u8 2] 5)) := (Below.refl _ _).alloc (Nat.le_refl _) _
  have B2 : Blk (w1.alloc (.cells #[.int .u8 2] 5)) w1.heap.size .u8 [2] := ⟨5, by rw [heap_alloc_last]; rfl⟩
  generalize w1.alloc (.cells #[.int .u8 2] 5) = w2 at *
  have hb2 : Byt [2] := fun i => by
    match i with
    | 0 => decide
    | i + 1 => simp
  refine (l1Mul_any w2 g1 _ _ _ c1 1 xs [2] (o1.up n2).rd B2.own0.rd hb hb2 (by omega) (by decide)).mono ?_
  rintro e w3 ⟨ys, C, ⟨a3, c3, g3, rfl, o3, p3, q3, r3⟩, n3⟩
  have N3 := nxt (nxt n1 n2) n3
  have z := (nxt n1 n2).size
  clear hap
  go_wp2
  go_ret
  exact ⟨ys, C, ⟨a3, c3, g3, rfl, o3, p3, q3, by omega⟩, N3⟩

/-- Thirty-two bytes of a list. -/
def to32 (xs : List Int) : List Int := xs.take 32 ++ (List.replicate 32 0).drop (xs.take 32).length
theorem to32_len (xs : List Int) : (to32 xs).length = 32 := by
  unfold to32
  rw [List.length_append, List.length_drop, List.length_replicate, List.length_take]
  omega
theorem to32_byt {xs : List Int} (h : Byt xs) : Byt (to32 xs) := by
  intro i
  unfold to32
  by_cases hi : i < (xs.take 32).length
  · have h1 := h i
    have h2 : i < 32 := by simp at hi; omega
    have e : (xs.take 32 ++ (List.replicate 32 (0 : Int)).drop (xs.take 32).length).getD i 0 = xs.getD i 0 := by
      rw [List.getD_eq_getElem?_getD, List.getElem?_append, if_pos hi, List.getElem?_take, if_pos h2, List.getD_eq_getElem?_getD]
    rw [e]; exact h1
  · rw [List.getD_eq_getElem?_getD, List.getElem?_append, if_neg hi, List.getElem?_drop, List.getElem?_replicate]
    split <;> simp

set_option maxHeartbeats 1000000 in
theorem lw32_any (w : World) (g : Nat) (a : Option Addr) (c : Nat) (xs : List Int) (ha : Rd w g a .u8 xs) :
    Calls Tryd.prog 21 #[.slice a xs.length c] w fun e w' => e = .returned (.slice (some ⟨w.heap.size, 0, none⟩) 32 32) ∧ Blk w' w.heap.size .u8 (to32 xs) ∧ Below w.heap.size w w' := by
  obtain ⟨i0, hi, hz0, hz1, hz2⟩ := info_parts Tryd.info5
  have hsz : (Tryd.prog.info? 5).map (·.size) = some 1 := by rw [hi]; simp [hz1]
  go_enter Tryd.func21, Tryd.ntmps21
  go_wp2_with (at_make; refine wpList_make_full _ rfl _ _ 22 rfl w.heap.size 5 i0 (.int .u8 0) 1 Tryd.underlying22 hi hz0 hz1 .i64 .i64 _ _ 32 rfl rfl rfl rfl (by rw [hz2]; omega) (by unfold maxLen; omega) (Nat.le_refl _) ?_; intro w1 hown hgrow)
  have hB := Blk.of_made hown
  have hN : Below w.heap.size w w1 := (Below.refl _ _).grown hgrow (Nat.le_refl _) (by simp)
  obtain ⟨w2, hrun, hB2, hO⟩ := copy_min (P := Tryd.prog) w1 22 3 5 Tryd.underlying22 hsz hB g a xs (ha.up hN) 32 c
  rw [List.length_replicate] at hrun
  have hN2 := hN.trans (hO.below (Nat.le_refl _))
  rw [hrun]
  clear hown hgrow hB hN hO hrun
  go_wp2
  go_ret
  exact ⟨rfl, hB2, hN2⟩
end Go.Proofs.YtblkjpmkikhpbaaDoor

/-
  The model's l1Same.
-/
namespace Go.Proofs.YtblkjpmkikhpbaaDoor
set_option maxRecDepth 100000
open Go.RowKit

set_option maxHeartbeats 400000 in
theorem l1Same_same (w : World) (g g' : Nat) (a b : Option Addr) (ca cb : Nat) (xs : List Int) (ha : Rd w g a .u8 xs) (hb : Rd w g' b .u8 xs) :
    Calls Tryd.prog 99 #[.slice a xs.length ca, .slice b xs.length cb] w fun e w' => e = .returned (.bool true) ∧ w' = w := by
  have h1 := conv_run w g a ca xs ha
  have h2 := conv_run w g' b cb xs hb
  generalize str xs = s at *
  go_enter Tryd.func99, Tryd.ntmps99
  go_wp2
  go_ret
  exact ⟨by simp, rfl⟩
set_option maxHeartbeats 1000000 in
theorem l1Same_diff (w : World) (g g' : Nat) (a b : Option Addr) (ca cb : Nat) (xs ys : List Int) (ha : Rd w g a .u8 xs) (hb : Rd w g' b .u8 ys) (hx : Byt xs) (hy : Byt ys) (hne : xs ≠ ys) :
    Calls Tryd.prog 99 #[.slice a xs.length ca, .slice b ys.length cb] w fun e w' => e = .returned (.bool false) ∧ w' = w := by
  have h1 := conv_run w g a ca xs ha
  have h2 := conv_run w g' b cb ys hb
  have h3 : str xs ≠ str ys := fun h => hne (str_inj hx hy h)
  clear hne
  generalize str xs = s at *
  generalize str ys = t at *
  have H3 := hide h3
  clear h3
  go_enter Tryd.func99, Tryd.ntmps99
  go_wp2
  go_ret
  have e : (s.toList == t.toList) = false := by
    cases h : (s.toList == t.toList)
    · rfl
    · exact absurd (toList_inj (beq_iff_eq.1 h)) H3.out
  exact ⟨by rw [← e]; rfl, rfl⟩
theorem l1Same_any (w : World) (g g' : Nat) (a b : Option Addr) (ca cb : Nat) (xs ys : List Int) (ha : Rd w g a .u8 xs) (hb : Rd w g' b .u8 ys) (hx : Byt xs) (hy : Byt ys) :
    Calls Tryd.prog 99 #[.slice a xs.length ca, .slice b ys.length cb] w fun e w' => e = .returned (.bool (decide (xs = ys))) ∧ w' = w := by
  by_cases h : xs = ys
  · subst h
    simpa using l1Same_same w g g' a b ca cb xs ha hb
  · have := l1Same_diff w g g' a b ca cb xs ys ha hb hx hy h
    simpa [h] using this
theorem byt_inj {x y : Int} (hx : 0 ≤ x ∧ x < PP) (hy : 0 ≤ y ∧ y < PP) (h : fill (byt x) 32 = fill (byt y) 32) : x = y := by
  have hb : ∀ i, i < 32 → byt x i = byt y i := fun i hi => by
    rw [← fill_get (byt x) 32 i hi, h, fill_get _ _ _ hi]
  have key : ∀ n, n ≤ 32 → x % 256 ^ n = y % 256 ^ n := by
    intro n
    induction n with
    | zero => intro _; simp
    | succ n ih =>
      intro hn
      have h1 := ih (by omega)
      have h2 := hb n (by omega)
      unfold byt at h2
      have s : ∀ z : Int, z % 256 ^ (n + 1) = z % 256 ^ n + 256 ^ n * (z / 256 ^ n % 256) := fun z => by
        have hA : (0 : Int) ≤ 256 ^ n := Int.le_of_lt (p256_pos n)
        have e1 := Int.emod_def z (256 ^ n * 256)
        rw [← Int.ediv_ediv_of_nonneg hA] at e1
        have e2 := Int.emod_def z (256 ^ n)
        have e3 := Int.emod_def (z / 256 ^ n) 256
        rw [Int.pow_succ, e1, e2, e3]
        generalize z / 256 ^ n / 256 = u
        generalize z / 256 ^ n = v
        generalize (256 : Int) ^ n = p
        grind
      rw [s, s, h1, h2]
  have h32 := key 32 (by omega)
  have e : (256 : Int) ^ 32 = 115792089237316195423570985008687907853269984665640564039457584007913129639936 := by decide
  rw [e] at h32
  have hx' : 0 ≤ x ∧ x < 57896044618658097711785492504343953926634992332820282019728792003956564819949 := hx
  have hy' : 0 ≤ y ∧ y < 57896044618658097711785492504343953926634992332820282019728792003956564819949 := hy
  omega
end Go.Proofs.YtblkjpmkikhpbaaDoor
