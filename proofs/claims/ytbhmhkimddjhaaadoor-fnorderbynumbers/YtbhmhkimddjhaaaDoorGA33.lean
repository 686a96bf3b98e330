import Derived.Test.YtbhmhkimddjhaaaDoorGA32
import Derived.Test.YtbhmhkimddjhaaaDoorGA29
/-
  impl.NumSub.
-/
namespace Go.Proofs.YtbhmhkimddjhaaaDoor
set_option maxRecDepth 100000
open Go.RowKit

set_option maxHeartbeats 1000000 in
theorem clone_any (w : World) (g : Nat) (a : Option Addr) (ca : Nat) (zs : List Int) (ha : Rd w g a .u32 zs) (hn : zs.length ≤ 8192) :
    Calls Tryd.prog 103 #[.slice a zs.length ca] w fun e w' => e = .returned (.slice (some ⟨w.heap.size, 0, none⟩) zs.length zs.length) ∧ Blk w' w.heap.size .u32 zs ∧ Below w.heap.size w w' := by
  obtain ⟨i0, hi, hz0, hz1, hz2⟩ := info_parts Tryd.info99
  have hsz : (Tryd.prog.info? 99).map (·.size) = some 1 := by rw [hi]; simp [hz1]
  go_enter Tryd.func103, Tryd.ntmps103
  go_wp2_with (at_make; refine wpList_make_full _ rfl _ _ 63 rfl w.heap.size 99 i0 (.int .u32 0) 1 Tryd.underlying63 hi hz0 hz1 .i64 .i64 _ _ zs.length rfl rfl rfl rfl (by rw [hz2]; omega) (by unfold maxLen; omega) (Nat.le_refl _) ?_; intro w1 hown hgrow)
  have hB0 := Blk.of_made hown
  have hN0 : Below w.heap.size w w1 := (Below.refl _ _).grown hgrow (Nat.le_refl _) (by simp)
  obtain ⟨w2, hrun, hB2, hO⟩ := copy_blk (P := Tryd.prog) w1 63 3 99 Tryd.underlying63 hsz hB0 g a zs (ha.up hN0) (by simp) zs.length ca
  rw [List.length_replicate] at hrun
  have hN2 := hN0.trans (hO.below (Nat.le_refl _))
  rw [hrun]
  clear hown hgrow hB0 hN0 hO hrun
  go_wp2
  go_ret
  exact ⟨rfl, by simpa using hB2, hN2⟩

end Go.Proofs.YtbhmhkimddjhaaaDoor
/-
  In-place work on a part of a block.
-/
namespace Go.Proofs.YtbhmhkimddjhaaaDoor
set_option maxRecDepth 100000
open Go.RowKit

/-- A part of a list. -/
def win (XS : List Int) (off len : Nat) : List Int := (XS.drop off).take len
theorem win_len {XS : List Int} {off len : Nat} (h : off + len ≤ XS.length) : (win XS off len).length = len := by simp [win]; omega
theorem win_get (XS : List Int) (off len k : Nat) (hk : k < len) : (win XS off len).getD k 0 = XS.getD (off + k) 0 := by
  simp [win, hk, List.getElem?_drop]
theorem win_set (XS : List Int) (off len k : Nat) (v : Int) (_ : k < len) : win (XS.set (off + k) v) off len = (win XS off len).set k v := by
  unfold win
  rw [List.drop_set, if_neg (by omega), show off + k - off = k by omega, List.take_set]
/-- Outside that part all is as it was. -/
def Same (XS ZS : List Int) (off len : Nat) : Prop := XS.length = ZS.length ∧ ∀ j, (j < off ∨ off + len ≤ j) → XS.getD j 0 = ZS.getD j 0
theorem Same.refl (ZS : List Int) (off len : Nat) : Same ZS ZS off len := ⟨rfl, fun _ _ => rfl⟩
theorem Same.trans {a b c : List Int} {off len : Nat} (h : Same a b off len) (k : Same b c off len) : Same a c off len := ⟨h.1.trans k.1, fun j hj => (h.2 j hj).trans (k.2 j hj)⟩
theorem Same.set {XS ZS : List Int} {off len : Nat} (h : Same XS ZS off len) (k : Nat) (v : Int) (hk : k < len) : Same (XS.set (off + k) v) ZS off len :=
  ⟨by simpa using h.1, fun j hj => by rw [getD_set_ne _ _ _ _ (by omega)]; exact h.2 j hj⟩

set_option maxHeartbeats 2000000 in
theorem takeTimesB (w : World) (g off len ca : Nat) (ZS : List Int) (g' : Nat) (b : Option Addr) (cb : Nat) (ms : List Int) (T : Int) (hB0 : Blk w g .u32 ZS) (hlen : off + len ≤ ZS.length) (hb : Rd w g' b .u32 ms) (hne : 0 < ms.length → g' ≠ g)
    (hz : Lmb (win ZS off len)) (hm : Lmb ms) (hn : len ≤ 8192) (hk : ms.length ≤ 8192) (T0 : 0 ≤ T) (T1 : T < 4294967296) :
    Calls Tryd.prog 131 #[.slice (some ⟨g, off, none⟩) len ca, .slice b ms.length cb, .int .u64 T] w fun e w' => ∃ XS bo c, e = .returned (.bool (c + bo != 0)) ∧ TakeTo (win ZS off len) ms (win XS off len) T len bo c ∧ Same XS ZS off len ∧ Blk w' g .u32 XS ∧ Only g w w' := by
  go_enter Tryd.func131, Tryd.ntmps131
  go_wp2
  go_loopw [7, 8, 13] (fun q r i wr => ∃ (k : Nat) (bo c : Int) (XS : List Int), k ≤ len ∧ i = .int .i64 k ∧ q = .int .u64 c ∧ r = .int .u64 bo ∧ (0 ≤ bo ∧ bo ≤ 1) ∧ (0 ≤ c ∧ c < 4294967296) ∧ TakeTo (win ZS off len) ms (win XS off len) T k bo c ∧ Same XS ZS off len ∧ Blk wr g .u32 XS ∧ Only g w wr) (fun _ _ i _ => len - (intOf i).toNat)
  case atStart => exact ⟨0, 0, 0, ZS, Nat.zero_le _, rfl, rfl, rfl, ⟨by omega, by omega⟩, ⟨by omega, by omega⟩, TakeTo.zero ms T hz, Same.refl _ _ _, hB0, Only.refl _ _⟩
  case round =>
    obtain ⟨k, bo, c, XS, hk', rfl, rfl, rfl, hbo, hc, hA, hSm, hO, hN⟩ := hrel
    by_cases hlt : k < len
    · have R := hA.step (by rw [win_len hlen]; exact hlt)
      have hXl : XS.length = ZS.length := hSm.1
      have hyz := hA.2.2.2.2.2 k (Nat.le_refl _)
      rw [win_get _ _ _ _ hlt] at hyz
      have hcy : wr.cell? ⟨g, off + k, none⟩ = some (.int .u32 (XS.getD (off + k) 0)) := hO.cell (by omega)
      have hfy := hO.free (off + k)
      rw [hyz] at hcy
      have hS := fun v => hO.store (off + k) v
      have hSs := fun v => hSm.set k v hlt
      have hSn := fun v => hN.trans (Only.setCell wr g (off + k) (.int .u32 v))
      have zb := hz k
      have mb := hm k
      by_cases hkm : k < ms.length
      · obtain ⟨off', rfl, hcm⟩ := hb (by omega)
        have hcx : wr.cell? ⟨g', off' + k, none⟩ = some (.int .u32 (ms.getD k 0)) := by
          rw [World.cell?_of_block (a := ⟨g', off' + k, none⟩) (hN.block g' (hne (by omega)))]
          exact hcm k hkm
        have tk : decide ((k : Int) < (ms.length : Int)) = true := by simp; omega
        have u0 : 0 ≤ T * ms.getD k 0 := Int.mul_nonneg T0 mb.1
        have u1 : T * ms.getD k 0 ≤ 4294967295 * 4294967295 := Int.le_trans (Int.mul_le_mul_of_nonneg_right (show T ≤ 4294967295 by omega) mb.1) (Int.mul_le_mul_of_nonneg_left (by omega) (by decide))
        have u2 : T * ms.getD k 0 ≤ 18446744065119617025 := u1
        generalize (win ZS off len).getD k 0 = z at *
        generalize ms.getD k 0 = m at *
        have e1 := mask32 (c + T * m) (by omega) (by omega)
        have F := hide (take_limb z ((c + T * m) % 4294967296) bo zb ⟨by omega, by omega⟩ hbo)
        have R' := hide R
        clear hO hN hA hyz hcm u1 R hXl hSm
        go_wp2
        go_roundw
        case rel =>
          obtain ⟨f1, f2, f3⟩ := F.out
          exact ⟨k + 1, _, _, _, by omega, by go_num, rfl, rfl, f3, ⟨by omega, by omega⟩, by rw [win_set _ _ _ _ _ hlt]; exact R'.out _ _ _ ((c + T * m) % 4294967296) (by omega) f1 f2.1 f2.2 f3 ⟨by omega, by omega⟩, hSs _, hS _, hSn _⟩
        case measure => simp [intOf]; omega
      · have hm0 : ms.getD k 0 = 0 := by
          rw [List.getD_eq_getElem?_getD, List.getElem?_eq_none (by omega)]
          rfl
        rw [hm0] at R
        have tk : decide ((k : Int) < (ms.length : Int)) = false := by simp; omega
        generalize (win ZS off len).getD k 0 = z at *
        have e1 := mask32 c (by omega) (by omega)
        have e2 : c % 4294967296 = c := by omega
        rw [e2] at e1
        have F := hide (take_limb z c bo zb hc hbo)
        have R' := hide R
        clear hO hN hA hyz R hm0 mb e2 hXl hSm
        go_wp2
        go_roundw
        case rel =>
          obtain ⟨f1, f2, f3⟩ := F.out
          exact ⟨k + 1, _, _, _, by omega, by go_num, rfl, rfl, f3, ⟨by omega, by omega⟩, by rw [win_set _ _ _ _ _ hlt]; exact R'.out _ _ _ c (by omega) f1 f2.1 f2.2 f3 ⟨by omega, by omega⟩, hSs _, hS _, hSn _⟩
        case measure => simp [intOf]; omega
    · obtain rfl : k = len := by omega
      go_wp2
      go_ret
      exact ⟨XS, bo, c, rfl, hA, hSm, hO, hN⟩

set_option maxHeartbeats 2000000 in
theorem addInPlaceB (w : World) (g off len ca : Nat) (ZS : List Int) (g' : Nat) (b : Option Addr) (cb : Nat) (ms : List Int) (hB0 : Blk w g .u32 ZS) (hlen : off + len ≤ ZS.length) (hb : Rd w g' b .u32 ms) (hne : 0 < ms.length → g' ≠ g)
    (hz : Lmb (win ZS off len)) (hm : Lmb ms) (hn : len ≤ 8192) (hk : ms.length ≤ 8192) :
    Calls Tryd.prog 101 #[.slice (some ⟨g, off, none⟩) len ca, .slice b ms.length cb] w fun e w' => ∃ XS c, e = .returned (.tuple #[]) ∧ LAddTo (win ZS off len) ms (win XS off len) len c ∧ Same XS ZS off len ∧ Blk w' g .u32 XS ∧ Only g w w' := by
  go_enter Tryd.func101, Tryd.ntmps101
  go_wp2
  go_loopw [4, 8] (fun q i wr => ∃ (k : Nat) (c : Int) (XS : List Int), k ≤ len ∧ i = .int .i64 k ∧ q = .int .u64 c ∧ (0 ≤ c ∧ c ≤ 1) ∧ LAddTo (win ZS off len) ms (win XS off len) k c ∧ Same XS ZS off len ∧ Blk wr g .u32 XS ∧ Only g w wr) (fun _ i _ => len - (intOf i).toNat)
  case atStart => exact ⟨0, 0, ZS, Nat.zero_le _, rfl, rfl, ⟨by omega, by omega⟩, LAddTo.zero ms hz, Same.refl _ _ _, hB0, Only.refl _ _⟩
  case round =>
    obtain ⟨k, c, XS, hk', rfl, rfl, hc, hA, hSm, hO, hN⟩ := hrel
    by_cases hlt : k < len
    · have R := hA.step hz hm (by rw [win_len hlen]; exact hlt)
      have hXl : XS.length = ZS.length := hSm.1
      have hyz := hA.2.2.2.2 k (Nat.le_refl _)
      rw [win_get _ _ _ _ hlt] at hyz
      have hcy : wr.cell? ⟨g, off + k, none⟩ = some (.int .u32 (XS.getD (off + k) 0)) := hO.cell (by omega)
      have hfy := hO.free (off + k)
      rw [hyz] at hcy
      have hS := fun v => hO.store (off + k) v
      have hSs := fun v => hSm.set k v hlt
      have hSn := fun v => hN.trans (Only.setCell wr g (off + k) (.int .u32 v))
      have zb := hz k
      have mb := hm k
      by_cases hkm : k < ms.length
      · obtain ⟨off', rfl, hcm⟩ := hb (by omega)
        have hcx : wr.cell? ⟨g', off' + k, none⟩ = some (.int .u32 (ms.getD k 0)) := by
          rw [World.cell?_of_block (a := ⟨g', off' + k, none⟩) (hN.block g' (hne (by omega)))]
          exact hcm k hkm
        have hB' := hS ((c + (win ZS off len).getD k 0 + ms.getD k 0) % 4294967296)
        have hN' := hSn ((c + (win ZS off len).getD k 0 + ms.getD k 0) % 4294967296)
        have tk : decide ((k : Int) < (ms.length : Int)) = true := by simp; omega
        have R' := hide R
        generalize (win ZS off len).getD k 0 = z at *
        generalize ms.getD k 0 = m at *
        clear hS hSn hO hN hA R hyz hcm hXl hSm
        go_wp2
        go_roundw
        case rel => exact ⟨k + 1, _, _, by omega, by go_num, rfl, ⟨by omega, by omega⟩, by rw [win_set _ _ _ _ _ hlt]; exact R'.out, hSs _, hB', hN'⟩
        case measure => simp [intOf]; omega
      · have hm0 : ms.getD k 0 = 0 := by
          rw [List.getD_eq_getElem?_getD, List.getElem?_eq_none (by omega)]
          rfl
        rw [hm0, Int.add_zero] at R
        have hB' := hS ((c + (win ZS off len).getD k 0) % 4294967296)
        have hN' := hSn ((c + (win ZS off len).getD k 0) % 4294967296)
        have tk : decide ((k : Int) < (ms.length : Int)) = false := by simp; omega
        have R' := hide R
        generalize (win ZS off len).getD k 0 = z at *
        clear hS hSn hO hN hA R hyz hm0 mb hXl hSm
        go_wp2
        go_roundw
        case rel => exact ⟨k + 1, _, _, by omega, by go_num, rfl, ⟨by omega, by omega⟩, by rw [win_set _ _ _ _ _ hlt]; exact R'.out, hSs _, hB', hN'⟩
        case measure => simp [intOf]; omega
    · obtain rfl : k = len := by omega
      go_wp2
      go_end0
      exact ⟨XS, c, rfl, hA, hSm, hO, hN⟩

end Go.Proofs.YtbhmhkimddjhaaaDoor
