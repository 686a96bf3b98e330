import Derived.Test.YtliahigljoeeoaaGreatDoorGP42
import Derived.Test.YtliahigljoeeoaaGreatDoorGP46
import Derived.Test.YtliahigljoeeoaaGreatDoorGP45
import Derived.Test.YtliahigljoeeoaaGreatDoorGP38
import Derived.Test.YtliahigljoeeoaaGreatDoorGP44
import Derived.Test.YtliahigljoeeoaaGreatDoorRows
import Derived.Lib.LaidTab
import Derived.Lib.LaidU8
import Derived.LaidMore

/-
  Limbs: into bytes, and sums in place.
-/
namespace Go.Proofs.YtliahigljoeeoaaGreatDoor
set_option maxRecDepth 100000
open Go.RowKit

set_option maxHeartbeats 2000000 in
theorem bytes_any1 (w : World) (g : Nat) (a : Option Addr) (cap : Nat) (zs : List Int) (hr : Rd w g a .u32 zs) (hz : Lmb zs) (hn : zs.length ≤ 4096) :
    Calls Tryz.prog 94 #[.slice a zs.length cap] w fun e w' => ∃ ys, Canon ys (lval zs) ∧ NewRow w.heap.size w' e .u8 ys ∧ Below w.heap.size w w' := by
  obtain ⟨i0, hi, hz0, hz1, hz2⟩ := info_parts Tryz.info5
  go_enter Tryz.func94, Tryz.ntmps94
  go_wp2_with (at_make; refine wpList_make_full _ rfl _ _ 22 rfl w.heap.size 5 i0 (.int .u8 0) 1 Tryz.underlying22 hi hz0 hz1 .i64 .i64 _ _ (4 * zs.length) rfl rfl (by omega) (by omega) (by rw [hz2]; omega) (by unfold maxLen; omega) (Nat.le_refl _) ?_; intro w1 hown hgrow)
  have hB0 := Blk.of_made hown
  have hN0 : Below w.heap.size w w1 := (Below.refl _ _).grown hgrow (Nat.le_refl _) (by simp)
  clear hown hgrow
  go_loopw [11] (fun i wr => ∃ (k : Nat) (ys : List Int), k ≤ 4 * zs.length ∧ i = .int .i64 k ∧ DigTo (lb zs) ys (4 * zs.length) k ∧ Blk wr w.heap.size .u8 ys ∧ Below w.heap.size w wr) (fun i _ => 4 * zs.length - (intOf i).toNat)
  case atStart => exact ⟨0, _, Nat.zero_le _, rfl, ⟨by simp, byt_zeros _, fun j h => absurd h (by omega)⟩, hB0, hN0⟩
  case round =>
    obtain ⟨k, ys, hk, rfl, hcp, hB, hN⟩ := hrel
    by_cases hlt : k < 4 * zs.length
    · obtain ⟨off, rfl, hc⟩ := hr (by omega)
      have hg := hr.lt (by omega)
      have R := hcp.step hlt (lb_bd zs k).1 (lb_bd zs k).2
      obtain ⟨q, hq⟩ : ∃ q : Nat, k / 4 = q := ⟨_, rfl⟩
      obtain ⟨p, hp⟩ : ∃ p : Nat, 4 * zs.length - 1 - k = p := ⟨_, rfl⟩
      have hcx : wr.cell? ⟨g, off + q, none⟩ = some (.int .u32 (zs.getD q 0)) := (hN.cell (p := ⟨g, off + q, none⟩) hg).trans (hc q (by omega))
      have HL : Hid (lb zs k = zs.getD q 0 / 256 ^ (k % 4) % 256) := by show _ = _; unfold lb; rw [hq]
      have hzq := hz q
      have hl : ys.length = 4 * zs.length := hcp.1
      have hcy : wr.cell? ⟨w.heap.size, p, none⟩ = some (.int .u8 (ys.getD p 0)) := hB.cell (by omega)
      have hfy := hB.free p
      have hB' := hB.store p (lb zs k)
      have hN' : Below w.heap.size w (wr.setCell ⟨w.heap.size, p, none⟩ (.int .u8 (lb zs k))) := hN.setCell (Nat.le_refl _) _
      rw [hp] at R
      have p1 : 4 * (zs.length : Int) - 1 - (k : Int) = (p : Int) := by omega
      have p2 : (p : Int) < 4 * (zs.length : Int) := by omega
      have q1 : (k : Int) / 4 = (q : Int) := by omega
      have q2 : (q : Int) < (zs.length : Int) := by omega
      generalize zs.getD q 0 = z at *
      clear hp hc hcp hB hN hl hq
      rcases (show k % 4 = 0 ∨ k % 4 = 1 ∨ k % 4 = 2 ∨ k % 4 = 3 by omega) with h4 | h4 | h4 | h4
      · have r1 : (k : Int) % 4 = 0 := by omega
        have hv : z % 256 = lb zs k := by rw [HL.out, h4]; simp
        obtain ⟨x, hx⟩ : ∃ x, lb zs k = x := ⟨_, rfl⟩
        rw [hx] at hv hB' hN' R
        have R' := hide R
        clear R HL hx h4
        go_wp2
        go_roundw
        case rel => exact ⟨k + 1, _, by omega, by go_num, R'.out, hB', hN'⟩
        case measure => simp [intOf]; omega
      · have r1 : (k : Int) % 4 = 1 := by omega
        have hv : z / 256 % 256 = lb zs k := by rw [HL.out, h4]; simp
        obtain ⟨x, hx⟩ : ∃ x, lb zs k = x := ⟨_, rfl⟩
        rw [hx] at hv hB' hN' R
        have R' := hide R
        clear R HL hx h4
        go_wp2
        go_roundw
        case rel => exact ⟨k + 1, _, by omega, by go_num, R'.out, hB', hN'⟩
        case measure => simp [intOf]; omega
      · have r1 : (k : Int) % 4 = 2 := by omega
        have hv : z / 65536 % 256 = lb zs k := by rw [HL.out, h4]; simp
        obtain ⟨x, hx⟩ : ∃ x, lb zs k = x := ⟨_, rfl⟩
        rw [hx] at hv hB' hN' R
        have R' := hide R
        clear R HL hx h4
        go_wp2
        go_roundw
        case rel => exact ⟨k + 1, _, by omega, by go_num, R'.out, hB', hN'⟩
        case measure => simp [intOf]; omega
      · have r1 : (k : Int) % 4 = 3 := by omega
        have hv : z / 16777216 = lb zs k := by rw [HL.out, h4]; simp; omega
        obtain ⟨x, hx⟩ : ∃ x, lb zs k = x := ⟨_, rfl⟩
        rw [hx] at hv hB' hN' R
        have R' := hide R
        clear R HL hx h4
        go_wp2
        go_roundw
        case rel => exact ⟨k + 1, _, by omega, by go_num, R'.out, hB', hN'⟩
        case measure => simp [intOf]; omega
    · obtain rfl : k = 4 * zs.length := by omega
      have V := hide (hcp.val hz)
      have L := hide hcp.1
      have hyb := hcp.2.1
      clear hcp
      go_wp2_with fail
      rw [← L.out]
      refine (withoutZeros_any wr _ _ _ ys hB.own0.rd hyb (Nat.le_refl _) (by rw [L.out]; omega)).mono ?_
      rintro e w2 ⟨us, C, _, rfl, B2, n2⟩
      rw [V.out] at C
      go_wp2
      go_ret
      exact ⟨us, C, ⟨_, _, _, rfl, B2.own0, by simp, Nat.le_refl _, hN.size⟩, nxt hN n2⟩

set_option maxHeartbeats 2000000 in
theorem addInPlace_any (w : World) (g : Nat) (a : Option Addr) (ca : Nat) (zs : List Int) (g' : Nat) (b : Option Addr) (cb : Nat) (ms : List Int) (ha : Own w g a .u32 zs) (hb : Rd w g' b .u32 ms) (hne : 0 < ms.length → g' ≠ g)
    (hz : Lmb zs) (hm : Lmb ms) (hn : zs.length ≤ 8192) (hk : ms.length ≤ 8192) :
    Calls Tryz.prog 93 #[.slice a zs.length ca, .slice b ms.length cb] w fun e w' => ∃ ys c, e = .returned (.tuple #[]) ∧ LAddTo zs ms ys zs.length c ∧ Own w' g a .u32 ys ∧ Only g w w' := by
  go_enter Tryz.func93, Tryz.ntmps93
  go_wp2
  go_loopw [4, 8] (fun q i wr => ∃ (k : Nat) (c : Int) (ys : List Int), k ≤ zs.length ∧ i = .int .i64 k ∧ q = .int .u64 c ∧ (0 ≤ c ∧ c ≤ 1) ∧ LAddTo zs ms ys k c ∧ Own wr g a .u32 ys ∧ Only g w wr) (fun _ i _ => zs.length - (intOf i).toNat)
  case atStart => exact ⟨0, 0, zs, Nat.zero_le _, rfl, rfl, ⟨by omega, by omega⟩, LAddTo.zero ms hz, ha, Only.refl _ _⟩
  case round =>
    obtain ⟨k, c, ys, hk', rfl, rfl, hc, hA, hO, hN⟩ := hrel
    by_cases hlt : k < zs.length
    · have R := hA.step hz hm hlt
      have hl : ys.length = zs.length := hA.1
      have hyz := hA.2.2.2.2 k (Nat.le_refl _)
      obtain ⟨off, rfl, hcc⟩ := hO (by omega)
      obtain ⟨hcy, hfy⟩ := hcc k (by omega)
      rw [hyz] at hcy
      have hS := fun v => hO.store k (by omega) v
      have hSn := fun v => hN.trans (Only.setCell wr g (off + k) (.int .u32 v))
      have zb := hz k
      have mb := hm k
      by_cases hkm : k < ms.length
      · obtain ⟨off', rfl, hcm⟩ := hb (by omega)
        have hcx : wr.cell? ⟨g', off' + k, none⟩ = some (.int .u32 (ms.getD k 0)) := by
          rw [World.cell?_of_block (a := ⟨g', off' + k, none⟩) (hN.block g' (hne (by omega)))]
          exact hcm k hkm
        have hB' := hS ((c + zs.getD k 0 + ms.getD k 0) % 4294967296)
        have hN' := hSn ((c + zs.getD k 0 + ms.getD k 0) % 4294967296)
        have tk : decide ((k : Int) < (ms.length : Int)) = true := by simp; omega
        have R' := hide R
        generalize zs.getD k 0 = z at *
        generalize ms.getD k 0 = m at *
        clear hS hSn hcc hO hN hA hl R hyz hcm ha
        go_wp2
        go_roundw
        case rel => exact ⟨k + 1, _, _, by omega, by go_num, rfl, ⟨by omega, by omega⟩, R'.out, hB', hN'⟩
        case measure => simp [intOf]; omega
      · have hm0 : ms.getD k 0 = 0 := by
          rw [List.getD_eq_getElem?_getD, List.getElem?_eq_none (by omega)]
          rfl
        rw [hm0, Int.add_zero] at R
        have hB' := hS ((c + zs.getD k 0) % 4294967296)
        have hN' := hSn ((c + zs.getD k 0) % 4294967296)
        have tk : decide ((k : Int) < (ms.length : Int)) = false := by simp; omega
        have R' := hide R
        generalize zs.getD k 0 = z at *
        clear hS hSn hcc hO hN hA hl R hyz ha hm0 mb
        go_wp2
        go_roundw
        case rel => exact ⟨k + 1, _, _, by omega, by go_num, rfl, ⟨by omega, by omega⟩, R'.out, hB', hN'⟩
        case measure => simp [intOf]; omega
    · obtain rfl : k = zs.length := by omega
      go_wp2
      go_end0
      exact ⟨ys, c, rfl, hA, hO, hN⟩

theorem lval_app (xs : List Int) (n : Nat) : lval (xs ++ (List.replicate (n + 1) (0 : Int)).drop n) = lval xs := by
  have e : (List.replicate (n + 1) (0 : Int)).drop n = [0] := by simp
  rw [e]
  induction xs with
  | nil => rfl
  | cons z r ih => rw [List.cons_append, lval, lval, ih]
theorem lmb_app {xs : List Int} (h : Lmb xs) (n : Nat) : Lmb (xs ++ (List.replicate (n + 1) (0 : Int)).drop n) := by
  have e : (List.replicate (n + 1) (0 : Int)).drop n = [0] := by simp
  rw [e]
  intro i
  by_cases hi : i < xs.length
  · have := h i
    simpa [List.getElem?_append, hi] using this
  · by_cases h2 : i = xs.length
    · subst h2; simp
    · rw [List.getD_eq_getElem?_getD, List.getElem?_eq_none (by simp; omega)]
      decide

/-- A number in limbs, of the call's own, without a limb 0 at its end. -/
def NewNat (w w' : World) (e : Ending) (v : Int) : Prop :=
  ∃ (zs : List Int) (ca : Nat), zs.length ≤ ca ∧ ca ≤ 4096 ∧ e = .returned (.slice (some ⟨w.heap.size, 0, none⟩) zs.length ca) ∧ Own w' w.heap.size (some ⟨w.heap.size, 0, none⟩) .u32 zs ∧ Lmb zs ∧ Top zs ∧ lval zs = v
theorem trimmed {w w' : World} {ys : List Int} {s : Nat} {v : Int} (o : Own w' w.heap.size (some ⟨w.heap.size, 0, none⟩) .u32 ys) (hs : s ≤ ys.length) (hz : ZeroFrom ys s) (ht : 0 < s → ys.getD (s - 1) 0 ≠ 0) (hl : Lmb ys) (hv : lval ys = v)
    (hn : ys.length ≤ 4096) (n : Below w.heap.size w w') : NewNat w w' (.returned (.slice (some ⟨w.heap.size, 0, none⟩) s ys.length)) v ∧ Below w.heap.size w w' := by
  have hlen : (ys.take s).length = s := by simp; omega
  refine ⟨⟨ys.take s, ys.length, by omega, hn, ret_slice hlen.symm, ?_, lmb_take hl s, ?_, by rw [lval_take ys s hz, hv]⟩, n⟩
  · intro h0
    rw [hlen] at h0
    obtain ⟨off, ha, hc⟩ := o (by omega)
    refine ⟨off, ha, fun i hi => ?_⟩
    rw [hlen] at hi
    obtain ⟨c1, c2⟩ := hc i (by omega)
    refine ⟨?_, c2⟩
    rw [c1]
    simp [hi]
  · intro h0
    rw [hlen] at h0 ⊢
    have := ht h0
    simpa [List.getElem?_take, show s - 1 < s by omega] using this

set_option maxHeartbeats 2000000 in
theorem add_any1 (w : World) (g g' : Nat) (a b : Option Addr) (ca cb : Nat) (zs us : List Int) (ha : Rd w g a .u32 zs) (hb : Rd w g' b .u32 us) (hz : Lmb zs) (hu : Lmb us) (hn : zs.length ≤ 2048) (hm : us.length ≤ 2048) :
    Calls Tryz.prog 45 #[.slice a zs.length ca, .slice b us.length cb] w fun e w' => NewNat w w' e (lval zs + lval us) ∧ Below w.heap.size w w' := by
  obtain ⟨i0, hi, hz0, hz1, hz2⟩ := info_parts Tryz.info124
  have hsz : (Tryz.prog.info? 124).map (·.size) = some 1 := by rw [hi]; simp [hz1]
  by_cases hlen : zs.length < us.length
  · have t0 : decide ((zs.length : Int) < (us.length : Int)) = true := by simp; omega
    go_enter Tryz.func45, Tryz.ntmps45
    go_wp2_with (at_make; refine wpList_make_full _ rfl _ _ 66 rfl w.heap.size 124 i0 (.int .u32 0) 1 Tryz.underlying66 hi hz0 hz1 .i64 .i64 _ _ (us.length + 1) rfl rfl (by omega) (by omega) (by rw [hz2]; omega) (by unfold maxLen; omega) (Nat.le_refl _) ?_; intro w1 hown hgrow)
    have hB0 := Blk.of_made hown
    have hN0 : Below w.heap.size w w1 := (Below.refl _ _).grown hgrow (Nat.le_refl _) (by simp)
    obtain ⟨w2, hrun, hB2, hO⟩ := copy_blk (P := Tryz.prog) w1 66 3 124 Tryz.underlying66 hsz hB0 g' b us (hb.up hN0) (by simp) (us.length + 1) cb
    rw [List.length_replicate] at hrun
    have hN2 := hN0.trans (hO.below (Nat.le_refl _))
    have hS : Rd w2 g a .u32 zs := ha.up hN2
    have hgs : 0 < zs.length → g ≠ w.heap.size := fun h => by have := ha.lt h; omega
    have hL : (us ++ (List.replicate (us.length + 1) (0 : Int)).drop us.length).length = us.length + 1 := by simp
    have hlm : Lmb (us ++ (List.replicate (us.length + 1) (0 : Int)).drop us.length) := lmb_app hu _
    have hlv : lval (us ++ (List.replicate (us.length + 1) (0 : Int)).drop us.length) = lval us := lval_app us _
    generalize (us ++ (List.replicate (us.length + 1) (0 : Int)).drop us.length) = ss at *
    have HL := hide hL
    have HV := hide hlv
    rw [hrun]
    clear hown hgrow hB0 hN0 hO hrun hL hlv
    go_wp2_with fail
    rw [← HL.out]
    refine (addInPlace_any w2 w.heap.size _ _ ss g a ca zs hB2.own0 hS hgs hlm hz (by rw [HL.out]; omega) (by omega)).mono ?_
    rintro e w3 ⟨ys, c, rfl, hA, o3, O3⟩
    obtain ⟨y1, y2, y3, _, _⟩ := hA
    have hD := LAddTo.done ⟨y1, y2, y3, by assumption, by assumption⟩ (by rw [HL.out]; omega)
    have hN3 := hN2.trans (O3.below (Nat.le_refl _))
    have hc : c = 0 := by
      have b1 := (lval_bd hu).2
      have b2 := (lval_bd hz).2
      have b3 := p32_mono (show zs.length ≤ us.length by omega)
      have b4 := (lval_bd y2).1
      rw [HV.out, HL.out, Int.pow_succ] at hD
      have b5 := p32_pos us.length
      rcases (show c = 0 ∨ c = 1 by omega) with h | h
      · exact h
      · subst h; omega
    have hv : lval ys = lval zs + lval us := by rw [hc, HV.out] at hD; omega
    have HY := hide y1
    have HVV := hide hv
    clear hD hc hv y1
    go_wp2_with fail
    rw [← HY.out]
    refine (trim_any w3 w.heap.size 0 ys.length ys o3.rd (Nat.le_refl _) (by rw [HY.out, HL.out]; omega)).mono ?_
    rintro e w4 ⟨s, hs, rfl, hzf, htop, rfl⟩
    have hlen : (ys.take s).length = s := by simp; omega
    go_wp2
    go_ret
    exact trimmed o3 hs hzf htop y2 HVV.out (by rw [HY.out, HL.out]; omega) hN3
  · have t0 : decide ((zs.length : Int) < (us.length : Int)) = false := by simp; omega
    go_enter Tryz.func45, Tryz.ntmps45
    go_wp2_with (at_make; refine wpList_make_full _ rfl _ _ 66 rfl w.heap.size 124 i0 (.int .u32 0) 1 Tryz.underlying66 hi hz0 hz1 .i64 .i64 _ _ (zs.length + 1) rfl rfl (by omega) (by omega) (by rw [hz2]; omega) (by unfold maxLen; omega) (Nat.le_refl _) ?_; intro w1 hown hgrow)
    have hB0 := Blk.of_made hown
    have hN0 : Below w.heap.size w w1 := (Below.refl _ _).grown hgrow (Nat.le_refl _) (by simp)
    obtain ⟨w2, hrun, hB2, hO⟩ := copy_blk (P := Tryz.prog) w1 66 3 124 Tryz.underlying66 hsz hB0 g a zs (ha.up hN0) (by simp) (zs.length + 1) ca
    rw [List.length_replicate] at hrun
    have hN2 := hN0.trans (hO.below (Nat.le_refl _))
    have hS : Rd w2 g' b .u32 us := hb.up hN2
    have hgs : 0 < us.length → g' ≠ w.heap.size := fun h => by have := hb.lt h; omega
    have hL : (zs ++ (List.replicate (zs.length + 1) (0 : Int)).drop zs.length).length = zs.length + 1 := by simp
    have hlm : Lmb (zs ++ (List.replicate (zs.length + 1) (0 : Int)).drop zs.length) := lmb_app hz _
    have hlv : lval (zs ++ (List.replicate (zs.length + 1) (0 : Int)).drop zs.length) = lval zs := lval_app zs _
    generalize (zs ++ (List.replicate (zs.length + 1) (0 : Int)).drop zs.length) = ss at *
    have HL := hide hL
    have HV := hide hlv
    rw [hrun]
    clear hown hgrow hB0 hN0 hO hrun hL hlv
    go_wp2_with fail
    rw [← HL.out]
    refine (addInPlace_any w2 w.heap.size _ _ ss g' b cb us hB2.own0 hS hgs hlm hu (by rw [HL.out]; omega) (by omega)).mono ?_
    rintro e w3 ⟨ys, c, rfl, hA, o3, O3⟩
    obtain ⟨y1, y2, y3, _, _⟩ := hA
    have hD := LAddTo.done ⟨y1, y2, y3, by assumption, by assumption⟩ (by rw [HL.out]; omega)
    have hN3 := hN2.trans (O3.below (Nat.le_refl _))
    have hc : c = 0 := by
      have b1 := (lval_bd hz).2
      have b2 := (lval_bd hu).2
      have b3 := p32_mono (show us.length ≤ zs.length by omega)
      have b4 := (lval_bd y2).1
      rw [HV.out, HL.out, Int.pow_succ] at hD
      have b5 := p32_pos zs.length
      rcases (show c = 0 ∨ c = 1 by omega) with h | h
      · exact h
      · subst h; omega
    have hv : lval ys = lval zs + lval us := by rw [hc, HV.out] at hD; omega
    have HY := hide y1
    have HVV := hide hv
    clear hD hc hv y1
    go_wp2_with fail
    rw [← HY.out]
    refine (trim_any w3 w.heap.size 0 ys.length ys o3.rd (Nat.le_refl _) (by rw [HY.out, HL.out]; omega)).mono ?_
    rintro e w4 ⟨s, hs, rfl, hzf, htop, rfl⟩
    have hlen : (ys.take s).length = s := by simp; omega
    go_wp2
    go_ret
    exact trimmed o3 hs hzf htop y2 HVV.out (by rw [HY.out, HL.out]; omega) hN3
end Go.Proofs.YtliahigljoeeoaaGreatDoor

/-
  impl.NumAdd.
-/
namespace Go.Proofs.YtliahigljoeeoaaGreatDoor
set_option maxRecDepth 100000
open Go.RowKit

set_option maxHeartbeats 2000000 in
theorem result_any (w : World) (g : Nat) (a : Option Addr) (cap : Nat) (zs : List Int) (hr : Rd w g a .u32 zs) (hz : Lmb zs) (hn : zs.length ≤ 4096) :
    Calls Tryz.prog 46 #[.slice a zs.length cap] w fun e w' => ∃ t ys, ResOf (lval zs) t ys ∧ NewRes w.heap.size w' e t ys ∧ Below w.heap.size w w' := by
  have hal : Below w.heap.size w (w.alloc (.cells #[.bool false, .slice none 0 0] 30)) := (Below.refl _ _).alloc (Nat.le_refl _) _
  go_enter Tryz.func46, Tryz.ntmps46
  go_wp2_with fail
  refine (bytes_any1 _ g a cap zs (hr.up hal) hz hn).mono ?_
  rintro e w1 ⟨ys, C, ⟨a1, c1, g1, rfl, o1, q1, q2, q3⟩, n1⟩
  have q3' : w.heap.size + 1 ≤ g1 := by simpa using q3
  obtain ⟨k1, k2, k3, k4, k5⟩ := two_kept n1
  have N1 := nxt hal n1
  by_cases h : ys.length ≤ 128
  · have t1 : decide ((ys.length : Int) ≤ 128) = true := by simp; omega
    clear q3 n1
    go_wp2
    obtain ⟨o3, N3⟩ := two_laid (u := .bool true) (v := .slice a1 ys.length c1) N1 o1 (by omega)
    exact bodyPost_ret (v := .agg #[.bool true, .slice a1 ys.length c1]) (by simp [results, Tryz.results46, go_sem, k1, k2]) rfl ⟨true, ys, ⟨ys, C, .inl ⟨h, rfl, rfl⟩⟩, ⟨a1, c1, g1, rfl, o3, q1, q2, by omega⟩, N3⟩
  · have t1 : decide ((ys.length : Int) ≤ 128) = false := by simp; omega
    clear q3 n1
    go_wp2
    obtain ⟨o3, N3⟩ := two_laid (u := .bool false) (v := .slice none 0 0) N1 o1 (by omega)
    exact bodyPost_ret (v := .agg #[.bool false, .slice none 0 0]) (by simp [results, Tryz.results46, go_sem, k1, k2]) rfl ⟨false, [], ⟨ys, C, .inr ⟨by omega, rfl, rfl⟩⟩, NewRes.none N3.size, N3⟩

set_option maxHeartbeats 2000000 in
theorem implNumAdd_any (w : World) (g g' : Nat) (a b : Option Addr) (ca cb : Nat) (xs us : List Int) (ha : Rd w g a .u8 xs) (hb : Rd w g' b .u8 us) (hx : Byt xs) (hu : Byt us) :
    Calls Tryz.prog 15 #[.slice a xs.length ca, .slice b us.length cb] w fun e w' => ∃ t zs, NumOf (xs.length ≤ 128 ∧ us.length ≤ 128) (bval xs + bval us) t zs ∧ NewRes w.heap.size w' e t zs ∧ Below w.heap.size w w' := by
  have hal : Below w.heap.size w (w.alloc (.cells #[.bool false, .slice none 0 0] 30)) := (Below.refl _ _).alloc (Nat.le_refl _) _
  by_cases h1 : xs.length ≤ 128
  · have t1 : decide ((xs.length : Int) ≤ 128) = true := by simp; omega
    by_cases h2 : us.length ≤ 128
    · have t2 : decide ((us.length : Int) ≤ 128) = true := by simp; omega
      go_enter Tryz.func15, Tryz.ntmps15
      go_wp2_with (go_at_call 43; go_in)
      have T0 := Two.new w (.bool false) (.slice none 0 0) 30
      generalize w.alloc (.cells #[.bool false, .slice none 0 0] 30) = wa at *
      refine (readNatural_any wa g a ca xs (ha.up hal) hx h1).mono ?_
      rintro e w1 ⟨zs, c1, l1, m1, rfl, o1, b1, p1, v1, n1, s1⟩
      have V1 := hide v1
      have N1 := nxt hal n1
      clear v1
      go_wp2_with fail
      refine (readNatural_any w1 g' b cb us (hb.up N1) hu h2).mono ?_
      rintro e w2 ⟨ms, c2, l2, m2, rfl, o2, b2, p2, v2, n2, s2⟩
      have V2 := hide v2
      clear v2
      go_wp2_with fail
      refine (add_any1 w2 _ _ _ _ c1 c2 zs ms (o1.up n2).rd o2.rd b1 b2 (by omega) (by omega)).mono ?_
      rintro e w3 ⟨⟨ss, c3, l3, m3, rfl, o3, b3, p3, v3⟩, n3⟩
      have V3 := hide v3
      clear v3
      go_wp2_with fail
      refine (result_any w3 _ _ c3 ss o3.rd b3 (by omega)).mono ?_
      rintro e w4 ⟨t, rs, R, ⟨a4, c4, g4, rfl, o4, q4, r4, s4⟩, n4⟩
      rw [V3.out, V1.out, V2.out] at R
      have n14 := nxt (nxt (nxt n1 n2) n3) n4
      have t0 := T0.lt
      obtain ⟨k1, k2, k3, k4⟩ := T0.up n14
      have N4 := nxt hal n14
      have e1 := n1.size
      have e2 := n2.size
      have e3 := n3.size
      clear o1 o2 o3 n1 n2 n3 n4 n14 N1 s1 s2
      go_wp2
      obtain ⟨o5, N5⟩ := two_laid (u := .bool t) (v := .slice a4 rs.length c4) N4 o4 (by omega)
      exact bodyPost_ret (v := .agg #[.bool t, .slice a4 rs.length c4]) (by simp [results, Tryz.results15, go_sem, k1, k2]) rfl ⟨t, rs, .inl ⟨⟨h1, h2⟩, R⟩, ⟨a4, c4, g4, rfl, o5, q4, r4, by omega⟩, N5⟩
    · have t2 : decide ((us.length : Int) ≤ 128) = false := by simp; omega
      go_enter Tryz.func15, Tryz.ntmps15
      go_wp2
      exact bodyPost_ret (v := .agg #[.bool false, .slice none 0 0]) (by simp [results, Tryz.results15, go_sem]) rfl ⟨false, [], .inr ⟨by omega, rfl, rfl⟩, NewRes.none (by simp), hal⟩
  · have t1 : decide ((xs.length : Int) ≤ 128) = false := by simp; omega
    go_enter Tryz.func15, Tryz.ntmps15
    go_wp2
    exact bodyPost_ret (v := .agg #[.bool false, .slice none 0 0]) (by simp [results, Tryz.results15, go_sem]) rfl ⟨false, [], .inr ⟨by omega, rfl, rfl⟩, NewRes.none (by simp), hal⟩
end Go.Proofs.YtliahigljoeeoaaGreatDoor

/-
  Scaling by a sum: numbers and steps.
-/
namespace Go.Proofs.YtliahigljoeeoaaGreatDoor
set_option maxRecDepth 100000
open Go Go.RowKit

/-- A list that may be read. -/
def LS (xs : List Int) : Fact := ⟨fun v w => ∃ (a : Option Addr) (c g : Nat), v = .slice a xs.length c ∧ Rd w g a .u8 xs ∧ (a = none → c = 0), fun n h => by
  obtain ⟨a, c, g, e, r, k⟩ := h
  exact ⟨a, c, g, e, r.up n, k⟩⟩
theorem pv_mul {p : Int × Int} (hp : Pv p) (k : Nat) : Pv (pMul k p) := ⟨pMul_on hp.on k, pMul_cn k p⟩
theorem sk_of {ks : List Int} (hl : ks.length = 32) {p : Int × Int} (hp : Pv p) : skX ks (lx p) (ly p) = lx (pMul (scV ks) p) ∧ skY ks (lx p) (ly p) = ly (pMul (scV ks) p) := by
  unfold skX skY
  rw [if_pos ⟨hl, lv_valid hp⟩, if_pos ⟨hl, lv_valid hp⟩, lx_num hp, ly_num hp]
  exact ⟨rfl, rfl⟩
section
variable {ops : Array Oper} {Q : Exit → Act → World → Prop} {md : Region.Mode} {F : Nat → Fact} {a0 : Act} {w0 : World} {i : Nat} {o : Oper} {ts : Array TypeId}
theorem step_lsl {P : Program} (hi : ops[i]? = some o) (p : Nat) (hop : o.op = .move (.tmp p)) (hp : apart ops p = true) {a : Option Addr} {c g : Nat} {xs : List Int} (h0 : a0.tmps.getD p undef = .slice a xs.length c) (hr : Rd w0 g a .u8 xs) (hc : a = none → c = 0) (hF : F i = LS xs) : StepOk P md ops Q F a0 w0 i := by
  refine step_pure hi fun b w hb hw _ => ⟨.slice a xs.length c, ?_, by rw [hF]; exact ⟨a, c, g, rfl, hr.up hw, hc⟩⟩
  have e := (based_at hb p hp).trans h0
  simp [execOp, hop, e]
theorem step_lcp (hi : ops[i]? = some o) (p j : Nat) {xs : List Int} (hn : xs.length ≤ 1048576) (hop : o.op = .call { callee := .value (.func 11), args := #[.tmp p], argTypes := ts }) (hj : waits md ops i j p = true) (hFj : F j = LS xs) (hFi : F i = LS xs) : StepOk Tryz.prog md ops Q F a0 w0 i := by
  refine step_call hi _ _ ts hop (by kernel_rfl) fun A w _ hw hF => ?_
  have ea := hF j p hj
  rw [hFj] at ea
  obtain ⟨a, c, g, e1, r, k⟩ := ea
  show Calls Tryz.prog _ #[A.tmps.getD p undef] w _
  rw [e1]
  refine (lwCopyO_any w g a c xs r k hn).mono ?_
  rintro e w' ⟨v, rfl, ho, n⟩
  rw [hFi]
  obtain ⟨a2, c2, g2, e2, o2, k2, _⟩ := Own.of_ownsRow ho
  exact ⟨_, rfl, n, a2, c2, g2, e2, o2.rd, k2⟩
theorem step_lsc (hG : HasG w0) (hi : ops[i]? = some o) (p q j k : Nat) {ks : List Int} (hb : Byt ks) (hl : ks.length = 32) {x : Int × Int} (hx : Pv x) (hop : o.op = .call { callee := .value (.func 28), args := #[.tmp p, .tmp q], argTypes := ts }) (hj : waits md ops i j p = true) (hk : waits md ops i k q = true) (hFj : F j = LS ks) (hFk : F k = RP x) (hFi : F i = RP (pMul (scV ks) x)) : StepOk Tryz.prog md ops Q F a0 w0 i := by
  refine step_call hi _ _ ts hop (by kernel_rfl) fun A w _ hw hF => ?_
  have ea := hF j p hj
  have eb := hF k q hk
  rw [hFj] at ea
  rw [hFk] at eb
  obtain ⟨a, c, g, e1, r, _⟩ := ea
  obtain ⟨a2, a2', c2, c2', g2, g2', e2, r2, r2'⟩ := eb
  show Calls Tryz.prog _ #[A.tmps.getD p undef, A.tmps.getD q undef] w _
  rw [e1, e2]
  refine (implScale_any w g a c ks r hb g2 g2' a2 a2' c2 c2' (lx x) (ly x) r2 r2' (lx_byt x) (ly_byt x) (hG.1.1.up hw) (hG.1.2.1.up hw) (hG.2.up hw) (hG.1.2.2.1.up hw) (hG.1.2.2.2.up hw)).mono ?_
  rintro r w' ⟨h, hn⟩
  rw [hFi]
  obtain ⟨v, e, hv⟩ := rp_of_new2 (sk_of hl hx).1 (sk_of hl hx).2 h
  exact ⟨v, e, hn, hv⟩
theorem step_gbase (hZ : RowN w0 1 0 [bX, bY]) (hi : ops[i]? = some o) (hop : o.op = .call { callee := .value (.func 29), args := #[], argTypes := ts }) (hFi : F i = RP (bX, bY)) : StepOk Tryz.prog md ops Q F a0 w0 i := by
  refine step_call hi _ _ ts hop (by kernel_rfl) fun a w _ hw _ => ?_
  refine (implBase_any w bX bY (hZ.up hw)).mono ?_
  rintro r w' ⟨h, hn⟩
  rw [hFi]
  obtain ⟨v, e, hv⟩ := rp_of_new2 (p := (bX, bY)) (by rw [show bX % PP = bX by decide +kernel]; rfl) (by rw [show bY % PP = bY by decide +kernel]; rfl) h
  exact ⟨v, e, hn, hv⟩
theorem step_gord (hZ : HasW w0 0 qw 4) (hi : ops[i]? = some o) (hop : o.op = .call { callee := .value (.func 17), args := #[], argTypes := ts }) (hFi : F i = LS (fill (byt QQ) 32)) : StepOk Tryz.prog md ops Q F a0 w0 i := by
  refine step_call hi _ _ ts hop (by kernel_rfl) fun a w _ hw _ => ?_
  refine (implOrderBytes_any w (hZ.up hw)).mono ?_
  rintro r w' ⟨⟨a2, c2, g2, rfl, o2, k2, _⟩, hn⟩
  rw [hFi]
  exact ⟨_, rfl, hn, a2, c2, g2, rfl, o2.rd, k2⟩
end
theorem ps_bd {xs : List Int} (hb : Byt xs) : ∀ n, 0 ≤ lsum (fun j => xs.getD j 0) n ∧ lsum (fun j => xs.getD j 0) n < 256 ^ n
  | 0 => by simp [lsum]
  | n + 1 => by
    have ih := ps_bd hb n
    have h := hb n
    show 0 ≤ lsum (fun j => xs.getD j 0) n + xs.getD n 0 * 256 ^ n ∧ lsum (fun j => xs.getD j 0) n + xs.getD n 0 * 256 ^ n < 256 ^ (n + 1)
    have hp : (0 : Int) < 256 ^ n := Int.pow_pos (by decide)
    have e : (256 : Int) ^ (n + 1) = 256 ^ n * 256 := Int.pow_succ 256 n
    rw [e]
    generalize (256 : Int) ^ n = P at *
    have h1 : 0 ≤ xs.getD n 0 * P := Int.mul_nonneg h.1 (by omega)
    have h2 : xs.getD n 0 * P ≤ 255 * P := Int.mul_le_mul_of_nonneg_right (by omega) (by omega)
    omega
theorem ps_num {xs : List Int} (hb : Byt xs) (hl : xs.length = 32) : num xs = (scV xs : Int) := by
  have := (ps_bd hb 32).1
  unfold num scV
  rw [hl]
  omega
theorem ps_top {xs : List Int} (hb : Byt xs) (hl : xs.length = 32) (h0 : xs.getD 31 0 = 0) : num xs < 256 ^ 31 := by
  have := (ps_bd hb 31).2
  unfold num
  rw [hl]
  show lsum (fun j => xs.getD j 0) 31 + xs.getD 31 0 * 256 ^ 31 < _
  rw [h0]
  omega
theorem ps_fill {ss : List Int} (n : Nat) (hl : ss.length ≤ n) : num (fill (dig ss) n) = bval ss := by
  unfold num
  rw [fill_len, ← lo_all ss n hl]
  refine (lo_lsum n (fun i hi => ?_)).symm
  show dig ss i = (fill (dig ss) n).getD i 0
  rw [fill_get _ _ _ hi]
theorem ps_ge {ys : List Int} {v : Int} (h : Canon ys v) (h0 : 0 < ys.length) : 256 ^ (ys.length - 1) ≤ v := by
  have e := bval_lo ys (ys.length - 1)
  have b := lo_bd h.1 (ys.length - 1)
  have d : dig ys (ys.length - 1) = ys.getD 0 0 := by unfold dig; rw [if_pos (by omega), show ys.length - 1 - (ys.length - 1) = 0 by omega]
  have p := h.1 0
  have q := h.2.2 h0
  rw [hi_step, hi_past ys _ (by omega), d, h.2.1] at e
  have : 1 * 256 ^ (ys.length - 1) ≤ (0 * 256 + ys.getD 0 0) * 256 ^ (ys.length - 1) := Int.mul_le_mul_of_nonneg_right (by omega) (by have := p256_pos (ys.length - 1); omega)
  omega
theorem ps_clen {ys : List Int} {v : Int} {n : Nat} (h : Canon ys v) (hv : v < 256 ^ n) : ys.length ≤ n := by
  by_cases h0 : n < ys.length
  · have g := ps_ge h (by omega)
    have : (256 : Int) ^ n ≤ 256 ^ (ys.length - 1) := by
      rw [show ys.length - 1 = n + (ys.length - 1 - n) by omega, Int.pow_add]
      have p := p256_pos n
      have q := p256_pos (ys.length - 1 - n)
      have := Int.mul_le_mul_of_nonneg_left (show (1 : Int) ≤ 256 ^ (ys.length - 1 - n) by omega) (show (0 : Int) ≤ 256 ^ n by omega)
      omega
    omega
  · omega
theorem ps_sum {K L ys us zs bs : List Int} {t : Bool} (hK : Byt K) (lK : K.length = 32) (zK : K.getD 31 0 = 0) (hL : Byt L) (lL : L.length = 32) (zL : L.getD 31 0 = 0) (h1 : bval ys = num K) (h2 : bval us = num L) (l1 : ys.length = 32) (l2 : us.length = 32)
    (hN : NumOf (ys.length ≤ 128 ∧ us.length ≤ 128) (bval ys + bval us) t zs) (hT : TurnOf zs 32 bs) : t = true ∧ bs.length = 32 ∧ Byt bs ∧ scV bs = scV K + scV L := by
  have tK := ps_top hK lK zK
  have tL := ps_top hL lL zL
  rcases hN with ⟨_, c, hc, h | h⟩ | ⟨h, _⟩
  · obtain ⟨_, rfl, rfl⟩ := h
    have hv : bval ys + bval us < 256 ^ 32 := by
      rw [h1, h2, show (256 : Int) ^ 32 = 256 ^ 31 * 256 from rfl]
      omega
    have cl := ps_clen hc hv
    have hbs : bs = fill (dig zs) 32 := by
      rcases hT with ⟨_, d, hd, h | h⟩ | ⟨h, _⟩
      · exact h.2
      · have := ps_clen hd (n := 32) (by rw [hc.2.1]; exact hv)
        omega
      · exact absurd ⟨by omega, by omega, by omega⟩ h
    have hlen : bs.length = 32 := by rw [hbs, fill_len]
    have hby : Byt bs := by
      rw [hbs]
      exact byt_fill (fun i => by have := dig_byt hc.1 i; omega) 32
    refine ⟨rfl, hlen, hby, ?_⟩
    have e := ps_num hby hlen
    have e2 : num bs = bval zs := by rw [hbs, ps_fill 32 cl]
    rw [e2, hc.2.1, h1, h2, ps_num hK lK, ps_num hL lL] at e
    omega
  · exfalso
    have hv : bval ys + bval us < 256 ^ 32 := by
      rw [h1, h2, show (256 : Int) ^ 32 = 256 ^ 31 * 256 from rfl]
      omega
    have := ps_clen hc hv
    omega
  · exact absurd ⟨by omega, by omega⟩ h
theorem ps_Q : scV (fill (byt QQ) 32) = Q25519 := by decide +kernel
theorem ps_add {p : Int × Int} (hp : Pv p) (k l : Nat) : pAdd (pMul k p) (pMul l p) = pMul (k + l) p := pMul_add hp.on k l
end Go.Proofs.YtliahigljoeeoaaGreatDoor

/-
  The law of PointBase.
-/
namespace Go.Proofs.YtliahigljoeeoaaGreatDoor
set_option maxRecDepth 100000
open Go Go.RowKit

/-- The limbs of the base's coordinates. -/
def bxL : Nat → Int
  | 0 => 1738742601995546
  | 1 => 1146398526822698
  | 2 => 2070867633025821
  | 3 => 562264141797630
  | 4 => 587772402128613
  | _ => 0
def byL : Nat → Int
  | 0 => 1801439850948184
  | 1 => 1351079888211148
  | 2 => 450359962737049
  | 3 => 900719925474099
  | 4 => 1801439850948198
  | _ => 0
theorem bxL_is : Is5 bxL bX := ⟨by unfold Lm; decide, by decide +kernel⟩
theorem byL_is : Is5 byL bY := ⟨by unfold Lm; decide, by decide +kernel⟩
theorem bp_of_reads {W : World} (h : Lib.VarReads Tryz.prog W "loop.example/g00004/impl.basePoint" Rows.laid_loop_example_g00004_impl_basePoint) : RowN W 1 0 [bX, bY] := row_of_reads bxL byL bX bY gBp tBp h bxL_is byL_is
abbrev HasBp (w : World) : Prop := RowN w 1 0 [bX, bY]
end Go.Proofs.YtliahigljoeeoaaGreatDoor

/-
  What the listed words of the order give the walks: their cells.
-/
namespace Go.Proofs.YtliahigljoeeoaaGreatDoor
set_option maxRecDepth 100000
open Go.RowKit

theorem gOg : Tryz.prog.globalNamed "loop.example/g00004/impl.orderOfGroup" = some 0 := by kernel_rfl
theorem tOg : (Tryz.prog.globals[0]?).map (·.type) = some 53 := by kernel_rfl
theorem uSc : Tryz.prog.underlying 53 = some (.array 4 51) := by kernel_rfl
theorem cSc : Tryz.prog.cellsOf 53 = 4 := by kernel_rfl
theorem cW : Tryz.prog.cellsOf 51 = 1 := by kernel_rfl
theorem four_of_reads {W : World} {n : String} {g : Nat} {x y z u : Int} (hn : Tryz.prog.globalNamed n = some g) (ht : (Tryz.prog.globals[g]?).map (·.type) = some 53)
    (h : Lib.VarReads Tryz.prog W n (.agg [.lit (.int .u64 x), .lit (.int .u64 y), .lit (.int .u64 z), .lit (.int .u64 u)])) (f : Nat → Int) (hf : f 0 = x ∧ f 1 = y ∧ f 2 = z ∧ f 3 = u) : HasW W g f 4 := by
  obtain ⟨g', t, cs, fuel, p, hg, ht', hv, hd⟩ := h
  obtain rfl := Option.some.inj (hn.symm.trans hg)
  obtain rfl := Option.some.inj (ht.symm.trans ht')
  have hcs := Lib.cells_of_tab (zs := [x, y, z, u]) uSc Tryz.underlying51 cW cSc hd
  obtain ⟨rfl, rfl, rfl, rfl⟩ := hf
  intro k hk
  rw [World.var?_cell hg hv k]
  obtain ⟨l⟩ := cs
  simp only at hcs
  subst hcs
  obtain rfl | rfl | rfl | rfl : k = 0 ∨ k = 1 ∨ k = 2 ∨ k = 3 := by omega
  all_goals rfl
theorem q_of_reads {W : World} (h : Lib.VarReads Tryz.prog W "loop.example/g00004/impl.orderOfGroup" Rows.laid_loop_example_g00004_impl_orderOfGroup) : HasW W 0 qw 4 := four_of_reads gOg tOg h qw ⟨rfl, rfl, rfl, rfl⟩
/-- All three of them. -/
def HasO (W : World) : Prop := HasW W 0 qw 4 ∧ HasW W 5 q16 4 ∧ HasW W 4 (fun k => fw (k / 4) (k % 4)) 16
theorem HasO.up {W W' : World} (h : HasO W) (n : Below W.heap.size W W') : HasO W' := ⟨h.1.up n, h.2.1.up n, h.2.2.up n⟩
end Go.Proofs.YtliahigljoeeoaaGreatDoor

/-
  The law FnPointScales.
-/
namespace Go.Proofs.YtliahigljoeeoaaGreatDoor
set_option maxRecDepth 100000
open Go Go.RowKit

structure HasP (w : World) : Prop where
  G : HasG w
  B : HasBp w
  O : HasW w 0 qw 4
theorem HasP.up {w w' : World} (h : HasP w) (n : Below w.heap.size w w') : HasP w' := ⟨h.G.up n, RowN.up h.B n, h.O.up n⟩
theorem set_byt {xs : List Int} (h : Byt xs) (i : Nat) : Byt (xs.set i 0) := fun j => by
  by_cases e : i = j
  · subst e
    by_cases hl : i < xs.length
    · rw [getD_set_self _ _ _ hl]
      decide
    · rw [List.set_eq_of_length_le (by omega)]
      exact h i
  · rw [getD_set_ne _ _ _ _ e]
    exact h j
set_option maxHeartbeats 16000000 in
theorem pscales_law (w : World) (g0 : Nat) (a0 : Option Addr) (c0 : Nat) (X0 : List Int) (hX0 : Rd w g0 a0 .u8 X0) (bX0 : Byt X0) (g1 : Nat) (a1 : Option Addr) (c1 : Nat) (X1 : List Int) (hX1 : Rd w g1 a1 .u8 X1) (bX1 : Byt X1) (hL : HasP w) :
    Calls Tryz.prog 5 #[.slice a0 X0.length c0, .slice a1 X1.length c1] w fun e w' => e = .returned (.bool true) ∧ Below w.heap.size w w' := by
  by_cases h0 : X0.length ≤ 1048576
  · have t0 : decide ((1048576 : Int) < (X0.length : Int)) = false := by simp; omega
    by_cases h1 : X1.length ≤ 1048576
    · have t1 : decide ((1048576 : Int) < (X1.length : Int)) = false := by simp; omega
      obtain ⟨p, hp, ep⟩ := lpP_is (xs := X0)
      have LP0 := lwPoint_any w g0 a0 c0 X0 hX0 bX0 (by omega)
      rw [ep] at LP0
      have LH0 := hide LP0
      have SX := hide (fun W (n : Below w.heap.size w W) => lwSixY_any W g1 g0 a1 a0 c1 c0 X1 X0 (hX1.up n) (hX0.up n) bX1 bX0 h1 h0)
      have HL := hide (fun W (n : Below w.heap.size w W) => hL.up n)
      clear LP0 ep hL hX0 hX1
      simp only [] at LH0
      go_enter Tryz.func5, Tryz.ntmps5
      go_wp2_with fail
      refine LH0.out.mono ?_
      rintro r w1 ⟨⟨x1, y1, d1, e1, gx, gy, rfl, ox, oy, _, _⟩, n1⟩
      have rx := ox.rd
      have ry := oy.rd
      have T1 := Two.new w1 (.slice x1 (lx p).length d1) (.slice y1 (ly p).length e1) 37
      have m1 : Below w1.heap.size w1 (w1.alloc (.cells #[.slice x1 (lx p).length d1, .slice y1 (ly p).length e1] 37)) := (Below.refl _ _).alloc (Nat.le_refl _) _
      have N1 := nxt n1 m1
      replace rx := rx.up m1
      replace ry := ry.up m1
      clear LH0 ox oy n1
      go_upto_region 4 with fail
      generalize w1.alloc (.cells #[.slice x1 (lx p).length d1, .slice y1 (ly p).length e1] 37) = W1 at *
      clear m1
      have SX1 := hide (SX.out W1 N1)
      clear SX
      have lp := hide (lx_len p)
      have lq := hide (ly_len p)
      generalize w1.heap.size = b1 at *
      go_wp2_with fail
      refine SX1.out.mono ?_
      rintro r w2 ⟨q, k1, k2, k3, X, Y, Z, rfl, cX, _, cZ, oX, _, oZ, HB, HS, n2⟩
      have N2 := nxt N1 n2
      have lt1 := T1.lt
      have lgx := rx.lt (by rw [lp.out]; decide)
      have lgy := ry.lt (by rw [lq.out]; decide)
      replace T1 := T1.up n2
      replace rx := rx.up n2
      replace ry := ry.up n2
      clear SX1 n2
      obtain ⟨⟨bX, lX⟩, -, bZ, lZ⟩ := HB.out
      obtain ⟨s1, s2, s3⟩ := HS.out
      have hb1 : b1 < k1 := by omega
      have hgx : gx < k1 := by omega
      have hgy : gy < k1 := by omega
      have hk1 : w.heap.size ≤ k1 := by have := N1.size; omega
      clear HB HS lgx lgy lt1 N1 s1
      have LX := hide lX
      have LZ := hide lZ
      clear lX lZ
      -- the last byte of each is set to 0
      have sX := oX.store 31 (by rw [LX.out]; decide) 0
      obtain ⟨off1, e1', hc1⟩ := oX (by rw [LX.out]; decide)
      obtain rfl : off1 = 0 := by simpa using e1'.symm
      have cx31 := (hc1 31 (by rw [LX.out]; decide)).1
      have fx31 := (hc1 31 (by rw [LX.out]; decide)).2
      rw [Nat.zero_add] at sX cx31 fx31
      have O1 := Only.setCell w2 k1 31 (.int .u8 0)
      have T2 := T1.of_block (O1.block b1 (by omega))
      have rx2 := rx.of_block (O1.block gx (by omega))
      have ry2 := ry.of_block (O1.block gy (by omega))
      have oZ2 := oZ.of_block (O1.block k3 (by omega))
      have cZ2 : (w2.setCell ⟨k1, 31, none⟩ (.int .u8 0)).cell? ⟨q, 2, none⟩ = some (.slice (some ⟨k3, 0, none⟩) Z.length 32) := (World.cell?_of_block (a := ⟨q, 2, none⟩) (O1.block q (by omega))).trans cZ
      have N3 : Below w.heap.size w (w2.setCell ⟨k1, 31, none⟩ (.int .u8 0)) := N2.setCell hk1 _
      have X31 : (X.set 31 0).getD 31 0 = 0 := getD_set_self _ _ _ (by rw [LX.out]; decide)
      have Z31 : (Z.set 31 0).getD 31 0 = 0 := getD_set_self _ _ _ (by rw [LZ.out]; decide)
      clear e1' hc1 O1 T1 rx ry
      have lx31 : (31 : Int) < (X.length : Int) := by rw [LX.out]; decide
      have lz31 : (31 : Int) < (Z.length : Int) := by rw [LZ.out]; decide
      go_upto_region 8 with fail
      generalize w2.setCell ⟨k1, 31, none⟩ (.int .u8 0) = w3 at *
      clear cX cZ N2 oX oZ cx31 fx31 cZ2
      have sZ := oZ2.store 31 (by rw [LZ.out]; decide) 0
      obtain ⟨off3, e3', hc3⟩ := oZ2 (by rw [LZ.out]; decide)
      obtain rfl : off3 = 0 := by simpa using e3'.symm
      have cz31 := (hc3 31 (by rw [LZ.out]; decide)).1
      have fz31 := (hc3 31 (by rw [LZ.out]; decide)).2
      rw [Nat.zero_add] at sZ cz31 fz31
      have O3 := Only.setCell w3 k3 31 (.int .u8 0)
      have T3 := T2.of_block (O3.block b1 (by omega))
      have rx3 := rx2.of_block (O3.block gx (by omega))
      have ry3 := ry2.of_block (O3.block gy (by omega))
      have sX3 := sX.of_block (O3.block k1 (by omega))
      have N4 : Below w.heap.size w (w3.setCell ⟨k3, 31, none⟩ (.int .u8 0)) := N3.setCell (show w.heap.size ≤ k3 by omega) _
      clear e3' hc3 O3 T2 rx2 ry2 sX oZ2
      go_upto_region 9 with fail
      generalize w3.setCell ⟨k3, 31, none⟩ (.int .u8 0) = w4 at *
      clear N3 cz31 fz31 hb1 hgx hgy hk1 s2 s3
      have bK := set_byt bX 31
      have bJ := set_byt bZ 31
      have lK : Hid ((X.set 31 0).length = 32) := by show _ = _; rw [List.length_set]; exact LX.out
      have lJ : Hid ((Z.set 31 0).length = 32) := by show _ = _; rw [List.length_set]; exact LZ.out
      have eX : X.length = (X.set 31 0).length := by rw [List.length_set]
      have eZ : Z.length = (Z.set 31 0).length := by rw [List.length_set]
      rw [eX, eZ]
      clear lx31 lz31 eX eZ LX LZ bX bZ
      generalize X.set 31 0 = K at *
      generalize Z.set 31 0 = J at *
      have rK := sX3.rd
      have rJ := sZ.rd
      clear sX3 sZ
      go_wp2_with fail
      refine (lwTurn_any w4 k1 _ 32 K rK bK (by rw [lK.out]; decide)).mono ?_
      rintro r w5 ⟨ys, TY, bY, ⟨ay, cy, gy', rfl, oY, _, _, _⟩, n5⟩
      go_wp2_with fail
      refine (lwTurn_any w5 k3 _ 32 J (rJ.up n5) bJ (by rw [lJ.out]; decide)).mono ?_
      rintro r w6 ⟨us, TU, bU, ⟨au, cu, gu, rfl, oU, _, _, _⟩, n6⟩
      go_wp2_with fail
      refine (implNumAdd_any w6 gy' gu ay au cy cu ys us (oY.up n6).rd oU.rd bY bU).mono ?_
      rintro r w7 ⟨t, zs, hN, ⟨az, cz, gz, rfl, oz, _, kz, _⟩, n7⟩
      have M7 := nxt (nxt n5 n6) n7
      have N7 := nxt N4 M7
      replace T3 := T3.up M7
      replace rx3 := rx3.up M7
      replace ry3 := ry3.up M7
      replace rK := rK.up M7
      replace rJ := rJ.up M7
      have vy : Hid (bval ys = num K) := TY.val
      have vu : Hid (bval us = num J) := TU.val
      have ly' : Hid (ys.length = 32) := by show _ = _; rw [TY.1]; exact lK.out
      have lu' : Hid (us.length = 32) := by show _ = _; rw [TU.1]; exact lJ.out
      have HN := hide hN
      have bz : Byt zs := by
        rcases hN with ⟨_, c, hc, h | h⟩ | ⟨_, _, rfl⟩
        · rw [h.2.2]; exact hc.1
        · rw [h.2.2]; exact byt_nil
        · exact byt_nil
      have lz : zs.length ≤ 128 := hN.len
      clear hN M7 n5 n6 n7 N4 TY TU oY oU bY bU
      have T8 := Two.new w7 (.bool t) (.slice az zs.length cz) 30
      have m8 : Below w7.heap.size w7 (w7.alloc (.cells #[.bool t, .slice az zs.length cz] 30)) := (Below.refl _ _).alloc (Nat.le_refl _) _
      have N8 := nxt N7 m8
      replace T3 := T3.up m8
      replace rx3 := rx3.up m8
      replace ry3 := ry3.up m8
      replace rK := rK.up m8
      replace rJ := rJ.up m8
      replace oz := oz.up m8
      clear m8 N7
      go_upto_region 10 with fail
      generalize w7.alloc (.cells #[.bool t, .slice az zs.length cz] 30) = w8 at *
      generalize w7.heap.size = b8 at *
      have c80 := T8.c0
      have c81 := T8.c1
      go_wp2_with fail
      refine (implNumTurn_any w8 gz az cz zs 32 oz.rd bz kz (by omega)).mono ?_
      rintro r w9 ⟨bs, hT, ⟨ab, cb, gb, rfl, ob, kb, _, _⟩, n9⟩
      obtain ⟨rfl, lb', bB, eS⟩ := ps_sum bK lK.out X31 bJ lJ.out Z31 vy.out vu.out ly'.out lu'.out HN.out hT
      have lb := hide lb'
      have ES := hide eS
      have N9 := nxt N8 n9
      replace T8 := T8.up n9
      replace T3 := T3.up n9
      replace rx3 := rx3.up n9
      replace ry3 := ry3.up n9
      replace rK := rK.up n9
      replace rJ := rJ.up n9
      have d80 := T8.c0
      have rb := ob.rd
      have lbi : ((bs.length : Int) == 32) = true := by rw [lb']; rfl
      have lbi' : ((bs.length : Int) != 32) = false := by rw [lb']; rfl
      clear hT HN lb' eS n9 N8 c80 c81 oz T8 vy vu ly' lu' bz lz ob
      have HP := HL.out w9 N9
      go_upto_region 13 with fail
      refine region_end 14 (fun i => [LS K, LS K, RP p, RP (pMul (scV K) p), LS J, LS J, RP p, RP (pMul (scV J) p), RP (pAdd (pMul (scV K) p) (pMul (scV J) p)), LS bs, RP p, RP (pMul (scV bs) p), Fact.eq (.bool true), Fact.eq (.bool (!true))].getD i Fact.no) (by kernel_rfl) (by kernel_rfl) rfl ?_ ?_
      · intro i hi
        obtain rfl | rfl | rfl | rfl | rfl | rfl | rfl | rfl | rfl | rfl | rfl | rfl | rfl | rfl : i = 0 ∨ i = 1 ∨ i = 2 ∨ i = 3 ∨ i = 4 ∨ i = 5 ∨ i = 6 ∨ i = 7 ∨ i = 8 ∨ i = 9 ∨ i = 10 ∨ i = 11 ∨ i = 12 ∨ i = 13 := by omega
        · exact step_lsl rfl 7 rfl (by kernel_rfl) rfl rK (by simp) rfl
        · exact step_lcp rfl 50 0 (by rw [lK.out]; decide) rfl (by kernel_rfl) rfl rfl
        · exact step_gload rfl 5 rfl (by kernel_rfl) _ rfl T3 rx3 ry3 rfl
        · exact step_lsc HP.G rfl 51 52 1 2 bK lK.out hp rfl (by kernel_rfl) (by kernel_rfl) rfl rfl rfl
        · exact step_lsl rfl 8 rfl (by kernel_rfl) rfl rJ (by simp) rfl
        · exact step_lcp rfl 54 4 (by rw [lJ.out]; decide) rfl (by kernel_rfl) rfl rfl
        · exact step_gload rfl 5 rfl (by kernel_rfl) _ rfl T3 rx3 ry3 rfl
        · exact step_lsc HP.G rfl 55 56 5 6 bJ lJ.out hp rfl (by kernel_rfl) (by kernel_rfl) rfl rfl rfl
        · exact step_gadd HP.G.1 rfl 53 57 3 7 (pv_mul hp _) (pv_mul hp _) rfl (by kernel_rfl) (by kernel_rfl) rfl rfl rfl
        · exact step_lsl rfl 10 rfl (by kernel_rfl) rfl rb kb rfl
        · exact step_gload rfl 5 rfl (by kernel_rfl) _ rfl T3 rx3 ry3 rfl
        · exact step_lsc HP.G rfl 59 60 9 10 bB lb.out hp rfl (by kernel_rfl) (by kernel_rfl) rfl rfl rfl
        · exact step_gsame rfl 58 61 8 11 rfl (by kernel_rfl) (by kernel_rfl) rfl (by show RP (pMul (scV bs) p) = _; rw [ES.out, ps_add hp]) rfl
        · exact step_notb rfl 62 12 rfl (by kernel_rfl) rfl rfl
      intro A W4 hb hw hF
      have e2 := hF 13 63 (by kernel_rfl)
      obtain ⟨vs, hvs⟩ : ∃ vs : Nat → Value, ∀ d, A.tmps.getD d undef = vs d := ⟨_, fun _ => rfl⟩
      rw [hvs] at e2
      rw [puts_of (md := .any) (k := 14) (by kernel_rfl) rfl hb vs hvs]
      clear hb hF hvs
      have e3 : vs 63 = .bool false := e2
      clear e2
      simp only [puts, e3, Act.put, List.setIfInBounds_toArray, List.set_cons_succ, List.set_cons_zero]
      clear e3
      have N10 := nxt N9 hw
      have HP2 := HL.out W4 N10
      clear hw N9 T3 rx3 ry3 rK rJ rb HP d80
      go_upto_region 15 with fail
      refine region_end 6 (fun i => [LS (fill (byt QQ) 32), RP (Go.Proofs.YtliahigljoeeoaaGreatDoor.bX, Go.Proofs.YtliahigljoeeoaaGreatDoor.bY), RP (pMul (scV (fill (byt QQ) 32)) (Go.Proofs.YtliahigljoeeoaaGreatDoor.bX, Go.Proofs.YtliahigljoeeoaaGreatDoor.bY)), RP pZero, Fact.eq (.bool true), Fact.eq (.bool true)].getD i Fact.no) (by kernel_rfl) (by kernel_rfl) rfl ?_ ?_
      · intro i hi
        obtain rfl | rfl | rfl | rfl | rfl | rfl : i = 0 ∨ i = 1 ∨ i = 2 ∨ i = 3 ∨ i = 4 ∨ i = 5 := by omega
        · exact step_gord HP2.O rfl rfl rfl
        · exact step_gbase HP2.B rfl rfl rfl
        · exact step_lsc HP2.G rfl 64 65 0 1 (bytes_5 _ _) (fill_len _ _) pv_base rfl (by kernel_rfl) (by kernel_rfl) rfl rfl rfl
        · exact step_gzero HP2.G.2 rfl rfl rfl
        · exact step_gsame rfl 66 67 2 3 rfl (by kernel_rfl) (by kernel_rfl) (by show RP (pMul (scV (fill (byt QQ) 32)) (Go.Proofs.YtliahigljoeeoaaGreatDoor.bX, Go.Proofs.YtliahigljoeeoaaGreatDoor.bY)) = RP pZero; rw [ps_Q, pMul_base_Q]; rfl) rfl rfl
        · exact step_move rfl 68 4 (by exact Or.inr rfl) (by kernel_rfl) rfl
      intro A W5 hb hw hF
      have e4 := hF 5 4 (by kernel_rfl)
      obtain ⟨vs5, hvs5⟩ : ∃ vs : Nat → Value, ∀ d, A.tmps.getD d undef = vs d := ⟨_, fun _ => rfl⟩
      rw [hvs5] at e4
      rw [puts_of (md := .any) (k := 6) (by kernel_rfl) rfl hb vs5 hvs5]
      clear hb hF hvs5
      have e5 : vs5 4 = .bool true := e4
      clear e4
      simp only [puts, e5, Act.put, List.setIfInBounds_toArray, List.set_cons_succ, List.set_cons_zero]
      clear e5 HP2
      have N11 := nxt N10 hw
      clear hw N10
      go_wp2
      go_ret
      exact ⟨rfl, N11⟩
    · have t1 : decide ((1048576 : Int) < (X1.length : Int)) = true := by simp; omega
      go_enter Tryz.func5, Tryz.ntmps5
      go_wp2
      go_ret
      exact ⟨rfl, Below.refl _ _⟩
  · have t0 : decide ((1048576 : Int) < (X0.length : Int)) = true := by simp; omega
    go_enter Tryz.func5, Tryz.ntmps5
    go_wp2
    go_ret
    exact ⟨rfl, Below.refl _ _⟩
theorem laid_pscales {W : World} (h : laidMetH Tryz.prog Rows.fnPointScalesRow.laid W) : HasP W :=
  ⟨⟨hasA_of h (by kernel_rfl) (.head _) (.tail _ (.head _)) (.tail _ (.tail _ (.head _))) (.tail _ (.tail _ (.tail _ (.tail _ (.head _))))), zp_of_reads (reads_of h (by kernel_rfl) (.tail _ (.tail _ (.tail _ (.tail _ (.tail _ (.head _)))))))⟩, bp_of_reads (reads_of h (by kernel_rfl) (.tail _ (.tail _ (.tail _ (.tail _ (.tail _ (.tail _ (.head _)))))))), q_of_reads (reads_of h (by kernel_rfl) (.tail _ (.tail _ (.tail _ (.head _)))))⟩
end Go.Proofs.YtliahigljoeeoaaGreatDoor
