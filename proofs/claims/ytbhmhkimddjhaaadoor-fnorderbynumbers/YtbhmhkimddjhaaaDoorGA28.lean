import Derived.Test.YtbhmhkimddjhaaaDoorGA26
import Derived.Test.YtbhmhkimddjhaaaDoorGA27
/-
  Limbs: into bytes, and sums in place.
-/
namespace Go.Proofs.YtbhmhkimddjhaaaDoor
set_option maxRecDepth 100000
open Go.RowKit

set_option maxHeartbeats 2000000 in
theorem bytes_any1 (w : World) (g : Nat) (a : Option Addr) (cap : Nat) (zs : List Int) (hr : Rd w g a .u32 zs) (hz : Lmb zs) (hn : zs.length ≤ 4096) :
    Calls Tryd.prog 68 #[.slice a zs.length cap] w fun e w' => ∃ ys, Canon ys (lval zs) ∧ NewRow w.heap.size w' e .u8 ys ∧ Below w.heap.size w w' := by
  obtain ⟨i0, hi, hz0, hz1, hz2⟩ := info_parts Tryd.info5
  go_enter Tryd.func68, Tryd.ntmps68
  go_wp2_with (at_make; refine wpList_make_full _ rfl _ _ 22 rfl w.heap.size 5 i0 (.int .u8 0) 1 Tryd.underlying22 hi hz0 hz1 .i64 .i64 _ _ (4 * zs.length) rfl rfl (by omega) (by omega) (by rw [hz2]; omega) (by unfold maxLen; omega) (Nat.le_refl _) ?_; intro w1 hown hgrow)
  have hB0 := Blk.of_made hown
  have hN0 : Below w.heap.size w w1 := (Below.refl _ _).grown hgrow (Nat.le_refl _) (by simp)
  clear hown hgrow
  go_loopw [11] (fun i wr => ∃ (k : Nat) (ys : List Int), k ≤ 4 * zs.length ∧ i = .int .i64 k ∧ DigTo (lb zs) ys (4 * zs.length) k ∧ Blk wr w.heap.size .u8 ys ∧ Below w.heap.size w wr) (fun i _ => 4 * zs.length - (intOf i).toNat)
  case atStart => exact ⟨0, _, Nat.zero_le _, rfl, ⟨by simp, byt_zeros _, fun j h => absurd h (by omega)⟩, hB0, hN0⟩
  case round =>
    obtain ⟨k, ys, hk, rfl, hcp, hB, hN⟩ := hrel
    by_cases hlt : k < 4 * zs.length
    · obtain ⟨off, rfl, hc⟩ := hr (by omega)
      have hg := hr.lt (by omega)
      have R := hcp.step hlt (lb_bd zs k).1 (lb_bd zs k).2
      obtain ⟨q, hq⟩ : ∃ q : Nat, k / 4 = q := ⟨_, rfl⟩
      obtain ⟨p, hp⟩ : ∃ p : Nat, 4 * zs.length - 1 - k = p := ⟨_, rfl⟩
      have hcx : wr.cell? ⟨g, off + q, none⟩ = some (.int .u32 (zs.getD q 0)) := (hN.cell (p := ⟨g, off + q, none⟩) hg).trans (hc q (by omega))
      have HL : Hid (lb zs k = zs.getD q 0 / 256 ^ (k % 4) % 256) := by show _ = _; unfold lb; rw [hq]
      have hzq := hz q
      have hl : ys.length = 4 * zs.length := hcp.1
      have hcy : wr.cell? ⟨w.heap.size, p, none⟩ = some (.int .u8 (ys.getD p 0)) := hB.cell (by omega)
      have hfy := hB.free p
      have hB' := hB.store p (lb zs k)
      have hN' : Below w.heap.size w (wr.setCell ⟨w.heap.size, p, none⟩ (.int .u8 (lb zs k))) := hN.setCell (Nat.le_refl _) _
      rw [hp] at R
      have p1 : 4 * (zs.length : Int) - 1 - (k : Int) = (p : Int) := by omega
      have p2 : (p : Int) < 4 * (zs.length : Int) := by omega
      have q1 : (k : Int) / 4 = (q : Int) := by omega
      have q2 : (q : Int) < (zs.length : Int) := by omega
      generalize zs.getD q 0 = z at *
      clear hp hc hcp hB hN hl hq
      rcases (show k % 4 = 0 ∨ k % 4 = 1 ∨ k % 4 = 2 ∨ k % 4 = 3 by omega) with h4 | h4 | h4 | h4
      · have r1 : (k : Int) % 4 = 0 := by omega
        have hv : z % 256 = lb zs k := by rw [HL.out, h4]; simp
        obtain ⟨x, hx⟩ : ∃ x, lb zs k = x := ⟨_, rfl⟩
        rw [hx] at hv hB' hN' R
        have R' := hide R
        clear R HL hx h4
        go_wp2
        go_roundw
        case rel => exact ⟨k + 1, _, by omega, by go_num, R'.out, hB', hN'⟩
        case measure => simp [intOf]; omega
      · have r1 : (k : Int) % 4 = 1 := by omega
        have hv : z / 256 % 256 = lb zs k := by rw [HL.out, h4]; simp
        obtain ⟨x, hx⟩ : ∃ x, lb zs k = x := ⟨_, rfl⟩
        rw [hx] at hv hB' hN' R
        have R' := hide R
        clear R HL hx h4
        go_wp2
        go_roundw
        case rel => exact ⟨k + 1, _, by omega, by go_num, R'.out, hB', hN'⟩
        case measure => simp [intOf]; omega
      · have r1 : (k : Int) % 4 = 2 := by omega
        have hv : z / 65536 % 256 = lb zs k := by rw [HL.out, h4]; simp
        obtain ⟨x, hx⟩ : ∃ x, lb zs k = x := ⟨_, rfl⟩
        rw [hx] at hv hB' hN' R
        have R' := hide R
        clear R HL hx h4
        go_wp2
        go_roundw
        case rel => exact ⟨k + 1, _, by omega, by go_num, R'.out, hB', hN'⟩
        case measure => simp [intOf]; omega
      · have r1 : (k : Int) % 4 = 3 := by omega
        have hv : z / 16777216 = lb zs k := by rw [HL.out, h4]; simp; omega
        obtain ⟨x, hx⟩ : ∃ x, lb zs k = x := ⟨_, rfl⟩
        rw [hx] at hv hB' hN' R
        have R' := hide R
        clear R HL hx h4
        go_wp2
        go_roundw
        case rel => exact ⟨k + 1, _, by omega, by go_num, R'.out, hB', hN'⟩
        case measure => simp [intOf]; omega
    · obtain rfl : k = 4 * zs.length := by omega
      have V := hide (hcp.val hz)
      have L := hide hcp.1
      have hyb := hcp.2.1
      clear hcp
      go_wp2_with fail
      rw [← L.out]
      refine (withoutZeros_any wr _ _ _ ys hB.own0.rd hyb (Nat.le_refl _) (by rw [L.out]; omega)).mono ?_
      rintro e w2 ⟨us, C, _, rfl, B2, n2⟩
      rw [V.out] at C
      go_wp2
      go_ret
      exact ⟨us, C, ⟨_, _, _, rfl, B2.own0, by simp, Nat.le_refl _, hN.size⟩, nxt hN n2⟩

set_option maxHeartbeats 2000000 in
theorem addInPlace_any (w : World) (g : Nat) (a : Option Addr) (ca : Nat) (zs : List Int) (g' : Nat) (b : Option Addr) (cb : Nat) (ms : List Int) (ha : Own w g a .u32 zs) (hb : Rd w g' b .u32 ms) (hne : 0 < ms.length → g' ≠ g)
    (hz : Lmb zs) (hm : Lmb ms) (hn : zs.length ≤ 8192) (hk : ms.length ≤ 8192) :
    Calls Tryd.prog 101 #[.slice a zs.length ca, .slice b ms.length cb] w fun e w' => ∃ ys c, e = .returned (.tuple #[]) ∧ LAddTo zs ms ys zs.length c ∧ Own w' g a .u32 ys ∧ Only g w w' := by
  go_enter Tryd.func101, Tryd.ntmps101
  go_wp2
  go_loopw [4, 8] (fun q i wr => ∃ (k : Nat) (c : Int) (ys : List Int), k ≤ zs.length ∧ i = .int .i64 k ∧ q = .int .u64 c ∧ (0 ≤ c ∧ c ≤ 1) ∧ LAddTo zs ms ys k c ∧ Own wr g a .u32 ys ∧ Only g w wr) (fun _ i _ => zs.length - (intOf i).toNat)
  case atStart => exact ⟨0, 0, zs, Nat.zero_le _, rfl, rfl, ⟨by omega, by omega⟩, LAddTo.zero ms hz, ha, Only.refl _ _⟩
  case round =>
    obtain ⟨k, c, ys, hk', rfl, rfl, hc, hA, hO, hN⟩ := hrel
    by_cases hlt : k < zs.length
    · have R := hA.step hz hm hlt
      have hl : ys.length = zs.length := hA.1
      have hyz := hA.2.2.2.2 k (Nat.le_refl _)
      obtain ⟨off, rfl, hcc⟩ := hO (by omega)
      obtain ⟨hcy, hfy⟩ := hcc k (by omega)
      rw [hyz] at hcy
      have hS := fun v => hO.store k (by omega) v
      have hSn := fun v => hN.trans (Only.setCell wr g (off + k) (.int .u32 v))
      have zb := hz k
      have mb := hm k
      by_cases hkm : k < ms.length
      · obtain ⟨off', rfl, hcm⟩ := hb (by omega)
        have hcx : wr.cell? ⟨g', off' + k, none⟩ = some (.int .u32 (ms.getD k 0)) := by
          rw [World.cell?_of_block (a := ⟨g', off' + k, none⟩) (hN.block g' (hne (by omega)))]
          exact hcm k hkm
        have hB' := hS ((c + zs.getD k 0 + ms.getD k 0) % 4294967296)
        have hN' := hSn ((c + zs.getD k 0 + ms.getD k 0) % 4294967296)
        have tk : decide ((k : Int) < (ms.length : Int)) = true := by simp; omega
        have R' := hide R
        generalize zs.getD k 0 = z at *
        generalize ms.getD k 0 = m at *
        clear hS hSn hcc hO hN hA hl R hyz hcm ha
        go_wp2
        go_roundw
        case rel => exact ⟨k + 1, _, _, by omega, by go_num, rfl, ⟨by omega, by omega⟩, R'.out, hB', hN'⟩
        case measure => simp [intOf]; omega
      · have hm0 : ms.getD k 0 = 0 := by
          rw [List.getD_eq_getElem?_getD, List.getElem?_eq_none (by omega)]
          rfl
        rw [hm0, Int.add_zero] at R
        have hB' := hS ((c + zs.getD k 0) % 4294967296)
        have hN' := hSn ((c + zs.getD k 0) % 4294967296)
        have tk : decide ((k : Int) < (ms.length : Int)) = false := by simp; omega
        have R' := hide R
        generalize zs.getD k 0 = z at *
        clear hS hSn hcc hO hN hA hl R hyz ha hm0 mb
        go_wp2
        go_roundw
        case rel => exact ⟨k + 1, _, _, by omega, by go_num, rfl, ⟨by omega, by omega⟩, R'.out, hB', hN'⟩
        case measure => simp [intOf]; omega
    · obtain rfl : k = zs.length := by omega
      go_wp2
      go_end0
      exact ⟨ys, c, rfl, hA, hO, hN⟩

theorem lval_app (xs : List Int) (n : Nat) : lval (xs ++ (List.replicate (n + 1) (0 : Int)).drop n) = lval xs := by
  have e : (List.replicate (n + 1) (0 : Int)).drop n = [0] := by simp
  rw [e]
  induction xs with
  | nil => rfl
  | cons z r ih => rw [List.cons_append, lval, lval, ih]
theorem lmb_app {xs : List Int} (h : Lmb xs) (n : Nat) : Lmb (xs ++ (List.replicate (n + 1) (0 : Int)).drop n) := by
  have e : (List.replicate (n + 1) (0 : Int)).drop n = [0] := by simp
  rw [e]
  intro i
  by_cases hi : i < xs.length
  · have := h i
    simpa [List.getElem?_append, hi] using this
  · by_cases h2 : i = xs.length
    · subst h2; simp
    · rw [List.getD_eq_getElem?_getD, List.getElem?_eq_none (by simp; omega)]
      decide

/-- A number in limbs, of the call's own, without a limb 0 at its end. -/
def NewNat (w w' : World) (e : Ending) (v : Int) : Prop :=
  ∃ (zs : List Int) (ca : Nat), zs.length ≤ ca ∧ ca ≤ 4096 ∧ e = .returned (.slice (some ⟨w.heap.size, 0, none⟩) zs.length ca) ∧ Own w' w.heap.size (some ⟨w.heap.size, 0, none⟩) .u32 zs ∧ Lmb zs ∧ Top zs ∧ lval zs = v
theorem trimmed {w w' : World} {ys : List Int} {s : Nat} {v : Int} (o : Own w' w.heap.size (some ⟨w.heap.size, 0, none⟩) .u32 ys) (hs : s ≤ ys.length) (hz : ZeroFrom ys s) (ht : 0 < s → ys.getD (s - 1) 0 ≠ 0) (hl : Lmb ys) (hv : lval ys = v)
    (hn : ys.length ≤ 4096) (n : Below w.heap.size w w') : NewNat w w' (.returned (.slice (some ⟨w.heap.size, 0, none⟩) s ys.length)) v ∧ Below w.heap.size w w' := by
  have hlen : (ys.take s).length = s := by simp; omega
  refine ⟨⟨ys.take s, ys.length, by omega, hn, ret_slice hlen.symm, ?_, lmb_take hl s, ?_, by rw [lval_take ys s hz, hv]⟩, n⟩
  · intro h0
    rw [hlen] at h0
    obtain ⟨off, ha, hc⟩ := o (by omega)
    refine ⟨off, ha, fun i hi => ?_⟩
    rw [hlen] at hi
    obtain ⟨c1, c2⟩ := hc i (by omega)
    refine ⟨?_, c2⟩
    rw [c1]
    simp [hi]
  · intro h0
    rw [hlen] at h0 ⊢
    have := ht h0
    simpa [List.getElem?_take, show s - 1 < s by omega] using this

set_option maxHeartbeats 2000000 in
theorem add_any1 (w : World) (g g' : Nat) (a b : Option Addr) (ca cb : Nat) (zs us : List Int) (ha : Rd w g a .u32 zs) (hb : Rd w g' b .u32 us) (hz : Lmb zs) (hu : Lmb us) (hn : zs.length ≤ 2048) (hm : us.length ≤ 2048) :
    Calls Tryd.prog 66 #[.slice a zs.length ca, .slice b us.length cb] w fun e w' => NewNat w w' e (lval zs + lval us) ∧ Below w.heap.size w w' := by
  obtain ⟨i0, hi, hz0, hz1, hz2⟩ := info_parts Tryd.info99
  have hsz : (Tryd.prog.info? 99).map (·.size) = some 1 := by rw [hi]; simp [hz1]
  by_cases hlen : zs.length < us.length
  · have t0 : decide ((zs.length : Int) < (us.length : Int)) = true := by simp; omega
    go_enter Tryd.func66, Tryd.ntmps66
    go_wp2_with (at_make; refine wpList_make_full _ rfl _ _ 63 rfl w.heap.size 99 i0 (.int .u32 0) 1 Tryd.underlying63 hi hz0 hz1 .i64 .i64 _ _ (us.length + 1) rfl rfl (by omega) (by omega) (by rw [hz2]; omega) (by unfold maxLen; omega) (Nat.le_refl _) ?_; intro w1 hown hgrow)
    have hB0 := Blk.of_made hown
    have hN0 : Below w.heap.size w w1 := (Below.refl _ _).grown hgrow (Nat.le_refl _) (by simp)
    obtain ⟨w2, hrun, hB2, hO⟩ := copy_blk (P := Tryd.prog) w1 63 3 99 Tryd.underlying63 hsz hB0 g' b us (hb.up hN0) (by simp) (us.length + 1) cb
    rw [List.length_replicate] at hrun
    have hN2 := hN0.trans (hO.below (Nat.le_refl _))
    have hS : Rd w2 g a .u32 zs := ha.up hN2
    have hgs : 0 < zs.length → g ≠ w.heap.size := fun h => by have := ha.lt h; omega
    have hL : (us ++ (List.replicate (us.length + 1) (0 : Int)).drop us.length).length = us.length + 1 := by simp
    have hlm : Lmb (us ++ (List.replicate (us.length + 1) (0 : Int)).drop us.length) := lmb_app hu _
    have hlv : lval (us ++ (List.replicate (us.length + 1) (0 : Int)).drop us.length) = lval us := lval_app us _
    generalize (us ++ (List.replicate (us.length + 1) (0 : Int)).drop us.length) = ss at *
    have HL := hide hL
    have HV := hide hlv
    rw [hrun]
    clear hown hgrow hB0 hN0 hO hrun hL hlv
    go_wp2_with fail
    rw [← HL.out]
    refine (addInPlace_any w2 w.heap.size _ _ ss g a ca zs hB2.own0 hS hgs hlm hz (by rw [HL.out]; omega) (by omega)).mono ?_
    rintro e w3 ⟨ys, c, rfl, hA, o3, O3⟩
    obtain ⟨y1, y2, y3, _, _⟩ := hA
    have hD := LAddTo.done ⟨y1, y2, y3, by assumption, by assumption⟩ (by rw [HL.out]; omega)
    have hN3 := hN2.trans (O3.below (Nat.le_refl _))
    have hc : c = 0 := by
      have b1 := (lval_bd hu).2
      have b2 := (lval_bd hz).2
      have b3 := p32_mono (show zs.length ≤ us.length by omega)
      have b4 := (lval_bd y2).1
      rw [HV.out, HL.out, Int.pow_succ] at hD
      have b5 := p32_pos us.length
      rcases (show c = 0 ∨ c = 1 by omega) with h | h
      · exact h
      · subst h; omega
    have hv : lval ys = lval zs + lval us := by rw [hc, HV.out] at hD; omega
    have HY := hide y1
    have HVV := hide hv
    clear hD hc hv y1
    go_wp2_with fail
    rw [← HY.out]
    refine (trim_any w3 w.heap.size 0 ys.length ys o3.rd (Nat.le_refl _) (by rw [HY.out, HL.out]; omega)).mono ?_
    rintro e w4 ⟨s, hs, rfl, hzf, htop, rfl⟩
    have hlen : (ys.take s).length = s := by simp; omega
    go_wp2
    go_ret
    exact trimmed o3 hs hzf htop y2 HVV.out (by rw [HY.out, HL.out]; omega) hN3
  · have t0 : decide ((zs.length : Int) < (us.length : Int)) = false := by simp; omega
    go_enter Tryd.func66, Tryd.ntmps66
    go_wp2_with (at_make; refine wpList_make_full _ rfl _ _ 63 rfl w.heap.size 99 i0 (.int .u32 0) 1 Tryd.underlying63 hi hz0 hz1 .i64 .i64 _ _ (zs.length + 1) rfl rfl (by omega) (by omega) (by rw [hz2]; omega) (by unfold maxLen; omega) (Nat.le_refl _) ?_; intro w1 hown hgrow)
    have hB0 := Blk.of_made hown
    have hN0 : Below w.heap.size w w1 := (Below.refl _ _).grown hgrow (Nat.le_refl _) (by simp)
    obtain ⟨w2, hrun, hB2, hO⟩ := copy_blk (P := Tryd.prog) w1 63 3 99 Tryd.underlying63 hsz hB0 g a zs (ha.up hN0) (by simp) (zs.length + 1) ca
    rw [List.length_replicate] at hrun
    have hN2 := hN0.trans (hO.below (Nat.le_refl _))
    have hS : Rd w2 g' b .u32 us := hb.up hN2
    have hgs : 0 < us.length → g' ≠ w.heap.size := fun h => by have := hb.lt h; omega
    have hL : (zs ++ (List.replicate (zs.length + 1) (0 : Int)).drop zs.length).length = zs.length + 1 := by simp
    have hlm : Lmb (zs ++ (List.replicate (zs.length + 1) (0 : Int)).drop zs.length) := lmb_app hz _
    have hlv : lval (zs ++ (List.replicate (zs.length + 1) (0 : Int)).drop zs.length) = lval zs := lval_app zs _
    generalize (zs ++ (List.replicate (zs.length + 1) (0 : Int)).drop zs.length) = ss at *
    have HL := hide hL
    have HV := hide hlv
    rw [hrun]
    clear hown hgrow hB0 hN0 hO hrun hL hlv
    go_wp2_with fail
    rw [← HL.out]
    refine (addInPlace_any w2 w.heap.size _ _ ss g' b cb us hB2.own0 hS hgs hlm hu (by rw [HL.out]; omega) (by omega)).mono ?_
    rintro e w3 ⟨ys, c, rfl, hA, o3, O3⟩
    obtain ⟨y1, y2, y3, _, _⟩ := hA
    have hD := LAddTo.done ⟨y1, y2, y3, by assumption, by assumption⟩ (by rw [HL.out]; omega)
    have hN3 := hN2.trans (O3.below (Nat.le_refl _))
    have hc : c = 0 := by
      have b1 := (lval_bd hz).2
      have b2 := (lval_bd hu).2
      have b3 := p32_mono (show us.length ≤ zs.length by omega)
      have b4 := (lval_bd y2).1
      rw [HV.out, HL.out, Int.pow_succ] at hD
      have b5 := p32_pos zs.length
      rcases (show c = 0 ∨ c = 1 by omega) with h | h
      · exact h
      · subst h; omega
    have hv : lval ys = lval zs + lval us := by rw [hc, HV.out] at hD; omega
    have HY := hide y1
    have HVV := hide hv
    clear hD hc hv y1
    go_wp2_with fail
    rw [← HY.out]
    refine (trim_any w3 w.heap.size 0 ys.length ys o3.rd (Nat.le_refl _) (by rw [HY.out, HL.out]; omega)).mono ?_
    rintro e w4 ⟨s, hs, rfl, hzf, htop, rfl⟩
    have hlen : (ys.take s).length = s := by simp; omega
    go_wp2
    go_ret
    exact trimmed o3 hs hzf htop y2 HVV.out (by rw [HY.out, HL.out]; omega) hN3
end Go.Proofs.YtbhmhkimddjhaaaDoor
