import Derived.Test.YtbhmhkimddjhaaaDoorRows
import Derived.Test.YtbhmhkimddjhaaaDoorGA3
import Derived.WalkSpells
import Derived.Deep.QuietTactic
import Derived.BigQuiet
import Derived.BigRegion
import Derived.Laws.BitsAllLaws
/-
  impl.readNatural, natural.trim, natural.compare: bytes into limbs, and limbs compared.
-/
namespace Go.Proofs.YtbhmhkimddjhaaaDoor
set_option maxRecDepth 100000
open Go.RowKit
theorem Tryd.info99 : (Tryd.prog.info? 99).map (fun i => (i.zero, i.size, i.bytes)) = some (some (.int .u32 0), 1, 4) := by kernel_rfl

theorem or_mul1 (a b i m : Nat) (hm : m = 2 ^ i) (h : a < m) : a ||| (b * m) = b * m + a := by
  subst hm
  rw [Nat.or_comm, ← Nat.shiftLeft_eq, Nat.shiftLeft_add_eq_or_of_lt h]
theorem or32 (z x : Int) (i m : Nat) (hm : m = 2 ^ i) (z0 : 0 ≤ z) (z1 : z < (m : Int)) (x0 : 0 ≤ x) (x1 : x * (m : Int) < 4294967296) (m1 : m ≤ 4294967296) :
    bits BinOp.or IntKind.u32 z (x * (m : Int)) = z + x * (m : Int) := by
  obtain ⟨a, rfl⟩ := Int.eq_ofNat_of_zero_le z0
  obtain ⟨b, rfl⟩ := Int.eq_ofNat_of_zero_le x0
  have e : (b : Int) * (m : Int) = ((b * m : Nat) : Int) := by simp
  rw [e] at x1 ⊢
  rw [u32_or_nat a (b * m) (by omega) (by omega), or_mul1 a b i m hm (by omega)]
  omega

/-- The lowest k bytes stand in the limbs. -/
def ReadTo (xs zs : List Int) (k : Nat) : Prop := zs.length = (xs.length + 3) / 4 ∧ Lmb zs ∧ lval zs = lo xs k
theorem ReadTo.small {xs zs : List Int} {k : Nat} (h : ReadTo xs zs k) (hb : Byt xs) : zs.getD (k / 4) 0 < 256 ^ (k % 4) := by
  obtain ⟨h1, h2, h3⟩ := h
  have l1 := limb_le h2 (k / 4)
  have l2 := (lo_bd hb k).2
  have hp := p256_4 (k % 4) (k / 4)
  rw [show 4 * (k / 4) + k % 4 = k by omega] at hp
  rw [h3] at l1
  rw [hp, Int.mul_comm] at l2
  have pp := p32_pos (k / 4)
  by_cases c : zs.getD (k / 4) 0 < 256 ^ (k % 4)
  · exact c
  · have : 256 ^ (k % 4) * (4294967296 : Int) ^ (k / 4) ≤ zs.getD (k / 4) 0 * 4294967296 ^ (k / 4) := Int.mul_le_mul_of_nonneg_right (by omega) (by omega)
    omega
theorem ReadTo.step {xs zs : List Int} {k : Nat} (h : ReadTo xs zs k) (hk : k < xs.length) (v : Int) (hv : v = zs.getD (k / 4) 0 + dig xs k * 256 ^ (k % 4)) (v0 : 0 ≤ v) (v1 : v < 4294967296) :
    ReadTo xs (zs.set (k / 4) v) (k + 1) := by
  obtain ⟨h1, h2, h3⟩ := h
  refine ⟨by simpa using h1, lmb_set h2 _ _ v0 v1, ?_⟩
  have hp := p256_4 (k % 4) (k / 4)
  rw [show 4 * (k / 4) + k % 4 = k by omega] at hp
  rw [lval_set v zs (k / 4) (by omega), h3, lo, hp, hv, Int.mul_comm (4294967296 ^ (k / 4)), ← Int.mul_assoc]
  congr 2
  omega

/-- From place s on there is nothing. -/
def ZeroFrom (zs : List Int) (s : Nat) : Prop := ∀ j, s ≤ j → zs.getD j 0 = 0
theorem ZeroFrom.all (zs : List Int) : ZeroFrom zs zs.length := fun j hj => by simp [hj]
theorem ZeroFrom.step {zs : List Int} {s : Nat} (h : ZeroFrom zs (s + 1)) (hz : zs.getD s 0 = 0) : ZeroFrom zs s := fun j hj => by
  by_cases e : j = s
  · rw [e]; exact hz
  · exact h j (by omega)

set_option maxHeartbeats 400000 in
theorem trim_any (w : World) (g off cap : Nat) (zs : List Int) (hr : Rd w g (some ⟨g, off, none⟩) .u32 zs) (hcap : zs.length ≤ cap) (hn : zs.length ≤ 4096) :
    Calls Tryd.prog 100 #[.slice (some ⟨g, off, none⟩) zs.length cap] w fun e w' => ∃ s : Nat, s ≤ zs.length ∧ e = .returned (.slice (some ⟨g, off, none⟩) s cap) ∧ ZeroFrom zs s ∧ (0 < s → zs.getD (s - 1) 0 ≠ 0) ∧ w' = w := by
  go_enter Tryd.func100, Tryd.ntmps100
  go_wp2
  go_loop [3] (fun i => ∃ s : Nat, s ≤ zs.length ∧ i = .int .i64 s ∧ ZeroFrom zs s) (fun i => (intOf i).toNat)
  case atStart => exact ⟨_, Nat.le_refl _, rfl, ZeroFrom.all zs⟩
  case round =>
    obtain ⟨s, hs, rfl, hz⟩ := hrel
    by_cases h0 : s = 0
    · subst h0
      go_wp2
      go_ret
      exact ⟨0, Nat.zero_le _, rfl, hz, by simp, rfl⟩
    · obtain ⟨t, rfl⟩ : ∃ t, s = t + 1 := ⟨s - 1, by omega⟩
      obtain ⟨off', ha, hc⟩ := hr (by omega)
      simp only [Option.some.injEq, Addr.mk.injEq, true_and, and_true] at ha
      subst ha
      have hcz := hc t (by omega)
      clear hc
      have R := hz.step
      obtain ⟨z, hzz⟩ : ∃ z, z = zs.getD t 0 := ⟨_, rfl⟩
      rw [← hzz] at hcz R
      have Hz : Hid (z = zs.getD t 0) := hzz
      clear hzz
      by_cases hz0 : z = 0
      · have R' := R hz0
        subst hz0
        clear R hz Hz
        go_wp2
        go_round
        case rel => exact ⟨t, by omega, by go_num, R'⟩
        case measure => simp [intOf]
      · have hz1 : (z == 0) = false := by simp [hz0]
        clear R
        go_wp2
        go_ret
        exact ⟨t + 1, hs, rfl, hz, fun _ => by have h := Hz.out; simp at h ⊢; rw [← h]; exact hz0, rfl⟩

set_option maxHeartbeats 1000000 in
theorem readNatural_any (w : World) (g : Nat) (a : Option Addr) (cap : Nat) (xs : List Int) (hr : Rd w g a .u8 xs) (hb : Byt xs) (hn : xs.length ≤ 128) :
    Calls Tryd.prog 63 #[.slice a xs.length cap] w fun e w' => ∃ (zs : List Int) (ca : Nat), zs.length ≤ ca ∧ ca ≤ 32 ∧ e = .returned (.slice (some ⟨w.heap.size, 0, none⟩) zs.length ca) ∧
      Own w' w.heap.size (some ⟨w.heap.size, 0, none⟩) .u32 zs ∧ Lmb zs ∧ Top zs ∧ lval zs = bval xs ∧ Below w.heap.size w w' ∧ w.heap.size < w'.heap.size := by
  obtain ⟨i0, hi, hz0, hz1, hz2⟩ := info_parts Tryd.info99
  go_enter Tryd.func63, Tryd.ntmps63
  go_wp2_with (at_make; refine wpList_make_full _ rfl _ _ 63 rfl w.heap.size 99 i0 (.int .u32 0) 1 Tryd.underlying63 hi hz0 hz1 .i64 .i64 _ _ ((xs.length + 3) / 4) rfl rfl (by omega) (by omega) (by rw [hz2]; omega) (by unfold maxLen; omega) (Nat.le_refl _) ?_; intro w1 hown hgrow)
  have hB0 := Blk.of_made hown
  have hN0 : Below w.heap.size w w1 := (Below.refl _ _).grown hgrow (Nat.le_refl _) (by simp)
  clear hown hgrow
  go_loopw [14] (fun i wr => ∃ (k : Nat) (zs : List Int), k ≤ xs.length ∧ i = .int .i64 k ∧ ReadTo xs zs k ∧ Blk wr w.heap.size .u32 zs ∧ Below w.heap.size w wr) (fun i _ => xs.length - (intOf i).toNat)
  case atStart => exact ⟨0, _, Nat.zero_le _, rfl, ⟨by simp, lmb_zeros _, lval_zeros _⟩, hB0, hN0⟩
  case round =>
    obtain ⟨k, zs, hk, rfl, hcp, hB, hN⟩ := hrel
    by_cases hlt : k < xs.length
    · obtain ⟨off, rfl, hc⟩ := hr (by omega)
      have hg := hr.lt (by omega)
      have hsm := hcp.small hb
      have hst := hcp.step hlt
      obtain ⟨q, hq⟩ : ∃ q : Nat, k / 4 = q := ⟨_, rfl⟩
      have hql : q < zs.length := by rw [hcp.1]; omega
      rw [hq] at hsm hst
      have hcx : wr.cell? ⟨g, off + (xs.length - 1 - k), none⟩ = some (.int .u8 (dig xs k)) := (hN.cell (p := ⟨g, off + (xs.length - 1 - k), none⟩) hg).trans (by rw [hc _ (by omega)]; simp [dig, hlt])
      have hcy : wr.cell? ⟨w.heap.size, q, none⟩ = some (.int .u32 (zs.getD q 0)) := hB.cell hql
      have hfy := hB.free q
      have hd := dig_byt hb k
      have hz := hcp.2.1 q
      obtain ⟨p, hp⟩ : ∃ p : Nat, xs.length - 1 - k = p := ⟨_, rfl⟩
      rw [hp] at hcx
      have p1 : (xs.length : Int) - 1 - (k : Int) = (p : Int) := by omega
      have p2 : (p : Int) < (xs.length : Int) := by omega
      have q1 : (k : Int) / 4 = (q : Int) := by omega
      have q2 : (q : Int) < (((xs.length + 3) / 4 : Nat) : Int) := by omega
      have hSt := fun v => hB.store q v
      have hSn : ∀ v, Below w.heap.size w (wr.setCell ⟨w.heap.size, q, none⟩ v) := fun v => hN.setCell (Nat.le_refl _) v
      generalize dig xs k = x at *
      generalize zs.getD q 0 = z at *
      clear hp hc hcp hB hN hb
      rcases (show k % 4 = 0 ∨ k % 4 = 1 ∨ k % 4 = 2 ∨ k % 4 = 3 by omega) with h4 | h4 | h4 | h4
      · have r1 : (k : Int) % 4 = 0 := by omega
        rw [h4] at hsm hst
        have e := or32 z x 0 1 (by decide) hz.1 (by simpa using hsm) hd.1 (by omega) (by decide)
        simp only [Int.natCast_one, Int.mul_one] at e
        have R := hst (bits BinOp.or IntKind.u32 z x) (by rw [e]; simp) (by omega) (by simp at hsm; omega)
        have S := hSt (bits BinOp.or IntKind.u32 z x)
        clear hst hSt e hsm
        go_wp2
        go_region
        go_wp2
        go_roundw
        case rel => exact ⟨k + 1, _, by omega, by go_num, R, S.drew, (hSn _).drew⟩
        case measure => simp [intOf]; omega
      · have r1 : (k : Int) % 4 = 1 := by omega
        rw [h4] at hsm hst
        have e := or32 z x 8 256 (by decide) hz.1 (by simpa using hsm) hd.1 (by omega) (by decide)
        have e' : bits BinOp.or IntKind.u32 z (x * 256) = z + x * 256 := e
        have R := hst (bits BinOp.or IntKind.u32 z (x * 256)) (by rw [e']; simp) (by omega) (by simp at hsm; omega)
        have S := hSt (bits BinOp.or IntKind.u32 z (x * 256))
        clear hst hSt e hsm e'
        go_wp2
        go_region
        go_wp2
        go_roundw
        case rel => exact ⟨k + 1, _, by omega, by go_num, R, S.drew, (hSn _).drew⟩
        case measure => simp [intOf]; omega
      · have r1 : (k : Int) % 4 = 2 := by omega
        rw [h4] at hsm hst
        have e := or32 z x 16 65536 (by decide) hz.1 (by simpa using hsm) hd.1 (by omega) (by decide)
        have e' : bits BinOp.or IntKind.u32 z (x * 65536) = z + x * 65536 := e
        have R := hst (bits BinOp.or IntKind.u32 z (x * 65536)) (by rw [e']; simp) (by omega) (by simp at hsm; omega)
        have S := hSt (bits BinOp.or IntKind.u32 z (x * 65536))
        clear hst hSt e hsm e'
        go_wp2
        go_region
        go_wp2
        go_roundw
        case rel => exact ⟨k + 1, _, by omega, by go_num, R, S.drew, (hSn _).drew⟩
        case measure => simp [intOf]; omega
      · have r1 : (k : Int) % 4 = 3 := by omega
        rw [h4] at hsm hst
        have e := or32 z x 24 16777216 (by decide) hz.1 (by simpa using hsm) hd.1 (by omega) (by decide)
        have e' : bits BinOp.or IntKind.u32 z (x * 16777216) = z + x * 16777216 := e
        have R := hst (bits BinOp.or IntKind.u32 z (x * 16777216)) (by rw [e']; simp) (by omega) (by simp at hsm; omega)
        have S := hSt (bits BinOp.or IntKind.u32 z (x * 16777216))
        clear hst hSt e hsm e'
        go_wp2
        go_region
        go_wp2
        go_roundw
        case rel => exact ⟨k + 1, _, by omega, by go_num, R, S.drew, (hSn _).drew⟩
        case measure => simp [intOf]; omega
    · obtain rfl : k = xs.length := by omega
      obtain ⟨c1, c2, c3⟩ := hcp
      have ho := hB.own0
      have hl : Hid ((xs.length + 3) / 4 = zs.length) := c1.symm
      clear c1
      go_wp2_with fail
      rw [hl.out]
      refine (trim_any wr w.heap.size 0 zs.length zs ho.rd (Nat.le_refl _) (by rw [← hl.out]; omega)).mono ?_
      rintro e w' ⟨s, hs, rfl, hzf, htop, rfl⟩
      go_wp2
      go_ret
      have hlen : (zs.take s).length = s := by simp; omega
      refine ⟨zs.take s, zs.length, by omega, by rw [← hl.out]; omega, ret_slice hlen.symm, ?_, lmb_take c2 s, ?_, ?_, hN, hB.lt⟩
      · refine hB.own 0 (by omega) (fun i hi => ?_)
        rw [hlen] at hi
        simp [hi]
      · intro h0
        rw [hlen] at h0 ⊢
        have := htop h0
        simpa [List.getElem?_take, show s - 1 < s by omega] using this
      · rw [lval_take zs s hzf, c3, lo_all xs _ (Nat.le_refl _)]
end Go.Proofs.YtbhmhkimddjhaaaDoor
