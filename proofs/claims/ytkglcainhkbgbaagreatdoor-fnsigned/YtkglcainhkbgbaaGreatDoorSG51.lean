import Derived.Test.YtkglcainhkbgbaaGreatDoorSG47
import Derived.Test.YtkglcainhkbgbaaGreatDoorSG46
import Derived.BigRegion
import Derived.Deep.DeepCutAuto
import Derived.Deep.QuietTactic
import Derived.BigQuiet
import Derived.Test.YtkglcainhkbgbaaGreatDoorSG48
import Derived.Test.YtkglcainhkbgbaaGreatDoorSG50
import Derived.Test.YtkglcainhkbgbaaGreatDoorSG44
import Derived.Test.YtkglcainhkbgbaaGreatDoorSG49
import Derived.Test.YtkglcainhkbgbaaGreatDoorSG41
import Derived.Test.YtkglcainhkbgbaaGreatDoorRows
import Derived.Test.YtkglcainhkbgbaaGreatDoorSG6
import Derived.WalkSpells
import Derived.Laws.BitsAllLaws
import Derived.Test.YtkglcainhkbgbaaGreatDoorSG43
import Derived.Test.YtkglcainhkbgbaaGreatDoorSG11
import Derived.Test.YtkglcainhkbgbaaGreatDoorSG36
import Derived.Test.YtkglcainhkbgbaaGreatDoorSG42
import Derived.Test.YtkglcainhkbgbaaGreatDoorSG19
import Derived.WalkKit
import Derived.LaidEql
import Derived.Stop.Asserts
import Derived.RowKitTokens
import Derived.Test.YtkglcainhkbgbaaGreatDoorSG5
namespace Go.Proofs.YtkglcainhkbgbaaGreatDoor
set_option maxRecDepth 100000
open Go Go.RowKit
end Go.Proofs.YtkglcainhkbgbaaGreatDoor
namespace Go.Proofs.YtkglcainhkbgbaaGreatDoor
set_option maxRecDepth 100000
open Go Go.RowKit
def WTo64 (b : Nat → Int) (ys : List Int) (i : Nat) : Prop := ys.length = 80 ∧ (∀ j, j < i → ys.getD j 0 = wS64 b j) ∧ ∀ j, i ≤ j → ys.getD j 0 = 0
theorem WTo64.step {b : Nat → Int} {ys : List Int} {i : Nat} (h : WTo64 b ys i) (hi : i < 80) : WTo64 b (ys.set i (wS64 b i)) (i + 1) := by
  refine ⟨by rw [List.length_set]; exact h.1, fun j hj => ?_, fun j hj => ?_⟩
  · by_cases e : i = j
    · subst e
      rw [getD_set_self _ _ _ (by rw [h.1]; exact hi)]
    · rw [getD_set_ne _ _ _ _ e]
      exact h.2.1 j (by omega)
  · rw [getD_set_ne _ _ _ _ (by omega)]
    exact h.2.2 j (by omega)
end Go.Proofs.YtkglcainhkbgbaaGreatDoor
namespace Go.Proofs.YtkglcainhkbgbaaGreatDoor
set_option maxRecDepth 100000
open Go Go.RowKit
end Go.Proofs.YtkglcainhkbgbaaGreatDoor
namespace Go.Proofs.YtkglcainhkbgbaaGreatDoor
set_option maxRecDepth 100000
open Go Go.RowKit
end Go.Proofs.YtkglcainhkbgbaaGreatDoor
namespace Go.Proofs.YtkglcainhkbgbaaGreatDoor
set_option maxRecDepth 100000
open Go Go.RowKit
theorem RowB.parts {w : World} {base : Nat} {v : Value} {xs : List Int} (h : RowB w base v xs) (h0 : 0 < xs.length) :
    ∃ (g cap : Nat), v = .slice (some ⟨g, 0, none⟩) xs.length cap ∧ base ≤ g ∧ xs.length ≤ cap ∧ (∀ i, i < xs.length → w.cell? ⟨g, i, none⟩ = some (.int .u8 (xs.getD i 0))) ∧ (∀ i, w.frozen? ⟨g, i, none⟩ = false) ∧
      (∀ i z, i < xs.length → RowB (w.setCell ⟨g, i, none⟩ (.int .u8 z)) base v (xs.set i z)) ∧ (∀ n, n ≤ xs.length → RowB w base (.slice (some ⟨g, 0, none⟩) n cap) (xs.take n)) := by
  obtain ⟨hl, ⟨_, h2⟩ | ⟨g, cap, cur, rfl, hb, hg, hn, hm, hs, ht⟩⟩ := h
  · omega
  · have hs' : cur.size = cap := by omega
    rw [Nat.mul_one] at ht
    have hcell : ∀ i, i < xs.length → cur[i]? = some (.int .u8 (xs.getD i 0)) := fun i hi => by
      have := congrArg (fun l => l[i]?) ht
      simp only [List.getElem?_take, if_pos hi, List.getElem?_map, Array.getElem?_toList] at this
      rw [this, List.getElem?_eq_getElem hi, List.getD_eq_getElem?_getD, List.getElem?_eq_getElem hi]
      rfl
    refine ⟨g, cap, rfl, hb, hn, fun i hi => ?_, fun i => ?_, fun i z hi => ⟨by simp, .inr ⟨g, cap, cur.setIfInBounds i (.int .u8 z), by simp, hb, ?_, by simpa using hn, hm, by simpa using hs, ?_⟩⟩, fun n hn' => ⟨by simp, .inr ⟨g, cap, cur, by rw [List.length_take, Nat.min_eq_left hn'], hb, hg, by rw [List.length_take]; omega, hm, hs, ?_⟩⟩⟩
    · simp [World.cell?, hg, hcell i hi]
    · simp [World.frozen?, hg]
    · show (w.heap.modify g _)[g]? = _
      rw [Array.getElem?_modify, if_pos rfl, hg]
      rfl
    · rw [Nat.mul_one, List.length_set, Array.toList_setIfInBounds, List.take_set, ht, List.map_set]
    · rw [Nat.mul_one, List.length_take, Nat.min_eq_left hn', List.map_take, ← ht, List.take_take, Nat.min_eq_left hn']
end Go.Proofs.YtkglcainhkbgbaaGreatDoor
namespace Go.Proofs.YtkglcainhkbgbaaGreatDoor
set_option maxRecDepth 100000
open Go Go.RowKit
end Go.Proofs.YtkglcainhkbgbaaGreatDoor
namespace Go.Proofs.YtkglcainhkbgbaaGreatDoor
set_option maxRecDepth 100000
open Go.RowKit
end Go.Proofs.YtkglcainhkbgbaaGreatDoor
namespace Go.Proofs.YtkglcainhkbgbaaGreatDoor
set_option maxRecDepth 100000
open Go Go.RowKit
def snA (xs ys : List Int) : List Int := if xs.length = 32 then sgnL (sgV (hashL64 xs) : Int) ((hashL64 xs).drop 32) (sgB (sgV (hashL64 xs))) ys else []
end Go.Proofs.YtkglcainhkbgbaaGreatDoor
namespace Go.Proofs.YtkglcainhkbgbaaGreatDoor
set_option maxRecDepth 100000
open Go Go.RowKit
theorem ck_sum (v : Int × Int) (r q : Int × Int) : pEq v (addX r q, addY r q) = pEq v (eadd (-1) d0 einv r q) := by
  have a := add_mod r q
  unfold pEq
  simp only
  rw [a.1, a.2]
section
variable {ops : Array Oper} {Q : Exit → Act → World → Prop} {md : Region.Mode} {F : Nat → Fact} {a0 : Act} {w0 : World} {i : Nat} {o : Oper} {ts : Array TypeId}
end
end Go.Proofs.YtkglcainhkbgbaaGreatDoor
namespace Go.Proofs.YtkglcainhkbgbaaGreatDoor
set_option maxRecDepth 100000
open Go Go.RowKit
theorem QQ_is : QQ = (Q25519 : Int) := rfl
theorem QQ_lt : QQ < PP := by decide
theorem ml_Q (n : Nat) : Pe PP (mlP n (bX, bY)) (mlP (n % Q25519) (bX, bY)) := by
  have e : n = n % Q25519 + Q25519 * (n / Q25519) := (Nat.mod_add_div n Q25519).symm
  have z : Pe PP (mlP (Q25519 * (n / Q25519)) (bX, bY)) (0, 1) := (emul_mul crv1 base_on _ _).trans ((emul_cg crv1 (emul_on crv1 base_on _) base_Q _).trans (emul_zero' crv1 _))
  have h := emul_add crv1 base_on (n % Q25519) (Q25519 * (n / Q25519))
  rw [← e] at h
  exact h.trans ((eadd_cg crv1 (mlP_on base_on _) (mlP_on base_on _) (Pe.refl _) z).trans (eadd_zero crv1 (mlP_on base_on _)))
theorem dc_sg (k : Nat) : dcB (sgB k) = true ∧ dcP (sgB k) = pMul k (bX, bY) := by
  obtain ⟨h1, h2, h3⟩ := dec_en (pv_mulB k)
  refine ⟨h1, ?_⟩
  unfold dcP sgB
  rw [h2, h3, lx_num (pv_mulB k), ly_num (pv_mulB k)]
theorem base_ne : ¬ Pe PP (bX, bY) (0, 1) := fun h => by
  have := cong_dvd h.1
  revert this
  decide +kernel
theorem sg_big {a : Nat} (ha : Clp a) : smB (pMul a (bX, bY)) = false := by
  cases h : smB (pMul a (bX, bY)) with
  | false => rfl
  | true =>
    exfalso
    unfold smB pEq at h
    simp only [Bool.and_eq_true, decide_eq_true_eq] at h
    have p1 : Pe PP (mlP 8 (pMul a (bX, bY))) (0, 1) := ⟨dvd_cong h.1, dvd_cong h.2⟩
    have p2 : Pe PP (mlP (a * 8) (bX, bY)) (mlP 8 (pMul a (bX, bY))) := (emul_mul crv1 base_on a 8).trans (emul_cg crv1 (emul_on crv1 base_on a) (pMul_pe a _).symm 8)
    refine base_ne (order_kill crv1 base_on prm_Q base_Q (p2.trans p1) fun k => ?_)
    rcases prm_Q.mul k with q | q
    · exact ha.free q
    · exact absurd (Nat.le_of_dvd (by decide) q) (by decide)
theorem sg_sum (a k r : Nat) : Pe PP (mlP ((k * a + r) % Q25519) (bX, bY)) (eadd (-1) d0 einv (pMul r (bX, bY)) (mlP k (pMul a (bX, bY)))) := by
  have h1 := (ml_Q (k * a + r)).symm
  have h2 := emul_add crv1 base_on r (a * k)
  rw [show r + a * k = k * a + r by rw [Nat.mul_comm]; omega] at h2
  have h3 : Pe PP (mlP (a * k) (bX, bY)) (mlP k (pMul a (bX, bY))) := (emul_mul crv1 base_on a k).trans (emul_cg crv1 (emul_on crv1 base_on a) (pMul_pe a _).symm k)
  exact h1.trans (h2.trans (eadd_cg crv1 (emul_on crv1 base_on _) (emul_on crv1 base_on _) (pMul_pe r _).symm h3))
theorem pEq_of {p q : Int × Int} (h : Pe PP p q) : pEq p q = true := by
  unfold pEq
  rw [decide_eq_true (cong_dvd h.1), decide_eq_true (cong_dvd h.2)]
  rfl
def sgS (a : Nat) (M ms : List Int) : Nat := (hsN (sgR M ms ++ (sgB a ++ ms)) * a + hsN (M ++ ms)) % Q25519
theorem sgS_lt (a : Nat) (M ms : List Int) : (sgS a M ms : Int) < QQ := by
  rw [QQ_is]
  exact Int.ofNat_lt.2 (Nat.mod_lt _ (by decide))
theorem sgnL_is (a : Nat) (M ms : List Int) : sgnL (a : Int) M (sgB a) ms = sgR M ms ++ fill (byt (sgS a M ms)) 32 := by
  unfold sgnL sgS
  rw [hsN_val, hsN_val, QQ_is]
  congr 3
theorem sg_take (a : Nat) (M ms : List Int) : (sgnL (a : Int) M (sgB a) ms).take 32 = sgR M ms := by
  rw [sgnL_is, List.take_append_of_le_length (by rw [sgR_len]; exact Nat.le_refl _), List.take_of_length_le (by rw [sgR_len]; exact Nat.le_refl _)]
theorem sg_drop (a : Nat) (M ms : List Int) : (sgnL (a : Int) M (sgB a) ms).drop 32 = fill (byt (sgS a M ms)) 32 := by
  rw [sgnL_is, List.drop_append_of_le_length (by rw [sgR_len]; exact Nat.le_refl _), List.drop_eq_nil_of_le (by rw [sgR_len]; exact Nat.le_refl _), List.nil_append]
theorem sg_len (a : Nat) (M ms : List Int) : (sgnL (a : Int) M (sgB a) ms).length = 64 := by
  rw [sgnL_is, List.length_append, sgR_len, fill_len]
theorem sg_num (a : Nat) (M ms : List Int) : num (fill (byt (sgS a M ms : Int)) 32) = (sgS a M ms : Int) := num_fill (Int.natCast_nonneg _) (Int.lt_trans (sgS_lt a M ms) QQ_lt)
theorem sg_vf {a : Nat} (ha : Clp a) (M ms : List Int) : vfV (sgB a) ms (sgnL (a : Int) M (sgB a) ms) = 0 := by
  have d1 := dc_sg a
  have d2 := dc_sg (hsN (M ++ ms))
  have r0 : rsN (sgB a) (sgnL (a : Int) M (sgB a) ms) = 0 := by
    unfold rsN
    rw [if_neg (by simp [show (sgB a).length = 32 from en_len _]), if_neg (by simp [sg_len]), sg_drop, sg_take]
    have o : ovalid (fill (byt (sgS a M ms)) 32) = true := by
      unfold ovalid
      rw [fill_len, sg_num, decide_eq_true (sgS_lt a M ms)]
      rfl
    rw [if_neg (by rw [o]; decide), if_neg (by rw [d1.1]; decide), if_neg (by rw [show dcB (sgR M ms) = true from d2.1]; decide)]
  unfold vfV
  rw [if_pos r0, sg_drop, sg_take, sg_num, Int.toNat_natCast, d1.2, show dcP (sgR M ms) = _ from d2.2]
  unfold ckN
  rw [if_neg (by rw [sg_big ha]; decide), if_pos]
  rw [ck_sum]
  exact pEq_of (sg_sum a _ _)
theorem vf_over {ps ms ss : List Int} (h1 : ps.length = 32) (h2 : ss.length = 64) (h3 : ovalid (ss.drop 32) = false) : vfV ps ms ss = 2 := by
  have r : rsN ps ss = 2 := by
    unfold rsN
    rw [if_neg (by simp [h1]), if_neg (by simp [h2]), if_pos h3]
  unfold vfV
  rw [r, if_neg (by decide)]
theorem vf_short {ps ms ss : List Int} (h : ¬ ss.length = 64) : vfV ps ms ss = 1 := by
  have r : rsN ps ss = 1 := by
    unfold rsN
    split
    · rfl
    · rfl
  unfold vfV
  rw [r, if_neg (by decide)]
end Go.Proofs.YtkglcainhkbgbaaGreatDoor
namespace Go.Proofs.YtkglcainhkbgbaaGreatDoor
set_option maxRecDepth 100000
open Go.RowKit
theorem Tryz.info93 : (Tryz.prog.info? 93).map (fun i => (i.zero, i.size, i.bytes)) = some (some (.int .u32 0), 1, 4) := by kernel_rfl
theorem or_mul1 (a b i m : Nat) (hm : m = 2 ^ i) (h : a < m) : a ||| (b * m) = b * m + a := by
  subst hm
  rw [Nat.or_comm, ← Nat.shiftLeft_eq, Nat.shiftLeft_add_eq_or_of_lt h]
theorem or32 (z x : Int) (i m : Nat) (hm : m = 2 ^ i) (z0 : 0 ≤ z) (z1 : z < (m : Int)) (x0 : 0 ≤ x) (x1 : x * (m : Int) < 4294967296) (m1 : m ≤ 4294967296) :
    bits BinOp.or IntKind.u32 z (x * (m : Int)) = z + x * (m : Int) := by
  obtain ⟨a, rfl⟩ := Int.eq_ofNat_of_zero_le z0
  obtain ⟨b, rfl⟩ := Int.eq_ofNat_of_zero_le x0
  have e : (b : Int) * (m : Int) = ((b * m : Nat) : Int) := by simp
  rw [e] at x1 ⊢
  rw [u32_or_nat a (b * m) (by omega) (by omega), or_mul1 a b i m hm (by omega)]
  omega
def ReadTo (xs zs : List Int) (k : Nat) : Prop := zs.length = (xs.length + 3) / 4 ∧ Lmb zs ∧ lval zs = lo xs k
theorem ReadTo.small {xs zs : List Int} {k : Nat} (h : ReadTo xs zs k) (hb : Byt xs) : zs.getD (k / 4) 0 < 256 ^ (k % 4) := by
  obtain ⟨h1, h2, h3⟩ := h
  have l1 := limb_le h2 (k / 4)
  have l2 := (lo_bd hb k).2
  have hp := p256_4 (k % 4) (k / 4)
  rw [show 4 * (k / 4) + k % 4 = k by omega] at hp
  rw [h3] at l1
  rw [hp, Int.mul_comm] at l2
  have pp := p32_pos (k / 4)
  by_cases c : zs.getD (k / 4) 0 < 256 ^ (k % 4)
  · exact c
  · have : 256 ^ (k % 4) * (4294967296 : Int) ^ (k / 4) ≤ zs.getD (k / 4) 0 * 4294967296 ^ (k / 4) := Int.mul_le_mul_of_nonneg_right (by omega) (by omega)
    omega
theorem ReadTo.step {xs zs : List Int} {k : Nat} (h : ReadTo xs zs k) (hk : k < xs.length) (v : Int) (hv : v = zs.getD (k / 4) 0 + dig xs k * 256 ^ (k % 4)) (v0 : 0 ≤ v) (v1 : v < 4294967296) :
    ReadTo xs (zs.set (k / 4) v) (k + 1) := by
  obtain ⟨h1, h2, h3⟩ := h
  refine ⟨by simpa using h1, lmb_set h2 _ _ v0 v1, ?_⟩
  have hp := p256_4 (k % 4) (k / 4)
  rw [show 4 * (k / 4) + k % 4 = k by omega] at hp
  rw [lval_set v zs (k / 4) (by omega), h3, lo, hp, hv, Int.mul_comm (4294967296 ^ (k / 4)), ← Int.mul_assoc]
  congr 2
  omega
def ZeroFrom (zs : List Int) (s : Nat) : Prop := ∀ j, s ≤ j → zs.getD j 0 = 0
theorem ZeroFrom.all (zs : List Int) : ZeroFrom zs zs.length := fun j hj => by simp [hj]
theorem ZeroFrom.step {zs : List Int} {s : Nat} (h : ZeroFrom zs (s + 1)) (hz : zs.getD s 0 = 0) : ZeroFrom zs s := fun j hj => by
  by_cases e : j = s
  · rw [e]; exact hz
  · exact h j (by omega)
set_option maxHeartbeats 400000 in
theorem trim_any (w : World) (g off cap : Nat) (zs : List Int) (hr : Rd w g (some ⟨g, off, none⟩) .u32 zs) (hcap : zs.length ≤ cap) (hn : zs.length ≤ 4096) :
    Calls Tryz.prog 47 #[.slice (some ⟨g, off, none⟩) zs.length cap] w fun e w' => ∃ s : Nat, s ≤ zs.length ∧ e = .returned (.slice (some ⟨g, off, none⟩) s cap) ∧ ZeroFrom zs s ∧ (0 < s → zs.getD (s - 1) 0 ≠ 0) ∧ w' = w := by
  go_enter Tryz.func47, Tryz.ntmps47
  go_wp2
  go_loop [3] (fun i => ∃ s : Nat, s ≤ zs.length ∧ i = .int .i64 s ∧ ZeroFrom zs s) (fun i => (intOf i).toNat)
  case atStart => exact ⟨_, Nat.le_refl _, rfl, ZeroFrom.all zs⟩
  case round =>
    obtain ⟨s, hs, rfl, hz⟩ := hrel
    by_cases h0 : s = 0
    · subst h0
      go_wp2
      go_ret
      exact ⟨0, Nat.zero_le _, rfl, hz, by simp, rfl⟩
    · obtain ⟨t, rfl⟩ : ∃ t, s = t + 1 := ⟨s - 1, by omega⟩
      obtain ⟨off', ha, hc⟩ := hr (by omega)
      simp only [Option.some.injEq, Addr.mk.injEq, true_and, and_true] at ha
      subst ha
      have hcz := hc t (by omega)
      clear hc
      have R := hz.step
      obtain ⟨z, hzz⟩ : ∃ z, z = zs.getD t 0 := ⟨_, rfl⟩
      rw [← hzz] at hcz R
      have Hz : Hid (z = zs.getD t 0) := hzz
      clear hzz
      by_cases hz0 : z = 0
      · have R' := R hz0
        subst hz0
        clear R hz Hz
        go_wp2
        go_round
        case rel => exact ⟨t, by omega, by go_num, R'⟩
        case measure => simp [intOf]
      · have hz1 : (z == 0) = false := by simp [hz0]
        clear R
        go_wp2
        go_ret
        exact ⟨t + 1, hs, rfl, hz, fun _ => by have h := Hz.out; simp at h ⊢; rw [← h]; exact hz0, rfl⟩
set_option maxHeartbeats 1000000 in
theorem readNatural_any (w : World) (g : Nat) (a : Option Addr) (cap : Nat) (xs : List Int) (hr : Rd w g a .u8 xs) (hb : Byt xs) (hn : xs.length ≤ 128) :
    Calls Tryz.prog 26 #[.slice a xs.length cap] w fun e w' => ∃ (zs : List Int) (ca : Nat), zs.length ≤ ca ∧ ca ≤ 32 ∧ e = .returned (.slice (some ⟨w.heap.size, 0, none⟩) zs.length ca) ∧
      Own w' w.heap.size (some ⟨w.heap.size, 0, none⟩) .u32 zs ∧ Lmb zs ∧ Top zs ∧ lval zs = bval xs ∧ Below w.heap.size w w' ∧ w.heap.size < w'.heap.size := by
  obtain ⟨i0, hi, hz0, hz1, hz2⟩ := info_parts Tryz.info93
  go_enter Tryz.func26, Tryz.ntmps26
  go_wp2_with (at_make; refine wpList_make_full _ rfl _ _ 54 rfl w.heap.size 93 i0 (.int .u32 0) 1 Tryz.underlying54 hi hz0 hz1 .i64 .i64 _ _ ((xs.length + 3) / 4) rfl rfl (by omega) (by omega) (by rw [hz2]; omega) (by unfold maxLen; omega) (Nat.le_refl _) ?_; intro w1 hown hgrow)
  have hB0 := Blk.of_made hown
  have hN0 : Below w.heap.size w w1 := (Below.refl _ _).grown hgrow (Nat.le_refl _) (by simp)
  clear hown hgrow
  go_loopw [14] (fun i wr => ∃ (k : Nat) (zs : List Int), k ≤ xs.length ∧ i = .int .i64 k ∧ ReadTo xs zs k ∧ Blk wr w.heap.size .u32 zs ∧ Below w.heap.size w wr) (fun i _ => xs.length - (intOf i).toNat)
  case atStart => exact ⟨0, _, Nat.zero_le _, rfl, ⟨by simp, lmb_zeros _, lval_zeros _⟩, hB0, hN0⟩
  case round =>
    obtain ⟨k, zs, hk, rfl, hcp, hB, hN⟩ := hrel
    by_cases hlt : k < xs.length
    · obtain ⟨off, rfl, hc⟩ := hr (by omega)
      have hg := hr.lt (by omega)
      have hsm := hcp.small hb
      have hst := hcp.step hlt
      obtain ⟨q, hq⟩ : ∃ q : Nat, k / 4 = q := ⟨_, rfl⟩
      have hql : q < zs.length := by rw [hcp.1]; omega
      rw [hq] at hsm hst
      have hcx : wr.cell? ⟨g, off + (xs.length - 1 - k), none⟩ = some (.int .u8 (dig xs k)) := (hN.cell (p := ⟨g, off + (xs.length - 1 - k), none⟩) hg).trans (by rw [hc _ (by omega)]; simp [dig, hlt])
      have hcy : wr.cell? ⟨w.heap.size, q, none⟩ = some (.int .u32 (zs.getD q 0)) := hB.cell hql
      have hfy := hB.free q
      have hd := dig_byt hb k
      have hz := hcp.2.1 q
      obtain ⟨p, hp⟩ : ∃ p : Nat, xs.length - 1 - k = p := ⟨_, rfl⟩
      rw [hp] at hcx
      have p1 : (xs.length : Int) - 1 - (k : Int) = (p : Int) := by omega
      have p2 : (p : Int) < (xs.length : Int) := by omega
      have q1 : (k : Int) / 4 = (q : Int) := by omega
      have q2 : (q : Int) < (((xs.length + 3) / 4 : Nat) : Int) := by omega
      have hSt := fun v => hB.store q v
      have hSn : ∀ v, Below w.heap.size w (wr.setCell ⟨w.heap.size, q, none⟩ v) := fun v => hN.setCell (Nat.le_refl _) v
      generalize dig xs k = x at *
      generalize zs.getD q 0 = z at *
      clear hp hc hcp hB hN hb
      rcases (show k % 4 = 0 ∨ k % 4 = 1 ∨ k % 4 = 2 ∨ k % 4 = 3 by omega) with h4 | h4 | h4 | h4
      · have r1 : (k : Int) % 4 = 0 := by omega
        rw [h4] at hsm hst
        have e := or32 z x 0 1 (by decide) hz.1 (by simpa using hsm) hd.1 (by omega) (by decide)
        simp only [Int.natCast_one, Int.mul_one] at e
        have R := hst (bits BinOp.or IntKind.u32 z x) (by rw [e]; simp) (by omega) (by simp at hsm; omega)
        have S := hSt (bits BinOp.or IntKind.u32 z x)
        clear hst hSt e hsm
        go_wp2
        go_region
        go_wp2
        go_roundw
        case rel => exact ⟨k + 1, _, by omega, by go_num, R, S.drew, (hSn _).drew⟩
        case measure => simp [intOf]; omega
      · have r1 : (k : Int) % 4 = 1 := by omega
        rw [h4] at hsm hst
        have e := or32 z x 8 256 (by decide) hz.1 (by simpa using hsm) hd.1 (by omega) (by decide)
        have e' : bits BinOp.or IntKind.u32 z (x * 256) = z + x * 256 := e
        have R := hst (bits BinOp.or IntKind.u32 z (x * 256)) (by rw [e']; simp) (by omega) (by simp at hsm; omega)
        have S := hSt (bits BinOp.or IntKind.u32 z (x * 256))
        clear hst hSt e hsm e'
        go_wp2
        go_region
        go_wp2
        go_roundw
        case rel => exact ⟨k + 1, _, by omega, by go_num, R, S.drew, (hSn _).drew⟩
        case measure => simp [intOf]; omega
      · have r1 : (k : Int) % 4 = 2 := by omega
        rw [h4] at hsm hst
        have e := or32 z x 16 65536 (by decide) hz.1 (by simpa using hsm) hd.1 (by omega) (by decide)
        have e' : bits BinOp.or IntKind.u32 z (x * 65536) = z + x * 65536 := e
        have R := hst (bits BinOp.or IntKind.u32 z (x * 65536)) (by rw [e']; simp) (by omega) (by simp at hsm; omega)
        have S := hSt (bits BinOp.or IntKind.u32 z (x * 65536))
        clear hst hSt e hsm e'
        go_wp2
        go_region
        go_wp2
        go_roundw
        case rel => exact ⟨k + 1, _, by omega, by go_num, R, S.drew, (hSn _).drew⟩
        case measure => simp [intOf]; omega
      · have r1 : (k : Int) % 4 = 3 := by omega
        rw [h4] at hsm hst
        have e := or32 z x 24 16777216 (by decide) hz.1 (by simpa using hsm) hd.1 (by omega) (by decide)
        have e' : bits BinOp.or IntKind.u32 z (x * 16777216) = z + x * 16777216 := e
        have R := hst (bits BinOp.or IntKind.u32 z (x * 16777216)) (by rw [e']; simp) (by omega) (by simp at hsm; omega)
        have S := hSt (bits BinOp.or IntKind.u32 z (x * 16777216))
        clear hst hSt e hsm e'
        go_wp2
        go_region
        go_wp2
        go_roundw
        case rel => exact ⟨k + 1, _, by omega, by go_num, R, S.drew, (hSn _).drew⟩
        case measure => simp [intOf]; omega
    · obtain rfl : k = xs.length := by omega
      obtain ⟨c1, c2, c3⟩ := hcp
      have ho := hB.own0
      have hl : Hid ((xs.length + 3) / 4 = zs.length) := c1.symm
      clear c1
      go_wp2_with fail
      rw [hl.out]
      refine (trim_any wr w.heap.size 0 zs.length zs ho.rd (Nat.le_refl _) (by rw [← hl.out]; omega)).mono ?_
      rintro e w' ⟨s, hs, rfl, hzf, htop, rfl⟩
      go_wp2
      go_ret
      have hlen : (zs.take s).length = s := by simp; omega
      refine ⟨zs.take s, zs.length, by omega, by rw [← hl.out]; omega, ret_slice hlen.symm, ?_, lmb_take c2 s, ?_, ?_, hN, hB.lt⟩
      · refine hB.own 0 (by omega) (fun i hi => ?_)
        rw [hlen] at hi
        simp [hi]
      · intro h0
        rw [hlen] at h0 ⊢
        have := htop h0
        simpa [List.getElem?_take, show s - 1 < s by omega] using this
      · rw [lval_take zs s hzf, c3, lo_all xs _ (Nat.le_refl _)]
end Go.Proofs.YtkglcainhkbgbaaGreatDoor
namespace Go.Proofs.YtkglcainhkbgbaaGreatDoor
set_option maxRecDepth 100000
open Go.RowKit
set_option maxHeartbeats 2000000 in
theorem bytes_any1 (w : World) (g : Nat) (a : Option Addr) (cap : Nat) (zs : List Int) (hr : Rd w g a .u32 zs) (hz : Lmb zs) (hn : zs.length ≤ 4096) :
    Calls Tryz.prog 49 #[.slice a zs.length cap] w fun e w' => ∃ ys, Canon ys (lval zs) ∧ NewRow w.heap.size w' e .u8 ys ∧ Below w.heap.size w w' := by
  obtain ⟨i0, hi, hz0, hz1, hz2⟩ := info_parts Tryz.info5
  go_enter Tryz.func49, Tryz.ntmps49
  go_wp2_with (at_make; refine wpList_make_full _ rfl _ _ 22 rfl w.heap.size 5 i0 (.int .u8 0) 1 Tryz.underlying22 hi hz0 hz1 .i64 .i64 _ _ (4 * zs.length) rfl rfl (by omega) (by omega) (by rw [hz2]; omega) (by unfold maxLen; omega) (Nat.le_refl _) ?_; intro w1 hown hgrow)
  have hB0 := Blk.of_made hown
  have hN0 : Below w.heap.size w w1 := (Below.refl _ _).grown hgrow (Nat.le_refl _) (by simp)
  clear hown hgrow
  go_loopw [11] (fun i wr => ∃ (k : Nat) (ys : List Int), k ≤ 4 * zs.length ∧ i = .int .i64 k ∧ DigTo (lb zs) ys (4 * zs.length) k ∧ Blk wr w.heap.size .u8 ys ∧ Below w.heap.size w wr) (fun i _ => 4 * zs.length - (intOf i).toNat)
  case atStart => exact ⟨0, _, Nat.zero_le _, rfl, ⟨by simp, byt_zeros _, fun j h => absurd h (by omega)⟩, hB0, hN0⟩
  case round =>
    obtain ⟨k, ys, hk, rfl, hcp, hB, hN⟩ := hrel
    by_cases hlt : k < 4 * zs.length
    · obtain ⟨off, rfl, hc⟩ := hr (by omega)
      have hg := hr.lt (by omega)
      have R := hcp.step hlt (lb_bd zs k).1 (lb_bd zs k).2
      obtain ⟨q, hq⟩ : ∃ q : Nat, k / 4 = q := ⟨_, rfl⟩
      obtain ⟨p, hp⟩ : ∃ p : Nat, 4 * zs.length - 1 - k = p := ⟨_, rfl⟩
      have hcx : wr.cell? ⟨g, off + q, none⟩ = some (.int .u32 (zs.getD q 0)) := (hN.cell (p := ⟨g, off + q, none⟩) hg).trans (hc q (by omega))
      have HL : Hid (lb zs k = zs.getD q 0 / 256 ^ (k % 4) % 256) := by show _ = _; unfold lb; rw [hq]
      have hzq := hz q
      have hl : ys.length = 4 * zs.length := hcp.1
      have hcy : wr.cell? ⟨w.heap.size, p, none⟩ = some (.int .u8 (ys.getD p 0)) := hB.cell (by omega)
      have hfy := hB.free p
      have hB' := hB.store p (lb zs k)
      have hN' : Below w.heap.size w (wr.setCell ⟨w.heap.size, p, none⟩ (.int .u8 (lb zs k))) := hN.setCell (Nat.le_refl _) _
      rw [hp] at R
      have p1 : 4 * (zs.length : Int) - 1 - (k : Int) = (p : Int) := by omega
      have p2 : (p : Int) < 4 * (zs.length : Int) := by omega
      have q1 : (k : Int) / 4 = (q : Int) := by omega
      have q2 : (q : Int) < (zs.length : Int) := by omega
      generalize zs.getD q 0 = z at *
      clear hp hc hcp hB hN hl hq
      rcases (show k % 4 = 0 ∨ k % 4 = 1 ∨ k % 4 = 2 ∨ k % 4 = 3 by omega) with h4 | h4 | h4 | h4
      · have r1 : (k : Int) % 4 = 0 := by omega
        have hv : z % 256 = lb zs k := by rw [HL.out, h4]; simp
        obtain ⟨x, hx⟩ : ∃ x, lb zs k = x := ⟨_, rfl⟩
        rw [hx] at hv hB' hN' R
        have R' := hide R
        clear R HL hx h4
        go_wp2
        go_roundw
        case rel => exact ⟨k + 1, _, by omega, by go_num, R'.out, hB', hN'⟩
        case measure => simp [intOf]; omega
      · have r1 : (k : Int) % 4 = 1 := by omega
        have hv : z / 256 % 256 = lb zs k := by rw [HL.out, h4]; simp
        obtain ⟨x, hx⟩ : ∃ x, lb zs k = x := ⟨_, rfl⟩
        rw [hx] at hv hB' hN' R
        have R' := hide R
        clear R HL hx h4
        go_wp2
        go_roundw
        case rel => exact ⟨k + 1, _, by omega, by go_num, R'.out, hB', hN'⟩
        case measure => simp [intOf]; omega
      · have r1 : (k : Int) % 4 = 2 := by omega
        have hv : z / 65536 % 256 = lb zs k := by rw [HL.out, h4]; simp
        obtain ⟨x, hx⟩ : ∃ x, lb zs k = x := ⟨_, rfl⟩
        rw [hx] at hv hB' hN' R
        have R' := hide R
        clear R HL hx h4
        go_wp2
        go_roundw
        case rel => exact ⟨k + 1, _, by omega, by go_num, R'.out, hB', hN'⟩
        case measure => simp [intOf]; omega
      · have r1 : (k : Int) % 4 = 3 := by omega
        have hv : z / 16777216 = lb zs k := by rw [HL.out, h4]; simp; omega
        obtain ⟨x, hx⟩ : ∃ x, lb zs k = x := ⟨_, rfl⟩
        rw [hx] at hv hB' hN' R
        have R' := hide R
        clear R HL hx h4
        go_wp2
        go_roundw
        case rel => exact ⟨k + 1, _, by omega, by go_num, R'.out, hB', hN'⟩
        case measure => simp [intOf]; omega
    · obtain rfl : k = 4 * zs.length := by omega
      have V := hide (hcp.val hz)
      have L := hide hcp.1
      have hyb := hcp.2.1
      clear hcp
      go_wp2_with fail
      rw [← L.out]
      refine (withoutZeros_any wr _ _ _ ys hB.own0.rd hyb (Nat.le_refl _) (by rw [L.out]; omega)).mono ?_
      rintro e w2 ⟨us, C, _, rfl, B2, n2⟩
      rw [V.out] at C
      go_wp2
      go_ret
      exact ⟨us, C, ⟨_, _, _, rfl, B2.own0, by simp, Nat.le_refl _, hN.size⟩, nxt hN n2⟩
set_option maxHeartbeats 2000000 in
theorem addInPlace_any (w : World) (g : Nat) (a : Option Addr) (ca : Nat) (zs : List Int) (g' : Nat) (b : Option Addr) (cb : Nat) (ms : List Int) (ha : Own w g a .u32 zs) (hb : Rd w g' b .u32 ms) (hne : 0 < ms.length → g' ≠ g)
    (hz : Lmb zs) (hm : Lmb ms) (hn : zs.length ≤ 8192) (hk : ms.length ≤ 8192) :
    Calls Tryz.prog 48 #[.slice a zs.length ca, .slice b ms.length cb] w fun e w' => ∃ ys c, e = .returned (.tuple #[]) ∧ LAddTo zs ms ys zs.length c ∧ Own w' g a .u32 ys ∧ Only g w w' := by
  go_enter Tryz.func48, Tryz.ntmps48
  go_wp2
  go_loopw [4, 8] (fun q i wr => ∃ (k : Nat) (c : Int) (ys : List Int), k ≤ zs.length ∧ i = .int .i64 k ∧ q = .int .u64 c ∧ (0 ≤ c ∧ c ≤ 1) ∧ LAddTo zs ms ys k c ∧ Own wr g a .u32 ys ∧ Only g w wr) (fun _ i _ => zs.length - (intOf i).toNat)
  case atStart => exact ⟨0, 0, zs, Nat.zero_le _, rfl, rfl, ⟨by omega, by omega⟩, LAddTo.zero ms hz, ha, Only.refl _ _⟩
  case round =>
    obtain ⟨k, c, ys, hk', rfl, rfl, hc, hA, hO, hN⟩ := hrel
    by_cases hlt : k < zs.length
    · have R := hA.step hz hm hlt
      have hl : ys.length = zs.length := hA.1
      have hyz := hA.2.2.2.2 k (Nat.le_refl _)
      obtain ⟨off, rfl, hcc⟩ := hO (by omega)
      obtain ⟨hcy, hfy⟩ := hcc k (by omega)
      rw [hyz] at hcy
      have hS := fun v => hO.store k (by omega) v
      have hSn := fun v => hN.trans (Only.setCell wr g (off + k) (.int .u32 v))
      have zb := hz k
      have mb := hm k
      by_cases hkm : k < ms.length
      · obtain ⟨off', rfl, hcm⟩ := hb (by omega)
        have hcx : wr.cell? ⟨g', off' + k, none⟩ = some (.int .u32 (ms.getD k 0)) := by
          rw [World.cell?_of_block (a := ⟨g', off' + k, none⟩) (hN.block g' (hne (by omega)))]
          exact hcm k hkm
        have hB' := hS ((c + zs.getD k 0 + ms.getD k 0) % 4294967296)
        have hN' := hSn ((c + zs.getD k 0 + ms.getD k 0) % 4294967296)
        have tk : decide ((k : Int) < (ms.length : Int)) = true := by simp; omega
        have R' := hide R
        generalize zs.getD k 0 = z at *
        generalize ms.getD k 0 = m at *
        clear hS hSn hcc hO hN hA hl R hyz hcm ha
        go_wp2
        go_roundw
        case rel => exact ⟨k + 1, _, _, by omega, by go_num, rfl, ⟨by omega, by omega⟩, R'.out, hB', hN'⟩
        case measure => simp [intOf]; omega
      · have hm0 : ms.getD k 0 = 0 := by
          rw [List.getD_eq_getElem?_getD, List.getElem?_eq_none (by omega)]
          rfl
        rw [hm0, Int.add_zero] at R
        have hB' := hS ((c + zs.getD k 0) % 4294967296)
        have hN' := hSn ((c + zs.getD k 0) % 4294967296)
        have tk : decide ((k : Int) < (ms.length : Int)) = false := by simp; omega
        have R' := hide R
        generalize zs.getD k 0 = z at *
        clear hS hSn hcc hO hN hA hl R hyz ha hm0 mb
        go_wp2
        go_roundw
        case rel => exact ⟨k + 1, _, _, by omega, by go_num, rfl, ⟨by omega, by omega⟩, R'.out, hB', hN'⟩
        case measure => simp [intOf]; omega
    · obtain rfl : k = zs.length := by omega
      go_wp2
      go_end0
      exact ⟨ys, c, rfl, hA, hO, hN⟩
theorem lval_app (xs : List Int) (n : Nat) : lval (xs ++ (List.replicate (n + 1) (0 : Int)).drop n) = lval xs := by
  have e : (List.replicate (n + 1) (0 : Int)).drop n = [0] := by simp
  rw [e]
  induction xs with
  | nil => rfl
  | cons z r ih => rw [List.cons_append, lval, lval, ih]
theorem lmb_app {xs : List Int} (h : Lmb xs) (n : Nat) : Lmb (xs ++ (List.replicate (n + 1) (0 : Int)).drop n) := by
  have e : (List.replicate (n + 1) (0 : Int)).drop n = [0] := by simp
  rw [e]
  intro i
  by_cases hi : i < xs.length
  · have := h i
    simpa [List.getElem?_append, hi] using this
  · by_cases h2 : i = xs.length
    · subst h2; simp
    · rw [List.getD_eq_getElem?_getD, List.getElem?_eq_none (by simp; omega)]
      decide
def NewNat (w w' : World) (e : Ending) (v : Int) : Prop :=
  ∃ (zs : List Int) (ca : Nat), zs.length ≤ ca ∧ ca ≤ 4096 ∧ e = .returned (.slice (some ⟨w.heap.size, 0, none⟩) zs.length ca) ∧ Own w' w.heap.size (some ⟨w.heap.size, 0, none⟩) .u32 zs ∧ Lmb zs ∧ Top zs ∧ lval zs = v
theorem trimmed {w w' : World} {ys : List Int} {s : Nat} {v : Int} (o : Own w' w.heap.size (some ⟨w.heap.size, 0, none⟩) .u32 ys) (hs : s ≤ ys.length) (hz : ZeroFrom ys s) (ht : 0 < s → ys.getD (s - 1) 0 ≠ 0) (hl : Lmb ys) (hv : lval ys = v)
    (hn : ys.length ≤ 4096) (n : Below w.heap.size w w') : NewNat w w' (.returned (.slice (some ⟨w.heap.size, 0, none⟩) s ys.length)) v ∧ Below w.heap.size w w' := by
  have hlen : (ys.take s).length = s := by simp; omega
  refine ⟨⟨ys.take s, ys.length, by omega, hn, ret_slice hlen.symm, ?_, lmb_take hl s, ?_, by rw [lval_take ys s hz, hv]⟩, n⟩
  · intro h0
    rw [hlen] at h0
    obtain ⟨off, ha, hc⟩ := o (by omega)
    refine ⟨off, ha, fun i hi => ?_⟩
    rw [hlen] at hi
    obtain ⟨c1, c2⟩ := hc i (by omega)
    refine ⟨?_, c2⟩
    rw [c1]
    simp [hi]
  · intro h0
    rw [hlen] at h0 ⊢
    have := ht h0
    simpa [List.getElem?_take, show s - 1 < s by omega] using this
set_option maxHeartbeats 2000000 in
theorem add_any1 (w : World) (g g' : Nat) (a b : Option Addr) (ca cb : Nat) (zs us : List Int) (ha : Rd w g a .u32 zs) (hb : Rd w g' b .u32 us) (hz : Lmb zs) (hu : Lmb us) (hn : zs.length ≤ 2048) (hm : us.length ≤ 2048) :
    Calls Tryz.prog 27 #[.slice a zs.length ca, .slice b us.length cb] w fun e w' => NewNat w w' e (lval zs + lval us) ∧ Below w.heap.size w w' := by
  obtain ⟨i0, hi, hz0, hz1, hz2⟩ := info_parts Tryz.info93
  have hsz : (Tryz.prog.info? 93).map (·.size) = some 1 := by rw [hi]; simp [hz1]
  by_cases hlen : zs.length < us.length
  · have t0 : decide ((zs.length : Int) < (us.length : Int)) = true := by simp; omega
    go_enter Tryz.func27, Tryz.ntmps27
    go_wp2_with (at_make; refine wpList_make_full _ rfl _ _ 54 rfl w.heap.size 93 i0 (.int .u32 0) 1 Tryz.underlying54 hi hz0 hz1 .i64 .i64 _ _ (us.length + 1) rfl rfl (by omega) (by omega) (by rw [hz2]; omega) (by unfold maxLen; omega) (Nat.le_refl _) ?_; intro w1 hown hgrow)
    have hB0 := Blk.of_made hown
    have hN0 : Below w.heap.size w w1 := (Below.refl _ _).grown hgrow (Nat.le_refl _) (by simp)
    obtain ⟨w2, hrun, hB2, hO⟩ := copy_blk (P := Tryz.prog) w1 54 3 93 Tryz.underlying54 hsz hB0 g' b us (hb.up hN0) (by simp) (us.length + 1) cb
    rw [List.length_replicate] at hrun
    have hN2 := hN0.trans (hO.below (Nat.le_refl _))
    have hS : Rd w2 g a .u32 zs := ha.up hN2
    have hgs : 0 < zs.length → g ≠ w.heap.size := fun h => by have := ha.lt h; omega
    have hL : (us ++ (List.replicate (us.length + 1) (0 : Int)).drop us.length).length = us.length + 1 := by simp
    have hlm : Lmb (us ++ (List.replicate (us.length + 1) (0 : Int)).drop us.length) := lmb_app hu _
    have hlv : lval (us ++ (List.replicate (us.length + 1) (0 : Int)).drop us.length) = lval us := lval_app us _
    generalize (us ++ (List.replicate (us.length + 1) (0 : Int)).drop us.length) = ss at *
    have HL := hide hL
    have HV := hide hlv
    rw [hrun]
    clear hown hgrow hB0 hN0 hO hrun hL hlv
    go_wp2_with fail
    rw [← HL.out]
    refine (addInPlace_any w2 w.heap.size _ _ ss g a ca zs hB2.own0 hS hgs hlm hz (by rw [HL.out]; omega) (by omega)).mono ?_
    rintro e w3 ⟨ys, c, rfl, hA, o3, O3⟩
    obtain ⟨y1, y2, y3, _, _⟩ := hA
    have hD := LAddTo.done ⟨y1, y2, y3, by assumption, by assumption⟩ (by rw [HL.out]; omega)
    have hN3 := hN2.trans (O3.below (Nat.le_refl _))
    have hc : c = 0 := by
      have b1 := (lval_bd hu).2
      have b2 := (lval_bd hz).2
      have b3 := p32_mono (show zs.length ≤ us.length by omega)
      have b4 := (lval_bd y2).1
      rw [HV.out, HL.out, Int.pow_succ] at hD
      have b5 := p32_pos us.length
      rcases (show c = 0 ∨ c = 1 by omega) with h | h
      · exact h
      · subst h; omega
    have hv : lval ys = lval zs + lval us := by rw [hc, HV.out] at hD; omega
    have HY := hide y1
    have HVV := hide hv
    clear hD hc hv y1
    go_wp2_with fail
    rw [← HY.out]
    refine (trim_any w3 w.heap.size 0 ys.length ys o3.rd (Nat.le_refl _) (by rw [HY.out, HL.out]; omega)).mono ?_
    rintro e w4 ⟨s, hs, rfl, hzf, htop, rfl⟩
    have hlen : (ys.take s).length = s := by simp; omega
    go_wp2
    go_ret
    exact trimmed o3 hs hzf htop y2 HVV.out (by rw [HY.out, HL.out]; omega) hN3
  · have t0 : decide ((zs.length : Int) < (us.length : Int)) = false := by simp; omega
    go_enter Tryz.func27, Tryz.ntmps27
    go_wp2_with (at_make; refine wpList_make_full _ rfl _ _ 54 rfl w.heap.size 93 i0 (.int .u32 0) 1 Tryz.underlying54 hi hz0 hz1 .i64 .i64 _ _ (zs.length + 1) rfl rfl (by omega) (by omega) (by rw [hz2]; omega) (by unfold maxLen; omega) (Nat.le_refl _) ?_; intro w1 hown hgrow)
    have hB0 := Blk.of_made hown
    have hN0 : Below w.heap.size w w1 := (Below.refl _ _).grown hgrow (Nat.le_refl _) (by simp)
    obtain ⟨w2, hrun, hB2, hO⟩ := copy_blk (P := Tryz.prog) w1 54 3 93 Tryz.underlying54 hsz hB0 g a zs (ha.up hN0) (by simp) (zs.length + 1) ca
    rw [List.length_replicate] at hrun
    have hN2 := hN0.trans (hO.below (Nat.le_refl _))
    have hS : Rd w2 g' b .u32 us := hb.up hN2
    have hgs : 0 < us.length → g' ≠ w.heap.size := fun h => by have := hb.lt h; omega
    have hL : (zs ++ (List.replicate (zs.length + 1) (0 : Int)).drop zs.length).length = zs.length + 1 := by simp
    have hlm : Lmb (zs ++ (List.replicate (zs.length + 1) (0 : Int)).drop zs.length) := lmb_app hz _
    have hlv : lval (zs ++ (List.replicate (zs.length + 1) (0 : Int)).drop zs.length) = lval zs := lval_app zs _
    generalize (zs ++ (List.replicate (zs.length + 1) (0 : Int)).drop zs.length) = ss at *
    have HL := hide hL
    have HV := hide hlv
    rw [hrun]
    clear hown hgrow hB0 hN0 hO hrun hL hlv
    go_wp2_with fail
    rw [← HL.out]
    refine (addInPlace_any w2 w.heap.size _ _ ss g' b cb us hB2.own0 hS hgs hlm hu (by rw [HL.out]; omega) (by omega)).mono ?_
    rintro e w3 ⟨ys, c, rfl, hA, o3, O3⟩
    obtain ⟨y1, y2, y3, _, _⟩ := hA
    have hD := LAddTo.done ⟨y1, y2, y3, by assumption, by assumption⟩ (by rw [HL.out]; omega)
    have hN3 := hN2.trans (O3.below (Nat.le_refl _))
    have hc : c = 0 := by
      have b1 := (lval_bd hz).2
      have b2 := (lval_bd hu).2
      have b3 := p32_mono (show us.length ≤ zs.length by omega)
      have b4 := (lval_bd y2).1
      rw [HV.out, HL.out, Int.pow_succ] at hD
      have b5 := p32_pos zs.length
      rcases (show c = 0 ∨ c = 1 by omega) with h | h
      · exact h
      · subst h; omega
    have hv : lval ys = lval zs + lval us := by rw [hc, HV.out] at hD; omega
    have HY := hide y1
    have HVV := hide hv
    clear hD hc hv y1
    go_wp2_with fail
    rw [← HY.out]
    refine (trim_any w3 w.heap.size 0 ys.length ys o3.rd (Nat.le_refl _) (by rw [HY.out, HL.out]; omega)).mono ?_
    rintro e w4 ⟨s, hs, rfl, hzf, htop, rfl⟩
    have hlen : (ys.take s).length = s := by simp; omega
    go_wp2
    go_ret
    exact trimmed o3 hs hzf htop y2 HVV.out (by rw [HY.out, HL.out]; omega) hN3
end Go.Proofs.YtkglcainhkbgbaaGreatDoor
namespace Go.Proofs.YtkglcainhkbgbaaGreatDoor
set_option maxRecDepth 100000
open Go.RowKit
set_option maxHeartbeats 2000000 in
theorem result_any (w : World) (g : Nat) (a : Option Addr) (cap : Nat) (zs : List Int) (hr : Rd w g a .u32 zs) (hz : Lmb zs) (hn : zs.length ≤ 4096) :
    Calls Tryz.prog 28 #[.slice a zs.length cap] w fun e w' => ∃ t ys, ResOf (lval zs) t ys ∧ NewRes w.heap.size w' e t ys ∧ Below w.heap.size w w' := by
  have hal : Below w.heap.size w (w.alloc (.cells #[.bool false, .slice none 0 0] 30)) := (Below.refl _ _).alloc (Nat.le_refl _) _
  go_enter Tryz.func28, Tryz.ntmps28
  go_wp2_with fail
  refine (bytes_any1 _ g a cap zs (hr.up hal) hz hn).mono ?_
  rintro e w1 ⟨ys, C, ⟨a1, c1, g1, rfl, o1, q1, q2, q3⟩, n1⟩
  have q3' : w.heap.size + 1 ≤ g1 := by simpa using q3
  obtain ⟨k1, k2, k3, k4, k5⟩ := two_kept n1
  have N1 := nxt hal n1
  by_cases h : ys.length ≤ 128
  · have t1 : decide ((ys.length : Int) ≤ 128) = true := by simp; omega
    clear q3 n1
    go_wp2
    obtain ⟨o3, N3⟩ := two_laid (u := .bool true) (v := .slice a1 ys.length c1) N1 o1 (by omega)
    exact bodyPost_ret (v := .agg #[.bool true, .slice a1 ys.length c1]) (by simp [results, Tryz.results28, go_sem, k1, k2]) rfl ⟨true, ys, ⟨ys, C, .inl ⟨h, rfl, rfl⟩⟩, ⟨a1, c1, g1, rfl, o3, q1, q2, by omega⟩, N3⟩
  · have t1 : decide ((ys.length : Int) ≤ 128) = false := by simp; omega
    clear q3 n1
    go_wp2
    obtain ⟨o3, N3⟩ := two_laid (u := .bool false) (v := .slice none 0 0) N1 o1 (by omega)
    exact bodyPost_ret (v := .agg #[.bool false, .slice none 0 0]) (by simp [results, Tryz.results28, go_sem, k1, k2]) rfl ⟨false, [], ⟨ys, C, .inr ⟨by omega, rfl, rfl⟩⟩, NewRes.none N3.size, N3⟩
set_option maxHeartbeats 2000000 in
theorem implNumAdd_any (w : World) (g g' : Nat) (a b : Option Addr) (ca cb : Nat) (xs us : List Int) (ha : Rd w g a .u8 xs) (hb : Rd w g' b .u8 us) (hx : Byt xs) (hu : Byt us) :
    Calls Tryz.prog 11 #[.slice a xs.length ca, .slice b us.length cb] w fun e w' => ∃ t zs, NumOf (xs.length ≤ 128 ∧ us.length ≤ 128) (bval xs + bval us) t zs ∧ NewRes w.heap.size w' e t zs ∧ Below w.heap.size w w' := by
  have hal : Below w.heap.size w (w.alloc (.cells #[.bool false, .slice none 0 0] 30)) := (Below.refl _ _).alloc (Nat.le_refl _) _
  by_cases h1 : xs.length ≤ 128
  · have t1 : decide ((xs.length : Int) ≤ 128) = true := by simp; omega
    by_cases h2 : us.length ≤ 128
    · have t2 : decide ((us.length : Int) ≤ 128) = true := by simp; omega
      go_enter Tryz.func11, Tryz.ntmps11
      go_wp2_with (go_at_call 25; go_in)
      have T0 := Two.new w (.bool false) (.slice none 0 0) 30
      generalize w.alloc (.cells #[.bool false, .slice none 0 0] 30) = wa at *
      refine (readNatural_any wa g a ca xs (ha.up hal) hx h1).mono ?_
      rintro e w1 ⟨zs, c1, l1, m1, rfl, o1, b1, p1, v1, n1, s1⟩
      have V1 := hide v1
      have N1 := nxt hal n1
      clear v1
      go_wp2_with fail
      refine (readNatural_any w1 g' b cb us (hb.up N1) hu h2).mono ?_
      rintro e w2 ⟨ms, c2, l2, m2, rfl, o2, b2, p2, v2, n2, s2⟩
      have V2 := hide v2
      clear v2
      go_wp2_with fail
      refine (add_any1 w2 _ _ _ _ c1 c2 zs ms (o1.up n2).rd o2.rd b1 b2 (by omega) (by omega)).mono ?_
      rintro e w3 ⟨⟨ss, c3, l3, m3, rfl, o3, b3, p3, v3⟩, n3⟩
      have V3 := hide v3
      clear v3
      go_wp2_with fail
      refine (result_any w3 _ _ c3 ss o3.rd b3 (by omega)).mono ?_
      rintro e w4 ⟨t, rs, R, ⟨a4, c4, g4, rfl, o4, q4, r4, s4⟩, n4⟩
      rw [V3.out, V1.out, V2.out] at R
      have n14 := nxt (nxt (nxt n1 n2) n3) n4
      have t0 := T0.lt
      obtain ⟨k1, k2, k3, k4⟩ := T0.up n14
      have N4 := nxt hal n14
      have e1 := n1.size
      have e2 := n2.size
      have e3 := n3.size
      clear o1 o2 o3 n1 n2 n3 n4 n14 N1 s1 s2
      go_wp2
      obtain ⟨o5, N5⟩ := two_laid (u := .bool t) (v := .slice a4 rs.length c4) N4 o4 (by omega)
      exact bodyPost_ret (v := .agg #[.bool t, .slice a4 rs.length c4]) (by simp [results, Tryz.results11, go_sem, k1, k2]) rfl ⟨t, rs, .inl ⟨⟨h1, h2⟩, R⟩, ⟨a4, c4, g4, rfl, o5, q4, r4, by omega⟩, N5⟩
    · have t2 : decide ((us.length : Int) ≤ 128) = false := by simp; omega
      go_enter Tryz.func11, Tryz.ntmps11
      go_wp2
      exact bodyPost_ret (v := .agg #[.bool false, .slice none 0 0]) (by simp [results, Tryz.results11, go_sem]) rfl ⟨false, [], .inr ⟨by omega, rfl, rfl⟩, NewRes.none (by simp), hal⟩
  · have t1 : decide ((xs.length : Int) ≤ 128) = false := by simp; omega
    go_enter Tryz.func11, Tryz.ntmps11
    go_wp2
    exact bodyPost_ret (v := .agg #[.bool false, .slice none 0 0]) (by simp [results, Tryz.results11, go_sem]) rfl ⟨false, [], .inr ⟨by omega, rfl, rfl⟩, NewRes.none (by simp), hal⟩
end Go.Proofs.YtkglcainhkbgbaaGreatDoor
namespace Go.Proofs.YtkglcainhkbgbaaGreatDoor
set_option maxRecDepth 100000
open Go.RowKit
def TurnOf (xs : List Int) (n : Int) (zs : List Int) : Prop :=
  ((xs.length ≤ 128 ∧ 1 ≤ n ∧ n ≤ 128) ∧ ∃ c, Canon c (bval xs) ∧ (((c.length : Int) ≤ n ∧ zs = fill (dig xs) n.toNat) ∨ (n < (c.length : Int) ∧ zs = []))) ∨ (¬ (xs.length ≤ 128 ∧ 1 ≤ n ∧ n ≤ 128) ∧ zs = [])
theorem TurnOf.uniq {xs : List Int} {n : Int} {a b : List Int} (ha : TurnOf xs n a) (hb : TurnOf xs n b) : a = b := by
  rcases ha with ⟨h1, c, hc, h2⟩ | ⟨h1, rfl⟩
  · rcases hb with ⟨h3, d, hd, h4⟩ | ⟨h3, rfl⟩
    · obtain rfl := hc.uniq hd
      rcases h2 with ⟨h5, rfl⟩ | ⟨h5, rfl⟩
      · rcases h4 with ⟨h6, rfl⟩ | ⟨h6, rfl⟩
        · rfl
        · omega
      · rcases h4 with ⟨h6, rfl⟩ | ⟨h6, rfl⟩
        · omega
        · rfl
    · exact absurd h1 h3
  · rcases hb with ⟨h3, d, hd, h4⟩ | ⟨h3, rfl⟩
    · exact absurd h3 h1
    · rfl
theorem TurnOf.len {xs : List Int} {n : Int} {a : List Int} (ha : TurnOf xs n a) : a.length ≤ 128 := by
  rcases ha with ⟨h1, c, hc, ⟨_, rfl⟩ | ⟨_, rfl⟩⟩ | ⟨_, rfl⟩
  · rw [fill_len]; omega
  · simp
  · simp
theorem newRow_nil1 (w : World) (k : IntKind) : NewRow w.heap.size w (.returned (.slice none 0 0)) k [] :=
  ⟨_, 0, w.heap.size, rfl, Own.nil _ _ _ _, by simp, Nat.zero_le _, Nat.le_refl _⟩
theorem newRow_nil1' {B : Nat} {w : World} {k : IntKind} (h : B ≤ w.heap.size) : NewRow B w (.returned (.slice none 0 0)) k [] :=
  ⟨_, 0, w.heap.size, rfl, Own.nil _ _ _ _, by simp, Nat.zero_le _, h⟩
set_option maxHeartbeats 2000000 in
theorem implNumTurn_any (w : World) (g : Nat) (a : Option Addr) (cap : Nat) (xs : List Int) (n : Int) (hr : Rd w g a .u8 xs) (hb : Byt xs) (hcap : xs.length ≤ cap) (hn : xs.length ≤ 1048576) :
    Calls Tryz.prog 14 #[.slice a xs.length cap, .int .i64 n] w fun e w' => ∃ ys, TurnOf xs n ys ∧ NewRow w.heap.size w' e .u8 ys ∧ Below w.heap.size w w' := by
  obtain ⟨i0, hi, hz0, hz1, hz2⟩ := info_parts Tryz.info5
  by_cases h1 : xs.length ≤ 128
  · have t1 : decide ((xs.length : Int) ≤ 128) = true := by simp; omega
    by_cases h2 : 1 ≤ n
    · have t2 : decide (n < 1) = false := by simp; omega
      by_cases h3 : n ≤ 128
      · have t3 : decide (128 < n) = false := by simp; omega
        go_enter Tryz.func14, Tryz.ntmps14
        go_wp2_with (go_at_call 25; go_in)
        refine (withoutZeros_any w g a cap xs hr hb hcap hn).mono ?_
        rintro e w1 ⟨ys, C, hl, rfl, B1, n1⟩
        have hl1 := B1.lt
        by_cases h4 : (ys.length : Int) ≤ n
        · have t4 : decide (n < (ys.length : Int)) = false := by simp; omega
          obtain ⟨m, hm⟩ := Int.eq_ofNat_of_zero_le (show 0 ≤ n by omega)
          subst hm
          go_wp2_with (at_make; refine wpList_make_full _ rfl _ _ 22 rfl w1.heap.size 5 i0 (.int .u8 0) 1 Tryz.underlying22 hi hz0 hz1 .i64 .i64 _ _ m rfl rfl rfl rfl (by rw [hz2]; omega) (by unfold maxLen; omega) (Nat.le_refl _) ?_; intro w2 hown hgrow)
          have hB0 := Blk.of_made hown
          have hN0 : Below w1.heap.size w1 w2 := (Below.refl _ _).grown hgrow (Nat.le_refl _) (by simp)
          clear hown hgrow
          go_loopw [29] (fun i wr => ∃ (k : Nat) (zs : List Int), k ≤ ys.length ∧ i = .int .i64 k ∧ (FillTo (dig ys) zs m k ∧ ∀ j, k ≤ j → zs.getD j 0 = 0) ∧ Blk wr w1.heap.size .u8 zs ∧ Below w1.heap.size w1 wr) (fun i _ => ys.length - (intOf i).toNat)
          case atStart => exact ⟨0, _, Nat.zero_le _, rfl, ⟨⟨by simp, fun j h => absurd h (by omega)⟩, fun j _ => by by_cases hj : j < m <;> simp [hj]⟩, hB0, hN0⟩
          case round =>
            obtain ⟨k, zs, hk, rfl, hcp, hB, hN⟩ := hrel
            by_cases hlt : k < ys.length
            · have R : FillTo (dig ys) (zs.set k (dig ys k)) m (k + 1) ∧ ∀ j, k + 1 ≤ j → (zs.set k (dig ys k)).getD j 0 = 0 :=
                ⟨hcp.1.step (by omega), fun j hj => by rw [getD_set_ne _ _ _ _ (by omega)]; exact hcp.2 j (by omega)⟩
              have hcy : wr.cell? ⟨w1.heap.size, k, none⟩ = some (.int .u8 (zs.getD k 0)) := hB.cell (by rw [hcp.1.1]; omega)
              have hfy := hB.free k
              have hcx : wr.cell? ⟨w.heap.size, ys.length - 1 - k, none⟩ = some (.int .u8 (dig ys k)) := by
                rw [hN.cell (p := ⟨w.heap.size, ys.length - 1 - k, none⟩) hl1, B1.cell (by omega)]
                unfold dig
                rw [if_pos hlt]
              have hB' := hB.store k (dig ys k)
              have hN' : Below w1.heap.size w1 (wr.setCell ⟨w1.heap.size, k, none⟩ (.int .u8 (dig ys k))) := hN.setCell (Nat.le_refl _) _
              obtain ⟨p, hp⟩ : ∃ p : Nat, ys.length - 1 - k = p := ⟨_, rfl⟩
              rw [hp] at hcx
              have p1 : (ys.length : Int) - 1 - (k : Int) = (p : Int) := by omega
              have p2 : (p : Int) < (ys.length : Int) := by omega
              have q2 : (k : Int) < (m : Int) := by omega
              have R' := hide R
              generalize dig ys k = x at *
              clear hB hN hcp hp R
              go_wp2
              go_roundw
              case rel => exact ⟨k + 1, _, by omega, by go_num, R'.out, hB', hN'⟩
              case measure => simp [intOf]; omega
            · obtain rfl : k = ys.length := by omega
              have e1 : zs = fill (dig xs) m := by
                refine eq_of_getD (by rw [hcp.1.1, fill_len]) (fun j hj => ?_)
                rw [hcp.1.1] at hj
                rw [fill_get _ _ _ hj, dig_same hb C.1 C.2.1.symm j]
                by_cases hjl : j < ys.length
                · exact hcp.1.2 j hjl
                · rw [hcp.2 j (by omega)]
                  unfold dig
                  rw [if_neg hjl]
              have e2 := hide e1
              clear e1 hcp
              go_wp2
              go_ret
              rw [e2.out] at hB
              exact ⟨_, .inl ⟨⟨h1, h2, h3⟩, ys, C, .inl ⟨h4, rfl⟩⟩, ⟨_, _, _, ret_slice (by rw [fill_len, Int.toNat_natCast]), hB.own0, by simp, by rw [fill_len, Int.toNat_natCast]; exact Nat.le_refl _, n1.size⟩, nxt n1 hN⟩
        · have t4 : decide (n < (ys.length : Int)) = true := by simp; omega
          go_wp2
          go_ret
          exact ⟨[], .inl ⟨⟨h1, h2, h3⟩, ys, C, .inr ⟨by omega, rfl⟩⟩, newRow_nil1' n1.size, n1⟩
      · have t3 : decide (128 < n) = true := by simp; omega
        go_enter Tryz.func14, Tryz.ntmps14
        go_wp2
        go_ret
        exact ⟨[], .inr ⟨by omega, rfl⟩, newRow_nil1 w _, Below.refl _ _⟩
    · have t2 : decide (n < 1) = true := by simp; omega
      go_enter Tryz.func14, Tryz.ntmps14
      go_wp2
      go_ret
      exact ⟨[], .inr ⟨by omega, rfl⟩, newRow_nil1 w _, Below.refl _ _⟩
  · have t1 : decide ((xs.length : Int) ≤ 128) = false := by simp; omega
    go_enter Tryz.func14, Tryz.ntmps14
    go_wp2
    go_ret
    exact ⟨[], .inr ⟨by omega, rfl⟩, newRow_nil1 w _, Below.refl _ _⟩
end Go.Proofs.YtkglcainhkbgbaaGreatDoor
namespace Go.Proofs.YtkglcainhkbgbaaGreatDoor
set_option maxRecDepth 100000
open Go Go.RowKit
theorem num_fillD {ss : List Int} (n : Nat) (hl : ss.length ≤ n) : num (fill (dig ss) n) = bval ss := by
  unfold num
  rw [fill_len, ← lo_all ss n hl]
  refine (lo_lsum n (fun i hi => ?_)).symm
  show dig ss i = (fill (dig ss) n).getD i 0
  rw [fill_get _ _ _ hi]
theorem moved_is {ys us zs mv : List Int} {t : Bool} {v : Int} (l1 : ys.length = 32) (l2 : us.length = 32) (v1 : bval ys = v) (v0 : v < QQ) (v2 : bval us = QQ) (h : NumOf (ys.length ≤ 128 ∧ us.length ≤ 128) (bval ys + bval us) t zs) (hz : TurnOf zs 32 mv) :
    mv.length = 32 ∧ num mv = v + QQ := by
  have hv : bval ys + bval us < 256 ^ 32 := by
    rw [v1, v2]
    have : QQ + QQ < 256 ^ 32 := by decide
    omega
  have k : Canon zs (bval ys + bval us) ∧ zs.length ≤ 32 := by
    rcases h with ⟨_, c, hc, h | h⟩ | ⟨h, _⟩
    · obtain ⟨h1, rfl, rfl⟩ := h
      exact ⟨hc, hc.len hv⟩
    · obtain ⟨h1, rfl, rfl⟩ := h
      have := hc.len hv
      omega
    · exact absurd ⟨by omega, by omega⟩ h
  have e : mv = fill (dig zs) 32 := by
    rcases hz with ⟨_, c, hc, h | h⟩ | ⟨h, _⟩
    · rw [h.2]; rfl
    · have := hc.len (n := 32) (by rw [k.1.2.1]; exact hv)
      omega
    · exact absurd ⟨by omega, by omega, by omega⟩ h
  rw [e]
  exact ⟨fill_len _ _, by rw [num_fillD 32 k.2, k.1.2.1, v1, v2]⟩
theorem over_is {mv : List Int} {v : Int} (v0 : 0 ≤ v) (h : num mv = v + QQ) : ovalid mv = false := by
  unfold ovalid
  rw [h, decide_eq_false (by omega : ¬ v + QQ < QQ)]
  simp
end Go.Proofs.YtkglcainhkbgbaaGreatDoor
namespace Go.Proofs.YtkglcainhkbgbaaGreatDoor
set_option maxRecDepth 100000
open Go Go.RowKit
set_option maxHeartbeats 400000 in
theorem lwCopyV_any (w : World) (g : Nat) (a : Option Addr) (cap : Nat) (xs : List Int) (hr : Rd w g a .u8 xs) (hc : a = none → cap = 0) (hn : xs.length ≤ 1048576) :
    Calls Tryz.prog 7 #[.slice a xs.length cap] w fun e w' => ∃ v, e = .returned v ∧ w'.ownsRow w.heap.size 5 1 v xs.length (xs.map (Value.int .u8)) ∧ Below w.heap.size w w' := by
  obtain ⟨i0, hi, hz0, hz1, hz2⟩ := info_parts Tryz.info5
  have hown : (w.alloc (.cells #[] 5)).ownsRow w.heap.size 5 1 (.slice (some ⟨w.heap.size, 0, none⟩) 0 0) 0 [] := World.ownsRow_lit w #[] 0 (Nat.le_refl _) (by unfold maxLen; omega) (by simp)
  have hal : Below w.heap.size w (w.alloc (.cells #[] 5)) := (Below.refl _ _).alloc (Nat.le_refl _) _
  cases a with
  | none =>
    obtain rfl : xs = [] := by
      by_cases h0 : 0 < xs.length
      · obtain ⟨off, h, _⟩ := hr h0
        simp at h
      · exact List.eq_nil_of_length_eq_zero (by omega)
    obtain rfl := hc rfl
    go_enter Tryz.func7, Tryz.ntmps7
    go_wp2_with (at_builtin; refine wpList_append_own_none rfl _ _ 22 rfl w.heap.size 5 i0 1 Tryz.underlying22 hi _ 0 [] rfl hown rfl ?_)
    go_ret
    exact ⟨_, rfl, hown, hal⟩
  | some ad =>
    have hcell : ∀ j u, (xs.map (Value.int .u8))[j]? = some u → (w.alloc (.cells #[] 5)).cell? (ad.add j) = some u := by
      intro j u hj
      have hjl : j < xs.length := by
        have := (List.getElem?_eq_some_iff.1 hj).1
        simpa using this
      obtain ⟨off, ha, hcc⟩ := (hr.up hal) (by omega)
      simp only [Option.some.injEq] at ha
      subst ha
      rw [Addr.add_mid, hcc j hjl]
      simpa [hjl] using hj
    have hone : ∀ u ∈ xs.map (Value.int .u8), u.oneCell' = true := by
      intro u hu
      obtain ⟨x, _, rfl⟩ := List.mem_map.1 hu
      rfl
    go_enter Tryz.func7, Tryz.ntmps7
    go_wp2_with (at_builtin; refine wpList_append_own _ rfl _ _ 22 rfl w.heap.size 5 i0 (.int .u8 0) 1 1 Tryz.underlying22 hi hz0 hz1 hz2 rfl (by decide) (.slice (some ⟨w.heap.size, 0, none⟩) 0 0) 0 [] rfl hown ad xs.length cap (xs.map (Value.int .u8)) rfl (by simp) hcell hone (by unfold maxLen; omega) (by omega) (by simp) ?_; intro v' w1 hown' hgrow _)
    simp only [Nat.zero_add, List.nil_append] at hown'
    have hB : Below w.heap.size w w1 := hal.grown hgrow (by simp) (by intro k hk; simp [Value.ownBlock] at hk; omega)
    clear hgrow hown
    go_wp2
    go_ret
    exact ⟨_, rfl, hown', hB⟩
theorem append_V {P : Program} (w : World) (ty : TypeId) (i : TypeInfo) (ht : P.underlying 22 = some (.slice 5)) (hi : P.info? 5 = some i) (hz : i.zero = some (.int .u8 0)) (hsize : i.size = 1) (hby : i.bytes = 1)
    (base : Nat) (v : Value) (xs : List Int) (hown : RowB w base v xs) (g : Nat) (a : Option Addr) (c : Nat) (us : List Int) (hr : Rd w g a .u8 us) (hc : a = none → c = 0) (hl : xs.length + us.length ≤ 1099511627776) (hbase : base ≤ w.heap.size) :
    ∃ v' w', (Builtin.append_ #[22, 22] ty #[v, .slice a us.length c]).run P w = .ok v' w' ∧ RowB w' base v' (xs ++ us) ∧ w.grownBy w' v.ownBlock := by
  cases a with
  | none =>
    obtain rfl : us = [] := by
      by_cases h0 : 0 < us.length
      · obtain ⟨off, h, _⟩ := hr h0
        simp at h
      · exact List.eq_nil_of_length_eq_zero (by omega)
    obtain rfl := hc rfl
    exact ⟨v, w, run_append_owned_none (P := P) (w := w) base 22 ty 5 i 1 ht hi v _ _ hown, by rw [List.append_nil]; exact hown, ⟨rfl, rfl, rfl, Nat.le_refl _, fun _ _ _ => rfl⟩⟩
  | some ad =>
    have hcell : ∀ j u, (us.map (Value.int .u8))[j]? = some u → w.cell? (ad.add j) = some u := by
      intro j u hj
      have hjl : j < us.length := by
        have := (List.getElem?_eq_some_iff.1 hj).1
        simpa using this
      obtain ⟨off, ha, hcc⟩ := hr (by omega)
      simp only [Option.some.injEq] at ha
      subst ha
      rw [Addr.add_mid, hcc j hjl]
      simpa [hjl] using hj
    have hone : ∀ u ∈ us.map (Value.int .u8), u.oneCell' = true := by
      intro u hu
      obtain ⟨x, _, rfl⟩ := List.mem_map.1 hu
      rfl
    obtain ⟨v', w', h1, h2, h3, _⟩ := run_append_own (P := P) w base 22 ty 5 i (.int .u8 0) 1 1 ht hi hz hsize hby rfl (by decide) v xs.length (xs.map (Value.int .u8)) hown ad us.length c (us.map (Value.int .u8)) (by simp) hcell hone (by unfold maxLen; omega) (by omega) hbase
    refine ⟨v', w', h1, ?_, h3⟩
    show w'.ownsRow base 5 1 v' (xs ++ us).length ((xs ++ us).map (Value.int .u8))
    rw [List.length_append, List.map_append]
    exact h2
def RBf (b : Nat) (xs : List Int) : Fact := ⟨fun v w => RowB w b v xs, fun n h => h.up n⟩
theorem en_copy : enters Tryz.prog 7 = true := by kernel_rfl
section
variable {ops : Array Oper} {Q : Exit → Act → World → Prop} {md : Region.Mode} {F : Nat → Fact} {a0 : Act} {w0 : World} {i : Nat} {o : Oper} {ts : Array TypeId}
theorem step_cpyV (hi : ops[i]? = some o) (p j : Nat) {a : Option Addr} {c g : Nat} {xs : List Int} (hop : o.op = .call { callee := .value (.func 7), args := #[.tmp p], argTypes := ts }) (hj : waits md ops i j p = true) (hFj : F j = Fact.eq (.slice a xs.length c)) (hr : Rd w0 g a .u8 xs) (hc : a = none → c = 0) (hn : xs.length ≤ 1048576) (hFi : F i = RBf w0.heap.size xs) : StepOk Tryz.prog md ops Q F a0 w0 i := by
  refine step_callv hi _ _ ts hop en_copy fun A w _ hw hF => ?_
  have ea := hF j p hj
  rw [hFj] at ea
  show Calls Tryz.prog 7 #[A.tmps.getD p undef] w _
  rw [show A.tmps.getD p undef = _ from ea]
  refine (lwCopyV_any w g a c xs (hr.up hw) hc hn).mono ?_
  rintro e w' ⟨v, rfl, ow, n⟩
  rw [hFi]
  exact ⟨v, rfl, n, RowB.base ow hw.size⟩
theorem fresh_callv {P : Program} {i : Nat} {o : Oper} (hi : ops[i]? = some o) (n : FuncId) (args : Array Operand) (ts : Array TypeId) (hop : o.op = .call { callee := .value (.func n), args := args, argTypes := ts }) (he : enters P n = true)
    (G : ∀ a w, Based ops a0 a → Below w0.heap.size w0 w → Facts md ops F i a w → Calls P n (args.toList.map a.eval).toArray w fun e w' => ∃ v, e = .returned v ∧ Below w.heap.size w w' ∧ (F i).p v w' ∧ ∃ b, blkOf v = some b ∧ w.heap.size ≤ b ∧ b < w'.heap.size) : FreshG P md ops Q F a0 w0 i := by
  intro o' ho' a w hb hw hf K hK
  obtain rfl := Option.some.inj (hi.symm.trans ho')
  have hr : (execOp a.eval o).run P w = .ok (.enter n (args.map a.eval)) w := by
    have h0 : (Deferred.ofValue (Value.func (Fn.func n) #[] #[]) (args.map a.eval)).run P w = .ok { target := .fn (.func n) #[], args := args.map a.eval } w := by simp [Deferred.ofValue]
    simp [execOp, hop, resolve, invoke, Act.eval, h0, run_enter he]
  have e : args.map a.eval = (args.toList.map a.eval).toArray := by cases args; simp
  unfold Oper.wp
  rw [hr, e, Oper.upon_enter]
  refine (G a w hb hw hf).mono ?_
  rintro e w' ⟨v, rfl, hn, hv, hb⟩
  exact hK v w' hn hv hb
theorem fresh_cpyV (hi : ops[i]? = some o) (p j : Nat) {a : Option Addr} {c g : Nat} {xs : List Int} (hop : o.op = .call { callee := .value (.func 7), args := #[.tmp p], argTypes := ts }) (hj : waits md ops i j p = true) (hFj : F j = Fact.eq (.slice a xs.length c)) (hr : Rd w0 g a .u8 xs) (hc : a = none → c = 0) (hn : xs.length ≤ 1048576) (h0 : 0 < xs.length) (hFi : F i = RBf w0.heap.size xs) : FreshG Tryz.prog md ops Q F a0 w0 i := by
  refine fresh_callv hi _ _ ts hop en_copy fun A w _ hw hF => ?_
  have ea := hF j p hj
  rw [hFj] at ea
  show Calls Tryz.prog 7 #[A.tmps.getD p undef] w _
  rw [show A.tmps.getD p undef = _ from ea]
  refine (lwCopyV_any w g a c xs (hr.up hw) hc hn).mono ?_
  rintro e w' ⟨v, rfl, ow, n⟩
  refine ⟨v, rfl, n, by rw [hFi]; exact RowB.base ow hw.size, ?_⟩
  rcases ow.2 with ⟨_, h⟩ | ⟨b, cap, cur, rfl, hbg, hg, _⟩
  · omega
  · exact ⟨b, rfl, hbg, (Array.getElem?_eq_some_iff.1 hg).1⟩
end
end Go.Proofs.YtkglcainhkbgbaaGreatDoor
namespace Go.Proofs.YtkglcainhkbgbaaGreatDoor
set_option maxRecDepth 100000
open Go.RowKit
set_option maxHeartbeats 2000000 in
theorem lwTurn_any (w : World) (g : Nat) (a : Option Addr) (c : Nat) (xs : List Int) (hr : Rd w g a .u8 xs) (hb : Byt xs) (hl : xs.length ≤ 1048576) :
    Calls Tryz.prog 12 #[.slice a xs.length c] w fun e w' => ∃ ys, TurnTo xs ys xs.length ∧ Byt ys ∧ NewRow w.heap.size w' e .u8 ys ∧ Below w.heap.size w w' := by
  obtain ⟨i0, hi, hz0, hz1, hz2⟩ := info_parts Tryz.info5
  have hown0 : (w.alloc (.cells #[] 5)).ownsRow w.heap.size 5 1 (.slice (some ⟨w.heap.size, 0, none⟩) 0 0) 0 [] := World.ownsRow_lit w #[] 0 (Nat.le_refl _) (by unfold maxLen; omega) (by simp)
  have hal : Below w.heap.size w (w.alloc (.cells #[] 5)) := (Below.refl _ _).alloc (Nat.le_refl _) _
  go_enter Tryz.func12, Tryz.ntmps12
  go_wp2
  go_loopw [3, 4] (fun v i wr => ∃ (k : Nat) (t : Int) (ys : List Int), i = .int .i64 t ∧ t + (k : Int) + 1 = (xs.length : Int) ∧ -1 ≤ t ∧ TurnTo xs ys k ∧ Byt ys ∧ wr.ownsRow w.heap.size 5 1 v k (ys.map (Value.int .u8)) ∧ Below w.heap.size w wr) (fun _ i _ => (intOf i + 1).toNat)
  case atStart => exact ⟨0, (xs.length : Int) - 1, [], rfl, by omega, by omega, ⟨rfl, fun i h => absurd h (by omega)⟩, byt_nil, hown0, hal⟩
  case round =>
    obtain ⟨k, t, ys, rfl, ht, ht0, hT, hyb, hown, hN⟩ := hrel
    have hob := hown.lt
    by_cases hlt : 0 ≤ t
    · obtain ⟨j, rfl⟩ := Int.eq_ofNat_of_zero_le hlt
      obtain ⟨off, rfl, hc⟩ := (hr.up hN) (by omega)
      have cx := hc j (by omega)
      have xb := hb j
      have hT' := hT.step
      rw [show xs.length - 1 - k = j by omega] at hT'
      generalize xs.getD j 0 = x at *
      have j1 : (j : Int) < (xs.length : Int) := by omega
      have HT := hide ht
      clear hc ht
      go_wp2_with (at_builtin; refine wpList_append_own _ rfl _ _ 22 rfl w.heap.size 5 i0 (.int .u8 0) 1 1 Tryz.underlying22 hi hz0 hz1 hz2 rfl (by decide) _ k (ys.map (Value.int .u8)) rfl (hown.alloc _) ⟨wr.heap.size, 0, none⟩ 1 1 [.int .u8 x] rfl rfl ?c1 ?c2 ?c3 ?c4 ?c5 ?_)
      case c1 =>
        intro j u hj
        match j, hj with
        | 0, hj => simp at hj; subst hj; simp [Addr.add]
      case c2 => intro u hu; simp at hu; subst hu; rfl
      case c3 => unfold maxLen; have := HT.out; omega
      case c4 => have := HT.out; omega
      case c5 => simp; have := hN.size; omega
      · intro v' w2 hown2 hgrow _
        have nA : Below w.heap.size w (wr.alloc (.cells #[.int .u8 x] 5)) := hN.alloc hN.size _
        have N2 : Below w.heap.size w w2 := nA.grown hgrow (by simp; have := hN.size; omega) (fun i hi => (hob i hi).1)
        have hown3 : w2.ownsRow w.heap.size 5 1 v' (k + 1) ((ys ++ [x]).map (Value.int .u8)) := by simpa using hown2
        have hb3 := byt_app1 hyb x xb.1 (by omega)
        clear hown hown2 hgrow nA hob
        go_wp2
        go_roundw
        case rel => exact ⟨k + 1, (j : Int) - 1, ys ++ [x], rfl, by have := HT.out; omega, by omega, hT', hb3, hown3, N2⟩
        case measure => simp [intOf]
    · obtain rfl : t = -1 := by omega
      obtain rfl : k = xs.length := by omega
      have hown' := hown
      rw [← hT.1] at hown'
      obtain ⟨a', c', g', hv, o1, o2, o3, o4⟩ := Own.of_ownsRow hown'
      subst hv
      have L := hide hT
      clear hown hown' ht hT
      go_wp2
      go_ret
      exact ⟨ys, L.out, hyb, ⟨_, _, g', rfl, o1, o2, o3, o4⟩, hN⟩
end Go.Proofs.YtkglcainhkbgbaaGreatDoor
namespace Go.Proofs.YtkglcainhkbgbaaGreatDoor
set_option maxRecDepth 100000
open Go.RowKit
def SrcV (w : World) (s : Nat) (a : Option Addr) (n c : Nat) (T : Int) : Prop := ∃ u, 0 ≤ u ∧ u ≤ T ∧ Src w s a n c u
set_option maxHeartbeats 2000000 in
theorem l9DrawSeed_any (w : World) (s g : Nat) (a : Option Addr) (c : Nat) (xs : List Int) (t : Int) (t0 : 0 ≤ t) (t1 : t ≤ 5000) (hs : Src w s a xs.length c t) (hr : Rd w g a .u8 xs) (hne : 0 < xs.length → g ≠ s) (hb : Byt xs) (hl : xs.length ≤ 1048576) :
    Calls Tryz.prog 16 #[.pointer (some ⟨s, 0, none⟩)] w fun e w' => ∃ ys, Byt ys ∧ ys.length ≤ 64 ∧ NewRow w.heap.size w' e .u8 ys ∧ But s w w' ∧ SrcV w' s a xs.length c (t + 100) := by
  have sl := hs.lt
  go_enter Tryz.func16, Tryz.ntmps16
  go_wp2_with fail
  refine (l1Chance_any w s g a c xs t 25 hs hr hne hb hl (by omega) (by omega) (by decide) (by decide)).mono ?_
  rintro e w1 ⟨b, rfl, S1, O1⟩
  have N1 : But s w w1 := But.ofOnly O1
  have z1 := hide O1.size
  cases b with
  | true =>
    go_wp2_with fail
    refine (l1Next_any w1 s g a c xs (t + 1) 2 S1 (hr.but N1 hne) hne hb hl (by omega) (by omega) (by decide) (by decide)).mono ?_
    rintro e w2 ⟨v, rfl, ⟨v0, v1⟩, S2, O2⟩
    have N2 := N1.only O2
    have z2 := hide O2.size
    obtain ⟨m, hm⟩ : ∃ m : Nat, (m : Int) = 31 + 2 * v := ⟨(31 + 2 * v).toNat, by omega⟩
    have e1 : IntKind.i64.wrap (2 * v) = 2 * v := by rw [IntKind.wrap_i64]; omega
    have e2 : IntKind.i64.wrap (31 + 2 * v) = 31 + 2 * v := by rw [IntKind.wrap_i64]; omega
    have DB := l1DrawBytes_any w2 s g a c xs (t + 1 + 1) m S2 (hr.but N2 hne) hne hb hl (by omega) (by omega)
    rw [hm] at DB
    have HM := hide hm
    clear hm
    go_wp2_with fail
    refine DB.mono ?_
    rintro e w3 ⟨ys, yl, yb, ⟨a3, c3, g3, rfl, o3, p3, q3, r3⟩, S3, N3⟩
    have N4 := N2.trans N3
    have YL := hide yl
    have zz := hide (show w.heap.size ≤ g3 by have := z1.out; have := z2.out; omega)
    clear DB yl
    go_wp2
    go_ret
    exact ⟨ys, yb, by have := YL.out; have := HM.out; omega, ⟨a3, c3, g3, rfl, o3, p3, q3, zz.out⟩, N4, ⟨_, by omega, by omega, S3⟩⟩
  | false =>
    have DB := l1DrawBytes_any w1 s g a c xs (t + 1) 32 S1 (hr.but N1 hne) hne hb hl (by omega) (by omega)
    go_wp2_with fail
    refine DB.mono ?_
    rintro e w2 ⟨ys, yl, yb, ⟨a3, c3, g3, rfl, o3, p3, q3, r3⟩, S3, N3⟩
    have N4 := N1.trans N3
    have YL := hide yl
    have zz := hide (show w.heap.size ≤ g3 by have := z1.out; omega)
    clear DB yl
    go_wp2
    go_ret
    exact ⟨ys, yb, by have := YL.out; omega, ⟨a3, c3, g3, rfl, o3, p3, q3, zz.out⟩, N4, ⟨_, by omega, by omega, S3⟩⟩
set_option maxHeartbeats 2000000 in
theorem drawSign_any (w : World) (g : Nat) (a : Option Addr) (c : Nat) (xs : List Int) (hr : Rd w g a .u8 xs) (hb : Byt xs) (hl : xs.length ≤ 1048576) :
    Calls Tryz.prog 4 #[.slice a xs.length c] w fun e w' => ∃ (a1 a2 : Option Addr) (c1 c2 g1 g2 : Nat) (ys zs : List Int), e = .returned (.tuple #[.slice a1 ys.length c1, .slice a2 zs.length c2]) ∧ Own w' g1 a1 .u8 ys ∧ Own w' g2 a2 .u8 zs ∧ Byt ys ∧ Byt zs ∧ ys.length ≤ 64 ∧ zs.length ≤ 150 ∧ (a1 = none → c1 = 0) ∧ (a2 = none → c2 = 0) ∧ Below w.heap.size w w' := by
  go_enter Tryz.func4, Tryz.ntmps4
  go_wp2_with fail
  refine (l1Source_any w a xs.length c hl).mono ?_
  rintro e w1 ⟨rfl, S0, n1⟩
  have hne : 0 < xs.length → g ≠ w.heap.size := fun h => by have := hr.lt h; omega
  have lt1 : w.heap.size < w1.heap.size := S0.lt
  go_wp2_with fail
  refine (l9DrawSeed_any w1 w.heap.size g a c xs 0 (by omega) (by omega) S0 (hr.up n1) hne hb hl).mono ?_
  rintro e w2 ⟨ys, yb, yl, ⟨a1, c1, g1, rfl, o1, p1, q1, r1⟩, N2, ⟨u, u0, u1, S2⟩⟩
  have K2 : Below w.heap.size w w2 := n1.trans (N2.below (Nat.le_refl _) (by omega))
  have z2 := N2.size
  go_wp2_with fail
  refine (l1Next_any w2 w.heap.size g a c xs u 150 S2 (hr.up K2) hne hb hl (by omega) (by omega) (by decide) (by decide)).mono ?_
  rintro e w3 ⟨v, rfl, ⟨v0, v1⟩, S3, O3⟩
  have K3 := K2.trans ((But.ofOnly O3).below (Nat.le_refl _) (by omega))
  have o3 := o1.but (But.ofOnly O3) (fun _ => by omega)
  obtain ⟨m, hm⟩ : ∃ m : Nat, (m : Int) = v := ⟨v.toNat, by omega⟩
  have DB := l1DrawBytes_any w3 w.heap.size g a c xs (u + 1) m S3 (hr.up K3) hne hb hl (by omega) (by omega)
  rw [hm] at DB
  have HM := hide hm
  have z3 := O3.size
  clear hm
  go_wp2_with fail
  refine DB.mono ?_
  rintro e w4 ⟨zs, zl, zb, ⟨a4, c4, g4, rfl, o4, p4, q4, r4⟩, S4, N4⟩
  have K4 := K3.trans (N4.below (Nat.le_refl _) (by omega))
  have o5 := o3.but N4 (fun _ => by omega)
  have ZL := hide (show zs.length ≤ 150 by have := HM.out; omega)
  have YL := hide yl
  clear DB zl S0 S2 S3 S4 n1 N2 O3 N4 K2 K3 o1 o3 yl
  go_wp2
  go_ret2
  exact ⟨a1, a4, c1, c4, g1, g4, ys, zs, rfl, o5, o4, yb, zb, YL.out, ZL.out, p1, p4, K4⟩
end Go.Proofs.YtkglcainhkbgbaaGreatDoor
namespace Go.Proofs.YtkglcainhkbgbaaGreatDoor
set_option maxRecDepth 100000
open Go Go.RowKit Go.Extern.Stop Go.Stop Go.Extern
theorem As.valueOfP (t : Addr) (w : World) : (ReflectliteValue.unpack (.iface 50 (.pointer (some t)))).run Tryz.prog w
    = .ok (.agg #[.pointer (some ⟨14, 50, none⟩), .pointer (some ⟨w.heap.size, 0, none⟩), .int .u64 150]) (w.alloc (.cells #[.pointer (some t)] 50)) := by kernel_rfl
theorem As.typeP (a : Addr) (w : World) : (ReflectliteValue.methodAny (ReflectliteValue.valueError "reflectlite.Value.Type" 0) (fun t _ _ _ => ReflectliteType.toType t) #[.agg #[.pointer (some ⟨14, 50, none⟩), .pointer (some a), .int .u64 150]]).run Tryz.prog w
    = .ok (.iface 114 (.agg #[.pointer (some ⟨14, 50, none⟩)])) w := by kernel_rfl
theorem As.methodKind (h : Value) (w : World) : (Go.method 316 114 (.agg #[h]) "Kind").run Tryz.prog w = .ok (133, h) w := by kernel_rfl
theorem As.kindP (w : World) : ((ReflectliteType.abiMethod fun t => (fun a : Nat => Value.int IntKind.u8 (a : Int)) <$> Rtype.kind t) #[.pointer (some ⟨14, 50, none⟩)]).run Tryz.prog w = .ok (.int .u8 22) w := by kernel_rfl
theorem As.kindF (w : World) : ((ReflectliteType.abiMethod fun t => (fun a : Nat => Value.int IntKind.u8 (a : Int)) <$> Rtype.kind t) #[.pointer (some ⟨14, 45, none⟩)]).run Tryz.prog w = .ok (.int .u8 6) w := by kernel_rfl
theorem As.partsP (a : Addr) (w : World) : (ReflectliteValue.parts (.agg #[.pointer (some ⟨14, 50, none⟩), .pointer (some a), .int .u64 150])).run Tryz.prog w = .ok (some (50, a, 150)) w := by kernel_rfl
theorem As.isNilP (a p : Addr) (W : World) (ha : W.cell? a = some (.pointer (some p))) :
    (ReflectliteValue.method (ReflectliteValue.valueError "reflectlite.Value.IsNil" 0) ReflectliteValue.isNil #[.agg #[.pointer (some ⟨14, 50, none⟩), .pointer (some a), .int .u64 150]]).run Tryz.prog W = .ok (.bool false) W := by
  refine (Sem.run_bind _ _ (ReflectliteValue.parts (.agg #[.pointer (some ⟨14, 50, none⟩), .pointer (some a), .int .u64 150])) _).trans ?_
  simp only [As.partsP, Result.andThen]
  simp [ReflectliteValue.isNil, loadVar, isAgg, underlying, Tryz.underlying50, ha, Result.andThen]
theorem As.methodElem (h : Value) (w : World) : (Go.method 316 114 (.agg #[h]) "Elem").run Tryz.prog w = .ok (147, .agg #[h]) w := by kernel_rfl
theorem As.methodImplements (h : Value) (w : World) : (Go.method 316 114 (.agg #[h]) "Implements").run Tryz.prog w = .ok (148, .agg #[h]) w := by kernel_rfl
theorem As.methodAssignableTo (h : Value) (w : World) : (Go.method 316 114 (.agg #[h]) "AssignableTo").run Tryz.prog w = .ok (145, .agg #[h]) w := by kernel_rfl
theorem As.elemP (w : World) : (ReflectliteType.method ReflectliteType.elem #[.agg #[.pointer (some ⟨14, 50, none⟩)]]).run Tryz.prog w = .ok (.iface 114 (.agg #[.pointer (some ⟨14, 45, none⟩)])) w := by kernel_rfl
theorem As.implementsF (w : World) : (ReflectliteType.relation "Implements" ReflectliteType.implements_ #[.agg #[.pointer (some ⟨14, 45, none⟩)], .iface 114 (.agg #[.pointer (some ⟨14, 48, none⟩)])]).run Tryz.prog w = .ok (.bool true) w := by kernel_rfl
theorem As.typeOfF (v : Value) (w : World) : (ReflectliteType.typeOf #[.iface 45 v]).run Tryz.prog w = .ok (.iface 114 (.agg #[.pointer (some ⟨14, 45, none⟩)])) w := by kernel_rfl
theorem As.typeOfS (v : Value) (w : World) : (ReflectliteType.typeOf #[.iface 88 v]).run Tryz.prog w = .ok (.iface 114 (.agg #[.pointer (some ⟨14, 88, none⟩)])) w := by kernel_rfl
theorem As.assignableF (w : World) : (ReflectliteType.relation "AssignableTo" ReflectliteType.assignableTo #[.agg #[.pointer (some ⟨14, 45, none⟩)], .iface 114 (.agg #[.pointer (some ⟨14, 45, none⟩)])]).run Tryz.prog w = .ok (.bool true) w := by kernel_rfl
theorem As.assignableS (w : World) : (ReflectliteType.relation "AssignableTo" ReflectliteType.assignableTo #[.agg #[.pointer (some ⟨14, 88, none⟩)], .iface 114 (.agg #[.pointer (some ⟨14, 45, none⟩)])]).run Tryz.prog w = .ok (.bool false) w := by kernel_rfl
theorem As.valueOfF (n : Int) (w : World) : (ReflectliteValue.unpack (.iface 45 (.int .i64 n))).run Tryz.prog w
    = .ok (.agg #[.pointer (some ⟨14, 45, none⟩), .pointer (some ⟨w.heap.size, 0, none⟩), .int .u64 134]) (w.alloc (.cells #[.int .i64 n] 45)) := by kernel_rfl
theorem As.elemOfP (w : World) : (Rtype.elem? 50).run Tryz.prog w = .ok (some 45) w := by kernel_rfl
theorem As.mkF (p : Addr) (w : World) : (ReflectliteValue.mk 45 p ReflectliteValue.flagAddr).run Tryz.prog w = .ok (.agg #[.pointer (some ⟨14, 45, none⟩), .pointer (some p), .int .u64 390]) w := by kernel_rfl
theorem As.elemV (a p : Addr) (W : World) (ha : W.cell? a = some (.pointer (some p))) :
    (ReflectliteValue.method (ReflectliteValue.valueError "reflectlite.Value.Elem" 0) ReflectliteValue.elem #[.agg #[.pointer (some ⟨14, 50, none⟩), .pointer (some a), .int .u64 150]]).run Tryz.prog W
      = .ok (.agg #[.pointer (some ⟨14, 45, none⟩), .pointer (some p), .int .u64 390]) W := by
  refine (Sem.run_bind _ _ (ReflectliteValue.parts (.agg #[.pointer (some ⟨14, 50, none⟩), .pointer (some a), .int .u64 150])) _).trans ?_
  simp only [As.partsP, Result.andThen]
  simp [ReflectliteValue.elem, loadVar, isAgg, underlying, Tryz.underlying50, ha, Result.andThen, As.elemOfP, As.mkF]
theorem As.partsFa (a : Addr) (w : World) : (ReflectliteValue.parts (.agg #[.pointer (some ⟨14, 45, none⟩), .pointer (some a), .int .u64 390])).run Tryz.prog w = .ok (some (45, a, 390)) w := by kernel_rfl
theorem As.partsF (a : Addr) (w : World) : (ReflectliteValue.parts (.agg #[.pointer (some ⟨14, 45, none⟩), .pointer (some a), .int .u64 134])).run Tryz.prog w = .ok (some (45, a, 134)) w := by kernel_rfl
theorem As.directF (w : World) : (Rtype.directlyAssignable 45 45).run Tryz.prog w = .ok true w := by kernel_rfl
theorem As.setF (ta b : Addr) (n : Int) (old : Value) (W : World) (hb : W.cell? b = some (.int .i64 n)) (ht : W.cell? ta = some old) (hf : W.frozen? ta = false) :
    (ReflectliteValue.set #[.agg #[.pointer (some ⟨14, 45, none⟩), .pointer (some ta), .int .u64 390], .agg #[.pointer (some ⟨14, 45, none⟩), .pointer (some b), .int .u64 134]]).run Tryz.prog W
      = .ok (.tuple #[]) (W.setCell ta (.int .i64 n)) := by
  refine (Sem.run_bind _ _ (ReflectliteValue.parts (.agg #[.pointer (some ⟨14, 45, none⟩), .pointer (some ta), .int .u64 390])) _).trans ?_
  rw [As.partsFa]
  refine (Sem.run_bind _ _ (ReflectliteValue.parts (.agg #[.pointer (some ⟨14, 45, none⟩), .pointer (some b), .int .u64 134])) _).trans ?_
  simp only [As.partsF, Result.andThen]
  simp [ReflectliteValue.flagAddr, loadVar, isAgg, underlying, Tryz.underlying45, hb, Result.andThen, As.directF, storeVar, Value.cells, storeCells, Addr.add]
  rw [run_store Tryz.prog W ta _ _ (by rfl)]
  simp [ht, hf]
theorem As.noAsS (v : Value) (xT : TypeId) (w : World) : (Instr.typeAssert (.iface 88 v) xT 119 true).run Tryz.prog w = .ok (.tuple #[.nilIface, .bool false]) w := run_typeAssert_lacksB Tryz.underlying119 (by kernel_rfl) (by kernel_rfl) v xT w
theorem As.unwS (v : Value) (xT : TypeId) (w : World) : (Instr.typeAssert (.iface 88 v) xT 122 true).run Tryz.prog w = .ok (.tuple #[.iface 88 v, .bool true]) w := run_typeAssert_hasB Tryz.underlying122 (by kernel_rfl) v xT w
theorem As.methodUnwrap (v : Value) (w : World) : (Go.method 316 88 v "Unwrap").run Tryz.prog w = .ok (143, v) w := by kernel_rfl
end Go.Proofs.YtkglcainhkbgbaaGreatDoor
