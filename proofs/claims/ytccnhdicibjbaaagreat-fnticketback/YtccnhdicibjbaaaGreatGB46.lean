import Derived.Test.YtccnhdicibjbaaaGreatGB24
import Derived.Test.YtccnhdicibjbaaaGreatGB41
import Derived.Test.YtccnhdicibjbaaaGreatGB44
import Derived.Test.YtccnhdicibjbaaaGreatGB45
import Derived.Test.YtccnhdicibjbaaaGreatGB40
import Derived.Test.YtccnhdicibjbaaaGreatGB23
import Derived.Test.YtccnhdicibjbaaaGreatGB2
import Derived.Test.YtccnhdicibjbaaaGreatGB1
import Derived.Test.YtccnhdicibjbaaaGreatGB3
import Derived.WalkLawsBesides
namespace Go.Proofs.YtccnhdicibjbaaaGreat
open Go Go.RowKit
def otA (key data : List Int) : List Int := if key.length = 32 then otB key data else []
def rl (key : List Int) : List Int := fill (fun j => if j < 16 then cl j (key.getD j 0) else 0) 17
theorem rl_len (key : List Int) : (rl key).length = 17 := fill_len _ _
theorem rl_byt {key : List Int} (h : Byt key) : Byt (rl key) := fill_byt _ _ fun i => by
  show 0 ≤ (if i < 16 then cl i (key.getD i 0) else 0) ∧ (if i < 16 then cl i (key.getD i 0) else 0) < 256
  split
  · exact cl_byt i (h i)
  · decide
theorem rl_val (key : List Int) : lsum (fun j => (rl key).getD j 0) 17 = rv key := by
  unfold rl
  rw [lsum_congr 17 (fun j hj => fill_get (fun j => if j < 16 then cl j (key.getD j 0) else 0) 17 j hj), lsum, if_neg (by decide), rv]
  rw [lsum_congr 16 (fun j hj => if_pos hj)]
  omega
theorem UpN.rl {key zs : List Int} (h : UpN 17 (fun j => cl j (key.getD j 0)) (fun _ => 0) zs 16) : zs = Go.Proofs.YtccnhdicibjbaaaGreat.rl key := by
  refine eq_of_getD (by rw [h.1, rl_len]) (fun i hi => ?_)
  rw [h.1] at hi
  unfold Go.Proofs.YtccnhdicibjbaaaGreat.rl
  rw [fill_get _ _ _ hi]
  by_cases c : i < 16
  · rw [h.2.1 i c, if_pos c]
  · rw [h.2.2 i (by omega) hi, if_neg c]
theorem add_piece {ss ts ps : List Int} (pl : ps.length ≤ 16) (h : UpN 17 (fun j => ss.getD j 0 + ps.getD j 0) (fun j => ss.getD j 0) ts ps.length) (sb : Byt ss) (pb' : Byt ps) :
    (∀ j, 0 ≤ (ts.set ps.length (ss.getD ps.length 0 + 1)).getD j 0 ∧ (ts.set ps.length (ss.getD ps.length 0 + 1)).getD j 0 ≤ 512) ∧ (ts.set ps.length (ss.getD ps.length 0 + 1)).length = 17 ∧
    lsum (fun j => (ts.set ps.length (ss.getD ps.length 0 + 1)).getD j 0) 17 = lsum (fun j => ss.getD j 0) 17 + pcv ps := by
  have g : ∀ j, j < 17 → (ts.set ps.length (ss.getD ps.length 0 + 1)).getD j 0 = ss.getD j 0 + 1 * (pb ps).getD j 0 := fun j hj => by
    rw [pb_get pl]
    by_cases e : ps.length = j
    · subst e
      rw [getD_set_self _ _ _ (by rw [h.1]; omega), if_neg (by omega), if_pos rfl]; omega
    · rw [getD_set_ne _ _ _ _ e]
      by_cases c : j < ps.length
      · have e1 := h.2.1 j c
        dsimp only at e1
        rw [e1, if_pos c]; omega
      · have e1 := h.2.2 j (by omega) hj
        dsimp only at e1
        rw [e1, if_neg c, if_neg (by omega)]; omega
  refine ⟨fun j => ?_, by rw [List.length_set]; exact h.1, ?_⟩
  · by_cases hj : j < 17
    · rw [g j hj]
      have := sb j
      have := pb_byt pl pb' j
      omega
    · rw [List.getD_eq_getElem?_getD, List.getElem?_eq_none (by rw [List.length_set, h.1]; omega)]; decide
  · rw [lsum_congr 17 g, lsum_lin, pb_val pl]; omega
def Fact.can (v : Int) : Fact := ⟨fun x W => ∃ (ys : List Int) (a : Option Addr) (c g : Nat), x = .slice a ys.length c ∧ Own W g a .u8 ys ∧ (a = none → c = 0) ∧ ys.length ≤ c ∧ Canon ys v, fun h ⟨ys, a, c, g, e, o, p⟩ => ⟨ys, a, c, g, e, o.up h, p⟩⟩
set_option maxRecDepth 100000 in
set_option maxHeartbeats 16000000 in
theorem specOneTime_any (w : World) (gk : Nat) (ak : Option Addr) (ck : Nat) (key : List Int) (hk : Rd w gk ak .u8 key) (kb : Byt key) (kc : key.length ≤ ck)
    (gd : Nat) (ad : Option Addr) (cd : Nat) (data : List Int) (hd : Rd w gd ad .u8 data) (db : Byt data) (dn : data.length ≤ 4194304) :
    Calls Tryz.prog 75 #[.slice ak key.length ck, .slice ad data.length cd] w fun e w' => NewRow w.heap.size w' e .u8 (otA key data) ∧ Below w.heap.size w w' := by
  by_cases kl : key.length = 32
  · have RS : Hid (otA key data = otB key data) := by show _ = _; unfold otA; rw [if_pos kl]
    rw [RS.out]
    obtain ⟨i0, hi, hz0, hz1, hz2⟩ := info_parts Tryz.info5
    have KL := hide kl
    have KB := hide kb
    have DB := hide db
    obtain ⟨ok, rfl, hkc⟩ := hk (by omega)
    have k32 : (key.length : Int) = 32 := by omega
    have kcI : (key.length : Int) ≤ (ck : Int) := by omega
    have dnI : (data.length : Int) ≤ 4194304 := by omega
    have B0 := blk_i17 w 113
    have n0 : Below w.heap.size w (w.alloc (.cells #[.int .i64 0, .int .i64 0, .int .i64 0, .int .i64 0, .int .i64 0, .int .i64 0, .int .i64 0, .int .i64 0, .int .i64 0, .int .i64 0, .int .i64 0, .int .i64 0, .int .i64 0, .int .i64 0, .int .i64 0, .int .i64 0, .int .i64 0] 113)) := (Below.refl _ _).alloc (Nat.le_refl _) _
    have z0 : (w.alloc (.cells #[.int .i64 0, .int .i64 0, .int .i64 0, .int .i64 0, .int .i64 0, .int .i64 0, .int .i64 0, .int .i64 0, .int .i64 0, .int .i64 0, .int .i64 0, .int .i64 0, .int .i64 0, .int .i64 0, .int .i64 0, .int .i64 0, .int .i64 0] 113)).heap.size = w.heap.size + 1 := by simp
    clear RS kb db hkc kl
    go_enter Tryz.func75, Tryz.ntmps75
    go_upto_region 4 with fail
    generalize w.alloc (.cells #[.int .i64 0, .int .i64 0, .int .i64 0, .int .i64 0, .int .i64 0, .int .i64 0, .int .i64 0, .int .i64 0, .int .i64 0, .int .i64 0, .int .i64 0, .int .i64 0, .int .i64 0, .int .i64 0, .int .i64 0, .int .i64 0, .int .i64 0] 113) = wa at *
    clear k32
    have U0 : UpN 17 (fun j => cl j (key.getD j 0)) (fun _ => 0) (List.replicate 17 0) 0 := ⟨by simp, fun j h => absurd h (by omega), fun j _ hj => by rw [List.getD_eq_getElem?_getD, List.getElem?_replicate, if_pos hj]; rfl⟩
    go_wp2
    go_loopw [6] (fun v wr => ∃ (i : Nat) (zs : List Int), i ≤ 16 ∧ v = .int .i64 i ∧ Hid (UpN 17 (fun j => cl j (key.getD j 0)) (fun _ => 0) zs i) ∧ Blk wr w.heap.size .i64 zs ∧ wr.heap.size = w.heap.size + 1 ∧ Below w.heap.size w wr) (fun v _ => 16 - (intOf v).toNat)
    case atStart => exact ⟨0, _, by omega, rfl, U0, B0, z0, n0⟩
    case round =>
      clear B0 n0 z0 U0
      obtain ⟨i, zs, hi', rfl, hU, hB, hz, hN⟩ := hrel
      by_cases hlt : i < 16
      · have R := hide (hU.out.step (show i < 17 by omega))
        obtain ⟨o', eo, hkc⟩ := (hk.up hN) (by have := KL.out; omega)
        simp only [Option.some.injEq, Addr.mk.injEq, true_and, and_true] at eo
        subst eo
        have cx := hkc i (by have := KL.out; omega)
        have kbi := KB.out i
        have cz := hB.cell (i := i) (by rw [hU.out.1]; omega)
        have fz := hB.free i
        have S1 := fun x => hB.store i x
        have zl := hU.out.1
        have O := fun x => Only.setCell wr w.heap.size i x
        have d1 : (i : Int) < (key.length : Int) := by have := KL.out; omega
        clear hU hkc KL KB DB
        generalize key.getD i 0 = x at *
        rcases (show i = 0 ∨ i = 1 ∨ i = 2 ∨ i = 3 ∨ i = 4 ∨ i = 5 ∨ i = 6 ∨ i = 7 ∨ i = 8 ∨ i = 9 ∨ i = 10 ∨ i = 11 ∨ i = 12 ∨ i = 13 ∨ i = 14 ∨ i = 15 by omega) with rfl | rfl | rfl | rfl | rfl | rfl | rfl | rfl | rfl | rfl | rfl | rfl | rfl | rfl | rfl | rfl
        · have E : Hid (cl 0 x = x) := rfl
          try rw [Nat.add_zero] at cx
          have S2 := S1 x
          have O2 := O (.int .i64 x)
          rw [E.out] at R
          have Sz := O2.size.trans hz
          have Sn := hN.trans (O2.below (B := w.heap.size) (by omega))
          clear S1 O O2 E hB hz hN
          generalize zs.set 0 x = zs' at *
          go_wp2
          go_roundw
          case rel => exact ⟨0 + 1, zs', by omega, by go_num, R, S2, Sz, Sn⟩
          case measure => simp [intOf]
        · have E : Hid (cl 1 x = x) := rfl
          try rw [Nat.add_zero] at cx
          have S2 := S1 x
          have O2 := O (.int .i64 x)
          rw [E.out] at R
          have Sz := O2.size.trans hz
          have Sn := hN.trans (O2.below (B := w.heap.size) (by omega))
          clear S1 O O2 E hB hz hN
          generalize zs.set 1 x = zs' at *
          go_wp2
          go_roundw
          case rel => exact ⟨1 + 1, zs', by omega, by go_num, R, S2, Sz, Sn⟩
          case measure => simp [intOf]
        · have E : Hid (cl 2 x = x) := rfl
          try rw [Nat.add_zero] at cx
          have S2 := S1 x
          have O2 := O (.int .i64 x)
          rw [E.out] at R
          have Sz := O2.size.trans hz
          have Sn := hN.trans (O2.below (B := w.heap.size) (by omega))
          clear S1 O O2 E hB hz hN
          generalize zs.set 2 x = zs' at *
          go_wp2
          go_roundw
          case rel => exact ⟨2 + 1, zs', by omega, by go_num, R, S2, Sz, Sn⟩
          case measure => simp [intOf]
        · have E : Hid (cl 3 x = x % 16) := rfl
          have S2 := (S1 x).store 3 (x % 16)
          rw [List.set_set] at S2
          have c2 := (S1 x).cell (i := 3) (by rw [List.length_set, zl]; omega)
          rw [getD_set_self _ _ _ (by rw [zl]; omega)] at c2
          have f2 := (S1 x).free 3
          have O2 := (O (.int .i64 x)).trans (Only.setCell _ w.heap.size 3 (.int .i64 (x % 16)))
          rw [E.out] at R
          have Sz := O2.size.trans hz
          have Sn := hN.trans (O2.below (B := w.heap.size) (by omega))
          have t1 : x.tmod 16 = x % 16 := Int.tmod_eq_emod_of_nonneg (by omega)
          clear S1 O O2 E hB hz hN
          generalize zs.set 3 (x % 16) = zs' at *
          go_wp2
          go_roundw
          case rel => exact ⟨3 + 1, zs', by omega, by go_num, R, S2, Sz, Sn⟩
          case measure => simp [intOf]
        · have E : Hid (cl 4 x = x - x % 4) := rfl
          have S2 := (S1 x).store 4 (x - x % 4)
          rw [List.set_set] at S2
          have c2 := (S1 x).cell (i := 4) (by rw [List.length_set, zl]; omega)
          rw [getD_set_self _ _ _ (by rw [zl]; omega)] at c2
          have f2 := (S1 x).free 4
          have O2 := (O (.int .i64 x)).trans (Only.setCell _ w.heap.size 4 (.int .i64 (x - x % 4)))
          rw [E.out] at R
          have Sz := O2.size.trans hz
          have Sn := hN.trans (O2.below (B := w.heap.size) (by omega))
          have t1 : x.tmod 4 = x % 4 := Int.tmod_eq_emod_of_nonneg (by omega)
          clear S1 O O2 E hB hz hN
          generalize zs.set 4 (x - x % 4) = zs' at *
          go_wp2
          go_region
          all_goals
            go_wp2
            go_roundw
            case rel => exact ⟨4 + 1, zs', by omega, by go_num, R, S2.drew, Sz, Sn.drew⟩
            case measure => simp [intOf]
        · have E : Hid (cl 5 x = x) := rfl
          try rw [Nat.add_zero] at cx
          have S2 := S1 x
          have O2 := O (.int .i64 x)
          rw [E.out] at R
          have Sz := O2.size.trans hz
          have Sn := hN.trans (O2.below (B := w.heap.size) (by omega))
          clear S1 O O2 E hB hz hN
          generalize zs.set 5 x = zs' at *
          go_wp2
          go_roundw
          case rel => exact ⟨5 + 1, zs', by omega, by go_num, R, S2, Sz, Sn⟩
          case measure => simp [intOf]
        · have E : Hid (cl 6 x = x) := rfl
          try rw [Nat.add_zero] at cx
          have S2 := S1 x
          have O2 := O (.int .i64 x)
          rw [E.out] at R
          have Sz := O2.size.trans hz
          have Sn := hN.trans (O2.below (B := w.heap.size) (by omega))
          clear S1 O O2 E hB hz hN
          generalize zs.set 6 x = zs' at *
          go_wp2
          go_roundw
          case rel => exact ⟨6 + 1, zs', by omega, by go_num, R, S2, Sz, Sn⟩
          case measure => simp [intOf]
        · have E : Hid (cl 7 x = x % 16) := rfl
          have S2 := (S1 x).store 7 (x % 16)
          rw [List.set_set] at S2
          have c2 := (S1 x).cell (i := 7) (by rw [List.length_set, zl]; omega)
          rw [getD_set_self _ _ _ (by rw [zl]; omega)] at c2
          have f2 := (S1 x).free 7
          have O2 := (O (.int .i64 x)).trans (Only.setCell _ w.heap.size 7 (.int .i64 (x % 16)))
          rw [E.out] at R
          have Sz := O2.size.trans hz
          have Sn := hN.trans (O2.below (B := w.heap.size) (by omega))
          have t1 : x.tmod 16 = x % 16 := Int.tmod_eq_emod_of_nonneg (by omega)
          clear S1 O O2 E hB hz hN
          generalize zs.set 7 (x % 16) = zs' at *
          go_wp2
          go_roundw
          case rel => exact ⟨7 + 1, zs', by omega, by go_num, R, S2, Sz, Sn⟩
          case measure => simp [intOf]
        · have E : Hid (cl 8 x = x - x % 4) := rfl
          have S2 := (S1 x).store 8 (x - x % 4)
          rw [List.set_set] at S2
          have c2 := (S1 x).cell (i := 8) (by rw [List.length_set, zl]; omega)
          rw [getD_set_self _ _ _ (by rw [zl]; omega)] at c2
          have f2 := (S1 x).free 8
          have O2 := (O (.int .i64 x)).trans (Only.setCell _ w.heap.size 8 (.int .i64 (x - x % 4)))
          rw [E.out] at R
          have Sz := O2.size.trans hz
          have Sn := hN.trans (O2.below (B := w.heap.size) (by omega))
          have t1 : x.tmod 4 = x % 4 := Int.tmod_eq_emod_of_nonneg (by omega)
          clear S1 O O2 E hB hz hN
          generalize zs.set 8 (x - x % 4) = zs' at *
          go_wp2
          go_region
          all_goals
            go_wp2
            go_roundw
            case rel => exact ⟨8 + 1, zs', by omega, by go_num, R, S2.drew, Sz, Sn.drew⟩
            case measure => simp [intOf]
        · have E : Hid (cl 9 x = x) := rfl
          try rw [Nat.add_zero] at cx
          have S2 := S1 x
          have O2 := O (.int .i64 x)
          rw [E.out] at R
          have Sz := O2.size.trans hz
          have Sn := hN.trans (O2.below (B := w.heap.size) (by omega))
          clear S1 O O2 E hB hz hN
          generalize zs.set 9 x = zs' at *
          go_wp2
          go_roundw
          case rel => exact ⟨9 + 1, zs', by omega, by go_num, R, S2, Sz, Sn⟩
          case measure => simp [intOf]
        · have E : Hid (cl 10 x = x) := rfl
          try rw [Nat.add_zero] at cx
          have S2 := S1 x
          have O2 := O (.int .i64 x)
          rw [E.out] at R
          have Sz := O2.size.trans hz
          have Sn := hN.trans (O2.below (B := w.heap.size) (by omega))
          clear S1 O O2 E hB hz hN
          generalize zs.set 10 x = zs' at *
          go_wp2
          go_roundw
          case rel => exact ⟨10 + 1, zs', by omega, by go_num, R, S2, Sz, Sn⟩
          case measure => simp [intOf]
        · have E : Hid (cl 11 x = x % 16) := rfl
          have S2 := (S1 x).store 11 (x % 16)
          rw [List.set_set] at S2
          have c2 := (S1 x).cell (i := 11) (by rw [List.length_set, zl]; omega)
          rw [getD_set_self _ _ _ (by rw [zl]; omega)] at c2
          have f2 := (S1 x).free 11
          have O2 := (O (.int .i64 x)).trans (Only.setCell _ w.heap.size 11 (.int .i64 (x % 16)))
          rw [E.out] at R
          have Sz := O2.size.trans hz
          have Sn := hN.trans (O2.below (B := w.heap.size) (by omega))
          have t1 : x.tmod 16 = x % 16 := Int.tmod_eq_emod_of_nonneg (by omega)
          clear S1 O O2 E hB hz hN
          generalize zs.set 11 (x % 16) = zs' at *
          go_wp2
          go_roundw
          case rel => exact ⟨11 + 1, zs', by omega, by go_num, R, S2, Sz, Sn⟩
          case measure => simp [intOf]
        · have E : Hid (cl 12 x = x - x % 4) := rfl
          have S2 := (S1 x).store 12 (x - x % 4)
          rw [List.set_set] at S2
          have c2 := (S1 x).cell (i := 12) (by rw [List.length_set, zl]; omega)
          rw [getD_set_self _ _ _ (by rw [zl]; omega)] at c2
          have f2 := (S1 x).free 12
          have O2 := (O (.int .i64 x)).trans (Only.setCell _ w.heap.size 12 (.int .i64 (x - x % 4)))
          rw [E.out] at R
          have Sz := O2.size.trans hz
          have Sn := hN.trans (O2.below (B := w.heap.size) (by omega))
          have t1 : x.tmod 4 = x % 4 := Int.tmod_eq_emod_of_nonneg (by omega)
          clear S1 O O2 E hB hz hN
          generalize zs.set 12 (x - x % 4) = zs' at *
          go_wp2
          go_region
          all_goals
            go_wp2
            go_roundw
            case rel => exact ⟨12 + 1, zs', by omega, by go_num, R, S2.drew, Sz, Sn.drew⟩
            case measure => simp [intOf]
        · have E : Hid (cl 13 x = x) := rfl
          try rw [Nat.add_zero] at cx
          have S2 := S1 x
          have O2 := O (.int .i64 x)
          rw [E.out] at R
          have Sz := O2.size.trans hz
          have Sn := hN.trans (O2.below (B := w.heap.size) (by omega))
          clear S1 O O2 E hB hz hN
          generalize zs.set 13 x = zs' at *
          go_wp2
          go_roundw
          case rel => exact ⟨13 + 1, zs', by omega, by go_num, R, S2, Sz, Sn⟩
          case measure => simp [intOf]
        · have E : Hid (cl 14 x = x) := rfl
          try rw [Nat.add_zero] at cx
          have S2 := S1 x
          have O2 := O (.int .i64 x)
          rw [E.out] at R
          have Sz := O2.size.trans hz
          have Sn := hN.trans (O2.below (B := w.heap.size) (by omega))
          clear S1 O O2 E hB hz hN
          generalize zs.set 14 x = zs' at *
          go_wp2
          go_roundw
          case rel => exact ⟨14 + 1, zs', by omega, by go_num, R, S2, Sz, Sn⟩
          case measure => simp [intOf]
        · have E : Hid (cl 15 x = x % 16) := rfl
          have S2 := (S1 x).store 15 (x % 16)
          rw [List.set_set] at S2
          have c2 := (S1 x).cell (i := 15) (by rw [List.length_set, zl]; omega)
          rw [getD_set_self _ _ _ (by rw [zl]; omega)] at c2
          have f2 := (S1 x).free 15
          have O2 := (O (.int .i64 x)).trans (Only.setCell _ w.heap.size 15 (.int .i64 (x % 16)))
          rw [E.out] at R
          have Sz := O2.size.trans hz
          have Sn := hN.trans (O2.below (B := w.heap.size) (by omega))
          have t1 : x.tmod 16 = x % 16 := Int.tmod_eq_emod_of_nonneg (by omega)
          clear S1 O O2 E hB hz hN
          generalize zs.set 15 (x % 16) = zs' at *
          go_wp2
          go_roundw
          case rel => exact ⟨15 + 1, zs', by omega, by go_num, R, S2, Sz, Sn⟩
          case measure => simp [intOf]
      · obtain rfl : i = 16 := by omega
        have RL := hide hU.out.rl
        rw [RL.out] at hB
        clear hU hlt hi' RL
        have B1 := blk_i17 wr 113
        have n1 : Below wr.heap.size wr (wr.alloc (.cells #[.int .i64 0, .int .i64 0, .int .i64 0, .int .i64 0, .int .i64 0, .int .i64 0, .int .i64 0, .int .i64 0, .int .i64 0, .int .i64 0, .int .i64 0, .int .i64 0, .int .i64 0, .int .i64 0, .int .i64 0, .int .i64 0, .int .i64 0] 113)) := (Below.refl _ _).alloc (Nat.le_refl _) _
        rw [hz] at B1
        have hB' := hB.up n1
        have N1 := hN.trans (n1.mono hN.size)
        clear hB hN
        go_wp2
        try rw [hz]
        simp only [Int.cast_ofNat_Int]
        generalize wr.alloc (.cells #[.int .i64 0, .int .i64 0, .int .i64 0, .int .i64 0, .int .i64 0, .int .i64 0, .int .i64 0, .int .i64 0, .int .i64 0, .int .i64 0, .int .i64 0, .int .i64 0, .int .i64 0, .int .i64 0, .int .i64 0, .int .i64 0, .int .i64 0] 113) = wb at *
        clear n1 hz
        have RLL := hide (rl_len key)
        have RLB := hide (rl_byt KB.out)
        have RLV := hide (rl_val key)
        generalize rl key = fr at *
        go_loopw [8] (fun v wr => ∃ (k : Nat) (ss : List Int), 16 * k < data.length + 16 ∧ v = .int .i64 ((16 * k : Nat) : Int) ∧ Hid (ss.length = 17 ∧ Byt ss ∧ lsum (fun j => ss.getD j 0) 17 % PO = pv (rv key) data k % PO) ∧ Blk wr (w.heap.size + 1) .i64 ss ∧ Blk wr w.heap.size .i64 fr ∧ Below w.heap.size w wr) (fun v _ => data.length + 16 - (intOf v).toNat)
        case atStart =>
          refine ⟨0, _, by omega, rfl, ⟨by simp, fun i => ?_, ?_⟩, B1, hB', N1⟩
          · rw [List.getD_eq_getElem?_getD, List.getElem?_replicate]; split <;> decide
          · have : lsum (fun j => (List.replicate 17 (0 : Int)).getD j 0) 17 = 0 := by decide +kernel
            rw [this]; rfl
        case round =>
          clear B1 hB' N1
          obtain ⟨k, ss, hk16, rfl, hS, hB1, hB0, hN⟩ := hrel
          by_cases hlt : 16 * k < data.length
          · obtain ⟨pe, hpe⟩ : ∃ e, e = pcL16 data.length k := ⟨_, rfl⟩
            have pe1 : pe ≤ 16 := by rw [hpe]; unfold pcL16; omega
            have pe2 : 16 * k + pe ≤ data.length := by rw [hpe]; unfold pcL16; omega
            have pe3 : decide (((16 * k : Nat) : Int) + 16 > (data.length : Int)) = true → pe = data.length - 16 * k := fun h => by rw [hpe]; unfold pcL16; simp at h; omega
            have pe4 : decide (((16 * k : Nat) : Int) + 16 > (data.length : Int)) = false → pe = 16 := fun h => by rw [hpe]; unfold pcL16; simp at h; omega
            have PL : Hid (((data.drop (16 * k)).take 16).length = pe) := by show _ = _; rw [hpe, List.length_take, List.length_drop]; unfold pcL16; rfl
            have PB := hide (byt_part DB.out (16 * k) 16)
            have PG : Hid (∀ j, j < 16 → ((data.drop (16 * k)).take 16).getD j 0 = data.getD (16 * k + j) 0) := fun j hj => part_get data (16 * k) 16 j hj
            have PV : Hid (pv (rv key) data (k + 1) = (pv (rv key) data k + pcv ((data.drop (16 * k)).take 16)) * rv key % PO) := rfl
            obtain ⟨ps, hps⟩ : ∃ p, p = (data.drop (16 * k)).take 16 := ⟨_, rfl⟩
            rw [← hps] at PL PB PG PV
            clear hps hpe
            have ad' := off_of hd (show 0 < data.length by omega)
            have hc' : ∀ W, Below w.heap.size w W → ∀ j, j < data.length → W.cell? ⟨gd, offOf ad + j, none⟩ = some (.int .u8 (data.getD j 0)) := fun W n j hj => by
              obtain ⟨o', e', hcc⟩ := (hd.up n) (by omega)
              have : offOf ad = o' := by rw [e']; rfl
              rw [this]
              exact hcc j hj
            have U0 : UpN 17 (fun j => ss.getD j 0 + ps.getD j 0) (fun j => ss.getD j 0) ss 0 := ⟨hS.out.1, fun j h => absurd h (by omega), fun j _ _ => rfl⟩
            generalize hoa : offOf ad = oa at *
            subst ad'
            clear hoa
            have g16 : ((16 * k : Nat) : Int) < (data.length : Int) := by omega
            have m1 : ((data.length : Int) - ((16 * k : Nat) : Int)) = ((data.length - 16 * k : Nat) : Int) := by omega
            have SB : ∀ j, Hid (0 ≤ ss.getD j 0 ∧ ss.getD j 0 < 256) := fun j => hS.out.2.1 j
            generalize h16 : 16 * k = s16 at *
            have H16 := hide h16
            clear h16
            have HN := hide hN
            have HS := hide hS
            have HB1 := hide hB1
            have HB0 := hide hB0
            have HC := hide hc'
            clear hN hB1 hB0 hc' hS
            have lt16 : (s16 : Int) < 4194304 := by omega
            have w16 : IntKind.i64.wrap ((s16 : Int) + 16) = (s16 : Int) + 16 := by rw [IntKind.wrap_i64]; omega
            by_cases h17 : data.length < s16 + 16
            · obtain rfl : pe = data.length - s16 := pe3 (by simp; omega)
              generalize data.length - s16 = pe at *
              have t17 : decide ((s16 : Int) + 16 > (data.length : Int)) = true := by simp; omega
              have t18 : (data.length : Int) < (s16 : Int) + 16 := by omega
              clear pe3 pe4 h17
              go_wp2
              go_loopw [10] (fun v wq => ∃ (i : Nat) (ts : List Int), i ≤ pe ∧ v = .int .i64 i ∧ Hid (UpN 17 (fun j => ss.getD j 0 + ps.getD j 0) (fun j => ss.getD j 0) ts i) ∧ Blk wq (w.heap.size + 1) .i64 ts ∧ Blk wq w.heap.size .i64 fr ∧ Below w.heap.size w wq) (fun v _ => pe - (intOf v).toNat)
              case atStart => exact ⟨0, ss, by omega, rfl, U0, HB1.out, HB0.out, HN.out⟩
              case round =>
                clear U0 HB1 HB0 HN
                obtain ⟨i, ts, hi', rfl, hU, hB1, hB0, hN⟩ := hrel
                by_cases ilt : i < pe
                · have R := hide (hU.out.step (show i < 17 by omega))
                  have c1 := hB1.cell (i := i) (by rw [hU.out.1]; omega)
                  rw [hU.out.2.2 i (Nat.le_refl _) (by omega)] at c1
                  dsimp only at c1
                  have f1 := hB1.free i
                  have cd1 := HC.out wr hN (s16 + i) (by omega)
                  rw [← PG.out i (by omega)] at cd1
                  have sb := (SB i).out
                  have pbi := PB.out i
                  have S1 := hB1.store i (ss.getD i 0 + ps.getD i 0)
                  have O := Only.setCell wr (w.heap.size + 1) i (.int .i64 (ss.getD i 0 + ps.getD i 0))
                  have S0 := hB0.of_block (O.block _ (by omega))
                  have Sn := hN.trans (O.below (B := w.heap.size) (by omega))
                  have d1 : (s16 : Int) + (i : Int) = ((s16 + i : Nat) : Int) := by omega
                  have d2 : ((s16 + i : Nat) : Int) < (data.length : Int) := by omega
                  have d3 : (i : Int) < 17 := by omega
                  have d4 : (i : Int) < (pe : Int) := by omega
                  have d5 : ((s16 + i : Nat) : Int) < 4194304 := by omega
                  have d6 : IntKind.i64.wrap ((s16 + i : Nat) : Int) = ((s16 + i : Nat) : Int) := by rw [IntKind.wrap_i64]; omega
                  clear hU hB1 hB0 hN O HC PG PB SB HS PV PL RLL RLB RLV DB KB KL
                  generalize ss.getD i 0 = x at *
                  generalize ps.getD i 0 = y at *
                  generalize ts.set i (x + y) = ts' at *
                  generalize s16 + i = si at *
                  obtain ⟨sb0, sb1⟩ := sb
                  obtain ⟨pb0, pb1⟩ := pbi
                  go_wp2
                  go_region
                  all_goals
                    go_wp2
                    go_roundw
                    case rel => exact ⟨i + 1, ts', by omega, by go_num, R, S1.drew, S0.drew, Sn.drew⟩
                    case measure => simp [intOf]; omega
                · obtain rfl : pe = i := by omega
                  have AP := add_piece (ss := ss) (ts := ts) (ps := ps) (by rw [PL.out]; omega) (by rw [PL.out]; exact hU.out) (fun j => (SB j).out) PB.out
                  rw [PL.out] at AP
                  obtain ⟨ap1, ap2, ap3⟩ := AP
                  have c1 := hB1.cell (i := pe) (by rw [hU.out.1]; omega)
                  rw [hU.out.2.2 pe (Nat.le_refl _) (by omega)] at c1
                  dsimp only at c1
                  have f1 := hB1.free pe
                  have sb := (SB pe).out
                  have S1 := hB1.store pe (ss.getD pe 0 + 1)
                  have O := Only.setCell wr (w.heap.size + 1) pe (.int .i64 (ss.getD pe 0 + 1))
                  have S0 := hB0.of_block (O.block _ (by omega))
                  have Sn := hN.trans (O.below (B := w.heap.size) (by omega))
                  have d3 : ((pe : Int) : Int) < 17 := by omega
                  have L1 : Hid (((ts.set pe (ss.getD pe 0 + 1)).map (Value.int .i64)).length = 17) := by show _ = _; rw [List.length_map]; exact ap2
                  have L4 : Hid (((ts.set pe (ss.getD pe 0 + 1)).map (Value.int .i64)).length = 17) := by show _ = _; rw [List.length_map]; exact ap2
                  have L2 : Hid ((fr.map (Value.int .i64)).length = 17) := by show _ = _; rw [List.length_map]; exact RLL.out
                  have TI := fun W => hide (l8Times_any W (ts.set pe (ss.getD pe 0 + 1)) fr ap2 RLL.out ap1 RLB.out)
                  have AP3 := hide ap3
                  clear hU hB1 hB0 hN O ap1 ap2 ap3
                  generalize ts.set pe (ss.getD pe 0 + 1) = vs at *
                  generalize ss.getD pe 0 = x at *
                  go_upto_region 24 with fail
                  generalize wr.setCell ⟨w.heap.size + 1, pe, none⟩ (.int .i64 (x + 1)) = wz at *
                  have RG1 := (Seg.blk S1).range
                  have RG2 := (Seg.blk S0).range
                  have V1 : Hid (ag .i64 vs = Value.agg (vs.map (Value.int .i64)).toArray) := rfl
                  have V2 : Hid (ag .i64 fr = Value.agg (fr.map (Value.int .i64)).toArray) := rfl
                  simp only [V1.out, V2.out] at TI
                  obtain ⟨v1, hv1⟩ : ∃ v, v = vs.map (Value.int .i64) := ⟨_, rfl⟩
                  obtain ⟨v2, hv2⟩ : ∃ v, v = fr.map (Value.int .i64) := ⟨_, rfl⟩
                  rw [← hv1] at L1 RG1
                  rw [← hv2] at L2 RG2
                  simp only [← hv1, ← hv2] at TI
                  clear hv1 hv2 V1 V2 c1 f1
                  go_wp2_with (first
                    | (refine wpList_load_mid rfl 113 (.tmp 7) rfl (w.heap.size + 1) 0 rfl v1 (.array 17 2) RG1 undL rfl (by rw [L1.out]; exact infoL) ?_)
                    | (refine wpList_load_mid rfl 113 (.tmp 5) rfl w.heap.size 0 rfl v2 (.array 17 2) RG2 undL rfl (by rw [L2.out]; exact infoL) ?_))
                  refine (TI wz).out.mono ?_
                  rintro e wy ⟨rs, rfl, hR, ny⟩
                  have HR := hide hR
                  have L3 : Hid ((rs.map (Value.int .i64)).length = 17) := by show _ = _; rw [List.length_map]; exact hR.1
                  clear hR
                  have O5 := one_ints .i64 rs
                  obtain ⟨t5, H5⟩ := S1.up ny
                  have SR := blk_setRow (k := .i64) (zs := rs) ⟨t5, H5⟩
                  have OR := only_setRow wy (w.heap.size + 1) (rs.map (Value.int .i64)).toArray
                  have S0' := (S0.up ny).of_block (OR.block w.heap.size (by omega))
                  have Sn' := (Sn.trans (ny.mono Sn.size)).trans (OR.below (B := w.heap.size) (by omega))
                  have V3 : Hid (ag .i64 rs = Value.agg (rs.map (Value.int .i64)).toArray) := rfl
                  rw [V3.out]
                  obtain ⟨v3, hv3⟩ : ∃ v, v = rs.map (Value.int .i64) := ⟨_, rfl⟩
                  rw [← hv3] at L3 O5 SR OR S0' Sn' ⊢
                  have FIN : Hid (rs.length = 17 ∧ Byt rs ∧ lsum (fun j => rs.getD j 0) 17 % PO = pv (rv key) data (k + 1) % PO) := by
                    refine ⟨HR.out.1, HR.out.2.1, ?_⟩
                    rw [HR.out.2.2, AP3.out, RLV.out, PV.out, Int.emod_emod, Int.mul_emod, Int.add_emod, HS.out.out.2.2, ← Int.add_emod, ← Int.mul_emod]
                  have N16 : Hid (((16 * (k + 1) : Nat) : Int) = (s16 : Int) + 16) := by show _ = _; have := H16.out; omega
                  have N17 : Hid (16 * (k + 1) < data.length + 16) := by show _ < _; have := H16.out; omega
                  clear hv3 V3 TI RG1 RG2 S1 S0 Sn ny HR AP3 L1 L2 HS PV RLV
                  go_wp2_with (refine wpList_store_row rfl 113 (.tmp 7) (.tmp 101) rfl (w.heap.size + 1) v3.toArray rfl rfl t5 _ H5 (by rw [List.size_toArray, L3.out]; exact infoL) (by rw [List.size_toArray, List.size_toArray, L3.out, L4.out]) O5 ?_)
                  go_roundw
                  case rel => exact ⟨k + 1, rs, N17.out, by rw [N16.out], FIN, SR, S0', Sn'⟩
                  case measure => have := H16.out; simp [intOf]; omega
            · obtain rfl : pe = 16 := pe4 (by simp; omega)
              have t17 : decide ((s16 : Int) + 16 > (data.length : Int)) = false := by simp; omega
              have t18 : ¬ (data.length : Int) < (s16 : Int) + 16 := by omega
              clear pe3 pe4 h17
              go_wp2
              go_loopw [10] (fun v wq => ∃ (i : Nat) (ts : List Int), i ≤ 16 ∧ v = .int .i64 i ∧ Hid (UpN 17 (fun j => ss.getD j 0 + ps.getD j 0) (fun j => ss.getD j 0) ts i) ∧ Blk wq (w.heap.size + 1) .i64 ts ∧ Blk wq w.heap.size .i64 fr ∧ Below w.heap.size w wq) (fun v _ => 16 - (intOf v).toNat)
              case atStart => exact ⟨0, ss, by omega, rfl, U0, HB1.out, HB0.out, HN.out⟩
              case round =>
                clear U0 HB1 HB0 HN
                obtain ⟨i, ts, hi', rfl, hU, hB1, hB0, hN⟩ := hrel
                by_cases ilt : i < 16
                · have R := hide (hU.out.step (show i < 17 by omega))
                  have c1 := hB1.cell (i := i) (by rw [hU.out.1]; omega)
                  rw [hU.out.2.2 i (Nat.le_refl _) (by omega)] at c1
                  dsimp only at c1
                  have f1 := hB1.free i
                  have cd1 := HC.out wr hN (s16 + i) (by omega)
                  rw [← PG.out i (by omega)] at cd1
                  have sb := (SB i).out
                  have pbi := PB.out i
                  have S1 := hB1.store i (ss.getD i 0 + ps.getD i 0)
                  have O := Only.setCell wr (w.heap.size + 1) i (.int .i64 (ss.getD i 0 + ps.getD i 0))
                  have S0 := hB0.of_block (O.block _ (by omega))
                  have Sn := hN.trans (O.below (B := w.heap.size) (by omega))
                  have d1 : (s16 : Int) + (i : Int) = ((s16 + i : Nat) : Int) := by omega
                  have d2 : ((s16 + i : Nat) : Int) < (data.length : Int) := by omega
                  have d3 : (i : Int) < 17 := by omega
                  have d4 : (i : Int) < 16 := by omega
                  have d5 : ((s16 + i : Nat) : Int) < 4194304 := by omega
                  have d6 : IntKind.i64.wrap ((s16 + i : Nat) : Int) = ((s16 + i : Nat) : Int) := by rw [IntKind.wrap_i64]; omega
                  clear hU hB1 hB0 hN O HC PG PB SB HS PV PL RLL RLB RLV DB KB KL
                  generalize ss.getD i 0 = x at *
                  generalize ps.getD i 0 = y at *
                  generalize ts.set i (x + y) = ts' at *
                  generalize s16 + i = si at *
                  obtain ⟨sb0, sb1⟩ := sb
                  obtain ⟨pb0, pb1⟩ := pbi
                  go_wp2
                  go_region
                  all_goals
                    go_wp2
                    go_roundw
                    case rel => exact ⟨i + 1, ts', by omega, by go_num, R, S1.drew, S0.drew, Sn.drew⟩
                    case measure => simp [intOf]; omega
                · obtain rfl : i = 16 := by omega
                  have AP := add_piece (ss := ss) (ts := ts) (ps := ps) (by rw [PL.out]; omega) (by rw [PL.out]; exact hU.out) (fun j => (SB j).out) PB.out
                  rw [PL.out] at AP
                  obtain ⟨ap1, ap2, ap3⟩ := AP
                  have c1 := hB1.cell (i := 16) (by rw [hU.out.1]; omega)
                  rw [hU.out.2.2 16 (Nat.le_refl _) (by omega)] at c1
                  dsimp only at c1
                  have f1 := hB1.free 16
                  have sb := (SB 16).out
                  have S1 := hB1.store 16 (ss.getD 16 0 + 1)
                  have O := Only.setCell wr (w.heap.size + 1) 16 (.int .i64 (ss.getD 16 0 + 1))
                  have S0 := hB0.of_block (O.block _ (by omega))
                  have Sn := hN.trans (O.below (B := w.heap.size) (by omega))
                  have d3 : (16 : Int) < 17 := by omega
                  have L1 : Hid (((ts.set 16 (ss.getD 16 0 + 1)).map (Value.int .i64)).length = 17) := by show _ = _; rw [List.length_map]; exact ap2
                  have L4 : Hid (((ts.set 16 (ss.getD 16 0 + 1)).map (Value.int .i64)).length = 17) := by show _ = _; rw [List.length_map]; exact ap2
                  have L2 : Hid ((fr.map (Value.int .i64)).length = 17) := by show _ = _; rw [List.length_map]; exact RLL.out
                  have TI := fun W => hide (l8Times_any W (ts.set 16 (ss.getD 16 0 + 1)) fr ap2 RLL.out ap1 RLB.out)
                  have AP3 := hide ap3
                  clear hU hB1 hB0 hN O ap1 ap2 ap3
                  generalize ts.set 16 (ss.getD 16 0 + 1) = vs at *
                  generalize ss.getD 16 0 = x at *
                  go_upto_region 24 with fail
                  generalize wr.setCell ⟨w.heap.size + 1, 16, none⟩ (.int .i64 (x + 1)) = wz at *
                  have RG1 := (Seg.blk S1).range
                  have RG2 := (Seg.blk S0).range
                  have V1 : Hid (ag .i64 vs = Value.agg (vs.map (Value.int .i64)).toArray) := rfl
                  have V2 : Hid (ag .i64 fr = Value.agg (fr.map (Value.int .i64)).toArray) := rfl
                  simp only [V1.out, V2.out] at TI
                  obtain ⟨v1, hv1⟩ : ∃ v, v = vs.map (Value.int .i64) := ⟨_, rfl⟩
                  obtain ⟨v2, hv2⟩ : ∃ v, v = fr.map (Value.int .i64) := ⟨_, rfl⟩
                  rw [← hv1] at L1 RG1
                  rw [← hv2] at L2 RG2
                  simp only [← hv1, ← hv2] at TI
                  clear hv1 hv2 V1 V2 c1 f1
                  go_wp2_with (first
                    | (refine wpList_load_mid rfl 113 (.tmp 7) rfl (w.heap.size + 1) 0 rfl v1 (.array 17 2) RG1 undL rfl (by rw [L1.out]; exact infoL) ?_)
                    | (refine wpList_load_mid rfl 113 (.tmp 5) rfl w.heap.size 0 rfl v2 (.array 17 2) RG2 undL rfl (by rw [L2.out]; exact infoL) ?_))
                  refine (TI wz).out.mono ?_
                  rintro e wy ⟨rs, rfl, hR, ny⟩
                  have HR := hide hR
                  have L3 : Hid ((rs.map (Value.int .i64)).length = 17) := by show _ = _; rw [List.length_map]; exact hR.1
                  clear hR
                  have O5 := one_ints .i64 rs
                  obtain ⟨t5, H5⟩ := S1.up ny
                  have SR := blk_setRow (k := .i64) (zs := rs) ⟨t5, H5⟩
                  have OR := only_setRow wy (w.heap.size + 1) (rs.map (Value.int .i64)).toArray
                  have S0' := (S0.up ny).of_block (OR.block w.heap.size (by omega))
                  have Sn' := (Sn.trans (ny.mono Sn.size)).trans (OR.below (B := w.heap.size) (by omega))
                  have V3 : Hid (ag .i64 rs = Value.agg (rs.map (Value.int .i64)).toArray) := rfl
                  rw [V3.out]
                  obtain ⟨v3, hv3⟩ : ∃ v, v = rs.map (Value.int .i64) := ⟨_, rfl⟩
                  rw [← hv3] at L3 O5 SR OR S0' Sn' ⊢
                  have FIN : Hid (rs.length = 17 ∧ Byt rs ∧ lsum (fun j => rs.getD j 0) 17 % PO = pv (rv key) data (k + 1) % PO) := by
                    refine ⟨HR.out.1, HR.out.2.1, ?_⟩
                    rw [HR.out.2.2, AP3.out, RLV.out, PV.out, Int.emod_emod, Int.mul_emod, Int.add_emod, HS.out.out.2.2, ← Int.add_emod, ← Int.mul_emod]
                  have N16 : Hid (((16 * (k + 1) : Nat) : Int) = (s16 : Int) + 16) := by show _ = _; have := H16.out; omega
                  have N17 : Hid (16 * (k + 1) < data.length + 16) := by show _ < _; have := H16.out; omega
                  clear hv3 V3 TI RG1 RG2 S1 S0 Sn ny HR AP3 L1 L2 HS PV RLV
                  go_wp2_with (refine wpList_store_row rfl 113 (.tmp 7) (.tmp 101) rfl (w.heap.size + 1) v3.toArray rfl rfl t5 _ H5 (by rw [List.size_toArray, L3.out]; exact infoL) (by rw [List.size_toArray, List.size_toArray, L3.out, L4.out]) O5 ?_)
                  go_roundw
                  case rel => exact ⟨k + 1, rs, N17.out, by rw [N16.out], FIN, SR, S0', Sn'⟩
                  case measure => have := H16.out; simp [intOf]; omega
          · have kk : k = (data.length + 15) / 16 := by omega
            have HV : Hid (lsum (fun j => ss.getD j 0) 17 % PO = pv (rv key) data ((data.length + 15) / 16) % PO) := by show _ = _; rw [← kk]; exact hS.out.2.2
            have SL := hide hS.out.1
            have SBy := hide hS.out.2.1
            have e1 : ¬ ((16 * k : Nat) : Int) < (data.length : Int) := by omega
            obtain ⟨wo, rfl⟩ : ∃ v, v = wr := ⟨_, rfl⟩
            have own0 : (wo.alloc (.cells #[] 5)).ownsRow wo.heap.size 5 1 (.slice (some ⟨wo.heap.size, 0, none⟩) 0 0) 0 [] := World.ownsRow_lit wo #[] 0 (Nat.le_refl _) (by unfold maxLen; omega) (by simp)
            have hal : Below wo.heap.size wo (wo.alloc (.cells #[] 5)) := (Below.refl _ _).alloc (Nat.le_refl _) _
            have wl : w.heap.size + 1 < wo.heap.size := hB1.lt
            clear hS hB0 kk hlt
            generalize 16 * k = s16 at *
            go_wp2
            go_loopw [11, 12] (fun v i wq => ∃ (j : Nat) (t : Int) (nb : List Int), i = .int .i64 t ∧ t + (j : Int) + 1 = 17 ∧ -1 ≤ t ∧ Hid (TurnTo ss nb j ∧ Byt nb) ∧ wq.ownsRow wo.heap.size 5 1 v j (nb.map (Value.int .u8)) ∧ Below wo.heap.size wo wq) (fun _ i _ => (intOf i + 1).toNat)
            case atStart => exact ⟨0, 16, [], rfl, by omega, by omega, ⟨⟨rfl, fun i h => absurd h (by omega)⟩, byt_nil⟩, own0, hal⟩
            case round =>
              clear own0 hal
              obtain ⟨j, t, nb, rfl, ht, ht0, hT, hown, hN2⟩ := hrel
              have hob := hown.lt
              by_cases hlt : 0 ≤ t
              · obtain ⟨p, rfl⟩ := Int.eq_ofNat_of_zero_le hlt
                have cx := (hB1.up hN2).cell (i := p) (by rw [SL.out]; omega)
                have xb := SBy.out p
                have hT' := hide hT.out.1.step
                rw [show ss.length - 1 - j = p by have := SL.out; omega] at hT'
                have hb3 := hide (byt_app1 hT.out.2 (ss.getD p 0) xb.1 xb.2)
                generalize ss.getD p 0 = x at *
                have j1 : (p : Int) < 17 := by omega
                have xm : x % 256 = x := by omega
                have HT := hide ht
                clear ht hT
                go_wp2_with (at_builtin; refine wpList_append_own _ rfl _ _ 22 rfl wo.heap.size 5 i0 (.int .u8 0) 1 1 Tryz.underlying22 hi hz0 hz1 hz2 rfl (by decide) _ j (nb.map (Value.int .u8)) rfl (hown.alloc _) ⟨wr.heap.size, 0, none⟩ 1 1 [.int .u8 x] rfl rfl ?c1 ?c2 ?c3 ?c4 ?c5 ?_)
                case c1 =>
                  intro j u hj
                  match j, hj with
                  | 0, hj => simp at hj; subst hj; simp [Addr.add]
                case c2 => intro u hu; simp at hu; subst hu; rfl
                case c3 => unfold maxLen; have := HT.out; omega
                case c4 => have := HT.out; omega
                case c5 => simp; have := hN2.size; omega
                · intro v' w2 hown2 hgrow _
                  have nA : Below wo.heap.size wo (wr.alloc (.cells #[.int .u8 x] 5)) := hN2.alloc hN2.size _
                  have N2 : Below wo.heap.size wo w2 := nA.grown hgrow (by simp; have := hN2.size; omega) (fun i hi => (hob i hi).1)
                  have hown3 : w2.ownsRow wo.heap.size 5 1 v' (j + 1) ((nb ++ [x]).map (Value.int .u8)) := by simpa using hown2
                  clear hown hown2 hgrow nA hob
                  go_wp2
                  go_roundw
                  case rel => exact ⟨j + 1, (p : Int) - 1, nb ++ [x], rfl, by have := HT.out; omega, by omega, ⟨hT'.out, hb3.out⟩, hown3, N2⟩
                  case measure => simp [intOf]
              · obtain rfl : t = -1 := by omega
                obtain rfl : j = 17 := by omega
                have NL : Hid (nb.length = 17) := hT.out.1.1
                have NV : Hid (bval nb = lsum (fun j => ss.getD j 0) 17) := by
                  have h1 := hT.out.1
                  rw [← SL.out] at h1
                  have h2 := h1.val
                  rw [SL.out] at h2
                  exact h2
                have NB := hide hT.out.2
                have hown' := hown
                rw [← NL.out] at hown'
                obtain ⟨a1, c1, g1, hv, o1, q1, l1, r1⟩ := Own.of_ownsRow hown'
                subst hv
                have N3 : Below w.heap.size w wr := hN.trans (hN2.mono (by omega))
                have wz : w.heap.size ≤ g1 := by omega
                clear hown hown' hT ht ht0 hlt hob hB1 hN hN2 SL SBy r1 wl e1
                have n4 : Below wr.heap.size wr (wr.alloc (.cells #[.int .u8 1] 5)) := (Below.refl _ _).alloc (Nat.le_refl _) _
                have B4 : Blk (wr.alloc (.cells #[.int .u8 1] 5)) wr.heap.size .u8 [1] := ⟨5, by rw [heap_alloc_last]; rfl⟩
                have SH := fun W (h : Blk W wr.heap.size .u8 [1]) => hide (l1Shift130_any W wr.heap.size ⟨wr.heap.size, 0, none⟩ 1 [1] h.own0.rd (byt_one (by omega) (by omega)) (by decide) (by decide))
                go_wp2_with fail
                generalize wr.alloc (.cells #[.int .u8 1] 5) = w4 at *
                refine (SH w4 B4).out.mono ?_
                rintro e w5 ⟨ys, C5, ⟨a5, c5, g5, rfl, o5, p5, q5, r5'⟩, n5⟩
                have N5 := nxt (nxt N3 n4) n5
                have o1 := (o1.up n4).up n5
                have n6 : Below w5.heap.size w5 (w5.alloc (.cells #[.int .u8 5] 5)) := (Below.refl _ _).alloc (Nat.le_refl _) _
                have B6 : Blk (w5.alloc (.cells #[.int .u8 5] 5)) w5.heap.size .u8 [5] := ⟨5, by rw [heap_alloc_last]; rfl⟩
                have b1 : bval [1] = 1 := by decide
                have b5 : bval [5] = 5 := by decide
                rw [b1, Int.one_mul] at C5
                have y17 := C5.len (n := 17) (by decide)
                have y1 : 1 ≤ ys.length := by
                  rcases Nat.eq_zero_or_pos ys.length with h | h
                  · have h1 := C5.2.1
                    rw [List.eq_nil_of_length_eq_zero h] at h1
                    exact absurd h1 (by decide)
                  · exact h
                have SU := fun W (h1 : Own W g5 a5 .u8 ys) (h2 : Blk W w5.heap.size .u8 [5]) => hide (l1Sub_any W g5 w5.heap.size a5 (some ⟨w5.heap.size, 0, none⟩) c5 1 ys [5] h1.rd h2.own0.rd C5.1 (byt_one (by omega) (by omega)) (by omega) (by simpa using y1) (by rw [C5.2.1, b5]; decide))
                rw [C5.2.1, b5] at SU
                clear SH B4 n4 C5 n5 N3
                go_wp2_with fail
                generalize w5.alloc (.cells #[.int .u8 5] 5) = w6 at *
                refine (SU w6 (o5.up n6) B6).out.mono ?_
                rintro e w7 ⟨zs, C7, ⟨a7, c7, g7, rfl, o7, p7, q7, r7⟩, n7⟩
                have N7 := nxt (nxt N5 n6) n7
                have o1 := (o1.up n6).up n7
                have C7' : Canon zs PO := C7
                have HC7 := hide C7'
                have z17 := C7'.len (n := 17) (by decide)
                have Z17 := hide z17
                have kr' := hk.up N7
                clear SU B6 n6 n7 N5 C7 C7' o5 p5 q5 r5' b1 b5 y17 y1 z17
                have KR : Hid (∀ W, Below w7.heap.size w7 W → Rd W gk (some ⟨gk, ok + 16, none⟩) .u8 (key.drop 16)) := fun W n => by
                  have h := rd_part (kr'.up n) 16 16 (by rw [KL.out]; omega)
                  rwa [List.take_of_length_le (by rw [List.length_drop, KL.out]; omega)] at h
                have KD : Hid ((key.drop 16).length = 16) := by show _ = _; rw [List.length_drop, KL.out]
                have KDV : Hid (lsum (fun j => (key.drop 16).getD j 0) 16 = lsum (fun j => key.getD (16 + j) 0) 16) := by
                  show _ = _
                  exact lsum_congr 16 (fun j _ => by simp only [List.getD_eq_getElem?_getD, List.getElem?_drop])
                have KDB := hide (byt_drop KB.out 16)
                have VB : Hid (0 ≤ lsum (fun j => key.getD (16 + j) 0) 16 ∧ lsum (fun j => key.getD (16 + j) 0) 16 < 256 ^ 16) := lsum_bd 16 (fun j _ => KB.out (16 + j))
                obtain ⟨kv', hkv⟩ : ∃ v, v = lsum (fun j => key.getD (16 + j) 0) 16 := ⟨_, rfl⟩
                obtain ⟨mv, hmv⟩ : ∃ v, v = bval nb % PO := ⟨_, rfl⟩
                have RES : Hid (otB key data = fill (byt (mv + kv')) 16) := by show _ = _; unfold otB; rw [hmv, hkv, NV.out, HV.out]
                rw [← hkv] at KDV VB
                have mb : 0 ≤ mv ∧ mv < 1361129467683753853853498429727072845819 := by rw [hmv]; exact ⟨Int.emod_nonneg _ (by decide), Int.emod_lt_of_pos _ (by decide)⟩
                have HMV := hide hmv
                have MB := hide mb
                clear hmv hkv mb NV HV
                have d16 : (16 : Int) ≤ (key.length : Int) := by have := KL.out; omega
                have LE : Hid (key.length - 16 = 16) := by show _ = _; rw [KL.out]
                have ne1 : Hid (¬ ck = 16) := by show ¬ _; have := KL.out; omega
                go_wp2_with fail
                refine region_end 8 (fun i => [Fact.eq (.slice a1 nb.length c1), Fact.eq (.slice a7 zs.length c7), Fact.can mv, Fact.eq (.slice (some ⟨gk, ok, none⟩) key.length ck), Fact.eq (.slice (some ⟨gk, ok + 16, none⟩) 16 (ck - 16)), Fact.can kv', Fact.can (mv + kv'), Fact.can (mv + kv')].getD i Fact.no) (by kernel_rfl) (by kernel_rfl) rfl ?_ ?_
                · intro i hi'
                  obtain rfl | rfl | rfl | rfl | rfl | rfl | rfl | rfl : i = 0 ∨ i = 1 ∨ i = 2 ∨ i = 3 ∨ i = 4 ∨ i = 5 ∨ i = 6 ∨ i = 7 := by omega
                  · refine step_pure rfl fun a u hb hw hf => ?_
                    have e11 : a.tmps[11]?.getD undef = .slice a1 nb.length c1 := gdv (hb.2.2 11 (by kernel_rfl))
                    exact ⟨.slice a1 nb.length c1, by simp [go_sem, e11], rfl⟩
                  · refine step_pure rfl fun a u hb hw hf => ?_
                    have e13 : a.tmps[13]?.getD undef = .slice a7 zs.length c7 := gdv (hb.2.2 13 (by kernel_rfl))
                    exact ⟨.slice a7 zs.length c7, by simp [go_sem, e13], rfl⟩
                  · refine step_callv rfl 95 _ _ rfl (by kernel_rfl) fun a u hb hw hf => ?_
                    have e118 : a.tmps.getD 118 undef = .slice a1 nb.length c1 := hf 0 118 (by kernel_rfl)
                    have e119 : a.tmps.getD 119 undef = .slice a7 zs.length c7 := hf 1 119 (by kernel_rfl)
                    show Calls Tryz.prog 95 #[a.tmps.getD 118 undef, a.tmps.getD 119 undef] u _
                    rw [e118, e119]
                    have h := l1Mod_any u g1 g7 a1 a7 c1 c7 nb zs (o1.up hw).rd (o7.up hw).rd NB.out HC7.out.1 p7 q7 (by rw [NL.out]; omega) (by have := Z17.out; omega) (by rw [HC7.out.2.1]; decide)
                    rw [HC7.out.2.1, ← HMV.out] at h
                    exact h.mono (by rintro e w' ⟨⟨ys, a, c, g, rfl, o, p, q, r, C⟩, n⟩; exact ⟨_, rfl, n, ys, a, c, g, rfl, o, p, q, C⟩)
                  · refine step_pure rfl fun a u hb hw hf => ?_
                    have e0 : a.tmps[0]?.getD undef = .slice (some ⟨gk, ok, none⟩) key.length ck := gdv (hb.2.2 0 (by kernel_rfl))
                    exact ⟨.slice (some ⟨gk, ok, none⟩) key.length ck, by simp [go_sem, e0], rfl⟩
                  · refine step_pure rfl fun a u hb hw hf => ?_
                    have e121 : a.tmps[121]?.getD undef = .slice (some ⟨gk, ok, none⟩) key.length ck := gdv (hf 3 121 (by kernel_rfl))
                    exact ⟨.slice (some ⟨gk, ok + 16, none⟩) 16 (ck - 16), by simp [go_sem, e121, d16, LE.out, ne1.out], rfl⟩
                  · refine step_callv rfl 96 _ _ rfl (by kernel_rfl) fun a u hb hw hf => ?_
                    have e122 : a.tmps.getD 122 undef = .slice (some ⟨gk, ok + 16, none⟩) 16 (ck - 16) := hf 4 122 (by kernel_rfl)
                    show Calls Tryz.prog 96 #[a.tmps.getD 122 undef] u _
                    rw [e122]
                    have h := l2Num_any u gk (some ⟨gk, ok + 16, none⟩) (ck - 16) (key.drop 16) (KR.out u hw) KDB.out (by rw [KD.out]; omega)
                    rw [KD.out, KDV.out] at h
                    exact h.mono (by rintro e w' ⟨ys, C, l, ⟨a, c, g, rfl, o, p, q, r⟩, n⟩; exact ⟨_, rfl, n, ys, a, c, g, rfl, o, p, q, C⟩)
                  · refine step_callv rfl 94 _ _ rfl (by kernel_rfl) fun a u hb hw hf => ?_
                    obtain ⟨ys, x1, y1, z1, e120, R1, -, -, D1⟩ := hf 2 120 (by kernel_rfl)
                    obtain ⟨us, x2, y2, z2, e123, R2, -, -, D2⟩ := hf 5 123 (by kernel_rfl)
                    show Calls Tryz.prog 94 #[a.tmps.getD 120 undef, a.tmps.getD 123 undef] u _
                    rw [e120, e123]
                    have f1 := D1.len (n := 17) (by have := MB.out; omega)
                    have f2 := D2.len (n := 16) VB.out.2
                    have h := l1Add_any u z1 z2 x1 x2 y1 y2 ys us R1.rd R2.rd D1.1 D2.1 (by omega) (by omega)
                    rw [D1.2.1, D2.2.1] at h
                    exact h.mono (by rintro e w' ⟨ys, C, ⟨a, c, g, rfl, o, p, q, r⟩, n⟩; exact ⟨_, rfl, n, ys, a, c, g, rfl, o, p, q, C⟩)
                  · refine step_pure rfl fun a u hb hw hf => ?_
                    obtain ⟨ys, x1, y1, z1, e124, R1, s1, t1, D1⟩ := hf 6 124 (by kernel_rfl)
                    have e124' : a.tmps[124]?.getD undef = .slice x1 ys.length y1 := gdv e124
                    exact ⟨.slice x1 ys.length y1, by simp [go_sem, e124'], ys, x1, y1, z1, rfl, R1, s1, t1, D1⟩
                · intro a w8 hb K8 hF
                  obtain ⟨ts, x8, y8, z8, e14, R8, -, -, D8⟩ := hF 7 14 (by kernel_rfl)
                  obtain ⟨vs', hvs'⟩ : ∃ vs : Nat → Value, ∀ d, a.tmps.getD d undef = vs d := ⟨_, fun _ => rfl⟩
                  have ea := puts_of (md := .any) (n := 127) (k := 8) (by kernel_rfl) rfl hb vs' hvs'
                  have v14 : vs' 14 = .slice x8 ts.length y8 := (hvs' 14).symm.trans e14
                  have t18 := D8.len (n := 18) (by have := MB.out; have := VB.out; have e : (256 : Int) ^ 16 = 340282366920938463463374607431768211456 := by decide
                                                   rw [e] at this
                                                   have e' : (256 : Int) ^ 18 = 22300745198530623141535718272648361505980416 := by decide
                                                   rw [e']; omega)
                  have LT := hide (l1Little_any w8 z8 x8 y8 ts 16 R8.rd D8.1 (by omega) (by omega))
                  have FD : Hid (fill (dig ts) 16 = otB key data) := by
                    show _ = _
                    rw [RES.out]
                    exact fill_congr fun i _ => by rw [dig_of D8.1, D8.2.1]
                  rw [FD.out] at LT
                  rw [ea]
                  clear ea hvs' hF hb e14 t18 D8 R8 RES MB VB KDV KDB KD KR HMV NB NL HC7 Z17 LE ne1 FD
                  simp only [puts, v14, Act.put, List.setIfInBounds_toArray, List.set_cons_succ, List.set_cons_zero]
                  have N8 := nxt N7 K8
                  have s8 := N8.size
                  have OL := hide (otB_len key data)
                  go_wp2_with fail
                  refine LT.out.mono ?_
                  rintro e w9 ⟨rfl, B9, n9⟩
                  go_wp2
                  go_ret
                  exact ⟨⟨some ⟨w8.heap.size, 0, none⟩, 16, w8.heap.size, by rw [OL.out]; rfl, B9.own0, by simp, by rw [OL.out]; exact Nat.le_refl _, s8⟩, nxt N8 n9⟩
  · have RS : Hid (otA key data = []) := by show _ = _; unfold otA; rw [if_neg kl]
    rw [RS.out]
    have k32 : decide ((key.length : Int) = 32) = false := by simp; omega
    go_enter Tryz.func75, Tryz.ntmps75
    go_wp2
    go_ret
    exact ⟨newRow_lit w .u8, (Below.refl _ _).alloc (Nat.le_refl _) _⟩
end Go.Proofs.YtccnhdicibjbaaaGreat
namespace Go.Proofs.YtccnhdicibjbaaaGreat
open Go Go.RowKit
end Go.Proofs.YtccnhdicibjbaaaGreat
namespace Go.Proofs.YtccnhdicibjbaaaGreat
open Go Go.RowKit
def hasC (c : Int) (n : Nat) : Bool := decide ((n : Int) ≤ (4294967296 - c) * 64)
theorem hasC_any (w : World) (c : Int) (h0 : 0 ≤ c) (h1 : c ≤ 4294967295) (a : Option Addr) (n cp : Nat) : Calls Tryz.prog 35 #[.int .i64 c, .slice a n cp] w fun e w' => e = .returned (.bool (hasC c n)) ∧ w' = w := by
  have b1 : 0 ≤ 4294967296 - c := by omega
  have b2 : 4294967296 - c ≤ 4294967296 := by omega
  unfold hasC
  go_enter Tryz.func35, Tryz.ntmps35
  go_wp2
  go_ret
  refine ⟨?_, rfl⟩
  show Ending.returned (Value.bool (decide ((n : Int) ≤ (4294967295 - c + 1) * 64))) = _
  rw [show (4294967295 : Int) - c + 1 = 4294967296 - c by omega]
end Go.Proofs.YtccnhdicibjbaaaGreat
namespace Go.Proofs.YtccnhdicibjbaaaGreat
open Go Go.RowKit
def ssB (ys extra text : List Int) : List Int := otB ((stB (ys.set 12 0)).take 32) (smd extra text)
theorem ssB_len (ys extra text : List Int) : (ssB ys extra text).length = 16 := otB_len _ _
theorem ssB_byt (ys extra text : List Int) : Byt (ssB ys extra text) := otB_byt _ _
theorem byt_app {xs ys : List Int} (h : Byt xs) (k : Byt ys) : Byt (xs ++ ys) := fun i => by
  rw [List.getD_eq_getElem?_getD, List.getElem?_append]
  split
  · have := h i; rwa [List.getD_eq_getElem?_getD] at this
  · have := k (i - xs.length); rwa [List.getD_eq_getElem?_getD] at this
theorem smd_byt {extra text : List Int} (h : Byt extra) (k : Byt text) : Byt (smd extra text) :=
  byt_app (byt_app (byt_app (byt_app (byt_app h (zpad_byt _)) k) (zpad_byt _)) (len8_byt _)) (len8_byt _)
theorem smd_len (extra text : List Int) : 16 ≤ (smd extra text).length ∧ (smd extra text).length ≤ extra.length + text.length + 46 := by
  have h1 := zpad_len extra.length
  have h2 := zpad_len text.length
  unfold smd
  simp only [List.length_append, len8_len]
  omega
theorem lsts_six (w : World) (t : TypeId) (l0 l1 l2 l3 l4 l5 : Lst) : Lsts (w.alloc (.cells #[.slice l0.a l0.xs.length l0.c, .slice l1.a l1.xs.length l1.c, .slice l2.a l2.xs.length l2.c, .slice l3.a l3.xs.length l3.c, .slice l4.a l4.xs.length l4.c, .slice l5.a l5.xs.length l5.c] t)) w.heap.size [l0, l1, l2, l3, l4, l5] := fun j l hj => by
  have hl : j < 6 := by have := (List.getElem?_eq_some_iff.1 hj).1; simpa using this
  obtain rfl | rfl | rfl | rfl | rfl | rfl : j = 0 ∨ j = 1 ∨ j = 2 ∨ j = 3 ∨ j = 4 ∨ j = 5 := by omega
  all_goals
    simp only [List.getElem?_cons_zero, List.getElem?_cons_succ, Option.some.injEq] at hj
    subst hj
    simp [World.cell?_alloc_at]
theorem rd_take {w : World} {g : Nat} {ys : List Int} (h : Blk w g .u8 ys) (n : Nat) (hn : n ≤ ys.length) : Rd w g (some ⟨g, 0, none⟩) .u8 (ys.take n) :=
  (h.own (xs := ys.take n) 0 (by rw [List.length_take]; omega) (fun i hi => by
    rw [List.length_take] at hi
    rw [Nat.zero_add, List.getD_eq_getElem?_getD, List.getD_eq_getElem?_getD, List.getElem?_take, if_pos (by omega)])).rd
theorem byt_take {ys : List Int} (h : Byt ys) (n : Nat) : Byt (ys.take n) := by
  have := byt_part h 0 n
  rwa [List.drop_zero] at this
set_option maxRecDepth 100000 in
set_option maxHeartbeats 8000000 in
theorem sealSum_any (w : World) (ys : List Int) (hw : Ws ys) (hl : ys.length = 16) (ge : Nat) (ae : Option Addr) (ce : Nat) (ex : List Int) (he : Rd w ge ae .u8 ex) (eb : Byt ex) (en : ae = none → ce = 0)
    (gt : Nat) (at' : Option Addr) (ct : Nat) (tx : List Int) (ht : Rd w gt at' .u8 tx) (tb : Byt tx) (tn : at' = none → ct = 0) (hs : ex.length + tx.length ≤ 4000000) :
    Calls Tryz.prog 37 #[ag .u32 ys, .slice ae ex.length ce, .slice at' tx.length ct] w fun e w' => e = .returned (ag .u8 (ssB ys ex tx)) ∧ Below w.heap.size w w' := by
  have B0 := blk_alloc w .u32 56 ys
  have n0 : Below w.heap.size w (w.alloc (.cells (ys.map (Value.int .u32)).toArray 56)) := (Below.refl _ _).alloc (Nat.le_refl _) _
  have z0 : (w.alloc (.cells (ys.map (Value.int .u32)).toArray 56)).heap.size = w.heap.size + 1 := by simp
  have BA := fun W => hide (block_any W ys hw hl 0 ⟨by omega, by omega⟩)
  have L0 : Hid ((ys.map (Value.int .u32)).length = 16) := by show _ = _; rw [List.length_map]; exact hl
  have VY : Hid (ag .u32 ys = Value.agg (ys.map (Value.int .u32)).toArray) := rfl
  simp only [VY.out] at BA
  rw [VY.out]
  have SSB : Hid (ssB ys ex tx = otB ((stB (ys.set 12 0)).take 32) (smd ex tx)) := rfl
  have SL := hide (ssB_len ys ex tx)
  have KB := hide (stB_byt (ys.set 12 0))
  have KL := hide (stB_len (ys.set 12 0))
  generalize stB (ys.set 12 0) = ks at *
  obtain ⟨vy, hvy⟩ : ∃ v, v = ys.map (Value.int .u32) := ⟨_, rfl⟩
  have RGf : ∀ W, Blk W w.heap.size .u32 ys → W.rangeAt w.heap.size 0 vy := fun W h => by rw [hvy]; exact (Seg.blk h).range
  rw [← hvy] at B0 n0 z0 L0 ⊢
  simp only [← hvy] at BA
  clear hvy VY hw hl
  go_enter Tryz.func37, Tryz.ntmps37
  go_upto_region 1 with fail
  generalize w.alloc (.cells vy.toArray 56) = wa at *
  have B1 := blk_y16 wa 53
  have n1 : Below wa.heap.size wa (wa.alloc (.cells #[.int .u8 0, .int .u8 0, .int .u8 0, .int .u8 0, .int .u8 0, .int .u8 0, .int .u8 0, .int .u8 0, .int .u8 0, .int .u8 0, .int .u8 0, .int .u8 0, .int .u8 0, .int .u8 0, .int .u8 0, .int .u8 0] 53)) := (Below.refl _ _).alloc (Nat.le_refl _) _
  have z1 : (wa.alloc (.cells #[.int .u8 0, .int .u8 0, .int .u8 0, .int .u8 0, .int .u8 0, .int .u8 0, .int .u8 0, .int .u8 0, .int .u8 0, .int .u8 0, .int .u8 0, .int .u8 0, .int .u8 0, .int .u8 0, .int .u8 0, .int .u8 0] 53)).heap.size = w.heap.size + 1 + 1 := by simp [z0]
  generalize wa.alloc (.cells #[.int .u8 0, .int .u8 0, .int .u8 0, .int .u8 0, .int .u8 0, .int .u8 0, .int .u8 0, .int .u8 0, .int .u8 0, .int .u8 0, .int .u8 0, .int .u8 0, .int .u8 0, .int .u8 0, .int .u8 0, .int .u8 0] 53) = wb at *
  rw [z0] at B1
  have B0 := B0.up n1
  have N1 := nxt n0 n1
  have RG := RGf wb B0
  clear n0 n1 z0
  go_wp2_with (refine wpList_load_mid rfl 56 (.tmp 3) rfl w.heap.size 0 rfl vy (.array 16 54) RG undS rfl (by rw [L0.out]; exact infoS) ?_)
  refine (BA wb).out.mono ?_
  rintro e wc ⟨rfl, n2⟩
  have z2 := n2.size
  have B1 := B1.up n2
  have N2 := nxt N1 n2
  clear RG RGf BA N1 n2 B0
  have n3 : Below wc.heap.size wc (wc.alloc (.cells #[.int .u8 0, .int .u8 0, .int .u8 0, .int .u8 0, .int .u8 0, .int .u8 0, .int .u8 0, .int .u8 0, .int .u8 0, .int .u8 0, .int .u8 0, .int .u8 0, .int .u8 0, .int .u8 0, .int .u8 0, .int .u8 0, .int .u8 0, .int .u8 0, .int .u8 0, .int .u8 0, .int .u8 0, .int .u8 0, .int .u8 0, .int .u8 0, .int .u8 0, .int .u8 0, .int .u8 0, .int .u8 0, .int .u8 0, .int .u8 0, .int .u8 0, .int .u8 0, .int .u8 0, .int .u8 0, .int .u8 0, .int .u8 0, .int .u8 0, .int .u8 0, .int .u8 0, .int .u8 0, .int .u8 0, .int .u8 0, .int .u8 0, .int .u8 0, .int .u8 0, .int .u8 0, .int .u8 0, .int .u8 0, .int .u8 0, .int .u8 0, .int .u8 0, .int .u8 0, .int .u8 0, .int .u8 0, .int .u8 0, .int .u8 0, .int .u8 0, .int .u8 0, .int .u8 0, .int .u8 0, .int .u8 0, .int .u8 0, .int .u8 0, .int .u8 0] 85)) := (Below.refl _ _).alloc (Nat.le_refl _) _
  obtain ⟨t3, H3⟩ := blk_z64 wc 85
  have SR := blk_setRow (zs := ks) ⟨t3, H3⟩
  have OR := only_setRow (wc.alloc (.cells #[.int .u8 0, .int .u8 0, .int .u8 0, .int .u8 0, .int .u8 0, .int .u8 0, .int .u8 0, .int .u8 0, .int .u8 0, .int .u8 0, .int .u8 0, .int .u8 0, .int .u8 0, .int .u8 0, .int .u8 0, .int .u8 0, .int .u8 0, .int .u8 0, .int .u8 0, .int .u8 0, .int .u8 0, .int .u8 0, .int .u8 0, .int .u8 0, .int .u8 0, .int .u8 0, .int .u8 0, .int .u8 0, .int .u8 0, .int .u8 0, .int .u8 0, .int .u8 0, .int .u8 0, .int .u8 0, .int .u8 0, .int .u8 0, .int .u8 0, .int .u8 0, .int .u8 0, .int .u8 0, .int .u8 0, .int .u8 0, .int .u8 0, .int .u8 0, .int .u8 0, .int .u8 0, .int .u8 0, .int .u8 0, .int .u8 0, .int .u8 0, .int .u8 0, .int .u8 0, .int .u8 0, .int .u8 0, .int .u8 0, .int .u8 0, .int .u8 0, .int .u8 0, .int .u8 0, .int .u8 0, .int .u8 0, .int .u8 0, .int .u8 0, .int .u8 0] 85)) wc.heap.size (ks.map (Value.int .u8)).toArray
  have L3 : Hid ((ks.map (Value.int .u8)).length = 64) := by show _ = _; rw [List.length_map]; exact KL.out
  have O3 := one_ints .u8 ks
  have V3 : Hid (ag .u8 ks = Value.agg (ks.map (Value.int .u8)).toArray) := rfl
  rw [V3.out]
  obtain ⟨v3, hv3⟩ : ∃ v, v = ks.map (Value.int .u8) := ⟨_, rfl⟩
  rw [← hv3] at SR OR L3 O3 ⊢
  have z3 : (wc.alloc (.cells #[.int .u8 0, .int .u8 0, .int .u8 0, .int .u8 0, .int .u8 0, .int .u8 0, .int .u8 0, .int .u8 0, .int .u8 0, .int .u8 0, .int .u8 0, .int .u8 0, .int .u8 0, .int .u8 0, .int .u8 0, .int .u8 0, .int .u8 0, .int .u8 0, .int .u8 0, .int .u8 0, .int .u8 0, .int .u8 0, .int .u8 0, .int .u8 0, .int .u8 0, .int .u8 0, .int .u8 0, .int .u8 0, .int .u8 0, .int .u8 0, .int .u8 0, .int .u8 0, .int .u8 0, .int .u8 0, .int .u8 0, .int .u8 0, .int .u8 0, .int .u8 0, .int .u8 0, .int .u8 0, .int .u8 0, .int .u8 0, .int .u8 0, .int .u8 0, .int .u8 0, .int .u8 0, .int .u8 0, .int .u8 0, .int .u8 0, .int .u8 0, .int .u8 0, .int .u8 0, .int .u8 0, .int .u8 0, .int .u8 0, .int .u8 0, .int .u8 0, .int .u8 0, .int .u8 0, .int .u8 0, .int .u8 0, .int .u8 0, .int .u8 0, .int .u8 0] 85)).heap.size = wc.heap.size + 1 := by simp
  have B1 := (B1.up n3).of_block (OR.block (w.heap.size + 1) (by omega))
  have N3 := N2.trans ((n3.mono N2.size).trans (OR.below (B := w.heap.size) (by have := N2.size; omega)))
  have z4 := OR.size.trans z3
  clear hv3 V3 N2
  go_upto_region 2 with (refine wpList_store_row rfl 85 (.tmp 7) (.tmp 10) rfl wc.heap.size v3.toArray rfl rfl t3 _ H3 (by rw [List.size_toArray, L3.out]; exact infoB) (by rw [List.size_toArray, List.size_toArray, L3.out]; rfl) O3 ?_)
  generalize (wc.alloc (.cells #[.int .u8 0, .int .u8 0, .int .u8 0, .int .u8 0, .int .u8 0, .int .u8 0, .int .u8 0, .int .u8 0, .int .u8 0, .int .u8 0, .int .u8 0, .int .u8 0, .int .u8 0, .int .u8 0, .int .u8 0, .int .u8 0, .int .u8 0, .int .u8 0, .int .u8 0, .int .u8 0, .int .u8 0, .int .u8 0, .int .u8 0, .int .u8 0, .int .u8 0, .int .u8 0, .int .u8 0, .int .u8 0, .int .u8 0, .int .u8 0, .int .u8 0, .int .u8 0, .int .u8 0, .int .u8 0, .int .u8 0, .int .u8 0, .int .u8 0, .int .u8 0, .int .u8 0, .int .u8 0, .int .u8 0, .int .u8 0, .int .u8 0, .int .u8 0, .int .u8 0, .int .u8 0, .int .u8 0, .int .u8 0, .int .u8 0, .int .u8 0, .int .u8 0, .int .u8 0, .int .u8 0, .int .u8 0, .int .u8 0, .int .u8 0, .int .u8 0, .int .u8 0, .int .u8 0, .int .u8 0, .int .u8 0, .int .u8 0, .int .u8 0, .int .u8 0] 85)).setRow wc.heap.size v3.toArray = wd at *
  generalize hq : wc.heap.size = q at *
  clear n3 OR H3 O3 L3 z3 hq
  have he := he.up N3
  have ht := ht.up N3
  have eL : ex.length ≤ 4194304 := by omega
  have tL : tx.length ≤ 4194304 := by omega
  go_wp2_with fail
  refine (zerosBehind_any wd ae ex.length ce eL).mono ?_
  rintro e w4 ⟨⟨a4, c4, g4, rfl, o4, p4, q4, r4⟩, n4⟩
  have he := he.up n4
  have ht := ht.up n4
  have SR := SR.up n4
  have B1 := B1.up n4
  have N4 := nxt N3 n4
  clear N3 n4
  go_wp2_with fail
  refine (zerosBehind_any w4 at' tx.length ct tL).mono ?_
  rintro e w5 ⟨⟨a5, c5, g5, rfl, o5, p5, q5, r5'⟩, n5⟩
  have he := he.up n5
  have ht := ht.up n5
  have SR := SR.up n5
  have B1 := B1.up n5
  have N5 := nxt N4 n5
  have o4 := o4.up n5
  clear N4 n5
  go_wp2_with fail
  refine (lengthBytes_any w5 ae ex.length ce eL).mono ?_
  rintro e w6 ⟨⟨a6, c6, g6, rfl, o6, p6, q6, r6⟩, n6⟩
  have he := he.up n6
  have ht := ht.up n6
  have SR := SR.up n6
  have B1 := B1.up n6
  have N6 := nxt N5 n6
  have o4 := o4.up n6
  have o5 := o5.up n6
  clear N5 n6
  go_wp2_with fail
  refine (lengthBytes_any w6 at' tx.length ct tL).mono ?_
  rintro e w7 ⟨⟨a7, c7, g7, rfl, o7, p7, q7, r7⟩, n7⟩
  have he := he.up n7
  have ht := ht.up n7
  have SR := SR.up n7
  have B1 := B1.up n7
  have N7 := nxt N6 n7
  have o4 := o4.up n7
  have o5 := o5.up n7
  have o6 := o6.up n7
  clear N6 n7
  obtain ⟨l0, hl0⟩ : ∃ l : Lst, l = ⟨ge, ae, ce, ex⟩ := ⟨_, rfl⟩
  obtain ⟨l1, hl1⟩ : ∃ l : Lst, l = ⟨g4, a4, c4, zpad ex.length⟩ := ⟨_, rfl⟩
  obtain ⟨l2, hl2⟩ : ∃ l : Lst, l = ⟨gt, at', ct, tx⟩ := ⟨_, rfl⟩
  obtain ⟨l3, hl3⟩ : ∃ l : Lst, l = ⟨g5, a5, c5, zpad tx.length⟩ := ⟨_, rfl⟩
  obtain ⟨l4, hl4⟩ : ∃ l : Lst, l = ⟨g6, a6, c6, len8 ex.length⟩ := ⟨_, rfl⟩
  obtain ⟨l5, hl5⟩ : ∃ l : Lst, l = ⟨g7, a7, c7, len8 tx.length⟩ := ⟨_, rfl⟩
  have CT : Hid (cat [l0, l1, l2, l3, l4, l5] = smd ex tx) := by
    show _ = _
    unfold cat smd
    rw [hl0, hl1, hl2, hl3, hl4, hl5]
    simp
  have LS := fun t => lsts_six w7 t l0 l1 l2 l3 l4 l5
  have LR : ∀ W, Below w7.heap.size w7 W → ∀ l ∈ [l0, l1, l2, l3, l4, l5], Rd W l.g l.a .u8 l.xs ∧ (l.a = none → l.c = 0) := fun W n l hm => by
    simp only [List.mem_cons, List.not_mem_nil, or_false] at hm
    rcases hm with rfl | rfl | rfl | rfl | rfl | rfl
    · rw [hl0]; exact ⟨he.up n, en⟩
    · rw [hl1]; exact ⟨(o4.up n).rd, p4⟩
    · rw [hl2]; exact ⟨ht.up n, tn⟩
    · rw [hl3]; exact ⟨(o5.up n).rd, p5⟩
    · rw [hl4]; exact ⟨(o6.up n).rd, p6⟩
    · rw [hl5]; exact ⟨(o7.up n).rd, p7⟩
  have sl := smd_len ex tx
  have CC := fun W b (h1 : Lsts W b [l0, l1, l2, l3, l4, l5]) (h2 : Below w7.heap.size w7 W) => hide (concat_any W b 6 6 [l0, l1, l2, l3, l4, l5] rfl (by omega) h1 (LR W h2) (by rw [CT.out]; omega) (by rw [CT.out]; omega))
  simp only [CT.out] at CC
  have SMB := hide (smd_byt eb tb)
  have SML : Hid ((smd ex tx).length ≤ 4194304) := by show _ ≤ _; omega
  have E0 : Hid (Value.slice ae ex.length ce = Value.slice l0.a l0.xs.length l0.c) := by show _ = _; rw [hl0]
  have E1 : Hid (Value.slice a4 (zpad ex.length).length c4 = Value.slice l1.a l1.xs.length l1.c) := by show _ = _; rw [hl1]
  have E2 : Hid (Value.slice at' tx.length ct = Value.slice l2.a l2.xs.length l2.c) := by show _ = _; rw [hl2]
  have E3 : Hid (Value.slice a5 (zpad tx.length).length c5 = Value.slice l3.a l3.xs.length l3.c) := by show _ = _; rw [hl3]
  have E4 : Hid (Value.slice a6 (len8 ex.length).length c6 = Value.slice l4.a l4.xs.length l4.c) := by show _ = _; rw [hl4]
  have E5 : Hid (Value.slice a7 (len8 tx.length).length c7 = Value.slice l5.a l5.xs.length l5.c) := by show _ = _; rw [hl5]
  have LS := LS 22
  have n8 : Below w7.heap.size w7 (w7.alloc (.cells #[.slice ae ex.length ce, .slice a4 (zpad ex.length).length c4, .slice at' tx.length ct, .slice a5 (zpad tx.length).length c5, .slice a6 (len8 ex.length).length c6, .slice a7 (len8 tx.length).length c7] 22)) := (Below.refl _ _).alloc (Nat.le_refl _) _
  rw [← E0.out, ← E1.out, ← E2.out, ← E3.out, ← E4.out, ← E5.out] at LS
  clear hl0 hl1 hl2 hl3 hl4 hl5 LR CT sl o4 o5 o6 o7 E0 E1 E2 E3 E4 E5
  go_wp2_with fail
  generalize w7.alloc (.cells #[.slice ae ex.length ce, .slice a4 (zpad ex.length).length c4, .slice at' tx.length ct, .slice a5 (zpad tx.length).length c5, .slice a6 (len8 ex.length).length c6, .slice a7 (len8 tx.length).length c7] 22) = w8 at *
  refine (CC w8 w7.heap.size LS n8).out.mono ?_
  rintro e w9 ⟨⟨a9, c9, g9, rfl, o9, p9, q9, r9⟩, n9⟩
  have SR := (SR.up n8).up n9
  have B1 := (B1.up n8).up n9
  have N9 := nxt (nxt N7 n8) n9
  clear CC LS n8 n9 N7 he ht
  have TK : Hid ((ks.take 32).length = 32) := by show _ = _; rw [List.length_take, KL.out]; omega
  have OS := hide (oneTimeSum_any w9 q (some ⟨q, 0, none⟩) 64 (ks.take 32) (rd_take SR 32 (by rw [KL.out]; omega)) (byt_take KB.out 32) TK.out g9 a9 c9 (smd ex tx) o9.rd SMB.out q9 SML.out)
  rw [TK.out, ← SSB.out] at OS
  have L6 : Hid (((ssB ys ex tx).map (Value.int .u8)).length = 16) := by show _ = _; rw [List.length_map]; exact SL.out
  have O6 := one_ints .u8 (ssB ys ex tx)
  have V6 : Hid (ag .u8 (ssB ys ex tx) = Value.agg ((ssB ys ex tx).map (Value.int .u8)).toArray) := rfl
  go_wp2_with fail
  refine OS.out.mono ?_
  rintro e wy ⟨rfl, ny⟩
  obtain ⟨t7, H7⟩ := B1.up ny
  have N10 := nxt N9 ny
  have SR7 := setRow_heap wy (w.heap.size + 1) _ ((ssB ys ex tx).map (Value.int .u8)).toArray _ _ H7
  have SN7 : Below w.heap.size w (wy.setRow (w.heap.size + 1) ((ssB ys ex tx).map (Value.int .u8)).toArray) := N10.trans ((only_setRow wy (w.heap.size + 1) _).below (by omega))
  rw [V6.out]
  obtain ⟨vs', hv⟩ : ∃ v, v = (ssB ys ex tx).map (Value.int .u8) := ⟨_, rfl⟩
  rw [← hv] at L6 O6 SR7 SN7 V6 ⊢
  clear hv OS
  go_wp2_with (refine wpList_store_row rfl 53 (.tmp 6) (.tmp 25) rfl (w.heap.size + 1) vs'.toArray rfl rfl t7 _ H7 (by rw [List.size_toArray, L6.out]; exact infoP16) (by rw [List.size_toArray, List.size_toArray, L6.out]; rfl) O6 ?_)
  exact bodyPost_ret (v := .agg vs'.toArray) (results_cell_row Tryz.results37 _ _ (w.heap.size + 1) t7 vs'.toArray (0, 0) (.array 16 5) rfl SR7 undP16 rfl (by rw [List.size_toArray, L6.out]; exact infoP16)) rfl ⟨by rw [V6.out], SN7⟩
end Go.Proofs.YtccnhdicibjbaaaGreat
namespace Go.Proofs.YtccnhdicibjbaaaGreat
open Go Go.RowKit Go.Shelf
attribute [local go_sem] Oper.semAt_some
def B5 (w : World) (g : Nat) (ys : List Int) : Prop := w.heap[g]? = some (.cells (ys.map (Value.int .u8)).toArray 5 (0, 0))
theorem B5.blk {w : World} {g : Nat} {ys : List Int} (h : B5 w g ys) : Blk w g .u8 ys := ⟨5, h⟩
theorem B5.lt {w : World} {g : Nat} {ys : List Int} (h : B5 w g ys) : g < w.heap.size := h.blk.lt
theorem B5.cell {w : World} {g : Nat} {ys : List Int} (h : B5 w g ys) {i : Nat} (hi : i < ys.length) : w.cell? ⟨g, i, none⟩ = some (.int .u8 (ys.getD i 0)) := h.blk.cell hi
theorem B5.free {w : World} {g : Nat} {ys : List Int} (h : B5 w g ys) (i : Nat) : w.frozen? ⟨g, i, none⟩ = false := h.blk.free i
theorem B5.store {w : World} {g : Nat} {ys : List Int} (h : B5 w g ys) (i : Nat) (z : Int) : B5 (w.setCell ⟨g, i, none⟩ (.int .u8 z)) g (ys.set i z) := by
  unfold B5
  rw [heap_setCell_same w g i _ 5 _ h]
  simp [List.map_set]
theorem B5.of_block {w w' : World} {g : Nat} {ys : List Int} (h : B5 w g ys) (hb : w'.heap[g]? = w.heap[g]?) : B5 w' g ys := hb.trans h
theorem B5.up {w w' : World} {g : Nat} {ys : List Int} (h : B5 w g ys) (hb : Below w.heap.size w w') : B5 w' g ys := h.of_block (hb.block g h.lt)
theorem B5.of_made {w : World} {base g n : Nat} (h : w.ownsRow base 5 1 (.slice (some ⟨g, 0, none⟩) n n) n (madeCells (Value.int .u8 0).cells (n * 1)).toList) : B5 w g (List.replicate n 0) := by
  obtain ⟨e, hb⟩ := Blk.of_made h
  rcases h.2 with ⟨h', _⟩ | ⟨g', cap', cur, h', _, hg, _⟩
  · simp at h'
  · simp only [Value.slice.injEq, Option.some.injEq, Addr.mk.injEq, and_true, true_and] at h'
    obtain ⟨rfl, rfl⟩ := h'
    have := hg.symm.trans hb
    simp only [Option.some.injEq, Obj.cells.injEq, and_true] at this
    obtain ⟨rfl, rfl⟩ := this
    exact hg
theorem B5.row {w : World} {g B : Nat} {ys : List Int} (h : B5 w g ys) (hB : B ≤ g) (hl : ys.length ≤ 4194304) : RowB w B (.slice (some ⟨g, 0, none⟩) ys.length ys.length) ys := by
  refine ⟨by simp, .inr ⟨g, ys.length, _, rfl, hB, h, Nat.le_refl _, by unfold maxLen; omega, by simp, ?_⟩⟩
  show List.take (ys.length * 1) (List.map (Value.int .u8) ys) = _
  exact List.take_of_length_le (by simp)
theorem b5_ofK {W W' : World} {row : Option Nat} {g : Nat} {xs : List Int} (h : B5 W g xs) (hg : W.grownBy W' row) (hr : ∀ r, row = some r → ∃ o : Obj, W.heap[r]? = some o ∧ o.isCells = false) : B5 W' g xs := (grownBy_keeps_cells hg hr h rfl).trans h
theorem copy_b5 {P : Program} (w : World) (ty rt e : TypeId) (hu : P.underlying ty = some (.slice e)) (hsz : (P.info? e).map (·.size) = some 1) {g : Nat} {zs : List Int} (hB : B5 w g zs)
    (gs : Nat) (sp : Option Addr) (ys : List Int) (hr : Rd w gs sp .u8 ys) (hl : ys.length ≤ zs.length) (dc sc : Nat) :
    ∃ w2, (Builtin.copy_ #[ty, ty] rt #[.slice (some ⟨g, 0, none⟩) zs.length dc, .slice sp ys.length sc]).run P w = .ok (goInt ys.length) w2 ∧ B5 w2 g (ys ++ zs.drop ys.length) ∧ Only g w w2 := by
  by_cases h0 : 0 < ys.length
  · obtain ⟨off, rfl, hc⟩ := hr h0
    have hrun := run_copy_row (P := P) w ty ty rt e g 0 zs.length dc ⟨gs, off, none⟩ ys.length sc _ 5 (ys.map (Value.int .u8)) hu hsz hB (by rw [List.length_map]; exact (Nat.min_eq_left hl).symm)
      (fun j v hj => by
        have hjl : j < ys.length := by
          have := (List.getElem?_eq_some_iff.1 hj).1
          simpa using this
        rw [Go.Proofs.YtccnhdicibjbaaaGreat.add_mid, hc j hjl]
        simpa [hjl] using hj) (by simp; omega) (oneCells _ _)
    rw [List.length_map] at hrun
    refine ⟨_, hrun, ?_, ⟨rfl, rfl, rfl, by simp, fun i hi => setRow_other w g i _ hi⟩⟩
    unfold B5
    rw [setRow_heap w g _ _ 5 _ hB]
    simp
  · obtain rfl : ys = [] := List.eq_nil_of_length_eq_zero (by omega)
    exact ⟨w, run_copy_none (P := P) w ty ty rt e _ _ _ _ _ _ hu hsz (by simp), by simpa using hB, Only.refl _ _⟩
structure LyJ (w : World) (ys : List Int) (c : Int) (data : List Int) (Z : Nat) (pre : List (PcN64 data.length)) (W : World) : Prop where
  told : ∃ zs : List Int, zs.length = data.length ∧ B5 W (w.heap.size + 1 + 1) zs ∧ (pre.map (·.1) = List.range pre.length → zs = xoG ys c data pre.length)
  wds : Blk W w.heap.size .u32 ys
  num : W.cell? ⟨w.heap.size + 1, 0, none⟩ = some (.int .i64 (c + (pre.length : Int)))
  numF : W.frozen? ⟨w.heap.size + 1, 0, none⟩ = false
  siz : Z ≤ W.heap.size
  bel : Below w.heap.size w W
theorem lyJ_own {w : World} {ys : List Int} {c : Int} {data : List Int} {Z B : Nat} (hB : w.heap.size ≤ B) : OwnFrom B (LyJ w ys c data Z) := by
  intro s W W' row h hg hr
  have hr' : ∀ r, row = some r → ∃ o : Obj, W.heap[r]? = some o ∧ o.isCells = false := fun r e => (hr r e).2
  obtain ⟨zs, z1, z2, z3⟩ := h.told
  refine ⟨⟨zs, z1, b5_ofK z2 hg hr', z3⟩, blk_ofK h.wds hg hr', cell_kept h.num hg hr', (frozen_kept h.num hg hr').trans h.numF, Nat.le_trans h.siz hg.size, ?_⟩
  exact h.bel.grown hg h.bel.size (fun k e => Nat.le_trans hB (hr k e).1)
set_option maxRecDepth 100000 in
set_option maxHeartbeats 8000000 in
theorem layOverR_any (w : World) (ys : List Int) (hw : Ws ys) (yl : ys.length = 16) (ct : Int) (h0 : 0 ≤ ct) (g : Nat) (a : Option Addr) (c : Nat) (data : List Int) (hr : Rd w g a .u8 data) (hn : data.length ≤ 4194304) (h1 : ct + (((data.length + 63) / 64 : Nat) : Int) ≤ 4294967296) :
    Calls Tryz.prog 38 #[ag .u32 ys, .int .i64 ct, .slice a data.length c] w fun e w' => (∃ v, e = .returned v ∧ RowB w' w.heap.size v (xoG ys ct data ((data.length + 63) / 64))) ∧ Below w.heap.size w w' := by
  obtain ⟨i0, hi0, hz0, hz1, hz2⟩ := info_parts Tryz.info5
  have HYL := hide yl
  have VY : Hid (ag .u32 ys = Value.agg (ys.map (Value.int .u32)).toArray) := rfl
  rw [VY.out]
  have B0 := blk_alloc w .u32 56 ys
  have n0 : Below w.heap.size w (w.alloc (.cells (ys.map (Value.int .u32)).toArray 56)) := (Below.refl _ _).alloc (Nat.le_refl _) _
  have z0 : (w.alloc (.cells (ys.map (Value.int .u32)).toArray 56)).heap.size = w.heap.size + 1 := by simp
  have L16 : Hid ((ys.map (Value.int .u32)).length = 16) := by show _ = _; rw [List.length_map]; exact yl
  obtain ⟨vs, hvs⟩ : ∃ vs, vs = ys.map (Value.int .u32) := ⟨_, rfl⟩
  rw [← hvs] at B0 n0 z0 L16 ⊢
  have HVS := hide hvs
  clear hvs yl
  refine (callsIn_wide (n := 5)).1 (callsIn_of_wp_marks Tryz.func38 rfl trivial ?_ rfl)
  refine wpIn_wide.2 ?_
  simp only [Tryz.ntmps38, List.size_toArray, List.length_cons, List.length_nil, Nat.reduceAdd, Nat.reduceSub, Array.replicate_succ, Array.replicate_zero, List.push_toArray, List.append_toArray, List.nil_append, List.cons_append]
  go_upto_region 1 with fail
  generalize w.alloc (.cells vs.toArray 56) = w1 at *
  have n2 : Below w1.heap.size w1 (w1.alloc (.cells #[.int .i64 ct] 2)) := (Below.refl _ _).alloc (Nat.le_refl _) _
  have C2 : (w1.alloc (.cells #[.int .i64 ct] 2)).cell? ⟨w1.heap.size, 0, none⟩ = some (.int .i64 ct) := by simp [World.cell?_alloc_at]
  have F2 : (w1.alloc (.cells #[.int .i64 ct] 2)).frozen? ⟨w1.heap.size, 0, none⟩ = false := by simp [World.frozen?_alloc_at]
  have z2 : (w1.alloc (.cells #[.int .i64 ct] 2)).heap.size = w1.heap.size + 1 := by simp
  generalize w1.alloc (.cells #[.int .i64 ct] 2) = w2 at *
  rw [z0] at C2 F2 z2
  have B0 := B0.up n2
  have N2 := nxt n0 n2
  clear n0 n2 z0
  have dn : (data.length : Int) ≤ 4194304 := by omega
  go_upto_region 2 with (at_make; refine wpList_make_full _ rfl _ _ 22 rfl w2.heap.size 5 i0 (.int .u8 0) 1 Tryz.underlying22 hi0 hz0 hz1 .i64 .i64 _ _ data.length rfl rfl rfl rfl (by rw [hz2]; omega) (by unfold maxLen; omega) (Nat.le_refl _) ?_; intro w3 hown hgrow)
  have B3 := B5.of_made hown
  have n3 : Below w2.heap.size w2 w3 := (Below.refl _ _).grown hgrow (Nat.le_refl _) (by simp)
  clear hown hgrow
  rw [z2] at B3
  have g3 := B3.lt
  have B0 := B0.up n3
  have C2 := (World.cell?_of_block (a := ⟨w.heap.size + 1, 0, none⟩) (n3.block (w.heap.size + 1) (by omega))).trans C2
  have F2 := (World.frozen?_of_block (a := ⟨w.heap.size + 1, 0, none⟩) (n3.block (w.heap.size + 1) (by omega))).trans F2
  have N3 := nxt N2 n3
  obtain ⟨w4, hcopy, B4, O4⟩ := copy_b5 (P := Tryz.prog) w3 22 3 5 Tryz.underlying22 rowU8 B3 g a data (hr.up N3) (by rw [List.length_replicate]; exact Nat.le_refl _) data.length c
  rw [List.length_replicate] at hcopy
  have ed : data ++ (List.replicate data.length (0 : Int)).drop data.length = data := by simp
  rw [ed] at B4
  have B0 := B0.of_block (O4.block w.heap.size (by omega))
  have C2 := (World.cell?_of_block (a := ⟨w.heap.size + 1, 0, none⟩) (O4.block (w.heap.size + 1) (by omega))).trans C2
  have F2 := (World.frozen?_of_block (a := ⟨w.heap.size + 1, 0, none⟩) (O4.block (w.heap.size + 1) (by omega))).trans F2
  have N4 := N3.trans (O4.below (B := w.heap.size) (by omega))
  have z4 := O4.size
  clear n3 N2 N3 B3 O4 ed z2
  go_wp2_with (at_builtin; refine wpList_copy_run rfl (.tmp 14) (.tmp 15) 22 22 rfl _ _ rfl rfl _ _ hcopy ?_)
  refine (chunk_any64 w4 (some ⟨w.heap.size + 1 + 1, 0, none⟩) data.length data.length).mono ?_
  rintro e w6 ⟨rfl, rfl⟩
  have n5 : Below w4.heap.size w4 (w4.alloc (.cells #[.slice (some ⟨w.heap.size + 1 + 1, 0, none⟩) data.length data.length] 22)) := (Below.refl _ _).alloc (Nat.le_refl _) _
  have C5 : (w4.alloc (.cells #[.slice (some ⟨w.heap.size + 1 + 1, 0, none⟩) data.length data.length] 22)).cell? ⟨w4.heap.size, 0, none⟩ = some (.slice (some ⟨w.heap.size + 1 + 1, 0, none⟩) data.length data.length) := by simp [World.cell?_alloc_at]
  have z5 : (w4.alloc (.cells #[.slice (some ⟨w.heap.size + 1 + 1, 0, none⟩) data.length data.length] 22)).heap.size = w4.heap.size + 1 := by simp
  generalize w4.alloc (.cells #[.slice (some ⟨w.heap.size + 1 + 1, 0, none⟩) data.length data.length] 22) = w5 at *
  have n6 : Below w5.heap.size w5 (w5.alloc (.cells #[.int .i64 64] 3)) := (Below.refl _ _).alloc (Nat.le_refl _) _
  have C6 : (w5.alloc (.cells #[.int .i64 64] 3)).cell? ⟨w5.heap.size, 0, none⟩ = some (.int .i64 64) := by simp [World.cell?_alloc_at]
  have z6 : (w5.alloc (.cells #[.int .i64 64] 3)).heap.size = w5.heap.size + 1 := by simp
  generalize w5.alloc (.cells #[.int .i64 64] 3) = w6 at *
  generalize hq : w4.heap.size = q at *
  rw [z5] at C6 z6
  have yq : w.heap.size + 1 + 1 < q := by omega
  have n56 : Below q w4 w6 := n5.trans (n6.mono (by omega))
  have N6 : Below w.heap.size w w6 := N4.trans (n56.mono (by omega))
  have I0 : LyJ w ys ct data (q + 2) [] w6 :=
    ⟨⟨data, rfl, B4.of_block (n56.block (w.heap.size + 1 + 1) (by omega)), fun _ => rfl⟩, B0.of_block (n56.block w.heap.size (by omega)), by have := (World.cell?_of_block (a := ⟨w.heap.size + 1, 0, none⟩) (n56.block (w.heap.size + 1) (by omega))).trans C2; simpa using this, (World.frozen?_of_block (a := ⟨w.heap.size + 1, 0, none⟩) (n56.block (w.heap.size + 1) (by omega))).trans F2, by omega, N6⟩
  have D5 : w6.cell? ⟨q, 0, none⟩ = some (.slice (some ⟨w.heap.size + 1 + 1, 0, none⟩) data.length data.length) := (World.cell?_of_block (a := ⟨q, 0, none⟩) (n6.block q (by omega))).trans C5
  have S6 : Hid (w6.heap.size = q + 1 + 1) := z6
  have YQ := hide yq
  clear n5 n6 n56 C2 C5 F2 z5 z6 N4 B0 B4 hq hcopy g3 z4
  go_wp2
  refine (wpIn_wide (n := 5)).1 (wpIn_rangeFunc_ownG (n := 5) rfl (by omega) (gf := 86) (lb := #[.pointer (some ⟨q, 0, none⟩), .pointer (some ⟨q + 1, 0, none⟩)]) rfl trivial (enters_of Tryz.func86 (by kernel_rfl) rfl)
    (chunk_stops64 4 (by omega) q (q + 1) (w.heap.size + 1 + 1) 0 data.length data.length (some ⟨w.heap.size + 1 + 1, 0, none⟩) (fun _ => rfl) (Nat.le_refl _) hn w6 (by have := S6.out; omega) (by have := S6.out; omega) D5 C6) KpB.t (KpB.b (by have := S6.out; omega) (by have := S6.out; omega)) (Below.refl _ _) (fun _ => rfl)
    (LyJ w ys ct data (q + 2)) (fun _ _ _ => False) (lyJ_own (by have := N6.size; omega)) (fun _ _ _ _ _ h _ _ => h) I0
    (fun x => { tmps := #[.agg vs.toArray, .int .i64 ct, .slice a data.length c, .pointer (some ⟨w.heap.size, 0, none⟩), .pointer (some ⟨w.heap.size + 1, 0, none⟩), undef, .slice none 0 0, .slice (some ⟨w.heap.size + 1 + 1, 0, none⟩) data.length data.length, .slice (some ⟨w.heap.size + 1 + 1, 64 * x.1, none⟩) (pcL64 data.length x.1) (pcL64 data.length x.1), undef, undef, .slice a data.length c, .int .i64 (data.length : Int), .slice (some ⟨w.heap.size + 1 + 1, 0, none⟩) data.length data.length, .slice (some ⟨w.heap.size + 1 + 1, 0, none⟩) data.length data.length, .slice a data.length c, (.int .i64 (data.length : Int)), .slice (some ⟨w.heap.size + 1 + 1, 0, none⟩) data.length data.length, Value.func (Fn.func 86) #[] #[Value.pointer (some ⟨q, 0, none⟩), Value.pointer (some ⟨q + 1, 0, none⟩)], .slice (some ⟨w.heap.size + 1 + 1, 64 * x.1, none⟩) (pcL64 data.length x.1) (pcL64 data.length x.1), undef, undef, undef, undef, undef, undef, undef, undef, undef, undef, undef, undef, undef, undef, undef, undef, undef, undef, undef, undef, undef], defers := [] }) ?assign ?body ?done ?stop)
  case assign =>
    intro l x W K hK
    unfold pcE64
    gi_wp2
    exact hK
  case body =>
    rintro l pre x W hI hlen
    obtain ⟨zs, zl, zB, z3⟩ := hI.told
    have hs := hI.wds
    have im := hI.num
    have nf := hI.numF
    have sz := hI.siz
    have yq := YQ.out
    have be := hI.bel
    clear hI
    have xl := x.2
    obtain ⟨pe, hpe⟩ : ∃ e, e = pcL64 data.length x.1 := ⟨_, rfl⟩
    have pe0 : 0 < pe := by rw [hpe]; unfold pcL64; omega
    have pe1 : pe ≤ 64 := by rw [hpe]; unfold pcL64; omega
    have pe2 : 64 * x.1 + pe ≤ data.length := by rw [hpe]; unfold pcL64; omega
    rw [← hpe]
    obtain ⟨cv, hcv⟩ : ∃ v, v = ct + (pre.length : Int) := ⟨_, rfl⟩
    rw [← hcv] at im
    have cw : W4 cv := ⟨by omega, by omega⟩
    have BA := fun u => hide (block_any u ys hw HYL.out cv cw)
    simp only [VY.out, ← HVS.out] at BA
    have RG := (Seg.blk hs).range
    rw [← HVS.out] at RG
    have L64 : Hid (((stB (ys.set 12 cv)).map (Value.int .u8)).length = 64) := by show _ = _; rw [List.length_map]; exact stB_len _
    have BL : Hid ((stB (ys.set 12 cv)).length = 64) := stB_len _
    have O64 := one_ints .u8 (stB (ys.set 12 cv))
    have V64 : Hid (ag .u8 (stB (ys.set 12 cv)) = Value.agg ((stB (ys.set 12 cv)).map (Value.int .u8)).toArray) := rfl
    simp only [V64.out] at BA
    obtain ⟨Bk, hBk⟩ : ∃ b, b = stB (ys.set 12 cv) := ⟨_, rfl⟩
    rw [← hBk] at L64 BL O64
    simp only [← hBk] at BA
    have HBK := hide hBk
    have HCV := hide hcv
    have HPE := hide hpe
    have cvb : 0 ≤ cv ∧ cv < 4294967296 := cw
    clear hBk hcv hpe V64 cw
    obtain ⟨cv0, cv1⟩ := cvb
    gi_wp2_with (refine listIn_load rfl 56 (.tmp 3) rfl w.heap.size 0 rfl vs (.array 16 54) RG undS rfl (by rw [L16.out]; exact infoS) ?_)
    refine ⟨trivial, (CallsIn.inRound l (callsIn_wide.2 (BA W).out)).mono ?_⟩
    rintro e W3 ⟨rfl, n3⟩
    have n4 : Below W3.heap.size W3 (W3.alloc (.cells #[.int .u8 0, .int .u8 0, .int .u8 0, .int .u8 0, .int .u8 0, .int .u8 0, .int .u8 0, .int .u8 0, .int .u8 0, .int .u8 0, .int .u8 0, .int .u8 0, .int .u8 0, .int .u8 0, .int .u8 0, .int .u8 0, .int .u8 0, .int .u8 0, .int .u8 0, .int .u8 0, .int .u8 0, .int .u8 0, .int .u8 0, .int .u8 0, .int .u8 0, .int .u8 0, .int .u8 0, .int .u8 0, .int .u8 0, .int .u8 0, .int .u8 0, .int .u8 0, .int .u8 0, .int .u8 0, .int .u8 0, .int .u8 0, .int .u8 0, .int .u8 0, .int .u8 0, .int .u8 0, .int .u8 0, .int .u8 0, .int .u8 0, .int .u8 0, .int .u8 0, .int .u8 0, .int .u8 0, .int .u8 0, .int .u8 0, .int .u8 0, .int .u8 0, .int .u8 0, .int .u8 0, .int .u8 0, .int .u8 0, .int .u8 0, .int .u8 0, .int .u8 0, .int .u8 0, .int .u8 0, .int .u8 0, .int .u8 0, .int .u8 0, .int .u8 0] 85)) := (Below.refl _ _).alloc (Nat.le_refl _) _
    have B4 := blk_z64 W3 85
    have z4 : (W3.alloc (.cells #[.int .u8 0, .int .u8 0, .int .u8 0, .int .u8 0, .int .u8 0, .int .u8 0, .int .u8 0, .int .u8 0, .int .u8 0, .int .u8 0, .int .u8 0, .int .u8 0, .int .u8 0, .int .u8 0, .int .u8 0, .int .u8 0, .int .u8 0, .int .u8 0, .int .u8 0, .int .u8 0, .int .u8 0, .int .u8 0, .int .u8 0, .int .u8 0, .int .u8 0, .int .u8 0, .int .u8 0, .int .u8 0, .int .u8 0, .int .u8 0, .int .u8 0, .int .u8 0, .int .u8 0, .int .u8 0, .int .u8 0, .int .u8 0, .int .u8 0, .int .u8 0, .int .u8 0, .int .u8 0, .int .u8 0, .int .u8 0, .int .u8 0, .int .u8 0, .int .u8 0, .int .u8 0, .int .u8 0, .int .u8 0, .int .u8 0, .int .u8 0, .int .u8 0, .int .u8 0, .int .u8 0, .int .u8 0, .int .u8 0, .int .u8 0, .int .u8 0, .int .u8 0, .int .u8 0, .int .u8 0, .int .u8 0, .int .u8 0, .int .u8 0, .int .u8 0] 85)).heap.size = W3.heap.size + 1 := by simp
    obtain ⟨t4, H4⟩ := B4
    have SR := blk_setRow (zs := Bk) ⟨t4, H4⟩
    have OR := only_setRow (W3.alloc (.cells #[.int .u8 0, .int .u8 0, .int .u8 0, .int .u8 0, .int .u8 0, .int .u8 0, .int .u8 0, .int .u8 0, .int .u8 0, .int .u8 0, .int .u8 0, .int .u8 0, .int .u8 0, .int .u8 0, .int .u8 0, .int .u8 0, .int .u8 0, .int .u8 0, .int .u8 0, .int .u8 0, .int .u8 0, .int .u8 0, .int .u8 0, .int .u8 0, .int .u8 0, .int .u8 0, .int .u8 0, .int .u8 0, .int .u8 0, .int .u8 0, .int .u8 0, .int .u8 0, .int .u8 0, .int .u8 0, .int .u8 0, .int .u8 0, .int .u8 0, .int .u8 0, .int .u8 0, .int .u8 0, .int .u8 0, .int .u8 0, .int .u8 0, .int .u8 0, .int .u8 0, .int .u8 0, .int .u8 0, .int .u8 0, .int .u8 0, .int .u8 0, .int .u8 0, .int .u8 0, .int .u8 0, .int .u8 0, .int .u8 0, .int .u8 0, .int .u8 0, .int .u8 0, .int .u8 0, .int .u8 0, .int .u8 0, .int .u8 0, .int .u8 0, .int .u8 0] 85)) W3.heap.size (Bk.map (Value.int .u8)).toArray
    obtain ⟨vr, hvr⟩ : ∃ v, v = Bk.map (Value.int .u8) := ⟨_, rfl⟩
    rw [← hvr] at L64 O64 SR OR ⊢
    clear hvr BA RG
    gi_wp2_with (refine listIn_store rfl 85 (.tmp 9) (.tmp 22) rfl W3.heap.size vr.toArray rfl rfl t4 _ H4 (by rw [List.size_toArray, L64.out]; exact infoB) (by rw [List.size_toArray, List.size_toArray, L64.out]; rfl) O64 ?_)
    have s3 := n3.size
    have U5 : ∀ b, b < W.heap.size → ((W3.alloc (.cells #[.int .u8 0, .int .u8 0, .int .u8 0, .int .u8 0, .int .u8 0, .int .u8 0, .int .u8 0, .int .u8 0, .int .u8 0, .int .u8 0, .int .u8 0, .int .u8 0, .int .u8 0, .int .u8 0, .int .u8 0, .int .u8 0, .int .u8 0, .int .u8 0, .int .u8 0, .int .u8 0, .int .u8 0, .int .u8 0, .int .u8 0, .int .u8 0, .int .u8 0, .int .u8 0, .int .u8 0, .int .u8 0, .int .u8 0, .int .u8 0, .int .u8 0, .int .u8 0, .int .u8 0, .int .u8 0, .int .u8 0, .int .u8 0, .int .u8 0, .int .u8 0, .int .u8 0, .int .u8 0, .int .u8 0, .int .u8 0, .int .u8 0, .int .u8 0, .int .u8 0, .int .u8 0, .int .u8 0, .int .u8 0, .int .u8 0, .int .u8 0, .int .u8 0, .int .u8 0, .int .u8 0, .int .u8 0, .int .u8 0, .int .u8 0, .int .u8 0, .int .u8 0, .int .u8 0, .int .u8 0, .int .u8 0, .int .u8 0, .int .u8 0, .int .u8 0] 85)).setRow W3.heap.size vr.toArray).heap[b]? = W.heap[b]? := fun b hb => (OR.block b (by omega)).trans ((n4.block b (by omega)).trans (n3.block b hb))
    have s5 : ((W3.alloc (.cells #[.int .u8 0, .int .u8 0, .int .u8 0, .int .u8 0, .int .u8 0, .int .u8 0, .int .u8 0, .int .u8 0, .int .u8 0, .int .u8 0, .int .u8 0, .int .u8 0, .int .u8 0, .int .u8 0, .int .u8 0, .int .u8 0, .int .u8 0, .int .u8 0, .int .u8 0, .int .u8 0, .int .u8 0, .int .u8 0, .int .u8 0, .int .u8 0, .int .u8 0, .int .u8 0, .int .u8 0, .int .u8 0, .int .u8 0, .int .u8 0, .int .u8 0, .int .u8 0, .int .u8 0, .int .u8 0, .int .u8 0, .int .u8 0, .int .u8 0, .int .u8 0, .int .u8 0, .int .u8 0, .int .u8 0, .int .u8 0, .int .u8 0, .int .u8 0, .int .u8 0, .int .u8 0, .int .u8 0, .int .u8 0, .int .u8 0, .int .u8 0, .int .u8 0, .int .u8 0, .int .u8 0, .int .u8 0, .int .u8 0, .int .u8 0, .int .u8 0, .int .u8 0, .int .u8 0, .int .u8 0, .int .u8 0, .int .u8 0, .int .u8 0, .int .u8 0] 85)).setRow W3.heap.size vr.toArray).heap.size = W3.heap.size + 1 := OR.size.trans z4
    have N5 : Below W.heap.size W ((W3.alloc (.cells #[.int .u8 0, .int .u8 0, .int .u8 0, .int .u8 0, .int .u8 0, .int .u8 0, .int .u8 0, .int .u8 0, .int .u8 0, .int .u8 0, .int .u8 0, .int .u8 0, .int .u8 0, .int .u8 0, .int .u8 0, .int .u8 0, .int .u8 0, .int .u8 0, .int .u8 0, .int .u8 0, .int .u8 0, .int .u8 0, .int .u8 0, .int .u8 0, .int .u8 0, .int .u8 0, .int .u8 0, .int .u8 0, .int .u8 0, .int .u8 0, .int .u8 0, .int .u8 0, .int .u8 0, .int .u8 0, .int .u8 0, .int .u8 0, .int .u8 0, .int .u8 0, .int .u8 0, .int .u8 0, .int .u8 0, .int .u8 0, .int .u8 0, .int .u8 0, .int .u8 0, .int .u8 0, .int .u8 0, .int .u8 0, .int .u8 0, .int .u8 0, .int .u8 0, .int .u8 0, .int .u8 0, .int .u8 0, .int .u8 0, .int .u8 0, .int .u8 0, .int .u8 0, .int .u8 0, .int .u8 0, .int .u8 0, .int .u8 0, .int .u8 0, .int .u8 0] 85)).setRow W3.heap.size vr.toArray) := n3.trans ((n4.mono (by omega)).trans (OR.below (by omega)))
    generalize (W3.alloc (.cells #[.int .u8 0, .int .u8 0, .int .u8 0, .int .u8 0, .int .u8 0, .int .u8 0, .int .u8 0, .int .u8 0, .int .u8 0, .int .u8 0, .int .u8 0, .int .u8 0, .int .u8 0, .int .u8 0, .int .u8 0, .int .u8 0, .int .u8 0, .int .u8 0, .int .u8 0, .int .u8 0, .int .u8 0, .int .u8 0, .int .u8 0, .int .u8 0, .int .u8 0, .int .u8 0, .int .u8 0, .int .u8 0, .int .u8 0, .int .u8 0, .int .u8 0, .int .u8 0, .int .u8 0, .int .u8 0, .int .u8 0, .int .u8 0, .int .u8 0, .int .u8 0, .int .u8 0, .int .u8 0, .int .u8 0, .int .u8 0, .int .u8 0, .int .u8 0, .int .u8 0, .int .u8 0, .int .u8 0, .int .u8 0, .int .u8 0, .int .u8 0, .int .u8 0, .int .u8 0, .int .u8 0, .int .u8 0, .int .u8 0, .int .u8 0, .int .u8 0, .int .u8 0, .int .u8 0, .int .u8 0, .int .u8 0, .int .u8 0, .int .u8 0, .int .u8 0] 85)).setRow W3.heap.size vr.toArray = W5 at *
    generalize W3.heap.size = bq at *
    clear OR n4 n3 H4 z4 O64 L64
    have T5 := zB.up N5
    have bW : W.heap.size ≤ bq := s3
    have peI : (pe : Int) ≤ 64 := by omega
    gi_loopw [25] (fun v wr => ∃ (j : Nat) (us : List Int), j ≤ pe ∧ v = .int .i64 j ∧ Hid (us = xorTo zs (64 * x.1) Bk j) ∧ B5 wr (w.heap.size + 1 + 1) us ∧ Blk wr bq .u8 Bk ∧ (∀ b, b < W.heap.size → b ≠ w.heap.size + 1 + 1 → wr.heap[b]? = W.heap[b]?) ∧ bq + 1 ≤ wr.heap.size ∧ KeepsFrom w6.heap.size W wr ∧ Below w.heap.size w wr) (fun v _ => pe - (intOf v).toNat)
    case atStart => exact ⟨0, zs, Nat.zero_le _, rfl, rfl, T5, SR, fun b hb _ => U5 b hb, by omega, keeps_below N5, be.trans (N5.mono be.size)⟩
    case round =>
      obtain ⟨j, us, hj, rfl, HU, hT, hK, hO, hZ, hF, hN⟩ := hrel
      clear T5 SR U5 N5 s5
      by_cases jl : j < pe
      · have pzl : 64 * x.1 + j < zs.length := by rw [zl]; omega
        have ul : us.length = zs.length := by rw [HU.out, xorTo_len]
        have ug : us.getD (64 * x.1 + j) 0 = zs.getD (64 * x.1 + j) 0 := by rw [HU.out, xorTo_get _ _ _ _ pzl, if_neg (by omega)]
        have cz0 : ∀ u, Below wr.heap.size wr u → u.cell? ⟨w.heap.size + 1 + 1, 64 * x.1 + j, none⟩ = some (.int .u8 (zs.getD (64 * x.1 + j) 0)) := fun u hu => by
          have := (hT.up hu).cell (i := 64 * x.1 + j) (by rw [ul]; exact pzl)
          rw [ug] at this
          exact this
        have cb0 : ∀ u, Below wr.heap.size wr u → u.cell? ⟨bq, j, none⟩ = some (.int .u8 (Bk.getD j 0)) := fun u hu => (hK.up hu).cell (i := j) (by rw [BL.out]; omega)
        have XS : Hid (us.set (64 * x.1 + j) (xr (zs.getD (64 * x.1 + j) 0) (Bk.getD j 0)) = xorTo zs (64 * x.1) Bk (j + 1)) := by show _ = _; rw [HU.out]; rfl
        have XV0 : Hid (bits BinOp.xor IntKind.u8 (zs.getD (64 * x.1 + j) 0) (Bk.getD j 0) = xr (zs.getD (64 * x.1 + j) 0) (Bk.getD j 0)) := rfl
        obtain ⟨pz, hpz⟩ : ∃ p, p = 64 * x.1 + j := ⟨_, rfl⟩
        have epz : 64 * x.1 + j = pz := hpz.symm
        rw [← hpz] at pzl ug XS XV0
        simp only [← hpz] at cz0
        clear hpz
        generalize zs.getD pz 0 = zv at *
        generalize Bk.getD j 0 = bv at *
        generalize xr zv bv = xv at *
        have XV := XV0
        have cz := cz0
        have cb := cb0
        have jpe : (j : Int) < (pe : Int) := by omega
        have j64 : (j : Int) < 64 := by omega
        clear XV0 cz0 cb0
        gi_wp2_with fail
        refine region_store_in 9 _ (fun i => [Fact.eq (.slice (some ⟨w.heap.size + 1 + 1, 64 * x.1, none⟩) pe pe), Fact.eq (.int .i64 (j : Int)), Fact.eq (.pointer (some ⟨w.heap.size + 1 + 1, pz, none⟩)), Fact.eq (.int .u8 zv), Fact.eq (.int .i64 (j : Int)), Fact.eq (.pointer (some ⟨bq, j, none⟩)), Fact.eq (.int .u8 bv), Fact.eq (.int .u8 xv), Fact.eq (.pointer (some ⟨w.heap.size + 1 + 1, pz, none⟩))].getD i Fact.no) (by kernel_rfl) (by rintro ⟨_, _, h⟩; exact h) (by kernel_rfl) (by kernel_rfl) rfl rfl ?_ ?_
        · skip
          intro i hi
          obtain rfl | rfl | rfl | rfl | rfl | rfl | rfl | rfl | rfl : i = 0 ∨ i = 1 ∨ i = 2 ∨ i = 3 ∨ i = 4 ∨ i = 5 ∨ i = 6 ∨ i = 7 ∨ i = 8 := by omega
          · refine step_pure rfl fun a u hb hw hf => ?_
            have e8 : a.tmps[8]?.getD undef = .slice (some ⟨w.heap.size + 1 + 1, 64 * x.1, none⟩) pe pe := gdv (hb.2.2 8 (by kernel_rfl))
            exact ⟨.slice (some ⟨w.heap.size + 1 + 1, 64 * x.1, none⟩) pe pe, by simp [go_sem, e8], rfl⟩
          · refine step_pure rfl fun a u hb hw hf => ?_
            have e10 : a.tmps[10]?.getD undef = .int .i64 (j : Int) := gdv (hb.2.2 10 (by kernel_rfl))
            exact ⟨.int .i64 (j : Int), by simp [go_sem, e10], rfl⟩
          · refine step_pure rfl fun a u hb hw hf => ?_
            have e28 : a.tmps[28]?.getD undef = .slice (some ⟨w.heap.size + 1 + 1, 64 * x.1, none⟩) pe pe := gdv (hf 0 28 (by kernel_rfl))
            have e29 : a.tmps[29]?.getD undef = .int .i64 (j : Int) := gdv (hf 1 29 (by kernel_rfl))
            exact ⟨.pointer (some ⟨w.heap.size + 1 + 1, pz, none⟩), by simp [go_sem, e28, e29, jpe, epz], rfl⟩
          · refine step_pure rfl fun a u hb hw hf => ?_
            have e30 : a.tmps[30]?.getD undef = .pointer (some ⟨w.heap.size + 1 + 1, pz, none⟩) := gdv (hf 2 30 (by kernel_rfl))
            have hc := cz _ hw
            exact ⟨.int .u8 zv, by simp [go_sem, e30, hc], rfl⟩
          · refine step_pure rfl fun a u hb hw hf => ?_
            have e10 : a.tmps[10]?.getD undef = .int .i64 (j : Int) := gdv (hb.2.2 10 (by kernel_rfl))
            exact ⟨.int .i64 (j : Int), by simp [go_sem, e10], rfl⟩
          · refine step_pure rfl fun a u hb hw hf => ?_
            have e9 : a.tmps[9]?.getD undef = .pointer (some ⟨bq, 0, none⟩) := gdv (hb.2.2 9 (by kernel_rfl))
            have e32 : a.tmps[32]?.getD undef = .int .i64 (j : Int) := gdv (hf 4 32 (by kernel_rfl))
            exact ⟨.pointer (some ⟨bq, j, none⟩), by simp [go_sem, e9, e32, j64], rfl⟩
          · refine step_pure rfl fun a u hb hw hf => ?_
            have e33 : a.tmps[33]?.getD undef = .pointer (some ⟨bq, j, none⟩) := gdv (hf 5 33 (by kernel_rfl))
            have hc := cb _ hw
            exact ⟨.int .u8 bv, by simp [go_sem, e33, hc], rfl⟩
          · refine step_pure rfl fun a u hb hw hf => ?_
            have e31 : a.tmps[31]?.getD undef = .int .u8 zv := gdv (hf 3 31 (by kernel_rfl))
            have e34 : a.tmps[34]?.getD undef = .int .u8 bv := gdv (hf 6 34 (by kernel_rfl))
            exact ⟨.int .u8 xv, by simp [go_sem, e31, e34, XV.out], rfl⟩
          · refine step_pure rfl fun a u hb hw hf => ?_
            have e28 : a.tmps[28]?.getD undef = .slice (some ⟨w.heap.size + 1 + 1, 64 * x.1, none⟩) pe pe := gdv (hf 0 28 (by kernel_rfl))
            have e29 : a.tmps[29]?.getD undef = .int .i64 (j : Int) := gdv (hf 1 29 (by kernel_rfl))
            exact ⟨.pointer (some ⟨w.heap.size + 1 + 1, pz, none⟩), by simp [go_sem, e28, e29, jpe, epz], rfl⟩
        · intro a u hb' hw' hf
          have e36 : a.tmps[36]?.getD undef = .pointer (some ⟨w.heap.size + 1 + 1, pz, none⟩) := gdv (hf 8 36 (by kernel_rfl))
          have e35 : a.tmps[35]?.getD undef = .int .u8 xv := gdv (hf 7 35 (by kernel_rfl))
          have hcz := cz u hw'
          have hfz := (hT.up hw').free pz
          have O2 := Only.setCell u (w.heap.size + 1 + 1) pz (.int .u8 xv)
          have T2 := (hT.up hw').store pz xv
          have K2 := (hK.up hw').of_block (O2.block bq (by omega))
          have U2 : ∀ b, b < W.heap.size → b ≠ w.heap.size + 1 + 1 → (u.setCell ⟨w.heap.size + 1 + 1, pz, none⟩ (.int .u8 xv)).heap[b]? = W.heap[b]? := fun b h1 h2 => (O2.block b h2).trans ((hw'.block b (by omega)).trans (hO b h1 h2))
          have F2 : KeepsFrom w6.heap.size W (u.setCell ⟨w.heap.size + 1 + 1, pz, none⟩ (.int .u8 xv)) := (hF.trans (keeps_below hw')).trans ((KeepsOthers.setCell _ _ _).from _)
          have s2 := O2.size
          have s1 := hw'.size
          have N2 := hN.trans ((hw'.mono hN.size).trans (O2.below (B := w.heap.size) (by omega)))
          obtain ⟨vs', hvs'⟩ : ∃ vs : Nat → Value, ∀ d, a.tmps.getD d undef = vs d := ⟨_, fun _ => rfl⟩
          have ea := puts_of (md := .any) (n := 41) (k := 9) (by kernel_rfl) rfl hb' vs' hvs'
          unfold Oper.wp
          simp [go_sem, e36, e35, hcz, hfz]
          rw [ea]
          clear ea hvs' e36 e35 hf hb' hcz hfz cz cb
          simp only [puts, Act.put, List.setIfInBounds_toArray, List.set_cons_succ, List.set_cons_zero]
          generalize u.setCell ⟨w.heap.size + 1 + 1, pz, none⟩ (.int .u8 xv) = W2 at *
          gi_wp2
          go_roundw
          case rel => exact ⟨j + 1, us.set pz xv, by omega, by go_num, XS, T2, K2, U2, by omega, F2, N2⟩
          case measure => simp [intOf]; omega
      · have jI : ¬ ((j : Int) < (pe : Int)) := by omega
        have HJ := hide (show j = pe by omega)
        have c2 := (World.cell?_of_block (a := ⟨w.heap.size + 1, 0, none⟩) (hO (w.heap.size + 1) (by omega) (by omega))).trans im
        have f2 := (World.frozen?_of_block (a := ⟨w.heap.size + 1, 0, none⟩) (hO (w.heap.size + 1) (by omega) (by omega))).trans nf
        have c3 : (wr.setCell ⟨w.heap.size + 1, 0, none⟩ (.int .i64 (cv + 1))).cell? ⟨w.heap.size + 1, 0, none⟩ = some (.int .i64 (cv + 1)) := World.cell?_setCell_same _ _ _ c2
        have f3 : (wr.setCell ⟨w.heap.size + 1, 0, none⟩ (.int .i64 (cv + 1))).frozen? ⟨w.heap.size + 1, 0, none⟩ = false := by rw [frozen_setCell]; exact f2
        have O3 := Only.setCell wr (w.heap.size + 1) 0 (.int .i64 (cv + 1))
        gi_wp2
        have lx : (pre ++ [x]).length = pre.length + 1 := by simp
        have K3 := hF.trans ((KeepsOthers.setCell wr ⟨w.heap.size + 1, 0, none⟩ (.int .i64 (cv + 1))).from w6.heap.size)
        have U3 : ∀ b, b < W.heap.size → b ≠ w.heap.size + 1 + 1 → b ≠ w.heap.size + 1 → (wr.setCell ⟨w.heap.size + 1, 0, none⟩ (.int .i64 (cv + 1))).heap[b]? = W.heap[b]? := fun b h1 h2 h3 => (O3.block b h3).trans (hO b h1 h2)
        have s6 := S6.out
        refine ⟨K3, ⟨U3 _ (by omega) (by omega) (by omega), U3 _ (by omega) (by omega) (by omega)⟩, ?_⟩
        refine ⟨⟨us, by rw [HU.out, xorTo_len]; exact zl, hT.of_block (O3.block (w.heap.size + 1 + 1) (by omega)), fun h => ?_⟩, hs.of_block (U3 w.heap.size (by omega) (by omega) (by omega)), ?_, f3, by have := O3.size; omega, hN.trans (O3.below (by omega))⟩
        · rw [lx, List.map_append, List.range_succ] at h
          obtain ⟨h1', h2'⟩ := List.append_inj' h rfl
          have h3' : x.1 = pre.length := by simpa using h2'
          rw [lx, HU.out, z3 h1', xoG, HBK.out, HCV.out, HJ.out, HPE.out, h3']
        · rw [lx, c3, HCV.out]
          congr 2
          omega
  case done =>
    rintro D xx W hD hS hI hK
    have yl : xx.length = (data.length + 63) / 64 := by have := congrArg List.length hS; simpa using this
    obtain ⟨zs, z1, z2, z3⟩ := hI.told
    rw [← yl] at hS
    have ez := z3 hS
    rw [yl] at ez
    have hdd : w.heap.size + 1 + 1 < D := by have := S6.out; have := YQ.out; omega
    have B9 : B5 (W.putObj D (.deferred none)) (w.heap.size + 1 + 1) zs := z2.of_block (World.putObj_heap_other (by omega))
    have N9 : Below w.heap.size w (W.putObj D (.deferred none)) := hI.bel.trans (belowK_b (w := w) (Nat.le_refl _) W D _ _ (by omega) hK rfl rfl)
    have EZ := hide ez
    have ZL := hide z1
    clear z1 z2 z3 ez hI yl hS
    go_wp2
    refine ⟨by simp, .inl ⟨_, _, rfl, run_takeDeferred hK, ?_⟩⟩
    have RB := B9.row (B := w.heap.size) (by omega) (by rw [ZL.out]; exact hn)
    rw [EZ.out, xoG_len] at RB
    exact ⟨_, results_tmp rfl _ _ _, ⟨.slice (some ⟨w.heap.size + 1 + 1, 0, none⟩) data.length data.length, by rfl, RB⟩, N9⟩
  case stop =>
    rintro D c pre W hD hs h hK
    exact h.elim
end Go.Proofs.YtccnhdicibjbaaaGreat
namespace Go.Proofs.YtccnhdicibjbaaaGreat
open Go Go.RowKit
theorem xr_byt {d b : Int} (hd : 0 ≤ d ∧ d < 256) (hb : 0 ≤ b ∧ b < 256) : 0 ≤ xr d b ∧ xr d b < 256 := by
  unfold xr
  obtain ⟨n, rfl⟩ := Int.eq_ofNat_of_zero_le hd.1
  obtain ⟨m, rfl⟩ := Int.eq_ofNat_of_zero_le hb.1
  have h1 := hd.2
  have h2 := hb.2
  rw [u8_xor_nat n m (by omega) (by omega)]
  have : n ^^^ m < 2 ^ 8 := Nat.xor_lt_two_pow (by omega) (by omega)
  exact ⟨by omega, by omega⟩
theorem xr_xr {d b : Int} (hd : 0 ≤ d ∧ d < 256) (hb : 0 ≤ b ∧ b < 256) : xr (xr d b) b = d := by
  unfold xr
  obtain ⟨n, rfl⟩ := Int.eq_ofNat_of_zero_le hd.1
  obtain ⟨m, rfl⟩ := Int.eq_ofNat_of_zero_le hb.1
  have h1 := hd.2
  have h2 := hb.2
  have h3 : n ^^^ m < 2 ^ 8 := Nat.xor_lt_two_pow (by omega) (by omega)
  rw [u8_xor_nat n m (by omega) (by omega), u8_xor_nat (n ^^^ m) m (by omega) (by omega), Nat.xor_assoc, Nat.xor_self, Nat.xor_zero]
theorem xoG_byt (ys : List Int) (c : Int) {data : List Int} (hb : Byt data) (k : Nat) : Byt (xoG ys c data k) := by
  intro i
  by_cases hi : i < data.length
  · rw [xoG_get _ _ _ _ hi]
    split
    · exact xr_byt (hb i) (stB_byt _ _)
    · exact hb i
  · rw [List.getD_eq_getElem?_getD, List.getElem?_eq_none (by rw [xoG_len]; omega)]; decide
theorem xoG_xoG (ys : List Int) (c : Int) {data : List Int} (hb : Byt data) : xoG ys c (xoG ys c data ((data.length + 63) / 64)) ((data.length + 63) / 64) = data := by
  refine eq_of_getD (by rw [xoG_len, xoG_len]) (fun i hi => ?_)
  rw [xoG_len, xoG_len] at hi
  rw [xoG_get _ _ _ _ (by rw [xoG_len]; exact hi), if_pos (by omega), xoG_get _ _ _ _ hi, if_pos (by omega)]
  exact xr_xr (hb i) (stB_byt _ _)
end Go.Proofs.YtccnhdicibjbaaaGreat
namespace Go.Proofs.YtccnhdicibjbaaaGreat
open Go Go.RowKit
def fitK (key non : List Int) : Bool := decide (key.length = 32) && decide (non.length = 12)
def xt (key non data : List Int) : List Int := xoG (nsW key non) 1 data ((data.length + 63) / 64)
theorem xt_len (key non data : List Int) : (xt key non data).length = data.length := xoG_len _ _ _ _
theorem xt_byt (key non : List Int) {data : List Int} (h : Byt data) : Byt (xt key non data) := xoG_byt _ _ h _
theorem xt_xt (key non : List Int) {data : List Int} (h : Byt data) : xt key non (xt key non data) = data := by
  show xoG _ _ (xt key non data) (((xt key non data).length + 63) / 64) = _
  rw [xt_len]
  exact xoG_xoG _ _ h
def seA (key non ex plain : List Int) : List Int := if fitK key non = true then xt key non plain ++ ssB (nsW key non) ex (xt key non plain) else []
theorem seA_len (key non ex plain : List Int) : (seA key non ex plain).length ≤ plain.length + 16 := by
  unfold seA
  split
  · rw [List.length_append, xt_len, ssB_len]; exact Nat.le_refl _
  · simp
theorem seA_byt {key non ex plain : List Int} (h : Byt plain) : Byt (seA key non ex plain) := by
  unfold seA
  split
  · exact byt_app (xt_byt _ _ h) (ssB_byt _ _ _)
  · exact byt_nil
theorem hasC_short (n : Nat) (h : n ≤ 4194304) : hasC 1 n = true := by unfold hasC; simp; omega
theorem RowB.of_block5 {w w' : World} {base q : Nat} {v : Value} {xs : List Int} (h : RowB w base v xs) (ho : Only q w w') (hq : ∀ k, v.ownBlock = some k → k ≠ q) : RowB w' base v xs := by
  refine ⟨h.1, ?_⟩
  rcases h.2 with h' | ⟨g, cap, cur, rfl, hbg, hg, hnc, hcm, hcs, ht⟩
  · exact .inl h'
  · exact .inr ⟨g, cap, cur, rfl, hbg, by rw [ho.block g (hq g rfl)]; exact hg, hnc, hcm, hcs, ht⟩
set_option maxRecDepth 100000 in
set_option maxHeartbeats 8000000 in
theorem implSeal_any (w : World) (g : Nat) (a : Option Addr) (c : Nat) (key : List Int) (hr : Rd w g a .u8 key) (hb : Byt key) (hc : key.length ≤ c) (g' : Nat) (a' : Option Addr) (c' : Nat) (non : List Int) (hr' : Rd w g' a' .u8 non) (hb' : Byt non) (hc' : non.length ≤ c')
    (ge : Nat) (ae : Option Addr) (ce : Nat) (ex : List Int) (he : Rd w ge ae .u8 ex) (eb : Byt ex) (en : ae = none → ce = 0)
    (g2 : Nat) (a2 : Option Addr) (c2 : Nat) (data : List Int) (hr2 : Rd w g2 a2 .u8 data) (db : Byt data) (hs : ex.length + data.length ≤ 4000000) :
    Calls Tryz.prog 22 #[.slice a key.length c, .slice a' non.length c', .slice ae ex.length ce, .slice a2 data.length c2] w fun e w' => (∃ v, e = .returned v ∧ RowB w' w.heap.size v (seA key non ex data)) ∧ Below w.heap.size w w' := by
  obtain ⟨i0, hi, hz0, hz1, hz2⟩ := info_parts Tryz.info5
  have IK := isKey_any w a a' key.length non.length c c'
  by_cases h1 : (decide (key.length = 32) && decide (non.length = 12)) = true
  · rw [h1] at IK
    have HC := hasC_any w 1 (by omega) (by omega) a2 data.length c2
    rw [hasC_short data.length (by omega)] at HC
    have RS : Hid (seA key non ex data = xt key non data ++ ssB (nsW key non) ex (xt key non data)) := by show _ = _; unfold seA fitK; rw [if_pos h1]
    rw [RS.out]
    simp only [Bool.and_eq_true, decide_eq_true_eq] at h1
    have NW := hide (newWords_any w g a c key hr hb h1.1 hc g' a' c' non hr' hb' h1.2 hc')
    have LY := fun W (n : Below w.heap.size w W) => hide (layOverR_any W _ (nsW_ws hb hb') (nsW_len key non) 1 (by omega) g2 a2 c2 data (hr2.up n) (by omega) (by omega))
    have XB := hide (xt_byt key non db)
    have XL := hide (xt_len key non data)
    have XT : Hid (xt key non data = xoG (nsW key non) 1 data ((data.length + 63) / 64)) := rfl
    simp only [← XT.out] at LY
    generalize xt key non data = T at *
    have SS := fun W (n : Below w.heap.size w W) gt at' ct (h : Rd W gt at' .u8 T) (p : at' = none → ct = 0) => hide (sealSum_any W _ (nsW_ws hb hb') (nsW_len key non) ge ae ce ex (he.up n) eb en gt at' ct T h XB.out p (by rw [XL.out]; exact hs))
    have SL := hide (ssB_len (nsW key non) ex T)
    have W16 : Hid (((nsW key non).map (Value.int .u32)).length = 16) := by show _ = _; rw [List.length_map]; exact nsW_len key non
    have OW := one_ints .u32 (nsW key non)
    have VW : Hid (ag .u32 (nsW key non) = Value.agg ((nsW key non).map (Value.int .u32)).toArray) := rfl
    have TL : T.length ≤ 4000000 := by rw [XL.out]; omega
    have HTL := hide TL
    clear RS h1 XT XB XL TL
    generalize ssB (nsW key non) ex T = sm at *
    rw [VW.out] at NW
    simp only [VW.out] at LY SS
    obtain ⟨nw, hnw⟩ : ∃ l, l = nsW key non := ⟨_, rfl⟩
    rw [← hnw] at W16 OW NW
    simp only [← hnw] at LY SS
    clear hnw VW
    go_enter Tryz.func22, Tryz.ntmps22
    go_wp2_with fail
    refine IK.mono ?_
    rintro e w1 ⟨rfl, h⟩
    have h := h.symm
    subst h
    go_wp2_with fail
    refine HC.mono ?_
    rintro e w1 ⟨rfl, h⟩
    have h := h.symm
    subst h
    go_wp2_with fail
    refine NW.out.mono ?_
    rintro e w2 ⟨rfl, n2⟩
    have n3 : Below w2.heap.size w2 (w2.alloc (.cells #[.int .u32 0, .int .u32 0, .int .u32 0, .int .u32 0, .int .u32 0, .int .u32 0, .int .u32 0, .int .u32 0, .int .u32 0, .int .u32 0, .int .u32 0, .int .u32 0, .int .u32 0, .int .u32 0, .int .u32 0, .int .u32 0] 56)) := (Below.refl _ _).alloc (Nat.le_refl _) _
    obtain ⟨t3, H3⟩ := blk_z16 w2 56
    have SR := blk_setRow (zs := nw) ⟨t3, H3⟩
    have OR := only_setRow (w2.alloc (.cells #[.int .u32 0, .int .u32 0, .int .u32 0, .int .u32 0, .int .u32 0, .int .u32 0, .int .u32 0, .int .u32 0, .int .u32 0, .int .u32 0, .int .u32 0, .int .u32 0, .int .u32 0, .int .u32 0, .int .u32 0, .int .u32 0] 56)) w2.heap.size (nw.map (Value.int .u32)).toArray
    obtain ⟨vw, hvw⟩ : ∃ v, v = nw.map (Value.int .u32) := ⟨_, rfl⟩
    have RGf : ∀ W q, Blk W q .u32 nw → W.rangeAt q 0 vw := fun W q h => by rw [hvw]; exact (Seg.blk h).range
    rw [← hvw] at W16 OW SR OR ⊢
    simp only [← hvw] at LY SS
    clear hvw NW IK HC
    have s2 := n2.size
    have N3 : Below w.heap.size w ((w2.alloc (.cells #[.int .u32 0, .int .u32 0, .int .u32 0, .int .u32 0, .int .u32 0, .int .u32 0, .int .u32 0, .int .u32 0, .int .u32 0, .int .u32 0, .int .u32 0, .int .u32 0, .int .u32 0, .int .u32 0, .int .u32 0, .int .u32 0] 56)).setRow w2.heap.size vw.toArray) := n2.trans ((n3.mono s2).trans (OR.below (B := w.heap.size) s2))
    have z3 : ((w2.alloc (.cells #[.int .u32 0, .int .u32 0, .int .u32 0, .int .u32 0, .int .u32 0, .int .u32 0, .int .u32 0, .int .u32 0, .int .u32 0, .int .u32 0, .int .u32 0, .int .u32 0, .int .u32 0, .int .u32 0, .int .u32 0, .int .u32 0] 56)).setRow w2.heap.size vw.toArray).heap.size = w2.heap.size + 1 := OR.size.trans (by simp)
    go_upto_region 4 with (refine wpList_store_row rfl 56 (.tmp 9) (.tmp 23) rfl w2.heap.size vw.toArray rfl rfl t3 _ H3 (by rw [List.size_toArray, W16.out]; exact infoS) (by rw [List.size_toArray, List.size_toArray, W16.out]; rfl) OW ?_)
    generalize (w2.alloc (.cells #[.int .u32 0, .int .u32 0, .int .u32 0, .int .u32 0, .int .u32 0, .int .u32 0, .int .u32 0, .int .u32 0, .int .u32 0, .int .u32 0, .int .u32 0, .int .u32 0, .int .u32 0, .int .u32 0, .int .u32 0, .int .u32 0] 56)).setRow w2.heap.size vw.toArray = w3 at *
    generalize w2.heap.size = q at *
    have RG := RGf w3 q SR
    clear n3 OR H3 OW
    go_wp2_with (refine wpList_load_mid rfl 56 (.tmp 9) rfl q 0 rfl vw (.array 16 54) RG undS rfl (by rw [W16.out]; exact infoS) ?_)
    refine (LY w3 N3).out.mono ?_
    rintro e w4 ⟨⟨v4, rfl, R4⟩, n4⟩
    obtain ⟨a4, c4, g4, rfl, o4, p4, q4, r4⟩ := R4.own
    have N4 := nxt N3 n4
    have SR4 := SR.up n4
    have RG4 := RGf w4 q SR4
    have SM := SS w4 N4 g4 a4 c4 o4.rd p4
    have s3 := N3.size
    have R4 := R4.base (base' := w.heap.size) s3
    clear LY SS SR RG n4
    go_wp2_with (refine wpList_load_mid rfl 56 (.tmp 9) rfl q 0 rfl vw (.array 16 54) RG4 undS rfl (by rw [W16.out]; exact infoS) ?_)
    refine SM.out.mono ?_
    rintro e w5 ⟨rfl, n5⟩
    have N5 := nxt N4 n5
    have R5 := R4.up n5
    clear SM RG4 SR4 RGf N4 n5 R4 o4
    have n6 : Below w5.heap.size w5 (w5.alloc (.cells #[.int .u8 0, .int .u8 0, .int .u8 0, .int .u8 0, .int .u8 0, .int .u8 0, .int .u8 0, .int .u8 0, .int .u8 0, .int .u8 0, .int .u8 0, .int .u8 0, .int .u8 0, .int .u8 0, .int .u8 0, .int .u8 0] 53)) := (Below.refl _ _).alloc (Nat.le_refl _) _
    obtain ⟨t6, H6⟩ := blk_y16 w5 53
    have SR6 := blk_setRow (zs := sm) ⟨t6, H6⟩
    have OR6 := only_setRow (w5.alloc (.cells #[.int .u8 0, .int .u8 0, .int .u8 0, .int .u8 0, .int .u8 0, .int .u8 0, .int .u8 0, .int .u8 0, .int .u8 0, .int .u8 0, .int .u8 0, .int .u8 0, .int .u8 0, .int .u8 0, .int .u8 0, .int .u8 0] 53)) w5.heap.size (sm.map (Value.int .u8)).toArray
    have L6 : Hid ((sm.map (Value.int .u8)).length = 16) := by show _ = _; rw [List.length_map]; exact SL.out
    have O6 := one_ints .u8 sm
    have V6 : Hid (ag .u8 sm = Value.agg (sm.map (Value.int .u8)).toArray) := rfl
    rw [V6.out]
    obtain ⟨v6, hv6⟩ : ∃ v, v = sm.map (Value.int .u8) := ⟨_, rfl⟩
    rw [← hv6] at SR6 OR6 L6 O6 ⊢
    clear hv6 V6
    have s5 := N5.size
    have N6 : Below w.heap.size w ((w5.alloc (.cells #[.int .u8 0, .int .u8 0, .int .u8 0, .int .u8 0, .int .u8 0, .int .u8 0, .int .u8 0, .int .u8 0, .int .u8 0, .int .u8 0, .int .u8 0, .int .u8 0, .int .u8 0, .int .u8 0, .int .u8 0, .int .u8 0] 53)).setRow w5.heap.size v6.toArray) := N5.trans ((n6.mono s5).trans (OR6.below (B := w.heap.size) s5))
    have z6 : ((w5.alloc (.cells #[.int .u8 0, .int .u8 0, .int .u8 0, .int .u8 0, .int .u8 0, .int .u8 0, .int .u8 0, .int .u8 0, .int .u8 0, .int .u8 0, .int .u8 0, .int .u8 0, .int .u8 0, .int .u8 0, .int .u8 0, .int .u8 0] 53)).setRow w5.heap.size v6.toArray).heap.size = w5.heap.size + 1 := OR6.size.trans (by simp)
    have R6 := RowB.of_block5 (R5.up n6) OR6 (fun k hk => by have := (World.ownsRow.lt R5 k hk).2; omega)
    go_upto_region 6 with (refine wpList_store_row rfl 53 (.tmp 11) (.tmp 30) rfl w5.heap.size v6.toArray rfl rfl t6 _ H6 (by rw [List.size_toArray, L6.out]; exact infoP16) (by rw [List.size_toArray, List.size_toArray, L6.out]; rfl) O6 ?_)
    generalize (w5.alloc (.cells #[.int .u8 0, .int .u8 0, .int .u8 0, .int .u8 0, .int .u8 0, .int .u8 0, .int .u8 0, .int .u8 0, .int .u8 0, .int .u8 0, .int .u8 0, .int .u8 0, .int .u8 0, .int .u8 0, .int .u8 0, .int .u8 0] 53)).setRow w5.heap.size v6.toArray = w6 at *
    obtain ⟨v7, w7, hap, o7, n7⟩ := append_any (P := Tryz.prog) w6 22 i0 Tryz.underlying22 hi hz0 hz1 hz2 w.heap.size w.heap.size _ T R6 w5.heap.size (some ⟨w5.heap.size, 0, none⟩) 16 sm SR6.own0.rd (by simp) (by have := HTL.out; have := SL.out; omega) (Nat.le_refl _) N6.size
    rw [SL.out] at hap
    have N7 := N6.trans n7
    clear n6 OR6 H6 O6 L6 N5 R5 R6 SR6 z6
    go_wp2_with (at_builtin; refine Lib.wpList_append_run _ rfl _ _ 22 22 rfl _ _ rfl rfl _ _ hap ?_)
    go_ret
    exact ⟨⟨_, rfl, o7⟩, N7⟩
  · have h1' : (decide (key.length = 32) && decide (non.length = 12)) = false := by simpa using h1
    rw [h1'] at IK
    have RS : Hid (seA key non ex data = []) := by show _ = _; unfold seA fitK; rw [if_neg h1]
    rw [RS.out]
    clear h1 h1' RS
    go_enter Tryz.func22, Tryz.ntmps22
    go_wp2_with fail
    refine IK.mono ?_
    rintro e w1 ⟨rfl, h⟩
    have h := h.symm
    subst h
    go_wp2
    go_ret
    exact ⟨⟨_, rfl, ⟨rfl, .inl ⟨rfl, rfl⟩⟩⟩, Below.refl _ _⟩
end Go.Proofs.YtccnhdicibjbaaaGreat
namespace Go.Proofs.YtccnhdicibjbaaaGreat
open Go.RowKit
theorem Rd.dropA {w : World} {g : Nat} {a : Option Addr} {k : IntKind} {xs : List Int} (h : Rd w g a k xs) (n : Nat) (hn : n < xs.length) : ∃ o, a = some ⟨g, o, none⟩ ∧ Rd w g (some ⟨g, o + n, none⟩) k (xs.drop n) := by
  obtain ⟨o, rfl, hc⟩ := h (by omega)
  refine ⟨o, rfl, fun _ => ⟨o + n, rfl, fun i hi => ?_⟩⟩
  rw [List.length_drop] at hi
  rw [Nat.add_assoc, hc (n + i) (by omega), List.getD_eq_getElem?_getD, List.getD_eq_getElem?_getD, List.getElem?_drop]
theorem Rd.takeA {w : World} {g : Nat} {a : Option Addr} {k : IntKind} {xs : List Int} (h : Rd w g a k xs) (n : Nat) : Rd w g a k (xs.take n) := fun h0 => by
  rw [List.length_take] at h0
  obtain ⟨o, e, hc⟩ := h (by omega)
  refine ⟨o, e, fun i hi => ?_⟩
  rw [List.length_take] at hi
  rw [hc i (by omega), List.getD_eq_getElem?_getD, List.getD_eq_getElem?_getD, List.getElem?_take, if_pos (by omega)]
end Go.Proofs.YtccnhdicibjbaaaGreat
namespace Go.Proofs.YtccnhdicibjbaaaGreat
open Go Go.RowKit
def Cur (w : World) (p : Nat) (l : Value) (i : Int) : Prop := ∃ t, w.heap[p]? = some (.cells #[l, .int .i64 i] t (0, 0))
theorem Cur.c0 {w : World} {p : Nat} {l : Value} {i : Int} (h : Cur w p l i) : w.cell? ⟨p, 0, none⟩ = some l := by
  obtain ⟨t, h⟩ := h
  simp [World.cell?, h]
theorem Cur.c1 {w : World} {p : Nat} {l : Value} {i : Int} (h : Cur w p l i) : w.cell? ⟨p, 1, none⟩ = some (.int .i64 i) := by
  obtain ⟨t, h⟩ := h
  simp [World.cell?, h]
theorem Cur.f1 {w : World} {p : Nat} {l : Value} {i : Int} (h : Cur w p l i) : w.frozen? ⟨p, 1, none⟩ = false := by
  obtain ⟨t, h⟩ := h
  simp [World.frozen?, h]
theorem Cur.lt {w : World} {p : Nat} {l : Value} {i : Int} (h : Cur w p l i) : p < w.heap.size := by
  obtain ⟨t, h⟩ := h
  exact (Array.getElem?_eq_some_iff.1 h).1
theorem Cur.of_block {w w' : World} {p : Nat} {l : Value} {i : Int} (h : Cur w p l i) (hb : w'.heap[p]? = w.heap[p]?) : Cur w' p l i := by
  obtain ⟨t, h⟩ := h
  exact ⟨t, hb.trans h⟩
theorem Cur.up {w w' : World} {p : Nat} {l : Value} {i : Int} (h : Cur w p l i) (n : Below w.heap.size w w') : Cur w' p l i := h.of_block (n.block p h.lt)
theorem Cur.drew {w : World} {p : Nat} {l : Value} {i : Int} (h : Cur w p l i) (n : Nat) : Cur (w.drewN n) p l i := h
theorem Cur.store {w : World} {p : Nat} {l : Value} {i : Int} (h : Cur w p l i) (j : Int) : Cur (w.setCell ⟨p, 1, none⟩ (.int .i64 j)) p l j := by
  obtain ⟨t, h⟩ := h
  refine ⟨t, ?_⟩
  show (w.heap.modify p _)[p]? = _
  rw [Array.getElem?_modify, if_pos rfl, h]
  rfl
def Tl (w : World) (p : Nat) (x y : Value) : Prop := ∃ t, w.heap[p]? = some (.cells #[x, y] t (0, 0))
theorem Tl.c0 {w : World} {p : Nat} {x y : Value} (h : Tl w p x y) : w.cell? ⟨p, 0, none⟩ = some x := by
  obtain ⟨t, h⟩ := h
  simp [World.cell?, h]
theorem Tl.c1 {w : World} {p : Nat} {x y : Value} (h : Tl w p x y) : w.cell? ⟨p, 1, none⟩ = some y := by
  obtain ⟨t, h⟩ := h
  simp [World.cell?, h]
theorem Tl.fr {w : World} {p : Nat} {x y : Value} (h : Tl w p x y) (i : Nat) : w.frozen? ⟨p, i, none⟩ = false := by
  obtain ⟨t, h⟩ := h
  simp [World.frozen?, h]
theorem Tl.lt {w : World} {p : Nat} {x y : Value} (h : Tl w p x y) : p < w.heap.size := by
  obtain ⟨t, h⟩ := h
  exact (Array.getElem?_eq_some_iff.1 h).1
theorem Tl.of_block {w w' : World} {p : Nat} {x y : Value} (h : Tl w p x y) (hb : w'.heap[p]? = w.heap[p]?) : Tl w' p x y := by
  obtain ⟨t, h⟩ := h
  exact ⟨t, hb.trans h⟩
theorem Tl.up {w w' : World} {p : Nat} {x y : Value} (h : Tl w p x y) (n : Below w.heap.size w w') : Tl w' p x y := h.of_block (n.block p h.lt)
theorem Tl.only {w w' : World} {p q : Nat} {x y : Value} (h : Tl w p x y) (n : Only q w w') (hne : p ≠ q) : Tl w' p x y := h.of_block (n.block p hne)
theorem Tl.new (w : World) (x y : Value) (t : TypeId) : Tl (w.alloc (.cells #[x, y] t)) w.heap.size x y := by
  refine ⟨t, ?_⟩
  show (w.heap.push _)[w.heap.size]? = _
  simp
def Pan (e : Ending) : Prop := ∃ t v, e = .panicked [{ v := .iface t v, recovered := false }]
set_option maxHeartbeats 1000000 in
theorem take_ok (w : World) (p g : Nat) (a : Option Addr) (c : Nat) (xs : List Int) (i : Nat) (hC : Cur w p (.slice a xs.length c) i) (hr : Rd w g a .u8 xs) (hi : i < xs.length) (hn : xs.length ≤ 9223372036854775807) :
    Calls Tryz.prog 88 #[.pointer (some ⟨p, 0, none⟩)] w fun e w' => e = .returned (.int .u8 (xs.getD i 0)) ∧ Cur w' p (.slice a xs.length c) ((i + 1 : Nat) : Int) ∧ Only p w w' := by
  obtain ⟨off, rfl, hc⟩ := hr (by omega)
  have h1 := hc i hi
  have c0 := hC.c0
  have c1 := hC.c1
  have f1 := hC.f1
  have t1 : decide ((i : Int) < 0) = false := by simp
  have t2 : decide ((xs.length : Int) ≤ (i : Int)) = false := by simp; omega
  have t3 : (i : Int) < (xs.length : Int) := by omega
  have K := fun k => hide (show Cur ((w.drewN k).setCell ⟨p, 1, none⟩ (.int .i64 ((i : Int) + 1))) p (.slice (some ⟨g, off, none⟩) xs.length c) ((i + 1 : Nat) : Int) from by have := (hC.drew k).store ((i : Int) + 1); rwa [show ((i : Int) + 1) = ((i + 1 : Nat) : Int) by omega] at this ⊢)
  generalize xs.getD i 0 = x at *
  generalize xs.length = n at *
  clear hc hC
  go_enter Tryz.func88, Tryz.ntmps88
  go_wp2
  go_quiet (fail)
  go_wp2
  go_quiet (fail)
  go_wp2
  go_ret
  exact ⟨rfl, (K _).out, (Only.drewN w p _).trans (Only.setCell _ _ _ _)⟩
set_option maxHeartbeats 1000000 in
theorem take_bad (w : World) (p : Nat) (a : Option Addr) (n c : Nat) (i : Int) (hC : Cur w p (.slice a n c) i) (hi : ¬ (0 ≤ i ∧ i < (n : Int))) :
    Calls Tryz.prog 88 #[.pointer (some ⟨p, 0, none⟩)] w fun e w' => Pan e ∧ Only p w w' := by
  have c0 := hC.c0
  have c1 := hC.c1
  by_cases c2 : i < 0
  · have t1 : decide (i < 0) = true := by simp; omega
    clear hC hi
    go_enter Tryz.func88, Tryz.ntmps88
    go_wp2
    go_quiet (fail)
    go_wp2
    exact ⟨rfl, ⟨_, _, rfl⟩, Only.drewN w p _⟩
  · have t1 : decide (i < 0) = false := by simp; omega
    have t2 : decide ((n : Int) ≤ i) = true := by simp; omega
    clear hC hi
    go_enter Tryz.func88, Tryz.ntmps88
    go_wp2
    go_quiet (fail)
    go_wp2
    exact ⟨rfl, ⟨_, _, rfl⟩, Only.drewN w p _⟩
end Go.Proofs.YtccnhdicibjbaaaGreat
namespace Go.Proofs.YtccnhdicibjbaaaGreat
def svK (b : List Int) : Nat → Int
  | 0 => if 128 ≤ b.getD 0 0 then -1 else 0
  | k + 1 => svK b k * 256 + b.getD k 0
def sv (b : List Int) : Int := svK b b.length
def Bts (x : Int) (L : Nat) : Prop := 0 ≤ x ∧ x < 2 ^ L ∧ (L = 0 ∨ 2 ^ (L - 1) ≤ x)
theorem Bts.le {x : Int} {L k : Nat} (h : Bts x L) (hx : x < 2 ^ k) : L ≤ k := by
  by_cases c : L ≤ k
  · exact c
  · rcases h.2.2 with h0 | h0
    · omega
    · have : (2 : Int) ^ k ≤ 2 ^ (L - 1) := by exact_mod_cast Nat.pow_le_pow_right (by decide) (by omega)
      omega
end Go.Proofs.YtccnhdicibjbaaaGreat
