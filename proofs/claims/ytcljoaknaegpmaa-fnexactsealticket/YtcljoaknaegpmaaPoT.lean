
/-
  The model's OneTime (written by gens/pot.py).
-/
import Derived.Test.YtcljoaknaegpmaaPoS
import Derived.Test.YtcljoaknaegpmaaPoE
import Derived.Test.YtcljoaknaegpmaaSpH
import Derived.Test.YtcljoaknaegpmaaS2
namespace Go.Proofs.Ytcljoaknaegpmaa
open Go Go.RowKit

/-- What OneTime answers. -/
def otA (key data : List Int) : List Int := if key.length = 32 then otB key data else []
/-- The factor, byte by byte. -/
def rl (key : List Int) : List Int := fill (fun j => if j < 16 then cl j (key.getD j 0) else 0) 17
theorem rl_len (key : List Int) : (rl key).length = 17 := fill_len _ _
theorem rl_byt {key : List Int} (h : Byt key) : Byt (rl key) := fill_byt _ _ fun i => by
  show 0 ≤ (if i < 16 then cl i (key.getD i 0) else 0) ∧ (if i < 16 then cl i (key.getD i 0) else 0) < 256
  split
  · exact cl_byt i (h i)
  · decide
theorem rl_val (key : List Int) : lsum (fun j => (rl key).getD j 0) 17 = rv key := by
  unfold rl
  rw [lsum_congr 17 (fun j hj => fill_get (fun j => if j < 16 then cl j (key.getD j 0) else 0) 17 j hj), lsum, if_neg (by decide), rv]
  rw [lsum_congr 16 (fun j hj => if_pos hj)]
  omega
theorem UpN.rl {key zs : List Int} (h : UpN 17 (fun j => cl j (key.getD j 0)) (fun _ => 0) zs 16) : zs = Go.Proofs.Ytcljoaknaegpmaa.rl key := by
  refine eq_of_getD (by rw [h.1, rl_len]) (fun i hi => ?_)
  rw [h.1] at hi
  unfold Go.Proofs.Ytcljoaknaegpmaa.rl
  rw [fill_get _ _ _ hi]
  by_cases c : i < 16
  · rw [h.2.1 i c, if_pos c]
  · rw [h.2.2 i (by omega) hi, if_neg c]
/-- A piece, and the byte behind it, added. -/
theorem add_piece {ss ts ps : List Int} (pl : ps.length ≤ 16) (h : UpN 17 (fun j => ss.getD j 0 + ps.getD j 0) (fun j => ss.getD j 0) ts ps.length) (sb : Byt ss) (pb' : Byt ps) :
    (∀ j, 0 ≤ (ts.set ps.length (ss.getD ps.length 0 + 1)).getD j 0 ∧ (ts.set ps.length (ss.getD ps.length 0 + 1)).getD j 0 ≤ 512) ∧ (ts.set ps.length (ss.getD ps.length 0 + 1)).length = 17 ∧
    lsum (fun j => (ts.set ps.length (ss.getD ps.length 0 + 1)).getD j 0) 17 = lsum (fun j => ss.getD j 0) 17 + pcv ps := by
  have g : ∀ j, j < 17 → (ts.set ps.length (ss.getD ps.length 0 + 1)).getD j 0 = ss.getD j 0 + 1 * (pb ps).getD j 0 := fun j hj => by
    rw [pb_get pl]
    by_cases e : ps.length = j
    · subst e
      rw [getD_set_self _ _ _ (by rw [h.1]; omega), if_neg (by omega), if_pos rfl]; omega
    · rw [getD_set_ne _ _ _ _ e]
      by_cases c : j < ps.length
      · have e1 := h.2.1 j c
        dsimp only at e1
        rw [e1, if_pos c]; omega
      · have e1 := h.2.2 j (by omega) hj
        dsimp only at e1
        rw [e1, if_neg c, if_neg (by omega)]; omega
  refine ⟨fun j => ?_, by rw [List.length_set]; exact h.1, ?_⟩
  · by_cases hj : j < 17
    · rw [g j hj]
      have := sb j
      have := pb_byt pl pb' j
      omega
    · rw [List.getD_eq_getElem?_getD, List.getElem?_eq_none (by rw [List.length_set, h.1]; omega)]; decide
  · rw [lsum_congr 17 g, lsum_lin, pb_val pl]; omega
/-- A number in a row of its own. -/
def Fact.can (v : Int) : Fact := ⟨fun x W => ∃ (ys : List Int) (a : Option Addr) (c g : Nat), x = .slice a ys.length c ∧ Own W g a .u8 ys ∧ (a = none → c = 0) ∧ ys.length ≤ c ∧ Canon ys v, fun h ⟨ys, a, c, g, e, o, p⟩ => ⟨ys, a, c, g, e, o.up h, p⟩⟩
theorem canon_po {ys : List Int} {v : Int} (h : Canon ys v) (h1 : v < 256 ^ 17) : ys.length ≤ 17 := h.len h1

set_option maxRecDepth 100000 in
set_option maxHeartbeats 16000000 in
theorem specOneTime_any (w : World) (gk : Nat) (ak : Option Addr) (ck : Nat) (key : List Int) (hk : Rd w gk ak .u8 key) (kb : Byt key) (kc : key.length ≤ ck)
    (gd : Nat) (ad : Option Addr) (cd : Nat) (data : List Int) (hd : Rd w gd ad .u8 data) (db : Byt data) (dn : data.length ≤ 4194304) :
    Calls Try.prog 56 #[.slice ak key.length ck, .slice ad data.length cd] w fun e w' => NewRow w.heap.size w' e .u8 (otA key data) ∧ Below w.heap.size w w' := by
  by_cases kl : key.length = 32
  · have RS : Hid (otA key data = otB key data) := by show _ = _; unfold otA; rw [if_pos kl]
    rw [RS.out]
    obtain ⟨i0, hi, hz0, hz1, hz2⟩ := info_parts Try.info5
    have KL := hide kl
    have KB := hide kb
    have DB := hide db
    obtain ⟨ok, rfl, hkc⟩ := hk (by omega)
    have k32 : (key.length : Int) = 32 := by omega
    have kcI : (key.length : Int) ≤ (ck : Int) := by omega
    have dnI : (data.length : Int) ≤ 4194304 := by omega
    have B0 := blk_i17 w 91
    have n0 : Below w.heap.size w (w.alloc (.cells #[.int .i64 0, .int .i64 0, .int .i64 0, .int .i64 0, .int .i64 0, .int .i64 0, .int .i64 0, .int .i64 0, .int .i64 0, .int .i64 0, .int .i64 0, .int .i64 0, .int .i64 0, .int .i64 0, .int .i64 0, .int .i64 0, .int .i64 0] 91)) := (Below.refl _ _).alloc (Nat.le_refl _) _
    have z0 : (w.alloc (.cells #[.int .i64 0, .int .i64 0, .int .i64 0, .int .i64 0, .int .i64 0, .int .i64 0, .int .i64 0, .int .i64 0, .int .i64 0, .int .i64 0, .int .i64 0, .int .i64 0, .int .i64 0, .int .i64 0, .int .i64 0, .int .i64 0, .int .i64 0] 91)).heap.size = w.heap.size + 1 := by simp
    clear RS kb db hkc kl
    go_enter Try.func56, Try.ntmps56
    go_upto_region 4 with fail
    generalize w.alloc (.cells #[.int .i64 0, .int .i64 0, .int .i64 0, .int .i64 0, .int .i64 0, .int .i64 0, .int .i64 0, .int .i64 0, .int .i64 0, .int .i64 0, .int .i64 0, .int .i64 0, .int .i64 0, .int .i64 0, .int .i64 0, .int .i64 0, .int .i64 0] 91) = wa at *
    clear k32
    have U0 : UpN 17 (fun j => cl j (key.getD j 0)) (fun _ => 0) (List.replicate 17 0) 0 := ⟨by simp, fun j h => absurd h (by omega), fun j _ hj => by rw [List.getD_eq_getElem?_getD, List.getElem?_replicate, if_pos hj]; rfl⟩
    go_wp2
    go_loopw [6] (fun v wr => ∃ (i : Nat) (zs : List Int), i ≤ 16 ∧ v = .int .i64 i ∧ Hid (UpN 17 (fun j => cl j (key.getD j 0)) (fun _ => 0) zs i) ∧ Blk wr w.heap.size .i64 zs ∧ wr.heap.size = w.heap.size + 1 ∧ Below w.heap.size w wr) (fun v _ => 16 - (intOf v).toNat)
    case atStart => exact ⟨0, _, by omega, rfl, U0, B0, z0, n0⟩
    case round =>
      clear B0 n0 z0 U0
      obtain ⟨i, zs, hi', rfl, hU, hB, hz, hN⟩ := hrel
      by_cases hlt : i < 16
      · have R := hide (hU.out.step (show i < 17 by omega))
        obtain ⟨o', eo, hkc⟩ := (hk.up hN) (by have := KL.out; omega)
        simp only [Option.some.injEq, Addr.mk.injEq, true_and, and_true] at eo
        subst eo
        have cx := hkc i (by have := KL.out; omega)
        have kbi := KB.out i
        have cz := hB.cell (i := i) (by rw [hU.out.1]; omega)
        have fz := hB.free i
        have S1 := fun x => hB.store i x
        have zl := hU.out.1
        have O := fun x => Only.setCell wr w.heap.size i x
        have d1 : (i : Int) < (key.length : Int) := by have := KL.out; omega
        clear hU hkc KL KB DB
        generalize key.getD i 0 = x at *
        rcases (show i = 0 ∨ i = 1 ∨ i = 2 ∨ i = 3 ∨ i = 4 ∨ i = 5 ∨ i = 6 ∨ i = 7 ∨ i = 8 ∨ i = 9 ∨ i = 10 ∨ i = 11 ∨ i = 12 ∨ i = 13 ∨ i = 14 ∨ i = 15 by omega) with rfl | rfl | rfl | rfl | rfl | rfl | rfl | rfl | rfl | rfl | rfl | rfl | rfl | rfl | rfl | rfl
        · have E : Hid (cl 0 x = x) := rfl
          try rw [Nat.add_zero] at cx
          have S2 := S1 x
          have O2 := O (.int .i64 x)
          rw [E.out] at R
          have Sz := O2.size.trans hz
          have Sn := hN.trans (O2.below (B := w.heap.size) (by omega))
          clear S1 O O2 E hB hz hN
          generalize zs.set 0 x = zs' at *
          go_wp2
          go_roundw
          case rel => exact ⟨0 + 1, zs', by omega, by go_num, R, S2, Sz, Sn⟩
          case measure => simp [intOf]
        · have E : Hid (cl 1 x = x) := rfl
          try rw [Nat.add_zero] at cx
          have S2 := S1 x
          have O2 := O (.int .i64 x)
          rw [E.out] at R
          have Sz := O2.size.trans hz
          have Sn := hN.trans (O2.below (B := w.heap.size) (by omega))
          clear S1 O O2 E hB hz hN
          generalize zs.set 1 x = zs' at *
          go_wp2
          go_roundw
          case rel => exact ⟨1 + 1, zs', by omega, by go_num, R, S2, Sz, Sn⟩
          case measure => simp [intOf]
        · have E : Hid (cl 2 x = x) := rfl
          try rw [Nat.add_zero] at cx
          have S2 := S1 x
          have O2 := O (.int .i64 x)
          rw [E.out] at R
          have Sz := O2.size.trans hz
          have Sn := hN.trans (O2.below (B := w.heap.size) (by omega))
          clear S1 O O2 E hB hz hN
          generalize zs.set 2 x = zs' at *
          go_wp2
          go_roundw
          case rel => exact ⟨2 + 1, zs', by omega, by go_num, R, S2, Sz, Sn⟩
          case measure => simp [intOf]
        · have E : Hid (cl 3 x = x % 16) := rfl
          have S2 := (S1 x).store 3 (x % 16)
          rw [List.set_set] at S2
          have c2 := (S1 x).cell (i := 3) (by rw [List.length_set, zl]; omega)
          rw [getD_set_self _ _ _ (by rw [zl]; omega)] at c2
          have f2 := (S1 x).free 3
          have O2 := (O (.int .i64 x)).trans (Only.setCell _ w.heap.size 3 (.int .i64 (x % 16)))
          rw [E.out] at R
          have Sz := O2.size.trans hz
          have Sn := hN.trans (O2.below (B := w.heap.size) (by omega))
          have t1 : x.tmod 16 = x % 16 := Int.tmod_eq_emod_of_nonneg (by omega)
          clear S1 O O2 E hB hz hN
          generalize zs.set 3 (x % 16) = zs' at *
          go_wp2
          go_roundw
          case rel => exact ⟨3 + 1, zs', by omega, by go_num, R, S2, Sz, Sn⟩
          case measure => simp [intOf]
        · have E : Hid (cl 4 x = x - x % 4) := rfl
          have S2 := (S1 x).store 4 (x - x % 4)
          rw [List.set_set] at S2
          have c2 := (S1 x).cell (i := 4) (by rw [List.length_set, zl]; omega)
          rw [getD_set_self _ _ _ (by rw [zl]; omega)] at c2
          have f2 := (S1 x).free 4
          have O2 := (O (.int .i64 x)).trans (Only.setCell _ w.heap.size 4 (.int .i64 (x - x % 4)))
          rw [E.out] at R
          have Sz := O2.size.trans hz
          have Sn := hN.trans (O2.below (B := w.heap.size) (by omega))
          have t1 : x.tmod 4 = x % 4 := Int.tmod_eq_emod_of_nonneg (by omega)
          clear S1 O O2 E hB hz hN
          generalize zs.set 4 (x - x % 4) = zs' at *
          go_wp2
          go_region
          all_goals
            go_wp2
            go_roundw
            case rel => exact ⟨4 + 1, zs', by omega, by go_num, R, S2.drew, Sz, Sn.drew⟩
            case measure => simp [intOf]
        · have E : Hid (cl 5 x = x) := rfl
          try rw [Nat.add_zero] at cx
          have S2 := S1 x
          have O2 := O (.int .i64 x)
          rw [E.out] at R
          have Sz := O2.size.trans hz
          have Sn := hN.trans (O2.below (B := w.heap.size) (by omega))
          clear S1 O O2 E hB hz hN
          generalize zs.set 5 x = zs' at *
          go_wp2
          go_roundw
          case rel => exact ⟨5 + 1, zs', by omega, by go_num, R, S2, Sz, Sn⟩
          case measure => simp [intOf]
        · have E : Hid (cl 6 x = x) := rfl
          try rw [Nat.add_zero] at cx
          have S2 := S1 x
          have O2 := O (.int .i64 x)
          rw [E.out] at R
          have Sz := O2.size.trans hz
          have Sn := hN.trans (O2.below (B := w.heap.size) (by omega))
          clear S1 O O2 E hB hz hN
          generalize zs.set 6 x = zs' at *
          go_wp2
          go_roundw
          case rel => exact ⟨6 + 1, zs', by omega, by go_num, R, S2, Sz, Sn⟩
          case measure => simp [intOf]
        · have E : Hid (cl 7 x = x % 16) := rfl
          have S2 := (S1 x).store 7 (x % 16)
          rw [List.set_set] at S2
          have c2 := (S1 x).cell (i := 7) (by rw [List.length_set, zl]; omega)
          rw [getD_set_self _ _ _ (by rw [zl]; omega)] at c2
          have f2 := (S1 x).free 7
          have O2 := (O (.int .i64 x)).trans (Only.setCell _ w.heap.size 7 (.int .i64 (x % 16)))
          rw [E.out] at R
          have Sz := O2.size.trans hz
          have Sn := hN.trans (O2.below (B := w.heap.size) (by omega))
          have t1 : x.tmod 16 = x % 16 := Int.tmod_eq_emod_of_nonneg (by omega)
          clear S1 O O2 E hB hz hN
          generalize zs.set 7 (x % 16) = zs' at *
          go_wp2
          go_roundw
          case rel => exact ⟨7 + 1, zs', by omega, by go_num, R, S2, Sz, Sn⟩
          case measure => simp [intOf]
        · have E : Hid (cl 8 x = x - x % 4) := rfl
          have S2 := (S1 x).store 8 (x - x % 4)
          rw [List.set_set] at S2
          have c2 := (S1 x).cell (i := 8) (by rw [List.length_set, zl]; omega)
          rw [getD_set_self _ _ _ (by rw [zl]; omega)] at c2
          have f2 := (S1 x).free 8
          have O2 := (O (.int .i64 x)).trans (Only.setCell _ w.heap.size 8 (.int .i64 (x - x % 4)))
          rw [E.out] at R
          have Sz := O2.size.trans hz
          have Sn := hN.trans (O2.below (B := w.heap.size) (by omega))
          have t1 : x.tmod 4 = x % 4 := Int.tmod_eq_emod_of_nonneg (by omega)
          clear S1 O O2 E hB hz hN
          generalize zs.set 8 (x - x % 4) = zs' at *
          go_wp2
          go_region
          all_goals
            go_wp2
            go_roundw
            case rel => exact ⟨8 + 1, zs', by omega, by go_num, R, S2.drew, Sz, Sn.drew⟩
            case measure => simp [intOf]
        · have E : Hid (cl 9 x = x) := rfl
          try rw [Nat.add_zero] at cx
          have S2 := S1 x
          have O2 := O (.int .i64 x)
          rw [E.out] at R
          have Sz := O2.size.trans hz
          have Sn := hN.trans (O2.below (B := w.heap.size) (by omega))
          clear S1 O O2 E hB hz hN
          generalize zs.set 9 x = zs' at *
          go_wp2
          go_roundw
          case rel => exact ⟨9 + 1, zs', by omega, by go_num, R, S2, Sz, Sn⟩
          case measure => simp [intOf]
        · have E : Hid (cl 10 x = x) := rfl
          try rw [Nat.add_zero] at cx
          have S2 := S1 x
          have O2 := O (.int .i64 x)
          rw [E.out] at R
          have Sz := O2.size.trans hz
          have Sn := hN.trans (O2.below (B := w.heap.size) (by omega))
          clear S1 O O2 E hB hz hN
          generalize zs.set 10 x = zs' at *
          go_wp2
          go_roundw
          case rel => exact ⟨10 + 1, zs', by omega, by go_num, R, S2, Sz, Sn⟩
          case measure => simp [intOf]
        · have E : Hid (cl 11 x = x % 16) := rfl
          have S2 := (S1 x).store 11 (x % 16)
          rw [List.set_set] at S2
          have c2 := (S1 x).cell (i := 11) (by rw [List.length_set, zl]; omega)
          rw [getD_set_self _ _ _ (by rw [zl]; omega)] at c2
          have f2 := (S1 x).free 11
          have O2 := (O (.int .i64 x)).trans (Only.setCell _ w.heap.size 11 (.int .i64 (x % 16)))
          rw [E.out] at R
          have Sz := O2.size.trans hz
          have Sn := hN.trans (O2.below (B := w.heap.size) (by omega))
          have t1 : x.tmod 16 = x % 16 := Int.tmod_eq_emod_of_nonneg (by omega)
          clear S1 O O2 E hB hz hN
          generalize zs.set 11 (x % 16) = zs' at *
          go_wp2
          go_roundw
          case rel => exact ⟨11 + 1, zs', by omega, by go_num, R, S2, Sz, Sn⟩
          case measure => simp [intOf]
        · have E : Hid (cl 12 x = x - x % 4) := rfl
          have S2 := (S1 x).store 12 (x - x % 4)
          rw [List.set_set] at S2
          have c2 := (S1 x).cell (i := 12) (by rw [List.length_set, zl]; omega)
          rw [getD_set_self _ _ _ (by rw [zl]; omega)] at c2
          have f2 := (S1 x).free 12
          have O2 := (O (.int .i64 x)).trans (Only.setCell _ w.heap.size 12 (.int .i64 (x - x % 4)))
          rw [E.out] at R
          have Sz := O2.size.trans hz
          have Sn := hN.trans (O2.below (B := w.heap.size) (by omega))
          have t1 : x.tmod 4 = x % 4 := Int.tmod_eq_emod_of_nonneg (by omega)
          clear S1 O O2 E hB hz hN
          generalize zs.set 12 (x - x % 4) = zs' at *
          go_wp2
          go_region
          all_goals
            go_wp2
            go_roundw
            case rel => exact ⟨12 + 1, zs', by omega, by go_num, R, S2.drew, Sz, Sn.drew⟩
            case measure => simp [intOf]
        · have E : Hid (cl 13 x = x) := rfl
          try rw [Nat.add_zero] at cx
          have S2 := S1 x
          have O2 := O (.int .i64 x)
          rw [E.out] at R
          have Sz := O2.size.trans hz
          have Sn := hN.trans (O2.below (B := w.heap.size) (by omega))
          clear S1 O O2 E hB hz hN
          generalize zs.set 13 x = zs' at *
          go_wp2
          go_roundw
          case rel => exact ⟨13 + 1, zs', by omega, by go_num, R, S2, Sz, Sn⟩
          case measure => simp [intOf]
        · have E : Hid (cl 14 x = x) := rfl
          try rw [Nat.add_zero] at cx
          have S2 := S1 x
          have O2 := O (.int .i64 x)
          rw [E.out] at R
          have Sz := O2.size.trans hz
          have Sn := hN.trans (O2.below (B := w.heap.size) (by omega))
          clear S1 O O2 E hB hz hN
          generalize zs.set 14 x = zs' at *
          go_wp2
          go_roundw
          case rel => exact ⟨14 + 1, zs', by omega, by go_num, R, S2, Sz, Sn⟩
          case measure => simp [intOf]
        · have E : Hid (cl 15 x = x % 16) := rfl
          have S2 := (S1 x).store 15 (x % 16)
          rw [List.set_set] at S2
          have c2 := (S1 x).cell (i := 15) (by rw [List.length_set, zl]; omega)
          rw [getD_set_self _ _ _ (by rw [zl]; omega)] at c2
          have f2 := (S1 x).free 15
          have O2 := (O (.int .i64 x)).trans (Only.setCell _ w.heap.size 15 (.int .i64 (x % 16)))
          rw [E.out] at R
          have Sz := O2.size.trans hz
          have Sn := hN.trans (O2.below (B := w.heap.size) (by omega))
          have t1 : x.tmod 16 = x % 16 := Int.tmod_eq_emod_of_nonneg (by omega)
          clear S1 O O2 E hB hz hN
          generalize zs.set 15 (x % 16) = zs' at *
          go_wp2
          go_roundw
          case rel => exact ⟨15 + 1, zs', by omega, by go_num, R, S2, Sz, Sn⟩
          case measure => simp [intOf]
      · obtain rfl : i = 16 := by omega
        have RL := hide hU.out.rl
        rw [RL.out] at hB
        clear hU hlt hi' RL
        have B1 := blk_i17 wr 91
        have n1 : Below wr.heap.size wr (wr.alloc (.cells #[.int .i64 0, .int .i64 0, .int .i64 0, .int .i64 0, .int .i64 0, .int .i64 0, .int .i64 0, .int .i64 0, .int .i64 0, .int .i64 0, .int .i64 0, .int .i64 0, .int .i64 0, .int .i64 0, .int .i64 0, .int .i64 0, .int .i64 0] 91)) := (Below.refl _ _).alloc (Nat.le_refl _) _
        rw [hz] at B1
        have hB' := hB.up n1
        have N1 := hN.trans (n1.mono hN.size)
        clear hB hN
        go_wp2
        try rw [hz]
        simp only [Int.cast_ofNat_Int]
        generalize wr.alloc (.cells #[.int .i64 0, .int .i64 0, .int .i64 0, .int .i64 0, .int .i64 0, .int .i64 0, .int .i64 0, .int .i64 0, .int .i64 0, .int .i64 0, .int .i64 0, .int .i64 0, .int .i64 0, .int .i64 0, .int .i64 0, .int .i64 0, .int .i64 0] 91) = wb at *
        clear n1 hz
        have RLL := hide (rl_len key)
        have RLB := hide (rl_byt KB.out)
        have RLV := hide (rl_val key)
        generalize rl key = fr at *
        go_loopw [8] (fun v wr => ∃ (k : Nat) (ss : List Int), 16 * k < data.length + 16 ∧ v = .int .i64 ((16 * k : Nat) : Int) ∧ Hid (ss.length = 17 ∧ Byt ss ∧ lsum (fun j => ss.getD j 0) 17 % PO = pv (rv key) data k % PO) ∧ Blk wr (w.heap.size + 1) .i64 ss ∧ Blk wr w.heap.size .i64 fr ∧ Below w.heap.size w wr) (fun v _ => data.length + 16 - (intOf v).toNat)
        case atStart =>
          refine ⟨0, _, by omega, rfl, ⟨by simp, fun i => ?_, ?_⟩, B1, hB', N1⟩
          · rw [List.getD_eq_getElem?_getD, List.getElem?_replicate]; split <;> decide
          · have : lsum (fun j => (List.replicate 17 (0 : Int)).getD j 0) 17 = 0 := by decide +kernel
            rw [this]; rfl
        case round =>
          clear B1 hB' N1
          obtain ⟨k, ss, hk16, rfl, hS, hB1, hB0, hN⟩ := hrel
          by_cases hlt : 16 * k < data.length
          · obtain ⟨pe, hpe⟩ : ∃ e, e = pcL16 data.length k := ⟨_, rfl⟩
            have pe1 : pe ≤ 16 := by rw [hpe]; unfold pcL16; omega
            have pe2 : 16 * k + pe ≤ data.length := by rw [hpe]; unfold pcL16; omega
            have pe3 : decide (((16 * k : Nat) : Int) + 16 > (data.length : Int)) = true → pe = data.length - 16 * k := fun h => by rw [hpe]; unfold pcL16; simp at h; omega
            have pe4 : decide (((16 * k : Nat) : Int) + 16 > (data.length : Int)) = false → pe = 16 := fun h => by rw [hpe]; unfold pcL16; simp at h; omega
            have PL : Hid (((data.drop (16 * k)).take 16).length = pe) := by show _ = _; rw [hpe, List.length_take, List.length_drop]; unfold pcL16; rfl
            have PB := hide (byt_part DB.out (16 * k) 16)
            have PG : Hid (∀ j, j < 16 → ((data.drop (16 * k)).take 16).getD j 0 = data.getD (16 * k + j) 0) := fun j hj => part_get data (16 * k) 16 j hj
            have PV : Hid (pv (rv key) data (k + 1) = (pv (rv key) data k + pcv ((data.drop (16 * k)).take 16)) * rv key % PO) := rfl
            obtain ⟨ps, hps⟩ : ∃ p, p = (data.drop (16 * k)).take 16 := ⟨_, rfl⟩
            rw [← hps] at PL PB PG PV
            clear hps hpe
            have ad' := off_of hd (show 0 < data.length by omega)
            have hc' : ∀ W, Below w.heap.size w W → ∀ j, j < data.length → W.cell? ⟨gd, offOf ad + j, none⟩ = some (.int .u8 (data.getD j 0)) := fun W n j hj => by
              obtain ⟨o', e', hcc⟩ := (hd.up n) (by omega)
              have : offOf ad = o' := by rw [e']; rfl
              rw [this]
              exact hcc j hj
            have U0 : UpN 17 (fun j => ss.getD j 0 + ps.getD j 0) (fun j => ss.getD j 0) ss 0 := ⟨hS.out.1, fun j h => absurd h (by omega), fun j _ _ => rfl⟩
            generalize hoa : offOf ad = oa at *
            subst ad'
            clear hoa
            have g16 : ((16 * k : Nat) : Int) < (data.length : Int) := by omega
            have m1 : ((data.length : Int) - ((16 * k : Nat) : Int)) = ((data.length - 16 * k : Nat) : Int) := by omega
            have SB : ∀ j, Hid (0 ≤ ss.getD j 0 ∧ ss.getD j 0 < 256) := fun j => hS.out.2.1 j
            generalize h16 : 16 * k = s16 at *
            have H16 := hide h16
            clear h16
            have HN := hide hN
            have HS := hide hS
            have HB1 := hide hB1
            have HB0 := hide hB0
            have HC := hide hc'
            clear hN hB1 hB0 hc' hS
            have lt16 : (s16 : Int) < 4194304 := by omega
            have w16 : IntKind.i64.wrap ((s16 : Int) + 16) = (s16 : Int) + 16 := by rw [IntKind.wrap_i64]; omega
            by_cases h17 : data.length < s16 + 16
            · obtain rfl : pe = data.length - s16 := pe3 (by simp; omega)
              generalize data.length - s16 = pe at *
              have t17 : decide ((s16 : Int) + 16 > (data.length : Int)) = true := by simp; omega
              have t18 : (data.length : Int) < (s16 : Int) + 16 := by omega
              clear pe3 pe4 h17
              go_wp2
              go_loopw [10] (fun v wq => ∃ (i : Nat) (ts : List Int), i ≤ pe ∧ v = .int .i64 i ∧ Hid (UpN 17 (fun j => ss.getD j 0 + ps.getD j 0) (fun j => ss.getD j 0) ts i) ∧ Blk wq (w.heap.size + 1) .i64 ts ∧ Blk wq w.heap.size .i64 fr ∧ Below w.heap.size w wq) (fun v _ => pe - (intOf v).toNat)
              case atStart => exact ⟨0, ss, by omega, rfl, U0, HB1.out, HB0.out, HN.out⟩
              case round =>
                clear U0 HB1 HB0 HN
                obtain ⟨i, ts, hi', rfl, hU, hB1, hB0, hN⟩ := hrel
                by_cases ilt : i < pe
                · have R := hide (hU.out.step (show i < 17 by omega))
                  have c1 := hB1.cell (i := i) (by rw [hU.out.1]; omega)
                  rw [hU.out.2.2 i (Nat.le_refl _) (by omega)] at c1
                  dsimp only at c1
                  have f1 := hB1.free i
                  have cd1 := HC.out wr hN (s16 + i) (by omega)
                  rw [← PG.out i (by omega)] at cd1
                  have sb := (SB i).out
                  have pbi := PB.out i
                  have S1 := hB1.store i (ss.getD i 0 + ps.getD i 0)
                  have O := Only.setCell wr (w.heap.size + 1) i (.int .i64 (ss.getD i 0 + ps.getD i 0))
                  have S0 := hB0.of_block (O.block _ (by omega))
                  have Sn := hN.trans (O.below (B := w.heap.size) (by omega))
                  have d1 : (s16 : Int) + (i : Int) = ((s16 + i : Nat) : Int) := by omega
                  have d2 : ((s16 + i : Nat) : Int) < (data.length : Int) := by omega
                  have d3 : (i : Int) < 17 := by omega
                  have d4 : (i : Int) < (pe : Int) := by omega
                  have d5 : ((s16 + i : Nat) : Int) < 4194304 := by omega
                  have d6 : IntKind.i64.wrap ((s16 + i : Nat) : Int) = ((s16 + i : Nat) : Int) := by rw [IntKind.wrap_i64]; omega
                  clear hU hB1 hB0 hN O HC PG PB SB HS PV PL RLL RLB RLV DB KB KL
                  generalize ss.getD i 0 = x at *
                  generalize ps.getD i 0 = y at *
                  generalize ts.set i (x + y) = ts' at *
                  generalize s16 + i = si at *
                  obtain ⟨sb0, sb1⟩ := sb
                  obtain ⟨pb0, pb1⟩ := pbi
                  go_wp2
                  go_region
                  all_goals
                    go_wp2
                    go_roundw
                    case rel => exact ⟨i + 1, ts', by omega, by go_num, R, S1.drew, S0.drew, Sn.drew⟩
                    case measure => simp [intOf]; omega
                · obtain rfl : pe = i := by omega
                  have AP := add_piece (ss := ss) (ts := ts) (ps := ps) (by rw [PL.out]; omega) (by rw [PL.out]; exact hU.out) (fun j => (SB j).out) PB.out
                  rw [PL.out] at AP
                  obtain ⟨ap1, ap2, ap3⟩ := AP
                  have c1 := hB1.cell (i := pe) (by rw [hU.out.1]; omega)
                  rw [hU.out.2.2 pe (Nat.le_refl _) (by omega)] at c1
                  dsimp only at c1
                  have f1 := hB1.free pe
                  have sb := (SB pe).out
                  have S1 := hB1.store pe (ss.getD pe 0 + 1)
                  have O := Only.setCell wr (w.heap.size + 1) pe (.int .i64 (ss.getD pe 0 + 1))
                  have S0 := hB0.of_block (O.block _ (by omega))
                  have Sn := hN.trans (O.below (B := w.heap.size) (by omega))
                  have d3 : ((pe : Int) : Int) < 17 := by omega
                  have L1 : Hid (((ts.set pe (ss.getD pe 0 + 1)).map (Value.int .i64)).length = 17) := by show _ = _; rw [List.length_map]; exact ap2
                  have L4 : Hid (((ts.set pe (ss.getD pe 0 + 1)).map (Value.int .i64)).length = 17) := by show _ = _; rw [List.length_map]; exact ap2
                  have L2 : Hid ((fr.map (Value.int .i64)).length = 17) := by show _ = _; rw [List.length_map]; exact RLL.out
                  have TI := fun W => hide (l8Times_any W (ts.set pe (ss.getD pe 0 + 1)) fr ap2 RLL.out ap1 RLB.out)
                  have AP3 := hide ap3
                  clear hU hB1 hB0 hN O ap1 ap2 ap3
                  generalize ts.set pe (ss.getD pe 0 + 1) = vs at *
                  generalize ss.getD pe 0 = x at *
                  go_upto_region 24 with fail
                  generalize wr.setCell ⟨w.heap.size + 1, pe, none⟩ (.int .i64 (x + 1)) = wz at *
                  have RG1 := (Seg.blk S1).range
                  have RG2 := (Seg.blk S0).range
                  have V1 : Hid (ag .i64 vs = Value.agg (vs.map (Value.int .i64)).toArray) := rfl
                  have V2 : Hid (ag .i64 fr = Value.agg (fr.map (Value.int .i64)).toArray) := rfl
                  simp only [V1.out, V2.out] at TI
                  obtain ⟨v1, hv1⟩ : ∃ v, v = vs.map (Value.int .i64) := ⟨_, rfl⟩
                  obtain ⟨v2, hv2⟩ : ∃ v, v = fr.map (Value.int .i64) := ⟨_, rfl⟩
                  rw [← hv1] at L1 RG1
                  rw [← hv2] at L2 RG2
                  simp only [← hv1, ← hv2] at TI
                  clear hv1 hv2 V1 V2 c1 f1
                  go_wp2_with (first
                    | (refine wpList_load_mid rfl 91 (.tmp 7) rfl (w.heap.size + 1) 0 rfl v1 (.array 17 2) RG1 undL rfl (by rw [L1.out]; exact infoL) ?_)
                    | (refine wpList_load_mid rfl 91 (.tmp 5) rfl w.heap.size 0 rfl v2 (.array 17 2) RG2 undL rfl (by rw [L2.out]; exact infoL) ?_))
                  refine (TI wz).out.mono ?_
                  rintro e wy ⟨rs, rfl, hR, ny⟩
                  have HR := hide hR
                  have L3 : Hid ((rs.map (Value.int .i64)).length = 17) := by show _ = _; rw [List.length_map]; exact hR.1
                  clear hR
                  have O5 := one_ints .i64 rs
                  obtain ⟨t5, H5⟩ := S1.up ny
                  have SR := blk_setRow (k := .i64) (zs := rs) ⟨t5, H5⟩
                  have OR := only_setRow wy (w.heap.size + 1) (rs.map (Value.int .i64)).toArray
                  have S0' := (S0.up ny).of_block (OR.block w.heap.size (by omega))
                  have Sn' := (Sn.trans (ny.mono Sn.size)).trans (OR.below (B := w.heap.size) (by omega))
                  have V3 : Hid (ag .i64 rs = Value.agg (rs.map (Value.int .i64)).toArray) := rfl
                  rw [V3.out]
                  obtain ⟨v3, hv3⟩ : ∃ v, v = rs.map (Value.int .i64) := ⟨_, rfl⟩
                  rw [← hv3] at L3 O5 SR OR S0' Sn' ⊢
                  have FIN : Hid (rs.length = 17 ∧ Byt rs ∧ lsum (fun j => rs.getD j 0) 17 % PO = pv (rv key) data (k + 1) % PO) := by
                    refine ⟨HR.out.1, HR.out.2.1, ?_⟩
                    rw [HR.out.2.2, AP3.out, RLV.out, PV.out, Int.emod_emod, Int.mul_emod, Int.add_emod, HS.out.out.2.2, ← Int.add_emod, ← Int.mul_emod]
                  have N16 : Hid (((16 * (k + 1) : Nat) : Int) = (s16 : Int) + 16) := by show _ = _; have := H16.out; omega
                  have N17 : Hid (16 * (k + 1) < data.length + 16) := by show _ < _; have := H16.out; omega
                  clear hv3 V3 TI RG1 RG2 S1 S0 Sn ny HR AP3 L1 L2 HS PV RLV
                  go_wp2_with (refine wpList_store_row rfl 91 (.tmp 7) (.tmp 101) rfl (w.heap.size + 1) v3.toArray rfl rfl t5 _ H5 (by rw [List.size_toArray, L3.out]; exact infoL) (by rw [List.size_toArray, List.size_toArray, L3.out, L4.out]) O5 ?_)
                  go_roundw
                  case rel => exact ⟨k + 1, rs, N17.out, by rw [N16.out], FIN, SR, S0', Sn'⟩
                  case measure => have := H16.out; simp [intOf]; omega
            · obtain rfl : pe = 16 := pe4 (by simp; omega)
              have t17 : decide ((s16 : Int) + 16 > (data.length : Int)) = false := by simp; omega
              have t18 : ¬ (data.length : Int) < (s16 : Int) + 16 := by omega
              clear pe3 pe4 h17
              go_wp2
              go_loopw [10] (fun v wq => ∃ (i : Nat) (ts : List Int), i ≤ 16 ∧ v = .int .i64 i ∧ Hid (UpN 17 (fun j => ss.getD j 0 + ps.getD j 0) (fun j => ss.getD j 0) ts i) ∧ Blk wq (w.heap.size + 1) .i64 ts ∧ Blk wq w.heap.size .i64 fr ∧ Below w.heap.size w wq) (fun v _ => 16 - (intOf v).toNat)
              case atStart => exact ⟨0, ss, by omega, rfl, U0, HB1.out, HB0.out, HN.out⟩
              case round =>
                clear U0 HB1 HB0 HN
                obtain ⟨i, ts, hi', rfl, hU, hB1, hB0, hN⟩ := hrel
                by_cases ilt : i < 16
                · have R := hide (hU.out.step (show i < 17 by omega))
                  have c1 := hB1.cell (i := i) (by rw [hU.out.1]; omega)
                  rw [hU.out.2.2 i (Nat.le_refl _) (by omega)] at c1
                  dsimp only at c1
                  have f1 := hB1.free i
                  have cd1 := HC.out wr hN (s16 + i) (by omega)
                  rw [← PG.out i (by omega)] at cd1
                  have sb := (SB i).out
                  have pbi := PB.out i
                  have S1 := hB1.store i (ss.getD i 0 + ps.getD i 0)
                  have O := Only.setCell wr (w.heap.size + 1) i (.int .i64 (ss.getD i 0 + ps.getD i 0))
                  have S0 := hB0.of_block (O.block _ (by omega))
                  have Sn := hN.trans (O.below (B := w.heap.size) (by omega))
                  have d1 : (s16 : Int) + (i : Int) = ((s16 + i : Nat) : Int) := by omega
                  have d2 : ((s16 + i : Nat) : Int) < (data.length : Int) := by omega
                  have d3 : (i : Int) < 17 := by omega
                  have d4 : (i : Int) < 16 := by omega
                  have d5 : ((s16 + i : Nat) : Int) < 4194304 := by omega
                  have d6 : IntKind.i64.wrap ((s16 + i : Nat) : Int) = ((s16 + i : Nat) : Int) := by rw [IntKind.wrap_i64]; omega
                  clear hU hB1 hB0 hN O HC PG PB SB HS PV PL RLL RLB RLV DB KB KL
                  generalize ss.getD i 0 = x at *
                  generalize ps.getD i 0 = y at *
                  generalize ts.set i (x + y) = ts' at *
                  generalize s16 + i = si at *
                  obtain ⟨sb0, sb1⟩ := sb
                  obtain ⟨pb0, pb1⟩ := pbi
                  go_wp2
                  go_region
                  all_goals
                    go_wp2
                    go_roundw
                    case rel => exact ⟨i + 1, ts', by omega, by go_num, R, S1.drew, S0.drew, Sn.drew⟩
                    case measure => simp [intOf]; omega
                · obtain rfl : i = 16 := by omega
                  have AP := add_piece (ss := ss) (ts := ts) (ps := ps) (by rw [PL.out]; omega) (by rw [PL.out]; exact hU.out) (fun j => (SB j).out) PB.out
                  rw [PL.out] at AP
                  obtain ⟨ap1, ap2, ap3⟩ := AP
                  have c1 := hB1.cell (i := 16) (by rw [hU.out.1]; omega)
                  rw [hU.out.2.2 16 (Nat.le_refl _) (by omega)] at c1
                  dsimp only at c1
                  have f1 := hB1.free 16
                  have sb := (SB 16).out
                  have S1 := hB1.store 16 (ss.getD 16 0 + 1)
                  have O := Only.setCell wr (w.heap.size + 1) 16 (.int .i64 (ss.getD 16 0 + 1))
                  have S0 := hB0.of_block (O.block _ (by omega))
                  have Sn := hN.trans (O.below (B := w.heap.size) (by omega))
                  have d3 : (16 : Int) < 17 := by omega
                  have L1 : Hid (((ts.set 16 (ss.getD 16 0 + 1)).map (Value.int .i64)).length = 17) := by show _ = _; rw [List.length_map]; exact ap2
                  have L4 : Hid (((ts.set 16 (ss.getD 16 0 + 1)).map (Value.int .i64)).length = 17) := by show _ = _; rw [List.length_map]; exact ap2
                  have L2 : Hid ((fr.map (Value.int .i64)).length = 17) := by show _ = _; rw [List.length_map]; exact RLL.out
                  have TI := fun W => hide (l8Times_any W (ts.set 16 (ss.getD 16 0 + 1)) fr ap2 RLL.out ap1 RLB.out)
                  have AP3 := hide ap3
                  clear hU hB1 hB0 hN O ap1 ap2 ap3
                  generalize ts.set 16 (ss.getD 16 0 + 1) = vs at *
                  generalize ss.getD 16 0 = x at *
                  go_upto_region 24 with fail
                  generalize wr.setCell ⟨w.heap.size + 1, 16, none⟩ (.int .i64 (x + 1)) = wz at *
                  have RG1 := (Seg.blk S1).range
                  have RG2 := (Seg.blk S0).range
                  have V1 : Hid (ag .i64 vs = Value.agg (vs.map (Value.int .i64)).toArray) := rfl
                  have V2 : Hid (ag .i64 fr = Value.agg (fr.map (Value.int .i64)).toArray) := rfl
                  simp only [V1.out, V2.out] at TI
                  obtain ⟨v1, hv1⟩ : ∃ v, v = vs.map (Value.int .i64) := ⟨_, rfl⟩
                  obtain ⟨v2, hv2⟩ : ∃ v, v = fr.map (Value.int .i64) := ⟨_, rfl⟩
                  rw [← hv1] at L1 RG1
                  rw [← hv2] at L2 RG2
                  simp only [← hv1, ← hv2] at TI
                  clear hv1 hv2 V1 V2 c1 f1
                  go_wp2_with (first
                    | (refine wpList_load_mid rfl 91 (.tmp 7) rfl (w.heap.size + 1) 0 rfl v1 (.array 17 2) RG1 undL rfl (by rw [L1.out]; exact infoL) ?_)
                    | (refine wpList_load_mid rfl 91 (.tmp 5) rfl w.heap.size 0 rfl v2 (.array 17 2) RG2 undL rfl (by rw [L2.out]; exact infoL) ?_))
                  refine (TI wz).out.mono ?_
                  rintro e wy ⟨rs, rfl, hR, ny⟩
                  have HR := hide hR
                  have L3 : Hid ((rs.map (Value.int .i64)).length = 17) := by show _ = _; rw [List.length_map]; exact hR.1
                  clear hR
                  have O5 := one_ints .i64 rs
                  obtain ⟨t5, H5⟩ := S1.up ny
                  have SR := blk_setRow (k := .i64) (zs := rs) ⟨t5, H5⟩
                  have OR := only_setRow wy (w.heap.size + 1) (rs.map (Value.int .i64)).toArray
                  have S0' := (S0.up ny).of_block (OR.block w.heap.size (by omega))
                  have Sn' := (Sn.trans (ny.mono Sn.size)).trans (OR.below (B := w.heap.size) (by omega))
                  have V3 : Hid (ag .i64 rs = Value.agg (rs.map (Value.int .i64)).toArray) := rfl
                  rw [V3.out]
                  obtain ⟨v3, hv3⟩ : ∃ v, v = rs.map (Value.int .i64) := ⟨_, rfl⟩
                  rw [← hv3] at L3 O5 SR OR S0' Sn' ⊢
                  have FIN : Hid (rs.length = 17 ∧ Byt rs ∧ lsum (fun j => rs.getD j 0) 17 % PO = pv (rv key) data (k + 1) % PO) := by
                    refine ⟨HR.out.1, HR.out.2.1, ?_⟩
                    rw [HR.out.2.2, AP3.out, RLV.out, PV.out, Int.emod_emod, Int.mul_emod, Int.add_emod, HS.out.out.2.2, ← Int.add_emod, ← Int.mul_emod]
                  have N16 : Hid (((16 * (k + 1) : Nat) : Int) = (s16 : Int) + 16) := by show _ = _; have := H16.out; omega
                  have N17 : Hid (16 * (k + 1) < data.length + 16) := by show _ < _; have := H16.out; omega
                  clear hv3 V3 TI RG1 RG2 S1 S0 Sn ny HR AP3 L1 L2 HS PV RLV
                  go_wp2_with (refine wpList_store_row rfl 91 (.tmp 7) (.tmp 101) rfl (w.heap.size + 1) v3.toArray rfl rfl t5 _ H5 (by rw [List.size_toArray, L3.out]; exact infoL) (by rw [List.size_toArray, List.size_toArray, L3.out, L4.out]) O5 ?_)
                  go_roundw
                  case rel => exact ⟨k + 1, rs, N17.out, by rw [N16.out], FIN, SR, S0', Sn'⟩
                  case measure => have := H16.out; simp [intOf]; omega
          · have kk : k = (data.length + 15) / 16 := by omega
            have HV : Hid (lsum (fun j => ss.getD j 0) 17 % PO = pv (rv key) data ((data.length + 15) / 16) % PO) := by show _ = _; rw [← kk]; exact hS.out.2.2
            have SL := hide hS.out.1
            have SBy := hide hS.out.2.1
            have e1 : ¬ ((16 * k : Nat) : Int) < (data.length : Int) := by omega
            obtain ⟨wo, rfl⟩ : ∃ v, v = wr := ⟨_, rfl⟩
            have own0 : (wo.alloc (.cells #[] 5)).ownsRow wo.heap.size 5 1 (.slice (some ⟨wo.heap.size, 0, none⟩) 0 0) 0 [] := World.ownsRow_lit wo #[] 0 (Nat.le_refl _) (by unfold maxLen; omega) (by simp)
            have hal : Below wo.heap.size wo (wo.alloc (.cells #[] 5)) := (Below.refl _ _).alloc (Nat.le_refl _) _
            have wl : w.heap.size + 1 < wo.heap.size := hB1.lt
            clear hS hB0 kk hlt
            generalize 16 * k = s16 at *
            go_wp2
            go_loopw [11, 12] (fun v i wq => ∃ (j : Nat) (t : Int) (nb : List Int), i = .int .i64 t ∧ t + (j : Int) + 1 = 17 ∧ -1 ≤ t ∧ Hid (TurnTo ss nb j ∧ Byt nb) ∧ wq.ownsRow wo.heap.size 5 1 v j (nb.map (Value.int .u8)) ∧ Below wo.heap.size wo wq) (fun _ i _ => (intOf i + 1).toNat)
            case atStart => exact ⟨0, 16, [], rfl, by omega, by omega, ⟨⟨rfl, fun i h => absurd h (by omega)⟩, byt_nil⟩, own0, hal⟩
            case round =>
              clear own0 hal
              obtain ⟨j, t, nb, rfl, ht, ht0, hT, hown, hN2⟩ := hrel
              have hob := hown.lt
              by_cases hlt : 0 ≤ t
              · obtain ⟨p, rfl⟩ := Int.eq_ofNat_of_zero_le hlt
                have cx := (hB1.up hN2).cell (i := p) (by rw [SL.out]; omega)
                have xb := SBy.out p
                have hT' := hide hT.out.1.step
                rw [show ss.length - 1 - j = p by have := SL.out; omega] at hT'
                have hb3 := hide (byt_app1 hT.out.2 (ss.getD p 0) xb.1 xb.2)
                generalize ss.getD p 0 = x at *
                have j1 : (p : Int) < 17 := by omega
                have xm : x % 256 = x := by omega
                have HT := hide ht
                clear ht hT
                go_wp2_with (at_builtin; refine wpList_append_own _ rfl _ _ 22 rfl wo.heap.size 5 i0 (.int .u8 0) 1 1 Try.underlying22 hi hz0 hz1 hz2 rfl (by decide) _ j (nb.map (Value.int .u8)) rfl (hown.alloc _) ⟨wr.heap.size, 0, none⟩ 1 1 [.int .u8 x] rfl rfl ?c1 ?c2 ?c3 ?c4 ?c5 ?_)
                case c1 =>
                  intro j u hj
                  match j, hj with
                  | 0, hj => simp at hj; subst hj; simp [Addr.add]
                case c2 => intro u hu; simp at hu; subst hu; rfl
                case c3 => unfold maxLen; have := HT.out; omega
                case c4 => have := HT.out; omega
                case c5 => simp; have := hN2.size; omega
                · intro v' w2 hown2 hgrow _
                  have nA : Below wo.heap.size wo (wr.alloc (.cells #[.int .u8 x] 5)) := hN2.alloc hN2.size _
                  have N2 : Below wo.heap.size wo w2 := nA.grown hgrow (by simp; have := hN2.size; omega) (fun i hi => (hob i hi).1)
                  have hown3 : w2.ownsRow wo.heap.size 5 1 v' (j + 1) ((nb ++ [x]).map (Value.int .u8)) := by simpa using hown2
                  clear hown hown2 hgrow nA hob
                  go_wp2
                  go_roundw
                  case rel => exact ⟨j + 1, (p : Int) - 1, nb ++ [x], rfl, by have := HT.out; omega, by omega, ⟨hT'.out, hb3.out⟩, hown3, N2⟩
                  case measure => simp [intOf]
              · obtain rfl : t = -1 := by omega
                obtain rfl : j = 17 := by omega
                have NL : Hid (nb.length = 17) := hT.out.1.1
                have NV : Hid (bval nb = lsum (fun j => ss.getD j 0) 17) := by
                  have h1 := hT.out.1
                  rw [← SL.out] at h1
                  have h2 := h1.val
                  rw [SL.out] at h2
                  exact h2
                have NB := hide hT.out.2
                have hown' := hown
                rw [← NL.out] at hown'
                obtain ⟨a1, c1, g1, hv, o1, q1, l1, r1⟩ := Own.of_ownsRow hown'
                subst hv
                have N3 : Below w.heap.size w wr := hN.trans (hN2.mono (by omega))
                have wz : w.heap.size ≤ g1 := by omega
                clear hown hown' hT ht ht0 hlt hob hB1 hN hN2 SL SBy r1 wl e1
                have n4 : Below wr.heap.size wr (wr.alloc (.cells #[.int .u8 1] 5)) := (Below.refl _ _).alloc (Nat.le_refl _) _
                have B4 : Blk (wr.alloc (.cells #[.int .u8 1] 5)) wr.heap.size .u8 [1] := ⟨5, by rw [heap_alloc_last]; rfl⟩
                have SH := fun W (h : Blk W wr.heap.size .u8 [1]) => hide (l1Shift130_any W wr.heap.size ⟨wr.heap.size, 0, none⟩ 1 [1] h.own0.rd (byt_one (by omega) (by omega)) (by decide) (by decide))
                go_wp2_with fail
                generalize wr.alloc (.cells #[.int .u8 1] 5) = w4 at *
                refine (SH w4 B4).out.mono ?_
                rintro e w5 ⟨ys, C5, ⟨a5, c5, g5, rfl, o5, p5, q5, r5'⟩, n5⟩
                have N5 := nxt (nxt N3 n4) n5
                have o1 := (o1.up n4).up n5
                have n6 : Below w5.heap.size w5 (w5.alloc (.cells #[.int .u8 5] 5)) := (Below.refl _ _).alloc (Nat.le_refl _) _
                have B6 : Blk (w5.alloc (.cells #[.int .u8 5] 5)) w5.heap.size .u8 [5] := ⟨5, by rw [heap_alloc_last]; rfl⟩
                have b1 : bval [1] = 1 := by decide
                have b5 : bval [5] = 5 := by decide
                rw [b1, Int.one_mul] at C5
                have y17 := C5.len (n := 17) (by decide)
                have y1 : 1 ≤ ys.length := by
                  rcases Nat.eq_zero_or_pos ys.length with h | h
                  · have h1 := C5.2.1
                    rw [List.eq_nil_of_length_eq_zero h] at h1
                    exact absurd h1 (by decide)
                  · exact h
                have SU := fun W (h1 : Own W g5 a5 .u8 ys) (h2 : Blk W w5.heap.size .u8 [5]) => hide (l1Sub_any W g5 w5.heap.size a5 (some ⟨w5.heap.size, 0, none⟩) c5 1 ys [5] h1.rd h2.own0.rd C5.1 (byt_one (by omega) (by omega)) (by omega) (by simpa using y1) (by rw [C5.2.1, b5]; decide))
                rw [C5.2.1, b5] at SU
                clear SH B4 n4 C5 n5 N3
                go_wp2_with fail
                generalize w5.alloc (.cells #[.int .u8 5] 5) = w6 at *
                refine (SU w6 (o5.up n6) B6).out.mono ?_
                rintro e w7 ⟨zs, C7, ⟨a7, c7, g7, rfl, o7, p7, q7, r7⟩, n7⟩
                have N7 := nxt (nxt N5 n6) n7
                have o1 := (o1.up n6).up n7
                have C7' : Canon zs PO := C7
                have HC7 := hide C7'
                have z17 := C7'.len (n := 17) (by decide)
                have Z17 := hide z17
                have kr' := hk.up N7
                clear SU B6 n6 n7 N5 C7 C7' o5 p5 q5 r5' b1 b5 y17 y1 z17
                have KR : Hid (∀ W, Below w7.heap.size w7 W → Rd W gk (some ⟨gk, ok + 16, none⟩) .u8 (key.drop 16)) := fun W n => by
                  have h := rd_part (kr'.up n) 16 16 (by rw [KL.out]; omega)
                  rwa [List.take_of_length_le (by rw [List.length_drop, KL.out]; omega)] at h
                have KD : Hid ((key.drop 16).length = 16) := by show _ = _; rw [List.length_drop, KL.out]
                have KDV : Hid (lsum (fun j => (key.drop 16).getD j 0) 16 = lsum (fun j => key.getD (16 + j) 0) 16) := by
                  show _ = _
                  exact lsum_congr 16 (fun j _ => by simp only [List.getD_eq_getElem?_getD, List.getElem?_drop])
                have KDB := hide (byt_drop KB.out 16)
                have VB : Hid (0 ≤ lsum (fun j => key.getD (16 + j) 0) 16 ∧ lsum (fun j => key.getD (16 + j) 0) 16 < 256 ^ 16) := lsum_bd 16 (fun j _ => KB.out (16 + j))
                obtain ⟨kv', hkv⟩ : ∃ v, v = lsum (fun j => key.getD (16 + j) 0) 16 := ⟨_, rfl⟩
                obtain ⟨mv, hmv⟩ : ∃ v, v = bval nb % PO := ⟨_, rfl⟩
                have RES : Hid (otB key data = fill (byt (mv + kv')) 16) := by show _ = _; unfold otB; rw [hmv, hkv, NV.out, HV.out]
                rw [← hkv] at KDV VB
                have mb : 0 ≤ mv ∧ mv < 1361129467683753853853498429727072845819 := by rw [hmv]; exact ⟨Int.emod_nonneg _ (by decide), Int.emod_lt_of_pos _ (by decide)⟩
                have HMV := hide hmv
                have MB := hide mb
                clear hmv hkv mb NV HV
                have d16 : (16 : Int) ≤ (key.length : Int) := by have := KL.out; omega
                have LE : Hid (key.length - 16 = 16) := by show _ = _; rw [KL.out]
                have ne1 : Hid (¬ ck = 16) := by show ¬ _; have := KL.out; omega
                go_wp2_with fail
                refine region_end 8 (fun i => [Fact.eq (.slice a1 nb.length c1), Fact.eq (.slice a7 zs.length c7), Fact.can mv, Fact.eq (.slice (some ⟨gk, ok, none⟩) key.length ck), Fact.eq (.slice (some ⟨gk, ok + 16, none⟩) 16 (ck - 16)), Fact.can kv', Fact.can (mv + kv'), Fact.can (mv + kv')].getD i Fact.no) (by kernel_rfl) (by kernel_rfl) rfl ?_ ?_
                · intro i hi'
                  obtain rfl | rfl | rfl | rfl | rfl | rfl | rfl | rfl : i = 0 ∨ i = 1 ∨ i = 2 ∨ i = 3 ∨ i = 4 ∨ i = 5 ∨ i = 6 ∨ i = 7 := by omega
                  · refine step_pure rfl fun a u hb hw hf => ?_
                    have e11 : a.tmps[11]?.getD undef = .slice a1 nb.length c1 := gdv (hb.2.2 11 (by kernel_rfl))
                    exact ⟨.slice a1 nb.length c1, by simp [go_sem, e11], rfl⟩
                  · refine step_pure rfl fun a u hb hw hf => ?_
                    have e13 : a.tmps[13]?.getD undef = .slice a7 zs.length c7 := gdv (hb.2.2 13 (by kernel_rfl))
                    exact ⟨.slice a7 zs.length c7, by simp [go_sem, e13], rfl⟩
                  · refine step_callv rfl 77 _ _ rfl (by kernel_rfl) fun a u hb hw hf => ?_
                    have e118 : a.tmps.getD 118 undef = .slice a1 nb.length c1 := hf 0 118 (by kernel_rfl)
                    have e119 : a.tmps.getD 119 undef = .slice a7 zs.length c7 := hf 1 119 (by kernel_rfl)
                    show Calls Try.prog 77 #[a.tmps.getD 118 undef, a.tmps.getD 119 undef] u _
                    rw [e118, e119]
                    have h := l1Mod_any u g1 g7 a1 a7 c1 c7 nb zs (o1.up hw).rd (o7.up hw).rd NB.out HC7.out.1 p7 q7 (by rw [NL.out]; omega) (by have := Z17.out; omega) (by rw [HC7.out.2.1]; decide)
                    rw [HC7.out.2.1, ← HMV.out] at h
                    exact h.mono (by rintro e w' ⟨⟨ys, a, c, g, rfl, o, p, q, r, C⟩, n⟩; exact ⟨_, rfl, n, ys, a, c, g, rfl, o, p, q, C⟩)
                  · refine step_pure rfl fun a u hb hw hf => ?_
                    have e0 : a.tmps[0]?.getD undef = .slice (some ⟨gk, ok, none⟩) key.length ck := gdv (hb.2.2 0 (by kernel_rfl))
                    exact ⟨.slice (some ⟨gk, ok, none⟩) key.length ck, by simp [go_sem, e0], rfl⟩
                  · refine step_pure rfl fun a u hb hw hf => ?_
                    have e121 : a.tmps[121]?.getD undef = .slice (some ⟨gk, ok, none⟩) key.length ck := gdv (hf 3 121 (by kernel_rfl))
                    exact ⟨.slice (some ⟨gk, ok + 16, none⟩) 16 (ck - 16), by simp [go_sem, e121, d16, LE.out, ne1.out], rfl⟩
                  · refine step_callv rfl 78 _ _ rfl (by kernel_rfl) fun a u hb hw hf => ?_
                    have e122 : a.tmps.getD 122 undef = .slice (some ⟨gk, ok + 16, none⟩) 16 (ck - 16) := hf 4 122 (by kernel_rfl)
                    show Calls Try.prog 78 #[a.tmps.getD 122 undef] u _
                    rw [e122]
                    have h := l2Num_any u gk (some ⟨gk, ok + 16, none⟩) (ck - 16) (key.drop 16) (KR.out u hw) KDB.out (by rw [KD.out]; omega)
                    rw [KD.out, KDV.out] at h
                    exact h.mono (by rintro e w' ⟨ys, C, l, ⟨a, c, g, rfl, o, p, q, r⟩, n⟩; exact ⟨_, rfl, n, ys, a, c, g, rfl, o, p, q, C⟩)
                  · refine step_callv rfl 76 _ _ rfl (by kernel_rfl) fun a u hb hw hf => ?_
                    obtain ⟨ys, x1, y1, z1, e120, R1, -, -, D1⟩ := hf 2 120 (by kernel_rfl)
                    obtain ⟨us, x2, y2, z2, e123, R2, -, -, D2⟩ := hf 5 123 (by kernel_rfl)
                    show Calls Try.prog 76 #[a.tmps.getD 120 undef, a.tmps.getD 123 undef] u _
                    rw [e120, e123]
                    have f1 := D1.len (n := 17) (by have := MB.out; omega)
                    have f2 := D2.len (n := 16) VB.out.2
                    have h := l1Add_any u z1 z2 x1 x2 y1 y2 ys us R1.rd R2.rd D1.1 D2.1 (by omega) (by omega)
                    rw [D1.2.1, D2.2.1] at h
                    exact h.mono (by rintro e w' ⟨ys, C, ⟨a, c, g, rfl, o, p, q, r⟩, n⟩; exact ⟨_, rfl, n, ys, a, c, g, rfl, o, p, q, C⟩)
                  · refine step_pure rfl fun a u hb hw hf => ?_
                    obtain ⟨ys, x1, y1, z1, e124, R1, s1, t1, D1⟩ := hf 6 124 (by kernel_rfl)
                    have e124' : a.tmps[124]?.getD undef = .slice x1 ys.length y1 := gdv e124
                    exact ⟨.slice x1 ys.length y1, by simp [go_sem, e124'], ys, x1, y1, z1, rfl, R1, s1, t1, D1⟩
                · intro a w8 hb K8 hF
                  obtain ⟨ts, x8, y8, z8, e14, R8, -, -, D8⟩ := hF 7 14 (by kernel_rfl)
                  obtain ⟨vs', hvs'⟩ : ∃ vs : Nat → Value, ∀ d, a.tmps.getD d undef = vs d := ⟨_, fun _ => rfl⟩
                  have ea := puts_of (md := .any) (n := 127) (k := 8) (by kernel_rfl) rfl hb vs' hvs'
                  have v14 : vs' 14 = .slice x8 ts.length y8 := (hvs' 14).symm.trans e14
                  have t18 := D8.len (n := 18) (by have := MB.out; have := VB.out; have e : (256 : Int) ^ 16 = 340282366920938463463374607431768211456 := by decide
                                                   rw [e] at this
                                                   have e' : (256 : Int) ^ 18 = 22300745198530623141535718272648361505980416 := by decide
                                                   rw [e']; omega)
                  have LT := hide (l1Little_any w8 z8 x8 y8 ts 16 R8.rd D8.1 (by omega) (by omega))
                  have FD : Hid (fill (dig ts) 16 = otB key data) := by
                    show _ = _
                    rw [RES.out]
                    exact fill_congr fun i _ => by rw [dig_of D8.1, D8.2.1]
                  rw [FD.out] at LT
                  rw [ea]
                  clear ea hvs' hF hb e14 t18 D8 R8 RES MB VB KDV KDB KD KR HMV NB NL HC7 Z17 LE ne1 FD
                  simp only [puts, v14, Act.put, List.setIfInBounds_toArray, List.set_cons_succ, List.set_cons_zero]
                  have N8 := nxt N7 K8
                  have s8 := N8.size
                  have OL := hide (otB_len key data)
                  go_wp2_with fail
                  refine LT.out.mono ?_
                  rintro e w9 ⟨rfl, B9, n9⟩
                  go_wp2
                  go_ret
                  exact ⟨⟨some ⟨w8.heap.size, 0, none⟩, 16, w8.heap.size, by rw [OL.out]; rfl, B9.own0, by simp, by rw [OL.out]; exact Nat.le_refl _, s8⟩, nxt N8 n9⟩
  · have RS : Hid (otA key data = []) := by show _ = _; unfold otA; rw [if_neg kl]
    rw [RS.out]
    have k32 : decide ((key.length : Int) = 32) = false := by simp; omega
    go_enter Try.func56, Try.ntmps56
    go_wp2
    go_ret
    exact ⟨newRow_lit w .u8, (Below.refl _ _).alloc (Nat.le_refl _) _⟩
end Go.Proofs.Ytcljoaknaegpmaa
