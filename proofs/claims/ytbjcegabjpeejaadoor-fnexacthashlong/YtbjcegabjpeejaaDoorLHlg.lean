
/-
  The law of HashLong (written by gens/lhash.py).
-/
import Derived.Test.YtbjcegabjpeejaaDoorHe64
import Derived.Test.YtbjcegabjpeejaaDoorSh64
import Derived.Test.YtbjcegabjpeejaaDoorLaidH
namespace Go.Proofs.YtbjcegabjpeejaaDoor
set_option maxRecDepth 100000
open Go Go.RowKit

theorem laid_hlg {W : World} (h : laidMetH Tryd.prog Rows.fnExactHashLongRow.laid W) : HasH W := ⟨start_of (reads_ofH h (by kernel_rfl) (.head _)), steps_of (reads_ofH h (by kernel_rfl) (.tail _ (.head _)))⟩
set_option maxHeartbeats 4000000 in
theorem hlg_law (w : World) (g : Nat) (a : Option Addr) (ca : Nat) (xs : List Int) (ha : Rd w g a .u8 xs) (hx : Byt xs) (hL : HasH w) :
    Calls Tryd.prog 4 #[.slice a xs.length ca] w fun e w' => e = .returned (.bool true) ∧ Below w.heap.size w w' := by
  by_cases h1 : xs.length ≤ 1048576
  · have t1 : decide ((1048576 : Int) < (xs.length : Int)) = false := by simp; omega
    have hy : (hashL64 xs).length ≤ 1048576 := by unfold hashL64; rw [tell_len64]; decide
    have SP : ∀ w g a c, Rd w g a .u8 xs → (a = none → c = 0) → Calls Tryd.prog 15 #[.slice a xs.length c] w fun e w' => NewRow w.heap.size w' e .u8 (hashL64 xs) ∧ Below w.heap.size w w' := fun w g a c h p => specHash_64 w g a c xs h hx p (by omega)
    have IM := fun W g a c h p (n : Below w.heap.size w W) => implHash_64 W g a c xs h hx p (by omega) (hL.1.up n) (hL.2.up n)
    obtain ⟨ys', hys⟩ : ∃ ys, ys = hashL64 xs := ⟨_, rfl⟩
    simp only [← hys] at SP IM hy
    clear hys
    go_enter Tryd.func4, Tryd.ntmps4
    go_wp2_with fail
    refine (toByteS_any w g a ca xs ha h1).mono ?_
    rintro e w1 ⟨rfl, B1, n1⟩
    go_wp2_with fail
    refine (SP w1 _ _ _ B1.own0.rd (by simp)).mono ?_
    rintro e w2 ⟨⟨a2, c2, g2, rfl, o2, p2, q2, r2⟩, n2⟩
    have N2 := nxt n1 n2
    have l2 := o2.rd.lt
    go_wp2_with fail
    refine (toByteS_any w2 g a ca xs (ha.up N2) h1).mono ?_
    rintro e w3 ⟨rfl, B3, n3⟩
    have N3 := nxt N2 n3
    have l3 := B3.lt
    go_wp2_with fail
    refine (IM w3 _ _ _ B3.own0.rd (Nat.le_refl _) N3).mono ?_
    rintro e w4 ⟨⟨a4, c4, g4, rfl, o4, p4, q4, r4⟩, n4⟩
    have N4 := nxt N3 n4
    have o2' := (o2.up n3).up n4
    go_wp2_with fail
    refine (eqByteS_same w4 _ _ _ _ _ _ ys' o4.rd o2'.rd hy).mono ?_
    rintro e w5 ⟨rfl, n5⟩
    have N5 := nxt N4 n5
    have o2'' := o2'.up n5
    have o4' := o4.up n5
    have B5 := (B3.up n4).up n5
    go_wp2_with fail
    refine (toByteS_any w5 g a ca xs (ha.up N5) h1).mono ?_
    rintro e w6 ⟨rfl, B6, n6⟩
    go_wp2_with fail
    refine (eqByteS_same w6 _ _ _ _ _ _ xs (B5.up n6).own0.rd B6.own0.rd h1).mono ?_
    rintro e w7 ⟨rfl, n7⟩
    have N7 := nxt (nxt N5 n6) n7
    have o2a := (o2''.up n6).up n7
    have o4a := (o4'.up n6).up n7
    have B7 := (B5.up n6).up n7
    clear B1 B3 B5 B6 o2 o2' o2'' o4 o4' n1 n2 N3 N4 N5 n3 n4 n5 n6 n7
    go_wp2_with fail
    refine (markByteS_any w7 _ _ _ xs 1 B7.own0 h1 (by decide) (by decide)).mono ?_
    rintro e w8 ⟨rfl, _, O8⟩
    have N8 := N7.trans (O8.below (B := w.heap.size) N2.size)
    have o2b := o2a.only O8 (fun h => by have := l2 h; omega)
    have o4b := o4a.only O8 (fun h => by omega)
    have t2 : decide ((1 : Int) + (xs.length : Int) < 0) = false := by simp; omega
    clear B7 o2a o4a N7 O8
    go_wp2_with fail
    refine (eqByteS_same w8 _ _ _ _ _ _ ys' o4b.rd o2b.rd hy).mono ?_
    rintro e w9 ⟨rfl, n9⟩
    have N9 := nxt N8 n9
    have o2c := o2b.up n9
    have o4c := o4b.up n9
    clear o2b o4b N8 n9
    go_wp2_with fail
    refine (markByteS_any w9 _ _ _ ys' 1 o4c hy (by decide) (by decide)).mono ?_
    rintro e wA ⟨rfl, oA, OA⟩
    have NA := N9.trans (OA.below (B := w.heap.size) (by have := N2.size; omega))
    have o2d := o2c.only OA (fun h => by have := l2 h; omega)
    have t3 : decide ((1 : Int) + (ys'.length : Int) < 0) = false := by simp; omega
    clear o2c o4c N9 OA
    go_wp2_with fail
    refine (heldByteS_any wA _ _ _ ys'.length 1 oA.rd hy (by decide) (by decide)).mono ?_
    rintro e wA' ⟨rfl, rfl⟩
    go_wp2_with fail
    refine (toByteS_any wA' g a ca xs (ha.up NA) h1).mono ?_
    rintro e wB ⟨rfl, BB, nB⟩
    go_wp2_with fail
    refine (IM wB _ _ _ BB.own0.rd (Nat.le_refl _) (nxt NA nB)).mono ?_
    rintro e wC ⟨⟨aC, cC, gC, rfl, oC, pC, qC, rC⟩, nC⟩
    have o2e := (o2d.up nB).up nC
    have oAe := (oA.up nB).up nC
    go_wp2_with fail
    refine (eqByteS_same wC _ _ _ _ _ _ ys' oC.rd o2e.rd hy).mono ?_
    rintro e wD ⟨rfl, nD⟩
    go_wp2_with fail
    refine (heldByteS_any wD _ _ _ ys'.length 1 (oAe.up nD).rd hy (by decide) (by decide)).mono ?_
    rintro e wD' ⟨rfl, rfl⟩
    go_wp2
    go_ret
    exact ⟨rfl, nxt (nxt (nxt NA nB) nC) nD⟩
  · have t1 : decide ((1048576 : Int) < (xs.length : Int)) = true := by simp; omega
    go_enter Tryd.func4, Tryd.ntmps4
    go_wp2
    go_ret
    exact ⟨rfl, Below.refl _ _⟩
end Go.Proofs.YtbjcegabjpeejaaDoor
