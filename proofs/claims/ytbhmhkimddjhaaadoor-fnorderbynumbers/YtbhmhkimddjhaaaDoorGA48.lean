import Derived.Test.YtbhmhkimddjhaaaDoorGA24
import Derived.Test.YtbhmhkimddjhaaaDoorGA37
import Derived.Test.YtbhmhkimddjhaaaDoorGA38
import Derived.Test.YtbhmhkimddjhaaaDoorGA39
import Derived.Test.YtbhmhkimddjhaaaDoorGA46
import Derived.Test.YtbhmhkimddjhaaaDoorGA47
/-
  The law's own turning of bytes; structs of a truth and rows that a statement lays, whenever their block is made.
-/
namespace Go.Proofs.YtbhmhkimddjhaaaDoor
set_option maxRecDepth 100000
open Go.RowKit

set_option maxHeartbeats 2000000 in
theorem lwTurn_any (w : World) (g : Nat) (a : Option Addr) (c : Nat) (xs : List Int) (hr : Rd w g a .u8 xs) (hb : Byt xs) (hl : xs.length ≤ 1048576) :
    Calls Tryd.prog 27 #[.slice a xs.length c] w fun e w' => ∃ ys, TurnTo xs ys xs.length ∧ Byt ys ∧ NewRow w.heap.size w' e .u8 ys ∧ Below w.heap.size w w' := by
  obtain ⟨i0, hi, hz0, hz1, hz2⟩ := info_parts Tryd.info5
  have hown0 : (w.alloc (.cells #[] 5)).ownsRow w.heap.size 5 1 (.slice (some ⟨w.heap.size, 0, none⟩) 0 0) 0 [] := World.ownsRow_lit w #[] 0 (Nat.le_refl _) (by unfold maxLen; omega) (by simp)
  have hal : Below w.heap.size w (w.alloc (.cells #[] 5)) := (Below.refl _ _).alloc (Nat.le_refl _) _
  go_enter Tryd.func27, Tryd.ntmps27
  go_wp2
  go_loopw [3, 4] (fun v i wr => ∃ (k : Nat) (t : Int) (ys : List Int), i = .int .i64 t ∧ t + (k : Int) + 1 = (xs.length : Int) ∧ -1 ≤ t ∧ TurnTo xs ys k ∧ Byt ys ∧ wr.ownsRow w.heap.size 5 1 v k (ys.map (Value.int .u8)) ∧ Below w.heap.size w wr) (fun _ i _ => (intOf i + 1).toNat)
  case atStart => exact ⟨0, (xs.length : Int) - 1, [], rfl, by omega, by omega, ⟨rfl, fun i h => absurd h (by omega)⟩, byt_nil, hown0, hal⟩
  case round =>
    obtain ⟨k, t, ys, rfl, ht, ht0, hT, hyb, hown, hN⟩ := hrel
    have hob := hown.lt
    by_cases hlt : 0 ≤ t
    · obtain ⟨j, rfl⟩ := Int.eq_ofNat_of_zero_le hlt
      obtain ⟨off, rfl, hc⟩ := (hr.up hN) (by omega)
      have cx := hc j (by omega)
      have xb := hb j
      have hT' := hT.step
      rw [show xs.length - 1 - k = j by omega] at hT'
      generalize xs.getD j 0 = x at *
      have j1 : (j : Int) < (xs.length : Int) := by omega
      have HT := hide ht
      clear hc ht
      go_wp2_with (at_builtin; refine wpList_append_own _ rfl _ _ 22 rfl w.heap.size 5 i0 (.int .u8 0) 1 1 Tryd.underlying22 hi hz0 hz1 hz2 rfl (by decide) _ k (ys.map (Value.int .u8)) rfl (hown.alloc _) ⟨wr.heap.size, 0, none⟩ 1 1 [.int .u8 x] rfl rfl ?c1 ?c2 ?c3 ?c4 ?c5 ?_)
      case c1 =>
        intro j u hj
        match j, hj with
        | 0, hj => simp at hj; subst hj; simp [Addr.add]
      case c2 => intro u hu; simp at hu; subst hu; rfl
      case c3 => unfold maxLen; have := HT.out; omega
      case c4 => have := HT.out; omega
      case c5 => simp; have := hN.size; omega
      · intro v' w2 hown2 hgrow _
        have nA : Below w.heap.size w (wr.alloc (.cells #[.int .u8 x] 5)) := hN.alloc hN.size _
        have N2 : Below w.heap.size w w2 := nA.grown hgrow (by simp; have := hN.size; omega) (fun i hi => (hob i hi).1)
        have hown3 : w2.ownsRow w.heap.size 5 1 v' (k + 1) ((ys ++ [x]).map (Value.int .u8)) := by simpa using hown2
        have hb3 := byt_app1 hyb x xb.1 (by omega)
        clear hown hown2 hgrow nA hob
        go_wp2
        go_roundw
        case rel => exact ⟨k + 1, (j : Int) - 1, ys ++ [x], rfl, by have := HT.out; omega, by omega, hT', hb3, hown3, N2⟩
        case measure => simp [intOf]
    · obtain rfl : t = -1 := by omega
      obtain rfl : k = xs.length := by omega
      have hown' := hown
      rw [← hT.1] at hown'
      obtain ⟨a', c', g', hv, o1, o2, o3, o4⟩ := Own.of_ownsRow hown'
      subst hv
      have L := hide hT
      clear hown hown' ht hT
      go_wp2
      go_ret
      exact ⟨ys, L.out, hyb, ⟨_, _, g', rfl, o1, o2, o3, o4⟩, hN⟩


theorem Two.store {w : World} {p : Nat} {x y : Value} (h : Two w p x y) (u v : Value) : Two ((w.setCell ⟨p, 0, none⟩ u).setCell ⟨p, 1, none⟩ v) p u v := by
  have k0 : (w.setCell ⟨p, 0, none⟩ u).cell? ⟨p, 0, none⟩ = some u := World.cell?_setCell_same _ _ _ h.c0
  have k1 : (w.setCell ⟨p, 0, none⟩ u).cell? ⟨p, 1, none⟩ = some y := by rw [World.cell?_setCell_other (h := by simp)]; exact h.c1
  refine ⟨?_, World.cell?_setCell_same _ _ _ k1, ?_, ?_⟩
  · rw [World.cell?_setCell_other (h := by simp)]; exact k0
  · rw [World.frozen?_setCell, World.frozen?_setCell]; exact h.f0
  · rw [World.frozen?_setCell, World.frozen?_setCell]; exact h.f1
theorem Three.store {w : World} {p : Nat} {x y z : Value} (h : Three w p x y z) (u v t : Value) : Three (((w.setCell ⟨p, 0, none⟩ u).setCell ⟨p, 1, none⟩ v).setCell ⟨p, 2, none⟩ t) p u v t := by
  have k0 : (w.setCell ⟨p, 0, none⟩ u).cell? ⟨p, 0, none⟩ = some u := World.cell?_setCell_same _ _ _ h.c0
  have k1 : (w.setCell ⟨p, 0, none⟩ u).cell? ⟨p, 1, none⟩ = some y := by rw [World.cell?_setCell_other (h := by simp)]; exact h.c1
  have k2 : (w.setCell ⟨p, 0, none⟩ u).cell? ⟨p, 2, none⟩ = some z := by rw [World.cell?_setCell_other (h := by simp)]; exact h.c2
  have l0 : ((w.setCell ⟨p, 0, none⟩ u).setCell ⟨p, 1, none⟩ v).cell? ⟨p, 0, none⟩ = some u := by rw [World.cell?_setCell_other (h := by simp)]; exact k0
  have l1 : ((w.setCell ⟨p, 0, none⟩ u).setCell ⟨p, 1, none⟩ v).cell? ⟨p, 1, none⟩ = some v := World.cell?_setCell_same _ _ _ k1
  have l2 : ((w.setCell ⟨p, 0, none⟩ u).setCell ⟨p, 1, none⟩ v).cell? ⟨p, 2, none⟩ = some z := by rw [World.cell?_setCell_other (h := by simp)]; exact k2
  refine ⟨?_, ?_, World.cell?_setCell_same _ _ _ l2, ?_, ?_, ?_⟩
  · rw [World.cell?_setCell_other (h := by simp)]; exact l0
  · rw [World.cell?_setCell_other (h := by simp)]; exact l1
  · rw [World.frozen?_setCell, World.frozen?_setCell, World.frozen?_setCell]; exact h.f0
  · rw [World.frozen?_setCell, World.frozen?_setCell, World.frozen?_setCell]; exact h.f1
  · rw [World.frozen?_setCell, World.frozen?_setCell, World.frozen?_setCell]; exact h.f2
theorem Two.newD (w : World) (x y : Value) (t : TypeId) : Two (w.alloc (.cells #[x, y] t)).drew w.heap.size x y :=
  have h := Two.new w x y t
  ⟨h.c0, h.c1, h.f0, h.f1⟩
theorem Three.newD (w : World) (x y z : Value) (t : TypeId) : Three (w.alloc (.cells #[x, y, z] t)).drew w.heap.size x y z :=
  have h := Three.new w x y z t
  ⟨h.c0, h.c1, h.c2, h.f0, h.f1, h.f2⟩
theorem upt {w w' : World} (n : Below w.heap.size w w') {p : Nat} {x y : Value} (h : Two w p x y) : Two w' p x y := h.up n
theorem upt3 {w w' : World} (n : Below w.heap.size w w') {p : Nat} {x y z : Value} (h : Three w p x y z) : Three w' p x y z := h.up n
/-- A struct of a truth and a row in a block of its own. -/
def SAt (wr : World) (P : List Int → Prop) (v : Value) (wc : World) : Prop := ∃ (q : Nat) (ps : List Int) (a : Option Addr) (c g : Nat), v = .pointer (some ⟨q, 0, none⟩) ∧ Two wc q (.bool true) (.slice a ps.length c) ∧ Own wc g a .u8 ps ∧ (a = none → c = 0) ∧ ps.length ≤ c ∧ P ps ∧ Below wr.heap.size wr wc
theorem sAt1 {wr wm : World} (n : Below wr.heap.size wr wm) {P : List Int → Prop} {ps : List Int} {a : Option Addr} {c g : Nat} (o : Own wm g a .u8 ps) (h1 : a = none → c = 0) (h2 : ps.length ≤ c) (hP : P ps) :
    SAt wr P (.pointer (some ⟨wm.heap.size, 0, none⟩)) (wm.alloc (.cells #[.bool true, .slice a ps.length c] 34)) :=
  ⟨_, ps, a, c, g, rfl, Two.new _ _ _ _, o.up ((Below.refl _ _).alloc (Nat.le_refl _) _), h1, h2, hP, bA n _⟩
theorem sAt2 {wr wm : World} (n : Below wr.heap.size wr wm) {P : List Int → Prop} {ps : List Int} {a : Option Addr} {c g : Nat} (o : Own wm g a .u8 ps) (h1 : a = none → c = 0) (h2 : ps.length ≤ c) (hP : P ps) {q : Nat} {x y : Value} (T : Two wm q x y) (hq : wr.heap.size ≤ q) (hg : q < g) :
    SAt wr P (.pointer (some ⟨q, 0, none⟩)) ((wm.setCell ⟨q, 0, none⟩ (.bool true)).setCell ⟨q, 1, none⟩ (.slice a ps.length c)) :=
  ⟨_, ps, a, c, g, rfl, T.store _ _, o.only ((Only.setCell wm q 0 _).trans (Only.setCell _ q 1 _)) (fun _ => by omega), h1, h2, hP, (n.setCell hq _).setCell hq _⟩
/-- A struct of a truth and two rows in a block of its own. -/
def TAt (wr : World) (P : List Int → Prop) (v : Value) (wc : World) : Prop := ∃ (q m1 c1 : Nat) (a1 : Option Addr) (rs : List Int) (a : Option Addr) (c g : Nat), v = .pointer (some ⟨q, 0, none⟩) ∧ Three wc q (.bool true) (.slice a1 m1 c1) (.slice a rs.length c) ∧ Own wc g a .u8 rs ∧ (a = none → c = 0) ∧ rs.length ≤ c ∧ P rs ∧ Below wr.heap.size wr wc
theorem tAt1 {wr wm : World} (n : Below wr.heap.size wr wm) {P : List Int → Prop} {m1 c1 : Nat} {a1 : Option Addr} {rs : List Int} {a : Option Addr} {c g : Nat} (o : Own wm g a .u8 rs) (h1 : a = none → c = 0) (h2 : rs.length ≤ c) (hP : P rs) :
    TAt wr P (.pointer (some ⟨wm.heap.size, 0, none⟩)) (wm.alloc (.cells #[.bool true, .slice a1 m1 c1, .slice a rs.length c] 37)) :=
  ⟨_, m1, c1, a1, rs, a, c, g, rfl, Three.new _ _ _ _ _, o.up ((Below.refl _ _).alloc (Nat.le_refl _) _), h1, h2, hP, bA n _⟩
theorem tAt2 {wr wm : World} (n : Below wr.heap.size wr wm) {P : List Int → Prop} {m1 c1 : Nat} {a1 : Option Addr} {rs : List Int} {a : Option Addr} {c g : Nat} (o : Own wm g a .u8 rs) (h1 : a = none → c = 0) (h2 : rs.length ≤ c) (hP : P rs) {q : Nat} {x y z : Value} (T : Three wm q x y z) (hq : wr.heap.size ≤ q) (hg : q < g) :
    TAt wr P (.pointer (some ⟨q, 0, none⟩)) (((wm.setCell ⟨q, 0, none⟩ (.bool true)).setCell ⟨q, 1, none⟩ (.slice a1 m1 c1)).setCell ⟨q, 2, none⟩ (.slice a rs.length c)) :=
  ⟨_, m1, c1, a1, rs, a, c, g, rfl, T.store _ _ _, o.only (((Only.setCell wm q 0 _).trans (Only.setCell _ q 1 _)).trans (Only.setCell _ q 2 _)) (fun _ => by omega), h1, h2, hP, ((n.setCell hq _).setCell hq _).setCell hq _⟩
end Go.Proofs.YtbhmhkimddjhaaaDoor
