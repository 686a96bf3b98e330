/-
  spec.NumAdd.
-/
import Derived.Test.YthdjopkmlcdoeaaRes
namespace Go.Proofs.Ythdjopkmlcdoeaa
open Go.RowKit

/-- A cell of a new block of two, behind calls that keep what was there. -/
theorem two_kept {w w1 : World} {x y : Value} {t : TypeId} (n : Below (w.alloc (.cells #[x, y] t)).heap.size (w.alloc (.cells #[x, y] t)) w1) :
    w1.cell? ⟨w.heap.size, 0, none⟩ = some x ∧ w1.cell? ⟨w.heap.size, 1, none⟩ = some y ∧ w1.frozen? ⟨w.heap.size, 0, none⟩ = false ∧ w1.frozen? ⟨w.heap.size, 1, none⟩ = false ∧ w.heap.size < w1.heap.size := by
  have hs : w.heap.size < (w.alloc (.cells #[x, y] t)).heap.size := by simp
  refine ⟨?_, ?_, ?_, ?_, by have := n.size; omega⟩
  · rw [n.cell (p := ⟨w.heap.size, 0, none⟩) hs]; simp [World.cell?_alloc_at]
  · rw [n.cell (p := ⟨w.heap.size, 1, none⟩) hs]; simp [World.cell?_alloc_at]
  · rw [n.frozen (p := ⟨w.heap.size, 0, none⟩) hs]; simp [World.frozen?_alloc_at]
  · rw [n.frozen (p := ⟨w.heap.size, 1, none⟩) hs]; simp [World.frozen?_alloc_at]

/-- A block of two cells, known and free. -/
structure Two (w : World) (p : Nat) (x y : Value) : Prop where
  c0 : w.cell? ⟨p, 0, none⟩ = some x
  c1 : w.cell? ⟨p, 1, none⟩ = some y
  f0 : w.frozen? ⟨p, 0, none⟩ = false
  f1 : w.frozen? ⟨p, 1, none⟩ = false
theorem Two.lt {w : World} {p : Nat} {x y : Value} (h : Two w p x y) : p < w.heap.size := block_lt_of_cell h.c0
theorem Two.of_block {w w' : World} {p : Nat} {x y : Value} (h : Two w p x y) (hb : w'.heap[p]? = w.heap[p]?) : Two w' p x y :=
  ⟨(World.cell?_of_block (a := ⟨p, 0, none⟩) hb).trans h.c0, (World.cell?_of_block (a := ⟨p, 1, none⟩) hb).trans h.c1, (World.frozen?_of_block (a := ⟨p, 0, none⟩) hb).trans h.f0, (World.frozen?_of_block (a := ⟨p, 1, none⟩) hb).trans h.f1⟩
theorem Two.up {w w' : World} {p : Nat} {x y : Value} (h : Two w p x y) (n : Below w.heap.size w w') : Two w' p x y := h.of_block (n.block p h.lt)
theorem Two.only {w w' : World} {p g : Nat} {x y : Value} (h : Two w p x y) (n : Only g w w') (hne : p ≠ g) : Two w' p x y := h.of_block (n.block p hne)
theorem Two.new (w : World) (x y : Value) (t : TypeId) : Two (w.alloc (.cells #[x, y] t)) w.heap.size x y := by
  obtain ⟨k1, k2, k3, k4, _⟩ := two_kept (Below.refl (w.alloc (.cells #[x, y] t)).heap.size (w.alloc (.cells #[x, y] t)))
  exact ⟨k1, k2, k3, k4⟩

/-- The result is laid into its cell: all else stands. -/
theorem two_laid {w w2 : World} {g : Nat} {a : Option Addr} {zs : List Int} {u v : Value} (n : Below w.heap.size w w2) (o : Own w2 g a .u8 zs) (hg : w.heap.size < g) :
    Own ((w2.setCell ⟨w.heap.size, 0, none⟩ u).setCell ⟨w.heap.size, 1, none⟩ v) g a .u8 zs ∧ Below w.heap.size w ((w2.setCell ⟨w.heap.size, 0, none⟩ u).setCell ⟨w.heap.size, 1, none⟩ v) := by
  have h1 := Only.setCell w2 w.heap.size 0 u
  have h2 := Only.setCell (w2.setCell ⟨w.heap.size, 0, none⟩ u) w.heap.size 1 v
  have h3 := h1.trans h2
  exact ⟨o.only h3 (fun _ => by omega), n.trans (h3.below (Nat.le_refl _))⟩

set_option maxHeartbeats 2000000 in
theorem specNumAdd_any (w : World) (g g' : Nat) (a b : Option Addr) (ca cb : Nat) (xs us : List Int) (ha : Rd w g a .u8 xs) (hb : Rd w g' b .u8 us) (hx : Byt xs) (hu : Byt us) :
    Calls Try.prog 24 #[.slice a xs.length ca, .slice b us.length cb] w fun e w' => ∃ t zs, NumOf (xs.length ≤ 128 ∧ us.length ≤ 128) (bval xs + bval us) t zs ∧ NewRes w.heap.size w' e t zs ∧ Below w.heap.size w w' := by
  have hal : Below w.heap.size w (w.alloc (.cells #[.bool false, .slice none 0 0] 31)) := (Below.refl _ _).alloc (Nat.le_refl _) _
  by_cases h1 : xs.length ≤ 128
  · have t1 : decide ((xs.length : Int) ≤ 128) = true := by simp; omega
    by_cases h2 : us.length ≤ 128
    · have t2 : decide ((us.length : Int) ≤ 128) = true := by simp; omega
      go_enter Try.func24, Try.ntmps24
      go_wp2_with (go_at_call 46; go_in)
      refine (l1Add_any _ g g' a b ca cb xs us (ha.up hal) (hb.up hal) hx hu (by omega) (by omega)).mono ?_
      rintro e w1 ⟨ys, C, ⟨a1, c1, g1, rfl, o1, q1, q2, q3⟩, n1⟩
      have q3' : w.heap.size + 1 ≤ g1 := by simpa using q3
      have q4 : w.heap.size + 1 ≤ w1.heap.size := by have := n1.size; simpa using this
      have N1 := nxt hal n1
      go_wp2_with fail
      refine (l1Answer_any w1 a1 c1 g1 (w.heap.size + 1) ys _ C o1 q1 q2 q3' q4).mono ?_
      rintro e w2 ⟨t, zs, R, ⟨a2, c2, g2, rfl, o2, p1, p2, p3⟩, n2⟩
      obtain ⟨k1, k2, k3, k4, k5⟩ := two_kept (nxt n1 n2)
      have N2 := nxt N1 n2
      clear o1 q1 q2 q3 n1 N1 n2 C
      go_wp2
      obtain ⟨o3, N3⟩ := two_laid (u := .bool t) (v := .slice a2 zs.length c2) N2 o2 (by omega)
      exact bodyPost_ret (v := .agg #[.bool t, .slice a2 zs.length c2]) (by simp [results, Try.results24, go_sem, k1, k2]) rfl ⟨t, zs, .inl ⟨⟨h1, h2⟩, R⟩, ⟨a2, c2, g2, rfl, o3, p1, p2, by omega⟩, N3⟩
    · have t2 : decide ((us.length : Int) ≤ 128) = false := by simp; omega
      go_enter Try.func24, Try.ntmps24
      go_wp2
      exact bodyPost_ret (v := .agg #[.bool false, .slice none 0 0]) (by simp [results, Try.results24, go_sem]) rfl ⟨false, [], .inr ⟨by omega, rfl, rfl⟩, NewRes.none (by simp), hal⟩
  · have t1 : decide ((xs.length : Int) ≤ 128) = false := by simp; omega
    go_enter Try.func24, Try.ntmps24
    go_wp2
    exact bodyPost_ret (v := .agg #[.bool false, .slice none 0 0]) (by simp [results, Try.results24, go_sem]) rfl ⟨false, [], .inr ⟨by omega, rfl, rfl⟩, NewRes.none (by simp), hal⟩
end Go.Proofs.Ythdjopkmlcdoeaa
