import Derived.Test.YtkglcainhkbgbaaGreatDoorSG21
namespace Go.Proofs.YtkglcainhkbgbaaGreatDoor
set_option maxRecDepth 100000
open Go.RowKit
theorem Blk.f5 {w : World} {g : Nat} {k : IntKind} {a b c d e : Int} (h : Blk w g k [a, b, c, d, e]) :
    (w.cell? ⟨g, 0, none⟩ = some (.int k a) ∧ w.cell? ⟨g, 1, none⟩ = some (.int k b) ∧ w.cell? ⟨g, 2, none⟩ = some (.int k c) ∧ w.cell? ⟨g, 3, none⟩ = some (.int k d) ∧ w.cell? ⟨g, 4, none⟩ = some (.int k e)) ∧
    (w.frozen? ⟨g, 0, none⟩ = false ∧ w.frozen? ⟨g, 1, none⟩ = false ∧ w.frozen? ⟨g, 2, none⟩ = false ∧ w.frozen? ⟨g, 3, none⟩ = false ∧ w.frozen? ⟨g, 4, none⟩ = false) :=
  ⟨⟨h.cell (i := 0) (by simp), h.cell (i := 1) (by simp), h.cell (i := 2) (by simp), h.cell (i := 3) (by simp), h.cell (i := 4) (by simp)⟩, h.free 0, h.free 1, h.free 2, h.free 3, h.free 4⟩
theorem Blk.f4 {w : World} {g : Nat} {k : IntKind} {a b c d : Int} (h : Blk w g k [a, b, c, d]) :
    (w.cell? ⟨g, 0, none⟩ = some (.int k a) ∧ w.cell? ⟨g, 1, none⟩ = some (.int k b) ∧ w.cell? ⟨g, 2, none⟩ = some (.int k c) ∧ w.cell? ⟨g, 3, none⟩ = some (.int k d)) ∧
    (w.frozen? ⟨g, 0, none⟩ = false ∧ w.frozen? ⟨g, 1, none⟩ = false ∧ w.frozen? ⟨g, 2, none⟩ = false ∧ w.frozen? ⟨g, 3, none⟩ = false) :=
  ⟨⟨h.cell (i := 0) (by simp), h.cell (i := 1) (by simp), h.cell (i := 2) (by simp), h.cell (i := 3) (by simp)⟩, h.free 0, h.free 1, h.free 2, h.free 3⟩
theorem below_set5 {B : Nat} {w w' : World} (h : Below B w w') {g : Nat} (hg : B ≤ g) (a b c d e : Value) :
    Below B w (((((w'.setCell ⟨g, 0, none⟩ a).setCell ⟨g, 1, none⟩ b).setCell ⟨g, 2, none⟩ c).setCell ⟨g, 3, none⟩ d).setCell ⟨g, 4, none⟩ e) :=
  ((((h.setCell hg _).setCell hg _).setCell hg _).setCell hg _).setCell hg _
theorem below_set4 {B : Nat} {w w' : World} (h : Below B w w') {g : Nat} (hg : B ≤ g) (a b c d : Value) :
    Below B w ((((w'.setCell ⟨g, 0, none⟩ a).setCell ⟨g, 1, none⟩ b).setCell ⟨g, 2, none⟩ c).setCell ⟨g, 3, none⟩ d) :=
  (((h.setCell hg _).setCell hg _).setCell hg _).setCell hg _
set_option maxHeartbeats 4000000 in
set_option maxRecDepth 100000 in
theorem readElement_any (w : World) (g : Nat) (a : Option Addr) (cap : Nat) (xs : List Int) (hr : Rd w g a .u8 xs) (hb : Byt xs) (hl : xs.length = 32) :
    Calls Tryz.prog 110 #[.slice a 32 cap] w fun e w' => e = .returned (ag5 (stl (rl (wv (fun j => xs.getD j 0) 32)))) ∧ Below w.heap.size w w' := by
  have hal : Below w.heap.size w (w.alloc (.cells #[.int .u64 0, .int .u64 0, .int .u64 0, .int .u64 0, .int .u64 0] 80)) := (Below.refl _ _).alloc (Nat.le_refl _) _
  have T0 := blk_box w .u64 80 0 0 0 0 0
  have sz0 : (w.alloc (.cells #[.int .u64 0, .int .u64 0, .int .u64 0, .int .u64 0, .int .u64 0] 80)).heap.size = w.heap.size + 1 := by simp
  have hW : W4 (wv (fun j => xs.getD j 0) 32) := fun j _ => wv_lt hb 32 j
  go_enter Tryz.func110, Tryz.ntmps110
  go_wp2_with fail
  generalize w.alloc (.cells #[.int .u64 0, .int .u64 0, .int .u64 0, .int .u64 0, .int .u64 0] 80) = wa at *
  refine (readWords_any wa g a cap xs (hr.up hal) hb hl).mono ?_
  rintro e w1 ⟨rfl, n1⟩
  have T1 := T0.up n1
  have N1 := nxt hal n1
  have l1 : w.heap.size + 1 ≤ w1.heap.size := by have := n1.size; omega
  obtain ⟨W, hWe⟩ : ∃ W, W = wv (fun j => xs.getD j 0) 32 := ⟨_, rfl⟩
  have hE : Hid (W = wv (fun j => xs.getD j 0) 32) := hWe
  rw [← hWe] at hW ⊢
  clear hal T0 sz0 n1 hb hr hWe
  have h0 := hW 0 (by omega); have h1 := hW 1 (by omega); have h2 := hW 2 (by omega); have h3 := hW 3 (by omega)
  have m0 := mask51 (W 0) h0.1 h0.2
  have o1 : bits BinOp.or IntKind.u64 (W 0 / 2251799813685248) (IntKind.u64.wrap (W 1 * 8192)) = W 0 / 2251799813685248 + W 1 * 8192 % 18446744073709551616 := by
    rw [IntKind.wrap_u64]; exact or64w (W 0 / 2251799813685248) (W 1) 13 8192 (by decide) (by decide) (by omega) (by omega)
  have o2 : bits BinOp.or IntKind.u64 (W 1 / 274877906944) (IntKind.u64.wrap (W 2 * 67108864)) = W 1 / 274877906944 + W 2 * 67108864 % 18446744073709551616 := by
    rw [IntKind.wrap_u64]; exact or64w (W 1 / 274877906944) (W 2) 26 67108864 (by decide) (by decide) (by omega) (by omega)
  have o3 : bits BinOp.or IntKind.u64 (W 2 / 33554432) (IntKind.u64.wrap (W 3 * 549755813888)) = W 2 / 33554432 + W 3 * 549755813888 % 18446744073709551616 := by
    rw [IntKind.wrap_u64]; exact or64w (W 2 / 33554432) (W 3) 39 549755813888 (by decide) (by decide) (by omega) (by omega)
  have m1 := mask51 (W 0 / 2251799813685248 + W 1 * 8192 % 18446744073709551616) (by omega) (by omega)
  have m2 := mask51 (W 1 / 274877906944 + W 2 * 67108864 % 18446744073709551616) (by omega) (by omega)
  have m3 := mask51 (W 2 / 33554432 + W 3 * 549755813888 % 18446744073709551616) (by omega) (by omega)
  simp only [ag4]
  go_wp2_with fail
  have n2 : Below w1.heap.size w1 (w1.alloc (.cells #[.int .u64 (W 0), .int .u64 (W 1), .int .u64 (W 2), .int .u64 (W 3)] 40)) := (Below.refl _ _).alloc (Nat.le_refl _) _
  generalize w1.alloc (.cells #[.int .u64 (W 0), .int .u64 (W 1), .int .u64 (W 2), .int .u64 (W 3)] 40) = w2 at *
  refine (settle_any w2 (rl W) (rl_ok hW).2).mono ?_
  rintro e w3 ⟨rfl, n3⟩
  have T3 := (T1.up n2).up n3
  have N3 := nxt (nxt N1 n2) n3
  obtain ⟨f, hf⟩ : ∃ f, f = stl (rl W) := ⟨_, rfl⟩
  have hF : Hid (f = stl (rl W)) := hf
  rw [← hf]
  obtain ⟨⟨p0, p1, p2, p3, p4⟩, ⟨g0, g1, g2, g3, g4⟩⟩ := T3.f5
  clear T1 n2 n3 T3 N1 m0 m1 m2 m3 o1 o2 o3 hf h0 h1 h2 h3 hW
  simp only [ag5]
  go_wp2
  refine bodyPost_ret (v := ag5 f) (by simp [ag5, results, Tryz.results110, go_sem, p0, p1, p2, p3, p4]) rfl ⟨by rw [hF.out, hE.out], ?_⟩
  exact below_set5 N3 (Nat.le_refl _) _ _ _ _ _
set_option maxHeartbeats 4000000 in
set_option maxRecDepth 100000 in
theorem words_any (w : World) (e : Nat → Int) (he : Lm e) :
    Calls Tryz.prog 85 #[ag5 e] w fun r w' => r = .returned (ag4 (lw e)) ∧ Below w.heap.size w w' := by
  have h0 := he 0 (by omega); have h1 := he 1 (by omega); have h2 := he 2 (by omega); have h3 := he 3 (by omega); have h4 := he 4 (by omega)
  have o0 : bits BinOp.or IntKind.u64 (e 0) (IntKind.u64.wrap (e 1 * 2251799813685248)) = e 0 + e 1 * 2251799813685248 % 18446744073709551616 := by
    rw [IntKind.wrap_u64]; exact or64w (e 0) (e 1) 51 2251799813685248 (by decide) (by decide) (by omega) (by omega)
  have o1 : bits BinOp.or IntKind.u64 (e 1 / 8192) (IntKind.u64.wrap (e 2 * 274877906944)) = e 1 / 8192 + e 2 * 274877906944 % 18446744073709551616 := by
    rw [IntKind.wrap_u64]; exact or64w (e 1 / 8192) (e 2) 38 274877906944 (by decide) (by decide) (by omega) (by omega)
  have o2 : bits BinOp.or IntKind.u64 (e 2 / 67108864) (IntKind.u64.wrap (e 3 * 33554432)) = e 2 / 67108864 + e 3 * 33554432 % 18446744073709551616 := by
    rw [IntKind.wrap_u64]; exact or64w (e 2 / 67108864) (e 3) 25 33554432 (by decide) (by decide) (by omega) (by omega)
  have o3 : bits BinOp.or IntKind.u64 (e 3 / 549755813888) (e 4 * 4096) = e 3 / 549755813888 + e 4 * 4096 :=
    or64 (e 3 / 549755813888) (e 4) 12 4096 (by decide) (by omega) (by omega) (by omega) (by omega) (by decide)
  have z3 : Hid (e 4 * 4096 % 18446744073709551616 = e 4 * 4096) := by show _ = _; omega
  simp only [ag5]
  go_enter Tryz.func85, Tryz.ntmps85
  go_wp2
  refine bodyPost_ret (v := .agg #[.int .u64 (e 0 + e 1 * 2251799813685248 % 18446744073709551616), .int .u64 (e 1 / 8192 + e 2 * 274877906944 % 18446744073709551616), .int .u64 (e 2 / 67108864 + e 3 * 33554432 % 18446744073709551616), .int .u64 (e 3 / 549755813888 + e 4 * 4096)])
    (by simp [results, Tryz.results85, go_sem]) rfl ⟨?_, ((Below.refl _ _).alloc (Nat.le_refl _) _).alloc (by simp) _⟩
  simp only [ag4, lw]
  rw [z3.out]
end Go.Proofs.YtkglcainhkbgbaaGreatDoor
