import Derived.Test.YthonlkghkdjagaaGreatDoorGX21
namespace Go.Proofs.YthonlkghkdjagaaGreatDoor
set_option maxRecDepth 100000
open Go.RowKit
theorem Blk.f5 {w : World} {g : Nat} {k : IntKind} {a b c d e : Int} (h : Blk w g k [a, b, c, d, e]) :
    (w.cell? ⟨g, 0, none⟩ = some (.int k a) ∧ w.cell? ⟨g, 1, none⟩ = some (.int k b) ∧ w.cell? ⟨g, 2, none⟩ = some (.int k c) ∧ w.cell? ⟨g, 3, none⟩ = some (.int k d) ∧ w.cell? ⟨g, 4, none⟩ = some (.int k e)) ∧
    (w.frozen? ⟨g, 0, none⟩ = false ∧ w.frozen? ⟨g, 1, none⟩ = false ∧ w.frozen? ⟨g, 2, none⟩ = false ∧ w.frozen? ⟨g, 3, none⟩ = false ∧ w.frozen? ⟨g, 4, none⟩ = false) :=
  ⟨⟨h.cell (i := 0) (by simp), h.cell (i := 1) (by simp), h.cell (i := 2) (by simp), h.cell (i := 3) (by simp), h.cell (i := 4) (by simp)⟩, h.free 0, h.free 1, h.free 2, h.free 3, h.free 4⟩
theorem Blk.f4 {w : World} {g : Nat} {k : IntKind} {a b c d : Int} (h : Blk w g k [a, b, c, d]) :
    (w.cell? ⟨g, 0, none⟩ = some (.int k a) ∧ w.cell? ⟨g, 1, none⟩ = some (.int k b) ∧ w.cell? ⟨g, 2, none⟩ = some (.int k c) ∧ w.cell? ⟨g, 3, none⟩ = some (.int k d)) ∧
    (w.frozen? ⟨g, 0, none⟩ = false ∧ w.frozen? ⟨g, 1, none⟩ = false ∧ w.frozen? ⟨g, 2, none⟩ = false ∧ w.frozen? ⟨g, 3, none⟩ = false) :=
  ⟨⟨h.cell (i := 0) (by simp), h.cell (i := 1) (by simp), h.cell (i := 2) (by simp), h.cell (i := 3) (by simp)⟩, h.free 0, h.free 1, h.free 2, h.free 3⟩
theorem below_set5 {B : Nat} {w w' : World} (h : Below B w w') {g : Nat} (hg : B ≤ g) (a b c d e : Value) :
    Below B w (((((w'.setCell ⟨g, 0, none⟩ a).setCell ⟨g, 1, none⟩ b).setCell ⟨g, 2, none⟩ c).setCell ⟨g, 3, none⟩ d).setCell ⟨g, 4, none⟩ e) :=
  ((((h.setCell hg _).setCell hg _).setCell hg _).setCell hg _).setCell hg _
theorem below_set4 {B : Nat} {w w' : World} (h : Below B w w') {g : Nat} (hg : B ≤ g) (a b c d : Value) :
    Below B w ((((w'.setCell ⟨g, 0, none⟩ a).setCell ⟨g, 1, none⟩ b).setCell ⟨g, 2, none⟩ c).setCell ⟨g, 3, none⟩ d) :=
  (((h.setCell hg _).setCell hg _).setCell hg _).setCell hg _
set_option maxHeartbeats 4000000 in
set_option maxRecDepth 100000 in
theorem words_any (w : World) (e : Nat → Int) (he : Lm e) :
    Calls Tryz.prog 148 #[ag5 e] w fun r w' => r = .returned (ag4 (lw e)) ∧ Below w.heap.size w w' := by
  have h0 := he 0 (by omega); have h1 := he 1 (by omega); have h2 := he 2 (by omega); have h3 := he 3 (by omega); have h4 := he 4 (by omega)
  have o0 : bits BinOp.or IntKind.u64 (e 0) (IntKind.u64.wrap (e 1 * 2251799813685248)) = e 0 + e 1 * 2251799813685248 % 18446744073709551616 := by
    rw [IntKind.wrap_u64]; exact or64w (e 0) (e 1) 51 2251799813685248 (by decide) (by decide) (by omega) (by omega)
  have o1 : bits BinOp.or IntKind.u64 (e 1 / 8192) (IntKind.u64.wrap (e 2 * 274877906944)) = e 1 / 8192 + e 2 * 274877906944 % 18446744073709551616 := by
    rw [IntKind.wrap_u64]; exact or64w (e 1 / 8192) (e 2) 38 274877906944 (by decide) (by decide) (by omega) (by omega)
  have o2 : bits BinOp.or IntKind.u64 (e 2 / 67108864) (IntKind.u64.wrap (e 3 * 33554432)) = e 2 / 67108864 + e 3 * 33554432 % 18446744073709551616 := by
    rw [IntKind.wrap_u64]; exact or64w (e 2 / 67108864) (e 3) 25 33554432 (by decide) (by decide) (by omega) (by omega)
  have o3 : bits BinOp.or IntKind.u64 (e 3 / 549755813888) (e 4 * 4096) = e 3 / 549755813888 + e 4 * 4096 :=
    or64 (e 3 / 549755813888) (e 4) 12 4096 (by decide) (by omega) (by omega) (by omega) (by omega) (by decide)
  have z3 : Hid (e 4 * 4096 % 18446744073709551616 = e 4 * 4096) := by show _ = _; omega
  simp only [ag5]
  go_enter Tryz.func148, Tryz.ntmps148
  go_wp2
  refine bodyPost_ret (v := .agg #[.int .u64 (e 0 + e 1 * 2251799813685248 % 18446744073709551616), .int .u64 (e 1 / 8192 + e 2 * 274877906944 % 18446744073709551616), .int .u64 (e 2 / 67108864 + e 3 * 33554432 % 18446744073709551616), .int .u64 (e 3 / 549755813888 + e 4 * 4096)])
    (by simp [results, Tryz.results148, go_sem]) rfl ⟨?_, ((Below.refl _ _).alloc (Nat.le_refl _) _).alloc (by simp) _⟩
  simp only [ag4, lw]
  rw [z3.out]
end Go.Proofs.YthonlkghkdjagaaGreatDoor
