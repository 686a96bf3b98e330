
/-
  Windows and the reports of ends and of a channel, held against each other (written by gens/kme.py).
-/
import Derived.Test.YtjjoimlnpbelpaaKmE
namespace Go.Proofs.Ytjjoimlnpbelpaa
open Go Go.RowKit

set_option maxRecDepth 100000 in
set_option maxHeartbeats 16000000 in
theorem eqWindow_same (w : World) (wd : Int) (g g' : Nat) (a a' : Option Addr) (c c' : Nat) (ms : List Mrk) (ps ps' : List Plm) (h : RdK w g a ms ps) (h' : RdK w g' a' ms ps') (hn : ms.length ≤ 1048576) (hz : ∀ i, i < ms.length → (ms.getD i mrk0).id.length ≤ 1048576) :
    Calls Try.prog 10 #[.agg #[.int .i64 wd, .slice a ms.length c], .agg #[.int .i64 wd, .slice a' ms.length c']] w fun e w' => e = .returned (.bool true) ∧ Below w.heap.size w w' := by
  have n1 : Below w.heap.size w (w.alloc (.cells #[.int .i64 wd, .slice a ms.length c] 29)) := (Below.refl _ _).alloc (Nat.le_refl _) _
  have n2 : Below (w.alloc (.cells #[.int .i64 wd, .slice a ms.length c] 29)).heap.size (w.alloc (.cells #[.int .i64 wd, .slice a ms.length c] 29)) ((w.alloc (.cells #[.int .i64 wd, .slice a ms.length c] 29)).alloc (.cells #[.int .i64 wd, .slice a' ms.length c'] 29)) := (Below.refl _ _).alloc (Nat.le_refl _) _
  have P0 : RwC (w.alloc (.cells #[.int .i64 wd, .slice a ms.length c] 29)) w.heap.size [.int .i64 wd, .slice a ms.length c] 29 := RwC.new w _ _
  have P1 : RwC ((w.alloc (.cells #[.int .i64 wd, .slice a ms.length c] 29)).alloc (.cells #[.int .i64 wd, .slice a' ms.length c'] 29)) (w.heap.size + 1) [.int .i64 wd, .slice a' ms.length c'] 29 := by have := RwC.new (w.alloc (.cells #[.int .i64 wd, .slice a ms.length c] 29)) [.int .i64 wd, .slice a' ms.length c'] 29; simpa using this
  have N := nxt n1 n2
  replace P0 := P0.up n2
  have E0 := hide (fun W (n : Below w.heap.size w W) => eqMarkS_same W g g' a a' c c' ms ps ps' (h.up n) (h'.up n) hn hz)
  clear n1 n2
  go_enter Try.func10, Try.ntmps10
  have p0 : ((w.alloc (.cells #[.int .i64 wd, .slice a ms.length c] 29)).alloc (.cells #[.int .i64 wd, .slice a' ms.length c'] 29)).cell? ⟨w.heap.size, 0, none⟩ = some (.int .i64 wd) := P0.cell 0
  have r0 : ((w.alloc (.cells #[.int .i64 wd, .slice a ms.length c] 29)).alloc (.cells #[.int .i64 wd, .slice a' ms.length c'] 29)).cell? ⟨w.heap.size + 1, 0, none⟩ = some (.int .i64 wd) := P1.cell 0
  have p1 : ((w.alloc (.cells #[.int .i64 wd, .slice a ms.length c] 29)).alloc (.cells #[.int .i64 wd, .slice a' ms.length c'] 29)).cell? ⟨w.heap.size, 1, none⟩ = some (.slice a ms.length c) := P0.cell 1
  have r1 : ((w.alloc (.cells #[.int .i64 wd, .slice a ms.length c] 29)).alloc (.cells #[.int .i64 wd, .slice a' ms.length c'] 29)).cell? ⟨w.heap.size + 1, 1, none⟩ = some (.slice a' ms.length c') := P1.cell 1
  go_wp2_with fail
  generalize (w.alloc (.cells #[.int .i64 wd, .slice a ms.length c] 29)).alloc (.cells #[.int .i64 wd, .slice a' ms.length c'] 29) = wa at *
  refine (E0.out _ N).mono ?_
  rintro e w1 ⟨rfl, m⟩
  replace N := nxt N m
  replace P0 := P0.up m
  replace P1 := P1.up m
  clear m E0 p0 r0 p1 r1
  go_wp2
  go_ret
  exact ⟨rfl, N⟩
end Go.Proofs.Ytjjoimlnpbelpaa
