
/-
  Windows and reports, counted (written by gens/kmh.py).
-/
import Derived.Test.YtpbniihhpfbamaaDoorKmE
namespace Go.Proofs.YtpbniihhpfbamaaDoor
set_option maxRecDepth 100000
open Go Go.RowKit

theorem szByteB (w : World) (a : Option Addr) (c n : Nat) (L : Int) (hn : n < 9223372036854775808) (h0 : 0 ≤ L) (h1 : L ≤ 1048576) :
    Calls Tryd.prog 30 #[.slice a n c, .int .i64 L] w fun e w' => (∃ r, e = .returned (.int .i64 r) ∧ LftK L n r) ∧ Below w.heap.size w w' :=
  (szByteK_r w a c n L hn h0 h1).mono (by rintro e w' ⟨h, rfl⟩; exact ⟨h, Below.refl _ _⟩)
theorem szIntB (w : World) (a : Option Addr) (c n : Nat) (L : Int) (hn : n < 9223372036854775808) (h0 : 0 ≤ L) (h1 : L ≤ 1048576) :
    Calls Tryd.prog 50 #[.slice a n c, .int .i64 L] w fun e w' => (∃ r, e = .returned (.int .i64 r) ∧ LftK L n r) ∧ Below w.heap.size w w' :=
  (szIntS_r w a c n L hn h0 h1).mono (by rintro e w' ⟨h, rfl⟩; exact ⟨h, Below.refl _ _⟩)
theorem szSavB (w : World) (md li : Int) (ho pr : ByteArray) (ea : Int) (a : Option Addr) (n c : Nat) (a' : Option Addr) (n' c' : Nat) (a'' : Option Addr) (n'' c'' : Nat) (L : Int) (hn : n < 9223372036854775808) (hn' : n' < 9223372036854775808) (hn'' : n'' < 9223372036854775808) (hh : ho.size < 9223372036854775808) (hp : pr.size < 9223372036854775808) (h0 : 0 ≤ L) (h1 : L ≤ 1048576) :
    Calls Tryd.prog 10 #[.agg #[.slice a n c, .slice a' n' c', .slice a'' n'' c'', .int .i64 md, .int .i64 li, .string ho, .string pr, .int .i64 ea], .int .i64 L] w fun e w' => (∃ r, e = .returned (.int .i64 r) ∧ LftK L ((n : Int) + (n' : Int) + (n'' : Int) + (ho.size : Int) + (pr.size : Int)) r) ∧ Below w.heap.size w w' := by
  refine (szSaved_any w md li ho pr ea a n c a' n' c' a'' n'' c'' L hn hn' hn'' hh hp h0 h1).mono ?_
  rintro e w' ⟨rfl, n1⟩
  refine ⟨⟨_, rfl, ?_⟩, n1⟩
  by_cases h : L < (n : Int) + (n' : Int) + (n'' : Int) + (ho.size : Int) + (pr.size : Int)
  · rw [if_pos h]
    exact .inl ⟨h, rfl⟩
  · rw [if_neg h]
    exact .inr ⟨by omega, by omega⟩
set_option maxRecDepth 100000 in
set_option maxHeartbeats 16000000 in
theorem szWindow_r (w : World) (wd : Int) (g : Nat) (a : Option Addr) (c : Nat) (ms : List Mrk) (ps : List Plm) (h : RdK w g a ms ps) (hn : ms.length ≤ 9223372036854775807) (hz : ∀ i, i < ms.length → (ms.getD i mrk0).id.length < 9223372036854775808) (L : Int) (h0 : 0 ≤ L) (h1 : L ≤ 1048576) :
    Calls Tryd.prog 11 #[.agg #[.int .i64 wd, .slice a ms.length c], .int .i64 L] w fun e w' => (∃ r, e = .returned (.int .i64 r) ∧ LftK L ((ms.length : Int) + (sumK ms : Int)) r) ∧ Below w.heap.size w w' := by
  have N : Below w.heap.size w (w.alloc (.cells #[.int .i64 wd, .slice a ms.length c] 28)) := (Below.refl _ _).alloc (Nat.le_refl _) _
  have P0 : RwC (w.alloc (.cells #[.int .i64 wd, .slice a ms.length c] 28)) w.heap.size [.int .i64 wd, .slice a ms.length c] 28 := RwC.new w _ _
  have HQ0 : Hid (L = L) := rfl
  go_enter Tryd.func11, Tryd.ntmps11
  have pc : (w.alloc (.cells #[.int .i64 wd, .slice a ms.length c] 28)).cell? ⟨w.heap.size, 1, none⟩ = some (.slice a ms.length c) := P0.cell 1
  have SZ := hide (szMarkS_r (w.alloc (.cells #[.int .i64 wd, .slice a ms.length c] 28)) g a c ms ps L (h.up N) hn hz h0 h1)
  have G := hide h0
  have K := hide h1
  clear h0 h1
  go_wp2_with fail
  generalize w.alloc (.cells #[.int .i64 wd, .slice a ms.length c] 28) = wa at *
  refine SZ.out.mono ?_
  rintro e w1 ⟨⟨r, rfl, hr⟩, m⟩
  replace N := nxt N m
  replace P0 := P0.up m
  clear m SZ pc 
  rcases hr with ⟨h2, rfl⟩ | ⟨h2, rfl⟩
  · have FA : Hid (L < (ms.length : Int) + (sumK ms : Int)) := by have := HQ0.out; show L < _; omega
    clear h2 G K HQ0 P0
    go_wp2
    go_ret
    exact ⟨⟨_, rfl, .inl ⟨FA.out, rfl⟩⟩, N⟩
  have t0 : decide (L - ((ms.length : Int) + (sumK ms : Int)) < 0) = false := decide_eq_false (by omega)
  obtain ⟨q1, e0⟩ : ∃ x : Int, x = L - ((ms.length : Int) + (sumK ms : Int)) := ⟨_, rfl⟩
  have HQ1 : Hid (q1 = L - (((ms.length : Int) + (sumK ms : Int)))) := by have := HQ0.out; show q1 = _; omega
  have g1 : 0 ≤ q1 := by omega
  have k1 : q1 ≤ 1048576 := by have := G.out; have := K.out; omega
  rw [← e0] at t0 ⊢
  clear h2 G K e0 HQ0
  have FI : Hid (LftK L ((ms.length : Int) + (sumK ms : Int)) q1) := .inr ⟨by have := HQ1.out; omega, by have := HQ1.out; omega⟩
  clear HQ1
  go_wp2
  go_ret
  exact ⟨⟨_, rfl, FI.out⟩, N⟩
end Go.Proofs.YtpbniihhpfbamaaDoor
