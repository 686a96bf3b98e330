
/-
  The fault of a step; the program's and the model's (written by gens/stpf.py).
-/
import Derived.Test.YtojpdongbkdciaaDoorStpC
import Derived.Lib.LaidTab
namespace Go.Proofs.YtojpdongbkdciaaDoor
set_option maxRecDepth 100000
open Go Go.RowKit

/-- What is laid of the steps' limits: for each kind the greatest end, number and count, and how many bytes. -/
def stT : List Int := [0, 0, 0, 0, 1, 0, 0, 2, 1, 0, 0, 0, 1, 1, 0, 0, 1, 253402300799, 0, 0, 1, 0, 65536, 0, 1, 0, 65536, 0, 1, 65536, 0, 1, 1, 0, 0, 2, 1, 65536, 65536, 0, 0, 0, 0, 0]
def HasSt (w : World) : Prop := ∀ k, k < 44 → w.cell? ⟨0, k, none⟩ = some (.int .i64 (stT.getD k 0))
theorem HasSt.up {w w' : World} (h : HasSt w) (n : Below w.heap.size w w') : HasSt w' := fun k hk => (n.cell (p := ⟨0, k, none⟩) (block_lt_of_cell (h k hk))).trans (h k hk)
theorem HasSt.lt {w : World} (h : HasSt w) : 0 < w.heap.size := block_lt_of_cell (h 0 (by decide))
def stA (k i : Nat) : Int := stT.getD (k * 4 + i) 0
/-- Whether so many bytes are as they may be. -/
def fitD (d : Int) (n : Nat) : Bool := if d = 0 then (n : Int) == 0 else if d = 1 then (n : Int) == 1 else true
theorem fits_any (w : World) (d : Int) (n : Nat) :
    Calls Tryd.prog 12 #[.int .i64 d, .int .i64 n] w fun e w' => e = .returned (.bool (fitD d n)) ∧ w' = w := by
  unfold fitD
  by_cases h0 : d = 0
  · subst h0
    rw [if_pos rfl]
    go_enter Tryd.func12, Tryd.ntmps12
    go_wp2
    go_ret
    exact ⟨rfl, rfl⟩
  · rw [if_neg h0]
    have t0 : (d == 0) = false := by simp [h0]
    by_cases h1 : d = 1
    · subst h1
      rw [if_pos rfl]
      go_enter Tryd.func12, Tryd.ntmps12
      go_wp2
      go_ret
      exact ⟨rfl, rfl⟩
    · rw [if_neg h1]
      have t1 : (d == 1) = false := by simp [h1]
      go_enter Tryd.func12, Tryd.ntmps12
      go_wp2
      go_ret
      exact ⟨rfl, rfl⟩
/-- What is wrong with a step of which the limits are e, m, q, d. -/
def stW (e m q d en nu co : Int) (n : Nat) : Int :=
  if en < 0 then 2 else if e < en then 2 else if nu < 0 then 3 else if m < nu then 3 else if co < 0 then 4 else if q < co then 4 else if fitD d n = true then 0 else 5
def stV (ki en nu co : Int) (n : Nat) : Int :=
  if ki < 1 then 1 else if 10 < ki then 1 else stW (stA ki.toNat 0) (stA ki.toNat 1) (stA ki.toNat 2) (stA ki.toNat 3) en nu co n
theorem iLm : (Tryd.prog.info? 36).map (·.size) = some 4 := by kernel_rfl
theorem rowLm : ∃ d, Tryd.prog.underlying 36 = some d ∧ d.isRow = true := ⟨_, Tryd.underlying36, rfl⟩
set_option maxRecDepth 100000 in
set_option maxHeartbeats 4000000 in
theorem implStep_any (w : World) (ki en nu co : Int) (a : Option Addr) (n c : Nat) (hT : HasSt w) :
    Calls Tryd.prog 7 #[.agg #[.int .i64 ki, .int .i64 en, .int .i64 nu, .int .i64 co, .slice a n c]] w fun e w' => e = .returned (.int .i64 (stV ki en nu co n)) ∧ Below w.heap.size w w' := by
  have n1 : Below w.heap.size w (w.alloc (.cells #[.int .i64 ki, .int .i64 en, .int .i64 nu, .int .i64 co, .slice a n c] 27)) := (Below.refl _ _).alloc (Nat.le_refl _) _
  unfold stV
  by_cases h0 : ki < 1
  · rw [if_pos h0]
    go_enter Tryd.func7, Tryd.ntmps7
    go_wp2
    go_ret
    exact ⟨rfl, n1⟩
  rw [if_neg h0]
  by_cases h1 : 10 < ki
  · rw [if_pos h1]
    go_enter Tryd.func7, Tryd.ntmps7
    go_wp2
    go_ret
    exact ⟨rfl, n1⟩
  rw [if_neg h1]
  obtain ⟨k, rfl⟩ : ∃ k : Nat, ki = (k : Int) := ⟨ki.toNat, by omega⟩
  rw [Int.toNat_natCast]
  have R := hT.up n1
  have c0 : (w.alloc (.cells #[.int .i64 (k : Int), .int .i64 en, .int .i64 nu, .int .i64 co, .slice a n c] 27)).cell? ⟨0, k * 4, none⟩ = some (.int .i64 (stA k 0)) := R (k * 4) (by omega)
  have c1 : (w.alloc (.cells #[.int .i64 (k : Int), .int .i64 en, .int .i64 nu, .int .i64 co, .slice a n c] 27)).cell? ⟨0, k * 4 + 1, none⟩ = some (.int .i64 (stA k 1)) := R (k * 4 + 1) (by omega)
  have c2 : (w.alloc (.cells #[.int .i64 (k : Int), .int .i64 en, .int .i64 nu, .int .i64 co, .slice a n c] 27)).cell? ⟨0, k * 4 + 2, none⟩ = some (.int .i64 (stA k 2)) := R (k * 4 + 2) (by omega)
  have c3 : (w.alloc (.cells #[.int .i64 (k : Int), .int .i64 en, .int .i64 nu, .int .i64 co, .slice a n c] 27)).cell? ⟨0, k * 4 + 3, none⟩ = some (.int .i64 (stA k 3)) := R (k * 4 + 3) (by omega)
  generalize stA k 0 = e at *
  generalize stA k 1 = m at *
  generalize stA k 2 = q at *
  generalize stA k 3 = d at *
  have FT := fun W => fits_any W d n
  unfold stW
  generalize fitD d n = ft at *
  have kl : (k : Int) < 11 := by omega
  have Q0 : RwC (w.alloc (.cells #[.int .i64 (k : Int), .int .i64 en, .int .i64 nu, .int .i64 co, .slice a n c] 27)) w.heap.size [.int .i64 (k : Int), .int .i64 en, .int .i64 nu, .int .i64 co, .slice a n c] 27 := RwC.new w _ _
  have Q1 : RwC ((w.alloc (.cells #[.int .i64 (k : Int), .int .i64 en, .int .i64 nu, .int .i64 co, .slice a n c] 27)).alloc (.cells #[.int .i64 e, .int .i64 m, .int .i64 q, .int .i64 d] 36)) (w.heap.size + 1) [.int .i64 e, .int .i64 m, .int .i64 q, .int .i64 d] 36 := by have := RwC.new (w.alloc (.cells #[.int .i64 (k : Int), .int .i64 en, .int .i64 nu, .int .i64 co, .slice a n c] 27)) [.int .i64 e, .int .i64 m, .int .i64 q, .int .i64 d] 36; simpa using this
  replace Q0 := Q0.up ((Below.refl _ _).alloc (Nat.le_refl _) (.cells #[.int .i64 e, .int .i64 m, .int .i64 q, .int .i64 d] 36))
  have p1 : ((w.alloc (.cells #[.int .i64 (k : Int), .int .i64 en, .int .i64 nu, .int .i64 co, .slice a n c] 27)).alloc (.cells #[.int .i64 e, .int .i64 m, .int .i64 q, .int .i64 d] 36)).cell? ⟨w.heap.size, 1, none⟩ = some (.int .i64 en) := Q0.cell 1
  have p2 : ((w.alloc (.cells #[.int .i64 (k : Int), .int .i64 en, .int .i64 nu, .int .i64 co, .slice a n c] 27)).alloc (.cells #[.int .i64 e, .int .i64 m, .int .i64 q, .int .i64 d] 36)).cell? ⟨w.heap.size, 2, none⟩ = some (.int .i64 nu) := Q0.cell 2
  have p3 : ((w.alloc (.cells #[.int .i64 (k : Int), .int .i64 en, .int .i64 nu, .int .i64 co, .slice a n c] 27)).alloc (.cells #[.int .i64 e, .int .i64 m, .int .i64 q, .int .i64 d] 36)).cell? ⟨w.heap.size, 3, none⟩ = some (.int .i64 co) := Q0.cell 3
  have p4 : ((w.alloc (.cells #[.int .i64 (k : Int), .int .i64 en, .int .i64 nu, .int .i64 co, .slice a n c] 27)).alloc (.cells #[.int .i64 e, .int .i64 m, .int .i64 q, .int .i64 d] 36)).cell? ⟨w.heap.size, 4, none⟩ = some (.slice a n c) := Q0.cell 4
  have l0 : ((w.alloc (.cells #[.int .i64 (k : Int), .int .i64 en, .int .i64 nu, .int .i64 co, .slice a n c] 27)).alloc (.cells #[.int .i64 e, .int .i64 m, .int .i64 q, .int .i64 d] 36)).cell? ⟨w.heap.size + 1, 0, none⟩ = some (.int .i64 e) := Q1.cell 0
  have l1 : ((w.alloc (.cells #[.int .i64 (k : Int), .int .i64 en, .int .i64 nu, .int .i64 co, .slice a n c] 27)).alloc (.cells #[.int .i64 e, .int .i64 m, .int .i64 q, .int .i64 d] 36)).cell? ⟨w.heap.size + 1, 1, none⟩ = some (.int .i64 m) := Q1.cell 1
  have l2 : ((w.alloc (.cells #[.int .i64 (k : Int), .int .i64 en, .int .i64 nu, .int .i64 co, .slice a n c] 27)).alloc (.cells #[.int .i64 e, .int .i64 m, .int .i64 q, .int .i64 d] 36)).cell? ⟨w.heap.size + 1, 2, none⟩ = some (.int .i64 q) := Q1.cell 2
  have l3 : ((w.alloc (.cells #[.int .i64 (k : Int), .int .i64 en, .int .i64 nu, .int .i64 co, .slice a n c] 27)).alloc (.cells #[.int .i64 e, .int .i64 m, .int .i64 q, .int .i64 d] 36)).cell? ⟨w.heap.size + 1, 3, none⟩ = some (.int .i64 d) := Q1.cell 3
  clear Q0 Q1
  have n2 : Below w.heap.size w ((w.alloc (.cells #[.int .i64 (k : Int), .int .i64 en, .int .i64 nu, .int .i64 co, .slice a n c] 27)).alloc (.cells #[.int .i64 e, .int .i64 m, .int .i64 q, .int .i64 d] 36)) := n1.alloc (by have := n1.size; omega) _
  clear hT R
  generalize hR : (if en < 0 then (2 : Int) else if e < en then 2 else if nu < 0 then 3 else if m < nu then 3 else if co < 0 then 4 else if q < co then 4 else if ft = true then 0 else 5) = R
  go_enter Tryd.func7, Tryd.ntmps7
  go_upto_region 4 with fail
  generalize ((w.alloc (.cells #[.int .i64 (k : Int), .int .i64 en, .int .i64 nu, .int .i64 co, .slice a n c] 27)).alloc (.cells #[.int .i64 e, .int .i64 m, .int .i64 q, .int .i64 d] 36)) = wa at *
  clear c0 c1 c2 c3 n1
  by_cases h2 : en < 0
  · rw [if_pos h2] at hR
    go_wp2
    go_ret
    exact ⟨by rw [← hR]; rfl, n2⟩
  rw [if_neg h2] at hR
  by_cases h3 : e < en
  · rw [if_pos h3] at hR
    go_wp2
    go_ret
    exact ⟨by rw [← hR]; rfl, n2⟩
  rw [if_neg h3] at hR
  go_upto_region 6 with fail
  by_cases h4 : nu < 0
  · rw [if_pos h4] at hR
    go_wp2
    go_ret
    exact ⟨by rw [← hR]; rfl, n2⟩
  rw [if_neg h4] at hR
  by_cases h5 : m < nu
  · rw [if_pos h5] at hR
    go_wp2
    go_ret
    exact ⟨by rw [← hR]; rfl, n2⟩
  rw [if_neg h5] at hR
  go_upto_region 8 with fail
  by_cases h6 : co < 0
  · rw [if_pos h6] at hR
    go_wp2
    go_ret
    exact ⟨by rw [← hR]; rfl, n2⟩
  rw [if_neg h6] at hR
  by_cases h7 : q < co
  · rw [if_pos h7] at hR
    go_wp2
    go_ret
    exact ⟨by rw [← hR]; rfl, n2⟩
  rw [if_neg h7] at hR
  go_upto_region 10 with fail
  go_wp2_with fail
  refine (FT _).mono ?_
  rintro e1 w1 ⟨rfl, rfl⟩
  cases ft with
  | true =>
    rw [if_pos rfl] at hR
    go_wp2
    go_ret
    exact ⟨by rw [← hR]; rfl, n2⟩
  | false =>
    rw [if_neg (by decide)] at hR
    go_wp2
    go_ret
    exact ⟨by rw [← hR]; rfl, n2⟩
end Go.Proofs.YtojpdongbkdciaaDoor
