
/-
  Records: kinds, a head's fault and its bytes; the program's.
-/
import Derived.Test.YtjfggcefdobooaaDoorErS
import Derived.Test.YtjfggcefdobooaaDoorNbA
import Derived.Deep.RegionHeld3
import Derived.Deep.DeepCutAuto
namespace Go.Proofs.YtjfggcefdobooaaDoor
set_option maxRecDepth 100000
open Go Go.RowKit

/-- Is it a record's kind? -/
def isK (k : Int) : Bool := k == 21 || k == 22 || k == 23
theorem isKind_any (w : World) (k : Int) : Calls Tryd.prog 25 #[.int .i64 k] w fun e w' => e = .returned (.bool (isK k)) ∧ w' = w := by
  by_cases h0 : k = 21
  · subst h0
    go_enter Tryd.func25, Tryd.ntmps25
    go_wp2
    go_ret
    exact ⟨rfl, rfl⟩
  by_cases h1 : k = 22
  · subst h1
    go_enter Tryd.func25, Tryd.ntmps25
    go_wp2
    go_ret
    exact ⟨rfl, rfl⟩
  by_cases h2 : k = 23
  · subst h2
    go_enter Tryd.func25, Tryd.ntmps25
    go_wp2
    go_ret
    exact ⟨rfl, rfl⟩
  have e : isK k = false := by simp [isK, h0, h1, h2]
  have q0 : (k == 21) = false := by simp [h0]
  have q1 : (k == 22) = false := by simp [h1]
  have q2 : (k == 23) = false := by simp [h2]
  have q3 : Hid ((k == 21 || k == 22 || k == 23) = false) := by show _ = _; rw [q0, q1, q2]; rfl
  rw [e]
  go_enter Tryd.func25, Tryd.ntmps25
  go_wp2
  go_ret
  exact ⟨by first | rfl | (rw [show false = (k == 21 || k == 22 || k == 23) from q3.out.symm]; rfl), rfl⟩
/-- A head's fault. -/
def hfV (a1 a2 : Addr) (k n : Int) : Value := if isK k = true then (if 1 ≤ n ∧ n ≤ 2321 then .nilIface else erV a2) else erV a1
set_option maxHeartbeats 1000000 in
theorem fault_any (w : World) (k n : Int) (a1 a2 : Addr) (h1 : Sen w 1 a1) (h2 : Sen w 2 a2) :
    Calls Tryd.prog 18 #[.agg #[.int .i64 k, .int .i64 n]] w fun e w' => e = .returned (hfV a1 a2 k n) ∧ Below w.heap.size w w' := by
  have n0 : Below w.heap.size w (w.alloc (.cells #[.int .i64 k, .int .i64 n] 43)) := (Below.refl _ _).alloc (Nat.le_refl _) _
  have c1 := (h1.up n0).c
  have c2 := (h2.up n0).c
  have KD := fun W => hide (isKind_any W k)
  obtain ⟨v, hv⟩ : ∃ v, v = hfV a1 a2 k n := ⟨_, rfl⟩
  rw [← hv]
  unfold erV at c1 c2
  by_cases hk : isK k = true
  · by_cases hlo : n < 1
    · have e : Hid (v = .iface 80 (.pointer (some a2))) := by show _ = _; rw [hv, hfV, if_pos hk, if_neg (by omega)]; rfl
      have q1 : decide (n < 1) = true := by simpa using hlo
      rw [hk] at KD
      clear hv h1 h2 hk
      go_enter Tryd.func18, Tryd.ntmps18
      go_wp2_with fail
      refine (KD _).out.mono ?_
      rintro e w' ⟨rfl, rfl⟩
      go_wp2
      go_ret
      exact ⟨by rw [e.out]; rfl, n0⟩
    · by_cases hhi : 2321 < n
      · have e : Hid (v = .iface 80 (.pointer (some a2))) := by show _ = _; rw [hv, hfV, if_pos hk, if_neg (by omega)]; rfl
        have q1 : decide (n < 1) = false := by simpa using hlo
        have q2 : decide (2321 < n) = true := by simpa using hhi
        rw [hk] at KD
        clear hv h1 h2 hk
        go_enter Tryd.func18, Tryd.ntmps18
        go_wp2_with fail
        refine (KD _).out.mono ?_
        rintro e w' ⟨rfl, rfl⟩
        go_wp2
        go_ret
        exact ⟨by rw [e.out]; rfl, n0⟩
      · have e : Hid (v = .nilIface) := by show _ = _; rw [hv, hfV, if_pos hk, if_pos (by omega)]
        have q1 : decide (n < 1) = false := by simpa using hlo
        have q2 : decide (2321 < n) = false := by simpa using hhi
        rw [hk] at KD
        clear hv h1 h2 hk
        go_enter Tryd.func18, Tryd.ntmps18
        go_wp2_with fail
        refine (KD _).out.mono ?_
        rintro e w' ⟨rfl, rfl⟩
        go_wp2
        go_ret
        exact ⟨by rw [e.out]; rfl, n0⟩
  · have e : Hid (v = .iface 80 (.pointer (some a1))) := by show _ = _; rw [hv, hfV, if_neg hk]; rfl
    have hk' : isK k = false := by simpa using hk
    rw [hk'] at KD
    clear hv h1 h2 hk hk'
    go_enter Tryd.func18, Tryd.ntmps18
    go_wp2_with fail
    refine (KD _).out.mono ?_
    rintro e w' ⟨rfl, rfl⟩
    go_wp2
    go_ret
    exact ⟨by rw [e.out]; rfl, n0⟩
/-- A record's three bytes ahead of its body. -/
def hdL (k n : Int) : List Int := bigL k 1 ++ bigL n 2
theorem hdL_len (k n : Int) : (hdL k n).length = 3 := by rw [hdL, List.length_append, bigL_len, bigL_len]
set_option maxHeartbeats 1000000 in
theorem headBytes_any (w : World) (k n : Int) :
    Calls Tryd.prog 19 #[.agg #[.int .i64 k, .int .i64 n]] w fun e w' => ∃ v, e = .returned v ∧ RowB w' w.heap.size v (hdL k n) ∧ Below w.heap.size w w' := by
  have n0 : Below w.heap.size w (w.alloc (.cells #[.int .i64 k, .int .i64 n] 43)) := (Below.refl _ _).alloc (Nat.le_refl _) _
  have k0 : (w.alloc (.cells #[.int .i64 k, .int .i64 n] 43)).cell? ⟨w.heap.size, 0, none⟩ = some (.int .i64 k) := by simp [World.cell?_alloc_at]
  have k1 : (w.alloc (.cells #[.int .i64 k, .int .i64 n] 43)).cell? ⟨w.heap.size, 1, none⟩ = some (.int .i64 n) := by simp [World.cell?_alloc_at]
  go_enter Tryd.func19, Tryd.ntmps19
  go_upto_region 1 with fail
  generalize w.alloc (.cells #[.int .i64 k, .int .i64 n] 43) = wb at *
  have CY : Hid (∀ W, Below wb.heap.size wb W → W.cell? ⟨w.heap.size, 0, none⟩ = some (.int .i64 k) ∧ W.cell? ⟨w.heap.size, 1, none⟩ = some (.int .i64 n)) := fun W m =>
    ⟨(World.cell?_of_block (a := ⟨w.heap.size, 0, none⟩) (m.block _ (block_lt_of_cell k0))).trans k0, (World.cell?_of_block (a := ⟨w.heap.size, 1, none⟩) (m.block _ (block_lt_of_cell k1))).trans k1⟩
  have A1 : Hid (∀ W, Below wb.heap.size wb W → Calls Tryd.prog 26 #[.slice none 0 0, .int .i64 k, .int .i64 1] W fun e w' => ∃ v', e = .returned v' ∧ RowB w' wb.heap.size v' (bigL k 1) ∧ Below wb.heap.size wb w') := fun W m => (appendNum_any W wb.heap.size _ _ (RowB.nilN W _) m.size k 1 (by decide) (by simp)).mono (by
    rintro e w' ⟨v, rfl, R, l⟩
    exact ⟨v, rfl, by simpa using R, m.trans l⟩)
  have A2 : Hid (∀ W v, Below wb.heap.size wb W → RowB W wb.heap.size v (bigL k 1) → Calls Tryd.prog 26 #[v, .int .i64 n, .int .i64 2] W fun e w' => ∃ v', e = .returned v' ∧ RowB w' wb.heap.size v' (hdL k n) ∧ Below wb.heap.size wb w') := fun W v m R => (appendNum_any W wb.heap.size _ _ R m.size n 2 (by decide) (by rw [bigL_len]; decide)).mono (by
    rintro e w' ⟨v, rfl, R, l⟩
    exact ⟨v, rfl, R, m.trans l⟩)
  have nd : Below wb.heap.size wb wb.drew := (Below.refl _ _).drew
  clear k0 k1
  go_region_held3 (fun W => W.cell? ⟨w.heap.size, 0, none⟩ = some (.int .i64 k) ∧ W.cell? ⟨w.heap.size, 1, none⟩ = some (.int .i64 n))
    (first | exact (unhide CY) _ b8 | exact (unhide CY) _ b5 | exact (unhide CY) _ nd)
    (first
      | (go_at_call 26; refine ((unhide A2) _ _ b5 R5).mono ?_; rintro r w8 ⟨v8, rfl, R8, b8⟩)
      | (go_at_call 26; refine ((unhide A1) _ nd).mono ?_; rintro r w5 ⟨v5, rfl, R5, b5⟩)
      | fail)
  all_goals
    go_wp2
    go_ret
    exact ⟨_, rfl, R8.base n0.size, nxt n0 b8⟩
/-- The record's bytes. -/
def enA (k : Int) (xs : List Int) : List Int := if isK k = true ∧ 1 ≤ xs.length ∧ xs.length ≤ 2321 then hdL k (xs.length : Int) ++ xs else []
theorem enA_len (k : Int) (xs : List Int) : (enA k xs).length ≤ 2324 := by
  unfold enA
  split
  · next h => rw [List.length_append, hdL_len]; omega
  · simp
end Go.Proofs.YtjfggcefdobooaaDoor
