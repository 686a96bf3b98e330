
/-
  Messages: the fault methods of the other kinds but Certificates.
-/
import Derived.Test.YtfckjoheiabfoaaMgC
namespace Go.Proofs.Ytfckjoheiabfoaa
open Go Go.RowKit

def tiF (g e : Int) (r t : Nat) : Int := if r ≠ 32 then 3 else if t = 0 ∨ 400 < t then 6 else if (!ageB g || !ageB e) = true then 7 else 0
set_option maxHeartbeats 1000000 in
theorem ticketFault_any (w : World) (q : Nat) (g e : Int) (a2 a3 : Option Addr) (r t c2 c3 : Nat) (hr : r ≤ 1048576) (ht : t ≤ 1048576)
    (h0 : w.cell? ⟨q, 0, none⟩ = some (.int .i64 g)) (h1 : w.cell? ⟨q, 1, none⟩ = some (.int .i64 e)) (h2 : w.cell? ⟨q, 2, none⟩ = some (.slice a2 r c2)) (h3 : w.cell? ⟨q, 3, none⟩ = some (.slice a3 t c3)) :
    Calls Try.prog 81 #[.pointer (some ⟨q, 0, none⟩)] w fun x w' => x = .returned (.int .i64 (tiF g e r t)) ∧ w' = w := by
  have E := hide (show tiF g e r t = if r ≠ 32 then 3 else if t = 0 ∨ 400 < t then 6 else if (!ageB g || !ageB e) = true then 7 else 0 from rfl)
  have AG := hide (isAge_any w g)
  have AE := hide (isAge_any w e)
  generalize tiF g e r t = f at *
  generalize ageB g = x5 at *
  generalize ageB e = x6 at *
  by_cases k0 : r = 32
  · subst k0
    by_cases k1 : t = 0
    · subst k1
      have EF : f = 6 := by rw [E.out]; simp
      subst EF
      clear E AG AE
      go_enter Try.func81, Try.ntmps81
      go_wp2
      go_ret
      exact ⟨rfl, rfl⟩
    · have d1 : ((t : Int) == 0) = false := by simp; omega
      by_cases k2 : 400 < t
      · have EF : f = 6 := by rw [E.out]; simp [k2]
        subst EF
        have d2 : decide ((400 : Int) < (t : Int)) = true := by simp; omega
        clear E AG AE
        go_enter Try.func81, Try.ntmps81
        go_wp2
        go_ret
        exact ⟨rfl, rfl⟩
      · have EF := hide (show f = if (!x5 || !x6) = true then 7 else 0 by rw [E.out]; simp [k1, k2])
        have d2 : decide ((400 : Int) < (t : Int)) = false := by simp; omega
        clear E
        go_enter Try.func81, Try.ntmps81
        go_wp2_with fail
        refine AG.out.mono ?_
        rintro x w1 ⟨rfl, rfl⟩
        cases x5 with
        | false =>
          go_wp2
          go_ret
          exact ⟨by rw [EF.out]; rfl, rfl⟩
        | true =>
          go_wp2_with fail
          refine AE.out.mono ?_
          rintro x w1 ⟨rfl, rfl⟩
          cases x6 with
          | false =>
            go_wp2
            go_ret
            exact ⟨by rw [EF.out]; rfl, rfl⟩
          | true =>
            go_wp2
            go_ret
            exact ⟨by rw [EF.out]; rfl, rfl⟩
  · have EF : f = 3 := by rw [E.out]; simp [k0]
    subst EF
    have d0 : ((r : Int) != 32) = true := by simp; omega
    clear E AG AE
    go_enter Try.func81, Try.ntmps81
    go_wp2
    go_ret
    exact ⟨rfl, rfl⟩
def exF (ls : List (List UInt8)) (e : Int) : Int := if prB ls 1 = false then 5 else if flgB e = false then 7 else 0
set_option maxHeartbeats 1000000 in
theorem extrasFault_any (w : World) (q : Nat) (a0 : Option Addr) (c0 gp : Nat) (ls : List (List UInt8)) (e : Int) (hp : RdT w gp a0 ls) (hc : ls.length ≤ c0) (hn : ls.length ≤ 1048576) (hz : ∀ l ∈ ls, l.length ≤ 1048576)
    (h0 : w.cell? ⟨q, 0, none⟩ = some (.slice a0 ls.length c0)) (h1 : w.cell? ⟨q, 1, none⟩ = some (.int .i64 e)) :
    Calls Try.prog 89 #[.pointer (some ⟨q, 0, none⟩)] w fun x w' => x = .returned (.int .i64 (exF ls e)) ∧ w' = w := by
  have E := hide (show exF ls e = if prB ls 1 = false then 5 else if flgB e = false then 7 else 0 from rfl)
  have AP := hide (areProtocols_any w gp a0 c0 ls 1 hp hc hn (by decide) hz)
  have FL := hide (isFlag_any w e)
  clear hp hc hn hz
  generalize exF ls e = f at *
  generalize prB ls 1 = x4 at *
  generalize flgB e = x6 at *
  cases x4 with
  | false =>
    obtain rfl : f = 5 := E.out
    clear E FL
    go_enter Try.func89, Try.ntmps89
    go_wp2_with fail
    refine AP.out.mono ?_
    rintro x w1 ⟨rfl, rfl⟩
    go_wp2
    go_ret
    exact ⟨rfl, rfl⟩
  | true =>
    go_enter Try.func89, Try.ntmps89
    go_wp2_with fail
    refine AP.out.mono ?_
    rintro x w1 ⟨rfl, rfl⟩
    go_wp2_with fail
    refine FL.out.mono ?_
    rintro x w1 ⟨rfl, rfl⟩
    cases x6 with
    | false =>
      go_wp2
      go_ret
      exact ⟨by rw [E.out]; rfl, rfl⟩
    | true =>
      go_wp2
      go_ret
      exact ⟨by rw [E.out]; rfl, rfl⟩
def pfF (n : Nat) (k : Nat) : Int := if k ≠ n then 3 else 0
theorem proofFault_any (w : World) (q : Nat) (a0 : Option Addr) (k c0 : Nat) (hk : k ≤ 1048576) (h0 : w.cell? ⟨q, 0, none⟩ = some (.slice a0 k c0)) :
    Calls Try.prog 100 #[.pointer (some ⟨q, 0, none⟩)] w fun x w' => x = .returned (.int .i64 (pfF 64 k)) ∧ w' = w := by
  have E := hide (show pfF 64 k = if k ≠ 64 then 3 else 0 from rfl)
  generalize pfF 64 k = f at *
  by_cases k0 : k = 64
  · subst k0
    obtain rfl : f = 0 := E.out
    go_enter Try.func100, Try.ntmps100
    go_wp2
    go_ret
    exact ⟨rfl, rfl⟩
  · have EF : f = 3 := by rw [E.out]; simp [k0]
    subst EF
    have d0 : ((k : Int) != 64) = true := by simp; omega
    go_enter Try.func100, Try.ntmps100
    go_wp2
    go_ret
    exact ⟨rfl, rfl⟩
theorem finishedFault_any (w : World) (q : Nat) (a0 : Option Addr) (k c0 : Nat) (hk : k ≤ 1048576) (h0 : w.cell? ⟨q, 0, none⟩ = some (.slice a0 k c0)) :
    Calls Try.prog 104 #[.pointer (some ⟨q, 0, none⟩)] w fun x w' => x = .returned (.int .i64 (pfF 32 k)) ∧ w' = w := by
  have E := hide (show pfF 32 k = if k ≠ 32 then 3 else 0 from rfl)
  generalize pfF 32 k = f at *
  by_cases k0 : k = 32
  · subst k0
    obtain rfl : f = 0 := E.out
    go_enter Try.func104, Try.ntmps104
    go_wp2
    go_ret
    exact ⟨rfl, rfl⟩
  · have EF : f = 3 := by rw [E.out]; simp [k0]
    subst EF
    have d0 : ((k : Int) != 32) = true := by simp; omega
    go_enter Try.func104, Try.ntmps104
    go_wp2
    go_ret
    exact ⟨rfl, rfl⟩
def upF (e : Int) : Int := if flgB e = false then 7 else 0
theorem updateFault_any (w : World) (q : Nat) (e : Int) (h0 : w.cell? ⟨q, 0, none⟩ = some (.int .i64 e)) :
    Calls Try.prog 108 #[.pointer (some ⟨q, 0, none⟩)] w fun x w' => x = .returned (.int .i64 (upF e)) ∧ w' = w := by
  have E := hide (show upF e = if flgB e = false then 7 else 0 from rfl)
  have FL := hide (isFlag_any w e)
  generalize upF e = f at *
  generalize flgB e = x6 at *
  go_enter Try.func108, Try.ntmps108
  go_wp2_with fail
  refine FL.out.mono ?_
  rintro x w1 ⟨rfl, rfl⟩
  cases x6 with
  | false =>
    go_wp2
    go_ret
    exact ⟨by rw [E.out]; rfl, rfl⟩
  | true =>
    go_wp2
    go_ret
    exact ⟨by rw [E.out]; rfl, rfl⟩
theorem endFault_any (w : World) (v : Value) : Calls Try.prog 85 #[v] w fun x w' => x = .returned (.int .i64 0) ∧ w' = w := by
  go_enter Try.func85, Try.ntmps85
  go_wp2
  go_ret
  exact ⟨rfl, rfl⟩
end Go.Proofs.Ytfckjoheiabfoaa
