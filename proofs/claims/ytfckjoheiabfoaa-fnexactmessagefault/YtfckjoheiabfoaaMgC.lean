
/-
  Messages: the fault methods of Hello, Ticket, Extras, Proof, Finished, Update and of the end of early data.
-/
import Derived.Test.YtfckjoheiabfoaaMgB
namespace Go.Proofs.Ytfckjoheiabfoaa
open Go Go.RowKit

def heF (v : Int) (r s : Nat) (host : List UInt8) (ls : List (List UInt8)) (t b : Nat) (g e : Int) : Int :=
  if (fpB v r s || !bdB t b g e) = true then 3 else if nameF host ≠ 0 then 4 else if prB ls 8 = false then 5 else if 400 < t then 6 else if (!ageB g || !flgB e) = true then 7 else 0
set_option maxHeartbeats 1000000 in
theorem helloFault_any (w : World) (q : Nat) (v : Int) (a1 a2 a4 a5 a8 : Option Addr) (r s t b c1 c2 c4 c5 c8 gp : Nat) (host : List UInt8) (ls : List (List UInt8)) (g e : Int)
    (hr : r ≤ 1048576) (hs : s ≤ 1048576) (ht : t ≤ 1048576) (hb : b ≤ 1048576) (hh : host.length ≤ 1048576) (hp : RdT w gp a4 ls) (hc : ls.length ≤ c4) (hn : ls.length ≤ 1048576) (hz : ∀ l ∈ ls, l.length ≤ 1048576)
    (h0 : w.cell? ⟨q, 0, none⟩ = some (.int .i64 v)) (h1 : w.cell? ⟨q, 1, none⟩ = some (.slice a1 r c1)) (h2 : w.cell? ⟨q, 2, none⟩ = some (.slice a2 s c2)) (h3 : w.cell? ⟨q, 3, none⟩ = some (.string ⟨⟨host⟩⟩)) (h4 : w.cell? ⟨q, 4, none⟩ = some (.slice a4 ls.length c4))
    (h5 : w.cell? ⟨q, 5, none⟩ = some (.slice a5 t c5)) (h6 : w.cell? ⟨q, 6, none⟩ = some (.int .i64 g)) (h7 : w.cell? ⟨q, 7, none⟩ = some (.int .i64 e)) (h8 : w.cell? ⟨q, 8, none⟩ = some (.slice a8 b c8)) :
    Calls Try.prog 62 #[.pointer (some ⟨q, 0, none⟩)] w fun x w' => x = .returned (.int .i64 (heF v r s host ls t b g e)) ∧ w' = w := by
  have E := hide (show heF v r s host ls t b g e = if (fpB v r s || !bdB t b g e) = true then 3 else if nameF host ≠ 0 then 4 else if prB ls 8 = false then 5 else if 400 < t then 6 else if (!ageB g || !flgB e) = true then 7 else 0 from rfl)
  have FF := hide (firstFault_any w q v a1 a2 r s c1 c2 hr hs h0 h1 h2)
  have IB := hide (isBound_any w q a5 a8 t b c5 c8 g e ht hb h5 h6 h7 h8)
  have NF := hide (implNameFault_any w host (by omega))
  have AP := hide (areProtocols_any w gp a4 c4 ls 8 hp hc hn (by decide) hz)
  have AG := hide (isAge_any w g)
  have FL := hide (isFlag_any w e)
  clear hp hc hn hz
  generalize heF v r s host ls t b g e = f at *
  have FE : fpF v r s = if fpB v r s = true then 3 else 0 := rfl
  rw [FE] at FF
  clear FE
  generalize fpB v r s = x1 at *
  generalize bdB t b g e = x2 at *
  generalize nameF host = x3 at *
  generalize prB ls 8 = x4 at *
  generalize ageB g = x5 at *
  generalize flgB e = x6 at *
  cases x1 with
  | true =>
    obtain rfl : f = 3 := E.out
    clear E IB NF AP AG FL
    simp only [if_pos] at FF
    go_enter Try.func62, Try.ntmps62
    go_wp2_with fail
    refine FF.out.mono ?_
    rintro x w1 ⟨rfl, rfl⟩
    go_wp2
    go_ret
    exact ⟨rfl, rfl⟩
  | false =>
    simp only [Bool.false_eq_true, if_false] at FF
    cases x2 with
    | false =>
      obtain rfl : f = 3 := E.out
      clear E NF AP AG FL
      go_enter Try.func62, Try.ntmps62
      go_wp2_with fail
      refine FF.out.mono ?_
      rintro x w1 ⟨rfl, rfl⟩
      go_wp2_with fail
      refine IB.out.mono ?_
      rintro x w1 ⟨rfl, rfl⟩
      go_wp2
      go_ret
      exact ⟨rfl, rfl⟩
    | true =>
      by_cases k3 : x3 = 0
      · subst k3
        cases x4 with
        | false =>
          obtain rfl : f = 5 := E.out
          clear E AG FL
          go_enter Try.func62, Try.ntmps62
          go_wp2_with fail
          refine FF.out.mono ?_
          rintro x w1 ⟨rfl, rfl⟩
          go_wp2_with fail
          refine IB.out.mono ?_
          rintro x w1 ⟨rfl, rfl⟩
          go_wp2_with fail
          refine NF.out.mono ?_
          rintro x w1 ⟨rfl, rfl⟩
          go_wp2_with fail
          refine AP.out.mono ?_
          rintro x w1 ⟨rfl, rfl⟩
          go_wp2
          go_ret
          exact ⟨rfl, rfl⟩
        | true =>
          by_cases k5 : 400 < t
          · have EF : f = 6 := by rw [E.out]; simp [k5]
            subst EF
            have d5 : decide ((400 : Int) < (t : Int)) = true := by simp; omega
            clear E AG FL
            go_enter Try.func62, Try.ntmps62
            go_wp2_with fail
            refine FF.out.mono ?_
            rintro x w1 ⟨rfl, rfl⟩
            go_wp2_with fail
            refine IB.out.mono ?_
            rintro x w1 ⟨rfl, rfl⟩
            go_wp2_with fail
            refine NF.out.mono ?_
            rintro x w1 ⟨rfl, rfl⟩
            go_wp2_with fail
            refine AP.out.mono ?_
            rintro x w1 ⟨rfl, rfl⟩
            go_wp2
            go_ret
            exact ⟨rfl, rfl⟩
          · have d5 : decide ((400 : Int) < (t : Int)) = false := by simp; omega
            have EF := hide (show f = if (!x5 || !x6) = true then 7 else 0 by rw [E.out]; simp [k5])
            clear E
            go_enter Try.func62, Try.ntmps62
            go_wp2_with fail
            refine FF.out.mono ?_
            rintro x w1 ⟨rfl, rfl⟩
            go_wp2_with fail
            refine IB.out.mono ?_
            rintro x w1 ⟨rfl, rfl⟩
            go_wp2_with fail
            refine NF.out.mono ?_
            rintro x w1 ⟨rfl, rfl⟩
            go_wp2_with fail
            refine AP.out.mono ?_
            rintro x w1 ⟨rfl, rfl⟩
            go_wp2_with fail
            refine AG.out.mono ?_
            rintro x w1 ⟨rfl, rfl⟩
            cases x5 with
            | false =>
              go_wp2
              go_ret
              exact ⟨by rw [EF.out]; rfl, rfl⟩
            | true =>
              go_wp2_with fail
              refine FL.out.mono ?_
              rintro x w1 ⟨rfl, rfl⟩
              cases x6 with
              | false =>
                go_wp2
                go_ret
                exact ⟨by rw [EF.out]; rfl, rfl⟩
              | true =>
                go_wp2
                go_ret
                exact ⟨by rw [EF.out]; rfl, rfl⟩
      · have EF : f = 4 := by rw [E.out]; simp [k3]
        subst EF
        have d3 : (x3 != 0) = true := by simpa using k3
        clear E AP AG FL
        go_enter Try.func62, Try.ntmps62
        go_wp2_with fail
        refine FF.out.mono ?_
        rintro x w1 ⟨rfl, rfl⟩
        go_wp2_with fail
        refine IB.out.mono ?_
        rintro x w1 ⟨rfl, rfl⟩
        go_wp2_with fail
        refine NF.out.mono ?_
        rintro x w1 ⟨rfl, rfl⟩
        go_wp2
        go_ret
        exact ⟨rfl, rfl⟩
end Go.Proofs.Ytfckjoheiabfoaa
