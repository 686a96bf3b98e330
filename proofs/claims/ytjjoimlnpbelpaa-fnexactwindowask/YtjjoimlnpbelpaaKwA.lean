
/-
  Windows: the ends of marks looked through.
-/
import Derived.Test.YtjjoimlnpbelpaaKmB
namespace Go.Proofs.Ytjjoimlnpbelpaa
open Go Go.RowKit

def utO (u : Int) : Bool := decide (u < 0) || decide (253402473599 < u)
def utA (ms : List Mrk) : Bool := ms.any fun m => utO m.un
theorem utA_yes {ms : List Mrk} {k : Nat} (hk : k < ms.length) (h : utO (ms.getD k mrk0).un = true) : utA ms = true := by
  unfold utA
  rw [List.any_eq_true]
  refine ⟨ms.getD k mrk0, ?_, h⟩
  rw [List.getD_eq_getElem?_getD, List.getElem?_eq_getElem hk]
  exact List.getElem_mem hk
theorem utA_no {ms : List Mrk} (h : ∀ j, j < ms.length → utO (ms.getD j mrk0).un = false) : utA ms = false := by
  unfold utA
  rw [List.any_eq_false]
  intro b hb
  obtain ⟨i, hi, e⟩ := List.getElem_of_mem hb
  have := h i hi
  rw [List.getD_eq_getElem?_getD, List.getElem?_eq_getElem hi] at this
  simpa [← e] using this
def wdO (n : Int) : Bool := decide (0 ≤ n) && decide (n ≤ 86400)
theorem isWidth_any (w : World) (n : Int) : Calls Try.prog 32 #[.int .i64 n] w fun e w' => e = .returned (.bool (wdO n)) ∧ w' = w := by
  by_cases h : 0 ≤ n
  · have u : decide (0 ≤ n) = true := decide_eq_true h
    unfold wdO
    rw [u]
    go_enter Try.func32, Try.ntmps32
    go_wp2
    go_ret
    exact ⟨by simp, rfl⟩
  · have u : decide (0 ≤ n) = false := decide_eq_false h
    unfold wdO
    rw [u]
    go_enter Try.func32, Try.ntmps32
    go_wp2
    go_ret
    exact ⟨by simp, rfl⟩
theorem hasWrong_any (w : World) (a : Option Addr) (n c : Nat) (un : Int) : Calls Try.prog 34 #[.agg #[.slice a n c, .int .i64 un]] w fun e w' => e = .returned (.bool (utO un)) ∧ Below w.heap.size w w' := by
  have n1 : Hid (Below w.heap.size w (w.alloc (.cells #[.slice a n c, .int .i64 un] 46))) := (Below.refl _ _).alloc (Nat.le_refl _) _
  by_cases h : un < 0
  · have u : decide (un < 0) = true := decide_eq_true h
    unfold utO
    rw [u]
    go_enter Try.func34, Try.ntmps34
    go_wp2
    go_ret
    exact ⟨by simp, n1.out⟩
  · have u : decide (un < 0) = false := decide_eq_false h
    unfold utO
    rw [u]
    go_enter Try.func34, Try.ntmps34
    go_wp2
    go_ret
    exact ⟨by simp, n1.out⟩
set_option maxHeartbeats 1000000 in
theorem untilIndex_any (w : World) (g : Nat) (a : Option Addr) (c : Nat) (ms : List Mrk) (ps : List Plm) (hr : RdK w g a ms ps) (hn : ms.length ≤ 1048576) :
    Calls Try.prog 43 #[.slice a ms.length c, .func (Fn.func 34) #[] #[]] w fun e w' => ∃ r : Int, e = .returned (.int .i64 r) ∧ decide (0 ≤ r) = utA ms ∧ Below w.heap.size w w' := by
  go_enter Try.func43, Try.ntmps43
  go_wp2
  go_loopw [8] (fun i wr => ∃ (k : Nat), k ≤ ms.length ∧ i = .int .i64 k ∧ Below w.heap.size w wr ∧ ∀ j, j < k → utO (ms.getD j mrk0).un = false) (fun i _ => ms.length - (intOf i).toNat)
  case atStart => exact ⟨0, Nat.zero_le _, rfl, Below.refl _ _, fun j hj => absurd hj (by omega)⟩
  case round =>
    obtain ⟨k, hk, rfl, N, hall⟩ := hrel
    by_cases hlt : k < ms.length
    · obtain ⟨off, rfl, hc⟩ := (hr.up N).r (by omega)
      have t0 : (k : Int) < (ms.length : Int) := by omega
      have c1 := (hc k hlt).1
      have c2 := (hc k hlt).2
      have CO := hide (hasWrong_any wr (ps.getD k plm0).a (ms.getD k mrk0).id.length (ps.getD k plm0).c (ms.getD k mrk0).un)
      have YES := hide (fun h => utA_yes hlt h)
      have HALL := hide hall
      have HN := hide N
      clear hc hall N
      generalize (ps.getD k plm0).a = pa at *
      generalize (ps.getD k plm0).c = pc at *
      generalize (ms.getD k mrk0).id.length = nn at *
      generalize hx : (ms.getD k mrk0).un = x at *
      have HX := hide hx
      clear hx
      generalize hv : utO x = v at *
      have HV := hide hv
      clear hv
      go_wp2_with fail
      refine CO.out.mono ?_
      rintro e w1 ⟨rfl, n1⟩
      have N1 := hide (nxt HN.out n1)
      clear CO n1 HN
      cases v with
      | true =>
        have Y := hide (YES.out (by first | rfl | exact HV.out))
        clear YES HALL
        go_wp2
        go_ret
        exact ⟨_, rfl, by rw [Y.out]; simp, N1.out⟩
      | false =>
        have NXT : Hid (∀ j, j < k + 1 → utO (ms.getD j mrk0).un = false) := fun j hj => by
          by_cases h : j = k
          · subst h
            rw [HX.out]
            exact HV.out
          · exact HALL.out j (by omega)
        clear YES HALL
        go_wp2
        go_roundw
        case rel => exact ⟨k + 1, by omega, by go_num, N1.out, NXT.out⟩
        case measure => simp [intOf]; omega
    · obtain rfl : k = ms.length := by omega
      have NO := hide (utA_no hall)
      have HN := hide N
      clear hall hr N
      go_wp2
      go_ret
      exact ⟨-1, rfl, by rw [NO.out]; rfl, HN.out⟩
theorem untilContains_any (w : World) (g : Nat) (a : Option Addr) (c : Nat) (ms : List Mrk) (ps : List Plm) (hr : RdK w g a ms ps) (hn : ms.length ≤ 1048576) :
    Calls Try.prog 33 #[.slice a ms.length c, .func (Fn.func 34) #[] #[]] w fun e w' => e = .returned (.bool (utA ms)) ∧ Below w.heap.size w w' := by
  have IX := hide (untilIndex_any w g a c ms ps hr hn)
  clear hr
  generalize utA ms = v at *
  go_enter Try.func33, Try.ntmps33
  go_wp2_with fail
  refine IX.out.mono ?_
  rintro e w1 ⟨r, rfl, hr, n1⟩
  have HR := hide hr
  have N1 := hide n1
  clear hr n1 IX
  go_wp2
  go_ret
  exact ⟨by rw [← HR.out]; rfl, N1.out⟩
end Go.Proofs.Ytjjoimlnpbelpaa
