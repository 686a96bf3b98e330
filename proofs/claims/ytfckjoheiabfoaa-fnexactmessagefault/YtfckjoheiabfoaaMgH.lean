
/-
  Messages: Certs looked through, and held against others; the fault of Certificates.
-/
import Derived.Test.YtfckjoheiabfoaaMgG
namespace Go.Proofs.Ytfckjoheiabfoaa
open Go Go.RowKit

def ctA (bs : List (List Int)) : Bool := bs.any fun b => ctO b.length
theorem ctA_yes {bs : List (List Int)} {k : Nat} (hk : k < bs.length) (h : ctO (bs.getD k []).length = true) : ctA bs = true := by
  unfold ctA
  rw [List.any_eq_true]
  refine ⟨bs.getD k [], ?_, h⟩
  rw [List.getD_eq_getElem?_getD, List.getElem?_eq_getElem hk]
  exact List.getElem_mem hk
theorem ctA_no {bs : List (List Int)} (h : ∀ j, j < bs.length → ctO (bs.getD j []).length = false) : ctA bs = false := by
  unfold ctA
  rw [List.any_eq_false]
  intro b hb
  obtain ⟨i, hi, e⟩ := List.getElem_of_mem hb
  have := h i hi
  rw [List.getD_eq_getElem?_getD, List.getElem?_eq_getElem hi] at this
  simpa [← e] using this
set_option maxHeartbeats 1000000 in
theorem certIndex_any (w : World) (g : Nat) (a : Option Addr) (c : Nat) (bs : List (List Int)) (ps : List Plb) (hr : RdL w g a bs ps) (hn : bs.length ≤ 1048576) (hz : ∀ i, i < bs.length → (bs.getD i []).length ≤ 1048576) :
    Calls Try.prog 98 #[.slice a bs.length c, .func (Fn.func 96) #[] #[]] w fun e w' => ∃ r : Int, e = .returned (.int .i64 r) ∧ decide (0 ≤ r) = ctA bs ∧ Below w.heap.size w w' := by
  go_enter Try.func98, Try.ntmps98
  go_wp2
  go_loopw [8] (fun i wr => ∃ (k : Nat), k ≤ bs.length ∧ i = .int .i64 k ∧ Below w.heap.size w wr ∧ ∀ j, j < k → ctO (bs.getD j []).length = false) (fun i _ => bs.length - (intOf i).toNat)
  case atStart => exact ⟨0, Nat.zero_le _, rfl, Below.refl _ _, fun j hj => absurd hj (by omega)⟩
  case round =>
    obtain ⟨k, hk, rfl, N, hall⟩ := hrel
    by_cases hlt : k < bs.length
    · obtain ⟨off, rfl, hc⟩ := (hr.up N).r (by omega)
      have t0 : (k : Int) < (bs.length : Int) := by omega
      have c1 := hc k hlt
      have CO := hide (certOut_any wr (ps.getD k plb0).a (ps.getD k plb0).c (bs.getD k []).length (hz k hlt))
      have YES := hide (fun h => ctA_yes hlt h)
      have HALL := hide hall
      have HN := hide N
      clear hc hall N
      generalize (ps.getD k plb0).a = pa at *
      generalize (ps.getD k plb0).c = pc at *
      generalize hx : (bs.getD k []).length = x at *
      have HX := hide hx
      clear hx
      generalize hv : ctO x = v at *
      have HV := hide hv
      clear hv
      go_wp2_with fail
      refine CO.out.mono ?_
      rintro e w1 ⟨rfl, n1⟩
      have N1 := hide (nxt HN.out n1)
      clear CO n1 HN
      cases v with
      | true =>
        have Y := hide (YES.out (by first | rfl | exact HV.out))
        clear YES HALL
        go_wp2
        go_ret
        exact ⟨_, rfl, by rw [Y.out]; simp, N1.out⟩
      | false =>
        have NXT : Hid (∀ j, j < k + 1 → ctO (bs.getD j []).length = false) := fun j hj => by
          by_cases h : j = k
          · subst h
            rw [HX.out]
            exact HV.out
          · exact HALL.out j (by omega)
        clear YES HALL
        go_wp2
        go_roundw
        case rel => exact ⟨k + 1, by omega, by go_num, N1.out, NXT.out⟩
        case measure => simp [intOf]; omega
    · obtain rfl : k = bs.length := by omega
      have NO := hide (ctA_no hall)
      have HN := hide N
      clear hall hr N
      go_wp2
      go_ret
      exact ⟨-1, rfl, by rw [NO.out]; rfl, HN.out⟩
theorem certContains_any (w : World) (g : Nat) (a : Option Addr) (c : Nat) (bs : List (List Int)) (ps : List Plb) (hr : RdL w g a bs ps) (hn : bs.length ≤ 1048576) (hz : ∀ i, i < bs.length → (bs.getD i []).length ≤ 1048576) :
    Calls Try.prog 97 #[.slice a bs.length c, .func (Fn.func 96) #[] #[]] w fun e w' => e = .returned (.bool (ctA bs)) ∧ Below w.heap.size w w' := by
  have IX := hide (certIndex_any w g a c bs ps hr hn hz)
  clear hr hz
  generalize ctA bs = v at *
  go_enter Try.func97, Try.ntmps97
  go_wp2_with fail
  refine IX.out.mono ?_
  rintro e w1 ⟨r, rfl, hr, n1⟩
  have HR := hide hr
  have N1 := hide n1
  clear hr n1 IX
  go_wp2
  go_ret
  exact ⟨by rw [← HR.out]; rfl, N1.out⟩
def ceF (bs : List (List Int)) : Int := if bs.length = 0 then 8 else if 4 < bs.length then 8 else if ctA bs = true then 8 else 0
set_option maxHeartbeats 1000000 in
theorem certsFault_any (w : World) (q g : Nat) (a : Option Addr) (c : Nat) (bs : List (List Int)) (ps : List Plb) (hr : RdL w g a bs ps) (hn : bs.length ≤ 1048576) (hz : ∀ i, i < bs.length → (bs.getD i []).length ≤ 1048576) (h0 : w.cell? ⟨q, 0, none⟩ = some (.slice a bs.length c)) :
    Calls Try.prog 93 #[.pointer (some ⟨q, 0, none⟩)] w fun x w' => x = .returned (.int .i64 (ceF bs)) ∧ Below w.heap.size w w' := by
  have E := hide (show ceF bs = if bs.length = 0 then 8 else if 4 < bs.length then 8 else if ctA bs = true then 8 else 0 from rfl)
  have CC := hide (certContains_any w g a c bs ps hr hn hz)
  clear hr hz
  generalize ceF bs = f at *
  generalize ctA bs = v at *
  by_cases k0 : bs.length = 0
  · have EF : f = 8 := by rw [E.out, if_pos k0]
    subst EF
    have e0 : ((bs.length : Int) == 0) = true := by simp [k0]
    clear E CC k0
    go_enter Try.func93, Try.ntmps93
    go_wp2
    go_ret
    exact ⟨rfl, Below.refl _ _⟩
  · have e0 : ((bs.length : Int) == 0) = false := by rw [beq_eq_false_iff_ne]; omega
    by_cases k1 : 4 < bs.length
    · have EF : f = 8 := by rw [E.out, if_neg k0, if_pos k1]
      subst EF
      have d1 : decide ((4 : Int) < (bs.length : Int)) = true := by simp; omega
      clear E CC
      go_enter Try.func93, Try.ntmps93
      go_wp2
      go_ret
      exact ⟨rfl, Below.refl _ _⟩
    · have EF := hide (show f = if v = true then 8 else 0 by rw [E.out, if_neg k0, if_neg k1])
      have d1 : decide ((4 : Int) < (bs.length : Int)) = false := by simp; omega
      clear E
      go_enter Try.func93, Try.ntmps93
      go_wp2_with fail
      refine CC.out.mono ?_
      rintro e w1 ⟨rfl, n1⟩
      cases v with
      | false =>
        go_wp2
        go_ret
        exact ⟨by rw [EF.out]; rfl, n1⟩
      | true =>
        go_wp2
        go_ret
        exact ⟨by rw [EF.out]; rfl, n1⟩
end Go.Proofs.Ytfckjoheiabfoaa
