import Derived.Test.YtcaljanahpdidaaGreatGV4
import Derived.Deep.QuietTactic
import Derived.BigQuiet
import Derived.Test.YtcaljanahpdidaaGreatGV16
import Derived.Test.YtcaljanahpdidaaGreatGV6
import Derived.Test.YtcaljanahpdidaaGreatGV3
import Derived.Test.YtcaljanahpdidaaGreatGV2
import Derived.Deep.MidRow
import Derived.Deep.Cut
import Derived.Test.YtcaljanahpdidaaGreatGV8
import Derived.Test.YtcaljanahpdidaaGreatGV12
import Derived.Test.YtcaljanahpdidaaGreatGV13
import Derived.Deep.RegionWith
namespace Go.Proofs.YtcaljanahpdidaaGreat
open Go Go.RowKit
def kinds : List Int := [1, 2, 4, 5, 8, 11, 15, 20, 24]
set_option maxHeartbeats 1000000 in
theorem l12Has_any (w : World) (g : Nat) (a : Option Addr) (c : Nat) (ls : List Int) (x : Int) (hr : Rd w g a .i64 ls) (hn : ls.length ≤ 1048576) :
    Calls Tryz.prog 28 #[.slice a ls.length c, .int .i64 x] w fun e w' => e = .returned (.bool (decide (x ∈ ls))) ∧ w' = w := by
  go_enter Tryz.func28, Tryz.ntmps28
  go_wp2
  go_loopw [5] (fun i wr => ∃ (k : Nat), k ≤ ls.length ∧ i = .int .i64 k ∧ wr = w ∧ ∀ j, j < k → ls.getD j 0 ≠ x) (fun i _ => ls.length - (intOf i).toNat)
  case atStart => exact ⟨0, Nat.zero_le _, rfl, rfl, fun j hj => absurd hj (by omega)⟩
  case round =>
    obtain ⟨k, hk, rfl, rfl, hne⟩ := hrel
    by_cases hlt : k < ls.length
    · obtain ⟨off, rfl, hc⟩ := hr (by omega)
      have t0 : (k : Int) < (ls.length : Int) := by omega
      have c1 := hc k hlt
      have HNE := hide hne
      clear hne hc hr
      generalize hx : ls.getD k 0 = y at *
      have HX := hide hx
      clear hx
      by_cases hq : y = x
      · subst hq
        have MEM : Hid (decide (y ∈ ls) = true) := by
          show _ = _
          refine decide_eq_true ?_
          rw [← HX.out, List.getD_eq_getElem?_getD, List.getElem?_eq_getElem hlt]
          exact List.getElem_mem hlt
        clear HNE
        go_wp2
        go_ret
        exact ⟨by rw [MEM.out]; rfl, rfl⟩
      · have e1 : (y == x) = false := by simpa using hq
        have NXT : Hid (∀ j, j < k + 1 → ls.getD j 0 ≠ x) := fun j hj => by
          by_cases h : j = k
          · subst h
            rw [HX.out]
            exact hq
          · exact HNE.out j (by omega)
        clear HNE hq
        go_wp2
        go_roundw
        case rel => exact ⟨k + 1, by omega, by go_num, trivial, NXT.out⟩
        case measure => simp [intOf]; omega
    · obtain rfl : k = ls.length := by omega
      have NM : Hid (decide (x ∈ ls) = false) := by
        show _ = _
        refine decide_eq_false fun h => ?_
        obtain ⟨i, hi, e⟩ := List.getElem_of_mem h
        refine hne i hi ?_
        rw [List.getD_eq_getElem?_getD, List.getElem?_eq_getElem hi]
        exact e
      clear hne hr
      go_wp2
      go_ret
      exact ⟨by rw [NM.out]; rfl, rfl⟩
set_option maxHeartbeats 1000000 in
theorem l13Known_any (w : World) (k : Int) :
    Calls Tryz.prog 14 #[.int .i64 k] w fun e w' => e = .returned (.bool (decide (k ∈ kinds))) ∧ Below w.heap.size w w' := by
  have n0 : Hid (Below w.heap.size w (w.alloc (.cells #[.int .i64 1, .int .i64 2, .int .i64 4, .int .i64 5, .int .i64 8, .int .i64 11, .int .i64 15, .int .i64 20, .int .i64 24] 2))) := (Below.refl _ _).alloc (Nat.le_refl _) _
  have R : Rd (w.alloc (.cells #[.int .i64 1, .int .i64 2, .int .i64 4, .int .i64 5, .int .i64 8, .int .i64 11, .int .i64 15, .int .i64 20, .int .i64 24] 2)) w.heap.size (some ⟨w.heap.size, 0, none⟩) .i64 kinds := fun _ => ⟨0, rfl, fun i hi => by
    have h : (w.alloc (.cells #[.int .i64 1, .int .i64 2, .int .i64 4, .int .i64 5, .int .i64 8, .int .i64 11, .int .i64 15, .int .i64 20, .int .i64 24] 2)).heap[w.heap.size]? = some (.cells #[.int .i64 1, .int .i64 2, .int .i64 4, .int .i64 5, .int .i64 8, .int .i64 11, .int .i64 15, .int .i64 20, .int .i64 24] 2 (0, 0)) := by show (w.heap.push _)[w.heap.size]? = _; simp
    rw [Nat.zero_add, cell_of_row _ _ _ _ _ _ h]
    have hi' : i < 9 := hi
    obtain rfl | rfl | rfl | rfl | rfl | rfl | rfl | rfl | rfl : i = 0 ∨ i = 1 ∨ i = 2 ∨ i = 3 ∨ i = 4 ∨ i = 5 ∨ i = 6 ∨ i = 7 ∨ i = 8 := by omega
    all_goals rfl⟩
  have H : Hid (Calls Tryz.prog 28 #[.slice (some ⟨w.heap.size, 0, none⟩) 9 9, .int .i64 k] (w.alloc (.cells #[.int .i64 1, .int .i64 2, .int .i64 4, .int .i64 5, .int .i64 8, .int .i64 11, .int .i64 15, .int .i64 20, .int .i64 24] 2)) fun e w' => e = .returned (.bool (decide (k ∈ kinds))) ∧ w' = w.alloc (.cells #[.int .i64 1, .int .i64 2, .int .i64 4, .int .i64 5, .int .i64 8, .int .i64 11, .int .i64 15, .int .i64 20, .int .i64 24] 2)) := l12Has_any _ _ _ 9 kinds k R (by decide)
  clear R
  generalize decide (k ∈ kinds) = z at *
  go_enter Tryz.func14, Tryz.ntmps14
  go_wp2_with fail
  refine H.out.mono ?_
  rintro e w1 ⟨rfl, h1⟩
  subst h1
  go_wp2
  go_ret
  exact ⟨rfl, n0.out⟩
theorem mem_take_of {ls : List (List UInt8)} {k j : Nat} (hj : j < k) (hk : k < ls.length) (h : ls.getD j [] = ls.getD k []) : prA ls k = false := by
  unfold prA
  have m : ls.getD k [] ∈ ls.take k := by
    rw [← h, List.getD_eq_getElem?_getD, List.getElem?_eq_getElem (by omega)]
    have : (ls.take k)[j]'(by rw [List.length_take]; omega) = ls[j] := List.getElem_take
    rw [Option.getD_some, ← this]
    exact List.getElem_mem _
  rw [decide_eq_true m]
  simp
theorem prA_of {ls : List (List UInt8)} {k : Nat} (hk : k < ls.length) (h0 : 0 < (ls.getD k []).length) (h1 : (ls.getD k []).length ≤ 32) (h : ∀ j, j < k → ls.getD j [] ≠ ls.getD k []) : prA ls k = true := by
  unfold prA
  have m : ¬ ls.getD k [] ∈ ls.take k := fun hm => by
    obtain ⟨i, hi, e⟩ := List.getElem_of_mem hm
    rw [List.length_take] at hi
    refine h i (by omega) ?_
    rw [← e, List.getElem_take, List.getD_eq_getElem?_getD, List.getElem?_eq_getElem (by omega)]
    rfl
  rw [decide_eq_true h0, decide_eq_true h1, decide_eq_false m]
  rfl
set_option maxHeartbeats 2000000 in
theorem l13Protocols_any (w : World) (g : Nat) (a : Option Addr) (c : Nat) (ls : List (List UInt8)) (n : Nat) (hr : RdT w g a ls) (hn : ls.length ≤ 1048576) (n1 : n ≤ 100) (hz : ∀ l ∈ ls, l.length ≤ 1048576) :
    Calls Tryz.prog 18 #[.slice a ls.length c, .int .i64 (n : Int)] w fun e w' => e = .returned (.bool (prB ls n)) ∧ Below w.heap.size w w' := by
  by_cases hl : ls.length ≤ n
  · have d0 : decide ((n : Int) < (ls.length : Int)) = false := by simp; omega
    have d0' : decide (n < ls.length) = false := by simp; omega
    go_enter Tryz.func18, Tryz.ntmps18
    go_wp2
    go_loopw [5, 6] (fun i _ wr => ∃ (k : Nat), k ≤ ls.length ∧ i = .int .i64 k ∧ Below w.heap.size w wr ∧ ∀ j, j < k → prA ls j = true) (fun i _ _ => ls.length - (intOf i).toNat)
    case atStart => exact ⟨0, Nat.zero_le _, rfl, Below.refl _ _, fun j hj => absurd hj (by omega)⟩
    case round =>
      obtain ⟨k, hk, rfl, nb, hall⟩ := hrel
      by_cases hlt : k < ls.length
      · have hr1 := hr.up nb
        obtain ⟨off, rfl, hcl⟩ := hr1 (by omega)
        have t0 : (k : Int) < (ls.length : Int) := by omega
        have c1 := hcl k hlt
        have HALL := hide hall
        have HN := hide nb
        have HCL := hide hcl
        clear hall nb hcl hr1
        have HZ : (ls.getD k []).length ≤ 1048576 := by
          refine hz _ ?_
          rw [List.getD_eq_getElem?_getD, List.getElem?_eq_getElem hlt]
          exact List.getElem_mem hlt
        have PN := hide (fun h => prB_no (n := n) hlt h)
        have PT := hide (fun j hj h => mem_take_of (j := j) hj hlt h)
        have PO := hide (fun h0 h1 h => prA_of hlt h0 h1 h)
        have P0 := hide (show (ls.getD k []).length = 0 → prA ls k = false from fun h => by unfold prA; rw [h]; rfl)
        have P1 := hide (show 32 < (ls.getD k []).length → prA ls k = false from fun h => by unfold prA; rw [decide_eq_false (show ¬ (ls.getD k []).length ≤ 32 by omega)]; simp)
        generalize hx : ls.getD k [] = x at *
        have HX := hide hx
        clear hx
        simp only [tx] at c1
        by_cases x0 : x.length = 0
        · have d1 : decide ((x.length : Int) < 1) = true := by simp; omega
          have NO := hide (PN.out (P0.out x0))
          clear PN PT PO P0 P1 HALL x0
          go_wp2
          go_ret
          exact ⟨by rw [NO.out]; rfl, HN.out⟩
        · have d1 : decide ((x.length : Int) < 1) = false := by simp; omega
          by_cases x1 : 32 < x.length
          · have d2 : decide ((32 : Int) < (x.length : Int)) = true := by simp; omega
            have NO := hide (PN.out (P1.out x1))
            clear PN PT PO P0 P1 HALL x0 x1
            go_wp2
            go_ret
            exact ⟨by rw [NO.out]; rfl, HN.out⟩
          · have d2 : decide ((32 : Int) < (x.length : Int)) = false := by simp; omega
            have PO' := hide (PO.out (by omega) (by omega))
            clear P0 P1 PO x0 x1
            go_wp2
            go_loopw [6] (fun j wz => ∃ (m : Nat), m ≤ k ∧ j = .int .i64 m ∧ Below w.heap.size w wz ∧ ∀ i, i < m → ls.getD i [] ≠ x) (fun j _ => k - (intOf j).toNat)
            case atStart => exact ⟨0, Nat.zero_le _, rfl, HN.out, fun j hj => absurd hj (by omega)⟩
            case round =>
              obtain ⟨m, hm, rfl, nz, hne⟩ := hrel
              by_cases hmt : m < k
              · have t1 : (m : Int) < (k : Int) := by omega
                have hr2 := hr.up nz
                obtain ⟨off', ha, hcl2⟩ := hr2 (by omega)
                simp only [Option.some.injEq, Addr.mk.injEq, and_true, true_and] at ha
                obtain rfl := ha
                have c2 := hcl2 k hlt
                have c3 := hcl2 m (by omega)
                rw [HX.out] at c2
                have tm : (m : Int) < (ls.length : Int) := by omega
                have NZ := hide nz
                have HNE := hide hne
                clear nz hne hcl2 hr2 c1 HCL
                generalize hy : ls.getD m [] = y at *
                have HY := hide hy
                clear hy
                simp only [tx] at c2 c3
                by_cases hq : x = y
                · subst hq
                  have e1 : (x == x) = true := by simp
                  have NO := hide (PN.out (PT.out m hmt HY.out))
                  clear PN PT PO' HALL HNE
                  go_wp2
                  go_quiet (fail)
                  go_wp2
                  go_ret
                  exact ⟨by rw [NO.out]; rfl, NZ.out.trans ((Only.drewN _ w.heap.size _).below (Nat.le_refl _))⟩
                · have e1 : (x == y) = false := by simpa using hq
                  have e2 : (y == x) = false := by simpa using (fun h => hq h.symm)
                  have NXT : Hid (∀ i, i < m + 1 → ls.getD i [] ≠ x) := fun i hi => by
                    by_cases h : i = m
                    · subst h
                      rw [HY.out]
                      exact fun h => hq h.symm
                    · exact HNE.out i (by omega)
                  clear HNE PN PT PO' HALL hq
                  go_wp2
                  go_quiet (fail)
                  go_wp2
                  go_roundw
                  case rel => exact ⟨m + 1, by omega, by go_num, NZ.out.trans ((Only.drewN _ w.heap.size _).below (Nat.le_refl _)), NXT.out⟩
                  case measure => simp [intOf]; omega
              · obtain rfl : m = k := by omega
                have NXT : Hid (∀ j, j < m + 1 → prA ls j = true) := fun j hj => by
                  by_cases h : j = m
                  · subst h
                    exact PO'.out hne
                  · exact HALL.out j (by omega)
                have NZ := hide nz
                clear nz hne PN PT PO' HALL
                go_wp2
                go_roundw
                case rel => exact ⟨m + 1, by omega, by go_num, NZ.out, NXT.out⟩
                case measure => simp [intOf]; omega
      · obtain rfl : k = ls.length := by omega
        have YES := hide (prB_yes hl hall)
        have HN := hide nb
        clear hall hr nb
        go_wp2
        go_ret
        exact ⟨by rw [YES.out]; rfl, HN.out⟩
  · have d0 : decide ((n : Int) < (ls.length : Int)) = true := by simp; omega
    have NO : Hid (prB ls n = false) := by show _ = _; unfold prB; rw [decide_eq_false hl, Bool.false_and]
    clear hr
    go_enter Tryz.func18, Tryz.ntmps18
    go_wp2
    go_ret
    exact ⟨by rw [NO.out]; rfl, Below.refl _ _⟩
end Go.Proofs.YtcaljanahpdidaaGreat
namespace Go.Proofs.YtcaljanahpdidaaGreat
open Go Go.RowKit
def rdHello (xs : List Int) : Msg := ⟨1, beN xs 0 1, tkB xs 1 32, tkB xs 33 32, txB (tkB xs 66 (beN xs 65 1).toNat), txT xs (hpA xs + 1) (xs.getD (hpA xs) 0).toNat, tkB xs (hpB xs + 2) (hpN xs), if hpN xs = 0 then 0 else beN xs (hpC xs) 4, if hpN xs = 0 then 0 else beN xs (hpC xs + 4) 1, if hpN xs = 0 then [] else tkB xs (hpC xs + 5) 32, false, [], []⟩
def rdAnswer (xs : List Int) : Msg := ⟨2, beN xs 0 1, tkB xs 1 32, tkB xs 33 32, [], [], [], 0, 0, [], beN xs 65 1 == 1, [], []⟩
def rdTicket (xs : List Int) : Msg := ⟨4, 0, tkB xs 8 32, [], [], [], tkB xs 42 (beN xs 40 2).toNat, beN xs 0 4, beN xs 4 4, [], false, [], []⟩
def rdEnd (_xs : List Int) : Msg := ⟨5, 0, [], [], [], [], [], 0, 0, [], false, [], []⟩
def rdExtras (xs : List Int) : Msg := ⟨8, 0, [], [], [], txT xs 1 (xs.getD 0 0).toNat, [], 0, beN xs (ppT xs 1 (xs.getD 0 0).toNat) 1, [], false, [], []⟩
def rdCerts (xs : List Int) : Msg := ⟨11, 0, [], [], [], [], [], 0, 0, [], false, clT xs 1 (xs.getD 0 0).toNat, []⟩
def rdProof (xs : List Int) : Msg := ⟨15, 0, [], [], [], [], [], 0, 0, [], false, [], tkB xs 0 64⟩
def rdFinished (xs : List Int) : Msg := ⟨20, 0, [], [], [], [], [], 0, 0, [], false, [], tkB xs 0 32⟩
def rdUpdate (xs : List Int) : Msg := ⟨24, 0, [], [], [], [], [], 0, beN xs 0 1, [], false, [], []⟩
def rdM (k : Int) (xs : List Int) : Msg := if k = 1 then rdHello xs else if k = 2 then rdAnswer xs else if k = 4 then rdTicket xs else if k = 5 then rdEnd xs else if k = 8 then rdExtras xs else if k = 11 then rdCerts xs else if k = 15 then rdProof xs else if k = 20 then rdFinished xs else rdUpdate xs
def fitM (k : Int) (xs : List Int) : Prop := if k = 1 then HeG xs else if k = 2 then 66 ≤ xs.length else if k = 4 then 42 + (beN xs 40 2).toNat ≤ xs.length else if k = 5 then True else if k = 8 then 0 < xs.length ∧ ppT xs 1 (xs.getD 0 0).toNat + 1 ≤ xs.length else if k = 11 then 0 < xs.length ∧ ppL xs 1 (xs.getD 0 0).toNat ≤ xs.length else if k = 15 then 64 ≤ xs.length else if k = 20 then 32 ≤ xs.length else 1 ≤ xs.length
theorem be1 {xs : List Int} (hb : Byt xs) (i : Nat) : (beN xs i 1).toNat < 256 := by have := beN_rng hb i 1; omega
theorem be2 {xs : List Int} (hb : Byt xs) (i : Nat) : (beN xs i 2).toNat < 65536 := by have := beN_rng hb i 2; omega
theorem bx1 {xs : List Int} (hb : Byt xs) (i : Nat) : (xs.getD i 0).toNat < 256 := by have := hb i; omega
theorem txT_small {xs : List Int} (hb : Byt xs) (i k : Nat) : ∀ l ∈ txT xs i k, l.length ≤ 1048576 := fun l hl => by
  obtain ⟨j, _, rfl⟩ := List.mem_map.1 hl
  rw [txB_len, tkB_len]
  have := be1 hb (ppT xs i j)
  omega
theorem clT_get (xs : List Int) (i k j : Nat) (h : j < k) : (clT xs i k).getD j [] = tkB xs (ppL xs i j + 2) (beN xs (ppL xs i j) 2).toNat := by simp [clT, h]
theorem isM_hello {xs : List Int} (hb : Byt xs) : IsM (rdHello xs) := by
  have h1 := be1 hb 65
  have h2 := be2 hb (hpB xs)
  have h3 := bx1 hb (hpA xs)
  refine ⟨tkB_byt hb _ _, tkB_byt hb _ _, tkB_byt hb _ _, ?_, byt_nil, fun i hi => absurd hi (by simp [rdHello]), ?_, ?_, ?_, ?_, ?_, ?_, ?_, fun i hi => absurd hi (by simp [rdHello]), ?_, txT_small hb _ _⟩
  · show Byt (if hpN xs = 0 then [] else tkB xs (hpC xs + 5) 32)
    split
    · exact byt_nil
    · exact tkB_byt hb _ _
  all_goals simp only [rdHello]
  all_goals first | (rw [tkB_len]; omega) | skip
  · rw [txT_len]; omega
  · rw [tkB_len]; show hpN xs ≤ _; unfold hpN; omega
  · split
    · simp
    · rw [tkB_len]; omega
  · simp
  · simp
  · rw [txB_len, tkB_len]; omega
theorem isM_answer {xs : List Int} (hb : Byt xs) : IsM (rdAnswer xs) := by
  refine ⟨tkB_byt hb _ _, tkB_byt hb _ _, byt_nil, byt_nil, byt_nil, fun i hi => absurd hi (by simp [rdAnswer]), ?_, ?_, ?_, ?_, ?_, ?_, ?_, fun i hi => absurd hi (by simp [rdAnswer]), ?_, fun l hl => absurd hl (by simp [rdAnswer])⟩
  all_goals simp [rdAnswer, tkB_len]
theorem isM_ticket {xs : List Int} (hb : Byt xs) : IsM (rdTicket xs) := by
  have h2 := be2 hb 40
  refine ⟨tkB_byt hb _ _, byt_nil, tkB_byt hb _ _, byt_nil, byt_nil, fun i hi => absurd hi (by simp [rdTicket]), ?_, ?_, ?_, ?_, ?_, ?_, ?_, fun i hi => absurd hi (by simp [rdTicket]), ?_, fun l hl => absurd hl (by simp [rdTicket])⟩
  all_goals simp only [rdTicket, tkB_len]
  all_goals first | (simp; done) | omega
theorem isM_end (xs : List Int) : IsM (rdEnd xs) := by
  refine ⟨byt_nil, byt_nil, byt_nil, byt_nil, byt_nil, fun i hi => absurd hi (by simp [rdEnd]), ?_, ?_, ?_, ?_, ?_, ?_, ?_, fun i hi => absurd hi (by simp [rdEnd]), ?_, fun l hl => absurd hl (by simp [rdEnd])⟩
  all_goals simp [rdEnd]
theorem isM_extras {xs : List Int} (hb : Byt xs) : IsM (rdExtras xs) := by
  have h3 := bx1 hb 0
  refine ⟨byt_nil, byt_nil, byt_nil, byt_nil, byt_nil, fun i hi => absurd hi (by simp [rdExtras]), ?_, ?_, ?_, ?_, ?_, ?_, ?_, fun i hi => absurd hi (by simp [rdExtras]), ?_, txT_small hb _ _⟩
  all_goals simp only [rdExtras, txT_len]
  all_goals first | (simp; done) | omega
theorem isM_certs {xs : List Int} (hb : Byt xs) : IsM (rdCerts xs) := by
  have h3 := bx1 hb 0
  refine ⟨byt_nil, byt_nil, byt_nil, byt_nil, byt_nil, fun i hi => ?_, ?_, ?_, ?_, ?_, ?_, ?_, ?_, fun i hi => ?_, ?_, fun l hl => absurd hl (by simp [rdCerts])⟩
  · have hi : i < (xs.getD 0 0).toNat := by simpa [rdCerts, clT_len] using hi
    show Byt ((clT xs 1 (xs.getD 0 0).toNat).getD i [])
    rw [clT_get _ _ _ _ hi]
    exact tkB_byt hb _ _
  rotate_right 2
  · have hi : i < (xs.getD 0 0).toNat := by simpa [rdCerts, clT_len] using hi
    show ((clT xs 1 (xs.getD 0 0).toNat).getD i []).length ≤ _
    rw [clT_get _ _ _ _ hi, tkB_len]
    have := be2 hb (ppL xs 1 i)
    omega
  all_goals simp only [rdCerts, clT_len]
  all_goals first | (simp; done) | omega
theorem isM_proof {xs : List Int} (hb : Byt xs) : IsM (rdProof xs) := by
  refine ⟨byt_nil, byt_nil, byt_nil, byt_nil, tkB_byt hb _ _, fun i hi => absurd hi (by simp [rdProof]), ?_, ?_, ?_, ?_, ?_, ?_, ?_, fun i hi => absurd hi (by simp [rdProof]), ?_, fun l hl => absurd hl (by simp [rdProof])⟩
  all_goals simp [rdProof, tkB_len]
theorem isM_finished {xs : List Int} (hb : Byt xs) : IsM (rdFinished xs) := by
  refine ⟨byt_nil, byt_nil, byt_nil, byt_nil, tkB_byt hb _ _, fun i hi => absurd hi (by simp [rdFinished]), ?_, ?_, ?_, ?_, ?_, ?_, ?_, fun i hi => absurd hi (by simp [rdFinished]), ?_, fun l hl => absurd hl (by simp [rdFinished])⟩
  all_goals simp [rdFinished, tkB_len]
theorem isM_update (xs : List Int) : IsM (rdUpdate xs) := by
  refine ⟨byt_nil, byt_nil, byt_nil, byt_nil, byt_nil, fun i hi => absurd hi (by simp [rdUpdate]), ?_, ?_, ?_, ?_, ?_, ?_, ?_, fun i hi => absurd hi (by simp [rdUpdate]), ?_, fun l hl => absurd hl (by simp [rdUpdate])⟩
  all_goals simp [rdUpdate]
theorem isM_rd {xs : List Int} (hb : Byt xs) (k : Int) : IsM (rdM k xs) := by
  unfold rdM
  split
  · exact isM_hello hb
  split
  · exact isM_answer hb
  split
  · exact isM_ticket hb
  split
  · exact isM_end xs
  split
  · exact isM_extras hb
  split
  · exact isM_certs hb
  split
  · exact isM_proof hb
  split
  · exact isM_finished hb
  · exact isM_update xs
theorem shs_len (xs : List Int) (i : Nat) : ∀ k, i + ((txT xs i k).map shL).flatten.length = ppT xs i k
  | 0 => by simp [txT, ppT]
  | k + 1 => by
    have h := shs_len xs i k
    have e : ppT xs i (k + 1) = ppT xs i k + 1 + (beN xs (ppT xs i k) 1).toNat := rfl
    rw [txT_step, e, List.map_append, List.flatten_append, List.length_append]
    simp only [List.map_cons, List.map_nil, List.flatten_cons, List.flatten_nil, List.append_nil, shL_len, txB_len, tkB_len]
    omega
theorem los_len (xs : List Int) (i : Nat) : ∀ k, i + ((clT xs i k).map loL).flatten.length = ppL xs i k
  | 0 => by simp [clT, ppL]
  | k + 1 => by
    have h := los_len xs i k
    have e : ppL xs i (k + 1) = ppL xs i k + 2 + (beN xs (ppL xs i k) 2).toNat := rfl
    rw [clT_step, e, List.map_append, List.flatten_append, List.length_append]
    simp only [List.map_cons, List.map_nil, List.flatten_cons, List.flatten_nil, List.append_nil, loL_len, tkB_len]
    omega
theorem fit_hello {xs : List Int} (h : heL (rdHello xs).v (rdHello xs).r (rdHello xs).s (rdHello xs).ho (rdHello xs).pr (rdHello xs).ti (rdHello xs).ag (rdHello xs).ea (rdHello xs).bi = xs) : HeG xs := by
  have l := congrArg List.length h
  have s := shs_len xs (hpA xs + 1) (xs.getD (hpA xs) 0).toNat
  have eA : hpA xs = 65 + 1 + (beN xs 65 1).toNat := rfl
  have eB : hpB xs = ppT xs (hpA xs + 1) (xs.getD (hpA xs) 0).toNat := rfl
  have eC : hpC xs = hpB xs + 2 + hpN xs := rfl
  have eb : (bdL (rdHello xs).ti (rdHello xs).ag (rdHello xs).ea (rdHello xs).bi).length = if hpN xs = 0 then 0 else 37 := by
    have et : (rdHello xs).ti.length = hpN xs := tkB_len _ _ _
    unfold bdL
    rw [et]
    split
    · rfl
    · rename_i hz
      simp only [rdHello, if_neg hz, List.length_append, bigL_len, tkB_len]
  unfold heL lsL at l
  rw [List.length_append, List.length_append, List.length_append, List.length_append, List.length_append, eb, fpL_len, shL_len, loL_len] at l
  have e1 : (rdHello xs).r.length = 32 := tkB_len _ _ _
  have e2 : (rdHello xs).s.length = 32 := tkB_len _ _ _
  have e3 : (rdHello xs).ho.length = (beN xs 65 1).toNat := by show (txB _).length = _; rw [txB_len, tkB_len]
  have e4 : (rdHello xs).ti.length = hpN xs := tkB_len _ _ _
  have e5 : ((rdHello xs).pr.map shL).flatten.length = ((txT xs (hpA xs + 1) (xs.getD (hpA xs) 0).toNat).map shL).flatten.length := rfl
  have e6 : [((rdHello xs).pr.length : Int)].length = 1 := rfl
  rw [e1, e2, e3, e4, e5, e6] at l
  unfold HeG
  split at l
  · refine ⟨by omega, by omega, fun h => by omega⟩
  · refine ⟨by omega, by omega, fun h => by omega⟩
theorem fit_rd {xs : List Int} {k : Int} (hk : k ∈ kinds) (h : bodF (rdM k xs) = xs) : fitM k xs := by
  have : k = 1 ∨ k = 2 ∨ k = 4 ∨ k = 5 ∨ k = 8 ∨ k = 11 ∨ k = 15 ∨ k = 20 ∨ k = 24 := by simpa [kinds] using hk
  rcases this with e | e | e | e | e | e | e | e | e <;> subst e
  · exact fit_hello (by simpa [bodF, rdM, rdHello] using h)
  · have l := congrArg List.length h
    simp [bodF, rdM, rdAnswer, fpL_len, tkB_len] at l
    show 66 ≤ xs.length
    omega
  · have l := congrArg List.length h
    simp [bodF, rdM, rdTicket, tkL, bigL_len, loL_len, tkB_len] at l
    show 42 + (beN xs 40 2).toNat ≤ xs.length
    omega
  · exact trivial
  · have l := congrArg List.length h
    have s := shs_len xs 1 (xs.getD 0 0).toNat
    have eb : bodF (rdM 8 xs) = lsL (txT xs 1 (xs.getD 0 0).toNat) ++ bigL (beN xs (ppT xs 1 (xs.getD 0 0).toNat) 1) 1 := rfl
    rw [eb, List.length_append, bigL_len] at l
    unfold lsL at l
    rw [List.length_append] at l
    have e6 : [((txT xs 1 (xs.getD 0 0).toNat).length : Int)].length = 1 := rfl
    rw [e6] at l
    show 0 < xs.length ∧ _ ≤ xs.length
    omega
  · have l := congrArg List.length h
    have s := los_len xs 1 (xs.getD 0 0).toNat
    have eb : bodF (rdM 11 xs) = clL (clT xs 1 (xs.getD 0 0).toNat) := rfl
    rw [eb] at l
    unfold clL at l
    rw [List.length_append] at l
    have e6 : [((clT xs 1 (xs.getD 0 0).toNat).length : Int)].length = 1 := rfl
    rw [e6] at l
    show 0 < xs.length ∧ _ ≤ xs.length
    omega
  · have l := congrArg List.length h
    have eb : bodF (rdM 15 xs) = tkB xs 0 64 := rfl
    rw [eb, tkB_len] at l
    show 64 ≤ xs.length
    omega
  · have l := congrArg List.length h
    have eb : bodF (rdM 20 xs) = tkB xs 0 32 := rfl
    rw [eb, tkB_len] at l
    show 32 ≤ xs.length
    omega
  · have l := congrArg List.length h
    have eb : bodF (rdM 24 xs) = bigL (beN xs 0 1) 1 := rfl
    rw [eb, bigL_len] at l
    show 1 ≤ xs.length
    omega
end Go.Proofs.YtcaljanahpdidaaGreat
namespace Go.Proofs.YtcaljanahpdidaaGreat
open Go Go.RowKit
end Go.Proofs.YtcaljanahpdidaaGreat
namespace Go.Proofs.YtcaljanahpdidaaGreat
open Go Go.RowKit
theorem RwC.of_made {w : World} {base g n : Nat} {t : TypeId} (h : w.ownsRow base t 1 (.slice (some ⟨g, 0, none⟩) n n) n (madeCells (Value.agg #[.slice none 0 0]).cells (n * 1)).toList) : RwC w g (List.replicate n (.slice none 0 0)) t := by
  rcases h.2 with ⟨h', _⟩ | ⟨g', cap', cur, h', _, hg, _, _, hcs, htake⟩
  · simp at h'
  · simp only [Value.slice.injEq, Option.some.injEq, Addr.mk.injEq, and_true, true_and] at h'
    obtain ⟨rfl, rfl⟩ := h'
    show _ = _
    rw [hg]
    have : cur = (List.replicate n (Value.slice none 0 0)).toArray := by
      apply Array.ext'
      rw [List.take_of_length_le (by rw [Array.length_toList, hcs]; exact Nat.le_refl _)] at htake
      rw [htake]
      apply List.ext_getElem
      · simp [madeCells]
      · intro i h1 h2
        simp [madeCells, Value.cells, Nat.mod_one]
    rw [this]
theorem pick_list {P : Nat → Nat → Prop} : ∀ n, (∀ j, j < n → ∃ G, P j G) → ∃ Gs : List Nat, ∀ j, j < n → P j (Gs.getD j 0)
  | 0, _ => ⟨[], fun j hj => absurd hj (by omega)⟩
  | n + 1, h => by
    obtain ⟨Gs, hG⟩ := pick_list (P := P) n (fun j hj => h j (by omega))
    obtain ⟨G, hn⟩ := h n (by omega)
    refine ⟨(List.range n).map (fun j => Gs.getD j 0) ++ [G], fun j hj => ?_⟩
    by_cases e : j < n
    · have : ((List.range n).map (fun j => Gs.getD j 0) ++ [G]).getD j 0 = Gs.getD j 0 := by
        rw [List.getD_eq_getElem?_getD, List.getElem?_append_left (by simpa using e)]
        simp [e]
      rw [this]
      exact hG j e
    · obtain rfl : j = n := by omega
      have : ((List.range j).map (fun i => Gs.getD i 0) ++ [G]).getD j 0 = G := by
        rw [List.getD_eq_getElem?_getD, List.getElem?_append_right (by simp)]
        simp
      rw [this]
      exact hn
def RowK (B : Nat) (wr : World) (g : Nat) (ce : List (List Int)) (k : Nat) (vs : List Value) : Prop := vs.length = ce.length ∧ RwC wr g vs 46 ∧ ∀ j, j < k → ∃ G, vs[j]? = some (.slice (some ⟨G, 0, none⟩) (ce.getD j []).length (ce.getD j []).length) ∧ Blk wr G .u8 (ce.getD j []) ∧ B < G
theorem RowK.step {B g k : Nat} {wr w1 : World} {ce : List (List Int)} {vs : List Value} (h : RowK B wr g ce k vs) (hk : k < ce.length) (hg : g ≤ B) (n : Below wr.heap.size wr w1) {G : Nat} (hG : B < G) (b : Blk w1 G .u8 (ce.getD k [])) :
    RowK B (w1.setCell ⟨g, k, none⟩ (.slice (some ⟨G, 0, none⟩) (ce.getD k []).length (ce.getD k []).length)) g ce (k + 1) (vs.set k (.slice (some ⟨G, 0, none⟩) (ce.getD k []).length (ce.getD k []).length)) := by
  obtain ⟨h1, h2, h3⟩ := h
  have O := Only.setCell w1 g k (.slice (some ⟨G, 0, none⟩) (ce.getD k []).length (ce.getD k []).length)
  refine ⟨by simpa using h1, (h2.up n).set k _, fun j hj => ?_⟩
  by_cases e : j = k
  · subst e
    exact ⟨G, by simp [h1, hk], b.of_block (O.block G (by omega)), hG⟩
  · obtain ⟨G', e1, b1, l1⟩ := h3 j (by omega)
    exact ⟨G', by rw [List.getElem?_set_ne (by omega)]; exact e1, (b1.up n).of_block (O.block G' (by omega)), l1⟩
theorem RowK.rd {B g : Nat} {wr : World} {ce : List (List Int)} {vs : List Value} (h : RowK B wr g ce ce.length vs) : ∃ ps, RdL wr g (some ⟨g, 0, none⟩) ce ps ∧ ∀ i, i < ce.length → B < (ps.getD i plb0).q := by
  obtain ⟨h1, h2, h3⟩ := h
  obtain ⟨Gs, hG⟩ := pick_list ce.length h3
  have e : ∀ i, i < ce.length → ((List.range ce.length).map fun j => (⟨some ⟨Gs.getD j 0, 0, none⟩, (ce.getD j []).length, Gs.getD j 0⟩ : Plb)).getD i plb0 = ⟨some ⟨Gs.getD i 0, 0, none⟩, (ce.getD i []).length, Gs.getD i 0⟩ := fun i hi => by
    rw [List.getD_eq_getElem?_getD]
    simp [hi]
  refine ⟨(List.range ce.length).map fun j => ⟨some ⟨Gs.getD j 0, 0, none⟩, (ce.getD j []).length, Gs.getD j 0⟩, ⟨fun _ => ⟨0, rfl, fun i hi => ?_⟩, fun i hi => ?_⟩, fun i hi => ?_⟩
  · rw [Nat.zero_add, h2.cell i, e i hi]
    exact (hG i hi).1
  · rw [e i hi]
    exact (hG i hi).2.1.own0.rd
  · rw [e i hi]
    exact (hG i hi).2.2
end Go.Proofs.YtcaljanahpdidaaGreat
namespace Go.Proofs.YtcaljanahpdidaaGreat
open Go Go.RowKit
end Go.Proofs.YtcaljanahpdidaaGreat
namespace Go.Proofs.YtcaljanahpdidaaGreat
open Go Go.RowKit
theorem Rd.onl {w w' : World} {g q : Nat} {a : Option Addr} {xs : List Int} (h : Rd w g a .u8 xs) (O : Only q w w') (hne : g ≠ q) : Rd w' g a .u8 xs := fun h0 => by
  obtain ⟨off, e, hc⟩ := h h0
  exact ⟨off, e, fun i hi => (World.cell?_of_block (a := ⟨g, off + i, none⟩) (O.block g hne)).trans (hc i hi)⟩
def FB (b : Nat) (W : World) (g : Nat) (xs : List Int) : Prop := Blk W g .u8 xs ∧ b < g
def FT (b : Nat) (W : World) (g : Nat) (ls : List (List UInt8)) : Prop := BlkT W g ls ∧ b < g
def FL (b : Nat) (W : World) (g : Nat) (ce : List (List Int)) (ps : List Plb) : Prop := RdL W g (some ⟨g, 0, none⟩) ce ps ∧ b < g ∧ ∀ i, i < ce.length → b < (ps.getD i plb0).q
theorem FB.up {b : Nat} {W W' : World} {g : Nat} {xs : List Int} (h : FB b W g xs) (n : Below W.heap.size W W') : FB b W' g xs := ⟨h.1.up n, h.2⟩
theorem FT.up {b : Nat} {W W' : World} {g : Nat} {xs : List (List UInt8)} (h : FT b W g xs) (n : Below W.heap.size W W') : FT b W' g xs := ⟨h.1.up n, h.2⟩
theorem FL.up {b : Nat} {W W' : World} {g : Nat} {xs : List (List Int)} {ps : List Plb} (h : FL b W g xs ps) (n : Below W.heap.size W W') : FL b W' g xs ps := ⟨h.1.up n, h.2⟩
theorem FB.onl {b q : Nat} {W W' : World} {g : Nat} {xs : List Int} (h : FB b W g xs) (O : Only q W W') (hq : q ≤ b) : FB b W' g xs := ⟨h.1.of_block (O.block g (by have := h.2; omega)), h.2⟩
theorem FT.onl {b q : Nat} {W W' : World} {g : Nat} {xs : List (List UInt8)} (h : FT b W g xs) (O : Only q W W') (hq : q ≤ b) : FT b W' g xs := ⟨(O.block g (by have := h.2; omega)).trans h.1, h.2⟩
theorem FL.onl {b q : Nat} {W W' : World} {g : Nat} {xs : List (List Int)} {ps : List Plb} (h : FL b W g xs ps) (O : Only q W W') (hq : q ≤ b) : FL b W' g xs ps := by
  obtain ⟨h1, h2, h3⟩ := h
  refine ⟨⟨fun h0 => ?_, fun i hi => (h1.b i hi).onl O (by have := h3 i hi; omega)⟩, h2, h3⟩
  obtain ⟨off, e, hc⟩ := h1.r h0
  exact ⟨off, e, fun i hi => (World.cell?_of_block (a := ⟨g, off + i, none⟩) (O.block g (by omega))).trans (hc i hi)⟩
end Go.Proofs.YtcaljanahpdidaaGreat
namespace Go.Proofs.YtcaljanahpdidaaGreat
open Go Go.RowKit
def zM : List Value := [.int .i64 0, .int .i64 0, .slice none 0 0, .slice none 0 0, .string ⟨#[]⟩, .slice none 0 0, .slice none 0 0, .int .i64 0, .int .i64 0, .slice none 0 0, .bool false, .slice none 0 0, .slice none 0 0]
theorem FB.tch {b q : Nat} {W W' : World} {g : Nat} {xs : List Int} (h : FB b W g xs) (T : Tch [q] W W') (hq : q ≤ b) : FB b W' g xs := ⟨h.1.of_block (T.block g h.1.lt (by have := h.2; simp; omega)), h.2⟩
def FR (b : Nat) (W : World) (v : Value) (ls : List (List UInt8)) : Prop := RowT W (b + 1) v ls
theorem FR.tch {b q : Nat} {W W' : World} {v : Value} {ls : List (List UInt8)} (h : FR b W v ls) (T : Tch [q] W W') (hq : q ≤ b) : FR b W' v ls := RowT.tch h T (by omega)
theorem FR.onl {b q : Nat} {W W' : World} {v : Value} {ls : List (List UInt8)} (h : FR b W v ls) (O : Only q W W') (hq : q ≤ b) : FR b W' v ls := RowT.onl h O (by omega)
theorem RowT.rdT {w : World} {base : Nat} {a : Option Addr} {n c : Nat} {ls : List (List UInt8)} (h : RowT w base (.slice a n c) ls) : n = ls.length ∧ ls.length ≤ c ∧ (a = none → c = 0) ∧ ∃ g, RdT w g a ls ∧ (0 < ls.length → (∃ cs mk, w.heap[g]? = some (.cells cs 9 mk)) ∧ base ≤ g) := by
  rcases h.2 with ⟨h', h0⟩ | ⟨g, cap, cur, e, hbg, hg, hnc, hcm, hcs, ht⟩
  · cases h'
    refine ⟨h0.symm, by omega, fun _ => rfl, 0, fun hh => absurd hh (by omega), fun hh => absurd hh (by omega)⟩
  · obtain ⟨rfl, rfl, rfl⟩ : a = some ⟨g, 0, none⟩ ∧ n = ls.length ∧ c = cap := by cases e; exact ⟨rfl, rfl, rfl⟩
    refine ⟨rfl, hnc, (fun e => by cases e), g, fun hh => ?_, fun _ => ⟨⟨_, _, hg⟩, hbg⟩⟩
    obtain ⟨g', c', e', _, _, hc, _⟩ := RowT.cells h hh
    obtain rfl : g = g' := by cases e'; rfl
    exact ⟨0, rfl, fun i hi => by rw [Nat.zero_add]; exact hc i hi⟩
structure NoM (g : Nat) (p : MQ) (m : Msg) : Prop where
  r : 0 < m.r.length → p.g2 ≠ g
  s : 0 < m.s.length → p.g3 ≠ g
  pr : 0 < m.pr.length → p.g5 ≠ g
  ti : 0 < m.ti.length → p.g6 ≠ g
  bi : 0 < m.bi.length → p.g9 ≠ g
  ce : 0 < m.ce.length → p.g11 ≠ g
  cl : ∀ i, i < m.ce.length → 0 < (m.ce.getD i []).length → (p.ps.getD i plb0).q ≠ g
  pf : 0 < m.pf.length → p.g12 ≠ g
def TyM (W : World) (p : MQ) (m : Msg) : Prop := (0 < m.pr.length → ∃ cs mk, W.heap[p.g5]? = some (.cells cs 9 mk)) ∧ (0 < m.ce.length → ∃ cs mk, W.heap[p.g11]? = some (.cells cs 46 mk))
theorem TyM.up {W W' : World} {p : MQ} {m : Msg} (h : TyM W p m) (n : Below W.heap.size W W') : TyM W' p m := by
  refine ⟨fun h0 => ?_, fun h0 => ?_⟩
  · obtain ⟨cs, mk, e⟩ := h.1 h0
    exact ⟨cs, mk, (n.block _ (Array.getElem?_eq_some_iff.1 e).1).trans e⟩
  · obtain ⟨cs, mk, e⟩ := h.2 h0
    exact ⟨cs, mk, (n.block _ (Array.getElem?_eq_some_iff.1 e).1).trans e⟩
def plbs (bs : List Plc) : List Plb := bs.map fun p => ⟨p.a, p.c, p.q⟩
theorem plbs_get {bs : List Plc} {i : Nat} (h : i < bs.length) : (plbs bs).getD i plb0 = ⟨(bs.getD i plc0).a, (bs.getD i plc0).c, (bs.getD i plc0).q⟩ := by simp [plbs, h]
theorem certsZ {W : World} {B : Nat} {va : Option Addr} {vc n gq : Nat} {xs : List Int} {bs : List Plc} (h : BRow W B (.slice va n vc) (clT xs 1 n) bs) (en : (xs.getD 0 0).toNat = n) : HasZ ⟨none, 0, 0, none, 0, 0, none, 0, 0, none, 0, 0, none, 0, 0, va, vc, gq, none, 0, 0, plbs bs⟩ (rdCerts xs) := by
  refine ⟨(fun _ => rfl), (fun _ => rfl), (fun _ => rfl), (fun _ => rfl), (fun _ => rfl), fun i hi e => ?_⟩
  have hi : i < n := by
    have e1 : (rdCerts xs).ce.length = n := by show (clT _ _ _).length = _; rw [clT_len, en]
    rw [e1] at hi
    exact hi
  have hl : i < bs.length := by rw [h.l, clT_len]; exact hi
  have e : ((plbs bs).getD i plb0).a = none := e
  show ((plbs bs).getD i plb0).c = 0
  rw [plbs_get hl] at e ⊢
  exact (h.b i (by rw [clT_len]; exact hi)).n e
end Go.Proofs.YtcaljanahpdidaaGreat
namespace Go.Proofs.YtcaljanahpdidaaGreat
open Go Go.RowKit
end Go.Proofs.YtcaljanahpdidaaGreat
namespace Go.Proofs.YtcaljanahpdidaaGreat
open Go Go.RowKit
structure Ch (lo hi : Nat) (w w' : World) : Prop where
  os : w'.os = w.os
  tape : w'.tape = w.tape
  output : w'.output = w.output
  size : w.heap.size ≤ w'.heap.size
  block : ∀ b, b < w.heap.size → b < lo ∨ hi ≤ b → w'.heap[b]? = w.heap[b]?
theorem Ch.refl (lo hi : Nat) (w : World) : Ch lo hi w w := ⟨rfl, rfl, rfl, Nat.le_refl _, fun _ _ _ => rfl⟩
theorem Ch.trans {lo hi : Nat} {a b c : World} (h : Ch lo hi a b) (k : Ch lo hi b c) : Ch lo hi a c :=
  ⟨k.os.trans h.os, k.tape.trans h.tape, k.output.trans h.output, Nat.le_trans h.size k.size, fun i hl hi => (k.block i (Nat.lt_of_lt_of_le hl h.size) hi).trans (h.block i hl hi)⟩
theorem Ch.mono {lo hi lo' hi' : Nat} {a b : World} (h : Ch lo hi a b) (hl : lo' ≤ lo) (hh : hi ≤ hi') : Ch lo' hi' a b := ⟨h.os, h.tape, h.output, h.size, fun i hb hi => h.block i hb (by omega)⟩
theorem Ch.of_below {lo hi : Nat} {a b : World} (h : Below a.heap.size a b) : Ch lo hi a b := ⟨h.os, h.tape, h.output, h.size, fun i hb _ => h.block i hb⟩
theorem Ch.of_only {g lo hi : Nat} {a b : World} (h : Only g a b) (h1 : lo ≤ g) (h2 : g < hi) : Ch lo hi a b := ⟨h.os, h.tape, h.output, Nat.le_of_eq h.size.symm, fun i _ hi => h.block i (by omega)⟩
theorem Ch.below {lo hi : Nat} {a b : World} (h : Ch lo hi a b) (hl : lo ≤ a.heap.size) : Below lo a b := ⟨h.os, h.tape, h.output, h.size, fun i hi => h.block i (by omega) (.inl hi)⟩
structure RowO (w : World) (g : Nat) (ce : List (List Int)) (k : Nat) (Gs : List Nat) : Prop where
  c : ∀ i, i < k → w.cell? ⟨g, i, none⟩ = some (.slice (some ⟨Gs.getD i 0, 0, none⟩) (ce.getD i []).length (ce.getD i []).length)
  b : ∀ i, i < k → Blk w (Gs.getD i 0) .u8 (ce.getD i [])
  l : ∀ i, i < k → g < Gs.getD i 0
  m : ∀ i j, i < j → j < k → Gs.getD i 0 < Gs.getD j 0
theorem RowO.up {w w' : World} {g : Nat} {ce : List (List Int)} {k : Nat} {Gs : List Nat} (h : RowO w g ce k Gs) (n : Below w.heap.size w w') : RowO w' g ce k Gs :=
  ⟨fun i hi => (n.cell (block_lt_of_cell (h.c i hi))).trans (h.c i hi), fun i hi => (h.b i hi).up n, h.l, h.m⟩
theorem RowO.onl {w w' : World} {g q : Nat} {ce : List (List Int)} {k : Nat} {Gs : List Nat} (h : RowO w g ce k Gs) (O : Only q w w') (hq : q < g) : RowO w' g ce k Gs :=
  ⟨fun i hi => (World.cell?_of_block (a := ⟨g, i, none⟩) (O.block g (by omega))).trans (h.c i hi), fun i hi => (h.b i hi).of_block (O.block _ (by have := h.l i hi; omega)), h.l, h.m⟩
def psO (ce : List (List Int)) (Gs : List Nat) : List Plb := (List.range ce.length).map fun j => ⟨some ⟨Gs.getD j 0, 0, none⟩, (ce.getD j []).length, Gs.getD j 0⟩
theorem psO_get {ce : List (List Int)} {Gs : List Nat} {i : Nat} (hi : i < ce.length) : (psO ce Gs).getD i plb0 = ⟨some ⟨Gs.getD i 0, 0, none⟩, (ce.getD i []).length, Gs.getD i 0⟩ := by
  unfold psO
  rw [List.getD_eq_getElem?_getD]
  simp [hi]
theorem RowO.rd {w : World} {g : Nat} {ce : List (List Int)} {Gs : List Nat} (h : RowO w g ce ce.length Gs) : RdL w g (some ⟨g, 0, none⟩) ce (psO ce Gs) := by
  refine ⟨fun _ => ⟨0, rfl, fun i hi => ?_⟩, fun i hi => ?_⟩
  · rw [Nat.zero_add, psO_get hi]
    exact h.c i hi
  · rw [psO_get hi]
    exact (h.b i hi).own0.rd
def RowP (wr : World) (g : Nat) (ce : List (List Int)) (k : Nat) (vs : List Value) (Gs : List Nat) : Prop := vs.length = ce.length ∧ RwC wr g vs 46 ∧ Gs.length = k ∧ RowO wr g ce k Gs
theorem RowP.step {g k : Nat} {wr w1 : World} {ce : List (List Int)} {vs : List Value} {Gs : List Nat} (h : RowP wr g ce k vs Gs) (hk : k < ce.length) (n : Below wr.heap.size wr w1) {G : Nat} (hG : wr.heap.size ≤ G) (b : Blk w1 G .u8 (ce.getD k [])) :
    RowP (w1.setCell ⟨g, k, none⟩ (.slice (some ⟨G, 0, none⟩) (ce.getD k []).length (ce.getD k []).length)) g ce (k + 1) (vs.set k (.slice (some ⟨G, 0, none⟩) (ce.getD k []).length (ce.getD k []).length)) (Gs ++ [G]) := by
  obtain ⟨h1, h2, h3, h4⟩ := h
  have O := Only.setCell w1 g k (.slice (some ⟨G, 0, none⟩) (ce.getD k []).length (ce.getD k []).length)
  have R2 := (h2.up n).set k (.slice (some ⟨G, 0, none⟩) (ce.getD k []).length (ce.getD k []).length)
  have lg := h2.lt
  have e1 : ∀ i, i < k → (Gs ++ [G]).getD i 0 = Gs.getD i 0 := fun i hi => by
    rw [List.getD_eq_getElem?_getD, List.getElem?_append_left (by omega), ← List.getD_eq_getElem?_getD]
  have e2 : (Gs ++ [G]).getD k 0 = G := by
    rw [List.getD_eq_getElem?_getD, List.getElem?_append_right (by omega), h3]
    simp
  refine ⟨by simpa using h1, R2, by simp [h3], ⟨fun i hi => ?_, fun i hi => ?_, fun i hi => ?_, fun i j hij hj => ?_⟩⟩
  · rw [R2.cell i]
    by_cases e : i = k
    · subst e
      rw [e2]
      simp [h1, hk]
    · rw [e1 i (by omega), List.getElem?_set_ne (by omega)]
      have := h4.c i (by omega)
      rwa [h2.cell i] at this
  · by_cases e : i = k
    · subst e
      rw [e2]
      exact b.of_block (O.block G (by omega))
    · rw [e1 i (by omega)]
      have := h4.l i (by omega)
      exact ((h4.b i (by omega)).up n).of_block (O.block _ (by omega))
  · by_cases e : i = k
    · subst e
      rw [e2]
      omega
    · rw [e1 i (by omega)]
      exact h4.l i (by omega)
  · rw [e1 i (by omega)]
    by_cases e : j = k
    · subst e
      rw [e2]
      have := (h4.b i hij).lt
      omega
    · rw [e1 j (by omega)]
      exact h4.m i j hij (by omega)
end Go.Proofs.YtcaljanahpdidaaGreat
namespace Go.Proofs.YtcaljanahpdidaaGreat
open Go Go.RowKit
end Go.Proofs.YtcaljanahpdidaaGreat
namespace Go.Proofs.YtcaljanahpdidaaGreat
open Go Go.RowKit
def psB (its : List (List Int)) (n : Int) : Nat → Int
  | 0 => n
  | k + 1 => psB its n k + ((its.getD k []).length : Int)
structure Bsy (S : Nat → Prop) (w w' : World) : Prop where
  os : w'.os = w.os
  tape : w'.tape = w.tape
  output : w'.output = w.output
  size : w'.heap.size = w.heap.size
  block : ∀ k, ¬ S k → w'.heap[k]? = w.heap[k]?
theorem Bsy.refl (S : Nat → Prop) (w : World) : Bsy S w w := ⟨rfl, rfl, rfl, rfl, fun _ _ => rfl⟩
theorem own_anyB {w w' : World} {g : Nat} {a : Option Addr} {xs : List Int} (h : Own w g a .u8 xs) (hb : 0 < xs.length → w'.heap[g]? = w.heap[g]?) : Own w' g a .u8 xs := fun h0 => h.of_block (hb h0) h0
def MkdB (w : World) (v : Value) (its : List (List Int)) (bs : List Plc) (n : Int) : Prop := ∀ g c, v = .slice (some ⟨g, 0, none⟩) its.length c → ∀ i, i < its.length → w.cell? ⟨g, i, none⟩ = some (.slice (bs.getD i plc0).a (its.getD i []).length (bs.getD i plc0).c) ∧ Own w (bs.getD i plc0).q (bs.getD i plc0).a .u8 (marks (psB its n i) (its.getD i []).length)
theorem MkdB.up {w w' : World} {v : Value} {its : List (List Int)} {bs : List Plc} {n : Int} (h : MkdB w v its bs n) (N : Below w.heap.size w w') : MkdB w' v its bs n := fun g c e i hi => by
  have P := h g c e i hi
  have hg : g < w.heap.size := block_lt_of_cell P.1
  exact ⟨(World.cell?_of_block (a := ⟨g, i, none⟩) (N.block g hg)).trans P.1, own_anyB P.2 (fun h0 => N.block _ (P.2.rd.lt h0))⟩
end Go.Proofs.YtcaljanahpdidaaGreat
namespace Go.Proofs.YtcaljanahpdidaaGreat
open Go Go.RowKit
structure AnsM (W : World) (F : Nat → Nat) (p : MQ) (m : Msg) (bs : List Plc) : Prop where
  r : Own W p.g2 p.a2 .u8 m.r
  s : Own W p.g3 p.a3 .u8 m.s
  pr : RowT W (F 2) (.slice p.a5 m.pr.length p.c5) m.pr
  ti : Own W p.g6 p.a6 .u8 m.ti
  bi : Own W p.g9 p.a9 .u8 m.bi
  ce : BRow W (F 5) (.slice p.a11 m.ce.length p.c11) m.ce bs
  pf : Own W p.g12 p.a12 .u8 m.pf
  b2 : 0 < m.r.length → F 0 ≤ p.g2 ∧ p.g2 < F 1
  b3 : 0 < m.s.length → F 1 ≤ p.g3 ∧ p.g3 < F 2
  b5 : 0 < m.pr.length → p.a5 = some ⟨p.g5, 0, none⟩ ∧ p.g5 < F 3
  b6 : 0 < m.ti.length → F 3 ≤ p.g6 ∧ p.g6 < F 4
  b9 : 0 < m.bi.length → F 4 ≤ p.g9 ∧ p.g9 < F 5
  b11 : 0 < m.ce.length → p.a11 = some ⟨p.g11, 0, none⟩ ∧ p.g11 < F 6
  bl : ∀ i, i < m.ce.length → 0 < (m.ce.getD i []).length → (bs.getD i plc0).q < F 6
  b12 : 0 < m.pf.length → F 6 ≤ p.g12 ∧ p.g12 < F 7
  mono : F 0 ≤ F 1 ∧ F 1 ≤ F 2 ∧ F 2 ≤ F 3 ∧ F 3 ≤ F 4 ∧ F 4 ≤ F 5 ∧ F 5 ≤ F 6 ∧ F 6 ≤ F 7
  z : HasZ p m
  prC : m.pr.length ≤ p.c5
  ps : p.ps = plbs bs
theorem own_ch {W W' : World} {g : Nat} {a : Option Addr} {xs : List Int} (h : Own W g a .u8 xs) (hb : 0 < xs.length → W'.heap[g]? = W.heap[g]?) : Own W' g a .u8 xs := fun h0 => h.of_block (hb h0) h0
theorem rowT_ch {W W' : World} {B : Nat} {v : Value} {ls : List (List UInt8)} (h : RowT W B v ls) (hb : ∀ k, v.ownBlock = some k → W'.heap[k]? = W.heap[k]?) : RowT W' B v ls := by
  refine ⟨h.1, ?_⟩
  rcases h.2 with h' | ⟨g, cap, cur, rfl, hbg, hg, hnc, hcm, hcs, ht⟩
  · exact .inl h'
  · exact .inr ⟨g, cap, cur, rfl, hbg, by rw [hb g rfl]; exact hg, hnc, hcm, hcs, ht⟩
theorem AnsM.of {W W' : World} {F : Nat → Nat} {p : MQ} {m : Msg} {bs : List Plc} (h : AnsM W F p m bs) (hb : ∀ k, k < W.heap.size → F 0 ≤ k → W'.heap[k]? = W.heap[k]?) : AnsM W' F p m bs := by
  have mo := h.mono
  refine ⟨own_ch h.r fun h0 => hb _ (h.r.rd.lt h0) (h.b2 h0).1, own_ch h.s fun h0 => hb _ (h.s.rd.lt h0) (by have := (h.b3 h0).1; omega), rowT_ch h.pr fun k hk => hb k (World.ownsRow.lt h.pr k hk).2 (by have := (World.ownsRow.lt h.pr k hk).1; omega), own_ch h.ti fun h0 => hb _ (h.ti.rd.lt h0) (by have := (h.b6 h0).1; omega), own_ch h.bi fun h0 => hb _ (h.bi.rd.lt h0) (by have := (h.b9 h0).1; omega), h.ce.of fun k hk hB => hb k hk (by omega), own_ch h.pf fun h0 => hb _ (h.pf.rd.lt h0) (by have := (h.b12 h0).1; omega), h.b2, h.b3, h.b5, h.b6, h.b9, h.b11, h.bl, h.b12, h.mono, h.z, h.prC, h.ps⟩
theorem AnsM.up {W W' : World} {F : Nat → Nat} {p : MQ} {m : Msg} {bs : List Plc} (h : AnsM W F p m bs) (n : Below W.heap.size W W') : AnsM W' F p m bs := h.of fun k hk _ => n.block k hk
theorem AnsM.onl {W W' : World} {F : Nat → Nat} {p : MQ} {m : Msg} {bs : List Plc} {q : Nat} (h : AnsM W F p m bs) (O : Only q W W') (hq : q < F 0) : AnsM W' F p m bs := h.of fun k _ hk => O.block k (by omega)
theorem AnsM.has {W : World} {F : Nat → Nat} {p : MQ} {m : Msg} {bs : List Plc} (h : AnsM W F p m bs) : HasM W p m := by
  refine ⟨h.r.rd, h.s.rd, fun h0 => ?_, h.ti.rd, h.bi.rd, ⟨fun h0 => ?_, fun i hi => ?_⟩, h.pf.rd, h.prC⟩
  · obtain ⟨e, -⟩ := h.b5 h0
    obtain ⟨g, c, e', -, -, hc, -⟩ := h.pr.cells h0
    have eg : p.g5 = g := by rw [e] at e'; cases e'; rfl
    exact ⟨0, e, fun i hi => by rw [Nat.zero_add, eg]; exact hc i hi⟩
  · obtain ⟨e, -⟩ := h.b11 h0
    obtain ⟨g, c, e', -, -, -, hc⟩ := h.ce.cells h0
    have eg : p.g11 = g := by rw [e] at e'; cases e'; rfl
    exact ⟨0, e, fun i hi => by rw [Nat.zero_add, eg, h.ps, plbs_get (by rw [h.ce.l]; exact hi)]; exact hc i hi⟩
  · rw [h.ps, plbs_get (by rw [h.ce.l]; exact hi)]
    exact (h.ce.b i hi).o.rd
theorem AnsM.zero (W : World) (B : Nat) : AnsM W (fun _ => B) mq0 msg0 [] :=
  ⟨(fun h => absurd h (by simp [msg0])), (fun h => absurd h (by simp [msg0])), ⟨rfl, .inl ⟨rfl, rfl⟩⟩, (fun h => absurd h (by simp [msg0])), (fun h => absurd h (by simp [msg0])), BRow.nil _ _, (fun h => absurd h (by simp [msg0])), (fun h => absurd h (by simp [msg0])), (fun h => absurd h (by simp [msg0])), (fun h => absurd h (by simp [msg0])), (fun h => absurd h (by simp [msg0])), (fun h => absurd h (by simp [msg0])), (fun h => absurd h (by simp [msg0])), (fun i h => absurd h (by simp [msg0])), (fun h => absurd h (by simp [msg0])), by simp, ⟨fun _ => rfl, fun _ => rfl, fun _ => rfl, fun _ => rfl, fun _ => rfl, fun i hi => absurd hi (by simp [msg0])⟩, Nat.zero_le _, rfl⟩
theorem nilT (W : World) (B : Nat) : RowT W B (.slice none 0 0) [] := ⟨rfl, .inl ⟨rfl, rfl⟩⟩
end Go.Proofs.YtcaljanahpdidaaGreat
namespace Go.Proofs.YtcaljanahpdidaaGreat
open Go Go.RowKit
def mtD : Nat → Nat → List UInt8 → List UInt8
  | 0, _, l => l
  | j + 1, x, l => if x = 0 then l else mtD j (x / 10) ((48 + UInt8.ofNat (x % 10)) :: l)
def mtF (n : Nat) : List UInt8 := if n = 0 then [109, 48] else 109 :: mtD 13 n []
end Go.Proofs.YtcaljanahpdidaaGreat
