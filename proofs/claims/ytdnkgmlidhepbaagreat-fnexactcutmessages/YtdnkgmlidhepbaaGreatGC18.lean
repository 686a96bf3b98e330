import Derived.Test.YtdnkgmlidhepbaaGreatGC9
import Derived.Deep.QuietTactic
import Derived.BigQuiet
import Derived.Test.YtdnkgmlidhepbaaGreatGC8
import Derived.Test.YtdnkgmlidhepbaaGreatGC14
import Derived.Test.YtdnkgmlidhepbaaGreatGC16
import Derived.Test.YtdnkgmlidhepbaaGreatGC17
import Derived.Test.YtdnkgmlidhepbaaGreatGC15
import Derived.Test.YtdnkgmlidhepbaaGreatGC3
import Derived.Test.YtdnkgmlidhepbaaGreatGC12
import Derived.Test.YtdnkgmlidhepbaaGreatGC1
import Derived.Deep.MidRow
import Derived.Deep.Cut
import Derived.Test.YtdnkgmlidhepbaaGreatGC11
namespace Go.Proofs.YtdnkgmlidhepbaaGreat
open Go Go.RowKit
def kinds : List Int := [1, 2, 4, 5, 8, 11, 15, 20, 24]
set_option maxHeartbeats 1000000 in
theorem l12Has_any (w : World) (g : Nat) (a : Option Addr) (c : Nat) (ls : List Int) (x : Int) (hr : Rd w g a .i64 ls) (hn : ls.length ≤ 1048576) :
    Calls Tryz.prog 34 #[.slice a ls.length c, .int .i64 x] w fun e w' => e = .returned (.bool (decide (x ∈ ls))) ∧ w' = w := by
  go_enter Tryz.func34, Tryz.ntmps34
  go_wp2
  go_loopw [5] (fun i wr => ∃ (k : Nat), k ≤ ls.length ∧ i = .int .i64 k ∧ wr = w ∧ ∀ j, j < k → ls.getD j 0 ≠ x) (fun i _ => ls.length - (intOf i).toNat)
  case atStart => exact ⟨0, Nat.zero_le _, rfl, rfl, fun j hj => absurd hj (by omega)⟩
  case round =>
    obtain ⟨k, hk, rfl, rfl, hne⟩ := hrel
    by_cases hlt : k < ls.length
    · obtain ⟨off, rfl, hc⟩ := hr (by omega)
      have t0 : (k : Int) < (ls.length : Int) := by omega
      have c1 := hc k hlt
      have HNE := hide hne
      clear hne hc hr
      generalize hx : ls.getD k 0 = y at *
      have HX := hide hx
      clear hx
      by_cases hq : y = x
      · subst hq
        have MEM : Hid (decide (y ∈ ls) = true) := by
          show _ = _
          refine decide_eq_true ?_
          rw [← HX.out, List.getD_eq_getElem?_getD, List.getElem?_eq_getElem hlt]
          exact List.getElem_mem hlt
        clear HNE
        go_wp2
        go_ret
        exact ⟨by rw [MEM.out]; rfl, rfl⟩
      · have e1 : (y == x) = false := by simpa using hq
        have NXT : Hid (∀ j, j < k + 1 → ls.getD j 0 ≠ x) := fun j hj => by
          by_cases h : j = k
          · subst h
            rw [HX.out]
            exact hq
          · exact HNE.out j (by omega)
        clear HNE hq
        go_wp2
        go_roundw
        case rel => exact ⟨k + 1, by omega, by go_num, trivial, NXT.out⟩
        case measure => simp [intOf]; omega
    · obtain rfl : k = ls.length := by omega
      have NM : Hid (decide (x ∈ ls) = false) := by
        show _ = _
        refine decide_eq_false fun h => ?_
        obtain ⟨i, hi, e⟩ := List.getElem_of_mem h
        refine hne i hi ?_
        rw [List.getD_eq_getElem?_getD, List.getElem?_eq_getElem hi]
        exact e
      clear hne hr
      go_wp2
      go_ret
      exact ⟨by rw [NM.out]; rfl, rfl⟩
set_option maxHeartbeats 1000000 in
theorem l13Known_any (w : World) (k : Int) :
    Calls Tryz.prog 18 #[.int .i64 k] w fun e w' => e = .returned (.bool (decide (k ∈ kinds))) ∧ Below w.heap.size w w' := by
  have n0 : Hid (Below w.heap.size w (w.alloc (.cells #[.int .i64 1, .int .i64 2, .int .i64 4, .int .i64 5, .int .i64 8, .int .i64 11, .int .i64 15, .int .i64 20, .int .i64 24] 2))) := (Below.refl _ _).alloc (Nat.le_refl _) _
  have R : Rd (w.alloc (.cells #[.int .i64 1, .int .i64 2, .int .i64 4, .int .i64 5, .int .i64 8, .int .i64 11, .int .i64 15, .int .i64 20, .int .i64 24] 2)) w.heap.size (some ⟨w.heap.size, 0, none⟩) .i64 kinds := fun _ => ⟨0, rfl, fun i hi => by
    have h : (w.alloc (.cells #[.int .i64 1, .int .i64 2, .int .i64 4, .int .i64 5, .int .i64 8, .int .i64 11, .int .i64 15, .int .i64 20, .int .i64 24] 2)).heap[w.heap.size]? = some (.cells #[.int .i64 1, .int .i64 2, .int .i64 4, .int .i64 5, .int .i64 8, .int .i64 11, .int .i64 15, .int .i64 20, .int .i64 24] 2 (0, 0)) := by show (w.heap.push _)[w.heap.size]? = _; simp
    rw [Nat.zero_add, cell_of_row _ _ _ _ _ _ h]
    have hi' : i < 9 := hi
    obtain rfl | rfl | rfl | rfl | rfl | rfl | rfl | rfl | rfl : i = 0 ∨ i = 1 ∨ i = 2 ∨ i = 3 ∨ i = 4 ∨ i = 5 ∨ i = 6 ∨ i = 7 ∨ i = 8 := by omega
    all_goals rfl⟩
  have H : Hid (Calls Tryz.prog 34 #[.slice (some ⟨w.heap.size, 0, none⟩) 9 9, .int .i64 k] (w.alloc (.cells #[.int .i64 1, .int .i64 2, .int .i64 4, .int .i64 5, .int .i64 8, .int .i64 11, .int .i64 15, .int .i64 20, .int .i64 24] 2)) fun e w' => e = .returned (.bool (decide (k ∈ kinds))) ∧ w' = w.alloc (.cells #[.int .i64 1, .int .i64 2, .int .i64 4, .int .i64 5, .int .i64 8, .int .i64 11, .int .i64 15, .int .i64 20, .int .i64 24] 2)) := l12Has_any _ _ _ 9 kinds k R (by decide)
  clear R
  generalize decide (k ∈ kinds) = z at *
  go_enter Tryz.func18, Tryz.ntmps18
  go_wp2_with fail
  refine H.out.mono ?_
  rintro e w1 ⟨rfl, h1⟩
  subst h1
  go_wp2
  go_ret
  exact ⟨rfl, n0.out⟩
theorem mem_take_of {ls : List (List UInt8)} {k j : Nat} (hj : j < k) (hk : k < ls.length) (h : ls.getD j [] = ls.getD k []) : prA ls k = false := by
  unfold prA
  have m : ls.getD k [] ∈ ls.take k := by
    rw [← h, List.getD_eq_getElem?_getD, List.getElem?_eq_getElem (by omega)]
    have : (ls.take k)[j]'(by rw [List.length_take]; omega) = ls[j] := List.getElem_take
    rw [Option.getD_some, ← this]
    exact List.getElem_mem _
  rw [decide_eq_true m]
  simp
theorem prA_of {ls : List (List UInt8)} {k : Nat} (hk : k < ls.length) (h0 : 0 < (ls.getD k []).length) (h1 : (ls.getD k []).length ≤ 32) (h : ∀ j, j < k → ls.getD j [] ≠ ls.getD k []) : prA ls k = true := by
  unfold prA
  have m : ¬ ls.getD k [] ∈ ls.take k := fun hm => by
    obtain ⟨i, hi, e⟩ := List.getElem_of_mem hm
    rw [List.length_take] at hi
    refine h i (by omega) ?_
    rw [← e, List.getElem_take, List.getD_eq_getElem?_getD, List.getElem?_eq_getElem (by omega)]
    rfl
  rw [decide_eq_true h0, decide_eq_true h1, decide_eq_false m]
  rfl
set_option maxHeartbeats 2000000 in
theorem l13Protocols_any (w : World) (g : Nat) (a : Option Addr) (c : Nat) (ls : List (List UInt8)) (n : Nat) (hr : RdT w g a ls) (hn : ls.length ≤ 1048576) (n1 : n ≤ 100) (hz : ∀ l ∈ ls, l.length ≤ 1048576) :
    Calls Tryz.prog 41 #[.slice a ls.length c, .int .i64 (n : Int)] w fun e w' => e = .returned (.bool (prB ls n)) ∧ Below w.heap.size w w' := by
  by_cases hl : ls.length ≤ n
  · have d0 : decide ((n : Int) < (ls.length : Int)) = false := by simp; omega
    have d0' : decide (n < ls.length) = false := by simp; omega
    go_enter Tryz.func41, Tryz.ntmps41
    go_wp2
    go_loopw [5, 6] (fun i _ wr => ∃ (k : Nat), k ≤ ls.length ∧ i = .int .i64 k ∧ Below w.heap.size w wr ∧ ∀ j, j < k → prA ls j = true) (fun i _ _ => ls.length - (intOf i).toNat)
    case atStart => exact ⟨0, Nat.zero_le _, rfl, Below.refl _ _, fun j hj => absurd hj (by omega)⟩
    case round =>
      obtain ⟨k, hk, rfl, nb, hall⟩ := hrel
      by_cases hlt : k < ls.length
      · have hr1 := hr.up nb
        obtain ⟨off, rfl, hcl⟩ := hr1 (by omega)
        have t0 : (k : Int) < (ls.length : Int) := by omega
        have c1 := hcl k hlt
        have HALL := hide hall
        have HN := hide nb
        have HCL := hide hcl
        clear hall nb hcl hr1
        have HZ : (ls.getD k []).length ≤ 1048576 := by
          refine hz _ ?_
          rw [List.getD_eq_getElem?_getD, List.getElem?_eq_getElem hlt]
          exact List.getElem_mem hlt
        have PN := hide (fun h => prB_no (n := n) hlt h)
        have PT := hide (fun j hj h => mem_take_of (j := j) hj hlt h)
        have PO := hide (fun h0 h1 h => prA_of hlt h0 h1 h)
        have P0 := hide (show (ls.getD k []).length = 0 → prA ls k = false from fun h => by unfold prA; rw [h]; rfl)
        have P1 := hide (show 32 < (ls.getD k []).length → prA ls k = false from fun h => by unfold prA; rw [decide_eq_false (show ¬ (ls.getD k []).length ≤ 32 by omega)]; simp)
        generalize hx : ls.getD k [] = x at *
        have HX := hide hx
        clear hx
        simp only [tx] at c1
        by_cases x0 : x.length = 0
        · have d1 : decide ((x.length : Int) < 1) = true := by simp; omega
          have NO := hide (PN.out (P0.out x0))
          clear PN PT PO P0 P1 HALL x0
          go_wp2
          go_ret
          exact ⟨by rw [NO.out]; rfl, HN.out⟩
        · have d1 : decide ((x.length : Int) < 1) = false := by simp; omega
          by_cases x1 : 32 < x.length
          · have d2 : decide ((32 : Int) < (x.length : Int)) = true := by simp; omega
            have NO := hide (PN.out (P1.out x1))
            clear PN PT PO P0 P1 HALL x0 x1
            go_wp2
            go_ret
            exact ⟨by rw [NO.out]; rfl, HN.out⟩
          · have d2 : decide ((32 : Int) < (x.length : Int)) = false := by simp; omega
            have PO' := hide (PO.out (by omega) (by omega))
            clear P0 P1 PO x0 x1
            go_wp2
            go_loopw [6] (fun j wz => ∃ (m : Nat), m ≤ k ∧ j = .int .i64 m ∧ Below w.heap.size w wz ∧ ∀ i, i < m → ls.getD i [] ≠ x) (fun j _ => k - (intOf j).toNat)
            case atStart => exact ⟨0, Nat.zero_le _, rfl, HN.out, fun j hj => absurd hj (by omega)⟩
            case round =>
              obtain ⟨m, hm, rfl, nz, hne⟩ := hrel
              by_cases hmt : m < k
              · have t1 : (m : Int) < (k : Int) := by omega
                have hr2 := hr.up nz
                obtain ⟨off', ha, hcl2⟩ := hr2 (by omega)
                simp only [Option.some.injEq, Addr.mk.injEq, and_true, true_and] at ha
                obtain rfl := ha
                have c2 := hcl2 k hlt
                have c3 := hcl2 m (by omega)
                rw [HX.out] at c2
                have tm : (m : Int) < (ls.length : Int) := by omega
                have NZ := hide nz
                have HNE := hide hne
                clear nz hne hcl2 hr2 c1 HCL
                generalize hy : ls.getD m [] = y at *
                have HY := hide hy
                clear hy
                simp only [tx] at c2 c3
                by_cases hq : x = y
                · subst hq
                  have e1 : (x == x) = true := by simp
                  have NO := hide (PN.out (PT.out m hmt HY.out))
                  clear PN PT PO' HALL HNE
                  go_wp2
                  go_quiet (fail)
                  go_wp2
                  go_ret
                  exact ⟨by rw [NO.out]; rfl, NZ.out.trans ((Only.drewN _ w.heap.size _).below (Nat.le_refl _))⟩
                · have e1 : (x == y) = false := by simpa using hq
                  have e2 : (y == x) = false := by simpa using (fun h => hq h.symm)
                  have NXT : Hid (∀ i, i < m + 1 → ls.getD i [] ≠ x) := fun i hi => by
                    by_cases h : i = m
                    · subst h
                      rw [HY.out]
                      exact fun h => hq h.symm
                    · exact HNE.out i (by omega)
                  clear HNE PN PT PO' HALL hq
                  go_wp2
                  go_quiet (fail)
                  go_wp2
                  go_roundw
                  case rel => exact ⟨m + 1, by omega, by go_num, NZ.out.trans ((Only.drewN _ w.heap.size _).below (Nat.le_refl _)), NXT.out⟩
                  case measure => simp [intOf]; omega
              · obtain rfl : m = k := by omega
                have NXT : Hid (∀ j, j < m + 1 → prA ls j = true) := fun j hj => by
                  by_cases h : j = m
                  · subst h
                    exact PO'.out hne
                  · exact HALL.out j (by omega)
                have NZ := hide nz
                clear nz hne PN PT PO' HALL
                go_wp2
                go_roundw
                case rel => exact ⟨m + 1, by omega, by go_num, NZ.out, NXT.out⟩
                case measure => simp [intOf]; omega
      · obtain rfl : k = ls.length := by omega
        have YES := hide (prB_yes hl hall)
        have HN := hide nb
        clear hall hr nb
        go_wp2
        go_ret
        exact ⟨by rw [YES.out]; rfl, HN.out⟩
  · have d0 : decide ((n : Int) < (ls.length : Int)) = true := by simp; omega
    have NO : Hid (prB ls n = false) := by show _ = _; unfold prB; rw [decide_eq_false hl, Bool.false_and]
    clear hr
    go_enter Tryz.func41, Tryz.ntmps41
    go_wp2
    go_ret
    exact ⟨by rw [NO.out]; rfl, Below.refl _ _⟩
end Go.Proofs.YtdnkgmlidhepbaaGreat
namespace Go.Proofs.YtdnkgmlidhepbaaGreat
open Go Go.RowKit
def rdHello (xs : List Int) : Msg := ⟨1, beN xs 0 1, tkB xs 1 32, tkB xs 33 32, txB (tkB xs 66 (beN xs 65 1).toNat), txT xs (hpA xs + 1) (xs.getD (hpA xs) 0).toNat, tkB xs (hpB xs + 2) (hpN xs), if hpN xs = 0 then 0 else beN xs (hpC xs) 4, if hpN xs = 0 then 0 else beN xs (hpC xs + 4) 1, if hpN xs = 0 then [] else tkB xs (hpC xs + 5) 32, false, [], []⟩
def rdAnswer (xs : List Int) : Msg := ⟨2, beN xs 0 1, tkB xs 1 32, tkB xs 33 32, [], [], [], 0, 0, [], beN xs 65 1 == 1, [], []⟩
def rdTicket (xs : List Int) : Msg := ⟨4, 0, tkB xs 8 32, [], [], [], tkB xs 42 (beN xs 40 2).toNat, beN xs 0 4, beN xs 4 4, [], false, [], []⟩
def rdEnd (_xs : List Int) : Msg := ⟨5, 0, [], [], [], [], [], 0, 0, [], false, [], []⟩
def rdExtras (xs : List Int) : Msg := ⟨8, 0, [], [], [], txT xs 1 (xs.getD 0 0).toNat, [], 0, beN xs (ppT xs 1 (xs.getD 0 0).toNat) 1, [], false, [], []⟩
def rdCerts (xs : List Int) : Msg := ⟨11, 0, [], [], [], [], [], 0, 0, [], false, clT xs 1 (xs.getD 0 0).toNat, []⟩
def rdProof (xs : List Int) : Msg := ⟨15, 0, [], [], [], [], [], 0, 0, [], false, [], tkB xs 0 64⟩
def rdFinished (xs : List Int) : Msg := ⟨20, 0, [], [], [], [], [], 0, 0, [], false, [], tkB xs 0 32⟩
def rdUpdate (xs : List Int) : Msg := ⟨24, 0, [], [], [], [], [], 0, beN xs 0 1, [], false, [], []⟩
def rdM (k : Int) (xs : List Int) : Msg := if k = 1 then rdHello xs else if k = 2 then rdAnswer xs else if k = 4 then rdTicket xs else if k = 5 then rdEnd xs else if k = 8 then rdExtras xs else if k = 11 then rdCerts xs else if k = 15 then rdProof xs else if k = 20 then rdFinished xs else rdUpdate xs
def fitM (k : Int) (xs : List Int) : Prop := if k = 1 then HeG xs else if k = 2 then 66 ≤ xs.length else if k = 4 then 42 + (beN xs 40 2).toNat ≤ xs.length else if k = 5 then True else if k = 8 then 0 < xs.length ∧ ppT xs 1 (xs.getD 0 0).toNat + 1 ≤ xs.length else if k = 11 then 0 < xs.length ∧ ppL xs 1 (xs.getD 0 0).toNat ≤ xs.length else if k = 15 then 64 ≤ xs.length else if k = 20 then 32 ≤ xs.length else 1 ≤ xs.length
theorem be_byte {xs : List Int} (hb : Byt xs) (i t : Nat) (h : t ≤ 4) : 0 ≤ beN xs i t ∧ beN xs i t < 4294967296 := by
  have h1 := beN_rng hb i t
  refine ⟨h1.1, ?_⟩
  have : t = 0 ∨ t = 1 ∨ t = 2 ∨ t = 3 ∨ t = 4 := by omega
  rcases this with e | e | e | e | e <;> subst e <;> omega
theorem be1 {xs : List Int} (hb : Byt xs) (i : Nat) : (beN xs i 1).toNat < 256 := by have := beN_rng hb i 1; omega
theorem be2 {xs : List Int} (hb : Byt xs) (i : Nat) : (beN xs i 2).toNat < 65536 := by have := beN_rng hb i 2; omega
theorem bx1 {xs : List Int} (hb : Byt xs) (i : Nat) : (xs.getD i 0).toNat < 256 := by have := hb i; omega
theorem txT_small {xs : List Int} (hb : Byt xs) (i k : Nat) : ∀ l ∈ txT xs i k, l.length ≤ 1048576 := fun l hl => by
  obtain ⟨j, _, rfl⟩ := List.mem_map.1 hl
  rw [txB_len, tkB_len]
  have := be1 hb (ppT xs i j)
  omega
theorem clT_get (xs : List Int) (i k j : Nat) (h : j < k) : (clT xs i k).getD j [] = tkB xs (ppL xs i j + 2) (beN xs (ppL xs i j) 2).toNat := by simp [clT, h]
theorem isM_hello {xs : List Int} (hb : Byt xs) : IsM (rdHello xs) := by
  have h1 := be1 hb 65
  have h2 := be2 hb (hpB xs)
  have h3 := bx1 hb (hpA xs)
  refine ⟨tkB_byt hb _ _, tkB_byt hb _ _, tkB_byt hb _ _, ?_, byt_nil, fun i hi => absurd hi (by simp [rdHello]), ?_, ?_, ?_, ?_, ?_, ?_, ?_, fun i hi => absurd hi (by simp [rdHello]), ?_, txT_small hb _ _⟩
  · show Byt (if hpN xs = 0 then [] else tkB xs (hpC xs + 5) 32)
    split
    · exact byt_nil
    · exact tkB_byt hb _ _
  all_goals simp only [rdHello]
  all_goals first | (rw [tkB_len]; omega) | skip
  · rw [txT_len]; omega
  · rw [tkB_len]; show hpN xs ≤ _; unfold hpN; omega
  · split
    · simp
    · rw [tkB_len]; omega
  · simp
  · simp
  · rw [txB_len, tkB_len]; omega
theorem isM_answer {xs : List Int} (hb : Byt xs) : IsM (rdAnswer xs) := by
  refine ⟨tkB_byt hb _ _, tkB_byt hb _ _, byt_nil, byt_nil, byt_nil, fun i hi => absurd hi (by simp [rdAnswer]), ?_, ?_, ?_, ?_, ?_, ?_, ?_, fun i hi => absurd hi (by simp [rdAnswer]), ?_, fun l hl => absurd hl (by simp [rdAnswer])⟩
  all_goals simp [rdAnswer, tkB_len]
theorem isM_ticket {xs : List Int} (hb : Byt xs) : IsM (rdTicket xs) := by
  have h2 := be2 hb 40
  refine ⟨tkB_byt hb _ _, byt_nil, tkB_byt hb _ _, byt_nil, byt_nil, fun i hi => absurd hi (by simp [rdTicket]), ?_, ?_, ?_, ?_, ?_, ?_, ?_, fun i hi => absurd hi (by simp [rdTicket]), ?_, fun l hl => absurd hl (by simp [rdTicket])⟩
  all_goals simp only [rdTicket, tkB_len]
  all_goals first | (simp; done) | omega
theorem isM_end (xs : List Int) : IsM (rdEnd xs) := by
  refine ⟨byt_nil, byt_nil, byt_nil, byt_nil, byt_nil, fun i hi => absurd hi (by simp [rdEnd]), ?_, ?_, ?_, ?_, ?_, ?_, ?_, fun i hi => absurd hi (by simp [rdEnd]), ?_, fun l hl => absurd hl (by simp [rdEnd])⟩
  all_goals simp [rdEnd]
theorem isM_extras {xs : List Int} (hb : Byt xs) : IsM (rdExtras xs) := by
  have h3 := bx1 hb 0
  refine ⟨byt_nil, byt_nil, byt_nil, byt_nil, byt_nil, fun i hi => absurd hi (by simp [rdExtras]), ?_, ?_, ?_, ?_, ?_, ?_, ?_, fun i hi => absurd hi (by simp [rdExtras]), ?_, txT_small hb _ _⟩
  all_goals simp only [rdExtras, txT_len]
  all_goals first | (simp; done) | omega
theorem isM_certs {xs : List Int} (hb : Byt xs) : IsM (rdCerts xs) := by
  have h3 := bx1 hb 0
  refine ⟨byt_nil, byt_nil, byt_nil, byt_nil, byt_nil, fun i hi => ?_, ?_, ?_, ?_, ?_, ?_, ?_, ?_, fun i hi => ?_, ?_, fun l hl => absurd hl (by simp [rdCerts])⟩
  · have hi : i < (xs.getD 0 0).toNat := by simpa [rdCerts, clT_len] using hi
    show Byt ((clT xs 1 (xs.getD 0 0).toNat).getD i [])
    rw [clT_get _ _ _ _ hi]
    exact tkB_byt hb _ _
  rotate_right 2
  · have hi : i < (xs.getD 0 0).toNat := by simpa [rdCerts, clT_len] using hi
    show ((clT xs 1 (xs.getD 0 0).toNat).getD i []).length ≤ _
    rw [clT_get _ _ _ _ hi, tkB_len]
    have := be2 hb (ppL xs 1 i)
    omega
  all_goals simp only [rdCerts, clT_len]
  all_goals first | (simp; done) | omega
theorem isM_proof {xs : List Int} (hb : Byt xs) : IsM (rdProof xs) := by
  refine ⟨byt_nil, byt_nil, byt_nil, byt_nil, tkB_byt hb _ _, fun i hi => absurd hi (by simp [rdProof]), ?_, ?_, ?_, ?_, ?_, ?_, ?_, fun i hi => absurd hi (by simp [rdProof]), ?_, fun l hl => absurd hl (by simp [rdProof])⟩
  all_goals simp [rdProof, tkB_len]
theorem isM_finished {xs : List Int} (hb : Byt xs) : IsM (rdFinished xs) := by
  refine ⟨byt_nil, byt_nil, byt_nil, byt_nil, tkB_byt hb _ _, fun i hi => absurd hi (by simp [rdFinished]), ?_, ?_, ?_, ?_, ?_, ?_, ?_, fun i hi => absurd hi (by simp [rdFinished]), ?_, fun l hl => absurd hl (by simp [rdFinished])⟩
  all_goals simp [rdFinished, tkB_len]
theorem isM_update (xs : List Int) : IsM (rdUpdate xs) := by
  refine ⟨byt_nil, byt_nil, byt_nil, byt_nil, byt_nil, fun i hi => absurd hi (by simp [rdUpdate]), ?_, ?_, ?_, ?_, ?_, ?_, ?_, fun i hi => absurd hi (by simp [rdUpdate]), ?_, fun l hl => absurd hl (by simp [rdUpdate])⟩
  all_goals simp [rdUpdate]
theorem isM_rd {xs : List Int} (hb : Byt xs) (k : Int) : IsM (rdM k xs) := by
  unfold rdM
  split
  · exact isM_hello hb
  split
  · exact isM_answer hb
  split
  · exact isM_ticket hb
  split
  · exact isM_end xs
  split
  · exact isM_extras hb
  split
  · exact isM_certs hb
  split
  · exact isM_proof hb
  split
  · exact isM_finished hb
  · exact isM_update xs
theorem shs_len (xs : List Int) (i : Nat) : ∀ k, i + ((txT xs i k).map shL).flatten.length = ppT xs i k
  | 0 => by simp [txT, ppT]
  | k + 1 => by
    have h := shs_len xs i k
    have e : ppT xs i (k + 1) = ppT xs i k + 1 + (beN xs (ppT xs i k) 1).toNat := rfl
    rw [txT_step, e, List.map_append, List.flatten_append, List.length_append]
    simp only [List.map_cons, List.map_nil, List.flatten_cons, List.flatten_nil, List.append_nil, shL_len, txB_len, tkB_len]
    omega
theorem los_len (xs : List Int) (i : Nat) : ∀ k, i + ((clT xs i k).map loL).flatten.length = ppL xs i k
  | 0 => by simp [clT, ppL]
  | k + 1 => by
    have h := los_len xs i k
    have e : ppL xs i (k + 1) = ppL xs i k + 2 + (beN xs (ppL xs i k) 2).toNat := rfl
    rw [clT_step, e, List.map_append, List.flatten_append, List.length_append]
    simp only [List.map_cons, List.map_nil, List.flatten_cons, List.flatten_nil, List.append_nil, loL_len, tkB_len]
    omega
theorem fit_hello {xs : List Int} (h : heL (rdHello xs).v (rdHello xs).r (rdHello xs).s (rdHello xs).ho (rdHello xs).pr (rdHello xs).ti (rdHello xs).ag (rdHello xs).ea (rdHello xs).bi = xs) : HeG xs := by
  have l := congrArg List.length h
  have s := shs_len xs (hpA xs + 1) (xs.getD (hpA xs) 0).toNat
  have eA : hpA xs = 65 + 1 + (beN xs 65 1).toNat := rfl
  have eB : hpB xs = ppT xs (hpA xs + 1) (xs.getD (hpA xs) 0).toNat := rfl
  have eC : hpC xs = hpB xs + 2 + hpN xs := rfl
  have eb : (bdL (rdHello xs).ti (rdHello xs).ag (rdHello xs).ea (rdHello xs).bi).length = if hpN xs = 0 then 0 else 37 := by
    have et : (rdHello xs).ti.length = hpN xs := tkB_len _ _ _
    unfold bdL
    rw [et]
    split
    · rfl
    · rename_i hz
      simp only [rdHello, if_neg hz, List.length_append, bigL_len, tkB_len]
  unfold heL lsL at l
  rw [List.length_append, List.length_append, List.length_append, List.length_append, List.length_append, eb, fpL_len, shL_len, loL_len] at l
  have e1 : (rdHello xs).r.length = 32 := tkB_len _ _ _
  have e2 : (rdHello xs).s.length = 32 := tkB_len _ _ _
  have e3 : (rdHello xs).ho.length = (beN xs 65 1).toNat := by show (txB _).length = _; rw [txB_len, tkB_len]
  have e4 : (rdHello xs).ti.length = hpN xs := tkB_len _ _ _
  have e5 : ((rdHello xs).pr.map shL).flatten.length = ((txT xs (hpA xs + 1) (xs.getD (hpA xs) 0).toNat).map shL).flatten.length := rfl
  have e6 : [((rdHello xs).pr.length : Int)].length = 1 := rfl
  rw [e1, e2, e3, e4, e5, e6] at l
  unfold HeG
  split at l
  · refine ⟨by omega, by omega, fun h => by omega⟩
  · refine ⟨by omega, by omega, fun h => by omega⟩
theorem fit_rd {xs : List Int} {k : Int} (hk : k ∈ kinds) (h : bodF (rdM k xs) = xs) : fitM k xs := by
  have : k = 1 ∨ k = 2 ∨ k = 4 ∨ k = 5 ∨ k = 8 ∨ k = 11 ∨ k = 15 ∨ k = 20 ∨ k = 24 := by simpa [kinds] using hk
  rcases this with e | e | e | e | e | e | e | e | e <;> subst e
  · exact fit_hello (by simpa [bodF, rdM, rdHello] using h)
  · have l := congrArg List.length h
    simp [bodF, rdM, rdAnswer, fpL_len, tkB_len] at l
    show 66 ≤ xs.length
    omega
  · have l := congrArg List.length h
    simp [bodF, rdM, rdTicket, tkL, bigL_len, loL_len, tkB_len] at l
    show 42 + (beN xs 40 2).toNat ≤ xs.length
    omega
  · exact trivial
  · have l := congrArg List.length h
    have s := shs_len xs 1 (xs.getD 0 0).toNat
    have eb : bodF (rdM 8 xs) = lsL (txT xs 1 (xs.getD 0 0).toNat) ++ bigL (beN xs (ppT xs 1 (xs.getD 0 0).toNat) 1) 1 := rfl
    rw [eb, List.length_append, bigL_len] at l
    unfold lsL at l
    rw [List.length_append] at l
    have e6 : [((txT xs 1 (xs.getD 0 0).toNat).length : Int)].length = 1 := rfl
    rw [e6] at l
    show 0 < xs.length ∧ _ ≤ xs.length
    omega
  · have l := congrArg List.length h
    have s := los_len xs 1 (xs.getD 0 0).toNat
    have eb : bodF (rdM 11 xs) = clL (clT xs 1 (xs.getD 0 0).toNat) := rfl
    rw [eb] at l
    unfold clL at l
    rw [List.length_append] at l
    have e6 : [((clT xs 1 (xs.getD 0 0).toNat).length : Int)].length = 1 := rfl
    rw [e6] at l
    show 0 < xs.length ∧ _ ≤ xs.length
    omega
  · have l := congrArg List.length h
    have eb : bodF (rdM 15 xs) = tkB xs 0 64 := rfl
    rw [eb, tkB_len] at l
    show 64 ≤ xs.length
    omega
  · have l := congrArg List.length h
    have eb : bodF (rdM 20 xs) = tkB xs 0 32 := rfl
    rw [eb, tkB_len] at l
    show 32 ≤ xs.length
    omega
  · have l := congrArg List.length h
    have eb : bodF (rdM 24 xs) = bigL (beN xs 0 1) 1 := rfl
    rw [eb, bigL_len] at l
    show 1 ≤ xs.length
    omega
end Go.Proofs.YtdnkgmlidhepbaaGreat
namespace Go.Proofs.YtdnkgmlidhepbaaGreat
open Go Go.RowKit
theorem iB : (Tryz.prog.info? 63).map (·.size) = some 1 := by kernel_rfl
theorem rowB : ∃ d, Tryz.prog.underlying 63 = some d ∧ d.isRow = true := ⟨_, Tryz.underlying63, rfl⟩
end Go.Proofs.YtdnkgmlidhepbaaGreat
namespace Go.Proofs.YtdnkgmlidhepbaaGreat
open Go Go.RowKit
theorem RwC.of_made {w : World} {base g n : Nat} {t : TypeId} (h : w.ownsRow base t 1 (.slice (some ⟨g, 0, none⟩) n n) n (madeCells (Value.agg #[.slice none 0 0]).cells (n * 1)).toList) : RwC w g (List.replicate n (.slice none 0 0)) t := by
  rcases h.2 with ⟨h', _⟩ | ⟨g', cap', cur, h', _, hg, _, _, hcs, htake⟩
  · simp at h'
  · simp only [Value.slice.injEq, Option.some.injEq, Addr.mk.injEq, and_true, true_and] at h'
    obtain ⟨rfl, rfl⟩ := h'
    show _ = _
    rw [hg]
    have : cur = (List.replicate n (Value.slice none 0 0)).toArray := by
      apply Array.ext'
      rw [List.take_of_length_le (by rw [Array.length_toList, hcs]; exact Nat.le_refl _)] at htake
      rw [htake]
      apply List.ext_getElem
      · simp [madeCells]
      · intro i h1 h2
        simp [madeCells, Value.cells, Nat.mod_one]
    rw [this]
theorem pick_list {P : Nat → Nat → Prop} : ∀ n, (∀ j, j < n → ∃ G, P j G) → ∃ Gs : List Nat, ∀ j, j < n → P j (Gs.getD j 0)
  | 0, _ => ⟨[], fun j hj => absurd hj (by omega)⟩
  | n + 1, h => by
    obtain ⟨Gs, hG⟩ := pick_list (P := P) n (fun j hj => h j (by omega))
    obtain ⟨G, hn⟩ := h n (by omega)
    refine ⟨(List.range n).map (fun j => Gs.getD j 0) ++ [G], fun j hj => ?_⟩
    by_cases e : j < n
    · have : ((List.range n).map (fun j => Gs.getD j 0) ++ [G]).getD j 0 = Gs.getD j 0 := by
        rw [List.getD_eq_getElem?_getD, List.getElem?_append_left (by simpa using e)]
        simp [e]
      rw [this]
      exact hG j e
    · obtain rfl : j = n := by omega
      have : ((List.range j).map (fun i => Gs.getD i 0) ++ [G]).getD j 0 = G := by
        rw [List.getD_eq_getElem?_getD, List.getElem?_append_right (by simp)]
        simp
      rw [this]
      exact hn
def RowK (B : Nat) (wr : World) (g : Nat) (ce : List (List Int)) (k : Nat) (vs : List Value) : Prop := vs.length = ce.length ∧ RwC wr g vs 63 ∧ ∀ j, j < k → ∃ G, vs[j]? = some (.slice (some ⟨G, 0, none⟩) (ce.getD j []).length (ce.getD j []).length) ∧ Blk wr G .u8 (ce.getD j []) ∧ B < G
theorem RowK.step {B g k : Nat} {wr w1 : World} {ce : List (List Int)} {vs : List Value} (h : RowK B wr g ce k vs) (hk : k < ce.length) (hg : g ≤ B) (n : Below wr.heap.size wr w1) {G : Nat} (hG : B < G) (b : Blk w1 G .u8 (ce.getD k [])) :
    RowK B (w1.setCell ⟨g, k, none⟩ (.slice (some ⟨G, 0, none⟩) (ce.getD k []).length (ce.getD k []).length)) g ce (k + 1) (vs.set k (.slice (some ⟨G, 0, none⟩) (ce.getD k []).length (ce.getD k []).length)) := by
  obtain ⟨h1, h2, h3⟩ := h
  have O := Only.setCell w1 g k (.slice (some ⟨G, 0, none⟩) (ce.getD k []).length (ce.getD k []).length)
  refine ⟨by simpa using h1, (h2.up n).set k _, fun j hj => ?_⟩
  by_cases e : j = k
  · subst e
    exact ⟨G, by simp [h1, hk], b.of_block (O.block G (by omega)), hG⟩
  · obtain ⟨G', e1, b1, l1⟩ := h3 j (by omega)
    exact ⟨G', by rw [List.getElem?_set_ne (by omega)]; exact e1, (b1.up n).of_block (O.block G' (by omega)), l1⟩
theorem RowK.rd {B g : Nat} {wr : World} {ce : List (List Int)} {vs : List Value} (h : RowK B wr g ce ce.length vs) : ∃ ps, RdL wr g (some ⟨g, 0, none⟩) ce ps ∧ ∀ i, i < ce.length → B < (ps.getD i plb0).q := by
  obtain ⟨h1, h2, h3⟩ := h
  obtain ⟨Gs, hG⟩ := pick_list ce.length h3
  have e : ∀ i, i < ce.length → ((List.range ce.length).map fun j => (⟨some ⟨Gs.getD j 0, 0, none⟩, (ce.getD j []).length, Gs.getD j 0⟩ : Plb)).getD i plb0 = ⟨some ⟨Gs.getD i 0, 0, none⟩, (ce.getD i []).length, Gs.getD i 0⟩ := fun i hi => by
    rw [List.getD_eq_getElem?_getD]
    simp [hi]
  refine ⟨(List.range ce.length).map fun j => ⟨some ⟨Gs.getD j 0, 0, none⟩, (ce.getD j []).length, Gs.getD j 0⟩, ⟨fun _ => ⟨0, rfl, fun i hi => ?_⟩, fun i hi => ?_⟩, fun i hi => ?_⟩
  · rw [Nat.zero_add, h2.cell i, e i hi]
    exact (hG i hi).1
  · rw [e i hi]
    exact (hG i hi).2.1.own0.rd
  · rw [e i hi]
    exact (hG i hi).2.2
set_option maxHeartbeats 1000000 in
theorem eqBlob_same (w : World) (g g' : Nat) (a b : Option Addr) (ca cb : Nat) (xs : List Int) (ha : Rd w g a .u8 xs) (hb : Rd w g' b .u8 xs) (hn : xs.length ≤ 1048576) :
    Calls Tryz.prog 70 #[.agg #[.slice a xs.length ca], .agg #[.slice b xs.length cb]] w fun e w' => e = .returned (.bool true) ∧ Below w.heap.size w w' := by
  have n1 : Below w.heap.size w (w.alloc (.cells #[.slice a xs.length ca] 63)) := (Below.refl _ _).alloc (Nat.le_refl _) _
  have n2 : Below w.heap.size w ((w.alloc (.cells #[.slice a xs.length ca] 63)).alloc (.cells #[.slice b xs.length cb] 63)) := n1.alloc n1.size _
  have BE := hide (eqByteS_same _ g g' a b ca cb xs (ha.up n2) (hb.up n2) hn)
  have N2 := hide n2
  clear ha hb n1 n2
  generalize xs.length = m at *
  go_enter Tryz.func70, Tryz.ntmps70
  go_wp2_with fail
  refine BE.out.mono ?_
  rintro e w1 ⟨rfl, n3⟩
  go_wp2
  go_ret
  exact ⟨rfl, nxt N2.out n3⟩
end Go.Proofs.YtdnkgmlidhepbaaGreat
namespace Go.Proofs.YtdnkgmlidhepbaaGreat
open Go Go.RowKit
theorem range_one {w : World} {g o : Nat} {v : Value} (h : w.cell? ⟨g, o, none⟩ = some v) : w.rangeAt g o [v] := fun j u hj => by
  match j, hj with
  | 0, hj =>
    rw [Nat.add_zero]
    simp only [List.getElem?_cons_zero, Option.some.injEq] at hj
    rw [← hj]
    exact h
  | j + 1, hj => simp at hj
set_option maxHeartbeats 2000000 in
theorem eqBlobS_same (w : World) (g g' : Nat) (a b : Option Addr) (ca cb : Nat) (ce : List (List Int)) (ps qs : List Plb) (ha : RdL w g a ce ps) (hb : RdL w g' b ce qs) (hn : ce.length ≤ 1048576) (hz : ∀ i, i < ce.length → (ce.getD i []).length ≤ 1048576) :
    Calls Tryz.prog 57 #[.slice a ce.length ca, .slice b ce.length cb] w fun e w' => e = .returned (.bool true) ∧ Below w.heap.size w w' := by
  obtain ⟨d1, hd1, hrow1⟩ := rowB
  have e0 : ((ce.length : Int) != (ce.length : Int)) = false := by simp
  go_enter Tryz.func57, Tryz.ntmps57
  go_wp2
  go_loopw [5] (fun i wr => ∃ (k : Nat), k ≤ ce.length ∧ i = .int .i64 k ∧ Below w.heap.size w wr) (fun i _ => ce.length - (intOf i).toNat)
  case atStart => exact ⟨0, Nat.zero_le _, rfl, Below.refl _ _⟩
  case round =>
    obtain ⟨k, hk, rfl, nb⟩ := hrel
    by_cases hlt : k < ce.length
    · obtain ⟨off, rfl, hc⟩ := (ha.up nb).r (by omega)
      obtain ⟨off', rfl, hc'⟩ := (hb.up nb).r (by omega)
      have t0 : (k : Int) < (ce.length : Int) := by omega
      have t1 : decide ((k : Int) < (ce.length : Int)) = true := decide_eq_true t0
      have c1 := hc k hlt
      have c2 := hc' k hlt
      have EB := hide (fun (W : World) (n : Below wr.heap.size wr W) => eqBlob_same W _ _ _ _ (ps.getD k plb0).c (qs.getD k plb0).c _ (((ha.up nb).b k hlt).up n) (((hb.up nb).b k hlt).up n) (hz k hlt))
      have NB := hide nb
      clear hc hc' nb
      generalize (ps.getD k plb0).a = pa at *
      generalize (ps.getD k plb0).c = pc at *
      generalize (qs.getD k plb0).a = qa at *
      generalize (qs.getD k plb0).c = qc at *
      generalize (ce.getD k []).length = m at *
      go_upto_region 6 with fail
      refine region_end 10 (fun i => [Fact.eq (.slice (some ⟨g, off, none⟩) ce.length ca), Fact.eq (.int .i64 (k : Int)), Fact.eq (.pointer (some ⟨g, off + k, none⟩)), Fact.eq (.agg #[.slice pa m pc]), Fact.eq (.slice (some ⟨g', off', none⟩) ce.length cb), Fact.eq (.int .i64 (k : Int)), Fact.eq (.pointer (some ⟨g', off' + k, none⟩)), Fact.eq (.agg #[.slice qa m qc]), Fact.eq (.bool true), Fact.eq (.bool false)].getD i Fact.no) (by kernel_rfl) (by kernel_rfl) rfl ?_ ?_
      · intro i hi
        obtain rfl | rfl | rfl | rfl | rfl | rfl | rfl | rfl | rfl | rfl : i = 0 ∨ i = 1 ∨ i = 2 ∨ i = 3 ∨ i = 4 ∨ i = 5 ∨ i = 6 ∨ i = 7 ∨ i = 8 ∨ i = 9 := by omega
        · refine step_pure rfl fun A ww hb hw hf => ?_
          have e1 : A.tmps[0]?.getD undef = .slice (some ⟨g, off, none⟩) ce.length ca := gdv (hb.2.2 0 (by kernel_rfl))
          exact ⟨.slice (some ⟨g, off, none⟩) ce.length ca, by simp [go_sem, e1], rfl⟩
        · refine step_pure rfl fun A ww hb hw hf => ?_
          have e1 : A.tmps[5]?.getD undef = .int .i64 (k : Int) := gdv (hb.2.2 5 (by kernel_rfl))
          exact ⟨.int .i64 (k : Int), by simp [go_sem, e1], rfl⟩
        · refine step_pure rfl fun A ww hb hw hf => ?_
          have e1 : A.tmps[17]?.getD undef = .slice (some ⟨g, off, none⟩) ce.length ca := gdv (hf 0 17 (by kernel_rfl))
          have e2 : A.tmps[18]?.getD undef = .int .i64 (k : Int) := gdv (hf 1 18 (by kernel_rfl))
          exact ⟨.pointer (some ⟨g, off + k, none⟩), by simp [go_sem, e1, e2, hlt], rfl⟩
        · refine step_load rfl 63 (.tmp 19) rfl d1 1 hd1 hrow1 iB fun A ww hb hw hf => ⟨_, _, [.slice pa m pc], hf 2 19 (by kernel_rfl), range_one ((hw.cell (block_lt_of_cell c1)).trans c1), rfl, rfl⟩
        · refine step_pure rfl fun A ww hb hw hf => ?_
          have e1 : A.tmps[1]?.getD undef = .slice (some ⟨g', off', none⟩) ce.length cb := gdv (hb.2.2 1 (by kernel_rfl))
          exact ⟨.slice (some ⟨g', off', none⟩) ce.length cb, by simp [go_sem, e1], rfl⟩
        · refine step_pure rfl fun A ww hb hw hf => ?_
          have e1 : A.tmps[5]?.getD undef = .int .i64 (k : Int) := gdv (hb.2.2 5 (by kernel_rfl))
          exact ⟨.int .i64 (k : Int), by simp [go_sem, e1], rfl⟩
        · refine step_pure rfl fun A ww hb hw hf => ?_
          have e1 : A.tmps[21]?.getD undef = .slice (some ⟨g', off', none⟩) ce.length cb := gdv (hf 4 21 (by kernel_rfl))
          have e2 : A.tmps[22]?.getD undef = .int .i64 (k : Int) := gdv (hf 5 22 (by kernel_rfl))
          exact ⟨.pointer (some ⟨g', off' + k, none⟩), by simp [go_sem, e1, e2, hlt], rfl⟩
        · refine step_load rfl 63 (.tmp 23) rfl d1 1 hd1 hrow1 iB fun A ww hb hw hf => ⟨_, _, [.slice qa m qc], hf 6 23 (by kernel_rfl), range_one ((hw.cell (block_lt_of_cell c2)).trans c2), rfl, rfl⟩
        · refine step_callv rfl 70 _ _ rfl (by kernel_rfl) fun A ww hb hw hf => ?_
          have e1 : A.tmps.getD 20 undef = .agg #[.slice pa m pc] := hf 3 20 (by kernel_rfl)
          have e2 : A.tmps.getD 24 undef = .agg #[.slice qa m qc] := hf 7 24 (by kernel_rfl)
          show Calls Tryz.prog 70 #[A.tmps.getD 20 undef, A.tmps.getD 24 undef] ww _
          rw [e1, e2]
          exact (EB.out ww hw).mono (by rintro r w' ⟨rfl, n⟩; exact ⟨_, rfl, n, rfl⟩)
        · refine step_pure rfl fun A ww hb hw hf => ?_
          have e1 : A.tmps[25]?.getD undef = .bool true := gdv (hf 8 25 (by kernel_rfl))
          exact ⟨.bool false, by simp [go_sem, e1], rfl⟩
      intro A W hb' hw hF
      have e2 := hF 9 26 (by kernel_rfl)
      obtain ⟨vs, hvs⟩ : ∃ vs : Nat → Value, ∀ d, A.tmps.getD d undef = vs d := ⟨_, fun _ => rfl⟩
      rw [hvs] at e2
      rw [puts_of (md := .any) (k := 10) (by kernel_rfl) rfl hb' vs hvs]
      have e3 : vs 26 = .bool false := e2
      have NW := hide (nxt NB.out hw)
      clear hb' hF hvs e2 c1 c2 EB hw NB
      simp only [puts, e3, Act.put, List.setIfInBounds_toArray, List.set_cons_succ, List.set_cons_zero]
      clear e3
      go_wp2
      go_roundw
      case rel => exact ⟨k + 1, by omega, by go_num, NW.out⟩
      case measure => simp [intOf]; omega
    · obtain rfl : k = ce.length := by omega
      have NB := hide nb
      clear nb ha hb
      go_wp2
      go_ret
      exact ⟨rfl, NB.out⟩
end Go.Proofs.YtdnkgmlidhepbaaGreat
