import Derived.Test.YtdnkgmlidhepbaaGreatGC8
import Derived.Test.YtdnkgmlidhepbaaGreatGC3
import Derived.Test.YtdnkgmlidhepbaaGreatGC2
namespace Go.Proofs.YtdnkgmlidhepbaaGreat
open Go
end Go.Proofs.YtdnkgmlidhepbaaGreat
namespace Go.Proofs.YtdnkgmlidhepbaaGreat
open Go Go.RowKit
end Go.Proofs.YtdnkgmlidhepbaaGreat
namespace Go.Proofs.YtdnkgmlidhepbaaGreat
open Go Go.RowKit
end Go.Proofs.YtdnkgmlidhepbaaGreat
namespace Go.Proofs.YtdnkgmlidhepbaaGreat
open Go Go.RowKit
theorem tx_add (w : World) (a b : List UInt8) (h : a.length + b.length ≤ 9223372036854775807) : (Op.stringOp .add (ByteArray.mk ⟨a⟩) (ByteArray.mk ⟨b⟩)).run Tryz.prog w = .ok (.string ⟨⟨a ++ b⟩⟩) w := by
  rw [run_string_add_sum w _ _ (by rw [tx_size, tx_size]; exact h)]
  have := ByteArray.mk_append_mk a b
  exact congrArg (fun s => Result.ok (Value.string s) w) this
end Go.Proofs.YtdnkgmlidhepbaaGreat
namespace Go.Proofs.YtdnkgmlidhepbaaGreat
open Go Go.RowKit
end Go.Proofs.YtdnkgmlidhepbaaGreat
namespace Go.Proofs.YtdnkgmlidhepbaaGreat
open Go Go.RowKit
def RdT (w : World) (g : Nat) (a : Option Addr) (ls : List (List UInt8)) : Prop :=
  0 < ls.length → ∃ off, a = some ⟨g, off, none⟩ ∧ ∀ i, i < ls.length → w.cell? ⟨g, off + i, none⟩ = some (tx (ls.getD i []))
theorem RdT.nil (w : World) (g : Nat) (a : Option Addr) : RdT w g a [] := fun h => absurd h (by simp)
theorem RdT.lt {w : World} {g : Nat} {a : Option Addr} {ls : List (List UInt8)} (h : RdT w g a ls) (h0 : 0 < ls.length) : g < w.heap.size := by
  obtain ⟨off, ha, hc⟩ := h h0
  exact block_lt_of_cell (hc 0 h0)
theorem RdT.of_block {w w' : World} {g : Nat} {a : Option Addr} {ls : List (List UInt8)} (h : RdT w g a ls) (hb : w'.heap[g]? = w.heap[g]?) : RdT w' g a ls := by
  intro h0
  obtain ⟨off, ha, hc⟩ := h h0
  exact ⟨off, ha, fun i hi => (World.cell?_of_block (a := ⟨g, off + i, none⟩) hb).trans (hc i hi)⟩
theorem RdT.up {w w' : World} {g : Nat} {a : Option Addr} {ls : List (List UInt8)} (h : RdT w g a ls) (hb : Below w.heap.size w w') : RdT w' g a ls := by
  by_cases h0 : 0 < ls.length
  · exact h.of_block (hb.block g (h.lt h0))
  · exact fun h1 => absurd h1 h0
def BlkT (w : World) (g : Nat) (ls : List (List UInt8)) : Prop := w.heap[g]? = some (.cells (ls.map tx).toArray 9 (0, 0))
theorem BlkT.lt {w : World} {g : Nat} {ls : List (List UInt8)} (h : BlkT w g ls) : g < w.heap.size := (Array.getElem?_eq_some_iff.1 h).1
theorem BlkT.cell {w : World} {g : Nat} {ls : List (List UInt8)} (h : BlkT w g ls) {i : Nat} (hi : i < ls.length) : w.cell? ⟨g, i, none⟩ = some (tx (ls.getD i [])) := by
  rw [cell_of_row w g i _ 9 (0, 0) h]
  simp [hi]
theorem BlkT.free {w : World} {g : Nat} {ls : List (List UInt8)} (h : BlkT w g ls) (i : Nat) : w.frozen? ⟨g, i, none⟩ = false := frozen_of_row w g i _ 9 h
theorem BlkT.store {w : World} {g : Nat} {ls : List (List UInt8)} (h : BlkT w g ls) (i : Nat) (z : List UInt8) : BlkT (w.setCell ⟨g, i, none⟩ (tx z)) g (ls.set i z) := by
  show _ = _
  rw [heap_setCell_same w g i _ 9 _ h]
  simp [List.map_set]
theorem BlkT.rd {w : World} {g : Nat} {ls : List (List UInt8)} (h : BlkT w g ls) : RdT w g (some ⟨g, 0, none⟩) ls := fun _ => ⟨0, rfl, fun i hi => by rw [Nat.zero_add]; exact h.cell hi⟩
theorem BlkT.up {w w' : World} {g : Nat} {ls : List (List UInt8)} (h : BlkT w g ls) (hb : Below w.heap.size w w') : BlkT w' g ls := (hb.block g h.lt).trans h
theorem BlkT.of_made {w : World} {base : Nat} {g n : Nat} (h : w.ownsRow base 9 1 (.slice (some ⟨g, 0, none⟩) n n) n (madeCells (Value.string ⟨#[]⟩).cells (n * 1)).toList) : BlkT w g (List.replicate n []) := by
  rcases h.2 with ⟨h', _⟩ | ⟨g', cap', cur, h', _, hg, _, _, hcs, htake⟩
  · simp at h'
  · simp only [Value.slice.injEq, Option.some.injEq, Addr.mk.injEq, and_true, true_and] at h'
    obtain ⟨rfl, rfl⟩ := h'
    show _ = _
    rw [hg]
    have : cur = ((List.replicate n ([] : List UInt8)).map tx).toArray := by
      apply Array.ext'
      rw [List.take_of_length_le (by rw [Array.length_toList, hcs]; exact Nat.le_refl _)] at htake
      rw [htake]
      apply List.ext_getElem
      · simp [madeCells]
      · intro i h1 h2
        simp [madeCells, Value.cells, tx, Nat.mod_one]
    rw [this]
def CopT (xs ys : List (List UInt8)) (k : Nat) : Prop := ys.length = xs.length ∧ ys.take k = xs.take k
theorem CopT.step {xs ys : List (List UInt8)} {k : Nat} (h : CopT xs ys k) (hk : k < xs.length) : CopT xs (ys.set k (xs.getD k [])) (k + 1) := by
  refine ⟨by simpa using h.1, ?_⟩
  have hk' : k < ys.length := by rw [h.1]; exact hk
  rw [List.take_succ_eq_append_getElem (by simpa using hk'), List.take_succ_eq_append_getElem hk, List.take_set]
  rw [List.getElem_set_self, List.set_eq_of_length_le (by rw [List.length_take]; omega), h.2]
  simp [hk]
set_option maxHeartbeats 1000000 in
theorem eqStringS_same (w : World) (g g' : Nat) (a b : Option Addr) (ca cb : Nat) (ls : List (List UInt8)) (ha : RdT w g a ls) (hb : RdT w g' b ls) (hn : ls.length ≤ 1048576) :
    Calls Tryz.prog 56 #[.slice a ls.length ca, .slice b ls.length cb] w fun e w' => e = .returned (.bool true) ∧ Below w.heap.size w w' := by
  go_enter Tryz.func56, Tryz.ntmps56
  go_wp2
  go_loopw [5] (fun i wr => ∃ (k n : Nat), k ≤ ls.length ∧ i = .int .i64 k ∧ wr = w.drewN n) (fun i _ => ls.length - (intOf i).toNat)
  case atStart => exact ⟨0, 0, Nat.zero_le _, rfl, rfl⟩
  case round =>
    obtain ⟨k, n, hk, rfl, rfl⟩ := hrel
    by_cases hlt : k < ls.length
    · obtain ⟨off, rfl, hc⟩ := ha (by omega)
      obtain ⟨off', rfl, hc'⟩ := hb (by omega)
      have h1 := hc k hlt
      have h2 := hc' k hlt
      have hlt' : (k : Int) < (ls.length : Int) := by omega
      generalize ls.getD k [] = x at *
      have e1 : (x == x) = true := by simp
      clear hc hc'
      unfold tx at h1 h2
      go_wp2
      go_region
      go_wp2
      go_roundw
      case rel => exact ⟨k + 1, _, by omega, by go_num, rfl⟩
      case measure => simp [intOf]; omega
    · obtain rfl : k = ls.length := by omega
      go_wp2
      go_ret
      exact ⟨rfl, below_drewN (Below.refl _ _) _⟩
end Go.Proofs.YtdnkgmlidhepbaaGreat
namespace Go.Proofs.YtdnkgmlidhepbaaGreat
open Go Go.RowKit
def ageB (n : Int) : Bool := decide (0 ≤ n) && decide (n ≤ 4294967295)
def flgB (n : Int) : Bool := decide (n = 0) || decide (n = 1)
theorem isAge_any (w : World) (n : Int) : Calls Tryz.prog 100 #[.int .i64 n] w fun e w' => e = .returned (.bool (ageB n)) ∧ w' = w := by
  by_cases h : 0 ≤ n
  · have d1 : decide (0 ≤ n) = true := decide_eq_true h
    go_enter Tryz.func100, Tryz.ntmps100
    go_wp2
    go_ret
    exact ⟨by simp [ageB, h], rfl⟩
  · have d1 : decide (0 ≤ n) = false := decide_eq_false h
    go_enter Tryz.func100, Tryz.ntmps100
    go_wp2
    go_ret
    exact ⟨by rw [ageB, d1]; rfl, rfl⟩
theorem isFlag_any (w : World) (n : Int) : Calls Tryz.prog 101 #[.int .i64 n] w fun e w' => e = .returned (.bool (flgB n)) ∧ w' = w := by
  by_cases h : n = 0
  · subst h
    go_enter Tryz.func101, Tryz.ntmps101
    go_wp2
    go_ret
    exact ⟨rfl, rfl⟩
  · have d1 : decide (n = 0) = false := decide_eq_false h
    have d2 : (n == 0) = false := by simpa using h
    go_enter Tryz.func101, Tryz.ntmps101
    go_wp2
    go_ret
    exact ⟨by rw [flgB, d1, Bool.false_or]; rfl, rfl⟩
theorem index_any (w : World) (g : Nat) (a : Option Addr) (c : Nat) (ls : List (List UInt8)) (l : List UInt8) (hr : RdT w g a ls) (hn : ls.length ≤ 1048576) :
    Calls Tryz.prog 113 #[.slice a ls.length c, tx l] w fun e w' => ∃ r : Int, e = .returned (.int .i64 r) ∧ (0 ≤ r ↔ l ∈ ls) ∧ w' = w := by
  show Calls Tryz.prog 113 #[.slice a ls.length c, .string ⟨⟨l⟩⟩] w _
  go_enter Tryz.func113, Tryz.ntmps113
  go_wp2
  go_loopw [8] (fun i wr => ∃ (k : Nat), k ≤ ls.length ∧ i = .int .i64 k ∧ wr = w ∧ ∀ j, j < k → ls.getD j [] ≠ l) (fun i _ => ls.length - (intOf i).toNat)
  case atStart => exact ⟨0, Nat.zero_le _, rfl, rfl, fun j hj => absurd hj (by omega)⟩
  case round =>
    obtain ⟨k, hk, rfl, rfl, hne⟩ := hrel
    by_cases hlt : k < ls.length
    · obtain ⟨off, rfl, hc⟩ := hr (by omega)
      have t0 : (k : Int) < (ls.length : Int) := by omega
      have c1 := hc k hlt
      have HNE := hide hne
      have HC := hide hc
      clear hne hc hr
      generalize hx : ls.getD k [] = x at *
      have HX := hide hx
      clear hx
      simp only [tx] at c1
      by_cases hq : l = x
      · subst hq
        have e1 : (l == l) = true := by simp
        have MEM : Hid (l ∈ ls) := by
          show l ∈ ls
          rw [← HX.out, List.getD_eq_getElem?_getD, List.getElem?_eq_getElem hlt]
          exact List.getElem_mem hlt
        clear HNE HC
        go_wp2
        go_ret
        exact ⟨_, rfl, ⟨fun _ => MEM.out, fun _ => by omega⟩, rfl⟩
      · have e1 : (l == x) = false := by simpa using hq
        have e2 : (x == l) = false := by simpa using (fun h => hq h.symm)
        have NXT : Hid (∀ j, j < k + 1 → ls.getD j [] ≠ l) := fun j hj => by
          by_cases h : j = k
          · subst h
            rw [HX.out]
            exact fun h => hq h.symm
          · exact HNE.out j (by omega)
        clear HNE HC
        go_wp2
        go_roundw
        case rel => exact ⟨k + 1, by omega, by go_num, trivial, NXT.out⟩
        case measure => simp [intOf]; omega
    · obtain rfl : k = ls.length := by omega
      have NM : Hid (¬ l ∈ ls) := fun h => by
        obtain ⟨i, hi, e⟩ := List.getElem_of_mem h
        refine hne i hi ?_
        rw [List.getD_eq_getElem?_getD, List.getElem?_eq_getElem hi]
        exact e
      clear hne hr
      go_wp2
      go_ret
      exact ⟨-1, rfl, ⟨fun h => absurd h (by decide), fun h => absurd h NM.out⟩, rfl⟩
theorem contains_any (w : World) (g : Nat) (a : Option Addr) (c : Nat) (ls : List (List UInt8)) (l : List UInt8) (hr : RdT w g a ls) (hn : ls.length ≤ 1048576) :
    Calls Tryz.prog 109 #[.slice a ls.length c, tx l] w fun e w' => e = .returned (.bool (decide (l ∈ ls))) ∧ w' = w := by
  have IX := hide (index_any w g a c ls l hr hn)
  show Calls Tryz.prog 109 #[.slice a ls.length c, .string ⟨⟨l⟩⟩] w _
  clear hr
  simp only [tx] at IX
  go_enter Tryz.func109, Tryz.ntmps109
  go_wp2_with fail
  refine IX.out.mono ?_
  rintro e w1 ⟨r, rfl, hr, rfl⟩
  have HR := hide hr
  clear hr
  go_wp2
  go_ret
  exact ⟨by show Ending.returned (Value.bool (decide (0 ≤ r))) = _; rw [decide_eq_decide.2 HR.out], rfl⟩
theorem RdT.take {w : World} {g : Nat} {a : Option Addr} {ls : List (List UInt8)} (h : RdT w g a ls) (n : Nat) : RdT w g a (ls.take n) := fun h0 => by
  rw [List.length_take] at h0
  obtain ⟨o, e, hc⟩ := h (by omega)
  refine ⟨o, e, fun i hi => ?_⟩
  rw [List.length_take] at hi
  rw [hc i (by omega)]
  simp [List.getD, show i < n by omega]
def prA (ls : List (List UInt8)) (i : Nat) : Bool := decide (0 < (ls.getD i []).length) && (decide ((ls.getD i []).length ≤ 32) && !decide (ls.getD i [] ∈ ls.take i))
def prB (ls : List (List UInt8)) (n : Nat) : Bool := decide (ls.length ≤ n) && (List.range ls.length).all (prA ls)
theorem prB_no {ls : List (List UInt8)} {n k : Nat} (hk : k < ls.length) (h : prA ls k = false) : prB ls n = false := by
  unfold prB
  rw [Bool.and_eq_false_iff]
  refine .inr (Bool.eq_false_iff.2 fun e => ?_)
  have := List.all_eq_true.1 e k (List.mem_range.2 hk)
  rw [h] at this
  cases this
theorem prB_yes {ls : List (List UInt8)} {n : Nat} (hn : ls.length ≤ n) (h : ∀ j, j < ls.length → prA ls j = true) : prB ls n = true := by
  unfold prB
  rw [decide_eq_true hn, Bool.true_and, List.all_eq_true]
  exact fun j hj => h j (List.mem_range.1 hj)
set_option maxHeartbeats 1000000 in
theorem areProtocols_any (w : World) (g : Nat) (a : Option Addr) (c : Nat) (ls : List (List UInt8)) (n : Nat) (hr : RdT w g a ls) (hc : ls.length ≤ c) (hn : ls.length ≤ 1048576) (_n1 : n ≤ 100) (hz : ∀ l ∈ ls, l.length ≤ 1048576) :
    Calls Tryz.prog 99 #[.slice a ls.length c, .int .i64 (n : Int)] w fun e w' => e = .returned (.bool (prB ls n)) ∧ w' = w := by
  by_cases hl : ls.length ≤ n
  · have d0 : decide ((n : Int) < (ls.length : Int)) = false := by simp; omega
    have d0' : decide (n < ls.length) = false := by simp; omega
    go_enter Tryz.func99, Tryz.ntmps99
    go_wp2
    go_loopw [13] (fun i wr => ∃ (k : Nat), k ≤ ls.length ∧ i = .int .i64 k ∧ wr = w ∧ ∀ j, j < k → prA ls j = true) (fun i _ => ls.length - (intOf i).toNat)
    case atStart => exact ⟨0, Nat.zero_le _, rfl, rfl, fun j hj => absurd hj (by omega)⟩
    case round =>
      obtain ⟨k, hk, rfl, rfl, hall⟩ := hrel
      by_cases hlt : k < ls.length
      · have CN := hide (contains_any wr g a c (ls.take k) (ls.getD k []) (hr.take k) (by rw [List.length_take]; omega))
        rw [List.length_take, Nat.min_eq_left (Nat.le_of_lt hlt)] at CN
        have PA := hide (show prA ls k = (decide (0 < (ls.getD k []).length) && (decide ((ls.getD k []).length ≤ 32) && !decide (ls.getD k [] ∈ ls.take k))) from rfl)
        have HZ : (ls.getD k []).length ≤ 1048576 := by
          refine hz _ ?_
          rw [List.getD_eq_getElem?_getD, List.getElem?_eq_getElem hlt]
          exact List.getElem_mem hlt
        obtain ⟨off, rfl, hcl⟩ := hr (by omega)
        have t0 : (k : Int) < (ls.length : Int) := by omega
        have c1 := hcl k hlt
        have s1 : (k : Int) ≤ (c : Int) := by omega
        have HALL := hide hall
        have HR := hide hr
        have HH := hide hz
        clear hcl hall hr hz
        generalize decide (ls.getD k [] ∈ ls.take k) = bm at *
        generalize ls.getD k [] = x at *
        have sx := tx_size x
        simp only [tx] at c1 CN
        by_cases x0 : x = []
        · subst x0
          have NO := hide (prB_no (n := n) hlt (show prA ls k = false by rw [PA.out]; rfl))
          clear PA HALL CN HR HH
          go_wp2
          go_ret
          exact ⟨by rw [NO.out]; rfl, rfl⟩
        · have e0 : (x == []) = false := by simpa using x0
          have e1 : 0 < x.length := by
            cases x with
            | nil => exact absurd rfl x0
            | cons _ _ => simp
          by_cases x1 : 32 < x.length
          · have NO := hide (prB_no (n := n) hlt (show prA ls k = false by rw [PA.out, decide_eq_false (show ¬ x.length ≤ 32 by omega)]; simp))
            have d1 : decide ((32 : Int) < (x.length : Int)) = true := by simp; omega
            clear PA HALL CN HR HH
            go_wp2
            go_ret
            exact ⟨by rw [NO.out]; rfl, rfl⟩
          · have d1 : decide ((32 : Int) < (x.length : Int)) = false := by simp; omega
            cases bm with
            | true =>
              have NO := hide (prB_no (n := n) hlt (show prA ls k = false by rw [PA.out]; simp))
              clear PA HALL HR HH
              go_wp2_with fail
              refine CN.out.mono ?_
              rintro e w1 ⟨rfl, rfl⟩
              go_wp2
              go_ret
              exact ⟨by rw [NO.out]; rfl, rfl⟩
            | false =>
              have NXT : Hid (∀ j, j < k + 1 → prA ls j = true) := fun j hj => by
                by_cases h : j = k
                · subst h
                  rw [PA.out, decide_eq_true e1, decide_eq_true (show x.length ≤ 32 by omega)]
                  rfl
                · exact HALL.out j (by omega)
              clear PA HALL HR HH
              go_wp2_with fail
              refine CN.out.mono ?_
              rintro e w1 ⟨rfl, rfl⟩
              go_wp2
              go_roundw
              case rel => exact ⟨k + 1, by omega, by go_num, trivial, NXT.out⟩
              case measure => simp [intOf]; omega
      · obtain rfl : k = ls.length := by omega
        have YES := hide (prB_yes hl hall)
        clear hall hr
        go_wp2
        go_ret
        exact ⟨by rw [YES.out]; rfl, rfl⟩
  · have d0 : decide ((n : Int) < (ls.length : Int)) = true := by simp; omega
    have NO : Hid (prB ls n = false) := by show _ = _; unfold prB; rw [decide_eq_false hl, Bool.false_and]
    clear hr
    go_enter Tryz.func99, Tryz.ntmps99
    go_wp2
    go_ret
    exact ⟨by rw [NO.out]; rfl, rfl⟩
end Go.Proofs.YtdnkgmlidhepbaaGreat
namespace Go.Proofs.YtdnkgmlidhepbaaGreat
open Go Go.RowKit
def fpB (v : Int) (r s : Nat) : Bool := decide (v < 0) || (decide (255 < v) || (decide (r ≠ 32) || decide (s ≠ 32)))
def fpF (v : Int) (r s : Nat) : Int := if fpB v r s = true then 3 else 0
theorem firstFault_any (w : World) (q : Nat) (v : Int) (a1 a2 : Option Addr) (r s c1 c2 : Nat) (hr : r ≤ 1048576) (hs : s ≤ 1048576) (h0 : w.cell? ⟨q, 0, none⟩ = some (.int .i64 v)) (h1 : w.cell? ⟨q, 1, none⟩ = some (.slice a1 r c1)) (h2 : w.cell? ⟨q, 2, none⟩ = some (.slice a2 s c2)) :
    Calls Tryz.prog 96 #[.pointer (some ⟨q, 0, none⟩)] w fun e w' => e = .returned (.int .i64 (fpF v r s)) ∧ w' = w := by
  have E := hide (show fpF v r s = if (decide (v < 0) || (decide (255 < v) || (decide (r ≠ 32) || decide (s ≠ 32)))) = true then 3 else 0 from rfl)
  by_cases k0 : v < 0
  · have d0 : decide (v < 0) = true := decide_eq_true k0
    go_enter Tryz.func96, Tryz.ntmps96
    go_wp2
    go_ret
    exact ⟨by rw [E.out, d0]; rfl, rfl⟩
  · have d0 : decide (v < 0) = false := decide_eq_false k0
    by_cases k1 : 255 < v
    · have d1 : decide (255 < v) = true := decide_eq_true k1
      go_enter Tryz.func96, Tryz.ntmps96
      go_wp2
      go_ret
      exact ⟨by rw [E.out, d0, d1]; rfl, rfl⟩
    · have d1 : decide (255 < v) = false := decide_eq_false k1
      by_cases k2 : r = 32
      · have d2 : decide (r ≠ 32) = false := by simpa using k2
        by_cases k3 : s = 32
        · have d3 : decide (s ≠ 32) = false := by simpa using k3
          subst k2
          subst k3
          go_enter Tryz.func96, Tryz.ntmps96
          go_wp2
          go_ret
          exact ⟨by rw [E.out, d0, d1, d2]; rfl, rfl⟩
        · have d3 : decide (s ≠ 32) = true := by simpa using k3
          have e3 : ((s : Int) != 32) = true := by simp; omega
          subst k2
          go_enter Tryz.func96, Tryz.ntmps96
          go_wp2
          go_ret
          exact ⟨by rw [E.out, d0, d1, d2, d3]; rfl, rfl⟩
      · have d2 : decide (r ≠ 32) = true := by simpa using k2
        have e2 : ((r : Int) != 32) = true := by simp; omega
        go_enter Tryz.func96, Tryz.ntmps96
        go_wp2
        go_ret
        exact ⟨by rw [E.out, d0, d1, d2]; rfl, rfl⟩
def bdB (t b : Nat) (g e : Int) : Bool := if t = 0 then decide (b = 0) && (decide (g = 0) && decide (e = 0)) else decide (b = 32)
theorem isBound_any (w : World) (q : Nat) (a5 a8 : Option Addr) (t b c5 c8 : Nat) (g e : Int) (ht : t ≤ 1048576) (hb : b ≤ 1048576) (h5 : w.cell? ⟨q, 5, none⟩ = some (.slice a5 t c5)) (h6 : w.cell? ⟨q, 6, none⟩ = some (.int .i64 g)) (h7 : w.cell? ⟨q, 7, none⟩ = some (.int .i64 e)) (h8 : w.cell? ⟨q, 8, none⟩ = some (.slice a8 b c8)) :
    Calls Tryz.prog 97 #[.pointer (some ⟨q, 0, none⟩)] w fun r w' => r = .returned (.bool (bdB t b g e)) ∧ w' = w := by
  by_cases k0 : t = 0
  · subst k0
    have E := hide (show bdB 0 b g e = (decide (b = 0) && (decide (g = 0) && decide (e = 0))) from rfl)
    by_cases k1 : b = 0
    · subst k1
      by_cases k2 : g = 0
      · subst k2
        by_cases k3 : e = 0
        · subst k3
          go_enter Tryz.func97, Tryz.ntmps97
          go_wp2
          go_ret
          exact ⟨by rw [E.out]; rfl, rfl⟩
        · have d3 : decide (e = 0) = false := decide_eq_false k3
          have e3 : (e == 0) = false := by simpa using k3
          go_enter Tryz.func97, Tryz.ntmps97
          go_wp2
          go_ret
          exact ⟨by rw [E.out, d3]; rfl, rfl⟩
      · have d2 : decide (g = 0) = false := decide_eq_false k2
        have e2 : (g == 0) = false := by simpa using k2
        go_enter Tryz.func97, Tryz.ntmps97
        go_wp2
        go_ret
        exact ⟨by rw [E.out, d2]; rfl, rfl⟩
    · have d1 : decide (b = 0) = false := decide_eq_false k1
      have e1 : ((b : Int) == 0) = false := by simp; omega
      go_enter Tryz.func97, Tryz.ntmps97
      go_wp2
      go_ret
      exact ⟨by rw [E.out, d1]; rfl, rfl⟩
  · have E := hide (show bdB t b g e = decide (b = 32) by unfold bdB; rw [if_neg k0])
    have e0 : ((t : Int) == 0) = false := by simp; omega
    by_cases k1 : b = 32
    · subst k1
      go_enter Tryz.func97, Tryz.ntmps97
      go_wp2
      go_ret
      exact ⟨by rw [E.out]; rfl, rfl⟩
    · have d1 : decide (b = 32) = false := decide_eq_false k1
      have e1 : ((b : Int) == 32) = false := by simp; omega
      go_enter Tryz.func97, Tryz.ntmps97
      go_wp2
      go_ret
      exact ⟨by rw [E.out, d1]; rfl, rfl⟩
end Go.Proofs.YtdnkgmlidhepbaaGreat
namespace Go.Proofs.YtdnkgmlidhepbaaGreat
open Go Go.RowKit
def heF (v : Int) (r s : Nat) (host : List UInt8) (ls : List (List UInt8)) (t b : Nat) (g e : Int) : Int :=
  if (fpB v r s || !bdB t b g e) = true then 3 else if nameF host ≠ 0 then 4 else if prB ls 8 = false then 5 else if 400 < t then 6 else if (!ageB g || !flgB e) = true then 7 else 0
set_option maxHeartbeats 1000000 in
theorem helloFault_any (w : World) (q : Nat) (v : Int) (a1 a2 a4 a5 a8 : Option Addr) (r s t b c1 c2 c4 c5 c8 gp : Nat) (host : List UInt8) (ls : List (List UInt8)) (g e : Int)
    (hr : r ≤ 1048576) (hs : s ≤ 1048576) (ht : t ≤ 1048576) (hb : b ≤ 1048576) (hh : host.length ≤ 1048576) (hp : RdT w gp a4 ls) (hc : ls.length ≤ c4) (hn : ls.length ≤ 1048576) (hz : ∀ l ∈ ls, l.length ≤ 1048576)
    (h0 : w.cell? ⟨q, 0, none⟩ = some (.int .i64 v)) (h1 : w.cell? ⟨q, 1, none⟩ = some (.slice a1 r c1)) (h2 : w.cell? ⟨q, 2, none⟩ = some (.slice a2 s c2)) (h3 : w.cell? ⟨q, 3, none⟩ = some (.string ⟨⟨host⟩⟩)) (h4 : w.cell? ⟨q, 4, none⟩ = some (.slice a4 ls.length c4))
    (h5 : w.cell? ⟨q, 5, none⟩ = some (.slice a5 t c5)) (h6 : w.cell? ⟨q, 6, none⟩ = some (.int .i64 g)) (h7 : w.cell? ⟨q, 7, none⟩ = some (.int .i64 e)) (h8 : w.cell? ⟨q, 8, none⟩ = some (.slice a8 b c8)) :
    Calls Tryz.prog 88 #[.pointer (some ⟨q, 0, none⟩)] w fun x w' => x = .returned (.int .i64 (heF v r s host ls t b g e)) ∧ w' = w := by
  have E := hide (show heF v r s host ls t b g e = if (fpB v r s || !bdB t b g e) = true then 3 else if nameF host ≠ 0 then 4 else if prB ls 8 = false then 5 else if 400 < t then 6 else if (!ageB g || !flgB e) = true then 7 else 0 from rfl)
  have FF := hide (firstFault_any w q v a1 a2 r s c1 c2 hr hs h0 h1 h2)
  have IB := hide (isBound_any w q a5 a8 t b c5 c8 g e ht hb h5 h6 h7 h8)
  have NF := hide (implNameFault_any w host (by omega))
  have AP := hide (areProtocols_any w gp a4 c4 ls 8 hp hc hn (by decide) hz)
  have AG := hide (isAge_any w g)
  have FL := hide (isFlag_any w e)
  clear hp hc hn hz
  generalize heF v r s host ls t b g e = f at *
  have FE : fpF v r s = if fpB v r s = true then 3 else 0 := rfl
  rw [FE] at FF
  clear FE
  generalize fpB v r s = x1 at *
  generalize bdB t b g e = x2 at *
  generalize nameF host = x3 at *
  generalize prB ls 8 = x4 at *
  generalize ageB g = x5 at *
  generalize flgB e = x6 at *
  cases x1 with
  | true =>
    obtain rfl : f = 3 := E.out
    clear E IB NF AP AG FL
    simp only [if_pos] at FF
    go_enter Tryz.func88, Tryz.ntmps88
    go_wp2_with fail
    refine FF.out.mono ?_
    rintro x w1 ⟨rfl, rfl⟩
    go_wp2
    go_ret
    exact ⟨rfl, rfl⟩
  | false =>
    simp only [Bool.false_eq_true, if_false] at FF
    cases x2 with
    | false =>
      obtain rfl : f = 3 := E.out
      clear E NF AP AG FL
      go_enter Tryz.func88, Tryz.ntmps88
      go_wp2_with fail
      refine FF.out.mono ?_
      rintro x w1 ⟨rfl, rfl⟩
      go_wp2_with fail
      refine IB.out.mono ?_
      rintro x w1 ⟨rfl, rfl⟩
      go_wp2
      go_ret
      exact ⟨rfl, rfl⟩
    | true =>
      by_cases k3 : x3 = 0
      · subst k3
        cases x4 with
        | false =>
          obtain rfl : f = 5 := E.out
          clear E AG FL
          go_enter Tryz.func88, Tryz.ntmps88
          go_wp2_with fail
          refine FF.out.mono ?_
          rintro x w1 ⟨rfl, rfl⟩
          go_wp2_with fail
          refine IB.out.mono ?_
          rintro x w1 ⟨rfl, rfl⟩
          go_wp2_with fail
          refine NF.out.mono ?_
          rintro x w1 ⟨rfl, rfl⟩
          go_wp2_with fail
          refine AP.out.mono ?_
          rintro x w1 ⟨rfl, rfl⟩
          go_wp2
          go_ret
          exact ⟨rfl, rfl⟩
        | true =>
          by_cases k5 : 400 < t
          · have EF : f = 6 := by rw [E.out]; simp [k5]
            subst EF
            have d5 : decide ((400 : Int) < (t : Int)) = true := by simp; omega
            clear E AG FL
            go_enter Tryz.func88, Tryz.ntmps88
            go_wp2_with fail
            refine FF.out.mono ?_
            rintro x w1 ⟨rfl, rfl⟩
            go_wp2_with fail
            refine IB.out.mono ?_
            rintro x w1 ⟨rfl, rfl⟩
            go_wp2_with fail
            refine NF.out.mono ?_
            rintro x w1 ⟨rfl, rfl⟩
            go_wp2_with fail
            refine AP.out.mono ?_
            rintro x w1 ⟨rfl, rfl⟩
            go_wp2
            go_ret
            exact ⟨rfl, rfl⟩
          · have d5 : decide ((400 : Int) < (t : Int)) = false := by simp; omega
            have EF := hide (show f = if (!x5 || !x6) = true then 7 else 0 by rw [E.out]; simp [k5])
            clear E
            go_enter Tryz.func88, Tryz.ntmps88
            go_wp2_with fail
            refine FF.out.mono ?_
            rintro x w1 ⟨rfl, rfl⟩
            go_wp2_with fail
            refine IB.out.mono ?_
            rintro x w1 ⟨rfl, rfl⟩
            go_wp2_with fail
            refine NF.out.mono ?_
            rintro x w1 ⟨rfl, rfl⟩
            go_wp2_with fail
            refine AP.out.mono ?_
            rintro x w1 ⟨rfl, rfl⟩
            go_wp2_with fail
            refine AG.out.mono ?_
            rintro x w1 ⟨rfl, rfl⟩
            cases x5 with
            | false =>
              go_wp2
              go_ret
              exact ⟨by rw [EF.out]; rfl, rfl⟩
            | true =>
              go_wp2_with fail
              refine FL.out.mono ?_
              rintro x w1 ⟨rfl, rfl⟩
              cases x6 with
              | false =>
                go_wp2
                go_ret
                exact ⟨by rw [EF.out]; rfl, rfl⟩
              | true =>
                go_wp2
                go_ret
                exact ⟨by rw [EF.out]; rfl, rfl⟩
      · have EF : f = 4 := by rw [E.out]; simp [k3]
        subst EF
        have d3 : (x3 != 0) = true := by simpa using k3
        clear E AP AG FL
        go_enter Tryz.func88, Tryz.ntmps88
        go_wp2_with fail
        refine FF.out.mono ?_
        rintro x w1 ⟨rfl, rfl⟩
        go_wp2_with fail
        refine IB.out.mono ?_
        rintro x w1 ⟨rfl, rfl⟩
        go_wp2_with fail
        refine NF.out.mono ?_
        rintro x w1 ⟨rfl, rfl⟩
        go_wp2
        go_ret
        exact ⟨rfl, rfl⟩
end Go.Proofs.YtdnkgmlidhepbaaGreat
