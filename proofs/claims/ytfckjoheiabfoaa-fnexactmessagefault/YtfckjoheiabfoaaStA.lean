
/-
  Rows of texts that are read; the laws' helpers on them.
-/
import Derived.Test.YtfckjoheiabfoaaNmC
namespace Go.Proofs.Ytfckjoheiabfoaa
open Go Go.RowKit

/-- The cells of a row of texts that is read: if it has elements, they lie in block g. -/
def RdT (w : World) (g : Nat) (a : Option Addr) (ls : List (List UInt8)) : Prop :=
  0 < ls.length → ∃ off, a = some ⟨g, off, none⟩ ∧ ∀ i, i < ls.length → w.cell? ⟨g, off + i, none⟩ = some (tx (ls.getD i []))
theorem RdT.nil (w : World) (g : Nat) (a : Option Addr) : RdT w g a [] := fun h => absurd h (by simp)
theorem RdT.lt {w : World} {g : Nat} {a : Option Addr} {ls : List (List UInt8)} (h : RdT w g a ls) (h0 : 0 < ls.length) : g < w.heap.size := by
  obtain ⟨off, ha, hc⟩ := h h0
  exact block_lt_of_cell (hc 0 h0)
theorem RdT.of_block {w w' : World} {g : Nat} {a : Option Addr} {ls : List (List UInt8)} (h : RdT w g a ls) (hb : w'.heap[g]? = w.heap[g]?) : RdT w' g a ls := by
  intro h0
  obtain ⟨off, ha, hc⟩ := h h0
  exact ⟨off, ha, fun i hi => (World.cell?_of_block (a := ⟨g, off + i, none⟩) hb).trans (hc i hi)⟩
theorem RdT.up {w w' : World} {g : Nat} {a : Option Addr} {ls : List (List UInt8)} (h : RdT w g a ls) (hb : Below w.heap.size w w') : RdT w' g a ls := by
  by_cases h0 : 0 < ls.length
  · exact h.of_block (hb.block g (h.lt h0))
  · exact fun h1 => absurd h1 h0
/-- Block g holds just these texts. -/
def BlkT (w : World) (g : Nat) (ls : List (List UInt8)) : Prop := w.heap[g]? = some (.cells (ls.map tx).toArray 9 (0, 0))
theorem BlkT.lt {w : World} {g : Nat} {ls : List (List UInt8)} (h : BlkT w g ls) : g < w.heap.size := (Array.getElem?_eq_some_iff.1 h).1
theorem BlkT.cell {w : World} {g : Nat} {ls : List (List UInt8)} (h : BlkT w g ls) {i : Nat} (hi : i < ls.length) : w.cell? ⟨g, i, none⟩ = some (tx (ls.getD i [])) := by
  rw [cell_of_row w g i _ 9 (0, 0) h]
  simp [hi]
theorem BlkT.free {w : World} {g : Nat} {ls : List (List UInt8)} (h : BlkT w g ls) (i : Nat) : w.frozen? ⟨g, i, none⟩ = false := frozen_of_row w g i _ 9 h
theorem BlkT.store {w : World} {g : Nat} {ls : List (List UInt8)} (h : BlkT w g ls) (i : Nat) (z : List UInt8) : BlkT (w.setCell ⟨g, i, none⟩ (tx z)) g (ls.set i z) := by
  show _ = _
  rw [heap_setCell_same w g i _ 9 _ h]
  simp [List.map_set]
theorem BlkT.rd {w : World} {g : Nat} {ls : List (List UInt8)} (h : BlkT w g ls) : RdT w g (some ⟨g, 0, none⟩) ls := fun _ => ⟨0, rfl, fun i hi => by rw [Nat.zero_add]; exact h.cell hi⟩
theorem BlkT.up {w w' : World} {g : Nat} {ls : List (List UInt8)} (h : BlkT w g ls) (hb : Below w.heap.size w w') : BlkT w' g ls := (hb.block g h.lt).trans h
theorem BlkT.of_made {w : World} {base : Nat} {g n : Nat} (h : w.ownsRow base 9 1 (.slice (some ⟨g, 0, none⟩) n n) n (madeCells (Value.string ⟨#[]⟩).cells (n * 1)).toList) : BlkT w g (List.replicate n []) := by
  rcases h.2 with ⟨h', _⟩ | ⟨g', cap', cur, h', _, hg, _, _, hcs, htake⟩
  · simp at h'
  · simp only [Value.slice.injEq, Option.some.injEq, Addr.mk.injEq, and_true, true_and] at h'
    obtain ⟨rfl, rfl⟩ := h'
    show _ = _
    rw [hg]
    have : cur = ((List.replicate n ([] : List UInt8)).map tx).toArray := by
      apply Array.ext'
      rw [List.take_of_length_le (by rw [Array.length_toList, hcs]; exact Nat.le_refl _)] at htake
      rw [htake]
      apply List.ext_getElem
      · simp [madeCells]
      · intro i h1 h2
        simp [madeCells, Value.cells, tx, Nat.mod_one]
    rw [this]
def CopT (xs ys : List (List UInt8)) (k : Nat) : Prop := ys.length = xs.length ∧ ys.take k = xs.take k
theorem CopT.step {xs ys : List (List UInt8)} {k : Nat} (h : CopT xs ys k) (hk : k < xs.length) : CopT xs (ys.set k (xs.getD k [])) (k + 1) := by
  refine ⟨by simpa using h.1, ?_⟩
  have hk' : k < ys.length := by rw [h.1]; exact hk
  rw [List.take_succ_eq_append_getElem (by simpa using hk'), List.take_succ_eq_append_getElem hk, List.take_set]
  rw [List.getElem_set_self, List.set_eq_of_length_le (by rw [List.length_take]; omega), h.2]
  simp [hk]

set_option maxHeartbeats 1000000 in
theorem toStringS_any (w : World) (g : Nat) (a : Option Addr) (cap : Nat) (ls : List (List UInt8)) (hr : RdT w g a ls) (hn : ls.length ≤ 1048576) :
    Calls Try.prog 18 #[.slice a ls.length cap] w fun e w' => e = .returned (.slice (some ⟨w.heap.size, 0, none⟩) ls.length ls.length) ∧ BlkT w' w.heap.size ls ∧ Below w.heap.size w w' := by
  obtain ⟨i0, hi, hz0, hz1, hz2⟩ := info_parts infoS
  go_enter Try.func18, Try.ntmps18
  go_wp2_with (at_make; refine wpList_make_full _ rfl _ _ 23 rfl w.heap.size 9 i0 (.string ⟨#[]⟩) 1 Try.underlying23 hi hz0 hz1 .i64 .i64 _ _ ls.length rfl rfl rfl rfl (by rw [hz2]; omega) (by unfold maxLen; omega) (Nat.le_refl _) ?_; intro w1 hown hgrow)
  have hB0 := BlkT.of_made hown
  have hN0 : Below w.heap.size w w1 := (Below.refl _ _).grown hgrow (Nat.le_refl _) (by simp)
  clear hown hgrow
  go_loopw [4] (fun i wr => ∃ (k : Nat) (ys : List (List UInt8)), k ≤ ls.length ∧ i = .int .i64 k ∧ CopT ls ys k ∧ BlkT wr w.heap.size ys ∧ Below w.heap.size w wr) (fun i _ => ls.length - (intOf i).toNat)
  case atStart => exact ⟨0, _, Nat.zero_le _, rfl, ⟨by simp, by simp⟩, hB0, hN0⟩
  case round =>
    obtain ⟨k, ys, hk, rfl, hcp, hB, hN⟩ := hrel
    by_cases hlt : k < ls.length
    · obtain ⟨off, rfl, hc⟩ := hr (by omega)
      have hg := hr.lt (by omega)
      have R := hide (hcp.step hlt)
      have hcx : wr.cell? ⟨g, off + k, none⟩ = some (tx (ls.getD k [])) := (hN.cell (p := ⟨g, off + k, none⟩) hg).trans (hc k hlt)
      have hcy : wr.cell? ⟨w.heap.size, k, none⟩ = some (tx (ys.getD k [])) := hB.cell (by rw [hcp.1]; exact hlt)
      have hfy := hB.free k
      have hB' := hide (hB.store k (ls.getD k []))
      have hN' : Hid (Below w.heap.size w (wr.setCell ⟨w.heap.size, k, none⟩ (tx (ls.getD k [])))) := hN.setCell (Nat.le_refl _) _
      generalize ls.getD k [] = x at *
      generalize ys.getD k [] = y at *
      clear hB hN hc hcp
      unfold tx at hcx hcy
      go_wp2
      go_roundw
      case rel => exact ⟨k + 1, _, by omega, by go_num, R.out, hB'.out, hN'.out⟩
      case measure => simp [intOf]; omega
    · obtain rfl : k = ls.length := by omega
      have e : ys = ls := by
        have := hcp.2
        rwa [List.take_of_length_le (by rw [hcp.1]; exact Nat.le_refl _), List.take_length] at this
      have hB2 := hide hB
      have hN2 := hide hN
      rw [e] at hB2
      clear hB hN hcp e
      go_wp2
      go_ret
      exact ⟨rfl, hB2.out, hN2.out⟩

set_option maxHeartbeats 1000000 in
theorem eqStringS_same (w : World) (g g' : Nat) (a b : Option Addr) (ca cb : Nat) (ls : List (List UInt8)) (ha : RdT w g a ls) (hb : RdT w g' b ls) (hn : ls.length ≤ 1048576) :
    Calls Try.prog 22 #[.slice a ls.length ca, .slice b ls.length cb] w fun e w' => e = .returned (.bool true) ∧ Below w.heap.size w w' := by
  go_enter Try.func22, Try.ntmps22
  go_wp2
  go_loopw [5] (fun i wr => ∃ (k n : Nat), k ≤ ls.length ∧ i = .int .i64 k ∧ wr = w.drewN n) (fun i _ => ls.length - (intOf i).toNat)
  case atStart => exact ⟨0, 0, Nat.zero_le _, rfl, rfl⟩
  case round =>
    obtain ⟨k, n, hk, rfl, rfl⟩ := hrel
    by_cases hlt : k < ls.length
    · obtain ⟨off, rfl, hc⟩ := ha (by omega)
      obtain ⟨off', rfl, hc'⟩ := hb (by omega)
      have h1 := hc k hlt
      have h2 := hc' k hlt
      have hlt' : (k : Int) < (ls.length : Int) := by omega
      generalize ls.getD k [] = x at *
      have e1 : (x == x) = true := by simp
      clear hc hc'
      unfold tx at h1 h2
      go_wp2
      go_region
      go_wp2
      go_roundw
      case rel => exact ⟨k + 1, _, by omega, by go_num, rfl⟩
      case measure => simp [intOf]; omega
    · obtain rfl : k = ls.length := by omega
      go_wp2
      go_ret
      exact ⟨rfl, below_drewN (Below.refl _ _) _⟩

/-- The bytes of all texts. -/
def sumT (ls : List (List UInt8)) : Nat := ls.foldr (fun l s => l.length + s) 0
theorem sumT_cons (l : List UInt8) (ls : List (List UInt8)) : sumT (l :: ls) = l.length + sumT ls := rfl
theorem sumT_app (x y : List (List UInt8)) : sumT (x ++ y) = sumT x + sumT y := by
  induction x with
  | nil => simp [sumT]
  | cons a x ih => rw [List.cons_append, sumT_cons, sumT_cons, ih, Nat.add_assoc]
theorem sumT_take {ls : List (List UInt8)} {k : Nat} (h : k < ls.length) : sumT (ls.take (k + 1)) = sumT (ls.take k) + (ls.getD k []).length := by
  have e : ls.take (k + 1) = ls.take k ++ [ls.getD k []] := by
    rw [List.take_succ_eq_append_getElem h]
    congr 2
    simp [h]
  rw [e, sumT_app]
  simp [sumT]
theorem sumT_le {ls : List (List UInt8)} (k : Nat) : sumT (ls.take k) ≤ sumT ls := by
  have := sumT_app (ls.take k) (ls.drop k)
  rw [List.take_append_drop] at this
  omega
theorem sumT_mem {ls : List (List UInt8)} {l : List UInt8} (h : l ∈ ls) : l.length ≤ sumT ls := by
  induction ls with
  | nil => cases h
  | cons a ls ih =>
    rw [sumT_cons]
    rcases List.mem_cons.1 h with rfl | h
    · omega
    · have := ih h
      omega
/-- What is left of a number of places. -/
def leftT (L : Int) (ls : List (List UInt8)) : Int := if L < (ls.length : Int) + (sumT ls : Int) then -1 else L - ls.length - sumT ls
theorem leftT_ge (L : Int) (ls : List (List UInt8)) : -1 ≤ leftT L ls := by
  unfold leftT
  split <;> omega
set_option maxHeartbeats 1000000 in
theorem szStringS_any (w : World) (g : Nat) (a : Option Addr) (cap : Nat) (ls : List (List UInt8)) (L : Int) (hr : RdT w g a ls) (hn : ls.length ≤ 9223372036854775807) (hsz : ∀ l ∈ ls, l.length ≤ 9223372036854775807) (h0 : 0 ≤ L) (h1 : L ≤ 1048576) :
    Calls Try.prog 10 #[.slice a ls.length cap, .int .i64 L] w fun e w' => e = .returned (.int .i64 (leftT L ls)) ∧ w' = w := by
  have s1 : IntKind.i64.wrap (L - (ls.length : Int)) = L - (ls.length : Int) := by rw [IntKind.wrap_i64]; omega
  by_cases hl : L < (ls.length : Int)
  · have t1 : decide (L - (ls.length : Int) < 0) = true := decide_eq_true (by omega)
    have EQ : Hid (leftT L ls = -1) := by
      show _ = _
      unfold leftT
      rw [if_pos (by omega)]
    go_enter Try.func10, Try.ntmps10
    go_wp2
    go_ret
    exact ⟨by rw [EQ.out]; rfl, rfl⟩
  · have t1 : decide (L - (ls.length : Int) < 0) = false := decide_eq_false (by omega)
    go_enter Try.func10, Try.ntmps10
    go_wp2
    go_loopw [1, 5] (fun q i wr => wr = w ∧ ∃ k : Nat, k ≤ ls.length ∧ i = .int .i64 k ∧ q = .int .i64 (L - ls.length - sumT (ls.take k)) ∧ (0 ≤ L - ls.length - sumT (ls.take k))) (fun _ i _ => ls.length - (intOf i).toNat)
    case atStart => exact ⟨rfl, 0, Nat.zero_le _, rfl, by simp [sumT], by simp [sumT]; omega⟩
    case round =>
      clear t1
      obtain ⟨e1, k, hk, rfl, rfl, hq⟩ := hrel
      subst e1
      by_cases hlt : k < ls.length
      · obtain ⟨off, rfl, hc⟩ := hr (by omega)
        have c1 := hc k hlt
        have hs := sumT_take hlt
        have hx : (ls.getD k []).length ≤ 9223372036854775807 := hsz _ (by simp [hlt])
        have hle := sumT_le (ls := ls) (k + 1)
        have hlt' : (k : Int) < (ls.length : Int) := by omega
        generalize ls.getD k [] = x at *
        have xs := tx_size x
        clear hc
        unfold tx at c1
        have s2 : IntKind.i64.wrap (L - (ls.length : Int) - (sumT (ls.take k) : Int) - (x.length : Int)) = L - (ls.length : Int) - (sumT (ls.take k) : Int) - (x.length : Int) := by rw [IntKind.wrap_i64]; omega
        by_cases hd : L - (ls.length : Int) - (sumT (ls.take k) : Int) - (x.length : Int) < 0
        · have t2 : decide (L - (ls.length : Int) - (sumT (ls.take k) : Int) - (x.length : Int) < 0) = true := decide_eq_true hd
          have EQ : Hid (leftT L ls = -1) := by
            show _ = _
            unfold leftT
            rw [if_pos (by omega)]
          clear hs hle hd hq hsz
          generalize (sumT (ls.take k) : Int) = S at *
          go_wp2
          go_ret
          exact ⟨by rw [EQ.out]; rfl, rfl⟩
        · have t2 : decide (L - (ls.length : Int) - (sumT (ls.take k) : Int) - (x.length : Int) < 0) = false := decide_eq_false hd
          have E2 : Hid (L - (ls.length : Int) - (sumT (ls.take k) : Int) - (x.length : Int) = L - (ls.length : Int) - (sumT (ls.take (k + 1)) : Int)) := by
            show _ = _
            omega
          have HD := hide hd
          clear hs hle hd hq hsz
          generalize (sumT (ls.take k) : Int) = S at *
          go_wp2
          go_roundw
          case rel => exact ⟨by simp, k + 1, by omega, by go_num, by rw [E2.out], by have := HD.out; rw [E2.out] at this; omega⟩
          case measure => simp [intOf]; omega
      · obtain rfl : k = ls.length := by omega
        rw [List.take_length] at hq ⊢
        have EQ : Hid (leftT L ls = L - ls.length - sumT ls) := by
          show _ = _
          unfold leftT
          rw [if_neg (by omega)]
        clear hq hsz
        generalize (sumT ls : Int) = S at *
        go_wp2
        go_ret
        exact ⟨by rw [EQ.out]; rfl, rfl⟩
end Go.Proofs.Ytfckjoheiabfoaa
