import Derived.Test.YtbhmhkimddjhaaaDoorGA41
import Derived.Deep.DeepCutAuto
/-
  The program's addTimes: a product with a word, added to eight words at a place.
-/
namespace Go.Proofs.YtbhmhkimddjhaaaDoor
set_option maxRecDepth 100000
open Go.RowKit

/-- Eight words as the value of an array; as the cells of a block. -/
def ag8 (u : Nat → Int) : Value := .agg #[.int .u64 (u 0), .int .u64 (u 1), .int .u64 (u 2), .int .u64 (u 3), .int .u64 (u 4), .int .u64 (u 5), .int .u64 (u 6), .int .u64 (u 7)]
abbrev c8 (u : Nat → Int) : List Int := [u 0, u 1, u 2, u 3, u 4, u 5, u 6, u 7]
theorem blk_box8 (w : World) (k : IntKind) (t : TypeId) (a b c d e f g h : Int) : Blk (w.alloc (.cells #[.int k a, .int k b, .int k c, .int k d, .int k e, .int k f, .int k g, .int k h] t)) w.heap.size k [a, b, c, d, e, f, g, h] :=
  ⟨t, by rw [heap_alloc_last]; rfl⟩
theorem c8_get (u : Nat → Int) (j : Nat) (hj : j < 8) : (c8 u).getD j 0 = u j := by
  obtain rfl | rfl | rfl | rfl | rfl | rfl | rfl | rfl : j = 0 ∨ j = 1 ∨ j = 2 ∨ j = 3 ∨ j = 4 ∨ j = 5 ∨ j = 6 ∨ j = 7 := by omega
  all_goals rfl
theorem c8_len (u : Nat → Int) : (c8 u).length = 8 := rfl
theorem c8_set (u v : Nat → Int) (k : Nat) (x : Int) (hk : k < 8) (h : ∀ j, j < 8 → v j = if j = k then x else u j) : (c8 u).set k x = c8 v := by
  refine eq_of_getD (by simp) (fun i hi => ?_)
  rw [List.length_set, c8_len] at hi
  rw [c8_get v i hi, h i hi]
  by_cases e : i = k
  · subst e
    rw [getD_set_self _ _ _ (by rw [c8_len]; exact hk), if_pos rfl]
  · rw [getD_set_ne _ _ _ _ (fun h => e h.symm), if_neg e, c8_get u i hi]
theorem Blk.f8 {w : World} {g : Nat} {k : IntKind} {a b c d e f g' h : Int} (B : Blk w g k [a, b, c, d, e, f, g', h]) :
    (w.cell? ⟨g, 0, none⟩ = some (.int k a) ∧ w.cell? ⟨g, 1, none⟩ = some (.int k b) ∧ w.cell? ⟨g, 2, none⟩ = some (.int k c) ∧ w.cell? ⟨g, 3, none⟩ = some (.int k d) ∧ w.cell? ⟨g, 4, none⟩ = some (.int k e) ∧ w.cell? ⟨g, 5, none⟩ = some (.int k f) ∧ w.cell? ⟨g, 6, none⟩ = some (.int k g') ∧ w.cell? ⟨g, 7, none⟩ = some (.int k h)) ∧
    (w.frozen? ⟨g, 0, none⟩ = false ∧ w.frozen? ⟨g, 1, none⟩ = false ∧ w.frozen? ⟨g, 2, none⟩ = false ∧ w.frozen? ⟨g, 3, none⟩ = false ∧ w.frozen? ⟨g, 4, none⟩ = false ∧ w.frozen? ⟨g, 5, none⟩ = false ∧ w.frozen? ⟨g, 6, none⟩ = false ∧ w.frozen? ⟨g, 7, none⟩ = false) :=
  ⟨⟨B.cell (i := 0) (by simp), B.cell (i := 1) (by simp), B.cell (i := 2) (by simp), B.cell (i := 3) (by simp), B.cell (i := 4) (by simp), B.cell (i := 5) (by simp), B.cell (i := 6) (by simp), B.cell (i := 7) (by simp)⟩, B.free 0, B.free 1, B.free 2, B.free 3, B.free 4, B.free 5, B.free 6, B.free 7⟩
theorem below_set8 {B : Nat} {w w' : World} (h : Below B w w') {g : Nat} (hg : B ≤ g) (a b c d e f g' i : Value) :
    Below B w ((((((((w'.setCell ⟨g, 0, none⟩ a).setCell ⟨g, 1, none⟩ b).setCell ⟨g, 2, none⟩ c).setCell ⟨g, 3, none⟩ d).setCell ⟨g, 4, none⟩ e).setCell ⟨g, 5, none⟩ f).setCell ⟨g, 6, none⟩ g').setCell ⟨g, 7, none⟩ i) :=
  (((((((h.setCell hg _).setCell hg _).setCell hg _).setCell hg _).setCell hg _).setCell hg _).setCell hg _).setCell hg _
theorem Blk.f2 {w : World} {g : Nat} {k : IntKind} {a b : Int} (h : Blk w g k [a, b]) : (w.cell? ⟨g, 0, none⟩ = some (.int k a) ∧ w.cell? ⟨g, 1, none⟩ = some (.int k b)) ∧ (w.frozen? ⟨g, 0, none⟩ = false ∧ w.frozen? ⟨g, 1, none⟩ = false) :=
  ⟨⟨h.cell (i := 0) (by simp), h.cell (i := 1) (by simp)⟩, h.free 0, h.free 1⟩
theorem upb' {w w' : World} (n : Below w.heap.size w w') {g : Nat} {k : IntKind} {ys : List Int} (h : Blk w g k ys) : Blk w' g k ys := h.up n
theorem bA {w W : World} (h : Below w.heap.size w W) (o : Obj) : Below w.heap.size w (W.alloc o) := h.alloc h.size _

set_option maxHeartbeats 4000000 in
theorem wideAdd_any (w : World) (h l n : Int) (hh : 0 ≤ h) (hl : 0 ≤ l ∧ l < 18446744073709551616) (hn : 0 ≤ n ∧ n < 18446744073709551616) (hs : h * 18446744073709551616 + l + n < 340282366920938463463374607431768211456) :
    Calls Tryd.prog 125 #[.agg #[.int .u64 h, .int .u64 l], .int .u64 n] w fun e w' =>
      e = .returned (.agg #[.int .u64 ((h * 18446744073709551616 + l + n) / 18446744073709551616), .int .u64 ((h * 18446744073709551616 + l + n) % 18446744073709551616)]) ∧ Below w.heap.size w w' := by
  have AD := add64_run l n hl.1 hn.1
  have K1 : Hid ((h * 18446744073709551616 + l + n) / 18446744073709551616 = h + (l + n) / 18446744073709551616) := by show _ = _; omega
  have K2 : Hid ((h * 18446744073709551616 + l + n) % 18446744073709551616 = (l + n) % 18446744073709551616) := by show _ = _; omega
  have b1 : 0 ≤ (l + n) / 18446744073709551616 := by omega
  have b3 : h + (l + n) / 18446744073709551616 < 18446744073709551616 := by omega
  generalize (l + n) % 18446744073709551616 = s at *
  generalize (l + n) / 18446744073709551616 = c at *
  clear hs
  go_enter Tryd.func125, Tryd.ntmps125
  go_wp2
  refine bodyPost_ret (v := ag2 (h + c) s) (by simp [ag2, results, Tryd.results125, go_sem]) rfl ⟨by rw [K1.out, K2.out]; rfl, ?_⟩
  exact ((Below.refl _ _).alloc (Nat.le_refl _) _).alloc (by simp) _

/-- A sum of 128 bits in a block of its own. -/
def InBox (wr : World) (h l : Int) (v : Value) (wc : World) : Prop := ∃ q, v = .pointer (some ⟨q, 0, none⟩) ∧ wr.heap.size ≤ q ∧ Blk wc q .u64 [h, l] ∧ Below wr.heap.size wr wc
theorem inBox1 {wr wm : World} (n : Below wr.heap.size wr wm) (h l : Int) : InBox wr h l (.pointer (some ⟨wm.heap.size, 0, none⟩)) (wm.alloc (.cells #[.int .u64 h, .int .u64 l] 117)) :=
  ⟨_, rfl, n.size, blk_box2 wm .u64 _ h l, bA n _⟩
theorem inBox2 {wr wm : World} (n : Below wr.heap.size wr wm) (h l : Int) {q : Nat} (B : Blk wm q .u64 [0, 0]) (hq : wr.heap.size ≤ q) : InBox wr h l (.pointer (some ⟨q, 0, none⟩)) ((wm.setCell ⟨q, 0, none⟩ (.int .u64 h)).setCell ⟨q, 1, none⟩ (.int .u64 l)) :=
  ⟨_, rfl, hq, (B.store 0 h).store 1 l, (n.setCell hq _).setCell hq _⟩

theorem at8_step (p : Nat) (n : Int) (s D : Nat → Int) (k : Nat) (hp : p ≤ 3) (hk : k < 4) :
    (c8 (at8 p n s D k)).set (p + k) ((ac n s (fun i => D (p + i)) k + n * s k + D (p + k)) % 18446744073709551616) = c8 (at8 p n s D (k + 1)) := by
  refine c8_set _ _ _ _ (by omega) (fun j hj => ?_)
  unfold at8
  by_cases e : j = p + k
  · subst e
    rw [if_pos (by omega), if_pos rfl, show p + k - p = k by omega]
  · rw [if_neg e]
    by_cases h : p ≤ j ∧ j < p + k
    · rw [if_pos (by omega), if_pos h]
    · rw [if_neg (by omega), if_neg h]
theorem at8_zero (p : Nat) (n : Int) (s D : Nat → Int) : c8 (at8 p n s D 0) = c8 D := by
  have : at8 p n s D 0 = D := by
    funext j
    unfold at8
    rw [if_neg (by omega)]
  rw [this]
theorem at8_at (p : Nat) (n : Int) (s D : Nat → Int) (k j : Nat) (h : p + k ≤ j) : at8 p n s D k j = D j := by
  unfold at8
  rw [if_neg (by omega)]

set_option maxHeartbeats 8000000 in
theorem addTimes_any (w : World) (D s : Nat → Int) (p : Nat) (n : Int) (hp : p ≤ 3) (hn : 0 ≤ n ∧ n < 18446744073709551616) (hs : W4 s) (hD : W8 D) (ho : D (p + 4) + ac n s (fun i => D (p + i)) 4 < 18446744073709551616) :
    Calls Tryd.prog 95 #[ag8 D, .int .i64 p, .int .u64 n, ag4 s] w fun r w' => r = .returned (ag8 (adT p n s D)) ∧ Below w.heap.size w w' := by
  have B0 := blk_box8 w .u64 56 (D 0) (D 1) (D 2) (D 3) (D 4) (D 5) (D 6) (D 7)
  have n0 : Below w.heap.size w (w.alloc (.cells #[.int .u64 (D 0), .int .u64 (D 1), .int .u64 (D 2), .int .u64 (D 3), .int .u64 (D 4), .int .u64 (D 5), .int .u64 (D 6), .int .u64 (D 7)] 56)) := (Below.refl _ _).alloc (Nat.le_refl _) _
  have s0 : (w.alloc (.cells #[.int .u64 (D 0), .int .u64 (D 1), .int .u64 (D 2), .int .u64 (D 3), .int .u64 (D 4), .int .u64 (D 5), .int .u64 (D 6), .int .u64 (D 7)] 56)).heap.size = w.heap.size + 1 := by simp
  simp only [ag8, ag4]
  go_enter Tryd.func95, Tryd.ntmps95
  go_wp2
  generalize w.alloc (.cells #[.int .u64 (D 0), .int .u64 (D 1), .int .u64 (D 2), .int .u64 (D 3), .int .u64 (D 4), .int .u64 (D 5), .int .u64 (D 6), .int .u64 (D 7)] 56) = wa at *
  have n1 : Below wa.heap.size wa (wa.alloc (.cells #[.int .u64 (s 0), .int .u64 (s 1), .int .u64 (s 2), .int .u64 (s 3)] 51)) := (Below.refl _ _).alloc (Nat.le_refl _) _
  have s1 : (wa.alloc (.cells #[.int .u64 (s 0), .int .u64 (s 1), .int .u64 (s 2), .int .u64 (s 3)] 51)).heap.size = w.heap.size + 1 + 1 := by simp [s0]
  generalize wa.alloc (.cells #[.int .u64 (s 0), .int .u64 (s 1), .int .u64 (s 2), .int .u64 (s 3)] 51) = wb at *
  have B2 := blk_box8 wb .u64 56 0 0 0 0 0 0 0 0
  have n2 : Below wb.heap.size wb (wb.alloc (.cells #[.int .u64 0, .int .u64 0, .int .u64 0, .int .u64 0, .int .u64 0, .int .u64 0, .int .u64 0, .int .u64 0] 56)) := (Below.refl _ _).alloc (Nat.le_refl _) _
  have s2 : (wb.alloc (.cells #[.int .u64 0, .int .u64 0, .int .u64 0, .int .u64 0, .int .u64 0, .int .u64 0, .int .u64 0, .int .u64 0] 56)).heap.size = w.heap.size + 1 + 1 + 1 := by simp [s1]
  generalize wb.alloc (.cells #[.int .u64 0, .int .u64 0, .int .u64 0, .int .u64 0, .int .u64 0, .int .u64 0, .int .u64 0, .int .u64 0] 56) = wc at *
  have E0 := (B0.up n1).up n2
  rw [s1] at B2
  have N := nxt (nxt n0 n1) n2
  have hac := fun k (hk : k ≤ 4) => ac_bd (d := fun i => D (p + i)) hn hs k hk (fun j hj => hD (p + j) (by omega))
  clear B0 n0 n1 n2 s0 s1 s2
  go_loopw [9, 14] (fun c i wr => ∃ k : Nat, k ≤ 4 ∧ i = .int .i64 k ∧ c = .int .u64 (ac n s (fun i => D (p + i)) k) ∧ Blk wr w.heap.size .u64 (c8 (at8 p n s D k)) ∧ Blk wr (w.heap.size + 1 + 1) .u64 [0, 0, 0, 0, 0, 0, 0, 0] ∧ Below w.heap.size w wr) (fun _ i _ => 4 - (intOf i).toNat)
  case atStart => exact ⟨0, by omega, rfl, rfl, by rw [at8_zero]; exact E0, B2, N⟩
  case round =>
    clear E0 B2 N
    obtain ⟨k, hk, rfl, rfl, hB, hR, hN⟩ := hrel
    by_cases hlt : k < 4
    · have IX := idx4 s k hlt
      have sk := hs k hlt
      have dk := hD (p + k) (by omega)
      have ck := hac k hk
      have ml := mul_word hn sk
      have e1 : ac n s (fun i => D (p + i)) (k + 1) = (ac n s (fun i => D (p + i)) k + n * s k + D (p + k)) / 18446744073709551616 := rfl
      have hst := at8_step p n s D k hp hlt
      have cy0 : (c8 (at8 p n s D k)).getD (p + k) 0 = D (p + k) := by rw [c8_get _ _ (by omega), at8_at _ _ _ _ _ _ (Nat.le_refl _)]
      have yl : (c8 (at8 p n s D k)).length = 8 := c8_len _
      obtain ⟨h2, hh2⟩ : ∃ h2, h2 = ac n s (fun i => D (p + i)) (k + 1) := ⟨_, rfl⟩
      obtain ⟨l2, hl2⟩ : ∃ l2, l2 = (ac n s (fun i => D (p + i)) k + n * s k + D (p + k)) % 18446744073709551616 := ⟨_, rfl⟩
      have E1 : Hid (Value.int IntKind.u64 h2 = .int .u64 (ac n s (fun i => D (p + i)) (k + 1))) := by show _ = _; rw [hh2]
      rw [← hl2] at hst
      obtain ⟨ys, hys⟩ : ∃ ys, ys = c8 (at8 p n s D k) := ⟨_, rfl⟩
      rw [← hys] at hst cy0 hB yl
      have hst' := hide hst
      generalize ac n s (fun i => D (p + i)) k = c0 at *
      have AP0 := fun W => addProduct0 W c0 n (s k) ck hn sk
      have AA0 := fun W => wideAdd_any W ((c0 + n * s k) / 18446744073709551616) ((c0 + n * s k) % 18446744073709551616) (D (p + k)) (by omega) (by omega) dk (by omega)
      have x1 : ((c0 + n * s k) / 18446744073709551616 * 18446744073709551616 + (c0 + n * s k) % 18446744073709551616 + D (p + k)) = c0 + n * s k + D (p + k) := by omega
      simp only [x1] at AA0
      rw [← e1, ← hh2, ← hl2] at AA0
      have cy : ∀ W, Below wr.heap.size wr W → W.cell? ⟨w.heap.size, p + k, none⟩ = some (.int .u64 (D (p + k))) := fun W n => by rw [(hB.up n).cell (by omega), cy0]
      generalize (c0 + n * s k) / 18446744073709551616 = hi at *
      generalize (c0 + n * s k) % 18446744073709551616 = lo at *
      generalize s k = sv at *
      generalize D (p + k) = dv at *
      have CY := hide cy
      have AP : Hid (∀ W, Below wr.heap.size wr W → Calls Tryd.prog 119 #[.agg #[.int .u64 0, .int .u64 c0], .int .u64 n, .int .u64 sv] W fun r w' => r = .returned (.agg #[.int .u64 hi, .int .u64 lo]) ∧ Below wr.heap.size wr w' ∧ Below W.heap.size W w') := by
        intro W n
        refine (AP0 W).mono ?_
        rintro r w' ⟨rfl, n'⟩
        exact ⟨rfl, nxt n n', n'⟩
      have AA : Hid (∀ W, Below wr.heap.size wr W → Calls Tryd.prog 125 #[.agg #[.int .u64 hi, .int .u64 lo], .int .u64 dv] W fun r w' => r = .returned (.agg #[.int .u64 h2, .int .u64 l2]) ∧ Below wr.heap.size wr w' ∧ Below W.heap.size W w') := by
        intro W n
        refine (AA0 W).mono ?_
        rintro r w' ⟨rfl, n'⟩
        exact ⟨rfl, nxt n n', n'⟩
      have k2 : (k : Int) < 4 := by omega
      have kk : IntKind.i64.wrap ((p : Int) + (k : Int)) = (p : Int) + (k : Int) := by rw [IntKind.wrap_i64]; omega
      have kl : (p : Int) + (k : Int) < 8 := by omega
      have k0 : (0 : Int) ≤ (p : Int) + (k : Int) := by omega
      have kt : ((p : Int) + (k : Int)).toNat = p + k := by omega
      have nd : Below wr.heap.size wr wr.drew := (Below.refl _ _).drew
      clear AP0 AA0 e1 hst x1 hh2 hl2 ml cy cy0
      go_upto_region 5 with fail
      go_cut [12] from 15 to 37 (fun v wc => InBox wr h2 l2 v wc)
      case first =>
        go_region_held3 (fun W => W.cell? ⟨w.heap.size, p + k, none⟩ = some (.int .u64 dv))
          (first | exact (unhide CY) _ nd | exact (unhide CY) _ (bA nd _) | exact (unhide CY) _ ns | exact (unhide CY) _ (bA ns _) | exact (unhide CY) _ nm | exact (unhide CY) _ (bA nm _) | exact (unhide CY) _ (nm.setCell hq _) | exact (unhide CY) _ ((nm.setCell hq _).setCell hq _))
          (first
            | (go_at_call 119; refine ((unhide AP) _ (by first | exact nd | exact bA nd _)).mono ?_; rintro r ws ⟨rfl, ns, ns'⟩; (try (have Z1 : Blk ws wr.heap.size .u64 [0, 0] := upb' ns' (blk_box2 _ _ _ 0 0))))
            | (go_at_call 125; refine ((unhide AA) _ (by first | exact ns | exact bA ns _)).mono ?_; rintro r wm ⟨rfl, nm, nm'⟩; (try first | (have Z2 : Blk wm wr.heap.size .u64 [0, 0] := upb' nm' Z1; (have hq : wr.heap.size ≤ wr.heap.size := Nat.le_refl _); obtain ⟨⟨z0, z1⟩, ⟨f0, f1⟩⟩ := Z2.f2) | (have Z2 : Blk wm ws.heap.size .u64 [0, 0] := upb' nm' (blk_box2 _ _ _ 0 0); (have hq : wr.heap.size ≤ ws.heap.size := ns.size); obtain ⟨⟨z0, z1⟩, ⟨f0, f1⟩⟩ := Z2.f2))))
        all_goals
          go_wp2_with fail
          go_meet
          first
            | (with_reducible refine inBox1 nm h2 l2)
            | (with_reducible refine inBox2 nm h2 l2 Z2 hq)
      case rest =>
        obtain ⟨q, rfl, hq, Bq, nc⟩ := hcut
        have hBc := hB.up nc
        have hRc := hR.up nc
        have hNc := nxt hN nc
        have hlt' := hB.lt
        obtain ⟨⟨z0, z1⟩, _⟩ := Bq.f2
        have cy := (unhide CY) wc nc
        have fy := hBc.free (p + k)
        have S0 := hBc.store (p + k) l2
        rw [hst'.out] at S0
        have S1 := hRc.of_block (w' := wc.setCell ⟨w.heap.size, p + k, none⟩ (.int .u64 l2)) (heap_setCell_other _ ⟨w.heap.size, p + k, none⟩ _ _ (by show w.heap.size + 1 + 1 ≠ w.heap.size; omega))
        have S2 : Below w.heap.size w (wc.setCell ⟨w.heap.size, p + k, none⟩ (.int .u64 l2)) := hNc.setCell (Nat.le_refl _) _
        clear hBc hRc hNc hB hR hN Bq nc AP AA CY nd hst'
        go_wp2
        go_region
        go_wp2
        go_roundw
        case rel => exact ⟨k + 1, by omega, by go_num, E1.out, S0.drew, S1.drew, S2.drew⟩
        case measure => simp [intOf]; omega
    · obtain rfl : k = 4 := by omega
      have d4 := hD (p + 4) (by omega)
      have c4b := hac 4 (by omega)
      have cy : wr.cell? ⟨w.heap.size, p + 4, none⟩ = some (.int .u64 (D (p + 4))) := by rw [hB.cell (by rw [c8_len]; omega), c8_get _ _ (by omega), at8_at _ _ _ _ _ _ (Nat.le_refl _)]
      have fy := hB.free (p + 4)
      have S0 := hB.store (p + 4) (D (p + 4) + ac n s (fun i => D (p + i)) 4)
      rw [c8_set (at8 p n s D 4) (adT p n s D) (p + 4) _ (by omega) (fun j hj => by unfold adT; by_cases e : j = p + 4 <;> simp [e])] at S0
      have S1 := hR.of_block (w' := wr.setCell ⟨w.heap.size, p + 4, none⟩ (.int .u64 (D (p + 4) + ac n s (fun i => D (p + i)) 4))) (heap_setCell_other _ ⟨w.heap.size, p + 4, none⟩ _ _ (by show w.heap.size + 1 + 1 ≠ w.heap.size; omega))
      have S2 : Below w.heap.size w (wr.setCell ⟨w.heap.size, p + 4, none⟩ (.int .u64 (D (p + 4) + ac n s (fun i => D (p + i)) 4))) := hN.setCell (Nat.le_refl _) _
      have kk : IntKind.i64.wrap ((p : Int) + 4) = (p : Int) + 4 := by rw [IntKind.wrap_i64]; omega
      have kl : (p : Int) + 4 < 8 := by omega
      have k0 : (0 : Int) ≤ (p : Int) + 4 := by omega
      have kt : ((p : Int) + 4).toNat = p + 4 := by omega
      obtain ⟨f, hf⟩ : ∃ f, f = adT p n s D := ⟨_, rfl⟩
      have HF : Hid (f = adT p n s D) := hf
      rw [← hf] at S0
      clear hf
      generalize ac n s (fun i => D (p + i)) 4 = c at *
      generalize D (p + 4) = dv at *
      have ww : IntKind.u64.wrap (dv + c) = dv + c := by rw [IntKind.wrap_u64]; omega
      obtain ⟨⟨p0, p1, p2, p3, p4, p5, p6, p7⟩, _⟩ := S0.f8
      obtain ⟨⟨r0, r1, r2, r3, r4, r5, r6, r7⟩, ⟨g0, g1, g2, g3, g4, g5, g6, g7⟩⟩ := S1.f8
      clear hB hR hN S0 S1 hac
      go_wp2
      refine bodyPost_ret (v := ag8 f) (by simp [ag8, results, Tryd.results95, go_sem, r0, r1, r2, r3, r4, r5, r6, r7]) rfl ⟨by rw [HF.out]; rfl, ?_⟩
      exact below_set8 S2 (by omega) _ _ _ _ _ _ _ _
end Go.Proofs.YtbhmhkimddjhaaaDoor
