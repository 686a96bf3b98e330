
/-
  Bytes as hexadecimal digits: what EncodeHex answers, both sides.
-/
import Derived.Test.YtpbniihhpfbamaaDoorDrL
import Derived.Test.YtpbniihhpfbamaaDoorApd
import Derived.Test.YtpbniihhpfbamaaDoorSm8
import Derived.Test.YtpbniihhpfbamaaDoorLbN
import Derived.Deep.RegionHeld3
import Derived.Deep.Cut
namespace Go.Proofs.YtpbniihhpfbamaaDoor
set_option maxRecDepth 100000
open Go Go.RowKit

/-- The digits. -/
def hxS : List UInt8 := [48, 49, 50, 51, 52, 53, 54, 55, 56, 57, 97, 98, 99, 100, 101, 102]
def hxB (x : Int) : Int := ((hxS.getD x.toNat 0).toNat : Int)
def hx2 (x : Int) : List Int := [hxB (x / 16), hxB (x % 16)]
def heL (xs : List Int) : List Int := (xs.map hx2).flatten
/-- What EncodeHex answers. -/
def ehF (xs : List Int) : ByteArray := if xs = [] then ⟨#[45]⟩ else str (heL xs)
theorem heL_len (xs : List Int) : (heL xs).length = 2 * xs.length := by
  unfold heL
  induction xs with
  | nil => rfl
  | cons x l ih => simp [hx2] at ih ⊢; omega
theorem heL_app (a b : List Int) : heL (a ++ b) = heL a ++ heL b := by simp [heL]
theorem heL_succ (xs : List Int) (k : Nat) (hk : k < xs.length) : heL (xs.take (k + 1)) = heL (xs.take k) ++ hx2 (xs.getD k 0) := by
  have e : xs.take (k + 1) = xs.take k ++ [xs.getD k 0] := by
    rw [List.take_add_one, List.getElem?_eq_getElem hk]
    simp [List.getD, List.getElem?_eq_getElem hk]
  rw [e, heL_app]
  simp [heL]
theorem run_hx (w : World) (x : Int) (h0 : 0 ≤ x) (h1 : x < 16) : (Instr.index 9 (.string (ByteArray.mk #[48, 49, 50, 51, 52, 53, 54, 55, 56, 57, 97, 98, 99, 100, 101, 102])) (.int .u8 x)).run Tryd.prog w = .ok (.int .u8 (hxB x)) w := by
  have hi : 0 ≤ x ∧ x < ((ByteArray.mk #[48, 49, 50, 51, 52, 53, 54, 55, 56, 57, 97, 98, 99, 100, 101, 102]).size : Int) := ⟨h0, h1⟩
  rw [run_index_string w 9 _ .u8 x Tryd.underlying9, dif_pos hi]
  have := tx_at hxS x.toNat (by show x.toNat < 16; omega)
  unfold hxB
  rw [← this]
  rfl
theorem blk_lit2 (w : World) (k : IntKind) (e : TypeId) (x y : Int) : Blk (w.alloc (.cells #[.int k x, .int k y] e)) w.heap.size k [x, y] := by
  refine ⟨e, ?_⟩
  show (w.heap.push _)[w.heap.size]? = _
  simp
theorem step_append_exX {P : Program} {ops : Array Oper} {o : Oper} {a : Act} {w : World} {K : Act → World → Prop} {Q : Exit → Act → World → Prop} {E : Prop} (hg : o.guard = none) (s x : Operand) (t tn : TypeId)
    (ho : o.op = .call { callee := .builtin .append, args := #[s, x], argTypes := #[t, tn] }) (vs vx : Value) (hs : a.eval s = vs) (hx : a.eval x = vx) (R : Value → World → Prop)
    (H : ∃ v' w', (Builtin.append_ #[t, tn] o.type #[vs, vx]).run P w = .ok v' w' ∧ R v' w') (hK : ∀ v' w', R v' w' → K (a.put o.dst v') w') :
    if Region.wanted o (yielded ops a.tmps) = true then Oper.wp P o a w K Q else E := by
  have hw : Region.wanted o (yielded ops a.tmps) = true := by simp [Region.wanted, hg]
  rw [if_pos hw]
  obtain ⟨v', w', hr, hR⟩ := H
  exact Lib.wp_append_run w s x t tn ho vs vx hs hx v' w' hr (hK v' w' hR)

set_option maxRecDepth 100000 in
set_option maxHeartbeats 4000000 in
theorem implEncodeHex_any (w : World) (g : Nat) (a : Option Addr) (c : Nat) (xs : List Int) (hr : Rd w g a .u8 xs) (hb : Byt xs) (hl : xs.length ≤ 1048576) :
    Calls Tryd.prog 61 #[.slice a xs.length c] w fun e w' => e = .returned (.string (ehF xs)) ∧ Below w.heap.size w w' := by
  obtain ⟨i0, hi, hz0, hz1, hz2⟩ := info_parts Tryd.info5
  by_cases h0 : xs.length = 0
  · obtain rfl := List.eq_nil_of_length_eq_zero h0
    have E : Hid (ehF [] = ⟨#[45]⟩) := rfl
    rw [E.out]
    simp only [List.length_nil]
    go_enter Tryd.func61, Tryd.ntmps61
    go_wp2
    go_ret
    exact ⟨rfl, Below.refl _ _⟩
  have E : Hid (ehF xs = str (heL xs)) := by show _ = _; unfold ehF; rw [if_neg (by intro h; rw [h] at h0; exact h0 rfl)]
  rw [E.out]
  clear E
  obtain ⟨off, rfl, hc⟩ := hr (by omega)
  have gl := hr.lt (by omega)
  have HT := fun k hk => hide (heL_succ xs k hk)
  have HL := fun k => hide (heL_len (xs.take k))
  have CV := fun W v c' g' h => hide (conv_run W g' v c' (heL xs) h)
  obtain ⟨n, hn⟩ : ∃ n, n = xs.length := ⟨_, rfl⟩
  have HN := hide hn
  rw [← hn] at h0 hl hc ⊢
  have t0 : decide ((n : Int) = 0) = false := by simp; omega
  have t0' : ((n : Int) == 0) = false := by simp; omega
  have n2 : (n : Int) * 2 = ((2 * n : Nat) : Int) := by omega
  have n3 : ((2 * n : Nat) : Int) ≤ 2097152 := by omega
  clear hn
  go_enter Tryd.func61, Tryd.ntmps61
  go_wp2_with (at_make; refine wpList_make_own _ rfl _ _ 23 rfl w.heap.size 5 i0 (.int .u8 0) 1 Tryd.underlying23 hi hz0 hz1 .i64 .i64 _ (2 * n) rfl rfl (by simp) (by rw [hz2]; omega) (by unfold maxLen; omega) (Nat.le_refl _) ?_; intro w5 hown hgrow)
  have R0 : RowB w5 w.heap.size (.slice (some ⟨w.heap.size, 0, none⟩) 0 (2 * n)) (heL (xs.take 0)) := hown
  have N0 : Below w.heap.size w w5 := (Below.refl _ _).grown hgrow (Nat.le_refl _) (by simp)
  clear hown hgrow
  go_loopw [3, 5, 15] (fun v _ i wr => ∃ (k : Nat), k ≤ n ∧ i = .int .i64 k ∧ RowB wr w.heap.size v (heL (xs.take k)) ∧ Below w.heap.size w wr) (fun _ _ i _ => n - (intOf i).toNat)
  case atStart => exact ⟨0, Nat.zero_le _, rfl, R0, N0⟩
  case round =>
    obtain ⟨k, hk, rfl, R, N⟩ := hrel
    by_cases hlt : k < n
    · have cx : wr.cell? ⟨g, off + k, none⟩ = some (.int .u8 (xs.getD k 0)) := (World.cell?_of_block (a := ⟨g, off + k, none⟩) (N.block g gl)).trans (hc k hlt)
      have B0 := hb k
      have ht := HT k (by rw [← HN.out]; exact hlt)
      have hll := (HL k).out
      rw [List.length_take] at hll
      obtain ⟨x, hx⟩ : ∃ x, x = xs.getD k 0 := ⟨_, rfl⟩
      rw [← hx] at cx B0 ht
      clear hx HT HL
      have iI : (k : Int) < (n : Int) := by omega
      obtain ⟨y, hy⟩ : ∃ y, y = x / 16 := ⟨_, rfl⟩
      obtain ⟨z, hz⟩ : ∃ z, z = x % 16 := ⟨_, rfl⟩
      have y0 : 0 ≤ y ∧ y < 16 := by omega
      have z0 : 0 ≤ z ∧ z < 16 := by omega
      have I1 := fun W => run_hx W y y0.1 y0.2
      have I2 := fun W => run_hx W z z0.1 z0.2
      have T2 : Hid (hx2 x = [hxB y, hxB z]) := by show _ = _; rw [hx2, ← hy, ← hz]
      have q1 : Int.tdiv x 16 = y := by rw [hy]; exact Int.tdiv_eq_ediv_of_nonneg (by omega)
      have q2 : Int.tmod x 16 = z := by rw [hz]; exact Int.tmod_eq_emod_of_nonneg (by omega)
      have q3 : IntKind.u8.wrap y = y := by rw [IntKind.wrap_u8]; omega
      have q4 : IntKind.u8.wrap z = z := by rw [IntKind.wrap_u8]; omega
      replace hy := hy.symm
      replace hz := hz.symm
      have zs := N.size
      have A0 : Hid (∃ v' w7, (Builtin.append_ #[23, 23] 23 #[u3, .slice (some ⟨wr.heap.size, 0, none⟩) 2 2]).run Tryd.prog (wr.drew.alloc (.cells #[.int .u8 (hxB y), .int .u8 (hxB z)] 5)) = .ok v' w7 ∧ RowB w7 w.heap.size v' (heL (xs.take (k + 1))) ∧ Below w.heap.size w w7) := by
        have n6 : Below wr.heap.size wr (wr.drew.alloc (.cells #[.int .u8 (hxB y), .int .u8 (hxB z)] 5)) := ((Below.refl _ _).drew).alloc (Nat.le_refl _) _
        have B6 : Blk (wr.drew.alloc (.cells #[.int .u8 (hxB y), .int .u8 (hxB z)] 5)) wr.heap.size .u8 [hxB y, hxB z] := blk_lit2 wr.drew .u8 5 _ _
        obtain ⟨v', w7, hap, o7, m7⟩ := append_any (P := Tryd.prog) _ 23 i0 Tryd.underlying23 hi hz0 hz1 hz2 w.heap.size w.heap.size _ _ (R.up n6) wr.heap.size _ 2 [hxB y, hxB z] B6.own0.rd (by simp) (by simp; omega) (Nat.le_refl _) (by have := n6.size; omega)
        refine ⟨v', w7, hap, by rw [ht.out, T2.out]; exact o7, (N.trans (n6.mono zs)).trans m7⟩
      clear R N0 ht T2 R0
      generalize hxB y = p at *
      generalize hxB z = q at *
      go_upto_region 7 with fail
      go_region_held3 (fun _ => True) (exact trivial)
        (first | (refine step_append_exX rfl (.tmp 19) (.tmp 26) 23 23 rfl _ (.slice (some ⟨wr.heap.size, 0, none⟩) 2 2) rfl rfl _ A0.out ?_; rintro v' w7 ⟨o7, N7⟩) | fail)
      all_goals (try clear A0)
      all_goals go_wp2
      all_goals first
        | exact ⟨⟨k + 1, by omega, by go_num, o7, N7⟩, by simp [intOf]; omega⟩
        | (go_roundw
           all_goals first
             | exact ⟨k + 1, by omega, by go_num, o7, N7⟩
             | (simp [intOf]; omega))
    · obtain rfl : k = n := by omega
      have R' : RowB wr w.heap.size u3 (heL xs) := by rw [HN.out, List.take_of_length_le (Nat.le_refl _)] at R; exact R
      obtain ⟨a1, c1, g1, rfl, o1, p1, q1, r1⟩ := R'.own
      have cv := (CV wr a1 c1 g1 o1.rd).out
      go_wp2
      go_ret
      exact ⟨rfl, N⟩
set_option maxRecDepth 100000 in
set_option maxHeartbeats 4000000 in
theorem specEncodeHex_any (w : World) (g : Nat) (a : Option Addr) (c : Nat) (xs : List Int) (hr : Rd w g a .u8 xs) (hb : Byt xs) (hl : xs.length ≤ 1048576) :
    Calls Tryd.prog 15 #[.slice a xs.length c] w fun e w' => e = .returned (.string (ehF xs)) ∧ Below w.heap.size w w' := by
  obtain ⟨i0, hi, hz0, hz1, hz2⟩ := info_parts Tryd.info5
  by_cases h0 : xs.length = 0
  · obtain rfl := List.eq_nil_of_length_eq_zero h0
    have E : Hid (ehF [] = ⟨#[45]⟩) := rfl
    rw [E.out]
    simp only [List.length_nil]
    go_enter Tryd.func15, Tryd.ntmps15
    go_wp2
    go_ret
    exact ⟨rfl, Below.refl _ _⟩
  have E : Hid (ehF xs = str (heL xs)) := by show _ = _; unfold ehF; rw [if_neg (by intro h; rw [h] at h0; exact h0 rfl)]
  rw [E.out]
  clear E
  obtain ⟨off, rfl, hc⟩ := hr (by omega)
  have gl := hr.lt (by omega)
  have HT := fun k hk => hide (heL_succ xs k hk)
  have HL := fun k => hide (heL_len (xs.take k))
  have CV := fun W v c' g' h => hide (conv_run W g' v c' (heL xs) h)
  obtain ⟨n, hn⟩ : ∃ n, n = xs.length := ⟨_, rfl⟩
  have HN := hide hn
  rw [← hn] at h0 hl hc ⊢
  have t0 : decide ((n : Int) = 0) = false := by simp; omega
  have t0' : ((n : Int) == 0) = false := by simp; omega
  clear hn
  have hal : Below w.heap.size w (w.alloc (.cells #[] 5)) := (Below.refl _ _).alloc (Nat.le_refl _) _
  go_enter Tryd.func15, Tryd.ntmps15
  go_wp2
  go_loopw [3, 4] (fun v i wr => ∃ (k : Nat), k ≤ n ∧ i = .int .i64 k ∧ RowB wr w.heap.size v (heL (xs.take k)) ∧ Below w.heap.size w wr) (fun _ i _ => n - (intOf i).toNat)
  case atStart => exact ⟨0, Nat.zero_le _, rfl, RowB.lit0 w, hal⟩
  case round =>
    obtain ⟨k, hk, rfl, R, N⟩ := hrel
    by_cases hlt : k < n
    · have CX : ∀ W, Below w.heap.size w W → W.cell? ⟨g, off + k, none⟩ = some (.int .u8 (xs.getD k 0)) := fun W h => (World.cell?_of_block (a := ⟨g, off + k, none⟩) (h.block g gl)).trans (hc k hlt)
      have B0 := hb k
      have ht := HT k (by rw [← HN.out]; exact hlt)
      have hll := (HL k).out
      rw [List.length_take] at hll
      obtain ⟨x, hx⟩ : ∃ x, x = xs.getD k 0 := ⟨_, rfl⟩
      rw [← hx] at CX B0 ht
      clear hx HT HL
      have cx := CX wr N
      have iI : (k : Int) < (n : Int) := by omega
      obtain ⟨y, hy⟩ : ∃ y, y = x / 16 := ⟨_, rfl⟩
      obtain ⟨z, hz⟩ : ∃ z, z = x % 16 := ⟨_, rfl⟩
      have y0 : 0 ≤ y ∧ y < 16 := by omega
      have z0 : 0 ≤ z ∧ z < 16 := by omega
      have I1 := fun W => run_hx W y y0.1 y0.2
      have I2 := fun W => run_hx W z z0.1 z0.2
      have T2 : Hid (hx2 x = [hxB y, hxB z]) := by show _ = _; rw [hx2, ← hy, ← hz]
      have q1 : Int.tdiv x 16 = y := by rw [hy]; exact Int.tdiv_eq_ediv_of_nonneg (by omega)
      have q2 : Int.tmod x 16 = z := by rw [hz]; exact Int.tmod_eq_emod_of_nonneg (by omega)
      have q3 : IntKind.u8.wrap y = y := by rw [IntKind.wrap_u8]; omega
      have q4 : IntKind.u8.wrap z = z := by rw [IntKind.wrap_u8]; omega
      replace hy := hy.symm
      replace hz := hz.symm
      have zs := N.size
      have A0 : Hid (∃ v' w7, (Builtin.append_ #[23, 23] 23 #[u3, .slice (some ⟨wr.heap.size, 0, none⟩) 2 2]).run Tryd.prog (wr.drew.alloc (.cells #[.int .u8 (hxB y), .int .u8 (hxB z)] 5)) = .ok v' w7 ∧ RowB w7 w.heap.size v' (heL (xs.take (k + 1))) ∧ Below w.heap.size w w7 ∧ w7.cell? ⟨g, off + k, none⟩ = some (.int .u8 x)) := by
        have n6 : Below wr.heap.size wr (wr.drew.alloc (.cells #[.int .u8 (hxB y), .int .u8 (hxB z)] 5)) := ((Below.refl _ _).drew).alloc (Nat.le_refl _) _
        have B6 : Blk (wr.drew.alloc (.cells #[.int .u8 (hxB y), .int .u8 (hxB z)] 5)) wr.heap.size .u8 [hxB y, hxB z] := blk_lit2 wr.drew .u8 5 _ _
        obtain ⟨v', w7, hap, o7, m7⟩ := append_any (P := Tryd.prog) _ 23 i0 Tryd.underlying23 hi hz0 hz1 hz2 w.heap.size w.heap.size _ _ (R.up n6) wr.heap.size _ 2 [hxB y, hxB z] B6.own0.rd (by simp) (by simp; omega) (Nat.le_refl _) (by have := n6.size; omega)
        have N7 := (N.trans (n6.mono zs)).trans m7
        refine ⟨v', w7, hap, by rw [ht.out, T2.out]; exact o7, N7, CX _ N7⟩
      clear R ht T2 CX
      generalize hxB y = p at *
      generalize hxB z = q at *
      go_upto_region 7 with fail
      go_region_held3 (fun W => W.cell? ⟨g, off + k, none⟩ = some (.int .u8 x)) (first | go_keep | exact S7)
        (first | (refine step_append_exX rfl (.tmp 15) (.tmp 28) 23 23 rfl _ (.slice (some ⟨wr.heap.size, 0, none⟩) 2 2) rfl rfl _ A0.out ?_; rintro v' w7 ⟨o7, N7, S7⟩) | fail)
      all_goals (try clear A0)
      all_goals go_wp2
      all_goals first
        | exact ⟨⟨k + 1, by omega, by go_num, o7, N7⟩, by simp [intOf]; omega⟩
        | (go_roundw
           all_goals first
             | exact ⟨k + 1, by omega, by go_num, o7, N7⟩
             | (simp [intOf]; omega))
    · obtain rfl : k = n := by omega
      have R' : RowB wr w.heap.size u3 (heL xs) := by rw [HN.out, List.take_of_length_le (Nat.le_refl _)] at R; exact R
      obtain ⟨a1, c1, g1, rfl, o1, p1, q1, r1⟩ := R'.own
      have cv := (CV wr a1 c1 g1 o1.rd).out
      go_wp2
      go_ret
      exact ⟨rfl, N⟩
end Go.Proofs.YtpbniihhpfbamaaDoor
