
/-
  The model's Pieces.
-/
import Derived.Test.YtickbedbdpccpaaPcA
import Derived.Test.YtickbedbdpccpaaNbS
namespace Go.Proofs.Ytickbedbdpccpaa
open Go Go.RowKit

def pce (xs : List Int) (k : Nat) : List Int := (xs.drop (2048 * k)).take 2048
def pces (xs : List Int) (n : Nat) : List (List Int) := (List.range n).map (pce xs)
theorem pces_snoc (xs : List Int) (n : Nat) : pces xs (n + 1) = pces xs n ++ [pce xs n] := by simp [pces, List.range_succ]
theorem pces_len (xs : List Int) (n : Nat) : (pces xs n).length = n := by simp [pces]
theorem pce_len (xs : List Int) (k : Nat) : (pce xs k).length = min 2048 (xs.length - 2048 * k) := by simp [pce]
def pcN (xs : List Int) : Nat := (xs.length + 2047) / 2048
/-- A row of the pieces, made by the call. -/
def NewB (B : Nat) (w' : World) (e : Ending) (xs : List Int) : Prop := ∃ v bs, e = .returned v ∧ BRow w' B v (pces xs (pcN xs)) bs
theorem BRow.lit0 (w : World) : BRow (w.alloc (.cells #[] 38)) w.heap.size (.slice (some ⟨w.heap.size, 0, none⟩) 0 0) [] [] :=
  ⟨⟨rfl, .inr ⟨w.heap.size, 0, #[], rfl, Nat.le_refl _, heap_alloc_new w _, Nat.le_refl _, by unfold maxLen; omega, rfl, rfl⟩⟩, rfl, fun i h => absurd h (by simp), fun i h => absurd h (by simp), fun i j h => absurd h (by simp)⟩
theorem rd_pce {w : World} {g o : Nat} {xs : List Int} (h : Rd w g (some ⟨g, o, none⟩) .u8 xs) (k : Nat) : Rd w g (some ⟨g, o + 2048 * k, none⟩) .u8 (pce xs k) := by
  intro h0
  rw [pce_len] at h0
  obtain ⟨o', e, hc⟩ := h (by omega)
  simp only [Option.some.injEq, Addr.mk.injEq, true_and, and_true] at e
  subst e
  refine ⟨o + 2048 * k, rfl, fun i hi => ?_⟩
  rw [pce_len] at hi
  rw [Nat.add_assoc, hc (2048 * k + i) (by omega), pce, List.getD_eq_getElem?_getD, List.getD_eq_getElem?_getD, List.getElem?_take, if_pos (by omega), List.getElem?_drop]
/-- Where a loop over the pieces stands: the row of those told, and what the next one leaves. -/
theorem piece_app {w wr w9 : World} {xs : List Int} {k : Nat} {bs : List Plc} {v : Value} {ad : Option Addr} {cd n : Nat} (R : BRow wr w.heap.size v (pces xs k) bs) (N : Below w.heap.size w wr) (hk : k ≤ 1000) (b9 : Below wr.heap.size wr w9) (hn : (pce xs k).length = n) (hR : RowB w9 wr.heap.size (.slice ad n cd) (pce xs k)) :
    ∃ v' w4, (Builtin.append_ #[28, 28] 28 #[v, .slice (some ⟨w9.heap.size, 0, none⟩) 1 1]).run Try.prog (w9.alloc (.cells #[.slice ad n cd] 38)) = .ok v' w4 ∧ ∃ bs', BRow w4 w.heap.size v' (pces xs (k + 1)) bs' ∧ Below w.heap.size w w4 := by
  subst hn
  obtain ⟨a, c, gd, ev', O1, O2, O3, O4⟩ := hR.own
  simp only [Value.slice.injEq, true_and] at ev'
  obtain ⟨rfl, rfl⟩ := ev'
  have z9 := b9.size
  have zN := N.size
  have R9 := R.of (w' := w9) (fun i hi _ => b9.block i hi)
  obtain ⟨v', w4, r1, r2, r3, r4, -⟩ := R9.app (pce xs k) ⟨ad, cd, gd⟩ (by omega) ⟨O1, O2, O3⟩ wr.heap.size (by omega) (fun i hi h0 => R.lt hi h0) (fun i hi => (R.o.lt i hi).2) O4 (by rw [pces_len]; omega)
  rw [← pces_snoc] at r2
  exact ⟨v', w4, r1, _, r2, (nxt N b9).trans r4⟩
set_option maxHeartbeats 4000000 in
theorem specPieces_any (w : World) (g off c : Nat) (xs : List Int) (hr : Rd w g (some ⟨g, off, none⟩) .u8 xs) (hc : xs.length ≤ c) (hn : xs.length ≤ 1048576) :
    Calls Try.prog 12 #[.slice (some ⟨g, off, none⟩) xs.length c] w fun e w' => NewB w.heap.size w' e xs ∧ Below w.heap.size w w' := by
  have n0 : Below w.heap.size w (w.alloc (.cells #[] 38)) := (Below.refl _ _).alloc (Nat.le_refl _) _
  have R0 := hide (BRow.lit0 w)
  have HR := hide hr
  have HC := hide hc
  clear hr hc
  go_enter Try.func12, Try.ntmps12
  go_upto_region 3 with fail
  generalize w.alloc (.cells #[] 38) = W0 at *
  go_loopw [3, 4, 5] (fun v i _ wr => ∃ (k A : Nat) (bs : List Plc) (u : Value), u = v ∧ i = .int .i64 (A : Int) ∧ Hid (A = 2048 * k) ∧ A < xs.length + 2048 ∧ Hid (BRow wr w.heap.size u (pces xs k) bs ∧ Below w.heap.size w wr)) (fun _ i _ _ => xs.length + 2048 - (intOf i).toNat)
  case atStart => exact ⟨0, 0, [], _, rfl, rfl, rfl, by omega, R0.out, n0⟩
  case round =>
    clear R0 n0
    obtain ⟨k, A, bs, v, rfl, rfl, hA, hlt, S⟩ := hrel
    obtain ⟨ra, rc, ev, -⟩ := S.out.1.slice
    rw [pces_len] at ev
    subst ev
    by_cases h1 : A < xs.length
    · have t0 : decide ((A : Int) < (xs.length : Int)) = true := by simp; omega
      have k9 : k ≤ 1000 := by have := hA.out; omega
      by_cases h2 : A + 2048 ≤ xs.length
      · have t1 : decide ((xs.length : Int) < (A : Int) + 2048) = false := by simp; omega
        have t2 : decide (xs.length < A + 2048) = false := by simp; omega
        have i2 : (A : Int) ≤ 1048576 := by omega
        go_upto_region 8 with fail
        obtain ⟨E, hE⟩ : ∃ E : Nat, E = 2048 := ⟨_, rfl⟩
        rw [show (2048 : Int) = (E : Int) by rw [hE]; rfl]
        clear t1 t2 t0
        have i1 : (A : Int) + (E : Int) ≤ (c : Int) := by have := HC.out; omega
        have i2 : (A : Int) ≤ 1048576 := by omega
        have i7 : (E : Int) ≤ 2048 := by omega
        have i3 : (A : Int) ≤ (A : Int) + (E : Int) := by omega
        have i4 : ¬ c = A := by have := HC.out; omega
        have i5 : (0 : Int) ≤ (A : Int) + (E : Int) := by omega
        have i6 : ((A : Int) + (E : Int)).toNat - A = E := by omega
        have PL : Hid ((pce xs k).length = E) := by show _ = _; rw [pce_len]; have := hA.out; omega
        have CL := hide (l1CopyN_any wr g (some ⟨g, off + A, none⟩) (c - A) (pce xs k) (by rw [hA.out]; exact (rd_pce HR.out k).up S.out.2) (by simp) (by rw [PL.out]; omega))
        rw [PL.out] at CL
        have AP := hide fun w9 ad cd b9 hR => piece_app (w := w) (w9 := w9) (ad := ad) (cd := cd) S.out.1 S.out.2 k9 b9 PL.out hR
        have h1' := hide h1
        clear h1 h2 hE hlt
        go_wp2_with fail
        refine CL.out.mono ?_
        rintro e w9 ⟨vr, rfl, R9, b9⟩
        obtain ⟨av, cv, gv, ev, -⟩ := R9.own
        rw [PL.out] at ev
        subst ev
        obtain ⟨v', w4, ap, bs', F4⟩ := AP.out w9 av cv b9 R9
        have F5 := hide F4
        obtain ⟨ra', rc', ev', -⟩ := F4.1.slice
        rw [pces_len] at ev'
        subst ev'
        clear F4 R9 b9 CL AP i1 i3 i4 i5 i6 PL S
        go_wp2_with (at_builtin; refine Lib.wpList_append_run _ rfl _ _ 28 28 rfl _ _ rfl rfl _ _ ap ?_)
        clear ap
        go_wp2
        go_roundw
        case rel => exact ⟨k + 1, A + 2048, bs', _, rfl, by go_num, by show _ = _; have := hA.out; omega, by have := h1'.out; omega, F5⟩
        case measure => have := h1'.out; simp [intOf]; omega
      · have t1 : decide ((xs.length : Int) < (A : Int) + 2048) = true := by simp; omega
        have t2 : decide (xs.length < A + 2048) = true := by simp; omega
        have i2 : (A : Int) ≤ 1048576 := by omega
        go_upto_region 8 with fail
        obtain ⟨E, hE⟩ : ∃ E : Nat, E = xs.length - A := ⟨_, rfl⟩
        rw [show (xs.length : Int) - (A : Int) = (E : Int) by rw [hE]; omega]
        clear t1 t2 t0
        have i1 : (A : Int) + (E : Int) ≤ (c : Int) := by have := HC.out; omega
        have i2 : (A : Int) ≤ 1048576 := by omega
        have i7 : (E : Int) ≤ 2048 := by omega
        have i3 : (A : Int) ≤ (A : Int) + (E : Int) := by omega
        have i4 : ¬ c = A := by have := HC.out; omega
        have i5 : (0 : Int) ≤ (A : Int) + (E : Int) := by omega
        have i6 : ((A : Int) + (E : Int)).toNat - A = E := by omega
        have PL : Hid ((pce xs k).length = E) := by show _ = _; rw [pce_len]; have := hA.out; omega
        have CL := hide (l1CopyN_any wr g (some ⟨g, off + A, none⟩) (c - A) (pce xs k) (by rw [hA.out]; exact (rd_pce HR.out k).up S.out.2) (by simp) (by rw [PL.out]; omega))
        rw [PL.out] at CL
        have AP := hide fun w9 ad cd b9 hR => piece_app (w := w) (w9 := w9) (ad := ad) (cd := cd) S.out.1 S.out.2 k9 b9 PL.out hR
        have h1' := hide h1
        clear h1 h2 hE hlt
        go_wp2_with fail
        refine CL.out.mono ?_
        rintro e w9 ⟨vr, rfl, R9, b9⟩
        obtain ⟨av, cv, gv, ev, -⟩ := R9.own
        rw [PL.out] at ev
        subst ev
        obtain ⟨v', w4, ap, bs', F4⟩ := AP.out w9 av cv b9 R9
        have F5 := hide F4
        obtain ⟨ra', rc', ev', -⟩ := F4.1.slice
        rw [pces_len] at ev'
        subst ev'
        clear F4 R9 b9 CL AP i1 i3 i4 i5 i6 PL S
        go_wp2_with (at_builtin; refine Lib.wpList_append_run _ rfl _ _ 28 28 rfl _ _ rfl rfl _ _ ap ?_)
        clear ap
        go_wp2
        go_roundw
        case rel => exact ⟨k + 1, A + 2048, bs', _, rfl, by go_num, by show _ = _; have := hA.out; omega, by have := h1'.out; omega, F5⟩
        case measure => have := h1'.out; simp [intOf]; omega
    · have t0 : decide ((A : Int) < (xs.length : Int)) = false := by simp; omega
      have kk : Hid (k = pcN xs) := by show _ = _; unfold pcN; have := hA.out; omega
      have S2 := hide S.out
      clear S
      go_wp2
      go_ret
      exact ⟨⟨_, bs, rfl, by rw [← kk.out]; exact S2.out.1⟩, S2.out.2⟩
end Go.Proofs.Ytickbedbdpccpaa
