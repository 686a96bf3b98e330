
/-
  The nonce of a record: the program's RecordNonce.
-/
import Derived.Test.YtickbedbdpccpaaNbA
import Derived.Test.YtickbedbdpccpaaRwP
namespace Go.Proofs.Ytickbedbdpccpaa
open Go Go.RowKit

/-- Two bytes laid over each other. -/
def xrB (a b : Int) : Int := bits BinOp.xor IntKind.u8 a b
/-- From place 4 on, j bytes with those of B laid over them. -/
def nzT (zs B : List Int) : Nat → List Int
  | 0 => zs
  | j + 1 => (nzT zs B j).set (4 + j) (xrB ((nzT zs B j).getD (4 + j) 0) (B.getD j 0))
theorem nzT_len (zs B : List Int) : ∀ j, (nzT zs B j).length = zs.length
  | 0 => rfl
  | j + 1 => by rw [nzT, List.length_set]; exact nzT_len zs B j
/-- The nonce. -/
def rnA (iv : List Int) (n : Int) : List Int := if iv.length = 12 ∧ 0 ≤ n ∧ n ≤ 4294967295 then nzT iv (bigL n 8) 8 else []
theorem rnA_len (iv : List Int) (n : Int) : (rnA iv n).length ≤ 12 := by
  unfold rnA
  split
  · next h => rw [nzT_len]; omega
  · simp
theorem ownBlock_lt {w : World} {base g cap : Nat} {n : Nat} {xs : List Int} (h : RowB w base (.slice (some ⟨g, 0, none⟩) n cap) xs) : g < w.heap.size := (World.ownsRow.lt h g rfl).2
set_option maxRecDepth 100000 in
set_option maxHeartbeats 4000000 in
theorem implNonce_any (w : World) (g : Nat) (a : Option Addr) (c : Nat) (iv : List Int) (hr : Rd w g a .u8 iv) (hc : a = none → c = 0) (n : Int) :
    Calls Try.prog 8 #[.slice a iv.length c, .int .i64 n] w fun e w' => ∃ v', e = .returned v' ∧ RowB w' w.heap.size v' (rnA iv n) ∧ Below w.heap.size w w' := by
  by_cases h12 : iv.length = 12
  · by_cases hn0 : n < 0
    · have q0 : rnA iv n = [] := by unfold rnA; rw [if_neg (by omega)]
      rw [q0, h12]
      clear h12 hr q0
      have q1 : decide (n < 0) = true := by simpa using hn0
      go_enter Try.func8, Try.ntmps8
      go_wp2
      go_ret
      exact ⟨_, rfl, RowB.nilN _ _, Below.refl _ _⟩
    · by_cases hn1 : 4294967295 < n
      · have q0 : rnA iv n = [] := by unfold rnA; rw [if_neg (by omega)]
        rw [q0, h12]
        clear h12 hr q0
        have q1 : decide (n < 0) = false := by simpa using hn0
        have q2 : decide (4294967295 < n) = true := by simpa using hn1
        go_enter Try.func8, Try.ntmps8
        go_wp2
        go_ret
        exact ⟨_, rfl, RowB.nilN _ _, Below.refl _ _⟩
      · have q0 : Hid (rnA iv n = nzT iv (bigL n 8) 8) := by show _ = _; unfold rnA; rw [if_pos (by omega)]
        have q1 : decide (n < 0) = false := by simpa using hn0
        have q2 : decide (4294967295 < n) = false := by simpa using hn1
        have CL := hide (cloneR_any w g a c iv hr hc (by omega))
        have AN := fun W => hide (appendNum_any W W.heap.size (.slice none 0 0) [] (RowB.nilN W _) (Nat.le_refl _) n 8 (by decide) (by simp))
        rw [h12] at CL ⊢
        have H12 := hide h12
        clear h12 hr hn0 hn1
        have BL : Hid ((bigL n 8).length = 8) := bigL_len n 8
        simp only [List.nil_append] at AN
        obtain ⟨B, hB⟩ : ∃ B, B = bigL n 8 := ⟨_, rfl⟩
        simp only [← hB] at AN BL q0
        clear hB
        go_enter Try.func8, Try.ntmps8
        go_wp2_with fail
        refine CL.out.mono ?_
        rintro e w1 ⟨v1, rfl, R1, n1⟩
        clear CL
        obtain ⟨g1, cap, rfl, hg1, hcap, -⟩ := R1.parts (by rw [H12.out]; decide)
        rw [H12.out] at R1 hcap ⊢
        have l1 := ownBlock_lt R1
        have AN1 := AN w1
        go_wp2_with fail
        refine AN1.out.mono ?_
        rintro e w2 ⟨v2, rfl, R2, n2⟩
        clear AN AN1
        obtain ⟨a2, c2, g2, rfl, D2, -, hc2, hg2⟩ := R2.rd
        obtain ⟨o2, rfl, D2c⟩ := D2 (by rw [BL.out]; decide)
        have D2l := D2.lt (by rw [BL.out]; decide)
        have CB : Hid (∀ k, k < 8 → w2.cell? ⟨g2, o2 + k, none⟩ = some (.int .u8 (B.getD k 0))) := fun k hk => D2c k (by rw [BL.out]; exact hk)
        rw [BL.out]
        have R1' := R1.up n2
        have N2 := nxt n1 n2
        clear R1 R2 D2 D2c n1 n2 BL
        go_wp2
        go_loopw [6, 7, 24] (fun _ _ i wr => ∃ k : Nat, k ≤ 8 ∧ i = .int .i64 k ∧ RowB wr w.heap.size (.slice (some ⟨g1, 0, none⟩) 12 cap) (nzT iv B k) ∧ Hid (wr.heap[g2]? = w2.heap[g2]?) ∧ Below w.heap.size w wr) (fun _ _ i _ => 8 - (intOf i).toNat)
        case atStart => exact ⟨0, Nat.zero_le _, rfl, R1', rfl, N2⟩
        case round =>
          obtain ⟨k, hk, rfl, R, hbk, hN⟩ := hrel
          by_cases hlt : k < 8
          · have cb := (World.cell?_of_block (a := ⟨g2, o2 + k, none⟩) hbk.out).trans (CB.out k hlt)
            have hL : Hid ((nzT iv B k).length = 12) := by show _ = _; rw [nzT_len]; exact H12.out
            obtain ⟨g1', cap', e1, -, -, cz, fz, sz, -⟩ := R.parts (by rw [hL.out]; decide)
            simp only [Value.slice.injEq, Option.some.injEq, Addr.mk.injEq, and_true] at e1
            obtain ⟨e1, -, e2⟩ := e1
            subst e1 e2
            have cz1 := cz (4 + k) (by rw [hL.out]; omega)
            have fz1 := fz (4 + k)
            have R' := sz (4 + k) (xrB ((nzT iv B k).getD (4 + k) 0) (B.getD k 0)) (by rw [hL.out]; omega)
            have hR : RowB (wr.setCell ⟨g1, 4 + k, none⟩ (.int .u8 (xrB ((nzT iv B k).getD (4 + k) 0) (B.getD k 0)))) w.heap.size (.slice (some ⟨g1, 0, none⟩) 12 cap) (nzT iv B (k + 1)) := R'
            have hbk' : Hid ((wr.setCell ⟨g1, 4 + k, none⟩ (.int .u8 (xrB ((nzT iv B k).getD (4 + k) 0) (B.getD k 0)))).heap[g2]? = w2.heap[g2]?) := ((Only.setCell wr g1 (4 + k) _).block g2 (by omega)).trans hbk.out
            have hN' : Below w.heap.size w (wr.setCell ⟨g1, 4 + k, none⟩ (.int .u8 (xrB ((nzT iv B k).getD (4 + k) 0) (B.getD k 0)))) := hN.setCell hg1 _
            unfold xrB at hR hbk' hN'
            clear R R' cz fz sz hN hbk hL
            have k1 : (k : Int) < 8 := by omega
            have e4 : (4 : Int) + (k : Int) = ((4 + k : Nat) : Int) := by omega
            have i4 : ((4 + k : Nat) : Int) < 12 := by omega
            generalize (nzT iv B k).getD (4 + k) 0 = x at *
            generalize B.getD k 0 = y at *
            obtain ⟨m, hm⟩ : ∃ m, m = 4 + k := ⟨_, rfl⟩
            rw [← hm] at cz1 fz1 hR hbk' hN' e4 i4
            clear hm
            go_wp2
            go_roundw
            case rel => exact ⟨k + 1, by omega, by go_num, hR, hbk', hN'⟩
            case measure => simp [intOf]; omega
          · obtain rfl : k = 8 := by omega
            rw [show (((8 : Nat) : Int)) = 8 from rfl]
            go_wp2
            go_ret
            exact ⟨_, rfl, by rw [q0.out]; exact R, hN⟩
  · have q0 : rnA iv n = [] := by unfold rnA; rw [if_neg (by omega)]
    rw [q0]
    have q1 : decide ((iv.length : Int) = 12) = false := by simp; omega
    have q3 : ((iv.length : Int) != 12) = true := by simp; omega
    clear h12 hr q0
    go_enter Try.func8, Try.ntmps8
    go_wp2
    go_ret
    exact ⟨_, rfl, RowB.nilN _ _, Below.refl _ _⟩
end Go.Proofs.Ytickbedbdpccpaa
