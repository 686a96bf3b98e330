
/-
  The program's StreamXor.
-/
import Derived.Test.YtgkplbopelamkaaCcG
namespace Go.Proofs.Ytgkplbopelamkaa
open Go Go.RowKit

/-- The counters are enough. -/
def hasC (c : Int) (n : Nat) : Bool := decide ((n : Int) ≤ (4294967296 - c) * 64)
theorem hasC_any (w : World) (c : Int) (h0 : 0 ≤ c) (h1 : c ≤ 4294967295) (a : Option Addr) (n cp : Nat) : Calls Try.prog 41 #[.int .i64 c, .slice a n cp] w fun e w' => e = .returned (.bool (hasC c n)) ∧ w' = w := by
  have b1 : 0 ≤ 4294967296 - c := by omega
  have b2 : 4294967296 - c ≤ 4294967296 := by omega
  unfold hasC
  go_enter Try.func41, Try.ntmps41
  go_wp2
  go_ret
  refine ⟨?_, rfl⟩
  show Ending.returned (Value.bool (decide ((n : Int) ≤ (4294967295 - c + 1) * 64))) = _
  rw [show (4294967295 : Int) - c + 1 = 4294967296 - c by omega]
/-- What StreamXor answers. -/
def sxA (key : List Int) (c : Int) (non data : List Int) : List Int :=
  if fitB key c non = true ∧ hasC c data.length = true then xoG (nsW key non) c data ((data.length + 63) / 64) else []
theorem sxA_len (key : List Int) (c : Int) (non data : List Int) (h : data.length ≤ 1048576) : (sxA key c non data).length ≤ 1048576 := by
  unfold sxA
  split
  · rw [xoG_len]; exact h
  · decide
set_option maxRecDepth 100000 in
set_option maxHeartbeats 4000000 in
theorem implXor_any (w : World) (g : Nat) (a : Option Addr) (c : Nat) (key : List Int) (hr : Rd w g a .u8 key) (hb : Byt key) (hc : key.length ≤ c) (ct : Int) (g' : Nat) (a' : Option Addr) (c' : Nat) (non : List Int) (hr' : Rd w g' a' .u8 non) (hb' : Byt non) (hc' : non.length ≤ c')
    (g2 : Nat) (a2 : Option Addr) (c2 : Nat) (data : List Int) (hr2 : Rd w g2 a2 .u8 data) (hn : data.length ≤ 4194304) :
    Calls Try.prog 17 #[.slice a key.length c, .int .i64 ct, .slice a' non.length c', .slice a2 data.length c2] w fun e w' => NewRow w.heap.size w' e .u8 (sxA key ct non data) ∧ Below w.heap.size w w' := by
  have IK := isKey_any w a a' key.length non.length c c'
  have IC := isCnt_any w ct
  by_cases h1 : (decide (key.length = 32) && decide (non.length = 12)) = true
  · rw [h1] at IK
    by_cases h2 : (decide (0 ≤ ct) && decide (ct ≤ 4294967295)) = true
    · rw [h2] at IC
      have hf : fitB key ct non = true := by unfold fitB; rw [h1, h2]; rfl
      simp only [Bool.and_eq_true, decide_eq_true_eq] at h1 h2
      have HC := hasC_any w ct h2.1 h2.2 a2 data.length c2
      by_cases h3 : hasC ct data.length = true
      · rw [h3] at HC
        have RS : Hid (sxA key ct non data = xoG (nsW key non) ct data ((data.length + 63) / 64)) := by show _ = _; unfold sxA; rw [if_pos ⟨hf, h3⟩]
        rw [RS.out]
        unfold hasC at h3
        simp only [decide_eq_true_eq] at h3
        have NW := hide (newWords_any w g a c key hr hb h1.1 hc g' a' c' non hr' hb' h1.2 hc')
        have LY := fun W (n : Below w.heap.size w W) => hide (layOver_any W _ (nsW_ws hb hb') (nsW_len key non) ct h2.1 g2 a2 c2 data (hr2.up n) hn (by omega))
        generalize ag .u32 (nsW key non) = nv at *
        clear RS hf h1 h2 h3
        go_enter Try.func17, Try.ntmps17
        go_wp2_with fail
        refine IK.mono ?_
        rintro e w1 ⟨rfl, rfl⟩
        go_wp2_with fail
        refine IC.mono ?_
        rintro e w1 ⟨rfl, rfl⟩
        go_wp2_with fail
        refine HC.mono ?_
        rintro e w1 ⟨rfl, rfl⟩
        go_wp2_with fail
        refine NW.out.mono ?_
        rintro e w2 ⟨rfl, n2⟩
        go_wp2_with fail
        refine (LY w2 n2).out.mono ?_
        rintro e w3 ⟨⟨a3, c3, g3, rfl, o3, p3, q3, r3⟩, n3⟩
        go_wp2
        go_ret
        exact ⟨⟨a3, c3, g3, rfl, o3, p3, q3, Nat.le_trans n2.size r3⟩, nxt n2 n3⟩
      · have h3' : hasC ct data.length = false := by simpa using h3
        rw [h3'] at HC
        have RS : Hid (sxA key ct non data = []) := by show _ = _; unfold sxA; rw [if_neg (fun h => h3 h.2)]
        rw [RS.out]
        clear RS hf h1 h2 h3 h3'
        go_enter Try.func17, Try.ntmps17
        go_wp2_with fail
        refine IK.mono ?_
        rintro e w1 ⟨rfl, rfl⟩
        go_wp2_with fail
        refine IC.mono ?_
        rintro e w1 ⟨rfl, rfl⟩
        go_wp2_with fail
        refine HC.mono ?_
        rintro e w1 ⟨rfl, rfl⟩
        go_wp2
        go_ret
        exact ⟨newRow_z _ _, Below.refl _ _⟩
    · have h2' : (decide (0 ≤ ct) && decide (ct ≤ 4294967295)) = false := by simpa using h2
      rw [h2'] at IC
      have RS : Hid (sxA key ct non data = []) := by show _ = _; unfold sxA; rw [if_neg]; rintro ⟨h, _⟩; unfold fitB at h; rw [h2', Bool.and_false] at h; cases h
      rw [RS.out]
      clear h1 h2 h2' RS
      go_enter Try.func17, Try.ntmps17
      go_wp2_with fail
      refine IK.mono ?_
      rintro e w1 ⟨rfl, rfl⟩
      go_wp2_with fail
      refine IC.mono ?_
      rintro e w1 ⟨rfl, rfl⟩
      go_wp2
      go_ret
      exact ⟨newRow_z _ _, Below.refl _ _⟩
  · have h1' : (decide (key.length = 32) && decide (non.length = 12)) = false := by simpa using h1
    rw [h1'] at IK
    have RS : Hid (sxA key ct non data = []) := by show _ = _; unfold sxA; rw [if_neg]; rintro ⟨h, _⟩; unfold fitB at h; rw [h1', Bool.false_and] at h; cases h
    rw [RS.out]
    clear h1 h1' RS
    go_enter Try.func17, Try.ntmps17
    go_wp2_with fail
    refine IK.mono ?_
    rintro e w1 ⟨rfl, rfl⟩
    go_wp2
    go_ret
    exact ⟨newRow_z _ _, Below.refl _ _⟩
end Go.Proofs.Ytgkplbopelamkaa
