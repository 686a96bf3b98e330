import Derived.Test.YtbhmhkimddjhaaaDoorGG39
import Derived.Test.YtbhmhkimddjhaaaDoorRows
import Derived.Test.YtbhmhkimddjhaaaDoorGG36
import Derived.Lib.LaidTab
import Derived.Lib.LaidU8
import Derived.LaidMore
/-
  The law of the ring.
-/
namespace Go.Proofs.YtbhmhkimddjhaaaDoor
set_option maxRecDepth 100000
open Go Go.RowKit

/-- A list that may be read, at this place. -/
def At (W : World) (a : Option Addr) (c : Nat) (g : Nat) (X : List Int) : Prop := Rd W g a .u8 X ∧ (a = none → c = 0)
theorem At.up {W W' : World} {a : Option Addr} {c g : Nat} {X : List Int} (h : At W a c g X) (n : Below W.heap.size W W') : At W' a c g X := ⟨h.1.up n, h.2⟩

set_option maxHeartbeats 8000000 in
theorem fieldRing_law (w : World) (g : Nat) (a : Option Addr) (ca : Nat) (code : List Int) (hc : Rd w g a .u8 code) (bc : Byt code) (g' : Nat) (b : Option Addr) (cb : Nat) (more : List Int) (hm : Rd w g' b .u8 more) (bm : Byt more) (hT : HasTw w 5) :
    Calls Tryd.prog 10 #[.slice a code.length ca, .slice b more.length cb] w fun e w' => e = .returned (.bool true) ∧ Below w.heap.size w w' := by
  by_cases h1 : code.length ≤ 1048576 ∧ more.length ≤ 1048576
  · obtain ⟨lc, lm⟩ := h1
    have t1 : decide ((1048576 : Int) < (code.length : Int)) = false := by simp; omega
    have t2 : decide ((1048576 : Int) < (more.length : Int)) = false := by simp; omega
    go_enter Tryd.func10, Tryd.ntmps10
    go_wp2_with fail
    refine (lwSix_any w g g' a b ca cb code more hc hm bc bm lc lm).mono ?_
    rintro e w1 ⟨q, g1, g2, g3, A, B, C, rfl, CA, CB, CC, OA, OB, OC, HB, N⟩
    have TW := hT.up N
    have bA := hide HB.out.1.1
    have bB := hide HB.out.2.1.1
    have bC := hide HB.out.2.2.1
    have LA := hide (show A.length ≤ 1048576 by have := HB.out.1.2; omega)
    have LB := hide (show B.length ≤ 1048576 by have := HB.out.2.1.2; omega)
    have LC := hide (show C.length ≤ 1048576 by have := HB.out.2.2.2; omega)
    have G := hide (ring_of HB.out.1.2 HB.out.2.1.2 HB.out.2.2.2)
    have RA : At w1 (some ⟨g1, 0, none⟩) 32 g1 A := ⟨OA.rd, by simp⟩
    have RB : At w1 (some ⟨g2, 0, none⟩) 32 g2 B := ⟨OB.rd, by simp⟩
    have RC : At w1 (some ⟨g3, 0, none⟩) 32 g3 C := ⟨OC.rd, by simp⟩
    clear OA OB OC HB hc hm bc bm t1 t2 lc lm hT
    obtain ⟨AB, hAB⟩ : ∃ X, X = fadd A B := ⟨_, rfl⟩
    obtain ⟨AM, hAM⟩ : ∃ X, X = fmul A B := ⟨_, rfl⟩
    replace hAB := hide hAB
    replace hAM := hide hAM
    go_upto_region 7 with fail
    clear CA CB CC
    refine region_end 6 (fun i => [RD A, RD A, RD B, RD B, RD AB, RD AB].getD i Fact.no) (by kernel_rfl) (by kernel_rfl) rfl ?_ ?_
    · intro i hi
      obtain rfl | rfl | rfl | rfl | rfl | rfl : i = 0 ∨ i = 1 ∨ i = 2 ∨ i = 3 ∨ i = 4 ∨ i = 5 := by omega
      · exact step_rd rfl 6 rfl (by kernel_rfl) rfl RA.1 RA.2 rfl
      · exact step_copy rfl 31 0 LA.out rfl (by kernel_rfl) rfl rfl
      · exact step_rd rfl 7 rfl (by kernel_rfl) rfl RB.1 RB.2 rfl
      · exact step_copy rfl 33 2 LB.out rfl (by kernel_rfl) rfl rfl
      · exact step_iadd rfl 32 34 1 3 bA.out bB.out (hAB.out.symm) rfl (by kernel_rfl) (by kernel_rfl) rfl rfl rfl
      · exact step_move rfl 35 4 (Or.inr rfl) (by kernel_rfl) rfl
    intro a7 W7 hb hw hF
    have ev := hF 5 9 (by kernel_rfl)
    obtain ⟨vs7, hvs⟩ : ∃ vs : Nat → Value, ∀ d, a7.tmps.getD d undef = vs d := ⟨_, fun _ => rfl⟩
    rw [hvs] at ev
    rw [puts_of (md := .any) (k := 6) (by kernel_rfl) rfl hb vs7 hvs]
    replace RA := RA.up hw
    replace RB := RB.up hw
    replace RC := RC.up hw
    replace N := nxt N hw
    replace TW := TW.up hw
    clear hb hF hvs hw
    obtain ⟨aS, cS, gS, v9, RAB⟩ := ev
    replace RAB : At W7 aS cS gS AB := RAB
    simp only [puts, v9, Act.put, List.setIfInBounds_toArray, List.set_cons_succ, List.set_cons_zero]
    clear v9
    go_upto_region 8 with fail
    refine region_end 6 (fun i => [RD A, RD A, RD B, RD B, RD AM, RD AM].getD i Fact.no) (by kernel_rfl) (by kernel_rfl) rfl ?_ ?_
    · intro i hi
      obtain rfl | rfl | rfl | rfl | rfl | rfl : i = 0 ∨ i = 1 ∨ i = 2 ∨ i = 3 ∨ i = 4 ∨ i = 5 := by omega
      · exact step_rd rfl 6 rfl (by kernel_rfl) rfl RA.1 RA.2 rfl
      · exact step_copy rfl 36 0 LA.out rfl (by kernel_rfl) rfl rfl
      · exact step_rd rfl 7 rfl (by kernel_rfl) rfl RB.1 RB.2 rfl
      · exact step_copy rfl 38 2 LB.out rfl (by kernel_rfl) rfl rfl
      · exact step_imul rfl 37 39 1 3 bA.out bB.out (hAM.out.symm) rfl (by kernel_rfl) (by kernel_rfl) rfl rfl rfl
      · exact step_move rfl 40 4 (Or.inr rfl) (by kernel_rfl) rfl
    intro a8 W8 hb hw hF
    have ev := hF 5 10 (by kernel_rfl)
    obtain ⟨vs8, hvs⟩ : ∃ vs : Nat → Value, ∀ d, a8.tmps.getD d undef = vs d := ⟨_, fun _ => rfl⟩
    rw [hvs] at ev
    rw [puts_of (md := .any) (k := 6) (by kernel_rfl) rfl hb vs8 hvs]
    replace RA := RA.up hw
    replace RB := RB.up hw
    replace RC := RC.up hw
    replace N := nxt N hw
    replace TW := TW.up hw
    replace RAB := RAB.up hw
    clear hb hF hvs hw
    obtain ⟨aM, cM, gM, v10, RAM⟩ := ev
    replace RAM : At W8 aM cM gM AM := RAM
    simp only [puts, v10, Act.put, List.setIfInBounds_toArray, List.set_cons_succ, List.set_cons_zero]
    clear v10
    have bAB : Hid (Byt AB) := by show Byt AB; rw [hAB.out]; exact fadd_bt _ _
    have bAM : Hid (Byt AM) := by show Byt AM; rw [hAM.out]; exact fmul_bt _ _
    replace G : Hid (Ring A B C ∧ canN AB = true ∧ canN AM = true ∧ fadd B A = AB ∧ fmul B A = AM ∧ fadd A (fadd B C) = fadd AB C ∧ fmul A (fmul B C) = fmul AM C ∧ fadd (fmul A C) (fmul B C) = fmul AB C ∧ fsub AB B = fred A ∧ fadd A B = AB) := by
      have g := G.out
      show _ ∧ _
      rw [hAB.out, hAM.out]
      exact ⟨g, g.ca, g.cm, g.xa, g.xm, g.ga, g.gm, g.ds, g.su, rfl⟩
    have K := implFieldCanonical_any W8 gS aS cS AB RAB.1 bAB.out
    rw [G.out.2.1] at K
    go_wp2_with fail
    refine K.mono ?_
    rintro e X1a ⟨rfl, n⟩
    clear K
    replace RA := RA.up n
    replace RB := RB.up n
    replace RC := RC.up n
    replace RAB := RAB.up n
    replace RAM := RAM.up n
    replace TW := TW.up n
    replace N := nxt N n
    clear n
    have K := implFieldCanonical_any X1a gM aM cM AM RAM.1 bAM.out
    rw [G.out.2.2.1] at K
    go_wp2_with fail
    refine K.mono ?_
    rintro e X2a ⟨rfl, n⟩
    clear K
    replace RA := RA.up n
    replace RB := RB.up n
    replace RC := RC.up n
    replace RAB := RAB.up n
    replace RAM := RAM.up n
    replace TW := TW.up n
    replace N := nxt N n
    clear n
    go_wp2_with fail
    refine (lwCopy_any X2a g2 _ 32 B RB.1 (by simp) LB.out).mono ?_
    rintro e X3a ⟨⟨ap1, cp1, gp1, rfl, op1, pp1, -, -⟩, n⟩
    replace RA := RA.up n
    replace RB := RB.up n
    replace RC := RC.up n
    replace RAB := RAB.up n
    replace RAM := RAM.up n
    replace TW := TW.up n
    replace N := nxt N n
    clear n
    go_wp2_with fail
    refine (lwCopy_any X3a g1 _ 32 A RA.1 (by simp) LA.out).mono ?_
    rintro e X4a ⟨⟨ap2, cp2, gp2, rfl, op2, pp2, -, -⟩, n⟩
    replace RA := RA.up n
    replace RB := RB.up n
    replace RC := RC.up n
    replace RAB := RAB.up n
    replace RAM := RAM.up n
    replace TW := TW.up n
    replace op1 := op1.up n
    replace N := nxt N n
    clear n
    have K := implFieldAdd_any X4a gp1 gp2 ap1 ap2 cp1 cp2 B A op1.rd op2.rd bB.out bA.out
    rw [G.out.2.2.2.1] at K
    go_wp2_with fail
    refine K.mono ?_
    rintro e X5a ⟨⟨ap3, cp3, gp3, rfl, op3, pp3, -, -⟩, n⟩
    clear K
    replace RA := RA.up n
    replace RB := RB.up n
    replace RC := RC.up n
    replace RAB := RAB.up n
    replace RAM := RAM.up n
    replace TW := TW.up n
    replace op1 := op1.up n
    replace op2 := op2.up n
    replace N := nxt N n
    clear n
    clear op1
    clear op2
    have K := lwSame_same X5a gS gp3 aS ap3 cS cp3 AB RAB.1 op3.rd
    go_wp2_with fail
    refine K.mono ?_
    rintro e X6a ⟨rfl, rfl⟩
    clear K
    clear op3
    go_wp2_with fail
    refine (lwCopy_any X6a g2 _ 32 B RB.1 (by simp) LB.out).mono ?_
    rintro e X7a ⟨⟨ap1, cp1, gp1, rfl, op1, pp1, -, -⟩, n⟩
    replace RA := RA.up n
    replace RB := RB.up n
    replace RC := RC.up n
    replace RAB := RAB.up n
    replace RAM := RAM.up n
    replace TW := TW.up n
    replace N := nxt N n
    clear n
    go_wp2_with fail
    refine (lwCopy_any X7a g1 _ 32 A RA.1 (by simp) LA.out).mono ?_
    rintro e X8a ⟨⟨ap2, cp2, gp2, rfl, op2, pp2, -, -⟩, n⟩
    replace RA := RA.up n
    replace RB := RB.up n
    replace RC := RC.up n
    replace RAB := RAB.up n
    replace RAM := RAM.up n
    replace TW := TW.up n
    replace op1 := op1.up n
    replace N := nxt N n
    clear n
    have K := implFieldMul_any X8a gp1 gp2 ap1 ap2 cp1 cp2 B A op1.rd op2.rd bB.out bA.out
    rw [G.out.2.2.2.2.1] at K
    go_wp2_with fail
    refine K.mono ?_
    rintro e X9a ⟨⟨ap3, cp3, gp3, rfl, op3, pp3, -, -⟩, n⟩
    clear K
    replace RA := RA.up n
    replace RB := RB.up n
    replace RC := RC.up n
    replace RAB := RAB.up n
    replace RAM := RAM.up n
    replace TW := TW.up n
    replace op1 := op1.up n
    replace op2 := op2.up n
    replace N := nxt N n
    clear n
    clear op1
    clear op2
    have K := lwSame_same X9a gM gp3 aM ap3 cM cp3 AM RAM.1 op3.rd
    go_wp2_with fail
    refine K.mono ?_
    rintro e X10a ⟨rfl, rfl⟩
    clear K
    clear op3
    go_upto_region 11 with fail
    refine region_end 14 (fun i => [RD AB, RD C, RD C, RD (fadd AB C), RD A, RD A, RD B, RD B, RD C, RD C, RD (fadd B C), RD (fadd AB C), Fact.eq (.bool true), Fact.eq (.bool false)].getD i Fact.no) (by kernel_rfl) (by kernel_rfl) rfl ?_ ?_
    · intro i hi
      obtain rfl | rfl | rfl | rfl | rfl | rfl | rfl | rfl | rfl | rfl | rfl | rfl | rfl | rfl : i = 0 ∨ i = 1 ∨ i = 2 ∨ i = 3 ∨ i = 4 ∨ i = 5 ∨ i = 6 ∨ i = 7 ∨ i = 8 ∨ i = 9 ∨ i = 10 ∨ i = 11 ∨ i = 12 ∨ i = 13 := by omega
      · exact step_rd rfl 9 rfl (by kernel_rfl) rfl RAB.1 RAB.2 rfl
      · exact step_rd rfl 8 rfl (by kernel_rfl) rfl RC.1 RC.2 rfl
      · exact step_copy rfl 70 1 LC.out rfl (by kernel_rfl) rfl rfl
      · exact step_iadd rfl 69 71 0 2 bAB.out bC.out (rfl) rfl (by kernel_rfl) (by kernel_rfl) rfl rfl rfl
      · exact step_rd rfl 6 rfl (by kernel_rfl) rfl RA.1 RA.2 rfl
      · exact step_copy rfl 73 4 LA.out rfl (by kernel_rfl) rfl rfl
      · exact step_rd rfl 7 rfl (by kernel_rfl) rfl RB.1 RB.2 rfl
      · exact step_copy rfl 75 6 LB.out rfl (by kernel_rfl) rfl rfl
      · exact step_rd rfl 8 rfl (by kernel_rfl) rfl RC.1 RC.2 rfl
      · exact step_copy rfl 77 8 LC.out rfl (by kernel_rfl) rfl rfl
      · exact step_iadd rfl 76 78 7 9 bB.out bC.out (rfl) rfl (by kernel_rfl) (by kernel_rfl) rfl rfl rfl
      · exact step_iadd rfl 74 79 5 10 bA.out (fadd_bt _ _) (G.out.2.2.2.2.2.1) rfl (by kernel_rfl) (by kernel_rfl) rfl rfl rfl
      · exact step_lwSame rfl 72 80 3 11 rfl (by kernel_rfl) (by kernel_rfl) rfl rfl rfl
      · exact step_not rfl 81 12 rfl (by kernel_rfl) rfl rfl
    intro a11 W11 hb hw hF
    have ev := hF 13 82 (by kernel_rfl)
    obtain ⟨vs11, hvs⟩ : ∃ vs : Nat → Value, ∀ d, a11.tmps.getD d undef = vs d := ⟨_, fun _ => rfl⟩
    rw [hvs] at ev
    rw [puts_of (md := .any) (k := 14) (by kernel_rfl) rfl hb vs11 hvs]
    replace RA := RA.up hw
    replace RB := RB.up hw
    replace RC := RC.up hw
    replace N := nxt N hw
    replace RAB := RAB.up hw
    replace RAM := RAM.up hw
    replace TW := TW.up hw
    clear hb hF hvs hw
    change vs11 82 = .bool false at ev
    simp only [puts, ev, Act.put, List.setIfInBounds_toArray, List.set_cons_succ, List.set_cons_zero]
    clear ev
    go_upto_region 13 with fail
    refine region_end 14 (fun i => [RD AM, RD C, RD C, RD (fmul AM C), RD A, RD A, RD B, RD B, RD C, RD C, RD (fmul B C), RD (fmul AM C), Fact.eq (.bool true), Fact.eq (.bool false)].getD i Fact.no) (by kernel_rfl) (by kernel_rfl) rfl ?_ ?_
    · intro i hi
      obtain rfl | rfl | rfl | rfl | rfl | rfl | rfl | rfl | rfl | rfl | rfl | rfl | rfl | rfl : i = 0 ∨ i = 1 ∨ i = 2 ∨ i = 3 ∨ i = 4 ∨ i = 5 ∨ i = 6 ∨ i = 7 ∨ i = 8 ∨ i = 9 ∨ i = 10 ∨ i = 11 ∨ i = 12 ∨ i = 13 := by omega
      · exact step_rd rfl 10 rfl (by kernel_rfl) rfl RAM.1 RAM.2 rfl
      · exact step_rd rfl 8 rfl (by kernel_rfl) rfl RC.1 RC.2 rfl
      · exact step_copy rfl 84 1 LC.out rfl (by kernel_rfl) rfl rfl
      · exact step_imul rfl 83 85 0 2 bAM.out bC.out (rfl) rfl (by kernel_rfl) (by kernel_rfl) rfl rfl rfl
      · exact step_rd rfl 6 rfl (by kernel_rfl) rfl RA.1 RA.2 rfl
      · exact step_copy rfl 87 4 LA.out rfl (by kernel_rfl) rfl rfl
      · exact step_rd rfl 7 rfl (by kernel_rfl) rfl RB.1 RB.2 rfl
      · exact step_copy rfl 89 6 LB.out rfl (by kernel_rfl) rfl rfl
      · exact step_rd rfl 8 rfl (by kernel_rfl) rfl RC.1 RC.2 rfl
      · exact step_copy rfl 91 8 LC.out rfl (by kernel_rfl) rfl rfl
      · exact step_imul rfl 90 92 7 9 bB.out bC.out (rfl) rfl (by kernel_rfl) (by kernel_rfl) rfl rfl rfl
      · exact step_imul rfl 88 93 5 10 bA.out (fmul_bt _ _) (G.out.2.2.2.2.2.2.1) rfl (by kernel_rfl) (by kernel_rfl) rfl rfl rfl
      · exact step_lwSame rfl 86 94 3 11 rfl (by kernel_rfl) (by kernel_rfl) rfl rfl rfl
      · exact step_not rfl 95 12 rfl (by kernel_rfl) rfl rfl
    intro a13 W13 hb hw hF
    have ev := hF 13 96 (by kernel_rfl)
    obtain ⟨vs13, hvs⟩ : ∃ vs : Nat → Value, ∀ d, a13.tmps.getD d undef = vs d := ⟨_, fun _ => rfl⟩
    rw [hvs] at ev
    rw [puts_of (md := .any) (k := 14) (by kernel_rfl) rfl hb vs13 hvs]
    replace RA := RA.up hw
    replace RB := RB.up hw
    replace RC := RC.up hw
    replace N := nxt N hw
    replace RAB := RAB.up hw
    replace RAM := RAM.up hw
    replace TW := TW.up hw
    clear hb hF hvs hw
    change vs13 96 = .bool false at ev
    simp only [puts, ev, Act.put, List.setIfInBounds_toArray, List.set_cons_succ, List.set_cons_zero]
    clear ev
    go_upto_region 15 with fail
    refine region_end 17 (fun i => [RD AB, RD C, RD C, RD (fmul AB C), RD A, RD A, RD C, RD C, RD (fmul A C), RD B, RD B, RD C, RD C, RD (fmul B C), RD (fmul AB C), Fact.eq (.bool true), Fact.eq (.bool false)].getD i Fact.no) (by kernel_rfl) (by kernel_rfl) rfl ?_ ?_
    · intro i hi
      obtain rfl | rfl | rfl | rfl | rfl | rfl | rfl | rfl | rfl | rfl | rfl | rfl | rfl | rfl | rfl | rfl | rfl : i = 0 ∨ i = 1 ∨ i = 2 ∨ i = 3 ∨ i = 4 ∨ i = 5 ∨ i = 6 ∨ i = 7 ∨ i = 8 ∨ i = 9 ∨ i = 10 ∨ i = 11 ∨ i = 12 ∨ i = 13 ∨ i = 14 ∨ i = 15 ∨ i = 16 := by omega
      · exact step_rd rfl 9 rfl (by kernel_rfl) rfl RAB.1 RAB.2 rfl
      · exact step_rd rfl 8 rfl (by kernel_rfl) rfl RC.1 RC.2 rfl
      · exact step_copy rfl 98 1 LC.out rfl (by kernel_rfl) rfl rfl
      · exact step_imul rfl 97 99 0 2 bAB.out bC.out (rfl) rfl (by kernel_rfl) (by kernel_rfl) rfl rfl rfl
      · exact step_rd rfl 6 rfl (by kernel_rfl) rfl RA.1 RA.2 rfl
      · exact step_copy rfl 101 4 LA.out rfl (by kernel_rfl) rfl rfl
      · exact step_rd rfl 8 rfl (by kernel_rfl) rfl RC.1 RC.2 rfl
      · exact step_copy rfl 103 6 LC.out rfl (by kernel_rfl) rfl rfl
      · exact step_imul rfl 102 104 5 7 bA.out bC.out (rfl) rfl (by kernel_rfl) (by kernel_rfl) rfl rfl rfl
      · exact step_rd rfl 7 rfl (by kernel_rfl) rfl RB.1 RB.2 rfl
      · exact step_copy rfl 106 9 LB.out rfl (by kernel_rfl) rfl rfl
      · exact step_rd rfl 8 rfl (by kernel_rfl) rfl RC.1 RC.2 rfl
      · exact step_copy rfl 108 11 LC.out rfl (by kernel_rfl) rfl rfl
      · exact step_imul rfl 107 109 10 12 bB.out bC.out (rfl) rfl (by kernel_rfl) (by kernel_rfl) rfl rfl rfl
      · exact step_iadd rfl 105 110 8 13 (fmul_bt _ _) (fmul_bt _ _) (G.out.2.2.2.2.2.2.2.1) rfl (by kernel_rfl) (by kernel_rfl) rfl rfl rfl
      · exact step_lwSame rfl 100 111 3 14 rfl (by kernel_rfl) (by kernel_rfl) rfl rfl rfl
      · exact step_not rfl 112 15 rfl (by kernel_rfl) rfl rfl
    intro a15 W15 hb hw hF
    have ev := hF 16 113 (by kernel_rfl)
    obtain ⟨vs15, hvs⟩ : ∃ vs : Nat → Value, ∀ d, a15.tmps.getD d undef = vs d := ⟨_, fun _ => rfl⟩
    rw [hvs] at ev
    rw [puts_of (md := .any) (k := 17) (by kernel_rfl) rfl hb vs15 hvs]
    replace RA := RA.up hw
    replace RB := RB.up hw
    replace RC := RC.up hw
    replace N := nxt N hw
    replace RAB := RAB.up hw
    replace RAM := RAM.up hw
    replace TW := TW.up hw
    clear hb hF hvs hw
    change vs15 113 = .bool false at ev
    simp only [puts, ev, Act.put, List.setIfInBounds_toArray, List.set_cons_succ, List.set_cons_zero]
    clear ev
    go_wp2_with fail
    refine (lwCopy_any W15 g2 _ 32 B RB.1 (by simp) LB.out).mono ?_
    rintro e X1b ⟨⟨ap1, cp1, gp1, rfl, op1, pp1, -, -⟩, n⟩
    replace RA := RA.up n
    replace RB := RB.up n
    replace RC := RC.up n
    replace RAB := RAB.up n
    replace RAM := RAM.up n
    replace TW := TW.up n
    replace N := nxt N n
    clear n
    have K := implFieldSub_any X1b gS gp1 aS ap1 cS cp1 AB B RAB.1 op1.rd bAB.out bB.out TW
    rw [G.out.2.2.2.2.2.2.2.2.1] at K
    go_wp2_with fail
    refine K.mono ?_
    rintro e X2b ⟨⟨ap2, cp2, gp2, rfl, op2, pp2, -, -⟩, n⟩
    clear K
    replace RA := RA.up n
    replace RB := RB.up n
    replace RC := RC.up n
    replace RAB := RAB.up n
    replace RAM := RAM.up n
    replace TW := TW.up n
    replace op1 := op1.up n
    replace N := nxt N n
    clear n
    clear op1
    go_wp2_with fail
    refine (lwCopy_any X2b g1 _ 32 A RA.1 (by simp) LA.out).mono ?_
    rintro e X3b ⟨⟨ap3, cp3, gp3, rfl, op3, pp3, -, -⟩, n⟩
    replace RA := RA.up n
    replace RB := RB.up n
    replace RC := RC.up n
    replace RAB := RAB.up n
    replace RAM := RAM.up n
    replace TW := TW.up n
    replace op2 := op2.up n
    replace N := nxt N n
    clear n
    go_wp2_with fail
    refine (implFieldReduce_any X3b gp3 ap3 cp3 A op3.rd bA.out).mono ?_
    rintro e X4b ⟨⟨ap4, cp4, gp4, rfl, op4, pp4, -, -⟩, n⟩
    replace RA := RA.up n
    replace RB := RB.up n
    replace RC := RC.up n
    replace RAB := RAB.up n
    replace RAM := RAM.up n
    replace TW := TW.up n
    replace op2 := op2.up n
    replace op3 := op3.up n
    replace N := nxt N n
    clear n
    clear op3
    have K := lwSame_same X4b gp2 gp4 ap2 ap4 cp2 cp4 (fred A) op2.rd op4.rd
    go_wp2_with fail
    refine K.mono ?_
    rintro e X5b ⟨rfl, rfl⟩
    clear K
    clear op2
    clear op4
    have K := specFieldAdd_any X5b g1 g2 _ _ 32 32 A B RA.1 RB.1 bA.out bB.out
    rw [G.out.2.2.2.2.2.2.2.2.2] at K
    go_wp2_with fail
    refine K.mono ?_
    rintro e X6b ⟨⟨ap5, cp5, gp5, rfl, op5, pp5, -, -⟩, n⟩
    clear K
    replace RA := RA.up n
    replace RB := RB.up n
    replace RC := RC.up n
    replace RAB := RAB.up n
    replace RAM := RAM.up n
    replace TW := TW.up n
    replace N := nxt N n
    clear n
    have K := lwSame_same X6b gS gp5 aS ap5 cS cp5 AB RAB.1 op5.rd
    go_wp2_with fail
    refine K.mono ?_
    rintro e X7b ⟨rfl, rfl⟩
    clear K
    clear op5
    clear RA RB RC RAB RAM TW
    go_wp2
    go_ret
    exact ⟨rfl, N⟩
  · by_cases h2 : code.length ≤ 1048576
    · have t1 : decide ((1048576 : Int) < (code.length : Int)) = false := by simp; omega
      have t2 : decide ((1048576 : Int) < (more.length : Int)) = true := by simp; omega
      go_enter Tryd.func10, Tryd.ntmps10
      go_wp2
      go_ret
      exact ⟨rfl, Below.refl _ _⟩
    · have t1 : decide ((1048576 : Int) < (code.length : Int)) = true := by simp; omega
      go_enter Tryd.func10, Tryd.ntmps10
      go_wp2
      go_ret
      exact ⟨rfl, Below.refl _ _⟩
end Go.Proofs.YtbhmhkimddjhaaaDoor
/-
  What the listed variable of the ring gives the walks: its cells.
-/
namespace Go.Proofs.YtbhmhkimddjhaaaDoor
set_option maxRecDepth 100000
open Go.RowKit

theorem gTw : Tryd.prog.globalNamed "loop.example/g00004/impl.twiceP" = some 5 := by kernel_rfl
theorem tTw : (Tryd.prog.globals[5]?).map (·.type) = some 109 := by kernel_rfl
theorem uTw : Tryd.prog.underlying 109 = some (.array 5 49) := by kernel_rfl
theorem cTw : Tryd.prog.cellsOf 109 = 5 := by kernel_rfl
theorem cU64 : Tryd.prog.cellsOf 49 = 1 := by kernel_rfl
theorem tw_of_reads {W : World} (h : Lib.VarReads Tryd.prog W "loop.example/g00004/impl.twiceP" Rows.laid_loop_example_g00004_impl_twiceP) : HasTw W 5 := by
  obtain ⟨g, t, cs, fuel, p, hg, ht, hv, hd⟩ := h
  obtain rfl := Option.some.inj (gTw.symm.trans hg)
  obtain rfl := Option.some.inj (tTw.symm.trans ht)
  have hcs := Lib.cells_of_tab (zs := [4503599627370458, 4503599627370494, 4503599627370494, 4503599627370494, 4503599627370494]) uTw Tryd.underlying49 cU64 cTw hd
  intro k hk
  rw [World.var?_cell hg hv k]
  obtain ⟨l⟩ := cs
  simp only at hcs
  subst hcs
  obtain rfl | rfl | rfl | rfl | rfl : k = 0 ∨ k = 1 ∨ k = 2 ∨ k = 3 ∨ k = 4 := by omega
  all_goals rfl
/-- A listed variable reads as it is listed (the list bears plain data alone). -/
theorem reads_of {l : List (String × DataW Unit)} {W : World} (h : laidMetH Tryd.prog l W) (hp : (l.all fun x => x.2.handleName?.isNone) = true) {n : String} {d : DataW Unit} (hm : (n, d) ∈ l) : Lib.VarReads Tryd.prog W n d := by
  rw [MakeChecks.laidMetH_plain _ _ _ hp] at h
  exact Lib.laidMet.reads h hm
theorem laid_ring {W : World} (h : laidMetH Tryd.prog Rows.fnFieldRingRow.laid W) : HasTw W 5 := tw_of_reads (reads_of h (by kernel_rfl) (.head _))
end Go.Proofs.YtbhmhkimddjhaaaDoor
/-
  The law of the ring, with what the variable gives.
-/
