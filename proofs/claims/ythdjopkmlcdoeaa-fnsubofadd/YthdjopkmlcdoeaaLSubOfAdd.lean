/-
  The law of sums and differences.
-/
import Derived.Test.YthdjopkmlcdoeaaDrawA
import Derived.Test.YthdjopkmlcdoeaaLTrim
import Derived.Test.YthdjopkmlcdoeaaSubI
import Derived.Deep.RegionWith
namespace Go.Proofs.Ythdjopkmlcdoeaa
open Go.RowKit

theorem canon_le {xs c : List Int} (hx : Byt xs) (hc : Canon c (bval xs)) : c.length ≤ xs.length := by
  by_cases h : xs.length < c.length
  · have := canon_lt hx hc h
    have := hc.2.1
    omega
  · omega
theorem Row.up {w w' : World} {g : Nat} {a : Option Addr} {c : Nat} {xs : List Int} (h : Row w g a c xs) (n : Below w.heap.size w w') : Row w' g a c xs := ⟨h.1.up n, h.2⟩

/-- What the last statement reads: three structs, four rows. -/
structure Kit (p q r : Nat) (v1 v2 : Value) (g1 g2 g3 g4 : Nat) (a1 a2 a3 a4 : Option Addr) (c1 c2 c3 c4 : Nat) (x1 x2 x3 x4 : List Int) (w0 w : World) : Prop where
  nb : Below w0.heap.size w0 w
  k1 : w.cell? ⟨p, 0, none⟩ = some (.bool true)
  k2 : w.cell? ⟨q, 0, none⟩ = some (.bool true)
  k3 : w.cell? ⟨r, 0, none⟩ = some (.bool true)
  k4 : w.cell? ⟨q, 1, none⟩ = some v1
  k5 : w.cell? ⟨r, 1, none⟩ = some v2
  r1 : Row w g1 a1 c1 x1
  r2 : Row w g2 a2 c2 x2
  r3 : Row w g3 a3 c3 x3
  r4 : Row w g4 a4 c4 x4
theorem Kit.up {p q r : Nat} {v1 v2 : Value} {g1 g2 g3 g4 : Nat} {a1 a2 a3 a4 : Option Addr} {c1 c2 c3 c4 : Nat} {x1 x2 x3 x4 : List Int} {w0 w w' : World}
    (h : Kit p q r v1 v2 g1 g2 g3 g4 a1 a2 a3 a4 c1 c2 c3 c4 x1 x2 x3 x4 w0 w) (n : Below w.heap.size w w') : Kit p q r v1 v2 g1 g2 g3 g4 a1 a2 a3 a4 c1 c2 c3 c4 x1 x2 x3 x4 w0 w' :=
  ⟨nxt h.nb n, (n.cell (block_lt_of_cell h.k1)).trans h.k1, (n.cell (block_lt_of_cell h.k2)).trans h.k2, (n.cell (block_lt_of_cell h.k3)).trans h.k3, (n.cell (block_lt_of_cell h.k4)).trans h.k4, (n.cell (block_lt_of_cell h.k5)).trans h.k5, h.r1.up n, h.r2.up n, h.r3.up n, h.r4.up n⟩

theorem fld0 (w : World) (b : Bool) (v : Value) : (Instr.field 31 (.agg #[.bool b, v]) 0).run Try.prog w = .ok (.bool b) w := by kernel_rfl

set_option maxHeartbeats 4000000 in
theorem subOfAdd_law (w : World) (g : Nat) (a : Option Addr) (ca : Nat) (code : List Int) (ha : Rd w g a .u8 code) (hb : Byt code) :
    Calls Try.prog 11 #[.slice a code.length ca] w fun e w' => e = .returned (.bool true) ∧ Below w.heap.size w w' := by
  by_cases h1 : code.length ≤ 1048576
  · have t1 : decide ((1048576 : Int) < (code.length : Int)) = false := by simp; omega
    go_enter Try.func11, Try.ntmps11
    go_wp2_with fail
    refine (drawNumAdd_any w g a ca code ha hb h1).mono ?_
    rintro e w1 ⟨xs, us, a1, c1, g1, a2, c2, g2, rfl, ⟨hx, lx⟩, ⟨hu, lu⟩, R1, R2, n1⟩
    clear t1
    go_wp2_with fail
    refine (specNumAdd_any w1 _ _ _ _ c1 c2 xs us R1.1.rd R2.1.rd hx hu).mono ?_
    rintro e w2 ⟨t, ys, Y, ⟨a3, c3, g3, rfl, o3, _, _, _⟩, n2⟩
    have N2 := nxt n1 n2
    have R1a := R1.up n2
    have R2a := R2.up n2
    clear R1 R2 n1 n2 o3
    have hfd := fld0
    cases t
    · go_wp2_with fail
      refine (implNumAdd_any w2 _ _ _ _ c1 c2 xs us R1a.1.rd R2a.1.rd hx hu).mono ?_
      rintro e w3 ⟨t', ys', Y', ⟨a4, c4, g4, rfl, o4, _, _, _⟩, n3⟩
      obtain ⟨rfl, rfl⟩ := Y'.uniq Y
      have N3 := nxt N2 n3
      go_wp2
      go_ret
      exact ⟨rfl, N3⟩
    · have hA : xs.length ≤ 128 ∧ us.length ≤ 128 := by
        rcases Y with ⟨h, _⟩ | ⟨_, h, _⟩
        · exact h
        · simp at h
      have hY : Canon ys (bval xs + bval us) ∧ ys.length ≤ 128 := by
        rcases Y with ⟨_, c, hc, ⟨h2, _, rfl⟩ | ⟨_, h2, _⟩⟩ | ⟨_, h2, _⟩
        · exact ⟨hc, h2⟩
        · simp at h2
        · simp at h2
      go_wp2_with fail
      refine (lwCopy_any w2 _ _ c1 xs R1a.1.rd R1a.2.1 (by omega)).mono ?_
      rintro e w3 ⟨⟨a5, c5, g5, rfl, o5, _, _, _⟩, n3⟩
      go_wp2_with fail
      refine (lwCopy_any w3 _ _ c2 us (R2a.up n3).1.rd R2a.2.1 (by omega)).mono ?_
      rintro e w4 ⟨⟨a6, c6, g6, rfl, o6, _, _, _⟩, n4⟩
      go_wp2_with fail
      refine (implNumAdd_any w4 _ _ _ _ c5 c6 xs us (o5.up n4).rd o6.rd hx hu).mono ?_
      rintro e w5 ⟨t', ys', Y', ⟨a7, c7, g7, rfl, o7, p7, q7, _⟩, n5⟩
      obtain ⟨rfl, rfl⟩ := Y'.uniq Y
      have n25 := nxt (nxt n3 n4) n5
      have N5 := nxt N2 n25
      have R1b := R1a.up n25
      have R2b := R2a.up n25
      clear o5 o6 n3 n4 n5 n25 R1a R2a N2
      have vy := hY.1.2.1
      have x0 := bval_nonneg hx
      have u0 := bval_nonneg hu
      have T5 := Two.new w5 (.bool true) (.slice a7 ys'.length c7) 31
      have n6 : Below w5.heap.size w5 (w5.alloc (.cells #[.bool true, .slice a7 ys'.length c7] 31)) := (Below.refl _ _).alloc (Nat.le_refl _) _
      have R3 : Row w5 g7 a7 c7 ys' := ⟨o7, p7, q7⟩
      clear o7 p7 q7
      have Vy := hide vy
      clear vy
      go_wp2_with fail
      generalize w5.alloc (.cells #[.bool true, .slice a7 ys'.length c7] 31) = w6 at *
      have N6 := nxt N5 n6
      have R1c := R1b.up n6
      have R2c := R2b.up n6
      have R3c := R3.up n6
      clear R1b R2b R3 n6 N5
      refine (lwCopy_any w6 _ _ c7 ys' R3c.1.rd R3c.2.1 (by omega)).mono ?_
      rintro e w7 ⟨⟨a8, c8, g8, rfl, o8, _, _, _⟩, n7⟩
      go_wp2_with fail
      refine (lwCopy_any w7 _ _ c2 us (R2c.up n7).1.rd R2c.2.1 (by omega)).mono ?_
      rintro e w8 ⟨⟨a9, c9, g9, rfl, o9, _, _, _⟩, n8⟩
      go_wp2_with fail
      refine (implNumSub_any w8 _ _ _ _ c8 c9 ys' us (o8.up n8).rd o9.rd hY.1.1 hu).mono ?_
      rintro e w9 ⟨ta, za, Ya, ⟨aA, cA, gA, rfl, oA, pA, qA, _⟩, n9⟩
      have n69 := nxt (nxt n7 n8) n9
      have N9 := nxt N6 n69
      have Ca : ta = true ∧ Canon za (bval xs) := by
        rcases Ya with ⟨_, c, hc, h⟩ | ⟨h, _⟩
        · rw [Vy.out, show bval xs + bval us - bval us = bval xs by omega] at hc
          have hcl := canon_le hx hc
          rcases h with ⟨_, rfl, rfl⟩ | ⟨h, _⟩
          · exact ⟨rfl, hc⟩
          · omega
        · exact absurd ⟨hY.2, hA.2, by rw [Vy.out]; omega⟩ h
      obtain ⟨rfl, Ca⟩ := Ca
      have R1d := R1c.up n69
      have R2d := R2c.up n69
      have R3d := R3c.up n69
      have T5d := T5.up n69
      have R4d : Row w9 gA aA cA za := ⟨oA, pA, qA⟩
      clear R1c R2c R3c T5 o8 o9 oA pA qA n7 n8 n9 n69 N6 Ya
      have TA := Two.new w9 (.bool true) (.slice aA za.length cA) 31
      have n10 : Below w9.heap.size w9 (w9.alloc (.cells #[.bool true, .slice aA za.length cA] 31)) := (Below.refl _ _).alloc (Nat.le_refl _) _
      have T5e := T5d.up n10
      have f1 := T5e.c1
      have f1' := T5d.c1
      have l59 : w5.heap.size < w9.heap.size := T5d.lt
      go_wp2_with fail
      generalize w9.alloc (.cells #[.bool true, .slice aA za.length cA] 31) = wB at *
      have NB := nxt N9 n10
      have R1e := R1d.up n10
      have R2e := R2d.up n10
      have R3e := R3d.up n10
      have R4e := R4d.up n10
      clear R1d R2d R3d R4d T5d n10 N9 f1 f1' l59
      refine (lwCopy_any wB _ _ c7 ys' R3e.1.rd R3e.2.1 (by omega)).mono ?_
      rintro e wC ⟨⟨aC, cC, gC, rfl, oC, _, _, _⟩, nC⟩
      go_wp2_with fail
      refine (lwCopy_any wC _ _ c1 xs (R1e.up nC).1.rd R1e.2.1 (by omega)).mono ?_
      rintro e wD ⟨⟨aD, cD, gD, rfl, oD, _, _, _⟩, nD⟩
      go_wp2_with fail
      refine (implNumSub_any wD _ _ _ _ cC cD ys' xs (oC.up nD).rd oD.rd hY.1.1 hx).mono ?_
      rintro e wE ⟨tb, zb, Yb, ⟨aE, cE, gE, rfl, oE, pE, qE, _⟩, nE⟩
      have nBE := nxt (nxt nC nD) nE
      have NE := nxt NB nBE
      have Cb : tb = true ∧ Canon zb (bval us) := by
        rcases Yb with ⟨_, c, hc, h⟩ | ⟨h, _⟩
        · rw [Vy.out, show bval xs + bval us - bval xs = bval us by omega] at hc
          have hcl := canon_le hu hc
          rcases h with ⟨_, rfl, rfl⟩ | ⟨h, _⟩
          · exact ⟨rfl, hc⟩
          · omega
        · exact absurd ⟨hY.2, hA.1, by rw [Vy.out]; omega⟩ h
      obtain ⟨rfl, Cb⟩ := Cb
      have TE := Two.new wE (.bool true) (.slice aE zb.length cE) 31
      have nF : Below wE.heap.size wE (wE.alloc (.cells #[.bool true, .slice aE zb.length cE] 31)) := (Below.refl _ _).alloc (Nat.le_refl _) _
      have nBF := nxt nBE nF
      have NF := nxt NE nF
      have T5f := T5e.up nBF
      have TAf := TA.up nBF
      have K : Kit w5.heap.size w9.heap.size wE.heap.size (.slice aA za.length cA) (.slice aE zb.length cE) g1 g2 gA gE a1 a2 aA aE c1 c2 cA cE xs us za zb w (wE.alloc (.cells #[.bool true, .slice aE zb.length cE] 31)) :=
        ⟨NF, T5f.c0, TAf.c0, TE.c0, TAf.c1, TE.c1, R1e.up nBF, R2e.up nBF, R4e.up nBF, (show Row wE gE aE cE zb from ⟨oE, pE, qE⟩).up nF⟩
      clear R1e R2e R3e R4e T5e TA oC oD oE pE qE nC nD nE nBE NB NE Yb nBF T5f TAf TE Vy x0 u0 nF
      have k1 := K.k1
      have k2 := K.k2
      have k3 := K.k3
      have k4 := K.k4
      have k5 := K.k5
      go_wp2_with fail
      generalize wE.alloc (.cells #[.bool true, .slice aE zb.length cE] 31) = wF at *
      have KD := K.up ((Below.refl wF.heap.size wF).drew)
      obtain ⟨KP, hKP⟩ : ∃ KP : World → Prop, KP = Kit w5.heap.size w9.heap.size wE.heap.size (.slice aA za.length cA) (.slice aE zb.length cE) g1 g2 gA gE a1 a2 aA aE c1 c2 cA cE xs us za zb w := ⟨_, rfl⟩
      have HF : Hid (∀ W, KP W → Below w.heap.size w W ∧ W.cell? ⟨w5.heap.size, 0, none⟩ = some (.bool true) ∧ W.cell? ⟨w9.heap.size, 0, none⟩ = some (.bool true) ∧ W.cell? ⟨wE.heap.size, 0, none⟩ = some (.bool true) ∧ W.cell? ⟨w9.heap.size, 1, none⟩ = some (.slice aA za.length cA) ∧ W.cell? ⟨wE.heap.size, 1, none⟩ = some (.slice aE zb.length cE)) := by
        intro W h
        rw [hKP] at h
        exact ⟨h.nb, h.k1, h.k2, h.k3, h.k4, h.k5⟩
      have HT1 : Hid (∀ W, KP W → Calls Try.prog 18 #[.slice a1 xs.length c1] W fun e w' => ∃ aT cT gT, e = .returned (.slice aT za.length cT) ∧ Own w' gT aT .u8 za ∧ KP w') := by
        intro W h
        rw [hKP] at h ⊢
        refine (specNumTrim_any W _ _ c1 xs h.r1.1.rd hx h.r1.2.1 h.r1.2.2 (by omega)).mono ?_
        rintro e w' ⟨cs, C, ⟨aT, cT, gT, rfl, oT, _, _, _⟩, nT⟩
        obtain rfl := (C.1 hA.1).uniq Ca
        exact ⟨aT, cT, gT, rfl, oT, h.up nT⟩
      have HT2 : Hid (∀ W, KP W → Calls Try.prog 18 #[.slice a2 us.length c2] W fun e w' => ∃ aT cT gT, e = .returned (.slice aT zb.length cT) ∧ Own w' gT aT .u8 zb ∧ KP w') := by
        intro W h
        rw [hKP] at h ⊢
        refine (specNumTrim_any W _ _ c2 us h.r2.1.rd hu h.r2.2.1 h.r2.2.2 (by omega)).mono ?_
        rintro e w' ⟨cs, C, ⟨aT, cT, gT, rfl, oT, _, _, _⟩, nT⟩
        obtain rfl := (C.1 hA.2).uniq Cb
        exact ⟨aT, cT, gT, rfl, oT, h.up nT⟩
      have HS1 : Hid (∀ W aT cT, KP W → (∃ gT, Own W gT aT .u8 za) → Calls Try.prog 42 #[.slice aA za.length cA, .slice aT za.length cT] W fun e w' => e = .returned (.bool true) ∧ w' = W) := by
        rintro W aT cT h ⟨gT, o⟩
        rw [hKP] at h
        exact lwSame_same W _ _ _ _ cA cT za h.r3.1.rd o.rd
      have HS2 : Hid (∀ W aT cT, KP W → (∃ gT, Own W gT aT .u8 zb) → Calls Try.prog 42 #[.slice aE zb.length cE, .slice aT zb.length cT] W fun e w' => e = .returned (.bool true) ∧ w' = W) := by
        rintro W aT cT h ⟨gT, o⟩
        rw [hKP] at h
        exact lwSame_same W _ _ _ _ cE cT zb h.r4.1.rd o.rd
      rw [← hKP] at KD
      clear K hKP Ca Cb hY hA NF hfd Y' hx hu lx lu ha hb h1
      go_region_with (first
        | (go_at_call_of 18 (Value.slice a1 xs.length c1); refine ((unhide HT1) _ ?_).mono ?_; (first | exact KD | assumption); rintro e w' ⟨aT, cT, gT, rfl, oT, K'⟩; obtain ⟨nb, m1, m2, m3, m4, m5⟩ := HF.out _ K')
        | (go_at_call_of 18 (Value.slice a2 us.length c2); refine ((unhide HT2) _ ?_).mono ?_; (first | exact KD | assumption); rintro e w' ⟨aT, cT, gT, rfl, oT, K'⟩; obtain ⟨nb, m1, m2, m3, m4, m5⟩ := HF.out _ K')
        | (go_at_call_of 42 (Value.slice aA za.length cA); refine ((unhide HS1) _ _ _ ?_ ?_).mono ?_; assumption; exact ⟨_, by assumption⟩; rintro e w' ⟨rfl, rfl⟩)
        | (go_at_call_of 42 (Value.slice aE zb.length cE); refine ((unhide HS2) _ _ _ ?_ ?_).mono ?_; assumption; exact ⟨_, by assumption⟩; rintro e w' ⟨rfl, rfl⟩))
      all_goals
        go_wp2
        go_ret
        exact ⟨rfl, by assumption⟩
  · have t1 : decide ((1048576 : Int) < (code.length : Int)) = true := by simp; omega
    go_enter Try.func11, Try.ntmps11
    go_wp2
    go_ret
    exact ⟨rfl, Below.refl _ _⟩
end Go.Proofs.Ythdjopkmlcdoeaa
