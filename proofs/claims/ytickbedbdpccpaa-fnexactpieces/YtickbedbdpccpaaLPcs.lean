
/-
  The law of Pieces (written by gens/lpcs.py).
-/
import Derived.Test.YtickbedbdpccpaaPcJ
import Derived.Test.YtickbedbdpccpaaPcH
namespace Go.Proofs.Ytickbedbdpccpaa
open Go Go.RowKit

theorem pcs_bd (xs : List Int) (hx : xs.length ≤ 1048576) : (pces xs (pcN xs)).length ≤ 1000 ∧ (∀ i, i < (pces xs (pcN xs)).length → ((pces xs (pcN xs)).getD i []).length ≤ 2048) := by
  rw [pces_len]
  refine ⟨by unfold pcN; omega, fun i hi => ?_⟩
  have : (pces xs (pcN xs)).getD i [] = pce xs i := by simp [pces, hi]
  rw [this, pce_len]
  omega
/-- A row between two places of memory. -/
structure BRm (w : World) (B M : Nat) (v : Value) (its : List (List Int)) (bs : List Plc) : Prop where
  r : BRow w B v its bs
  o : ∀ k, v.ownBlock = some k → k < M
  q : ∀ i, i < its.length → 0 < (its.getD i []).length → (bs.getD i plc0).q < M
theorem BRow.m {w : World} {B : Nat} {v : Value} {its : List (List Int)} {bs : List Plc} (h : BRow w B v its bs) : BRm w B w.heap.size v its bs := ⟨h, fun k hk => (h.o.lt k hk).2, fun _ hi h0 => h.lt hi h0⟩
theorem BRm.keep {w w' : World} {B M : Nat} {v : Value} {its : List (List Int)} {bs : List Plc} (h : BRm w B M v its bs) (hb : ∀ k, B ≤ k → k < M → w'.heap[k]? = w.heap[k]?) : BRm w' B M v its bs := by
  refine ⟨⟨⟨h.r.o.1, ?_⟩, h.r.l, fun i hi => ?_, h.r.h, h.r.d⟩, h.o, h.q⟩
  · rcases h.r.o.2 with h' | ⟨g, cap, cur, rfl, hbg, hg, hnc, hcm, hcs, ht⟩
    · exact .inl h'
    · exact .inr ⟨g, cap, cur, rfl, hbg, by rw [hb g hbg (h.o g rfl)]; exact hg, hnc, hcm, hcs, ht⟩
  · exact (h.r.b i hi).of fun h0 => hb _ (h.r.h i hi h0).1 (h.q i hi h0)
theorem BRm.up {w w' : World} {B M : Nat} {v : Value} {its : List (List Int)} {bs : List Plc} (h : BRm w B M v its bs) (n : Below w.heap.size w w') (hM : M ≤ w.heap.size) : BRm w' B M v its bs := h.keep (fun k _ hk => n.block k (by omega))
theorem BRm.within {w : World} {B M : Nat} {v : Value} {its : List (List Int)} {bs : List Plc} (h : BRm w B M v its bs) {p : Nat} (hp : lstS its bs p) : B ≤ p ∧ p < M := by
  obtain ⟨i, hi, h0, rfl⟩ := hp
  exact ⟨(h.r.h i hi h0).1, h.q i hi h0⟩
theorem NewB.at {B : Nat} {w : World} {e : Ending} {xs : List Int} (h : NewB B w e xs) : ∃ a c bs, e = .returned (.slice a (pces xs (pcN xs)).length c) ∧ BRm w B w.heap.size (.slice a (pces xs (pcN xs)).length c) (pces xs (pcN xs)) bs := by
  obtain ⟨v, bs, he, R⟩ := h
  obtain ⟨a, c, rfl, -⟩ := R.slice
  exact ⟨a, c, bs, he, R.m⟩
theorem Bsy.below {S : Nat → Prop} {C : Nat} {w w' : World} (n : Bsy S w w') (h : ∀ p, S p → C ≤ p) : Below C w w' := ⟨n.os, n.tape, n.output, Nat.le_of_eq n.size.symm, fun k hk => n.block k (fun hs => by have := h k hs; omega)⟩

set_option maxRecDepth 100000 in
set_option maxHeartbeats 8000000 in
theorem pieces_law (w : World) (g0 : Nat) (a0 : Option Addr) (c0 : Nat) (X0 : List Int) (hX0 : Rd w g0 a0 .u8 X0) (_bX0 : Byt X0) :
    Calls Try.prog 4 #[.slice a0 X0.length c0] w fun e w' => e = .returned (.bool true) ∧ Below w.heap.size w w' := by
  by_cases q0 : X0.length ≤ 1048576
  · have u0 : decide ((1048576 : Int) < (X0.length : Int)) = false := by simp; omega
    have SP := fun W g off c h (k : X0.length ≤ c) => specPieces_any W g off c X0 h k q0
    have IM := fun W g a c h (k : X0.length ≤ c) => implPieces_any W g a c X0 h k q0
    obtain ⟨hl, hy⟩ := pcs_bd X0 q0
    have Z0 := psB_bd (n := 1) (by decide) hy _ (Nat.le_refl _)
    have NA : ∀ {B : Nat} {w : World} {e : Ending}, NewB B w e X0 → _ := fun h => h.at
    obtain ⟨its, hi⟩ : ∃ its, its = pces X0 (pcN X0) := ⟨_, rfl⟩
    simp only [← hi] at NA hl hy Z0
    clear hi
    have HL := hide hl
    have HY := hide hy
    obtain ⟨z, hz⟩ : ∃ z, z = psB its 1 its.length := ⟨_, rfl⟩
    have HZ := hide hz
    rw [← hz] at Z0
    have v2 : decide (z < 0) = false := by simp; omega
    clear hl hy Z0 hz
    go_enter Try.func4, Try.ntmps4
    have N : Below w.heap.size w w := Below.refl _ _
    go_wp2_with fail
    refine (toByteS_any w g0 a0 c0 X0 (hX0.up N) q0).mono ?_
    rintro e w1 ⟨rfl, A0, m1⟩
    have lA0 := A0.lt
    have zm1 := m1.size
    replace N := nxt N m1
    clear m1
    go_wp2_with fail
    refine (SP w1 _ _ _ A0.own0.rd (Nat.le_refl _)).mono ?_
    rintro e w2 ⟨NR, m2⟩
    obtain ⟨aS, cS, bS, rfl, RS⟩ := NA NR
    clear NR
    have zm2 := m2.size
    replace A0 := A0.up m2
    replace N := nxt N m2
    clear m2
    clear A0
    go_wp2_with fail
    refine (toByteS_any w2 g0 a0 c0 X0 (hX0.up N) q0).mono ?_
    rintro e w3 ⟨rfl, B0, m3⟩
    have lB0 := B0.lt
    have zm3 := m3.size
    replace RS := RS.up m3 (by omega)
    replace N := nxt N m3
    clear m3
    go_wp2_with fail
    refine (IM w3 _ _ _ B0.own0.rd (Nat.le_refl _)).mono ?_
    rintro e w4 ⟨NR, m4⟩
    obtain ⟨aI, cI, bI, rfl, RI⟩ := NA NR
    clear NR
    have zm4 := m4.size
    replace RS := RS.up m4 (by omega)
    replace B0 := B0.up m4
    replace N := nxt N m4
    clear m4
    go_wp2_with fail
    refine (eqBlobS_same w4 _ _ _ _ its _ _ RI.r RS.r HL.out HY.out).mono ?_
    rintro e w5 ⟨rfl, m5⟩
    have zm5 := m5.size
    replace RS := RS.up m5 (by omega)
    replace B0 := B0.up m5
    replace RI := RI.up m5 (by omega)
    replace N := nxt N m5
    clear m5
    go_wp2_with fail
    refine (toByteS_any w5 g0 a0 c0 X0 (hX0.up N) q0).mono ?_
    rintro e w6 ⟨rfl, E0, m6⟩
    have lE0 := E0.lt
    have zm6 := m6.size
    replace RS := RS.up m6 (by omega)
    replace B0 := B0.up m6
    replace RI := RI.up m6 (by omega)
    replace N := nxt N m6
    clear m6
    go_wp2_with fail
    refine (eqByteS_same w6 _ _ _ _ _ _ X0 B0.own0.rd E0.own0.rd q0).mono ?_
    rintro e w7 ⟨rfl, m7⟩
    have zm7 := m7.size
    replace RS := RS.up m7 (by omega)
    replace B0 := B0.up m7
    replace RI := RI.up m7 (by omega)
    replace E0 := E0.up m7
    replace N := nxt N m7
    clear m7 E0
    go_wp2_with fail
    refine (markByteS_any w7 _ _ _ X0 (1) B0.own0 q0 (by omega) (by omega)).mono ?_
    rintro e w8 ⟨rfl, -, O0⟩
    replace RS := RS.keep (fun k _ hk => O0.block k (by omega))
    replace RI := RI.keep (fun k hk _ => O0.block k (by omega))
    replace N := N.trans (O0.below (B := w.heap.size) (by omega))
    have z8 : w7.heap.size ≤ w8.heap.size := Nat.le_of_eq O0.size.symm
    clear O0 B0
    have v1 : decide (1 + (X0.length : Int) < 0) = false := by simp; omega
    go_wp2_with fail
    refine (eqBlobS_same w8 _ _ _ _ its _ _ RI.r RS.r HL.out HY.out).mono ?_
    rintro e w9 ⟨rfl, m9⟩
    have zm9 := m9.size
    replace RS := RS.up m9 (by omega)
    replace RI := RI.up m9 (by omega)
    replace N := nxt N m9
    clear m9
    go_wp2_with fail
    have MA := markBlobS_any w9 _ _ its bI 1 RI.r HL.out HY.out (by decide) (by decide)
    rw [← HZ.out] at MA
    refine MA.mono ?_
    rintro e w10 ⟨rfl, MK, OA⟩
    clear MA
    have yA := OA.size
    have HSH := hide RI.r.shape
    replace RS := RS.keep (fun k _ hk => OA.block k (fun hs => by have := RI.within hs; omega))
    replace N := N.trans (OA.below (fun p hs => by have := RI.within hs; have := N.size; omega))
    have z10 : w9.heap.size ≤ w10.heap.size := by omega
    clear OA RI yA
    go_wp2_with fail
    have HE1 := heldBlobS_any w10 _ its bI 1 HSH.out MK HL.out HY.out (by decide) (by decide)
    rw [← HZ.out] at HE1
    refine HE1.mono ?_
    rintro e w' ⟨rfl, hw⟩
    have hw := hw.symm
    subst hw
    clear HE1
    go_wp2_with fail
    refine (toByteS_any w10 g0 a0 c0 X0 (hX0.up N) q0).mono ?_
    rintro e w11 ⟨rfl, D0, m11⟩
    have lD0 := D0.lt
    have zm11 := m11.size
    replace RS := RS.up m11 (by omega)
    replace MK := MK.up m11
    replace N := nxt N m11
    clear m11
    go_wp2_with fail
    refine (IM w11 _ _ _ D0.own0.rd (Nat.le_refl _)).mono ?_
    rintro e w12 ⟨NR, m12⟩
    obtain ⟨aJ, cJ, bJ, rfl, RJ⟩ := NA NR
    clear NR
    have zm12 := m12.size
    replace RS := RS.up m12 (by omega)
    replace MK := MK.up m12
    replace D0 := D0.up m12
    replace N := nxt N m12
    clear m12
    go_wp2_with fail
    refine (eqBlobS_same w12 _ _ _ _ its _ _ RJ.r RS.r HL.out HY.out).mono ?_
    rintro e w13 ⟨rfl, m13⟩
    have zm13 := m13.size
    replace RS := RS.up m13 (by omega)
    replace MK := MK.up m13
    replace D0 := D0.up m13
    replace RJ := RJ.up m13 (by omega)
    replace N := nxt N m13
    clear m13
    go_wp2_with fail
    have HE2 := heldBlobS_any w13 _ its bI 1 HSH.out MK HL.out HY.out (by decide) (by decide)
    rw [← HZ.out] at HE2
    refine HE2.mono ?_
    rintro e w' ⟨rfl, hw⟩
    have hw := hw.symm
    subst hw
    clear HE2
    go_wp2
    go_ret
    exact ⟨rfl, N⟩
  · have u0 : decide ((1048576 : Int) < (X0.length : Int)) = true := by simp; omega
    go_enter Try.func4, Try.ntmps4
    go_wp2
    go_ret
    exact ⟨rfl, Below.refl _ _⟩
end Go.Proofs.Ytickbedbdpccpaa
