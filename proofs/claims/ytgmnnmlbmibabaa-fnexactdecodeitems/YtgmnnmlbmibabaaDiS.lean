
/-
  The model's DecodeItem.
-/
import Derived.Test.YtgmnnmlbmibabaaIcS
import Derived.Test.YtgmnnmlbmibabaaIeS
import Derived.Test.YtgmnnmlbmibabaaItQ
import Derived.Test.YtgmnnmlbmibabaaFoA
import Derived.Test.YtgmnnmlbmibabaaRgQ
namespace Go.Proofs.Ytgmnnmlbmibabaa
open Go Go.RowKit

/-- What the answer is, where nothing was read. -/
theorem dit_none {xs : List Int} {i : Int} (h : itZ xs i = none) : diT (itZ xs i) = false ∧ dtT (itZ xs i) = 0 ∧ dbT xs (itZ xs i) = [] ∧ dnT (itZ xs i) = 0 := by rw [h]; exact ⟨rfl, rfl, rfl, rfl⟩
theorem newT_none (B : Nat) (w : World) {xs : List Int} {i : Int} (h : itZ xs i = none) : NewT B w (.returned (.agg #[.bool false, .int .i64 0, .slice none 0 0, .int .i64 0])) (diT (itZ xs i)) (dtT (itZ xs i)) (dbT xs (itZ xs i)) (dnT (itZ xs i)) := by
  rw [h]
  exact ⟨none, 0, B, rfl, Own.nil _ _ _ _, fun _ => rfl, Nat.le_refl _, Nat.le_refl _⟩

set_option maxHeartbeats 2000000 in
theorem specDecodeItem_any (w : World) (g : Nat) (a : Option Addr) (c : Nat) (xs : List Int) (i : Int) (hr : Rd w g a .u8 xs) (hb : Byt xs) (hc : xs.length ≤ c) (hn : xs.length ≤ 1048576) :
    Calls Try.prog 20 #[.slice a xs.length c, .int .i64 i] w fun e w' => NewT w.heap.size w' e (diT (itZ xs i)) (dtT (itZ xs i)) (dbT xs (itZ xs i)) (dnT (itZ xs i)) ∧ Below w.heap.size w w' := by
  have n0 : Below w.heap.size w (w.alloc (.cells #[.bool false, .int .i64 0, .slice none 0 0, .int .i64 0] 42)) := (Below.refl _ _).alloc (Nat.le_refl _) _
  have T0 := Fo.new w (.bool false) (.int .i64 0) (.slice none 0 0) (.int .i64 0) 42
  by_cases hi : i < 0
  · have IZ := hide (itZ_out (xs := xs) (i := i) (by omega))
    have t1 : decide (i < 0) = true := decide_eq_true hi
    go_enter Try.func20, Try.ntmps20
    go_wp2
    exact bodyPost_ret (v := .agg #[.bool false, .int .i64 0, .slice none 0 0, .int .i64 0]) (by simp [results, Try.results20, go_sem]) rfl ⟨newT_none _ _ IZ.out, n0⟩
  · have t1 : decide (i < 0) = false := decide_eq_false hi
    by_cases hl : (xs.length : Int) ≤ i
    · have IZ := hide (itZ_out (xs := xs) (i := i) (by omega))
      have t2 : decide ((xs.length : Int) ≤ i) = true := decide_eq_true hl
      go_enter Try.func20, Try.ntmps20
      go_wp2
      exact bodyPost_ret (v := .agg #[.bool false, .int .i64 0, .slice none 0 0, .int .i64 0]) (by simp [results, Try.results20, go_sem]) rfl ⟨newT_none _ _ IZ.out, n0⟩
    · have t2 : decide ((xs.length : Int) ≤ i) = false := decide_eq_false hl
      obtain ⟨k, rfl⟩ := Int.eq_ofNat_of_zero_le (show 0 ≤ i by omega)
      have ZA : Hid (itZ xs (k : Int) = itA xs k) := by show itZ xs (k : Int) = _; unfold itZ; rw [if_pos (by omega)]; rfl
      obtain ⟨off, rfl, hcell⟩ := hr (by omega)
      have hk : k < xs.length := by omega
      have gl := hr.lt (by omega)
      have ck := (n0.cell (p := ⟨g, off + k, none⟩) gl).trans (hcell k hk)
      have kl : (k : Int) < (xs.length : Int) := by omega
      by_cases hx : xs.getD k 0 = 0
      · have IZ : Hid (itZ xs (k : Int) = none) := by show itZ xs (k : Int) = none; rw [ZA.out]; exact itA_zero hx
        rw [hx] at ck
        clear hcell hx
        go_enter Try.func20, Try.ntmps20
        go_wp2
        exact bodyPost_ret (v := .agg #[.bool false, .int .i64 0, .slice none 0 0, .int .i64 0]) (by simp [results, Try.results20, go_sem]) rfl ⟨newT_none _ _ IZ.out, n0⟩
      · have b0 := hb k
        obtain ⟨R, hR⟩ : ∃ R, R = xs.drop k := ⟨_, rfl⟩
        have RB : Byt R := fun j => by rw [hR, getD_dropA]; exact hb _
        have RL : R.length = xs.length - k := by rw [hR, List.length_drop]
        have MT := fun j h2 hj hm => hide (itA_mt hb hk hx (k := j) h2 hj hm)
        have NO := fun h => hide (itA_no hb (i := k) h)
        simp only [← hR] at MT NO
        have RR : Rd w g (some ⟨g, off + k, none⟩) .u8 R := by
          obtain ⟨o, e, h⟩ := hr.dropA k hk
          cases e
          rw [hR]
          exact h
        have t3 : decide (xs.getD k 0 = 0) = false := decide_eq_false hx
        have t4 : (xs.getD k 0 == 0) = false := by simpa using hx
        have HX := hide hx
        have HR := hide hR
        clear hx hR hcell
        generalize hxk : xs.getD k 0 = x at *
        have HXK := hide hxk
        clear hxk
        have HX0 : Hid (R.getD 0 0 = x) := by show R.getD 0 0 = x; rw [HR.out, getD_dropA]; exact HXK.out
        obtain ⟨L, hL⟩ : ∃ L, L = R.length := ⟨_, rfl⟩
        have L1 : xs.length - k = L := by omega
        obtain ⟨D, hD⟩ : ∃ D, c - k = D := ⟨_, rfl⟩
        have LD : L ≤ D := by omega
        have kc : ¬ (c = k) := by omega
        have kcc : (k : Int) ≤ (c : Int) := by omega
        have kll : (k : Int) ≤ (xs.length : Int) := by omega
        have HL := hide hL
        have HRL := hide RL
        clear hL RL
        go_enter Try.func20, Try.ntmps20
        go_wp2
        go_loopw [6] (fun v wr => ∃ j : Nat, 2 ≤ j ∧ j ≤ 5 ∧ v = .int .i64 (j : Int) ∧ Hid (∀ m, 2 ≤ m → m < j → m ≤ R.length → mtK R m = false) ∧ Fo wr w.heap.size (.bool false) (.int .i64 0) (.slice none 0 0) (.int .i64 0) ∧ Below w.heap.size w wr) (fun v _ => 5 - (intOf v).toNat)
        case atStart => exact ⟨2, by omega, by omega, rfl, fun m h2 hm => absurd h2 (by omega), T0, n0⟩
        case round =>
          obtain ⟨j, j2, j5, rfl, hno, T, N⟩ := hrel
          have gw : g < wr.heap.size := by have := N.size; omega
          have c0 := T.c0
          have c1 := T.c1
          have c2 := T.c2
          have c3 := T.c3
          have f0 := T.fr 0
          have f1 := T.fr 1
          have f2 := T.fr 2
          have f3 := T.fr 3
          have cR : Hid (∀ m, m < L → wr.cell? ⟨g, off + k + m, none⟩ = some (.int .u8 (R.getD m 0))) := fun m hm => by
            obtain ⟨o, e, h⟩ := (RR.up N) (by rw [← HL.out]; omega)
            cases e
            exact h m (by rw [← HL.out]; exact hm)
          have TZ := T.set (.bool false) (.int .i64 0) (.slice none 0 0) (.int .i64 0)
          have NZ : Below w.heap.size w (set4 wr w.heap.size (.bool false) (.int .i64 0) (.slice none 0 0) (.int .i64 0)) := N.trans ((only_set4 _ _ _ _ _ _).below (Nat.le_refl _))
          obtain rfl | rfl | rfl | rfl : j = 2 ∨ j = 3 ∨ j = 4 ∨ j = 5 := by omega
          · rw [show ((2 : Nat) : Int) = 2 from rfl]
            by_cases hLj : L < 2
            · have IZ : Hid (itZ xs (k : Int) = none) := by show itZ xs (k : Int) = none; rw [ZA.out]; exact (NO fun m h2 h4 hm => by rw [← HL.out] at hm; exact hno.out m h2 (by omega) (by rw [← HL.out]; exact hm)).out
              have u1 : decide ((L : Int) < 2) = true := by simp; omega
              clear cR hno MT NO
              go_wp2
              change bodyPost _ _ _ _ _ (set4 wr w.heap.size (.bool false) (.int .i64 0) (.slice none 0 0) (.int .i64 0))
              exact bodyPost_ret (v := .agg #[.bool false, .int .i64 0, .slice none 0 0, .int .i64 0]) (by simp [results, Try.results20, go_sem, TZ.c0, TZ.c1, TZ.c2, TZ.c3]) rfl ⟨newT_none _ _ IZ.out, NZ⟩
            · have u1 : decide ((L : Int) < 2) = false := by simp; omega
              have lj : 2 ≤ L := by omega
              have r0 := cR.out 0 (by omega)
              rw [Nat.add_zero, HX0.out] at r0
              have r1 := cR.out 1 (by omega)
              have b1 := RB 1
              have i1 : (1 : Int) < (L : Int) := by omega
              have NE : nK R 2 = (R.getD 1 0).toNat := rfl
              have nb := nK_bd RB 2
              have MM : Hid (mtK R 2 = (decide (2 + nK R 2 ≤ R.length) && decide (lenL (nK R 2) = (R.drop 1).take 1))) := rfl
              have SL : Hid (((R.drop 1).take 1).length = 1) := by show _ = _; rw [List.length_take, List.length_drop, ← HL.out]; omega
              have SR : Rd wr g (some ⟨g, off + k + 1, none⟩) .u8 ((R.drop 1).take 1) := by
                obtain ⟨o, e, h⟩ := (RR.up N).dropA 1 (by rw [← HL.out]; omega)
                cases e
                exact h.takeA _
              have SB : Byt ((R.drop 1).take 1) := fun m => by
                by_cases hm : m < 1
                · rw [getD_takeA _ _ _ hm, getD_dropA]; exact RB _
                · rw [List.getD_eq_getElem?_getD, List.getElem?_eq_none (by rw [SL.out]; omega)]; decide
              have BW : Hid (dbT xs (some (x, k + 2, nK R 2)) = (R.drop 2).take (nK R 2)) := by show (xs.drop (k + 2)).take _ = _; rw [HR.out, List.drop_drop]
              obtain ⟨n, hnn⟩ : ∃ n, n = nK R 2 := ⟨_, rfl⟩
              rw [← hnn] at NE nb MM BW
              have MT' := fun h => hide (MT 2 (by omega) (by rw [← HL.out]; exact lj) h).out
              simp only [← hnn] at MT'
              have NN : R.getD 1 0 = (n : Int) := by omega
              rw [NN] at r1
              clear NE NN hnn b1
              have HNO : Hid (mtK R 2 = false → ∀ m, 2 ≤ m → m < 2 + 1 → m ≤ R.length → mtK R m = false) := fun h m h2 hm hl => by
                by_cases e : m = 2
                · rw [e]; exact h
                · exact hno.out m h2 (by omega) hl
              clear cR hno MT NO
              by_cases hin : 2 + n ≤ L
              · have v1 : decide ((L : Int) < 2 + (n : Int)) = false := by simp; omega
                have LN := fun W => hide (l10Length_any W n nb)
                have LB := lenL_byt n nb
                have SMH : Hid (∀ W g2 a2 c2 cc, Below wr.heap.size wr W → Rd W g2 a2 .u8 (lenL n) → Calls Try.prog 36 #[.slice a2 (lenL n).length c2, .slice (some ⟨g, off + k + 1, none⟩) 1 cc] W fun e w' => e = .returned (.bool (decide (lenL n = (R.drop 1).take 1))) ∧ w' = W) := fun W g2 a2 c2 cc hW h2 => by
                  have := l1Same_any W g2 g a2 (some ⟨g, off + k + 1, none⟩) c2 cc (lenL n) ((R.drop 1).take 1) h2 (SR.up hW) LB SB
                  rwa [SL.out] at this
                have w0 : IntKind.i64.wrap ((2 : Int) + (n : Int)) = (2 : Int) + (n : Int) := by rw [wrap_i64]; omega
                have e1 : (2 : Int) ≤ (L : Int) := by omega
                have ck1 : ¬ (D = 1) := by omega
                have ec : (2 : Int) ≤ (D : Int) := by omega
                by_cases he : lenL n = (R.drop 1).take 1
                · have MTT := MT' (by rw [MM.out, decide_eq_true he, decide_eq_true (by rw [← HL.out]; exact hin)]; rfl)
                  rw [decide_eq_true he] at SMH
                  have IS : Hid (itZ xs (k : Int) = some (x, k + 2, n)) := by show itZ xs (k : Int) = _; rw [ZA.out]; exact MTT.out
                  have BL : Hid (((R.drop 2).take n).length = n) := by show _ = _; rw [List.length_take, List.length_drop, ← HL.out]; omega
                  have RT := fun ww (m : Below wr.heap.size wr ww) => hide (rd_cutP (RR.up (nxt N m)) (c := D) (by rw [← HL.out]; exact LD) 2 n)
                  have CPH : Hid (∀ ww cc, Below wr.heap.size wr ww → Calls Try.prog 38 #[.slice (cutP g (off + k) D 2) n cc] ww fun e w' => NewRow ww.heap.size w' e .u8 ((R.drop 2).take n) ∧ Below ww.heap.size ww w') := fun ww cc m => by
                    have := l1Copy_any ww g _ cc _ (RT ww m).out (fun h => absurd h (cutP_some _ _ _ _)) (by rw [BL.out]; omega)
                    rwa [BL.out] at this
                  clear MT' HNO MM SR SB SL RR TZ NZ he LB RT c0 c1 c2 c3 f0 f1 f2 f3 MTT
                  generalize lenL n = ls at *
                  go_upto_region 13 with fail
                  refine region_guard (fun i => [Fact.eq (.int .i64 2), Fact.eq (.int .i64 (n : Int)), Fact.eq (.int .i64 (2 + (n : Int))), Fact.eq (.slice (some ⟨g, off + k, none⟩) L D), Fact.eq (.int .i64 (L : Int)), Fact.eq (.bool false), Fact.eq (.bool false), Fact.eq (.int .i64 (n : Int)), RDn ls, Fact.eq (.slice (some ⟨g, off + k, none⟩) L D), Fact.eq (.int .i64 2), Fact.eq (.slice (some ⟨g, off + k + 1, none⟩) 1 (D - 1)), Fact.eq (.bool true), Fact.eq (.bool false), Fact.eq (.bool false)].getD i Fact.no) (by kernel_rfl) (by kernel_rfl) ?_ ?_ ?_
                  · intro i hi
                    have hiN : i < 15 := hi
                    obtain rfl | rfl | rfl | rfl | rfl | rfl | rfl | rfl | rfl | rfl | rfl | rfl | rfl | rfl | rfl : i = 0 ∨ i = 1 ∨ i = 2 ∨ i = 3 ∨ i = 4 ∨ i = 5 ∨ i = 6 ∨ i = 7 ∨ i = 8 ∨ i = 9 ∨ i = 10 ∨ i = 11 ∨ i = 12 ∨ i = 13 ∨ i = 14 := by omega
                    · refine step_pure rfl fun a ww hb hw hf => ?_
                      have e6 : a.tmps[6]?.getD undef = .int .i64 2 := gdv (hb.2.2 6 (by kernel_rfl))
                      exact ⟨.int .i64 2, by simp [go_sem, e6], rfl⟩
                    · refine step_pure rfl fun a ww hb hw hf => ?_
                      have e7 : a.tmps[7]?.getD undef = .int .i64 (n : Int) := gdv (hb.2.2 7 (by kernel_rfl))
                      exact ⟨.int .i64 (n : Int), by simp [go_sem, e7], rfl⟩
                    · refine step_pure rfl fun a ww hb hw hf => ?_
                      have e57 : a.tmps[57]?.getD undef = .int .i64 2 := gdv (hf 0 57 (by kernel_rfl))
                      have e58 : a.tmps[58]?.getD undef = .int .i64 (n : Int) := gdv (hf 1 58 (by kernel_rfl))
                      exact ⟨.int .i64 (2 + (n : Int)), by simp [go_sem, e57, e58, w0], rfl⟩
                    · refine step_pure rfl fun a ww hb hw hf => ?_
                      have e5 : a.tmps[5]?.getD undef = .slice (some ⟨g, off + k, none⟩) L D := gdv (hb.2.2 5 (by kernel_rfl))
                      exact ⟨.slice (some ⟨g, off + k, none⟩) L D, by simp [go_sem, e5], rfl⟩
                    · refine step_pure rfl fun a ww hb hw hf => ?_
                      have e60 : a.tmps[60]?.getD undef = .slice (some ⟨g, off + k, none⟩) L D := gdv (hf 3 60 (by kernel_rfl))
                      exact ⟨.int .i64 (L : Int), by simp [go_sem, e60], rfl⟩
                    · refine step_pure rfl fun a ww hb hw hf => ?_
                      have e59 : a.tmps[59]?.getD undef = .int .i64 (2 + (n : Int)) := gdv (hf 2 59 (by kernel_rfl))
                      have e61 : a.tmps[61]?.getD undef = .int .i64 (L : Int) := gdv (hf 4 61 (by kernel_rfl))
                      exact ⟨.bool false, by simp [go_sem, e59, e61, v1], rfl⟩
                    · refine step_pure rfl fun a ww hb hw hf => ?_
                      have e62 : a.tmps[62]?.getD undef = .bool false := gdv (hf 5 62 (by kernel_rfl))
                      exact ⟨.bool false, by simp [go_sem, e62], rfl⟩
                    · refine step_pure rfl fun a ww hb hw hf => ?_
                      have e7 : a.tmps[7]?.getD undef = .int .i64 (n : Int) := gdv (hb.2.2 7 (by kernel_rfl))
                      exact ⟨.int .i64 (n : Int), by simp [go_sem, e7], rfl⟩
                    · refine step_callv rfl 37 _ _ rfl (by kernel_rfl) fun a ww hb hw hf => ?_
                      have e64 : a.tmps.getD 64 undef = .int .i64 (n : Int) := hf 7 64 (by kernel_rfl)
                      show Calls Try.prog 37 #[a.tmps.getD 64 undef] ww _
                      rw [e64]
                      exact (LN ww).out.mono (by rintro r w' ⟨⟨a2, c2, g2, rfl, o2, p2, q2, r2⟩, n2⟩; exact ⟨_, rfl, n2, a2, c2, g2, rfl, o2.rd⟩)
                    · refine step_pure rfl fun a ww hb hw hf => ?_
                      have e5 : a.tmps[5]?.getD undef = .slice (some ⟨g, off + k, none⟩) L D := gdv (hb.2.2 5 (by kernel_rfl))
                      exact ⟨.slice (some ⟨g, off + k, none⟩) L D, by simp [go_sem, e5], rfl⟩
                    · refine step_pure rfl fun a ww hb hw hf => ?_
                      have e6 : a.tmps[6]?.getD undef = .int .i64 2 := gdv (hb.2.2 6 (by kernel_rfl))
                      exact ⟨.int .i64 2, by simp [go_sem, e6], rfl⟩
                    · refine step_pure rfl fun a ww hb hw hf => ?_
                      have e66 : a.tmps[66]?.getD undef = .slice (some ⟨g, off + k, none⟩) L D := gdv (hf 9 66 (by kernel_rfl))
                      have e67 : a.tmps[67]?.getD undef = .int .i64 2 := gdv (hf 10 67 (by kernel_rfl))
                      exact ⟨.slice (some ⟨g, off + k + 1, none⟩) 1 (D - 1), by simp [go_sem, e66, e67, ec, ck1, Addr.add], rfl⟩
                    · refine step_callv rfl 36 _ _ rfl (by kernel_rfl) fun a ww hb hw hf => ?_
                      obtain ⟨a2, c2, g2, e65, r65⟩ := hf 8 65 (by kernel_rfl)
                      have e68 : a.tmps.getD 68 undef = .slice (some ⟨g, off + k + 1, none⟩) 1 (D - 1) := hf 11 68 (by kernel_rfl)
                      show Calls Try.prog 36 #[a.tmps.getD 65 undef, a.tmps.getD 68 undef] ww _
                      rw [e65, e68]
                      exact (SMH.out ww g2 a2 c2 _ ⟨hw.os, hw.tape, hw.output, hw.size, hw.block⟩ r65).mono (by rintro r w' ⟨rfl, rfl⟩; exact ⟨_, rfl, Below.refl _ _, rfl⟩)
                    · refine step_pure rfl fun a ww hb hw hf => ?_
                      have e69 : a.tmps[69]?.getD undef = .bool true := gdv (hf 12 69 (by kernel_rfl))
                      exact ⟨.bool false, by simp [go_sem, e69], rfl⟩
                    · exact step_pickF rfl 63 70 6 13 rfl (by kernel_rfl) (by kernel_rfl) rfl rfl rfl
                  · intro i o ho A W hf
                    have hiN : i < 15 := (Array.getElem?_eq_some_iff.1 ho).1
                    obtain rfl | rfl | rfl | rfl | rfl | rfl | rfl | rfl | rfl | rfl | rfl | rfl | rfl | rfl | rfl : i = 0 ∨ i = 1 ∨ i = 2 ∨ i = 3 ∨ i = 4 ∨ i = 5 ∨ i = 6 ∨ i = 7 ∨ i = 8 ∨ i = 9 ∨ i = 10 ∨ i = 11 ∨ i = 12 ∨ i = 13 ∨ i = 14 := by omega
                    · cases ho; exact wanted_none rfl
                    · cases ho; exact wanted_none rfl
                    · cases ho; exact wanted_none rfl
                    · cases ho; exact wanted_none rfl
                    · cases ho; exact wanted_none rfl
                    · cases ho; exact wanted_none rfl
                    · cases ho; exact wanted_none rfl
                    · cases ho; exact wanted_some rfl (by kernel_rfl) (hf 6 63 (by kernel_rfl))
                    · cases ho; exact wanted_some rfl (by kernel_rfl) (hf 6 63 (by kernel_rfl))
                    · cases ho; exact wanted_some rfl (by kernel_rfl) (hf 6 63 (by kernel_rfl))
                    · cases ho; exact wanted_some rfl (by kernel_rfl) (hf 6 63 (by kernel_rfl))
                    · cases ho; exact wanted_some rfl (by kernel_rfl) (hf 6 63 (by kernel_rfl))
                    · cases ho; exact wanted_some rfl (by kernel_rfl) (hf 6 63 (by kernel_rfl))
                    · cases ho; exact wanted_some rfl (by kernel_rfl) (hf 6 63 (by kernel_rfl))
                    · cases ho; exact wanted_none rfl
                  intro A W4 hb' hw hF
                  have e2 := hF 14 71 (by kernel_rfl)
                  obtain ⟨vs, hvs⟩ : ∃ vs : Nat → Value, ∀ d, A.tmps.getD d undef = vs d := ⟨_, fun _ => rfl⟩
                  rw [hvs] at e2
                  rw [puts_guard (md := .any) (by kernel_rfl) rfl hb' vs hvs]
                  clear hb' hF hvs
                  have e3 : vs 71 = .bool false := e2
                  clear e2
                  simp only [puts, e3, Act.put, List.setIfInBounds_toArray, List.set_cons_succ, List.set_cons_zero]
                  clear e3
                  have m2 : Below wr.heap.size wr W4 := ⟨hw.os, hw.tape, hw.output, hw.size, hw.block⟩
                  clear hw
                  have T4 := T.up m2
                  have N4 := nxt N m2
                  have TH : Hid (∀ W, Below W4.heap.size W4 W → W.there w.heap.size 0 4) := fun W h => (T4.up h).there
                  have x4 := (m2.cell (p := ⟨g, off + k, none⟩) gw).trans r0
                  have CX : Hid (∀ W, Below W4.heap.size W4 W → W.cell? ⟨g, off + k, none⟩ = some (.int .u8 x)) := fun W h => (h.cell (p := ⟨g, off + k, none⟩) (Nat.lt_of_lt_of_le gw m2.size)).trans x4
                  have w1 : IntKind.i64.wrap ((k : Int) + 2) = (k : Int) + 2 := by rw [wrap_i64]; omega
                  have w2 : IntKind.i64.wrap ((k : Int) + 2 + (n : Int)) = (k : Int) + 2 + (n : Int) := by rw [wrap_i64]; omega
                  have w3 : IntKind.i64.wrap x = x := by rw [wrap_i64]; omega
                  have L0 : ¬ (L = 0) := by omega
                  have s1 : (2 : Int) ≤ 2 + (n : Int) := by omega
                  have s2 : (2 : Int) + (n : Int) ≤ (D : Int) := by omega
                  have BLn := BL.out
                  clear r0 SMH LN v1 x4
                  go_upto_region 14 with fail
                  refine region_putB 17 4 16 88 _ (fun i => [Fact.eq (.slice (some ⟨g, off + k, none⟩) L D), Fact.eq (.pointer (some ⟨g, off + k, none⟩)), Fact.eq (.int .u8 x), Fact.eq (.int .i64 x), Fact.eq (.slice (some ⟨g, off + k, none⟩) L D), Fact.eq (.int .i64 2), Fact.eq (.int .i64 2), Fact.eq (.int .i64 (n : Int)), Fact.eq (.int .i64 (2 + (n : Int))), Fact.eq (.slice (cutP g (off + k) D 2) n (D - 2)), RWn (w.heap.size + 1) ((R.drop 2).take n), Fact.eq (.int .i64 (k : Int)), Fact.eq (.int .i64 2), Fact.eq (.int .i64 ((k : Int) + 2)), Fact.eq (.int .i64 (n : Int)), Fact.eq (.int .i64 ((k : Int) + 2 + (n : Int))), ⟨fun v W => ∃ (a : Option Addr) (c q : Nat), v = .agg #[.bool true, .int .i64 x, .slice a n c, .int .i64 ((k : Int) + 2 + (n : Int))] ∧ Own W q a .u8 ((R.drop 2).take n) ∧ (a = none → c = 0) ∧ n ≤ c ∧ w.heap.size + 1 ≤ q, fun m h => by obtain ⟨a, c, q, e, r, k⟩ := h; exact ⟨a, c, q, e, r.up m, k⟩⟩].getD i Fact.no) w.heap.size 4 42 (fun cells W => ∃ (a : Option Addr) (c q : Nat), cells = [.bool true, .int .i64 x, .slice a n c, .int .i64 ((k : Int) + 2 + (n : Int))] ∧ Own W q a .u8 ((R.drop 2).take n) ∧ (a = none → c = 0) ∧ n ≤ c ∧ w.heap.size + 1 ≤ q) (by kernel_rfl) (by kernel_rfl) rfl rfl rfl (by kernel_rfl) rfl (by kernel_rfl) ?_ TH.out (by kernel_rfl) ?_ ?_
                  · rintro v W ⟨a, c, q, rfl, h⟩
                    exact ⟨[.bool true, .int .i64 x, .slice a n c, .int .i64 ((k : Int) + 2 + (n : Int))], rfl, rfl, by kernel_rfl, a, c, q, rfl, h⟩
                  · intro i hi
                    obtain rfl | rfl | rfl | rfl | rfl | rfl | rfl | rfl | rfl | rfl | rfl | rfl | rfl | rfl | rfl | rfl | rfl : i = 0 ∨ i = 1 ∨ i = 2 ∨ i = 3 ∨ i = 4 ∨ i = 5 ∨ i = 6 ∨ i = 7 ∨ i = 8 ∨ i = 9 ∨ i = 10 ∨ i = 11 ∨ i = 12 ∨ i = 13 ∨ i = 14 ∨ i = 15 ∨ i = 16 := by omega
                    · refine step_pure rfl fun a ww hb hw hf => ?_
                      have e5 : a.tmps[5]?.getD undef = .slice (some ⟨g, off + k, none⟩) L D := gdv (hb.2.2 5 (by kernel_rfl))
                      exact ⟨.slice (some ⟨g, off + k, none⟩) L D, by simp [go_sem, e5], rfl⟩
                    · refine step_pure rfl fun a ww hb hw hf => ?_
                      have e72 : a.tmps[72]?.getD undef = .slice (some ⟨g, off + k, none⟩) L D := gdv (hf 0 72 (by kernel_rfl))
                      exact ⟨.pointer (some ⟨g, off + k, none⟩), by simp [go_sem, e72, L0], rfl⟩
                    · refine step_pure rfl fun a ww hb hw hf => ?_
                      have e73 : a.tmps[73]?.getD undef = .pointer (some ⟨g, off + k, none⟩) := gdv (hf 1 73 (by kernel_rfl))
                      have hc := CX.out ww hw
                      exact ⟨.int .u8 x, by simp [go_sem, e73, hc], rfl⟩
                    · refine step_pure rfl fun a ww hb hw hf => ?_
                      have e74 : a.tmps[74]?.getD undef = .int .u8 x := gdv (hf 2 74 (by kernel_rfl))
                      exact ⟨.int .i64 x, by simp [go_sem, e74, w3], rfl⟩
                    · refine step_pure rfl fun a ww hb hw hf => ?_
                      have e5 : a.tmps[5]?.getD undef = .slice (some ⟨g, off + k, none⟩) L D := gdv (hb.2.2 5 (by kernel_rfl))
                      exact ⟨.slice (some ⟨g, off + k, none⟩) L D, by simp [go_sem, e5], rfl⟩
                    · refine step_pure rfl fun a ww hb hw hf => ?_
                      have e6 : a.tmps[6]?.getD undef = .int .i64 2 := gdv (hb.2.2 6 (by kernel_rfl))
                      exact ⟨.int .i64 2, by simp [go_sem, e6], rfl⟩
                    · refine step_pure rfl fun a ww hb hw hf => ?_
                      have e6 : a.tmps[6]?.getD undef = .int .i64 2 := gdv (hb.2.2 6 (by kernel_rfl))
                      exact ⟨.int .i64 2, by simp [go_sem, e6], rfl⟩
                    · refine step_pure rfl fun a ww hb hw hf => ?_
                      have e7 : a.tmps[7]?.getD undef = .int .i64 (n : Int) := gdv (hb.2.2 7 (by kernel_rfl))
                      exact ⟨.int .i64 (n : Int), by simp [go_sem, e7], rfl⟩
                    · refine step_pure rfl fun a ww hb hw hf => ?_
                      have e78 : a.tmps[78]?.getD undef = .int .i64 2 := gdv (hf 6 78 (by kernel_rfl))
                      have e79 : a.tmps[79]?.getD undef = .int .i64 (n : Int) := gdv (hf 7 79 (by kernel_rfl))
                      exact ⟨.int .i64 (2 + (n : Int)), by simp [go_sem, e78, e79, w0], rfl⟩
                    · refine step_pure rfl fun a ww hb hw hf => ?_
                      have e76 : a.tmps[76]?.getD undef = .slice (some ⟨g, off + k, none⟩) L D := gdv (hf 4 76 (by kernel_rfl))
                      have e77 : a.tmps[77]?.getD undef = .int .i64 2 := gdv (hf 5 77 (by kernel_rfl))
                      have e80 : a.tmps[80]?.getD undef = .int .i64 (2 + (n : Int)) := gdv (hf 8 80 (by kernel_rfl))
                      refine ⟨.slice (cutP g (off + k) D 2) n (D - 2), ?_, rfl⟩
                      by_cases dj : D = 2
                      · have n0 : n = 0 := by omega
                        simp [go_sem, e76, e77, e80, dj, n0, cutP]
                      · have s3 : ((2 : Int) + (n : Int)).toNat = 2 + n := by omega
                        simp [go_sem, e76, e77, e80, s1, s2, s3, dj, cutP, Addr.add]
                    · refine step_callv rfl 38 _ _ rfl (by kernel_rfl) fun a ww hb hw hf => ?_
                      have e81 : a.tmps.getD 81 undef = .slice (cutP g (off + k) D 2) n (D - 2) := hf 9 81 (by kernel_rfl)
                      show Calls Try.prog 38 #[a.tmps.getD 81 undef] ww _
                      rw [e81]
                      exact (CPH.out ww _ (nxt m2 hw)).mono (by rintro r w' ⟨⟨a2, c2, g2, rfl, o2, p2, q2, r2⟩, n2⟩; exact ⟨_, rfl, n2, a2, c2, g2, rfl, o2, p2, q2, by have := hw.size; have := T4.lt; omega⟩)
                    · refine step_pure rfl fun a ww hb hw hf => ?_
                      have e1 : a.tmps[1]?.getD undef = .int .i64 (k : Int) := gdv (hb.2.2 1 (by kernel_rfl))
                      exact ⟨.int .i64 (k : Int), by simp [go_sem, e1], rfl⟩
                    · refine step_pure rfl fun a ww hb hw hf => ?_
                      have e6 : a.tmps[6]?.getD undef = .int .i64 2 := gdv (hb.2.2 6 (by kernel_rfl))
                      exact ⟨.int .i64 2, by simp [go_sem, e6], rfl⟩
                    · refine step_pure rfl fun a ww hb hw hf => ?_
                      have e83 : a.tmps[83]?.getD undef = .int .i64 (k : Int) := gdv (hf 11 83 (by kernel_rfl))
                      have e84 : a.tmps[84]?.getD undef = .int .i64 2 := gdv (hf 12 84 (by kernel_rfl))
                      exact ⟨.int .i64 ((k : Int) + 2), by simp [go_sem, e83, e84, w1], rfl⟩
                    · refine step_pure rfl fun a ww hb hw hf => ?_
                      have e7 : a.tmps[7]?.getD undef = .int .i64 (n : Int) := gdv (hb.2.2 7 (by kernel_rfl))
                      exact ⟨.int .i64 (n : Int), by simp [go_sem, e7], rfl⟩
                    · refine step_pure rfl fun a ww hb hw hf => ?_
                      have e85 : a.tmps[85]?.getD undef = .int .i64 ((k : Int) + 2) := gdv (hf 13 85 (by kernel_rfl))
                      have e86 : a.tmps[86]?.getD undef = .int .i64 (n : Int) := gdv (hf 14 86 (by kernel_rfl))
                      exact ⟨.int .i64 ((k : Int) + 2 + (n : Int)), by simp [go_sem, e85, e86, w2], rfl⟩
                    · refine step_pure rfl fun a ww hb hw hf => ?_
                      have e75 : a.tmps[75]?.getD undef = .int .i64 x := gdv (hf 3 75 (by kernel_rfl))
                      have e87 : a.tmps[87]?.getD undef = .int .i64 ((k : Int) + 2 + (n : Int)) := gdv (hf 15 87 (by kernel_rfl))
                      obtain ⟨a2, c2, g2, e82, o2, p2, q2, r2⟩ := hf 10 82 (by kernel_rfl)
                      rw [BLn] at e82 q2
                      have e82' : a.tmps[82]?.getD undef = .slice a2 n c2 := gdv e82
                      exact ⟨.agg #[.bool true, .int .i64 x, .slice a2 n c2, .int .i64 ((k : Int) + 2 + (n : Int))], by simp [go_sem, e75, e87, e82'], a2, c2, g2, rfl, o2, p2, q2, r2⟩
                  rintro vs W cells hw ⟨aF, cF, qF, rfl, oF, pF, kF, rF⟩
                  have T5 : Fo (W.setCells w.heap.size 0 [.bool true, .int .i64 x, .slice aF n cF, .int .i64 ((k : Int) + 2 + (n : Int))]) w.heap.size (.bool true) (.int .i64 x) (.slice aF n cF) (.int .i64 ((k : Int) + 2 + (n : Int))) := (T4.up hw).set _ _ _ _
                  have O5 : Only w.heap.size W (W.setCells w.heap.size 0 [.bool true, .int .i64 x, .slice aF n cF, .int .i64 ((k : Int) + 2 + (n : Int))]) := only_set4 W w.heap.size _ _ _ _
                  have N5 := (nxt N4 hw).trans (O5.below (B := w.heap.size) (Nat.le_refl _))
                  have o5 := oF.only O5 (fun _ => by omega)
                  clear O5 oF hw T4 N4 m2 TH CX CPH
                  simp only [puts, Act.put, List.setIfInBounds_toArray, List.set_cons_succ, List.set_cons_zero]
                  generalize W.setCells w.heap.size 0 [.bool true, .int .i64 x, .slice aF n cF, .int .i64 ((k : Int) + 2 + (n : Int))] = w5 at *
                  go_wp2
                  refine bodyPost_ret (v := .agg #[.bool true, .int .i64 x, .slice aF n cF, .int .i64 ((k : Int) + 2 + (n : Int))]) (by simp [results, Try.results20, go_sem, T5.c0, T5.c1, T5.c2, T5.c3]) rfl ⟨?_, N5⟩
                  rw [IS.out]
                  show NewT _ _ _ true x (dbT xs (some (x, k + 2, n))) ((k + 2 + n : Nat) : Int)
                  rw [BW.out]
                  exact ⟨aF, cF, qF, by rw [BL.out, show ((k + 2 + n : Nat) : Int) = (k : Int) + 2 + (n : Int) by omega], o5, pF, by rw [BL.out]; exact kF, by omega⟩
                · have NM : Hid (mtK R 2 = false) := by show mtK R 2 = false; rw [MM.out, decide_eq_false he]; simp
                  have NX : Hid (∀ m, 2 ≤ m → m < 2 + 1 → m ≤ R.length → mtK R m = false) := HNO.out NM.out
                  rw [decide_eq_false he] at SMH
                  clear MT' HNO NM MM SR SB SL BW RR TZ NZ he LB c0 c1 c2 c3 f0 f1 f2 f3
                  generalize lenL n = ls at *
                  go_upto_region 13 with fail
                  refine region_guard (fun i => [Fact.eq (.int .i64 2), Fact.eq (.int .i64 (n : Int)), Fact.eq (.int .i64 (2 + (n : Int))), Fact.eq (.slice (some ⟨g, off + k, none⟩) L D), Fact.eq (.int .i64 (L : Int)), Fact.eq (.bool false), Fact.eq (.bool false), Fact.eq (.int .i64 (n : Int)), RDn ls, Fact.eq (.slice (some ⟨g, off + k, none⟩) L D), Fact.eq (.int .i64 2), Fact.eq (.slice (some ⟨g, off + k + 1, none⟩) 1 (D - 1)), Fact.eq (.bool false), Fact.eq (.bool true), Fact.eq (.bool true)].getD i Fact.no) (by kernel_rfl) (by kernel_rfl) ?_ ?_ ?_
                  · intro i hi
                    have hiN : i < 15 := hi
                    obtain rfl | rfl | rfl | rfl | rfl | rfl | rfl | rfl | rfl | rfl | rfl | rfl | rfl | rfl | rfl : i = 0 ∨ i = 1 ∨ i = 2 ∨ i = 3 ∨ i = 4 ∨ i = 5 ∨ i = 6 ∨ i = 7 ∨ i = 8 ∨ i = 9 ∨ i = 10 ∨ i = 11 ∨ i = 12 ∨ i = 13 ∨ i = 14 := by omega
                    · refine step_pure rfl fun a ww hb hw hf => ?_
                      have e6 : a.tmps[6]?.getD undef = .int .i64 2 := gdv (hb.2.2 6 (by kernel_rfl))
                      exact ⟨.int .i64 2, by simp [go_sem, e6], rfl⟩
                    · refine step_pure rfl fun a ww hb hw hf => ?_
                      have e7 : a.tmps[7]?.getD undef = .int .i64 (n : Int) := gdv (hb.2.2 7 (by kernel_rfl))
                      exact ⟨.int .i64 (n : Int), by simp [go_sem, e7], rfl⟩
                    · refine step_pure rfl fun a ww hb hw hf => ?_
                      have e57 : a.tmps[57]?.getD undef = .int .i64 2 := gdv (hf 0 57 (by kernel_rfl))
                      have e58 : a.tmps[58]?.getD undef = .int .i64 (n : Int) := gdv (hf 1 58 (by kernel_rfl))
                      exact ⟨.int .i64 (2 + (n : Int)), by simp [go_sem, e57, e58, w0], rfl⟩
                    · refine step_pure rfl fun a ww hb hw hf => ?_
                      have e5 : a.tmps[5]?.getD undef = .slice (some ⟨g, off + k, none⟩) L D := gdv (hb.2.2 5 (by kernel_rfl))
                      exact ⟨.slice (some ⟨g, off + k, none⟩) L D, by simp [go_sem, e5], rfl⟩
                    · refine step_pure rfl fun a ww hb hw hf => ?_
                      have e60 : a.tmps[60]?.getD undef = .slice (some ⟨g, off + k, none⟩) L D := gdv (hf 3 60 (by kernel_rfl))
                      exact ⟨.int .i64 (L : Int), by simp [go_sem, e60], rfl⟩
                    · refine step_pure rfl fun a ww hb hw hf => ?_
                      have e59 : a.tmps[59]?.getD undef = .int .i64 (2 + (n : Int)) := gdv (hf 2 59 (by kernel_rfl))
                      have e61 : a.tmps[61]?.getD undef = .int .i64 (L : Int) := gdv (hf 4 61 (by kernel_rfl))
                      exact ⟨.bool false, by simp [go_sem, e59, e61, v1], rfl⟩
                    · refine step_pure rfl fun a ww hb hw hf => ?_
                      have e62 : a.tmps[62]?.getD undef = .bool false := gdv (hf 5 62 (by kernel_rfl))
                      exact ⟨.bool false, by simp [go_sem, e62], rfl⟩
                    · refine step_pure rfl fun a ww hb hw hf => ?_
                      have e7 : a.tmps[7]?.getD undef = .int .i64 (n : Int) := gdv (hb.2.2 7 (by kernel_rfl))
                      exact ⟨.int .i64 (n : Int), by simp [go_sem, e7], rfl⟩
                    · refine step_callv rfl 37 _ _ rfl (by kernel_rfl) fun a ww hb hw hf => ?_
                      have e64 : a.tmps.getD 64 undef = .int .i64 (n : Int) := hf 7 64 (by kernel_rfl)
                      show Calls Try.prog 37 #[a.tmps.getD 64 undef] ww _
                      rw [e64]
                      exact (LN ww).out.mono (by rintro r w' ⟨⟨a2, c2, g2, rfl, o2, p2, q2, r2⟩, n2⟩; exact ⟨_, rfl, n2, a2, c2, g2, rfl, o2.rd⟩)
                    · refine step_pure rfl fun a ww hb hw hf => ?_
                      have e5 : a.tmps[5]?.getD undef = .slice (some ⟨g, off + k, none⟩) L D := gdv (hb.2.2 5 (by kernel_rfl))
                      exact ⟨.slice (some ⟨g, off + k, none⟩) L D, by simp [go_sem, e5], rfl⟩
                    · refine step_pure rfl fun a ww hb hw hf => ?_
                      have e6 : a.tmps[6]?.getD undef = .int .i64 2 := gdv (hb.2.2 6 (by kernel_rfl))
                      exact ⟨.int .i64 2, by simp [go_sem, e6], rfl⟩
                    · refine step_pure rfl fun a ww hb hw hf => ?_
                      have e66 : a.tmps[66]?.getD undef = .slice (some ⟨g, off + k, none⟩) L D := gdv (hf 9 66 (by kernel_rfl))
                      have e67 : a.tmps[67]?.getD undef = .int .i64 2 := gdv (hf 10 67 (by kernel_rfl))
                      exact ⟨.slice (some ⟨g, off + k + 1, none⟩) 1 (D - 1), by simp [go_sem, e66, e67, ec, ck1, Addr.add], rfl⟩
                    · refine step_callv rfl 36 _ _ rfl (by kernel_rfl) fun a ww hb hw hf => ?_
                      obtain ⟨a2, c2, g2, e65, r65⟩ := hf 8 65 (by kernel_rfl)
                      have e68 : a.tmps.getD 68 undef = .slice (some ⟨g, off + k + 1, none⟩) 1 (D - 1) := hf 11 68 (by kernel_rfl)
                      show Calls Try.prog 36 #[a.tmps.getD 65 undef, a.tmps.getD 68 undef] ww _
                      rw [e65, e68]
                      exact (SMH.out ww g2 a2 c2 _ ⟨hw.os, hw.tape, hw.output, hw.size, hw.block⟩ r65).mono (by rintro r w' ⟨rfl, rfl⟩; exact ⟨_, rfl, Below.refl _ _, rfl⟩)
                    · refine step_pure rfl fun a ww hb hw hf => ?_
                      have e69 : a.tmps[69]?.getD undef = .bool false := gdv (hf 12 69 (by kernel_rfl))
                      exact ⟨.bool true, by simp [go_sem, e69], rfl⟩
                    · exact step_pickF rfl 63 70 6 13 rfl (by kernel_rfl) (by kernel_rfl) rfl rfl rfl
                  · intro i o ho A W hf
                    have hiN : i < 15 := (Array.getElem?_eq_some_iff.1 ho).1
                    obtain rfl | rfl | rfl | rfl | rfl | rfl | rfl | rfl | rfl | rfl | rfl | rfl | rfl | rfl | rfl : i = 0 ∨ i = 1 ∨ i = 2 ∨ i = 3 ∨ i = 4 ∨ i = 5 ∨ i = 6 ∨ i = 7 ∨ i = 8 ∨ i = 9 ∨ i = 10 ∨ i = 11 ∨ i = 12 ∨ i = 13 ∨ i = 14 := by omega
                    · cases ho; exact wanted_none rfl
                    · cases ho; exact wanted_none rfl
                    · cases ho; exact wanted_none rfl
                    · cases ho; exact wanted_none rfl
                    · cases ho; exact wanted_none rfl
                    · cases ho; exact wanted_none rfl
                    · cases ho; exact wanted_none rfl
                    · cases ho; exact wanted_some rfl (by kernel_rfl) (hf 6 63 (by kernel_rfl))
                    · cases ho; exact wanted_some rfl (by kernel_rfl) (hf 6 63 (by kernel_rfl))
                    · cases ho; exact wanted_some rfl (by kernel_rfl) (hf 6 63 (by kernel_rfl))
                    · cases ho; exact wanted_some rfl (by kernel_rfl) (hf 6 63 (by kernel_rfl))
                    · cases ho; exact wanted_some rfl (by kernel_rfl) (hf 6 63 (by kernel_rfl))
                    · cases ho; exact wanted_some rfl (by kernel_rfl) (hf 6 63 (by kernel_rfl))
                    · cases ho; exact wanted_some rfl (by kernel_rfl) (hf 6 63 (by kernel_rfl))
                    · cases ho; exact wanted_none rfl
                  intro A W4 hb' hw hF
                  have e2 := hF 14 71 (by kernel_rfl)
                  obtain ⟨vs, hvs⟩ : ∃ vs : Nat → Value, ∀ d, A.tmps.getD d undef = vs d := ⟨_, fun _ => rfl⟩
                  rw [hvs] at e2
                  rw [puts_guard (md := .any) (by kernel_rfl) rfl hb' vs hvs]
                  clear hb' hF hvs
                  have e3 : vs 71 = .bool true := e2
                  clear e2
                  simp only [puts, e3, Act.put, List.setIfInBounds_toArray, List.set_cons_succ, List.set_cons_zero]
                  clear e3
                  have m2 : Below wr.heap.size wr W4 := ⟨hw.os, hw.tape, hw.output, hw.size, hw.block⟩
                  clear hw
                  go_wp2
                  go_roundw
                  case rel => exact ⟨2 + 1, by omega, by omega, by go_num, NX, T.up m2, nxt N m2⟩
                  case measure => simp [intOf]
              · have v1 : decide ((L : Int) < 2 + (n : Int)) = true := by simp; omega
                have NM : Hid (mtK R 2 = false) := by show mtK R 2 = false; rw [MM.out, decide_eq_false (by rw [← HL.out]; exact hin)]; rfl
                have NX : Hid (∀ m, 2 ≤ m → m < 2 + 1 → m ≤ R.length → mtK R m = false) := HNO.out NM.out
                clear MT' HNO NM MM SR SB SL BW RR TZ NZ
                go_wp2
                go_quiet (fail)
                go_wp2
                go_roundw
                case rel => exact ⟨2 + 1, by omega, by omega, by go_num, NX, ⟨T.choose, T.choose_spec⟩, below_drewN N _⟩
                case measure => simp [intOf]
          · rw [show ((3 : Nat) : Int) = 3 from rfl]
            by_cases hLj : L < 3
            · have IZ : Hid (itZ xs (k : Int) = none) := by show itZ xs (k : Int) = none; rw [ZA.out]; exact (NO fun m h2 h4 hm => by rw [← HL.out] at hm; exact hno.out m h2 (by omega) (by rw [← HL.out]; exact hm)).out
              have u1 : decide ((L : Int) < 3) = true := by simp; omega
              clear cR hno MT NO
              go_wp2
              change bodyPost _ _ _ _ _ (set4 wr w.heap.size (.bool false) (.int .i64 0) (.slice none 0 0) (.int .i64 0))
              exact bodyPost_ret (v := .agg #[.bool false, .int .i64 0, .slice none 0 0, .int .i64 0]) (by simp [results, Try.results20, go_sem, TZ.c0, TZ.c1, TZ.c2, TZ.c3]) rfl ⟨newT_none _ _ IZ.out, NZ⟩
            · have u1 : decide ((L : Int) < 3) = false := by simp; omega
              have lj : 3 ≤ L := by omega
              have r0 := cR.out 0 (by omega)
              rw [Nat.add_zero, HX0.out] at r0
              have r1 := cR.out 1 (by omega)
              have b1 := RB 1
              have i1 : (1 : Int) < (L : Int) := by omega
              have r2 := cR.out 2 (by omega)
              have b2 := RB 2
              have i2 : (2 : Int) < (L : Int) := by omega
              have NE : nK R 3 = (R.getD 2 0).toNat := rfl
              have nb := nK_bd RB 3
              have MM : Hid (mtK R 3 = (decide (3 + nK R 3 ≤ R.length) && decide (lenL (nK R 3) = (R.drop 1).take 2))) := rfl
              have SL : Hid (((R.drop 1).take 2).length = 2) := by show _ = _; rw [List.length_take, List.length_drop, ← HL.out]; omega
              have SR : Rd wr g (some ⟨g, off + k + 1, none⟩) .u8 ((R.drop 1).take 2) := by
                obtain ⟨o, e, h⟩ := (RR.up N).dropA 1 (by rw [← HL.out]; omega)
                cases e
                exact h.takeA _
              have SB : Byt ((R.drop 1).take 2) := fun m => by
                by_cases hm : m < 2
                · rw [getD_takeA _ _ _ hm, getD_dropA]; exact RB _
                · rw [List.getD_eq_getElem?_getD, List.getElem?_eq_none (by rw [SL.out]; omega)]; decide
              have BW : Hid (dbT xs (some (x, k + 3, nK R 3)) = (R.drop 3).take (nK R 3)) := by show (xs.drop (k + 3)).take _ = _; rw [HR.out, List.drop_drop]
              obtain ⟨n, hnn⟩ : ∃ n, n = nK R 3 := ⟨_, rfl⟩
              rw [← hnn] at NE nb MM BW
              have MT' := fun h => hide (MT 3 (by omega) (by rw [← HL.out]; exact lj) h).out
              simp only [← hnn] at MT'
              have NN : R.getD 2 0 = (n : Int) := by omega
              rw [NN] at r2
              clear NE NN hnn b2
              generalize hr1 : R.getD 1 0 = x1 at r1 b1
              clear hr1
              have HNO : Hid (mtK R 3 = false → ∀ m, 2 ≤ m → m < 3 + 1 → m ≤ R.length → mtK R m = false) := fun h m h2 hm hl => by
                by_cases e : m = 3
                · rw [e]; exact h
                · exact hno.out m h2 (by omega) hl
              clear cR hno MT NO
              by_cases hin : 3 + n ≤ L
              · have v1 : decide ((L : Int) < 3 + (n : Int)) = false := by simp; omega
                have LN := fun W => hide (l10Length_any W n nb)
                have LB := lenL_byt n nb
                have SMH : Hid (∀ W g2 a2 c2 cc, Below wr.heap.size wr W → Rd W g2 a2 .u8 (lenL n) → Calls Try.prog 36 #[.slice a2 (lenL n).length c2, .slice (some ⟨g, off + k + 1, none⟩) 2 cc] W fun e w' => e = .returned (.bool (decide (lenL n = (R.drop 1).take 2))) ∧ w' = W) := fun W g2 a2 c2 cc hW h2 => by
                  have := l1Same_any W g2 g a2 (some ⟨g, off + k + 1, none⟩) c2 cc (lenL n) ((R.drop 1).take 2) h2 (SR.up hW) LB SB
                  rwa [SL.out] at this
                have w0 : IntKind.i64.wrap ((3 : Int) + (n : Int)) = (3 : Int) + (n : Int) := by rw [wrap_i64]; omega
                have e1 : (3 : Int) ≤ (L : Int) := by omega
                have ck1 : ¬ (D = 1) := by omega
                have ec : (3 : Int) ≤ (D : Int) := by omega
                by_cases he : lenL n = (R.drop 1).take 2
                · have MTT := MT' (by rw [MM.out, decide_eq_true he, decide_eq_true (by rw [← HL.out]; exact hin)]; rfl)
                  rw [decide_eq_true he] at SMH
                  have IS : Hid (itZ xs (k : Int) = some (x, k + 3, n)) := by show itZ xs (k : Int) = _; rw [ZA.out]; exact MTT.out
                  have BL : Hid (((R.drop 3).take n).length = n) := by show _ = _; rw [List.length_take, List.length_drop, ← HL.out]; omega
                  have RT := fun ww (m : Below wr.heap.size wr ww) => hide (rd_cutP (RR.up (nxt N m)) (c := D) (by rw [← HL.out]; exact LD) 3 n)
                  have CPH : Hid (∀ ww cc, Below wr.heap.size wr ww → Calls Try.prog 38 #[.slice (cutP g (off + k) D 3) n cc] ww fun e w' => NewRow ww.heap.size w' e .u8 ((R.drop 3).take n) ∧ Below ww.heap.size ww w') := fun ww cc m => by
                    have := l1Copy_any ww g _ cc _ (RT ww m).out (fun h => absurd h (cutP_some _ _ _ _)) (by rw [BL.out]; omega)
                    rwa [BL.out] at this
                  clear MT' HNO MM SR SB SL RR TZ NZ he LB RT c0 c1 c2 c3 f0 f1 f2 f3 MTT
                  generalize lenL n = ls at *
                  go_upto_region 13 with fail
                  refine region_guard (fun i => [Fact.eq (.int .i64 3), Fact.eq (.int .i64 (n : Int)), Fact.eq (.int .i64 (3 + (n : Int))), Fact.eq (.slice (some ⟨g, off + k, none⟩) L D), Fact.eq (.int .i64 (L : Int)), Fact.eq (.bool false), Fact.eq (.bool false), Fact.eq (.int .i64 (n : Int)), RDn ls, Fact.eq (.slice (some ⟨g, off + k, none⟩) L D), Fact.eq (.int .i64 3), Fact.eq (.slice (some ⟨g, off + k + 1, none⟩) 2 (D - 1)), Fact.eq (.bool true), Fact.eq (.bool false), Fact.eq (.bool false)].getD i Fact.no) (by kernel_rfl) (by kernel_rfl) ?_ ?_ ?_
                  · intro i hi
                    have hiN : i < 15 := hi
                    obtain rfl | rfl | rfl | rfl | rfl | rfl | rfl | rfl | rfl | rfl | rfl | rfl | rfl | rfl | rfl : i = 0 ∨ i = 1 ∨ i = 2 ∨ i = 3 ∨ i = 4 ∨ i = 5 ∨ i = 6 ∨ i = 7 ∨ i = 8 ∨ i = 9 ∨ i = 10 ∨ i = 11 ∨ i = 12 ∨ i = 13 ∨ i = 14 := by omega
                    · refine step_pure rfl fun a ww hb hw hf => ?_
                      have e6 : a.tmps[6]?.getD undef = .int .i64 3 := gdv (hb.2.2 6 (by kernel_rfl))
                      exact ⟨.int .i64 3, by simp [go_sem, e6], rfl⟩
                    · refine step_pure rfl fun a ww hb hw hf => ?_
                      have e7 : a.tmps[7]?.getD undef = .int .i64 (n : Int) := gdv (hb.2.2 7 (by kernel_rfl))
                      exact ⟨.int .i64 (n : Int), by simp [go_sem, e7], rfl⟩
                    · refine step_pure rfl fun a ww hb hw hf => ?_
                      have e57 : a.tmps[57]?.getD undef = .int .i64 3 := gdv (hf 0 57 (by kernel_rfl))
                      have e58 : a.tmps[58]?.getD undef = .int .i64 (n : Int) := gdv (hf 1 58 (by kernel_rfl))
                      exact ⟨.int .i64 (3 + (n : Int)), by simp [go_sem, e57, e58, w0], rfl⟩
                    · refine step_pure rfl fun a ww hb hw hf => ?_
                      have e5 : a.tmps[5]?.getD undef = .slice (some ⟨g, off + k, none⟩) L D := gdv (hb.2.2 5 (by kernel_rfl))
                      exact ⟨.slice (some ⟨g, off + k, none⟩) L D, by simp [go_sem, e5], rfl⟩
                    · refine step_pure rfl fun a ww hb hw hf => ?_
                      have e60 : a.tmps[60]?.getD undef = .slice (some ⟨g, off + k, none⟩) L D := gdv (hf 3 60 (by kernel_rfl))
                      exact ⟨.int .i64 (L : Int), by simp [go_sem, e60], rfl⟩
                    · refine step_pure rfl fun a ww hb hw hf => ?_
                      have e59 : a.tmps[59]?.getD undef = .int .i64 (3 + (n : Int)) := gdv (hf 2 59 (by kernel_rfl))
                      have e61 : a.tmps[61]?.getD undef = .int .i64 (L : Int) := gdv (hf 4 61 (by kernel_rfl))
                      exact ⟨.bool false, by simp [go_sem, e59, e61, v1], rfl⟩
                    · refine step_pure rfl fun a ww hb hw hf => ?_
                      have e62 : a.tmps[62]?.getD undef = .bool false := gdv (hf 5 62 (by kernel_rfl))
                      exact ⟨.bool false, by simp [go_sem, e62], rfl⟩
                    · refine step_pure rfl fun a ww hb hw hf => ?_
                      have e7 : a.tmps[7]?.getD undef = .int .i64 (n : Int) := gdv (hb.2.2 7 (by kernel_rfl))
                      exact ⟨.int .i64 (n : Int), by simp [go_sem, e7], rfl⟩
                    · refine step_callv rfl 37 _ _ rfl (by kernel_rfl) fun a ww hb hw hf => ?_
                      have e64 : a.tmps.getD 64 undef = .int .i64 (n : Int) := hf 7 64 (by kernel_rfl)
                      show Calls Try.prog 37 #[a.tmps.getD 64 undef] ww _
                      rw [e64]
                      exact (LN ww).out.mono (by rintro r w' ⟨⟨a2, c2, g2, rfl, o2, p2, q2, r2⟩, n2⟩; exact ⟨_, rfl, n2, a2, c2, g2, rfl, o2.rd⟩)
                    · refine step_pure rfl fun a ww hb hw hf => ?_
                      have e5 : a.tmps[5]?.getD undef = .slice (some ⟨g, off + k, none⟩) L D := gdv (hb.2.2 5 (by kernel_rfl))
                      exact ⟨.slice (some ⟨g, off + k, none⟩) L D, by simp [go_sem, e5], rfl⟩
                    · refine step_pure rfl fun a ww hb hw hf => ?_
                      have e6 : a.tmps[6]?.getD undef = .int .i64 3 := gdv (hb.2.2 6 (by kernel_rfl))
                      exact ⟨.int .i64 3, by simp [go_sem, e6], rfl⟩
                    · refine step_pure rfl fun a ww hb hw hf => ?_
                      have e66 : a.tmps[66]?.getD undef = .slice (some ⟨g, off + k, none⟩) L D := gdv (hf 9 66 (by kernel_rfl))
                      have e67 : a.tmps[67]?.getD undef = .int .i64 3 := gdv (hf 10 67 (by kernel_rfl))
                      exact ⟨.slice (some ⟨g, off + k + 1, none⟩) 2 (D - 1), by simp [go_sem, e66, e67, ec, ck1, Addr.add], rfl⟩
                    · refine step_callv rfl 36 _ _ rfl (by kernel_rfl) fun a ww hb hw hf => ?_
                      obtain ⟨a2, c2, g2, e65, r65⟩ := hf 8 65 (by kernel_rfl)
                      have e68 : a.tmps.getD 68 undef = .slice (some ⟨g, off + k + 1, none⟩) 2 (D - 1) := hf 11 68 (by kernel_rfl)
                      show Calls Try.prog 36 #[a.tmps.getD 65 undef, a.tmps.getD 68 undef] ww _
                      rw [e65, e68]
                      exact (SMH.out ww g2 a2 c2 _ ⟨hw.os, hw.tape, hw.output, hw.size, hw.block⟩ r65).mono (by rintro r w' ⟨rfl, rfl⟩; exact ⟨_, rfl, Below.refl _ _, rfl⟩)
                    · refine step_pure rfl fun a ww hb hw hf => ?_
                      have e69 : a.tmps[69]?.getD undef = .bool true := gdv (hf 12 69 (by kernel_rfl))
                      exact ⟨.bool false, by simp [go_sem, e69], rfl⟩
                    · exact step_pickF rfl 63 70 6 13 rfl (by kernel_rfl) (by kernel_rfl) rfl rfl rfl
                  · intro i o ho A W hf
                    have hiN : i < 15 := (Array.getElem?_eq_some_iff.1 ho).1
                    obtain rfl | rfl | rfl | rfl | rfl | rfl | rfl | rfl | rfl | rfl | rfl | rfl | rfl | rfl | rfl : i = 0 ∨ i = 1 ∨ i = 2 ∨ i = 3 ∨ i = 4 ∨ i = 5 ∨ i = 6 ∨ i = 7 ∨ i = 8 ∨ i = 9 ∨ i = 10 ∨ i = 11 ∨ i = 12 ∨ i = 13 ∨ i = 14 := by omega
                    · cases ho; exact wanted_none rfl
                    · cases ho; exact wanted_none rfl
                    · cases ho; exact wanted_none rfl
                    · cases ho; exact wanted_none rfl
                    · cases ho; exact wanted_none rfl
                    · cases ho; exact wanted_none rfl
                    · cases ho; exact wanted_none rfl
                    · cases ho; exact wanted_some rfl (by kernel_rfl) (hf 6 63 (by kernel_rfl))
                    · cases ho; exact wanted_some rfl (by kernel_rfl) (hf 6 63 (by kernel_rfl))
                    · cases ho; exact wanted_some rfl (by kernel_rfl) (hf 6 63 (by kernel_rfl))
                    · cases ho; exact wanted_some rfl (by kernel_rfl) (hf 6 63 (by kernel_rfl))
                    · cases ho; exact wanted_some rfl (by kernel_rfl) (hf 6 63 (by kernel_rfl))
                    · cases ho; exact wanted_some rfl (by kernel_rfl) (hf 6 63 (by kernel_rfl))
                    · cases ho; exact wanted_some rfl (by kernel_rfl) (hf 6 63 (by kernel_rfl))
                    · cases ho; exact wanted_none rfl
                  intro A W4 hb' hw hF
                  have e2 := hF 14 71 (by kernel_rfl)
                  obtain ⟨vs, hvs⟩ : ∃ vs : Nat → Value, ∀ d, A.tmps.getD d undef = vs d := ⟨_, fun _ => rfl⟩
                  rw [hvs] at e2
                  rw [puts_guard (md := .any) (by kernel_rfl) rfl hb' vs hvs]
                  clear hb' hF hvs
                  have e3 : vs 71 = .bool false := e2
                  clear e2
                  simp only [puts, e3, Act.put, List.setIfInBounds_toArray, List.set_cons_succ, List.set_cons_zero]
                  clear e3
                  have m2 : Below wr.heap.size wr W4 := ⟨hw.os, hw.tape, hw.output, hw.size, hw.block⟩
                  clear hw
                  have T4 := T.up m2
                  have N4 := nxt N m2
                  have TH : Hid (∀ W, Below W4.heap.size W4 W → W.there w.heap.size 0 4) := fun W h => (T4.up h).there
                  have x4 := (m2.cell (p := ⟨g, off + k, none⟩) gw).trans r0
                  have CX : Hid (∀ W, Below W4.heap.size W4 W → W.cell? ⟨g, off + k, none⟩ = some (.int .u8 x)) := fun W h => (h.cell (p := ⟨g, off + k, none⟩) (Nat.lt_of_lt_of_le gw m2.size)).trans x4
                  have w1 : IntKind.i64.wrap ((k : Int) + 3) = (k : Int) + 3 := by rw [wrap_i64]; omega
                  have w2 : IntKind.i64.wrap ((k : Int) + 3 + (n : Int)) = (k : Int) + 3 + (n : Int) := by rw [wrap_i64]; omega
                  have w3 : IntKind.i64.wrap x = x := by rw [wrap_i64]; omega
                  have L0 : ¬ (L = 0) := by omega
                  have s1 : (3 : Int) ≤ 3 + (n : Int) := by omega
                  have s2 : (3 : Int) + (n : Int) ≤ (D : Int) := by omega
                  have BLn := BL.out
                  clear r0 SMH LN v1 x4
                  go_upto_region 14 with fail
                  refine region_putB 17 4 16 88 _ (fun i => [Fact.eq (.slice (some ⟨g, off + k, none⟩) L D), Fact.eq (.pointer (some ⟨g, off + k, none⟩)), Fact.eq (.int .u8 x), Fact.eq (.int .i64 x), Fact.eq (.slice (some ⟨g, off + k, none⟩) L D), Fact.eq (.int .i64 3), Fact.eq (.int .i64 3), Fact.eq (.int .i64 (n : Int)), Fact.eq (.int .i64 (3 + (n : Int))), Fact.eq (.slice (cutP g (off + k) D 3) n (D - 3)), RWn (w.heap.size + 1) ((R.drop 3).take n), Fact.eq (.int .i64 (k : Int)), Fact.eq (.int .i64 3), Fact.eq (.int .i64 ((k : Int) + 3)), Fact.eq (.int .i64 (n : Int)), Fact.eq (.int .i64 ((k : Int) + 3 + (n : Int))), ⟨fun v W => ∃ (a : Option Addr) (c q : Nat), v = .agg #[.bool true, .int .i64 x, .slice a n c, .int .i64 ((k : Int) + 3 + (n : Int))] ∧ Own W q a .u8 ((R.drop 3).take n) ∧ (a = none → c = 0) ∧ n ≤ c ∧ w.heap.size + 1 ≤ q, fun m h => by obtain ⟨a, c, q, e, r, k⟩ := h; exact ⟨a, c, q, e, r.up m, k⟩⟩].getD i Fact.no) w.heap.size 4 42 (fun cells W => ∃ (a : Option Addr) (c q : Nat), cells = [.bool true, .int .i64 x, .slice a n c, .int .i64 ((k : Int) + 3 + (n : Int))] ∧ Own W q a .u8 ((R.drop 3).take n) ∧ (a = none → c = 0) ∧ n ≤ c ∧ w.heap.size + 1 ≤ q) (by kernel_rfl) (by kernel_rfl) rfl rfl rfl (by kernel_rfl) rfl (by kernel_rfl) ?_ TH.out (by kernel_rfl) ?_ ?_
                  · rintro v W ⟨a, c, q, rfl, h⟩
                    exact ⟨[.bool true, .int .i64 x, .slice a n c, .int .i64 ((k : Int) + 3 + (n : Int))], rfl, rfl, by kernel_rfl, a, c, q, rfl, h⟩
                  · intro i hi
                    obtain rfl | rfl | rfl | rfl | rfl | rfl | rfl | rfl | rfl | rfl | rfl | rfl | rfl | rfl | rfl | rfl | rfl : i = 0 ∨ i = 1 ∨ i = 2 ∨ i = 3 ∨ i = 4 ∨ i = 5 ∨ i = 6 ∨ i = 7 ∨ i = 8 ∨ i = 9 ∨ i = 10 ∨ i = 11 ∨ i = 12 ∨ i = 13 ∨ i = 14 ∨ i = 15 ∨ i = 16 := by omega
                    · refine step_pure rfl fun a ww hb hw hf => ?_
                      have e5 : a.tmps[5]?.getD undef = .slice (some ⟨g, off + k, none⟩) L D := gdv (hb.2.2 5 (by kernel_rfl))
                      exact ⟨.slice (some ⟨g, off + k, none⟩) L D, by simp [go_sem, e5], rfl⟩
                    · refine step_pure rfl fun a ww hb hw hf => ?_
                      have e72 : a.tmps[72]?.getD undef = .slice (some ⟨g, off + k, none⟩) L D := gdv (hf 0 72 (by kernel_rfl))
                      exact ⟨.pointer (some ⟨g, off + k, none⟩), by simp [go_sem, e72, L0], rfl⟩
                    · refine step_pure rfl fun a ww hb hw hf => ?_
                      have e73 : a.tmps[73]?.getD undef = .pointer (some ⟨g, off + k, none⟩) := gdv (hf 1 73 (by kernel_rfl))
                      have hc := CX.out ww hw
                      exact ⟨.int .u8 x, by simp [go_sem, e73, hc], rfl⟩
                    · refine step_pure rfl fun a ww hb hw hf => ?_
                      have e74 : a.tmps[74]?.getD undef = .int .u8 x := gdv (hf 2 74 (by kernel_rfl))
                      exact ⟨.int .i64 x, by simp [go_sem, e74, w3], rfl⟩
                    · refine step_pure rfl fun a ww hb hw hf => ?_
                      have e5 : a.tmps[5]?.getD undef = .slice (some ⟨g, off + k, none⟩) L D := gdv (hb.2.2 5 (by kernel_rfl))
                      exact ⟨.slice (some ⟨g, off + k, none⟩) L D, by simp [go_sem, e5], rfl⟩
                    · refine step_pure rfl fun a ww hb hw hf => ?_
                      have e6 : a.tmps[6]?.getD undef = .int .i64 3 := gdv (hb.2.2 6 (by kernel_rfl))
                      exact ⟨.int .i64 3, by simp [go_sem, e6], rfl⟩
                    · refine step_pure rfl fun a ww hb hw hf => ?_
                      have e6 : a.tmps[6]?.getD undef = .int .i64 3 := gdv (hb.2.2 6 (by kernel_rfl))
                      exact ⟨.int .i64 3, by simp [go_sem, e6], rfl⟩
                    · refine step_pure rfl fun a ww hb hw hf => ?_
                      have e7 : a.tmps[7]?.getD undef = .int .i64 (n : Int) := gdv (hb.2.2 7 (by kernel_rfl))
                      exact ⟨.int .i64 (n : Int), by simp [go_sem, e7], rfl⟩
                    · refine step_pure rfl fun a ww hb hw hf => ?_
                      have e78 : a.tmps[78]?.getD undef = .int .i64 3 := gdv (hf 6 78 (by kernel_rfl))
                      have e79 : a.tmps[79]?.getD undef = .int .i64 (n : Int) := gdv (hf 7 79 (by kernel_rfl))
                      exact ⟨.int .i64 (3 + (n : Int)), by simp [go_sem, e78, e79, w0], rfl⟩
                    · refine step_pure rfl fun a ww hb hw hf => ?_
                      have e76 : a.tmps[76]?.getD undef = .slice (some ⟨g, off + k, none⟩) L D := gdv (hf 4 76 (by kernel_rfl))
                      have e77 : a.tmps[77]?.getD undef = .int .i64 3 := gdv (hf 5 77 (by kernel_rfl))
                      have e80 : a.tmps[80]?.getD undef = .int .i64 (3 + (n : Int)) := gdv (hf 8 80 (by kernel_rfl))
                      refine ⟨.slice (cutP g (off + k) D 3) n (D - 3), ?_, rfl⟩
                      by_cases dj : D = 3
                      · have n0 : n = 0 := by omega
                        simp [go_sem, e76, e77, e80, dj, n0, cutP]
                      · have s3 : ((3 : Int) + (n : Int)).toNat = 3 + n := by omega
                        simp [go_sem, e76, e77, e80, s1, s2, s3, dj, cutP, Addr.add]
                    · refine step_callv rfl 38 _ _ rfl (by kernel_rfl) fun a ww hb hw hf => ?_
                      have e81 : a.tmps.getD 81 undef = .slice (cutP g (off + k) D 3) n (D - 3) := hf 9 81 (by kernel_rfl)
                      show Calls Try.prog 38 #[a.tmps.getD 81 undef] ww _
                      rw [e81]
                      exact (CPH.out ww _ (nxt m2 hw)).mono (by rintro r w' ⟨⟨a2, c2, g2, rfl, o2, p2, q2, r2⟩, n2⟩; exact ⟨_, rfl, n2, a2, c2, g2, rfl, o2, p2, q2, by have := hw.size; have := T4.lt; omega⟩)
                    · refine step_pure rfl fun a ww hb hw hf => ?_
                      have e1 : a.tmps[1]?.getD undef = .int .i64 (k : Int) := gdv (hb.2.2 1 (by kernel_rfl))
                      exact ⟨.int .i64 (k : Int), by simp [go_sem, e1], rfl⟩
                    · refine step_pure rfl fun a ww hb hw hf => ?_
                      have e6 : a.tmps[6]?.getD undef = .int .i64 3 := gdv (hb.2.2 6 (by kernel_rfl))
                      exact ⟨.int .i64 3, by simp [go_sem, e6], rfl⟩
                    · refine step_pure rfl fun a ww hb hw hf => ?_
                      have e83 : a.tmps[83]?.getD undef = .int .i64 (k : Int) := gdv (hf 11 83 (by kernel_rfl))
                      have e84 : a.tmps[84]?.getD undef = .int .i64 3 := gdv (hf 12 84 (by kernel_rfl))
                      exact ⟨.int .i64 ((k : Int) + 3), by simp [go_sem, e83, e84, w1], rfl⟩
                    · refine step_pure rfl fun a ww hb hw hf => ?_
                      have e7 : a.tmps[7]?.getD undef = .int .i64 (n : Int) := gdv (hb.2.2 7 (by kernel_rfl))
                      exact ⟨.int .i64 (n : Int), by simp [go_sem, e7], rfl⟩
                    · refine step_pure rfl fun a ww hb hw hf => ?_
                      have e85 : a.tmps[85]?.getD undef = .int .i64 ((k : Int) + 3) := gdv (hf 13 85 (by kernel_rfl))
                      have e86 : a.tmps[86]?.getD undef = .int .i64 (n : Int) := gdv (hf 14 86 (by kernel_rfl))
                      exact ⟨.int .i64 ((k : Int) + 3 + (n : Int)), by simp [go_sem, e85, e86, w2], rfl⟩
                    · refine step_pure rfl fun a ww hb hw hf => ?_
                      have e75 : a.tmps[75]?.getD undef = .int .i64 x := gdv (hf 3 75 (by kernel_rfl))
                      have e87 : a.tmps[87]?.getD undef = .int .i64 ((k : Int) + 3 + (n : Int)) := gdv (hf 15 87 (by kernel_rfl))
                      obtain ⟨a2, c2, g2, e82, o2, p2, q2, r2⟩ := hf 10 82 (by kernel_rfl)
                      rw [BLn] at e82 q2
                      have e82' : a.tmps[82]?.getD undef = .slice a2 n c2 := gdv e82
                      exact ⟨.agg #[.bool true, .int .i64 x, .slice a2 n c2, .int .i64 ((k : Int) + 3 + (n : Int))], by simp [go_sem, e75, e87, e82'], a2, c2, g2, rfl, o2, p2, q2, r2⟩
                  rintro vs W cells hw ⟨aF, cF, qF, rfl, oF, pF, kF, rF⟩
                  have T5 : Fo (W.setCells w.heap.size 0 [.bool true, .int .i64 x, .slice aF n cF, .int .i64 ((k : Int) + 3 + (n : Int))]) w.heap.size (.bool true) (.int .i64 x) (.slice aF n cF) (.int .i64 ((k : Int) + 3 + (n : Int))) := (T4.up hw).set _ _ _ _
                  have O5 : Only w.heap.size W (W.setCells w.heap.size 0 [.bool true, .int .i64 x, .slice aF n cF, .int .i64 ((k : Int) + 3 + (n : Int))]) := only_set4 W w.heap.size _ _ _ _
                  have N5 := (nxt N4 hw).trans (O5.below (B := w.heap.size) (Nat.le_refl _))
                  have o5 := oF.only O5 (fun _ => by omega)
                  clear O5 oF hw T4 N4 m2 TH CX CPH
                  simp only [puts, Act.put, List.setIfInBounds_toArray, List.set_cons_succ, List.set_cons_zero]
                  generalize W.setCells w.heap.size 0 [.bool true, .int .i64 x, .slice aF n cF, .int .i64 ((k : Int) + 3 + (n : Int))] = w5 at *
                  go_wp2
                  refine bodyPost_ret (v := .agg #[.bool true, .int .i64 x, .slice aF n cF, .int .i64 ((k : Int) + 3 + (n : Int))]) (by simp [results, Try.results20, go_sem, T5.c0, T5.c1, T5.c2, T5.c3]) rfl ⟨?_, N5⟩
                  rw [IS.out]
                  show NewT _ _ _ true x (dbT xs (some (x, k + 3, n))) ((k + 3 + n : Nat) : Int)
                  rw [BW.out]
                  exact ⟨aF, cF, qF, by rw [BL.out, show ((k + 3 + n : Nat) : Int) = (k : Int) + 3 + (n : Int) by omega], o5, pF, by rw [BL.out]; exact kF, by omega⟩
                · have NM : Hid (mtK R 3 = false) := by show mtK R 3 = false; rw [MM.out, decide_eq_false he]; simp
                  have NX : Hid (∀ m, 2 ≤ m → m < 3 + 1 → m ≤ R.length → mtK R m = false) := HNO.out NM.out
                  rw [decide_eq_false he] at SMH
                  clear MT' HNO NM MM SR SB SL BW RR TZ NZ he LB c0 c1 c2 c3 f0 f1 f2 f3
                  generalize lenL n = ls at *
                  go_upto_region 13 with fail
                  refine region_guard (fun i => [Fact.eq (.int .i64 3), Fact.eq (.int .i64 (n : Int)), Fact.eq (.int .i64 (3 + (n : Int))), Fact.eq (.slice (some ⟨g, off + k, none⟩) L D), Fact.eq (.int .i64 (L : Int)), Fact.eq (.bool false), Fact.eq (.bool false), Fact.eq (.int .i64 (n : Int)), RDn ls, Fact.eq (.slice (some ⟨g, off + k, none⟩) L D), Fact.eq (.int .i64 3), Fact.eq (.slice (some ⟨g, off + k + 1, none⟩) 2 (D - 1)), Fact.eq (.bool false), Fact.eq (.bool true), Fact.eq (.bool true)].getD i Fact.no) (by kernel_rfl) (by kernel_rfl) ?_ ?_ ?_
                  · intro i hi
                    have hiN : i < 15 := hi
                    obtain rfl | rfl | rfl | rfl | rfl | rfl | rfl | rfl | rfl | rfl | rfl | rfl | rfl | rfl | rfl : i = 0 ∨ i = 1 ∨ i = 2 ∨ i = 3 ∨ i = 4 ∨ i = 5 ∨ i = 6 ∨ i = 7 ∨ i = 8 ∨ i = 9 ∨ i = 10 ∨ i = 11 ∨ i = 12 ∨ i = 13 ∨ i = 14 := by omega
                    · refine step_pure rfl fun a ww hb hw hf => ?_
                      have e6 : a.tmps[6]?.getD undef = .int .i64 3 := gdv (hb.2.2 6 (by kernel_rfl))
                      exact ⟨.int .i64 3, by simp [go_sem, e6], rfl⟩
                    · refine step_pure rfl fun a ww hb hw hf => ?_
                      have e7 : a.tmps[7]?.getD undef = .int .i64 (n : Int) := gdv (hb.2.2 7 (by kernel_rfl))
                      exact ⟨.int .i64 (n : Int), by simp [go_sem, e7], rfl⟩
                    · refine step_pure rfl fun a ww hb hw hf => ?_
                      have e57 : a.tmps[57]?.getD undef = .int .i64 3 := gdv (hf 0 57 (by kernel_rfl))
                      have e58 : a.tmps[58]?.getD undef = .int .i64 (n : Int) := gdv (hf 1 58 (by kernel_rfl))
                      exact ⟨.int .i64 (3 + (n : Int)), by simp [go_sem, e57, e58, w0], rfl⟩
                    · refine step_pure rfl fun a ww hb hw hf => ?_
                      have e5 : a.tmps[5]?.getD undef = .slice (some ⟨g, off + k, none⟩) L D := gdv (hb.2.2 5 (by kernel_rfl))
                      exact ⟨.slice (some ⟨g, off + k, none⟩) L D, by simp [go_sem, e5], rfl⟩
                    · refine step_pure rfl fun a ww hb hw hf => ?_
                      have e60 : a.tmps[60]?.getD undef = .slice (some ⟨g, off + k, none⟩) L D := gdv (hf 3 60 (by kernel_rfl))
                      exact ⟨.int .i64 (L : Int), by simp [go_sem, e60], rfl⟩
                    · refine step_pure rfl fun a ww hb hw hf => ?_
                      have e59 : a.tmps[59]?.getD undef = .int .i64 (3 + (n : Int)) := gdv (hf 2 59 (by kernel_rfl))
                      have e61 : a.tmps[61]?.getD undef = .int .i64 (L : Int) := gdv (hf 4 61 (by kernel_rfl))
                      exact ⟨.bool false, by simp [go_sem, e59, e61, v1], rfl⟩
                    · refine step_pure rfl fun a ww hb hw hf => ?_
                      have e62 : a.tmps[62]?.getD undef = .bool false := gdv (hf 5 62 (by kernel_rfl))
                      exact ⟨.bool false, by simp [go_sem, e62], rfl⟩
                    · refine step_pure rfl fun a ww hb hw hf => ?_
                      have e7 : a.tmps[7]?.getD undef = .int .i64 (n : Int) := gdv (hb.2.2 7 (by kernel_rfl))
                      exact ⟨.int .i64 (n : Int), by simp [go_sem, e7], rfl⟩
                    · refine step_callv rfl 37 _ _ rfl (by kernel_rfl) fun a ww hb hw hf => ?_
                      have e64 : a.tmps.getD 64 undef = .int .i64 (n : Int) := hf 7 64 (by kernel_rfl)
                      show Calls Try.prog 37 #[a.tmps.getD 64 undef] ww _
                      rw [e64]
                      exact (LN ww).out.mono (by rintro r w' ⟨⟨a2, c2, g2, rfl, o2, p2, q2, r2⟩, n2⟩; exact ⟨_, rfl, n2, a2, c2, g2, rfl, o2.rd⟩)
                    · refine step_pure rfl fun a ww hb hw hf => ?_
                      have e5 : a.tmps[5]?.getD undef = .slice (some ⟨g, off + k, none⟩) L D := gdv (hb.2.2 5 (by kernel_rfl))
                      exact ⟨.slice (some ⟨g, off + k, none⟩) L D, by simp [go_sem, e5], rfl⟩
                    · refine step_pure rfl fun a ww hb hw hf => ?_
                      have e6 : a.tmps[6]?.getD undef = .int .i64 3 := gdv (hb.2.2 6 (by kernel_rfl))
                      exact ⟨.int .i64 3, by simp [go_sem, e6], rfl⟩
                    · refine step_pure rfl fun a ww hb hw hf => ?_
                      have e66 : a.tmps[66]?.getD undef = .slice (some ⟨g, off + k, none⟩) L D := gdv (hf 9 66 (by kernel_rfl))
                      have e67 : a.tmps[67]?.getD undef = .int .i64 3 := gdv (hf 10 67 (by kernel_rfl))
                      exact ⟨.slice (some ⟨g, off + k + 1, none⟩) 2 (D - 1), by simp [go_sem, e66, e67, ec, ck1, Addr.add], rfl⟩
                    · refine step_callv rfl 36 _ _ rfl (by kernel_rfl) fun a ww hb hw hf => ?_
                      obtain ⟨a2, c2, g2, e65, r65⟩ := hf 8 65 (by kernel_rfl)
                      have e68 : a.tmps.getD 68 undef = .slice (some ⟨g, off + k + 1, none⟩) 2 (D - 1) := hf 11 68 (by kernel_rfl)
                      show Calls Try.prog 36 #[a.tmps.getD 65 undef, a.tmps.getD 68 undef] ww _
                      rw [e65, e68]
                      exact (SMH.out ww g2 a2 c2 _ ⟨hw.os, hw.tape, hw.output, hw.size, hw.block⟩ r65).mono (by rintro r w' ⟨rfl, rfl⟩; exact ⟨_, rfl, Below.refl _ _, rfl⟩)
                    · refine step_pure rfl fun a ww hb hw hf => ?_
                      have e69 : a.tmps[69]?.getD undef = .bool false := gdv (hf 12 69 (by kernel_rfl))
                      exact ⟨.bool true, by simp [go_sem, e69], rfl⟩
                    · exact step_pickF rfl 63 70 6 13 rfl (by kernel_rfl) (by kernel_rfl) rfl rfl rfl
                  · intro i o ho A W hf
                    have hiN : i < 15 := (Array.getElem?_eq_some_iff.1 ho).1
                    obtain rfl | rfl | rfl | rfl | rfl | rfl | rfl | rfl | rfl | rfl | rfl | rfl | rfl | rfl | rfl : i = 0 ∨ i = 1 ∨ i = 2 ∨ i = 3 ∨ i = 4 ∨ i = 5 ∨ i = 6 ∨ i = 7 ∨ i = 8 ∨ i = 9 ∨ i = 10 ∨ i = 11 ∨ i = 12 ∨ i = 13 ∨ i = 14 := by omega
                    · cases ho; exact wanted_none rfl
                    · cases ho; exact wanted_none rfl
                    · cases ho; exact wanted_none rfl
                    · cases ho; exact wanted_none rfl
                    · cases ho; exact wanted_none rfl
                    · cases ho; exact wanted_none rfl
                    · cases ho; exact wanted_none rfl
                    · cases ho; exact wanted_some rfl (by kernel_rfl) (hf 6 63 (by kernel_rfl))
                    · cases ho; exact wanted_some rfl (by kernel_rfl) (hf 6 63 (by kernel_rfl))
                    · cases ho; exact wanted_some rfl (by kernel_rfl) (hf 6 63 (by kernel_rfl))
                    · cases ho; exact wanted_some rfl (by kernel_rfl) (hf 6 63 (by kernel_rfl))
                    · cases ho; exact wanted_some rfl (by kernel_rfl) (hf 6 63 (by kernel_rfl))
                    · cases ho; exact wanted_some rfl (by kernel_rfl) (hf 6 63 (by kernel_rfl))
                    · cases ho; exact wanted_some rfl (by kernel_rfl) (hf 6 63 (by kernel_rfl))
                    · cases ho; exact wanted_none rfl
                  intro A W4 hb' hw hF
                  have e2 := hF 14 71 (by kernel_rfl)
                  obtain ⟨vs, hvs⟩ : ∃ vs : Nat → Value, ∀ d, A.tmps.getD d undef = vs d := ⟨_, fun _ => rfl⟩
                  rw [hvs] at e2
                  rw [puts_guard (md := .any) (by kernel_rfl) rfl hb' vs hvs]
                  clear hb' hF hvs
                  have e3 : vs 71 = .bool true := e2
                  clear e2
                  simp only [puts, e3, Act.put, List.setIfInBounds_toArray, List.set_cons_succ, List.set_cons_zero]
                  clear e3
                  have m2 : Below wr.heap.size wr W4 := ⟨hw.os, hw.tape, hw.output, hw.size, hw.block⟩
                  clear hw
                  go_wp2
                  go_roundw
                  case rel => exact ⟨3 + 1, by omega, by omega, by go_num, NX, T.up m2, nxt N m2⟩
                  case measure => simp [intOf]
              · have v1 : decide ((L : Int) < 3 + (n : Int)) = true := by simp; omega
                have NM : Hid (mtK R 3 = false) := by show mtK R 3 = false; rw [MM.out, decide_eq_false (by rw [← HL.out]; exact hin)]; rfl
                have NX : Hid (∀ m, 2 ≤ m → m < 3 + 1 → m ≤ R.length → mtK R m = false) := HNO.out NM.out
                clear MT' HNO NM MM SR SB SL BW RR TZ NZ
                go_wp2
                go_quiet (fail)
                go_wp2
                go_roundw
                case rel => exact ⟨3 + 1, by omega, by omega, by go_num, NX, ⟨T.choose, T.choose_spec⟩, below_drewN N _⟩
                case measure => simp [intOf]
          · rw [show ((4 : Nat) : Int) = 4 from rfl]
            by_cases hLj : L < 4
            · have IZ : Hid (itZ xs (k : Int) = none) := by show itZ xs (k : Int) = none; rw [ZA.out]; exact (NO fun m h2 h4 hm => by rw [← HL.out] at hm; exact hno.out m h2 (by omega) (by rw [← HL.out]; exact hm)).out
              have u1 : decide ((L : Int) < 4) = true := by simp; omega
              clear cR hno MT NO
              go_wp2
              change bodyPost _ _ _ _ _ (set4 wr w.heap.size (.bool false) (.int .i64 0) (.slice none 0 0) (.int .i64 0))
              exact bodyPost_ret (v := .agg #[.bool false, .int .i64 0, .slice none 0 0, .int .i64 0]) (by simp [results, Try.results20, go_sem, TZ.c0, TZ.c1, TZ.c2, TZ.c3]) rfl ⟨newT_none _ _ IZ.out, NZ⟩
            · have u1 : decide ((L : Int) < 4) = false := by simp; omega
              have lj : 4 ≤ L := by omega
              have r0 := cR.out 0 (by omega)
              rw [Nat.add_zero, HX0.out] at r0
              have r1 := cR.out 1 (by omega)
              have b1 := RB 1
              have i1 : (1 : Int) < (L : Int) := by omega
              have r2 := cR.out 2 (by omega)
              have b2 := RB 2
              have i2 : (2 : Int) < (L : Int) := by omega
              have r3 := cR.out 3 (by omega)
              have b3 := RB 3
              have i3 : (3 : Int) < (L : Int) := by omega
              have NE : nK R 4 = (256 * R.getD 2 0 + R.getD 3 0).toNat := rfl
              have nb := nK_bd RB 4
              have MM : Hid (mtK R 4 = (decide (4 + nK R 4 ≤ R.length) && decide (lenL (nK R 4) = (R.drop 1).take 3))) := rfl
              have SL : Hid (((R.drop 1).take 3).length = 3) := by show _ = _; rw [List.length_take, List.length_drop, ← HL.out]; omega
              have SR : Rd wr g (some ⟨g, off + k + 1, none⟩) .u8 ((R.drop 1).take 3) := by
                obtain ⟨o, e, h⟩ := (RR.up N).dropA 1 (by rw [← HL.out]; omega)
                cases e
                exact h.takeA _
              have SB : Byt ((R.drop 1).take 3) := fun m => by
                by_cases hm : m < 3
                · rw [getD_takeA _ _ _ hm, getD_dropA]; exact RB _
                · rw [List.getD_eq_getElem?_getD, List.getElem?_eq_none (by rw [SL.out]; omega)]; decide
              have BW : Hid (dbT xs (some (x, k + 4, nK R 4)) = (R.drop 4).take (nK R 4)) := by show (xs.drop (k + 4)).take _ = _; rw [HR.out, List.drop_drop]
              obtain ⟨n, hnn⟩ : ∃ n, n = nK R 4 := ⟨_, rfl⟩
              rw [← hnn] at NE nb MM BW
              have MT' := fun h => hide (MT 4 (by omega) (by rw [← HL.out]; exact lj) h).out
              simp only [← hnn] at MT'
              have NN : 256 * R.getD 2 0 + R.getD 3 0 = (n : Int) := by omega
              clear NE hnn
              generalize hr2 : R.getD 2 0 = x2 at r2 b2 NN
              generalize hr3 : R.getD 3 0 = x3 at r3 b3 NN
              clear hr2 hr3
              generalize hr1 : R.getD 1 0 = x1 at r1 b1
              clear hr1
              have HNO : Hid (mtK R 4 = false → ∀ m, 2 ≤ m → m < 4 + 1 → m ≤ R.length → mtK R m = false) := fun h m h2 hm hl => by
                by_cases e : m = 4
                · rw [e]; exact h
                · exact hno.out m h2 (by omega) hl
              clear cR hno MT NO
              by_cases hin : 4 + n ≤ L
              · have v1 : decide ((L : Int) < 4 + (n : Int)) = false := by simp; omega
                have LN := fun W => hide (l10Length_any W n nb)
                have LB := lenL_byt n nb
                have SMH : Hid (∀ W g2 a2 c2 cc, Below wr.heap.size wr W → Rd W g2 a2 .u8 (lenL n) → Calls Try.prog 36 #[.slice a2 (lenL n).length c2, .slice (some ⟨g, off + k + 1, none⟩) 3 cc] W fun e w' => e = .returned (.bool (decide (lenL n = (R.drop 1).take 3))) ∧ w' = W) := fun W g2 a2 c2 cc hW h2 => by
                  have := l1Same_any W g2 g a2 (some ⟨g, off + k + 1, none⟩) c2 cc (lenL n) ((R.drop 1).take 3) h2 (SR.up hW) LB SB
                  rwa [SL.out] at this
                have w0 : IntKind.i64.wrap ((4 : Int) + (n : Int)) = (4 : Int) + (n : Int) := by rw [wrap_i64]; omega
                have e1 : (4 : Int) ≤ (L : Int) := by omega
                have ck1 : ¬ (D = 1) := by omega
                have ec : (4 : Int) ≤ (D : Int) := by omega
                by_cases he : lenL n = (R.drop 1).take 3
                · have MTT := MT' (by rw [MM.out, decide_eq_true he, decide_eq_true (by rw [← HL.out]; exact hin)]; rfl)
                  rw [decide_eq_true he] at SMH
                  have IS : Hid (itZ xs (k : Int) = some (x, k + 4, n)) := by show itZ xs (k : Int) = _; rw [ZA.out]; exact MTT.out
                  have BL : Hid (((R.drop 4).take n).length = n) := by show _ = _; rw [List.length_take, List.length_drop, ← HL.out]; omega
                  have RT := fun ww (m : Below wr.heap.size wr ww) => hide (rd_cutP (RR.up (nxt N m)) (c := D) (by rw [← HL.out]; exact LD) 4 n)
                  have CPH : Hid (∀ ww cc, Below wr.heap.size wr ww → Calls Try.prog 38 #[.slice (cutP g (off + k) D 4) n cc] ww fun e w' => NewRow ww.heap.size w' e .u8 ((R.drop 4).take n) ∧ Below ww.heap.size ww w') := fun ww cc m => by
                    have := l1Copy_any ww g _ cc _ (RT ww m).out (fun h => absurd h (cutP_some _ _ _ _)) (by rw [BL.out]; omega)
                    rwa [BL.out] at this
                  clear MT' HNO MM SR SB SL RR TZ NZ he LB RT c0 c1 c2 c3 f0 f1 f2 f3 MTT
                  generalize lenL n = ls at *
                  go_wp2
                  go_quiet (fail)
                  go_upto_region 13 with fail
                  refine region_guard (fun i => [Fact.eq (.int .i64 4), Fact.eq (.int .i64 (n : Int)), Fact.eq (.int .i64 (4 + (n : Int))), Fact.eq (.slice (some ⟨g, off + k, none⟩) L D), Fact.eq (.int .i64 (L : Int)), Fact.eq (.bool false), Fact.eq (.bool false), Fact.eq (.int .i64 (n : Int)), RDn ls, Fact.eq (.slice (some ⟨g, off + k, none⟩) L D), Fact.eq (.int .i64 4), Fact.eq (.slice (some ⟨g, off + k + 1, none⟩) 3 (D - 1)), Fact.eq (.bool true), Fact.eq (.bool false), Fact.eq (.bool false)].getD i Fact.no) (by kernel_rfl) (by kernel_rfl) ?_ ?_ ?_
                  · intro i hi
                    have hiN : i < 15 := hi
                    obtain rfl | rfl | rfl | rfl | rfl | rfl | rfl | rfl | rfl | rfl | rfl | rfl | rfl | rfl | rfl : i = 0 ∨ i = 1 ∨ i = 2 ∨ i = 3 ∨ i = 4 ∨ i = 5 ∨ i = 6 ∨ i = 7 ∨ i = 8 ∨ i = 9 ∨ i = 10 ∨ i = 11 ∨ i = 12 ∨ i = 13 ∨ i = 14 := by omega
                    · refine step_pure rfl fun a ww hb hw hf => ?_
                      have e6 : a.tmps[6]?.getD undef = .int .i64 4 := gdv (hb.2.2 6 (by kernel_rfl))
                      exact ⟨.int .i64 4, by simp [go_sem, e6], rfl⟩
                    · refine step_pure rfl fun a ww hb hw hf => ?_
                      have e7 : a.tmps[7]?.getD undef = .int .i64 (n : Int) := gdv (hb.2.2 7 (by kernel_rfl))
                      exact ⟨.int .i64 (n : Int), by simp [go_sem, e7], rfl⟩
                    · refine step_pure rfl fun a ww hb hw hf => ?_
                      have e57 : a.tmps[57]?.getD undef = .int .i64 4 := gdv (hf 0 57 (by kernel_rfl))
                      have e58 : a.tmps[58]?.getD undef = .int .i64 (n : Int) := gdv (hf 1 58 (by kernel_rfl))
                      exact ⟨.int .i64 (4 + (n : Int)), by simp [go_sem, e57, e58, w0], rfl⟩
                    · refine step_pure rfl fun a ww hb hw hf => ?_
                      have e5 : a.tmps[5]?.getD undef = .slice (some ⟨g, off + k, none⟩) L D := gdv (hb.2.2 5 (by kernel_rfl))
                      exact ⟨.slice (some ⟨g, off + k, none⟩) L D, by simp [go_sem, e5], rfl⟩
                    · refine step_pure rfl fun a ww hb hw hf => ?_
                      have e60 : a.tmps[60]?.getD undef = .slice (some ⟨g, off + k, none⟩) L D := gdv (hf 3 60 (by kernel_rfl))
                      exact ⟨.int .i64 (L : Int), by simp [go_sem, e60], rfl⟩
                    · refine step_pure rfl fun a ww hb hw hf => ?_
                      have e59 : a.tmps[59]?.getD undef = .int .i64 (4 + (n : Int)) := gdv (hf 2 59 (by kernel_rfl))
                      have e61 : a.tmps[61]?.getD undef = .int .i64 (L : Int) := gdv (hf 4 61 (by kernel_rfl))
                      exact ⟨.bool false, by simp [go_sem, e59, e61, v1], rfl⟩
                    · refine step_pure rfl fun a ww hb hw hf => ?_
                      have e62 : a.tmps[62]?.getD undef = .bool false := gdv (hf 5 62 (by kernel_rfl))
                      exact ⟨.bool false, by simp [go_sem, e62], rfl⟩
                    · refine step_pure rfl fun a ww hb hw hf => ?_
                      have e7 : a.tmps[7]?.getD undef = .int .i64 (n : Int) := gdv (hb.2.2 7 (by kernel_rfl))
                      exact ⟨.int .i64 (n : Int), by simp [go_sem, e7], rfl⟩
                    · refine step_callv rfl 37 _ _ rfl (by kernel_rfl) fun a ww hb hw hf => ?_
                      have e64 : a.tmps.getD 64 undef = .int .i64 (n : Int) := hf 7 64 (by kernel_rfl)
                      show Calls Try.prog 37 #[a.tmps.getD 64 undef] ww _
                      rw [e64]
                      exact (LN ww).out.mono (by rintro r w' ⟨⟨a2, c2, g2, rfl, o2, p2, q2, r2⟩, n2⟩; exact ⟨_, rfl, n2, a2, c2, g2, rfl, o2.rd⟩)
                    · refine step_pure rfl fun a ww hb hw hf => ?_
                      have e5 : a.tmps[5]?.getD undef = .slice (some ⟨g, off + k, none⟩) L D := gdv (hb.2.2 5 (by kernel_rfl))
                      exact ⟨.slice (some ⟨g, off + k, none⟩) L D, by simp [go_sem, e5], rfl⟩
                    · refine step_pure rfl fun a ww hb hw hf => ?_
                      have e6 : a.tmps[6]?.getD undef = .int .i64 4 := gdv (hb.2.2 6 (by kernel_rfl))
                      exact ⟨.int .i64 4, by simp [go_sem, e6], rfl⟩
                    · refine step_pure rfl fun a ww hb hw hf => ?_
                      have e66 : a.tmps[66]?.getD undef = .slice (some ⟨g, off + k, none⟩) L D := gdv (hf 9 66 (by kernel_rfl))
                      have e67 : a.tmps[67]?.getD undef = .int .i64 4 := gdv (hf 10 67 (by kernel_rfl))
                      exact ⟨.slice (some ⟨g, off + k + 1, none⟩) 3 (D - 1), by simp [go_sem, e66, e67, ec, ck1, Addr.add], rfl⟩
                    · refine step_callv rfl 36 _ _ rfl (by kernel_rfl) fun a ww hb hw hf => ?_
                      obtain ⟨a2, c2, g2, e65, r65⟩ := hf 8 65 (by kernel_rfl)
                      have e68 : a.tmps.getD 68 undef = .slice (some ⟨g, off + k + 1, none⟩) 3 (D - 1) := hf 11 68 (by kernel_rfl)
                      show Calls Try.prog 36 #[a.tmps.getD 65 undef, a.tmps.getD 68 undef] ww _
                      rw [e65, e68]
                      exact (SMH.out ww g2 a2 c2 _ ⟨hw.os, hw.tape, hw.output, hw.size, hw.block⟩ r65).mono (by rintro r w' ⟨rfl, rfl⟩; exact ⟨_, rfl, Below.refl _ _, rfl⟩)
                    · refine step_pure rfl fun a ww hb hw hf => ?_
                      have e69 : a.tmps[69]?.getD undef = .bool true := gdv (hf 12 69 (by kernel_rfl))
                      exact ⟨.bool false, by simp [go_sem, e69], rfl⟩
                    · exact step_pickF rfl 63 70 6 13 rfl (by kernel_rfl) (by kernel_rfl) rfl rfl rfl
                  · intro i o ho A W hf
                    have hiN : i < 15 := (Array.getElem?_eq_some_iff.1 ho).1
                    obtain rfl | rfl | rfl | rfl | rfl | rfl | rfl | rfl | rfl | rfl | rfl | rfl | rfl | rfl | rfl : i = 0 ∨ i = 1 ∨ i = 2 ∨ i = 3 ∨ i = 4 ∨ i = 5 ∨ i = 6 ∨ i = 7 ∨ i = 8 ∨ i = 9 ∨ i = 10 ∨ i = 11 ∨ i = 12 ∨ i = 13 ∨ i = 14 := by omega
                    · cases ho; exact wanted_none rfl
                    · cases ho; exact wanted_none rfl
                    · cases ho; exact wanted_none rfl
                    · cases ho; exact wanted_none rfl
                    · cases ho; exact wanted_none rfl
                    · cases ho; exact wanted_none rfl
                    · cases ho; exact wanted_none rfl
                    · cases ho; exact wanted_some rfl (by kernel_rfl) (hf 6 63 (by kernel_rfl))
                    · cases ho; exact wanted_some rfl (by kernel_rfl) (hf 6 63 (by kernel_rfl))
                    · cases ho; exact wanted_some rfl (by kernel_rfl) (hf 6 63 (by kernel_rfl))
                    · cases ho; exact wanted_some rfl (by kernel_rfl) (hf 6 63 (by kernel_rfl))
                    · cases ho; exact wanted_some rfl (by kernel_rfl) (hf 6 63 (by kernel_rfl))
                    · cases ho; exact wanted_some rfl (by kernel_rfl) (hf 6 63 (by kernel_rfl))
                    · cases ho; exact wanted_some rfl (by kernel_rfl) (hf 6 63 (by kernel_rfl))
                    · cases ho; exact wanted_none rfl
                  intro A W4 hb' hw hF
                  have e2 := hF 14 71 (by kernel_rfl)
                  obtain ⟨vs, hvs⟩ : ∃ vs : Nat → Value, ∀ d, A.tmps.getD d undef = vs d := ⟨_, fun _ => rfl⟩
                  rw [hvs] at e2
                  rw [puts_guard (md := .any) (by kernel_rfl) rfl hb' vs hvs]
                  clear hb' hF hvs
                  have e3 : vs 71 = .bool false := e2
                  clear e2
                  simp only [puts, e3, Act.put, List.setIfInBounds_toArray, List.set_cons_succ, List.set_cons_zero]
                  clear e3
                  have m2 : Below wr.heap.size wr W4 := ⟨hw.os, hw.tape, hw.output, hw.size, hw.block⟩
                  clear hw
                  have T4 := T.up m2
                  have N4 := nxt N m2
                  have TH : Hid (∀ W, Below W4.heap.size W4 W → W.there w.heap.size 0 4) := fun W h => (T4.up h).there
                  have x4 := (m2.cell (p := ⟨g, off + k, none⟩) gw).trans r0
                  have CX : Hid (∀ W, Below W4.heap.size W4 W → W.cell? ⟨g, off + k, none⟩ = some (.int .u8 x)) := fun W h => (h.cell (p := ⟨g, off + k, none⟩) (Nat.lt_of_lt_of_le gw m2.size)).trans x4
                  have w1 : IntKind.i64.wrap ((k : Int) + 4) = (k : Int) + 4 := by rw [wrap_i64]; omega
                  have w2 : IntKind.i64.wrap ((k : Int) + 4 + (n : Int)) = (k : Int) + 4 + (n : Int) := by rw [wrap_i64]; omega
                  have w3 : IntKind.i64.wrap x = x := by rw [wrap_i64]; omega
                  have L0 : ¬ (L = 0) := by omega
                  have s1 : (4 : Int) ≤ 4 + (n : Int) := by omega
                  have s2 : (4 : Int) + (n : Int) ≤ (D : Int) := by omega
                  have BLn := BL.out
                  clear r0 SMH LN v1 x4
                  go_upto_region 14 with fail
                  refine region_putB 17 4 16 88 _ (fun i => [Fact.eq (.slice (some ⟨g, off + k, none⟩) L D), Fact.eq (.pointer (some ⟨g, off + k, none⟩)), Fact.eq (.int .u8 x), Fact.eq (.int .i64 x), Fact.eq (.slice (some ⟨g, off + k, none⟩) L D), Fact.eq (.int .i64 4), Fact.eq (.int .i64 4), Fact.eq (.int .i64 (n : Int)), Fact.eq (.int .i64 (4 + (n : Int))), Fact.eq (.slice (cutP g (off + k) D 4) n (D - 4)), RWn (w.heap.size + 1) ((R.drop 4).take n), Fact.eq (.int .i64 (k : Int)), Fact.eq (.int .i64 4), Fact.eq (.int .i64 ((k : Int) + 4)), Fact.eq (.int .i64 (n : Int)), Fact.eq (.int .i64 ((k : Int) + 4 + (n : Int))), ⟨fun v W => ∃ (a : Option Addr) (c q : Nat), v = .agg #[.bool true, .int .i64 x, .slice a n c, .int .i64 ((k : Int) + 4 + (n : Int))] ∧ Own W q a .u8 ((R.drop 4).take n) ∧ (a = none → c = 0) ∧ n ≤ c ∧ w.heap.size + 1 ≤ q, fun m h => by obtain ⟨a, c, q, e, r, k⟩ := h; exact ⟨a, c, q, e, r.up m, k⟩⟩].getD i Fact.no) w.heap.size 4 42 (fun cells W => ∃ (a : Option Addr) (c q : Nat), cells = [.bool true, .int .i64 x, .slice a n c, .int .i64 ((k : Int) + 4 + (n : Int))] ∧ Own W q a .u8 ((R.drop 4).take n) ∧ (a = none → c = 0) ∧ n ≤ c ∧ w.heap.size + 1 ≤ q) (by kernel_rfl) (by kernel_rfl) rfl rfl rfl (by kernel_rfl) rfl (by kernel_rfl) ?_ TH.out (by kernel_rfl) ?_ ?_
                  · rintro v W ⟨a, c, q, rfl, h⟩
                    exact ⟨[.bool true, .int .i64 x, .slice a n c, .int .i64 ((k : Int) + 4 + (n : Int))], rfl, rfl, by kernel_rfl, a, c, q, rfl, h⟩
                  · intro i hi
                    obtain rfl | rfl | rfl | rfl | rfl | rfl | rfl | rfl | rfl | rfl | rfl | rfl | rfl | rfl | rfl | rfl | rfl : i = 0 ∨ i = 1 ∨ i = 2 ∨ i = 3 ∨ i = 4 ∨ i = 5 ∨ i = 6 ∨ i = 7 ∨ i = 8 ∨ i = 9 ∨ i = 10 ∨ i = 11 ∨ i = 12 ∨ i = 13 ∨ i = 14 ∨ i = 15 ∨ i = 16 := by omega
                    · refine step_pure rfl fun a ww hb hw hf => ?_
                      have e5 : a.tmps[5]?.getD undef = .slice (some ⟨g, off + k, none⟩) L D := gdv (hb.2.2 5 (by kernel_rfl))
                      exact ⟨.slice (some ⟨g, off + k, none⟩) L D, by simp [go_sem, e5], rfl⟩
                    · refine step_pure rfl fun a ww hb hw hf => ?_
                      have e72 : a.tmps[72]?.getD undef = .slice (some ⟨g, off + k, none⟩) L D := gdv (hf 0 72 (by kernel_rfl))
                      exact ⟨.pointer (some ⟨g, off + k, none⟩), by simp [go_sem, e72, L0], rfl⟩
                    · refine step_pure rfl fun a ww hb hw hf => ?_
                      have e73 : a.tmps[73]?.getD undef = .pointer (some ⟨g, off + k, none⟩) := gdv (hf 1 73 (by kernel_rfl))
                      have hc := CX.out ww hw
                      exact ⟨.int .u8 x, by simp [go_sem, e73, hc], rfl⟩
                    · refine step_pure rfl fun a ww hb hw hf => ?_
                      have e74 : a.tmps[74]?.getD undef = .int .u8 x := gdv (hf 2 74 (by kernel_rfl))
                      exact ⟨.int .i64 x, by simp [go_sem, e74, w3], rfl⟩
                    · refine step_pure rfl fun a ww hb hw hf => ?_
                      have e5 : a.tmps[5]?.getD undef = .slice (some ⟨g, off + k, none⟩) L D := gdv (hb.2.2 5 (by kernel_rfl))
                      exact ⟨.slice (some ⟨g, off + k, none⟩) L D, by simp [go_sem, e5], rfl⟩
                    · refine step_pure rfl fun a ww hb hw hf => ?_
                      have e6 : a.tmps[6]?.getD undef = .int .i64 4 := gdv (hb.2.2 6 (by kernel_rfl))
                      exact ⟨.int .i64 4, by simp [go_sem, e6], rfl⟩
                    · refine step_pure rfl fun a ww hb hw hf => ?_
                      have e6 : a.tmps[6]?.getD undef = .int .i64 4 := gdv (hb.2.2 6 (by kernel_rfl))
                      exact ⟨.int .i64 4, by simp [go_sem, e6], rfl⟩
                    · refine step_pure rfl fun a ww hb hw hf => ?_
                      have e7 : a.tmps[7]?.getD undef = .int .i64 (n : Int) := gdv (hb.2.2 7 (by kernel_rfl))
                      exact ⟨.int .i64 (n : Int), by simp [go_sem, e7], rfl⟩
                    · refine step_pure rfl fun a ww hb hw hf => ?_
                      have e78 : a.tmps[78]?.getD undef = .int .i64 4 := gdv (hf 6 78 (by kernel_rfl))
                      have e79 : a.tmps[79]?.getD undef = .int .i64 (n : Int) := gdv (hf 7 79 (by kernel_rfl))
                      exact ⟨.int .i64 (4 + (n : Int)), by simp [go_sem, e78, e79, w0], rfl⟩
                    · refine step_pure rfl fun a ww hb hw hf => ?_
                      have e76 : a.tmps[76]?.getD undef = .slice (some ⟨g, off + k, none⟩) L D := gdv (hf 4 76 (by kernel_rfl))
                      have e77 : a.tmps[77]?.getD undef = .int .i64 4 := gdv (hf 5 77 (by kernel_rfl))
                      have e80 : a.tmps[80]?.getD undef = .int .i64 (4 + (n : Int)) := gdv (hf 8 80 (by kernel_rfl))
                      refine ⟨.slice (cutP g (off + k) D 4) n (D - 4), ?_, rfl⟩
                      by_cases dj : D = 4
                      · have n0 : n = 0 := by omega
                        simp [go_sem, e76, e77, e80, dj, n0, cutP]
                      · have s3 : ((4 : Int) + (n : Int)).toNat = 4 + n := by omega
                        simp [go_sem, e76, e77, e80, s1, s2, s3, dj, cutP, Addr.add]
                    · refine step_callv rfl 38 _ _ rfl (by kernel_rfl) fun a ww hb hw hf => ?_
                      have e81 : a.tmps.getD 81 undef = .slice (cutP g (off + k) D 4) n (D - 4) := hf 9 81 (by kernel_rfl)
                      show Calls Try.prog 38 #[a.tmps.getD 81 undef] ww _
                      rw [e81]
                      exact (CPH.out ww _ (nxt m2 hw)).mono (by rintro r w' ⟨⟨a2, c2, g2, rfl, o2, p2, q2, r2⟩, n2⟩; exact ⟨_, rfl, n2, a2, c2, g2, rfl, o2, p2, q2, by have := hw.size; have := T4.lt; omega⟩)
                    · refine step_pure rfl fun a ww hb hw hf => ?_
                      have e1 : a.tmps[1]?.getD undef = .int .i64 (k : Int) := gdv (hb.2.2 1 (by kernel_rfl))
                      exact ⟨.int .i64 (k : Int), by simp [go_sem, e1], rfl⟩
                    · refine step_pure rfl fun a ww hb hw hf => ?_
                      have e6 : a.tmps[6]?.getD undef = .int .i64 4 := gdv (hb.2.2 6 (by kernel_rfl))
                      exact ⟨.int .i64 4, by simp [go_sem, e6], rfl⟩
                    · refine step_pure rfl fun a ww hb hw hf => ?_
                      have e83 : a.tmps[83]?.getD undef = .int .i64 (k : Int) := gdv (hf 11 83 (by kernel_rfl))
                      have e84 : a.tmps[84]?.getD undef = .int .i64 4 := gdv (hf 12 84 (by kernel_rfl))
                      exact ⟨.int .i64 ((k : Int) + 4), by simp [go_sem, e83, e84, w1], rfl⟩
                    · refine step_pure rfl fun a ww hb hw hf => ?_
                      have e7 : a.tmps[7]?.getD undef = .int .i64 (n : Int) := gdv (hb.2.2 7 (by kernel_rfl))
                      exact ⟨.int .i64 (n : Int), by simp [go_sem, e7], rfl⟩
                    · refine step_pure rfl fun a ww hb hw hf => ?_
                      have e85 : a.tmps[85]?.getD undef = .int .i64 ((k : Int) + 4) := gdv (hf 13 85 (by kernel_rfl))
                      have e86 : a.tmps[86]?.getD undef = .int .i64 (n : Int) := gdv (hf 14 86 (by kernel_rfl))
                      exact ⟨.int .i64 ((k : Int) + 4 + (n : Int)), by simp [go_sem, e85, e86, w2], rfl⟩
                    · refine step_pure rfl fun a ww hb hw hf => ?_
                      have e75 : a.tmps[75]?.getD undef = .int .i64 x := gdv (hf 3 75 (by kernel_rfl))
                      have e87 : a.tmps[87]?.getD undef = .int .i64 ((k : Int) + 4 + (n : Int)) := gdv (hf 15 87 (by kernel_rfl))
                      obtain ⟨a2, c2, g2, e82, o2, p2, q2, r2⟩ := hf 10 82 (by kernel_rfl)
                      rw [BLn] at e82 q2
                      have e82' : a.tmps[82]?.getD undef = .slice a2 n c2 := gdv e82
                      exact ⟨.agg #[.bool true, .int .i64 x, .slice a2 n c2, .int .i64 ((k : Int) + 4 + (n : Int))], by simp [go_sem, e75, e87, e82'], a2, c2, g2, rfl, o2, p2, q2, r2⟩
                  rintro vs W cells hw ⟨aF, cF, qF, rfl, oF, pF, kF, rF⟩
                  have T5 : Fo (W.setCells w.heap.size 0 [.bool true, .int .i64 x, .slice aF n cF, .int .i64 ((k : Int) + 4 + (n : Int))]) w.heap.size (.bool true) (.int .i64 x) (.slice aF n cF) (.int .i64 ((k : Int) + 4 + (n : Int))) := (T4.up hw).set _ _ _ _
                  have O5 : Only w.heap.size W (W.setCells w.heap.size 0 [.bool true, .int .i64 x, .slice aF n cF, .int .i64 ((k : Int) + 4 + (n : Int))]) := only_set4 W w.heap.size _ _ _ _
                  have N5 := (nxt N4 hw).trans (O5.below (B := w.heap.size) (Nat.le_refl _))
                  have o5 := oF.only O5 (fun _ => by omega)
                  clear O5 oF hw T4 N4 m2 TH CX CPH
                  simp only [puts, Act.put, List.setIfInBounds_toArray, List.set_cons_succ, List.set_cons_zero]
                  generalize W.setCells w.heap.size 0 [.bool true, .int .i64 x, .slice aF n cF, .int .i64 ((k : Int) + 4 + (n : Int))] = w5 at *
                  go_wp2
                  refine bodyPost_ret (v := .agg #[.bool true, .int .i64 x, .slice aF n cF, .int .i64 ((k : Int) + 4 + (n : Int))]) (by simp [results, Try.results20, go_sem, T5.c0, T5.c1, T5.c2, T5.c3]) rfl ⟨?_, N5⟩
                  rw [IS.out]
                  show NewT _ _ _ true x (dbT xs (some (x, k + 4, n))) ((k + 4 + n : Nat) : Int)
                  rw [BW.out]
                  exact ⟨aF, cF, qF, by rw [BL.out, show ((k + 4 + n : Nat) : Int) = (k : Int) + 4 + (n : Int) by omega], o5, pF, by rw [BL.out]; exact kF, by omega⟩
                · have NM : Hid (mtK R 4 = false) := by show mtK R 4 = false; rw [MM.out, decide_eq_false he]; simp
                  have NX : Hid (∀ m, 2 ≤ m → m < 4 + 1 → m ≤ R.length → mtK R m = false) := HNO.out NM.out
                  rw [decide_eq_false he] at SMH
                  clear MT' HNO NM MM SR SB SL BW RR TZ NZ he LB c0 c1 c2 c3 f0 f1 f2 f3
                  generalize lenL n = ls at *
                  go_wp2
                  go_quiet (fail)
                  go_upto_region 13 with fail
                  refine region_guard (fun i => [Fact.eq (.int .i64 4), Fact.eq (.int .i64 (n : Int)), Fact.eq (.int .i64 (4 + (n : Int))), Fact.eq (.slice (some ⟨g, off + k, none⟩) L D), Fact.eq (.int .i64 (L : Int)), Fact.eq (.bool false), Fact.eq (.bool false), Fact.eq (.int .i64 (n : Int)), RDn ls, Fact.eq (.slice (some ⟨g, off + k, none⟩) L D), Fact.eq (.int .i64 4), Fact.eq (.slice (some ⟨g, off + k + 1, none⟩) 3 (D - 1)), Fact.eq (.bool false), Fact.eq (.bool true), Fact.eq (.bool true)].getD i Fact.no) (by kernel_rfl) (by kernel_rfl) ?_ ?_ ?_
                  · intro i hi
                    have hiN : i < 15 := hi
                    obtain rfl | rfl | rfl | rfl | rfl | rfl | rfl | rfl | rfl | rfl | rfl | rfl | rfl | rfl | rfl : i = 0 ∨ i = 1 ∨ i = 2 ∨ i = 3 ∨ i = 4 ∨ i = 5 ∨ i = 6 ∨ i = 7 ∨ i = 8 ∨ i = 9 ∨ i = 10 ∨ i = 11 ∨ i = 12 ∨ i = 13 ∨ i = 14 := by omega
                    · refine step_pure rfl fun a ww hb hw hf => ?_
                      have e6 : a.tmps[6]?.getD undef = .int .i64 4 := gdv (hb.2.2 6 (by kernel_rfl))
                      exact ⟨.int .i64 4, by simp [go_sem, e6], rfl⟩
                    · refine step_pure rfl fun a ww hb hw hf => ?_
                      have e7 : a.tmps[7]?.getD undef = .int .i64 (n : Int) := gdv (hb.2.2 7 (by kernel_rfl))
                      exact ⟨.int .i64 (n : Int), by simp [go_sem, e7], rfl⟩
                    · refine step_pure rfl fun a ww hb hw hf => ?_
                      have e57 : a.tmps[57]?.getD undef = .int .i64 4 := gdv (hf 0 57 (by kernel_rfl))
                      have e58 : a.tmps[58]?.getD undef = .int .i64 (n : Int) := gdv (hf 1 58 (by kernel_rfl))
                      exact ⟨.int .i64 (4 + (n : Int)), by simp [go_sem, e57, e58, w0], rfl⟩
                    · refine step_pure rfl fun a ww hb hw hf => ?_
                      have e5 : a.tmps[5]?.getD undef = .slice (some ⟨g, off + k, none⟩) L D := gdv (hb.2.2 5 (by kernel_rfl))
                      exact ⟨.slice (some ⟨g, off + k, none⟩) L D, by simp [go_sem, e5], rfl⟩
                    · refine step_pure rfl fun a ww hb hw hf => ?_
                      have e60 : a.tmps[60]?.getD undef = .slice (some ⟨g, off + k, none⟩) L D := gdv (hf 3 60 (by kernel_rfl))
                      exact ⟨.int .i64 (L : Int), by simp [go_sem, e60], rfl⟩
                    · refine step_pure rfl fun a ww hb hw hf => ?_
                      have e59 : a.tmps[59]?.getD undef = .int .i64 (4 + (n : Int)) := gdv (hf 2 59 (by kernel_rfl))
                      have e61 : a.tmps[61]?.getD undef = .int .i64 (L : Int) := gdv (hf 4 61 (by kernel_rfl))
                      exact ⟨.bool false, by simp [go_sem, e59, e61, v1], rfl⟩
                    · refine step_pure rfl fun a ww hb hw hf => ?_
                      have e62 : a.tmps[62]?.getD undef = .bool false := gdv (hf 5 62 (by kernel_rfl))
                      exact ⟨.bool false, by simp [go_sem, e62], rfl⟩
                    · refine step_pure rfl fun a ww hb hw hf => ?_
                      have e7 : a.tmps[7]?.getD undef = .int .i64 (n : Int) := gdv (hb.2.2 7 (by kernel_rfl))
                      exact ⟨.int .i64 (n : Int), by simp [go_sem, e7], rfl⟩
                    · refine step_callv rfl 37 _ _ rfl (by kernel_rfl) fun a ww hb hw hf => ?_
                      have e64 : a.tmps.getD 64 undef = .int .i64 (n : Int) := hf 7 64 (by kernel_rfl)
                      show Calls Try.prog 37 #[a.tmps.getD 64 undef] ww _
                      rw [e64]
                      exact (LN ww).out.mono (by rintro r w' ⟨⟨a2, c2, g2, rfl, o2, p2, q2, r2⟩, n2⟩; exact ⟨_, rfl, n2, a2, c2, g2, rfl, o2.rd⟩)
                    · refine step_pure rfl fun a ww hb hw hf => ?_
                      have e5 : a.tmps[5]?.getD undef = .slice (some ⟨g, off + k, none⟩) L D := gdv (hb.2.2 5 (by kernel_rfl))
                      exact ⟨.slice (some ⟨g, off + k, none⟩) L D, by simp [go_sem, e5], rfl⟩
                    · refine step_pure rfl fun a ww hb hw hf => ?_
                      have e6 : a.tmps[6]?.getD undef = .int .i64 4 := gdv (hb.2.2 6 (by kernel_rfl))
                      exact ⟨.int .i64 4, by simp [go_sem, e6], rfl⟩
                    · refine step_pure rfl fun a ww hb hw hf => ?_
                      have e66 : a.tmps[66]?.getD undef = .slice (some ⟨g, off + k, none⟩) L D := gdv (hf 9 66 (by kernel_rfl))
                      have e67 : a.tmps[67]?.getD undef = .int .i64 4 := gdv (hf 10 67 (by kernel_rfl))
                      exact ⟨.slice (some ⟨g, off + k + 1, none⟩) 3 (D - 1), by simp [go_sem, e66, e67, ec, ck1, Addr.add], rfl⟩
                    · refine step_callv rfl 36 _ _ rfl (by kernel_rfl) fun a ww hb hw hf => ?_
                      obtain ⟨a2, c2, g2, e65, r65⟩ := hf 8 65 (by kernel_rfl)
                      have e68 : a.tmps.getD 68 undef = .slice (some ⟨g, off + k + 1, none⟩) 3 (D - 1) := hf 11 68 (by kernel_rfl)
                      show Calls Try.prog 36 #[a.tmps.getD 65 undef, a.tmps.getD 68 undef] ww _
                      rw [e65, e68]
                      exact (SMH.out ww g2 a2 c2 _ ⟨hw.os, hw.tape, hw.output, hw.size, hw.block⟩ r65).mono (by rintro r w' ⟨rfl, rfl⟩; exact ⟨_, rfl, Below.refl _ _, rfl⟩)
                    · refine step_pure rfl fun a ww hb hw hf => ?_
                      have e69 : a.tmps[69]?.getD undef = .bool false := gdv (hf 12 69 (by kernel_rfl))
                      exact ⟨.bool true, by simp [go_sem, e69], rfl⟩
                    · exact step_pickF rfl 63 70 6 13 rfl (by kernel_rfl) (by kernel_rfl) rfl rfl rfl
                  · intro i o ho A W hf
                    have hiN : i < 15 := (Array.getElem?_eq_some_iff.1 ho).1
                    obtain rfl | rfl | rfl | rfl | rfl | rfl | rfl | rfl | rfl | rfl | rfl | rfl | rfl | rfl | rfl : i = 0 ∨ i = 1 ∨ i = 2 ∨ i = 3 ∨ i = 4 ∨ i = 5 ∨ i = 6 ∨ i = 7 ∨ i = 8 ∨ i = 9 ∨ i = 10 ∨ i = 11 ∨ i = 12 ∨ i = 13 ∨ i = 14 := by omega
                    · cases ho; exact wanted_none rfl
                    · cases ho; exact wanted_none rfl
                    · cases ho; exact wanted_none rfl
                    · cases ho; exact wanted_none rfl
                    · cases ho; exact wanted_none rfl
                    · cases ho; exact wanted_none rfl
                    · cases ho; exact wanted_none rfl
                    · cases ho; exact wanted_some rfl (by kernel_rfl) (hf 6 63 (by kernel_rfl))
                    · cases ho; exact wanted_some rfl (by kernel_rfl) (hf 6 63 (by kernel_rfl))
                    · cases ho; exact wanted_some rfl (by kernel_rfl) (hf 6 63 (by kernel_rfl))
                    · cases ho; exact wanted_some rfl (by kernel_rfl) (hf 6 63 (by kernel_rfl))
                    · cases ho; exact wanted_some rfl (by kernel_rfl) (hf 6 63 (by kernel_rfl))
                    · cases ho; exact wanted_some rfl (by kernel_rfl) (hf 6 63 (by kernel_rfl))
                    · cases ho; exact wanted_some rfl (by kernel_rfl) (hf 6 63 (by kernel_rfl))
                    · cases ho; exact wanted_none rfl
                  intro A W4 hb' hw hF
                  have e2 := hF 14 71 (by kernel_rfl)
                  obtain ⟨vs, hvs⟩ : ∃ vs : Nat → Value, ∀ d, A.tmps.getD d undef = vs d := ⟨_, fun _ => rfl⟩
                  rw [hvs] at e2
                  rw [puts_guard (md := .any) (by kernel_rfl) rfl hb' vs hvs]
                  clear hb' hF hvs
                  have e3 : vs 71 = .bool true := e2
                  clear e2
                  simp only [puts, e3, Act.put, List.setIfInBounds_toArray, List.set_cons_succ, List.set_cons_zero]
                  clear e3
                  have m2 : Below wr.heap.size wr W4 := ⟨hw.os, hw.tape, hw.output, hw.size, hw.block⟩
                  clear hw
                  go_wp2
                  go_roundw
                  case rel => exact ⟨4 + 1, by omega, by omega, by go_num, NX, T.up m2, nxt N m2⟩
                  case measure => simp [intOf]
              · have v1 : decide ((L : Int) < 4 + (n : Int)) = true := by simp; omega
                have NM : Hid (mtK R 4 = false) := by show mtK R 4 = false; rw [MM.out, decide_eq_false (by rw [← HL.out]; exact hin)]; rfl
                have NX : Hid (∀ m, 2 ≤ m → m < 4 + 1 → m ≤ R.length → mtK R m = false) := HNO.out NM.out
                clear MT' HNO NM MM SR SB SL BW RR TZ NZ
                go_wp2
                go_quiet (fail)
                go_wp2
                go_quiet (fail)
                go_wp2
                go_roundw
                case rel => exact ⟨4 + 1, by omega, by omega, by go_num, NX, ⟨T.choose, T.choose_spec⟩, below_drewN N _⟩
                case measure => simp [intOf]
          · have IZ : Hid (itZ xs (k : Int) = none) := by show itZ xs (k : Int) = none; rw [ZA.out]; exact (NO fun m h2 h4 hm => hno.out m h2 (by omega) hm).out
            clear cR hno MT NO
            go_wp2
            change bodyPost _ _ _ _ _ (set4 wr w.heap.size (.bool false) (.int .i64 0) (.slice none 0 0) (.int .i64 0))
            exact bodyPost_ret (v := .agg #[.bool false, .int .i64 0, .slice none 0 0, .int .i64 0]) (by simp [results, Try.results20, go_sem, TZ.c0, TZ.c1, TZ.c2, TZ.c3]) rfl ⟨newT_none _ _ IZ.out, NZ⟩
end Go.Proofs.Ytgmnnmlbmibabaa
