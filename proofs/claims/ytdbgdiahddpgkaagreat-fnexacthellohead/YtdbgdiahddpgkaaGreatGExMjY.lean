import Derived.Test.YtdbgdiahddpgkaaGreatGExMjB
import Derived.Test.YtdbgdiahddpgkaaGreatGE23
import Derived.Test.YtdbgdiahddpgkaaGreatGE19

/-
  The law of HelloHead (written by gens/mjy.py).
-/
namespace Go.Proofs.YtdbgdiahddpgkaaGreat
open Go Go.RowKit

theorem Rd.chL {w w' : World} {g lo hi : Nat} {a : Option Addr} {xs : List Int} (h : Rd w g a .u8 xs) (n : Ch lo hi w w') (hg : xs.length = 0 ∨ g < lo) : Rd w' g a .u8 xs := fun h0 => by
  have l : g < w.heap.size := by
    rcases rd_lt h with e | e
    · omega
    · exact e
  exact h.of_block (n.block g l (.inl (by omega))) h0
theorem Own.chH {w w' : World} {g lo hi : Nat} {a : Option Addr} {xs : List Int} (h : Own w g a .u8 xs) (n : Ch lo hi w w') (hg : hi ≤ g) : Own w' g a .u8 xs := fun h0 => by
  have l : g < w.heap.size := by
    rcases rd_lt h.rd with e | e
    · omega
    · exact e
  exact h.of_block (n.block g l (.inr hg)) h0
theorem Rd.onlO {w w' : World} {g q : Nat} {a : Option Addr} {xs : List Int} (h : Rd w g a .u8 xs) (O : Only q w w') (hne : xs.length = 0 ∨ g < q) : Rd w' g a .u8 xs := fun h0 => h.of_block (O.block g (by omega)) h0
set_option maxRecDepth 100000 in
set_option maxHeartbeats 2000000 in
theorem helloHead_core (w : World) (p : MQ) (m : Msg) (hC : HasM w p m) (ok : OkM m) :
    Calls Tryz.prog 3 #[.agg (mgV p m)] w fun e w' => e = .returned (.bool true) ∧ Below w.heap.size w w' := by
  have n1 : Below w.heap.size w (w.alloc (.cells (mgV p m) 26)) := (Below.refl _ _).alloc (Nat.le_refl _) _
  have T0 : RwC (w.alloc (.cells (mgV p m) 26)) w.heap.size (mgV p m).toList 26 := RwC.new w (mgV p m).toList 26
  have SZ := hide (szMessage_r (w.alloc (.cells (mgV p m) 26)) p m (hC.up n1) ok.l2 ok.l3 ok.l4 ok.l5 ok.lz ok.l6 ok.l9 ok.l11 ok.lc ok.l12)
  have HC : Hid (∀ W, Below w.heap.size w W → HasM W p m) := fun W n => hC.up n
  have N1 := hide n1
  have TT := hide T0
  clear n1 T0 hC
  have IS : Hid (m.r.length + m.s.length + m.ho.length + (m.pr.length + sumT m.pr) + m.ti.length + m.bi.length + (m.ce.length + sumB m.ce) + m.pf.length ≤ 1048576 → IsM m ∧ sumB m.ce ≤ 1048576) := fun h => ⟨isM_of ok h, by omega⟩
  clear ok
  generalize hS : m.r.length + m.s.length + m.ho.length + (m.pr.length + sumT m.pr) + m.ti.length + m.bi.length + (m.ce.length + sumB m.ce) + m.pf.length = S at *
  clear hS
  go_enter Tryz.func3, Tryz.ntmps3
  obtain ⟨dL, hdL, hrL⟩ := rowLM
  obtain ⟨dC, hdC, hrC⟩ := rowM
  go_upto_region 2 with fail
  generalize w.alloc (.cells (mgV p m) 26) = W1 at *
  have RG := TT.out.rangeG
  clear TT
  go_wp2_with (first | (refine wpList_load_mid rfl 26 (.tmp 1) rfl w.heap.size 0 rfl (mgV p m).toList dL RG hdL hrL iLM ?_) | fail)
  refine SZ.out.mono ?_
  rintro e w2 ⟨⟨x, rfl, hx, hx'⟩, n2⟩
  have N2 := hide (nxt N1.out n2)
  have RG2 := rangeM RG n2
  clear n2 RG SZ N1
  by_cases hl : x < 0
  · have t1 : decide (x < 0) = true := decide_eq_true hl
    clear hl hx hx' IS HC RG2
    go_wp2
    go_ret
    exact ⟨rfl, N2.out⟩
  have t1 : decide (x < 0) = false := decide_eq_false hl
  have im := hide ((unhide IS) (hx (by omega)))
  clear hl hx hx' IS
  have TO : Hid (∀ W, Below w.heap.size w W → Calls Tryz.prog 6 #[.agg (mgV p m)] W fun e w' => (∃ G2 G3 G5 G6 G9 G11 G12 Gs, e = .returned (.agg (mgV (mqO G2 G3 G5 G6 G9 G11 G12 Gs m) m)) ∧ OwnM W.heap.size w' G2 G3 G5 G6 G9 G11 G12 Gs m) ∧ Below W.heap.size W w') := fun W n => toMessage_own W p m ((unhide HC) W n) im.out.1
  have SP : Hid (∀ W q, HasM W q m → HasZ q m → Calls Tryz.prog 5 #[.agg (mgV q m)] W (HhP W (hhF m))) := fun W q h z => specHH_any W q m h im.out.1 z
  have IM : Hid (∀ W q, HasM W q m → HasZ q m → Calls Tryz.prog 7 #[.agg (mgV q m)] W (HhP W (hhF m))) := fun W q h z => implHH_any W q m h im.out.1 z
  have EL := hh_le m
  generalize hhF m = E at *
  go_wp2_with (first | (refine wpList_load_mid rfl 26 (.tmp 1) rfl w.heap.size 0 rfl (mgV p m).toList dL RG2 hdL hrL iLM ?_) | fail)
  refine ((unhide TO) w2 N2.out).mono ?_
  rintro e w3 ⟨⟨a2, a3, a5, a6, a9, a11, a12, az, rfl, nc⟩, n3⟩
  have N3 := hide (nxt N2.out n3)
  have RG3 := rangeM RG2 n3
  have SP3 := hide ((unhide SP) w3 _ nc.has mqO_z)
  clear n3 RG2 N2 nc SP
  go_wp2_with fail
  refine SP3.out.mono ?_
  rintro e w4 ⟨⟨b4, c4, g4, rfl, o4, -⟩, n4⟩
  have r4 := o4.rd
  have N4 := hide (nxt N3.out n4)
  have RG4 := rangeM RG3 n4
  have l4 := rd_lt r4
  clear n4 RG3 N3 SP3 o4
  go_wp2_with (first | (refine wpList_load_mid rfl 26 (.tmp 1) rfl w.heap.size 0 rfl (mgV p m).toList dL RG4 hdL hrL iLM ?_) | fail)
  refine ((unhide TO) w4 N4.out).mono ?_
  rintro e w5 ⟨⟨G2, G3, G5, G6, G9, G11, G12, Gs, rfl, nc⟩, n5⟩
  have N5 := hide (nxt N4.out n5)
  have S4 := N4.out.size
  have S4' : w.heap.size < w4.heap.size := block_lt_of_cell (RG4 0 (.int .i64 m.k) rfl)
  have RG5 := rangeM RG4 n5
  have r5 := r4.up n5
  have s5 := n5.size
  have l12 := nc.pf.lt
  clear n5 RG4 N4 r4
  have HM := nc.has
  have HZm : HasZ (mqO G2 G3 G5 G6 G9 G11 G12 Gs m) m := mqO_z
  generalize hq : mqO G2 G3 G5 G6 G9 G11 G12 Gs m = q' at *
  have a5 : Below w5.heap.size w5 (w5.alloc (.cells #[.int .i64 0, .int .i64 0, .slice none 0 0, .slice none 0 0, .string ⟨#[]⟩, .slice none 0 0, .slice none 0 0, .int .i64 0, .int .i64 0, .slice none 0 0, .bool false, .slice none 0 0, .slice none 0 0] 31)) := (Below.refl _ _).alloc (Nat.le_refl _) _
  have TH0 : RwC (w5.alloc (.cells #[.int .i64 0, .int .i64 0, .slice none 0 0, .slice none 0 0, .string ⟨#[]⟩, .slice none 0 0, .slice none 0 0, .int .i64 0, .int .i64 0, .slice none 0 0, .bool false, .slice none 0 0, .slice none 0 0] 31)) w5.heap.size (#[.int .i64 0, .int .i64 0, .slice none 0 0, .slice none 0 0, .string ⟨#[]⟩, .slice none 0 0, .slice none 0 0, .int .i64 0, .int .i64 0, .slice none 0 0, .bool false, .slice none 0 0, .slice none 0 0] : Array Value).toList 31 := RwC.new w5 (#[.int .i64 0, .int .i64 0, .slice none 0 0, .slice none 0 0, .string ⟨#[]⟩, .slice none 0 0, .slice none 0 0, .int .i64 0, .int .i64 0, .slice none 0 0, .bool false, .slice none 0 0, .slice none 0 0] : Array Value).toList 31
  have TH : (w5.alloc (.cells #[.int .i64 0, .int .i64 0, .slice none 0 0, .slice none 0 0, .string ⟨#[]⟩, .slice none 0 0, .slice none 0 0, .int .i64 0, .int .i64 0, .slice none 0 0, .bool false, .slice none 0 0, .slice none 0 0] 31)).there w5.heap.size 0 (mgV q' m).size := TH0.thereG
  have RX := World.rangeAt_setCells_same (w5.alloc (.cells #[.int .i64 0, .int .i64 0, .slice none 0 0, .slice none 0 0, .string ⟨#[]⟩, .slice none 0 0, .slice none 0 0, .int .i64 0, .int .i64 0, .slice none 0 0, .bool false, .slice none 0 0, .slice none 0 0] 31)) w5.heap.size 0 (mgV q' m).toList TH
  have OX := only_setG (w5.alloc (.cells #[.int .i64 0, .int .i64 0, .slice none 0 0, .slice none 0 0, .string ⟨#[]⟩, .slice none 0 0, .slice none 0 0, .int .i64 0, .int .i64 0, .slice none 0 0, .bool false, .slice none 0 0, .slice none 0 0] 31)) w5.heap.size (mgV q' m).toList 0
  have b5 : Below w5.heap.size w5 ((w5.alloc (.cells #[.int .i64 0, .int .i64 0, .slice none 0 0, .slice none 0 0, .string ⟨#[]⟩, .slice none 0 0, .slice none 0 0, .int .i64 0, .int .i64 0, .slice none 0 0, .bool false, .slice none 0 0, .slice none 0 0] 31)).setCells w5.heap.size 0 (mgV q' m).toList) := a5.trans (OX.below (Nat.le_refl _))
  have N6 := hide (nxt N5.out b5)
  have RG6 := rangeM RG5 b5
  have HO := hide (nc.up b5)
  have r6 := r5.up b5
  have s6 := b5.size
  have HQ := hide (And.intro (HM.up b5) HZm)
  clear HM HZm a5 OX b5 RG5 N5 nc TH0 r5
  have ON := mgV_one q' m
  go_upto_region 7 with (first | (refine wpList_store_mid rfl 31 (.tmp 5) (.tmp 20) rfl w5.heap.size 0 (mgV q' m) rfl rfl TH iM ON ?_) | fail)
  generalize (w5.alloc (.cells #[.int .i64 0, .int .i64 0, .slice none 0 0, .slice none 0 0, .string ⟨#[]⟩, .slice none 0 0, .slice none 0 0, .int .i64 0, .int .i64 0, .slice none 0 0, .bool false, .slice none 0 0, .slice none 0 0] 31)).setCells w5.heap.size 0 (mgV q' m).toList = w6 at *
  clear TH ON
  generalize w5.heap.size = b5 at *
  clear w5
  go_wp2_with (first | (refine wpList_load_mid rfl 31 (.tmp 5) rfl b5 0 rfl (mgV q' m).toList dC RX hdC hrC iM ?_) | fail)
  refine ((unhide IM) w6 q' HQ.out.1 HQ.out.2).mono ?_
  rintro e w7 ⟨⟨b7, c7, g7, rfl, o7, -, -, l7⟩, n7⟩
  have N7 := hide (nxt N6.out n7)
  have RG7 := hide (rangeM RG6 n7)
  have RX7 := hide (rangeM RX n7)
  have HQ7 := hide (HQ.out.1.up n7)
  have HO7 := hide (HO.out.up n7)
  have r7 := r6.up n7
  have EQ1 := hide (eqByteS_same w7 g7 g4 b7 b4 c7 c4 E o7.rd r7 (by omega))
  have O7 := hide o7
  have R7' := hide r7
  have S7 := n7.size
  clear n7 RG6 RX HQ HO N6 r6 r7 o7
  go_wp2_with fail
  refine EQ1.out.mono ?_
  rintro e w8 ⟨rfl, n8⟩
  have N8 := hide (nxt N7.out n8)
  have RG8 := hide (rangeM RG7.out n8)
  have RX8 := hide (rangeM RX7.out n8)
  have HQ8 := hide (HQ7.out.up n8)
  have HO8 := hide (HO7.out.up n8)
  have O8 := hide (O7.out.up n8)
  have R8 := hide (R7'.out.up n8)
  have S8 := n8.size
  clear n8 EQ1 N7 RG7 RX7 HQ7 HO7 O7 R7'
  go_upto_region 10 with fail
  refine region_end 5 (fun i => [Fact.eq (.agg (mgV q' m)), Fact.eq (.agg (mgV p m)), FM m, Fact.eq (.bool true), Fact.eq (.bool (!true))].getD i Fact.no) (by kernel_rfl) (by kernel_rfl) rfl ?_ ?_
  · intro i hi
    obtain rfl | rfl | rfl | rfl | rfl : i = 0 ∨ i = 1 ∨ i = 2 ∨ i = 3 ∨ i = 4 := by omega
    · exact step_lM _ rowM iM rfl 5 rfl (by kernel_rfl) b5 rfl RX8.out rfl
    · exact step_lM _ rowLM iLM rfl 1 rfl (by kernel_rfl) w.heap.size rfl RG8.out rfl
    · exact step_toM rfl 28 1 rfl (by kernel_rfl) ((unhide HC) w8 N8.out) im.out.1 rfl rfl
    · exact step_eqM rfl 27 29 0 2 rfl (by kernel_rfl) (by kernel_rfl) HQ8.out im.out.1 rfl rfl rfl
    · exact step_notM rfl 30 3 rfl (by kernel_rfl) rfl rfl
  intro A W hb hw hF
  have e2 := hF 4 31 (by kernel_rfl)
  obtain ⟨vs, hvs⟩ : ∃ vs : Nat → Value, ∀ d, A.tmps.getD d undef = vs d := ⟨_, fun _ => rfl⟩
  rw [hvs] at e2
  rw [puts_of (md := .any) (k := 5) (by kernel_rfl) rfl hb vs hvs]
  clear hb hF hvs
  have e3 : vs 31 = .bool false := e2
  clear e2
  simp only [puts, e3, Act.put, List.setIfInBounds_toArray, List.set_cons_succ, List.set_cons_zero]
  clear e3
  have N9 := hide (nxt N8.out hw)
  have RG9 := hide (rangeM RG8.out hw)
  have RX9 := rangeM RX8.out hw
  have HO9 := hide (HO8.out.up hw)
  have O9 := hide (O8.out.up hw)
  have R9 := hide (R8.out.up hw)
  have S9 := hw.size
  clear hw N8 RG8 RX8 HQ8 HO8 O8 R8
  subst hq
  have MK := hide (markMessage_own W w4.heap.size G2 G3 G5 G6 G9 G11 G12 Gs m 1 HO9.out im.out.1 im.out.2 (by omega) (by omega))
  go_wp2_with (first | (refine wpList_load_mid rfl 31 (.tmp 5) rfl b5 0 rfl (mgV (mqO G2 G3 G5 G6 G9 G11 G12 Gs m) m).toList dC RX9 hdC hrC iM ?_) | fail)
  refine MK.out.mono ?_
  rintro e w10 ⟨⟨k', rfl, k1⟩, C10⟩
  have t2 : decide (k' < 0) = false := decide_eq_false (by omega)
  have B10 : Below w.heap.size W w10 := (C10.below (by omega)).mono S4
  have N10 := hide (N9.out.trans B10)
  have RG10 := (show World.rangeAt w10 w.heap.size 0 (mgV p m).toList from fun j v hj => (World.cell?_of_block (C10.block w.heap.size (block_lt_of_cell (RG9.out j v hj)) (.inl (by have := N9.out.size; omega)))).trans (RG9.out j v hj))
  have O10 := O9.out.chH C10 (by omega)
  have R10 := R9.out.chL C10 l4
  have EQ2 := hide (eqByteS_same w10 g7 g4 b7 b4 c7 c4 E O10.rd R10 (by omega))
  have S10 := C10.size
  have RG10 := hide RG10
  have O10 := hide O10
  have R10 := hide R10
  clear MK RX9 HO9 O9 R9 N9 RG9 C10 B10 k1
  go_wp2_with fail
  refine EQ2.out.mono ?_
  rintro e w11 ⟨rfl, n11⟩
  have N11 := hide (nxt N10.out n11)
  have RG11 := hide (rangeM RG10.out n11)
  have R11 := hide (R10.out.up n11)
  have MB := hide (markByteS_any w11 g7 b7 c7 E 1 (O10.out.up n11) (by omega) (by omega) (by omega))
  have S11 := n11.size
  clear n11 EQ2 N10 RG10 R10 O10
  go_wp2_with fail
  refine MB.out.mono ?_
  rintro e w12 ⟨rfl, O12, P12⟩
  have N12 := hide (N11.out.trans (P12.below (by omega)))
  have RG12 := (show World.rangeAt w12 w.heap.size 0 (mgV p m).toList from fun j v hj => (World.cell?_of_block (P12.block w.heap.size (by omega))).trans (RG11.out j v hj))
  have R12 := hide (R11.out.onlO P12 (by omega))
  have HD := hide (heldByteS_any w12 g7 b7 c7 E.length 1 O12.rd (by omega) (by omega) (by omega))
  have t3 : decide ((1 : Int) + (E.length : Int) < 0) = false := decide_eq_false (by omega)
  have t4 : ((1 : Int) + (E.length : Int) == 1 + (E.length : Int)) = true := by simp
  have t5 : ((1 : Int) + (E.length : Int) != 1 + (E.length : Int)) = false := by simp
  have O12 := hide O12
  clear MB P12 N11 RG11 R11
  go_wp2_with fail
  refine HD.out.mono ?_
  rintro e w12' ⟨rfl, rfl⟩
  clear HD
  go_wp2_with (first | (refine wpList_load_mid rfl 26 (.tmp 1) rfl w.heap.size 0 rfl (mgV p m).toList dL RG12 hdL hrL iLM ?_) | fail)
  refine ((unhide TO) w12' N12.out).mono ?_
  rintro e w13 ⟨⟨d2, d3, d5, d6, d9, d11, d12, ds, rfl, nc⟩, n13⟩
  have N13 := hide (nxt N12.out n13)
  have R13 := hide (R12.out.up n13)
  have O13 := hide (O12.out.up n13)
  have IM13 := hide ((unhide IM) w13 _ nc.has mqO_z)
  clear n13 N12 R12 O12 nc RG12 TO IM
  go_wp2_with fail
  refine IM13.out.mono ?_
  rintro e w14 ⟨⟨b14, c14, g14, rfl, o14, -⟩, n14⟩
  have r14 := o14.rd
  have N14 := hide (nxt N13.out n14)
  have R14 := R13.out.up n14
  have O14 := hide (O13.out.up n14)
  have EQ3 := hide (eqByteS_same w14 g14 g4 b14 b4 c14 c4 E r14 R14 (by omega))
  clear n14 N13 R13 O13 IM13 o14 r14 R14
  go_wp2_with fail
  refine EQ3.out.mono ?_
  rintro e w15 ⟨rfl, n15⟩
  have N15 := hide (nxt N14.out n15)
  have HD := hide (heldByteS_any w15 g7 b7 c7 E.length 1 (O14.out.up n15).rd (by omega) (by omega) (by omega))
  clear n15 N14 O14 EQ3
  go_wp2_with fail
  refine HD.out.mono ?_
  rintro e w16 ⟨rfl, rfl⟩
  clear HD
  go_wp2
  go_ret
  exact ⟨rfl, N15.out⟩
end Go.Proofs.YtdbgdiahddpgkaaGreat
