import Derived.Test.YtpbniihhpfbamaaDoorFW19
import Derived.Deep.RegionLaw

/-
  The model's text of a world's report (written by gens/fqt3.py; under way).
-/
namespace Go.Proofs.YtpbniihhpfbamaaDoor
set_option maxRecDepth 100000
open Go Go.RowKit

set_option maxRecDepth 100000 in
set_option maxHeartbeats 8000000 in
theorem specFormat_any (w : World) (p : WA) (d : WD) (h : HasR w p d) (L : LnWd d) (h0 : d.fa = 0) :
    Calls Tryd.prog 5 #[.agg (wrV p d)] w fun e w' => e = .returned (tx (ltT (rpL d))) ∧ Below w.heap.size w w' := by
  have n1 : Below w.heap.size w (w.alloc (.cells (wrV p d) 39)) := (Below.refl _ _).alloc (Nat.le_refl _) _
  have T1 : RwC (w.alloc (.cells (wrV p d) 39)) w.heap.size (wrL p d) 39 := RwC.new w (wrL p d) 39
  have n2 : Below (w.alloc (.cells (wrV p d) 39)).heap.size (w.alloc (.cells (wrV p d) 39)) ((w.alloc (.cells (wrV p d) 39)).alloc (.cells #[] 5)) := (Below.refl _ _).alloc (Nat.le_refl _) _
  have O2 := OwB.start (w.alloc (.cells (wrV p d) 39))
  have c0 : (w.alloc (.cells (wrV p d) 39)).cell? ⟨w.heap.size, 0, none⟩ = some (.int .i64 d.fa) := T1.cell 0
  have t0 : (d.fa != 0) = false := by simp [h0]
  have N2 := hide (nxt n1 n2)
  have TT := hide (T1.up n2)
  have HO := hide O2
  have sB := hide n2.size
  have zB : Hid (w.heap.size < (w.alloc (.cells (wrV p d) 39)).heap.size) := by
    show w.heap.size < _
    rw [World.size_alloc]
    exact Nat.lt_succ_self _
  obtain ⟨dC, hdC, hrC⟩ := rowCr
  obtain ⟨dE, hdE, hrE⟩ := rowEr
  clear n1 n2 T1 O2 h0
  go_enter Tryd.func5, Tryd.ntmps5
  go_upto_region 5 with fail
  generalize (w.alloc (.cells (wrV p d) 39)).alloc (.cells #[] 5) = w1 at *
  generalize hBB : (w.alloc (.cells (wrV p d) 39)).heap.size = B at *
  have eB : Hid (w.heap.size + 1 = B) := by show _ = _; rw [← hBB, World.size_alloc]
  clear hBB c0 t0
  have CW : Hid (∀ W, Below B w1 W → RwC W w.heap.size (wrL p d) 39) := fun W n => (n.block w.heap.size zB.out).trans TT.out
  have CR : Hid (∀ W, Below B w1 W → HasR W p d) := fun W n => h.up (N2.out.trans (n.mono (Nat.le_of_lt zB.out)))
  clear h
  go_loopw [3, 4] (fun v i wr => ∃ (k : Nat) (va : Option Addr) (vn vc : Nat), k ≤ d.cs.length ∧ i = .int .i64 k ∧ v = .slice va vn vc ∧ Hid (OwB B v (ltT (csT d.cs cd0 k)) wr) ∧ Hid (Below B w1 wr)) (fun _ i _ => d.cs.length - (intOf i).toNat)
  case atStart => exact ⟨0, _, _, _, Nat.zero_le _, rfl, rfl, by rw [eB.out]; exact HO.out, Below.refl _ _⟩
  case round =>
    obtain ⟨k, va, vn, vc, hk, rfl, rfl, OW, NB⟩ := hrel
    have cw := (CW.out wr NB.out).cell 1
    by_cases hlt : k < d.cs.length
    · have t0 : (k : Int) < (d.cs.length : Int) := by omega
      have t1 : decide ((k : Int) < (d.cs.length : Int)) = true := decide_eq_true t0
      have k1 : IntKind.i64.wrap ((k : Int) + 1) = ((k + 1 : Nat) : Int) := by rw [IntKind.wrap_i64]; have := L.cs; omega
      obtain ⟨off, ea, hc⟩ := (CR.out wr NB.out).cs.r (by omega)
      have cw : wr.cell? ⟨w.heap.size, 1, none⟩ = some (.slice p.a1 d.cs.length p.c1) := cw
      rw [ea] at cw
      have RG := hc k hlt
      have LN : (crL (p.P k) (d.cs.getD k cd0)).length = 52 := rfl
      have LS : (crL (p.P k) (d.cs.getD k cd0)).toArray.size = 52 := rfl
      have ON : (crL (p.P k) (d.cs.getD k cd0)).toArray.all (·.oneCell') = true := oneCr _ _
      have a5 : Below wr.heap.size wr (wr.alloc (.cells #[.int .i64 0, .slice none 0 0, .int .i64 0, .slice none 0 0, .slice none 0 0, .slice none 0 0, .int .i64 0, .int .i64 0, .int .i64 0, .int .i64 0, .int .i64 0, .bool false, .bool false, .string ⟨#[]⟩, .slice none 0 0, .slice none 0 0, .slice none 0 0, .slice none 0 0, .slice none 0 0, .int .i64 0, .int .i64 0, .string ⟨#[]⟩, .string ⟨#[]⟩, .int .i64 0, .int .i64 0, .slice none 0 0, .int .i64 0, .slice none 0 0, .slice none 0 0, .slice none 0 0, .int .i64 0, .int .i64 0, .int .i64 0, .int .i64 0, .int .i64 0, .bool false, .bool false, .string ⟨#[]⟩, .slice none 0 0, .slice none 0 0, .slice none 0 0, .slice none 0 0, .slice none 0 0, .int .i64 0, .int .i64 0, .string ⟨#[]⟩, .string ⟨#[]⟩, .int .i64 0, .int .i64 0, .slice none 0 0, .slice none 0 0, .slice none 0 0] 53)) := (Below.refl _ _).alloc (Nat.le_refl _) _
      have TH0 : RwC (wr.alloc (.cells #[.int .i64 0, .slice none 0 0, .int .i64 0, .slice none 0 0, .slice none 0 0, .slice none 0 0, .int .i64 0, .int .i64 0, .int .i64 0, .int .i64 0, .int .i64 0, .bool false, .bool false, .string ⟨#[]⟩, .slice none 0 0, .slice none 0 0, .slice none 0 0, .slice none 0 0, .slice none 0 0, .int .i64 0, .int .i64 0, .string ⟨#[]⟩, .string ⟨#[]⟩, .int .i64 0, .int .i64 0, .slice none 0 0, .int .i64 0, .slice none 0 0, .slice none 0 0, .slice none 0 0, .int .i64 0, .int .i64 0, .int .i64 0, .int .i64 0, .int .i64 0, .bool false, .bool false, .string ⟨#[]⟩, .slice none 0 0, .slice none 0 0, .slice none 0 0, .slice none 0 0, .slice none 0 0, .int .i64 0, .int .i64 0, .string ⟨#[]⟩, .string ⟨#[]⟩, .int .i64 0, .int .i64 0, .slice none 0 0, .slice none 0 0, .slice none 0 0] 53)) wr.heap.size (#[.int .i64 0, .slice none 0 0, .int .i64 0, .slice none 0 0, .slice none 0 0, .slice none 0 0, .int .i64 0, .int .i64 0, .int .i64 0, .int .i64 0, .int .i64 0, .bool false, .bool false, .string ⟨#[]⟩, .slice none 0 0, .slice none 0 0, .slice none 0 0, .slice none 0 0, .slice none 0 0, .int .i64 0, .int .i64 0, .string ⟨#[]⟩, .string ⟨#[]⟩, .int .i64 0, .int .i64 0, .slice none 0 0, .int .i64 0, .slice none 0 0, .slice none 0 0, .slice none 0 0, .int .i64 0, .int .i64 0, .int .i64 0, .int .i64 0, .int .i64 0, .bool false, .bool false, .string ⟨#[]⟩, .slice none 0 0, .slice none 0 0, .slice none 0 0, .slice none 0 0, .slice none 0 0, .int .i64 0, .int .i64 0, .string ⟨#[]⟩, .string ⟨#[]⟩, .int .i64 0, .int .i64 0, .slice none 0 0, .slice none 0 0, .slice none 0 0] : Array Value).toList 53 := RwC.new wr (#[.int .i64 0, .slice none 0 0, .int .i64 0, .slice none 0 0, .slice none 0 0, .slice none 0 0, .int .i64 0, .int .i64 0, .int .i64 0, .int .i64 0, .int .i64 0, .bool false, .bool false, .string ⟨#[]⟩, .slice none 0 0, .slice none 0 0, .slice none 0 0, .slice none 0 0, .slice none 0 0, .int .i64 0, .int .i64 0, .string ⟨#[]⟩, .string ⟨#[]⟩, .int .i64 0, .int .i64 0, .slice none 0 0, .int .i64 0, .slice none 0 0, .slice none 0 0, .slice none 0 0, .int .i64 0, .int .i64 0, .int .i64 0, .int .i64 0, .int .i64 0, .bool false, .bool false, .string ⟨#[]⟩, .slice none 0 0, .slice none 0 0, .slice none 0 0, .slice none 0 0, .slice none 0 0, .int .i64 0, .int .i64 0, .string ⟨#[]⟩, .string ⟨#[]⟩, .int .i64 0, .int .i64 0, .slice none 0 0, .slice none 0 0, .slice none 0 0] : Array Value).toList 53
      have TH : (wr.alloc (.cells #[.int .i64 0, .slice none 0 0, .int .i64 0, .slice none 0 0, .slice none 0 0, .slice none 0 0, .int .i64 0, .int .i64 0, .int .i64 0, .int .i64 0, .int .i64 0, .bool false, .bool false, .string ⟨#[]⟩, .slice none 0 0, .slice none 0 0, .slice none 0 0, .slice none 0 0, .slice none 0 0, .int .i64 0, .int .i64 0, .string ⟨#[]⟩, .string ⟨#[]⟩, .int .i64 0, .int .i64 0, .slice none 0 0, .int .i64 0, .slice none 0 0, .slice none 0 0, .slice none 0 0, .int .i64 0, .int .i64 0, .int .i64 0, .int .i64 0, .int .i64 0, .bool false, .bool false, .string ⟨#[]⟩, .slice none 0 0, .slice none 0 0, .slice none 0 0, .slice none 0 0, .slice none 0 0, .int .i64 0, .int .i64 0, .string ⟨#[]⟩, .string ⟨#[]⟩, .int .i64 0, .int .i64 0, .slice none 0 0, .slice none 0 0, .slice none 0 0] 53)).there wr.heap.size 0 52 := TH0.thereG
      have RX := hide (World.rangeAt_setCells_same (wr.alloc (.cells #[.int .i64 0, .slice none 0 0, .int .i64 0, .slice none 0 0, .slice none 0 0, .slice none 0 0, .int .i64 0, .int .i64 0, .int .i64 0, .int .i64 0, .int .i64 0, .bool false, .bool false, .string ⟨#[]⟩, .slice none 0 0, .slice none 0 0, .slice none 0 0, .slice none 0 0, .slice none 0 0, .int .i64 0, .int .i64 0, .string ⟨#[]⟩, .string ⟨#[]⟩, .int .i64 0, .int .i64 0, .slice none 0 0, .int .i64 0, .slice none 0 0, .slice none 0 0, .slice none 0 0, .int .i64 0, .int .i64 0, .int .i64 0, .int .i64 0, .int .i64 0, .bool false, .bool false, .string ⟨#[]⟩, .slice none 0 0, .slice none 0 0, .slice none 0 0, .slice none 0 0, .slice none 0 0, .int .i64 0, .int .i64 0, .string ⟨#[]⟩, .string ⟨#[]⟩, .int .i64 0, .int .i64 0, .slice none 0 0, .slice none 0 0, .slice none 0 0] 53)) wr.heap.size 0 (crL (p.P k) (d.cs.getD k cd0)) TH)
      have OX := only_setG (wr.alloc (.cells #[.int .i64 0, .slice none 0 0, .int .i64 0, .slice none 0 0, .slice none 0 0, .slice none 0 0, .int .i64 0, .int .i64 0, .int .i64 0, .int .i64 0, .int .i64 0, .bool false, .bool false, .string ⟨#[]⟩, .slice none 0 0, .slice none 0 0, .slice none 0 0, .slice none 0 0, .slice none 0 0, .int .i64 0, .int .i64 0, .string ⟨#[]⟩, .string ⟨#[]⟩, .int .i64 0, .int .i64 0, .slice none 0 0, .int .i64 0, .slice none 0 0, .slice none 0 0, .slice none 0 0, .int .i64 0, .int .i64 0, .int .i64 0, .int .i64 0, .int .i64 0, .bool false, .bool false, .string ⟨#[]⟩, .slice none 0 0, .slice none 0 0, .slice none 0 0, .slice none 0 0, .slice none 0 0, .int .i64 0, .int .i64 0, .string ⟨#[]⟩, .string ⟨#[]⟩, .int .i64 0, .int .i64 0, .slice none 0 0, .slice none 0 0, .slice none 0 0] 53)) wr.heap.size (crL (p.P k) (d.cs.getD k cd0)) 0
      have b5 := hide (a5.trans (OX.below (Nat.le_refl _)))
      have lo : B ≤ wr.heap.size := Nat.le_trans sB.out NB.out.size
      have PP : Hid (((crL (p.P k) (d.cs.getD k cd0)).drop 2).take 24 = (erV (p.P k).cl (d.cs.getD k cd0).cl).toList ∧ ((crL (p.P k) (d.cs.getD k cd0)).drop 26).take 24 = (erV (p.P k).sv (d.cs.getD k cd0).sv).toList ∧ (crL (p.P k) (d.cs.getD k cd0))[50]? = some (.slice (p.P k).a50 (d.cs.getD k cd0).ts.length (p.P k).c50) ∧ (crL (p.P k) (d.cs.getD k cd0))[51]? = some (.slice (p.P k).a51 (d.cs.getD k cd0).tc.length (p.P k).c51)) := ⟨rfl, rfl, rfl, rfl⟩
      have HC1 : ∀ W, Below B w1 W → HasC 0 W (p.P k) (d.cs.getD k cd0) := fun W n => (CR.out W n).cs.b k hlt
      have LC := L.cz k hlt
      have C9 : Hid (∀ W, Below B w1 W → Calls Tryd.prog 14 #[.string ⟨#[99, 108, 105, 101, 110, 116]⟩, .agg (erV (p.P k).cl (d.cs.getD k cd0).cl)] W fun e w' => e = .returned (.string ⟨⟨enT clW (d.cs.getD k cd0).cl ++ [10]⟩⟩) ∧ Below W.heap.size W w') := fun W n => l20Report_any W clW _ _ (HC1 W n).cl LC.cl.k LC.cl.i LC.cl.bx LC.cl.bt LC.cl.br LC.cl.hp (by decide)
      have C10 : Hid (∀ W, Below B w1 W → Calls Tryd.prog 14 #[.string ⟨#[115, 101, 114, 118, 101, 114]⟩, .agg (erV (p.P k).sv (d.cs.getD k cd0).sv)] W fun e w' => e = .returned (.string ⟨⟨enT svW (d.cs.getD k cd0).sv ++ [10]⟩⟩) ∧ Below W.heap.size W w') := fun W n => l20Report_any W svW _ _ (HC1 W n).sv LC.sv.k LC.sv.i LC.sv.bx LC.sv.bt LC.sv.br LC.sv.hp (by decide)
      have C11 : Hid (∀ (w9 : World) (q : Nat) (xa : List Value) (v : Value) (l : List UInt8), Und B q xa v l w1 w9 → l.length ≤ 100000000000000 → Calls Tryd.prog 15 #[.slice (p.P k).a50 (d.cs.getD k cd0).ts.length (p.P k).c50] w9.drew fun e w50 => ∃ T1, e = .returned (.string ⟨⟨T1⟩⟩) ∧ Hid (Below w9.heap.size w9 w50) ∧
          Calls Tryd.prog 15 #[.slice (p.P k).a51 (d.cs.getD k cd0).tc.length (p.P k).c51] w50 fun e w51 => ∃ T2, e = .returned (.string ⟨⟨T2⟩⟩) ∧ Hid (Below w9.heap.size w9 w51) ∧
          Calls Tryd.prog 12 #[.slice (some ⟨w51.heap.size, 0, none⟩) 3 3] (w51.alloc (.cells #[.string ⟨#[119, 97, 121]⟩, .string ⟨⟨T1⟩⟩, .string ⟨⟨T2⟩⟩] 9)) fun e w52 => ∃ T3, e = .returned (.string ⟨⟨T3⟩⟩) ∧ Hid (Below w9.heap.size w9 w52) ∧
          ∃ v' w6, (Builtin.append_ #[23, 9] 23 #[v, .string ⟨⟨T3⟩⟩]).run Tryd.prog w52 = .ok v' w6 ∧ (∃ a n c, v' = .slice a n c) ∧ Hid (Und B q xa v' (l ++ (waT (d.cs.getD k cd0).ts (d.cs.getD k cd0).tc ++ [10])) w1 w6)) := fun w9 q xa v l U hl => by
        have nd : Below w9.heap.size w9 w9.drew := (Below.refl _ _).drew
        have HH := (HC1 w9 U.nb).up nd
        exact way_chain2 w9.drew B q xa w1 w9 _ _ _ _ _ _ _ _ HH.ts HH.tc LC.bs LC.bc LC.ts LC.tc v l (U.up nd) nd hl
      have EL := hide (ch_next d.cs cd0 k)
      have BD := hide (ch_parts (n := k) (by have := L.cs; omega) LC)
      have LL := hide (Nat.le_trans (cs_len L k (by omega)) (show k * 22400000 ≤ 30000000000000 by have := L.cs; omega))
      have LE1 : (erV (p.P k).cl (d.cs.getD k cd0).cl).toList.length = 24 := rfl
      have LE2 : (erV (p.P k).sv (d.cs.getD k cd0).sv).toList.length = 24 := rfl
      clear hc a5 TH0 HC1 LC
      generalize crL (p.P k) (d.cs.getD k cd0) = xa at *
      generalize erV (p.P k).cl (d.cs.getD k cd0).cl = y1 at *
      generalize erV (p.P k).sv (d.cs.getD k cd0).sv = y2 at *
      generalize enT clW (d.cs.getD k cd0).cl ++ [10] = t1 at *
      generalize enT svW (d.cs.getD k cd0).sv ++ [10] = t2 at *
      generalize waT (d.cs.getD k cd0).ts (d.cs.getD k cd0).tc ++ [10] = t3 at *
      generalize (p.P k).a50 = a50 at *
      generalize (p.P k).c50 = c50 at *
      generalize (p.P k).a51 = a51 at *
      generalize (p.P k).c51 = c51 at *
      generalize (d.cs.getD k cd0).ts.length = n50 at *
      generalize (d.cs.getD k cd0).tc.length = n51 at *
      have NE : Hid (∀ g, (Value.slice va vn vc).ownBlock = some g → g < wr.heap.size) := fun g hg => (World.ownsRow.lt OW.out g hg).2
      go_upto_region 8 with (first
        | (refine wpList_load_mid rfl 53 (.tmp 25) rfl p.g1 (off + k * 52) rfl xa dC RG hdC hrC (iCr.trans (congrArg some LN.symm)) ?_)
        | (refine wpList_store_mid rfl 53 (.tmp 5) (.tmp 26) rfl wr.heap.size 0 xa.toArray rfl rfl (by rw [LS]; exact TH) (iCr.trans (congrArg some LS.symm)) ON ?_)
        | fail)
      have zb : Hid (wr.heap.size < ((wr.alloc (.cells #[.int .i64 0, .slice none 0 0, .int .i64 0, .slice none 0 0, .slice none 0 0, .slice none 0 0, .int .i64 0, .int .i64 0, .int .i64 0, .int .i64 0, .int .i64 0, .bool false, .bool false, .string ⟨#[]⟩, .slice none 0 0, .slice none 0 0, .slice none 0 0, .slice none 0 0, .slice none 0 0, .int .i64 0, .int .i64 0, .string ⟨#[]⟩, .string ⟨#[]⟩, .int .i64 0, .int .i64 0, .slice none 0 0, .int .i64 0, .slice none 0 0, .slice none 0 0, .slice none 0 0, .int .i64 0, .int .i64 0, .int .i64 0, .int .i64 0, .int .i64 0, .bool false, .bool false, .string ⟨#[]⟩, .slice none 0 0, .slice none 0 0, .slice none 0 0, .slice none 0 0, .slice none 0 0, .int .i64 0, .int .i64 0, .string ⟨#[]⟩, .string ⟨#[]⟩, .int .i64 0, .int .i64 0, .slice none 0 0, .slice none 0 0, .slice none 0 0] 53)).setCells wr.heap.size 0 xa).heap.size) := by
        show _ < _
        rw [OX.size, World.size_alloc]
        exact Nat.lt_succ_self _
      generalize (wr.alloc (.cells #[.int .i64 0, .slice none 0 0, .int .i64 0, .slice none 0 0, .slice none 0 0, .slice none 0 0, .int .i64 0, .int .i64 0, .int .i64 0, .int .i64 0, .int .i64 0, .bool false, .bool false, .string ⟨#[]⟩, .slice none 0 0, .slice none 0 0, .slice none 0 0, .slice none 0 0, .slice none 0 0, .int .i64 0, .int .i64 0, .string ⟨#[]⟩, .string ⟨#[]⟩, .int .i64 0, .int .i64 0, .slice none 0 0, .int .i64 0, .slice none 0 0, .slice none 0 0, .slice none 0 0, .int .i64 0, .int .i64 0, .int .i64 0, .int .i64 0, .int .i64 0, .bool false, .bool false, .string ⟨#[]⟩, .slice none 0 0, .slice none 0 0, .slice none 0 0, .slice none 0 0, .slice none 0 0, .int .i64 0, .int .i64 0, .string ⟨#[]⟩, .string ⟨#[]⟩, .int .i64 0, .int .i64 0, .slice none 0 0, .slice none 0 0, .slice none 0 0] 53)).setCells wr.heap.size 0 xa = wb at *
      have U0 : Hid (Und B wr.heap.size xa (.slice va vn vc) (ltT (csT d.cs cd0 k)) w1 wb) := ⟨OW.out.up b5.out, NB.out.trans (b5.out.mono lo), RX.out, fun e => absurd (NE.out _ e) (Nat.lt_irrefl _), zb.out, Nat.le_trans lo b5.out.size⟩
      have NW := hide (l20Number_any wb (k : Int) (by unfold I64; have := L.cs; omega))
      have LJ : Hid ((lnL [[99, 111, 110, 110, 101, 99, 116, 105, 111, 110], itL (k : Int)]).length ≤ 140737488355328) := Nat.le_trans (one_len (by decide) (by unfold I64; have := L.cs; omega)) (by decide)
      have EC : Hid (cnT k = lnL [[99, 111, 110, 110, 101, 99, 116, 105, 111, 110], itL (k : Int)]) := rfl
      clear OW NB RG LS ON TH b5 lo OX NE zb RX
      generalize wr.heap.size = q at *
      generalize ltT (csT d.cs cd0 k) = l0 at *
      go_wp2_with fail
      refine NW.out.mono ?_
      rintro e w2 ⟨rfl, m2⟩
      have m3 : Below w2.heap.size w2 (w2.alloc (.cells #[tx [99, 111, 110, 110, 101, 99, 116, 105, 111, 110], tx (itL (k : Int))] 9)) := (Below.refl _ _).alloc (Nat.le_refl _) _
      have m23 := hide (nxt m2 m3)
      have LI : Hid (Calls Tryd.prog 12 #[.slice (some ⟨w2.heap.size, 0, none⟩) 2 2] (w2.alloc (.cells #[tx [99, 111, 110, 110, 101, 99, 116, 105, 111, 110], tx (itL (k : Int))] 9)) _) := l20Line_any _ w2.heap.size 2 [[99, 111, 110, 110, 101, 99, 116, 105, 111, 110], itL (k : Int)] (heap_alloc_new w2 _) rfl (by decide) LJ.out
      clear m2 m3 NW
      unfold tx at *
      go_wp2_with fail
      refine LI.out.mono ?_
      rintro e w4 ⟨rfl, m4⟩
      rw [← EC.out]
      obtain ⟨v5, w5, hap, ⟨a5, n5, c5, e5⟩, U5⟩ := (U0.out.up (nxt m23.out m4)).app (cnT k ++ [10]) (by have := LL.out; omega) (by have := BD.out.1; omega)
      subst e5
      have U5 := hide U5
      have L5 : Hid ((l0 ++ (cnT k ++ [10])).length ≤ 30000000001000) := by have := BD.out.1; have := LL.out; show _ ≤ _; rw [List.length_append]; omega
      have RG9 := range_part U5.out.rg PP.out.1
      clear m4 LI m23 U0 LJ EC
      generalize cnT k ++ [10] = t0 at *
      go_upto_region 9 with (first | (at_builtin; refine Lib.wpList_append_run _ rfl _ _ 23 9 rfl _ _ rfl rfl _ _ hap ?_) | fail)
      clear hap
      go_wp2_with (first | (refine wpList_load_mid rfl 51 (.tmp 34) rfl q 2 rfl y1.toList dE RG9 hdE hrE (iEr.trans (congrArg some LE1.symm)) ?_) | fail)
      refine (C9.out w5 U5.out.nb).mono ?_
      rintro e w6 ⟨rfl, m6⟩
      obtain ⟨v7, w7, hap, ⟨a7, n7, c7, e7⟩, U7⟩ := (U5.out.up m6).app t1 (by have := L5.out; omega) (by have := BD.out.2.1; omega)
      subst e7
      have U7 := hide U7
      have L7 : Hid ((l0 ++ t0 ++ t1).length ≤ 30000010001000) := by have := BD.out.2.1; have := L5.out; show _ ≤ _; rw [List.length_append]; omega
      have RG10 := range_part U7.out.rg PP.out.2.1
      clear m6 RG9 U5 L5 C9
      go_upto_region 10 with (first | (at_builtin; refine Lib.wpList_append_run _ rfl _ _ 23 9 rfl _ _ rfl rfl _ _ hap ?_) | fail)
      clear hap
      go_wp2_with (first | (refine wpList_load_mid rfl 51 (.tmp 39) rfl q 26 rfl y2.toList dE RG10 hdE hrE (iEr.trans (congrArg some LE2.symm)) ?_) | fail)
      refine (C10.out w7 U7.out.nb).mono ?_
      rintro e w8 ⟨rfl, m8⟩
      obtain ⟨v9, w9, hap, ⟨a9, n9, c9, e9⟩, U9⟩ := (U7.out.up m8).app t2 (by have := L7.out; omega) (by have := BD.out.2.2.1; omega)
      subst e9
      have U9 := hide U9
      have L9 : (l0 ++ t0 ++ t1 ++ t2).length ≤ 100000000000000 := by have := BD.out.2.2.1; have := L7.out; rw [List.length_append]; omega
      have CH := hide (C11.out w9 q xa _ _ U9.out L9)
      clear m8 RG10 U7 L7 C10 L9 C11
      go_upto_region 11 with (first | (at_builtin; refine Lib.wpList_append_run _ rfl _ _ 23 9 rfl _ _ rfl rfl _ _ hap ?_) | fail)
      clear hap
      rw [← EL.out] at CH
      clear EL BD LL LN
      have PQ := hide PP.out.2.2
      have CY : Hid (∀ W : World, W.rangeAt q 0 xa → W.cell? ⟨q, 50, none⟩ = some (.slice a50 n50 c50) ∧ W.cell? ⟨q, 51, none⟩ = some (.slice a51 n51 c51)) := fun W R => ⟨range_one R PQ.out.1, range_one R PQ.out.2⟩
      have RQ : Hid (∀ W, Below w9.heap.size w9 W → W.rangeAt q 0 xa) := fun W n => rangeQ U9.out.rg n
      have n0 : Hid (Below w9.heap.size w9 w9.drew) := (Below.refl _ _).drew
      have n00 : Hid (Below w9.heap.size w9 w9) := Below.refl _ _
      have bA : Hid (∀ (W : World) (o : Obj), Below w9.heap.size w9 W → Below w9.heap.size w9 (W.alloc o)) := fun W o n => n.alloc n.size o
      clear PP PQ U9
      go_region_held3 (fun W => W.cell? ⟨q, 50, none⟩ = some (.slice a50 n50 c50) ∧ W.cell? ⟨q, 51, none⟩ = some (.slice a51 n51 c51))
        (first | exact CY.out _ (RQ.out _ n00.out) | exact CY.out _ (RQ.out _ n0.out) | exact CY.out _ (RQ.out _ m1.out) | exact CY.out _ (RQ.out _ m2.out) | exact CY.out _ (RQ.out _ (bA.out _ _ m2.out)) | exact CY.out _ (RQ.out _ m3.out) | exact CY.out _ OE.out.rg)
        (first
          | (go_at_call 15; with_reducible refine CH.out.mono ?_; rintro e w50 ⟨X1, rfl, m1, N2'⟩)
          | (go_at_call 15; with_reducible refine N2'.mono ?_; rintro e w51 ⟨X2, rfl, m2, N3⟩)
          | (go_at_call 12; with_reducible refine N3.mono ?_; rintro e w52 ⟨X3, rfl, m3, AP⟩)
          | (refine sp_appX rfl (.tmp 43) (.tmp 51) 23 9 rfl (.slice a9 n9 c9) (.string ⟨⟨X3⟩⟩) rfl rfl _ AP ?_; rintro v3 w6 ⟨⟨xb, xn, xc, rfl⟩, OE⟩)
          | fail)
      all_goals
        have O6 := hide OE.out.own
        have N6 := hide OE.out.nb
        clear CH AP CY bA n0 n00 m1 m2 m3 OE RQ
        go_wp2
        go_roundw
        case rel => exact ⟨k + 1, _, _, _, by omega, by first | rfl | go_num, rfl, O6, N6⟩
        case measure => simp [intOf]; omega
    · obtain rfl : k = d.cs.length := by omega
      have RB := CW.out wr NB.out
      have U0 : Hid (Und B w.heap.size (wrL p d) (.slice va vn vc) (ltT (csT d.cs cd0 d.cs.length)) w1 wr) := ⟨OW.out, NB.out, RB.rangeG, fun e => by have h1 := (World.ownsRow.lt OW.out _ e).1; have h2 := zB.out; omega, by have h1 := sB.out; have h2 := zB.out; have h3 := NB.out.size; omega, Nat.le_trans sB.out NB.out.size⟩
      have cw2 : wr.cell? ⟨w.heap.size, 2, none⟩ = some (.slice p.a2 d.tk.length p.c2) := RB.cell 2
      have LL := hide (Nat.le_trans (cs_len L d.cs.length (Nat.le_refl _)) (show d.cs.length * 22400000 ≤ 30000000000000 by have := L.cs; omega))
      have ER : Hid (rpL d = csT d.cs cd0 d.cs.length ++ ([lfT d.tk d.pk d.rn d.gt d.li d.ea d.ho d.sp] ++ ([wdT d.wd] ++ d.ms.map mkT))) := rfl
      clear OW NB RB
      generalize hl0 : csT d.cs cd0 d.cs.length = ll at *
      clear hl0
      go_upto_if 57 with fail
      go_cut [3] (fun v wc => CutU B w.heap.size (wrL p d) (ltT ll ++ (lfT d.tk d.pk d.rn d.gt d.li d.ea d.ho d.sp ++ [10])) w1 v wc)
      case first =>
        by_cases hz : d.tk.length = 0
        · have tz : ((d.tk.length : Int) == 0) = true := by rw [hz]; rfl
          have EF : Hid (lfT d.tk d.pk d.rn d.gt d.li d.ea d.ho d.sp ++ [10] = [115, 97, 118, 101, 100, 32, 45, 10]) := by
            show _ = _
            unfold lfT
            rw [if_pos hz]
            rfl
          obtain ⟨v5, w5, hap, ⟨a5, n5, c5, e5⟩, U5⟩ := U0.out.app [115, 97, 118, 101, 100, 32, 45, 10] (by have := LL.out; omega) (by decide)
          subst e5
          rw [← EF.out] at U5
          have U5 := hide U5
          clear U0 EF hz LL ER
          go_wp2_with (first | (at_builtin; refine Lib.wpList_append_run _ rfl _ _ 23 9 rfl _ _ rfl rfl _ _ hap ?_) | fail)
          go_meet
          exact ⟨_, _, _, rfl, U5.out⟩
        · have tz : ((d.tk.length : Int) == 0) = false := by simp only [beq_eq_false_iff_ne]; omega
          have EF : Hid (lfT d.tk d.pk d.rn d.gt d.li d.ea d.ho d.sp = svT d.tk d.pk d.rn d.gt d.li d.ea (heT (byL d.ho)) d.sp) := by
            show _ = _
            unfold lfT
            rw [if_neg hz]
          go_upto_region 14 with fail
          have nd : Below wr.heap.size wr wr.drew := (Below.refl _ _).drew
          obtain ⟨xa, xc, w49, hcv, m0, CH⟩ := sav_chain wr.drew B w.heap.size (wrL p d) w1 d p ((CR.out wr U0.out.nb).up nd) L (.slice va vn vc) (ltT ll) (U0.out.up nd) (by have := LL.out; omega)
          rw [← EF.out] at CH
          have CH := hide CH
          have CY : Hid (∀ W : World, W.rangeAt w.heap.size 0 (wrL p d) → W.cell? ⟨w.heap.size, 2, none⟩ = some (.slice p.a2 d.tk.length p.c2) ∧ W.cell? ⟨w.heap.size, 3, none⟩ = some (.slice p.a3 d.pk.length p.c3) ∧ W.cell? ⟨w.heap.size, 4, none⟩ = some (.slice p.a4 d.rn.length p.c4) ∧ W.cell? ⟨w.heap.size, 5, none⟩ = some (.int .i64 d.gt) ∧ W.cell? ⟨w.heap.size, 6, none⟩ = some (.int .i64 d.li) ∧ W.cell? ⟨w.heap.size, 7, none⟩ = some (.string d.ho) ∧ W.cell? ⟨w.heap.size, 8, none⟩ = some (.string d.sp) ∧ W.cell? ⟨w.heap.size, 9, none⟩ = some (.int .i64 d.ea)) := fun W R => ⟨range_one R rfl, range_one R rfl, range_one R rfl, range_one R rfl, range_one R rfl, range_one R rfl, range_one R rfl, range_one R rfl⟩
          have RD := rangeQ U0.out.rg nd
          obtain ⟨_, d3, d4, d5, d6, d7, d8, d9⟩ := CY.out _ U0.out.rg
          obtain ⟨e2, e3, e4, e5, e6, e7, e8, e9⟩ := CY.out _ RD
          obtain ⟨f2, f3, f4, f5, f6, f7, f8, f9⟩ := CY.out _ (rangeQ RD m0.out)
          have RD := hide RD
          clear U0 EF hz LL ER CW CR nd
          go_region_law (first
            | (go_simp; go_at_call 15; refine CH.out.mono ?_; rintro e w50 ⟨X1, rfl, m1, N2⟩; (obtain ⟨g2, g3, g4, g5, g6, g7, g8, g9⟩ := CY.out _ (rangeQ RD.out m1.out)))
            | (go_simp; go_at_call 16; refine N2.mono ?_; rintro e w52 ⟨X3, rfl, m3, AP⟩)
            | (refine sp_appX rfl (.tmp 60) (.tmp 68) 23 9 rfl (.slice va vn vc) (.string ⟨⟨X3⟩⟩) rfl rfl _ AP ?_; rintro v3 w6 ⟨⟨xb, xn, xc, rfl⟩, OE⟩)
            | fail)
          all_goals
            go_wp2_with fail
            go_meet
            exact ⟨_, _, _, rfl, OE.out⟩
      case rest =>
        obtain ⟨a5, n5, c5, e5, U5⟩ := hcut
        obtain ⟨va5, hva5⟩ : ∃ v, v = u3 := ⟨_, rfl⟩
        rw [← hva5] at e5 U5 ⊢
        clear hva5 cw2
        subst e5
        have U5 := hide U5
        have L5 : Hid ((ltT ll ++ (lfT d.tk d.pk d.rn d.gt d.li d.ea d.ho d.sp ++ [10])).length ≤ 30000015000001) := by
          have h1 := LL.out
          have h2 := lf_len L
          show _ ≤ _
          simp only [List.length_append, List.length_cons, List.length_nil]
          omega
        have cw10 : wc.cell? ⟨w.heap.size, 10, none⟩ = some (.int .i64 d.wd) := range_one U5.out.rg rfl
        have NW := hide (l20Number_any wc d.wd L.wd)
        have LJ : Hid ((wdT d.wd).length ≤ 100) := one_len (by decide) L.wd
        have EC : Hid (wdT d.wd = lnL [[119, 105, 110, 100, 111, 119], itL d.wd]) := rfl
        have ET : Hid ((ltT ll ++ (lfT d.tk d.pk d.rn d.gt d.li d.ea d.ho d.sp ++ [10])) ++ (wdT d.wd ++ [10]) ++ ltT (d.ms.map mkT) = ltT (rpL d)) := by
          show _ = _
          rw [ER.out, ltT_app, ltT_app, ltT_app, ltT_one, ltT_one]
          simp
        clear U0 LL ER
        generalize ltT ll ++ (lfT d.tk d.pk d.rn d.gt d.li d.ea d.ho d.sp ++ [10]) = l5 at *
        go_wp2_with fail
        refine NW.out.mono ?_
        rintro e w2 ⟨rfl, m2⟩
        have m3 : Below w2.heap.size w2 (w2.alloc (.cells #[tx [119, 105, 110, 100, 111, 119], tx (itL d.wd)] 9)) := (Below.refl _ _).alloc (Nat.le_refl _) _
        have m23 := hide (nxt m2 m3)
        have LI : Hid (Calls Tryd.prog 12 #[.slice (some ⟨w2.heap.size, 0, none⟩) 2 2] (w2.alloc (.cells #[tx [119, 105, 110, 100, 111, 119], tx (itL d.wd)] 9)) _) := l20Line_any _ w2.heap.size 2 [[119, 105, 110, 100, 111, 119], itL d.wd] (heap_alloc_new w2 _) rfl (by decide) (by rw [← EC.out]; exact Nat.le_trans LJ.out (by decide))
        clear m2 m3 NW cw10
        unfold tx at *
        go_wp2_with fail
        refine LI.out.mono ?_
        rintro e w4 ⟨rfl, m4⟩
        rw [← EC.out]
        obtain ⟨v7, w7, hap, ⟨a7, n7, c7, e7⟩, U7⟩ := (U5.out.up (nxt m23.out m4)).app (wdT d.wd ++ [10]) (by have := L5.out; omega) (by rw [List.length_append]; have := LJ.out; simp; omega)
        subst e7
        have U7 := hide U7
        have ML := hide (ms_len d.ms (lnM_mem L.ms))
        have L7 : Hid ((l5 ++ (wdT d.wd ++ [10])).length ≤ 30000016000001) := by
          have h1 := L5.out
          have h2 := LJ.out
          show _ ≤ _
          simp only [List.length_append, List.length_cons, List.length_nil]
          omega
        clear m4 LI m23 U5 LJ EC L5
        go_upto_region 16 with (first | (at_builtin; refine Lib.wpList_append_run _ rfl _ _ 23 9 rfl _ _ rfl rfl _ _ hap ?_) | fail)
        clear hap
        generalize l5 ++ (wdT d.wd ++ [10]) = l7 at *
        have HR7 := hide (CR.out w7 U7.out.nb)
        have R10 : w7.rangeAt w.heap.size 10 [.int .i64 d.wd, .slice p.a11 d.ms.length p.c11] := range_part (n := 2) U7.out.rg rfl
        refine region_end 7 (fun i => [Fact.eq (.slice a7 n7 c7), Fact.eq (tx l7), Fact.eq (.pointer (some ⟨w.heap.size, 10, none⟩)), Fact.eq (.agg #[.int .i64 d.wd, .slice p.a11 d.ms.length p.c11]), Fact.eq (tx (ltT (d.ms.map mkT))), Fact.eq (tx (l7 ++ ltT (d.ms.map mkT))), Fact.eq (tx (l7 ++ ltT (d.ms.map mkT)))].getD i Fact.no) (by kernel_rfl) (by kernel_rfl) rfl ?_ ?_
        · refine all_s (sp_as rfl 83 5 rfl (by kernel_rfl) rfl rfl) ?_
          refine all_s (sp_add rfl 79 82 1 4 l7 (ltT (d.ms.map mkT)) (by have := L7.out; have := ML.out; have := L.mn; omega) rfl (by kernel_rfl) (by kernel_rfl) rfl rfl rfl) ?_
          refine all_s (sp_call1 rfl _ 81 3 (.agg #[.int .i64 d.wd, .slice p.a11 d.ms.length p.c11]) (tx (ltT (d.ms.map mkT))) rfl en_l20Marks (by kernel_rfl) rfl (fun W N => l20Marks_any W d.wd p.g11 p.a11 p.c11 d.ms p.pl (HR7.out.ms.up N) L.ms L.mn) rfl) ?_
          refine all_s (sp_lrow 37 2 rowWd iWd rfl 80 2 rfl (by kernel_rfl) _ R10 rfl rfl rfl) ?_
          refine all_s (sp_fa rfl _ 1 3 rfl (by kernel_rfl) w.heap.size 10 rfl (fun W => by kernel_rfl) rfl) ?_
          refine all_s (sp_str rfl 78 0 _ l7 B U7.out.own rfl (by kernel_rfl) rfl rfl) ?_
          refine all_s (sp_mv rfl 3 rfl (by kernel_rfl) rfl rfl) ?_
          exact all_z
        intro A W hb hw hF
        have e2 : A.tmps.getD 2 undef = tx (l7 ++ ltT (d.ms.map mkT)) := hF 6 2 (by kernel_rfl)
        obtain ⟨vs, hvs⟩ : ∃ vs : Nat → Value, ∀ d, A.tmps.getD d undef = vs d := ⟨_, fun _ => rfl⟩
        rw [hvs] at e2
        rw [puts_of (md := .any) (k := 7) (by kernel_rfl) rfl hb vs hvs]
        clear hb hF hvs
        simp only [puts, e2, Act.put, List.setIfInBounds_toArray, List.set_cons_succ, List.set_cons_zero]
        clear e2
        rw [ET.out]
        have NN := hide (nxt (N2.out.trans (U7.out.nb.mono (Nat.le_of_lt zB.out))) hw)
        clear hw HR7 R10 U7
        go_wp2
        go_ret
        exact ⟨rfl, NN.out⟩
end Go.Proofs.YtpbniihhpfbamaaDoor
