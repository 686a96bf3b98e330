import Derived.Test.YtccnhdicibjbaaaGreatGB52
import Derived.Test.YtccnhdicibjbaaaGreatGB51
import Derived.Test.YtccnhdicibjbaaaGreatGB47
import Derived.Test.YtccnhdicibjbaaaGreatGB46
import Derived.Test.YtccnhdicibjbaaaGreatGB2
import Derived.Test.YtccnhdicibjbaaaGreatGB1
import Derived.Test.YtccnhdicibjbaaaGreatGB3
import Derived.Test.YtccnhdicibjbaaaGreatGB50
import Derived.Deep.DeepCutAuto
namespace Go.Proofs.YtccnhdicibjbaaaGreat
open Go Go.RowKit
def StE (B q : Nat) (W : World) (v : Value) : Prop :=
  ∃ (ax : Option Addr) (cx gx : Nat) (X : List Int) (ay : Option Addr) (cy gy : Nat) (Y : List Int) (md li : Int) (ho pr : List UInt8) (ea : Int), v = .agg #[.slice ax X.length cx, .slice ay Y.length cy, .int .i64 md, .int .i64 li, .string ⟨⟨ho⟩⟩, .string ⟨⟨pr⟩⟩, .int .i64 ea] ∧
    (Own W gx ax .u8 X ∧ (ax = none → cx = 0) ∧ X.length ≤ cx ∧ X.length ≤ 40 ∧ Byt X ∧ B ≤ gx ∧ (0 < X.length → gx ≠ q)) ∧ (Own W gy ay .u8 Y ∧ (ay = none → cy = 0) ∧ Y.length ≤ cy ∧ Y.length ≤ 40 ∧ Byt Y ∧ B ≤ gy ∧ (0 < Y.length → gy ≠ q)) ∧ ho.length ≤ 200 ∧ pr.length ≤ 40
theorem Own.of_blockD {w w' : World} {g : Nat} {a : Option Addr} {k : IntKind} {xs : List Int} (h : Own w g a k xs) (hb : 0 < xs.length → w'.heap[g]? = w.heap[g]?) : Own w' g a k xs := by
  by_cases h0 : 0 < xs.length
  · exact h.of_block (hb h0)
  · exact fun q => absurd q h0
set_option maxRecDepth 100000 in
set_option maxHeartbeats 16000000 in
theorem break_D {w : World} {s g : Nat} {a : Option Addr} {c : Nat} {xs : List Int} {t : Int} {B q : Nat} {v : Value} (d : Dra w s g a c xs t) (t1 : t ≤ 900000) (hsB : s < B) (hB : B ≤ w.heap.size) (hq : q < w.heap.size) (hv : StE B q w v) :
    Calls Tryz.prog 43 #[.pointer (some ⟨s, 0, none⟩), v] w fun e w' => ∃ (v' : Value) (u : Int), e = .returned v' ∧ StE B q w' v' ∧ u ≤ t + 40 ∧ Dra w' s g a c xs u ∧ But s w w' := by
  obtain ⟨ax, cx, gx, X, ay, cy, gy, Y, md, li, ho, pr, ea, rfl, ⟨oX, zX, kX, lX, bX, gX⟩, ⟨oY, zY, kY, lY, bY, gY⟩, lh, lp⟩ := hv
  obtain ⟨dR, hdR, hrowR⟩ := rowTs
  have ls := d.S.lt
  have lg := d.R.lt
  have lgx := oX.rd.lt
  have lgy := oY.rd.lt
  have m1 : Below w.heap.size w (w.alloc (.cells #[.slice ax X.length cx, .slice ay Y.length cy, .int .i64 md, .int .i64 li, .string ⟨⟨ho⟩⟩, .string ⟨⟨pr⟩⟩, .int .i64 ea] 24)) := (Below.refl _ _).alloc (Nat.le_refl _) _
  have z1 : (w.alloc (.cells #[.slice ax X.length cx, .slice ay Y.length cy, .int .i64 md, .int .i64 li, .string ⟨⟨ho⟩⟩, .string ⟨⟨pr⟩⟩, .int .i64 ea] 24)).heap.size = w.heap.size + 1 := by simp
  have m2 : Below (w.alloc (.cells #[.slice ax X.length cx, .slice ay Y.length cy, .int .i64 md, .int .i64 li, .string ⟨⟨ho⟩⟩, .string ⟨⟨pr⟩⟩, .int .i64 ea] 24)).heap.size (w.alloc (.cells #[.slice ax X.length cx, .slice ay Y.length cy, .int .i64 md, .int .i64 li, .string ⟨⟨ho⟩⟩, .string ⟨⟨pr⟩⟩, .int .i64 ea] 24)) ((w.alloc (.cells #[.slice ax X.length cx, .slice ay Y.length cy, .int .i64 md, .int .i64 li, .string ⟨⟨ho⟩⟩, .string ⟨⟨pr⟩⟩, .int .i64 ea] 24)).alloc (.cells #[.slice none 0 0, .slice none 0 0, .int .i64 0, .int .i64 0, .string ⟨#[]⟩, .string ⟨#[]⟩, .int .i64 0] 24)) := (Below.refl _ _).alloc (Nat.le_refl _) _
  have z2 : ((w.alloc (.cells #[.slice ax X.length cx, .slice ay Y.length cy, .int .i64 md, .int .i64 li, .string ⟨⟨ho⟩⟩, .string ⟨⟨pr⟩⟩, .int .i64 ea] 24)).alloc (.cells #[.slice none 0 0, .slice none 0 0, .int .i64 0, .int .i64 0, .string ⟨#[]⟩, .string ⟨#[]⟩, .int .i64 0] 24)).heap.size = w.heap.size + 2 := by simp
  have n1 : Below w.heap.size w ((w.alloc (.cells #[.slice ax X.length cx, .slice ay Y.length cy, .int .i64 md, .int .i64 li, .string ⟨⟨ho⟩⟩, .string ⟨⟨pr⟩⟩, .int .i64 ea] 24)).alloc (.cells #[.slice none 0 0, .slice none 0 0, .int .i64 0, .int .i64 0, .string ⟨#[]⟩, .string ⟨#[]⟩, .int .i64 0] 24)) := m1.alloc (by omega) _
  have T0 : RwC ((w.alloc (.cells #[.slice ax X.length cx, .slice ay Y.length cy, .int .i64 md, .int .i64 li, .string ⟨⟨ho⟩⟩, .string ⟨⟨pr⟩⟩, .int .i64 ea] 24)).alloc (.cells #[.slice none 0 0, .slice none 0 0, .int .i64 0, .int .i64 0, .string ⟨#[]⟩, .string ⟨#[]⟩, .int .i64 0] 24)) w.heap.size [.slice ax X.length cx, .slice ay Y.length cy, .int .i64 md, .int .i64 li, .string ⟨⟨ho⟩⟩, .string ⟨⟨pr⟩⟩, .int .i64 ea] 24 := (RwC.new w _ _).up m2
  have Q0 : RwC ((w.alloc (.cells #[.slice ax X.length cx, .slice ay Y.length cy, .int .i64 md, .int .i64 li, .string ⟨⟨ho⟩⟩, .string ⟨⟨pr⟩⟩, .int .i64 ea] 24)).alloc (.cells #[.slice none 0 0, .slice none 0 0, .int .i64 0, .int .i64 0, .string ⟨#[]⟩, .string ⟨#[]⟩, .int .i64 0] 24)) (w.heap.size + 1) [.slice none 0 0, .slice none 0 0, .int .i64 0, .int .i64 0, .string ⟨#[]⟩, .string ⟨#[]⟩, .int .i64 0] 24 := by
    have h := RwC.new (w.alloc (.cells #[.slice ax X.length cx, .slice ay Y.length cy, .int .i64 md, .int .i64 li, .string ⟨⟨ho⟩⟩, .string ⟨⟨pr⟩⟩, .int .i64 ea] 24)) [.slice none 0 0, .slice none 0 0, .int .i64 0, .int .i64 0, .string ⟨#[]⟩, .string ⟨#[]⟩, .int .i64 0] 24
    rwa [z1] at h
  have d1 := d.up n1
  have b1 : But s w ((w.alloc (.cells #[.slice ax X.length cx, .slice ay Y.length cy, .int .i64 md, .int .i64 li, .string ⟨⟨ho⟩⟩, .string ⟨⟨pr⟩⟩, .int .i64 ea] 24)).alloc (.cells #[.slice none 0 0, .slice none 0 0, .int .i64 0, .int .i64 0, .string ⟨#[]⟩, .string ⟨#[]⟩, .int .i64 0] 24)) := But.ofBelow n1
  replace oX := oX.up n1
  replace oY := oY.up n1
  clear m1 m2 n1 d
  go_enter Tryz.func43, Tryz.ntmps43
  go_wp2_with fail
  try rw [z1]
  clear z1
  generalize (w.alloc (.cells #[.slice ax X.length cx, .slice ay Y.length cy, .int .i64 md, .int .i64 li, .string ⟨⟨ho⟩⟩, .string ⟨⟨pr⟩⟩, .int .i64 ea] 24)).alloc (.cells #[.slice none 0 0, .slice none 0 0, .int .i64 0, .int .i64 0, .string ⟨#[]⟩, .string ⟨#[]⟩, .int .i64 0] 24) = w1 at *
  refine (next_D d1 (by omega) (by decide) (by decide)).mono ?_
  rintro e w2 ⟨k, rfl, hk, d2, B2⟩
  replace T0 := T0.but B2 (by omega)
  replace Q0 := Q0.but B2 (by omega)
  replace oX := oX.but B2 (fun h => by omega)
  replace oY := oY.but B2 (fun h => by omega)
  have b2 := b1.trans B2
  have zz2 := B2.size
  clear d1 B2 b1
  have hk' : k = 0 ∨ k = 1 ∨ k = 2 ∨ k = 3 ∨ k = 4 ∨ k = 5 ∨ k = 6 ∨ k = 7 ∨ k = 8 := by omega
  clear hk
  rcases hk' with rfl | rfl | rfl | rfl | rfl | rfl | rfl | rfl | rfl
  · rw [show ((0 : Nat) : Int) = 0 from rfl]
    go_wp2_with fail
    refine (l1DrawBytes_any w2 s g a c xs _ 31 d2.S d2.R d2.ne d2.hb d2.hl d2.t0 (by omega)).mono ?_
    rintro e w3 ⟨Z, lZ, bZ, ⟨az, cz, gz, rfl, oZ, zZ, kZ, gZ⟩, S3, B3⟩
    have d3 : Dra w3 s g a c xs _ := ⟨S3, d2.R.but B3 d2.ne, d2.ne, d2.hb, d2.hl, by have := d2.t0; omega⟩
    have lgz := oZ.rd.lt
    replace Q0 := Q0.but B3 (by omega)
    replace T0 := T0.but B3 (by omega)
    replace oY := oY.but B3 (fun h => by omega)
    have b3 := b2.trans B3
    have zz3 := B3.size
    clear d2 B3 b2 S3
    clear oX
    have oX := oZ
    clear oZ
    have lZ' : Z.length ≤ 40 := by omega
    clear lZ
    have tc : w3.cell? ⟨w.heap.size, 0, none⟩ = some (.slice ax X.length cx) := T0.cell 0
    have tf := T0.free 0
    have OS := Only.setCell w3 w.heap.size 0 (.slice az Z.length cz)
    have T1 : RwC (w3.setCell ⟨w.heap.size, 0, none⟩ (.slice az Z.length cz)) w.heap.size [.slice az Z.length cz, .slice ay Y.length cy, .int .i64 md, .int .i64 li, .string ⟨⟨ho⟩⟩, .string ⟨⟨pr⟩⟩, .int .i64 ea] 24 := T0.set 0 _
    have Q1 := Q0.onl OS (by omega)
    have pX := Own.of_blockD oX (fun h => OS.block _ (by omega))
    have pY := Own.of_blockD oY (fun h => OS.block _ (by omega))
    have d10 : Dra (w3.setCell ⟨w.heap.size, 0, none⟩ (.slice az Z.length cz)) s g a c xs _ := ⟨d3.S.of_block (OS.block s (by omega)), Rd.of_blockD d3.R (fun h => OS.block g (by have := lg h; omega)), d3.ne, d3.hb, d3.hl, d3.t0⟩
    have b10 : But s w (w3.setCell ⟨w.heap.size, 0, none⟩ (.slice az Z.length cz)) := b3.setCell (by omega)
    have z10 := OS.size
    clear oX oY Q0 T0 d3 b3
    go_upto_region 20 with fail
    generalize w3.setCell ⟨w.heap.size, 0, none⟩ (.slice az Z.length cz) = wz at *
    clear tc tf OS
    have t0 : wz.cell? ⟨w.heap.size, 0, none⟩ = some (.slice az Z.length cz) := T1.cell 0
    have qc0 : wz.cell? ⟨w.heap.size + 1, 0, none⟩ = some (.slice none 0 0) := Q1.cell 0
    have qf0 := Q1.free 0
    have t1 : wz.cell? ⟨w.heap.size, 1, none⟩ = some (.slice ay Y.length cy) := T1.cell 1
    have qc1 : wz.cell? ⟨w.heap.size + 1, 1, none⟩ = some (.slice none 0 0) := Q1.cell 1
    have qf1 := Q1.free 1
    have t2 : wz.cell? ⟨w.heap.size, 2, none⟩ = some (.int .i64 md) := T1.cell 2
    have qc2 : wz.cell? ⟨w.heap.size + 1, 2, none⟩ = some (.int .i64 0) := Q1.cell 2
    have qf2 := Q1.free 2
    have t3 : wz.cell? ⟨w.heap.size, 3, none⟩ = some (.int .i64 li) := T1.cell 3
    have qc3 : wz.cell? ⟨w.heap.size + 1, 3, none⟩ = some (.int .i64 0) := Q1.cell 3
    have qf3 := Q1.free 3
    have t4 : wz.cell? ⟨w.heap.size, 4, none⟩ = some (.string ⟨⟨ho⟩⟩) := T1.cell 4
    have qc4 : wz.cell? ⟨w.heap.size + 1, 4, none⟩ = some (.string ⟨#[]⟩) := Q1.cell 4
    have qf4 := Q1.free 4
    have t5 : wz.cell? ⟨w.heap.size, 5, none⟩ = some (.string ⟨⟨pr⟩⟩) := T1.cell 5
    have qc5 : wz.cell? ⟨w.heap.size + 1, 5, none⟩ = some (.string ⟨#[]⟩) := Q1.cell 5
    have qf5 := Q1.free 5
    have t6 : wz.cell? ⟨w.heap.size, 6, none⟩ = some (.int .i64 ea) := T1.cell 6
    have qc6 : wz.cell? ⟨w.heap.size + 1, 6, none⟩ = some (.int .i64 0) := Q1.cell 6
    have qf6 := Q1.free 6
    have RF : RwC (((((((wz.setCell ⟨w.heap.size + 1, 0, none⟩ (.slice az Z.length cz)).setCell ⟨w.heap.size + 1, 1, none⟩ (.slice ay Y.length cy)).setCell ⟨w.heap.size + 1, 2, none⟩ (.int .i64 md)).setCell ⟨w.heap.size + 1, 3, none⟩ (.int .i64 li)).setCell ⟨w.heap.size + 1, 4, none⟩ (.string ⟨⟨ho⟩⟩)).setCell ⟨w.heap.size + 1, 5, none⟩ (.string ⟨⟨pr⟩⟩)).setCell ⟨w.heap.size + 1, 6, none⟩ (.int .i64 ea)) (w.heap.size + 1) [.slice az Z.length cz, .slice ay Y.length cy, .int .i64 md, .int .i64 li, .string ⟨⟨ho⟩⟩, .string ⟨⟨pr⟩⟩, .int .i64 ea] 24 := (((((((Q1.set 0 (.slice az Z.length cz)).set 1 (.slice ay Y.length cy)).set 2 (.int .i64 md)).set 3 (.int .i64 li)).set 4 (.string ⟨⟨ho⟩⟩)).set 5 (.string ⟨⟨pr⟩⟩)).set 6 (.int .i64 ea))
    have OF : Only (w.heap.size + 1) wz (((((((wz.setCell ⟨w.heap.size + 1, 0, none⟩ (.slice az Z.length cz)).setCell ⟨w.heap.size + 1, 1, none⟩ (.slice ay Y.length cy)).setCell ⟨w.heap.size + 1, 2, none⟩ (.int .i64 md)).setCell ⟨w.heap.size + 1, 3, none⟩ (.int .i64 li)).setCell ⟨w.heap.size + 1, 4, none⟩ (.string ⟨⟨ho⟩⟩)).setCell ⟨w.heap.size + 1, 5, none⟩ (.string ⟨⟨pr⟩⟩)).setCell ⟨w.heap.size + 1, 6, none⟩ (.int .i64 ea)) := (((((((Only.refl (w.heap.size + 1) wz).trans (Only.setCell _ (w.heap.size + 1) 0 _)).trans (Only.setCell _ (w.heap.size + 1) 1 _)).trans (Only.setCell _ (w.heap.size + 1) 2 _)).trans (Only.setCell _ (w.heap.size + 1) 3 _)).trans (Only.setCell _ (w.heap.size + 1) 4 _)).trans (Only.setCell _ (w.heap.size + 1) 5 _)).trans (Only.setCell _ (w.heap.size + 1) 6 _)
    have RR := RF.rangeG
    have rX := hide (Own.of_blockD pX (fun h => OF.block _ (by omega)))
    have rY := hide (Own.of_blockD pY (fun h => OF.block _ (by omega)))
    have dF := hide (show Dra (((((((wz.setCell ⟨w.heap.size + 1, 0, none⟩ (.slice az Z.length cz)).setCell ⟨w.heap.size + 1, 1, none⟩ (.slice ay Y.length cy)).setCell ⟨w.heap.size + 1, 2, none⟩ (.int .i64 md)).setCell ⟨w.heap.size + 1, 3, none⟩ (.int .i64 li)).setCell ⟨w.heap.size + 1, 4, none⟩ (.string ⟨⟨ho⟩⟩)).setCell ⟨w.heap.size + 1, 5, none⟩ (.string ⟨⟨pr⟩⟩)).setCell ⟨w.heap.size + 1, 6, none⟩ (.int .i64 ea)) s g a c xs _ from ⟨d10.S.of_block (OF.block s (by omega)), Rd.of_blockD d10.R (fun h => OF.block g (by have := lg h; omega)), d10.ne, d10.hb, d10.hl, d10.t0⟩)
    have bF := hide (show But s w (((((((wz.setCell ⟨w.heap.size + 1, 0, none⟩ (.slice az Z.length cz)).setCell ⟨w.heap.size + 1, 1, none⟩ (.slice ay Y.length cy)).setCell ⟨w.heap.size + 1, 2, none⟩ (.int .i64 md)).setCell ⟨w.heap.size + 1, 3, none⟩ (.int .i64 li)).setCell ⟨w.heap.size + 1, 4, none⟩ (.string ⟨⟨ho⟩⟩)).setCell ⟨w.heap.size + 1, 5, none⟩ (.string ⟨⟨pr⟩⟩)).setCell ⟨w.heap.size + 1, 6, none⟩ (.int .i64 ea)) from ⟨OF.os.trans b10.os, OF.tape.trans b10.tape, OF.output.trans b10.output, Nat.le_trans b10.size (Nat.le_of_eq OF.size.symm), fun k hk hne => (OF.block k (by omega)).trans (b10.block k hk hne)⟩)
    clear RF OF T1 Q1 pX pY d10 b10
    go_wp2
    exact bodyPost_ret (v := .agg #[.slice az Z.length cz, .slice ay Y.length cy, .int .i64 md, .int .i64 li, .string ⟨⟨ho⟩⟩, .string ⟨⟨pr⟩⟩, .int .i64 ea]) (results_cellG Tryz.results43 _ _ (w.heap.size + 1) _ dR rfl RR hdR hrowR iTs) rfl ⟨_, _, rfl, ⟨az, cz, gz, Z, ay, cy, gy, Y, md, li, ho, pr, ea, rfl, ⟨rX.out, zZ, kZ, lZ', bZ, by omega⟩, ⟨rY.out, zY, kY, lY, bY, by omega⟩, lh, lp⟩, by omega, dF.out, bF.out⟩
  · rw [show ((1 : Nat) : Int) = 1 from rfl]
    go_wp2_with fail
    refine (l1DrawBytes_any w2 s g a c xs _ 33 d2.S d2.R d2.ne d2.hb d2.hl d2.t0 (by omega)).mono ?_
    rintro e w3 ⟨Z, lZ, bZ, ⟨az, cz, gz, rfl, oZ, zZ, kZ, gZ⟩, S3, B3⟩
    have d3 : Dra w3 s g a c xs _ := ⟨S3, d2.R.but B3 d2.ne, d2.ne, d2.hb, d2.hl, by have := d2.t0; omega⟩
    have lgz := oZ.rd.lt
    replace Q0 := Q0.but B3 (by omega)
    replace T0 := T0.but B3 (by omega)
    replace oX := oX.but B3 (fun h => by omega)
    have b3 := b2.trans B3
    have zz3 := B3.size
    clear d2 B3 b2 S3
    clear oY
    have oY := oZ
    clear oZ
    have lZ' : Z.length ≤ 40 := by omega
    clear lZ
    have tc : w3.cell? ⟨w.heap.size, 1, none⟩ = some (.slice ay Y.length cy) := T0.cell 1
    have tf := T0.free 1
    have OS := Only.setCell w3 w.heap.size 1 (.slice az Z.length cz)
    have T1 : RwC (w3.setCell ⟨w.heap.size, 1, none⟩ (.slice az Z.length cz)) w.heap.size [.slice ax X.length cx, .slice az Z.length cz, .int .i64 md, .int .i64 li, .string ⟨⟨ho⟩⟩, .string ⟨⟨pr⟩⟩, .int .i64 ea] 24 := T0.set 1 _
    have Q1 := Q0.onl OS (by omega)
    have pX := Own.of_blockD oX (fun h => OS.block _ (by omega))
    have pY := Own.of_blockD oY (fun h => OS.block _ (by omega))
    have d10 : Dra (w3.setCell ⟨w.heap.size, 1, none⟩ (.slice az Z.length cz)) s g a c xs _ := ⟨d3.S.of_block (OS.block s (by omega)), Rd.of_blockD d3.R (fun h => OS.block g (by have := lg h; omega)), d3.ne, d3.hb, d3.hl, d3.t0⟩
    have b10 : But s w (w3.setCell ⟨w.heap.size, 1, none⟩ (.slice az Z.length cz)) := b3.setCell (by omega)
    have z10 := OS.size
    clear oX oY Q0 T0 d3 b3
    go_upto_region 20 with fail
    generalize w3.setCell ⟨w.heap.size, 1, none⟩ (.slice az Z.length cz) = wz at *
    clear tc tf OS
    have t0 : wz.cell? ⟨w.heap.size, 0, none⟩ = some (.slice ax X.length cx) := T1.cell 0
    have qc0 : wz.cell? ⟨w.heap.size + 1, 0, none⟩ = some (.slice none 0 0) := Q1.cell 0
    have qf0 := Q1.free 0
    have t1 : wz.cell? ⟨w.heap.size, 1, none⟩ = some (.slice az Z.length cz) := T1.cell 1
    have qc1 : wz.cell? ⟨w.heap.size + 1, 1, none⟩ = some (.slice none 0 0) := Q1.cell 1
    have qf1 := Q1.free 1
    have t2 : wz.cell? ⟨w.heap.size, 2, none⟩ = some (.int .i64 md) := T1.cell 2
    have qc2 : wz.cell? ⟨w.heap.size + 1, 2, none⟩ = some (.int .i64 0) := Q1.cell 2
    have qf2 := Q1.free 2
    have t3 : wz.cell? ⟨w.heap.size, 3, none⟩ = some (.int .i64 li) := T1.cell 3
    have qc3 : wz.cell? ⟨w.heap.size + 1, 3, none⟩ = some (.int .i64 0) := Q1.cell 3
    have qf3 := Q1.free 3
    have t4 : wz.cell? ⟨w.heap.size, 4, none⟩ = some (.string ⟨⟨ho⟩⟩) := T1.cell 4
    have qc4 : wz.cell? ⟨w.heap.size + 1, 4, none⟩ = some (.string ⟨#[]⟩) := Q1.cell 4
    have qf4 := Q1.free 4
    have t5 : wz.cell? ⟨w.heap.size, 5, none⟩ = some (.string ⟨⟨pr⟩⟩) := T1.cell 5
    have qc5 : wz.cell? ⟨w.heap.size + 1, 5, none⟩ = some (.string ⟨#[]⟩) := Q1.cell 5
    have qf5 := Q1.free 5
    have t6 : wz.cell? ⟨w.heap.size, 6, none⟩ = some (.int .i64 ea) := T1.cell 6
    have qc6 : wz.cell? ⟨w.heap.size + 1, 6, none⟩ = some (.int .i64 0) := Q1.cell 6
    have qf6 := Q1.free 6
    have RF : RwC (((((((wz.setCell ⟨w.heap.size + 1, 0, none⟩ (.slice ax X.length cx)).setCell ⟨w.heap.size + 1, 1, none⟩ (.slice az Z.length cz)).setCell ⟨w.heap.size + 1, 2, none⟩ (.int .i64 md)).setCell ⟨w.heap.size + 1, 3, none⟩ (.int .i64 li)).setCell ⟨w.heap.size + 1, 4, none⟩ (.string ⟨⟨ho⟩⟩)).setCell ⟨w.heap.size + 1, 5, none⟩ (.string ⟨⟨pr⟩⟩)).setCell ⟨w.heap.size + 1, 6, none⟩ (.int .i64 ea)) (w.heap.size + 1) [.slice ax X.length cx, .slice az Z.length cz, .int .i64 md, .int .i64 li, .string ⟨⟨ho⟩⟩, .string ⟨⟨pr⟩⟩, .int .i64 ea] 24 := (((((((Q1.set 0 (.slice ax X.length cx)).set 1 (.slice az Z.length cz)).set 2 (.int .i64 md)).set 3 (.int .i64 li)).set 4 (.string ⟨⟨ho⟩⟩)).set 5 (.string ⟨⟨pr⟩⟩)).set 6 (.int .i64 ea))
    have OF : Only (w.heap.size + 1) wz (((((((wz.setCell ⟨w.heap.size + 1, 0, none⟩ (.slice ax X.length cx)).setCell ⟨w.heap.size + 1, 1, none⟩ (.slice az Z.length cz)).setCell ⟨w.heap.size + 1, 2, none⟩ (.int .i64 md)).setCell ⟨w.heap.size + 1, 3, none⟩ (.int .i64 li)).setCell ⟨w.heap.size + 1, 4, none⟩ (.string ⟨⟨ho⟩⟩)).setCell ⟨w.heap.size + 1, 5, none⟩ (.string ⟨⟨pr⟩⟩)).setCell ⟨w.heap.size + 1, 6, none⟩ (.int .i64 ea)) := (((((((Only.refl (w.heap.size + 1) wz).trans (Only.setCell _ (w.heap.size + 1) 0 _)).trans (Only.setCell _ (w.heap.size + 1) 1 _)).trans (Only.setCell _ (w.heap.size + 1) 2 _)).trans (Only.setCell _ (w.heap.size + 1) 3 _)).trans (Only.setCell _ (w.heap.size + 1) 4 _)).trans (Only.setCell _ (w.heap.size + 1) 5 _)).trans (Only.setCell _ (w.heap.size + 1) 6 _)
    have RR := RF.rangeG
    have rX := hide (Own.of_blockD pX (fun h => OF.block _ (by omega)))
    have rY := hide (Own.of_blockD pY (fun h => OF.block _ (by omega)))
    have dF := hide (show Dra (((((((wz.setCell ⟨w.heap.size + 1, 0, none⟩ (.slice ax X.length cx)).setCell ⟨w.heap.size + 1, 1, none⟩ (.slice az Z.length cz)).setCell ⟨w.heap.size + 1, 2, none⟩ (.int .i64 md)).setCell ⟨w.heap.size + 1, 3, none⟩ (.int .i64 li)).setCell ⟨w.heap.size + 1, 4, none⟩ (.string ⟨⟨ho⟩⟩)).setCell ⟨w.heap.size + 1, 5, none⟩ (.string ⟨⟨pr⟩⟩)).setCell ⟨w.heap.size + 1, 6, none⟩ (.int .i64 ea)) s g a c xs _ from ⟨d10.S.of_block (OF.block s (by omega)), Rd.of_blockD d10.R (fun h => OF.block g (by have := lg h; omega)), d10.ne, d10.hb, d10.hl, d10.t0⟩)
    have bF := hide (show But s w (((((((wz.setCell ⟨w.heap.size + 1, 0, none⟩ (.slice ax X.length cx)).setCell ⟨w.heap.size + 1, 1, none⟩ (.slice az Z.length cz)).setCell ⟨w.heap.size + 1, 2, none⟩ (.int .i64 md)).setCell ⟨w.heap.size + 1, 3, none⟩ (.int .i64 li)).setCell ⟨w.heap.size + 1, 4, none⟩ (.string ⟨⟨ho⟩⟩)).setCell ⟨w.heap.size + 1, 5, none⟩ (.string ⟨⟨pr⟩⟩)).setCell ⟨w.heap.size + 1, 6, none⟩ (.int .i64 ea)) from ⟨OF.os.trans b10.os, OF.tape.trans b10.tape, OF.output.trans b10.output, Nat.le_trans b10.size (Nat.le_of_eq OF.size.symm), fun k hk hne => (OF.block k (by omega)).trans (b10.block k hk hne)⟩)
    clear RF OF T1 Q1 pX pY d10 b10
    go_wp2
    exact bodyPost_ret (v := .agg #[.slice ax X.length cx, .slice az Z.length cz, .int .i64 md, .int .i64 li, .string ⟨⟨ho⟩⟩, .string ⟨⟨pr⟩⟩, .int .i64 ea]) (results_cellG Tryz.results43 _ _ (w.heap.size + 1) _ dR rfl RR hdR hrowR iTs) rfl ⟨_, _, rfl, ⟨ax, cx, gx, X, az, cz, gz, Z, md, li, ho, pr, ea, rfl, ⟨rX.out, zX, kX, lX, bX, by omega⟩, ⟨rY.out, zZ, kZ, lZ', bZ, by omega⟩, lh, lp⟩, by omega, dF.out, bF.out⟩
  · rw [show ((2 : Nat) : Int) = 2 from rfl]
    go_wp2_with fail
    refine (next_D d2 (by omega) (by decide) (by decide)).mono ?_
    rintro e w3 ⟨r, rfl, hr, d3, B3⟩
    replace Q0 := Q0.but B3 (by omega)
    replace T0 := T0.but B3 (by omega)
    replace oX := oX.but B3 (fun h => by omega)
    replace oY := oY.but B3 (fun h => by omega)
    have b3 := b2.trans B3
    have zz3 := B3.size
    clear d2 B3 b2
    have tc : w3.cell? ⟨w.heap.size, 2, none⟩ = some (.int .i64 md) := T0.cell 2
    have tf := T0.free 2
    have OS := Only.setCell w3 w.heap.size 2 (.int .i64 (253402300799 + (r : Int)))
    have T1 : RwC (w3.setCell ⟨w.heap.size, 2, none⟩ (.int .i64 (253402300799 + (r : Int)))) w.heap.size [.slice ax X.length cx, .slice ay Y.length cy, .int .i64 (253402300799 + (r : Int)), .int .i64 li, .string ⟨⟨ho⟩⟩, .string ⟨⟨pr⟩⟩, .int .i64 ea] 24 := T0.set 2 _
    have Q1 := Q0.onl OS (by omega)
    have pX := Own.of_blockD oX (fun h => OS.block _ (by omega))
    have pY := Own.of_blockD oY (fun h => OS.block _ (by omega))
    have d10 : Dra (w3.setCell ⟨w.heap.size, 2, none⟩ (.int .i64 (253402300799 + (r : Int)))) s g a c xs _ := ⟨d3.S.of_block (OS.block s (by omega)), Rd.of_blockD d3.R (fun h => OS.block g (by have := lg h; omega)), d3.ne, d3.hb, d3.hl, d3.t0⟩
    have b10 : But s w (w3.setCell ⟨w.heap.size, 2, none⟩ (.int .i64 (253402300799 + (r : Int)))) := b3.setCell (by omega)
    have z10 := OS.size
    clear oX oY Q0 T0 d3 b3
    go_upto_region 20 with fail
    generalize w3.setCell ⟨w.heap.size, 2, none⟩ (.int .i64 (253402300799 + (r : Int))) = wz at *
    clear tc tf OS
    have t0 : wz.cell? ⟨w.heap.size, 0, none⟩ = some (.slice ax X.length cx) := T1.cell 0
    have qc0 : wz.cell? ⟨w.heap.size + 1, 0, none⟩ = some (.slice none 0 0) := Q1.cell 0
    have qf0 := Q1.free 0
    have t1 : wz.cell? ⟨w.heap.size, 1, none⟩ = some (.slice ay Y.length cy) := T1.cell 1
    have qc1 : wz.cell? ⟨w.heap.size + 1, 1, none⟩ = some (.slice none 0 0) := Q1.cell 1
    have qf1 := Q1.free 1
    have t2 : wz.cell? ⟨w.heap.size, 2, none⟩ = some (.int .i64 (253402300799 + (r : Int))) := T1.cell 2
    have qc2 : wz.cell? ⟨w.heap.size + 1, 2, none⟩ = some (.int .i64 0) := Q1.cell 2
    have qf2 := Q1.free 2
    have t3 : wz.cell? ⟨w.heap.size, 3, none⟩ = some (.int .i64 li) := T1.cell 3
    have qc3 : wz.cell? ⟨w.heap.size + 1, 3, none⟩ = some (.int .i64 0) := Q1.cell 3
    have qf3 := Q1.free 3
    have t4 : wz.cell? ⟨w.heap.size, 4, none⟩ = some (.string ⟨⟨ho⟩⟩) := T1.cell 4
    have qc4 : wz.cell? ⟨w.heap.size + 1, 4, none⟩ = some (.string ⟨#[]⟩) := Q1.cell 4
    have qf4 := Q1.free 4
    have t5 : wz.cell? ⟨w.heap.size, 5, none⟩ = some (.string ⟨⟨pr⟩⟩) := T1.cell 5
    have qc5 : wz.cell? ⟨w.heap.size + 1, 5, none⟩ = some (.string ⟨#[]⟩) := Q1.cell 5
    have qf5 := Q1.free 5
    have t6 : wz.cell? ⟨w.heap.size, 6, none⟩ = some (.int .i64 ea) := T1.cell 6
    have qc6 : wz.cell? ⟨w.heap.size + 1, 6, none⟩ = some (.int .i64 0) := Q1.cell 6
    have qf6 := Q1.free 6
    have RF : RwC (((((((wz.setCell ⟨w.heap.size + 1, 0, none⟩ (.slice ax X.length cx)).setCell ⟨w.heap.size + 1, 1, none⟩ (.slice ay Y.length cy)).setCell ⟨w.heap.size + 1, 2, none⟩ (.int .i64 (253402300799 + (r : Int)))).setCell ⟨w.heap.size + 1, 3, none⟩ (.int .i64 li)).setCell ⟨w.heap.size + 1, 4, none⟩ (.string ⟨⟨ho⟩⟩)).setCell ⟨w.heap.size + 1, 5, none⟩ (.string ⟨⟨pr⟩⟩)).setCell ⟨w.heap.size + 1, 6, none⟩ (.int .i64 ea)) (w.heap.size + 1) [.slice ax X.length cx, .slice ay Y.length cy, .int .i64 (253402300799 + (r : Int)), .int .i64 li, .string ⟨⟨ho⟩⟩, .string ⟨⟨pr⟩⟩, .int .i64 ea] 24 := (((((((Q1.set 0 (.slice ax X.length cx)).set 1 (.slice ay Y.length cy)).set 2 (.int .i64 (253402300799 + (r : Int)))).set 3 (.int .i64 li)).set 4 (.string ⟨⟨ho⟩⟩)).set 5 (.string ⟨⟨pr⟩⟩)).set 6 (.int .i64 ea))
    have OF : Only (w.heap.size + 1) wz (((((((wz.setCell ⟨w.heap.size + 1, 0, none⟩ (.slice ax X.length cx)).setCell ⟨w.heap.size + 1, 1, none⟩ (.slice ay Y.length cy)).setCell ⟨w.heap.size + 1, 2, none⟩ (.int .i64 (253402300799 + (r : Int)))).setCell ⟨w.heap.size + 1, 3, none⟩ (.int .i64 li)).setCell ⟨w.heap.size + 1, 4, none⟩ (.string ⟨⟨ho⟩⟩)).setCell ⟨w.heap.size + 1, 5, none⟩ (.string ⟨⟨pr⟩⟩)).setCell ⟨w.heap.size + 1, 6, none⟩ (.int .i64 ea)) := (((((((Only.refl (w.heap.size + 1) wz).trans (Only.setCell _ (w.heap.size + 1) 0 _)).trans (Only.setCell _ (w.heap.size + 1) 1 _)).trans (Only.setCell _ (w.heap.size + 1) 2 _)).trans (Only.setCell _ (w.heap.size + 1) 3 _)).trans (Only.setCell _ (w.heap.size + 1) 4 _)).trans (Only.setCell _ (w.heap.size + 1) 5 _)).trans (Only.setCell _ (w.heap.size + 1) 6 _)
    have RR := RF.rangeG
    have rX := hide (Own.of_blockD pX (fun h => OF.block _ (by omega)))
    have rY := hide (Own.of_blockD pY (fun h => OF.block _ (by omega)))
    have dF := hide (show Dra (((((((wz.setCell ⟨w.heap.size + 1, 0, none⟩ (.slice ax X.length cx)).setCell ⟨w.heap.size + 1, 1, none⟩ (.slice ay Y.length cy)).setCell ⟨w.heap.size + 1, 2, none⟩ (.int .i64 (253402300799 + (r : Int)))).setCell ⟨w.heap.size + 1, 3, none⟩ (.int .i64 li)).setCell ⟨w.heap.size + 1, 4, none⟩ (.string ⟨⟨ho⟩⟩)).setCell ⟨w.heap.size + 1, 5, none⟩ (.string ⟨⟨pr⟩⟩)).setCell ⟨w.heap.size + 1, 6, none⟩ (.int .i64 ea)) s g a c xs _ from ⟨d10.S.of_block (OF.block s (by omega)), Rd.of_blockD d10.R (fun h => OF.block g (by have := lg h; omega)), d10.ne, d10.hb, d10.hl, d10.t0⟩)
    have bF := hide (show But s w (((((((wz.setCell ⟨w.heap.size + 1, 0, none⟩ (.slice ax X.length cx)).setCell ⟨w.heap.size + 1, 1, none⟩ (.slice ay Y.length cy)).setCell ⟨w.heap.size + 1, 2, none⟩ (.int .i64 (253402300799 + (r : Int)))).setCell ⟨w.heap.size + 1, 3, none⟩ (.int .i64 li)).setCell ⟨w.heap.size + 1, 4, none⟩ (.string ⟨⟨ho⟩⟩)).setCell ⟨w.heap.size + 1, 5, none⟩ (.string ⟨⟨pr⟩⟩)).setCell ⟨w.heap.size + 1, 6, none⟩ (.int .i64 ea)) from ⟨OF.os.trans b10.os, OF.tape.trans b10.tape, OF.output.trans b10.output, Nat.le_trans b10.size (Nat.le_of_eq OF.size.symm), fun k hk hne => (OF.block k (by omega)).trans (b10.block k hk hne)⟩)
    clear RF OF T1 Q1 pX pY d10 b10
    go_wp2
    exact bodyPost_ret (v := .agg #[.slice ax X.length cx, .slice ay Y.length cy, .int .i64 (253402300799 + (r : Int)), .int .i64 li, .string ⟨⟨ho⟩⟩, .string ⟨⟨pr⟩⟩, .int .i64 ea]) (results_cellG Tryz.results43 _ _ (w.heap.size + 1) _ dR rfl RR hdR hrowR iTs) rfl ⟨_, _, rfl, ⟨ax, cx, gx, X, ay, cy, gy, Y, _, li, ho, pr, ea, rfl, ⟨rX.out, zX, kX, lX, bX, by omega⟩, ⟨rY.out, zY, kY, lY, bY, by omega⟩, lh, lp⟩, by omega, dF.out, bF.out⟩
  · rw [show ((3 : Nat) : Int) = 3 from rfl]
    have d3 := d2
    have b3 := b2
    clear d2 b2
    have tc : w2.cell? ⟨w.heap.size, 2, none⟩ = some (.int .i64 md) := T0.cell 2
    have tf := T0.free 2
    have OS := Only.setCell w2 w.heap.size 2 (.int .i64 (-1))
    have T1 : RwC (w2.setCell ⟨w.heap.size, 2, none⟩ (.int .i64 (-1))) w.heap.size [.slice ax X.length cx, .slice ay Y.length cy, .int .i64 (-1), .int .i64 li, .string ⟨⟨ho⟩⟩, .string ⟨⟨pr⟩⟩, .int .i64 ea] 24 := T0.set 2 _
    have Q1 := Q0.onl OS (by omega)
    have pX := Own.of_blockD oX (fun h => OS.block _ (by omega))
    have pY := Own.of_blockD oY (fun h => OS.block _ (by omega))
    have d10 : Dra (w2.setCell ⟨w.heap.size, 2, none⟩ (.int .i64 (-1))) s g a c xs _ := ⟨d3.S.of_block (OS.block s (by omega)), Rd.of_blockD d3.R (fun h => OS.block g (by have := lg h; omega)), d3.ne, d3.hb, d3.hl, d3.t0⟩
    have b10 : But s w (w2.setCell ⟨w.heap.size, 2, none⟩ (.int .i64 (-1))) := b3.setCell (by omega)
    have z10 := OS.size
    clear oX oY Q0 T0 d3 b3
    go_upto_region 20 with fail
    generalize w2.setCell ⟨w.heap.size, 2, none⟩ (.int .i64 (-1)) = wz at *
    clear tc tf OS
    have t0 : wz.cell? ⟨w.heap.size, 0, none⟩ = some (.slice ax X.length cx) := T1.cell 0
    have qc0 : wz.cell? ⟨w.heap.size + 1, 0, none⟩ = some (.slice none 0 0) := Q1.cell 0
    have qf0 := Q1.free 0
    have t1 : wz.cell? ⟨w.heap.size, 1, none⟩ = some (.slice ay Y.length cy) := T1.cell 1
    have qc1 : wz.cell? ⟨w.heap.size + 1, 1, none⟩ = some (.slice none 0 0) := Q1.cell 1
    have qf1 := Q1.free 1
    have t2 : wz.cell? ⟨w.heap.size, 2, none⟩ = some (.int .i64 (-1)) := T1.cell 2
    have qc2 : wz.cell? ⟨w.heap.size + 1, 2, none⟩ = some (.int .i64 0) := Q1.cell 2
    have qf2 := Q1.free 2
    have t3 : wz.cell? ⟨w.heap.size, 3, none⟩ = some (.int .i64 li) := T1.cell 3
    have qc3 : wz.cell? ⟨w.heap.size + 1, 3, none⟩ = some (.int .i64 0) := Q1.cell 3
    have qf3 := Q1.free 3
    have t4 : wz.cell? ⟨w.heap.size, 4, none⟩ = some (.string ⟨⟨ho⟩⟩) := T1.cell 4
    have qc4 : wz.cell? ⟨w.heap.size + 1, 4, none⟩ = some (.string ⟨#[]⟩) := Q1.cell 4
    have qf4 := Q1.free 4
    have t5 : wz.cell? ⟨w.heap.size, 5, none⟩ = some (.string ⟨⟨pr⟩⟩) := T1.cell 5
    have qc5 : wz.cell? ⟨w.heap.size + 1, 5, none⟩ = some (.string ⟨#[]⟩) := Q1.cell 5
    have qf5 := Q1.free 5
    have t6 : wz.cell? ⟨w.heap.size, 6, none⟩ = some (.int .i64 ea) := T1.cell 6
    have qc6 : wz.cell? ⟨w.heap.size + 1, 6, none⟩ = some (.int .i64 0) := Q1.cell 6
    have qf6 := Q1.free 6
    have RF : RwC (((((((wz.setCell ⟨w.heap.size + 1, 0, none⟩ (.slice ax X.length cx)).setCell ⟨w.heap.size + 1, 1, none⟩ (.slice ay Y.length cy)).setCell ⟨w.heap.size + 1, 2, none⟩ (.int .i64 (-1))).setCell ⟨w.heap.size + 1, 3, none⟩ (.int .i64 li)).setCell ⟨w.heap.size + 1, 4, none⟩ (.string ⟨⟨ho⟩⟩)).setCell ⟨w.heap.size + 1, 5, none⟩ (.string ⟨⟨pr⟩⟩)).setCell ⟨w.heap.size + 1, 6, none⟩ (.int .i64 ea)) (w.heap.size + 1) [.slice ax X.length cx, .slice ay Y.length cy, .int .i64 (-1), .int .i64 li, .string ⟨⟨ho⟩⟩, .string ⟨⟨pr⟩⟩, .int .i64 ea] 24 := (((((((Q1.set 0 (.slice ax X.length cx)).set 1 (.slice ay Y.length cy)).set 2 (.int .i64 (-1))).set 3 (.int .i64 li)).set 4 (.string ⟨⟨ho⟩⟩)).set 5 (.string ⟨⟨pr⟩⟩)).set 6 (.int .i64 ea))
    have OF : Only (w.heap.size + 1) wz (((((((wz.setCell ⟨w.heap.size + 1, 0, none⟩ (.slice ax X.length cx)).setCell ⟨w.heap.size + 1, 1, none⟩ (.slice ay Y.length cy)).setCell ⟨w.heap.size + 1, 2, none⟩ (.int .i64 (-1))).setCell ⟨w.heap.size + 1, 3, none⟩ (.int .i64 li)).setCell ⟨w.heap.size + 1, 4, none⟩ (.string ⟨⟨ho⟩⟩)).setCell ⟨w.heap.size + 1, 5, none⟩ (.string ⟨⟨pr⟩⟩)).setCell ⟨w.heap.size + 1, 6, none⟩ (.int .i64 ea)) := (((((((Only.refl (w.heap.size + 1) wz).trans (Only.setCell _ (w.heap.size + 1) 0 _)).trans (Only.setCell _ (w.heap.size + 1) 1 _)).trans (Only.setCell _ (w.heap.size + 1) 2 _)).trans (Only.setCell _ (w.heap.size + 1) 3 _)).trans (Only.setCell _ (w.heap.size + 1) 4 _)).trans (Only.setCell _ (w.heap.size + 1) 5 _)).trans (Only.setCell _ (w.heap.size + 1) 6 _)
    have RR := RF.rangeG
    have rX := hide (Own.of_blockD pX (fun h => OF.block _ (by omega)))
    have rY := hide (Own.of_blockD pY (fun h => OF.block _ (by omega)))
    have dF := hide (show Dra (((((((wz.setCell ⟨w.heap.size + 1, 0, none⟩ (.slice ax X.length cx)).setCell ⟨w.heap.size + 1, 1, none⟩ (.slice ay Y.length cy)).setCell ⟨w.heap.size + 1, 2, none⟩ (.int .i64 (-1))).setCell ⟨w.heap.size + 1, 3, none⟩ (.int .i64 li)).setCell ⟨w.heap.size + 1, 4, none⟩ (.string ⟨⟨ho⟩⟩)).setCell ⟨w.heap.size + 1, 5, none⟩ (.string ⟨⟨pr⟩⟩)).setCell ⟨w.heap.size + 1, 6, none⟩ (.int .i64 ea)) s g a c xs _ from ⟨d10.S.of_block (OF.block s (by omega)), Rd.of_blockD d10.R (fun h => OF.block g (by have := lg h; omega)), d10.ne, d10.hb, d10.hl, d10.t0⟩)
    have bF := hide (show But s w (((((((wz.setCell ⟨w.heap.size + 1, 0, none⟩ (.slice ax X.length cx)).setCell ⟨w.heap.size + 1, 1, none⟩ (.slice ay Y.length cy)).setCell ⟨w.heap.size + 1, 2, none⟩ (.int .i64 (-1))).setCell ⟨w.heap.size + 1, 3, none⟩ (.int .i64 li)).setCell ⟨w.heap.size + 1, 4, none⟩ (.string ⟨⟨ho⟩⟩)).setCell ⟨w.heap.size + 1, 5, none⟩ (.string ⟨⟨pr⟩⟩)).setCell ⟨w.heap.size + 1, 6, none⟩ (.int .i64 ea)) from ⟨OF.os.trans b10.os, OF.tape.trans b10.tape, OF.output.trans b10.output, Nat.le_trans b10.size (Nat.le_of_eq OF.size.symm), fun k hk hne => (OF.block k (by omega)).trans (b10.block k hk hne)⟩)
    clear RF OF T1 Q1 pX pY d10 b10
    go_wp2
    exact bodyPost_ret (v := .agg #[.slice ax X.length cx, .slice ay Y.length cy, .int .i64 (-1), .int .i64 li, .string ⟨⟨ho⟩⟩, .string ⟨⟨pr⟩⟩, .int .i64 ea]) (results_cellG Tryz.results43 _ _ (w.heap.size + 1) _ dR rfl RR hdR hrowR iTs) rfl ⟨_, _, rfl, ⟨ax, cx, gx, X, ay, cy, gy, Y, _, li, ho, pr, ea, rfl, ⟨rX.out, zX, kX, lX, bX, by omega⟩, ⟨rY.out, zY, kY, lY, bY, by omega⟩, lh, lp⟩, by omega, dF.out, bF.out⟩
  · rw [show ((4 : Nat) : Int) = 4 from rfl]
    go_wp2_with fail
    refine (next_D d2 (by omega) (by decide) (by decide)).mono ?_
    rintro e w3 ⟨r, rfl, hr, d3, B3⟩
    replace Q0 := Q0.but B3 (by omega)
    replace T0 := T0.but B3 (by omega)
    replace oX := oX.but B3 (fun h => by omega)
    replace oY := oY.but B3 (fun h => by omega)
    have b3 := b2.trans B3
    have zz3 := B3.size
    clear d2 B3 b2
    have tc : w3.cell? ⟨w.heap.size, 3, none⟩ = some (.int .i64 li) := T0.cell 3
    have tf := T0.free 3
    have OS := Only.setCell w3 w.heap.size 3 (.int .i64 (604800 + (r : Int)))
    have T1 : RwC (w3.setCell ⟨w.heap.size, 3, none⟩ (.int .i64 (604800 + (r : Int)))) w.heap.size [.slice ax X.length cx, .slice ay Y.length cy, .int .i64 md, .int .i64 (604800 + (r : Int)), .string ⟨⟨ho⟩⟩, .string ⟨⟨pr⟩⟩, .int .i64 ea] 24 := T0.set 3 _
    have Q1 := Q0.onl OS (by omega)
    have pX := Own.of_blockD oX (fun h => OS.block _ (by omega))
    have pY := Own.of_blockD oY (fun h => OS.block _ (by omega))
    have d10 : Dra (w3.setCell ⟨w.heap.size, 3, none⟩ (.int .i64 (604800 + (r : Int)))) s g a c xs _ := ⟨d3.S.of_block (OS.block s (by omega)), Rd.of_blockD d3.R (fun h => OS.block g (by have := lg h; omega)), d3.ne, d3.hb, d3.hl, d3.t0⟩
    have b10 : But s w (w3.setCell ⟨w.heap.size, 3, none⟩ (.int .i64 (604800 + (r : Int)))) := b3.setCell (by omega)
    have z10 := OS.size
    clear oX oY Q0 T0 d3 b3
    go_upto_region 20 with fail
    generalize w3.setCell ⟨w.heap.size, 3, none⟩ (.int .i64 (604800 + (r : Int))) = wz at *
    clear tc tf OS
    have t0 : wz.cell? ⟨w.heap.size, 0, none⟩ = some (.slice ax X.length cx) := T1.cell 0
    have qc0 : wz.cell? ⟨w.heap.size + 1, 0, none⟩ = some (.slice none 0 0) := Q1.cell 0
    have qf0 := Q1.free 0
    have t1 : wz.cell? ⟨w.heap.size, 1, none⟩ = some (.slice ay Y.length cy) := T1.cell 1
    have qc1 : wz.cell? ⟨w.heap.size + 1, 1, none⟩ = some (.slice none 0 0) := Q1.cell 1
    have qf1 := Q1.free 1
    have t2 : wz.cell? ⟨w.heap.size, 2, none⟩ = some (.int .i64 md) := T1.cell 2
    have qc2 : wz.cell? ⟨w.heap.size + 1, 2, none⟩ = some (.int .i64 0) := Q1.cell 2
    have qf2 := Q1.free 2
    have t3 : wz.cell? ⟨w.heap.size, 3, none⟩ = some (.int .i64 (604800 + (r : Int))) := T1.cell 3
    have qc3 : wz.cell? ⟨w.heap.size + 1, 3, none⟩ = some (.int .i64 0) := Q1.cell 3
    have qf3 := Q1.free 3
    have t4 : wz.cell? ⟨w.heap.size, 4, none⟩ = some (.string ⟨⟨ho⟩⟩) := T1.cell 4
    have qc4 : wz.cell? ⟨w.heap.size + 1, 4, none⟩ = some (.string ⟨#[]⟩) := Q1.cell 4
    have qf4 := Q1.free 4
    have t5 : wz.cell? ⟨w.heap.size, 5, none⟩ = some (.string ⟨⟨pr⟩⟩) := T1.cell 5
    have qc5 : wz.cell? ⟨w.heap.size + 1, 5, none⟩ = some (.string ⟨#[]⟩) := Q1.cell 5
    have qf5 := Q1.free 5
    have t6 : wz.cell? ⟨w.heap.size, 6, none⟩ = some (.int .i64 ea) := T1.cell 6
    have qc6 : wz.cell? ⟨w.heap.size + 1, 6, none⟩ = some (.int .i64 0) := Q1.cell 6
    have qf6 := Q1.free 6
    have RF : RwC (((((((wz.setCell ⟨w.heap.size + 1, 0, none⟩ (.slice ax X.length cx)).setCell ⟨w.heap.size + 1, 1, none⟩ (.slice ay Y.length cy)).setCell ⟨w.heap.size + 1, 2, none⟩ (.int .i64 md)).setCell ⟨w.heap.size + 1, 3, none⟩ (.int .i64 (604800 + (r : Int)))).setCell ⟨w.heap.size + 1, 4, none⟩ (.string ⟨⟨ho⟩⟩)).setCell ⟨w.heap.size + 1, 5, none⟩ (.string ⟨⟨pr⟩⟩)).setCell ⟨w.heap.size + 1, 6, none⟩ (.int .i64 ea)) (w.heap.size + 1) [.slice ax X.length cx, .slice ay Y.length cy, .int .i64 md, .int .i64 (604800 + (r : Int)), .string ⟨⟨ho⟩⟩, .string ⟨⟨pr⟩⟩, .int .i64 ea] 24 := (((((((Q1.set 0 (.slice ax X.length cx)).set 1 (.slice ay Y.length cy)).set 2 (.int .i64 md)).set 3 (.int .i64 (604800 + (r : Int)))).set 4 (.string ⟨⟨ho⟩⟩)).set 5 (.string ⟨⟨pr⟩⟩)).set 6 (.int .i64 ea))
    have OF : Only (w.heap.size + 1) wz (((((((wz.setCell ⟨w.heap.size + 1, 0, none⟩ (.slice ax X.length cx)).setCell ⟨w.heap.size + 1, 1, none⟩ (.slice ay Y.length cy)).setCell ⟨w.heap.size + 1, 2, none⟩ (.int .i64 md)).setCell ⟨w.heap.size + 1, 3, none⟩ (.int .i64 (604800 + (r : Int)))).setCell ⟨w.heap.size + 1, 4, none⟩ (.string ⟨⟨ho⟩⟩)).setCell ⟨w.heap.size + 1, 5, none⟩ (.string ⟨⟨pr⟩⟩)).setCell ⟨w.heap.size + 1, 6, none⟩ (.int .i64 ea)) := (((((((Only.refl (w.heap.size + 1) wz).trans (Only.setCell _ (w.heap.size + 1) 0 _)).trans (Only.setCell _ (w.heap.size + 1) 1 _)).trans (Only.setCell _ (w.heap.size + 1) 2 _)).trans (Only.setCell _ (w.heap.size + 1) 3 _)).trans (Only.setCell _ (w.heap.size + 1) 4 _)).trans (Only.setCell _ (w.heap.size + 1) 5 _)).trans (Only.setCell _ (w.heap.size + 1) 6 _)
    have RR := RF.rangeG
    have rX := hide (Own.of_blockD pX (fun h => OF.block _ (by omega)))
    have rY := hide (Own.of_blockD pY (fun h => OF.block _ (by omega)))
    have dF := hide (show Dra (((((((wz.setCell ⟨w.heap.size + 1, 0, none⟩ (.slice ax X.length cx)).setCell ⟨w.heap.size + 1, 1, none⟩ (.slice ay Y.length cy)).setCell ⟨w.heap.size + 1, 2, none⟩ (.int .i64 md)).setCell ⟨w.heap.size + 1, 3, none⟩ (.int .i64 (604800 + (r : Int)))).setCell ⟨w.heap.size + 1, 4, none⟩ (.string ⟨⟨ho⟩⟩)).setCell ⟨w.heap.size + 1, 5, none⟩ (.string ⟨⟨pr⟩⟩)).setCell ⟨w.heap.size + 1, 6, none⟩ (.int .i64 ea)) s g a c xs _ from ⟨d10.S.of_block (OF.block s (by omega)), Rd.of_blockD d10.R (fun h => OF.block g (by have := lg h; omega)), d10.ne, d10.hb, d10.hl, d10.t0⟩)
    have bF := hide (show But s w (((((((wz.setCell ⟨w.heap.size + 1, 0, none⟩ (.slice ax X.length cx)).setCell ⟨w.heap.size + 1, 1, none⟩ (.slice ay Y.length cy)).setCell ⟨w.heap.size + 1, 2, none⟩ (.int .i64 md)).setCell ⟨w.heap.size + 1, 3, none⟩ (.int .i64 (604800 + (r : Int)))).setCell ⟨w.heap.size + 1, 4, none⟩ (.string ⟨⟨ho⟩⟩)).setCell ⟨w.heap.size + 1, 5, none⟩ (.string ⟨⟨pr⟩⟩)).setCell ⟨w.heap.size + 1, 6, none⟩ (.int .i64 ea)) from ⟨OF.os.trans b10.os, OF.tape.trans b10.tape, OF.output.trans b10.output, Nat.le_trans b10.size (Nat.le_of_eq OF.size.symm), fun k hk hne => (OF.block k (by omega)).trans (b10.block k hk hne)⟩)
    clear RF OF T1 Q1 pX pY d10 b10
    go_wp2
    exact bodyPost_ret (v := .agg #[.slice ax X.length cx, .slice ay Y.length cy, .int .i64 md, .int .i64 (604800 + (r : Int)), .string ⟨⟨ho⟩⟩, .string ⟨⟨pr⟩⟩, .int .i64 ea]) (results_cellG Tryz.results43 _ _ (w.heap.size + 1) _ dR rfl RR hdR hrowR iTs) rfl ⟨_, _, rfl, ⟨ax, cx, gx, X, ay, cy, gy, Y, md, _, ho, pr, ea, rfl, ⟨rX.out, zX, kX, lX, bX, by omega⟩, ⟨rY.out, zY, kY, lY, bY, by omega⟩, lh, lp⟩, by omega, dF.out, bF.out⟩
  · rw [show ((5 : Nat) : Int) = 5 from rfl]
    go_wp2_with fail
    refine (next_D d2 (by omega) (by decide) (by decide)).mono ?_
    rintro e w3 ⟨r, rfl, hr, d3, B3⟩
    replace Q0 := Q0.but B3 (by omega)
    replace T0 := T0.but B3 (by omega)
    replace oX := oX.but B3 (fun h => by omega)
    replace oY := oY.but B3 (fun h => by omega)
    have b3 := b2.trans B3
    have zz3 := B3.size
    clear d2 B3 b2
    have tc : w3.cell? ⟨w.heap.size, 3, none⟩ = some (.int .i64 li) := T0.cell 3
    have tf := T0.free 3
    have OS := Only.setCell w3 w.heap.size 3 (.int .i64 (r : Int))
    have T1 : RwC (w3.setCell ⟨w.heap.size, 3, none⟩ (.int .i64 (r : Int))) w.heap.size [.slice ax X.length cx, .slice ay Y.length cy, .int .i64 md, .int .i64 (r : Int), .string ⟨⟨ho⟩⟩, .string ⟨⟨pr⟩⟩, .int .i64 ea] 24 := T0.set 3 _
    have Q1 := Q0.onl OS (by omega)
    have pX := Own.of_blockD oX (fun h => OS.block _ (by omega))
    have pY := Own.of_blockD oY (fun h => OS.block _ (by omega))
    have d10 : Dra (w3.setCell ⟨w.heap.size, 3, none⟩ (.int .i64 (r : Int))) s g a c xs _ := ⟨d3.S.of_block (OS.block s (by omega)), Rd.of_blockD d3.R (fun h => OS.block g (by have := lg h; omega)), d3.ne, d3.hb, d3.hl, d3.t0⟩
    have b10 : But s w (w3.setCell ⟨w.heap.size, 3, none⟩ (.int .i64 (r : Int))) := b3.setCell (by omega)
    have z10 := OS.size
    clear oX oY Q0 T0 d3 b3
    go_upto_region 20 with fail
    generalize w3.setCell ⟨w.heap.size, 3, none⟩ (.int .i64 (r : Int)) = wz at *
    clear tc tf OS
    have t0 : wz.cell? ⟨w.heap.size, 0, none⟩ = some (.slice ax X.length cx) := T1.cell 0
    have qc0 : wz.cell? ⟨w.heap.size + 1, 0, none⟩ = some (.slice none 0 0) := Q1.cell 0
    have qf0 := Q1.free 0
    have t1 : wz.cell? ⟨w.heap.size, 1, none⟩ = some (.slice ay Y.length cy) := T1.cell 1
    have qc1 : wz.cell? ⟨w.heap.size + 1, 1, none⟩ = some (.slice none 0 0) := Q1.cell 1
    have qf1 := Q1.free 1
    have t2 : wz.cell? ⟨w.heap.size, 2, none⟩ = some (.int .i64 md) := T1.cell 2
    have qc2 : wz.cell? ⟨w.heap.size + 1, 2, none⟩ = some (.int .i64 0) := Q1.cell 2
    have qf2 := Q1.free 2
    have t3 : wz.cell? ⟨w.heap.size, 3, none⟩ = some (.int .i64 (r : Int)) := T1.cell 3
    have qc3 : wz.cell? ⟨w.heap.size + 1, 3, none⟩ = some (.int .i64 0) := Q1.cell 3
    have qf3 := Q1.free 3
    have t4 : wz.cell? ⟨w.heap.size, 4, none⟩ = some (.string ⟨⟨ho⟩⟩) := T1.cell 4
    have qc4 : wz.cell? ⟨w.heap.size + 1, 4, none⟩ = some (.string ⟨#[]⟩) := Q1.cell 4
    have qf4 := Q1.free 4
    have t5 : wz.cell? ⟨w.heap.size, 5, none⟩ = some (.string ⟨⟨pr⟩⟩) := T1.cell 5
    have qc5 : wz.cell? ⟨w.heap.size + 1, 5, none⟩ = some (.string ⟨#[]⟩) := Q1.cell 5
    have qf5 := Q1.free 5
    have t6 : wz.cell? ⟨w.heap.size, 6, none⟩ = some (.int .i64 ea) := T1.cell 6
    have qc6 : wz.cell? ⟨w.heap.size + 1, 6, none⟩ = some (.int .i64 0) := Q1.cell 6
    have qf6 := Q1.free 6
    have RF : RwC (((((((wz.setCell ⟨w.heap.size + 1, 0, none⟩ (.slice ax X.length cx)).setCell ⟨w.heap.size + 1, 1, none⟩ (.slice ay Y.length cy)).setCell ⟨w.heap.size + 1, 2, none⟩ (.int .i64 md)).setCell ⟨w.heap.size + 1, 3, none⟩ (.int .i64 (r : Int))).setCell ⟨w.heap.size + 1, 4, none⟩ (.string ⟨⟨ho⟩⟩)).setCell ⟨w.heap.size + 1, 5, none⟩ (.string ⟨⟨pr⟩⟩)).setCell ⟨w.heap.size + 1, 6, none⟩ (.int .i64 ea)) (w.heap.size + 1) [.slice ax X.length cx, .slice ay Y.length cy, .int .i64 md, .int .i64 (r : Int), .string ⟨⟨ho⟩⟩, .string ⟨⟨pr⟩⟩, .int .i64 ea] 24 := (((((((Q1.set 0 (.slice ax X.length cx)).set 1 (.slice ay Y.length cy)).set 2 (.int .i64 md)).set 3 (.int .i64 (r : Int))).set 4 (.string ⟨⟨ho⟩⟩)).set 5 (.string ⟨⟨pr⟩⟩)).set 6 (.int .i64 ea))
    have OF : Only (w.heap.size + 1) wz (((((((wz.setCell ⟨w.heap.size + 1, 0, none⟩ (.slice ax X.length cx)).setCell ⟨w.heap.size + 1, 1, none⟩ (.slice ay Y.length cy)).setCell ⟨w.heap.size + 1, 2, none⟩ (.int .i64 md)).setCell ⟨w.heap.size + 1, 3, none⟩ (.int .i64 (r : Int))).setCell ⟨w.heap.size + 1, 4, none⟩ (.string ⟨⟨ho⟩⟩)).setCell ⟨w.heap.size + 1, 5, none⟩ (.string ⟨⟨pr⟩⟩)).setCell ⟨w.heap.size + 1, 6, none⟩ (.int .i64 ea)) := (((((((Only.refl (w.heap.size + 1) wz).trans (Only.setCell _ (w.heap.size + 1) 0 _)).trans (Only.setCell _ (w.heap.size + 1) 1 _)).trans (Only.setCell _ (w.heap.size + 1) 2 _)).trans (Only.setCell _ (w.heap.size + 1) 3 _)).trans (Only.setCell _ (w.heap.size + 1) 4 _)).trans (Only.setCell _ (w.heap.size + 1) 5 _)).trans (Only.setCell _ (w.heap.size + 1) 6 _)
    have RR := RF.rangeG
    have rX := hide (Own.of_blockD pX (fun h => OF.block _ (by omega)))
    have rY := hide (Own.of_blockD pY (fun h => OF.block _ (by omega)))
    have dF := hide (show Dra (((((((wz.setCell ⟨w.heap.size + 1, 0, none⟩ (.slice ax X.length cx)).setCell ⟨w.heap.size + 1, 1, none⟩ (.slice ay Y.length cy)).setCell ⟨w.heap.size + 1, 2, none⟩ (.int .i64 md)).setCell ⟨w.heap.size + 1, 3, none⟩ (.int .i64 (r : Int))).setCell ⟨w.heap.size + 1, 4, none⟩ (.string ⟨⟨ho⟩⟩)).setCell ⟨w.heap.size + 1, 5, none⟩ (.string ⟨⟨pr⟩⟩)).setCell ⟨w.heap.size + 1, 6, none⟩ (.int .i64 ea)) s g a c xs _ from ⟨d10.S.of_block (OF.block s (by omega)), Rd.of_blockD d10.R (fun h => OF.block g (by have := lg h; omega)), d10.ne, d10.hb, d10.hl, d10.t0⟩)
    have bF := hide (show But s w (((((((wz.setCell ⟨w.heap.size + 1, 0, none⟩ (.slice ax X.length cx)).setCell ⟨w.heap.size + 1, 1, none⟩ (.slice ay Y.length cy)).setCell ⟨w.heap.size + 1, 2, none⟩ (.int .i64 md)).setCell ⟨w.heap.size + 1, 3, none⟩ (.int .i64 (r : Int))).setCell ⟨w.heap.size + 1, 4, none⟩ (.string ⟨⟨ho⟩⟩)).setCell ⟨w.heap.size + 1, 5, none⟩ (.string ⟨⟨pr⟩⟩)).setCell ⟨w.heap.size + 1, 6, none⟩ (.int .i64 ea)) from ⟨OF.os.trans b10.os, OF.tape.trans b10.tape, OF.output.trans b10.output, Nat.le_trans b10.size (Nat.le_of_eq OF.size.symm), fun k hk hne => (OF.block k (by omega)).trans (b10.block k hk hne)⟩)
    clear RF OF T1 Q1 pX pY d10 b10
    go_wp2
    exact bodyPost_ret (v := .agg #[.slice ax X.length cx, .slice ay Y.length cy, .int .i64 md, .int .i64 (r : Int), .string ⟨⟨ho⟩⟩, .string ⟨⟨pr⟩⟩, .int .i64 ea]) (results_cellG Tryz.results43 _ _ (w.heap.size + 1) _ dR rfl RR hdR hrowR iTs) rfl ⟨_, _, rfl, ⟨ax, cx, gx, X, ay, cy, gy, Y, md, _, ho, pr, ea, rfl, ⟨rX.out, zX, kX, lX, bX, by omega⟩, ⟨rY.out, zY, kY, lY, bY, by omega⟩, lh, lp⟩, by omega, dF.out, bF.out⟩
  · rw [show ((6 : Nat) : Int) = 6 from rfl]
    go_wp2_with fail
    refine (drawAny_D d2 (by omega)).mono ?_
    rintro e w3 ⟨hn, u, rfl, lhn, hu, d3, B3⟩
    replace Q0 := Q0.but B3 (by omega)
    replace T0 := T0.but B3 (by omega)
    replace oX := oX.but B3 (fun h => by omega)
    replace oY := oY.but B3 (fun h => by omega)
    have b3 := b2.trans B3
    have zz3 := B3.size
    clear d2 B3 b2
    have tc : w3.cell? ⟨w.heap.size, 4, none⟩ = some (.string ⟨⟨ho⟩⟩) := T0.cell 4
    have tf := T0.free 4
    have OS := Only.setCell w3 w.heap.size 4 (.string ⟨⟨hn⟩⟩)
    have T1 : RwC (w3.setCell ⟨w.heap.size, 4, none⟩ (.string ⟨⟨hn⟩⟩)) w.heap.size [.slice ax X.length cx, .slice ay Y.length cy, .int .i64 md, .int .i64 li, .string ⟨⟨hn⟩⟩, .string ⟨⟨pr⟩⟩, .int .i64 ea] 24 := T0.set 4 _
    have Q1 := Q0.onl OS (by omega)
    have pX := Own.of_blockD oX (fun h => OS.block _ (by omega))
    have pY := Own.of_blockD oY (fun h => OS.block _ (by omega))
    have d10 : Dra (w3.setCell ⟨w.heap.size, 4, none⟩ (.string ⟨⟨hn⟩⟩)) s g a c xs _ := ⟨d3.S.of_block (OS.block s (by omega)), Rd.of_blockD d3.R (fun h => OS.block g (by have := lg h; omega)), d3.ne, d3.hb, d3.hl, d3.t0⟩
    have b10 : But s w (w3.setCell ⟨w.heap.size, 4, none⟩ (.string ⟨⟨hn⟩⟩)) := b3.setCell (by omega)
    have z10 := OS.size
    clear oX oY Q0 T0 d3 b3
    go_upto_region 20 with fail
    generalize w3.setCell ⟨w.heap.size, 4, none⟩ (.string ⟨⟨hn⟩⟩) = wz at *
    clear tc tf OS
    have t0 : wz.cell? ⟨w.heap.size, 0, none⟩ = some (.slice ax X.length cx) := T1.cell 0
    have qc0 : wz.cell? ⟨w.heap.size + 1, 0, none⟩ = some (.slice none 0 0) := Q1.cell 0
    have qf0 := Q1.free 0
    have t1 : wz.cell? ⟨w.heap.size, 1, none⟩ = some (.slice ay Y.length cy) := T1.cell 1
    have qc1 : wz.cell? ⟨w.heap.size + 1, 1, none⟩ = some (.slice none 0 0) := Q1.cell 1
    have qf1 := Q1.free 1
    have t2 : wz.cell? ⟨w.heap.size, 2, none⟩ = some (.int .i64 md) := T1.cell 2
    have qc2 : wz.cell? ⟨w.heap.size + 1, 2, none⟩ = some (.int .i64 0) := Q1.cell 2
    have qf2 := Q1.free 2
    have t3 : wz.cell? ⟨w.heap.size, 3, none⟩ = some (.int .i64 li) := T1.cell 3
    have qc3 : wz.cell? ⟨w.heap.size + 1, 3, none⟩ = some (.int .i64 0) := Q1.cell 3
    have qf3 := Q1.free 3
    have t4 : wz.cell? ⟨w.heap.size, 4, none⟩ = some (.string ⟨⟨hn⟩⟩) := T1.cell 4
    have qc4 : wz.cell? ⟨w.heap.size + 1, 4, none⟩ = some (.string ⟨#[]⟩) := Q1.cell 4
    have qf4 := Q1.free 4
    have t5 : wz.cell? ⟨w.heap.size, 5, none⟩ = some (.string ⟨⟨pr⟩⟩) := T1.cell 5
    have qc5 : wz.cell? ⟨w.heap.size + 1, 5, none⟩ = some (.string ⟨#[]⟩) := Q1.cell 5
    have qf5 := Q1.free 5
    have t6 : wz.cell? ⟨w.heap.size, 6, none⟩ = some (.int .i64 ea) := T1.cell 6
    have qc6 : wz.cell? ⟨w.heap.size + 1, 6, none⟩ = some (.int .i64 0) := Q1.cell 6
    have qf6 := Q1.free 6
    have RF : RwC (((((((wz.setCell ⟨w.heap.size + 1, 0, none⟩ (.slice ax X.length cx)).setCell ⟨w.heap.size + 1, 1, none⟩ (.slice ay Y.length cy)).setCell ⟨w.heap.size + 1, 2, none⟩ (.int .i64 md)).setCell ⟨w.heap.size + 1, 3, none⟩ (.int .i64 li)).setCell ⟨w.heap.size + 1, 4, none⟩ (.string ⟨⟨hn⟩⟩)).setCell ⟨w.heap.size + 1, 5, none⟩ (.string ⟨⟨pr⟩⟩)).setCell ⟨w.heap.size + 1, 6, none⟩ (.int .i64 ea)) (w.heap.size + 1) [.slice ax X.length cx, .slice ay Y.length cy, .int .i64 md, .int .i64 li, .string ⟨⟨hn⟩⟩, .string ⟨⟨pr⟩⟩, .int .i64 ea] 24 := (((((((Q1.set 0 (.slice ax X.length cx)).set 1 (.slice ay Y.length cy)).set 2 (.int .i64 md)).set 3 (.int .i64 li)).set 4 (.string ⟨⟨hn⟩⟩)).set 5 (.string ⟨⟨pr⟩⟩)).set 6 (.int .i64 ea))
    have OF : Only (w.heap.size + 1) wz (((((((wz.setCell ⟨w.heap.size + 1, 0, none⟩ (.slice ax X.length cx)).setCell ⟨w.heap.size + 1, 1, none⟩ (.slice ay Y.length cy)).setCell ⟨w.heap.size + 1, 2, none⟩ (.int .i64 md)).setCell ⟨w.heap.size + 1, 3, none⟩ (.int .i64 li)).setCell ⟨w.heap.size + 1, 4, none⟩ (.string ⟨⟨hn⟩⟩)).setCell ⟨w.heap.size + 1, 5, none⟩ (.string ⟨⟨pr⟩⟩)).setCell ⟨w.heap.size + 1, 6, none⟩ (.int .i64 ea)) := (((((((Only.refl (w.heap.size + 1) wz).trans (Only.setCell _ (w.heap.size + 1) 0 _)).trans (Only.setCell _ (w.heap.size + 1) 1 _)).trans (Only.setCell _ (w.heap.size + 1) 2 _)).trans (Only.setCell _ (w.heap.size + 1) 3 _)).trans (Only.setCell _ (w.heap.size + 1) 4 _)).trans (Only.setCell _ (w.heap.size + 1) 5 _)).trans (Only.setCell _ (w.heap.size + 1) 6 _)
    have RR := RF.rangeG
    have rX := hide (Own.of_blockD pX (fun h => OF.block _ (by omega)))
    have rY := hide (Own.of_blockD pY (fun h => OF.block _ (by omega)))
    have dF := hide (show Dra (((((((wz.setCell ⟨w.heap.size + 1, 0, none⟩ (.slice ax X.length cx)).setCell ⟨w.heap.size + 1, 1, none⟩ (.slice ay Y.length cy)).setCell ⟨w.heap.size + 1, 2, none⟩ (.int .i64 md)).setCell ⟨w.heap.size + 1, 3, none⟩ (.int .i64 li)).setCell ⟨w.heap.size + 1, 4, none⟩ (.string ⟨⟨hn⟩⟩)).setCell ⟨w.heap.size + 1, 5, none⟩ (.string ⟨⟨pr⟩⟩)).setCell ⟨w.heap.size + 1, 6, none⟩ (.int .i64 ea)) s g a c xs _ from ⟨d10.S.of_block (OF.block s (by omega)), Rd.of_blockD d10.R (fun h => OF.block g (by have := lg h; omega)), d10.ne, d10.hb, d10.hl, d10.t0⟩)
    have bF := hide (show But s w (((((((wz.setCell ⟨w.heap.size + 1, 0, none⟩ (.slice ax X.length cx)).setCell ⟨w.heap.size + 1, 1, none⟩ (.slice ay Y.length cy)).setCell ⟨w.heap.size + 1, 2, none⟩ (.int .i64 md)).setCell ⟨w.heap.size + 1, 3, none⟩ (.int .i64 li)).setCell ⟨w.heap.size + 1, 4, none⟩ (.string ⟨⟨hn⟩⟩)).setCell ⟨w.heap.size + 1, 5, none⟩ (.string ⟨⟨pr⟩⟩)).setCell ⟨w.heap.size + 1, 6, none⟩ (.int .i64 ea)) from ⟨OF.os.trans b10.os, OF.tape.trans b10.tape, OF.output.trans b10.output, Nat.le_trans b10.size (Nat.le_of_eq OF.size.symm), fun k hk hne => (OF.block k (by omega)).trans (b10.block k hk hne)⟩)
    clear RF OF T1 Q1 pX pY d10 b10
    go_wp2
    exact bodyPost_ret (v := .agg #[.slice ax X.length cx, .slice ay Y.length cy, .int .i64 md, .int .i64 li, .string ⟨⟨hn⟩⟩, .string ⟨⟨pr⟩⟩, .int .i64 ea]) (results_cellG Tryz.results43 _ _ (w.heap.size + 1) _ dR rfl RR hdR hrowR iTs) rfl ⟨_, _, rfl, ⟨ax, cx, gx, X, ay, cy, gy, Y, md, li, hn, pr, ea, rfl, ⟨rX.out, zX, kX, lX, bX, by omega⟩, ⟨rY.out, zY, kY, lY, bY, by omega⟩, lhn, lp⟩, by omega, dF.out, bF.out⟩
  · rw [show ((7 : Nat) : Int) = 7 from rfl]
    go_wp2_with fail
    refine (next_D d2 (by omega) (by decide) (by decide)).mono ?_
    rintro e w3 ⟨r, rfl, hr, d3, B3⟩
    replace Q0 := Q0.but B3 (by omega)
    replace T0 := T0.but B3 (by omega)
    replace oX := oX.but B3 (fun h => by omega)
    replace oY := oY.but B3 (fun h => by omega)
    have b3 := b2.trans B3
    have zz3 := B3.size
    clear d2 B3 b2
    obtain ⟨l, hl, ll⟩ : ∃ l : List UInt8, l = ([97, 32, 112, 114, 111, 116, 111, 99, 111, 108, 32, 119, 104, 111, 115, 101, 32, 110, 97, 109, 101, 32, 104, 97, 115, 32, 51, 51, 32, 98, 121, 116, 101] : List UInt8).take (32 + r) ∧ l.length ≤ 40 := ⟨_, rfl, by simp; omega⟩
    have sl : ∀ W : World, (Instr.slice 9 (.string ⟨#[97, 32, 112, 114, 111, 116, 111, 99, 111, 108, 32, 119, 104, 111, 115, 101, 32, 110, 97, 109, 101, 32, 104, 97, 115, 32, 51, 51, 32, 98, 121, 116, 101]⟩) none (some (.int .i64 (32 + (r : Int)))) none).run Tryz.prog W = .ok (.string ⟨⟨l⟩⟩) W := by
      intro W
      have hr : r = 0 ∨ r = 1 := by omega
      rcases hr with rfl | rfl
      · rw [hl]; rfl
      · rw [hl]; rfl
    clear hl
    have tc : w3.cell? ⟨w.heap.size, 5, none⟩ = some (.string ⟨⟨pr⟩⟩) := T0.cell 5
    have tf := T0.free 5
    have OS := Only.setCell w3 w.heap.size 5 (.string ⟨⟨l⟩⟩)
    have T1 : RwC (w3.setCell ⟨w.heap.size, 5, none⟩ (.string ⟨⟨l⟩⟩)) w.heap.size [.slice ax X.length cx, .slice ay Y.length cy, .int .i64 md, .int .i64 li, .string ⟨⟨ho⟩⟩, .string ⟨⟨l⟩⟩, .int .i64 ea] 24 := T0.set 5 _
    have Q1 := Q0.onl OS (by omega)
    have pX := Own.of_blockD oX (fun h => OS.block _ (by omega))
    have pY := Own.of_blockD oY (fun h => OS.block _ (by omega))
    have d10 : Dra (w3.setCell ⟨w.heap.size, 5, none⟩ (.string ⟨⟨l⟩⟩)) s g a c xs _ := ⟨d3.S.of_block (OS.block s (by omega)), Rd.of_blockD d3.R (fun h => OS.block g (by have := lg h; omega)), d3.ne, d3.hb, d3.hl, d3.t0⟩
    have b10 : But s w (w3.setCell ⟨w.heap.size, 5, none⟩ (.string ⟨⟨l⟩⟩)) := b3.setCell (by omega)
    have z10 := OS.size
    clear oX oY Q0 T0 d3 b3
    go_upto_region 20 with fail
    generalize w3.setCell ⟨w.heap.size, 5, none⟩ (.string ⟨⟨l⟩⟩) = wz at *
    clear tc tf OS
    have t0 : wz.cell? ⟨w.heap.size, 0, none⟩ = some (.slice ax X.length cx) := T1.cell 0
    have qc0 : wz.cell? ⟨w.heap.size + 1, 0, none⟩ = some (.slice none 0 0) := Q1.cell 0
    have qf0 := Q1.free 0
    have t1 : wz.cell? ⟨w.heap.size, 1, none⟩ = some (.slice ay Y.length cy) := T1.cell 1
    have qc1 : wz.cell? ⟨w.heap.size + 1, 1, none⟩ = some (.slice none 0 0) := Q1.cell 1
    have qf1 := Q1.free 1
    have t2 : wz.cell? ⟨w.heap.size, 2, none⟩ = some (.int .i64 md) := T1.cell 2
    have qc2 : wz.cell? ⟨w.heap.size + 1, 2, none⟩ = some (.int .i64 0) := Q1.cell 2
    have qf2 := Q1.free 2
    have t3 : wz.cell? ⟨w.heap.size, 3, none⟩ = some (.int .i64 li) := T1.cell 3
    have qc3 : wz.cell? ⟨w.heap.size + 1, 3, none⟩ = some (.int .i64 0) := Q1.cell 3
    have qf3 := Q1.free 3
    have t4 : wz.cell? ⟨w.heap.size, 4, none⟩ = some (.string ⟨⟨ho⟩⟩) := T1.cell 4
    have qc4 : wz.cell? ⟨w.heap.size + 1, 4, none⟩ = some (.string ⟨#[]⟩) := Q1.cell 4
    have qf4 := Q1.free 4
    have t5 : wz.cell? ⟨w.heap.size, 5, none⟩ = some (.string ⟨⟨l⟩⟩) := T1.cell 5
    have qc5 : wz.cell? ⟨w.heap.size + 1, 5, none⟩ = some (.string ⟨#[]⟩) := Q1.cell 5
    have qf5 := Q1.free 5
    have t6 : wz.cell? ⟨w.heap.size, 6, none⟩ = some (.int .i64 ea) := T1.cell 6
    have qc6 : wz.cell? ⟨w.heap.size + 1, 6, none⟩ = some (.int .i64 0) := Q1.cell 6
    have qf6 := Q1.free 6
    have RF : RwC (((((((wz.setCell ⟨w.heap.size + 1, 0, none⟩ (.slice ax X.length cx)).setCell ⟨w.heap.size + 1, 1, none⟩ (.slice ay Y.length cy)).setCell ⟨w.heap.size + 1, 2, none⟩ (.int .i64 md)).setCell ⟨w.heap.size + 1, 3, none⟩ (.int .i64 li)).setCell ⟨w.heap.size + 1, 4, none⟩ (.string ⟨⟨ho⟩⟩)).setCell ⟨w.heap.size + 1, 5, none⟩ (.string ⟨⟨l⟩⟩)).setCell ⟨w.heap.size + 1, 6, none⟩ (.int .i64 ea)) (w.heap.size + 1) [.slice ax X.length cx, .slice ay Y.length cy, .int .i64 md, .int .i64 li, .string ⟨⟨ho⟩⟩, .string ⟨⟨l⟩⟩, .int .i64 ea] 24 := (((((((Q1.set 0 (.slice ax X.length cx)).set 1 (.slice ay Y.length cy)).set 2 (.int .i64 md)).set 3 (.int .i64 li)).set 4 (.string ⟨⟨ho⟩⟩)).set 5 (.string ⟨⟨l⟩⟩)).set 6 (.int .i64 ea))
    have OF : Only (w.heap.size + 1) wz (((((((wz.setCell ⟨w.heap.size + 1, 0, none⟩ (.slice ax X.length cx)).setCell ⟨w.heap.size + 1, 1, none⟩ (.slice ay Y.length cy)).setCell ⟨w.heap.size + 1, 2, none⟩ (.int .i64 md)).setCell ⟨w.heap.size + 1, 3, none⟩ (.int .i64 li)).setCell ⟨w.heap.size + 1, 4, none⟩ (.string ⟨⟨ho⟩⟩)).setCell ⟨w.heap.size + 1, 5, none⟩ (.string ⟨⟨l⟩⟩)).setCell ⟨w.heap.size + 1, 6, none⟩ (.int .i64 ea)) := (((((((Only.refl (w.heap.size + 1) wz).trans (Only.setCell _ (w.heap.size + 1) 0 _)).trans (Only.setCell _ (w.heap.size + 1) 1 _)).trans (Only.setCell _ (w.heap.size + 1) 2 _)).trans (Only.setCell _ (w.heap.size + 1) 3 _)).trans (Only.setCell _ (w.heap.size + 1) 4 _)).trans (Only.setCell _ (w.heap.size + 1) 5 _)).trans (Only.setCell _ (w.heap.size + 1) 6 _)
    have RR := RF.rangeG
    have rX := hide (Own.of_blockD pX (fun h => OF.block _ (by omega)))
    have rY := hide (Own.of_blockD pY (fun h => OF.block _ (by omega)))
    have dF := hide (show Dra (((((((wz.setCell ⟨w.heap.size + 1, 0, none⟩ (.slice ax X.length cx)).setCell ⟨w.heap.size + 1, 1, none⟩ (.slice ay Y.length cy)).setCell ⟨w.heap.size + 1, 2, none⟩ (.int .i64 md)).setCell ⟨w.heap.size + 1, 3, none⟩ (.int .i64 li)).setCell ⟨w.heap.size + 1, 4, none⟩ (.string ⟨⟨ho⟩⟩)).setCell ⟨w.heap.size + 1, 5, none⟩ (.string ⟨⟨l⟩⟩)).setCell ⟨w.heap.size + 1, 6, none⟩ (.int .i64 ea)) s g a c xs _ from ⟨d10.S.of_block (OF.block s (by omega)), Rd.of_blockD d10.R (fun h => OF.block g (by have := lg h; omega)), d10.ne, d10.hb, d10.hl, d10.t0⟩)
    have bF := hide (show But s w (((((((wz.setCell ⟨w.heap.size + 1, 0, none⟩ (.slice ax X.length cx)).setCell ⟨w.heap.size + 1, 1, none⟩ (.slice ay Y.length cy)).setCell ⟨w.heap.size + 1, 2, none⟩ (.int .i64 md)).setCell ⟨w.heap.size + 1, 3, none⟩ (.int .i64 li)).setCell ⟨w.heap.size + 1, 4, none⟩ (.string ⟨⟨ho⟩⟩)).setCell ⟨w.heap.size + 1, 5, none⟩ (.string ⟨⟨l⟩⟩)).setCell ⟨w.heap.size + 1, 6, none⟩ (.int .i64 ea)) from ⟨OF.os.trans b10.os, OF.tape.trans b10.tape, OF.output.trans b10.output, Nat.le_trans b10.size (Nat.le_of_eq OF.size.symm), fun k hk hne => (OF.block k (by omega)).trans (b10.block k hk hne)⟩)
    clear RF OF T1 Q1 pX pY d10 b10
    go_wp2
    exact bodyPost_ret (v := .agg #[.slice ax X.length cx, .slice ay Y.length cy, .int .i64 md, .int .i64 li, .string ⟨⟨ho⟩⟩, .string ⟨⟨l⟩⟩, .int .i64 ea]) (results_cellG Tryz.results43 _ _ (w.heap.size + 1) _ dR rfl RR hdR hrowR iTs) rfl ⟨_, _, rfl, ⟨ax, cx, gx, X, ay, cy, gy, Y, md, li, ho, l, ea, rfl, ⟨rX.out, zX, kX, lX, bX, by omega⟩, ⟨rY.out, zY, kY, lY, bY, by omega⟩, lh, ll⟩, by omega, dF.out, bF.out⟩
  · rw [show ((8 : Nat) : Int) = 8 from rfl]
    go_wp2_with fail
    refine (next_D d2 (by omega) (by decide) (by decide)).mono ?_
    rintro e w3 ⟨r, rfl, hr, d3, B3⟩
    replace Q0 := Q0.but B3 (by omega)
    replace T0 := T0.but B3 (by omega)
    replace oX := oX.but B3 (fun h => by omega)
    replace oY := oY.but B3 (fun h => by omega)
    have b3 := b2.trans B3
    have zz3 := B3.size
    clear d2 B3 b2
    have tc : w3.cell? ⟨w.heap.size, 6, none⟩ = some (.int .i64 ea) := T0.cell 6
    have tf := T0.free 6
    have OS := Only.setCell w3 w.heap.size 6 (.int .i64 (4294967295 + (r : Int)))
    have T1 : RwC (w3.setCell ⟨w.heap.size, 6, none⟩ (.int .i64 (4294967295 + (r : Int)))) w.heap.size [.slice ax X.length cx, .slice ay Y.length cy, .int .i64 md, .int .i64 li, .string ⟨⟨ho⟩⟩, .string ⟨⟨pr⟩⟩, .int .i64 (4294967295 + (r : Int))] 24 := T0.set 6 _
    have Q1 := Q0.onl OS (by omega)
    have pX := Own.of_blockD oX (fun h => OS.block _ (by omega))
    have pY := Own.of_blockD oY (fun h => OS.block _ (by omega))
    have d10 : Dra (w3.setCell ⟨w.heap.size, 6, none⟩ (.int .i64 (4294967295 + (r : Int)))) s g a c xs _ := ⟨d3.S.of_block (OS.block s (by omega)), Rd.of_blockD d3.R (fun h => OS.block g (by have := lg h; omega)), d3.ne, d3.hb, d3.hl, d3.t0⟩
    have b10 : But s w (w3.setCell ⟨w.heap.size, 6, none⟩ (.int .i64 (4294967295 + (r : Int)))) := b3.setCell (by omega)
    have z10 := OS.size
    clear oX oY Q0 T0 d3 b3
    go_upto_region 20 with fail
    generalize w3.setCell ⟨w.heap.size, 6, none⟩ (.int .i64 (4294967295 + (r : Int))) = wz at *
    clear tc tf OS
    have t0 : wz.cell? ⟨w.heap.size, 0, none⟩ = some (.slice ax X.length cx) := T1.cell 0
    have qc0 : wz.cell? ⟨w.heap.size + 1, 0, none⟩ = some (.slice none 0 0) := Q1.cell 0
    have qf0 := Q1.free 0
    have t1 : wz.cell? ⟨w.heap.size, 1, none⟩ = some (.slice ay Y.length cy) := T1.cell 1
    have qc1 : wz.cell? ⟨w.heap.size + 1, 1, none⟩ = some (.slice none 0 0) := Q1.cell 1
    have qf1 := Q1.free 1
    have t2 : wz.cell? ⟨w.heap.size, 2, none⟩ = some (.int .i64 md) := T1.cell 2
    have qc2 : wz.cell? ⟨w.heap.size + 1, 2, none⟩ = some (.int .i64 0) := Q1.cell 2
    have qf2 := Q1.free 2
    have t3 : wz.cell? ⟨w.heap.size, 3, none⟩ = some (.int .i64 li) := T1.cell 3
    have qc3 : wz.cell? ⟨w.heap.size + 1, 3, none⟩ = some (.int .i64 0) := Q1.cell 3
    have qf3 := Q1.free 3
    have t4 : wz.cell? ⟨w.heap.size, 4, none⟩ = some (.string ⟨⟨ho⟩⟩) := T1.cell 4
    have qc4 : wz.cell? ⟨w.heap.size + 1, 4, none⟩ = some (.string ⟨#[]⟩) := Q1.cell 4
    have qf4 := Q1.free 4
    have t5 : wz.cell? ⟨w.heap.size, 5, none⟩ = some (.string ⟨⟨pr⟩⟩) := T1.cell 5
    have qc5 : wz.cell? ⟨w.heap.size + 1, 5, none⟩ = some (.string ⟨#[]⟩) := Q1.cell 5
    have qf5 := Q1.free 5
    have t6 : wz.cell? ⟨w.heap.size, 6, none⟩ = some (.int .i64 (4294967295 + (r : Int))) := T1.cell 6
    have qc6 : wz.cell? ⟨w.heap.size + 1, 6, none⟩ = some (.int .i64 0) := Q1.cell 6
    have qf6 := Q1.free 6
    have RF : RwC (((((((wz.setCell ⟨w.heap.size + 1, 0, none⟩ (.slice ax X.length cx)).setCell ⟨w.heap.size + 1, 1, none⟩ (.slice ay Y.length cy)).setCell ⟨w.heap.size + 1, 2, none⟩ (.int .i64 md)).setCell ⟨w.heap.size + 1, 3, none⟩ (.int .i64 li)).setCell ⟨w.heap.size + 1, 4, none⟩ (.string ⟨⟨ho⟩⟩)).setCell ⟨w.heap.size + 1, 5, none⟩ (.string ⟨⟨pr⟩⟩)).setCell ⟨w.heap.size + 1, 6, none⟩ (.int .i64 (4294967295 + (r : Int)))) (w.heap.size + 1) [.slice ax X.length cx, .slice ay Y.length cy, .int .i64 md, .int .i64 li, .string ⟨⟨ho⟩⟩, .string ⟨⟨pr⟩⟩, .int .i64 (4294967295 + (r : Int))] 24 := (((((((Q1.set 0 (.slice ax X.length cx)).set 1 (.slice ay Y.length cy)).set 2 (.int .i64 md)).set 3 (.int .i64 li)).set 4 (.string ⟨⟨ho⟩⟩)).set 5 (.string ⟨⟨pr⟩⟩)).set 6 (.int .i64 (4294967295 + (r : Int))))
    have OF : Only (w.heap.size + 1) wz (((((((wz.setCell ⟨w.heap.size + 1, 0, none⟩ (.slice ax X.length cx)).setCell ⟨w.heap.size + 1, 1, none⟩ (.slice ay Y.length cy)).setCell ⟨w.heap.size + 1, 2, none⟩ (.int .i64 md)).setCell ⟨w.heap.size + 1, 3, none⟩ (.int .i64 li)).setCell ⟨w.heap.size + 1, 4, none⟩ (.string ⟨⟨ho⟩⟩)).setCell ⟨w.heap.size + 1, 5, none⟩ (.string ⟨⟨pr⟩⟩)).setCell ⟨w.heap.size + 1, 6, none⟩ (.int .i64 (4294967295 + (r : Int)))) := (((((((Only.refl (w.heap.size + 1) wz).trans (Only.setCell _ (w.heap.size + 1) 0 _)).trans (Only.setCell _ (w.heap.size + 1) 1 _)).trans (Only.setCell _ (w.heap.size + 1) 2 _)).trans (Only.setCell _ (w.heap.size + 1) 3 _)).trans (Only.setCell _ (w.heap.size + 1) 4 _)).trans (Only.setCell _ (w.heap.size + 1) 5 _)).trans (Only.setCell _ (w.heap.size + 1) 6 _)
    have RR := RF.rangeG
    have rX := hide (Own.of_blockD pX (fun h => OF.block _ (by omega)))
    have rY := hide (Own.of_blockD pY (fun h => OF.block _ (by omega)))
    have dF := hide (show Dra (((((((wz.setCell ⟨w.heap.size + 1, 0, none⟩ (.slice ax X.length cx)).setCell ⟨w.heap.size + 1, 1, none⟩ (.slice ay Y.length cy)).setCell ⟨w.heap.size + 1, 2, none⟩ (.int .i64 md)).setCell ⟨w.heap.size + 1, 3, none⟩ (.int .i64 li)).setCell ⟨w.heap.size + 1, 4, none⟩ (.string ⟨⟨ho⟩⟩)).setCell ⟨w.heap.size + 1, 5, none⟩ (.string ⟨⟨pr⟩⟩)).setCell ⟨w.heap.size + 1, 6, none⟩ (.int .i64 (4294967295 + (r : Int)))) s g a c xs _ from ⟨d10.S.of_block (OF.block s (by omega)), Rd.of_blockD d10.R (fun h => OF.block g (by have := lg h; omega)), d10.ne, d10.hb, d10.hl, d10.t0⟩)
    have bF := hide (show But s w (((((((wz.setCell ⟨w.heap.size + 1, 0, none⟩ (.slice ax X.length cx)).setCell ⟨w.heap.size + 1, 1, none⟩ (.slice ay Y.length cy)).setCell ⟨w.heap.size + 1, 2, none⟩ (.int .i64 md)).setCell ⟨w.heap.size + 1, 3, none⟩ (.int .i64 li)).setCell ⟨w.heap.size + 1, 4, none⟩ (.string ⟨⟨ho⟩⟩)).setCell ⟨w.heap.size + 1, 5, none⟩ (.string ⟨⟨pr⟩⟩)).setCell ⟨w.heap.size + 1, 6, none⟩ (.int .i64 (4294967295 + (r : Int)))) from ⟨OF.os.trans b10.os, OF.tape.trans b10.tape, OF.output.trans b10.output, Nat.le_trans b10.size (Nat.le_of_eq OF.size.symm), fun k hk hne => (OF.block k (by omega)).trans (b10.block k hk hne)⟩)
    clear RF OF T1 Q1 pX pY d10 b10
    go_wp2
    exact bodyPost_ret (v := .agg #[.slice ax X.length cx, .slice ay Y.length cy, .int .i64 md, .int .i64 li, .string ⟨⟨ho⟩⟩, .string ⟨⟨pr⟩⟩, .int .i64 (4294967295 + (r : Int))]) (results_cellG Tryz.results43 _ _ (w.heap.size + 1) _ dR rfl RR hdR hrowR iTs) rfl ⟨_, _, rfl, ⟨ax, cx, gx, X, ay, cy, gy, Y, md, li, ho, pr, _, rfl, ⟨rX.out, zX, kX, lX, bX, by omega⟩, ⟨rY.out, zY, kY, lY, bY, by omega⟩, lh, lp⟩, by omega, dF.out, bF.out⟩
end Go.Proofs.YtccnhdicibjbaaaGreat
namespace Go.Proofs.YtccnhdicibjbaaaGreat
open Go Go.RowKit
set_option maxRecDepth 100000 in
set_option maxHeartbeats 16000000 in
theorem maybe_D {w : World} {s g : Nat} {a : Option Addr} {c : Nat} {xs : List Int} {t : Int} (d : Dra w s g a c xs t) (t1 : t ≤ 800000) :
    Calls Tryz.prog 19 #[.pointer (some ⟨s, 0, none⟩)] w fun e w' => ∃ (v' : Value) (u : Int), e = .returned v' ∧ StD w.heap.size w' v' ∧ u ≤ t + 80 ∧ Dra w' s g a c xs u ∧ But s w w' := by
  obtain ⟨dR, hdR, hrowR⟩ := rowTs
  have ls := d.S.lt
  have lg := d.R.lt
  have n1 : Below w.heap.size w (w.alloc (.cells #[.slice none 0 0, .slice none 0 0, .int .i64 0, .int .i64 0, .string ⟨#[]⟩, .string ⟨#[]⟩, .int .i64 0] 24)) := (Below.refl _ _).alloc (Nat.le_refl _) _
  have Q0 : RwC (w.alloc (.cells #[.slice none 0 0, .slice none 0 0, .int .i64 0, .int .i64 0, .string ⟨#[]⟩, .string ⟨#[]⟩, .int .i64 0] 24)) w.heap.size [.slice none 0 0, .slice none 0 0, .int .i64 0, .int .i64 0, .string ⟨#[]⟩, .string ⟨#[]⟩, .int .i64 0] 24 := RwC.new w _ _
  have z1 : (w.alloc (.cells #[.slice none 0 0, .slice none 0 0, .int .i64 0, .int .i64 0, .string ⟨#[]⟩, .string ⟨#[]⟩, .int .i64 0] 24)).heap.size = w.heap.size + 1 := by simp
  have d1 := d.up n1
  have b1 : But s w (w.alloc (.cells #[.slice none 0 0, .slice none 0 0, .int .i64 0, .int .i64 0, .string ⟨#[]⟩, .string ⟨#[]⟩, .int .i64 0] 24)) := But.ofBelow n1
  clear n1 d
  go_enter Tryz.func19, Tryz.ntmps19
  go_wp2_with fail
  generalize w.alloc (.cells #[.slice none 0 0, .slice none 0 0, .int .i64 0, .int .i64 0, .string ⟨#[]⟩, .string ⟨#[]⟩, .int .i64 0] 24) = w1 at *
  refine (drawState_D d1 (by omega)).mono ?_
  rintro e w2 ⟨v, u, rfl, ⟨ax, cx, gx, X, ay, cy, gy, Y, md, li, ho, pr, ea, rfl, ⟨oX, zX, kX, lX, bX, gX⟩, ⟨oY, zY, kY, lY, bY, gY⟩, lh, lp⟩, hu, d2, B2⟩
  replace Q0 := Q0.but B2 (by omega)
  have b2 := b1.trans B2
  have zz2 := B2.size
  have lgx := oX.rd.lt
  have lgy := oY.rd.lt
  clear d1 B2 b1
  have n3 : Below w2.heap.size w2 (w2.alloc (.cells #[.slice ax X.length cx, .slice ay Y.length cy, .int .i64 md, .int .i64 li, .string ⟨⟨ho⟩⟩, .string ⟨⟨pr⟩⟩, .int .i64 ea] 24)) := (Below.refl _ _).alloc (Nat.le_refl _) _
  have T0 : RwC (w2.alloc (.cells #[.slice ax X.length cx, .slice ay Y.length cy, .int .i64 md, .int .i64 li, .string ⟨⟨ho⟩⟩, .string ⟨⟨pr⟩⟩, .int .i64 ea] 24)) w2.heap.size [.slice ax X.length cx, .slice ay Y.length cy, .int .i64 md, .int .i64 li, .string ⟨⟨ho⟩⟩, .string ⟨⟨pr⟩⟩, .int .i64 ea] 24 := RwC.new w2 _ _
  have zA : (w2.alloc (.cells #[.slice ax X.length cx, .slice ay Y.length cy, .int .i64 md, .int .i64 li, .string ⟨⟨ho⟩⟩, .string ⟨⟨pr⟩⟩, .int .i64 ea] 24)).heap.size = w2.heap.size + 1 := by simp
  replace Q0 := Q0.up n3
  replace oX := oX.up n3
  replace oY := oY.up n3
  have d3 := d2.up n3
  have b3 := b2.trans (But.ofBelow (g := s) n3)
  clear d2 b2 n3
  go_wp2_with fail
  have lq : w.heap.size < w2.heap.size := by omega
  obtain ⟨q, hq⟩ : ∃ q, q = w2.heap.size := ⟨_, rfl⟩
  rw [← hq] at T0 lgx lgy lq zA
  rw [← hq]
  clear hq zz2
  generalize w2.alloc (.cells #[.slice ax X.length cx, .slice ay Y.length cy, .int .i64 md, .int .i64 li, .string ⟨⟨ho⟩⟩, .string ⟨⟨pr⟩⟩, .int .i64 ea] 24) = w3 at *
  refine (chance_D d3 (by omega) (by decide) (by decide)).mono ?_
  rintro e w4 ⟨b, rfl, d4, B4⟩
  replace Q0 := Q0.but B4 (by omega)
  replace T0 := T0.but B4 (by omega)
  replace oX := oX.but B4 (fun h => by omega)
  replace oY := oY.but B4 (fun h => by omega)
  have b4 := b3.trans B4
  have zz4 := B4.size
  clear d3 B4 b3
  cases b with
  | false =>
    have t0 : w4.cell? ⟨q, 0, none⟩ = some (.slice ax X.length cx) := T0.cell 0
    have qc0 : w4.cell? ⟨w.heap.size, 0, none⟩ = some (.slice none 0 0) := Q0.cell 0
    have qf0 := Q0.free 0
    have t1' : w4.cell? ⟨q, 1, none⟩ = some (.slice ay Y.length cy) := T0.cell 1
    have qc1 : w4.cell? ⟨w.heap.size, 1, none⟩ = some (.slice none 0 0) := Q0.cell 1
    have qf1 := Q0.free 1
    have t2 : w4.cell? ⟨q, 2, none⟩ = some (.int .i64 md) := T0.cell 2
    have qc2 : w4.cell? ⟨w.heap.size, 2, none⟩ = some (.int .i64 0) := Q0.cell 2
    have qf2 := Q0.free 2
    have t3 : w4.cell? ⟨q, 3, none⟩ = some (.int .i64 li) := T0.cell 3
    have qc3 : w4.cell? ⟨w.heap.size, 3, none⟩ = some (.int .i64 0) := Q0.cell 3
    have qf3 := Q0.free 3
    have t4 : w4.cell? ⟨q, 4, none⟩ = some (.string ⟨⟨ho⟩⟩) := T0.cell 4
    have qc4 : w4.cell? ⟨w.heap.size, 4, none⟩ = some (.string ⟨#[]⟩) := Q0.cell 4
    have qf4 := Q0.free 4
    have t5 : w4.cell? ⟨q, 5, none⟩ = some (.string ⟨⟨pr⟩⟩) := T0.cell 5
    have qc5 : w4.cell? ⟨w.heap.size, 5, none⟩ = some (.string ⟨#[]⟩) := Q0.cell 5
    have qf5 := Q0.free 5
    have t6 : w4.cell? ⟨q, 6, none⟩ = some (.int .i64 ea) := T0.cell 6
    have qc6 : w4.cell? ⟨w.heap.size, 6, none⟩ = some (.int .i64 0) := Q0.cell 6
    have qf6 := Q0.free 6
    have RF : RwC (((((((w4.setCell ⟨w.heap.size, 0, none⟩ (.slice ax X.length cx)).setCell ⟨w.heap.size, 1, none⟩ (.slice ay Y.length cy)).setCell ⟨w.heap.size, 2, none⟩ (.int .i64 md)).setCell ⟨w.heap.size, 3, none⟩ (.int .i64 li)).setCell ⟨w.heap.size, 4, none⟩ (.string ⟨⟨ho⟩⟩)).setCell ⟨w.heap.size, 5, none⟩ (.string ⟨⟨pr⟩⟩)).setCell ⟨w.heap.size, 6, none⟩ (.int .i64 ea)) w.heap.size [.slice ax X.length cx, .slice ay Y.length cy, .int .i64 md, .int .i64 li, .string ⟨⟨ho⟩⟩, .string ⟨⟨pr⟩⟩, .int .i64 ea] 24 := (((((((Q0.set 0 (.slice ax X.length cx)).set 1 (.slice ay Y.length cy)).set 2 (.int .i64 md)).set 3 (.int .i64 li)).set 4 (.string ⟨⟨ho⟩⟩)).set 5 (.string ⟨⟨pr⟩⟩)).set 6 (.int .i64 ea))
    have OF : Only w.heap.size w4 (((((((w4.setCell ⟨w.heap.size, 0, none⟩ (.slice ax X.length cx)).setCell ⟨w.heap.size, 1, none⟩ (.slice ay Y.length cy)).setCell ⟨w.heap.size, 2, none⟩ (.int .i64 md)).setCell ⟨w.heap.size, 3, none⟩ (.int .i64 li)).setCell ⟨w.heap.size, 4, none⟩ (.string ⟨⟨ho⟩⟩)).setCell ⟨w.heap.size, 5, none⟩ (.string ⟨⟨pr⟩⟩)).setCell ⟨w.heap.size, 6, none⟩ (.int .i64 ea)) := (((((((Only.refl w.heap.size w4).trans (Only.setCell _ w.heap.size 0 _)).trans (Only.setCell _ w.heap.size 1 _)).trans (Only.setCell _ w.heap.size 2 _)).trans (Only.setCell _ w.heap.size 3 _)).trans (Only.setCell _ w.heap.size 4 _)).trans (Only.setCell _ w.heap.size 5 _)).trans (Only.setCell _ w.heap.size 6 _)
    have RR := RF.rangeG
    have rX := hide (Own.of_blockD oX (fun h => OF.block _ (by omega)))
    have rY := hide (Own.of_blockD oY (fun h => OF.block _ (by omega)))
    have dF := hide (show Dra (((((((w4.setCell ⟨w.heap.size, 0, none⟩ (.slice ax X.length cx)).setCell ⟨w.heap.size, 1, none⟩ (.slice ay Y.length cy)).setCell ⟨w.heap.size, 2, none⟩ (.int .i64 md)).setCell ⟨w.heap.size, 3, none⟩ (.int .i64 li)).setCell ⟨w.heap.size, 4, none⟩ (.string ⟨⟨ho⟩⟩)).setCell ⟨w.heap.size, 5, none⟩ (.string ⟨⟨pr⟩⟩)).setCell ⟨w.heap.size, 6, none⟩ (.int .i64 ea)) s g a c xs _ from ⟨d4.S.of_block (OF.block s (by omega)), Rd.of_blockD d4.R (fun h => OF.block g (by have := lg h; omega)), d4.ne, d4.hb, d4.hl, d4.t0⟩)
    have bF := hide (show But s w (((((((w4.setCell ⟨w.heap.size, 0, none⟩ (.slice ax X.length cx)).setCell ⟨w.heap.size, 1, none⟩ (.slice ay Y.length cy)).setCell ⟨w.heap.size, 2, none⟩ (.int .i64 md)).setCell ⟨w.heap.size, 3, none⟩ (.int .i64 li)).setCell ⟨w.heap.size, 4, none⟩ (.string ⟨⟨ho⟩⟩)).setCell ⟨w.heap.size, 5, none⟩ (.string ⟨⟨pr⟩⟩)).setCell ⟨w.heap.size, 6, none⟩ (.int .i64 ea)) from ⟨OF.os.trans b4.os, OF.tape.trans b4.tape, OF.output.trans b4.output, Nat.le_trans b4.size (Nat.le_of_eq OF.size.symm), fun k hk hne => (OF.block k (by omega)).trans (b4.block k hk hne)⟩)
    clear RF OF T0 Q0 oX oY d4 b4
    go_wp2
    exact bodyPost_ret (v := .agg #[.slice ax X.length cx, .slice ay Y.length cy, .int .i64 md, .int .i64 li, .string ⟨⟨ho⟩⟩, .string ⟨⟨pr⟩⟩, .int .i64 ea]) (results_cellG Tryz.results19 _ _ w.heap.size _ dR rfl RR hdR hrowR iTs) rfl ⟨_, _, rfl, ⟨ax, cx, gx, X, ay, cy, gy, Y, md, li, ho, pr, ea, rfl, ⟨rX.out, zX, kX, lX, bX, by omega⟩, ⟨rY.out, zY, kY, lY, bY, by omega⟩, lh, lp⟩, by omega, dF.out, bF.out⟩
  | true =>
    have t0 : w4.cell? ⟨q, 0, none⟩ = some (.slice ax X.length cx) := T0.cell 0
    have t1' : w4.cell? ⟨q, 1, none⟩ = some (.slice ay Y.length cy) := T0.cell 1
    have t2 : w4.cell? ⟨q, 2, none⟩ = some (.int .i64 md) := T0.cell 2
    have t3 : w4.cell? ⟨q, 3, none⟩ = some (.int .i64 li) := T0.cell 3
    have t4 : w4.cell? ⟨q, 4, none⟩ = some (.string ⟨⟨ho⟩⟩) := T0.cell 4
    have t5 : w4.cell? ⟨q, 5, none⟩ = some (.string ⟨⟨pr⟩⟩) := T0.cell 5
    have t6 : w4.cell? ⟨q, 6, none⟩ = some (.int .i64 ea) := T0.cell 6
    have HS : StE w1.heap.size q w4 (.agg #[.slice ax X.length cx, .slice ay Y.length cy, .int .i64 md, .int .i64 li, .string ⟨⟨ho⟩⟩, .string ⟨⟨pr⟩⟩, .int .i64 ea]) := ⟨ax, cx, gx, X, ay, cy, gy, Y, md, li, ho, pr, ea, rfl, ⟨oX, zX, kX, lX, bX, by omega⟩, ⟨oY, zY, kY, lY, bY, by omega⟩, lh, lp⟩
    clear oX oY zX zY kX kY lX lY bX bY gX gY lgx lgy lh lp
    go_wp2_with fail
    clear t0 t1' t2 t3 t4 t5 t6
    refine (break_D d4 (by omega) (by omega) (by omega) (by omega) HS).mono ?_
    clear HS
    rintro e w5 ⟨v, u', rfl, ⟨ax', cx', gx', X', ay', cy', gy', Y', md', li', ho', pr', ea', rfl, ⟨oX, zX, kX, lX, bX, gX⟩, ⟨oY, zY, kY, lY, bY, gY⟩, lh, lp⟩, hu', d5, B5⟩
    replace Q0 := Q0.but B5 (by omega)
    replace T0 := T0.but B5 (by omega)
    have b5 := b4.trans B5
    have zz5 := B5.size
    have NX : 0 < X'.length → gx' ≠ q := gX.2
    have NY : 0 < Y'.length → gy' ≠ q := gY.2
    clear d4 B5 b4
    have t0 : w5.cell? ⟨q, 0, none⟩ = some (.slice ax X.length cx) := T0.cell 0
    have f0 := T0.free 0
    have t1' : w5.cell? ⟨q, 1, none⟩ = some (.slice ay Y.length cy) := T0.cell 1
    have f1 := T0.free 1
    have t2 : w5.cell? ⟨q, 2, none⟩ = some (.int .i64 md) := T0.cell 2
    have f2 := T0.free 2
    have t3 : w5.cell? ⟨q, 3, none⟩ = some (.int .i64 li) := T0.cell 3
    have f3 := T0.free 3
    have t4 : w5.cell? ⟨q, 4, none⟩ = some (.string ⟨⟨ho⟩⟩) := T0.cell 4
    have f4 := T0.free 4
    have t5 : w5.cell? ⟨q, 5, none⟩ = some (.string ⟨⟨pr⟩⟩) := T0.cell 5
    have f5 := T0.free 5
    have t6 : w5.cell? ⟨q, 6, none⟩ = some (.int .i64 ea) := T0.cell 6
    have f6 := T0.free 6
    have T1 : RwC (((((((w5.setCell ⟨q, 0, none⟩ (.slice ax' X'.length cx')).setCell ⟨q, 1, none⟩ (.slice ay' Y'.length cy')).setCell ⟨q, 2, none⟩ (.int .i64 md')).setCell ⟨q, 3, none⟩ (.int .i64 li')).setCell ⟨q, 4, none⟩ (.string ⟨⟨ho'⟩⟩)).setCell ⟨q, 5, none⟩ (.string ⟨⟨pr'⟩⟩)).setCell ⟨q, 6, none⟩ (.int .i64 ea')) q [.slice ax' X'.length cx', .slice ay' Y'.length cy', .int .i64 md', .int .i64 li', .string ⟨⟨ho'⟩⟩, .string ⟨⟨pr'⟩⟩, .int .i64 ea'] 24 := (((((((T0.set 0 (.slice ax' X'.length cx')).set 1 (.slice ay' Y'.length cy')).set 2 (.int .i64 md')).set 3 (.int .i64 li')).set 4 (.string ⟨⟨ho'⟩⟩)).set 5 (.string ⟨⟨pr'⟩⟩)).set 6 (.int .i64 ea'))
    have OS : Only q w5 (((((((w5.setCell ⟨q, 0, none⟩ (.slice ax' X'.length cx')).setCell ⟨q, 1, none⟩ (.slice ay' Y'.length cy')).setCell ⟨q, 2, none⟩ (.int .i64 md')).setCell ⟨q, 3, none⟩ (.int .i64 li')).setCell ⟨q, 4, none⟩ (.string ⟨⟨ho'⟩⟩)).setCell ⟨q, 5, none⟩ (.string ⟨⟨pr'⟩⟩)).setCell ⟨q, 6, none⟩ (.int .i64 ea')) := (((((((Only.refl q w5).trans (Only.setCell _ q 0 _)).trans (Only.setCell _ q 1 _)).trans (Only.setCell _ q 2 _)).trans (Only.setCell _ q 3 _)).trans (Only.setCell _ q 4 _)).trans (Only.setCell _ q 5 _)).trans (Only.setCell _ q 6 _)
    have Q1 := Q0.onl OS (by omega)
    have pX := Own.of_blockD oX (fun h => OS.block _ (NX h))
    have pY := Own.of_blockD oY (fun h => OS.block _ (NY h))
    have d6 : Dra (((((((w5.setCell ⟨q, 0, none⟩ (.slice ax' X'.length cx')).setCell ⟨q, 1, none⟩ (.slice ay' Y'.length cy')).setCell ⟨q, 2, none⟩ (.int .i64 md')).setCell ⟨q, 3, none⟩ (.int .i64 li')).setCell ⟨q, 4, none⟩ (.string ⟨⟨ho'⟩⟩)).setCell ⟨q, 5, none⟩ (.string ⟨⟨pr'⟩⟩)).setCell ⟨q, 6, none⟩ (.int .i64 ea')) s g a c xs _ := ⟨d5.S.of_block (OS.block s (by omega)), Rd.of_blockD d5.R (fun h => OS.block g (by have := lg h; omega)), d5.ne, d5.hb, d5.hl, d5.t0⟩
    have b6 : But s w (((((((w5.setCell ⟨q, 0, none⟩ (.slice ax' X'.length cx')).setCell ⟨q, 1, none⟩ (.slice ay' Y'.length cy')).setCell ⟨q, 2, none⟩ (.int .i64 md')).setCell ⟨q, 3, none⟩ (.int .i64 li')).setCell ⟨q, 4, none⟩ (.string ⟨⟨ho'⟩⟩)).setCell ⟨q, 5, none⟩ (.string ⟨⟨pr'⟩⟩)).setCell ⟨q, 6, none⟩ (.int .i64 ea')) := ⟨OS.os.trans b5.os, OS.tape.trans b5.tape, OS.output.trans b5.output, Nat.le_trans b5.size (Nat.le_of_eq OS.size.symm), fun k hk hne => (OS.block k (by omega)).trans (b5.block k hk hne)⟩
    clear oX oY Q0 T0 d5 b5
    go_upto_region 4 with fail
    generalize ((((((w5.setCell ⟨q, 0, none⟩ (.slice ax' X'.length cx')).setCell ⟨q, 1, none⟩ (.slice ay' Y'.length cy')).setCell ⟨q, 2, none⟩ (.int .i64 md')).setCell ⟨q, 3, none⟩ (.int .i64 li')).setCell ⟨q, 4, none⟩ (.string ⟨⟨ho'⟩⟩)).setCell ⟨q, 5, none⟩ (.string ⟨⟨pr'⟩⟩)).setCell ⟨q, 6, none⟩ (.int .i64 ea') = w6 at *
    clear OS t0 t1' t2 t3 t4 t5 t6 f0 f1 f2 f3 f4 f5 f6
    have T0 := T1
    have Q0 := Q1
    have oX := pX
    have oY := pY
    have d4 := d6
    have b4 := b6
    clear T1 Q1 pX pY d6 b6
    have t0 : w6.cell? ⟨q, 0, none⟩ = some (.slice ax' X'.length cx') := T0.cell 0
    have qc0 : w6.cell? ⟨w.heap.size, 0, none⟩ = some (.slice none 0 0) := Q0.cell 0
    have qf0 := Q0.free 0
    have t1' : w6.cell? ⟨q, 1, none⟩ = some (.slice ay' Y'.length cy') := T0.cell 1
    have qc1 : w6.cell? ⟨w.heap.size, 1, none⟩ = some (.slice none 0 0) := Q0.cell 1
    have qf1 := Q0.free 1
    have t2 : w6.cell? ⟨q, 2, none⟩ = some (.int .i64 md') := T0.cell 2
    have qc2 : w6.cell? ⟨w.heap.size, 2, none⟩ = some (.int .i64 0) := Q0.cell 2
    have qf2 := Q0.free 2
    have t3 : w6.cell? ⟨q, 3, none⟩ = some (.int .i64 li') := T0.cell 3
    have qc3 : w6.cell? ⟨w.heap.size, 3, none⟩ = some (.int .i64 0) := Q0.cell 3
    have qf3 := Q0.free 3
    have t4 : w6.cell? ⟨q, 4, none⟩ = some (.string ⟨⟨ho'⟩⟩) := T0.cell 4
    have qc4 : w6.cell? ⟨w.heap.size, 4, none⟩ = some (.string ⟨#[]⟩) := Q0.cell 4
    have qf4 := Q0.free 4
    have t5 : w6.cell? ⟨q, 5, none⟩ = some (.string ⟨⟨pr'⟩⟩) := T0.cell 5
    have qc5 : w6.cell? ⟨w.heap.size, 5, none⟩ = some (.string ⟨#[]⟩) := Q0.cell 5
    have qf5 := Q0.free 5
    have t6 : w6.cell? ⟨q, 6, none⟩ = some (.int .i64 ea') := T0.cell 6
    have qc6 : w6.cell? ⟨w.heap.size, 6, none⟩ = some (.int .i64 0) := Q0.cell 6
    have qf6 := Q0.free 6
    have RF : RwC (((((((w6.setCell ⟨w.heap.size, 0, none⟩ (.slice ax' X'.length cx')).setCell ⟨w.heap.size, 1, none⟩ (.slice ay' Y'.length cy')).setCell ⟨w.heap.size, 2, none⟩ (.int .i64 md')).setCell ⟨w.heap.size, 3, none⟩ (.int .i64 li')).setCell ⟨w.heap.size, 4, none⟩ (.string ⟨⟨ho'⟩⟩)).setCell ⟨w.heap.size, 5, none⟩ (.string ⟨⟨pr'⟩⟩)).setCell ⟨w.heap.size, 6, none⟩ (.int .i64 ea')) w.heap.size [.slice ax' X'.length cx', .slice ay' Y'.length cy', .int .i64 md', .int .i64 li', .string ⟨⟨ho'⟩⟩, .string ⟨⟨pr'⟩⟩, .int .i64 ea'] 24 := (((((((Q0.set 0 (.slice ax' X'.length cx')).set 1 (.slice ay' Y'.length cy')).set 2 (.int .i64 md')).set 3 (.int .i64 li')).set 4 (.string ⟨⟨ho'⟩⟩)).set 5 (.string ⟨⟨pr'⟩⟩)).set 6 (.int .i64 ea'))
    have OF : Only w.heap.size w6 (((((((w6.setCell ⟨w.heap.size, 0, none⟩ (.slice ax' X'.length cx')).setCell ⟨w.heap.size, 1, none⟩ (.slice ay' Y'.length cy')).setCell ⟨w.heap.size, 2, none⟩ (.int .i64 md')).setCell ⟨w.heap.size, 3, none⟩ (.int .i64 li')).setCell ⟨w.heap.size, 4, none⟩ (.string ⟨⟨ho'⟩⟩)).setCell ⟨w.heap.size, 5, none⟩ (.string ⟨⟨pr'⟩⟩)).setCell ⟨w.heap.size, 6, none⟩ (.int .i64 ea')) := (((((((Only.refl w.heap.size w6).trans (Only.setCell _ w.heap.size 0 _)).trans (Only.setCell _ w.heap.size 1 _)).trans (Only.setCell _ w.heap.size 2 _)).trans (Only.setCell _ w.heap.size 3 _)).trans (Only.setCell _ w.heap.size 4 _)).trans (Only.setCell _ w.heap.size 5 _)).trans (Only.setCell _ w.heap.size 6 _)
    have RR := RF.rangeG
    have rX := hide (Own.of_blockD oX (fun h => OF.block _ (by omega)))
    have rY := hide (Own.of_blockD oY (fun h => OF.block _ (by omega)))
    have dF := hide (show Dra (((((((w6.setCell ⟨w.heap.size, 0, none⟩ (.slice ax' X'.length cx')).setCell ⟨w.heap.size, 1, none⟩ (.slice ay' Y'.length cy')).setCell ⟨w.heap.size, 2, none⟩ (.int .i64 md')).setCell ⟨w.heap.size, 3, none⟩ (.int .i64 li')).setCell ⟨w.heap.size, 4, none⟩ (.string ⟨⟨ho'⟩⟩)).setCell ⟨w.heap.size, 5, none⟩ (.string ⟨⟨pr'⟩⟩)).setCell ⟨w.heap.size, 6, none⟩ (.int .i64 ea')) s g a c xs _ from ⟨d4.S.of_block (OF.block s (by omega)), Rd.of_blockD d4.R (fun h => OF.block g (by have := lg h; omega)), d4.ne, d4.hb, d4.hl, d4.t0⟩)
    have bF := hide (show But s w (((((((w6.setCell ⟨w.heap.size, 0, none⟩ (.slice ax' X'.length cx')).setCell ⟨w.heap.size, 1, none⟩ (.slice ay' Y'.length cy')).setCell ⟨w.heap.size, 2, none⟩ (.int .i64 md')).setCell ⟨w.heap.size, 3, none⟩ (.int .i64 li')).setCell ⟨w.heap.size, 4, none⟩ (.string ⟨⟨ho'⟩⟩)).setCell ⟨w.heap.size, 5, none⟩ (.string ⟨⟨pr'⟩⟩)).setCell ⟨w.heap.size, 6, none⟩ (.int .i64 ea')) from ⟨OF.os.trans b4.os, OF.tape.trans b4.tape, OF.output.trans b4.output, Nat.le_trans b4.size (Nat.le_of_eq OF.size.symm), fun k hk hne => (OF.block k (by omega)).trans (b4.block k hk hne)⟩)
    clear RF OF T0 Q0 oX oY d4 b4
    go_wp2
    exact bodyPost_ret (v := .agg #[.slice ax' X'.length cx', .slice ay' Y'.length cy', .int .i64 md', .int .i64 li', .string ⟨⟨ho'⟩⟩, .string ⟨⟨pr'⟩⟩, .int .i64 ea']) (results_cellG Tryz.results19 _ _ w.heap.size _ dR rfl RR hdR hrowR iTs) rfl ⟨_, _, rfl, ⟨ax', cx', gx', X', ay', cy', gy', Y', md', li', ho', pr', ea', rfl, ⟨rX.out, zX, kX, lX, bX, by omega⟩, ⟨rY.out, zY, kY, lY, bY, by omega⟩, lh, lp⟩, by omega, dF.out, bF.out⟩
end Go.Proofs.YtccnhdicibjbaaaGreat
namespace Go.Proofs.YtccnhdicibjbaaaGreat
open Go Go.RowKit
theorem results_ttc {P : Program} {fn : Func} {s1 s2 p : Tmp} {ty : TypeId} (h : fn.results = #[.tmp s1, .tmp s2, .cell p ty]) (tmps : Array Value) (w : World) (g : Nat) (cs : List Value) (d : TypeDesc) (v1 v2 : Value)
    (h1 : tmps.getD s1 undef = v1) (h2 : tmps.getD s2 undef = v2) (hp : tmps.getD p undef = .pointer (some ⟨g, 0, none⟩)) (hc : w.rangeAt g 0 cs) (hu : P.underlying ty = some d) (hd : d.isRow = true) (hi : (P.info? ty).map (·.size) = some cs.length) :
    (results fn tmps).run P w = .ok (.tuple #[v1, v2, .agg cs.toArray]) w := by
  have hp' : tmps[p]?.getD undef = .pointer (some ⟨g, 0, none⟩) := by simpa using hp
  have h1' : tmps[s1]?.getD undef = v1 := by simpa using h1
  have h2' : tmps[s2]?.getD undef = v2 := by simpa using h2
  simp [results, h, hp', h1', h2', asAddr, run_loadVar_mid w g 0 ty cs d hc hu hd hi]
set_option maxRecDepth 100000 in
set_option maxHeartbeats 16000000 in
theorem drawSealTicket_any (w : World) (g : Nat) (a : Option Addr) (c : Nat) (xs : List Int) (hr : Rd w g a .u8 xs) (hb : Byt xs) (hl : xs.length ≤ 1048576) :
    Calls Tryz.prog 4 #[.slice a xs.length c] w fun e w' => ∃ (ks ns : List Int) (v1 v2 v3 : Value), e = .returned (.tuple #[v1, v2, v3]) ∧ (ks.length ≤ 40 ∧ Byt ks ∧ NewRow w.heap.size w' (.returned v1) .u8 ks) ∧ (ns.length ≤ 40 ∧ Byt ns ∧ NewRow w.heap.size w' (.returned v2) .u8 ns) ∧ StD w.heap.size w' v3 ∧ Below w.heap.size w w' := by
  obtain ⟨dR, hdR, hrowR⟩ := rowTs
  have lg := hr.lt
  have n1 : Below w.heap.size w (w.alloc (.cells #[.slice none 0 0, .slice none 0 0, .int .i64 0, .int .i64 0, .string ⟨#[]⟩, .string ⟨#[]⟩, .int .i64 0] 24)) := (Below.refl _ _).alloc (Nat.le_refl _) _
  have Q0 : RwC (w.alloc (.cells #[.slice none 0 0, .slice none 0 0, .int .i64 0, .int .i64 0, .string ⟨#[]⟩, .string ⟨#[]⟩, .int .i64 0] 24)) w.heap.size [.slice none 0 0, .slice none 0 0, .int .i64 0, .int .i64 0, .string ⟨#[]⟩, .string ⟨#[]⟩, .int .i64 0] 24 := RwC.new w _ _
  have z1 : (w.alloc (.cells #[.slice none 0 0, .slice none 0 0, .int .i64 0, .int .i64 0, .string ⟨#[]⟩, .string ⟨#[]⟩, .int .i64 0] 24)).heap.size = w.heap.size + 1 := by simp
  replace hr := hr.up n1
  go_enter Tryz.func4, Tryz.ntmps4
  go_wp2_with fail
  generalize w.alloc (.cells #[.slice none 0 0, .slice none 0 0, .int .i64 0, .int .i64 0, .string ⟨#[]⟩, .string ⟨#[]⟩, .int .i64 0] 24) = w1 at *
  refine (l1Source_any w1 a xs.length c hl).mono ?_
  rintro e w2 ⟨rfl, S2, m2⟩
  obtain ⟨s, hs⟩ : ∃ s, s = w1.heap.size := ⟨_, rfl⟩
  have y2 : w1.heap.size < w2.heap.size := S2.lt
  have S2s : Src w2 s a xs.length c 0 := by rw [hs]; exact S2
  have d2 : Dra w2 s g a c xs 0 := ⟨S2s, hr.up m2, fun h => by have := lg h; omega, hb, hl, by omega⟩
  replace Q0 := Q0.up m2
  have b2 : Below w.heap.size w w2 := n1.trans (m2.mono (by omega))
  rw [← hs]
  have hs1 : w.heap.size < s ∧ s < w2.heap.size := by omega
  clear S2 S2s m2 n1 hr hs z1 y2
  go_wp2_with fail
  refine (l8DrawKey_any w2 s g a c xs 0 d2.S d2.R d2.ne d2.hb d2.hl (by omega) (by omega)).mono ?_
  rintro e w3 ⟨ks, t3, kl, kb, ⟨a3, c3, g3, rfl, o3, p3, q3, r3⟩, h0, h1, S3, B3⟩
  have d3 : Dra w3 s g a c xs t3 := ⟨S3, d2.R.but B3 d2.ne, d2.ne, d2.hb, d2.hl, by omega⟩
  have y3 := B3.size
  have l3 := o3.rd.lt
  replace Q0 := Q0.but B3 (by omega)
  have b3 : Below w.heap.size w w3 := b2.trans (B3.below (by omega) (by omega))
  clear S3 B3 d2 b2
  go_wp2_with fail
  refine (l8DrawNonce_any w3 s g a c xs t3 d3.S d3.R d3.ne d3.hb d3.hl d3.t0 (by omega)).mono ?_
  rintro e w4 ⟨ns, t4, nl, nb, ⟨a4, c4, g4, rfl, o4, p4, q4, r4⟩, h2, h3, S4, B4⟩
  have d4 : Dra w4 s g a c xs t4 := ⟨S4, d3.R.but B4 d3.ne, d3.ne, d3.hb, d3.hl, by omega⟩
  have y4 := B4.size
  have l4 := o4.rd.lt
  replace o3 := o3.but B4 (fun h => by omega)
  replace Q0 := Q0.but B4 (by omega)
  have b4 : Below w.heap.size w w4 := b3.trans (B4.below (by omega) (by omega))
  clear S4 B4 d3 b3
  go_wp2_with fail
  refine (maybe_D d4 (by omega)).mono ?_
  rintro e w5 ⟨v, u, rfl, ⟨ax, cx, gx, X, ay, cy, gy, Y, md, li, ho, pr, ea, rfl, ⟨oX, zX, kX, lX, bX, gX⟩, ⟨oY, zY, kY, lY, bY, gY⟩, lh, lp⟩, hu, d5, B5⟩
  have y5 := B5.size
  replace o3 := o3.but B5 (fun h => by omega)
  replace o4 := o4.but B5 (fun h => by omega)
  replace Q0 := Q0.but B5 (by omega)
  have b5 : Below w.heap.size w w5 := b4.trans (B5.below (by omega) (by omega))
  clear d4 d5 B5 b4
  have qc0 : w5.cell? ⟨w.heap.size, 0, none⟩ = some (.slice none 0 0) := Q0.cell 0
  have qf0 := Q0.free 0
  have qc1 : w5.cell? ⟨w.heap.size, 1, none⟩ = some (.slice none 0 0) := Q0.cell 1
  have qf1 := Q0.free 1
  have qc2 : w5.cell? ⟨w.heap.size, 2, none⟩ = some (.int .i64 0) := Q0.cell 2
  have qf2 := Q0.free 2
  have qc3 : w5.cell? ⟨w.heap.size, 3, none⟩ = some (.int .i64 0) := Q0.cell 3
  have qf3 := Q0.free 3
  have qc4 : w5.cell? ⟨w.heap.size, 4, none⟩ = some (.string ⟨#[]⟩) := Q0.cell 4
  have qf4 := Q0.free 4
  have qc5 : w5.cell? ⟨w.heap.size, 5, none⟩ = some (.string ⟨#[]⟩) := Q0.cell 5
  have qf5 := Q0.free 5
  have qc6 : w5.cell? ⟨w.heap.size, 6, none⟩ = some (.int .i64 0) := Q0.cell 6
  have qf6 := Q0.free 6
  have RF : RwC (((((((w5.setCell ⟨w.heap.size, 0, none⟩ (.slice ax X.length cx)).setCell ⟨w.heap.size, 1, none⟩ (.slice ay Y.length cy)).setCell ⟨w.heap.size, 2, none⟩ (.int .i64 md)).setCell ⟨w.heap.size, 3, none⟩ (.int .i64 li)).setCell ⟨w.heap.size, 4, none⟩ (.string ⟨⟨ho⟩⟩)).setCell ⟨w.heap.size, 5, none⟩ (.string ⟨⟨pr⟩⟩)).setCell ⟨w.heap.size, 6, none⟩ (.int .i64 ea)) w.heap.size [.slice ax X.length cx, .slice ay Y.length cy, .int .i64 md, .int .i64 li, .string ⟨⟨ho⟩⟩, .string ⟨⟨pr⟩⟩, .int .i64 ea] 24 := (((((((Q0.set 0 (.slice ax X.length cx)).set 1 (.slice ay Y.length cy)).set 2 (.int .i64 md)).set 3 (.int .i64 li)).set 4 (.string ⟨⟨ho⟩⟩)).set 5 (.string ⟨⟨pr⟩⟩)).set 6 (.int .i64 ea))
  have OF : Only w.heap.size w5 (((((((w5.setCell ⟨w.heap.size, 0, none⟩ (.slice ax X.length cx)).setCell ⟨w.heap.size, 1, none⟩ (.slice ay Y.length cy)).setCell ⟨w.heap.size, 2, none⟩ (.int .i64 md)).setCell ⟨w.heap.size, 3, none⟩ (.int .i64 li)).setCell ⟨w.heap.size, 4, none⟩ (.string ⟨⟨ho⟩⟩)).setCell ⟨w.heap.size, 5, none⟩ (.string ⟨⟨pr⟩⟩)).setCell ⟨w.heap.size, 6, none⟩ (.int .i64 ea)) := (((((((Only.refl w.heap.size w5).trans (Only.setCell _ w.heap.size 0 _)).trans (Only.setCell _ w.heap.size 1 _)).trans (Only.setCell _ w.heap.size 2 _)).trans (Only.setCell _ w.heap.size 3 _)).trans (Only.setCell _ w.heap.size 4 _)).trans (Only.setCell _ w.heap.size 5 _)).trans (Only.setCell _ w.heap.size 6 _)
  have RR := RF.rangeG
  have rX := hide (Own.of_blockD oX (fun h => OF.block _ (by omega)))
  have rY := hide (Own.of_blockD oY (fun h => OF.block _ (by omega)))
  have rK := hide (Own.of_blockD o3 (fun h => OF.block _ (by omega)))
  have rN := hide (Own.of_blockD o4 (fun h => OF.block _ (by omega)))
  have bF := hide (b5.trans (OF.below (Nat.le_refl _)))
  clear RF OF Q0 oX oY o3 o4 b5
  go_wp2
  exact bodyPost_ret (v := .tuple #[.slice a3 ks.length c3, .slice a4 ns.length c4, .agg #[.slice ax X.length cx, .slice ay Y.length cy, .int .i64 md, .int .i64 li, .string ⟨⟨ho⟩⟩, .string ⟨⟨pr⟩⟩, .int .i64 ea]]) (results_ttc Tryz.results4 _ _ w.heap.size _ dR _ _ rfl rfl rfl RR hdR hrowR iTs) rfl ⟨ks, ns, _, _, _, rfl, ⟨kl, kb, a3, c3, g3, rfl, rK.out, p3, q3, by omega⟩, ⟨nl, nb, a4, c4, g4, rfl, rN.out, p4, q4, by omega⟩, ⟨ax, cx, gx, X, ay, cy, gy, Y, md, li, ho, pr, ea, rfl, ⟨rX.out, zX, kX, lX, bX, by omega⟩, ⟨rY.out, zY, kY, lY, bY, by omega⟩, lh, lp⟩, bF.out⟩
end Go.Proofs.YtccnhdicibjbaaaGreat
namespace Go.Proofs.YtccnhdicibjbaaaGreat
open Go Go.RowKit
set_option maxHeartbeats 2000000 in
theorem l1NextB_any (w : World) (s g : Nat) (a : Option Addr) (c : Nat) (xs : List Int) (t n : Int) (hs : Src w s a xs.length c t) (hr : Rd w g a .u8 xs) (hne : 0 < xs.length → g ≠ s) (hb : Byt xs) (hl : xs.length ≤ 1048576)
    (t0 : 0 ≤ t) (t1 : t ≤ 1048576) (n0 : 1 ≤ n) (n1 : n ≤ 4611686018427387904) :
    Calls Tryz.prog 28 #[.pointer (some ⟨s, 0, none⟩), .int .i64 n] w fun e w' => ∃ r, e = .returned (.int .i64 r) ∧ (0 ≤ r ∧ r < n) ∧ Src w' s a xs.length c (t + 1) ∧ Only s w w' := by
  have c0 := hs.code
  have c1 := hs.at_
  have f1 := hs.free
  have k1 : (w.setCell ⟨s, 1, none⟩ (.int .i64 (t + 1))).cell? ⟨s, 1, none⟩ = some (.int .i64 (t + 1)) := World.cell?_setCell_same _ _ _ hs.at_
  have k0 : (w.setCell ⟨s, 1, none⟩ (.int .i64 (t + 1))).cell? ⟨s, 0, none⟩ = some (.slice a xs.length c) := by rw [World.cell?_setCell_other (h := by simp)]; exact hs.code
  have tn : decide (n < 1) = false := by simp; omega
  by_cases h0 : xs.length = 0
  · have hk : ((xs.length : Int) == 0) = true := by simp [h0]
    have r0 := Int.emod_nonneg (t * 7) (show n ≠ 0 by omega)
    have r1 := Int.emod_lt_of_pos (t * 7) (show 0 < n by omega)
    have S := hs.step (t + 1) 0
    have O := Only.step w s (.int .i64 (t + 1)) 0
    clear h0
    go_enter Tryz.func28, Tryz.ntmps28
    go_wp2
    go_ret
    exact ⟨_, rfl, ⟨r0, r1⟩, S, O⟩
  · have hk : ((xs.length : Int) == 0) = false := beq_eq_false_iff_ne.2 (by omega)
    obtain ⟨off, rfl, hc⟩ := hr (by omega)
    have gs : g ≠ s := hne (by omega)
    obtain ⟨i1, hi1⟩ := Int.eq_ofNat_of_zero_le (Int.emod_nonneg t (show (xs.length : Int) ≠ 0 by omega))
    have li1 : (i1 : Int) < (xs.length : Int) := by rw [← hi1]; exact Int.emod_lt_of_pos _ (by omega)
    obtain ⟨i2, hi2⟩ := Int.eq_ofNat_of_zero_le (Int.emod_nonneg (t + 1) (show (xs.length : Int) ≠ 0 by omega))
    have li2 : (i2 : Int) < (xs.length : Int) := by rw [← hi2]; exact Int.emod_lt_of_pos _ (by omega)
    obtain ⟨q, hq⟩ : ∃ q, t / (xs.length : Int) = q := ⟨_, rfl⟩
    have q0 : 0 ≤ q := by rw [← hq]; exact Int.ediv_nonneg t0 (by omega)
    have q1 : q ≤ 1048576 := by rw [← hq]; exact Int.le_trans (Int.ediv_le_self _ t0) t1
    have x1 : (w.setCell ⟨s, 1, none⟩ (.int .i64 (t + 1))).cell? ⟨g, off + i1, none⟩ = some (.int .u8 (xs.getD i1 0)) := by rw [World.cell?_setCell_other (h := fun e => gs (by simpa using (congrArg Addr.block e).symm))]; exact hc i1 (by omega)
    have x2 : (w.setCell ⟨s, 1, none⟩ (.int .i64 (t + 1))).cell? ⟨g, off + i2, none⟩ = some (.int .u8 (xs.getD i2 0)) := by rw [World.cell?_setCell_other (h := fun e => gs (by simpa using (congrArg Addr.block e).symm))]; exact hc i2 (by omega)
    have b1 := hb i1
    have b2 := hb i2
    have S := fun m => hs.step (t + 1) m
    have O := fun m => Only.step w s (.int .i64 (t + 1)) m
    generalize xs.getD i1 0 = x at *
    generalize xs.getD i2 0 = y at *
    clear hc hs hr h0
    by_cases hn : n ≤ 200
    · have tn2 : decide (200 < n) = false := by simp; omega
      have r0 := Int.emod_nonneg (x + q * 37) (show n ≠ 0 by omega)
      have r1 := Int.emod_lt_of_pos (x + q * 37) (show 0 < n by omega)
      clear x2 hi2 li2 b2
      go_enter Tryz.func28, Tryz.ntmps28
      go_wp2
      go_quiet (fail)
      go_wp2
      go_ret
      exact ⟨_, rfl, ⟨r0, r1⟩, S _, O _⟩
    · have tn2 : decide (200 < n) = true := by simp; omega
      have r0 := Int.emod_nonneg ((x + q * 37) * 251 + y * 13 + t) (show n ≠ 0 by omega)
      have r1 := Int.emod_lt_of_pos ((x + q * 37) * 251 + y * 13 + t) (show 0 < n by omega)
      go_enter Tryz.func28, Tryz.ntmps28
      go_wp2
      go_quiet (fail)
      go_wp2
      go_quiet (fail)
      go_wp2
      go_ret
      exact ⟨_, rfl, ⟨r0, r1⟩, S _, O _⟩
end Go.Proofs.YtccnhdicibjbaaaGreat
namespace Go.Proofs.YtccnhdicibjbaaaGreat
open Go Go.RowKit
theorem RowB.parts {w : World} {base : Nat} {v : Value} {xs : List Int} (h : RowB w base v xs) (h0 : 0 < xs.length) :
    ∃ (g cap : Nat), v = .slice (some ⟨g, 0, none⟩) xs.length cap ∧ base ≤ g ∧ xs.length ≤ cap ∧ (∀ i, i < xs.length → w.cell? ⟨g, i, none⟩ = some (.int .u8 (xs.getD i 0))) ∧ (∀ i, w.frozen? ⟨g, i, none⟩ = false) ∧
      (∀ i z, i < xs.length → RowB (w.setCell ⟨g, i, none⟩ (.int .u8 z)) base v (xs.set i z)) ∧ (∀ n, n ≤ xs.length → RowB w base (.slice (some ⟨g, 0, none⟩) n cap) (xs.take n)) := by
  obtain ⟨hl, ⟨_, h2⟩ | ⟨g, cap, cur, rfl, hb, hg, hn, hm, hs, ht⟩⟩ := h
  · omega
  · have hs' : cur.size = cap := by omega
    rw [Nat.mul_one] at ht
    have hcell : ∀ i, i < xs.length → cur[i]? = some (.int .u8 (xs.getD i 0)) := fun i hi => by
      have := congrArg (fun l => l[i]?) ht
      simp only [List.getElem?_take, if_pos hi, List.getElem?_map, Array.getElem?_toList] at this
      rw [this, List.getElem?_eq_getElem hi, List.getD_eq_getElem?_getD, List.getElem?_eq_getElem hi]
      rfl
    refine ⟨g, cap, rfl, hb, hn, fun i hi => ?_, fun i => ?_, fun i z hi => ⟨by simp, .inr ⟨g, cap, cur.setIfInBounds i (.int .u8 z), by simp, hb, ?_, by simpa using hn, hm, by simpa using hs, ?_⟩⟩, fun n hn' => ⟨by simp, .inr ⟨g, cap, cur, by rw [List.length_take, Nat.min_eq_left hn'], hb, hg, by rw [List.length_take]; omega, hm, hs, ?_⟩⟩⟩
    · simp [World.cell?, hg, hcell i hi]
    · simp [World.frozen?, hg]
    · show (w.heap.modify g _)[g]? = _
      rw [Array.getElem?_modify, if_pos rfl, hg]
      rfl
    · rw [Nat.mul_one, List.length_set, Array.toList_setIfInBounds, List.take_set, ht, List.map_set]
    · rw [Nat.mul_one, List.length_take, Nat.min_eq_left hn', List.map_take, ← ht, List.take_take, Nat.min_eq_left hn']
theorem byt_setR {ys : List Int} (h : Byt ys) (k : Nat) (z : Int) (h0 : 0 ≤ z) (h1 : z < 256) : Byt (ys.set k z) := fun i => by
  by_cases e : k = i
  · subst e
    by_cases hl : k < ys.length
    · rw [getD_set_self _ _ _ hl]; exact ⟨h0, h1⟩
    · rw [List.set_eq_of_length_le (by omega)]; exact h k
  · rw [getD_set_ne _ _ _ _ e]; exact h i
theorem byt_takeR {ys : List Int} (h : Byt ys) (k : Nat) : Byt (ys.take k) := fun i => by
  by_cases e : i < k
  · rw [List.getD_eq_getElem?_getD, List.getElem?_take, if_pos e, ← List.getD_eq_getElem?_getD]; exact h i
  · rw [List.getD_eq_getElem?_getD, List.getElem?_take, if_neg e]; simp
theorem byt_app1R {ys : List Int} (h : Byt ys) (z : Int) (h0 : 0 ≤ z) (h1 : z < 256) : Byt (ys ++ [z]) := fun i => by
  by_cases c : i < ys.length
  · rw [List.getD_eq_getElem?_getD, List.getElem?_append_left c, ← List.getD_eq_getElem?_getD]; exact h i
  · rw [List.getD_eq_getElem?_getD, List.getElem?_append_right (by omega)]
    by_cases e : i - ys.length = 0
    · rw [e]; exact ⟨h0, h1⟩
    · rw [List.getElem?_eq_none (by simp; omega)]; decide
end Go.Proofs.YtccnhdicibjbaaaGreat
namespace Go.Proofs.YtccnhdicibjbaaaGreat
def leap (y : Int) : Bool := decide (y % 400 = 0) || (decide (y % 4 = 0) && !decide (y % 100 = 0))
def mdI (y m : Int) : Int := if m = 2 then (if leap y = true then 29 else 28) else if m = 4 ∨ m = 6 ∨ m = 9 ∨ m = 11 then 30 else 31
def lyA (y : Int) : Int := (y - 1) / 4 - (y - 1) / 100 + (y - 1) / 400
def dyA (y : Int) : Int := 365 * (y - 1970) + lyA y - 477
def mdS (y : Int) : Nat → Int
  | 0 => 0
  | k + 1 => mdS y k + mdI y (k + 1)
def IsDay (d y : Int) (k : Nat) (x : Int) : Prop := 1970 ≤ y ∧ k < 12 ∧ 0 ≤ x ∧ x < mdI y (k + 1) ∧ d = dyA y + mdS y k + x
def dgs (n : Nat) (v : Int) : List Int := fill (fun j => 48 + v / 10 ^ (n - 1 - j) % 10) n
theorem dgs_len (n : Nat) (v : Int) : (dgs n v).length = n := fill_len _ _
theorem dgs_get (n : Nat) (v : Int) (j : Nat) (h : j < n) : (dgs n v).getD j 0 = 48 + v / 10 ^ (n - 1 - j) % 10 := fill_get _ _ _ h
theorem dgs_byt (n : Nat) (v : Int) : Byt (dgs n v) := fun i => by
  by_cases h : i < n
  · rw [dgs_get n v i h]; omega
  · rw [List.getD_eq_getElem?_getD, List.getElem?_eq_none (by rw [dgs_len]; omega)]; decide
theorem getD_app_l (a b : List Int) (i : Nat) (h : i < a.length) : (a ++ b).getD i 0 = a.getD i 0 := by
  rw [List.getD_eq_getElem?_getD, List.getD_eq_getElem?_getD, List.getElem?_append_left h]
theorem getD_app_r (a b : List Int) (i : Nat) (h : a.length ≤ i) : (a ++ b).getD i 0 = b.getD (i - a.length) 0 := by
  rw [List.getD_eq_getElem?_getD, List.getD_eq_getElem?_getD, List.getElem?_append_right h]
def dvK (b : List Int) : Nat → Int
  | 0 => 0
  | k + 1 => dvK b k * 10 + (b.getD k 0 - 48)
def dv (b : List Int) : Int := dvK b b.length
def pts (y : Int) (k : Nat) (x s : Int) : Int := ((((y * 100 + (k + 1)) * 100 + (x + 1)) * 100 + s / 3600) * 100 + s / 60 % 60) * 100 + s % 60
def EtIs (t : Int) (L : List Int) : Prop := ((0 ≤ t ∧ t ≤ 253402300799) ∧ ∃ y k x, IsDay (t / 86400) y k x ∧ L = dgs 14 (pts y k x (t % 86400)) ++ [90]) ∨ (¬ (0 ≤ t ∧ t ≤ 253402300799) ∧ L = [])
theorem EtIs.len {t : Int} {L : List Int} (h : EtIs t L) : L.length ≤ 15 := by
  rcases h with ⟨_, _, _, _, _, rfl⟩ | ⟨_, rfl⟩
  · simp [dgs_len]
  · simp
end Go.Proofs.YtccnhdicibjbaaaGreat
namespace Go.Proofs.YtccnhdicibjbaaaGreat
open Go Go.RowKit
def Bk5 (w : World) (g : Nat) (ys : List Int) : Prop := w.heap[g]? = some (.cells (ys.map (Value.int .u8)).toArray 5 (0, 0))
theorem Bk5.blk {w : World} {g : Nat} {ys : List Int} (h : Bk5 w g ys) : Blk w g .u8 ys := ⟨5, h⟩
theorem Bk5.of_made {w : World} {base : Nat} {g n : Nat} (h : w.ownsRow base 5 1 (.slice (some ⟨g, 0, none⟩) n n) n (madeCells (Value.int .u8 0).cells (n * 1)).toList) : Bk5 w g (List.replicate n 0) := by
  obtain ⟨t, hb⟩ := Blk.of_made h
  rcases h.2 with ⟨h', _⟩ | ⟨g', cap', cur, h', _, hg, _⟩
  · simp at h'
  · simp only [Value.slice.injEq, Option.some.injEq, Addr.mk.injEq, and_true, true_and] at h'
    obtain ⟨rfl, rfl⟩ := h'
    rw [hg] at hb
    simp only [Option.some.injEq, Obj.cells.injEq, and_true] at hb
    show w.heap[g]? = _
    rw [hg, hb.1]
theorem Bk5.store {w : World} {g : Nat} {ys : List Int} (h : Bk5 w g ys) (i : Nat) (z : Int) : Bk5 (w.setCell ⟨g, i, none⟩ (.int .u8 z)) g (ys.set i z) := by
  show (w.heap.modify g _)[g]? = _
  rw [Array.getElem?_modify, if_pos rfl, h]
  show some (Obj.cells ((ys.map (Value.int .u8)).toArray.setIfInBounds i (.int .u8 z)) 5 (0, 0)) = _
  rw [List.setIfInBounds_toArray, List.map_set]
theorem Bk5.row {w : World} {g base : Nat} {ys : List Int} (h : Bk5 w g ys) (hb : base ≤ g) (hl : ys.length ≤ 1048576) : RowB w base (.slice (some ⟨g, 0, none⟩) ys.length ys.length) ys := by
  refine ⟨by simp, .inr ⟨g, ys.length, _, rfl, hb, h, Nat.le_refl _, by unfold maxLen; omega, by simp, ?_⟩⟩
  rw [List.take_of_length_le (by simp)]
end Go.Proofs.YtccnhdicibjbaaaGreat
namespace Go.Proofs.YtccnhdicibjbaaaGreat
def dvP (b : List Int) (i n : Nat) : Int := dv ((b.drop i).take n)
def TV (b : List Int) : Int := (dyA (dvP b 0 4) + mdS (dvP b 0 4) (dvP b 4 2 - 1).toNat + (dvP b 6 2 - 1)) * 86400 + dvP b 8 2 * 3600 + dvP b 10 2 * 60 + dvP b 12 2
end Go.Proofs.YtccnhdicibjbaaaGreat
namespace Go.Proofs.YtccnhdicibjbaaaGreat
open Go Go.RowKit
theorem dvK_drop (b : List Int) (i n : Nat) : ∀ j, j ≤ n → dvK ((b.drop i).take n) j = dvK (b.drop i) j
  | 0, _ => rfl
  | j + 1, h => by
    show dvK _ j * 10 + (((b.drop i).take n).getD j 0 - 48) = dvK _ j * 10 + ((b.drop i).getD j 0 - 48)
    rw [dvK_drop b i n j (by omega), List.getD_eq_getElem?_getD, List.getElem?_take, if_pos (by omega), ← List.getD_eq_getElem?_getD]
theorem drop_getD (b : List Int) (i j : Nat) : (b.drop i).getD j 0 = b.getD (i + j) 0 := by
  rw [List.getD_eq_getElem?_getD, List.getD_eq_getElem?_getD, List.getElem?_drop]
def DgA (b : List Int) (i n : Nat) : Prop := i + n ≤ b.length ∧ ∀ j, j < n → 48 ≤ b.getD (i + j) 0 ∧ b.getD (i + j) 0 ≤ 57
theorem DgA.bd {b : List Int} {i n : Nat} (h : DgA b i n) : ∀ j, j ≤ n → 0 ≤ dvK (b.drop i) j ∧ dvK (b.drop i) j < 10 ^ j
  | 0, _ => by simp [dvK]
  | j + 1, hj => by
    have ih := h.bd j (by omega)
    have hx := h.2 j (by omega)
    show 0 ≤ dvK (b.drop i) j * 10 + ((b.drop i).getD j 0 - 48) ∧ dvK (b.drop i) j * 10 + ((b.drop i).getD j 0 - 48) < _
    rw [drop_getD, Int.pow_succ]
    omega
theorem DgA.dv {b : List Int} {i n : Nat} (h : DgA b i n) : dvP b i n = dvK (b.drop i) n := by
  unfold dvP Proofs.YtccnhdicibjbaaaGreat.dv
  rw [show ((b.drop i).take n).length = n by rw [List.length_take, List.length_drop]; have := h.1; omega]
  exact dvK_drop b i n n (Nat.le_refl _)
theorem DgA.step {b : List Int} {i j : Nat} (h : DgA b i j) (h1 : i + j < b.length) (h2 : 48 ≤ b.getD (i + j) 0) (h3 : b.getD (i + j) 0 ≤ 57) : DgA b i (j + 1) := ⟨by omega, fun k hk => by
  by_cases e : k = j
  · subst e; exact ⟨h2, h3⟩
  · exact h.2 k (by omega)⟩
end Go.Proofs.YtccnhdicibjbaaaGreat
namespace Go.Proofs.YtccnhdicibjbaaaGreat
open Go Go.RowKit
theorem EtIs.byt {t : Int} {L : List Int} (h : EtIs t L) : Byt L := by
  rcases h with ⟨_, y, k, x, _, rfl⟩ | ⟨_, rfl⟩
  · intro i
    by_cases c : i < 14
    · rw [getD_app_l _ _ _ (by rw [dgs_len]; exact c)]
      exact dgs_byt _ _ i
    · rw [getD_app_r _ _ _ (by rw [dgs_len]; omega), dgs_len]
      by_cases e : i = 14
      · subst e; decide
      · rw [show [(90 : Int)].getD (i - 14) 0 = 0 from by cases h : i - 14 with | zero => omega | succ n => rfl]; decide
  · intro i; simp
end Go.Proofs.YtccnhdicibjbaaaGreat
namespace Go.Proofs.YtccnhdicibjbaaaGreat
open Go Go.RowKit
theorem Rd.src {w w' : World} {g q : Nat} {a : Option Addr} {k : IntKind} {xs : List Int} (h : Rd w g a k xs) (n : Only q w w') (hne : 0 < xs.length → g ≠ q) : Rd w' g a k xs := h.only n hne
end Go.Proofs.YtccnhdicibjbaaaGreat
namespace Go.Proofs.YtccnhdicibjbaaaGreat
open Go Go.RowKit
end Go.Proofs.YtccnhdicibjbaaaGreat
