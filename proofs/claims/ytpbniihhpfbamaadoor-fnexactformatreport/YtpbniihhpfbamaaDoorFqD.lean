
/-
  The model's lines of marks.
-/
import Derived.Test.YtpbniihhpfbamaaDoorFqC
import Derived.Deep.RegionHeld3
namespace Go.Proofs.YtpbniihhpfbamaaDoor
set_option maxRecDepth 100000
open Go Go.RowKit

/-- A text under way, as bytes in memory of its own. -/
def OwB (B : Nat) (v : Value) (l : List UInt8) (w : World) : Prop := w.ownsRow B 5 1 v l.length (Lib.byteCells l)
theorem OwB.up {B : Nat} {v : Value} {l : List UInt8} {w w' : World} (h : OwB B v l w) (n : Below w.heap.size w w') : OwB B v l w' := by
  refine ⟨h.1, ?_⟩
  rcases h.2 with h' | ⟨g, cap, cur, e, hb, hg, r⟩
  · exact .inl h'
  · exact .inr ⟨g, cap, cur, e, hb, (n.block g (Array.getElem?_eq_some_iff.1 hg).1).trans hg, r⟩
theorem OwB.slice {B : Nat} {v : Value} {l : List UInt8} {w : World} (h : OwB B v l w) : ∃ a c, v = .slice a l.length c := by
  rcases h.2 with ⟨h1, h2⟩ | ⟨g, cap, cur, e, _⟩
  · exact ⟨none, 0, by rw [h2]; exact h1⟩
  · exact ⟨_, cap, e⟩
theorem OwB.start (w : World) : OwB w.heap.size (.slice (some ⟨w.heap.size, 0, none⟩) 0 0) [] (w.alloc (.cells #[] 5)) :=
  World.ownsRow_made w #[] 0 (Nat.le_refl _) (by unfold maxLen; omega) rfl
theorem str_text (l : List UInt8) : str (l.map fun b => (b.toNat : Int)) = ⟨⟨l⟩⟩ := by
  have h := str_data (l.map fun b => (b.toNat : Int)) ByteArray.empty
  have e : (str (l.map fun b => (b.toNat : Int))).data = ⟨l⟩ := by
    unfold str
    rw [h, List.map_map]
    have hid : ((fun n : Int => UInt8.ofNat n.toNat) ∘ fun b : UInt8 => (b.toNat : Int)) = id := by
      funext b
      simp
    rw [hid, List.map_id]
    apply Array.ext'
    simp
  cases hs : str (l.map fun b => (b.toNat : Int)) with
  | mk x =>
    rw [hs] at e
    exact congrArg ByteArray.mk e
theorem OwB.conv {B : Nat} {v : Value} {l : List UInt8} {w : World} (h : OwB B v l w) : (convert 23 9 v).run Tryd.prog w = .ok (.string ⟨⟨l⟩⟩) w := by
  obtain ⟨a, c, rfl⟩ := h.slice
  have hl : (l.map fun b => (b.toNat : Int)).length = l.length := by simp
  have R : ∃ g, Rd w g a .u8 (l.map fun b => (b.toNat : Int)) := by
    rcases h.2 with ⟨h1, h2⟩ | ⟨g, cap, cur, e, hb, hg, _, _, _, ht⟩
    · exact ⟨0, fun h0 => by rw [hl] at h0; omega⟩
    · injection e with e1 e2 e3
      subst e1
      refine ⟨g, fun _ => ⟨0, rfl, fun i hi => ?_⟩⟩
      rw [hl] at hi
      have := World.ownsRow.cells (g := g) h rfl i (.int .u8 ((l.getD i 0).toNat : Int)) (by simp [Lib.byteCells, List.getD_eq_getElem?_getD, List.getElem?_eq_getElem hi])
      have ea : (⟨g, 0, none⟩ : Addr).add i = ⟨g, i, none⟩ := by unfold Addr.add; split <;> simp_all
      rw [ea] at this
      rw [Nat.zero_add, this, List.getD_eq_getElem?_getD, List.getD_eq_getElem?_getD, List.getElem?_map, List.getElem?_eq_getElem hi]
      rfl
  obtain ⟨g, R⟩ := R
  have := conv_run w g a c _ R
  rw [hl, str_text] at this
  exact this
/-- A round of the model's loop over marks: the calls, one in the other, and the append. -/
theorem mk_chain (w : World) (B : Nat) (w1 : World) (g : Nat) (a : Option Addr) (c : Nat) (m : Mrk) (r : Rd w g a .u8 m.id) (bi : Byt m.id) (hl : m.id.length ≤ 1048576) (hi : I64 m.un) (v : Value) (l : List UInt8) (hO : OwB B v l w) (hB : B ≤ w1.heap.size) (N : Below w1.heap.size w1 w) (hl2 : l.length ≤ 100000000000000) :
    Calls Tryd.prog 15 #[.slice a m.id.length c] w fun e w50 => ∃ T1, e = .returned (.string ⟨⟨T1⟩⟩) ∧ Hid (Below w1.heap.size w1 w50) ∧
    Calls Tryd.prog 13 #[.int .i64 m.un] w50 fun e w51 => ∃ T2, e = .returned (.string ⟨⟨T2⟩⟩) ∧ Hid (Below w1.heap.size w1 w51) ∧
    Calls Tryd.prog 12 #[.slice (some ⟨w51.heap.size, 0, none⟩) 3 3] (w51.alloc (.cells #[.string ⟨#[109, 97, 114, 107]⟩, .string ⟨⟨T1⟩⟩, .string ⟨⟨T2⟩⟩] 9)) fun e w52 => ∃ T3, e = .returned (.string ⟨⟨T3⟩⟩) ∧ Hid (Below w1.heap.size w1 w52) ∧
    ∃ v' w6, (Builtin.append_ #[23, 9] 23 #[v, .string ⟨⟨T3⟩⟩]).run Tryd.prog w52 = .ok v' w6 ∧ (∃ a n c, v' = .slice a n c) ∧ Hid (OwB B v' (l ++ (mkT m ++ [10])) w6) ∧ Hid (Below B w1 w6) := by
  refine (specEncodeHex_any w g a c m.id r bi hl).mono ?_
  rintro e x0 ⟨rfl, m0⟩
  have B0 := N.trans (m0.mono N.size)
  refine ⟨heT m.id, rfl, B0, ?_⟩
  refine (l20Number_any x0 m.un hi).mono ?_
  rintro e x1 ⟨rfl, m1⟩
  have B1 := B0.trans (m1.mono B0.size)
  refine ⟨_, rfl, B1, ?_⟩
  have m2 : Below x1.heap.size x1 (x1.alloc (.cells #[.string ⟨#[109, 97, 114, 107]⟩, .string ⟨⟨heT m.id⟩⟩, .string ⟨⟨itL m.un⟩⟩] 9)) := (Below.refl _ _).alloc (Nat.le_refl _) _
  have B2 := B1.trans (m2.mono B1.size)
  refine (l20Line_any _ x1.heap.size 3 [[109, 97, 114, 107], heT m.id, itL m.un] (heap_alloc_new x1 _) rfl (by decide) (Nat.le_trans (mkT_len hl hi) (by decide))).mono ?_
  rintro e x3 ⟨rfl, m3⟩
  have B3 := B2.trans (m3.mono B2.size)
  have ml := mkT_len hl hi
  obtain ⟨v', w6, hap, ho, hg, -⟩ := app_str x3 B v l (mkT m ++ [10]) ((((hO.up m0).up m1).up m2).up m3) (Nat.le_trans hB B3.size) (by rw [List.length_append]; simp; omega)
  refine ⟨_, rfl, B3, v', w6, hap, ?_, ho, ?_⟩
  · obtain ⟨a, c, e⟩ := OwB.slice (B := B) (l := l ++ (mkT m ++ [10])) ho
    exact ⟨a, _, c, e⟩
  · refine (B3.mono hB).trans ((Below.refl B x3).grown hg (Nat.le_trans hB B3.size) fun k hk => ?_)
    have := (((((hO.up m0).up m1).up m2).up m3) : x3.ownsRow B 5 1 v l.length (Lib.byteCells l)).lt k hk
    exact this.1
set_option maxRecDepth 100000 in
set_option maxHeartbeats 8000000 in
theorem l20Marks_any (w : World) (wd : Int) (g : Nat) (a : Option Addr) (c : Nat) (ms : List Mrk) (ps : List Plm) (hr : RdK w g a ms ps) (hm : LnM ms) (hN : ms.length ≤ 1048576) :
    Calls Tryd.prog 17 #[.agg #[.int .i64 wd, .slice a ms.length c]] w fun e w' => e = .returned (tx (ltT (ms.map mkT))) ∧ Below w.heap.size w w' := by
  have n1 : Below w.heap.size w (w.alloc (.cells #[.int .i64 wd, .slice a ms.length c] 37)) := (Below.refl _ _).alloc (Nat.le_refl _) _
  have T1 : RwC (w.alloc (.cells #[.int .i64 wd, .slice a ms.length c] 37)) w.heap.size [.int .i64 wd, .slice a ms.length c] 37 := RwC.new w _ _
  have n2 : Below (w.alloc (.cells #[.int .i64 wd, .slice a ms.length c] 37)).heap.size (w.alloc (.cells #[.int .i64 wd, .slice a ms.length c] 37)) ((w.alloc (.cells #[.int .i64 wd, .slice a ms.length c] 37)).alloc (.cells #[] 5)) := (Below.refl _ _).alloc (Nat.le_refl _) _
  have O2 := OwB.start (w.alloc (.cells #[.int .i64 wd, .slice a ms.length c] 37))
  have N2 := hide (nxt n1 n2)
  have TT := hide (T1.up n2)
  have HO := hide O2
  have sB := hide n2.size
  have zB : Hid (w.heap.size < (w.alloc (.cells #[.int .i64 wd, .slice a ms.length c] 37)).heap.size) := by
    show w.heap.size < _
    rw [World.size_alloc]
    exact Nat.lt_succ_self _
  have c1 : ((w.alloc (.cells #[.int .i64 wd, .slice a ms.length c] 37)).alloc (.cells #[] 5)).cell? ⟨w.heap.size, 1, none⟩ = some (.slice a ms.length c) := TT.out.cell 1
  clear n1 n2 T1 O2
  go_enter Tryd.func17, Tryd.ntmps17
  go_upto_region 3 with fail
  generalize (w.alloc (.cells #[.int .i64 wd, .slice a ms.length c] 37)).alloc (.cells #[] 5) = w1 at *
  generalize hBB : (w.alloc (.cells #[.int .i64 wd, .slice a ms.length c] 37)).heap.size = B at *
  have eB : Hid (w.heap.size + 1 = B) := by show _ = _; rw [← hBB, World.size_alloc]
  clear hBB c1
  have CW : Hid (∀ W, Below B w1 W → RwC W w.heap.size [.int .i64 wd, .slice a ms.length c] 37) := fun W n => (n.block w.heap.size zB.out).trans TT.out
  have CR : Hid (∀ W, Below B w1 W → RdK W g a ms ps) := fun W n => hr.up (N2.out.trans (n.mono (Nat.le_of_lt zB.out)))
  clear hr
  go_loopw [3, 4] (fun v i wr => ∃ (k : Nat) (va : Option Addr) (vn vc : Nat), k ≤ ms.length ∧ i = .int .i64 k ∧ v = .slice va vn vc ∧ Hid (OwB B v (ltT ((ms.map mkT).take k)) wr) ∧ Hid (Below B w1 wr)) (fun _ i _ => ms.length - (intOf i).toNat)
  case atStart => exact ⟨0, _, _, _, Nat.zero_le _, rfl, rfl, by rw [eB.out]; exact HO.out, Below.refl _ _⟩
  case round =>
    obtain ⟨k, va, vn, vc, hk, rfl, rfl, OW, NB⟩ := hrel
    have cw := (CW.out wr NB.out).cell 1
    by_cases hlt : k < ms.length
    · have t0 : (k : Int) < (ms.length : Int) := by omega
      have t1 : decide ((k : Int) < (ms.length : Int)) = true := decide_eq_true t0
      have k1 : IntKind.i64.wrap ((k : Int) + 1) = ((k + 1 : Nat) : Int) := by rw [IntKind.wrap_i64]; omega
      obtain ⟨off, rfl, hc⟩ := (CR.out wr NB.out).r (by omega)
      have hc1 := fun W n => (CR.out W n).r (by omega)
      have nd : Below wr.heap.size wr wr.drew := (Below.refl _ _).drew
      have lo : B ≤ wr.heap.size := Nat.le_trans sB.out NB.out.size
      have TK : Hid (ltT ((ms.map mkT).take (k + 1)) = ltT ((ms.map mkT).take k) ++ (mkT (ms.getD k mrk0) ++ [10])) := by
        show _ = _
        rw [List.take_add_one, List.getElem?_map, List.getElem?_eq_getElem hlt, List.getD_eq_getElem?_getD, List.getElem?_eq_getElem hlt, ltT_app]
        show _ ++ ltT [_] = _
        rw [ltT_one]
        rfl
      have LL : (ltT ((ms.map mkT).take k)).length ≤ 100000000000000 := by
        have h := ms_len (ms.take k) (fun m hm' => lnM_mem hm m (List.mem_of_mem_take hm'))
        rw [List.map_take] at h
        rw [List.length_take] at h
        omega
      have CH := hide (mk_chain wr.drew B wr (ps.getD k plm0).q (ps.getD k plm0).a (ps.getD k plm0).c (ms.getD k mrk0) (((CR.out wr NB.out).up nd).b k hlt) (hm k hlt).2.1 (hm k hlt).1 (hm k hlt).2.2 (.slice va vn vc) _ (OW.out.up nd) lo nd LL)
      have CY : Hid (∀ W, Below B wr W → W.cell? ⟨w.heap.size, 1, none⟩ = some (.slice (some ⟨g, off, none⟩) ms.length c) ∧ W.cell? ⟨g, off + k * 2, none⟩ = some (.slice (ps.getD k plm0).a (ms.getD k mrk0).id.length (ps.getD k plm0).c) ∧ W.cell? ⟨g, off + k * 2 + 1, none⟩ = some (.int .i64 (ms.getD k mrk0).un)) := fun W n => by
        obtain ⟨o2, e2, h2⟩ := hc1 W (NB.out.trans n)
        cases e2
        exact ⟨(CW.out W (NB.out.trans n)).cell 1, (h2 k hlt).1, (h2 k hlt).2⟩
      have bA : Hid (∀ (W : World) (o : Obj), Below wr.heap.size wr W → Below wr.heap.size wr (W.alloc o)) := fun W o n => n.alloc n.size o
      have n0 : Hid (Below wr.heap.size wr wr) := Below.refl _ _
      have nW := hide nd
      have LO := hide lo
      have NX : Hid (∀ w6, Below B wr w6 → Below B w1 w6) := fun w6 n => NB.out.trans n
      clear hc hc1 nd lo LL OW NB
      rw [← TK.out] at CH
      generalize (ps.getD k plm0).a = pa at *
      generalize (ps.getD k plm0).c = pc at *
      generalize (ms.getD k mrk0).id.length = x at *
      generalize (ms.getD k mrk0).un = un at *
      clear TK
      go_upto_region 5 with fail
      go_region_held3 (fun W => W.cell? ⟨w.heap.size, 1, none⟩ = some (.slice (some ⟨g, off, none⟩) ms.length c) ∧ W.cell? ⟨g, off + k * 2, none⟩ = some (.slice pa x pc) ∧ W.cell? ⟨g, off + k * 2 + 1, none⟩ = some (.int .i64 un))
        (first | exact CY.out _ (n0.out.mono LO.out) | exact CY.out _ (nW.out.mono LO.out) | exact CY.out _ (m1.out.mono LO.out) | exact CY.out _ (m2.out.mono LO.out) | exact CY.out _ ((bA.out _ _ m2.out).mono LO.out) | exact CY.out _ (m3.out.mono LO.out) | exact CY.out _ FN.out)
        (first
          | (go_at_call 15; with_reducible refine CH.out.mono ?_; rintro e w50 ⟨X1, rfl, m1, N2'⟩)
          | (go_at_call 13; with_reducible refine N2'.mono ?_; rintro e w51 ⟨X2, rfl, m2, N3⟩)
          | (go_at_call 12; with_reducible refine N3.mono ?_; rintro e w52 ⟨X3, rfl, m3, AP⟩)
          | (refine sp_appX rfl (.tmp 13) (.tmp 29) 23 9 rfl (.slice va vn vc) (.string ⟨⟨X3⟩⟩) rfl rfl _ AP ?_; rintro v3 w6 ⟨⟨xa, xn, xc, rfl⟩, OE, FN⟩)
          | fail)
      all_goals
        have N6 := hide (NX.out _ FN.out)
        clear CH AP CY bA n0 nW m1 m2 m3 FN NX
        go_wp2
        go_roundw
        case rel => exact ⟨k + 1, _, _, _, by omega, by first | rfl | go_num, rfl, OE, N6⟩
        case measure => simp [intOf]; omega
    · obtain rfl : k = ms.length := by omega
      have E : Hid (OwB B (.slice va vn vc) (ltT (ms.map mkT)) wr) := by
        have := OW.out
        rwa [List.take_of_length_le (by simp)] at this
      have CV := E.out.conv
      have NN := hide (N2.out.trans (NB.out.mono (Nat.le_of_lt zB.out)))
      clear OW E CW CR NB
      go_wp2
      go_ret
      exact ⟨rfl, NN.out⟩
end Go.Proofs.YtpbniihhpfbamaaDoor
