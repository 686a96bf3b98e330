import Derived.Test.YtccnhdicibjbaaaGreatGB49
import Derived.Test.YtccnhdicibjbaaaGreatGB48
import Derived.Test.YtccnhdicibjbaaaGreatGB47
import Derived.Test.YtccnhdicibjbaaaGreatGB1
import Derived.Test.YtccnhdicibjbaaaGreatGB3
import Derived.Test.YtccnhdicibjbaaaGreatGB2
import Derived.Test.YtccnhdicibjbaaaGreatGB46
import Derived.Deep.RegionHeld3
import Derived.Deep.DeepCutAuto
import Derived.Defers
import Derived.Recover
import Derived.RegionTactic
import Derived.Deep.MidRow
import Derived.Deep.Cut
namespace Go.Proofs.YtccnhdicibjbaaaGreat
open Go Go.RowKit
theorem opT_opS (sd : List Int) : opT sd ++ opS sd = sd := List.take_append_drop _ _
theorem seal_back {key non ex sd : List Int} (hk : fitK key non = true) (db : Byt sd) : decide (seA key non ex (xt key non (opT sd)) = sd) = decide (ssB (nsW key non) ex (opT sd) = opS sd) := by
  have h : seA key non ex (xt key non (opT sd)) = opT sd ++ ssB (nsW key non) ex (opT sd) := by
    unfold seA
    rw [if_pos hk, xt_xt key non (show Byt (opT sd) from byt_take db _)]
  rw [h]
  by_cases e : ssB (nsW key non) ex (opT sd) = opS sd
  · rw [decide_eq_true e, e, opT_opS]; simp
  · rw [decide_eq_false e]
    refine decide_eq_false fun k => e ?_
    have k2 : opT sd ++ ssB (nsW key non) ex (opT sd) = opT sd ++ opS sd := k.trans (opT_opS sd).symm
    exact List.append_cancel_left k2
set_option maxRecDepth 100000 in
set_option maxHeartbeats 16000000 in
theorem specOpen_any (w : World) (g : Nat) (a : Option Addr) (c : Nat) (key : List Int) (hr : Rd w g a .u8 key) (hb : Byt key) (hc : key.length ≤ c) (g' : Nat) (a' : Option Addr) (c' : Nat) (non : List Int) (hr' : Rd w g' a' .u8 non) (hb' : Byt non) (hc' : non.length ≤ c')
    (ge : Nat) (ae : Option Addr) (ce : Nat) (ex : List Int) (he : Rd w ge ae .u8 ex) (eb : Byt ex) (en : ae = none → ce = 0)
    (g2 : Nat) (a2 : Option Addr) (c2 : Nat) (sd : List Int) (hr2 : Rd w g2 a2 .u8 sd) (db : Byt sd) (dc : sd.length ≤ c2) (hs : ex.length + sd.length ≤ 4000000) :
    Calls Tryz.prog 33 #[.slice a key.length c, .slice a' non.length c', .slice ae ex.length ce, .slice a2 sd.length c2] w fun e w' => NewO w.heap.size w' e (opB key non ex sd) (opL key non ex sd) ∧ Below w.heap.size w w' := by
  have n0 : Below w.heap.size w (w.alloc (.cells #[.bool false, .slice none 0 0] 38)) := (Below.refl _ _).alloc (Nat.le_refl _) _
  have H0 : (w.alloc (.cells #[.bool false, .slice none 0 0] 38)).heap[w.heap.size]? = some (.cells #[.bool false, .slice none 0 0] 38 (0, 0)) := heap_alloc_last w _
  have FT := fun W => hide (fits_any W a a' c c' key non 0)
  by_cases h1 : fitK key non = true
  · simp only [fit0 h1] at FT
    by_cases h16 : 16 ≤ sd.length
    · have OB : Hid (opB key non ex sd = decide (ssB (nsW key non) ex (opT sd) = opS sd)) := by show _ = _; unfold opB; rw [h1, decide_eq_true h16]; rfl
      have OLt : Hid (opL key non ex sd = if decide (ssB (nsW key non) ex (opT sd) = opS sd) = true then xt key non (opT sd) else []) := by show _ = _; unfold opL; rw [OB.out]
      rw [OLt.out, OB.out, ← seal_back h1 db]
      have TL : Hid ((opT sd).length = sd.length - 16) := by show _ = _; unfold opT; rw [List.length_take]; omega
      have RT : Rd w g2 a2 .u8 (opT sd) := hr2.take _
      have TB : Byt (opT sd) := byt_take db _
      have XS := fun W (n : Below w.heap.size w W) => hide (specXorR_core W g a c key (hr.up n) hb hc 1 (by omega) (by omega) g' a' c' non (hr'.up n) hb' hc' g2 a2 c2 (opT sd) (RT.up n) (by rw [TL.out]; omega) (fit1 h1) (by rw [TL.out]; omega))
      have XT : Hid (fill (sxF key 1 non (opT sd)) (opT sd).length = xt key non (opT sd)) := (sx_fill key 1 non (opT sd)).symm
      simp only [XT.out] at XS
      simp only [TL.out] at XS
      have XB := hide (xt_byt key non TB)
      have XL : Hid ((xt key non (opT sd)).length = sd.length - 16) := by show _ = _; rw [xt_len]; exact TL.out
      generalize xt key non (opT sd) = T at *
      have SE := fun W (n : Below w.heap.size w W) g3 a3 c3 (h : Rd W g3 a3 .u8 T) => hide (specSeal_any W g a c key (hr.up n) hb hc g' a' c' non (hr'.up n) hb' hc' ge ae ce ex (he.up n) eb en g3 a3 c3 T h XB.out (by rw [XL.out]; omega))
      have MB := hide (seA_byt (key := key) (non := non) (ex := ex) XB.out)
      have DB := hide db
      generalize seA key non ex T = M at *
      obtain ⟨ob, hob⟩ : ∃ b, b = decide (M = sd) := ⟨_, rfl⟩
      rw [← hob]
      obtain ⟨ol, hol⟩ : ∃ l, l = if ob = true then T else [] := ⟨_, rfl⟩
      rw [← hol]
      have HOB := hide hob
      have HOL := hide hol
      have n16 : ¬ (sd.length : Int) < 16 := by omega
      have m16 : (sd.length : Int) - 16 = ((sd.length - 16 : Nat) : Int) := by omega
      have mle : ((sd.length - 16 : Nat) : Int) ≤ (c2 : Int) := by omega
      have big : (sd.length : Int) ≤ 4000000 := by omega
      have HR2 := hide hr2
      clear hob hol OB OLt XT TB RT hr2 db dc hs h1 XB XL h16
      generalize sd.length - 16 = m at *
      go_enter Tryz.func33, Tryz.ntmps33
      go_upto_region 1 with fail
      generalize w.alloc (.cells #[.bool false, .slice none 0 0] 38) = w1 at *
      go_wp2_with fail
      refine (FT w1).out.mono ?_
      rintro e w2 ⟨rfl, h⟩
      have h := h.symm
      subst h
      go_wp2_with fail
      refine (XS w1 n0).out.mono ?_
      rintro e w3 ⟨⟨v3, rfl, R3⟩, n3⟩
      obtain ⟨a3, c3, g3, rfl, o3, p3, q3, r3⟩ := R3.own
      have l1 := (Array.getElem?_eq_some_iff.1 H0).1
      have H3 := (n3.block w.heap.size l1).trans H0
      have N3 := nxt n0 n3
      have SE3 := SE w3 N3 g3 a3 c3 o3.rd
      have s0 := n0.size
      clear FT XS R3 n3 H0 SE
      go_wp2_with fail
      refine SE3.out.mono ?_
      rintro e w4 ⟨⟨v4, rfl, R4⟩, n4⟩
      obtain ⟨a4, c4, g4, rfl, o4, -, -, -⟩ := R4.own
      have l3 := (Array.getElem?_eq_some_iff.1 H3).1
      have H4 := (n4.block w.heap.size l3).trans H3
      have N4 := nxt N3 n4
      have o3' := o3.up n4
      have SA := hide (l1Same_any w4 g4 g2 a4 a2 c4 c2 M sd o4.rd (HR2.out.up N4) MB.out DB.out)
      rw [← HOB.out] at SA
      clear SE3 R4 n4 H3 o3 o4 HOB HR2 MB DB
      go_wp2_with fail
      refine SA.out.mono ?_
      rintro e w5 ⟨rfl, h⟩
      have h := h.symm
      subst h
      obtain ⟨c80, c81, f80, f81⟩ := blk_two H4
      clear SA H4
      cases ob with
      | true =>
        have EL : Hid (ol = T) := by show _ = _; rw [HOL.out, if_pos rfl]
        have O1 := (Only.setCell w4 w.heap.size 0 (.bool true)).trans (Only.setCell _ w.heap.size 1 (.slice a3 T.length c3))
        have o10 := o3'.only O1 (fun _ => by omega)
        have N10 := N4.trans (O1.below (Nat.le_refl _))
        clear HOL O1
        go_wp2
        exact bodyPost_ret (v := .agg #[.bool true, .slice a3 T.length c3]) (by simp [results, Tryz.results33, go_sem, c80, c81]) rfl ⟨by rw [EL.out]; exact ⟨a3, c3, g3, rfl, o10, p3, q3, by omega⟩, N10⟩
      | false =>
        have EL : Hid (ol = []) := by show _ = _; rw [HOL.out, if_neg (by decide)]
        have O1 := (Only.setCell w4 w.heap.size 0 (.bool false)).trans (Only.setCell _ w.heap.size 1 (.slice none 0 0))
        have N10 := N4.trans (O1.below (Nat.le_refl _))
        clear HOL O1
        go_wp2
        exact bodyPost_ret (v := .agg #[.bool false, .slice none 0 0]) (by simp [results, Tryz.results33, go_sem, c80, c81]) rfl ⟨by rw [EL.out]; exact newO_bad _ _, N10⟩
    · have OB : Hid (opB key non ex sd = false) := by show _ = _; unfold opB; rw [decide_eq_false h16]; simp
      have OLt : Hid (opL key non ex sd = []) := by show _ = _; unfold opL; rw [if_neg (by rw [OB.out]; decide)]
      rw [OLt.out, OB.out]
      have lt : (sd.length : Int) < 16 := by omega
      clear OB OLt
      go_enter Tryz.func33, Tryz.ntmps33
      go_upto_region 1 with fail
      generalize w.alloc (.cells #[.bool false, .slice none 0 0] 38) = w1 at *
      go_wp2_with fail
      refine (FT w1).out.mono ?_
      rintro e w2 ⟨rfl, h⟩
      have h := h.symm
      subst h
      obtain ⟨c10, c11, f10, f11⟩ := blk_two H0
      have O1 := (Only.setCell w1 w.heap.size 0 (.bool false)).trans (Only.setCell _ w.heap.size 1 (.slice none 0 0))
      have N10 := n0.trans (O1.below (Nat.le_refl _))
      clear FT O1
      go_wp2
      exact bodyPost_ret (v := .agg #[.bool false, .slice none 0 0]) (by simp [results, Tryz.results33, go_sem, c10, c11]) rfl ⟨newO_bad _ _, N10⟩
  · have h1' : fitK key non = false := by simpa using h1
    simp only [fit0' h1'] at FT
    have OB : Hid (opB key non ex sd = false) := by show _ = _; unfold opB; rw [h1']; rfl
    have OLt : Hid (opL key non ex sd = []) := by show _ = _; unfold opL; rw [if_neg (by rw [OB.out]; decide)]
    rw [OLt.out, OB.out]
    clear OB OLt h1 h1'
    go_enter Tryz.func33, Tryz.ntmps33
    go_upto_region 1 with fail
    generalize w.alloc (.cells #[.bool false, .slice none 0 0] 38) = w1 at *
    go_wp2_with fail
    refine (FT w1).out.mono ?_
    rintro e w2 ⟨rfl, h⟩
    have h := h.symm
    subst h
    obtain ⟨c10, c11, f10, f11⟩ := blk_two H0
    have O1 := (Only.setCell w1 w.heap.size 0 (.bool false)).trans (Only.setCell _ w.heap.size 1 (.slice none 0 0))
    have N10 := n0.trans (O1.below (Nat.le_refl _))
    clear FT O1
    go_wp2
    exact bodyPost_ret (v := .agg #[.bool false, .slice none 0 0]) (by simp [results, Tryz.results33, go_sem, c10, c11]) rfl ⟨newO_bad _ _, N10⟩
end Go.Proofs.YtccnhdicibjbaaaGreat
namespace Go.Proofs.YtccnhdicibjbaaaGreat
end Go.Proofs.YtccnhdicibjbaaaGreat
namespace Go.Proofs.YtccnhdicibjbaaaGreat
open Go Go.RowKit
end Go.Proofs.YtccnhdicibjbaaaGreat
namespace Go.Proofs.YtccnhdicibjbaaaGreat
end Go.Proofs.YtccnhdicibjbaaaGreat
namespace Go.Proofs.YtccnhdicibjbaaaGreat
open Go Go.RowKit
theorem Cur.only {w w' : World} {p q : Nat} {l : Value} {i : Int} (h : Cur w p l i) (n : Only q w w') (hne : p ≠ q) : Cur w' p l i := h.of_block (n.block p hne)
theorem Rd.only {w w' : World} {g q : Nat} {a : Option Addr} {k : IntKind} {xs : List Int} (h : Rd w g a k xs) (n : Only q w w') (hne : 0 < xs.length → g ≠ q) : Rd w' g a k xs := by
  by_cases h0 : 0 < xs.length
  · exact h.of_block (n.block g (hne h0))
  · obtain rfl : xs = [] := List.eq_nil_of_length_eq_zero (by omega)
    exact Rd.nil _ _ _ _
end Go.Proofs.YtccnhdicibjbaaaGreat
namespace Go.Proofs.YtccnhdicibjbaaaGreat
open Go Go.RowKit
structure Kp (p : Nat) (w w' : World) : Prop where
  os : w'.os = w.os
  tape : w'.tape = w.tape
  output : w'.output = w.output
  size : w.heap.size ≤ w'.heap.size
  block : ∀ k, k < w.heap.size → k ≠ p → w'.heap[k]? = w.heap[k]?
theorem Kp.refl (p : Nat) (w : World) : Kp p w w := ⟨rfl, rfl, rfl, Nat.le_refl _, fun _ _ _ => rfl⟩
theorem Kp.trans {p : Nat} {a b c : World} (h : Kp p a b) (k : Kp p b c) : Kp p a c :=
  ⟨k.os.trans h.os, k.tape.trans h.tape, k.output.trans h.output, Nat.le_trans h.size k.size, fun i hi hp => (k.block i (by have := h.size; omega) hp).trans (h.block i hi hp)⟩
theorem Only.kp {p : Nat} {w w' : World} (h : Only p w w') : Kp p w w' := ⟨h.os, h.tape, h.output, Nat.le_of_eq h.size.symm, fun k _ hp => h.block k hp⟩
theorem below_kp {p : Nat} {w w' : World} (h : Below w.heap.size w w') : Kp p w w' := ⟨h.os, h.tape, h.output, h.size, fun k hk _ => h.block k hk⟩
theorem Kp.below {p B : Nat} {w w' : World} (h : Kp p w w') (hB : B ≤ p) (hs : B ≤ w.heap.size) : Below B w w' :=
  ⟨h.os, h.tape, h.output, h.size, fun k hk => h.block k (by omega) (by omega)⟩
theorem Rd.kp {w w' : World} {g q : Nat} {a : Option Addr} {k : IntKind} {xs : List Int} (h : Rd w g a k xs) (n : Kp q w w') (hne : 0 < xs.length → g ≠ q) : Rd w' g a k xs := by
  by_cases h0 : 0 < xs.length
  · exact h.of_block (n.block g (h.lt h0) (hne h0))
  · obtain rfl : xs = [] := List.eq_nil_of_length_eq_zero (by omega)
    exact Rd.nil _ _ _ _
theorem Tl.kp {w w' : World} {p q : Nat} {x y : Value} (h : Tl w p x y) (n : Kp q w w') (hne : p ≠ q) : Tl w' p x y := h.of_block (n.block p h.lt hne)
theorem step_copy_ex {P : Program} {ops : Array Oper} {o : Oper} {a : Act} {w : World} {K : Act → World → Prop} {Q : Exit → Act → World → Prop} {E : Prop} (hg : o.guard = none) (s x : Operand) (t tn : TypeId)
    (ho : o.op = .call { callee := .builtin .copy, args := #[s, x], argTypes := #[t, tn] }) (vs vx : Value) (hs : a.eval s = vs) (hx : a.eval x = vx) (v' : Value) (w' : World)
    (H : (Builtin.copy_ #[t, tn] o.type #[vs, vx]).run P w = .ok v' w') (hK : K (a.put o.dst v') w') :
    if Region.wanted o (yielded ops a.tmps) = true then Oper.wp P o a w K Q else E := by
  have hw : Region.wanted o (yielded ops a.tmps) = true := by simp [Region.wanted, hg]
  rw [if_pos hw]
  unfold Oper.wp execOp
  simp only [ho, resolve, invoke, builtin, Sem.run_bind, Sem.run_pure, Result.andThen_ok, List.map_toArray, List.map_cons, List.map_nil, hs, hx, H]
  exact hK
theorem rowU8' : (Tryz.prog.info? 5).map (·.size) = some 1 := by kernel_rfl
theorem copy_cut {P : Program} (w : World) (ty rt e : TypeId) (hu : P.underlying ty = some (.slice e)) (hsz : (P.info? e).map (·.size) = some 1) {g : Nat} {k : IntKind} {zs : List Int} (hB : Blk w g k zs)
    (gs : Nat) (sp : Option Addr) (ys : List Int) (hr : Rd w gs sp k ys) (hl : zs.length ≤ ys.length) (dc sc : Nat) :
    ∃ w2, (Builtin.copy_ #[ty, ty] rt #[.slice (some ⟨g, 0, none⟩) zs.length dc, .slice sp ys.length sc]).run P w = .ok (goInt zs.length) w2 ∧ Blk w2 g k (ys.take zs.length) ∧ Only g w w2 := by
  by_cases h0 : 0 < zs.length
  · obtain ⟨off, rfl, hc⟩ := hr (by omega)
    obtain ⟨t, hB⟩ := hB
    have hlt : (ys.take zs.length).length = zs.length := by rw [List.length_take]; omega
    have hrun := run_copy_row (P := P) w ty ty rt e g 0 zs.length dc ⟨gs, off, none⟩ ys.length sc _ t ((ys.take zs.length).map (Value.int k)) hu hsz hB (by rw [List.length_map, hlt]; exact (Nat.min_eq_right hl).symm)
      (fun j v hj => by
        have hjl : j < zs.length := by
          have := (List.getElem?_eq_some_iff.1 hj).1
          rw [List.length_map, hlt] at this
          exact this
        rw [add_mid, hc j (by omega)]
        rw [List.getElem?_map, List.getElem?_take, if_pos hjl] at hj
        rw [List.getD_eq_getElem?_getD]
        cases hy : ys[j]? with
        | none => rw [hy] at hj; simp at hj
        | some y => rw [hy] at hj; simpa using hj) (by rw [List.length_map, hlt]; simp) (oneCells _ _)
    rw [List.length_map, hlt] at hrun
    refine ⟨_, hrun, ⟨t, ?_⟩, ⟨rfl, rfl, rfl, by simp, fun i hi => setRow_other w g i _ hi⟩⟩
    rw [setRow_heap w g _ _ t _ hB]
    simp
  · obtain rfl : zs = [] := List.eq_nil_of_length_eq_zero (by omega)
    exact ⟨w, run_copy_none (P := P) w ty ty rt e _ _ _ _ _ _ hu hsz (by simp), by simpa using hB, Only.refl _ _⟩
set_option maxHeartbeats 2000000 in
theorem takeList_mid (w : World) (p g : Nat) (a : Option Addr) (c : Nat) (xs : List Int) (i n : Nat) (hC : Cur w p (.slice a xs.length c) i) (hr : Rd w g a .u8 xs) (hc : xs.length ≤ c) (hn : xs.length ≤ 1048576) (hi : i < xs.length) (hin : i + n ≤ xs.length) :
    Calls Tryz.prog 70 #[.pointer (some ⟨p, 0, none⟩), .int .i64 (n : Int)] w fun e w' => e = .returned (.slice (some ⟨w.heap.size, 0, none⟩) n n) ∧ Blk w' w.heap.size .u8 ((xs.drop i).take n) ∧ Cur w' p (.slice a xs.length c) ((i + n : Nat) : Int) ∧ Kp p w w' := by
  obtain ⟨i0, hi0, hz0, hz1, hz2⟩ := info_parts Tryz.info5
  have c0 := hC.c0
  have c1 := hC.c1
  have pl := hC.lt
  have t1 : decide ((xs.length : Int) - (i : Int) < (n : Int)) = false := by simp; omega
  have q0 : (n : Int) ≤ 1048576 := by omega
  go_enter Tryz.func70, Tryz.ntmps70
  go_wp2
  go_quiet (fail)
  go_upto_region 4 with (at_make; refine wpList_make_full _ rfl _ _ 22 rfl w.heap.size 5 i0 (.int .u8 0) 1 Tryz.underlying22 hi0 hz0 hz1 .i64 .i64 _ _ n rfl rfl rfl rfl (by rw [hz2]; omega) (by unfold maxLen; omega) (Nat.le_refl _) ?_; intro w3 hown hgrow)
  have B3 := Blk.of_made hown
  have n3 : Below w.heap.size w w3 := (below_drewN (Below.refl _ _) nq).grown hgrow (Nat.le_refl _) (by simp)
  clear hown hgrow
  have z3 := n3.size
  have B3 : Blk w3 w.heap.size .u8 (List.replicate n 0) := B3
  have l3 := B3.lt
  have C3 := hC.up n3
  have R3 := hr.up n3
  obtain ⟨off, rfl, RR⟩ := R3.dropA i hi
  obtain ⟨w4, hcp, B4, O4⟩ := copy_cut (P := Tryz.prog) w3.drew 22 3 5 Tryz.underlying22 rowU8' B3.drew g (some ⟨g, off + i, none⟩) (xs.drop i) (RR.of_block rfl) (by rw [List.length_replicate, List.length_drop]; omega) n (c - i)
  rw [List.length_replicate] at hcp B4
  rw [List.length_drop] at hcp
  have C4 := Cur.only (w := w3.drew) C3 O4 (by omega)
  have d0 := C3.c0
  have d1 := C3.c1
  have e0 := C4.c0
  have e1 := C4.c1
  have f1 := C4.f1
  have C5 := C4.store ((i : Int) + (n : Int))
  have N5 : Kp p w (w4.setCell ⟨p, 1, none⟩ (.int .i64 ((i : Int) + (n : Int)))) := (below_kp (n3.drew.trans (O4.below (Nat.le_refl _)))).trans (Only.setCell _ _ _ _).kp
  have B5 : Blk (w4.setCell ⟨p, 1, none⟩ (.int .i64 ((i : Int) + (n : Int)))) w.heap.size .u8 ((xs.drop i).take n) := B4.of_block ((Only.setCell w4 p 1 _).block _ (by omega))
  have ci : ¬ (c = i) := by omega
  have j1 : (i : Int) ≤ (xs.length : Int) := by omega
  have j2 : (i : Int) ≤ (c : Int) := by omega
  have WR : IntKind.i64.wrap ((i : Int) + (n : Int)) = (i : Int) + (n : Int) := by rw [wrap_i64]; omega
  generalize hm : xs.length = m at *
  have HM := hide hm
  clear hm
  go_region_with (first | (refine step_copy_ex rfl (.tmp 25) (.tmp 34) 22 22 rfl _ _ rfl rfl _ _ hcp ?_) | fail)
  all_goals
    go_wp2
    go_ret
    exact ⟨rfl, B5, by rw [show ((i + n : Nat) : Int) = (i : Int) + (n : Int) by omega, HM.out]; exact C5, N5⟩
end Go.Proofs.YtccnhdicibjbaaaGreat
namespace Go.Proofs.YtccnhdicibjbaaaGreat
open Go Go.RowKit
set_option maxHeartbeats 2000000 in
theorem takeList_end (w : World) (p : Nat) (a : Option Addr) (m c : Nat) (hC : Cur w p (.slice a m c) (m : Int)) (hc0 : a = none → c = 0) (hc : m ≤ c) (hn : m ≤ 1048576) :
    Calls Tryz.prog 70 #[.pointer (some ⟨p, 0, none⟩), .int .i64 0] w fun e w' => e = .returned (.slice (some ⟨w.heap.size, 0, none⟩) 0 0) ∧ Blk w' w.heap.size .u8 [] ∧ Cur w' p (.slice a m c) (m : Int) ∧ Kp p w w' := by
  obtain ⟨i0, hi0, hz0, hz1, hz2⟩ := info_parts Tryz.info5
  have c0 := hC.c0
  have c1 := hC.c1
  have t1 : decide ((m : Int) - (m : Int) < 0) = false := by simp
  have q0 : (m : Int) ≤ 1048576 := by omega
  have j2 : (m : Int) ≤ (c : Int) := by omega
  have WR : IntKind.i64.wrap ((m : Int) + 0) = (m : Int) := by rw [wrap_i64]; omega
  have WR' : IntKind.i64.wrap (m : Int) = (m : Int) := by rw [wrap_i64]; omega
  have hcp := fun sp sc W => hide (run_copy_none (P := Tryz.prog) W 22 22 3 5 (some ⟨w.heap.size, 0, none⟩) sp 0 0 0 sc Tryz.underlying22 rowU8' (by simp))
  by_cases ha : a = none
  · subst ha
    obtain rfl := hc0 rfl
    obtain rfl : m = 0 := by omega
    go_enter Tryz.func70, Tryz.ntmps70
    go_wp2
    go_quiet (fail)
    go_upto_region 4 with (at_make; refine wpList_make_full _ rfl _ _ 22 rfl w.heap.size 5 i0 (.int .u8 0) 1 Tryz.underlying22 hi0 hz0 hz1 .i64 .i64 _ _ 0 rfl rfl rfl rfl (by rw [hz2]; omega) (by unfold maxLen; omega) (Nat.le_refl _) ?_; intro w3 hown hgrow)
    have B3 : Blk w3 w.heap.size .u8 [] := Blk.of_made hown
    have n3 : Below w.heap.size w w3 := (below_drewN (Below.refl _ _) nq).grown hgrow (Nat.le_refl _) (by simp)
    clear hown hgrow
    have C3 := hC.up n3
    have d0 := C3.c0
    have d1 := C3.c1
    have f1 := C3.f1
    have pl := hC.lt
    have C5 := C3.store (0)
    have N5 : Kp p w (w3.setCell ⟨p, 1, none⟩ (.int .i64 (0))) := (below_kp n3).trans (Only.setCell _ _ _ _).kp
    have B5 : Blk (w3.setCell ⟨p, 1, none⟩ (.int .i64 (0))) w.heap.size .u8 [] := B3.of_block ((Only.setCell w3 p 1 _).block _ (by omega))
    have HC := (hcp none 0 w3.drew).out
    go_region_with (first | (refine step_copy_ex rfl (.tmp 25) (.tmp 34) 22 22 rfl _ _ rfl rfl _ _ HC ?_) | fail)
    all_goals
      go_wp2
      go_ret
      exact ⟨rfl, B5, C5, ⟨N5.os, N5.tape, N5.output, N5.size, N5.block⟩⟩
  · obtain ⟨ad, rfl⟩ := Option.ne_none_iff_exists'.1 ha
    by_cases hcm : c = m
    · subst hcm
      go_enter Tryz.func70, Tryz.ntmps70
      go_wp2
      go_quiet (fail)
      go_upto_region 4 with (at_make; refine wpList_make_full _ rfl _ _ 22 rfl w.heap.size 5 i0 (.int .u8 0) 1 Tryz.underlying22 hi0 hz0 hz1 .i64 .i64 _ _ 0 rfl rfl rfl rfl (by rw [hz2]; omega) (by unfold maxLen; omega) (Nat.le_refl _) ?_; intro w3 hown hgrow)
      have B3 : Blk w3 w.heap.size .u8 [] := Blk.of_made hown
      have n3 : Below w.heap.size w w3 := (below_drewN (Below.refl _ _) nq).grown hgrow (Nat.le_refl _) (by simp)
      clear hown hgrow
      have C3 := hC.up n3
      have d0 := C3.c0
      have d1 := C3.c1
      have f1 := C3.f1
      have pl := hC.lt
      have C5 := C3.store ((c : Int))
      have N5 : Kp p w (w3.setCell ⟨p, 1, none⟩ (.int .i64 ((c : Int)))) := (below_kp n3).trans (Only.setCell _ _ _ _).kp
      have B5 : Blk (w3.setCell ⟨p, 1, none⟩ (.int .i64 ((c : Int)))) w.heap.size .u8 [] := B3.of_block ((Only.setCell w3 p 1 _).block _ (by omega))
      have HC := (hcp (some ad) 0 w3.drew).out
      go_region_with (first | (refine step_copy_ex rfl (.tmp 25) (.tmp 34) 22 22 rfl _ _ rfl rfl _ _ HC ?_) | fail)
      all_goals
        go_wp2
        go_ret
        exact ⟨rfl, B5, C5, ⟨N5.os, N5.tape, N5.output, N5.size, N5.block⟩⟩
    · go_enter Tryz.func70, Tryz.ntmps70
      go_wp2
      go_quiet (fail)
      go_upto_region 4 with (at_make; refine wpList_make_full _ rfl _ _ 22 rfl w.heap.size 5 i0 (.int .u8 0) 1 Tryz.underlying22 hi0 hz0 hz1 .i64 .i64 _ _ 0 rfl rfl rfl rfl (by rw [hz2]; omega) (by unfold maxLen; omega) (Nat.le_refl _) ?_; intro w3 hown hgrow)
      have B3 : Blk w3 w.heap.size .u8 [] := Blk.of_made hown
      have n3 : Below w.heap.size w w3 := (below_drewN (Below.refl _ _) nq).grown hgrow (Nat.le_refl _) (by simp)
      clear hown hgrow
      have C3 := hC.up n3
      have d0 := C3.c0
      have d1 := C3.c1
      have f1 := C3.f1
      have pl := hC.lt
      have C5 := C3.store ((m : Int))
      have N5 : Kp p w (w3.setCell ⟨p, 1, none⟩ (.int .i64 ((m : Int)))) := (below_kp n3).trans (Only.setCell _ _ _ _).kp
      have B5 : Blk (w3.setCell ⟨p, 1, none⟩ (.int .i64 ((m : Int)))) w.heap.size .u8 [] := B3.of_block ((Only.setCell w3 p 1 _).block _ (by omega))
      have HC := (hcp (some (ad.add m)) (c - m) w3.drew).out
      go_region_with (first | (refine step_copy_ex rfl (.tmp 25) (.tmp 34) 22 22 rfl _ _ rfl rfl _ _ HC ?_) | fail)
      all_goals
        go_wp2
        go_ret
        exact ⟨rfl, B5, C5, ⟨N5.os, N5.tape, N5.output, N5.size, N5.block⟩⟩
end Go.Proofs.YtccnhdicibjbaaaGreat
namespace Go.Proofs.YtccnhdicibjbaaaGreat
open Go Go.RowKit
set_option maxRecDepth 100000 in
theorem takeList_any (w : World) (p g : Nat) (a : Option Addr) (c : Nat) (xs : List Int) (i n : Nat) (hC : Cur w p (.slice a xs.length c) i) (hr : Rd w g a .u8 xs) (hc0 : a = none → c = 0) (hc : xs.length ≤ c) (hn : xs.length ≤ 1048576) (hi : i ≤ xs.length) (hin : i + n ≤ xs.length) :
    Calls Tryz.prog 70 #[.pointer (some ⟨p, 0, none⟩), .int .i64 (n : Int)] w fun e w' => e = .returned (.slice (some ⟨w.heap.size, 0, none⟩) n n) ∧ Blk w' w.heap.size .u8 ((xs.drop i).take n) ∧ Cur w' p (.slice a xs.length c) ((i + n : Nat) : Int) ∧ Kp p w w' := by
  by_cases h : i < xs.length
  · exact takeList_mid w p g a c xs i n hC hr hc hn h hin
  · obtain rfl : i = xs.length := by omega
    obtain rfl : n = 0 := by omega
    have := takeList_end w p a xs.length c hC hc0 hc hn
    simpa using this
set_option maxRecDepth 100000 in
set_option maxHeartbeats 1000000 in
theorem takeList_bad (w : World) (p : Nat) (a : Option Addr) (m c i n : Nat) (hC : Cur w p (.slice a m c) i) (hin : m < i + n) (hm : m ≤ 1048576) (hi : i ≤ m) :
    Calls Tryz.prog 70 #[.pointer (some ⟨p, 0, none⟩), .int .i64 (n : Int)] w fun e w' => Pan e ∧ Only p w w' := by
  have c0 := hC.c0
  have c1 := hC.c1
  have t1 : decide ((m : Int) - (i : Int) < (n : Int)) = true := by simp; omega
  clear hC
  go_enter Tryz.func70, Tryz.ntmps70
  go_wp2
  go_quiet (fail)
  go_wp2
  exact ⟨rfl, ⟨_, _, rfl⟩, Only.drewN w p _⟩
end Go.Proofs.YtccnhdicibjbaaaGreat
namespace Go.Proofs.YtccnhdicibjbaaaGreat
open Go Go.RowKit
theorem or_wrap (m x : Int) (x0 : 0 ≤ x) (x1 : x < 256) : bits .or .i64 (wrap64 (m * 256)) x = wrap64 (wrap64 (m * 256) + x) := by
  have e : wrap64 (m * 256) = (wrap64 (m * 256) / 256) * 256 := by unfold wrap64; omega
  have b0 : -9223372036854775808 ≤ wrap64 (m * 256) := by unfold wrap64; omega
  have b1 : wrap64 (m * 256) < 9223372036854775808 := by unfold wrap64; omega
  have := or_byte (wrap64 (m * 256) / 256) x (by omega) (by omega) x0 x1
  rw [← e] at this
  rw [this]
  generalize hv : wrap64 (m * 256) = v at *
  unfold wrap64
  omega
theorem nmV_step (xs : List Int) (i k : Nat) : nmV xs i (k + 1) = wrap64 (wrap64 (nmV xs i k * 256) + xs.getD (i + k) 0) := by
  unfold nmV wrap64
  simp only [beN]
  omega
set_option maxRecDepth 100000 in
set_option maxHeartbeats 1000000 in
theorem numberG_any (w : World) (p g : Nat) (a : Option Addr) (c : Nat) (xs : List Int) (i t : Nat) (hC : Cur w p (.slice a xs.length c) i) (hr : Rd w g a .u8 xs) (hb : Byt xs) (hgp : 0 < xs.length → g ≠ p) (hi : i + t ≤ xs.length) (ht : t ≤ 8) (hn : xs.length ≤ 4194304) :
    Calls Tryz.prog 71 #[.pointer (some ⟨p, 0, none⟩), .int .i64 (t : Int)] w fun e w' => e = .returned (.int .i64 (nmV xs i t)) ∧ Cur w' p (.slice a xs.length c) ((i + t : Nat) : Int) ∧ Only p w w' := by
  go_enter Tryz.func71, Tryz.ntmps71
  go_wp2
  go_loopw [5, 7] (fun v j wr => ∃ k : Nat, k ≤ t ∧ v = .int .i64 (nmV xs i k) ∧ j = .int .i64 k ∧ Cur wr p (.slice a xs.length c) ((i + k : Nat) : Int) ∧ Only p w wr) (fun _ j _ => t - (intOf j).toNat)
  case atStart => exact ⟨0, Nat.zero_le _, by rw [show nmV xs i 0 = 0 by unfold nmV wrap64 beN; decide], rfl, hC, Only.refl _ _⟩
  case round =>
    obtain ⟨k, hk, rfl, rfl, C, O⟩ := hrel
    by_cases hlt : k < t
    · have TK := hide (take_ok wr p g a c xs (i + k) C (hr.of_block' (fun h => O.block g (hgp h))) (by omega) (by omega))
      have bx := hb (i + k)
      have OR := or_wrap (nmV xs i k) (xs.getD (i + k) 0) bx.1 bx.2
      have e := hide (nmV_step xs i k)
      generalize nmV xs i k = m at *
      generalize xs.getD (i + k) 0 = x at *
      have x0 := bx.1
      have x1 := bx.2
      have k1 : (k : Int) < (t : Int) := by omega
      clear bx C
      go_wp2_with fail
      refine TK.out.mono ?_
      rintro r w' ⟨rfl, C', O'⟩
      clear TK
      go_wp2
      go_roundw
      case rel => exact ⟨k + 1, by omega, by rw [e.out], by go_num, C', O.trans O'⟩
      case measure => simp [intOf]; omega
    · obtain rfl : k = t := by omega
      go_wp2
      go_ret
      exact ⟨rfl, C, O⟩
set_option maxRecDepth 100000 in
set_option maxHeartbeats 1000000 in
theorem number_bad (w : World) (p g : Nat) (a : Option Addr) (c : Nat) (xs : List Int) (i t : Nat) (hC : Cur w p (.slice a xs.length c) i) (hr : Rd w g a .u8 xs) (hgp : 0 < xs.length → g ≠ p) (hi : i ≤ xs.length) (hit : xs.length < i + t) (ht : t ≤ 8) (hn : xs.length ≤ 4194304) :
    Calls Tryz.prog 71 #[.pointer (some ⟨p, 0, none⟩), .int .i64 (t : Int)] w fun e w' => Pan e ∧ Only p w w' := by
  go_enter Tryz.func71, Tryz.ntmps71
  go_wp2
  go_loopw [5, 7] (fun v j wr => ∃ (k : Nat) (m : Int), i + k ≤ xs.length ∧ v = .int .i64 m ∧ j = .int .i64 k ∧ Cur wr p (.slice a xs.length c) ((i + k : Nat) : Int) ∧ Only p w wr) (fun _ j _ => t - (intOf j).toNat)
  case atStart => exact ⟨0, 0, hi, rfl, rfl, hC, Only.refl _ _⟩
  case round =>
    obtain ⟨k, m, hk, rfl, rfl, C, O⟩ := hrel
    have k1 : (k : Int) < (t : Int) := by omega
    by_cases hlt : i + k < xs.length
    · have TK := hide (take_ok wr p g a c xs (i + k) C (hr.of_block' (fun h => O.block g (hgp h))) (by omega) (by omega))
      generalize xs.getD (i + k) 0 = x at *
      clear C
      go_wp2_with fail
      refine TK.out.mono ?_
      rintro r w' ⟨rfl, C', O'⟩
      clear TK
      go_wp2
      go_roundw
      case rel => exact ⟨k + 1, _, by omega, rfl, by go_num, C', O.trans O'⟩
      case measure => simp [intOf]; omega
    · have TK := hide (take_bad wr p a xs.length c ((i + k : Nat) : Int) C (by omega))
      clear C
      go_wp2_with fail
      refine TK.out.mono ?_
      rintro r w' ⟨⟨u, v, rfl⟩, O'⟩
      clear TK
      go_wp2
      exact ⟨rfl, ⟨_, _, rfl⟩, O.trans O'⟩
end Go.Proofs.YtccnhdicibjbaaaGreat
namespace Go.Proofs.YtccnhdicibjbaaaGreat
open Go Go.RowKit
theorem RwC.kp {w w' : World} {q p : Nat} {cs : List Value} {t : TypeId} (h : RwC w q cs t) (n : Kp p w w') (hq : q ≠ p) : RwC w' q cs t := (n.block q h.lt hq).trans h
theorem Blk.kp {w w' : World} {q p : Nat} {k : IntKind} {ys : List Int} (h : Blk w q k ys) (n : Kp p w w') (hq : q ≠ p) : Blk w' q k ys := h.of_block (n.block q h.lt hq)
theorem Kp.onl {p q : Nat} {a b c : World} (h : Kp p a b) (k : Only q b c) (hq : a.heap.size ≤ q) : Kp p a c :=
  ⟨k.os.trans h.os, k.tape.trans h.tape, k.output.trans h.output, by rw [k.size]; exact h.size, fun i hi hp => (k.block i (by omega)).trans (h.block i hi hp)⟩
set_option maxRecDepth 100000 in
set_option maxHeartbeats 2000000 in
theorem short_any (w : World) (p g : Nat) (a : Option Addr) (c : Nat) (xs : List Int) (i : Nat) (hC : Cur w p (.slice a xs.length c) i) (hr : Rd w g a .u8 xs) (hb : Byt xs) (hgp : 0 < xs.length → g ≠ p) (hc0 : a = none → c = 0) (hc : xs.length ≤ c) (hn : xs.length ≤ 1048576) (hi : i ≤ xs.length) :
    Calls Tryz.prog 72 #[.pointer (some ⟨p, 0, none⟩)] w fun e w' => ((i + 1 + (beN xs i 1).toNat ≤ xs.length ∧ e = .returned (.string ⟨⟨txB (tkB xs (i + 1) (beN xs i 1).toNat)⟩⟩) ∧ Cur w' p (.slice a xs.length c) ((i + 1 + (beN xs i 1).toNat : Nat) : Int)) ∨ (xs.length < i + 1 + (beN xs i 1).toNat ∧ Pan e)) ∧ Kp p w w' := by
  by_cases h1 : i + 1 ≤ xs.length
  · have NM := hide (numberG_any w p g a c xs i 1 hC hr hb hgp h1 (by omega) (by omega))
    rw [nmV_small hb i 1 (by decide)] at NM
    have r := beN_rng hb i 1
    obtain ⟨n, hn1⟩ := Int.eq_ofNat_of_zero_le r.1
    have e1 : (beN xs i 1).toNat = n := by omega
    rw [e1]
    rw [hn1] at NM
    clear hn1 e1 r hC
    go_enter Tryz.func72, Tryz.ntmps72
    go_wp2_with fail
    refine NM.out.mono ?_
    rintro e w1 ⟨rfl, C1, O1⟩
    clear NM
    have hr1 := hr.of_block' (fun h => O1.block g (hgp h))
    by_cases h2 : i + 1 + n ≤ xs.length
    · have TL := hide (takeList_any w1 p g a c xs (i + 1) n C1 hr1 hc0 hc hn h1 h2)
      rw [tkB_take xs (i + 1) n h2] at TL
      have H2 := hide h2
      clear C1 hr1 h2
      go_wp2_with fail
      refine TL.out.mono ?_
      rintro e w2 ⟨rfl, B2, C2, K2⟩
      have cv := conv_run w2 _ _ n _ B2.own0.rd
      rw [tkB_len, str_is] at cv
      have KK := O1.kp.trans K2
      clear TL B2 K2 O1
      go_wp2
      go_ret
      exact ⟨.inl ⟨H2.out, rfl, C2⟩, KK⟩
    · have TL := hide (takeList_bad w1 p a xs.length c (i + 1) n C1 (by omega) hn h1)
      have H2 := hide (show xs.length < i + 1 + n by omega)
      clear C1 hr1 h2
      go_wp2_with fail
      refine TL.out.mono ?_
      rintro e w2 ⟨⟨t, v, rfl⟩, O2⟩
      go_wp2
      exact ⟨rfl, .inr ⟨H2.out, t, v, rfl⟩, O1.kp.trans O2.kp⟩
  · have NM := hide (number_bad w p g a c xs i 1 hC hr hgp hi (by omega) (by omega) (by omega))
    have H2 := hide (show xs.length < i + 1 + (beN xs i 1).toNat by omega)
    clear hC h1
    go_enter Tryz.func72, Tryz.ntmps72
    go_wp2_with fail
    refine NM.out.mono ?_
    rintro e w2 ⟨⟨t, v, rfl⟩, O2⟩
    go_wp2
    exact ⟨rfl, .inr ⟨H2.out, t, v, rfl⟩, O2.kp⟩
set_option maxRecDepth 100000 in
set_option maxHeartbeats 16000000 in
theorem state_any (w : World) (p g : Nat) (a : Option Addr) (c : Nat) (b : List Int) (hC : Cur w p (.slice a b.length c) ((0 : Nat) : Int)) (hr : Rd w g a .u8 b) (hb : Byt b) (hgp : 0 < b.length → g ≠ p) (hc0 : a = none → c = 0) (hc : b.length ≤ c) (hn : b.length ≤ 1048576) :
    Calls Tryz.prog 46 #[.pointer (some ⟨p, 0, none⟩)] w fun e w' => ((82 + dn1 b + dn2 b ≤ b.length ∧ ∃ gX gY, e = .returned (.agg #[.slice (some ⟨gX, 0, none⟩) 32 32, .slice (some ⟨gY, 0, none⟩) 32 32, .int .i64 (dM b), .int .i64 (dL b), .string ⟨⟨dH b⟩⟩, .string ⟨⟨dP b⟩⟩, .int .i64 (dE b)]) ∧ Blk w' gX .u8 (dX b) ∧ Blk w' gY .u8 (dY b) ∧ w.heap.size ≤ gX ∧ gX < gY) ∨ (¬ 82 + dn1 b + dn2 b ≤ b.length ∧ Pan e)) ∧ Kp p w w' := by
  obtain ⟨dR, hdR, hrowR⟩ := rowTs
  have pl := hC.lt
  have z1 : (w.alloc (.cells #[.slice none 0 0, .slice none 0 0, .int .i64 0, .int .i64 0, .string ⟨#[]⟩, .string ⟨#[]⟩, .int .i64 0] 24)).heap.size = w.heap.size + 1 := by simp
  have n1 : Below w.heap.size w (w.alloc (.cells #[.slice none 0 0, .slice none 0 0, .int .i64 0, .int .i64 0, .string ⟨#[]⟩, .string ⟨#[]⟩, .int .i64 0] 24)) := (Below.refl _ _).alloc (Nat.le_refl _) _
  have n2 : Below (w.alloc (.cells #[.slice none 0 0, .slice none 0 0, .int .i64 0, .int .i64 0, .string ⟨#[]⟩, .string ⟨#[]⟩, .int .i64 0] 24)).heap.size (w.alloc (.cells #[.slice none 0 0, .slice none 0 0, .int .i64 0, .int .i64 0, .string ⟨#[]⟩, .string ⟨#[]⟩, .int .i64 0] 24)) ((w.alloc (.cells #[.slice none 0 0, .slice none 0 0, .int .i64 0, .int .i64 0, .string ⟨#[]⟩, .string ⟨#[]⟩, .int .i64 0] 24)).alloc (.cells #[.slice none 0 0, .slice none 0 0, .int .i64 0, .int .i64 0, .string ⟨#[]⟩, .string ⟨#[]⟩, .int .i64 0] 24)) := (Below.refl _ _).alloc (Nat.le_refl _) _
  have Q0 : RwC (w.alloc (.cells #[.slice none 0 0, .slice none 0 0, .int .i64 0, .int .i64 0, .string ⟨#[]⟩, .string ⟨#[]⟩, .int .i64 0] 24)) w.heap.size [.slice none 0 0, .slice none 0 0, .int .i64 0, .int .i64 0, .string ⟨#[]⟩, .string ⟨#[]⟩, .int .i64 0] 24 := RwC.new w _ _
  have T0 : RwC ((w.alloc (.cells #[.slice none 0 0, .slice none 0 0, .int .i64 0, .int .i64 0, .string ⟨#[]⟩, .string ⟨#[]⟩, .int .i64 0] 24)).alloc (.cells #[.slice none 0 0, .slice none 0 0, .int .i64 0, .int .i64 0, .string ⟨#[]⟩, .string ⟨#[]⟩, .int .i64 0] 24)) (w.alloc (.cells #[.slice none 0 0, .slice none 0 0, .int .i64 0, .int .i64 0, .string ⟨#[]⟩, .string ⟨#[]⟩, .int .i64 0] 24)).heap.size [.slice none 0 0, .slice none 0 0, .int .i64 0, .int .i64 0, .string ⟨#[]⟩, .string ⟨#[]⟩, .int .i64 0] 24 := RwC.new _ _ _
  replace Q0 := Q0.up n2
  have N := nxt n1 n2
  rw [z1] at T0
  have zt : w.heap.size + 1 < ((w.alloc (.cells #[.slice none 0 0, .slice none 0 0, .int .i64 0, .int .i64 0, .string ⟨#[]⟩, .string ⟨#[]⟩, .int .i64 0] 24)).alloc (.cells #[.slice none 0 0, .slice none 0 0, .int .i64 0, .int .i64 0, .string ⟨#[]⟩, .string ⟨#[]⟩, .int .i64 0] 24)).heap.size := T0.lt
  have C0 := hC.up N
  have K : Kp p w ((w.alloc (.cells #[.slice none 0 0, .slice none 0 0, .int .i64 0, .int .i64 0, .string ⟨#[]⟩, .string ⟨#[]⟩, .int .i64 0] 24)).alloc (.cells #[.slice none 0 0, .slice none 0 0, .int .i64 0, .int .i64 0, .string ⟨#[]⟩, .string ⟨#[]⟩, .int .i64 0] 24)) := below_kp N
  have L1 := hide (dn1_is hb)
  have L2 := hide (dn2_is hb)
  have E1 : Hid ((beN b 80 1).toNat = dn1 b) := rfl
  have E2 : Hid ((beN b (81 + dn1 b) 1).toNat = dn2 b) := rfl
  clear n1 n2 z1 hC N
  go_enter Tryz.func46, Tryz.ntmps46
  go_wp2_with fail
  generalize (w.alloc (.cells #[.slice none 0 0, .slice none 0 0, .int .i64 0, .int .i64 0, .string ⟨#[]⟩, .string ⟨#[]⟩, .int .i64 0] 24)).alloc (.cells #[.slice none 0 0, .slice none 0 0, .int .i64 0, .int .i64 0, .string ⟨#[]⟩, .string ⟨#[]⟩, .int .i64 0] 24) = v0 at *
  have hrk := hr.kp K hgp
  by_cases h0 : 0 + 32 ≤ b.length
  · skip
    have ST := hide (takeList_any v0 p g a c b (0) 32 C0 hrk hc0 hc hn (by omega) h0)
    rw [tkB_take b (0) 32 h0] at ST
    clear hrk
    refine ST.out.mono ?_
    rintro e x0 ⟨rfl, B0, C1, KS⟩
    clear ST
    have zx0 := KS.size
    replace K := K.trans KS
    replace Q0 := Q0.kp KS (by omega)
    replace T0 := T0.kp KS (by omega)
    clear KS C0
    obtain ⟨gX, hgX⟩ : ∃ q, q = v0.heap.size := ⟨_, rfl⟩
    rw [← hgX] at B0 ⊢
    have BX : Blk x0 gX .u8 (dX b) := B0
    have lgX := BX.lt
    have ygX : w.heap.size + 1 < gX := by omega
    clear hgX B0
    replace C1 : Cur x0 p (.slice a b.length c) ((32 : Nat) : Int) := by have := C1; rwa [show 0 + 32 = 32 by omega] at this
    have tc : x0.cell? ⟨w.heap.size + 1, 0, none⟩ = some (.slice none 0 0) := T0.cell 0
    have tf := T0.free 0
    have OS := Only.setCell x0 (w.heap.size + 1) 0 (.slice (some ⟨gX, 0, none⟩) 32 32)
    have T1 : RwC (x0.setCell ⟨w.heap.size + 1, 0, none⟩ (.slice (some ⟨gX, 0, none⟩) 32 32)) (w.heap.size + 1) [.slice (some ⟨gX, 0, none⟩) 32 32, .slice none 0 0, .int .i64 0, .int .i64 0, .string ⟨#[]⟩, .string ⟨#[]⟩, .int .i64 0] 24 := T0.set 0 _
    have C2 := C1.onl OS (by omega)
    have Q1 := Q0.onl OS (by omega)
    have BXn := BX.of_block (OS.block gX (by omega))
    have K1 := K.onl OS (by omega)
    have zs0 : x0.heap.size ≤ (x0.setCell ⟨w.heap.size + 1, 0, none⟩ (.slice (some ⟨gX, 0, none⟩) 32 32)).heap.size := Nat.le_of_eq OS.size.symm
    clear K Q0 T0 C1 OS BX
    go_wp2_with fail
    generalize x0.setCell ⟨w.heap.size + 1, 0, none⟩ (.slice (some ⟨gX, 0, none⟩) 32 32) = u0 at *
    clear tc tf
    have C0 := C2
    have Q0 := Q1
    have T0 := T1
    have K := K1
    clear C2 Q1 T1 K1
    have BX := BXn
    clear BXn
    have hrk := hr.kp K hgp
    by_cases h1 : 32 + 32 ≤ b.length
    · skip
      have ST := hide (takeList_any u0 p g a c b (32) 32 C0 hrk hc0 hc hn (by omega) h1)
      rw [tkB_take b (32) 32 h1] at ST
      skip
      clear hrk
      refine ST.out.mono ?_
      rintro e x1 ⟨rfl, B1, C1, KS⟩
      clear ST
      have zx1 := KS.size
      replace K := K.trans KS
      replace Q0 := Q0.kp KS (by omega)
      replace T0 := T0.kp KS (by omega)
      replace BX := BX.kp KS (by omega)
      clear KS C0
      obtain ⟨gY, hgY⟩ : ∃ q, q = u0.heap.size := ⟨_, rfl⟩
      rw [← hgY] at B1 ⊢
      have BY : Blk x1 gY .u8 (dY b) := B1
      have lgY := BY.lt
      have ygY : gX < gY := by omega
      clear hgY B1
      replace C1 : Cur x1 p (.slice a b.length c) ((64 : Nat) : Int) := by have := C1; rwa [show 32 + 32 = 64 by omega] at this
      have tc : x1.cell? ⟨w.heap.size + 1, 1, none⟩ = some (.slice none 0 0) := T0.cell 1
      have tf := T0.free 1
      have OS := Only.setCell x1 (w.heap.size + 1) 1 (.slice (some ⟨gY, 0, none⟩) 32 32)
      have T1 : RwC (x1.setCell ⟨w.heap.size + 1, 1, none⟩ (.slice (some ⟨gY, 0, none⟩) 32 32)) (w.heap.size + 1) [.slice (some ⟨gX, 0, none⟩) 32 32, .slice (some ⟨gY, 0, none⟩) 32 32, .int .i64 0, .int .i64 0, .string ⟨#[]⟩, .string ⟨#[]⟩, .int .i64 0] 24 := T0.set 1 _
      have C2 := C1.onl OS (by omega)
      have Q1 := Q0.onl OS (by omega)
      have BXn := BX.of_block (OS.block gX (by omega))
      have BYn := BY.of_block (OS.block gY (by omega))
      have K1 := K.onl OS (by omega)
      have zs1 : x1.heap.size ≤ (x1.setCell ⟨w.heap.size + 1, 1, none⟩ (.slice (some ⟨gY, 0, none⟩) 32 32)).heap.size := Nat.le_of_eq OS.size.symm
      clear K Q0 T0 C1 OS BX BY
      go_wp2_with fail
      generalize x1.setCell ⟨w.heap.size + 1, 1, none⟩ (.slice (some ⟨gY, 0, none⟩) 32 32) = u1 at *
      clear tc tf
      have C0 := C2
      have Q0 := Q1
      have T0 := T1
      have K := K1
      clear C2 Q1 T1 K1
      have BX := BXn
      clear BXn
      have BY := BYn
      clear BYn
      have hrk := hr.kp K hgp
      by_cases h2 : 64 + 8 ≤ b.length
      · skip
        have ST := hide (numberG_any u1 p g a c b (64) 8 C0 hrk hb hgp h2 (by omega) (by omega))
        skip
        clear hrk
        refine ST.out.mono ?_
        rintro e x2 ⟨rfl, C1, OS⟩
        have KS := OS.kp
        clear ST OS
        have zx2 := KS.size
        replace K := K.trans KS
        replace Q0 := Q0.kp KS (by omega)
        replace T0 := T0.kp KS (by omega)
        replace BX := BX.kp KS (by omega)
        replace BY := BY.kp KS (by omega)
        clear KS C0
        rw [show nmV b (64) 8 = dM b from rfl]
        replace C1 : Cur x2 p (.slice a b.length c) ((72 : Nat) : Int) := by have := C1; rwa [show 64 + 8 = 72 by omega] at this
        have tc : x2.cell? ⟨w.heap.size + 1, 2, none⟩ = some (.int .i64 0) := T0.cell 2
        have tf := T0.free 2
        have OS := Only.setCell x2 (w.heap.size + 1) 2 (.int .i64 (dM b))
        have T1 : RwC (x2.setCell ⟨w.heap.size + 1, 2, none⟩ (.int .i64 (dM b))) (w.heap.size + 1) [.slice (some ⟨gX, 0, none⟩) 32 32, .slice (some ⟨gY, 0, none⟩) 32 32, .int .i64 (dM b), .int .i64 0, .string ⟨#[]⟩, .string ⟨#[]⟩, .int .i64 0] 24 := T0.set 2 _
        have C2 := C1.onl OS (by omega)
        have Q1 := Q0.onl OS (by omega)
        have BXn := BX.of_block (OS.block gX (by omega))
        have BYn := BY.of_block (OS.block gY (by omega))
        have K1 := K.onl OS (by omega)
        have zs2 : x2.heap.size ≤ (x2.setCell ⟨w.heap.size + 1, 2, none⟩ (.int .i64 (dM b))).heap.size := Nat.le_of_eq OS.size.symm
        clear K Q0 T0 C1 OS BX BY
        go_wp2_with fail
        generalize x2.setCell ⟨w.heap.size + 1, 2, none⟩ (.int .i64 (dM b)) = u2 at *
        clear tc tf
        have C0 := C2
        have Q0 := Q1
        have T0 := T1
        have K := K1
        clear C2 Q1 T1 K1
        have BX := BXn
        clear BXn
        have BY := BYn
        clear BYn
        have hrk := hr.kp K hgp
        by_cases h3 : 72 + 4 ≤ b.length
        · skip
          have ST := hide (numberG_any u2 p g a c b (72) 4 C0 hrk hb hgp h3 (by omega) (by omega))
          skip
          clear hrk
          refine ST.out.mono ?_
          rintro e x3 ⟨rfl, C1, OS⟩
          have KS := OS.kp
          clear ST OS
          have zx3 := KS.size
          replace K := K.trans KS
          replace Q0 := Q0.kp KS (by omega)
          replace T0 := T0.kp KS (by omega)
          replace BX := BX.kp KS (by omega)
          replace BY := BY.kp KS (by omega)
          clear KS C0
          rw [show nmV b (72) 4 = dL b from rfl]
          replace C1 : Cur x3 p (.slice a b.length c) ((76 : Nat) : Int) := by have := C1; rwa [show 72 + 4 = 76 by omega] at this
          have tc : x3.cell? ⟨w.heap.size + 1, 3, none⟩ = some (.int .i64 0) := T0.cell 3
          have tf := T0.free 3
          have OS := Only.setCell x3 (w.heap.size + 1) 3 (.int .i64 (dL b))
          have T1 : RwC (x3.setCell ⟨w.heap.size + 1, 3, none⟩ (.int .i64 (dL b))) (w.heap.size + 1) [.slice (some ⟨gX, 0, none⟩) 32 32, .slice (some ⟨gY, 0, none⟩) 32 32, .int .i64 (dM b), .int .i64 (dL b), .string ⟨#[]⟩, .string ⟨#[]⟩, .int .i64 0] 24 := T0.set 3 _
          have C2 := C1.onl OS (by omega)
          have Q1 := Q0.onl OS (by omega)
          have BXn := BX.of_block (OS.block gX (by omega))
          have BYn := BY.of_block (OS.block gY (by omega))
          have K1 := K.onl OS (by omega)
          have zs3 : x3.heap.size ≤ (x3.setCell ⟨w.heap.size + 1, 3, none⟩ (.int .i64 (dL b))).heap.size := Nat.le_of_eq OS.size.symm
          clear K Q0 T0 C1 OS BX BY
          go_wp2_with fail
          generalize x3.setCell ⟨w.heap.size + 1, 3, none⟩ (.int .i64 (dL b)) = u3 at *
          clear tc tf
          have C0 := C2
          have Q0 := Q1
          have T0 := T1
          have K := K1
          clear C2 Q1 T1 K1
          have BX := BXn
          clear BXn
          have BY := BYn
          clear BYn
          have hrk := hr.kp K hgp
          by_cases h4 : 76 + 4 ≤ b.length
          · skip
            have ST := hide (numberG_any u3 p g a c b (76) 4 C0 hrk hb hgp h4 (by omega) (by omega))
            skip
            clear hrk
            refine ST.out.mono ?_
            rintro e x4 ⟨rfl, C1, OS⟩
            have KS := OS.kp
            clear ST OS
            have zx4 := KS.size
            replace K := K.trans KS
            replace Q0 := Q0.kp KS (by omega)
            replace T0 := T0.kp KS (by omega)
            replace BX := BX.kp KS (by omega)
            replace BY := BY.kp KS (by omega)
            clear KS C0
            rw [show nmV b (76) 4 = dE b from rfl]
            replace C1 : Cur x4 p (.slice a b.length c) ((80 : Nat) : Int) := by have := C1; rwa [show 76 + 4 = 80 by omega] at this
            have tc : x4.cell? ⟨w.heap.size + 1, 6, none⟩ = some (.int .i64 0) := T0.cell 6
            have tf := T0.free 6
            have OS := Only.setCell x4 (w.heap.size + 1) 6 (.int .i64 (dE b))
            have T1 : RwC (x4.setCell ⟨w.heap.size + 1, 6, none⟩ (.int .i64 (dE b))) (w.heap.size + 1) [.slice (some ⟨gX, 0, none⟩) 32 32, .slice (some ⟨gY, 0, none⟩) 32 32, .int .i64 (dM b), .int .i64 (dL b), .string ⟨#[]⟩, .string ⟨#[]⟩, .int .i64 (dE b)] 24 := T0.set 6 _
            have C2 := C1.onl OS (by omega)
            have Q1 := Q0.onl OS (by omega)
            have BXn := BX.of_block (OS.block gX (by omega))
            have BYn := BY.of_block (OS.block gY (by omega))
            have K1 := K.onl OS (by omega)
            have zs4 : x4.heap.size ≤ (x4.setCell ⟨w.heap.size + 1, 6, none⟩ (.int .i64 (dE b))).heap.size := Nat.le_of_eq OS.size.symm
            clear K Q0 T0 C1 OS BX BY
            go_wp2_with fail
            generalize x4.setCell ⟨w.heap.size + 1, 6, none⟩ (.int .i64 (dE b)) = u4 at *
            clear tc tf
            have C0 := C2
            have Q0 := Q1
            have T0 := T1
            have K := K1
            clear C2 Q1 T1 K1
            have BX := BXn
            clear BXn
            have BY := BYn
            clear BYn
            have hrk := hr.kp K hgp
            have ST := hide (short_any u4 p g a c b (80) C0 hrk hb hgp hc0 hc hn (by omega))
            rw [E1.out] at ST
            skip
            clear hrk
            refine ST.out.mono ?_
            rintro e x5 ⟨hs, KS⟩
            clear ST
            rcases hs with ⟨h5, rfl, C1⟩ | ⟨h5, t, v, rfl⟩
            rotate_left
            · have H2 := hide (show ¬ 82 + dn1 b + dn2 b ≤ b.length by omega)
              go_wp2
              exact ⟨rfl, .inr ⟨H2.out, t, v, rfl⟩, K.trans KS⟩
            have zx5 := KS.size
            replace K := K.trans KS
            replace Q0 := Q0.kp KS (by omega)
            replace T0 := T0.kp KS (by omega)
            replace BX := BX.kp KS (by omega)
            replace BY := BY.kp KS (by omega)
            clear KS C0
            rw [show txB (tkB b (80 + 1) (dn1 b)) = dH b from rfl]
            replace C1 : Cur x5 p (.slice a b.length c) ((81 + dn1 b : Nat) : Int) := by have := C1; rwa [show 80 + 1 + dn1 b = 81 + dn1 b by omega] at this
            have tc : x5.cell? ⟨w.heap.size + 1, 4, none⟩ = some (.string ⟨#[]⟩) := T0.cell 4
            have tf := T0.free 4
            have OS := Only.setCell x5 (w.heap.size + 1) 4 (.string ⟨⟨dH b⟩⟩)
            have T1 : RwC (x5.setCell ⟨w.heap.size + 1, 4, none⟩ (.string ⟨⟨dH b⟩⟩)) (w.heap.size + 1) [.slice (some ⟨gX, 0, none⟩) 32 32, .slice (some ⟨gY, 0, none⟩) 32 32, .int .i64 (dM b), .int .i64 (dL b), .string ⟨⟨dH b⟩⟩, .string ⟨#[]⟩, .int .i64 (dE b)] 24 := T0.set 4 _
            have C2 := C1.onl OS (by omega)
            have Q1 := Q0.onl OS (by omega)
            have BXn := BX.of_block (OS.block gX (by omega))
            have BYn := BY.of_block (OS.block gY (by omega))
            have K1 := K.onl OS (by omega)
            have zs5 : x5.heap.size ≤ (x5.setCell ⟨w.heap.size + 1, 4, none⟩ (.string ⟨⟨dH b⟩⟩)).heap.size := Nat.le_of_eq OS.size.symm
            clear K Q0 T0 C1 OS BX BY
            go_wp2_with fail
            generalize x5.setCell ⟨w.heap.size + 1, 4, none⟩ (.string ⟨⟨dH b⟩⟩) = u5 at *
            clear tc tf
            have C0 := C2
            have Q0 := Q1
            have T0 := T1
            have K := K1
            clear C2 Q1 T1 K1
            have BX := BXn
            clear BXn
            have BY := BYn
            clear BYn
            have hrk := hr.kp K hgp
            have ST := hide (short_any u5 p g a c b (81 + dn1 b) C0 hrk hb hgp hc0 hc hn (by omega))
            rw [E2.out] at ST
            skip
            clear hrk
            refine ST.out.mono ?_
            rintro e x6 ⟨hs, KS⟩
            clear ST
            rcases hs with ⟨h6, rfl, C1⟩ | ⟨h6, t, v, rfl⟩
            rotate_left
            · have H2 := hide (show ¬ 82 + dn1 b + dn2 b ≤ b.length by omega)
              go_wp2
              exact ⟨rfl, .inr ⟨H2.out, t, v, rfl⟩, K.trans KS⟩
            have zx6 := KS.size
            replace K := K.trans KS
            replace Q0 := Q0.kp KS (by omega)
            replace T0 := T0.kp KS (by omega)
            replace BX := BX.kp KS (by omega)
            replace BY := BY.kp KS (by omega)
            clear KS C0
            rw [show txB (tkB b (81 + dn1 b + 1) (dn2 b)) = dP b from by unfold dP; rw [show 81 + dn1 b + 1 = 82 + dn1 b by omega]]
            replace C1 : Cur x6 p (.slice a b.length c) ((82 + dn1 b + dn2 b : Nat) : Int) := by have := C1; rwa [show 81 + dn1 b + 1 + dn2 b = 82 + dn1 b + dn2 b by omega] at this
            have tc : x6.cell? ⟨w.heap.size + 1, 5, none⟩ = some (.string ⟨#[]⟩) := T0.cell 5
            have tf := T0.free 5
            have OS := Only.setCell x6 (w.heap.size + 1) 5 (.string ⟨⟨dP b⟩⟩)
            have T1 : RwC (x6.setCell ⟨w.heap.size + 1, 5, none⟩ (.string ⟨⟨dP b⟩⟩)) (w.heap.size + 1) [.slice (some ⟨gX, 0, none⟩) 32 32, .slice (some ⟨gY, 0, none⟩) 32 32, .int .i64 (dM b), .int .i64 (dL b), .string ⟨⟨dH b⟩⟩, .string ⟨⟨dP b⟩⟩, .int .i64 (dE b)] 24 := T0.set 5 _
            have C2 := C1.onl OS (by omega)
            have Q1 := Q0.onl OS (by omega)
            have BXn := BX.of_block (OS.block gX (by omega))
            have BYn := BY.of_block (OS.block gY (by omega))
            have K1 := K.onl OS (by omega)
            have zs6 : x6.heap.size ≤ (x6.setCell ⟨w.heap.size + 1, 5, none⟩ (.string ⟨⟨dP b⟩⟩)).heap.size := Nat.le_of_eq OS.size.symm
            clear K Q0 T0 C1 OS BX BY
            have t0 : (x6.setCell ⟨w.heap.size + 1, 5, none⟩ (.string ⟨⟨dP b⟩⟩)).cell? ⟨w.heap.size + 1, 0, none⟩ = some (.slice (some ⟨gX, 0, none⟩) 32 32) := T1.cell 0
            have qc0 : (x6.setCell ⟨w.heap.size + 1, 5, none⟩ (.string ⟨⟨dP b⟩⟩)).cell? ⟨w.heap.size, 0, none⟩ = some (.slice none 0 0) := Q1.cell 0
            have qf0 := Q1.free 0
            have t1 : (x6.setCell ⟨w.heap.size + 1, 5, none⟩ (.string ⟨⟨dP b⟩⟩)).cell? ⟨w.heap.size + 1, 1, none⟩ = some (.slice (some ⟨gY, 0, none⟩) 32 32) := T1.cell 1
            have qc1 : (x6.setCell ⟨w.heap.size + 1, 5, none⟩ (.string ⟨⟨dP b⟩⟩)).cell? ⟨w.heap.size, 1, none⟩ = some (.slice none 0 0) := Q1.cell 1
            have qf1 := Q1.free 1
            have t2 : (x6.setCell ⟨w.heap.size + 1, 5, none⟩ (.string ⟨⟨dP b⟩⟩)).cell? ⟨w.heap.size + 1, 2, none⟩ = some (.int .i64 (dM b)) := T1.cell 2
            have qc2 : (x6.setCell ⟨w.heap.size + 1, 5, none⟩ (.string ⟨⟨dP b⟩⟩)).cell? ⟨w.heap.size, 2, none⟩ = some (.int .i64 0) := Q1.cell 2
            have qf2 := Q1.free 2
            have t3 : (x6.setCell ⟨w.heap.size + 1, 5, none⟩ (.string ⟨⟨dP b⟩⟩)).cell? ⟨w.heap.size + 1, 3, none⟩ = some (.int .i64 (dL b)) := T1.cell 3
            have qc3 : (x6.setCell ⟨w.heap.size + 1, 5, none⟩ (.string ⟨⟨dP b⟩⟩)).cell? ⟨w.heap.size, 3, none⟩ = some (.int .i64 0) := Q1.cell 3
            have qf3 := Q1.free 3
            have t4 : (x6.setCell ⟨w.heap.size + 1, 5, none⟩ (.string ⟨⟨dP b⟩⟩)).cell? ⟨w.heap.size + 1, 4, none⟩ = some (.string ⟨⟨dH b⟩⟩) := T1.cell 4
            have qc4 : (x6.setCell ⟨w.heap.size + 1, 5, none⟩ (.string ⟨⟨dP b⟩⟩)).cell? ⟨w.heap.size, 4, none⟩ = some (.string ⟨#[]⟩) := Q1.cell 4
            have qf4 := Q1.free 4
            have t5 : (x6.setCell ⟨w.heap.size + 1, 5, none⟩ (.string ⟨⟨dP b⟩⟩)).cell? ⟨w.heap.size + 1, 5, none⟩ = some (.string ⟨⟨dP b⟩⟩) := T1.cell 5
            have qc5 : (x6.setCell ⟨w.heap.size + 1, 5, none⟩ (.string ⟨⟨dP b⟩⟩)).cell? ⟨w.heap.size, 5, none⟩ = some (.string ⟨#[]⟩) := Q1.cell 5
            have qf5 := Q1.free 5
            have t6 : (x6.setCell ⟨w.heap.size + 1, 5, none⟩ (.string ⟨⟨dP b⟩⟩)).cell? ⟨w.heap.size + 1, 6, none⟩ = some (.int .i64 (dE b)) := T1.cell 6
            have qc6 : (x6.setCell ⟨w.heap.size + 1, 5, none⟩ (.string ⟨⟨dP b⟩⟩)).cell? ⟨w.heap.size, 6, none⟩ = some (.int .i64 0) := Q1.cell 6
            have qf6 := Q1.free 6
            have RF : RwC ((((((((x6.setCell ⟨w.heap.size + 1, 5, none⟩ (.string ⟨⟨dP b⟩⟩)).setCell ⟨w.heap.size, 0, none⟩ (.slice (some ⟨gX, 0, none⟩) 32 32)).setCell ⟨w.heap.size, 1, none⟩ (.slice (some ⟨gY, 0, none⟩) 32 32)).setCell ⟨w.heap.size, 2, none⟩ (.int .i64 (dM b))).setCell ⟨w.heap.size, 3, none⟩ (.int .i64 (dL b))).setCell ⟨w.heap.size, 4, none⟩ (.string ⟨⟨dH b⟩⟩)).setCell ⟨w.heap.size, 5, none⟩ (.string ⟨⟨dP b⟩⟩)).setCell ⟨w.heap.size, 6, none⟩ (.int .i64 (dE b))) w.heap.size [.slice (some ⟨gX, 0, none⟩) 32 32, .slice (some ⟨gY, 0, none⟩) 32 32, .int .i64 (dM b), .int .i64 (dL b), .string ⟨⟨dH b⟩⟩, .string ⟨⟨dP b⟩⟩, .int .i64 (dE b)] 24 := (((((((Q1.set 0 (.slice (some ⟨gX, 0, none⟩) 32 32)).set 1 (.slice (some ⟨gY, 0, none⟩) 32 32)).set 2 (.int .i64 (dM b))).set 3 (.int .i64 (dL b))).set 4 (.string ⟨⟨dH b⟩⟩)).set 5 (.string ⟨⟨dP b⟩⟩)).set 6 (.int .i64 (dE b)))
            have OF : Only w.heap.size (x6.setCell ⟨w.heap.size + 1, 5, none⟩ (.string ⟨⟨dP b⟩⟩)) ((((((((x6.setCell ⟨w.heap.size + 1, 5, none⟩ (.string ⟨⟨dP b⟩⟩)).setCell ⟨w.heap.size, 0, none⟩ (.slice (some ⟨gX, 0, none⟩) 32 32)).setCell ⟨w.heap.size, 1, none⟩ (.slice (some ⟨gY, 0, none⟩) 32 32)).setCell ⟨w.heap.size, 2, none⟩ (.int .i64 (dM b))).setCell ⟨w.heap.size, 3, none⟩ (.int .i64 (dL b))).setCell ⟨w.heap.size, 4, none⟩ (.string ⟨⟨dH b⟩⟩)).setCell ⟨w.heap.size, 5, none⟩ (.string ⟨⟨dP b⟩⟩)).setCell ⟨w.heap.size, 6, none⟩ (.int .i64 (dE b))) := (((((((Only.refl w.heap.size (x6.setCell ⟨w.heap.size + 1, 5, none⟩ (.string ⟨⟨dP b⟩⟩))).trans (Only.setCell _ w.heap.size 0 _)).trans (Only.setCell _ w.heap.size 1 _)).trans (Only.setCell _ w.heap.size 2 _)).trans (Only.setCell _ w.heap.size 3 _)).trans (Only.setCell _ w.heap.size 4 _)).trans (Only.setCell _ w.heap.size 5 _)).trans (Only.setCell _ w.heap.size 6 _)
            have RR := RF.rangeG
            have KF := hide (K1.onl OF (Nat.le_refl _))
            have BX2 := hide (BXn.of_block (OF.block gX (by omega)))
            have BY2 := hide (BYn.of_block (OF.block gY (by omega)))
            have H6 := hide (show 82 + dn1 b + dn2 b ≤ b.length by omega)
            clear RF OF
            go_wp2
            exact bodyPost_ret (v := .agg #[.slice (some ⟨gX, 0, none⟩) 32 32, .slice (some ⟨gY, 0, none⟩) 32 32, .int .i64 (dM b), .int .i64 (dL b), .string ⟨⟨dH b⟩⟩, .string ⟨⟨dP b⟩⟩, .int .i64 (dE b)]) (results_cellG Tryz.results46 _ _ w.heap.size _ dR rfl RR hdR hrowR iTs) rfl ⟨.inl ⟨H6.out, gX, gY, rfl, BX2.out, BY2.out, by omega, by omega⟩, KF.out⟩
          · have H2 := hide (show ¬ 82 + dn1 b + dn2 b ≤ b.length by omega)
            have ST := hide (number_bad u3 p g a c b (76) 4 C0 hrk hgp (by omega) (by omega) (by omega) (by omega))
            refine ST.out.mono ?_
            rintro e xb ⟨⟨t, v, rfl⟩, OB⟩
            go_wp2
            exact ⟨rfl, .inr ⟨H2.out, t, v, rfl⟩, K.trans OB.kp⟩
        · have H2 := hide (show ¬ 82 + dn1 b + dn2 b ≤ b.length by omega)
          have ST := hide (number_bad u2 p g a c b (72) 4 C0 hrk hgp (by omega) (by omega) (by omega) (by omega))
          refine ST.out.mono ?_
          rintro e xb ⟨⟨t, v, rfl⟩, OB⟩
          go_wp2
          exact ⟨rfl, .inr ⟨H2.out, t, v, rfl⟩, K.trans OB.kp⟩
      · have H2 := hide (show ¬ 82 + dn1 b + dn2 b ≤ b.length by omega)
        have ST := hide (number_bad u1 p g a c b (64) 8 C0 hrk hgp (by omega) (by omega) (by omega) (by omega))
        refine ST.out.mono ?_
        rintro e xb ⟨⟨t, v, rfl⟩, OB⟩
        go_wp2
        exact ⟨rfl, .inr ⟨H2.out, t, v, rfl⟩, K.trans OB.kp⟩
    · have H2 := hide (show ¬ 82 + dn1 b + dn2 b ≤ b.length by omega)
      have ST := hide (takeList_bad u0 p a b.length c (32) 32 C0 (by omega) hn (by omega))
      refine ST.out.mono ?_
      rintro e xb ⟨⟨t, v, rfl⟩, OB⟩
      go_wp2
      exact ⟨rfl, .inr ⟨H2.out, t, v, rfl⟩, K.trans OB.kp⟩
  · have H2 := hide (show ¬ 82 + dn1 b + dn2 b ≤ b.length by omega)
    have ST := hide (takeList_bad v0 p a b.length c (0) 32 C0 (by omega) hn (by omega))
    refine ST.out.mono ?_
    rintro e xb ⟨⟨t, v, rfl⟩, OB⟩
    go_wp2
    exact ⟨rfl, .inr ⟨H2.out, t, v, rfl⟩, K.trans OB.kp⟩
end Go.Proofs.YtccnhdicibjbaaaGreat
namespace Go.Proofs.YtccnhdicibjbaaaGreat
open Go Go.RowKit
set_option maxRecDepth 100000 in
theorem bytesEqual_any (w : World) (g g' : Nat) (a b : Option Addr) (ca cb : Nat) (xs ys : List Int) (ha : Rd w g a .u8 xs) (hb : Rd w g' b .u8 ys) (hx : Byt xs) (hy : Byt ys) :
    Calls Tryz.prog 47 #[.slice a xs.length ca, .slice b ys.length cb] w fun e w' => e = .returned (.bool (decide (xs = ys))) ∧ w' = w := by
  have h1 := conv_run w g a ca xs ha
  have h2 := conv_run w g' b cb ys hb
  by_cases e : xs = ys
  · subst e
    generalize str xs = s at *
    go_enter Tryz.func47, Tryz.ntmps47
    go_wp2
    go_ret
    exact ⟨by simp, rfl⟩
  · have D := hide (show decide (xs = ys) = false by simpa using e)
    have h3 : str xs ≠ str ys := fun h => e (str_inj hx hy h)
    generalize str xs = s at *
    generalize str ys = t at *
    have H3 := hide h3
    clear h3 e
    go_enter Tryz.func47, Tryz.ntmps47
    go_wp2
    go_ret
    have e : (s.toList == t.toList) = false := by
      cases h : (s.toList == t.toList)
      · rfl
      · exact absurd (toList_inj (beq_iff_eq.1 h)) H3.out
    exact ⟨by rw [D.out, ← e]; rfl, rfl⟩
end Go.Proofs.YtccnhdicibjbaaaGreat
namespace Go.Proofs.YtccnhdicibjbaaaGreat
open Go Go.RowKit
theorem results_cellD {P : Program} {fn : Func} {p : Tmp} {ty : TypeId} (h : fn.results = #[.cell p ty]) (tmps : Array Value) (w : World) (g : Nat) (cs : List Value) (d : TypeDesc)
    (hp : tmps.getD p undef = .pointer (some ⟨g, 0, none⟩)) (hc : w.rangeAt g 0 cs) (hu : P.underlying ty = some d) (hd : d.isRow = true) (hi : (P.info? ty).map (·.size) = some cs.length) :
    (results fn tmps).run P w = .ok (.agg cs.toArray) w := results_cellG h tmps w g cs d hp hc hu hd hi
set_option maxRecDepth 100000 in
theorem dcCatch_pan (p : Nat) (u : TypeId) (pv : Value) (w : World) (hT : RwC w p [.bool false, .slice none 0 0, .slice none 0 0, .int .i64 0, .int .i64 0, .string ⟨#[]⟩, .string ⟨#[]⟩, .int .i64 0] 30) :
    CallsD Tryz.prog 45 #[.pointer (some ⟨p, 0, none⟩)] (.panicking [{ v := .iface u pv, recovered := false }]) w fun e u' w' =>
      e = .returned (.tuple #[]) ∧ u' = .panicking [{ v := .iface u pv, recovered := true }] ∧ Only p w w' ∧ RwC w' p [.bool false, .slice none 0 0, .slice none 0 0, .int .i64 0, .int .i64 0, .string ⟨#[]⟩, .string ⟨#[]⟩, .int .i64 0] 30 := by
  have c0 : w.cell? ⟨p, 0, none⟩ = some (.bool false) := hT.cell 0
  have f0 := hT.free 0
  have c1 : w.cell? ⟨p, 1, none⟩ = some (.slice none 0 0) := hT.cell 1
  have f1 := hT.free 1
  have c2 : w.cell? ⟨p, 2, none⟩ = some (.slice none 0 0) := hT.cell 2
  have f2 := hT.free 2
  have c3 : w.cell? ⟨p, 3, none⟩ = some (.int .i64 0) := hT.cell 3
  have f3 := hT.free 3
  have c4 : w.cell? ⟨p, 4, none⟩ = some (.int .i64 0) := hT.cell 4
  have f4 := hT.free 4
  have c5 : w.cell? ⟨p, 5, none⟩ = some (.string ⟨#[]⟩) := hT.cell 5
  have f5 := hT.free 5
  have c6 : w.cell? ⟨p, 6, none⟩ = some (.string ⟨#[]⟩) := hT.cell 6
  have f6 := hT.free 6
  have c7 : w.cell? ⟨p, 7, none⟩ = some (.int .i64 0) := hT.cell 7
  have f7 := hT.free 7
  have K : Hid (RwC ((((((((w.setCell ⟨p, 0, none⟩ (.bool false)).setCell ⟨p, 1, none⟩ (.slice none 0 0)).setCell ⟨p, 2, none⟩ (.slice none 0 0)).setCell ⟨p, 3, none⟩ (.int .i64 0)).setCell ⟨p, 4, none⟩ (.int .i64 0)).setCell ⟨p, 5, none⟩ (.string ⟨#[]⟩)).setCell ⟨p, 6, none⟩ (.string ⟨#[]⟩)).setCell ⟨p, 7, none⟩ (.int .i64 0)) p [.bool false, .slice none 0 0, .slice none 0 0, .int .i64 0, .int .i64 0, .string ⟨#[]⟩, .string ⟨#[]⟩, .int .i64 0] 30) := ((((((((hT.set 0 (.bool false)).set 1 (.slice none 0 0)).set 2 (.slice none 0 0)).set 3 (.int .i64 0)).set 4 (.int .i64 0)).set 5 (.string ⟨#[]⟩)).set 6 (.string ⟨#[]⟩)).set 7 (.int .i64 0))
  have O : Hid (Only p w ((((((((w.setCell ⟨p, 0, none⟩ (.bool false)).setCell ⟨p, 1, none⟩ (.slice none 0 0)).setCell ⟨p, 2, none⟩ (.slice none 0 0)).setCell ⟨p, 3, none⟩ (.int .i64 0)).setCell ⟨p, 4, none⟩ (.int .i64 0)).setCell ⟨p, 5, none⟩ (.string ⟨#[]⟩)).setCell ⟨p, 6, none⟩ (.string ⟨#[]⟩)).setCell ⟨p, 7, none⟩ (.int .i64 0))) := ((((((((Only.refl p w).trans (Only.setCell _ p 0 _)).trans (Only.setCell _ p 1 _)).trans (Only.setCell _ p 2 _)).trans (Only.setCell _ p 3 _)).trans (Only.setCell _ p 4 _)).trans (Only.setCell _ p 5 _)).trans (Only.setCell _ p 6 _)).trans (Only.setCell _ p 7 _)
  clear hT
  refine callsD_of_wpS Tryz.func45 rfl fun c₀ cs hu => ?_
  apply wpS_seq
  apply wpS_region
  simp [wpOpsS, go_sem, recoverD, hu, Tryz.ntmps45, Exit.thenS]
  refine wpS_cond (t := true) (by simp [Act.eval, Array.replicate]) ?_
  simp only [if_true]
  refine wpS_of_wp ?_
  go_wp2
  exact ⟨rfl, _, rfl, .tuple #[], by simp [results, Tryz.results45, go_sem], rfl, rfl, O.out, K.out⟩
set_option maxRecDepth 100000 in
theorem dcCatch_idle (p : Addr) (w : World) :
    CallsD Tryz.prog 45 #[.pointer (some p)] .returning w fun e u' w' => e = .returned (.tuple #[]) ∧ u' = .returning ∧ w' = w := by
  refine callsD_of_wpS Tryz.func45 rfl fun c₀ cs hu => ?_
  apply wpS_seq
  apply wpS_region
  simp [wpOpsS, go_sem, recoverD, hu, Tryz.ntmps45, Exit.thenS]
  refine wpS_cond (t := false) (by simp [Act.eval, Array.replicate]) ?_
  simp only [Bool.false_eq_true, if_false]
  refine wpS_of_wp (wp_skip ?_)
  cases c₀
  simp_all [bodyPostS, results, Tryz.results45]
set_option maxRecDepth 100000 in
set_option maxHeartbeats 16000000 in
theorem implDcS_any (w : World) (g : Nat) (a : Option Addr) (c : Nat) (b : List Int) (hr : Rd w g a .u8 b) (hb : Byt b) (hc0 : a = none → c = 0) (hc : b.length ≤ c) (hl : b.length ≤ 1048576) :
    Calls Tryz.prog 23 #[.slice a b.length c] w fun e w' => NewD w.heap.size w' e b ∧ Below w.heap.size w w' := by
  have hmf : ∀ (fn : Fn) (first cap : Array Value) (w : World), (Instr.makeFunc fn first cap).run Tryz.prog w = .ok (.func fn first cap) w := fun _ _ _ _ => rfl
  obtain ⟨dR, hdR, hrowR⟩ := rowSr
  have z1 : (w.alloc (.cells #[.bool false, .slice none 0 0, .slice none 0 0, .int .i64 0, .int .i64 0, .string ⟨#[]⟩, .string ⟨#[]⟩, .int .i64 0] 30)).heap.size = w.heap.size + 1 := by simp
  have n1 : Below w.heap.size w (w.alloc (.cells #[.bool false, .slice none 0 0, .slice none 0 0, .int .i64 0, .int .i64 0, .string ⟨#[]⟩, .string ⟨#[]⟩, .int .i64 0] 30)) := (Below.refl _ _).alloc (Nat.le_refl _) _
  have n2 : Below (w.alloc (.cells #[.bool false, .slice none 0 0, .slice none 0 0, .int .i64 0, .int .i64 0, .string ⟨#[]⟩, .string ⟨#[]⟩, .int .i64 0] 30)).heap.size (w.alloc (.cells #[.bool false, .slice none 0 0, .slice none 0 0, .int .i64 0, .int .i64 0, .string ⟨#[]⟩, .string ⟨#[]⟩, .int .i64 0] 30)) ((w.alloc (.cells #[.bool false, .slice none 0 0, .slice none 0 0, .int .i64 0, .int .i64 0, .string ⟨#[]⟩, .string ⟨#[]⟩, .int .i64 0] 30)).alloc (.cells #[.slice a b.length c, .int .i64 0] 70)) := (Below.refl _ _).alloc (Nat.le_refl _) _
  have Q0 : RwC (w.alloc (.cells #[.bool false, .slice none 0 0, .slice none 0 0, .int .i64 0, .int .i64 0, .string ⟨#[]⟩, .string ⟨#[]⟩, .int .i64 0] 30)) w.heap.size [.bool false, .slice none 0 0, .slice none 0 0, .int .i64 0, .int .i64 0, .string ⟨#[]⟩, .string ⟨#[]⟩, .int .i64 0] 30 := RwC.new w _ _
  have C0 : Cur ((w.alloc (.cells #[.bool false, .slice none 0 0, .slice none 0 0, .int .i64 0, .int .i64 0, .string ⟨#[]⟩, .string ⟨#[]⟩, .int .i64 0] 30)).alloc (.cells #[.slice a b.length c, .int .i64 0] 70)) (w.alloc (.cells #[.bool false, .slice none 0 0, .slice none 0 0, .int .i64 0, .int .i64 0, .string ⟨#[]⟩, .string ⟨#[]⟩, .int .i64 0] 30)).heap.size (.slice a b.length c) ((0 : Nat) : Int) := ⟨70, heap_alloc_new _ _⟩
  have N := nxt n1 n2
  replace Q0 := Q0.up n2
  rw [z1] at C0
  have zq := C0.lt
  have lg : 0 < b.length → g ≠ w.heap.size + 1 := fun h => by have := hr.lt h; omega
  have ST := hide (state_any _ (w.heap.size + 1) g a c b C0 (hr.up N) hb lg hc0 hc hl)
  have L1 := hide (dn1_is hb)
  have L2 := hide (dn2_is hb)
  clear n1 n2 z1 C0
  go_enter_defers Tryz.func23, Tryz.ntmps23
  go_wp2_with fail
  generalize (w.alloc (.cells #[.bool false, .slice none 0 0, .slice none 0 0, .int .i64 0, .int .i64 0, .string ⟨#[]⟩, .string ⟨#[]⟩, .int .i64 0] 30)).alloc (.cells #[.slice a b.length c, .int .i64 0] 70) = v0 at *
  refine ST.out.mono ?_
  rintro e v1 ⟨h, K1⟩
  have z1 := K1.size
  replace N := N.trans (K1.below (B := w.heap.size) (by omega) (by omega))
  replace Q0 := Q0.kp K1 (by omega)
  clear ST K1
  rcases h with ⟨h0, gX, gY, rfl, BX, BY, yX, yY⟩ | ⟨h0, t, v, rfl⟩
  · have T0 : RwC (v1.alloc (.cells #[.slice (some ⟨gX, 0, none⟩) 32 32, .slice (some ⟨gY, 0, none⟩) 32 32, .int .i64 (dM b), .int .i64 (dL b), .string ⟨⟨dH b⟩⟩, .string ⟨⟨dP b⟩⟩, .int .i64 (dE b)] 24)) v1.heap.size [.slice (some ⟨gX, 0, none⟩) 32 32, .slice (some ⟨gY, 0, none⟩) 32 32, .int .i64 (dM b), .int .i64 (dL b), .string ⟨⟨dH b⟩⟩, .string ⟨⟨dP b⟩⟩, .int .i64 (dE b)] 24 := RwC.new v1 _ _
    have n3 : Below v1.heap.size v1 (v1.alloc (.cells #[.slice (some ⟨gX, 0, none⟩) 32 32, .slice (some ⟨gY, 0, none⟩) 32 32, .int .i64 (dM b), .int .i64 (dL b), .string ⟨⟨dH b⟩⟩, .string ⟨⟨dP b⟩⟩, .int .i64 (dE b)] 24)) := (Below.refl _ _).alloc (Nat.le_refl _) _
    have lX := BX.lt
    have lY := BY.lt
    have zt : v1.heap.size < (v1.alloc (.cells #[.slice (some ⟨gX, 0, none⟩) 32 32, .slice (some ⟨gY, 0, none⟩) 32 32, .int .i64 (dM b), .int .i64 (dL b), .string ⟨⟨dH b⟩⟩, .string ⟨⟨dP b⟩⟩, .int .i64 (dE b)] 24)).heap.size := T0.lt
    replace Q0 := Q0.up n3
    replace BX := BX.up n3
    replace BY := BY.up n3
    replace N := nxt N n3
    obtain ⟨q, hq⟩ : ∃ q, q = v1.heap.size := ⟨_, rfl⟩
    rw [← hq] at T0 zt
    have lqv : v1.heap.size ≤ q := Nat.le_of_eq hq.symm
    clear n3
    have DB := hide (dsB_form h0)
    have HL := hide (show (dH b).length ≤ 1048576 by rw [dH_len]; have := L1.out; omega)
    have PL := hide (show (dP b).length ≤ 1048576 by rw [dP_len]; have := L2.out; omega)
    have EN := hide (implEnS_any _ (dM b) (dL b) (dH b) (dP b) (dE b) gX (some ⟨gX, 0, none⟩) 32 (dX b) BX.own0.rd (fun h => nomatch h) gY (some ⟨gY, 0, none⟩) 32 (dY b) BY.own0.rd (fun h => nomatch h) HL.out PL.out)
    rw [dX_len, dY_len] at EN
    have BE : Hid (Byt (esA (dX b) (dY b) (dM b) (dL b) (dH b) (dP b) (dE b))) := byt_esA (tkB_byt hb 0 32) (tkB_byt hb 32 32) _ _ _ _ _
    generalize esA (dX b) (dY b) (dM b) (dL b) (dH b) (dP b) (dE b) = E at *
    clear HL PL L1 L2 h0
    have t0 : (v1.alloc (.cells #[.slice (some ⟨gX, 0, none⟩) 32 32, .slice (some ⟨gY, 0, none⟩) 32 32, .int .i64 (dM b), .int .i64 (dL b), .string ⟨⟨dH b⟩⟩, .string ⟨⟨dP b⟩⟩, .int .i64 (dE b)] 24)).cell? ⟨q, 0, none⟩ = some (.slice (some ⟨gX, 0, none⟩) 32 32) := T0.cell 0
    have t1 : (v1.alloc (.cells #[.slice (some ⟨gX, 0, none⟩) 32 32, .slice (some ⟨gY, 0, none⟩) 32 32, .int .i64 (dM b), .int .i64 (dL b), .string ⟨⟨dH b⟩⟩, .string ⟨⟨dP b⟩⟩, .int .i64 (dE b)] 24)).cell? ⟨q, 1, none⟩ = some (.slice (some ⟨gY, 0, none⟩) 32 32) := T0.cell 1
    have t2 : (v1.alloc (.cells #[.slice (some ⟨gX, 0, none⟩) 32 32, .slice (some ⟨gY, 0, none⟩) 32 32, .int .i64 (dM b), .int .i64 (dL b), .string ⟨⟨dH b⟩⟩, .string ⟨⟨dP b⟩⟩, .int .i64 (dE b)] 24)).cell? ⟨q, 2, none⟩ = some (.int .i64 (dM b)) := T0.cell 2
    have t3 : (v1.alloc (.cells #[.slice (some ⟨gX, 0, none⟩) 32 32, .slice (some ⟨gY, 0, none⟩) 32 32, .int .i64 (dM b), .int .i64 (dL b), .string ⟨⟨dH b⟩⟩, .string ⟨⟨dP b⟩⟩, .int .i64 (dE b)] 24)).cell? ⟨q, 3, none⟩ = some (.int .i64 (dL b)) := T0.cell 3
    have t4 : (v1.alloc (.cells #[.slice (some ⟨gX, 0, none⟩) 32 32, .slice (some ⟨gY, 0, none⟩) 32 32, .int .i64 (dM b), .int .i64 (dL b), .string ⟨⟨dH b⟩⟩, .string ⟨⟨dP b⟩⟩, .int .i64 (dE b)] 24)).cell? ⟨q, 4, none⟩ = some (.string ⟨⟨dH b⟩⟩) := T0.cell 4
    have t5 : (v1.alloc (.cells #[.slice (some ⟨gX, 0, none⟩) 32 32, .slice (some ⟨gY, 0, none⟩) 32 32, .int .i64 (dM b), .int .i64 (dL b), .string ⟨⟨dH b⟩⟩, .string ⟨⟨dP b⟩⟩, .int .i64 (dE b)] 24)).cell? ⟨q, 5, none⟩ = some (.string ⟨⟨dP b⟩⟩) := T0.cell 5
    have t6 : (v1.alloc (.cells #[.slice (some ⟨gX, 0, none⟩) 32 32, .slice (some ⟨gY, 0, none⟩) 32 32, .int .i64 (dM b), .int .i64 (dL b), .string ⟨⟨dH b⟩⟩, .string ⟨⟨dP b⟩⟩, .int .i64 (dE b)] 24)).cell? ⟨q, 6, none⟩ = some (.int .i64 (dE b)) := T0.cell 6
    go_wp2_with fail
    rw [← hq]
    clear hq
    generalize v1.alloc (.cells #[.slice (some ⟨gX, 0, none⟩) 32 32, .slice (some ⟨gY, 0, none⟩) 32 32, .int .i64 (dM b), .int .i64 (dL b), .string ⟨⟨dH b⟩⟩, .string ⟨⟨dP b⟩⟩, .int .i64 (dE b)] 24) = y1 at *
    refine EN.out.mono ?_
    rintro e y2 ⟨v2, rfl, R2, m2⟩
    obtain ⟨a2, c2, g2, rfl, D2, -, -, -⟩ := R2.rd
    have zz := m2.size
    replace N := nxt N m2
    replace Q0 := Q0.up m2
    replace BX := BX.up m2
    replace BY := BY.up m2
    replace T0 := T0.up m2
    have SA := hide (bytesEqual_any y2 g2 g a2 a c2 c E b D2 (hr.up N) BE.out hb)
    clear EN R2 m2 D2 BE t0 t1 t2 t3 t4 t5 t6
    go_wp2_with fail
    refine SA.out.mono ?_
    rintro e y3 ⟨rfl, h3⟩
    have h3 := h3.symm
    subst h3
    by_cases hE : E = b
    · have DG := hide (DB.out.trans (decide_eq_true hE))
      rw [decide_eq_true hE]
      clear SA DB hE
      have t0 : y2.cell? ⟨q, 0, none⟩ = some (.slice (some ⟨gX, 0, none⟩) 32 32) := T0.cell 0
      have t1 : y2.cell? ⟨q, 1, none⟩ = some (.slice (some ⟨gY, 0, none⟩) 32 32) := T0.cell 1
      have t2 : y2.cell? ⟨q, 2, none⟩ = some (.int .i64 (dM b)) := T0.cell 2
      have t3 : y2.cell? ⟨q, 3, none⟩ = some (.int .i64 (dL b)) := T0.cell 3
      have t4 : y2.cell? ⟨q, 4, none⟩ = some (.string ⟨⟨dH b⟩⟩) := T0.cell 4
      have t5 : y2.cell? ⟨q, 5, none⟩ = some (.string ⟨⟨dP b⟩⟩) := T0.cell 5
      have t6 : y2.cell? ⟨q, 6, none⟩ = some (.int .i64 (dE b)) := T0.cell 6
      have qc0 : y2.cell? ⟨w.heap.size, 0, none⟩ = some (.bool false) := Q0.cell 0
      have qf0 := Q0.free 0
      have qc1 : y2.cell? ⟨w.heap.size, 1, none⟩ = some (.slice none 0 0) := Q0.cell 1
      have qf1 := Q0.free 1
      have qc2 : y2.cell? ⟨w.heap.size, 2, none⟩ = some (.slice none 0 0) := Q0.cell 2
      have qf2 := Q0.free 2
      have qc3 : y2.cell? ⟨w.heap.size, 3, none⟩ = some (.int .i64 0) := Q0.cell 3
      have qf3 := Q0.free 3
      have qc4 : y2.cell? ⟨w.heap.size, 4, none⟩ = some (.int .i64 0) := Q0.cell 4
      have qf4 := Q0.free 4
      have qc5 : y2.cell? ⟨w.heap.size, 5, none⟩ = some (.string ⟨#[]⟩) := Q0.cell 5
      have qf5 := Q0.free 5
      have qc6 : y2.cell? ⟨w.heap.size, 6, none⟩ = some (.string ⟨#[]⟩) := Q0.cell 6
      have qf6 := Q0.free 6
      have qc7 : y2.cell? ⟨w.heap.size, 7, none⟩ = some (.int .i64 0) := Q0.cell 7
      have qf7 := Q0.free 7
      have RF : RwC ((((((((y2.setCell ⟨w.heap.size, 0, none⟩ (.bool true)).setCell ⟨w.heap.size, 1, none⟩ (.slice (some ⟨gX, 0, none⟩) 32 32)).setCell ⟨w.heap.size, 2, none⟩ (.slice (some ⟨gY, 0, none⟩) 32 32)).setCell ⟨w.heap.size, 3, none⟩ (.int .i64 (dM b))).setCell ⟨w.heap.size, 4, none⟩ (.int .i64 (dL b))).setCell ⟨w.heap.size, 5, none⟩ (.string ⟨⟨dH b⟩⟩)).setCell ⟨w.heap.size, 6, none⟩ (.string ⟨⟨dP b⟩⟩)).setCell ⟨w.heap.size, 7, none⟩ (.int .i64 (dE b))) w.heap.size [.bool true, .slice (some ⟨gX, 0, none⟩) 32 32, .slice (some ⟨gY, 0, none⟩) 32 32, .int .i64 (dM b), .int .i64 (dL b), .string ⟨⟨dH b⟩⟩, .string ⟨⟨dP b⟩⟩, .int .i64 (dE b)] 30 := ((((((((Q0.set 0 (.bool true)).set 1 (.slice (some ⟨gX, 0, none⟩) 32 32)).set 2 (.slice (some ⟨gY, 0, none⟩) 32 32)).set 3 (.int .i64 (dM b))).set 4 (.int .i64 (dL b))).set 5 (.string ⟨⟨dH b⟩⟩)).set 6 (.string ⟨⟨dP b⟩⟩)).set 7 (.int .i64 (dE b)))
      have OF : Only w.heap.size y2 ((((((((y2.setCell ⟨w.heap.size, 0, none⟩ (.bool true)).setCell ⟨w.heap.size, 1, none⟩ (.slice (some ⟨gX, 0, none⟩) 32 32)).setCell ⟨w.heap.size, 2, none⟩ (.slice (some ⟨gY, 0, none⟩) 32 32)).setCell ⟨w.heap.size, 3, none⟩ (.int .i64 (dM b))).setCell ⟨w.heap.size, 4, none⟩ (.int .i64 (dL b))).setCell ⟨w.heap.size, 5, none⟩ (.string ⟨⟨dH b⟩⟩)).setCell ⟨w.heap.size, 6, none⟩ (.string ⟨⟨dP b⟩⟩)).setCell ⟨w.heap.size, 7, none⟩ (.int .i64 (dE b))) := ((((((((Only.refl w.heap.size y2).trans (Only.setCell _ w.heap.size 0 _)).trans (Only.setCell _ w.heap.size 1 _)).trans (Only.setCell _ w.heap.size 2 _)).trans (Only.setCell _ w.heap.size 3 _)).trans (Only.setCell _ w.heap.size 4 _)).trans (Only.setCell _ w.heap.size 5 _)).trans (Only.setCell _ w.heap.size 6 _)).trans (Only.setCell _ w.heap.size 7 _)
      have NF := hide (N.trans (OF.below (B := w.heap.size) (Nat.le_refl _)))
      have BX2 := hide (BX.of_block (OF.block gX (by omega)))
      have BY2 := hide (BY.of_block (OF.block gY (by omega)))
      clear OF
      go_wp2
      generalize (((((((y2.setCell ⟨w.heap.size, 0, none⟩ (.bool true)).setCell ⟨w.heap.size, 1, none⟩ (.slice (some ⟨gX, 0, none⟩) 32 32)).setCell ⟨w.heap.size, 2, none⟩ (.slice (some ⟨gY, 0, none⟩) 32 32)).setCell ⟨w.heap.size, 3, none⟩ (.int .i64 (dM b))).setCell ⟨w.heap.size, 4, none⟩ (.int .i64 (dL b))).setCell ⟨w.heap.size, 5, none⟩ (.string ⟨⟨dH b⟩⟩)).setCell ⟨w.heap.size, 6, none⟩ (.string ⟨⟨dP b⟩⟩)).setCell ⟨w.heap.size, 7, none⟩ (.int .i64 (dE b)) = y4 at *
      refine leaves_cons (f := 45) (args := #[.pointer (some ⟨w.heap.size, 0, none⟩)]) (by simp) (by simp [go_sem]) ?_
      refine (dcCatch_idle _ _).mono ?_
      rintro e u' w4 ⟨rfl, rfl, h4⟩
      have h4 := h4.symm
      subst h4
      have RR := RF.rangeG
      show ∃ v, (results Tryz.f23 _).run Tryz.prog y4 = .ok v y4 ∧ (NewD w.heap.size y4 (.returned v) b ∧ Below w.heap.size w y4)
      exact ⟨_, results_cellD Tryz.results23 _ y4 w.heap.size _ dR rfl RR hdR hrowR iSr, NewD.good DG.out BX2.out BY2.out (by omega) (by omega) (by omega), NF.out⟩
    · have DG := hide (DB.out.trans (decide_eq_false hE))
      rw [decide_eq_false hE]
      clear SA DB hE
      go_wp2
      refine leaves_cons (f := 45) (args := #[.pointer (some ⟨w.heap.size, 0, none⟩)]) (by simp) (by simp [go_sem]) ?_
      refine (dcCatch_pan w.heap.size _ _ _ Q0).mono ?_
      rintro e u' w4 ⟨rfl, rfl, O4, T4⟩
      have RR := T4.rangeG
      have KF : w.heap.size + 1 < w4.heap.size := by rw [O4.size]; omega
      have NF := N.trans (O4.below (B := w.heap.size) (Nat.le_refl _))
      show ∃ v, (results Tryz.f23 _).run Tryz.prog w4 = .ok v w4 ∧ (NewD w.heap.size w4 (.returned v) b ∧ Below w.heap.size w w4)
      exact ⟨_, results_cellD Tryz.results23 _ w4 w.heap.size _ dR rfl RR hdR hrowR iSr, NewD.bad DG.out (g := w.heap.size) (g' := w.heap.size + 1) (by omega) (Nat.le_refl _) (by omega) (by omega) KF, NF⟩
  · have DG := hide (dsB_short h0)
    clear h0
    go_wp2
    refine leaves_cons (f := 45) (args := #[.pointer (some ⟨w.heap.size, 0, none⟩)]) (by simp) (by simp [go_sem]) ?_
    refine (dcCatch_pan w.heap.size _ _ _ Q0).mono ?_
    rintro e u' w4 ⟨rfl, rfl, O4, T4⟩
    have RR := T4.rangeG
    have KF : w.heap.size + 1 < w4.heap.size := by rw [O4.size]; omega
    have NF := N.trans (O4.below (B := w.heap.size) (Nat.le_refl _))
    show ∃ v, (results Tryz.f23 _).run Tryz.prog w4 = .ok v w4 ∧ (NewD w.heap.size w4 (.returned v) b ∧ Below w.heap.size w w4)
    exact ⟨_, results_cellD Tryz.results23 _ w4 w.heap.size _ dR rfl RR hdR hrowR iSr, NewD.bad DG.out (g := w.heap.size) (g' := w.heap.size + 1) (by omega) (Nat.le_refl _) (by omega) (by omega) KF, NF⟩
end Go.Proofs.YtccnhdicibjbaaaGreat
namespace Go.Proofs.YtccnhdicibjbaaaGreat.Mk
open Go Go.RowKit
def LN : Nat := 6
structure Gm (B : Nat) (w w' : World) : Prop where
  os : w'.os = w.os
  tape : w'.tape = w.tape
  output : w'.output = w.output
  size : w.heap.size ≤ w'.heap.size
  block : ∀ k, k < w.heap.size → w'.heap[k]? = w.heap[k]? ∨ (B ≤ k ∧ ∃ cs t m m', cs.size = LN ∧ w.heap[k]? = some (.cells cs t m) ∧ w'.heap[k]? = some (.cells cs t m'))
theorem Gm.refl (B : Nat) (w : World) : Gm B w w := ⟨rfl, rfl, rfl, Nat.le_refl _, fun _ _ => .inl rfl⟩
theorem Gm.trans {B : Nat} {a b c : World} (h : Gm B a b) (k : Gm B b c) : Gm B a c := by
  refine ⟨k.os.trans h.os, k.tape.trans h.tape, k.output.trans h.output, Nat.le_trans h.size k.size, fun x hx => ?_⟩
  rcases h.block x hx with e | ⟨hB, cs, t, m, m', hs, e1, e2⟩
  · rcases k.block x (Nat.lt_of_lt_of_le hx h.size) with f | ⟨hB, cs, t, m, m', hs, f1, f2⟩
    · exact .inl (f.trans e)
    · exact .inr ⟨hB, cs, t, m, m', hs, e.symm.trans f1, f2⟩
  · rcases k.block x (Nat.lt_of_lt_of_le hx h.size) with f | ⟨_, cs', t', m1, m2, hs', f1, f2⟩
    · exact .inr ⟨hB, cs, t, m, m', hs, e1, f.trans e2⟩
    · rw [e2] at f1
      injection f1 with f1
      injection f1 with g1 g2 g3
      subst g1 g2
      exact .inr ⟨hB, cs, t, m, m2, hs, e1, f2⟩
theorem Gm.of_below {B : Nat} {w w' : World} (h : Below w.heap.size w w') : Gm B w w' := ⟨h.os, h.tape, h.output, h.size, fun k hk => .inl (h.block k hk)⟩
theorem Gm.drew {B : Nat} {a w : World} (h : Gm B a w) : Gm B a w.drew := h.trans (Gm.of_below (Below.refl _ _).drew)
theorem Gm.below {B : Nat} {w w' : World} (h : Gm B w w') (hB : B ≤ w.heap.size) : Below B w w' := ⟨h.os, h.tape, h.output, h.size, fun k hk => by
  rcases h.block k (by omega) with e | ⟨hB, _⟩
  · exact e
  · omega⟩
theorem Gm.below0 {w w' : World} (h : Gm w.heap.size w w') : Below w.heap.size w w' := h.below (Nat.le_refl _)
theorem Gm.cell {B : Nat} {w w' : World} (h : Gm B w w') {a : Addr} {v : Value} (hc : w.cell? a = some v) : w'.cell? a = some v := by
  have hl := block_lt_of_cell hc
  rcases h.block a.block hl with e | ⟨_, cs, t, m, m', _, e1, e2⟩
  · exact (World.cell?_of_block e).trans hc
  · simp only [World.cell?, e1] at hc
    simp only [World.cell?, e2]
    exact hc
theorem rd_gm {B : Nat} {w w' : World} {g : Nat} {a : Option Addr} {k : IntKind} {xs : List Int} (h : Rd w g a k xs) (n : Gm B w w') : Rd w' g a k xs := fun h0 => by
  obtain ⟨off, e, hc⟩ := h h0
  exact ⟨off, e, fun i hi => n.cell (hc i hi)⟩
structure Fact where
  p : Value → World → Prop
  up : ∀ {B : Nat} {v : Value} {w w' : World}, Gm B w w' → p v w → p v w'
section
variable {P : Program} {ops : Array Oper} {Q : Exit → Act → World → Prop} {md : Region.Mode} {F : Nat → Fact} {a0 : Act} {w0 : World}
def apart (ops : Array Oper) (d : Nat) : Bool := ops.all fun o => o.dst != some d
def Based (ops : Array Oper) (a0 a : Act) : Prop := a.defers = a0.defers ∧ a.tmps.size = a0.tmps.size ∧ ∀ d, apart ops d = true → a.tmps.getD d undef = a0.tmps.getD d undef
def waits (md : Region.Mode) (ops : Array Oper) (i j d : Nat) : Bool :=
  match ops[i]?, ops[j]? with
  | some o, some oj => o.after.any (fun e => Region.binds md e && e.on == j) && oj.dst == some d
  | _, _ => false
def textOk (md : Region.Mode) (ops : Array Oper) (n k : Nat) : Bool :=
  (ops.all fun o => o.guard.isNone && (match o.dst with | some d => decide (d < n) | none => true))
  && ((List.range ops.size).all fun i => match ops[i]? with
    | some o => o.after.all (fun e => !Region.binds md e || decide (e.on < i)) && (List.range i).all fun j => match ops[j]? with
      | some x => x.dst.isNone || o.dst != x.dst
      | none => true
    | none => true)
  && decide (k ≤ ops.size ∧ ops.size ≤ k + 1)
  && (k == ops.size || (List.range k).all fun j => (List.range (k + 1)).any fun m => decide (j < m) && match ops[m]? with
    | some o => o.after.any (fun e => Region.binds md e && e.on == j)
    | none => false)
structure Held (md : Region.Mode) (ops : Array Oper) (F : Nat → Fact) (a0 : Act) (w0 : World) (listed : Array Bool) (a : Act) (w : World) : Prop where
  b : Based ops a0 a
  n : Gm w0.heap.size w0 w
  f : ∀ i o d, ops[i]? = some o → listed.getD i false = true → o.dst = some d → (F i).p (a.tmps.getD d undef) w
  c : ∀ i o, ops[i]? = some o → listed.getD i false = true → ∀ e ∈ o.after, Region.binds md e = true → listed.getD e.on false = true
  s : listed.size = ops.size
def StepOk (P : Program) (md : Region.Mode) (ops : Array Oper) (Q : Exit → Act → World → Prop) (F : Nat → Fact) (a0 : Act) (w0 : World) (i : Nat) : Prop :=
  ∀ o, ops[i]? = some o → ∀ a w, Based ops a0 a → Gm w0.heap.size w0 w → (∀ j d, waits md ops i j d = true → (F j).p (a.tmps.getD d undef) w) →
    ∀ K : Act → World → Prop, (∀ v w', Gm w0.heap.size w w' → (F i).p v w' → K (a.put o.dst v) w') → o.wp P a w K Q
def left (listed : Array Bool) : Nat → Nat
  | 0 => 0
  | n + 1 => left listed n + if listed.getD n true = false then 1 else 0
theorem left_zero {listed : Array Bool} : ∀ {n : Nat}, left listed n = 0 → ∀ i, i < n → listed.getD i true = true
  | 0, _, i, hi => by omega
  | n + 1, h, i, hi => by
    unfold left at h
    rcases Nat.lt_or_ge i n with h1 | h1
    · exact left_zero (by omega) i h1
    · obtain rfl : i = n := by omega
      cases hc : listed.getD i true
      · rw [hc] at h; simp at h
      · rfl
theorem getD_same {listed : Array Bool} {i : Nat} (h : i < listed.size) (d : Bool) : (listed.setIfInBounds i true).getD i d = true := by
  simp [Array.getD_eq_getD_getElem?, h]
theorem getD_off {listed : Array Bool} {i j : Nat} (h : i ≠ j) (d : Bool) : (listed.setIfInBounds i true).getD j d = listed.getD j d := by
  simp [Array.getD_eq_getD_getElem?, h]
theorem left_le {listed : Array Bool} {i : Nat} (hi : i < listed.size) : ∀ n, left (listed.setIfInBounds i true) n ≤ left listed n
  | 0 => Nat.le_refl _
  | n + 1 => by
    unfold left
    have h := left_le hi n
    by_cases e : i = n
    · subst e
      rw [getD_same hi]
      simp
      omega
    · rw [getD_off e]
      omega
theorem left_set {listed : Array Bool} {i : Nat} (hs : i < listed.size) (h : listed.getD i true = false) : ∀ n, i < n → left (listed.setIfInBounds i true) n + 1 ≤ left listed n
  | 0, hi => by omega
  | n + 1, hi => by
    unfold left
    by_cases e : i = n
    · subst e
      rw [getD_same hs, h]
      have := left_le hs i
      simp
      omega
    · rw [getD_off e]
      have := left_set hs h n (by omega)
      omega
theorem dflt {listed : Array Bool} {i : Nat} (h : i < listed.size) : listed.getD i true = listed.getD i false := by
  simp [Array.getD_eq_getD_getElem?, h]
theorem put_at {a : Act} {d : Nat} {v : Value} (h : d < a.tmps.size) : (a.put (some d) v).tmps.getD d undef = v := by
  simp [Act.put, Array.getD_eq_getD_getElem?, h]
theorem put_off {a : Act} {dst : Option Tmp} {d : Nat} {v : Value} (h : dst ≠ some d) : (a.put dst v).tmps.getD d undef = a.tmps.getD d undef := by
  cases dst with
  | none => rfl
  | some e =>
    have : e ≠ d := fun x => h (by rw [x])
    simp [Act.put, Array.getD_eq_getD_getElem?, this]
theorem put_size (a : Act) (dst : Option Tmp) (v : Value) : (a.put dst v).tmps.size = a.tmps.size := by
  cases dst <;> simp [Act.put]
theorem put_defers (a : Act) (dst : Option Tmp) (v : Value) : (a.put dst v).defers = a.defers := by
  cases dst <;> rfl
structure Text (md : Region.Mode) (ops : Array Oper) (n k : Nat) : Prop where
  g : ∀ (i : Nat) o, ops[i]? = some o → o.guard = none
  d : ∀ (i : Nat) o d, ops[i]? = some o → o.dst = some d → d < n
  a : ∀ (i : Nat) o, ops[i]? = some o → ∀ e ∈ o.after, Region.binds md e = true → e.on < i
  x : ∀ (i j : Nat) o o' d, ops[i]? = some o → ops[j]? = some o' → i ≠ j → o.dst = some d → o'.dst ≠ some d
  k1 : k ≤ ops.size
  k2 : ops.size ≤ k + 1
  c : k < ops.size → ∀ j, j < k → ∃ (m : Nat) (o : Oper), j < m ∧ m ≤ k ∧ ops[m]? = some o ∧ ∃ e ∈ o.after, Region.binds md e = true ∧ e.on = j
theorem text_of {n k : Nat} (h : textOk md ops n k = true) : Text md ops n k := by
  unfold textOk at h
  simp only [Bool.and_eq_true, decide_eq_true_eq] at h
  obtain ⟨⟨⟨h1, h2⟩, h3⟩, h4⟩ := h
  rw [Array.all_eq_true_iff_forall_mem] at h1
  rw [List.all_eq_true] at h2
  have H : ∀ (i j : Nat) o o' d, j < i → ops[i]? = some o → ops[j]? = some o' → o.dst = some d → o'.dst ≠ some d := by
    intro i j o o' d hij hi hj hd hd'
    have q := h2 i (List.mem_range.2 (Array.getElem?_eq_some_iff.1 hi).1)
    simp only [hi, Bool.and_eq_true] at q
    have r := List.all_eq_true.1 q.2 j (List.mem_range.2 hij)
    simp only [hj, hd, hd'] at r
    simp at r
  refine ⟨?_, ?_, ?_, ?_, h3.1, h3.2, ?_⟩
  · intro i o ho
    have q := h1 o (Array.mem_of_getElem? ho)
    simp only [Bool.and_eq_true] at q
    exact Option.isNone_iff_eq_none.1 q.1
  · intro i o d ho hd
    have q := h1 o (Array.mem_of_getElem? ho)
    simp only [Bool.and_eq_true, hd, decide_eq_true_eq] at q
    exact q.2
  · intro i o ho e he hb
    have q := h2 i (List.mem_range.2 (Array.getElem?_eq_some_iff.1 ho).1)
    simp only [ho, Bool.and_eq_true] at q
    have r := (Array.all_eq_true_iff_forall_mem.1 q.1) e he
    rw [hb] at r
    simpa using r
  · intro i j o o' d hi hj hij hd hd'
    rcases Nat.lt_or_gt_of_ne hij with h | h
    · exact H j i o' o d h hj hi hd' hd
    · exact H i j o o' d h hi hj hd hd'
  · intro hk j hj
    have h4' : ((List.range k).all fun j => (List.range (k + 1)).any fun m => decide (j < m) && match ops[m]? with
        | some o => o.after.any (fun e => Region.binds md e && e.on == j)
        | none => false) = true := by
      rcases Bool.or_eq_true _ _ ▸ h4 with q | q
      · simp at q; omega
      · exact q
    have q := List.all_eq_true.1 h4' j (List.mem_range.2 hj)
    obtain ⟨m, hm, r⟩ := List.any_eq_true.1 q
    simp only [Bool.and_eq_true, decide_eq_true_eq] at r
    cases ho : ops[m]? with
    | none => rw [ho] at r; simp at r
    | some o =>
      rw [ho] at r
      obtain ⟨e, he, hb⟩ := Array.any_eq_true'.1 r.2
      simp only [Bool.and_eq_true, beq_iff_eq] at hb
      exact ⟨m, o, r.1, by have := List.mem_range.1 hm; omega, ho, e, he, hb.1, hb.2⟩
theorem all_listed {n k : Nat} (T : Text md ops n k) {listed : Array Bool} (hs : listed.size = ops.size) (h : Region.ready md ops listed = []) : ∀ m i, i < m → i < ops.size → listed.getD i false = true
  | 0, i, hi, _ => by omega
  | m + 1, i, hi, hl => by
    rcases Nat.lt_or_ge i m with h1 | h1
    · exact all_listed T hs h m i h1 hl
    · obtain rfl : i = m := by omega
      cases hc : listed.getD i false
      · exfalso
        obtain ⟨o, ho⟩ : ∃ o, ops[i]? = some o := ⟨ops[i], by simp [hl]⟩
        have hr : i ∈ Region.ready md ops listed := mem_ready.2 ⟨by rw [dflt (by omega)]; exact hc, o, ho, fun e he hb => all_listed T hs h i e.on (T.a i o ho e he hb) (by have := T.a i o ho e he hb; omega)⟩
        rw [h] at hr
        simp at hr
      · rfl
theorem all_ahead {n k : Nat} (T : Text md ops n k) (hk : k < ops.size) {listed : Array Bool} {a : Act} {w : World} (H : Held md ops F a0 w0 listed a w)
    (hr : k ∈ Region.ready md ops listed) : ∀ m j, k - j ≤ m → j < k → listed.getD j false = true
  | 0, j, hm, hj => by omega
  | m + 1, j, hm, hj => by
    obtain ⟨p, o, hjp, hpk, ho, e, he, hb, rfl⟩ := T.c hk j hj
    rcases Nat.lt_or_ge p k with h1 | h1
    · exact H.c p o ho (all_ahead T hk H hr m p (by omega) h1) e he hb
    · obtain rfl : p = k := by omega
      obtain ⟨_, o', ho', q⟩ := mem_ready.1 hr
      obtain rfl := Option.some.inj (ho.symm.trans ho')
      exact q e he hb
theorem Held.next {n k : Nat} (T : Text md ops n k) (hn : n ≤ a0.tmps.size) {listed : Array Bool} {a : Act} {w : World} (H : Held md ops F a0 w0 listed a w) {i : Nat} {o : Oper} (ho : ops[i]? = some o) (hr : i ∈ Region.ready md ops listed)
    {v : Value} {w' : World} (hw : Gm w0.heap.size w w') (hf : (F i).p v w') : Held md ops F a0 w0 (listed.setIfInBounds i true) (a.put o.dst v) w' := by
  have hi : i < ops.size := (Array.getElem?_eq_some_iff.1 ho).1
  have hz : a.tmps.size = a0.tmps.size := H.b.2.1
  refine ⟨⟨by rw [put_defers]; exact H.b.1, by rw [put_size]; exact hz, fun d hd => ?_⟩, Gm.trans H.n hw, ?_, ?_, by simp [H.s]⟩
  · rw [put_off]
    · exact H.b.2.2 d hd
    · have q := Array.all_eq_true_iff_forall_mem.1 hd o (Array.mem_of_getElem? ho)
      simpa using q
  · intro j oj d hoj hj hd
    by_cases e : i = j
    · subst e
      obtain rfl := Option.some.inj (ho.symm.trans hoj)
      rw [hd, put_at (Nat.lt_of_lt_of_le (T.d i o d ho hd) (hz ▸ hn))]
      exact hf
    · rw [getD_off e] at hj
      rw [put_off (T.x j i oj o d hoj ho (Ne.symm e) hd)]
      exact (F j).up hw (H.f j oj d hoj hj hd)
  · intro j oj hoj hj e he hb
    obtain ⟨_, o', ho', q⟩ := mem_ready.1 hr
    by_cases c : i = e.on
    · rw [← c]
      exact getD_same (by rw [H.s]; exact hi) _
    · rw [getD_off c]
      by_cases e' : i = j
      · subst e'
        obtain rfl := Option.some.inj (ho'.symm.trans hoj)
        exact q e he hb
      · rw [getD_off e'] at hj
        exact H.c j oj hoj hj e he hb
theorem any_facts {n k : Nat} (T : Text md ops n k) (hn : n ≤ a0.tmps.size) (steps : ∀ i, i < k → StepOk P md ops Q F a0 w0 i)
    (fin : ∀ a w, Based ops a0 a → Gm w0.heap.size w0 w → (∀ i o d, i < k → ops[i]? = some o → o.dst = some d → (F i).p (a.tmps.getD d undef) w) →
      match ops[k]? with
      | none => Q .normal a w
      | some o => o.wp P a w (fun a' w' => Q .normal a' w') Q) :
    ∀ (fuel : Nat) (listed : Array Bool) (a : Act) (w : World), left listed ops.size ≤ fuel → Held md ops F a0 w0 listed a w → listed.getD k false = false → wpAny P md ops Q fuel listed a w := by
  intro fuel
  induction fuel with
  | zero =>
    intro listed a w hl H hk
    have hall : ∀ i, i < ops.size → listed.getD i false = true := fun i hi => by
      rw [← dflt (by rw [H.s]; exact hi)]
      exact left_zero (n := ops.size) (by omega) i hi
    have hke : ops[k]? = none := by
      rcases Nat.lt_or_ge k ops.size with h | h
      · rw [hall k h] at hk; simp at hk
      · simp [h]
    have q := fin a w H.b H.n (fun i o d _ ho hd => H.f i o d ho (hall i (Array.getElem?_eq_some_iff.1 ho).1) hd)
    rw [hke] at q
    refine ⟨?_, q⟩
    cases hr : Region.ready md ops listed with
    | nil => rfl
    | cons i t =>
      have hi : i ∈ Region.ready md ops listed := by rw [hr]; simp
      obtain ⟨h0, o, ho, _⟩ := mem_ready.1 hi
      have hlt := (Array.getElem?_eq_some_iff.1 ho).1
      rw [dflt (by rw [H.s]; exact hlt), hall i hlt] at h0
      simp at h0
  | succ fuel ih =>
    intro listed a w hl H hk
    refine ⟨fun hr => ?_, fun i hi => ?_⟩
    · have hall : ∀ i, i < ops.size → listed.getD i false = true := fun i hi => all_listed T H.s hr (i + 1) i (by omega) hi
      have hke : ops[k]? = none := by
        rcases Nat.lt_or_ge k ops.size with h | h
        · rw [hall k h] at hk; simp at hk
        · simp [h]
      have q := fin a w H.b H.n (fun i o d _ ho hd => H.f i o d ho (hall i (Array.getElem?_eq_some_iff.1 ho).1) hd)
      rw [hke] at q
      exact q
    · obtain ⟨h0, o, ho, hall⟩ := mem_ready.1 hi
      have hlt := (Array.getElem?_eq_some_iff.1 ho).1
      have hwant : Region.wanted o (yielded ops a.tmps) = true := by simp [Region.wanted, T.g i o ho]
      refine wpOp_step ho fun K' hK => ?_
      rw [if_pos hwant]
      have hll := left_set (by rw [H.s]; exact hlt) h0 ops.size hlt
      rcases Nat.lt_or_ge i k with h1 | h1
      · refine steps i h1 o ho a w H.b H.n ?_ K' ?_
        · intro j d hjd
          unfold waits at hjd
          rw [ho] at hjd
          cases hoj : ops[j]? with
          | none => rw [hoj] at hjd; simp at hjd
          | some oj =>
            rw [hoj] at hjd
            simp only [Bool.and_eq_true, beq_iff_eq] at hjd
            obtain ⟨e, he, hb⟩ := Array.any_eq_true'.1 hjd.1
            simp only [Bool.and_eq_true, beq_iff_eq] at hb
            exact H.f j oj d hoj (by rw [← hb.2]; exact hall e he hb.1) hjd.2
        · intro v w' hw hf
          refine hK _ _ (ih _ _ _ (by omega) (H.next T hn ho hi hw hf) ?_)
          rw [getD_off (by omega)]
          exact hk
      · obtain rfl : i = k := by have := T.k2; omega
        have hahead := all_ahead T hlt H hi
        have q := fin a w H.b H.n (fun j oj d hj hoj hd => H.f j oj d hoj (hahead (i - j) j (Nat.le_refl _) hj) hd)
        rw [ho] at q
        refine Oper.wp_mono (fun a' w' h => hK _ _ (wpAny_done ?_ h fuel)) q
        cases hr : Region.ready md ops (listed.setIfInBounds i true) with
        | nil => rfl
        | cons j t =>
          exfalso
          have hj : j ∈ Region.ready md ops (listed.setIfInBounds i true) := by rw [hr]; simp
          obtain ⟨g0, oj, hoj, _⟩ := mem_ready.1 hj
          have hjl := (Array.getElem?_eq_some_iff.1 hoj).1
          by_cases e : i = j
          · subst e
            rw [getD_same (by rw [H.s]; exact hlt)] at g0
            simp at g0
          · rw [getD_off e, dflt (by rw [H.s]; exact hjl), hahead (i - j) j (Nat.le_refl _) (by have := T.k2; omega)] at g0
            simp at g0
theorem line_facts {n k : Nat} (T : Text md ops n k) (hn : n ≤ a0.tmps.size) (steps : ∀ i, i < k → StepOk P md ops Q F a0 w0 i)
    (fin : ∀ a w, Based ops a0 a → Gm w0.heap.size w0 w → (∀ i o d, i < k → ops[i]? = some o → o.dst = some d → (F i).p (a.tmps.getD d undef) w) →
      match ops[k]? with
      | none => Q .normal a w
      | some o => o.wp P a w (fun a' w' => Q .normal a' w') Q) :
    ∀ (m i : Nat) (a : Act) (w : World), i + m = ops.size → i ≤ k → Based ops a0 a → Gm w0.heap.size w0 w → (∀ j o d, j < i → ops[j]? = some o → o.dst = some d → (F j).p (a.tmps.getD d undef) w) →
      wpOps P ops Q (List.range' i m) a w := by
  intro m
  induction m with
  | zero =>
    intro i a w him hik hb hw hf
    obtain rfl : i = k := by have := T.k1; omega
    have q := fin a w hb hw hf
    rw [show ops[i]? = none by simp; omega] at q
    exact q
  | succ m ih =>
    intro i a w him hik hb hw hf
    have hlt : i < ops.size := by omega
    obtain ⟨o, ho⟩ : ∃ o, ops[i]? = some o := ⟨ops[i], by simp [hlt]⟩
    have hwant : Region.wanted o (yielded ops a.tmps) = true := by simp [Region.wanted, T.g i o ho]
    rw [List.range'_succ, wpOps_cons]
    refine wpOp_step ho fun K' hK => ?_
    rw [if_pos hwant]
    rcases Nat.lt_or_ge i k with h1 | h1
    · refine steps i h1 o ho a w hb hw ?_ K' ?_
      · intro j d hjd
        unfold waits at hjd
        rw [ho] at hjd
        cases hoj : ops[j]? with
        | none => rw [hoj] at hjd; simp at hjd
        | some oj =>
          rw [hoj] at hjd
          simp only [Bool.and_eq_true, beq_iff_eq] at hjd
          obtain ⟨e, he, hb⟩ := Array.any_eq_true'.1 hjd.1
          simp only [Bool.and_eq_true, beq_iff_eq] at hb
          exact hf j oj d (by rw [← hb.2]; exact T.a i o ho e he hb.1) hoj hjd.2
      · intro v w' hw' hfv
        refine hK _ _ (ih (i + 1) _ _ (by omega) (by omega) ⟨by rw [put_defers]; exact hb.1, by rw [put_size]; exact hb.2.1, fun d hd => ?_⟩ (Gm.trans hw hw') ?_)
        · rw [put_off]
          · exact hb.2.2 d hd
          · have q := Array.all_eq_true_iff_forall_mem.1 hd o (Array.mem_of_getElem? ho)
            simpa using q
        · intro j oj d hj hoj hd
          by_cases e : i = j
          · subst e
            obtain rfl := Option.some.inj (ho.symm.trans hoj)
            rw [hd, put_at (Nat.lt_of_lt_of_le (T.d i o d ho hd) (by rw [hb.2.1]; exact hn))]
            exact hfv
          · rw [put_off (T.x j i oj o d hoj ho (Ne.symm e) hd)]
            exact (F j).up hw' (hf j oj d (by omega) hoj hd)
    · obtain rfl : i = k := by omega
      have q := fin a w hb hw hf
      rw [ho] at q
      refine Oper.wp_mono (fun a' w' h => hK _ _ ?_) q
      obtain rfl : m = 0 := by have := T.k2; omega
      exact h
theorem region_facts {id : Nat} {w : World} {draw : Bool} (k : Nat) (F : Nat → Fact) (hm : P.follows .mixedOrders = true) (hT : textOk .any ops a0.tmps.size k = true) (steps : ∀ i, i < k → StepOk P .any ops Q F a0 w i)
    (fin : ∀ a w', Based ops a0 a → Gm w.heap.size w w' → (∀ i o d, i < k → ops[i]? = some o → o.dst = some d → (F i).p (a.tmps.getD d undef) w') →
      match ops[k]? with
      | none => Q .normal a w'
      | some o => o.wp P a w' (fun a' w'' => Q .normal a' w'') Q) : (Code.region id ops draw).wp P Q a0 w := by
  have T := text_of hT
  cases draw with
  | false =>
    refine wp_region ?_
    have h := line_facts (w0 := w) T (Nat.le_refl _) steps fin ops.size 0 a0 w (by omega) (by omega) ⟨rfl, rfl, fun _ _ => rfl⟩ (Gm.refl _ _) (fun j o d hj => by omega)
    rw [List.range_eq_range']
    exact h
  | true =>
    refine wp_region_any hm ?_
    refine any_facts (w0 := w) T (Nat.le_refl _) steps fin ops.size _ a0 _ ?_ ⟨⟨rfl, rfl, fun _ _ => rfl⟩, (Gm.refl _ _).drew, ?_, ?_, by simp⟩ ?_
    · have : ∀ m, left (Array.replicate ops.size false) m ≤ m := by
        intro m
        induction m with
        | zero => exact Nat.le_refl _
        | succ m ih => unfold left; split <;> omega
      exact this _
    · intro i o d ho hl _
      rw [Array.getD_eq_getD_getElem?, Array.getElem?_replicate] at hl
      split at hl <;> simp at hl
    · intro i o ho hl
      rw [Array.getD_eq_getD_getElem?, Array.getElem?_replicate] at hl
      split at hl <;> simp at hl
    · rw [Array.getD_eq_getD_getElem?, Array.getElem?_replicate]
      split <;> rfl
def writes (ops : Array Oper) (i d : Nat) : Bool :=
  match ops[i]? with
  | some o => o.dst == some d
  | none => false
def Full (ops : Array Oper) (F : Nat → Fact) (a : Act) (w : World) : Prop := ∀ i d, writes ops i d = true → (F i).p (a.tmps.getD d undef) w
theorem region_store {id : Nat} {w : World} {draw : Bool} (k : Nat) (o : Oper) (F : Nat → Fact) (hm : P.follows .mixedOrders = true) (hT : textOk .any ops a0.tmps.size k = true) (hk : ops[k]? = some o) (hd : o.dst = none) (steps : ∀ i, i < k → StepOk P .any ops Q F a0 w i)
    (fin : ∀ a w', Based ops a0 a → Gm w.heap.size w w' → Full ops F a w' → o.wp P a w' (fun a' w'' => Q .normal a' w'') Q) : (Code.region id ops draw).wp P Q a0 w := by
  refine region_facts k F hm hT steps fun a w' hb hw hf => ?_
  rw [hk]
  refine fin a w' hb hw fun i d hi => ?_
  unfold writes at hi
  cases ho : ops[i]? with
  | none => rw [ho] at hi; simp at hi
  | some oi =>
    rw [ho] at hi
    have hi' : oi.dst = some d := by simpa using hi
    have T := text_of hT
    refine hf i oi d ?_ ho hi'
    have h1 := (Array.getElem?_eq_some_iff.1 ho).1
    have h2 := T.k2
    rcases Nat.lt_or_ge i k with h | h
    · exact h
    · obtain rfl : i = k := by omega
      obtain rfl := Option.some.inj (hk.symm.trans ho)
      rw [hd] at hi'
      simp at hi'
theorem region_end {id : Nat} {w : World} {draw : Bool} (k : Nat) (F : Nat → Fact) (hm : P.follows .mixedOrders = true) (hT : textOk .any ops a0.tmps.size k = true) (hk : ops[k]? = none) (steps : ∀ i, i < k → StepOk P .any ops Q F a0 w i)
    (fin : ∀ a w', Based ops a0 a → Gm w.heap.size w w' → Full ops F a w' → Q .normal a w') : (Code.region id ops draw).wp P Q a0 w := by
  refine region_facts k F hm hT steps fun a w' hb hw hf => ?_
  rw [hk]
  refine fin a w' hb hw fun i d hi => ?_
  unfold writes at hi
  cases ho : ops[i]? with
  | none => rw [ho] at hi; simp at hi
  | some oi =>
    rw [ho] at hi
    have h1 := (Array.getElem?_eq_some_iff.1 ho).1
    have h2 : ops.size ≤ k := by simpa using hk
    exact hf i oi d (by omega) ho (by simpa using hi)
def puts (vs : Nat → Value) (a0 : Act) : List Oper → Act
  | [] => a0
  | o :: rest => match o.dst with
    | some d => puts vs (a0.put (some d) (vs d)) rest
    | none => puts vs a0 rest
theorem puts_size (vs : Nat → Value) : ∀ (l : List Oper) (a : Act), (puts vs a l).tmps.size = a.tmps.size ∧ (puts vs a l).defers = a.defers
  | [], _ => ⟨rfl, rfl⟩
  | o :: rest, a => by
    unfold puts
    cases o.dst with
    | none => exact puts_size vs rest a
    | some d =>
      have := puts_size vs rest (a.put (some d) (vs d))
      exact ⟨this.1.trans (put_size _ _ _), this.2.trans (put_defers _ _ _)⟩
theorem puts_get (vs : Nat → Value) (d : Nat) : ∀ (l : List Oper) (a : Act), (∀ o ∈ l, ∀ e, o.dst = some e → e < a.tmps.size) → (puts vs a l).tmps.getD d undef = if l.any (fun o => o.dst == some d) then vs d else a.tmps.getD d undef
  | [], _, _ => by simp [puts]
  | o :: rest, a, h => by
    unfold puts
    cases ho : o.dst with
    | none =>
      rw [puts_get vs d rest a (fun o' h' => h o' (List.mem_cons_of_mem _ h'))]
      simp [ho]
    | some e =>
      have he := h o (List.mem_cons_self) e ho
      simp only
      rw [puts_get vs d rest _ (fun o' h' => by rw [put_size]; exact h o' (List.mem_cons_of_mem _ h'))]
      by_cases c : e = d
      · subst c
        rw [put_at he]
        simp [ho]
      · rw [put_off (by simpa using c)]
        simp [ho, c]
theorem puts_of {n k : Nat} (hT : textOk md ops n k = true) (hn : n = a0.tmps.size) {a : Act} (hb : Based ops a0 a) (vs : Nat → Value) (hv : ∀ d, a.tmps.getD d undef = vs d) : a = puts vs a0 ops.toList := by
  have T := text_of hT
  have hin : ∀ o ∈ ops.toList, ∀ e, o.dst = some e → e < a0.tmps.size := fun o ho e he => by
    obtain ⟨i, hi⟩ := List.getElem?_of_mem ho
    have := T.d i o e (by simpa using hi) he
    rw [hn] at this
    exact this
  obtain ⟨s1, s2⟩ := puts_size vs ops.toList a0
  obtain ⟨ta, da⟩ := a
  obtain ⟨h1, h2, h3⟩ := hb
  have e1 : ta = (puts vs a0 ops.toList).tmps := by
    apply Array.ext
    · rw [s1]; exact h2
    · intro i hi hi'
      have g := puts_get vs i ops.toList a0 hin
      have l : ta[i] = ta.getD i undef := by simp [Array.getD_eq_getD_getElem?, hi]
      have r : (puts vs a0 ops.toList).tmps[i] = (puts vs a0 ops.toList).tmps.getD i undef := by simp only [Array.getD_eq_getD_getElem?, Array.getElem?_eq_getElem hi', Option.getD_some]
      rw [l, r, g]
      by_cases c : ops.toList.any (fun o => o.dst == some i) = true
      · rw [if_pos c]; exact hv i
      · rw [if_neg c]
        refine h3 i ?_
        unfold apart
        rw [Array.all_eq_true_iff_forall_mem]
        intro o ho
        have hne : ¬ (o.dst == some i) = true := fun x => c (List.any_eq_true.2 ⟨o, by simpa using ho, x⟩)
        simpa using hne
  have e2 : da = (puts vs a0 ops.toList).defers := h1.trans s2.symm
  subst e1
  subst e2
  rfl
end
def Fact.eq (v0 : Value) : Fact := ⟨fun v _ => v = v0, fun _ h => h⟩
def Fact.no : Fact := ⟨fun _ _ => True, fun _ h => h⟩
section
variable {P : Program} {ops : Array Oper} {Q : Exit → Act → World → Prop} {md : Region.Mode} {F : Nat → Fact} {a0 : Act} {w0 : World}
def Facts (md : Region.Mode) (ops : Array Oper) (F : Nat → Fact) (i : Nat) (a : Act) (w : World) : Prop := ∀ j d, waits md ops i j d = true → (F j).p (a.tmps.getD d undef) w
theorem step_pure {i : Nat} {o : Oper} (hi : ops[i]? = some o)
    (G : ∀ a w, Based ops a0 a → Gm w0.heap.size w0 w → Facts md ops F i a w → ∃ v, (execOp a.eval o).run P w = .ok (.value v) w ∧ (F i).p v w) : StepOk P md ops Q F a0 w0 i := by
  intro o' ho' a w hb hw hf K hK
  obtain rfl := Option.some.inj (hi.symm.trans ho')
  obtain ⟨v, hr, hv⟩ := G a w hb hw hf
  unfold Oper.wp
  rw [hr]
  exact hK v w (Gm.refl _ _) hv
theorem step_grow {i : Nat} {o : Oper} (hi : ops[i]? = some o)
    (G : ∀ a w, Based ops a0 a → Gm w0.heap.size w0 w → Facts md ops F i a w → ∃ v w', (execOp a.eval o).run P w = .ok (.value v) w' ∧ Gm w0.heap.size w w' ∧ (F i).p v w') : StepOk P md ops Q F a0 w0 i := by
  intro o' ho' a w hb hw hf K hK
  obtain rfl := Option.some.inj (hi.symm.trans ho')
  obtain ⟨v, w', hr, hn, hv⟩ := G a w hb hw hf
  unfold Oper.wp
  rw [hr]
  exact hK v w' hn hv
theorem step_load {i : Nat} {o : Oper} (hi : ops[i]? = some o) (ty : TypeId) (x : Operand) (hop : o.op = .load ty x) (d : TypeDesc) (n : Nat) (hu : P.underlying ty = some d) (hd : d.isRow = true) (hs : (P.info? ty).map (·.size) = some n)
    (G : ∀ a w, Based ops a0 a → Gm w0.heap.size w0 w → Facts md ops F i a w → ∃ b off cs, a.eval x = .pointer (some ⟨b, off, none⟩) ∧ w.rangeAt b off cs ∧ cs.length = n ∧ (F i).p (.agg cs.toArray) w) : StepOk P md ops Q F a0 w0 i := by
  intro o' ho' a w hb hw hf K hK
  obtain rfl := Option.some.inj (hi.symm.trans ho')
  obtain ⟨b, off, cs, hx, hc, hl, hv⟩ := G a w hb hw hf
  exact wp_load_mid ty x hop b off hx cs d hc hu hd (by rw [hl]; exact hs) (hK _ _ (Gm.refl _ _) hv)
def enters (P : Program) (n : FuncId) : Bool :=
  match P.funcs[n]? with
  | some fn => !(fn.name == "runtime.NumGoroutine") && fn.body.isSome
  | none => false
theorem run_enter {n : FuncId} (h : enters P n = true) (args : Array Value) (w : World) : (callFunc n args).run P w = .ok (.enter n args) w := by
  unfold enters at h
  cases hq : P.funcs[n]? with
  | none => rw [hq] at h; simp at h
  | some fn =>
    rw [hq] at h
    simp only [Bool.and_eq_true, Bool.not_eq_true'] at h
    have h2 : fn.body ≠ none := fun e => by rw [e] at h; simp at h
    have h1 : ¬ fn.name = "runtime.NumGoroutine" := by simpa using h.1
    simp [callFunc, hq, h1, h2]
end
theorem gdv {a : Act} {p : Nat} {v : Value} (h : a.tmps.getD p undef = v) : a.tmps[p]?.getD undef = v := by rw [← h]; simp
section
variable {P : Program} {ops : Array Oper} {Q : Exit → Act → World → Prop} {md : Region.Mode} {F : Nat → Fact} {a0 : Act} {w0 : World}
theorem step_callv {i : Nat} {o : Oper} (hi : ops[i]? = some o) (n : FuncId) (args : Array Operand) (ts : Array TypeId) (hop : o.op = .call { callee := .value (.func n), args := args, argTypes := ts }) (he : enters P n = true)
    (G : ∀ a w, Based ops a0 a → Gm w0.heap.size w0 w → Facts md ops F i a w → Calls P n (args.toList.map a.eval).toArray w fun e w' => ∃ v, e = .returned v ∧ Gm w0.heap.size w w' ∧ (F i).p v w') : StepOk P md ops Q F a0 w0 i := by
  intro o' ho' a w hb hw hf K hK
  obtain rfl := Option.some.inj (hi.symm.trans ho')
  have hr : (execOp a.eval o).run P w = .ok (.enter n (args.map a.eval)) w := by
    have h0 : (Deferred.ofValue (Value.func (Fn.func n) #[] #[]) (args.map a.eval)).run P w = .ok { target := .fn (.func n) #[], args := args.map a.eval } w := by simp [Deferred.ofValue]
    simp [execOp, hop, resolve, invoke, Act.eval, h0, run_enter he]
  have e : args.map a.eval = (args.toList.map a.eval).toArray := by cases args; simp
  unfold Oper.wp
  rw [hr, e, Oper.upon_enter]
  refine (G a w hb hw hf).mono ?_
  rintro e w' ⟨v, rfl, hn, hv⟩
  exact hK v w' hn hv
end
end Go.Proofs.YtccnhdicibjbaaaGreat.Mk
