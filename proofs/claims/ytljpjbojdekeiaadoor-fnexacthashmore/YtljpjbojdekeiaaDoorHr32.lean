
/-
  A hash state that is handed in is read (a good one).
-/
import Derived.Test.YtljpjbojdekeiaaDoorHq32
import Derived.Test.YtljpjbojdekeiaaDoorRgL
import Derived.Test.YtljpjbojdekeiaaDoorPdI
namespace Go.Proofs.YtljpjbojdekeiaaDoor
set_option maxRecDepth 100000
open Go Go.RowKit

structure C3 (w : World) (p : Nat) (x y z : Value) : Prop where
  c0 : w.cell? ⟨p, 0, none⟩ = some x
  c1 : w.cell? ⟨p, 1, none⟩ = some y
  c2 : w.cell? ⟨p, 2, none⟩ = some z
theorem C3.lt {w : World} {p : Nat} {x y z : Value} (h : C3 w p x y z) : p < w.heap.size := block_lt_of_cell h.c0
theorem C3.of_block {w w' : World} {p : Nat} {x y z : Value} (h : C3 w p x y z) (hb : w'.heap[p]? = w.heap[p]?) : C3 w' p x y z :=
  ⟨(World.cell?_of_block (a := ⟨p, 0, none⟩) hb).trans h.c0, (World.cell?_of_block (a := ⟨p, 1, none⟩) hb).trans h.c1, (World.cell?_of_block (a := ⟨p, 2, none⟩) hb).trans h.c2⟩
theorem C3.up {w w' : World} {p : Nat} {x y z : Value} (h : C3 w p x y z) (n : Below w.heap.size w w') : C3 w' p x y z := h.of_block (n.block p h.lt)
theorem C3.new (w : World) (x y z : Value) (t : TypeId) : C3 (w.alloc (.cells #[x, y, z] t)) w.heap.size x y z :=
  ⟨by simp [World.cell?_alloc_at], by simp [World.cell?_alloc_at], by simp [World.cell?_alloc_at]⟩
theorem results_two {P : Program} {fn : Func} {p t : Tmp} {ty : TypeId} (h : fn.results = #[.cell p ty, .tmp t]) (tmps : Array Value) (w : World) (g : Nat) (cs : List Value) (d : TypeDesc) (v : Value)
    (hp : tmps.getD p undef = .pointer (some ⟨g, 0, none⟩)) (ht : tmps.getD t undef = v) (hc : w.rangeAt g 0 cs) (hu : P.underlying ty = some d) (hd : d.isRow = true) (hi : (P.info? ty).map (·.size) = some cs.length) :
    (results fn tmps).run P w = .ok (.tuple #[.agg cs.toArray, v]) w := by
  have hp' : tmps[p]?.getD undef = .pointer (some ⟨g, 0, none⟩) := by simpa using hp
  have ht' : tmps[t]?.getD undef = v := by simpa using ht
  simp [results, h, hp', ht', asAddr, run_loadVar_mid w g 0 ty cs d hc hu hd hi]
/-- A list that may be nil is copied over a row of bytes. -/
theorem copy_rest (w : World) (q : Nat) (L : Int) (C : S8) (g : Nat) (a : Option Addr) (c : Nat) (R : List Int) (H : HB .u32 w q L C (List.replicate 128 0)) (hr : Rd w g a .u8 R) (hl : R.length ≤ 128) (hc : a = none → c = 0) :
    ∃ w', (Builtin.copy_ #[22, 22] 3 #[.slice (some ⟨q, 9, none⟩) 128 128, .slice a R.length c]).run Tryd.prog w = .ok (.int .i64 (R.length : Int)) w' ∧ HB .u32 w' q L C (R ++ List.replicate (128 - R.length) 0) ∧ Only q w w' := by
  have e : lay (List.replicate 128 0) 0 R = R ++ List.replicate (128 - R.length) 0 := by
    unfold lay
    rw [List.take_zero, List.nil_append, Nat.zero_add, List.drop_replicate]
  cases a with
  | none =>
    obtain rfl : R = [] := by
      by_cases h0 : 0 < R.length
      · obtain ⟨off, h, _⟩ := hr h0
        simp at h
      · exact List.eq_nil_of_length_eq_zero (by omega)
    obtain rfl := hc rfl
    exact ⟨w, by first | kernel_rfl | go_simp, H, Only.refl _ _⟩
  | some x =>
    have hrun := run_copy_cells (P := Tryd.prog) w 22 22 3 5 q 9 128 128 x R.length c (R.map (Value.int .u8)) und22h s5 (by rw [List.length_map]; exact (Nat.min_eq_left hl).symm)
      (fun j v hj => by
        have hjl : j < R.length := by have := (List.getElem?_eq_some_iff.1 hj).1; simpa using this
        obtain ⟨o', e', hcc'⟩ := hr (by omega)
        simp only [Option.some.injEq] at e'
        subst e'
        rw [Addr.add_mid, hcc' j hjl]
        simpa [hjl] using hj)
      (fun j hj => by
        rw [List.length_map] at hj
        have := H.rs j (by rw [H.len]; omega)
        rw [this.1]; rfl)
      (fun j hj => by
        rw [List.length_map] at hj
        exact (H.rs j (by rw [H.len]; omega)).2)
      (fun v hv => by obtain ⟨x, _, rfl⟩ := List.mem_map.1 hv; rfl)
    rw [List.length_map] at hrun
    have H3 := H.setR 0 R (by omega)
    rw [e] at H3
    exact ⟨_, hrun, H3, only_setCells w q _ 9⟩
set_option maxRecDepth 20000 in
set_option maxHeartbeats 8000000 in
theorem readHash_32 (w : World) (n : Int) (gw : Nat) (aw : Option Addr) (cw : Nat) (W : List Int) (hW : Rd w gw aw .u8 W) (bW : Byt W) (gr : Nat) (ar : Option Addr) (cr : Nat) (R : List Int) (hR : Rd w gr ar .u8 R)
    (kR : ar = none → cr = 0) (n0 : 0 ≤ n) (n1 : n ≤ 1099511627776) (hl : W.length = 32) (hr : (R.length : Int) = n % 64) :
    Calls Tryd.prog 53 #[.agg #[.int .i64 n, .slice aw W.length cw, .slice ar R.length cr]] w fun e w' => Below w.heap.size w w' ∧ ∃ C : S8, e = .returned (.tuple #[.agg (hcl .u32 n C (R ++ List.replicate (128 - R.length) 0)).toArray, .bool true]) ∧ ∀ j, j < 8 → C.l.getD j 0 = wd 4 W j := by
  have IH := fun W => isHashable_any W n
  have tn : decide (0 ≤ n ∧ n ≤ 1099511627776) = true := decide_eq_true ⟨n0, n1⟩
  simp only [tn] at IH
  have HL := hide hl
  have HR := hide hr
  have wl : ((W.length : Int) == 32) = true := by rw [hl]; rfl
  clear hl hr tn
  go_enter Tryd.func53, Tryd.ntmps53
  go_upto_region 1 with fail
  change Code.wp _ _ _ _ ((w.alloc (.cells #[.int .i64 n, .slice aw W.length cw, .slice ar R.length cr] 26)).alloc zH32)
  have T0 := C3.new w (.int .i64 n) (.slice aw W.length cw) (.slice ar R.length cr) 26
  have m0 : Below w.heap.size w (w.alloc (.cells #[.int .i64 n, .slice aw W.length cw, .slice ar R.length cr] 26)) := (Below.refl _ _).alloc (Nat.le_refl _) _
  have z0 : (w.alloc (.cells #[.int .i64 n, .slice aw W.length cw, .slice ar R.length cr] 26)).heap.size = w.heap.size + 1 := by simp
  generalize w.alloc (.cells #[.int .i64 n, .slice aw W.length cw, .slice ar R.length cr] 26) = wa at *
  have m1 : Below wa.heap.size wa (wa.alloc zH32) := (Below.refl _ _).alloc (Nat.le_refl _) _
  have H1 := HB.zero32 wa
  have z1 : (wa.alloc zH32).heap.size = wa.heap.size + 1 := by simp
  generalize wa.alloc zH32 = wb at *
  replace T0 := T0.up m1
  have N := nxt m0 m1
  have Z0 := hide z0
  have Z1 := hide z1
  clear m0 m1 z0 z1
  have q0 := T0.c0
  have q1 := T0.c1
  have q2 := T0.c2
  go_wp2_with fail
  refine (IH _).mono ?_
  rintro e w2 ⟨rfl, rfl⟩
  have z2 := HB.zero32 w2
  have m2 : Below w2.heap.size w2 (w2.alloc zH32) := (Below.refl _ _).alloc (Nat.le_refl _) _
  have lz := hcl_len .u32 n ⟨0, 0, 0, 0, 0, 0, 0, 0⟩ (R := List.replicate 128 0) (by simp)
  have HZ := hide (fun W (h : W.there w2.heap.size 0 137) => HB.of_range (k := .u32) (L := n) (C := ⟨0, 0, 0, 0, 0, 0, 0, 0⟩) (R := List.replicate 128 0) (by simp) (World.rangeAt_setCells_same W w2.heap.size 0 _ (by rw [lz]; exact h)) (World.there_setCells h _ _ _))
  go_upto_region 4 with (refine wpList_store_mid rfl 63 (.tmp 4) (.tmp 18) rfl w2.heap.size 0 (hcl .u32 n ⟨0, 0, 0, 0, 0, 0, 0, 0⟩ (List.replicate 128 0)).toArray rfl ?hy ?hth ?hin ?hon ?_)
  case hy => kernel_rfl
  case hth => show (w2.alloc zH32).there w2.heap.size 0 (hcl .u32 n ⟨0, 0, 0, 0, 0, 0, 0, 0⟩ (List.replicate 128 0)).length; rw [lz]; exact z2.there
  case hin => show _ = some (hcl .u32 n ⟨0, 0, 0, 0, 0, 0, 0, 0⟩ (List.replicate 128 0)).length; rw [lz]; exact infoH_32
  case hon => exact hcl_one _ _ _ _
  change Code.wp _ _ _ _ ((w2.alloc zH32).setCells w2.heap.size 0 (hcl .u32 n ⟨0, 0, 0, 0, 0, 0, 0, 0⟩ (List.replicate 128 0)))
  have H3 := HZ.out _ z2.there
  have O3 := only_setCells (w2.alloc zH32) w2.heap.size (hcl .u32 n ⟨0, 0, 0, 0, 0, 0, 0, 0⟩ (List.replicate 128 0)) 0
  have n3 : Below w2.heap.size w2 ((w2.alloc zH32).setCells w2.heap.size 0 (hcl .u32 n ⟨0, 0, 0, 0, 0, 0, 0, 0⟩ (List.replicate 128 0))) := m2.trans (O3.below (Nat.le_refl _))
  generalize (w2.alloc zH32).setCells w2.heap.size 0 (hcl .u32 n ⟨0, 0, 0, 0, 0, 0, 0, 0⟩ (List.replicate 128 0)) = W3 at *
  have N3 := nxt N n3
  have T3 := T0.up n3
  have H1' := H1.up n3
  have lq := hide (show w.heap.size < w2.heap.size by have := T0.lt; omega)
  have lq2 := hide (show wa.heap.size < w2.heap.size by have := H1.lt; omega)
  clear T0 H1 N n3 O3 m2 z2 q0 q1 q2 HZ
  have RS := fun W => restSize_32 W n ⟨0, 0, 0, 0, 0, 0, 0, 0⟩ (List.replicate 128 0) (by simp) n0
  have LH := lz
  have RG := fun W (h : HB .u32 W w2.heap.size n ⟨0, 0, 0, 0, 0, 0, 0, 0⟩ (List.replicate 128 0)) => h.range
  generalize hv : hcl .u32 n ⟨0, 0, 0, 0, 0, 0, 0, 0⟩ (List.replicate 128 0) = vs at *
  obtain ⟨d, hd, hrow⟩ : ∃ d, Tryd.prog.underlying 63 = some d ∧ d.isRow = true := by
    have h := undH_32
    cases hq : Tryd.prog.underlying 63 with
    | none => rw [hq] at h; simp at h
    | some d => rw [hq] at h; exact ⟨d, rfl, by simpa using h⟩
  obtain ⟨m, hm⟩ : ∃ m : Int, m = n % 64 := ⟨_, rfl⟩
  rw [← hm] at RS
  have MR : Hid ((R.length : Int) = m) := by show _ = _; rw [hm]; exact HR.out
  have nb : ((R.length : Int) != m) = false := by rw [MR.out]; simp
  clear hm
  refine region_end 6 (fun i => [Fact.eq (.pointer (some ⟨w.heap.size, 2, none⟩)), Fact.eq (.slice ar R.length cr), Fact.eq (.int .i64 (R.length : Int)), Fact.eq (.agg vs.toArray), Fact.eq (.int .i64 m), Fact.eq (.bool false)].getD i Fact.no) (by kernel_rfl) (by kernel_rfl) rfl ?_ ?_
  · intro i hi
    obtain rfl | rfl | rfl | rfl | rfl | rfl : i = 0 ∨ i = 1 ∨ i = 2 ∨ i = 3 ∨ i = 4 ∨ i = 5 := by omega
    · refine step_pure rfl fun a ww hb hw hf => ?_
      have e1 : a.tmps[1]?.getD undef = .pointer (some ⟨w.heap.size, 0, none⟩) := gdv (hb.2.2 1 (by kernel_rfl))
      exact ⟨.pointer (some ⟨w.heap.size, 2, none⟩), by simp [go_sem, e1], rfl⟩
    · refine step_pure rfl fun a ww hb hw hf => ?_
      have e3 : a.tmps[19]?.getD undef = .pointer (some ⟨w.heap.size, 2, none⟩) := gdv (hf 0 19 (by kernel_rfl))
      have hc := (T3.up hw).c2
      exact ⟨.slice ar R.length cr, by simp [go_sem, e3, hc], rfl⟩
    · refine step_pure rfl fun a ww hb hw hf => ?_
      have e3 : a.tmps[20]?.getD undef = .slice ar R.length cr := gdv (hf 1 20 (by kernel_rfl))
      exact ⟨.int .i64 (R.length : Int), by simp [go_sem, e3], rfl⟩
    · refine step_load rfl 63 (.tmp 4) rfl d 137 hd hrow infoH_32 fun a ww hb hw hf => ⟨_, 0, vs, hb.2.2 4 (by kernel_rfl), RG _ (H3.up hw), LH, rfl⟩
    · refine step_callv rfl 82 _ _ rfl (by kernel_rfl) fun a ww hb hw hf => ?_
      have e9 : a.tmps.getD 22 undef = .agg vs.toArray := hf 3 22 (by kernel_rfl)
      show Calls Tryd.prog 82 #[a.tmps.getD 22 undef] ww _
      rw [e9]
      exact (RS ww).mono (by rintro r w' ⟨rfl, n⟩; exact ⟨_, rfl, n, rfl⟩)
    · refine step_pure rfl fun a ww hb hw hf => ?_
      have e3 : a.tmps[21]?.getD undef = .int .i64 (R.length : Int) := gdv (hf 2 21 (by kernel_rfl))
      have e4 : a.tmps[23]?.getD undef = .int .i64 m := gdv (hf 4 23 (by kernel_rfl))
      exact ⟨.bool false, by simp [go_sem, e3, e4, nb], rfl⟩
  intro A W4 hb' hw hF
  have e2 := hF 5 24 (by kernel_rfl)
  obtain ⟨vs2, hvs⟩ : ∃ vs2 : Nat → Value, ∀ d, A.tmps.getD d undef = vs2 d := ⟨_, fun _ => rfl⟩
  rw [hvs] at e2
  rw [puts_of (md := .any) (k := 6) (by kernel_rfl) rfl hb' vs2 hvs]
  clear hb' hF hvs
  have e3 : vs2 24 = .bool false := e2
  clear e2
  simp only [puts, e3, Act.put, List.setIfInBounds_toArray, List.set_cons_succ, List.set_cons_zero]
  clear e3
  have N4 := nxt N3 hw
  replace T3 := T3.up hw
  replace H3 := H3.up hw
  replace H1' := H1'.up hw
  clear hw N3
  go_upto_region 6 with fail
  have gq : gw ≠ w2.heap.size := by have := hW.lt (by rw [HL.out]; omega); have := lq.out; omega
  refine region_call 4 _ (fun i => [Fact.eq (.pointer (some ⟨w2.heap.size, 1, none⟩)), Fact.eq (.slice (some ⟨w2.heap.size, 1, none⟩) 8 8), Fact.eq (.pointer (some ⟨w.heap.size, 1, none⟩)), Fact.eq (.slice aw W.length cw)].getD i Fact.no) (by kernel_rfl) (by kernel_rfl) rfl 30 rfl ?_ 83 _ _ rfl (by kernel_rfl) ?_
  · intro i hi
    obtain rfl | rfl | rfl | rfl : i = 0 ∨ i = 1 ∨ i = 2 ∨ i = 3 := by omega
    · refine step_pure rfl fun a ww hb hw hf => ?_
      have e1 : a.tmps[4]?.getD undef = .pointer (some ⟨w2.heap.size, 0, none⟩) := gdv (hb.2.2 4 (by kernel_rfl))
      exact ⟨.pointer (some ⟨w2.heap.size, 1, none⟩), by simp [go_sem, e1], rfl⟩
    · refine step_pure rfl fun a ww hb hw hf => ?_
      have e1 : a.tmps[26]?.getD undef = .pointer (some ⟨w2.heap.size, 1, none⟩) := gdv (hf 0 26 (by kernel_rfl))
      exact ⟨.slice (some ⟨w2.heap.size, 1, none⟩) 8 8, by simp [go_sem, e1], rfl⟩
    · refine step_pure rfl fun a ww hb hw hf => ?_
      have e1 : a.tmps[1]?.getD undef = .pointer (some ⟨w.heap.size, 0, none⟩) := gdv (hb.2.2 1 (by kernel_rfl))
      exact ⟨.pointer (some ⟨w.heap.size, 1, none⟩), by simp [go_sem, e1], rfl⟩
    · refine step_pure rfl fun a ww hb hw hf => ?_
      have e3 : a.tmps[28]?.getD undef = .pointer (some ⟨w.heap.size, 1, none⟩) := gdv (hf 2 28 (by kernel_rfl))
      have hc := (T3.up hw).c1
      exact ⟨.slice aw W.length cw, by simp [go_sem, e3, hc], rfl⟩
  intro A W5 hb' hw hF
  have e27 : A.tmps.getD 27 undef = .slice (some ⟨w2.heap.size, 1, none⟩) 8 8 := hF 1 _ 27 (by omega) rfl rfl
  have e29 : A.tmps.getD 29 undef = .slice aw W.length cw := hF 3 _ 29 (by omega) rfl rfl
  show Calls Tryd.prog 83 #[A.tmps.getD 27 undef, A.tmps.getD 29 undef] W5 _
  rw [e27, e29]
  refine (fillWords_32 W5 w2.heap.size 1 8 8 (H3.up hw).ch gw aw cw W (hW.up (nxt N4 hw)) bW HL.out (by omega) (by omega) gq).mono ?_
  rintro r W6 ⟨rfl, ys, ⟨yl, yv⟩, SY, XS⟩
  refine ⟨_, rfl, ?_⟩
  obtain ⟨vs3, hvs⟩ : ∃ vs3 : Nat → Value, ∀ d, A.tmps.getD d undef = vs3 d := ⟨_, fun _ => rfl⟩
  rw [puts_of (md := .any) (k := 4) (by kernel_rfl) rfl hb' vs3 hvs]
  clear hb' hF hvs e27 e29
  simp only [puts, Act.put, List.setIfInBounds_toArray, List.set_cons_succ, List.set_cons_zero]
  have N5 := nxt N4 hw
  replace T3 := (T3.up hw).of_block (XS.only.block w.heap.size (by have := lq.out; omega))
  replace H1' := (H1'.up hw).of_block (XS.only.block wa.heap.size (by have := lq2.out; omega))
  replace H3 := H3.up hw
  go_upto_region 7 with fail
  obtain ⟨C, hC⟩ : ∃ C : S8, C.l = ys := ⟨⟨ys.getD 0 0, ys.getD 1 0, ys.getD 2 0, ys.getD 3 0, ys.getD 4 0, ys.getD 5 0, ys.getD 6 0, ys.getD 7 0⟩, eq_of_getD (by rw [yl]; rfl) (fun i hi => by
    have hi : i < 8 := hi
    obtain rfl | rfl | rfl | rfl | rfl | rfl | rfl | rfl : i = 0 ∨ i = 1 ∨ i = 2 ∨ i = 3 ∨ i = 4 ∨ i = 5 ∨ i = 6 ∨ i = 7 := by omega
    all_goals rfl)⟩
  subst hC
  have H6 := H3.of_seg XS SY
  have N6 : Below w.heap.size w W6 := N5.trans (XS.only.below (by have := lq.out; omega))
  have rR : Rd W6 gr ar .u8 R := fun h => (hR.up N6) h
  have YV := hide yv
  have lR : R.length ≤ 128 := by have := MR.out; have := HR.out; omega
  clear SY XS yl yv N5 H3 hw N4
  refine region_copy 4 _ (fun i => [Fact.eq (.pointer (some ⟨w2.heap.size, 9, none⟩)), Fact.eq (.slice (some ⟨w2.heap.size, 9, none⟩) 128 128), Fact.eq (.pointer (some ⟨w.heap.size, 2, none⟩)), Fact.eq (.slice ar R.length cr)].getD i Fact.no) (by kernel_rfl) (by kernel_rfl) rfl 35 rfl ?_ (.tmp 32) (.tmp 34) 22 22 3 rfl rfl ?_
  · intro i hi
    obtain rfl | rfl | rfl | rfl : i = 0 ∨ i = 1 ∨ i = 2 ∨ i = 3 := by omega
    · refine step_pure rfl fun a ww hb hw hf => ?_
      have e1 : a.tmps[4]?.getD undef = .pointer (some ⟨w2.heap.size, 0, none⟩) := gdv (hb.2.2 4 (by kernel_rfl))
      exact ⟨.pointer (some ⟨w2.heap.size, 9, none⟩), by simp [go_sem, e1], rfl⟩
    · refine step_pure rfl fun a ww hb hw hf => ?_
      have e1 : a.tmps[31]?.getD undef = .pointer (some ⟨w2.heap.size, 9, none⟩) := gdv (hf 0 31 (by kernel_rfl))
      exact ⟨.slice (some ⟨w2.heap.size, 9, none⟩) 128 128, by simp [go_sem, e1], rfl⟩
    · refine step_pure rfl fun a ww hb hw hf => ?_
      have e1 : a.tmps[1]?.getD undef = .pointer (some ⟨w.heap.size, 0, none⟩) := gdv (hb.2.2 1 (by kernel_rfl))
      exact ⟨.pointer (some ⟨w.heap.size, 2, none⟩), by simp [go_sem, e1], rfl⟩
    · refine step_pure rfl fun a ww hb hw hf => ?_
      have e3 : a.tmps[33]?.getD undef = .pointer (some ⟨w.heap.size, 2, none⟩) := gdv (hf 2 33 (by kernel_rfl))
      have hc := (T3.up hw).c2
      exact ⟨.slice ar R.length cr, by simp [go_sem, e3, hc], rfl⟩
  intro A W7 hb' hw hF
  have e27 : A.eval (.tmp 32) = .slice (some ⟨w2.heap.size, 9, none⟩) 128 128 := hF 1 _ 32 (by omega) rfl rfl
  have e29 : A.eval (.tmp 34) = .slice ar R.length cr := hF 3 _ 34 (by omega) rfl rfl
  obtain ⟨W8, hcp, H8, O8⟩ := copy_rest W7 w2.heap.size n C gr ar cr R (H6.up hw) (rR.up hw) lR kR
  refine ⟨_, W8, by rw [e27, e29]; exact hcp, ?_⟩
  obtain ⟨vs4, hvs⟩ : ∃ vs4 : Nat → Value, ∀ d, A.tmps.getD d undef = vs4 d := ⟨_, fun _ => rfl⟩
  rw [puts_of (md := .any) (k := 4) (by kernel_rfl) rfl hb' vs4 hvs]
  clear hb' hF hvs e27 e29 hcp
  simp only [puts, Act.put, List.setIfInBounds_toArray, List.set_cons_succ, List.set_cons_zero]
  have N8 : Below w.heap.size w W8 := (nxt N6 hw).trans (O8.below (by have := lq.out; omega))
  replace H1' := (H1'.up hw).of_block (O8.block wa.heap.size (by have := lq2.out; omega))
  clear O8 hw N6 H6 rR T3
  have L8 := hcl_len .u32 n C H8.len
  have O1 := hcl_one .u32 n C (R ++ List.replicate (128 - R.length) 0)
  have RG8 := H8.range
  have TH := H1'.there
  have RR : (W8.setCells wa.heap.size 0 (hcl .u32 n C (R ++ List.replicate (128 - R.length) 0))).rangeAt wa.heap.size 0 (hcl .u32 n C (R ++ List.replicate (128 - R.length) 0)) := World.rangeAt_setCells_same W8 wa.heap.size 0 _ (by rw [L8]; exact TH)
  have N9 : Below w.heap.size w (W8.setCells wa.heap.size 0 (hcl .u32 n C (R ++ List.replicate (128 - R.length) 0))) := N8.trans ((only_setCells W8 wa.heap.size _ 0).below (by have := Z0.out; omega))
  generalize hvs8 : hcl .u32 n C (R ++ List.replicate (128 - R.length) 0) = v8 at *
  rw [Z0.out] at TH RR N9
  go_wp2_with (first
    | (refine wpList_load_mid rfl 63 (.tmp 4) rfl w2.heap.size 0 rfl v8 d RG8 hd hrow (by rw [L8]; exact infoH_32) ?_)
    | (refine wpList_store_mid rfl 63 (.tmp 2) (.tmp 36) rfl (w.heap.size + 1) 0 v8.toArray rfl rfl ?hth ?hin ?hon ?_))
  case hth => show W8.there (w.heap.size + 1) 0 v8.length; rw [L8]; exact TH
  case hin => show _ = some v8.length; rw [L8]; exact infoH_32
  case hon => exact O1
  exact bodyPost_ret (v := .tuple #[.agg v8.toArray, .bool true]) (results_two Tryd.results53 _ _ (w.heap.size + 1) v8 d (.bool true) rfl rfl RR hd hrow (by rw [L8]; exact infoH_32)) rfl ⟨N9, C, by rw [hvs8], YV.out⟩
end Go.Proofs.YtljpjbojdekeiaaDoor
