import Derived.Test.YtcaljanahpdidaaGreatGV14
import Derived.Deep.RegionHeld3
import Derived.Deep.DeepCutAuto
import Derived.Test.YtcaljanahpdidaaGreatGV13
import Derived.Test.YtcaljanahpdidaaGreatGV2
import Derived.Test.YtcaljanahpdidaaGreatGV3
namespace Go.Proofs.YtcaljanahpdidaaGreat
open Go Go.RowKit
structure Kp (p : Nat) (w w' : World) : Prop where
  os : w'.os = w.os
  tape : w'.tape = w.tape
  output : w'.output = w.output
  size : w.heap.size ≤ w'.heap.size
  block : ∀ k, k < w.heap.size → k ≠ p → w'.heap[k]? = w.heap[k]?
theorem Kp.refl (p : Nat) (w : World) : Kp p w w := ⟨rfl, rfl, rfl, Nat.le_refl _, fun _ _ _ => rfl⟩
theorem Kp.trans {p : Nat} {a b c : World} (h : Kp p a b) (k : Kp p b c) : Kp p a c :=
  ⟨k.os.trans h.os, k.tape.trans h.tape, k.output.trans h.output, Nat.le_trans h.size k.size, fun i hi hp => (k.block i (by have := h.size; omega) hp).trans (h.block i hi hp)⟩
theorem Only.kp {p : Nat} {w w' : World} (h : Only p w w') : Kp p w w' := ⟨h.os, h.tape, h.output, Nat.le_of_eq h.size.symm, fun k _ hp => h.block k hp⟩
theorem below_kp {p : Nat} {w w' : World} (h : Below w.heap.size w w') : Kp p w w' := ⟨h.os, h.tape, h.output, h.size, fun k hk _ => h.block k hk⟩
theorem Kp.below {p B : Nat} {w w' : World} (h : Kp p w w') (hB : B ≤ p) (hs : B ≤ w.heap.size) : Below B w w' :=
  ⟨h.os, h.tape, h.output, h.size, fun k hk => h.block k (by omega) (by omega)⟩
theorem Rd.kp {w w' : World} {g q : Nat} {a : Option Addr} {k : IntKind} {xs : List Int} (h : Rd w g a k xs) (n : Kp q w w') (hne : 0 < xs.length → g ≠ q) : Rd w' g a k xs := by
  by_cases h0 : 0 < xs.length
  · exact h.of_block (n.block g (h.lt h0) (hne h0))
  · obtain rfl : xs = [] := List.eq_nil_of_length_eq_zero (by omega)
    exact Rd.nil _ _ _ _
theorem Tl.kp {w w' : World} {p q : Nat} {x y : Value} (h : Tl w p x y) (n : Kp q w w') (hne : p ≠ q) : Tl w' p x y := h.of_block (n.block p h.lt hne)
theorem step_copy_ex {P : Program} {ops : Array Oper} {o : Oper} {a : Act} {w : World} {K : Act → World → Prop} {Q : Exit → Act → World → Prop} {E : Prop} (hg : o.guard = none) (s x : Operand) (t tn : TypeId)
    (ho : o.op = .call { callee := .builtin .copy, args := #[s, x], argTypes := #[t, tn] }) (vs vx : Value) (hs : a.eval s = vs) (hx : a.eval x = vx) (v' : Value) (w' : World)
    (H : (Builtin.copy_ #[t, tn] o.type #[vs, vx]).run P w = .ok v' w') (hK : K (a.put o.dst v') w') :
    if Region.wanted o (yielded ops a.tmps) = true then Oper.wp P o a w K Q else E := by
  have hw : Region.wanted o (yielded ops a.tmps) = true := by simp [Region.wanted, hg]
  rw [if_pos hw]
  unfold Oper.wp execOp
  simp only [ho, resolve, invoke, builtin, Sem.run_bind, Sem.run_pure, Result.andThen_ok, List.map_toArray, List.map_cons, List.map_nil, hs, hx, H]
  exact hK
theorem rowU8' : (Tryz.prog.info? 5).map (·.size) = some 1 := by kernel_rfl
theorem copy_cut {P : Program} (w : World) (ty rt e : TypeId) (hu : P.underlying ty = some (.slice e)) (hsz : (P.info? e).map (·.size) = some 1) {g : Nat} {k : IntKind} {zs : List Int} (hB : Blk w g k zs)
    (gs : Nat) (sp : Option Addr) (ys : List Int) (hr : Rd w gs sp k ys) (hl : zs.length ≤ ys.length) (dc sc : Nat) :
    ∃ w2, (Builtin.copy_ #[ty, ty] rt #[.slice (some ⟨g, 0, none⟩) zs.length dc, .slice sp ys.length sc]).run P w = .ok (goInt zs.length) w2 ∧ Blk w2 g k (ys.take zs.length) ∧ Only g w w2 := by
  by_cases h0 : 0 < zs.length
  · obtain ⟨off, rfl, hc⟩ := hr (by omega)
    obtain ⟨t, hB⟩ := hB
    have hlt : (ys.take zs.length).length = zs.length := by rw [List.length_take]; omega
    have hrun := run_copy_row (P := P) w ty ty rt e g 0 zs.length dc ⟨gs, off, none⟩ ys.length sc _ t ((ys.take zs.length).map (Value.int k)) hu hsz hB (by rw [List.length_map, hlt]; exact (Nat.min_eq_right hl).symm)
      (fun j v hj => by
        have hjl : j < zs.length := by
          have := (List.getElem?_eq_some_iff.1 hj).1
          rw [List.length_map, hlt] at this
          exact this
        rw [add_mid, hc j (by omega)]
        rw [List.getElem?_map, List.getElem?_take, if_pos hjl] at hj
        rw [List.getD_eq_getElem?_getD]
        cases hy : ys[j]? with
        | none => rw [hy] at hj; simp at hj
        | some y => rw [hy] at hj; simpa using hj) (by rw [List.length_map, hlt]; simp) (oneCells _ _)
    rw [List.length_map, hlt] at hrun
    refine ⟨_, hrun, ⟨t, ?_⟩, ⟨rfl, rfl, rfl, by simp, fun i hi => setRow_other w g i _ hi⟩⟩
    rw [setRow_heap w g _ _ t _ hB]
    simp
  · obtain rfl : zs = [] := List.eq_nil_of_length_eq_zero (by omega)
    exact ⟨w, run_copy_none (P := P) w ty ty rt e _ _ _ _ _ _ hu hsz (by simp), by simpa using hB, Only.refl _ _⟩
set_option maxHeartbeats 2000000 in
theorem takeList_mid (w : World) (p g : Nat) (a : Option Addr) (c : Nat) (xs : List Int) (i n : Nat) (hC : Cur w p (.slice a xs.length c) i) (hr : Rd w g a .u8 xs) (hc : xs.length ≤ c) (hn : xs.length ≤ 1048576) (hi : i < xs.length) (hin : i + n ≤ xs.length) :
    Calls Tryz.prog 91 #[.pointer (some ⟨p, 0, none⟩), .int .i64 (n : Int)] w fun e w' => e = .returned (.slice (some ⟨w.heap.size, 0, none⟩) n n) ∧ Blk w' w.heap.size .u8 ((xs.drop i).take n) ∧ Cur w' p (.slice a xs.length c) ((i + n : Nat) : Int) ∧ Kp p w w' := by
  obtain ⟨i0, hi0, hz0, hz1, hz2⟩ := info_parts Tryz.info5
  have c0 := hC.c0
  have c1 := hC.c1
  have pl := hC.lt
  have t1 : decide ((xs.length : Int) - (i : Int) < (n : Int)) = false := by simp; omega
  have q0 : (n : Int) ≤ 1048576 := by omega
  go_enter Tryz.func91, Tryz.ntmps91
  go_wp2
  go_quiet (fail)
  go_upto_region 4 with (at_make; refine wpList_make_full _ rfl _ _ 22 rfl w.heap.size 5 i0 (.int .u8 0) 1 Tryz.underlying22 hi0 hz0 hz1 .i64 .i64 _ _ n rfl rfl rfl rfl (by rw [hz2]; omega) (by unfold maxLen; omega) (Nat.le_refl _) ?_; intro w3 hown hgrow)
  have B3 := Blk.of_made hown
  have n3 : Below w.heap.size w w3 := (below_drewN (Below.refl _ _) nq).grown hgrow (Nat.le_refl _) (by simp)
  clear hown hgrow
  have z3 := n3.size
  have B3 : Blk w3 w.heap.size .u8 (List.replicate n 0) := B3
  have l3 := B3.lt
  have C3 := hC.up n3
  have R3 := hr.up n3
  obtain ⟨off, rfl, RR⟩ := R3.dropA i hi
  obtain ⟨w4, hcp, B4, O4⟩ := copy_cut (P := Tryz.prog) w3.drew 22 3 5 Tryz.underlying22 rowU8' B3.drew g (some ⟨g, off + i, none⟩) (xs.drop i) (RR.of_block rfl) (by rw [List.length_replicate, List.length_drop]; omega) n (c - i)
  rw [List.length_replicate] at hcp B4
  rw [List.length_drop] at hcp
  have C4 := Cur.only (w := w3.drew) C3 O4 (by omega)
  have d0 := C3.c0
  have d1 := C3.c1
  have e0 := C4.c0
  have e1 := C4.c1
  have f1 := C4.f1
  have C5 := C4.store ((i : Int) + (n : Int))
  have N5 : Kp p w (w4.setCell ⟨p, 1, none⟩ (.int .i64 ((i : Int) + (n : Int)))) := (below_kp (n3.drew.trans (O4.below (Nat.le_refl _)))).trans (Only.setCell _ _ _ _).kp
  have B5 : Blk (w4.setCell ⟨p, 1, none⟩ (.int .i64 ((i : Int) + (n : Int)))) w.heap.size .u8 ((xs.drop i).take n) := B4.of_block ((Only.setCell w4 p 1 _).block _ (by omega))
  have ci : ¬ (c = i) := by omega
  have j1 : (i : Int) ≤ (xs.length : Int) := by omega
  have j2 : (i : Int) ≤ (c : Int) := by omega
  have WR : IntKind.i64.wrap ((i : Int) + (n : Int)) = (i : Int) + (n : Int) := by rw [wrap_i64]; omega
  generalize hm : xs.length = m at *
  have HM := hide hm
  clear hm
  go_region_with (first | (refine step_copy_ex rfl (.tmp 25) (.tmp 34) 22 22 rfl _ _ rfl rfl _ _ hcp ?_) | fail)
  all_goals
    go_wp2
    go_ret
    exact ⟨rfl, B5, by rw [show ((i + n : Nat) : Int) = (i : Int) + (n : Int) by omega, HM.out]; exact C5, N5⟩
end Go.Proofs.YtcaljanahpdidaaGreat
namespace Go.Proofs.YtcaljanahpdidaaGreat
open Go Go.RowKit
set_option maxHeartbeats 2000000 in
theorem takeList_end (w : World) (p : Nat) (a : Option Addr) (m c : Nat) (hC : Cur w p (.slice a m c) (m : Int)) (hc0 : a = none → c = 0) (hc : m ≤ c) (hn : m ≤ 1048576) :
    Calls Tryz.prog 91 #[.pointer (some ⟨p, 0, none⟩), .int .i64 0] w fun e w' => e = .returned (.slice (some ⟨w.heap.size, 0, none⟩) 0 0) ∧ Blk w' w.heap.size .u8 [] ∧ Cur w' p (.slice a m c) (m : Int) ∧ Kp p w w' := by
  obtain ⟨i0, hi0, hz0, hz1, hz2⟩ := info_parts Tryz.info5
  have c0 := hC.c0
  have c1 := hC.c1
  have t1 : decide ((m : Int) - (m : Int) < 0) = false := by simp
  have q0 : (m : Int) ≤ 1048576 := by omega
  have j2 : (m : Int) ≤ (c : Int) := by omega
  have WR : IntKind.i64.wrap ((m : Int) + 0) = (m : Int) := by rw [wrap_i64]; omega
  have WR' : IntKind.i64.wrap (m : Int) = (m : Int) := by rw [wrap_i64]; omega
  have hcp := fun sp sc W => hide (run_copy_none (P := Tryz.prog) W 22 22 3 5 (some ⟨w.heap.size, 0, none⟩) sp 0 0 0 sc Tryz.underlying22 rowU8' (by simp))
  by_cases ha : a = none
  · subst ha
    obtain rfl := hc0 rfl
    obtain rfl : m = 0 := by omega
    go_enter Tryz.func91, Tryz.ntmps91
    go_wp2
    go_quiet (fail)
    go_upto_region 4 with (at_make; refine wpList_make_full _ rfl _ _ 22 rfl w.heap.size 5 i0 (.int .u8 0) 1 Tryz.underlying22 hi0 hz0 hz1 .i64 .i64 _ _ 0 rfl rfl rfl rfl (by rw [hz2]; omega) (by unfold maxLen; omega) (Nat.le_refl _) ?_; intro w3 hown hgrow)
    have B3 : Blk w3 w.heap.size .u8 [] := Blk.of_made hown
    have n3 : Below w.heap.size w w3 := (below_drewN (Below.refl _ _) nq).grown hgrow (Nat.le_refl _) (by simp)
    clear hown hgrow
    have C3 := hC.up n3
    have d0 := C3.c0
    have d1 := C3.c1
    have f1 := C3.f1
    have pl := hC.lt
    have C5 := C3.store (0)
    have N5 : Kp p w (w3.setCell ⟨p, 1, none⟩ (.int .i64 (0))) := (below_kp n3).trans (Only.setCell _ _ _ _).kp
    have B5 : Blk (w3.setCell ⟨p, 1, none⟩ (.int .i64 (0))) w.heap.size .u8 [] := B3.of_block ((Only.setCell w3 p 1 _).block _ (by omega))
    have HC := (hcp none 0 w3.drew).out
    go_region_with (first | (refine step_copy_ex rfl (.tmp 25) (.tmp 34) 22 22 rfl _ _ rfl rfl _ _ HC ?_) | fail)
    all_goals
      go_wp2
      go_ret
      exact ⟨rfl, B5, C5, ⟨N5.os, N5.tape, N5.output, N5.size, N5.block⟩⟩
  · obtain ⟨ad, rfl⟩ := Option.ne_none_iff_exists'.1 ha
    by_cases hcm : c = m
    · subst hcm
      go_enter Tryz.func91, Tryz.ntmps91
      go_wp2
      go_quiet (fail)
      go_upto_region 4 with (at_make; refine wpList_make_full _ rfl _ _ 22 rfl w.heap.size 5 i0 (.int .u8 0) 1 Tryz.underlying22 hi0 hz0 hz1 .i64 .i64 _ _ 0 rfl rfl rfl rfl (by rw [hz2]; omega) (by unfold maxLen; omega) (Nat.le_refl _) ?_; intro w3 hown hgrow)
      have B3 : Blk w3 w.heap.size .u8 [] := Blk.of_made hown
      have n3 : Below w.heap.size w w3 := (below_drewN (Below.refl _ _) nq).grown hgrow (Nat.le_refl _) (by simp)
      clear hown hgrow
      have C3 := hC.up n3
      have d0 := C3.c0
      have d1 := C3.c1
      have f1 := C3.f1
      have pl := hC.lt
      have C5 := C3.store ((c : Int))
      have N5 : Kp p w (w3.setCell ⟨p, 1, none⟩ (.int .i64 ((c : Int)))) := (below_kp n3).trans (Only.setCell _ _ _ _).kp
      have B5 : Blk (w3.setCell ⟨p, 1, none⟩ (.int .i64 ((c : Int)))) w.heap.size .u8 [] := B3.of_block ((Only.setCell w3 p 1 _).block _ (by omega))
      have HC := (hcp (some ad) 0 w3.drew).out
      go_region_with (first | (refine step_copy_ex rfl (.tmp 25) (.tmp 34) 22 22 rfl _ _ rfl rfl _ _ HC ?_) | fail)
      all_goals
        go_wp2
        go_ret
        exact ⟨rfl, B5, C5, ⟨N5.os, N5.tape, N5.output, N5.size, N5.block⟩⟩
    · go_enter Tryz.func91, Tryz.ntmps91
      go_wp2
      go_quiet (fail)
      go_upto_region 4 with (at_make; refine wpList_make_full _ rfl _ _ 22 rfl w.heap.size 5 i0 (.int .u8 0) 1 Tryz.underlying22 hi0 hz0 hz1 .i64 .i64 _ _ 0 rfl rfl rfl rfl (by rw [hz2]; omega) (by unfold maxLen; omega) (Nat.le_refl _) ?_; intro w3 hown hgrow)
      have B3 : Blk w3 w.heap.size .u8 [] := Blk.of_made hown
      have n3 : Below w.heap.size w w3 := (below_drewN (Below.refl _ _) nq).grown hgrow (Nat.le_refl _) (by simp)
      clear hown hgrow
      have C3 := hC.up n3
      have d0 := C3.c0
      have d1 := C3.c1
      have f1 := C3.f1
      have pl := hC.lt
      have C5 := C3.store ((m : Int))
      have N5 : Kp p w (w3.setCell ⟨p, 1, none⟩ (.int .i64 ((m : Int)))) := (below_kp n3).trans (Only.setCell _ _ _ _).kp
      have B5 : Blk (w3.setCell ⟨p, 1, none⟩ (.int .i64 ((m : Int)))) w.heap.size .u8 [] := B3.of_block ((Only.setCell w3 p 1 _).block _ (by omega))
      have HC := (hcp (some (ad.add m)) (c - m) w3.drew).out
      go_region_with (first | (refine step_copy_ex rfl (.tmp 25) (.tmp 34) 22 22 rfl _ _ rfl rfl _ _ HC ?_) | fail)
      all_goals
        go_wp2
        go_ret
        exact ⟨rfl, B5, C5, ⟨N5.os, N5.tape, N5.output, N5.size, N5.block⟩⟩
end Go.Proofs.YtcaljanahpdidaaGreat
namespace Go.Proofs.YtcaljanahpdidaaGreat
open Go Go.RowKit
set_option maxRecDepth 100000 in
theorem takeList_any (w : World) (p g : Nat) (a : Option Addr) (c : Nat) (xs : List Int) (i n : Nat) (hC : Cur w p (.slice a xs.length c) i) (hr : Rd w g a .u8 xs) (hc0 : a = none → c = 0) (hc : xs.length ≤ c) (hn : xs.length ≤ 1048576) (hi : i ≤ xs.length) (hin : i + n ≤ xs.length) :
    Calls Tryz.prog 91 #[.pointer (some ⟨p, 0, none⟩), .int .i64 (n : Int)] w fun e w' => e = .returned (.slice (some ⟨w.heap.size, 0, none⟩) n n) ∧ Blk w' w.heap.size .u8 ((xs.drop i).take n) ∧ Cur w' p (.slice a xs.length c) ((i + n : Nat) : Int) ∧ Kp p w w' := by
  by_cases h : i < xs.length
  · exact takeList_mid w p g a c xs i n hC hr hc hn h hin
  · obtain rfl : i = xs.length := by omega
    obtain rfl : n = 0 := by omega
    have := takeList_end w p a xs.length c hC hc0 hc hn
    simpa using this
set_option maxRecDepth 100000 in
set_option maxHeartbeats 1000000 in
theorem takeList_bad (w : World) (p : Nat) (a : Option Addr) (m c i n : Nat) (hC : Cur w p (.slice a m c) i) (hin : m < i + n) (hm : m ≤ 1048576) (hi : i ≤ m) :
    Calls Tryz.prog 91 #[.pointer (some ⟨p, 0, none⟩), .int .i64 (n : Int)] w fun e w' => Pan e ∧ Only p w w' := by
  have c0 := hC.c0
  have c1 := hC.c1
  have t1 : decide ((m : Int) - (i : Int) < (n : Int)) = true := by simp; omega
  clear hC
  go_enter Tryz.func91, Tryz.ntmps91
  go_wp2
  go_quiet (fail)
  go_wp2
  exact ⟨rfl, ⟨_, _, rfl⟩, Only.drewN w p _⟩
end Go.Proofs.YtcaljanahpdidaaGreat
namespace Go.Proofs.YtcaljanahpdidaaGreat
open Go Go.RowKit
theorem or_wrap (m x : Int) (x0 : 0 ≤ x) (x1 : x < 256) : bits .or .i64 (wrap64 (m * 256)) x = wrap64 (wrap64 (m * 256) + x) := by
  have e : wrap64 (m * 256) = (wrap64 (m * 256) / 256) * 256 := by unfold wrap64; omega
  have b0 : -9223372036854775808 ≤ wrap64 (m * 256) := by unfold wrap64; omega
  have b1 : wrap64 (m * 256) < 9223372036854775808 := by unfold wrap64; omega
  have := or_byte (wrap64 (m * 256) / 256) x (by omega) (by omega) x0 x1
  rw [← e] at this
  rw [this]
  generalize hv : wrap64 (m * 256) = v at *
  unfold wrap64
  omega
theorem nmV_step (xs : List Int) (i k : Nat) : nmV xs i (k + 1) = wrap64 (wrap64 (nmV xs i k * 256) + xs.getD (i + k) 0) := by
  unfold nmV wrap64
  simp only [beN]
  omega
set_option maxRecDepth 100000 in
set_option maxHeartbeats 1000000 in
theorem numberG_any (w : World) (p g : Nat) (a : Option Addr) (c : Nat) (xs : List Int) (i t : Nat) (hC : Cur w p (.slice a xs.length c) i) (hr : Rd w g a .u8 xs) (hb : Byt xs) (hgp : 0 < xs.length → g ≠ p) (hi : i + t ≤ xs.length) (ht : t ≤ 8) (hn : xs.length ≤ 4194304) :
    Calls Tryz.prog 53 #[.pointer (some ⟨p, 0, none⟩), .int .i64 (t : Int)] w fun e w' => e = .returned (.int .i64 (nmV xs i t)) ∧ Cur w' p (.slice a xs.length c) ((i + t : Nat) : Int) ∧ Only p w w' := by
  go_enter Tryz.func53, Tryz.ntmps53
  go_wp2
  go_loopw [5, 7] (fun v j wr => ∃ k : Nat, k ≤ t ∧ v = .int .i64 (nmV xs i k) ∧ j = .int .i64 k ∧ Cur wr p (.slice a xs.length c) ((i + k : Nat) : Int) ∧ Only p w wr) (fun _ j _ => t - (intOf j).toNat)
  case atStart => exact ⟨0, Nat.zero_le _, by rw [show nmV xs i 0 = 0 by unfold nmV wrap64 beN; decide], rfl, hC, Only.refl _ _⟩
  case round =>
    obtain ⟨k, hk, rfl, rfl, C, O⟩ := hrel
    by_cases hlt : k < t
    · have TK := hide (take_ok wr p g a c xs (i + k) C (hr.of_block' (fun h => O.block g (hgp h))) (by omega) (by omega))
      have bx := hb (i + k)
      have OR := or_wrap (nmV xs i k) (xs.getD (i + k) 0) bx.1 bx.2
      have e := hide (nmV_step xs i k)
      generalize nmV xs i k = m at *
      generalize xs.getD (i + k) 0 = x at *
      have x0 := bx.1
      have x1 := bx.2
      have k1 : (k : Int) < (t : Int) := by omega
      clear bx C
      go_wp2_with fail
      refine TK.out.mono ?_
      rintro r w' ⟨rfl, C', O'⟩
      clear TK
      go_wp2
      go_roundw
      case rel => exact ⟨k + 1, by omega, by rw [e.out], by go_num, C', O.trans O'⟩
      case measure => simp [intOf]; omega
    · obtain rfl : k = t := by omega
      go_wp2
      go_ret
      exact ⟨rfl, C, O⟩
set_option maxRecDepth 100000 in
set_option maxHeartbeats 1000000 in
theorem number_bad (w : World) (p g : Nat) (a : Option Addr) (c : Nat) (xs : List Int) (i t : Nat) (hC : Cur w p (.slice a xs.length c) i) (hr : Rd w g a .u8 xs) (hgp : 0 < xs.length → g ≠ p) (hi : i ≤ xs.length) (hit : xs.length < i + t) (ht : t ≤ 8) (hn : xs.length ≤ 4194304) :
    Calls Tryz.prog 53 #[.pointer (some ⟨p, 0, none⟩), .int .i64 (t : Int)] w fun e w' => Pan e ∧ Only p w w' := by
  go_enter Tryz.func53, Tryz.ntmps53
  go_wp2
  go_loopw [5, 7] (fun v j wr => ∃ (k : Nat) (m : Int), i + k ≤ xs.length ∧ v = .int .i64 m ∧ j = .int .i64 k ∧ Cur wr p (.slice a xs.length c) ((i + k : Nat) : Int) ∧ Only p w wr) (fun _ j _ => t - (intOf j).toNat)
  case atStart => exact ⟨0, 0, hi, rfl, rfl, hC, Only.refl _ _⟩
  case round =>
    obtain ⟨k, m, hk, rfl, rfl, C, O⟩ := hrel
    have k1 : (k : Int) < (t : Int) := by omega
    by_cases hlt : i + k < xs.length
    · have TK := hide (take_ok wr p g a c xs (i + k) C (hr.of_block' (fun h => O.block g (hgp h))) (by omega) (by omega))
      generalize xs.getD (i + k) 0 = x at *
      clear C
      go_wp2_with fail
      refine TK.out.mono ?_
      rintro r w' ⟨rfl, C', O'⟩
      clear TK
      go_wp2
      go_roundw
      case rel => exact ⟨k + 1, _, by omega, rfl, by go_num, C', O.trans O'⟩
      case measure => simp [intOf]; omega
    · have TK := hide (take_bad wr p a xs.length c ((i + k : Nat) : Int) C (by omega))
      clear C
      go_wp2_with fail
      refine TK.out.mono ?_
      rintro r w' ⟨⟨u, v, rfl⟩, O'⟩
      clear TK
      go_wp2
      exact ⟨rfl, ⟨_, _, rfl⟩, O.trans O'⟩
end Go.Proofs.YtcaljanahpdidaaGreat
namespace Go.Proofs.YtcaljanahpdidaaGreat
open Go Go.RowKit
end Go.Proofs.YtcaljanahpdidaaGreat
namespace Go.Proofs.YtcaljanahpdidaaGreat
open Go Go.RowKit
end Go.Proofs.YtcaljanahpdidaaGreat
namespace Go.Proofs.YtcaljanahpdidaaGreat
open Go Go.RowKit
end Go.Proofs.YtcaljanahpdidaaGreat
namespace Go.Proofs.YtcaljanahpdidaaGreat
open Go Go.RowKit
def NewR (B : Nat) (w' : World) (e : Ending) (gd : Bool) (xs ys : List Int) (md li : Int) (ho pr : List UInt8) (ea : Int) : Prop :=
  ∃ (a : Option Addr) (c g : Nat) (a' : Option Addr) (c' g' : Nat), e = .returned (.agg #[.bool gd, .slice a xs.length c, .slice a' ys.length c', .int .i64 md, .int .i64 li, .string ⟨⟨ho⟩⟩, .string ⟨⟨pr⟩⟩, .int .i64 ea]) ∧ Own w' g a .u8 xs ∧ Own w' g' a' .u8 ys ∧ g ≠ g' ∧ B ≤ g ∧ g < w'.heap.size ∧ B ≤ g' ∧ g' < w'.heap.size
def rX (b : List Int) : List Int := if dsB b = true then dX b else []
def rY (b : List Int) : List Int := if dsB b = true then dY b else []
def rM (b : List Int) : Int := if dsB b = true then dM b else 0
def rL (b : List Int) : Int := if dsB b = true then dL b else 0
def rH (b : List Int) : List UInt8 := if dsB b = true then dH b else []
def rP (b : List Int) : List UInt8 := if dsB b = true then dP b else []
def rE (b : List Int) : Int := if dsB b = true then dE b else 0
def NewD (B : Nat) (w' : World) (e : Ending) (b : List Int) : Prop := NewR B w' e (dsB b) (rX b) (rY b) (rM b) (rL b) (rH b) (rP b) (rE b)
theorem NewD.bad {B : Nat} {w' : World} {b : List Int} (h : dsB b = false) {g g' : Nat} (hne : g ≠ g') (l1 : B ≤ g) (l2 : B ≤ g') (k1 : g < w'.heap.size) (k2 : g' < w'.heap.size) :
    NewD B w' (.returned (.agg #[.bool false, .slice none 0 0, .slice none 0 0, .int .i64 0, .int .i64 0, .string ⟨#[]⟩, .string ⟨#[]⟩, .int .i64 0])) b := by
  have h' : ¬ dsB b = true := by rw [h]; decide
  unfold NewD rX rY rM rL rH rP rE
  rw [if_neg h', if_neg h', if_neg h', if_neg h', if_neg h', if_neg h', if_neg h', h]
  exact ⟨none, 0, g, none, 0, g', rfl, Own.nil _ _ _ _, Own.nil _ _ _ _, hne, l1, k1, l2, k2⟩
theorem Cur.onl {w w' : World} {p q : Nat} {l : Value} {i : Int} (h : Cur w p l i) (n : Only q w w') (hne : p ≠ q) : Cur w' p l i := h.of_block (n.block p hne)
end Go.Proofs.YtcaljanahpdidaaGreat
namespace Go.Proofs.YtcaljanahpdidaaGreat
open Go Go.RowKit
theorem RwC.kp {w w' : World} {q p : Nat} {cs : List Value} {t : TypeId} (h : RwC w q cs t) (n : Kp p w w') (hq : q ≠ p) : RwC w' q cs t := (n.block q h.lt hq).trans h
theorem Blk.kp {w w' : World} {q p : Nat} {k : IntKind} {ys : List Int} (h : Blk w q k ys) (n : Kp p w w') (hq : q ≠ p) : Blk w' q k ys := h.of_block (n.block q h.lt hq)
theorem Kp.onl {p q : Nat} {a b c : World} (h : Kp p a b) (k : Only q b c) (hq : a.heap.size ≤ q) : Kp p a c :=
  ⟨k.os.trans h.os, k.tape.trans h.tape, k.output.trans h.output, by rw [k.size]; exact h.size, fun i hi hp => (k.block i (by omega)).trans (h.block i hi hp)⟩
set_option maxRecDepth 100000 in
set_option maxHeartbeats 2000000 in
theorem short_any (w : World) (p g : Nat) (a : Option Addr) (c : Nat) (xs : List Int) (i : Nat) (hC : Cur w p (.slice a xs.length c) i) (hr : Rd w g a .u8 xs) (hb : Byt xs) (hgp : 0 < xs.length → g ≠ p) (hc0 : a = none → c = 0) (hc : xs.length ≤ c) (hn : xs.length ≤ 1048576) (hi : i ≤ xs.length) :
    Calls Tryz.prog 88 #[.pointer (some ⟨p, 0, none⟩)] w fun e w' => ((i + 1 + (beN xs i 1).toNat ≤ xs.length ∧ e = .returned (.string ⟨⟨txB (tkB xs (i + 1) (beN xs i 1).toNat)⟩⟩) ∧ Cur w' p (.slice a xs.length c) ((i + 1 + (beN xs i 1).toNat : Nat) : Int)) ∨ (xs.length < i + 1 + (beN xs i 1).toNat ∧ Pan e)) ∧ Kp p w w' := by
  by_cases h1 : i + 1 ≤ xs.length
  · have NM := hide (numberG_any w p g a c xs i 1 hC hr hb hgp h1 (by omega) (by omega))
    rw [nmV_small hb i 1 (by decide)] at NM
    have r := beN_rng hb i 1
    obtain ⟨n, hn1⟩ := Int.eq_ofNat_of_zero_le r.1
    have e1 : (beN xs i 1).toNat = n := by omega
    rw [e1]
    rw [hn1] at NM
    clear hn1 e1 r hC
    go_enter Tryz.func88, Tryz.ntmps88
    go_wp2_with fail
    refine NM.out.mono ?_
    rintro e w1 ⟨rfl, C1, O1⟩
    clear NM
    have hr1 := hr.of_block' (fun h => O1.block g (hgp h))
    by_cases h2 : i + 1 + n ≤ xs.length
    · have TL := hide (takeList_any w1 p g a c xs (i + 1) n C1 hr1 hc0 hc hn h1 h2)
      rw [tkB_take xs (i + 1) n h2] at TL
      have H2 := hide h2
      clear C1 hr1 h2
      go_wp2_with fail
      refine TL.out.mono ?_
      rintro e w2 ⟨rfl, B2, C2, K2⟩
      have cv := conv_run w2 _ _ n _ B2.own0.rd
      rw [tkB_len, str_is] at cv
      have KK := O1.kp.trans K2
      clear TL B2 K2 O1
      go_wp2
      go_ret
      exact ⟨.inl ⟨H2.out, rfl, C2⟩, KK⟩
    · have TL := hide (takeList_bad w1 p a xs.length c (i + 1) n C1 (by omega) hn h1)
      have H2 := hide (show xs.length < i + 1 + n by omega)
      clear C1 hr1 h2
      go_wp2_with fail
      refine TL.out.mono ?_
      rintro e w2 ⟨⟨t, v, rfl⟩, O2⟩
      go_wp2
      exact ⟨rfl, .inr ⟨H2.out, t, v, rfl⟩, O1.kp.trans O2.kp⟩
  · have NM := hide (number_bad w p g a c xs i 1 hC hr hgp hi (by omega) (by omega) (by omega))
    have H2 := hide (show xs.length < i + 1 + (beN xs i 1).toNat by omega)
    clear hC h1
    go_enter Tryz.func88, Tryz.ntmps88
    go_wp2_with fail
    refine NM.out.mono ?_
    rintro e w2 ⟨⟨t, v, rfl⟩, O2⟩
    go_wp2
    exact ⟨rfl, .inr ⟨H2.out, t, v, rfl⟩, O2.kp⟩
end Go.Proofs.YtcaljanahpdidaaGreat
namespace Go.Proofs.YtcaljanahpdidaaGreat
open Go Go.RowKit
set_option maxRecDepth 100000 in
set_option maxHeartbeats 2000000 in
theorem long_any (w : World) (p g : Nat) (a : Option Addr) (c : Nat) (xs : List Int) (i : Nat) (hC : Cur w p (.slice a xs.length c) i) (hr : Rd w g a .u8 xs) (hb : Byt xs) (hgp : 0 < xs.length → g ≠ p) (hc0 : a = none → c = 0) (hc : xs.length ≤ c) (hn : xs.length ≤ 1048576) (hi : i ≤ xs.length) :
    Calls Tryz.prog 90 #[.pointer (some ⟨p, 0, none⟩)] w fun e w' => ((i + 2 + (beN xs i 2).toNat ≤ xs.length ∧ (∃ G, e = .returned (.slice (some ⟨G, 0, none⟩) (beN xs i 2).toNat (beN xs i 2).toNat) ∧ Blk w' G .u8 (tkB xs (i + 2) (beN xs i 2).toNat) ∧ w.heap.size ≤ G) ∧ Cur w' p (.slice a xs.length c) ((i + 2 + (beN xs i 2).toNat : Nat) : Int)) ∨ (xs.length < i + 2 + (beN xs i 2).toNat ∧ Pan e)) ∧ Kp p w w' := by
  by_cases h1 : i + 2 ≤ xs.length
  · have NM := hide (numberG_any w p g a c xs i 2 hC hr hb hgp h1 (by omega) (by omega))
    rw [nmV_small hb i 2 (by decide)] at NM
    have r := beN_rng hb i 2
    obtain ⟨n, hn1⟩ := Int.eq_ofNat_of_zero_le r.1
    have e1 : (beN xs i 2).toNat = n := by omega
    rw [e1]
    rw [hn1] at NM
    clear hn1 e1 r hC
    go_enter Tryz.func90, Tryz.ntmps90
    go_wp2_with fail
    refine NM.out.mono ?_
    rintro e w1 ⟨rfl, C1, O1⟩
    clear NM
    have hr1 := hr.of_block' (fun h => O1.block g (hgp h))
    by_cases h2 : i + 2 + n ≤ xs.length
    · have TL := hide (takeList_any w1 p g a c xs (i + 2) n C1 hr1 hc0 hc hn h1 h2)
      rw [tkB_take xs (i + 2) n h2] at TL
      have H2 := hide h2
      clear C1 hr1 h2
      go_wp2_with fail
      refine TL.out.mono ?_
      rintro e w2 ⟨rfl, B2, C2, K2⟩
      have KK := O1.kp.trans K2
      have sz := O1.size
      rw [sz] at B2
      have HB := hide B2
      clear TL B2 K2 O1
      go_wp2
      go_ret
      exact ⟨.inl ⟨H2.out, ⟨_, rfl, HB.out, by omega⟩, C2⟩, KK⟩
    · have TL := hide (takeList_bad w1 p a xs.length c (i + 2) n C1 (by omega) hn h1)
      have H2 := hide (show xs.length < i + 2 + n by omega)
      clear C1 hr1 h2
      go_wp2_with fail
      refine TL.out.mono ?_
      rintro e w2 ⟨⟨t, v, rfl⟩, O2⟩
      go_wp2
      exact ⟨rfl, .inr ⟨H2.out, t, v, rfl⟩, O1.kp.trans O2.kp⟩
  · have NM := hide (number_bad w p g a c xs i 2 hC hr hgp hi (by omega) (by omega) (by omega))
    have H2 := hide (show xs.length < i + 2 + (beN xs i 2).toNat by omega)
    clear hC h1
    go_enter Tryz.func90, Tryz.ntmps90
    go_wp2_with fail
    refine NM.out.mono ?_
    rintro e w2 ⟨⟨t, v, rfl⟩, O2⟩
    go_wp2
    exact ⟨rfl, .inr ⟨H2.out, t, v, rfl⟩, O2.kp⟩
end Go.Proofs.YtcaljanahpdidaaGreat
namespace Go.Proofs.YtcaljanahpdidaaGreat
open Go Go.RowKit
def Kq (p q : Nat) (w w' : World) : Prop := Tch [p, q] w w'
theorem Kp.tch {p : Nat} {w w' : World} (h : Kp p w w') : Tch [p] w w' := ⟨h.os, h.tape, h.output, h.size, fun b hb hn => h.block b hb (by simpa using hn)⟩
set_option maxRecDepth 100000 in
set_option maxHeartbeats 2000000 in
theorem proofRead_any (w : World) (q p g : Nat) (a : Option Addr) (c : Nat) (xs : List Int) (t : TypeId) (hq : RwC w q [.slice none 0 0] t) (hqp : q ≠ p) (hC : Cur w p (.slice a xs.length c) ((0 : Nat) : Int)) (hr : Rd w g a .u8 xs) (hc0 : a = none → c = 0) (hc : xs.length ≤ c) (hn : xs.length ≤ 1048576) :
    Calls Tryz.prog 124 #[.pointer (some ⟨q, 0, none⟩), .pointer (some ⟨p, 0, none⟩)] w fun e w' => ((64 ≤ xs.length ∧ e = .returned (.tuple #[]) ∧ RwC w' q [.slice (some ⟨w.heap.size, 0, none⟩) 64 64] t ∧ Blk w' w.heap.size .u8 (xs.take 64)) ∨ (xs.length < 64 ∧ Pan e)) ∧ Kq p q w w' := by
  have hql := hq.lt
  by_cases h : 64 ≤ xs.length
  · have TL := hide (takeList_any w p g a c xs 0 64 hC hr hc0 hc hn (Nat.zero_le _) (by omega))
    have HQ := hide hq
    have H := hide h
    clear hC hr hq h
    go_enter Tryz.func124, Tryz.ntmps124
    go_wp2_with fail
    refine TL.out.mono ?_
    rintro e w2 ⟨rfl, B2, -, K2⟩
    have Q2 := HQ.out.kp K2 hqp
    have c0 : w2.cell? ⟨q, 0, none⟩ = some (.slice none 0 0) := Q2.cell 0
    have f0 := Q2.free 0
    have O := Only.setCell w2 q 0 (.slice (some ⟨w.heap.size, 0, none⟩) 64 64)
    have FQ : Hid (RwC (w2.setCell ⟨q, 0, none⟩ (.slice (some ⟨w.heap.size, 0, none⟩) 64 64)) q [.slice (some ⟨w.heap.size, 0, none⟩) 64 64] t) := Q2.set 0 _
    have FB := hide (B2.of_block (O.block w.heap.size (by omega)))
    have FT : Hid (Kq p q w (w2.setCell ⟨q, 0, none⟩ (.slice (some ⟨w.heap.size, 0, none⟩) 64 64))) := K2.tch.trans (Tch.of_only O)
    clear TL B2 K2 Q2 O HQ
    go_wp2
    go_end0
    exact ⟨.inl ⟨H.out, rfl, FQ.out, FB.out⟩, FT.out⟩
  · have TL := hide (takeList_bad w p a xs.length c 0 64 hC (by omega) hn (Nat.zero_le _))
    have H := hide (show xs.length < 64 by omega)
    clear hC hr hq h
    go_enter Tryz.func124, Tryz.ntmps124
    go_wp2_with fail
    refine TL.out.mono ?_
    rintro e w2 ⟨⟨t, v, rfl⟩, O2⟩
    go_wp2
    exact ⟨rfl, .inr ⟨H.out, t, v, rfl⟩, (Tch.of_only O2).mono (by simp)⟩
end Go.Proofs.YtcaljanahpdidaaGreat
namespace Go.Proofs.YtcaljanahpdidaaGreat
open Go Go.RowKit
theorem Cur.only' {w w' : World} {p q : Nat} {l : Value} {i : Int} (h : Cur w p l i) (O : Only q w w') (hne : p ≠ q) : Cur w' p l i := by
  obtain ⟨t, h⟩ := h
  exact ⟨t, (O.block p hne).trans h⟩
set_option maxRecDepth 100000 in
set_option maxHeartbeats 4000000 in
theorem updRead_any (w : World) (q p g : Nat) (a : Option Addr) (c : Nat) (xs : List Int) (t : TypeId) (hq : RwC w q [.int .i64 0] t) (hqp : q ≠ p) (hC : Cur w p (.slice a xs.length c) ((0 : Nat) : Int)) (_hpl : p < w.heap.size) (hr : Rd w g a .u8 xs) (hb : Byt xs) (hgp : 0 < xs.length → g ≠ p) (hgq : 0 < xs.length → g ≠ q) (_hc0 : a = none → c = 0) (_hc : xs.length ≤ c) (hn : xs.length ≤ 1048576) :
    Calls Tryz.prog 132 #[.pointer (some ⟨q, 0, none⟩), .pointer (some ⟨p, 0, none⟩)] w fun e w' => ((1 ≤ xs.length ∧ e = .returned (.tuple #[]) ∧ RwC w' q [.int .i64 (beN xs 0 1)] t ∧ Cur w' p (.slice a xs.length c) ((1 : Nat) : Int)) ∨ (xs.length < 1 ∧ Pan e)) ∧ Kq p q w w' := by
  have hql := hq.lt
  have KT : Tch [p, q] w w := ⟨rfl, rfl, rfl, Nat.le_refl _, fun _ _ _ => rfl⟩
  go_enter Tryz.func132, Tryz.ntmps132
  by_cases h0 : 1 ≤ xs.length
  rotate_left
  · have NB := hide (number_bad w p g a c xs 0 1 hC hr hgp (by omega) (by omega) (by omega) (by omega))
    go_wp2_with fail
    refine NB.out.mono ?_
    rintro e v0 ⟨⟨t', v', rfl⟩, O2⟩
    go_wp2
    exact ⟨rfl, .inr ⟨by omega, t', v', rfl⟩, (KT.trans (Tch.of_only O2)).mono (by simp)⟩
  have NM := hide (numberG_any w p g a c xs 0 1 hC hr hb hgp (by omega) (by omega) (by omega))
  rw [nmV_small hb 0 1 (by decide)] at NM
  go_wp2_with fail
  refine NM.out.mono ?_
  rintro e v0 ⟨rfl, C, O1⟩
  have K := O1.kp
  clear O1
  clear NM
  have q0 : RwC v0 q [.int .i64 0] t := hq.kp K hqp
  have c0 : v0.cell? ⟨q, 0, none⟩ = some (.int .i64 0) := q0.cell 0
  have f0 := q0.free 0
  have O := Only.setCell v0 q 0 (.int .i64 (beN xs 0 1))
  have Q' : RwC (v0.setCell ⟨q, 0, none⟩ (.int .i64 (beN xs 0 1))) q [.int .i64 (beN xs 0 1)] t := q0.set 0 _
  have KT' : Tch [p, q] w (v0.setCell ⟨q, 0, none⟩ (.int .i64 (beN xs 0 1))) := (((KT.trans K.tch).trans (Tch.of_only O)).mono (by simp))
  have C' : Cur (v0.setCell ⟨q, 0, none⟩ (.int .i64 (beN xs 0 1))) p (.slice a xs.length c) ((1 : Nat) : Int) := C.only' O (by omega)
  have R' : Rd (v0.setCell ⟨q, 0, none⟩ (.int .i64 (beN xs 0 1))) g a .u8 xs := (hr.of_block' (fun h => K.block g (hr.lt h) (hgp h))).of_block' (fun h => O.block g (hgq h))
  clear hq q0 KT K O C hC hr
  go_wp2
  go_end0
  exact ⟨.inl ⟨h0, rfl, Q', C'⟩, KT'⟩
set_option maxRecDepth 100000 in
set_option maxHeartbeats 4000000 in
theorem finRead_any (w : World) (q p g : Nat) (a : Option Addr) (c : Nat) (xs : List Int) (t : TypeId) (hq : RwC w q [.slice none 0 0] t) (hqp : q ≠ p) (hC : Cur w p (.slice a xs.length c) ((0 : Nat) : Int)) (_hpl : p < w.heap.size) (hr : Rd w g a .u8 xs) (_hb : Byt xs) (hgp : 0 < xs.length → g ≠ p) (hgq : 0 < xs.length → g ≠ q) (hc0 : a = none → c = 0) (hc : xs.length ≤ c) (hn : xs.length ≤ 1048576) :
    Calls Tryz.prog 128 #[.pointer (some ⟨q, 0, none⟩), .pointer (some ⟨p, 0, none⟩)] w fun e w' => ((32 ≤ xs.length ∧ e = .returned (.tuple #[]) ∧ ∃ G0, RwC w' q [.slice (some ⟨G0, 0, none⟩) 32 32] t ∧ Cur w' p (.slice a xs.length c) ((32 : Nat) : Int) ∧ Blk w' G0 .u8 (tkB xs 0 32) ∧ w.heap.size ≤ G0) ∨ (xs.length < 32 ∧ Pan e)) ∧ Kq p q w w' := by
  have hql := hq.lt
  have KT : Tch [p, q] w w := ⟨rfl, rfl, rfl, Nat.le_refl _, fun _ _ _ => rfl⟩
  go_enter Tryz.func128, Tryz.ntmps128
  by_cases h0 : 32 ≤ xs.length
  rotate_left
  · have NB := hide (takeList_bad w p a xs.length c 0 32 hC (by omega) hn (by omega))
    go_wp2_with fail
    refine NB.out.mono ?_
    rintro e v0 ⟨⟨t', v', rfl⟩, O2⟩
    go_wp2
    exact ⟨rfl, .inr ⟨by omega, t', v', rfl⟩, (KT.trans (Tch.of_only O2)).mono (by simp)⟩
  have NM := hide (takeList_any w p g a c xs 0 32 hC hr hc0 hc hn (by omega) (by omega))
  rw [tkB_take xs 0 32 (by omega)] at NM
  go_wp2_with fail
  refine NM.out.mono ?_
  rintro e v0 ⟨rfl, B0, C, K⟩
  have l0 := KT.size
  clear NM
  have q0 : RwC v0 q [.slice none 0 0] t := hq.kp K hqp
  have c0 : v0.cell? ⟨q, 0, none⟩ = some (.slice none 0 0) := q0.cell 0
  have f0 := q0.free 0
  have O := Only.setCell v0 q 0 (.slice (some ⟨w.heap.size, 0, none⟩) 32 32)
  have Q' : RwC (v0.setCell ⟨q, 0, none⟩ (.slice (some ⟨w.heap.size, 0, none⟩) 32 32)) q [.slice (some ⟨w.heap.size, 0, none⟩) 32 32] t := q0.set 0 _
  have KT' : Tch [p, q] w (v0.setCell ⟨q, 0, none⟩ (.slice (some ⟨w.heap.size, 0, none⟩) 32 32)) := (((KT.trans K.tch).trans (Tch.of_only O)).mono (by simp))
  have C' : Cur (v0.setCell ⟨q, 0, none⟩ (.slice (some ⟨w.heap.size, 0, none⟩) 32 32)) p (.slice a xs.length c) ((32 : Nat) : Int) := C.only' O (by omega)
  have R' : Rd (v0.setCell ⟨q, 0, none⟩ (.slice (some ⟨w.heap.size, 0, none⟩) 32 32)) g a .u8 xs := (hr.of_block' (fun h => K.block g (hr.lt h) (hgp h))).of_block' (fun h => O.block g (hgq h))
  replace B0 := B0.of_block (O.block (w.heap.size) (by omega))
  clear hq q0 KT K O C hC hr
  go_wp2
  go_end0
  exact ⟨.inl ⟨h0, rfl, w.heap.size, Q', C', B0, by omega⟩, KT'⟩
set_option maxRecDepth 100000 in
set_option maxHeartbeats 4000000 in
theorem firstRead_any (w : World) (q p g : Nat) (a : Option Addr) (c : Nat) (xs : List Int) (t : TypeId) (rest : List Value) (hq : RwC w q (.int .i64 0 :: .slice none 0 0 :: .slice none 0 0 :: rest) t) (hqp : q ≠ p) (hC : Cur w p (.slice a xs.length c) ((0 : Nat) : Int)) (_hpl : p < w.heap.size) (hr : Rd w g a .u8 xs) (hb : Byt xs) (hgp : 0 < xs.length → g ≠ p) (hgq : 0 < xs.length → g ≠ q) (hc0 : a = none → c = 0) (hc : xs.length ≤ c) (hn : xs.length ≤ 1048576) :
    Calls Tryz.prog 87 #[.pointer (some ⟨q, 0, none⟩), .pointer (some ⟨p, 0, none⟩)] w fun e w' => ((65 ≤ xs.length ∧ e = .returned (.tuple #[]) ∧ ∃ G1 G2, RwC w' q (.int .i64 (beN xs 0 1) :: .slice (some ⟨G1, 0, none⟩) 32 32 :: .slice (some ⟨G2, 0, none⟩) 32 32 :: rest) t ∧ Cur w' p (.slice a xs.length c) ((65 : Nat) : Int) ∧ Blk w' G1 .u8 (tkB xs 1 32) ∧ w.heap.size ≤ G1 ∧ Blk w' G2 .u8 (tkB xs 33 32) ∧ w.heap.size ≤ G2 ∧ G1 < G2) ∨ (xs.length < 65 ∧ Pan e)) ∧ Kq p q w w' := by
  have hql := hq.lt
  have KT : Tch [p, q] w w := ⟨rfl, rfl, rfl, Nat.le_refl _, fun _ _ _ => rfl⟩
  go_enter Tryz.func87, Tryz.ntmps87
  by_cases h0 : 1 ≤ xs.length
  rotate_left
  · have NB := hide (number_bad w p g a c xs 0 1 hC hr hgp (by omega) (by omega) (by omega) (by omega))
    go_wp2_with fail
    refine NB.out.mono ?_
    rintro e v0 ⟨⟨t', v', rfl⟩, O2⟩
    go_wp2
    exact ⟨rfl, .inr ⟨by omega, t', v', rfl⟩, (KT.trans (Tch.of_only O2)).mono (by simp)⟩
  have NM := hide (numberG_any w p g a c xs 0 1 hC hr hb hgp (by omega) (by omega) (by omega))
  rw [nmV_small hb 0 1 (by decide)] at NM
  go_wp2_with fail
  refine NM.out.mono ?_
  rintro e v0 ⟨rfl, C, O1⟩
  have K := O1.kp
  clear O1
  clear NM
  have q0 : RwC v0 q (.int .i64 0 :: .slice none 0 0 :: .slice none 0 0 :: rest) t := hq.kp K hqp
  have c0 : v0.cell? ⟨q, 0, none⟩ = some (.int .i64 0) := q0.cell 0
  have f0 := q0.free 0
  have O := Only.setCell v0 q 0 (.int .i64 (beN xs 0 1))
  have Q' : RwC (v0.setCell ⟨q, 0, none⟩ (.int .i64 (beN xs 0 1))) q (.int .i64 (beN xs 0 1) :: .slice none 0 0 :: .slice none 0 0 :: rest) t := q0.set 0 _
  have KT' : Tch [p, q] w (v0.setCell ⟨q, 0, none⟩ (.int .i64 (beN xs 0 1))) := (((KT.trans K.tch).trans (Tch.of_only O)).mono (by simp))
  have C' : Cur (v0.setCell ⟨q, 0, none⟩ (.int .i64 (beN xs 0 1))) p (.slice a xs.length c) ((1 : Nat) : Int) := C.only' O (by omega)
  have R' : Rd (v0.setCell ⟨q, 0, none⟩ (.int .i64 (beN xs 0 1))) g a .u8 xs := (hr.of_block' (fun h => K.block g (hr.lt h) (hgp h))).of_block' (fun h => O.block g (hgq h))
  clear hq q0 KT K O C hC hr
  go_upto_region 1 with fail
  generalize v0.setCell ⟨q, 0, none⟩ (.int .i64 (beN xs 0 1)) = w1 at *
  have hq := Q'
  have KT := KT'
  have hC := C'
  have hr := R'
  clear Q' KT' C' R' c0 f0
  by_cases h1 : 33 ≤ xs.length
  rotate_left
  · have NB := hide (takeList_bad w1 p a xs.length c 1 32 hC (by omega) hn (by omega))
    go_wp2_with fail
    refine NB.out.mono ?_
    rintro e v1 ⟨⟨t', v', rfl⟩, O2⟩
    go_wp2
    exact ⟨rfl, .inr ⟨by omega, t', v', rfl⟩, (KT.trans (Tch.of_only O2)).mono (by simp)⟩
  have NM := hide (takeList_any w1 p g a c xs 1 32 hC hr hc0 hc hn (by omega) (by omega))
  rw [tkB_take xs 1 32 (by omega)] at NM
  go_wp2_with fail
  refine NM.out.mono ?_
  rintro e v1 ⟨rfl, B1, C, K⟩
  have l1 := KT.size
  clear NM
  have q1 : RwC v1 q (.int .i64 (beN xs 0 1) :: .slice none 0 0 :: .slice none 0 0 :: rest) t := hq.kp K hqp
  have c1 : v1.cell? ⟨q, 1, none⟩ = some (.slice none 0 0) := q1.cell 1
  have f1 := q1.free 1
  have O := Only.setCell v1 q 1 (.slice (some ⟨w1.heap.size, 0, none⟩) 32 32)
  have Q' : RwC (v1.setCell ⟨q, 1, none⟩ (.slice (some ⟨w1.heap.size, 0, none⟩) 32 32)) q (.int .i64 (beN xs 0 1) :: .slice (some ⟨w1.heap.size, 0, none⟩) 32 32 :: .slice none 0 0 :: rest) t := q1.set 1 _
  have KT' : Tch [p, q] w (v1.setCell ⟨q, 1, none⟩ (.slice (some ⟨w1.heap.size, 0, none⟩) 32 32)) := (((KT.trans K.tch).trans (Tch.of_only O)).mono (by simp))
  have C' : Cur (v1.setCell ⟨q, 1, none⟩ (.slice (some ⟨w1.heap.size, 0, none⟩) 32 32)) p (.slice a xs.length c) ((33 : Nat) : Int) := C.only' O (by omega)
  have R' : Rd (v1.setCell ⟨q, 1, none⟩ (.slice (some ⟨w1.heap.size, 0, none⟩) 32 32)) g a .u8 xs := (hr.of_block' (fun h => K.block g (hr.lt h) (hgp h))).of_block' (fun h => O.block g (hgq h))
  replace B1 := B1.of_block (O.block (w1.heap.size) (by omega))
  clear hq q1 KT K O C hC hr
  go_upto_region 2 with fail
  generalize v1.setCell ⟨q, 1, none⟩ (.slice (some ⟨w1.heap.size, 0, none⟩) 32 32) = w2 at *
  have hq := Q'
  have KT := KT'
  have hC := C'
  have hr := R'
  clear Q' KT' C' R' c1 f1
  have od1 := B1.lt
  by_cases h2 : 65 ≤ xs.length
  rotate_left
  · have NB := hide (takeList_bad w2 p a xs.length c 33 32 hC (by omega) hn (by omega))
    go_wp2_with fail
    refine NB.out.mono ?_
    rintro e v2 ⟨⟨t', v', rfl⟩, O2⟩
    go_wp2
    exact ⟨rfl, .inr ⟨by omega, t', v', rfl⟩, (KT.trans (Tch.of_only O2)).mono (by simp)⟩
  have NM := hide (takeList_any w2 p g a c xs 33 32 hC hr hc0 hc hn (by omega) (by omega))
  rw [tkB_take xs 33 32 (by omega)] at NM
  go_wp2_with fail
  refine NM.out.mono ?_
  rintro e v2 ⟨rfl, B2, C, K⟩
  have l2 := KT.size
  clear NM
  have q2 : RwC v2 q (.int .i64 (beN xs 0 1) :: .slice (some ⟨w1.heap.size, 0, none⟩) 32 32 :: .slice none 0 0 :: rest) t := hq.kp K hqp
  have c2 : v2.cell? ⟨q, 2, none⟩ = some (.slice none 0 0) := q2.cell 2
  have f2 := q2.free 2
  have O := Only.setCell v2 q 2 (.slice (some ⟨w2.heap.size, 0, none⟩) 32 32)
  have Q' : RwC (v2.setCell ⟨q, 2, none⟩ (.slice (some ⟨w2.heap.size, 0, none⟩) 32 32)) q (.int .i64 (beN xs 0 1) :: .slice (some ⟨w1.heap.size, 0, none⟩) 32 32 :: .slice (some ⟨w2.heap.size, 0, none⟩) 32 32 :: rest) t := q2.set 2 _
  have KT' : Tch [p, q] w (v2.setCell ⟨q, 2, none⟩ (.slice (some ⟨w2.heap.size, 0, none⟩) 32 32)) := (((KT.trans K.tch).trans (Tch.of_only O)).mono (by simp))
  have C' : Cur (v2.setCell ⟨q, 2, none⟩ (.slice (some ⟨w2.heap.size, 0, none⟩) 32 32)) p (.slice a xs.length c) ((65 : Nat) : Int) := C.only' O (by omega)
  have R' : Rd (v2.setCell ⟨q, 2, none⟩ (.slice (some ⟨w2.heap.size, 0, none⟩) 32 32)) g a .u8 xs := (hr.of_block' (fun h => K.block g (hr.lt h) (hgp h))).of_block' (fun h => O.block g (hgq h))
  replace B1 := (B1.kp K (by omega)).of_block (O.block (w1.heap.size) (by omega))
  replace B2 := B2.of_block (O.block (w2.heap.size) (by omega))
  clear hq q2 KT K O C hC hr
  go_wp2
  go_end0
  exact ⟨.inl ⟨h2, rfl, w1.heap.size, w2.heap.size, Q', C', B1, by omega, B2, by omega, by omega⟩, KT'⟩
set_option maxRecDepth 100000 in
set_option maxHeartbeats 4000000 in
theorem tickRead_any (w : World) (q p g : Nat) (a : Option Addr) (c : Nat) (xs : List Int) (t : TypeId) (hq : RwC w q [.int .i64 0, .int .i64 0, .slice none 0 0, .slice none 0 0] t) (hqp : q ≠ p) (hC : Cur w p (.slice a xs.length c) ((0 : Nat) : Int)) (_hpl : p < w.heap.size) (hr : Rd w g a .u8 xs) (hb : Byt xs) (hgp : 0 < xs.length → g ≠ p) (hgq : 0 < xs.length → g ≠ q) (hc0 : a = none → c = 0) (hc : xs.length ≤ c) (hn : xs.length ≤ 1048576) :
    Calls Tryz.prog 105 #[.pointer (some ⟨q, 0, none⟩), .pointer (some ⟨p, 0, none⟩)] w fun e w' => ((42 + (beN xs 40 2).toNat ≤ xs.length ∧ e = .returned (.tuple #[]) ∧ ∃ G2 G3, RwC w' q [.int .i64 (beN xs 0 4), .int .i64 (beN xs 4 4), .slice (some ⟨G2, 0, none⟩) 32 32, .slice (some ⟨G3, 0, none⟩) (beN xs 40 2).toNat (beN xs 40 2).toNat] t ∧ Blk w' G2 .u8 (tkB xs 8 32) ∧ w.heap.size ≤ G2 ∧ Blk w' G3 .u8 (tkB xs 42 (beN xs 40 2).toNat) ∧ w.heap.size ≤ G3 ∧ G2 < G3) ∨ (xs.length < 42 + (beN xs 40 2).toNat ∧ Pan e)) ∧ Kq p q w w' := by
  have hql := hq.lt
  have KT : Tch [p, q] w w := ⟨rfl, rfl, rfl, Nat.le_refl _, fun _ _ _ => rfl⟩
  go_enter Tryz.func105, Tryz.ntmps105
  by_cases h0 : 4 ≤ xs.length
  rotate_left
  · have NB := hide (number_bad w p g a c xs 0 4 hC hr hgp (by omega) (by omega) (by omega) (by omega))
    go_wp2_with fail
    refine NB.out.mono ?_
    rintro e v0 ⟨⟨t', v', rfl⟩, O2⟩
    go_wp2
    exact ⟨rfl, .inr ⟨by omega, t', v', rfl⟩, (KT.trans (Tch.of_only O2)).mono (by simp)⟩
  have NM := hide (numberG_any w p g a c xs 0 4 hC hr hb hgp (by omega) (by omega) (by omega))
  rw [nmV_small hb 0 4 (by decide)] at NM
  go_wp2_with fail
  refine NM.out.mono ?_
  rintro e v0 ⟨rfl, C, O1⟩
  have K := O1.kp
  clear O1
  clear NM
  have q0 : RwC v0 q [.int .i64 0, .int .i64 0, .slice none 0 0, .slice none 0 0] t := hq.kp K hqp
  have c0 : v0.cell? ⟨q, 0, none⟩ = some (.int .i64 0) := q0.cell 0
  have f0 := q0.free 0
  have O := Only.setCell v0 q 0 (.int .i64 (beN xs 0 4))
  have Q' : RwC (v0.setCell ⟨q, 0, none⟩ (.int .i64 (beN xs 0 4))) q [.int .i64 (beN xs 0 4), .int .i64 0, .slice none 0 0, .slice none 0 0] t := q0.set 0 _
  have KT' : Tch [p, q] w (v0.setCell ⟨q, 0, none⟩ (.int .i64 (beN xs 0 4))) := (((KT.trans K.tch).trans (Tch.of_only O)).mono (by simp))
  have C' : Cur (v0.setCell ⟨q, 0, none⟩ (.int .i64 (beN xs 0 4))) p (.slice a xs.length c) ((4 : Nat) : Int) := C.only' O (by omega)
  have R' : Rd (v0.setCell ⟨q, 0, none⟩ (.int .i64 (beN xs 0 4))) g a .u8 xs := (hr.of_block' (fun h => K.block g (hr.lt h) (hgp h))).of_block' (fun h => O.block g (hgq h))
  clear hq q0 KT K O C hC hr
  go_upto_region 1 with fail
  generalize v0.setCell ⟨q, 0, none⟩ (.int .i64 (beN xs 0 4)) = w1 at *
  have hq := Q'
  have KT := KT'
  have hC := C'
  have hr := R'
  clear Q' KT' C' R' c0 f0
  by_cases h1 : 8 ≤ xs.length
  rotate_left
  · have NB := hide (number_bad w1 p g a c xs 4 4 hC hr hgp (by omega) (by omega) (by omega) (by omega))
    go_wp2_with fail
    refine NB.out.mono ?_
    rintro e v1 ⟨⟨t', v', rfl⟩, O2⟩
    go_wp2
    exact ⟨rfl, .inr ⟨by omega, t', v', rfl⟩, (KT.trans (Tch.of_only O2)).mono (by simp)⟩
  have NM := hide (numberG_any w1 p g a c xs 4 4 hC hr hb hgp (by omega) (by omega) (by omega))
  rw [nmV_small hb 4 4 (by decide)] at NM
  go_wp2_with fail
  refine NM.out.mono ?_
  rintro e v1 ⟨rfl, C, O1⟩
  have K := O1.kp
  clear O1
  clear NM
  have q1 : RwC v1 q [.int .i64 (beN xs 0 4), .int .i64 0, .slice none 0 0, .slice none 0 0] t := hq.kp K hqp
  have c1 : v1.cell? ⟨q, 1, none⟩ = some (.int .i64 0) := q1.cell 1
  have f1 := q1.free 1
  have O := Only.setCell v1 q 1 (.int .i64 (beN xs 4 4))
  have Q' : RwC (v1.setCell ⟨q, 1, none⟩ (.int .i64 (beN xs 4 4))) q [.int .i64 (beN xs 0 4), .int .i64 (beN xs 4 4), .slice none 0 0, .slice none 0 0] t := q1.set 1 _
  have KT' : Tch [p, q] w (v1.setCell ⟨q, 1, none⟩ (.int .i64 (beN xs 4 4))) := (((KT.trans K.tch).trans (Tch.of_only O)).mono (by simp))
  have C' : Cur (v1.setCell ⟨q, 1, none⟩ (.int .i64 (beN xs 4 4))) p (.slice a xs.length c) ((8 : Nat) : Int) := C.only' O (by omega)
  have R' : Rd (v1.setCell ⟨q, 1, none⟩ (.int .i64 (beN xs 4 4))) g a .u8 xs := (hr.of_block' (fun h => K.block g (hr.lt h) (hgp h))).of_block' (fun h => O.block g (hgq h))
  clear hq q1 KT K O C hC hr
  go_upto_region 2 with fail
  generalize v1.setCell ⟨q, 1, none⟩ (.int .i64 (beN xs 4 4)) = w2 at *
  have hq := Q'
  have KT := KT'
  have hC := C'
  have hr := R'
  clear Q' KT' C' R' c1 f1
  by_cases h2 : 40 ≤ xs.length
  rotate_left
  · have NB := hide (takeList_bad w2 p a xs.length c 8 32 hC (by omega) hn (by omega))
    go_wp2_with fail
    refine NB.out.mono ?_
    rintro e v2 ⟨⟨t', v', rfl⟩, O2⟩
    go_wp2
    exact ⟨rfl, .inr ⟨by omega, t', v', rfl⟩, (KT.trans (Tch.of_only O2)).mono (by simp)⟩
  have NM := hide (takeList_any w2 p g a c xs 8 32 hC hr hc0 hc hn (by omega) (by omega))
  rw [tkB_take xs 8 32 (by omega)] at NM
  go_wp2_with fail
  refine NM.out.mono ?_
  rintro e v2 ⟨rfl, B2, C, K⟩
  have l2 := KT.size
  clear NM
  have q2 : RwC v2 q [.int .i64 (beN xs 0 4), .int .i64 (beN xs 4 4), .slice none 0 0, .slice none 0 0] t := hq.kp K hqp
  have c2 : v2.cell? ⟨q, 2, none⟩ = some (.slice none 0 0) := q2.cell 2
  have f2 := q2.free 2
  have O := Only.setCell v2 q 2 (.slice (some ⟨w2.heap.size, 0, none⟩) 32 32)
  have Q' : RwC (v2.setCell ⟨q, 2, none⟩ (.slice (some ⟨w2.heap.size, 0, none⟩) 32 32)) q [.int .i64 (beN xs 0 4), .int .i64 (beN xs 4 4), .slice (some ⟨w2.heap.size, 0, none⟩) 32 32, .slice none 0 0] t := q2.set 2 _
  have KT' : Tch [p, q] w (v2.setCell ⟨q, 2, none⟩ (.slice (some ⟨w2.heap.size, 0, none⟩) 32 32)) := (((KT.trans K.tch).trans (Tch.of_only O)).mono (by simp))
  have C' : Cur (v2.setCell ⟨q, 2, none⟩ (.slice (some ⟨w2.heap.size, 0, none⟩) 32 32)) p (.slice a xs.length c) ((40 : Nat) : Int) := C.only' O (by omega)
  have R' : Rd (v2.setCell ⟨q, 2, none⟩ (.slice (some ⟨w2.heap.size, 0, none⟩) 32 32)) g a .u8 xs := (hr.of_block' (fun h => K.block g (hr.lt h) (hgp h))).of_block' (fun h => O.block g (hgq h))
  replace B2 := B2.of_block (O.block (w2.heap.size) (by omega))
  clear hq q2 KT K O C hC hr
  go_upto_region 3 with fail
  generalize v2.setCell ⟨q, 2, none⟩ (.slice (some ⟨w2.heap.size, 0, none⟩) 32 32) = w3 at *
  have hq := Q'
  have KT := KT'
  have hC := C'
  have hr := R'
  clear Q' KT' C' R' c2 f2
  have od2 := B2.lt
  have lL := KT.size
  have LG := hide (long_any w3 p g a c xs 40 hC hr hb hgp hc0 hc hn (by omega))
  go_wp2_with fail
  refine LG.out.mono ?_
  rintro e v3 ⟨⟨h3, ⟨G3, rfl, B3, l3⟩, -⟩ | ⟨h3, t', v', rfl⟩, K⟩
  rotate_left
  · go_wp2
    exact ⟨rfl, .inr ⟨by omega, t', v', rfl⟩, (KT.trans (K.tch)).mono (by simp)⟩
  have q3 : RwC v3 q [.int .i64 (beN xs 0 4), .int .i64 (beN xs 4 4), .slice (some ⟨w2.heap.size, 0, none⟩) 32 32, .slice none 0 0] t := hq.kp K hqp
  have c3 : v3.cell? ⟨q, 3, none⟩ = some (.slice none 0 0) := q3.cell 3
  have f3 := q3.free 3
  have O := Only.setCell v3 q 3 (.slice (some ⟨G3, 0, none⟩) (beN xs 40 2).toNat (beN xs 40 2).toNat)
  have Q' : RwC (v3.setCell ⟨q, 3, none⟩ (.slice (some ⟨G3, 0, none⟩) (beN xs 40 2).toNat (beN xs 40 2).toNat)) q [.int .i64 (beN xs 0 4), .int .i64 (beN xs 4 4), .slice (some ⟨w2.heap.size, 0, none⟩) 32 32, .slice (some ⟨G3, 0, none⟩) (beN xs 40 2).toNat (beN xs 40 2).toNat] t := q3.set 3 _
  have KT' : Tch [p, q] w (v3.setCell ⟨q, 3, none⟩ (.slice (some ⟨G3, 0, none⟩) (beN xs 40 2).toNat (beN xs 40 2).toNat)) := (((KT.trans K.tch).trans (Tch.of_only O)).mono (by simp))
  replace B2 := (B2.kp K (by omega)).of_block (O.block (w2.heap.size) (by omega))
  replace B3 := B3.of_block (O.block (G3) (by omega))
  clear hq q3 KT K O
  go_wp2
  go_end0
  exact ⟨.inl ⟨h3, rfl, w2.heap.size, G3, Q', B2, by omega, B3, by omega, by omega⟩, KT'⟩
end Go.Proofs.YtcaljanahpdidaaGreat
namespace Go.Proofs.YtcaljanahpdidaaGreat
open Go Go.RowKit
theorem Rd.tchK {w w' : World} {S : List Nat} {g : Nat} {a : Option Addr} {xs : List Int} (h : Rd w g a .u8 xs) (m : Tch S w w') (hne : 0 < xs.length → g ∉ S) : Rd w' g a .u8 xs := h.of_block' (fun h0 => m.block g (h.lt h0) (hne h0))
set_option maxRecDepth 100000 in
set_option maxHeartbeats 4000000 in
theorem ansRead_any (w : World) (q p g : Nat) (a : Option Addr) (c : Nat) (xs : List Int) (t : TypeId) (hq : RwC w q [.int .i64 0, .slice none 0 0, .slice none 0 0, .bool false] t) (hqp : q ≠ p) (hC : Cur w p (.slice a xs.length c) ((0 : Nat) : Int)) (hpl : p < w.heap.size) (hr : Rd w g a .u8 xs) (hb : Byt xs) (hgp : 0 < xs.length → g ≠ p) (hgq : 0 < xs.length → g ≠ q) (hc0 : a = none → c = 0) (hc : xs.length ≤ c) (hn : xs.length ≤ 1048576) :
    Calls Tryz.prog 101 #[.pointer (some ⟨q, 0, none⟩), .pointer (some ⟨p, 0, none⟩)] w fun e w' => ((66 ≤ xs.length ∧ e = .returned (.tuple #[]) ∧ ∃ G1 G2, RwC w' q [.int .i64 (beN xs 0 1), .slice (some ⟨G1, 0, none⟩) 32 32, .slice (some ⟨G2, 0, none⟩) 32 32, .bool (beN xs 65 1 == 1)] t ∧ Blk w' G1 .u8 (tkB xs 1 32) ∧ w.heap.size ≤ G1 ∧ Blk w' G2 .u8 (tkB xs 33 32) ∧ w.heap.size ≤ G2 ∧ G1 < G2) ∨ (xs.length < 66 ∧ Pan e)) ∧ Kq p q w w' := by
  have FR := hide (firstRead_any w q p g a c xs t [.bool false] hq hqp hC hpl hr hb hgp hgq hc0 hc hn)
  have hql := hq.lt
  clear hq hC
  go_enter Tryz.func101, Tryz.ntmps101
  go_wp2_with fail
  refine FR.out.mono ?_
  rintro e w1 ⟨⟨h1, rfl, G1, G2, Q, C, B1, l1, B2, l2, o12⟩ | ⟨h1, t', v', rfl⟩, T⟩
  rotate_left
  · go_wp2
    exact ⟨rfl, .inr ⟨by omega, t', v', rfl⟩, T⟩
  have T : Tch [p, q] w w1 := T
  have hr1 := hr.tchK T (fun h0 => by have := hgp h0; have := hgq h0; simp; omega)
  clear FR hr
  by_cases h2 : 66 ≤ xs.length
  rotate_left
  · have NB := hide (number_bad w1 p g a c xs 65 1 C hr1 hgp (by omega) (by omega) (by omega) (by omega))
    go_wp2_with fail
    refine NB.out.mono ?_
    rintro e v1 ⟨⟨t', v', rfl⟩, O2⟩
    go_wp2
    exact ⟨rfl, .inr ⟨by omega, t', v', rfl⟩, (T.trans (Tch.of_only O2)).mono (by simp)⟩
  have NM := hide (numberG_any w1 p g a c xs 65 1 C hr1 hb hgp (by omega) (by omega) (by omega))
  rw [nmV_small hb 65 1 (by decide)] at NM
  go_wp2_with fail
  refine NM.out.mono ?_
  rintro e v1 ⟨rfl, -, O1⟩
  have K := O1.kp
  clear NM O1 C hr1
  have Q1 : RwC v1 q [.int .i64 (beN xs 0 1), .slice (some ⟨G1, 0, none⟩) 32 32, .slice (some ⟨G2, 0, none⟩) 32 32, .bool false] t := Q.kp K hqp
  have c3 : v1.cell? ⟨q, 3, none⟩ = some (.bool false) := Q1.cell 3
  have f3 := Q1.free 3
  have O := Only.setCell v1 q 3 (.bool (beN xs 65 1 == 1))
  have Q' : Hid (RwC (v1.setCell ⟨q, 3, none⟩ (.bool (beN xs 65 1 == 1))) q [.int .i64 (beN xs 0 1), .slice (some ⟨G1, 0, none⟩) 32 32, .slice (some ⟨G2, 0, none⟩) 32 32, .bool (beN xs 65 1 == 1)] t) := Q1.set 3 _
  have T' : Hid (Kq p q w (v1.setCell ⟨q, 3, none⟩ (.bool (beN xs 65 1 == 1)))) := ((T.trans K.tch).trans (Tch.of_only O)).mono (by simp)
  have D1 := hide ((B1.kp K (by omega)).of_block (O.block G1 (by omega)))
  have D2 := hide ((B2.kp K (by omega)).of_block (O.block G2 (by omega)))
  clear Q Q1 T K O B1 B2
  go_wp2
  go_end0
  exact ⟨.inl ⟨h2, rfl, G1, G2, Q'.out, D1.out, l1, D2.out, l2, o12⟩, T'.out⟩
end Go.Proofs.YtcaljanahpdidaaGreat
