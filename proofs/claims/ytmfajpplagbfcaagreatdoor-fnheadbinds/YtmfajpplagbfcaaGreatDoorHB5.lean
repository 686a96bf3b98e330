import Derived.Test.YtmfajpplagbfcaaGreatDoorHB4
import Derived.Test.YtmfajpplagbfcaaGreatDoorHB3
import Derived.Test.YtmfajpplagbfcaaGreatDoorHB1
import Derived.Deep.MidRow
import Derived.Deep.Cut
namespace Go.Proofs.YtmfajpplagbfcaaGreatDoor
set_option maxRecDepth 100000
open Go Go.RowKit
def TyB (w : World) (g : Nat) : Prop := ∃ cur, w.heap[g]? = some (.cells cur 5 (0, 0))
theorem TyB.of_made {w : World} {base g n : Nat} {xs : List Value} (h : w.ownsRow base 5 1 (.slice (some ⟨g, 0, none⟩) n n) n xs) : TyB w g := by
  rcases h.2 with ⟨h', _⟩ | ⟨g', cap', cur, h', _, hg, _⟩
  · simp at h'
  · simp only [Value.slice.injEq, Option.some.injEq, Addr.mk.injEq, and_true, true_and] at h'
    obtain ⟨rfl, rfl⟩ := h'
    exact ⟨cur, hg⟩
theorem TyB.set {w : World} {g : Nat} (h : TyB w g) (i : Nat) (v : Value) : TyB (w.setCell ⟨g, i, none⟩ v) g := by
  obtain ⟨cur, h⟩ := h
  exact ⟨_, heap_setCell_same w g i _ 5 _ h⟩
theorem RowB.of_tyb {w : World} {g B : Nat} {ys : List Int} (h : Blk w g .u8 ys) (t : TyB w g) (hB : B ≤ g) (hl : ys.length ≤ 1048576) : RowB w B (.slice (some ⟨g, 0, none⟩) ys.length ys.length) ys := by
  obtain ⟨e, h⟩ := h
  obtain ⟨cur, t⟩ := t
  rw [t] at h
  simp only [Option.some.injEq, Obj.cells.injEq, and_true] at h
  obtain ⟨rfl, rfl⟩ := h
  refine ⟨by simp, .inr ⟨g, ys.length, _, rfl, hB, t, Nat.le_refl _, by unfold maxLen; omega, by simp, ?_⟩⟩
  show List.take (ys.length * 1) (List.map (Value.int .u8) ys) = _
  exact List.take_of_length_le (by simp)
set_option maxHeartbeats 1000000 in
theorem l1BigB_any (w : World) (v : Int) (t : Nat) (h0 : 0 ≤ v) (h1 : v < 9223372036854775808) (ht : t ≤ 1048576) :
    Calls Tryz.prog 37 #[.int .i64 v, .int .i64 (t : Int)] w fun e w' => e = .returned (.slice (some ⟨w.heap.size, 0, none⟩) t t) ∧ RowB w' w.heap.size (.slice (some ⟨w.heap.size, 0, none⟩) t t) (bigL v t) ∧ Below w.heap.size w w' := by
  obtain ⟨i0, hi, hz0, hz1, hz2⟩ := info_parts Tryz.info5
  go_enter Tryz.func37, Tryz.ntmps37
  go_wp2_with (at_make; refine wpList_make_full _ rfl _ _ 22 rfl w.heap.size 5 i0 (.int .u8 0) 1 Tryz.underlying22 hi hz0 hz1 .i64 .i64 _ _ t rfl rfl rfl rfl (by rw [hz2]; omega) (by unfold maxLen; omega) (Nat.le_refl _) ?_; intro w1 hown hgrow)
  have hB0 := Blk.of_made hown
  have T0 := TyB.of_made hown
  have hN0 : Below w.heap.size w w1 := (Below.refl _ _).grown hgrow (Nat.le_refl _) (by simp)
  clear hown hgrow
  go_loopw [0, 6] (fun q i wr => ∃ (k : Nat) (u j : Int) (ys : List Int), k ≤ t ∧ q = .int .i64 u ∧ i = .int .i64 j ∧ j + (k : Int) + 1 = (t : Int) ∧ 0 ≤ u ∧ u < 9223372036854775808 ∧ Hid (u = v / 256 ^ k) ∧ BigTo v t ys k ∧ Blk wr w.heap.size .u8 ys ∧ TyB wr w.heap.size ∧ Below w.heap.size w wr) (fun _ i _ => (intOf i + 1).toNat)
  case atStart => exact ⟨0, v, (t : Int) - 1, _, Nat.zero_le _, rfl, by go_num, by omega, h0, h1, by show _ = _; simp, BigTo.zero v t, hB0, T0, hN0⟩
  case round =>
    obtain ⟨k, u, j, ys, hk, rfl, rfl, hj, u0, u1, hu, hT, hB, hTy, hN⟩ := hrel
    by_cases hlt : 0 ≤ j
    · obtain ⟨p, rfl⟩ := Int.eq_ofNat_of_zero_le hlt
      have R := hT.step (by omega)
      rw [show t - 1 - k = p by omega, ← hu.out] at R
      have hl : p < ys.length := by rw [hT.1]; omega
      have hcy := hB.cell hl
      have hfy := hB.free p
      have hB' := hB.store p (u % 256)
      have hTy' := hTy.set p (.int .u8 (u % 256))
      have hN' : Below w.heap.size w (wr.setCell ⟨w.heap.size, p, none⟩ (.int .u8 (u % 256))) := hN.setCell (Nat.le_refl _) _
      have hu' : Hid (u / 256 = v / 256 ^ (k + 1)) := by show _ = _; rw [hu.out, div256]
      have p1 : (p : Int) < (t : Int) := by omega
      have HJ := hide hj
      clear hB hN hu hT hj
      go_wp2
      go_roundw
      case rel => exact ⟨k + 1, u / 256, (p : Int) - 1, _, by have := HJ.out; omega, by go_num, by go_num, by have := HJ.out; omega, by omega, by omega, hu', R, hB', hTy', hN'⟩
      case measure => simp [intOf]
    · obtain rfl : k = t := by omega
      have K := hide hT.all
      obtain rfl : j = -1 := by omega
      clear hj hu hT
      go_wp2
      go_ret
      have RB := RowB.of_tyb (B := w.heap.size) hB hTy (Nat.le_refl _) (by rw [K.out, bigL_len]; exact ht)
      rw [K.out, bigL_len] at RB
      exact ⟨rfl, RB, hN⟩
set_option maxHeartbeats 1000000 in
theorem l1CopyN_any (w : World) (g : Nat) (a : Option Addr) (c : Nat) (xs : List Int) (hr : Rd w g a .u8 xs) (hc : a = none → c = 0) (hn : xs.length ≤ 1099511627776) :
    Calls Tryz.prog 18 #[.slice a xs.length c] w fun e w' => ∃ v, e = .returned v ∧ RowB w' w.heap.size v xs ∧ Below w.heap.size w w' := by
  obtain ⟨i0, hi, hz0, hz1, hz2⟩ := info_parts Tryz.info5
  have hal : Below w.heap.size w (w.alloc (.cells #[] 5)) := (Below.refl _ _).alloc (Nat.le_refl _) _
  obtain ⟨v', w2, hap, o2, n2⟩ := append_any (P := Tryz.prog) (w.alloc (.cells #[] 5)) 22 i0 Tryz.underlying22 hi hz0 hz1 hz2 w.heap.size w.heap.size _ [] (RowB.lit0 w) g a c xs (hr.up hal) hc (by simp; omega) (Nat.le_refl _) (by simp)
  rw [List.nil_append] at o2
  go_enter Tryz.func18, Tryz.ntmps18
  go_wp2_with (at_builtin; refine Lib.wpList_append_run _ rfl _ _ 22 22 rfl _ _ rfl rfl _ _ hap ?_)
  go_ret
  exact ⟨_, rfl, o2, hal.trans n2⟩
end Go.Proofs.YtmfajpplagbfcaaGreatDoor
namespace Go.Proofs.YtmfajpplagbfcaaGreatDoor
set_option maxRecDepth 100000
open Go Go.RowKit
def RwC (w : World) (q : Nat) (cs : List Value) (t : TypeId) : Prop := w.heap[q]? = some (.cells cs.toArray t (0, 0))
theorem RwC.new (w : World) (cs : List Value) (t : TypeId) : RwC (w.alloc (.cells cs.toArray t)) w.heap.size cs t := heap_alloc_new w _
theorem RwC.lt {w : World} {q : Nat} {cs : List Value} {t : TypeId} (h : RwC w q cs t) : q < w.heap.size := (Array.getElem?_eq_some_iff.1 h).1
theorem RwC.up {w w' : World} {q : Nat} {cs : List Value} {t : TypeId} (h : RwC w q cs t) (n : Below w.heap.size w w') : RwC w' q cs t := (n.block q h.lt).trans h
theorem RwC.cell {w : World} {q : Nat} {cs : List Value} {t : TypeId} (h : RwC w q cs t) (i : Nat) : w.cell? ⟨q, i, none⟩ = cs[i]? := by
  rw [cell_of_row w q i _ _ (0, 0) h]
  simp
theorem RwC.free {w : World} {q : Nat} {cs : List Value} {t : TypeId} (h : RwC w q cs t) (i : Nat) : w.frozen? ⟨q, i, none⟩ = false := frozen_of_row w q i _ t h
theorem RwC.set {w : World} {q : Nat} {cs : List Value} {t : TypeId} (h : RwC w q cs t) (i : Nat) (v : Value) : RwC (w.setCell ⟨q, i, none⟩ v) q (cs.set i v) t := by
  show (w.heap.modify q _)[q]? = _
  rw [Array.getElem?_modify, if_pos rfl, show w.heap[q]? = _ from h]
  simp
theorem RwC.push {w : World} {q : Nat} {cs : List Value} {t : TypeId} (h : RwC w q cs t) (o : Obj) : RwC (w.alloc o) q cs t := h.up ((Below.refl _ _).alloc (Nat.le_refl _) o)
theorem RwC.drew1 {w : World} {q : Nat} {cs : List Value} {t : TypeId} (h : RwC w q cs t) : RwC w.drew q cs t := h
theorem RwC.drews {w : World} {q : Nat} {cs : List Value} {t : TypeId} (h : RwC w q cs t) (n : Nat) : RwC (w.drewN n) q cs t := h
structure TMs (w W : World) (tL tM : TypeId) (src zer cs : List Value) : Prop where
  S : RwC W w.heap.size src tL
  U : RwC W (w.heap.size + 1) zer tM
  T : RwC W (w.heap.size + 1 + 1) cs tM
  N : Below w.heap.size w W
theorem TMs.new (w : World) (tL tM : TypeId) (src zer : List Value) : TMs w (((w.alloc (.cells src.toArray tL)).alloc (.cells zer.toArray tM)).alloc (.cells zer.toArray tM)) tL tM src zer zer := by
  have z1 : (w.alloc (.cells src.toArray tL)).heap.size = w.heap.size + 1 := by simp
  have n1 : Below w.heap.size w (w.alloc (.cells src.toArray tL)) := (Below.refl _ _).alloc (Nat.le_refl _) _
  have s1 := RwC.new w src tL
  generalize w.alloc (.cells src.toArray tL) = a at *
  have z2 : (a.alloc (.cells zer.toArray tM)).heap.size = a.heap.size + 1 := by simp
  have n2 : Below a.heap.size a (a.alloc (.cells zer.toArray tM)) := (Below.refl _ _).alloc (Nat.le_refl _) _
  have s2 := RwC.new a zer tM
  generalize a.alloc (.cells zer.toArray tM) = b at *
  have n3 : Below b.heap.size b (b.alloc (.cells zer.toArray tM)) := (Below.refl _ _).alloc (Nat.le_refl _) _
  have s3 := RwC.new b zer tM
  rw [z2, z1] at s3
  rw [z1] at s2
  exact ⟨(s1.up n2).up n3, s2.up n3, s3, nxt (nxt n1 n2) n3⟩
theorem TMs.up {w W W' : World} {tL tM : TypeId} {src zer cs : List Value} (h : TMs w W tL tM src zer cs) (m : Below W.heap.size W W') : TMs w W' tL tM src zer cs := ⟨h.S.up m, h.U.up m, h.T.up m, nxt h.N m⟩
theorem RwC.onl {w w' : World} {q r : Nat} {cs : List Value} {t : TypeId} (h : RwC w q cs t) (O : Only r w w') (hne : q ≠ r) : RwC w' q cs t := (O.block q hne).trans h
theorem TMs.set {w W : World} {tL tM : TypeId} {src zer cs : List Value} (h : TMs w W tL tM src zer cs) (i : Nat) (v : Value) : TMs w (W.setCell ⟨w.heap.size + 1 + 1, i, none⟩ v) tL tM src zer (cs.set i v) := by
  have O := Only.setCell W (w.heap.size + 1 + 1) i v
  exact ⟨h.S.onl O (by omega), h.U.onl O (by omega), h.T.set i v, h.N.trans (O.below (by omega))⟩
theorem only_setG (w : World) (q : Nat) : ∀ (vs : List Value) (o : Nat), Only q w (w.setCells q o vs)
  | [], _ => Only.refl _ _
  | v :: vs, o => (Only.setCell w q o v).trans (only_setG _ q vs (o + 1))
theorem RwC.thereG {w : World} {q : Nat} {cs : List Value} {t : TypeId} (h : RwC w q cs t) : w.there q 0 cs.length := fun j hj => by
  rw [Nat.zero_add, h.cell j, h.free j]
  exact ⟨by simp [hj], rfl⟩
theorem results_cellG {P : Program} {fn : Func} {p : Tmp} {ty : TypeId} (h : fn.results = #[.cell p ty]) (tmps : Array Value) (w : World) (g : Nat) (cs : List Value) (d : TypeDesc)
    (hp : tmps.getD p undef = .pointer (some ⟨g, 0, none⟩)) (hc : w.rangeAt g 0 cs) (hu : P.underlying ty = some d) (hd : d.isRow = true) (hi : (P.info? ty).map (·.size) = some cs.length) :
    (results fn tmps).run P w = .ok (.agg cs.toArray) w := by
  have hp' : tmps[p]?.getD undef = .pointer (some ⟨g, 0, none⟩) := by simpa using hp
  simp [results, h, hp', asAddr, run_loadVar_mid w g 0 ty cs d hc hu hd hi]
theorem RwC.rangeG {w : World} {q : Nat} {cs : List Value} {t : TypeId} (h : RwC w q cs t) : w.rangeAt q 0 cs := fun j v hj => by
  rw [Nat.zero_add]
  exact (h.cell j).trans hj
end Go.Proofs.YtmfajpplagbfcaaGreatDoor
namespace Go.Proofs.YtmfajpplagbfcaaGreatDoor
set_option maxRecDepth 100000
open Go Go.RowKit
structure Tch (S : List Nat) (w w' : World) : Prop where
  os : w'.os = w.os
  tape : w'.tape = w.tape
  output : w'.output = w.output
  size : w.heap.size ≤ w'.heap.size
  block : ∀ b, b < w.heap.size → b ∉ S → w'.heap[b]? = w.heap[b]?
theorem Tch.of_below {w w' : World} {S : List Nat} (h : Below w.heap.size w w') : Tch S w w' := ⟨h.os, h.tape, h.output, h.size, fun b hb _ => h.block b hb⟩
theorem Tch.of_only {w w' : World} {g : Nat} (h : Only g w w') : Tch [g] w w' := ⟨h.os, h.tape, h.output, Nat.le_of_eq h.size.symm, fun b _ hn => h.block b (by simpa using hn)⟩
theorem Tch.trans {a b c : World} {S T : List Nat} (h : Tch S a b) (k : Tch T b c) : Tch (S ++ T) a c :=
  ⟨k.os.trans h.os, k.tape.trans h.tape, k.output.trans h.output, Nat.le_trans h.size k.size, fun x hx hn => (k.block x (Nat.lt_of_lt_of_le hx h.size) (fun m => hn (List.mem_append_right _ m))).trans (h.block x hx (fun m => hn (List.mem_append_left _ m)))⟩
theorem Tch.below {w w' : World} {S : List Nat} {B : Nat} (h : Tch S w w') (hB : B ≤ w.heap.size) (hS : ∀ s ∈ S, B ≤ s) : Below B w w' := ⟨h.os, h.tape, h.output, h.size, fun k hk => h.block k (by omega) (fun m => by have := hS k m; omega)⟩
theorem Tch.mono {w w' : World} {S T : List Nat} (h : Tch S w w') (hs : ∀ s ∈ S, s ∈ T) : Tch T w w' := ⟨h.os, h.tape, h.output, h.size, fun b hb hn => h.block b hb (fun m => hn (hs b m))⟩
theorem RwC.c0 {w : World} {q : Nat} {x : Value} {cs : List Value} {t : TypeId} (h : RwC w q (x :: cs) t) : w.cell? ⟨q, 0, none⟩ = some x := h.cell 0
theorem RwC.c1 {w : World} {q : Nat} {x y : Value} {cs : List Value} {t : TypeId} (h : RwC w q (x :: y :: cs) t) : w.cell? ⟨q, 1, none⟩ = some y := h.cell 1
theorem RwC.c2 {w : World} {q : Nat} {x y z : Value} {cs : List Value} {t : TypeId} (h : RwC w q (x :: y :: z :: cs) t) : w.cell? ⟨q, 2, none⟩ = some z := h.cell 2
end Go.Proofs.YtmfajpplagbfcaaGreatDoor
namespace Go.Proofs.YtmfajpplagbfcaaGreatDoor
set_option maxRecDepth 100000
open Go Go.RowKit
theorem byt_setC {ys : List Int} (h : Byt ys) (p : Nat) (x : Int) (h0 : 0 ≤ x) (h1 : x < 256) : Byt (ys.set p x) := by
  intro i
  rw [List.getD_eq_getElem?_getD, List.getElem?_set]
  by_cases hp : p = i
  · rw [if_pos hp]
    split
    · exact ⟨h0, h1⟩
    · exact ⟨by simp, by simp⟩
  · rw [if_neg hp]
    have := h i
    rw [List.getD_eq_getElem?_getD] at this
    exact this
set_option maxHeartbeats 2000000 in
theorem l11Bytes_any (w : World) (s g : Nat) (a : Option Addr) (c : Nat) (xs : List Int) (t : Int) (n : Nat) (hs : Src w s a xs.length c t) (hr : Rd w g a .u8 xs) (hne : 0 < xs.length → g ≠ s) (hb : Byt xs) (hl : xs.length ≤ 4194304)
    (t0 : 0 ≤ t) (t1 : t ≤ 1000000) (hn : n ≤ 3000) :
    Calls Tryz.prog 25 #[.pointer (some ⟨s, 0, none⟩), .int .i64 (n : Int)] w fun e w' => ∃ v ys, e = .returned v ∧ ys.length = n ∧ Byt ys ∧ RowB w' w.heap.size v ys ∧ Src w' s a xs.length c (t + 1) ∧ But s w w' := by
  obtain ⟨i0, hi, hz0, hz1, hz2⟩ := info_parts Tryz.info5
  have NX := hide (l1NextX_any w s g a c xs t 256 hs hr hne hb hl t0 (by omega) (by omega) (by omega))
  have sl := hs.lt
  clear hs hr hne
  go_enter Tryz.func25, Tryz.ntmps25
  go_wp2_with fail
  refine NX.out.mono ?_
  rintro e w0 ⟨r, rfl, ⟨r0, r1⟩, S0, O0⟩
  have z0 := hide O0.size
  clear NX
  go_wp2_with (at_make; refine wpList_make_full _ rfl _ _ 22 rfl w0.heap.size 5 i0 (.int .u8 0) 1 Tryz.underlying22 hi hz0 hz1 .i64 .i64 _ _ n rfl rfl rfl rfl (by rw [hz2]; omega) (by unfold maxLen; omega) (Nat.le_refl _) ?_; intro w1 hown hgrow)
  have hB0 := Blk.of_made hown
  have T0 := TyB.of_made hown
  have hN0 : Below w0.heap.size w0 w1 := (Below.refl _ _).grown hgrow (Nat.le_refl _) (by simp)
  have bz : Byt (List.replicate n (0 : Int)) := fun i => by
    rw [List.getD_eq_getElem?_getD, List.getElem?_replicate]
    split <;> exact ⟨by simp, by simp⟩
  clear hown hgrow
  go_loopw [7] (fun i wr => ∃ (k : Nat) (ys : List Int), k ≤ n ∧ i = .int .i64 (k : Int) ∧ Hid (ys.length = n) ∧ Hid (Byt ys) ∧ Blk wr w0.heap.size .u8 ys ∧ TyB wr w0.heap.size ∧ Below w0.heap.size w0 wr) (fun i _ => n - (intOf i).toNat)
  case atStart => exact ⟨0, _, Nat.zero_le _, rfl, by show _ = _; simp, bz, hB0, T0, hN0⟩
  case round =>
    clear hB0 T0 hN0 bz
    obtain ⟨k, ys, hk, rfl, yl, yb, B, T, N⟩ := hrel
    by_cases hlt : k < n
    · have k0 : (k : Int) < (n : Int) := by omega
      have k1 : decide ((k : Int) < (n : Int)) = true := by simp; omega
      have kk : (k : Int) * (k : Int) ≤ 9000000 := by
        have : (k : Int) ≤ 3000 := by omega
        calc (k : Int) * (k : Int) ≤ 3000 * 3000 := Int.mul_le_mul this this (by omega) (by omega)
          _ = 9000000 := by decide
      have kp : (0 : Int) ≤ (k : Int) * (k : Int) := Int.mul_nonneg (by omega) (by omega)
      have hl : k < ys.length := by rw [yl.out]; exact hlt
      have hcy := B.cell hl
      have hfy := B.free k
      have YL := yl
      have YB := yb
      have KN := hide kk
      go_wp2
      go_roundw
      case rel =>
        refine ⟨k + 1, _, by omega, by go_num, ?_, ?_, B.store k _, T.set k _, N.setCell (Nat.le_refl _) _⟩
        · show _ = _
          rw [List.length_set]
          exact YL.out
        · exact byt_setC YB.out k _ (by omega) (by omega)
      case measure => simp [intOf]; omega
    · obtain rfl : k = n := by omega
      have k1 : decide ((k : Int) < (k : Int)) = false := by simp
      have RB := hide (RowB.of_tyb (B := w.heap.size) B T (by have := z0.out; omega) (by rw [yl.out]; omega))
      rw [yl.out] at RB
      have BT := hide ((But.ofOnly O0).trans (But.ofBelow N))
      have SR := hide (S0.up N)
      have YL := yl
      have YB := yb
      clear B T N
      go_wp2
      go_ret
      exact ⟨_, ys, rfl, YL.out, YB.out, RB.out, SR.out, BT.out⟩
end Go.Proofs.YtmfajpplagbfcaaGreatDoor
