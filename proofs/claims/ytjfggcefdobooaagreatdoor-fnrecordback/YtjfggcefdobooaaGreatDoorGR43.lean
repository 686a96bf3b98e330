import Derived.Test.YtjfggcefdobooaaGreatDoorGR1
import Derived.Laws.Bits64b
import Derived.Test.YtjfggcefdobooaaGreatDoorGR42
import Derived.Deep.Cut
import Derived.Deep.MidRow
import Derived.Test.YtjfggcefdobooaaGreatDoorGR2
import Derived.Test.YtjfggcefdobooaaGreatDoorGR7
import Derived.Test.YtjfggcefdobooaaGreatDoorGR28
import Derived.Test.YtjfggcefdobooaaGreatDoorGR31
namespace Go.Proofs.YtjfggcefdobooaaGreatDoor
set_option maxRecDepth 100000
def Bts (x : Int) (L : Nat) : Prop := 0 ≤ x ∧ x < 2 ^ L ∧ (L = 0 ∨ 2 ^ (L - 1) ≤ x)
theorem Bts.le {x : Int} {L k : Nat} (h : Bts x L) (hx : x < 2 ^ k) : L ≤ k := by
  by_cases c : L ≤ k
  · exact c
  · rcases h.2.2 with h0 | h0
    · omega
    · have : (2 : Int) ^ k ≤ 2 ^ (L - 1) := by exact_mod_cast Nat.pow_le_pow_right (by decide) (by omega)
      omega
end Go.Proofs.YtjfggcefdobooaaGreatDoor
namespace Go.Proofs.YtjfggcefdobooaaGreatDoor
set_option maxRecDepth 100000
open Go Go.RowKit
theorem ofInt64 (v : Int) : ((BitVec.ofInt 64 v).toNat : Int) = v % 18446744073709551616 := by
  rw [BitVec.toNat_ofInt]
  rw [Int.toNat_of_nonneg (Int.emod_nonneg _ (by decide))]
  rfl
theorem wrap_i64 (n : Int) : IntKind.i64.wrap n = (n + 9223372036854775808) % 18446744073709551616 - 9223372036854775808 := by
  simp [IntKind.wrap, IntKind.signed, IntKind.bits]
  omega
theorem or_byte (v x : Int) (h0 : -9223372036854775808 ≤ v * 256) (h1 : v * 256 < 9223372036854775808) (x0 : 0 ≤ x) (x1 : x < 256) : bits .or .i64 (v * 256) x = v * 256 + x := by
  have e : bits .or .i64 (v * 256) x = IntKind.i64.wrap ((BitVec.ofInt 64 (v * 256) ||| BitVec.ofInt 64 x).toNat : Int) := rfl
  rw [e, wrap_i64, BitVec.toNat_or]
  have a := ofInt64 (v * 256)
  have b := ofInt64 x
  obtain ⟨m, hm⟩ : ∃ m, (BitVec.ofInt 64 (v * 256)).toNat = 2 ^ 8 * m := ⟨(BitVec.ofInt 64 (v * 256)).toNat / 256, by omega⟩
  obtain ⟨y, hy⟩ : ∃ y, (BitVec.ofInt 64 x).toNat = y := ⟨_, rfl⟩
  rw [hm, hy, ← Nat.two_pow_add_eq_or_of_lt (by omega)]
  rw [hm] at a
  rw [hy] at b
  omega
end Go.Proofs.YtjfggcefdobooaaGreatDoor
namespace Go.Proofs.YtjfggcefdobooaaGreatDoor
set_option maxRecDepth 100000
open Go Go.RowKit
def beN (xs : List Int) (i : Nat) : Nat → Int
  | 0 => 0
  | k + 1 => beN xs i k * 256 + xs.getD (i + k) 0
theorem beN_rng {xs : List Int} (h : Byt xs) (i : Nat) : ∀ k, 0 ≤ beN xs i k ∧ beN xs i k < 256 ^ k
  | 0 => ⟨Int.le_refl _, by simp [beN]⟩
  | k + 1 => by
    have ih := beN_rng h i k
    have b := h (i + k)
    rw [beN, Int.pow_succ]
    omega
theorem Rd.of_block' {w w' : World} {g : Nat} {a : Option Addr} {k : IntKind} {xs : List Int} (h : Rd w g a k xs) (hb : 0 < xs.length → w'.heap[g]? = w.heap[g]?) : Rd w' g a k xs := by
  by_cases h0 : 0 < xs.length
  · exact h.of_block (hb h0)
  · exact fun q => absurd q h0
set_option maxHeartbeats 1000000 in
theorem curNum_any (w : World) (p g : Nat) (a : Option Addr) (c : Nat) (xs : List Int) (i t : Nat) (hC : Cur w p (.slice a xs.length c) i) (hr : Rd w g a .u8 xs) (hb : Byt xs) (hgp : 0 < xs.length → g ≠ p) (hi : i + t ≤ xs.length) (ht : t ≤ 4) (hn : xs.length ≤ 4194304) :
    Calls Tryz.prog 64 #[.pointer (some ⟨p, 0, none⟩), .int .i64 (t : Int)] w fun e w' => e = .returned (.int .i64 (beN xs i t)) ∧ Cur w' p (.slice a xs.length c) ((i + t : Nat) : Int) ∧ Only p w w' := by
  go_enter Tryz.func64, Tryz.ntmps64
  go_wp2
  go_loopw [5, 7] (fun v j wr => ∃ k : Nat, k ≤ t ∧ v = .int .i64 (beN xs i k) ∧ j = .int .i64 k ∧ Cur wr p (.slice a xs.length c) ((i + k : Nat) : Int) ∧ Only p w wr) (fun _ j _ => t - (intOf j).toNat)
  case atStart => exact ⟨0, Nat.zero_le _, rfl, rfl, hC, Only.refl _ _⟩
  case round =>
    obtain ⟨k, hk, rfl, rfl, C, O⟩ := hrel
    by_cases hlt : k < t
    · have TK := hide (take_ok wr p g a c xs (i + k) C (hr.of_block' (fun h => O.block g (hgp h))) (by omega) (by omega))
      have R := beN_rng hb i k
      have bx := hb (i + k)
      have p4 : beN xs i k < 16777216 := by
        rcases (by omega : k = 0 ∨ k = 1 ∨ k = 2 ∨ k = 3) with rfl | rfl | rfl | rfl
        all_goals (have := R.2; simp at this; omega)
      have OR := or_byte (beN xs i k) (xs.getD (i + k) 0) (by omega) (by omega) bx.1 bx.2
      have e : Hid (beN xs i (k + 1) = beN xs i k * 256 + xs.getD (i + k) 0) := rfl
      generalize beN xs i k = m at *
      generalize xs.getD (i + k) 0 = x at *
      have R0 := R.1
      have x0 := bx.1
      have x1 := bx.2
      have k1 : (k : Int) < (t : Int) := by omega
      clear R bx C
      go_wp2_with fail
      refine TK.out.mono ?_
      rintro r w' ⟨rfl, C', O'⟩
      clear TK
      go_wp2
      go_roundw
      case rel => exact ⟨k + 1, by omega, by rw [e.out], by go_num, C', O.trans O'⟩
      case measure => simp [intOf]; omega
    · obtain rfl : k = t := by omega
      go_wp2
      go_ret
      exact ⟨rfl, C, O⟩
end Go.Proofs.YtjfggcefdobooaaGreatDoor
namespace Go.Proofs.YtjfggcefdobooaaGreatDoor
set_option maxRecDepth 100000
open Go Go.RowKit
def RwC (w : World) (q : Nat) (cs : List Value) (t : TypeId) : Prop := w.heap[q]? = some (.cells cs.toArray t (0, 0))
theorem RwC.new (w : World) (cs : List Value) (t : TypeId) : RwC (w.alloc (.cells cs.toArray t)) w.heap.size cs t := heap_alloc_new w _
theorem RwC.lt {w : World} {q : Nat} {cs : List Value} {t : TypeId} (h : RwC w q cs t) : q < w.heap.size := (Array.getElem?_eq_some_iff.1 h).1
theorem RwC.up {w w' : World} {q : Nat} {cs : List Value} {t : TypeId} (h : RwC w q cs t) (n : Below w.heap.size w w') : RwC w' q cs t := (n.block q h.lt).trans h
theorem RwC.cell {w : World} {q : Nat} {cs : List Value} {t : TypeId} (h : RwC w q cs t) (i : Nat) : w.cell? ⟨q, i, none⟩ = cs[i]? := by
  rw [cell_of_row w q i _ _ (0, 0) h]
  simp
theorem RwC.free {w : World} {q : Nat} {cs : List Value} {t : TypeId} (h : RwC w q cs t) (i : Nat) : w.frozen? ⟨q, i, none⟩ = false := frozen_of_row w q i _ t h
theorem RwC.set {w : World} {q : Nat} {cs : List Value} {t : TypeId} (h : RwC w q cs t) (i : Nat) (v : Value) : RwC (w.setCell ⟨q, i, none⟩ v) q (cs.set i v) t := by
  show (w.heap.modify q _)[q]? = _
  rw [Array.getElem?_modify, if_pos rfl, show w.heap[q]? = _ from h]
  simp
theorem RwC.push {w : World} {q : Nat} {cs : List Value} {t : TypeId} (h : RwC w q cs t) (o : Obj) : RwC (w.alloc o) q cs t := h.up ((Below.refl _ _).alloc (Nat.le_refl _) o)
structure TMs (w W : World) (tL tM : TypeId) (src zer cs : List Value) : Prop where
  S : RwC W w.heap.size src tL
  U : RwC W (w.heap.size + 1) zer tM
  T : RwC W (w.heap.size + 1 + 1) cs tM
  N : Below w.heap.size w W
theorem TMs.new (w : World) (tL tM : TypeId) (src zer : List Value) : TMs w (((w.alloc (.cells src.toArray tL)).alloc (.cells zer.toArray tM)).alloc (.cells zer.toArray tM)) tL tM src zer zer := by
  have z1 : (w.alloc (.cells src.toArray tL)).heap.size = w.heap.size + 1 := by simp
  have n1 : Below w.heap.size w (w.alloc (.cells src.toArray tL)) := (Below.refl _ _).alloc (Nat.le_refl _) _
  have s1 := RwC.new w src tL
  generalize w.alloc (.cells src.toArray tL) = a at *
  have z2 : (a.alloc (.cells zer.toArray tM)).heap.size = a.heap.size + 1 := by simp
  have n2 : Below a.heap.size a (a.alloc (.cells zer.toArray tM)) := (Below.refl _ _).alloc (Nat.le_refl _) _
  have s2 := RwC.new a zer tM
  generalize a.alloc (.cells zer.toArray tM) = b at *
  have n3 : Below b.heap.size b (b.alloc (.cells zer.toArray tM)) := (Below.refl _ _).alloc (Nat.le_refl _) _
  have s3 := RwC.new b zer tM
  rw [z2, z1] at s3
  rw [z1] at s2
  exact ⟨(s1.up n2).up n3, s2.up n3, s3, nxt (nxt n1 n2) n3⟩
theorem TMs.up {w W W' : World} {tL tM : TypeId} {src zer cs : List Value} (h : TMs w W tL tM src zer cs) (m : Below W.heap.size W W') : TMs w W' tL tM src zer cs := ⟨h.S.up m, h.U.up m, h.T.up m, nxt h.N m⟩
theorem RwC.onl {w w' : World} {q r : Nat} {cs : List Value} {t : TypeId} (h : RwC w q cs t) (O : Only r w w') (hne : q ≠ r) : RwC w' q cs t := (O.block q hne).trans h
theorem TMs.set {w W : World} {tL tM : TypeId} {src zer cs : List Value} (h : TMs w W tL tM src zer cs) (i : Nat) (v : Value) : TMs w (W.setCell ⟨w.heap.size + 1 + 1, i, none⟩ v) tL tM src zer (cs.set i v) := by
  have O := Only.setCell W (w.heap.size + 1 + 1) i v
  exact ⟨h.S.onl O (by omega), h.U.onl O (by omega), h.T.set i v, h.N.trans (O.below (by omega))⟩
theorem only_setG (w : World) (q : Nat) : ∀ (vs : List Value) (o : Nat), Only q w (w.setCells q o vs)
  | [], _ => Only.refl _ _
  | v :: vs, o => (Only.setCell w q o v).trans (only_setG _ q vs (o + 1))
theorem RwC.thereG {w : World} {q : Nat} {cs : List Value} {t : TypeId} (h : RwC w q cs t) : w.there q 0 cs.length := fun j hj => by
  rw [Nat.zero_add, h.cell j, h.free j]
  exact ⟨by simp [hj], rfl⟩
theorem results_cellG {P : Program} {fn : Func} {p : Tmp} {ty : TypeId} (h : fn.results = #[.cell p ty]) (tmps : Array Value) (w : World) (g : Nat) (cs : List Value) (d : TypeDesc)
    (hp : tmps.getD p undef = .pointer (some ⟨g, 0, none⟩)) (hc : w.rangeAt g 0 cs) (hu : P.underlying ty = some d) (hd : d.isRow = true) (hi : (P.info? ty).map (·.size) = some cs.length) :
    (results fn tmps).run P w = .ok (.agg cs.toArray) w := by
  have hp' : tmps[p]?.getD undef = .pointer (some ⟨g, 0, none⟩) := by simpa using hp
  simp [results, h, hp', asAddr, run_loadVar_mid w g 0 ty cs d hc hu hd hi]
theorem RwC.rangeG {w : World} {q : Nat} {cs : List Value} {t : TypeId} (h : RwC w q cs t) : w.rangeAt q 0 cs := fun j v hj => by
  rw [Nat.zero_add]
  exact (h.cell j).trans hj
end Go.Proofs.YtjfggcefdobooaaGreatDoor
namespace Go.Proofs.YtjfggcefdobooaaGreatDoor
set_option maxRecDepth 100000
open Go Go.RowKit
structure Tch (S : List Nat) (w w' : World) : Prop where
  os : w'.os = w.os
  tape : w'.tape = w.tape
  output : w'.output = w.output
  size : w.heap.size ≤ w'.heap.size
  block : ∀ b, b < w.heap.size → b ∉ S → w'.heap[b]? = w.heap[b]?
theorem Tch.trans {a b c : World} {S T : List Nat} (h : Tch S a b) (k : Tch T b c) : Tch (S ++ T) a c :=
  ⟨k.os.trans h.os, k.tape.trans h.tape, k.output.trans h.output, Nat.le_trans h.size k.size, fun x hx hn => (k.block x (Nat.lt_of_lt_of_le hx h.size) (fun m => hn (List.mem_append_right _ m))).trans (h.block x hx (fun m => hn (List.mem_append_left _ m)))⟩
theorem Tch.below {w w' : World} {S : List Nat} {B : Nat} (h : Tch S w w') (hB : B ≤ w.heap.size) (hS : ∀ s ∈ S, B ≤ s) : Below B w w' := ⟨h.os, h.tape, h.output, h.size, fun k hk => h.block k (by omega) (fun m => by have := hS k m; omega)⟩
theorem Tch.mono {w w' : World} {S T : List Nat} (h : Tch S w w') (hs : ∀ s ∈ S, s ∈ T) : Tch T w w' := ⟨h.os, h.tape, h.output, h.size, fun b hb hn => h.block b hb (fun m => hn (hs b m))⟩
theorem RwC.c0 {w : World} {q : Nat} {x : Value} {cs : List Value} {t : TypeId} (h : RwC w q (x :: cs) t) : w.cell? ⟨q, 0, none⟩ = some x := h.cell 0
theorem RwC.c1 {w : World} {q : Nat} {x y : Value} {cs : List Value} {t : TypeId} (h : RwC w q (x :: y :: cs) t) : w.cell? ⟨q, 1, none⟩ = some y := h.cell 1
theorem RwC.c2 {w : World} {q : Nat} {x y z : Value} {cs : List Value} {t : TypeId} (h : RwC w q (x :: y :: z :: cs) t) : w.cell? ⟨q, 2, none⟩ = some z := h.cell 2
end Go.Proofs.YtjfggcefdobooaaGreatDoor
namespace Go.Proofs.YtjfggcefdobooaaGreatDoor
set_option maxRecDepth 100000
open Go Go.RowKit
theorem results_twoC {P : Program} {fn : Func} {p t : Tmp} {ty : TypeId} (h : fn.results = #[.cell p ty, .tmp t]) (tmps : Array Value) (w : World) (g : Nat) (cs : List Value) (d : TypeDesc) (v : Value)
    (hp : tmps.getD p undef = .pointer (some ⟨g, 0, none⟩)) (ht : tmps.getD t undef = v) (hc : w.rangeAt g 0 cs) (hu : P.underlying ty = some d) (hd : d.isRow = true) (hi : (P.info? ty).map (·.size) = some cs.length) :
    (results fn tmps).run P w = .ok (.tuple #[.agg cs.toArray, v]) w := by
  have hp' : tmps[p]?.getD undef = .pointer (some ⟨g, 0, none⟩) := by simpa using hp
  have ht' : tmps[t]?.getD undef = v := by simpa using ht
  simp [results, h, hp', ht', asAddr, run_loadVar_mid w g 0 ty cs d hc hu hd hi]
theorem iRh : (Tryz.prog.info? 55).map (·.size) = some 2 := by kernel_rfl
theorem rowRh : ∃ d, Tryz.prog.underlying 55 = some d ∧ d.isRow = true := ⟨_, Tryz.underlying55, rfl⟩
def rhE (a0 a1 : Addr) (xs : List Int) : Option Addr := if xs.length = 0 then some a0 else if isK (beN xs 0 1) = true then (if xs.length < 3 then some a0 else none) else some a1
set_option maxHeartbeats 4000000 in
theorem readHead_any (w : World) (g : Nat) (a : Option Addr) (c : Nat) (xs : List Int) (hr : Rd w g a .u8 xs) (hb : Byt xs) (hn : xs.length ≤ 1048576) (a0 a1 : Addr) (h0 : Sen w 0 a0) (h1 : Sen w 1 a1) :
    Calls Tryz.prog 50 #[.slice a xs.length c] w fun e w' => Below w.heap.size w w' ∧
      ((rhE a0 a1 xs = none ∧ e = .returned (.tuple #[.agg #[.int .i64 (beN xs 0 1), .int .i64 (beN xs 1 2)], .nilIface])) ∨ (∃ x, rhE a0 a1 xs = some x ∧ e = .returned (.tuple #[.agg #[.int .i64 0, .int .i64 0], erV x]))) := by
  obtain ⟨d1, hd1, hrow1⟩ := rowRh
  have n0 : Below w.heap.size w (w.alloc (.cells #[.int .i64 0, .int .i64 0] 55)) := (Below.refl _ _).alloc (Nat.le_refl _) _
  have Z0 : RwC (w.alloc (.cells #[.int .i64 0, .int .i64 0] 55)) w.heap.size [.int .i64 0, .int .i64 0] 55 := RwC.new w _ _
  have eR : Hid (rhE a0 a1 xs = if xs.length = 0 then some a0 else if isK (beN xs 0 1) = true then (if xs.length < 3 then some a0 else none) else some a1) := rfl
  generalize rhE a0 a1 xs = E at *
  by_cases hz : xs.length = 0
  · have u0 : ((xs.length : Int) == 0) = true := by rw [hz]; rfl
    have u1 : decide ((xs.length : Int) = 0) = true := decide_eq_true (by omega)
    have e1 : Hid (E = some a0) := by show _ = _; rw [eR.out, if_pos hz]
    clear eR hz hr
    go_enter Tryz.func50, Tryz.ntmps50
    go_upto_region 1 with fail
    generalize w.alloc (.cells #[.int .i64 0, .int .i64 0] 55) = wa at *
    have ZF : RwC ((wa.setCell ⟨w.heap.size, 0, none⟩ (.int .i64 0)).setCell ⟨w.heap.size, 1, none⟩ (.int .i64 0)) (w.heap.size) [.int .i64 0, .int .i64 0] 55 := (Z0.set 0 _).set 1 _
    have OF : Only (w.heap.size) wa ((wa.setCell ⟨w.heap.size, 0, none⟩ (.int .i64 0)).setCell ⟨w.heap.size, 1, none⟩ (.int .i64 0)) := (Only.setCell _ (w.heap.size) 0 _).trans (Only.setCell _ (w.heap.size) 1 _)
    have cg := (h0.up n0).c
    unfold erV at cg
    have kg : ((wa.setCell ⟨w.heap.size, 0, none⟩ (.int .i64 0)).setCell ⟨w.heap.size, 1, none⟩ (.int .i64 0)).cell? ⟨0, 0, none⟩ = some (.iface 175 (.pointer (some a0))) := (World.cell?_of_block (a := ⟨0, 0, none⟩) (OF.block 0 (by have : 0 < w.heap.size := block_lt_of_cell h0.c; omega))).trans cg
    have RR := ZF.rangeG
    have NF := n0.trans (OF.below (B := w.heap.size) (by omega))
    have x0 := Z0.c0
    have x1 := Z0.c1
    have f0 := Z0.free 0
    have f1 := Z0.free 1
    clear OF ZF
    go_wp2
    go_region
    all_goals
      go_wp2
      exact bodyPost_ret (v := .tuple #[.agg #[.int .i64 0, .int .i64 0], erV a0]) (results_twoC Tryz.results50 _ _ (w.heap.size) [.int .i64 0, .int .i64 0] d1 (erV a0) rfl rfl RR hd1 hrow1 iRh) rfl ⟨NF.drew, .inr ⟨a0, e1.out, rfl⟩⟩
  · have u0 : ((xs.length : Int) == 0) = false := beq_eq_false_iff_ne.2 (by omega)
    have u1 : decide ((xs.length : Int) = 0) = false := decide_eq_false (by omega)
    have gl := hr.lt (by omega)
    have KN := hide fun W => isKind_any W (beN xs 0 1)
    go_enter Tryz.func50, Tryz.ntmps50
    go_upto_region 1 with fail
    generalize w.alloc (.cells #[.int .i64 0, .int .i64 0] 55) = wa at *
    have n1 : Below wa.heap.size wa (wa.alloc (.cells #[.slice a xs.length c, .int .i64 0] 104)) := (Below.refl _ _).alloc (Nat.le_refl _) _
    have C0 : Cur (wa.alloc (.cells #[.slice a xs.length c, .int .i64 0] 104)) wa.heap.size (.slice a xs.length c) 0 := ⟨104, heap_alloc_new wa _⟩
    have lZ := Z0.lt
    have NM := hide (curNum_any (wa.alloc (.cells #[.slice a xs.length c, .int .i64 0] 104)) wa.heap.size g a c xs 0 1 C0 ((hr.up n0).up n1) hb (fun _ => by omega) (by omega) (by omega) (by omega))
    have N1 := nxt n0 n1
    have Z1 := Z0.up n1
    clear C0 n1
    go_wp2_with fail
    generalize wa.alloc (.cells #[.slice a xs.length c, .int .i64 0] 104) = wb at *
    refine NM.out.mono ?_
    rintro e w1 ⟨rfl, C1, O1⟩
    have N2 := N1.trans (O1.below (B := w.heap.size) (by have := n0.size; omega))
    have Z2 := Z1.onl O1 (by omega)
    clear NM N1 Z1
    go_wp2_with fail
    refine (KN.out w1).mono ?_
    rintro e w2 ⟨rfl, hw⟩
    have hw := hw.symm
    subst hw
    by_cases hk : isK (beN xs 0 1) = true
    · rw [hk]
      by_cases h3 : xs.length < 3
      · have u3 : decide ((xs.length : Int) < 3) = true := by simp; omega
        have e1 : Hid (E = some a0) := by show _ = _; rw [eR.out, if_neg hz, if_pos hk, if_pos h3]
        clear eR hz hr hk KN C1 O1
        have ZF : RwC ((w1.setCell ⟨w.heap.size, 0, none⟩ (.int .i64 0)).setCell ⟨w.heap.size, 1, none⟩ (.int .i64 0)) (w.heap.size) [.int .i64 0, .int .i64 0] 55 := (Z2.set 0 _).set 1 _
        have OF : Only (w.heap.size) w1 ((w1.setCell ⟨w.heap.size, 0, none⟩ (.int .i64 0)).setCell ⟨w.heap.size, 1, none⟩ (.int .i64 0)) := (Only.setCell _ (w.heap.size) 0 _).trans (Only.setCell _ (w.heap.size) 1 _)
        have cg := (h0.up N2).c
        unfold erV at cg
        have kg : ((w1.setCell ⟨w.heap.size, 0, none⟩ (.int .i64 0)).setCell ⟨w.heap.size, 1, none⟩ (.int .i64 0)).cell? ⟨0, 0, none⟩ = some (.iface 175 (.pointer (some a0))) := (World.cell?_of_block (a := ⟨0, 0, none⟩) (OF.block 0 (by have : 0 < w.heap.size := block_lt_of_cell h0.c; omega))).trans cg
        have RR := ZF.rangeG
        have NF := N2.trans (OF.below (B := w.heap.size) (by omega))
        have x0 := Z2.c0
        have x1 := Z2.c1
        have f0 := Z2.free 0
        have f1 := Z2.free 1
        clear OF ZF
        go_wp2
        go_region
        all_goals
          go_wp2
          exact bodyPost_ret (v := .tuple #[.agg #[.int .i64 0, .int .i64 0], erV a0]) (results_twoC Tryz.results50 _ _ (w.heap.size) [.int .i64 0, .int .i64 0] d1 (erV a0) rfl rfl RR hd1 hrow1 iRh) rfl ⟨NF.drew, .inr ⟨a0, e1.out, rfl⟩⟩
      · have u3 : decide ((xs.length : Int) < 3) = false := by simp; omega
        have e1 : Hid (E = none) := by show _ = _; rw [eR.out, if_neg hz, if_pos hk, if_neg h3]
        have NM := hide (curNum_any w1 wa.heap.size g a c xs 1 2 C1 (hr.up N2) hb (fun _ => by have := n0.size; omega) (by omega) (by omega) (by omega))
        clear eR hz hk KN C1
        go_wp2_with fail
        refine NM.out.mono ?_
        rintro e w3 ⟨rfl, C3, O3⟩
        have N3 := N2.trans (O3.below (B := w.heap.size) (by have := n0.size; omega))
        have Z3 := Z2.onl O3 (by omega)
        have ZF : RwC ((w3.setCell ⟨w.heap.size, 0, none⟩ (.int .i64 (beN xs 0 1))).setCell ⟨w.heap.size, 1, none⟩ (.int .i64 (beN xs 1 2))) w.heap.size [.int .i64 (beN xs 0 1), .int .i64 (beN xs 1 2)] 55 := (Z3.set 0 _).set 1 _
        have OF : Only w.heap.size w3 ((w3.setCell ⟨w.heap.size, 0, none⟩ (.int .i64 (beN xs 0 1))).setCell ⟨w.heap.size, 1, none⟩ (.int .i64 (beN xs 1 2))) := (Only.setCell _ w.heap.size 0 _).trans (Only.setCell _ w.heap.size 1 _)
        have RR := ZF.rangeG
        have NF := N3.trans (OF.below (B := w.heap.size) (by omega))
        have x0 := Z3.c0
        have x1 := Z3.c1
        have f0 := Z3.free 0
        have f1 := Z3.free 1
        clear OF ZF NM C3 O3 O1 hr
        go_wp2
        exact bodyPost_ret (v := .tuple #[.agg #[.int .i64 (beN xs 0 1), .int .i64 (beN xs 1 2)], .nilIface]) (results_twoC Tryz.results50 _ _ w.heap.size [.int .i64 (beN xs 0 1), .int .i64 (beN xs 1 2)] d1 .nilIface rfl rfl RR hd1 hrow1 iRh) rfl ⟨NF, .inl ⟨e1.out, rfl⟩⟩
    · have hk2 : isK (beN xs 0 1) = false := by simpa using hk
      rw [hk2]
      have e1 : Hid (E = some a1) := by show _ = _; rw [eR.out, if_neg hz, if_neg hk]
      clear eR hz hr hk hk2 KN C1 O1
      have ZF : RwC ((w1.setCell ⟨w.heap.size, 0, none⟩ (.int .i64 0)).setCell ⟨w.heap.size, 1, none⟩ (.int .i64 0)) (w.heap.size) [.int .i64 0, .int .i64 0] 55 := (Z2.set 0 _).set 1 _
      have OF : Only (w.heap.size) w1 ((w1.setCell ⟨w.heap.size, 0, none⟩ (.int .i64 0)).setCell ⟨w.heap.size, 1, none⟩ (.int .i64 0)) := (Only.setCell _ (w.heap.size) 0 _).trans (Only.setCell _ (w.heap.size) 1 _)
      have cg := (h1.up N2).c
      unfold erV at cg
      have kg : ((w1.setCell ⟨w.heap.size, 0, none⟩ (.int .i64 0)).setCell ⟨w.heap.size, 1, none⟩ (.int .i64 0)).cell? ⟨1, 0, none⟩ = some (.iface 175 (.pointer (some a1))) := (World.cell?_of_block (a := ⟨1, 0, none⟩) (OF.block 1 (by have : 1 < w.heap.size := block_lt_of_cell h1.c; omega))).trans cg
      have RR := ZF.rangeG
      have NF := N2.trans (OF.below (B := w.heap.size) (by omega))
      have x0 := Z2.c0
      have x1 := Z2.c1
      have f0 := Z2.free 0
      have f1 := Z2.free 1
      clear OF ZF
      go_wp2
      go_region
      all_goals
        go_wp2
        exact bodyPost_ret (v := .tuple #[.agg #[.int .i64 0, .int .i64 0], erV a1]) (results_twoC Tryz.results50 _ _ (w.heap.size) [.int .i64 0, .int .i64 0] d1 (erV a1) rfl rfl RR hd1 hrow1 iRh) rfl ⟨NF.drew, .inr ⟨a1, e1.out, rfl⟩⟩
end Go.Proofs.YtjfggcefdobooaaGreatDoor
namespace Go.Proofs.YtjfggcefdobooaaGreatDoor
set_option maxRecDepth 100000
open Go Go.RowKit
def TyB (w : World) (g : Nat) : Prop := ∃ cur, w.heap[g]? = some (.cells cur 5 (0, 0))
theorem TyB.of_made {w : World} {base g n : Nat} {xs : List Value} (h : w.ownsRow base 5 1 (.slice (some ⟨g, 0, none⟩) n n) n xs) : TyB w g := by
  rcases h.2 with ⟨h', _⟩ | ⟨g', cap', cur, h', _, hg, _⟩
  · simp at h'
  · simp only [Value.slice.injEq, Option.some.injEq, Addr.mk.injEq, and_true, true_and] at h'
    obtain ⟨rfl, rfl⟩ := h'
    exact ⟨cur, hg⟩
theorem TyB.set {w : World} {g : Nat} (h : TyB w g) (i : Nat) (v : Value) : TyB (w.setCell ⟨g, i, none⟩ v) g := by
  obtain ⟨cur, h⟩ := h
  exact ⟨_, heap_setCell_same w g i _ 5 _ h⟩
theorem RowB.of_tyb {w : World} {g B : Nat} {ys : List Int} (h : Blk w g .u8 ys) (t : TyB w g) (hB : B ≤ g) (hl : ys.length ≤ 1048576) : RowB w B (.slice (some ⟨g, 0, none⟩) ys.length ys.length) ys := by
  obtain ⟨e, h⟩ := h
  obtain ⟨cur, t⟩ := t
  rw [t] at h
  simp only [Option.some.injEq, Obj.cells.injEq, and_true] at h
  obtain ⟨rfl, rfl⟩ := h
  refine ⟨by simp, .inr ⟨g, ys.length, _, rfl, hB, t, Nat.le_refl _, by unfold maxLen; omega, by simp, ?_⟩⟩
  show List.take (ys.length * 1) (List.map (Value.int .u8) ys) = _
  exact List.take_of_length_le (by simp)
set_option maxHeartbeats 1000000 in
theorem l1BigB_any (w : World) (v : Int) (t : Nat) (h0 : 0 ≤ v) (h1 : v < 9223372036854775808) (ht : t ≤ 1048576) :
    Calls Tryz.prog 46 #[.int .i64 v, .int .i64 (t : Int)] w fun e w' => e = .returned (.slice (some ⟨w.heap.size, 0, none⟩) t t) ∧ RowB w' w.heap.size (.slice (some ⟨w.heap.size, 0, none⟩) t t) (bigL v t) ∧ Below w.heap.size w w' := by
  obtain ⟨i0, hi, hz0, hz1, hz2⟩ := info_parts Tryz.info5
  go_enter Tryz.func46, Tryz.ntmps46
  go_wp2_with (at_make; refine wpList_make_full _ rfl _ _ 22 rfl w.heap.size 5 i0 (.int .u8 0) 1 Tryz.underlying22 hi hz0 hz1 .i64 .i64 _ _ t rfl rfl rfl rfl (by rw [hz2]; omega) (by unfold maxLen; omega) (Nat.le_refl _) ?_; intro w1 hown hgrow)
  have hB0 := Blk.of_made hown
  have T0 := TyB.of_made hown
  have hN0 : Below w.heap.size w w1 := (Below.refl _ _).grown hgrow (Nat.le_refl _) (by simp)
  clear hown hgrow
  go_loopw [0, 6] (fun q i wr => ∃ (k : Nat) (u j : Int) (ys : List Int), k ≤ t ∧ q = .int .i64 u ∧ i = .int .i64 j ∧ j + (k : Int) + 1 = (t : Int) ∧ 0 ≤ u ∧ u < 9223372036854775808 ∧ Hid (u = v / 256 ^ k) ∧ BigTo v t ys k ∧ Blk wr w.heap.size .u8 ys ∧ TyB wr w.heap.size ∧ Below w.heap.size w wr) (fun _ i _ => (intOf i + 1).toNat)
  case atStart => exact ⟨0, v, (t : Int) - 1, _, Nat.zero_le _, rfl, by go_num, by omega, h0, h1, by show _ = _; simp, BigTo.zero v t, hB0, T0, hN0⟩
  case round =>
    obtain ⟨k, u, j, ys, hk, rfl, rfl, hj, u0, u1, hu, hT, hB, hTy, hN⟩ := hrel
    by_cases hlt : 0 ≤ j
    · obtain ⟨p, rfl⟩ := Int.eq_ofNat_of_zero_le hlt
      have R := hT.step (by omega)
      rw [show t - 1 - k = p by omega, ← hu.out] at R
      have hl : p < ys.length := by rw [hT.1]; omega
      have hcy := hB.cell hl
      have hfy := hB.free p
      have hB' := hB.store p (u % 256)
      have hTy' := hTy.set p (.int .u8 (u % 256))
      have hN' : Below w.heap.size w (wr.setCell ⟨w.heap.size, p, none⟩ (.int .u8 (u % 256))) := hN.setCell (Nat.le_refl _) _
      have hu' : Hid (u / 256 = v / 256 ^ (k + 1)) := by show _ = _; rw [hu.out, div256]
      have p1 : (p : Int) < (t : Int) := by omega
      have HJ := hide hj
      clear hB hN hu hT hj
      go_wp2
      go_roundw
      case rel => exact ⟨k + 1, u / 256, (p : Int) - 1, _, by have := HJ.out; omega, by go_num, by go_num, by have := HJ.out; omega, by omega, by omega, hu', R, hB', hTy', hN'⟩
      case measure => simp [intOf]
    · obtain rfl : k = t := by omega
      have K := hide hT.all
      obtain rfl : j = -1 := by omega
      clear hj hu hT
      go_wp2
      go_ret
      have RB := RowB.of_tyb (B := w.heap.size) hB hTy (Nat.le_refl _) (by rw [K.out, bigL_len]; exact ht)
      rw [K.out, bigL_len] at RB
      exact ⟨rfl, RB, hN⟩
set_option maxHeartbeats 1000000 in
theorem l1CopyN_any (w : World) (g : Nat) (a : Option Addr) (c : Nat) (xs : List Int) (hr : Rd w g a .u8 xs) (hc : a = none → c = 0) (hn : xs.length ≤ 1099511627776) :
    Calls Tryz.prog 25 #[.slice a xs.length c] w fun e w' => ∃ v, e = .returned v ∧ RowB w' w.heap.size v xs ∧ Below w.heap.size w w' := by
  obtain ⟨i0, hi, hz0, hz1, hz2⟩ := info_parts Tryz.info5
  have hal : Below w.heap.size w (w.alloc (.cells #[] 5)) := (Below.refl _ _).alloc (Nat.le_refl _) _
  obtain ⟨v', w2, hap, o2, n2⟩ := append_any (P := Tryz.prog) (w.alloc (.cells #[] 5)) 22 i0 Tryz.underlying22 hi hz0 hz1 hz2 w.heap.size w.heap.size _ [] (RowB.lit0 w) g a c xs (hr.up hal) hc (by simp; omega) (Nat.le_refl _) (by simp)
  rw [List.nil_append] at o2
  go_enter Tryz.func25, Tryz.ntmps25
  go_wp2_with (at_builtin; refine Lib.wpList_append_run _ rfl _ _ 22 22 rfl _ _ rfl rfl _ _ hap ?_)
  go_ret
  exact ⟨_, rfl, o2, hal.trans n2⟩
end Go.Proofs.YtjfggcefdobooaaGreatDoor
namespace Go.Proofs.YtjfggcefdobooaaGreatDoor
set_option maxRecDepth 100000
open Go Go.RowKit
theorem known_any (w : World) (k : Int) : Calls Tryz.prog 24 #[.int .i64 k] w fun e w' => e = .returned (.bool (isK k)) ∧ w' = w := by
  by_cases h0 : k = 21
  · subst h0
    go_enter Tryz.func24, Tryz.ntmps24
    go_wp2
    go_ret
    exact ⟨rfl, rfl⟩
  by_cases h1 : k = 22
  · subst h1
    go_enter Tryz.func24, Tryz.ntmps24
    go_wp2
    go_ret
    exact ⟨rfl, rfl⟩
  by_cases h2 : k = 23
  · subst h2
    go_enter Tryz.func24, Tryz.ntmps24
    go_wp2
    go_ret
    exact ⟨rfl, rfl⟩
  have e : isK k = false := by simp [isK, h0, h1, h2]
  have q0 : (k == 21) = false := by simp [h0]
  have q1 : (k == 22) = false := by simp [h1]
  have q2 : (k == 23) = false := by simp [h2]
  have q3 : Hid ((k == 21 || k == 22 || k == 23) = false) := by show _ = _; rw [q0, q1, q2]; rfl
  rw [e]
  go_enter Tryz.func24, Tryz.ntmps24
  go_wp2
  go_ret
  exact ⟨by first | rfl | (rw [show false = (k == 21 || k == 22 || k == 23) from q3.out.symm]; rfl), rfl⟩
set_option maxHeartbeats 1000000 in
theorem l15Head_any (w : World) (k n : Int) (h0 : 0 ≤ n) (h1 : n < 9223372036854775808) :
    Calls Tryz.prog 26 #[.int .i64 k, .int .i64 n] w fun e w' => ∃ v, e = .returned v ∧ RowB w' w.heap.size v (hdL k n) ∧ Below w.heap.size w w' := by
  obtain ⟨i0, hi, hz0, hz1, hz2⟩ := info_parts Tryz.info5
  obtain ⟨x, hx⟩ : ∃ x, k % 256 = x := ⟨_, rfl⟩
  have BK : Hid (bigL k 1 = [x]) := by show _ = _; simp [bigL, ← hx]
  have n0 : Below w.heap.size w (w.alloc (.cells #[.int .u8 x] 5)) := (Below.refl _ _).alloc (Nat.le_refl _) _
  have R0 := RowB.lit1 w x
  have AN := fun W => hide (l1BigB_any W n 2 h0 h1 (by decide))
  have HD : Hid (hdL k n = [x] ++ bigL n 2) := by show _ = _; rw [hdL, BK.out]
  have BL : Hid ((bigL n 2).length = 2) := bigL_len n 2
  generalize bigL n 2 = B at *
  go_enter Tryz.func26, Tryz.ntmps26
  go_wp2_with fail
  generalize w.alloc (.cells #[.int .u8 x] 5) = wa at *
  refine (AN _).out.mono ?_
  rintro e w1 ⟨rfl, R1, n1⟩
  obtain ⟨a1, c1, g1, e1, D1, z1, q1, r1⟩ := R1.rd
  rw [BL.out] at e1
  simp only [Value.slice.injEq] at e1
  obtain ⟨rfl, -, rfl⟩ := e1
  obtain ⟨v2, w2, hap, R2, n2⟩ := append_any (P := Tryz.prog) w1 22 i0 Tryz.underlying22 hi hz0 hz1 hz2 w.heap.size w.heap.size _ _ (R0.up n1) g1 _ 2 B D1 (by simp) (by rw [BL.out]; simp) (Nat.le_refl _) (by have := n0.size; have := n1.size; omega)
  rw [← HD.out] at R2
  rw [BL.out] at hap
  go_wp2_with (at_builtin; refine Lib.wpList_append_run _ rfl _ _ 22 22 rfl _ _ rfl rfl _ _ hap ?_)
  go_ret
  exact ⟨_, rfl, R2, (nxt n0 n1).trans n2⟩
end Go.Proofs.YtjfggcefdobooaaGreatDoor
namespace Go.Proofs.YtjfggcefdobooaaGreatDoor
set_option maxRecDepth 100000
open Go Go.RowKit
theorem step_append_exN {P : Program} {ops : Array Oper} {o : Oper} {a : Act} {w : World} {K : Act → World → Prop} {Q : Exit → Act → World → Prop} {E : Prop} (hg : o.guard = none) (s x : Operand) (t tn : TypeId)
    (ho : o.op = .call { callee := .builtin .append, args := #[s, x], argTypes := #[t, tn] }) (vs vx : Value) (hs : a.eval s = vs) (hx : a.eval x = vx) (R : Value → World → Prop)
    (H : ∃ v' w', (Builtin.append_ #[t, tn] o.type #[vs, vx]).run P w = .ok v' w' ∧ R v' w') (hK : ∀ v' w', R v' w' → K (a.put o.dst v') w') :
    if Region.wanted o (yielded ops a.tmps) = true then Oper.wp P o a w K Q else E := by
  have hw : Region.wanted o (yielded ops a.tmps) = true := by simp [Region.wanted, hg]
  rw [if_pos hw]
  obtain ⟨v', w', hr, hR⟩ := H
  exact Lib.wp_append_run w s x t tn ho vs vx hs hx v' w' hr (hK v' w' hR)
structure PrC (w : World) (p : Nat) (x y : Value) : Prop where
  c0 : w.cell? ⟨p, 0, none⟩ = some x
  c1 : w.cell? ⟨p, 1, none⟩ = some y
theorem PrC.up {w w' : World} {p : Nat} {x y : Value} (h : PrC w p x y) (n : Below w.heap.size w w') : PrC w' p x y :=
  ⟨(World.cell?_of_block (a := ⟨p, 0, none⟩) (n.block p (block_lt_of_cell h.c0))).trans h.c0, (World.cell?_of_block (a := ⟨p, 1, none⟩) (n.block p (block_lt_of_cell h.c0))).trans h.c1⟩
theorem PrC.lt {w : World} {p : Nat} {x y : Value} (h : PrC w p x y) : p < w.heap.size := block_lt_of_cell h.c0
theorem PrC.new (w : World) (x y : Value) (t : TypeId) : PrC (w.alloc (.cells #[x, y] t)) w.heap.size x y := ⟨by simp [World.cell?_alloc_at], by simp [World.cell?_alloc_at]⟩
theorem hfV_bad {a1 a2 : Addr} {k n : Int} (h : ¬ (isK k = true ∧ 1 ≤ n ∧ n ≤ 2321)) : ∃ a', hfV a1 a2 k n = .iface 175 (.pointer (some a')) := by
  unfold hfV
  by_cases hk : isK k = true
  · rw [if_pos hk, if_neg (by intro q; exact h ⟨hk, q⟩)]
    exact ⟨a2, rfl⟩
  · rw [if_neg hk]
    exact ⟨a1, rfl⟩
set_option maxHeartbeats 1000000 in
theorem implEncode_any (w : World) (k : Int) (g : Nat) (a : Option Addr) (c : Nat) (xs : List Int) (hr : Rd w g a .u8 xs) (hc : a = none → c = 0) (a1 a2 : Addr) (h1 : Sen w 1 a1) (h2 : Sen w 5 a2) :
    Calls Tryz.prog 8 #[.agg #[.int .i64 k, .slice a xs.length c]] w fun e w' => ∃ v, e = .returned v ∧ RowB w' w.heap.size v (enA k xs) ∧ Below w.heap.size w w' := by
  obtain ⟨i0, hi, hz0, hz1, hz2⟩ := info_parts Tryz.info5
  have m1 : Below w.heap.size w (w.alloc (.cells #[.int .i64 k, .slice a xs.length c] 31)) := (Below.refl _ _).alloc (Nat.le_refl _) _
  have B0 := PrC.new w (.int .i64 k) (.slice a xs.length c) 31
  have z1 : (w.alloc (.cells #[.int .i64 k, .slice a xs.length c] 31)).heap.size = w.heap.size + 1 := by simp
  have m2 : Below (w.alloc (.cells #[.int .i64 k, .slice a xs.length c] 31)).heap.size (w.alloc (.cells #[.int .i64 k, .slice a xs.length c] 31)) ((w.alloc (.cells #[.int .i64 k, .slice a xs.length c] 31)).alloc (.cells #[.int .i64 k, .int .i64 xs.length] 55)) := (Below.refl _ _).alloc (Nat.le_refl _) _
  have B1 := PrC.new (w.alloc (.cells #[.int .i64 k, .slice a xs.length c] 31)) (.int .i64 k) (.int .i64 xs.length) 55
  have N := nxt m1 m2
  have F := fun W (n : Below w.heap.size w W) => hide (fault_any W k xs.length a1 a2 (h1.up n) (h2.up n))
  rw [z1] at B1
  replace B0 := B0.up m2
  by_cases hg : isK k = true ∧ 1 ≤ xs.length ∧ xs.length ≤ 2321
  · have e1 : hfV a1 a2 k xs.length = .nilIface := by rw [hfV, if_pos hg.1, if_pos (by omega)]
    have e2 : Hid (enA k xs = hdL k (xs.length : Int) ++ xs) := by show _ = _; rw [enA, if_pos hg]
    rw [e1] at F
    have hq := nil_neq
    have HL := hide hg.2
    have HB := fun W => hide (headBytes_any W k (xs.length : Int))
    have HDL := hide (hdL_len k (xs.length : Int))
    generalize hdL k (xs.length : Int) = H at *
    clear e1 hg h1 h2 m1 m2 z1
    go_enter Tryz.func8, Tryz.ntmps8
    go_wp2_with fail
    generalize (w.alloc (.cells #[.int .i64 k, .slice a xs.length c] 31)).alloc (.cells #[.int .i64 k, .int .i64 xs.length] 55) = wa at *
    refine (F _ N).out.mono ?_
    rintro e wb ⟨rfl, n1⟩
    replace B0 := B0.up n1
    replace B1 := B1.up n1
    replace N := nxt N n1
    clear n1 F
    have CY : Hid (∀ W, Below wb.heap.size wb W → (W.cell? ⟨w.heap.size, 1, none⟩ = some (.slice a xs.length c) ∧ W.cell? ⟨w.heap.size + 1, 0, none⟩ = some (.int .i64 k) ∧ W.cell? ⟨w.heap.size + 1, 1, none⟩ = some (.int .i64 xs.length))) := fun W m => ⟨(B0.up m).c1, (B1.up m).c0, (B1.up m).c1⟩
    have HB2 : Hid (∀ W, Below wb.heap.size wb W → Calls Tryz.prog 30 #[.agg #[.int .i64 k, .int .i64 xs.length]] W fun e w' => ∃ v, e = .returned v ∧ RowB w' wb.heap.size v H ∧ Below wb.heap.size wb w') := fun W m => (HB W).out.mono (by
      rintro e w' ⟨v, rfl, R, l⟩
      exact ⟨v, rfl, R.base m.size, nxt m l⟩)
    have AP : Hid (∀ W ty v, Below wb.heap.size wb W → RowB W wb.heap.size v H → ∃ v' w', (Builtin.append_ #[22, 22] ty #[v, .slice a xs.length c]).run Tryz.prog W = .ok v' w' ∧ RowB w' wb.heap.size v' (enA k xs) ∧ Below wb.heap.size wb w') := fun W ty v m R => by
      obtain ⟨v', w', h1, h2, h3⟩ := append_any (P := Tryz.prog) W ty i0 Tryz.underlying22 hi hz0 hz1 hz2 wb.heap.size wb.heap.size v H R g a c xs ((hr.up N).up m) hc (by rw [HDL.out]; have := HL.out; omega) (Nat.le_refl _) m.size
      exact ⟨v', w', h1, by rw [e2.out]; exact h2, m.trans h3⟩
    have nd : Below wb.heap.size wb wb.drew := (Below.refl _ _).drew
    clear B0 B1 HB hr
    go_upto_region 4 with fail
    go_region_held3 (fun W => W.cell? ⟨w.heap.size, 1, none⟩ = some (.slice a xs.length c) ∧ W.cell? ⟨w.heap.size + 1, 0, none⟩ = some (.int .i64 k) ∧ W.cell? ⟨w.heap.size + 1, 1, none⟩ = some (.int .i64 xs.length))
      (first | exact (unhide CY) _ b17 | exact (unhide CY) _ b14 | exact (unhide CY) _ nd)
      (first
        | (go_at_call 30; refine ((unhide HB2) _ nd).mono ?_; rintro r w14 ⟨v14, rfl, R14, b14⟩; (have A17 := hide ((unhide AP) w14 22 v14 b14 R14)))
        | (refine step_append_exN rfl (.tmp 14) (.tmp 16) 22 22 rfl v14 (.slice a xs.length c) rfl rfl _ A17.out ?_; rintro v17 w17 ⟨R17, b17⟩)
        | fail)
    all_goals
      go_wp2
      go_ret
      exact ⟨_, rfl, R17.base N.size, nxt N b17⟩
  · obtain ⟨a', e1⟩ := hfV_bad (a1 := a1) (a2 := a2) (k := k) (n := (xs.length : Int)) (fun q => hg ⟨q.1, by omega, by omega⟩)
    have e2 : Hid (enA k xs = []) := by show _ = _; rw [enA, if_neg hg]
    rw [e1] at F
    have hq := er_neq
    clear e1 hg h1 h2 m1 m2 z1 hr
    go_enter Tryz.func8, Tryz.ntmps8
    go_wp2_with fail
    generalize (w.alloc (.cells #[.int .i64 k, .slice a xs.length c] 31)).alloc (.cells #[.int .i64 k, .int .i64 xs.length] 55) = wa at *
    refine (F _ N).out.mono ?_
    rintro e wb ⟨rfl, n1⟩
    go_wp2
    go_ret
    exact ⟨_, rfl, by rw [e2.out]; exact RowB.nilN _ _, nxt N n1⟩
end Go.Proofs.YtjfggcefdobooaaGreatDoor
namespace Go.Proofs.YtjfggcefdobooaaGreatDoor
set_option maxRecDepth 100000
open Go Go.RowKit
section
variable {P : Program} {ops : Array Oper} {Q : Exit → Act → World → Prop} {md : Region.Mode} {F : Nat → Fact} {a0 : Act} {w0 : World}
def FreshOk (P : Program) (md : Region.Mode) (ops : Array Oper) (Q : Exit → Act → World → Prop) (F : Nat → Fact) (a0 : Act) (w0 : World) (i : Nat) : Prop :=
  ∀ o, ops[i]? = some o → ∀ a w, Based ops a0 a → Below w0.heap.size w0 w → (∀ j d, waits md ops i j d = true → (F j).p (a.tmps.getD d undef) w) →
    ∀ K : Act → World → Prop, (∀ v w', Below w.heap.size w w' → (F i).p v w' → v = .pointer (some ⟨w.heap.size, 0, none⟩) → w.heap.size < w'.heap.size → K (a.put o.dst v) w') → o.wp P a w K Q
theorem FreshOk.step {i : Nat} (h : FreshOk P md ops Q F a0 w0 i) : StepOk P md ops Q F a0 w0 i :=
  fun o ho a w hb hw hf K hK => h o ho a w hb hw hf K (fun v w' hn hv _ _ => hK v w' hn hv)
structure Sep (i1 i2 d1 d2 : Nat) (listed : Array Bool) (a : Act) (w : World) : Prop where
  l : listed.getD i1 false = true → ∃ q, a.tmps.getD d1 undef = .pointer (some ⟨q, 0, none⟩) ∧ q < w.heap.size
  r : listed.getD i2 false = true → ∃ q, a.tmps.getD d2 undef = .pointer (some ⟨q, 0, none⟩) ∧ q < w.heap.size
  n : listed.getD i1 false = true → listed.getD i2 false = true → a.tmps.getD d1 undef ≠ a.tmps.getD d2 undef
theorem Sep.other {i1 i2 d1 d2 : Nat} {listed : Array Bool} {a : Act} {w w' : World} (h : Sep i1 i2 d1 d2 listed a w) {i : Nat} {dst : Option Tmp} {v : Value} (h1 : i ≠ i1) (h2 : i ≠ i2) (e1 : dst ≠ some d1) (e2 : dst ≠ some d2) (hw : w.heap.size ≤ w'.heap.size) : Sep i1 i2 d1 d2 (listed.setIfInBounds i true) (a.put dst v) w' := by
  refine ⟨fun g => ?_, fun g => ?_, fun g g' => ?_⟩
  · rw [getD_off h1] at g
    obtain ⟨q, hq, hl⟩ := h.l g
    exact ⟨q, by rw [put_off e1]; exact hq, by omega⟩
  · rw [getD_off h2] at g
    obtain ⟨q, hq, hl⟩ := h.r g
    exact ⟨q, by rw [put_off e2]; exact hq, by omega⟩
  · rw [getD_off h1] at g
    rw [getD_off h2] at g'
    rw [put_off e1, put_off e2]
    exact h.n g g'
theorem Sep.this {i1 i2 d1 d2 : Nat} {listed : Array Bool} {a : Act} {w w' : World} (h : Sep i1 i2 d1 d2 listed a w) {v : Value} (hne : i1 ≠ i2) (hd : d1 ≠ d2) (hs : d1 < a.tmps.size) (hv : v = .pointer (some ⟨w.heap.size, 0, none⟩)) (hw : w.heap.size < w'.heap.size) :
    Sep i1 i2 d1 d2 (listed.setIfInBounds i1 true) (a.put (some d1) v) w' := by
  have e2 : (some d1 : Option Tmp) ≠ some d2 := by simpa using hd
  refine ⟨fun _ => ⟨w.heap.size, by rw [put_at hs, hv], hw⟩, fun g => ?_, fun _ g' => ?_⟩
  · rw [getD_off hne] at g
    obtain ⟨q, hq, hl⟩ := h.r g
    exact ⟨q, by rw [put_off e2]; exact hq, by omega⟩
  · rw [getD_off hne] at g'
    obtain ⟨q, hq, hl⟩ := h.r g'
    rw [put_at hs, put_off e2, hq, hv]
    intro x
    simp only [Value.pointer.injEq, Option.some.injEq, Addr.mk.injEq, and_true] at x
    omega
theorem writes_is {i d : Nat} (h : writes ops i d = true) : ∃ o, ops[i]? = some o ∧ o.dst = some d := by
  unfold writes at h
  cases ho : ops[i]? with
  | none => rw [ho] at h; simp at h
  | some o =>
    rw [ho] at h
    exact ⟨o, rfl, by simpa using h⟩
end
end Go.Proofs.YtjfggcefdobooaaGreatDoor
namespace Go.Proofs.YtjfggcefdobooaaGreatDoor
set_option maxRecDepth 100000
open Go Go.RowKit
section
variable {P : Program} {ops : Array Oper} {Q : Exit → Act → World → Prop} {md : Region.Mode} {F : Nat → Fact} {a0 : Act} {w0 : World}
def tailWp (P : Program) (Q : Exit → Act → World → Prop) : List Oper → Act → World → Prop
  | [], a, w => Q .normal a w
  | o :: os, a, w => o.wp P a w (fun a' w' => tailWp P Q os a' w') Q
def textTail (md : Region.Mode) (draw : Bool) (ops : Array Oper) (n k : Nat) : Bool :=
  (ops.all fun o => o.guard.isNone && (match o.dst with | some d => decide (d < n) | none => true))
  && ((List.range ops.size).all fun i => match ops[i]? with
    | some o => o.after.all (fun e => !Region.binds md e || decide (e.on < i)) && (List.range i).all fun j => match ops[j]? with
      | some x => x.dst.isNone || o.dst != x.dst
      | none => true
    | none => true)
  && decide (k ≤ ops.size)
  && (!draw || k == ops.size || (List.range k).all fun j => (List.range (k + 1)).any fun m => decide (j < m) && match ops[m]? with
    | some o => o.after.any (fun e => Region.binds md e && e.on == j)
    | none => false)
  && (!draw || (List.range ops.size).all fun i => decide (i ≤ k) || match ops[i]? with
    | some o => o.after.any (fun e => Region.binds md e && e.on + 1 == i)
    | none => false)
structure TextT (md : Region.Mode) (draw : Bool) (ops : Array Oper) (n k : Nat) : Prop where
  g : ∀ (i : Nat) o, ops[i]? = some o → o.guard = none
  d : ∀ (i : Nat) o d, ops[i]? = some o → o.dst = some d → d < n
  a : ∀ (i : Nat) o, ops[i]? = some o → ∀ e ∈ o.after, Region.binds md e = true → e.on < i
  x : ∀ (i j : Nat) o o' d, ops[i]? = some o → ops[j]? = some o' → i ≠ j → o.dst = some d → o'.dst ≠ some d
  k1 : k ≤ ops.size
  c : draw = true → k < ops.size → ∀ j, j < k → ∃ (m : Nat) (o : Oper), j < m ∧ m ≤ k ∧ ops[m]? = some o ∧ ∃ e ∈ o.after, Region.binds md e = true ∧ e.on = j
  l : draw = true → ∀ i o, k < i → ops[i]? = some o → ∃ e ∈ o.after, Region.binds md e = true ∧ e.on + 1 = i
theorem textT_of {n k : Nat} {draw : Bool} (h : textTail md draw ops n k = true) : TextT md draw ops n k := by
  unfold textTail at h
  simp only [Bool.and_eq_true, decide_eq_true_eq] at h
  obtain ⟨⟨⟨⟨h1, h2⟩, h3⟩, h4⟩, h5⟩ := h
  rw [Array.all_eq_true_iff_forall_mem] at h1
  rw [List.all_eq_true] at h2
  have H : ∀ (i j : Nat) o o' d, j < i → ops[i]? = some o → ops[j]? = some o' → o.dst = some d → o'.dst ≠ some d := by
    intro i j o o' d hij hi hj hd hd'
    have q := h2 i (List.mem_range.2 (Array.getElem?_eq_some_iff.1 hi).1)
    simp only [hi, Bool.and_eq_true] at q
    have r := List.all_eq_true.1 q.2 j (List.mem_range.2 hij)
    simp only [hj, hd, hd'] at r
    simp at r
  refine ⟨?_, ?_, ?_, ?_, h3, ?_, ?_⟩
  · intro i o ho
    have q := h1 o (Array.mem_of_getElem? ho)
    simp only [Bool.and_eq_true] at q
    exact Option.isNone_iff_eq_none.1 q.1
  · intro i o d ho hd
    have q := h1 o (Array.mem_of_getElem? ho)
    simp only [Bool.and_eq_true, hd, decide_eq_true_eq] at q
    exact q.2
  · intro i o ho e he hb
    have q := h2 i (List.mem_range.2 (Array.getElem?_eq_some_iff.1 ho).1)
    simp only [ho, Bool.and_eq_true] at q
    have r := (Array.all_eq_true_iff_forall_mem.1 q.1) e he
    rw [hb] at r
    simpa using r
  · intro i j o o' d hi hj hij hd hd'
    rcases Nat.lt_or_gt_of_ne hij with h | h
    · exact H j i o' o d h hj hi hd' hd
    · exact H i j o o' d h hi hj hd hd'
  · intro hdr hk j hj
    rw [hdr] at h4
    have h4' : ((List.range k).all fun j => (List.range (k + 1)).any fun m => decide (j < m) && match ops[m]? with
      | some o => o.after.any (fun e => Region.binds md e && e.on == j)
      | none => false) = true := by
      simp only [Bool.not_true, Bool.false_or, Bool.or_eq_true] at h4
      rcases h4 with e | e
      · have : k = ops.size := by simpa using e
        omega
      · exact e
    have q := List.all_eq_true.1 h4' j (List.mem_range.2 hj)
    obtain ⟨m, hm, r⟩ := List.any_eq_true.1 q
    simp only [Bool.and_eq_true, decide_eq_true_eq] at r
    cases ho : ops[m]? with
    | none => rw [ho] at r; simp at r
    | some o =>
      rw [ho] at r
      obtain ⟨e, he, hb⟩ := Array.any_eq_true'.1 r.2
      simp only [Bool.and_eq_true, beq_iff_eq] at hb
      exact ⟨m, o, r.1, by have := List.mem_range.1 hm; omega, ho, e, he, hb.1, hb.2⟩
  · intro hdr i o hki ho
    rw [hdr] at h5
    simp only [Bool.not_true, Bool.false_or] at h5
    rw [List.all_eq_true] at h5
    have q := h5 i (List.mem_range.2 (Array.getElem?_eq_some_iff.1 ho).1)
    rw [ho] at q
    simp only [Bool.or_eq_true] at q
    rcases q with e | e
    · have : i ≤ k := by simpa using e
      omega
    · obtain ⟨e, he, hb⟩ := Array.any_eq_true'.1 e
      simp only [Bool.and_eq_true, beq_iff_eq] at hb
      exact ⟨e, he, hb.1, hb.2⟩
theorem Held.nextT {n k : Nat} {draw : Bool} (T : TextT md draw ops n k) (hn : n ≤ a0.tmps.size) {listed : Array Bool} {a : Act} {w : World} (H : Held md ops F a0 w0 listed a w) {i : Nat} {o : Oper} (ho : ops[i]? = some o) (hr : i ∈ Region.ready md ops listed)
    {v : Value} {w' : World} (hw : Below w.heap.size w w') (hf : (F i).p v w') : Held md ops F a0 w0 (listed.setIfInBounds i true) (a.put o.dst v) w' := by
  have hi : i < ops.size := (Array.getElem?_eq_some_iff.1 ho).1
  have hz : a.tmps.size = a0.tmps.size := H.b.2.1
  refine ⟨⟨by rw [put_defers]; exact H.b.1, by rw [put_size]; exact hz, fun d hd => ?_⟩, nxt H.n hw, ?_, ?_, by simp [H.s]⟩
  · rw [put_off]
    · exact H.b.2.2 d hd
    · have q := Array.all_eq_true_iff_forall_mem.1 hd o (Array.mem_of_getElem? ho)
      simpa using q
  · intro j oj d hoj hj hd
    by_cases e : i = j
    · subst e
      obtain rfl := Option.some.inj (ho.symm.trans hoj)
      rw [hd, put_at (Nat.lt_of_lt_of_le (T.d i o d ho hd) (hz ▸ hn))]
      exact hf
    · rw [getD_off e] at hj
      rw [put_off (T.x j i oj o d hoj ho (Ne.symm e) hd)]
      exact (F j).up hw (H.f j oj d hoj hj hd)
  · intro j oj hoj hj e he hb
    obtain ⟨_, o', ho', q⟩ := mem_ready.1 hr
    by_cases c : i = e.on
    · rw [← c]
      exact getD_same (by rw [H.s]; exact hi) _
    · rw [getD_off c]
      by_cases e' : i = j
      · subst e'
        obtain rfl := Option.some.inj (ho'.symm.trans hoj)
        exact q e he hb
      · rw [getD_off e'] at hj
        exact H.c j oj hoj hj e he hb
theorem tail_any {n k : Nat} (T : TextT md true ops n k) : ∀ (m t fuel : Nat) (listed : Array Bool) (a : Act) (w : World), t + m = ops.size → k ≤ t → listed.size = ops.size → (∀ j, j < t → listed.getD j false = true) → (∀ j, t ≤ j → listed.getD j false = false) → m ≤ fuel →
    tailWp P Q (ops.toList.drop t) a w → wpAny P md ops Q fuel listed a w := by
  intro m
  induction m with
  | zero =>
    intro t fuel listed a w ht hk hs h1 h2 hf hq
    obtain rfl : t = ops.size := by omega
    have e : ops.toList.drop ops.size = [] := by simp
    rw [e] at hq
    refine wpAny_done ?_ hq fuel
    cases hr : Region.ready md ops listed with
    | nil => rfl
    | cons i tl =>
      exfalso
      have hi : i ∈ Region.ready md ops listed := by rw [hr]; simp
      obtain ⟨h0, o, ho, _⟩ := mem_ready.1 hi
      have hlt := (Array.getElem?_eq_some_iff.1 ho).1
      rw [dflt (by rw [hs]; exact hlt), h1 i hlt] at h0
      simp at h0
  | succ m ih =>
    intro t fuel listed a w ht hk hs h1 h2 hf hq
    have hlt : t < ops.size := by omega
    obtain ⟨o, ho⟩ : ∃ o, ops[t]? = some o := ⟨ops[t], by simp [hlt]⟩
    have e : ops.toList.drop t = o :: ops.toList.drop (t + 1) := by
      rw [List.drop_eq_getElem_cons (by simpa using hlt)]
      congr 1
      have := (Array.getElem?_eq_some_iff.1 ho).2
      simpa using this
    rw [e] at hq
    obtain ⟨f2, rfl⟩ : ∃ f2, fuel = f2 + 1 := ⟨fuel - 1, by omega⟩
    refine ⟨fun hr => ?_, fun i hi => ?_⟩
    · exfalso
      have hr' : t ∈ Region.ready md ops listed := mem_ready.2 ⟨by rw [dflt (by rw [hs]; exact hlt)]; exact h2 t (Nat.le_refl _), o, ho, fun e he hb => h1 e.on (T.a t o ho e he hb)⟩
      rw [hr] at hr'
      simp at hr'
    · obtain ⟨h0, oi, hoi, hall⟩ := mem_ready.1 hi
      have hil := (Array.getElem?_eq_some_iff.1 hoi).1
      rw [dflt (by rw [hs]; exact hil)] at h0
      have hti : i = t := by
        rcases Nat.lt_trichotomy i t with c | c | c
        · rw [h1 i c] at h0; simp at h0
        · exact c
        · exfalso
          obtain ⟨e, he, hb, hq'⟩ := T.l rfl i oi (by omega) hoi
          have := hall e he hb
          rw [h2 e.on (by omega)] at this
          simp at this
      subst hti
      obtain rfl := Option.some.inj (ho.symm.trans hoi)
      have hwant : Region.wanted o (yielded ops a.tmps) = true := by simp [Region.wanted, T.g i o ho]
      refine wpOp_step ho fun K' hK => ?_
      rw [if_pos hwant]
      refine Oper.wp_mono (fun a' w' h => hK _ _ (ih (i + 1) f2 (listed.setIfInBounds i true) a' w' (by omega) (by omega) (by simp [hs]) (fun j hj => ?_) (fun j hj => ?_) (by omega) h)) hq
      · by_cases c : i = j
        · subst c
          exact getD_same (by rw [hs]; exact hlt) _
        · rw [getD_off c]
          exact h1 j (by omega)
      · rw [getD_off (by omega)]
        exact h2 j (by omega)
def blkOf : Value → Option Nat
  | .pointer (some a) => some a.block
  | .slice (some a) _ _ => some a.block
  | _ => none
def FreshG (P : Program) (md : Region.Mode) (ops : Array Oper) (Q : Exit → Act → World → Prop) (F : Nat → Fact) (a0 : Act) (w0 : World) (i : Nat) : Prop :=
  ∀ o, ops[i]? = some o → ∀ a w, Based ops a0 a → Below w0.heap.size w0 w → (∀ j d, waits md ops i j d = true → (F j).p (a.tmps.getD d undef) w) →
    ∀ K : Act → World → Prop, (∀ v w', Below w.heap.size w w' → (F i).p v w' → (∃ b, blkOf v = some b ∧ w.heap.size ≤ b ∧ b < w'.heap.size) → K (a.put o.dst v) w') → o.wp P a w K Q
theorem FreshOk.g {i : Nat} (h : FreshOk P md ops Q F a0 w0 i) : FreshG P md ops Q F a0 w0 i :=
  fun o ho a w hb hw hf K hK => h o ho a w hb hw hf K (fun v w' hn hv e hz => hK v w' hn hv ⟨w.heap.size, by rw [e]; rfl, Nat.le_refl _, hz⟩)
theorem FreshG.step {i : Nat} (h : FreshG P md ops Q F a0 w0 i) : StepOk P md ops Q F a0 w0 i :=
  fun o ho a w hb hw hf K hK => h o ho a w hb hw hf K (fun v w' hn hv _ => hK v w' hn hv)
structure SepL (fr : List (Nat × Nat)) (listed : Array Bool) (a : Act) (w : World) : Prop where
  l : ∀ p ∈ fr, listed.getD p.1 false = true → ∃ q, blkOf (a.tmps.getD p.2 undef) = some q ∧ q < w.heap.size
  n : ∀ p ∈ fr, ∀ p' ∈ fr, p ≠ p' → listed.getD p.1 false = true → listed.getD p'.1 false = true → blkOf (a.tmps.getD p.2 undef) ≠ blkOf (a.tmps.getD p'.2 undef)
theorem SepL.other {fr : List (Nat × Nat)} {listed : Array Bool} {a : Act} {w w' : World} (h : SepL fr listed a w) {i : Nat} {dst : Option Tmp} {v : Value} (h1 : ∀ p ∈ fr, i ≠ p.1) (e1 : ∀ p ∈ fr, dst ≠ some p.2) (hw : w.heap.size ≤ w'.heap.size) : SepL fr (listed.setIfInBounds i true) (a.put dst v) w' := by
  refine ⟨fun p hp g => ?_, fun p hp p' hp' hne g g' => ?_⟩
  · rw [getD_off (h1 p hp)] at g
    obtain ⟨q, hq, hl⟩ := h.l p hp g
    exact ⟨q, by rw [put_off (e1 p hp)]; exact hq, by omega⟩
  · rw [getD_off (h1 p hp)] at g
    rw [getD_off (h1 p' hp')] at g'
    rw [put_off (e1 p hp), put_off (e1 p' hp')]
    exact h.n p hp p' hp' hne g g'
theorem SepL.this {fr : List (Nat × Nat)} {listed : Array Bool} {a : Act} {w w' : World} (h : SepL fr listed a w) {v : Value} {i d : Nat} (hi : ∀ p ∈ fr, p ≠ (i, d) → i ≠ p.1 ∧ d ≠ p.2) (hs : d < a.tmps.size) (hv : ∃ b, blkOf v = some b ∧ w.heap.size ≤ b ∧ b < w'.heap.size) :
    SepL fr (listed.setIfInBounds i true) (a.put (some d) v) w' := by
  obtain ⟨b, hb, hb1, hb2⟩ := hv
  have old : ∀ p ∈ fr, p ≠ (i, d) → (listed.setIfInBounds i true).getD p.1 false = true → ∃ q, blkOf ((a.put (some d) v).tmps.getD p.2 undef) = some q ∧ q < w.heap.size := by
    intro p hp c g
    obtain ⟨c1, c2⟩ := hi p hp c
    rw [getD_off c1] at g
    obtain ⟨q, hq, hl⟩ := h.l p hp g
    exact ⟨q, by rw [put_off (by simpa using c2)]; exact hq, hl⟩
  have new : blkOf ((a.put (some d) v).tmps.getD d undef) = some b := by rw [put_at hs, hb]
  have ne : ∀ q, q < w.heap.size → (some q : Option Nat) ≠ some b := by
    intro q hq x
    simp only [Option.some.injEq] at x
    omega
  refine ⟨fun p hp g => ?_, fun p hp p' hp' hne g g' => ?_⟩
  · by_cases c : p = (i, d)
    · subst c
      exact ⟨b, new, hb2⟩
    · obtain ⟨q, hq, hl⟩ := old p hp c g
      exact ⟨q, hq, by omega⟩
  · by_cases c : p = (i, d)
    · subst c
      obtain ⟨q, hq, hl⟩ := old p' hp' (Ne.symm hne) g'
      show blkOf ((a.put (some d) v).tmps.getD d undef) ≠ _
      rw [new, hq]
      exact (ne q hl).symm
    · obtain ⟨q, hq, hl⟩ := old p hp c g
      by_cases c' : p' = (i, d)
      · subst c'
        show _ ≠ blkOf ((a.put (some d) v).tmps.getD d undef)
        rw [new, hq]
        exact ne q hl
      · obtain ⟨c1, c2⟩ := hi p hp c
        obtain ⟨c1', c2'⟩ := hi p' hp' c'
        rw [getD_off c1] at g
        rw [getD_off c1'] at g'
        rw [put_off (by simpa using c2), put_off (by simpa using c2')]
        exact h.n p hp p' hp' hne g g'
abbrev HeadDone (P : Program) (ops : Array Oper) (Q : Exit → Act → World → Prop) (F : Nat → Fact) (a0 : Act) (w0 : World) (k : Nat) (fr : List (Nat × Nat)) : Prop :=
  ∀ a w, Based ops a0 a → Below w0.heap.size w0 w → (∀ i o d, i < k → ops[i]? = some o → o.dst = some d → (F i).p (a.tmps.getD d undef) w) → (∀ p ∈ fr, ∀ p' ∈ fr, p ≠ p' → blkOf (a.tmps.getD p.2 undef) ≠ blkOf (a.tmps.getD p'.2 undef)) → tailWp P Q (ops.toList.drop k) a w
theorem any_tail {n k : Nat} (T : TextT md true ops n k) (hn : n ≤ a0.tmps.size) (steps : ∀ i, i < k → StepOk P md ops Q F a0 w0 i) (fr : List (Nat × Nat)) (hfr : ∀ p ∈ fr, p.1 < k ∧ writes ops p.1 p.2 = true ∧ FreshG P md ops Q F a0 w0 p.1) (hnd : ∀ p ∈ fr, ∀ p' ∈ fr, p ≠ p' → p.1 ≠ p'.1)
    (fin : HeadDone P ops Q F a0 w0 k fr) :
    ∀ (fuel : Nat) (listed : Array Bool) (a : Act) (w : World), left listed ops.size ≤ fuel → Held md ops F a0 w0 listed a w → SepL fr listed a w → (∀ j, k ≤ j → listed.getD j false = false) → ops.size - k ≤ fuel → wpAny P md ops Q fuel listed a w := by
  intro fuel
  induction fuel with
  | zero =>
    intro listed a w hl H S hk hf
    have hks : k = ops.size := by have := T.k1; omega
    have hall : ∀ i, i < ops.size → listed.getD i false = true := fun i hi => by
      rw [← dflt (by rw [H.s]; exact hi)]
      exact left_zero (n := ops.size) (by omega) i hi
    exact tail_any T 0 ops.size 0 listed a w (by omega) (by omega) H.s (fun j hj => hall j hj) (fun j hj => hk j (by omega)) (Nat.le_refl _) (hks ▸ fin a w H.b H.n (fun i o d hi ho hd => H.f i o d ho (hall i (by omega)) hd) (fun p hp p' hp' hne => S.n p hp p' hp' hne (hall p.1 (by have := (hfr p hp).1; omega)) (hall p'.1 (by have := (hfr p' hp').1; omega))))
  | succ fuel ih =>
    intro listed a w hl H S hk hf
    by_cases hall : ∀ j, j < k → listed.getD j false = true
    · exact tail_any T (ops.size - k) k (fuel + 1) listed a w (by have := T.k1; omega) (Nat.le_refl _) H.s hall hk hf (fin a w H.b H.n (fun i o d hi ho hd => H.f i o d ho (hall i hi) hd) (fun p hp p' hp' hne => S.n p hp p' hp' hne (hall p.1 (hfr p hp).1) (hall p'.1 (hfr p' hp').1)))
    · refine ⟨fun hr => ?_, fun i hi => ?_⟩
      · exfalso
        refine hall fun j hj => ?_
        have : ∀ m i, i < m → i < k → listed.getD i false = true := by
          intro m
          induction m with
          | zero => intro i hi; omega
          | succ m ihm =>
            intro i hi hik
            rcases Nat.lt_or_ge i m with h1 | h1
            · exact ihm i h1 hik
            · obtain rfl : i = m := by omega
              cases hc : listed.getD i false
              · exfalso
                have hks : i < ops.size := by have := T.k1; omega
                obtain ⟨o, ho⟩ : ∃ o, ops[i]? = some o := ⟨ops[i], by simp [hks]⟩
                have hr' : i ∈ Region.ready md ops listed := mem_ready.2 ⟨by rw [dflt (by rw [H.s]; omega)]; exact hc, o, ho, fun e he hb => ihm e.on (T.a i o ho e he hb) (by have := T.a i o ho e he hb; omega)⟩
                rw [hr] at hr'
                simp at hr'
              · rfl
        exact this (j + 1) j (by omega) hj
      · obtain ⟨h0, o, ho, hready⟩ := mem_ready.1 hi
        have hlt := (Array.getElem?_eq_some_iff.1 ho).1
        have hik : i < k := by
          rcases Nat.lt_or_ge i k with h1 | h1
          · exact h1
          · exfalso
            rcases Nat.lt_or_ge k i with h2 | h2
            · obtain ⟨e, he, hb, hq⟩ := T.l rfl i o h2 ho
              have := hready e he hb
              rw [hk e.on (by omega)] at this
              simp at this
            · obtain rfl : i = k := by omega
              refine hall fun j hj => ?_
              have ah : ∀ m j, i - j ≤ m → j < i → listed.getD j false = true := by
                intro m
                induction m with
                | zero => intro j hm hj; omega
                | succ m ihm =>
                  intro j hm hj
                  obtain ⟨p, oo, hjp, hpk, hoo, e, he, hb, rfl⟩ := T.c rfl hlt j hj
                  rcases Nat.lt_or_ge p i with h1 | h1
                  · exact H.c p oo hoo (ihm p (by omega) h1) e he hb
                  · obtain rfl : p = i := by omega
                    obtain rfl := Option.some.inj (ho.symm.trans hoo)
                    exact hready e he hb
              exact ah (i - j) j (Nat.le_refl _) hj
        have hwant : Region.wanted o (yielded ops a.tmps) = true := by simp [Region.wanted, T.g i o ho]
        refine wpOp_step ho fun K' hK => ?_
        rw [if_pos hwant]
        have hll := left_set (by rw [H.s]; exact hlt) h0 ops.size hlt
        have hfacts : ∀ j d, waits md ops i j d = true → (F j).p (a.tmps.getD d undef) w := by
          intro j d hjd
          unfold waits at hjd
          rw [ho] at hjd
          cases hoj : ops[j]? with
          | none => rw [hoj] at hjd; simp at hjd
          | some oj =>
            rw [hoj] at hjd
            simp only [Bool.and_eq_true, beq_iff_eq] at hjd
            obtain ⟨e, he, hb⟩ := Array.any_eq_true'.1 hjd.1
            simp only [Bool.and_eq_true, beq_iff_eq] at hb
            exact H.f j oj d hoj (by rw [← hb.2]; exact hready e he hb.1) hjd.2
        have htail : ops.size - k ≤ fuel := by
          -- k and all behind it are still to come, and i besides
          have lk : ∀ m, m ≤ ops.size → k ≤ m → (m - k) + left listed k ≤ left listed m := by
            intro m
            induction m with
            | zero => intro _ hk0; have : k = 0 := by omega
                      subst this; simp
            | succ m ihm =>
              intro hm hkm
              rcases Nat.lt_or_ge m k with c | c
              · have : k = m + 1 := by omega
                subst this
                omega
              · have q := ihm (by omega) c
                rw [left, if_pos (by rw [dflt (by rw [H.s]; omega)]; exact hk m c)]
                omega
          have l1 : 1 ≤ left listed k := by
            have := left_set (by rw [H.s]; exact hlt) h0 k hik
            omega
          have := lk ops.size (Nat.le_refl _) T.k1
          omega
        have go : ∀ v w', Below w.heap.size w w' → (F i).p v w' → SepL fr (listed.setIfInBounds i true) (a.put o.dst v) w' → K' (a.put o.dst v) w' := by
          intro v w' hw hf' hS
          refine hK _ _ (ih _ _ _ (by omega) (H.nextT T hn ho hi hw hf') hS (fun j hj => ?_) htail)
          rw [getD_off (by omega)]
          exact hk j hj
        by_cases c : ∃ p ∈ fr, i = p.1
        · obtain ⟨p, hp, rfl⟩ := c
          obtain ⟨_, hw', f⟩ := hfr p hp
          obtain ⟨op, hop, hdp⟩ := writes_is hw'
          obtain rfl := Option.some.inj (hop.symm.trans ho)
          refine f op ho a w H.b H.n hfacts K' fun v w' hw hf' hv => go v w' hw hf' ?_
          rw [hdp]
          refine S.this (i := p.1) (d := p.2) (fun p' hp' hne => ?_) (by rw [H.b.2.1]; exact Nat.lt_of_lt_of_le (T.d p.1 op p.2 hop hdp) hn) hv
          have n1 := hnd p hp p' hp' (Ne.symm hne)
          obtain ⟨o', ho', hd'⟩ := writes_is (hfr p' hp').2.1
          exact ⟨n1, fun e => T.x p.1 p'.1 op o' p.2 hop ho' n1 hdp (by rw [e]; exact hd')⟩
        · refine steps i hik o ho a w H.b H.n hfacts K' fun v w' hw hf' => go v w' hw hf' ?_
          refine S.other (fun p hp e => c ⟨p, hp, e⟩) (fun p hp e => ?_) hw.size
          obtain ⟨o', ho', hd'⟩ := writes_is (hfr p hp).2.1
          exact T.x i p.1 o o' p.2 ho ho' (fun x => c ⟨p, hp, x⟩) e hd'
theorem tail_line {n k : Nat} {draw : Bool} (T : TextT md draw ops n k) : ∀ (m t : Nat) (a : Act) (w : World), t + m = ops.size → k ≤ t → tailWp P Q (ops.toList.drop t) a w → wpOps P ops Q (List.range' t m) a w := by
  intro m
  induction m with
  | zero =>
    intro t a w ht hk hq
    obtain rfl : t = ops.size := by omega
    have e : ops.toList.drop ops.size = [] := by simp
    rw [e] at hq
    exact hq
  | succ m ih =>
    intro t a w ht hk hq
    have hlt : t < ops.size := by omega
    obtain ⟨o, ho⟩ : ∃ o, ops[t]? = some o := ⟨ops[t], by simp [hlt]⟩
    have e : ops.toList.drop t = o :: ops.toList.drop (t + 1) := by
      rw [List.drop_eq_getElem_cons (by simpa using hlt)]
      congr 1
      have := (Array.getElem?_eq_some_iff.1 ho).2
      simpa using this
    rw [e] at hq
    have hwant : Region.wanted o (yielded ops a.tmps) = true := by simp [Region.wanted, T.g t o ho]
    rw [List.range'_succ, wpOps_cons]
    refine wpOp_step ho fun K' hK => ?_
    rw [if_pos hwant]
    exact Oper.wp_mono (fun a' w' h => hK _ _ (ih (t + 1) a' w' (by omega) (by omega) h)) hq
theorem line_tail {n k : Nat} {draw : Bool} (T : TextT md draw ops n k) (hn : n ≤ a0.tmps.size) (steps : ∀ i, i < k → StepOk P md ops Q F a0 w0 i) (fr : List (Nat × Nat)) (hfr : ∀ p ∈ fr, p.1 < k ∧ writes ops p.1 p.2 = true ∧ FreshG P md ops Q F a0 w0 p.1) (hnd : ∀ p ∈ fr, ∀ p' ∈ fr, p ≠ p' → p.1 ≠ p'.1)
    (fin : HeadDone P ops Q F a0 w0 k fr) :
    ∀ (m i : Nat) (listed : Array Bool) (a : Act) (w : World), i + m = ops.size → i ≤ k → Based ops a0 a → Below w0.heap.size w0 w → (∀ j o d, j < i → ops[j]? = some o → o.dst = some d → (F j).p (a.tmps.getD d undef) w) → listed.size = ops.size → (∀ j, j < i → listed.getD j false = true) → SepL fr listed a w →
      wpOps P ops Q (List.range' i m) a w := by
  intro m
  induction m with
  | zero =>
    intro i listed a w him hik hb hw hf hs hl S
    obtain rfl : i = k := by have := T.k1; omega
    exact tail_line T 0 i a w (by omega) (Nat.le_refl _) (fin a w hb hw hf (fun p hp p' hp' hne => S.n p hp p' hp' hne (hl p.1 (hfr p hp).1) (hl p'.1 (hfr p' hp').1)))
  | succ m ih =>
    intro i listed a w him hik hb hw hf hs hl S
    have hlt : i < ops.size := by omega
    obtain ⟨o, ho⟩ : ∃ o, ops[i]? = some o := ⟨ops[i], by simp [hlt]⟩
    rcases Nat.lt_or_ge i k with h1 | h1
    · have hwant : Region.wanted o (yielded ops a.tmps) = true := by simp [Region.wanted, T.g i o ho]
      rw [List.range'_succ, wpOps_cons]
      refine wpOp_step ho fun K' hK => ?_
      rw [if_pos hwant]
      have hfacts : ∀ j d, waits md ops i j d = true → (F j).p (a.tmps.getD d undef) w := by
        intro j d hjd
        unfold waits at hjd
        rw [ho] at hjd
        cases hoj : ops[j]? with
        | none => rw [hoj] at hjd; simp at hjd
        | some oj =>
          rw [hoj] at hjd
          simp only [Bool.and_eq_true, beq_iff_eq] at hjd
          obtain ⟨e, he, hb⟩ := Array.any_eq_true'.1 hjd.1
          simp only [Bool.and_eq_true, beq_iff_eq] at hb
          exact hf j oj d (by rw [← hb.2]; exact T.a i o ho e he hb.1) hoj hjd.2
      have go : ∀ v w', Below w.heap.size w w' → (F i).p v w' → SepL fr (listed.setIfInBounds i true) (a.put o.dst v) w' → K' (a.put o.dst v) w' := by
        intro v w' hw' hfv hS
        refine hK _ _ (ih (i + 1) (listed.setIfInBounds i true) _ _ (by omega) (by omega) ⟨by rw [put_defers]; exact hb.1, by rw [put_size]; exact hb.2.1, fun d hd => ?_⟩ (nxt hw hw') ?_ (by simp [hs]) (fun j hj => ?_) hS)
        · rw [put_off]
          · exact hb.2.2 d hd
          · have q := Array.all_eq_true_iff_forall_mem.1 hd o (Array.mem_of_getElem? ho)
            simpa using q
        · intro j oj d hj hoj hd
          by_cases e : i = j
          · subst e
            obtain rfl := Option.some.inj (ho.symm.trans hoj)
            rw [hd, put_at (Nat.lt_of_lt_of_le (T.d i o d ho hd) (hb.2.1 ▸ hn))]
            exact hfv
          · rw [put_off (T.x j i oj o d hoj ho (Ne.symm e) hd)]
            exact (F j).up hw' (hf j oj d (by omega) hoj hd)
        · by_cases c : i = j
          · subst c
            exact getD_same (by rw [hs]; exact hlt) _
          · rw [getD_off c]
            exact hl j (by omega)
      by_cases c : ∃ p ∈ fr, i = p.1
      · obtain ⟨p, hp, rfl⟩ := c
        obtain ⟨_, hw', f⟩ := hfr p hp
        obtain ⟨op, hop, hdp⟩ := writes_is hw'
        obtain rfl := Option.some.inj (hop.symm.trans ho)
        refine f op ho a w hb hw hfacts K' fun v w' hw' hf' hv => go v w' hw' hf' ?_
        rw [hdp]
        refine S.this (i := p.1) (d := p.2) (fun p' hp' hne => ?_) (by rw [hb.2.1]; exact Nat.lt_of_lt_of_le (T.d p.1 op p.2 hop hdp) hn) hv
        have n1 := hnd p hp p' hp' (Ne.symm hne)
        obtain ⟨o', ho', hd'⟩ := writes_is (hfr p' hp').2.1
        exact ⟨n1, fun e => T.x p.1 p'.1 op o' p.2 hop ho' n1 hdp (by rw [e]; exact hd')⟩
      · refine steps i h1 o ho a w hb hw hfacts K' fun v w' hw' hf' => go v w' hw' hf' ?_
        refine S.other (fun p hp e => c ⟨p, hp, e⟩) (fun p hp e => ?_) hw'.size
        obtain ⟨o', ho', hd'⟩ := writes_is (hfr p hp).2.1
        exact T.x i p.1 o o' p.2 ho ho' (fun x => c ⟨p, hp, x⟩) e hd'
    · obtain rfl : i = k := by omega
      exact tail_line T (m + 1) i a w him (Nat.le_refl _) (fin a w hb hw hf (fun p hp p' hp' hne => S.n p hp p' hp' hne (hl p.1 (hfr p hp).1) (hl p'.1 (hfr p' hp').1)))
theorem region_tail {id : Nat} {w : World} {draw : Bool} (k : Nat) (F : Nat → Fact) (hm : P.follows .mixedOrders = true) (hT : textTail .any draw ops a0.tmps.size k = true) (steps : ∀ i, i < k → StepOk P .any ops Q F a0 w i)
    (fr : List (Nat × Nat)) (hfr : ∀ p ∈ fr, p.1 < k ∧ writes ops p.1 p.2 = true ∧ FreshG P .any ops Q F a0 w p.1) (hnd : ∀ p ∈ fr, ∀ p' ∈ fr, p ≠ p' → p.1 ≠ p'.1)
    (fin : ∀ a w', Based ops a0 a → Below w.heap.size w w' → (∀ i d, decide (i < k) = true → writes ops i d = true → (F i).p (a.tmps.getD d undef) w') → (∀ p ∈ fr, ∀ p' ∈ fr, p ≠ p' → blkOf (a.tmps.getD p.2 undef) ≠ blkOf (a.tmps.getD p'.2 undef)) → tailWp P Q (ops.toList.drop k) a w') : (Code.region id ops draw).wp P Q a0 w := by
  have T := textT_of hT
  have fin' : HeadDone P ops Q F a0 w k fr := fun a w' hb hw hf hne => fin a w' hb hw (fun i d hi hd => by
    obtain ⟨o, ho, hd'⟩ := writes_is hd
    exact hf i o d (of_decide_eq_true hi) ho hd') hne
  have z : ∀ j, (Array.replicate ops.size false).getD j false = false := fun j => by
    rw [Array.getD_eq_getD_getElem?, Array.getElem?_replicate]
    split <;> rfl
  have S0 : ∀ w', SepL fr (Array.replicate ops.size false) a0 w' := fun w' => ⟨fun p hp g => by rw [z] at g; simp at g, fun p hp p' hp' hne g g' => by rw [z] at g; simp at g⟩
  cases draw with
  | false =>
    refine wp_region ?_
    have h := line_tail (w0 := w) T (Nat.le_refl _) steps fr hfr hnd fin' ops.size 0 (Array.replicate ops.size false) a0 w (by omega) (by omega) ⟨rfl, rfl, fun _ _ => rfl⟩ (Below.refl _ _) (fun j o d hj => by omega) (by simp) (fun j hj => by omega) (S0 w)
    rw [List.range_eq_range']
    exact h
  | true =>
    refine wp_region_any hm ?_
    refine any_tail (w0 := w) T (Nat.le_refl _) steps fr hfr hnd fin' ops.size _ a0 _ ?_ ⟨⟨rfl, rfl, fun _ _ => rfl⟩, (Below.refl _ _).drew, ?_, ?_, by simp⟩ (S0 _) (fun j _ => z j) (by omega)
    · have : ∀ m, left (Array.replicate ops.size false) m ≤ m := by
        intro m
        induction m with
        | zero => exact Nat.le_refl _
        | succ m ih => unfold left; split <;> omega
      exact this _
    · intro i o d ho hl _
      rw [z] at hl
      simp at hl
    · intro i o ho hl
      rw [z] at hl
      simp at hl
theorem puts_tail {n k : Nat} {draw : Bool} (hT : textTail md draw ops n k = true) (hn : n = a0.tmps.size) {a : Act} (hb : Based ops a0 a) (vs : Nat → Value) (hv : ∀ d, a.tmps.getD d undef = vs d) : a = puts vs a0 ops.toList := by
  have T := textT_of hT
  have hin : ∀ o ∈ ops.toList, ∀ e, o.dst = some e → e < a0.tmps.size := fun o ho e he => by
    obtain ⟨i, hi⟩ := List.getElem?_of_mem ho
    have := T.d i o e (by simpa using hi) he
    rw [hn] at this
    exact this
  obtain ⟨s1, s2⟩ := puts_size vs ops.toList a0
  obtain ⟨ta, da⟩ := a
  obtain ⟨h1, h2, h3⟩ := hb
  have e1 : ta = (puts vs a0 ops.toList).tmps := by
    apply Array.ext
    · rw [s1]; exact h2
    · intro i hi hi'
      have g := puts_get vs i ops.toList a0 hin
      have l : ta[i] = ta.getD i undef := by simp [Array.getD_eq_getD_getElem?, hi]
      have r : (puts vs a0 ops.toList).tmps[i] = (puts vs a0 ops.toList).tmps.getD i undef := by simp only [Array.getD_eq_getD_getElem?, Array.getElem?_eq_getElem hi', Option.getD_some]
      rw [l, r, g]
      by_cases c : ops.toList.any (fun o => o.dst == some i) = true
      · rw [if_pos c]; exact hv i
      · rw [if_neg c]
        refine h3 i ?_
        unfold apart
        rw [Array.all_eq_true_iff_forall_mem]
        intro o ho
        have hne : ¬ (o.dst == some i) = true := fun x => c (List.any_eq_true.2 ⟨o, by simpa using ho, x⟩)
        simpa using hne
  have e2 : da = (puts vs a0 ops.toList).defers := h1.trans s2.symm
  subst e1
  subst e2
  rfl
theorem Based.put {a : Act} (hb : Based ops a0 a) {o : Oper} {i : Nat} (ho : ops[i]? = some o) (v : Value) : Based ops a0 (a.put o.dst v) := by
  refine ⟨by rw [put_defers]; exact hb.1, by rw [put_size]; exact hb.2.1, fun d hd => ?_⟩
  rw [put_off]
  · exact hb.2.2 d hd
  · have q := Array.all_eq_true_iff_forall_mem.1 hd o (Array.mem_of_getElem? ho)
    simpa using q
end
end Go.Proofs.YtjfggcefdobooaaGreatDoor
namespace Go.Proofs.YtjfggcefdobooaaGreatDoor
set_option maxRecDepth 100000
open Go Go.RowKit
def NBt (b : Nat) (t : TypeId) (zs : List Value) : Fact := ⟨fun v w => ∃ q, v = .pointer (some ⟨q, 0, none⟩) ∧ b ≤ q ∧ RwC w q zs t, fun n h => by
  obtain ⟨q, e, l, r⟩ := h
  exact ⟨q, e, l, r.up n⟩⟩
theorem RowB.onlyT {w w' : World} {base q : Nat} {v : Value} {xs : List Int} {zs : List Value} {t : TypeId} (h : RowB w base v xs) (O : Only q w w') (hq : RwC w q zs t) (ht : t ≠ 5) : RowB w' base v xs := by
  refine ⟨h.1, ?_⟩
  rcases h.2 with h' | ⟨g, cap, cur, rfl, hbg, hg, hnc, hcm, hcs, hT⟩
  · exact .inl h'
  · refine .inr ⟨g, cap, cur, rfl, hbg, ?_, hnc, hcm, hcs, hT⟩
    rw [O.block g ?_]
    · exact hg
    · rintro rfl
      unfold RwC at hq
      rw [hg] at hq
      simp only [Option.some.injEq, Obj.cells.injEq] at hq
      exact ht hq.2.1.symm
def putAt : List Value → Nat → List Value → List Value
  | zs, _, [] => zs
  | zs, o, v :: vs => putAt (zs.set o v) (o + 1) vs
theorem putAt_get : ∀ (vs zs : List Value) (o i : Nat), o + vs.length ≤ zs.length → (putAt zs o vs)[i]? = if o ≤ i ∧ i < o + vs.length then vs[i - o]? else zs[i]?
  | [], zs, o, i, _ => by
    rw [if_neg (by simp only [List.length_nil]; omega)]
    rfl
  | v :: vs, zs, o, i, h => by
    simp only [List.length_cons] at h ⊢
    rw [putAt, putAt_get vs (zs.set o v) (o + 1) i (by rw [List.length_set]; omega)]
    by_cases e : o = i
    · subst e
      rw [if_neg (by omega), if_pos (by omega), List.getElem?_set_self (by omega), Nat.sub_self]
      rfl
    · by_cases h2 : o + 1 ≤ i ∧ i < o + 1 + vs.length
      · rw [if_pos h2, if_pos (by omega), show i - o = (i - (o + 1)) + 1 by omega]
        rfl
      · rw [if_neg h2, if_neg (by omega), List.getElem?_set_ne e]
theorem putAt_all {zs cs : List Value} (h : cs.length = zs.length) : putAt zs 0 cs = cs := by
  apply List.ext_getElem?
  intro i
  rw [putAt_get cs zs 0 i (by omega)]
  by_cases hi : i < cs.length
  · rw [if_pos (by omega)]
    rfl
  · rw [if_neg (by omega), List.getElem?_eq_none (by omega), List.getElem?_eq_none (by omega)]
theorem RwC.puts {t : TypeId} {q : Nat} : ∀ (vs zs : List Value) (w : World) (o : Nat), RwC w q zs t → RwC (w.setCells q o vs) q (putAt zs o vs) t
  | [], _, _, _, h => h
  | v :: vs, zs, w, o, h => RwC.puts vs (zs.set o v) (w.setCell ⟨q, o, none⟩ v) (o + 1) (h.set o v)
theorem RwC.put {w : World} {q : Nat} {zs cs : List Value} {t : TypeId} (h : RwC w q zs t) (hl : cs.length = zs.length) : RwC (w.setCells q 0 cs) q cs t := by
  have := RwC.puts cs zs w 0 h
  rwa [putAt_all hl] at this
section
variable {P : Program} {ops : Array Oper} {Q : Exit → Act → World → Prop}
theorem region_newT {a0 : Act} {id : Nat} {draw : Bool} {w : World} (k jA jV pA pV : Nat) (o : Oper) (F : Nat → Fact) (t : TypeId) (zs : List Value) (G : Fact) (hm : P.follows .mixedOrders = true) (hT : textOk .any ops a0.tmps.size k = true) (hk : ops[k]? = some o) (hd : o.dst = none)
    (hop : o.op = .store t (.tmp pA) (.tmp pV)) (hi : (P.info? t).map (·.size) = some zs.length) (wA : writes ops jA pA = true) (FA : F jA = NBt w.heap.size t zs) (wV : writes ops jV pV = true) (FV : F jV = G)
    (hG : ∀ v W, G.p v W → ∃ cs : List Value, v = .agg cs.toArray ∧ cs.length = zs.length ∧ cs.toArray.all (·.oneCell') = true) (steps : ∀ i, i < k → StepOk P .any ops Q F a0 w i)
    (fin : ∀ (vs : Nat → Value) (W W' : World) (q : Nat) (cs : List Value), vs pA = .pointer (some ⟨q, 0, none⟩) → w.heap.size ≤ q → Below w.heap.size w W → RwC W q zs t → G.p (.agg cs.toArray) W → Only q W W' → RwC W' q cs t → Below w.heap.size w W' → Q .normal (puts vs a0 ops.toList) W') : (Code.region id ops draw).wp P Q a0 w := by
  refine region_store k o F hm hT hk hd steps fun a W hb hw hF => ?_
  have e1 := hF jA pA wA
  have e2 := hF jV pV wV
  rw [FA] at e1
  rw [FV] at e2
  obtain ⟨q, e1, hB, hq⟩ := e1
  obtain ⟨cs, ev, hl, h1⟩ := hG _ _ e2
  have TH : W.there q 0 cs.length := by rw [hl]; exact hq.thereG
  refine wp_store_mid _ (.tmp pA) (.tmp pV) hop q 0 cs.toArray e1 ev (by simpa using TH) (by rw [hi]; simp [hl]) h1 ?_
  obtain ⟨vs, hvs⟩ : ∃ vs : Nat → Value, ∀ d, a.tmps.getD d undef = vs d := ⟨_, fun _ => rfl⟩
  rw [hd]
  show Q .normal a _
  rw [puts_of hT rfl hb vs hvs]
  have OQ := only_setG W q cs 0
  have e2' : G.p (.agg cs.toArray) W := by rw [← ev]; exact e2
  exact fin vs W _ q cs ((hvs pA).symm.trans e1) hB hw hq e2' OQ (RwC.put hq hl) (hw.trans (OQ.below hB))
theorem region_putT {a0 : Act} {id : Nat} {draw : Bool} {w : World} (k jV pA pV : Nat) (o : Oper) (F : Nat → Fact) (t : TypeId) (zs : List Value) (q : Nat) (G : Fact) (hm : P.follows .mixedOrders = true) (hT : textOk .any ops a0.tmps.size k = true) (hk : ops[k]? = some o) (hd : o.dst = none)
    (hop : o.op = .store t (.tmp pA) (.tmp pV)) (hi : (P.info? t).map (·.size) = some zs.length) (hA : ∀ a, Based ops a0 a → a.tmps.getD pA undef = .pointer (some ⟨q, 0, none⟩)) (hq : RwC w q zs t) (wV : writes ops jV pV = true) (FV : F jV = G)
    (hG : ∀ v W, G.p v W → ∃ cs : List Value, v = .agg cs.toArray ∧ cs.length = zs.length ∧ cs.toArray.all (·.oneCell') = true) (steps : ∀ i, i < k → StepOk P .any ops Q F a0 w i)
    (fin : ∀ (vs : Nat → Value) (W W' : World) (cs : List Value), Below w.heap.size w W → RwC W q zs t → G.p (.agg cs.toArray) W → Only q W W' → RwC W' q cs t → Q .normal (puts vs a0 ops.toList) W') : (Code.region id ops draw).wp P Q a0 w := by
  refine region_store k o F hm hT hk hd steps fun a W hb hw hF => ?_
  have e1 := hA a hb
  have e2 := hF jV pV wV
  rw [FV] at e2
  obtain ⟨cs, ev, hl, h1⟩ := hG _ _ e2
  have hq' := hq.up hw
  have TH : W.there q 0 cs.length := by rw [hl]; exact hq'.thereG
  refine wp_store_mid _ (.tmp pA) (.tmp pV) hop q 0 cs.toArray e1 ev (by simpa using TH) (by rw [hi]; simp [hl]) h1 ?_
  obtain ⟨vs, hvs⟩ : ∃ vs : Nat → Value, ∀ d, a.tmps.getD d undef = vs d := ⟨_, fun _ => rfl⟩
  rw [hd]
  show Q .normal a _
  rw [puts_of hT rfl hb vs hvs]
  have OQ := only_setG W q cs 0
  have e2' : G.p (.agg cs.toArray) W := by rw [← ev]; exact e2
  exact fin vs W _ cs hw hq' e2' OQ (RwC.put hq' hl)
end
end Go.Proofs.YtjfggcefdobooaaGreatDoor
