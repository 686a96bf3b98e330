import Derived.Test.YtccnhdicibjbaaaGreatGB51
import Derived.Test.YtccnhdicibjbaaaGreatGB47
import Derived.Test.YtccnhdicibjbaaaGreatGB46
import Derived.Test.YtccnhdicibjbaaaGreatGB48
namespace Go.Proofs.YtccnhdicibjbaaaGreat
open Go Go.RowKit
end Go.Proofs.YtccnhdicibjbaaaGreat
namespace Go.Proofs.YtccnhdicibjbaaaGreat
open Go
end Go.Proofs.YtccnhdicibjbaaaGreat
namespace Go.Proofs.YtccnhdicibjbaaaGreat
open Go Go.RowKit
end Go.Proofs.YtccnhdicibjbaaaGreat
namespace Go.Proofs.YtccnhdicibjbaaaGreat
open Go Go.RowKit
end Go.Proofs.YtccnhdicibjbaaaGreat
namespace Go.Proofs.YtccnhdicibjbaaaGreat
open Go Go.RowKit
theorem tx_add (w : World) (a b : List UInt8) (h : a.length + b.length ≤ 9223372036854775807) : (Op.stringOp .add (ByteArray.mk ⟨a⟩) (ByteArray.mk ⟨b⟩)).run Tryz.prog w = .ok (.string ⟨⟨a ++ b⟩⟩) w := by
  rw [run_string_add_sum w _ _ (by rw [tx_size, tx_size]; exact h)]
  have := ByteArray.mk_append_mk a b
  exact congrArg (fun s => Result.ok (Value.string s) w) this
end Go.Proofs.YtccnhdicibjbaaaGreat
namespace Go.Proofs.YtccnhdicibjbaaaGreat
open Go Go.RowKit
end Go.Proofs.YtccnhdicibjbaaaGreat
namespace Go.Proofs.YtccnhdicibjbaaaGreat
open Go Go.RowKit
def RdT (w : World) (g : Nat) (a : Option Addr) (ls : List (List UInt8)) : Prop :=
  0 < ls.length → ∃ off, a = some ⟨g, off, none⟩ ∧ ∀ i, i < ls.length → w.cell? ⟨g, off + i, none⟩ = some (tx (ls.getD i []))
theorem RdT.nil (w : World) (g : Nat) (a : Option Addr) : RdT w g a [] := fun h => absurd h (by simp)
theorem RdT.lt {w : World} {g : Nat} {a : Option Addr} {ls : List (List UInt8)} (h : RdT w g a ls) (h0 : 0 < ls.length) : g < w.heap.size := by
  obtain ⟨off, ha, hc⟩ := h h0
  exact block_lt_of_cell (hc 0 h0)
theorem RdT.of_block {w w' : World} {g : Nat} {a : Option Addr} {ls : List (List UInt8)} (h : RdT w g a ls) (hb : w'.heap[g]? = w.heap[g]?) : RdT w' g a ls := by
  intro h0
  obtain ⟨off, ha, hc⟩ := h h0
  exact ⟨off, ha, fun i hi => (World.cell?_of_block (a := ⟨g, off + i, none⟩) hb).trans (hc i hi)⟩
theorem RdT.up {w w' : World} {g : Nat} {a : Option Addr} {ls : List (List UInt8)} (h : RdT w g a ls) (hb : Below w.heap.size w w') : RdT w' g a ls := by
  by_cases h0 : 0 < ls.length
  · exact h.of_block (hb.block g (h.lt h0))
  · exact fun h1 => absurd h1 h0
def BlkT (w : World) (g : Nat) (ls : List (List UInt8)) : Prop := w.heap[g]? = some (.cells (ls.map tx).toArray 9 (0, 0))
theorem BlkT.lt {w : World} {g : Nat} {ls : List (List UInt8)} (h : BlkT w g ls) : g < w.heap.size := (Array.getElem?_eq_some_iff.1 h).1
theorem BlkT.cell {w : World} {g : Nat} {ls : List (List UInt8)} (h : BlkT w g ls) {i : Nat} (hi : i < ls.length) : w.cell? ⟨g, i, none⟩ = some (tx (ls.getD i [])) := by
  rw [cell_of_row w g i _ 9 (0, 0) h]
  simp [hi]
theorem BlkT.free {w : World} {g : Nat} {ls : List (List UInt8)} (h : BlkT w g ls) (i : Nat) : w.frozen? ⟨g, i, none⟩ = false := frozen_of_row w g i _ 9 h
theorem BlkT.store {w : World} {g : Nat} {ls : List (List UInt8)} (h : BlkT w g ls) (i : Nat) (z : List UInt8) : BlkT (w.setCell ⟨g, i, none⟩ (tx z)) g (ls.set i z) := by
  show _ = _
  rw [heap_setCell_same w g i _ 9 _ h]
  simp [List.map_set]
theorem BlkT.rd {w : World} {g : Nat} {ls : List (List UInt8)} (h : BlkT w g ls) : RdT w g (some ⟨g, 0, none⟩) ls := fun _ => ⟨0, rfl, fun i hi => by rw [Nat.zero_add]; exact h.cell hi⟩
theorem BlkT.up {w w' : World} {g : Nat} {ls : List (List UInt8)} (h : BlkT w g ls) (hb : Below w.heap.size w w') : BlkT w' g ls := (hb.block g h.lt).trans h
theorem BlkT.of_made {w : World} {base : Nat} {g n : Nat} (h : w.ownsRow base 9 1 (.slice (some ⟨g, 0, none⟩) n n) n (madeCells (Value.string ⟨#[]⟩).cells (n * 1)).toList) : BlkT w g (List.replicate n []) := by
  rcases h.2 with ⟨h', _⟩ | ⟨g', cap', cur, h', _, hg, _, _, hcs, htake⟩
  · simp at h'
  · simp only [Value.slice.injEq, Option.some.injEq, Addr.mk.injEq, and_true, true_and] at h'
    obtain ⟨rfl, rfl⟩ := h'
    show _ = _
    rw [hg]
    have : cur = ((List.replicate n ([] : List UInt8)).map tx).toArray := by
      apply Array.ext'
      rw [List.take_of_length_le (by rw [Array.length_toList, hcs]; exact Nat.le_refl _)] at htake
      rw [htake]
      apply List.ext_getElem
      · simp [madeCells]
      · intro i h1 h2
        simp [madeCells, Value.cells, tx, Nat.mod_one]
    rw [this]
def CopT (xs ys : List (List UInt8)) (k : Nat) : Prop := ys.length = xs.length ∧ ys.take k = xs.take k
theorem CopT.step {xs ys : List (List UInt8)} {k : Nat} (h : CopT xs ys k) (hk : k < xs.length) : CopT xs (ys.set k (xs.getD k [])) (k + 1) := by
  refine ⟨by simpa using h.1, ?_⟩
  have hk' : k < ys.length := by rw [h.1]; exact hk
  rw [List.take_succ_eq_append_getElem (by simpa using hk'), List.take_succ_eq_append_getElem hk, List.take_set]
  rw [List.getElem_set_self, List.set_eq_of_length_le (by rw [List.length_take]; omega), h.2]
  simp [hk]
end Go.Proofs.YtccnhdicibjbaaaGreat
namespace Go.Proofs.YtccnhdicibjbaaaGreat
open Go Go.RowKit
structure Dra (w : World) (s g : Nat) (a : Option Addr) (c : Nat) (xs : List Int) (t : Int) : Prop where
  S : Src w s a xs.length c t
  R : Rd w g a .u8 xs
  ne : 0 < xs.length → g ≠ s
  hb : Byt xs
  hl : xs.length ≤ 1048576
  t0 : 0 ≤ t
theorem Dra.up {w w' : World} {s g : Nat} {a : Option Addr} {c : Nat} {xs : List Int} {t : Int} (h : Dra w s g a c xs t) (n : Below w.heap.size w w') : Dra w' s g a c xs t := ⟨h.S.up n, h.R.up n, h.ne, h.hb, h.hl, h.t0⟩
theorem next_D {w : World} {s g : Nat} {a : Option Addr} {c : Nat} {xs : List Int} {t n : Int} (d : Dra w s g a c xs t) (t1 : t ≤ 1048576) (n0 : 1 ≤ n) (n1 : n ≤ 1099511627776) :
    Calls Tryz.prog 28 #[.pointer (some ⟨s, 0, none⟩), .int .i64 n] w fun e w' => ∃ r : Nat, e = .returned (.int .i64 (r : Int)) ∧ (r : Int) < n ∧ Dra w' s g a c xs (t + 1) ∧ But s w w' := by
  refine (l1Next_any w s g a c xs t n d.S d.R d.ne d.hb d.hl d.t0 t1 n0 n1).mono ?_
  rintro e w' ⟨r, rfl, ⟨h0, h1⟩, S, O⟩
  obtain ⟨k, rfl⟩ := Int.eq_ofNat_of_zero_le h0
  have B := But.ofOnly O
  exact ⟨k, rfl, h1, ⟨S, d.R.but B d.ne, d.ne, d.hb, d.hl, by have := d.t0; omega⟩, B⟩
theorem chance_D {w : World} {s g : Nat} {a : Option Addr} {c : Nat} {xs : List Int} {t n : Int} (d : Dra w s g a c xs t) (t1 : t ≤ 1048576) (n0 : 1 ≤ n) (n1 : n ≤ 1048576) :
    Calls Tryz.prog 42 #[.pointer (some ⟨s, 0, none⟩), .int .i64 n] w fun e w' => ∃ b, e = .returned (.bool b) ∧ Dra w' s g a c xs (t + 1) ∧ But s w w' := by
  refine (l1Chance_any w s g a c xs t n d.S d.R d.ne d.hb d.hl d.t0 t1 n0 n1).mono ?_
  rintro e w' ⟨b, rfl, S, O⟩
  have B := But.ofOnly O
  exact ⟨b, rfl, ⟨S, d.R.but B d.ne, d.ne, d.hb, d.hl, by have := d.t0; omega⟩, B⟩
def poolA : List (List UInt8) := [[101, 120, 97, 109, 112, 108, 101], [97, 46, 101, 120, 97, 109, 112, 108, 101], [98, 46, 101, 120, 97, 109, 112, 108, 101], [115, 104, 111, 112, 46, 101, 120, 97, 109, 112, 108, 101], [119, 119, 119, 46, 115, 104, 111, 112, 46, 101, 120, 97, 109, 112, 108, 101], [120, 46, 119, 119, 119, 46, 115, 104, 111, 112, 46, 101, 120, 97, 109, 112, 108, 101], [109, 97, 105, 108, 46, 97, 46, 101, 120, 97, 109, 112, 108, 101], [97, 46, 98], [111, 116, 104, 101, 114], [48, 45, 49, 46, 98, 46, 101, 120, 97, 109, 112, 108, 101]]
theorem poolA_len : ∀ i, i < 10 → (poolA.getD i []).length ≤ 18 := by decide
set_option maxRecDepth 100000 in
set_option maxHeartbeats 1000000 in
theorem l11Pool_any (w : World) : Calls Tryz.prog 73 #[] w fun e w' => e = .returned (.slice (some ⟨w.heap.size, 0, none⟩) 10 10) ∧ BlkT w' w.heap.size poolA ∧ Below w.heap.size w w' := by
  have HB : Hid (BlkT (w.alloc (.cells (poolA.map tx).toArray 9)) w.heap.size poolA) := heap_alloc_new w _
  have HN : Hid (Below w.heap.size w (w.alloc (.cells (poolA.map tx).toArray 9))) := (Below.refl _ _).alloc (Nat.le_refl _) _
  simp only [poolA, List.map_cons, List.map_nil, tx] at HB HN
  go_enter Tryz.func73, Tryz.ntmps73
  go_wp2
  go_ret
  exact ⟨rfl, HB.out, HN.out⟩
set_option maxHeartbeats 4000000 in
theorem drawName_D {w : World} {s g : Nat} {a : Option Addr} {c : Nat} {xs : List Int} {t : Int} (d : Dra w s g a c xs t) (t1 : t ≤ 1000000) :
    Calls Tryz.prog 50 #[.pointer (some ⟨s, 0, none⟩)] w fun e w' => ∃ (l : List UInt8) (u : Int), e = .returned (.string ⟨⟨l⟩⟩) ∧ l.length ≤ 70 ∧ u ≤ t + 3 ∧ Dra w' s g a c xs u ∧ But s w w' := by
  have D0 := hide d
  clear d
  go_enter Tryz.func50, Tryz.ntmps50
  go_wp2_with fail
  refine (l11Pool_any w).mono ?_
  rintro e w1 ⟨rfl, B1, n1⟩
  have D1 := hide (D0.out.up n1)
  have U1 : Hid (But s w w1) := But.ofBelow n1
  have slt : Hid (s < w.heap.size) := D0.out.S.lt
  go_wp2_with fail
  refine (next_D D1.out (by omega) (by omega) (by omega)).mono ?_
  rintro e w2 ⟨r, rfl, hr, d2, b2⟩
  have D2 := hide d2
  have U2 := hide (U1.out.trans b2)
  have B2 : BlkT w2 w.heap.size poolA := (b2.block w.heap.size B1.lt (by have := slt.out; omega)).trans B1
  have c2 := B2.cell (i := r) (by show r < 10; omega)
  have pl := poolA_len r (by omega)
  generalize poolA.getD r [] = x at *
  have xs' := tx_size x
  unfold tx at c2
  have hr2 : (r : Int) < 10 := by omega
  clear d2 b2 B1 B2 n1 D1 U1 D0 slt
  go_wp2_with fail
  refine (next_D D2.out (by omega) (by omega) (by omega)).mono ?_
  rintro e w3 ⟨k, rfl, hk, d3, b3⟩
  have D3 := hide d3
  have U3 := hide (U2.out.trans b3)
  clear d3 b3 c2 hr D2 U2
  by_cases k0 : k = 0
  · subst k0
    rw [show ((0 : Nat) : Int) = 0 from rfl]
    have ad : ∀ W : World, (Op.stringOp .add (ByteArray.mk #[120, 46]) (ByteArray.mk ⟨x⟩)).run Tryz.prog W = .ok (.string ⟨⟨120 :: 46 :: x⟩⟩) W := fun W => tx_add W [120, 46] x (by simp; omega)
    go_wp2
    go_ret
    exact ⟨120 :: 46 :: x, _, rfl, by simp; omega, by omega, D3.out, U3.out⟩
  · have e0 : ((k : Int) == 0) = false := by simp; omega
    by_cases k1 : k = 1
    · subst k1
      rw [show ((1 : Nat) : Int) = 1 from rfl]
      go_wp2_with fail
      refine (next_D D3.out (by omega) (by omega) (by omega)).mono ?_
      rintro e w4 ⟨m, rfl, hm, d4, b4⟩
      have D4 := hide d4
      have U4 := hide (U3.out.trans b4)
      clear d4 b4 D3 U3 e0
      go_wp2
      go_loopw [4, 6] (fun v i wr => wr = w4 ∧ ∃ (l : List UInt8) (j : Nat), v = .string ⟨⟨l⟩⟩ ∧ i = .int .i64 j ∧ l.length + j ≤ 64) (fun _ i _ => (intOf i).toNat)
      case atStart => exact ⟨rfl, [], 62 + m, rfl, by go_num, by simp; omega⟩
      case round =>
        obtain ⟨e1, l, j, rfl, rfl, hl⟩ := hrel
        subst e1
        by_cases hj : j = 0
        · subst hj
          rw [show ((0 : Nat) : Int) = 0 from rfl]
          go_wp2
          go_ret
          exact ⟨l, _, rfl, by omega, by omega, D4.out, U4.out⟩
        · have tj : decide ((0 : Int) < (j : Int)) = true := decide_eq_true (by omega)
          have tj' : 0 < j := by omega
          have ad : ∀ W : World, (Op.stringOp .add (ByteArray.mk ⟨l⟩) (ByteArray.mk #[113])).run Tryz.prog W = .ok (.string ⟨⟨l ++ [113]⟩⟩) W := fun W => tx_add W l [113] (by simp; omega)
          have sj : IntKind.i64.wrap ((j : Int) - 1) = ((j - 1 : Nat) : Int) := by rw [IntKind.wrap_i64]; omega
          have sj' : wrap64 ((j : Int) - 1) = ((j - 1 : Nat) : Int) := by unfold wrap64; omega
          go_wp2
          go_roundw
          case rel => exact ⟨by simp, l ++ [113], j - 1, rfl, by first | rfl | go_num, by simp; omega⟩
          case measure => simp [intOf]; omega
    · have e1 : ((k : Int) == 1) = false := by simp; omega
      go_wp2
      go_ret
      exact ⟨x, _, rfl, by omega, by omega, D3.out, U3.out⟩
end Go.Proofs.YtccnhdicibjbaaaGreat
namespace Go.Proofs.YtccnhdicibjbaaaGreat
open Go Go.RowKit
theorem str_one (x : Int) : ∃ b, str [x] = ByteArray.mk ⟨[b]⟩ := ⟨UInt8.ofNat x.toNat, rfl⟩
set_option maxRecDepth 100000 in
set_option maxHeartbeats 8000000 in
theorem drawAny_D {w : World} {s g : Nat} {a : Option Addr} {c : Nat} {xs : List Int} {t : Int} (d : Dra w s g a c xs t) (t1 : t ≤ 1000000) :
    Calls Tryz.prog 69 #[.pointer (some ⟨s, 0, none⟩)] w fun e w' => ∃ (l : List UInt8) (u : Int), e = .returned (.string ⟨⟨l⟩⟩) ∧ l.length ≤ 200 ∧ u ≤ t + 6 ∧ Dra w' s g a c xs u ∧ But s w w' := by
  have D0 := hide d
  clear d
  go_enter Tryz.func69, Tryz.ntmps69
  go_wp2_with fail
  refine (drawName_D D0.out (by omega)).mono ?_
  rintro e w1 ⟨x, u1, rfl, hx, hu, d1, b1⟩
  have D1 := hide d1
  have U1 := hide b1
  have sx := tx_size x
  clear d1 b1 D0
  go_wp2_with fail
  refine (next_D D1.out (by omega) (by omega) (by omega)).mono ?_
  rintro e w2 ⟨k, rfl, hk, d2, b2⟩
  have D2 := hide d2
  have U2 := hide (U1.out.trans b2)
  clear d2 b2 D1 U1
  have hk' : k = 0 ∨ k = 1 ∨ k = 2 ∨ k = 3 ∨ k = 4 ∨ k = 5 ∨ k = 6 ∨ (k ≠ 0 ∧ k ≠ 1 ∧ k ≠ 2 ∧ k ≠ 3 ∧ k ≠ 4 ∧ k ≠ 5 ∧ k ≠ 6) := by omega
  clear hk
  rcases hk' with rfl | rfl | rfl | rfl | rfl | rfl | rfl | ⟨q0, q1, q2, q3, q4, q5, q6⟩
  · have ad : ∀ W : World, (Op.stringOp .add (ByteArray.mk ⟨x⟩) (ByteArray.mk #[46])).run Tryz.prog W = .ok (.string ⟨⟨x ++ [46]⟩⟩) W := fun W => tx_add W x [46] (by simp; omega)
    rw [show ((0 : Nat) : Int) = 0 from rfl]
    go_wp2
    go_ret
    exact ⟨_, _, rfl, by simp; omega, by omega, D2.out, U2.out⟩
  · have ad : ∀ W : World, (Op.stringOp .add (ByteArray.mk #[45]) (ByteArray.mk ⟨x⟩)).run Tryz.prog W = .ok (.string ⟨⟨45 :: x⟩⟩) W := fun W => tx_add W [45] x (by simp; omega)
    rw [show ((1 : Nat) : Int) = 1 from rfl]
    go_wp2
    go_ret
    exact ⟨_, _, rfl, by simp; omega, by omega, D2.out, U2.out⟩
  · rw [show ((2 : Nat) : Int) = 2 from rfl]
    go_wp2
    go_ret
    exact ⟨[97, 46, 46, 98], _, rfl, by simp, by omega, D2.out, U2.out⟩
  · rw [show ((3 : Nat) : Int) = 3 from rfl]
    go_wp2
    go_ret
    exact ⟨[], _, rfl, by simp, by omega, D2.out, U2.out⟩
  · have ad : ∀ W : World, (Op.stringOp .add (ByteArray.mk #[65]) (ByteArray.mk ⟨x⟩)).run Tryz.prog W = .ok (.string ⟨⟨65 :: x⟩⟩) W := fun W => tx_add W [65] x (by simp; omega)
    rw [show ((4 : Nat) : Int) = 4 from rfl]
    go_wp2
    go_ret
    exact ⟨_, _, rfl, by simp; omega, by omega, D2.out, U2.out⟩
  · rw [show ((5 : Nat) : Int) = 5 from rfl]
    go_wp2
    go_loopw [3] (fun v wr => wr = w2 ∧ ∃ (l : List UInt8), v = .string ⟨⟨l⟩⟩ ∧ l.length ≤ 127) (fun v _ => 128 - (match v with | .string b => b.size | _ => 0))
    case atStart => exact ⟨rfl, x, rfl, by omega⟩
    case round =>
      obtain ⟨e1, l, rfl, hl⟩ := hrel
      subst e1
      have sl := tx_size l
      by_cases h : l.length < 120
      · have tl : decide ((l.length : Int) < 120) = true := decide_eq_true (by omega)
        have ad : ∀ W : World, (Op.stringOp .add (ByteArray.mk ⟨l⟩) (ByteArray.mk #[46, 97, 98, 99, 100, 101, 102, 103])).run Tryz.prog W = .ok (.string ⟨⟨l ++ [46, 97, 98, 99, 100, 101, 102, 103]⟩⟩) W := fun W => tx_add W l [46, 97, 98, 99, 100, 101, 102, 103] (by simp; omega)
        have H := hide h
        clear h
        go_wp2
        go_roundw
        case rel => exact ⟨by simp, _, rfl, by have := H.out; simp; omega⟩
        case measure =>
          have := H.out
          show 128 - (l ++ [46, 97, 98, 99, 100, 101, 102, 103]).length < 128 - l.length
          simp
          omega
      · have tl : decide ((l.length : Int) < 120) = false := decide_eq_false (by omega)
        clear h
        go_wp2_with fail
        refine (next_D D2.out (by omega) (by omega) (by omega)).mono ?_
        rintro e w3 ⟨m, rfl, hm, d3, b3⟩
        have D3 := hide d3
        have U3 := hide (U2.out.trans b3)
        clear d3 b3 D2 U2
        go_wp2
        go_loopw [3, 5] (fun v i wr => wr = w3 ∧ ∃ (l : List UInt8) (j : Nat), v = .string ⟨⟨l⟩⟩ ∧ i = .int .i64 j ∧ l.length + j ≤ 150) (fun _ i _ => (intOf i).toNat)
        case atStart => exact ⟨rfl, l, m, rfl, rfl, by omega⟩
        case round =>
          obtain ⟨e1, l, j, rfl, rfl, hl⟩ := hrel
          subst e1
          by_cases hj : j = 0
          · subst hj
            rw [show ((0 : Nat) : Int) = 0 from rfl]
            go_wp2
            go_ret
            exact ⟨l, _, rfl, by omega, by omega, D3.out, U3.out⟩
          · have tj : decide ((0 : Int) < (j : Int)) = true := decide_eq_true (by omega)
            have tj' : 0 < j := by omega
            have ad : ∀ W : World, (Op.stringOp .add (ByteArray.mk ⟨l⟩) (ByteArray.mk #[104])).run Tryz.prog W = .ok (.string ⟨⟨l ++ [104]⟩⟩) W := fun W => tx_add W l [104] (by simp; omega)
            have sj : IntKind.i64.wrap ((j : Int) - 1) = ((j - 1 : Nat) : Int) := by rw [IntKind.wrap_i64]; omega
            have sj' : wrap64 ((j : Int) - 1) = ((j - 1 : Nat) : Int) := by unfold wrap64; omega
            go_wp2
            go_roundw
            case rel => exact ⟨by simp, l ++ [104], j - 1, rfl, by first | rfl | go_num, by simp; omega⟩
            case measure => simp [intOf]; omega
  · rw [show ((6 : Nat) : Int) = 6 from rfl]
    have w6 : IntKind.i64.wrap ((x.length : Int) + 1) = (x.length : Int) + 1 := by rw [IntKind.wrap_i64]; omega
    go_wp2_with fail
    refine (next_D D2.out (by omega) (by omega) (by omega)).mono ?_
    rintro e w3 ⟨m, rfl, hm, d3, b3⟩
    have D3 := hide d3
    have U3 := hide (U2.out.trans b3)
    clear d3 b3 D2 U2
    have hm' : m ≤ x.length := by omega
    have x1 : (ByteArray.mk ⟨x⟩).extract 0 m = ByteArray.mk ⟨x.take m⟩ := by
      have := ByteArray.extract_mk x 0 m
      simpa using this
    have x2 : (ByteArray.mk ⟨x⟩).extract m x.length = ByteArray.mk ⟨x.drop m⟩ := by
      have := ByteArray.extract_mk x m x.length
      rw [List.take_of_length_le (by rw [List.length_drop]; omega)] at this
      exact this
    have t2 : (m : Int) ≤ (x.length : Int) := by omega
    have NX := hide (fun W (h : Below w3.heap.size w3 W) => next_D (n := 256) (D3.out.up h) (by omega) (by omega) (by omega))
    have nd : Below w3.heap.size w3 w3.drew := (Below.refl _ _).drew
    have UU := hide (fun W (h : Below w3.heap.size w3 W) => U3.out.trans (But.ofBelow (g := s) h))
    have KC : Hid (∀ (W : World) (y : Nat), (y : Int) < 256 → ∃ b : UInt8, (convert 22 9 (.slice (some ⟨W.heap.size, 0, none⟩) 1 1)).run Tryz.prog (W.alloc (.cells #[.int .u8 (IntKind.u8.wrap (y : Int))] 5)) = .ok (.string ⟨⟨[b]⟩⟩) (W.alloc (.cells #[.int .u8 (IntKind.u8.wrap (y : Int))] 5)) ∧ (∀ W : World, (Op.stringOp .add (ByteArray.mk ⟨x.take m⟩) (ByteArray.mk ⟨[b]⟩)).run Tryz.prog W = .ok (.string ⟨⟨x.take m ++ [b]⟩⟩) W) ∧ (∀ W : World, (Op.stringOp .add (ByteArray.mk ⟨x.take m ++ [b]⟩) (ByteArray.mk ⟨x.drop m⟩)).run Tryz.prog W = .ok (.string ⟨⟨x.take m ++ [b] ++ x.drop m⟩⟩) W)) := by
      intro W y _
      obtain ⟨b, hb⟩ := str_one (IntKind.u8.wrap (y : Int))
      have cv := conv_run (W.alloc (.cells #[.int .u8 (IntKind.u8.wrap (y : Int))] 5)) W.heap.size (some ⟨W.heap.size, 0, none⟩) 1 [IntKind.u8.wrap (y : Int)] (fun _ => ⟨0, rfl, fun i hi => by
        obtain rfl : i = 0 := by
          simp at hi
          omega
        exact cell_one_new W (.int .u8 (IntKind.u8.wrap (y : Int))) 5 0 _ rfl⟩)
      rw [hb] at cv
      exact ⟨b, cv, fun W => tx_add W (x.take m) [b] (by simp; omega), fun W => tx_add W (x.take m ++ [b]) (x.drop m) (by simp; omega)⟩
    go_wp2
    go_region_with (go_at_call 28; refine ((unhide NX) _ nd).mono ?_; rintro e w4 ⟨y, rfl, hy, d4, b4⟩; obtain ⟨b, cv, ad1, ad2⟩ := (unhide KC) w4 y hy)
    have na : Below w4.heap.size w4 (w4.alloc (.cells #[.int .u8 (IntKind.u8.wrap (y : Int))] 5)) := (Below.refl _ _).alloc (Nat.le_refl _) _
    have D5 := hide (d4.up na)
    have U5 := hide (((UU.out w3.drew nd).trans b4).trans (But.ofBelow na))
    clear na d4 b4 cv ad1 ad2
    generalize w4.alloc (.cells #[.int .u8 (IntKind.u8.wrap (y : Int))] 5) = w5 at *
    go_wp2
    go_ret
    exact ⟨x.take m ++ [b] ++ x.drop m, _, by simp, by simp; omega, by omega, D5.out, U5.out⟩
  · have e0 : ((k : Int) == 0) = false := by simp; omega
    have e1 : ((k : Int) == 1) = false := by simp; omega
    have e2 : ((k : Int) == 2) = false := by simp; omega
    have e3 : ((k : Int) == 3) = false := by simp; omega
    have e4 : ((k : Int) == 4) = false := by simp; omega
    have e5 : ((k : Int) == 5) = false := by simp; omega
    have e6 : ((k : Int) == 6) = false := by simp; omega
    clear q0 q1 q2 q3 q4 q5 q6
    go_wp2
    go_ret
    exact ⟨x, _, rfl, by omega, by omega, D2.out, U2.out⟩
end Go.Proofs.YtccnhdicibjbaaaGreat
namespace Go.Proofs.YtccnhdicibjbaaaGreat
open Go Go.RowKit
set_option maxHeartbeats 2000000 in
theorem l1NextX_any (w : World) (s g : Nat) (a : Option Addr) (c : Nat) (xs : List Int) (t n : Int) (hs : Src w s a xs.length c t) (hr : Rd w g a .u8 xs) (hne : 0 < xs.length → g ≠ s) (hb : Byt xs) (hl : xs.length ≤ 4194304)
    (t0 : 0 ≤ t) (t1 : t ≤ 1048576) (n0 : 1 ≤ n) (n1 : n ≤ 1048576) :
    Calls Tryz.prog 28 #[.pointer (some ⟨s, 0, none⟩), .int .i64 n] w fun e w' => ∃ r, e = .returned (.int .i64 r) ∧ (0 ≤ r ∧ r < n) ∧ Src w' s a xs.length c (t + 1) ∧ Only s w w' := by
  have c0 := hs.code
  have c1 := hs.at_
  have f1 := hs.free
  have k1 : (w.setCell ⟨s, 1, none⟩ (.int .i64 (t + 1))).cell? ⟨s, 1, none⟩ = some (.int .i64 (t + 1)) := World.cell?_setCell_same _ _ _ hs.at_
  have k0 : (w.setCell ⟨s, 1, none⟩ (.int .i64 (t + 1))).cell? ⟨s, 0, none⟩ = some (.slice a xs.length c) := by rw [World.cell?_setCell_other (h := by simp)]; exact hs.code
  have tn : decide (n < 1) = false := by simp; omega
  by_cases h0 : xs.length = 0
  · have hk : ((xs.length : Int) == 0) = true := by simp [h0]
    have r0 := Int.emod_nonneg (t * 7) (show n ≠ 0 by omega)
    have r1 := Int.emod_lt_of_pos (t * 7) (show 0 < n by omega)
    have S := hs.step (t + 1) 0
    have O := Only.step w s (.int .i64 (t + 1)) 0
    clear h0
    go_enter Tryz.func28, Tryz.ntmps28
    go_wp2
    go_ret
    exact ⟨_, rfl, ⟨r0, r1⟩, S, O⟩
  · have hk : ((xs.length : Int) == 0) = false := beq_eq_false_iff_ne.2 (by omega)
    obtain ⟨off, rfl, hc⟩ := hr (by omega)
    have gs : g ≠ s := hne (by omega)
    obtain ⟨i1, hi1⟩ := Int.eq_ofNat_of_zero_le (Int.emod_nonneg t (show (xs.length : Int) ≠ 0 by omega))
    have li1 : (i1 : Int) < (xs.length : Int) := by rw [← hi1]; exact Int.emod_lt_of_pos _ (by omega)
    obtain ⟨i2, hi2⟩ := Int.eq_ofNat_of_zero_le (Int.emod_nonneg (t + 1) (show (xs.length : Int) ≠ 0 by omega))
    have li2 : (i2 : Int) < (xs.length : Int) := by rw [← hi2]; exact Int.emod_lt_of_pos _ (by omega)
    obtain ⟨q, hq⟩ : ∃ q, t / (xs.length : Int) = q := ⟨_, rfl⟩
    have q0 : 0 ≤ q := by rw [← hq]; exact Int.ediv_nonneg t0 (by omega)
    have q1 : q ≤ 1048576 := by rw [← hq]; exact Int.le_trans (Int.ediv_le_self _ t0) t1
    have x1 : (w.setCell ⟨s, 1, none⟩ (.int .i64 (t + 1))).cell? ⟨g, off + i1, none⟩ = some (.int .u8 (xs.getD i1 0)) := by rw [World.cell?_setCell_other (h := fun e => gs (by simpa using (congrArg Addr.block e).symm))]; exact hc i1 (by omega)
    have x2 : (w.setCell ⟨s, 1, none⟩ (.int .i64 (t + 1))).cell? ⟨g, off + i2, none⟩ = some (.int .u8 (xs.getD i2 0)) := by rw [World.cell?_setCell_other (h := fun e => gs (by simpa using (congrArg Addr.block e).symm))]; exact hc i2 (by omega)
    have b1 := hb i1
    have b2 := hb i2
    have S := fun m => hs.step (t + 1) m
    have O := fun m => Only.step w s (.int .i64 (t + 1)) m
    generalize xs.getD i1 0 = x at *
    generalize xs.getD i2 0 = y at *
    clear hc hs hr h0
    by_cases hn : n ≤ 200
    · have tn2 : decide (200 < n) = false := by simp; omega
      have r0 := Int.emod_nonneg (x + q * 37) (show n ≠ 0 by omega)
      have r1 := Int.emod_lt_of_pos (x + q * 37) (show 0 < n by omega)
      clear x2 hi2 li2 b2
      go_enter Tryz.func28, Tryz.ntmps28
      go_wp2
      go_quiet (fail)
      go_wp2
      go_ret
      exact ⟨_, rfl, ⟨r0, r1⟩, S _, O _⟩
    · have tn2 : decide (200 < n) = true := by simp; omega
      have r0 := Int.emod_nonneg ((x + q * 37) * 251 + y * 13 + t) (show n ≠ 0 by omega)
      have r1 := Int.emod_lt_of_pos ((x + q * 37) * 251 + y * 13 + t) (show 0 < n by omega)
      go_enter Tryz.func28, Tryz.ntmps28
      go_wp2
      go_quiet (fail)
      go_wp2
      go_quiet (fail)
      go_wp2
      go_ret
      exact ⟨_, rfl, ⟨r0, r1⟩, S _, O _⟩
end Go.Proofs.YtccnhdicibjbaaaGreat
namespace Go.Proofs.YtccnhdicibjbaaaGreat
open Go Go.RowKit
theorem byt_setC {ys : List Int} (h : Byt ys) (p : Nat) (x : Int) (h0 : 0 ≤ x) (h1 : x < 256) : Byt (ys.set p x) := by
  intro i
  rw [List.getD_eq_getElem?_getD, List.getElem?_set]
  by_cases hp : p = i
  · rw [if_pos hp]
    split
    · exact ⟨h0, h1⟩
    · exact ⟨by simp, by simp⟩
  · rw [if_neg hp]
    have := h i
    rw [List.getD_eq_getElem?_getD] at this
    exact this
set_option maxHeartbeats 2000000 in
theorem l11Bytes_any (w : World) (s g : Nat) (a : Option Addr) (c : Nat) (xs : List Int) (t : Int) (n : Nat) (hs : Src w s a xs.length c t) (hr : Rd w g a .u8 xs) (hne : 0 < xs.length → g ≠ s) (hb : Byt xs) (hl : xs.length ≤ 4194304)
    (t0 : 0 ≤ t) (t1 : t ≤ 1000000) (hn : n ≤ 3000) :
    Calls Tryz.prog 49 #[.pointer (some ⟨s, 0, none⟩), .int .i64 (n : Int)] w fun e w' => ∃ v ys, e = .returned v ∧ ys.length = n ∧ Byt ys ∧ RowB w' w.heap.size v ys ∧ Src w' s a xs.length c (t + 1) ∧ But s w w' := by
  obtain ⟨i0, hi, hz0, hz1, hz2⟩ := info_parts Tryz.info5
  have NX := hide (l1NextX_any w s g a c xs t 256 hs hr hne hb hl t0 (by omega) (by omega) (by omega))
  have sl := hs.lt
  clear hs hr hne
  go_enter Tryz.func49, Tryz.ntmps49
  go_wp2_with fail
  refine NX.out.mono ?_
  rintro e w0 ⟨r, rfl, ⟨r0, r1⟩, S0, O0⟩
  have z0 := hide O0.size
  clear NX
  go_wp2_with (at_make; refine wpList_make_full _ rfl _ _ 22 rfl w0.heap.size 5 i0 (.int .u8 0) 1 Tryz.underlying22 hi hz0 hz1 .i64 .i64 _ _ n rfl rfl rfl rfl (by rw [hz2]; omega) (by unfold maxLen; omega) (Nat.le_refl _) ?_; intro w1 hown hgrow)
  have hB0 := Blk.of_made hown
  have T0 := TyB.of_made hown
  have hN0 : Below w0.heap.size w0 w1 := (Below.refl _ _).grown hgrow (Nat.le_refl _) (by simp)
  have bz : Byt (List.replicate n (0 : Int)) := fun i => by
    rw [List.getD_eq_getElem?_getD, List.getElem?_replicate]
    split <;> exact ⟨by simp, by simp⟩
  clear hown hgrow
  go_loopw [7] (fun i wr => ∃ (k : Nat) (ys : List Int), k ≤ n ∧ i = .int .i64 (k : Int) ∧ Hid (ys.length = n) ∧ Hid (Byt ys) ∧ Blk wr w0.heap.size .u8 ys ∧ TyB wr w0.heap.size ∧ Below w0.heap.size w0 wr) (fun i _ => n - (intOf i).toNat)
  case atStart => exact ⟨0, _, Nat.zero_le _, rfl, by show _ = _; simp, bz, hB0, T0, hN0⟩
  case round =>
    clear hB0 T0 hN0 bz
    obtain ⟨k, ys, hk, rfl, yl, yb, B, T, N⟩ := hrel
    by_cases hlt : k < n
    · have k0 : (k : Int) < (n : Int) := by omega
      have k1 : decide ((k : Int) < (n : Int)) = true := by simp; omega
      have kk : (k : Int) * (k : Int) ≤ 9000000 := by
        have : (k : Int) ≤ 3000 := by omega
        calc (k : Int) * (k : Int) ≤ 3000 * 3000 := Int.mul_le_mul this this (by omega) (by omega)
          _ = 9000000 := by decide
      have kp : (0 : Int) ≤ (k : Int) * (k : Int) := Int.mul_nonneg (by omega) (by omega)
      have hl : k < ys.length := by rw [yl.out]; exact hlt
      have hcy := B.cell hl
      have hfy := B.free k
      have YL := yl
      have YB := yb
      have KN := hide kk
      go_wp2
      go_roundw
      case rel =>
        refine ⟨k + 1, _, by omega, by go_num, ?_, ?_, B.store k _, T.set k _, N.setCell (Nat.le_refl _) _⟩
        · show _ = _
          rw [List.length_set]
          exact YL.out
        · exact byt_setC YB.out k _ (by omega) (by omega)
      case measure => simp [intOf]; omega
    · obtain rfl : k = n := by omega
      have k1 : decide ((k : Int) < (k : Int)) = false := by simp
      have RB := hide (RowB.of_tyb (B := w.heap.size) B T (by have := z0.out; omega) (by rw [yl.out]; omega))
      rw [yl.out] at RB
      have BT := hide ((But.ofOnly O0).trans (But.ofBelow N))
      have SR := hide (S0.up N)
      have YL := yl
      have YB := yb
      clear B T N
      go_wp2
      go_ret
      exact ⟨_, ys, rfl, YL.out, YB.out, RB.out, SR.out, BT.out⟩
end Go.Proofs.YtccnhdicibjbaaaGreat
namespace Go.Proofs.YtccnhdicibjbaaaGreat
open Go Go.RowKit
def StD (B : Nat) (W : World) (v : Value) : Prop :=
  ∃ (ax : Option Addr) (cx gx : Nat) (X : List Int) (ay : Option Addr) (cy gy : Nat) (Y : List Int) (md li : Int) (ho pr : List UInt8) (ea : Int), v = .agg #[.slice ax X.length cx, .slice ay Y.length cy, .int .i64 md, .int .i64 li, .string ⟨⟨ho⟩⟩, .string ⟨⟨pr⟩⟩, .int .i64 ea] ∧
    (Own W gx ax .u8 X ∧ (ax = none → cx = 0) ∧ X.length ≤ cx ∧ X.length ≤ 40 ∧ Byt X ∧ B ≤ gx) ∧ (Own W gy ay .u8 Y ∧ (ay = none → cy = 0) ∧ Y.length ≤ cy ∧ Y.length ≤ 40 ∧ Byt Y ∧ B ≤ gy) ∧ ho.length ≤ 200 ∧ pr.length ≤ 40
theorem Rd.of_blockD {w w' : World} {g : Nat} {a : Option Addr} {k : IntKind} {xs : List Int} (h : Rd w g a k xs) (hb : 0 < xs.length → w'.heap[g]? = w.heap[g]?) : Rd w' g a k xs := by
  by_cases h0 : 0 < xs.length
  · exact h.of_block (hb h0)
  · exact fun q => absurd q h0
theorem RwC.but {w w' : World} {q s : Nat} {cs : List Value} {t : TypeId} (h : RwC w q cs t) (n : But s w w') (hq : q ≠ s) : RwC w' q cs t := (n.block q h.lt hq).trans h
set_option maxRecDepth 100000 in
set_option maxHeartbeats 8000000 in
theorem drawState_D {w : World} {s g : Nat} {a : Option Addr} {c : Nat} {xs : List Int} {t : Int} (d : Dra w s g a c xs t) (t1 : t ≤ 900000) :
    Calls Tryz.prog 27 #[.pointer (some ⟨s, 0, none⟩)] w fun e w' => ∃ (v : Value) (u : Int), e = .returned v ∧ StD w.heap.size w' v ∧ u ≤ t + 20 ∧ Dra w' s g a c xs u ∧ But s w w' := by
  obtain ⟨dR, hdR, hrowR⟩ := rowTs
  have ls := d.S.lt
  have lg := d.R.lt
  have n1 : Below w.heap.size w (w.alloc (.cells #[.slice none 0 0, .slice none 0 0, .int .i64 0, .int .i64 0, .string ⟨#[]⟩, .string ⟨#[]⟩, .int .i64 0] 24)) := (Below.refl _ _).alloc (Nat.le_refl _) _
  have Q0 : RwC (w.alloc (.cells #[.slice none 0 0, .slice none 0 0, .int .i64 0, .int .i64 0, .string ⟨#[]⟩, .string ⟨#[]⟩, .int .i64 0] 24)) w.heap.size [.slice none 0 0, .slice none 0 0, .int .i64 0, .int .i64 0, .string ⟨#[]⟩, .string ⟨#[]⟩, .int .i64 0] 24 := RwC.new w _ _
  have z1 : (w.alloc (.cells #[.slice none 0 0, .slice none 0 0, .int .i64 0, .int .i64 0, .string ⟨#[]⟩, .string ⟨#[]⟩, .int .i64 0] 24)).heap.size = w.heap.size + 1 := by simp
  have d1 := d.up n1
  have b1 : But s w (w.alloc (.cells #[.slice none 0 0, .slice none 0 0, .int .i64 0, .int .i64 0, .string ⟨#[]⟩, .string ⟨#[]⟩, .int .i64 0] 24)) := But.ofBelow n1
  clear n1 d
  go_enter Tryz.func27, Tryz.ntmps27
  go_wp2_with fail
  generalize w.alloc (.cells #[.slice none 0 0, .slice none 0 0, .int .i64 0, .int .i64 0, .string ⟨#[]⟩, .string ⟨#[]⟩, .int .i64 0] 24) = w1 at *
  refine (l11Bytes_any w1 s g a c xs t 32 d1.S d1.R d1.ne d1.hb (by have := d1.hl; omega) d1.t0 (by omega) (by omega)).mono ?_
  rintro e w2 ⟨v2, X, rfl, lX, bX, RX, S2, B2⟩
  have d2 : Dra w2 s g a c xs (t + 1) := ⟨S2, d1.R.but B2 d1.ne, d1.ne, d1.hb, d1.hl, by have := d1.t0; omega⟩
  replace Q0 := Q0.but B2 (by omega)
  obtain ⟨ax, cx, gx, rfl, oX, zX, kX, gX⟩ := RX.own
  have b2 := b1.trans B2
  have LX := hide lX
  have zz2 := B2.size
  clear S2 RX d1 B2 b1 lX
  go_wp2_with fail
  refine (l11Bytes_any w2 s g a c xs (t + 1) 32 d2.S d2.R d2.ne d2.hb (by have := d2.hl; omega) d2.t0 (by omega) (by omega)).mono ?_
  rintro e w3 ⟨v3, Y, rfl, lY, bY, RY, S3, B3⟩
  have d3 : Dra w3 s g a c xs (t + 1 + 1) := ⟨S3, d2.R.but B3 d2.ne, d2.ne, d2.hb, d2.hl, by have := d2.t0; omega⟩
  replace Q0 := Q0.but B3 (by omega)
  replace oX := oX.but B3 (fun _ => by omega)
  obtain ⟨ay, cy, gy, rfl, oY, zY, kY, gY⟩ := RY.own
  have b3 := b2.trans B3
  have LY := hide lY
  have zz3 := B3.size
  clear S3 RY d2 B3 b2 lY
  go_wp2_with fail
  refine (l1Next_any w3 s g a c xs _ 253402300799 d3.S d3.R d3.ne d3.hb d3.hl d3.t0 (by omega) (by decide) (by decide)).mono ?_
  rintro e w4 ⟨md, rfl, ⟨md0, md1⟩, S4, O4⟩
  have B4 := But.ofOnly O4
  have d4 : Dra w4 s g a c xs _ := ⟨S4, d3.R.but B4 d3.ne, d3.ne, d3.hb, d3.hl, by have := d3.t0; omega⟩
  replace Q0 := Q0.but B4 (by omega)
  replace oX := oX.but B4 (fun _ => by omega)
  replace oY := oY.but B4 (fun _ => by omega)
  have b4 := b3.trans B4
  clear S4 O4 d3 B4 b3
  go_wp2_with fail
  refine (l1Next_any w4 s g a c xs _ 604800 d4.S d4.R d4.ne d4.hb d4.hl d4.t0 (by omega) (by decide) (by decide)).mono ?_
  rintro e w5 ⟨li, rfl, ⟨li0, li1⟩, S5, O5⟩
  have B5 := But.ofOnly O5
  have d5 : Dra w5 s g a c xs _ := ⟨S5, d4.R.but B5 d4.ne, d4.ne, d4.hb, d4.hl, by have := d4.t0; omega⟩
  replace Q0 := Q0.but B5 (by omega)
  replace oX := oX.but B5 (fun _ => by omega)
  replace oY := oY.but B5 (fun _ => by omega)
  have b5 := b4.trans B5
  clear S5 O5 d4 B5 b4
  go_wp2_with fail
  refine (drawName_D d5 (by omega)).mono ?_
  rintro e w6 ⟨ho, u, rfl, lh, hu, d6, B6⟩
  replace Q0 := Q0.but B6 (by omega)
  replace oX := oX.but B6 (fun _ => by omega)
  replace oY := oY.but B6 (fun _ => by omega)
  have b6 := b5.trans B6
  have zz6 := B6.size
  clear d5 B6 b5
  go_wp2_with fail
  refine (l1Next_any w6 s g a c xs _ 5000 d6.S d6.R d6.ne d6.hb d6.hl d6.t0 (by omega) (by decide) (by decide)).mono ?_
  rintro e w7 ⟨ea, rfl, ⟨ea0, ea1⟩, S7, O7⟩
  have B7 := But.ofOnly O7
  have d7 : Dra w7 s g a c xs _ := ⟨S7, d6.R.but B7 d6.ne, d6.ne, d6.hb, d6.hl, by have := d6.t0; omega⟩
  replace Q0 := Q0.but B7 (by omega)
  replace oX := oX.but B7 (fun _ => by omega)
  replace oY := oY.but B7 (fun _ => by omega)
  have b7 := b6.trans B7
  clear S7 O7 d6 B7 b6
  have lgx : gx < w7.heap.size := oX.rd.lt (by rw [LX.out]; decide)
  have lgy : gy < w7.heap.size := oY.rd.lt (by rw [LY.out]; decide)
  have n8 : Below w7.heap.size w7 (w7.alloc (.cells #[.slice ax X.length cx, .slice ay Y.length cy, .int .i64 md, .int .i64 (1 + li), .string ⟨⟨ho⟩⟩, .string ⟨#[]⟩, .int .i64 ea] 24)) := (Below.refl _ _).alloc (Nat.le_refl _) _
  have T0 : RwC (w7.alloc (.cells #[.slice ax X.length cx, .slice ay Y.length cy, .int .i64 md, .int .i64 (1 + li), .string ⟨⟨ho⟩⟩, .string ⟨#[]⟩, .int .i64 ea] 24)) w7.heap.size [.slice ax X.length cx, .slice ay Y.length cy, .int .i64 md, .int .i64 (1 + li), .string ⟨⟨ho⟩⟩, .string ⟨#[]⟩, .int .i64 ea] 24 := RwC.new w7 _ _
  have lq0 := Q0.lt
  replace Q0 := Q0.up n8
  replace oX := oX.up n8
  replace oY := oY.up n8
  have d8 := d7.up n8
  have b8 := b7.trans (But.ofBelow (g := s) n8)
  have ls7 := d7.S.lt
  obtain ⟨q, hq⟩ : ∃ q, q = w7.heap.size := ⟨_, rfl⟩
  rw [← hq] at T0 lgx lgy lq0 ls7
  clear d7 b7 n8
  go_wp2_with fail
  rw [← hq]
  clear hq
  generalize w7.alloc (.cells #[.slice ax X.length cx, .slice ay Y.length cy, .int .i64 md, .int .i64 (1 + li), .string ⟨⟨ho⟩⟩, .string ⟨#[]⟩, .int .i64 ea] 24) = w8 at *
  refine (chance_D d8 (by omega) (by decide) (by decide)).mono ?_
  rintro e w9 ⟨b, rfl, d9, B9⟩
  replace Q0 := Q0.but B9 (by omega)
  replace T0 := T0.but B9 (by omega)
  replace oX := oX.but B9 (fun _ => by omega)
  replace oY := oY.but B9 (fun _ => by omega)
  have b9 := b8.trans B9
  clear d8 B9 b8
  cases b with
  | true =>
    have Lvx := LX.out
    have Lvy := LY.out
    have HXY := hide (And.intro Lvx Lvy)
    clear Lvx Lvy
    have tc : w9.cell? ⟨q, 5, none⟩ = some (.string ⟨#[]⟩) := T0.cell 5
    have tf := T0.free 5
    have OS := Only.setCell w9 q 5 (.string ⟨#[104, 50]⟩)
    have T1 : RwC (w9.setCell ⟨q, 5, none⟩ (.string ⟨#[104, 50]⟩)) q [.slice ax X.length cx, .slice ay Y.length cy, .int .i64 md, .int .i64 (1 + li), .string ⟨⟨ho⟩⟩, .string ⟨#[104, 50]⟩, .int .i64 ea] 24 := T0.set 5 _
    have Q1 := Q0.onl OS (by omega)
    have pX := oX.of_block (OS.block gx (by omega))
    have pY := oY.of_block (OS.block gy (by omega))
    have d10 : Dra (w9.setCell ⟨q, 5, none⟩ (.string ⟨#[104, 50]⟩)) s g a c xs _ := ⟨d9.S.of_block (OS.block s (by omega)), Rd.of_blockD d9.R (fun h => OS.block g (by have := lg h; omega)), d9.ne, d9.hb, d9.hl, d9.t0⟩
    have b10 : But s w (w9.setCell ⟨q, 5, none⟩ (.string ⟨#[104, 50]⟩)) := b9.setCell (by omega)
    go_upto_region 4 with fail
    generalize w9.setCell ⟨q, 5, none⟩ (.string ⟨#[104, 50]⟩) = wz at *
    clear tc tf OS
    have t0 : wz.cell? ⟨q, 0, none⟩ = some (.slice ax X.length cx) := T1.cell 0
    have qc0 : wz.cell? ⟨w.heap.size, 0, none⟩ = some (.slice none 0 0) := Q1.cell 0
    have qf0 := Q1.free 0
    have t1 : wz.cell? ⟨q, 1, none⟩ = some (.slice ay Y.length cy) := T1.cell 1
    have qc1 : wz.cell? ⟨w.heap.size, 1, none⟩ = some (.slice none 0 0) := Q1.cell 1
    have qf1 := Q1.free 1
    have t2 : wz.cell? ⟨q, 2, none⟩ = some (.int .i64 md) := T1.cell 2
    have qc2 : wz.cell? ⟨w.heap.size, 2, none⟩ = some (.int .i64 0) := Q1.cell 2
    have qf2 := Q1.free 2
    have t3 : wz.cell? ⟨q, 3, none⟩ = some (.int .i64 (1 + li)) := T1.cell 3
    have qc3 : wz.cell? ⟨w.heap.size, 3, none⟩ = some (.int .i64 0) := Q1.cell 3
    have qf3 := Q1.free 3
    have t4 : wz.cell? ⟨q, 4, none⟩ = some (.string ⟨⟨ho⟩⟩) := T1.cell 4
    have qc4 : wz.cell? ⟨w.heap.size, 4, none⟩ = some (.string ⟨#[]⟩) := Q1.cell 4
    have qf4 := Q1.free 4
    have t5 : wz.cell? ⟨q, 5, none⟩ = some (.string ⟨#[104, 50]⟩) := T1.cell 5
    have qc5 : wz.cell? ⟨w.heap.size, 5, none⟩ = some (.string ⟨#[]⟩) := Q1.cell 5
    have qf5 := Q1.free 5
    have t6 : wz.cell? ⟨q, 6, none⟩ = some (.int .i64 ea) := T1.cell 6
    have qc6 : wz.cell? ⟨w.heap.size, 6, none⟩ = some (.int .i64 0) := Q1.cell 6
    have qf6 := Q1.free 6
    have RF : RwC (((((((wz.setCell ⟨w.heap.size, 0, none⟩ (.slice ax X.length cx)).setCell ⟨w.heap.size, 1, none⟩ (.slice ay Y.length cy)).setCell ⟨w.heap.size, 2, none⟩ (.int .i64 md)).setCell ⟨w.heap.size, 3, none⟩ (.int .i64 (1 + li))).setCell ⟨w.heap.size, 4, none⟩ (.string ⟨⟨ho⟩⟩)).setCell ⟨w.heap.size, 5, none⟩ (.string ⟨#[104, 50]⟩)).setCell ⟨w.heap.size, 6, none⟩ (.int .i64 ea)) w.heap.size [.slice ax X.length cx, .slice ay Y.length cy, .int .i64 md, .int .i64 (1 + li), .string ⟨⟨ho⟩⟩, .string ⟨#[104, 50]⟩, .int .i64 ea] 24 := (((((((Q1.set 0 (.slice ax X.length cx)).set 1 (.slice ay Y.length cy)).set 2 (.int .i64 md)).set 3 (.int .i64 (1 + li))).set 4 (.string ⟨⟨ho⟩⟩)).set 5 (.string ⟨#[104, 50]⟩)).set 6 (.int .i64 ea))
    have OF : Only w.heap.size wz (((((((wz.setCell ⟨w.heap.size, 0, none⟩ (.slice ax X.length cx)).setCell ⟨w.heap.size, 1, none⟩ (.slice ay Y.length cy)).setCell ⟨w.heap.size, 2, none⟩ (.int .i64 md)).setCell ⟨w.heap.size, 3, none⟩ (.int .i64 (1 + li))).setCell ⟨w.heap.size, 4, none⟩ (.string ⟨⟨ho⟩⟩)).setCell ⟨w.heap.size, 5, none⟩ (.string ⟨#[104, 50]⟩)).setCell ⟨w.heap.size, 6, none⟩ (.int .i64 ea)) := (((((((Only.refl w.heap.size wz).trans (Only.setCell _ w.heap.size 0 _)).trans (Only.setCell _ w.heap.size 1 _)).trans (Only.setCell _ w.heap.size 2 _)).trans (Only.setCell _ w.heap.size 3 _)).trans (Only.setCell _ w.heap.size 4 _)).trans (Only.setCell _ w.heap.size 5 _)).trans (Only.setCell _ w.heap.size 6 _)
    have RR := RF.rangeG
    have rX := hide (pX.of_block (OF.block gx (by omega)))
    have rY := hide (pY.of_block (OF.block gy (by omega)))
    have dF := hide (show Dra (((((((wz.setCell ⟨w.heap.size, 0, none⟩ (.slice ax X.length cx)).setCell ⟨w.heap.size, 1, none⟩ (.slice ay Y.length cy)).setCell ⟨w.heap.size, 2, none⟩ (.int .i64 md)).setCell ⟨w.heap.size, 3, none⟩ (.int .i64 (1 + li))).setCell ⟨w.heap.size, 4, none⟩ (.string ⟨⟨ho⟩⟩)).setCell ⟨w.heap.size, 5, none⟩ (.string ⟨#[104, 50]⟩)).setCell ⟨w.heap.size, 6, none⟩ (.int .i64 ea)) s g a c xs _ from ⟨d10.S.of_block (OF.block s (by omega)), Rd.of_blockD d10.R (fun h => OF.block g (by have := lg h; omega)), d10.ne, d10.hb, d10.hl, d10.t0⟩)
    have bF := hide (show But s w (((((((wz.setCell ⟨w.heap.size, 0, none⟩ (.slice ax X.length cx)).setCell ⟨w.heap.size, 1, none⟩ (.slice ay Y.length cy)).setCell ⟨w.heap.size, 2, none⟩ (.int .i64 md)).setCell ⟨w.heap.size, 3, none⟩ (.int .i64 (1 + li))).setCell ⟨w.heap.size, 4, none⟩ (.string ⟨⟨ho⟩⟩)).setCell ⟨w.heap.size, 5, none⟩ (.string ⟨#[104, 50]⟩)).setCell ⟨w.heap.size, 6, none⟩ (.int .i64 ea)) from ⟨OF.os.trans b10.os, OF.tape.trans b10.tape, OF.output.trans b10.output, Nat.le_trans b10.size (Nat.le_of_eq OF.size.symm), fun k hk hne => (OF.block k (by omega)).trans (b10.block k hk hne)⟩)
    clear RF OF T1 Q1 pX pY d10 b10
    go_wp2
    exact bodyPost_ret (v := .agg #[.slice ax X.length cx, .slice ay Y.length cy, .int .i64 md, .int .i64 (1 + li), .string ⟨⟨ho⟩⟩, .string ⟨#[104, 50]⟩, .int .i64 ea]) (results_cellG Tryz.results27 _ _ w.heap.size _ dR rfl RR hdR hrowR iTs) rfl ⟨_, _, rfl, ⟨ax, cx, gx, X, ay, cy, gy, Y, md, 1 + li, ho, [104, 50], ea, rfl, ⟨rX.out, zX, kX, by rw [HXY.out.1]; decide, bX, by omega⟩, ⟨rY.out, zY, kY, by rw [HXY.out.2]; decide, bY, by omega⟩, by omega, by simp⟩, by omega, dF.out, bF.out⟩
  | false =>
    have Lvx := LX.out
    have Lvy := LY.out
    have HXY := hide (And.intro Lvx Lvy)
    clear Lvx Lvy
    have T1 := T0
    have Q1 := Q0
    have pX := oX
    have pY := oY
    have d10 := d9
    have b10 := b9
    have t0 : w9.cell? ⟨q, 0, none⟩ = some (.slice ax X.length cx) := T1.cell 0
    have qc0 : w9.cell? ⟨w.heap.size, 0, none⟩ = some (.slice none 0 0) := Q1.cell 0
    have qf0 := Q1.free 0
    have t1 : w9.cell? ⟨q, 1, none⟩ = some (.slice ay Y.length cy) := T1.cell 1
    have qc1 : w9.cell? ⟨w.heap.size, 1, none⟩ = some (.slice none 0 0) := Q1.cell 1
    have qf1 := Q1.free 1
    have t2 : w9.cell? ⟨q, 2, none⟩ = some (.int .i64 md) := T1.cell 2
    have qc2 : w9.cell? ⟨w.heap.size, 2, none⟩ = some (.int .i64 0) := Q1.cell 2
    have qf2 := Q1.free 2
    have t3 : w9.cell? ⟨q, 3, none⟩ = some (.int .i64 (1 + li)) := T1.cell 3
    have qc3 : w9.cell? ⟨w.heap.size, 3, none⟩ = some (.int .i64 0) := Q1.cell 3
    have qf3 := Q1.free 3
    have t4 : w9.cell? ⟨q, 4, none⟩ = some (.string ⟨⟨ho⟩⟩) := T1.cell 4
    have qc4 : w9.cell? ⟨w.heap.size, 4, none⟩ = some (.string ⟨#[]⟩) := Q1.cell 4
    have qf4 := Q1.free 4
    have t5 : w9.cell? ⟨q, 5, none⟩ = some (.string ⟨#[]⟩) := T1.cell 5
    have qc5 : w9.cell? ⟨w.heap.size, 5, none⟩ = some (.string ⟨#[]⟩) := Q1.cell 5
    have qf5 := Q1.free 5
    have t6 : w9.cell? ⟨q, 6, none⟩ = some (.int .i64 ea) := T1.cell 6
    have qc6 : w9.cell? ⟨w.heap.size, 6, none⟩ = some (.int .i64 0) := Q1.cell 6
    have qf6 := Q1.free 6
    have RF : RwC (((((((w9.setCell ⟨w.heap.size, 0, none⟩ (.slice ax X.length cx)).setCell ⟨w.heap.size, 1, none⟩ (.slice ay Y.length cy)).setCell ⟨w.heap.size, 2, none⟩ (.int .i64 md)).setCell ⟨w.heap.size, 3, none⟩ (.int .i64 (1 + li))).setCell ⟨w.heap.size, 4, none⟩ (.string ⟨⟨ho⟩⟩)).setCell ⟨w.heap.size, 5, none⟩ (.string ⟨#[]⟩)).setCell ⟨w.heap.size, 6, none⟩ (.int .i64 ea)) w.heap.size [.slice ax X.length cx, .slice ay Y.length cy, .int .i64 md, .int .i64 (1 + li), .string ⟨⟨ho⟩⟩, .string ⟨#[]⟩, .int .i64 ea] 24 := (((((((Q1.set 0 (.slice ax X.length cx)).set 1 (.slice ay Y.length cy)).set 2 (.int .i64 md)).set 3 (.int .i64 (1 + li))).set 4 (.string ⟨⟨ho⟩⟩)).set 5 (.string ⟨#[]⟩)).set 6 (.int .i64 ea))
    have OF : Only w.heap.size w9 (((((((w9.setCell ⟨w.heap.size, 0, none⟩ (.slice ax X.length cx)).setCell ⟨w.heap.size, 1, none⟩ (.slice ay Y.length cy)).setCell ⟨w.heap.size, 2, none⟩ (.int .i64 md)).setCell ⟨w.heap.size, 3, none⟩ (.int .i64 (1 + li))).setCell ⟨w.heap.size, 4, none⟩ (.string ⟨⟨ho⟩⟩)).setCell ⟨w.heap.size, 5, none⟩ (.string ⟨#[]⟩)).setCell ⟨w.heap.size, 6, none⟩ (.int .i64 ea)) := (((((((Only.refl w.heap.size w9).trans (Only.setCell _ w.heap.size 0 _)).trans (Only.setCell _ w.heap.size 1 _)).trans (Only.setCell _ w.heap.size 2 _)).trans (Only.setCell _ w.heap.size 3 _)).trans (Only.setCell _ w.heap.size 4 _)).trans (Only.setCell _ w.heap.size 5 _)).trans (Only.setCell _ w.heap.size 6 _)
    have RR := RF.rangeG
    have rX := hide (pX.of_block (OF.block gx (by omega)))
    have rY := hide (pY.of_block (OF.block gy (by omega)))
    have dF := hide (show Dra (((((((w9.setCell ⟨w.heap.size, 0, none⟩ (.slice ax X.length cx)).setCell ⟨w.heap.size, 1, none⟩ (.slice ay Y.length cy)).setCell ⟨w.heap.size, 2, none⟩ (.int .i64 md)).setCell ⟨w.heap.size, 3, none⟩ (.int .i64 (1 + li))).setCell ⟨w.heap.size, 4, none⟩ (.string ⟨⟨ho⟩⟩)).setCell ⟨w.heap.size, 5, none⟩ (.string ⟨#[]⟩)).setCell ⟨w.heap.size, 6, none⟩ (.int .i64 ea)) s g a c xs _ from ⟨d10.S.of_block (OF.block s (by omega)), Rd.of_blockD d10.R (fun h => OF.block g (by have := lg h; omega)), d10.ne, d10.hb, d10.hl, d10.t0⟩)
    have bF := hide (show But s w (((((((w9.setCell ⟨w.heap.size, 0, none⟩ (.slice ax X.length cx)).setCell ⟨w.heap.size, 1, none⟩ (.slice ay Y.length cy)).setCell ⟨w.heap.size, 2, none⟩ (.int .i64 md)).setCell ⟨w.heap.size, 3, none⟩ (.int .i64 (1 + li))).setCell ⟨w.heap.size, 4, none⟩ (.string ⟨⟨ho⟩⟩)).setCell ⟨w.heap.size, 5, none⟩ (.string ⟨#[]⟩)).setCell ⟨w.heap.size, 6, none⟩ (.int .i64 ea)) from ⟨OF.os.trans b10.os, OF.tape.trans b10.tape, OF.output.trans b10.output, Nat.le_trans b10.size (Nat.le_of_eq OF.size.symm), fun k hk hne => (OF.block k (by omega)).trans (b10.block k hk hne)⟩)
    clear RF OF T1 Q1 pX pY d10 b10
    go_wp2
    exact bodyPost_ret (v := .agg #[.slice ax X.length cx, .slice ay Y.length cy, .int .i64 md, .int .i64 (1 + li), .string ⟨⟨ho⟩⟩, .string ⟨#[]⟩, .int .i64 ea]) (results_cellG Tryz.results27 _ _ w.heap.size _ dR rfl RR hdR hrowR iTs) rfl ⟨_, _, rfl, ⟨ax, cx, gx, X, ay, cy, gy, Y, md, 1 + li, ho, [], ea, rfl, ⟨rX.out, zX, kX, by rw [HXY.out.1]; decide, bX, by omega⟩, ⟨rY.out, zY, kY, by rw [HXY.out.2]; decide, bY, by omega⟩, by omega, by simp⟩, by omega, dF.out, bF.out⟩
end Go.Proofs.YtccnhdicibjbaaaGreat
namespace Go.Proofs.YtccnhdicibjbaaaGreat
open Go Go.RowKit
set_option maxRecDepth 100000 in
set_option maxHeartbeats 8000000 in
theorem lwSameState_same (w : World) (ax bx ay by' : Option Addr) (cx ex cy ey gx hx gy hy : Nat) (X Y : List Int) (md li ea : Int) (ho pr : List UInt8) (oX : Rd w gx ax .u8 X) (pX : Rd w hx bx .u8 X) (oY : Rd w gy ay .u8 Y) (pY : Rd w hy by' .u8 Y) :
    Calls Tryz.prog 10 #[.agg #[.slice ax X.length cx, .slice ay Y.length cy, .int .i64 md, .int .i64 li, .string ⟨⟨ho⟩⟩, .string ⟨⟨pr⟩⟩, .int .i64 ea], .agg #[.slice bx X.length ex, .slice by' Y.length ey, .int .i64 md, .int .i64 li, .string ⟨⟨ho⟩⟩, .string ⟨⟨pr⟩⟩, .int .i64 ea]] w fun e w' => e = .returned (.bool true) ∧ Below w.heap.size w w' := by
  have m1 : Below w.heap.size w (w.alloc (.cells #[.slice ax X.length cx, .slice ay Y.length cy, .int .i64 md, .int .i64 li, .string ⟨⟨ho⟩⟩, .string ⟨⟨pr⟩⟩, .int .i64 ea] 24)) := (Below.refl _ _).alloc (Nat.le_refl _) _
  have z1 : (w.alloc (.cells #[.slice ax X.length cx, .slice ay Y.length cy, .int .i64 md, .int .i64 li, .string ⟨⟨ho⟩⟩, .string ⟨⟨pr⟩⟩, .int .i64 ea] 24)).heap.size = w.heap.size + 1 := by simp
  have m2 : Below (w.alloc (.cells #[.slice ax X.length cx, .slice ay Y.length cy, .int .i64 md, .int .i64 li, .string ⟨⟨ho⟩⟩, .string ⟨⟨pr⟩⟩, .int .i64 ea] 24)).heap.size (w.alloc (.cells #[.slice ax X.length cx, .slice ay Y.length cy, .int .i64 md, .int .i64 li, .string ⟨⟨ho⟩⟩, .string ⟨⟨pr⟩⟩, .int .i64 ea] 24)) ((w.alloc (.cells #[.slice ax X.length cx, .slice ay Y.length cy, .int .i64 md, .int .i64 li, .string ⟨⟨ho⟩⟩, .string ⟨⟨pr⟩⟩, .int .i64 ea] 24)).alloc (.cells #[.slice bx X.length ex, .slice by' Y.length ey, .int .i64 md, .int .i64 li, .string ⟨⟨ho⟩⟩, .string ⟨⟨pr⟩⟩, .int .i64 ea] 24)) := (Below.refl _ _).alloc (Nat.le_refl _) _
  have n1 : Below w.heap.size w ((w.alloc (.cells #[.slice ax X.length cx, .slice ay Y.length cy, .int .i64 md, .int .i64 li, .string ⟨⟨ho⟩⟩, .string ⟨⟨pr⟩⟩, .int .i64 ea] 24)).alloc (.cells #[.slice bx X.length ex, .slice by' Y.length ey, .int .i64 md, .int .i64 li, .string ⟨⟨ho⟩⟩, .string ⟨⟨pr⟩⟩, .int .i64 ea] 24)) := m1.alloc (by omega) _
  have T0 : RwC ((w.alloc (.cells #[.slice ax X.length cx, .slice ay Y.length cy, .int .i64 md, .int .i64 li, .string ⟨⟨ho⟩⟩, .string ⟨⟨pr⟩⟩, .int .i64 ea] 24)).alloc (.cells #[.slice bx X.length ex, .slice by' Y.length ey, .int .i64 md, .int .i64 li, .string ⟨⟨ho⟩⟩, .string ⟨⟨pr⟩⟩, .int .i64 ea] 24)) w.heap.size [.slice ax X.length cx, .slice ay Y.length cy, .int .i64 md, .int .i64 li, .string ⟨⟨ho⟩⟩, .string ⟨⟨pr⟩⟩, .int .i64 ea] 24 := (RwC.new w _ _).up m2
  have Q0 : RwC ((w.alloc (.cells #[.slice ax X.length cx, .slice ay Y.length cy, .int .i64 md, .int .i64 li, .string ⟨⟨ho⟩⟩, .string ⟨⟨pr⟩⟩, .int .i64 ea] 24)).alloc (.cells #[.slice bx X.length ex, .slice by' Y.length ey, .int .i64 md, .int .i64 li, .string ⟨⟨ho⟩⟩, .string ⟨⟨pr⟩⟩, .int .i64 ea] 24)) (w.heap.size + 1) [.slice bx X.length ex, .slice by' Y.length ey, .int .i64 md, .int .i64 li, .string ⟨⟨ho⟩⟩, .string ⟨⟨pr⟩⟩, .int .i64 ea] 24 := by
    have h := RwC.new (w.alloc (.cells #[.slice ax X.length cx, .slice ay Y.length cy, .int .i64 md, .int .i64 li, .string ⟨⟨ho⟩⟩, .string ⟨⟨pr⟩⟩, .int .i64 ea] 24)) [.slice bx X.length ex, .slice by' Y.length ey, .int .i64 md, .int .i64 li, .string ⟨⟨ho⟩⟩, .string ⟨⟨pr⟩⟩, .int .i64 ea] 24
    rwa [z1] at h
  replace oX := oX.up n1
  replace oY := oY.up n1
  replace pX := pX.up n1
  replace pY := pY.up n1
  have N := hide n1
  clear m1 m2 n1
  go_enter Tryz.func10, Tryz.ntmps10
  go_upto_region 1 with fail
  try rw [z1]
  clear z1
  generalize (w.alloc (.cells #[.slice ax X.length cx, .slice ay Y.length cy, .int .i64 md, .int .i64 li, .string ⟨⟨ho⟩⟩, .string ⟨⟨pr⟩⟩, .int .i64 ea] 24)).alloc (.cells #[.slice bx X.length ex, .slice by' Y.length ey, .int .i64 md, .int .i64 li, .string ⟨⟨ho⟩⟩, .string ⟨⟨pr⟩⟩, .int .i64 ea] 24) = w1 at *
  have t0 : w1.cell? ⟨w.heap.size, 0, none⟩ = some (.slice ax X.length cx) := T0.cell 0
  have q0 : w1.cell? ⟨w.heap.size + 1, 0, none⟩ = some (.slice bx X.length ex) := Q0.cell 0
  have t1 : w1.cell? ⟨w.heap.size, 1, none⟩ = some (.slice ay Y.length cy) := T0.cell 1
  have q1 : w1.cell? ⟨w.heap.size + 1, 1, none⟩ = some (.slice by' Y.length ey) := Q0.cell 1
  have t2 : w1.cell? ⟨w.heap.size, 2, none⟩ = some (.int .i64 md) := T0.cell 2
  have q2 : w1.cell? ⟨w.heap.size + 1, 2, none⟩ = some (.int .i64 md) := Q0.cell 2
  have t3 : w1.cell? ⟨w.heap.size, 3, none⟩ = some (.int .i64 li) := T0.cell 3
  have q3 : w1.cell? ⟨w.heap.size + 1, 3, none⟩ = some (.int .i64 li) := Q0.cell 3
  have t4 : w1.cell? ⟨w.heap.size, 4, none⟩ = some (.string ⟨⟨ho⟩⟩) := T0.cell 4
  have q4 : w1.cell? ⟨w.heap.size + 1, 4, none⟩ = some (.string ⟨⟨ho⟩⟩) := Q0.cell 4
  have t5 : w1.cell? ⟨w.heap.size, 5, none⟩ = some (.string ⟨⟨pr⟩⟩) := T0.cell 5
  have q5 : w1.cell? ⟨w.heap.size + 1, 5, none⟩ = some (.string ⟨⟨pr⟩⟩) := Q0.cell 5
  have t6 : w1.cell? ⟨w.heap.size, 6, none⟩ = some (.int .i64 ea) := T0.cell 6
  have q6 : w1.cell? ⟨w.heap.size + 1, 6, none⟩ = some (.int .i64 ea) := Q0.cell 6
  have lx := lwSame_same w1 gx hx ax bx cx ex X oX pX
  have ly := lwSame_same w1 gy hy ay by' cy ey Y oY pY
  go_wp2_with fail
  refine lx.mono ?_
  rintro e w2 ⟨rfl, rfl⟩
  go_wp2_with fail
  refine ly.mono ?_
  rintro e w2 ⟨rfl, rfl⟩
  go_wp2
  go_ret
  exact ⟨rfl, N.out⟩
end Go.Proofs.YtccnhdicibjbaaaGreat
namespace Go.Proofs.YtccnhdicibjbaaaGreat
open Go Go.RowKit
def SD (w : World) (ax : Option Addr) (cx : Nat) (X : List Int) (ay : Option Addr) (cy : Nat) (Y : List Int) : Prop := ∃ gx gy, Rd w gx ax .u8 X ∧ (ax = none → cx = 0) ∧ Byt X ∧ Rd w gy ay .u8 Y ∧ (ay = none → cy = 0) ∧ Byt Y
theorem SD.up {w w' : World} {ax : Option Addr} {cx : Nat} {X : List Int} {ay : Option Addr} {cy : Nat} {Y : List Int} (h : SD w ax cx X ay cy Y) (n : Below w.heap.size w w') : SD w' ax cx X ay cy Y := by
  obtain ⟨gx, gy, h1, h2, h3, h4, h5, h6⟩ := h
  exact ⟨gx, gy, h1.up n, h2, h3, h4.up n, h5, h6⟩
def sV (ax : Option Addr) (cx nx : Nat) (ay : Option Addr) (cy ny : Nat) (md li : Int) (ho pr : List UInt8) (ea : Int) : Value := .agg #[.slice ax nx cx, .slice ay ny cy, .int .i64 md, .int .i64 li, .string ⟨⟨ho⟩⟩, .string ⟨⟨pr⟩⟩, .int .i64 ea]
theorem slC (w : World) (v1 v2 : Value) (ks ns : List Int) (h1 : DR w v1 ks) (h2 : DR w v2 ns) (b1 : Byt ks) (b2 : Byt ns) (md li : Int) (ho pr : List UInt8) (ea : Int) (ax : Option Addr) (cx : Nat) (X : List Int) (ay : Option Addr) (cy : Nat) (Y : List Int) (hS : SD w ax cx X ay cy Y) (hh : ho.length ≤ 1048576) (hp : pr.length ≤ 1048576) :
    Calls Tryz.prog 6 #[v1, v2, .agg #[.slice ax X.length cx, .slice ay Y.length cy, .int .i64 md, .int .i64 li, .string ⟨⟨ho⟩⟩, .string ⟨⟨pr⟩⟩, .int .i64 ea]] w fun e w' => ∃ v', e = .returned v' ∧ DR w' v' (slA ks ns (esA X Y md li ho pr ea)) ∧ Below w.heap.size w w' := by
  obtain ⟨a1, c1, g1, rfl, r1, p1, q1⟩ := h1
  obtain ⟨a2, c2, g2, rfl, r2, p2, q2⟩ := h2
  obtain ⟨gx, gy, x1, x2, x3, y1, y2, y3⟩ := hS
  refine (implSl_any w g1 a1 c1 ks r1 b1 q1 g2 a2 c2 ns r2 b2 p2 q2 md li ho pr ea gx ax cx X x1 x3 x2 gy ay cy Y y1 y3 y2 hh hp).mono ?_
  rintro e w' ⟨v, rfl, R, n⟩
  obtain ⟨a, c, g, rfl, r, z, k, -⟩ := R.rd
  exact ⟨_, rfl, ⟨a, c, g, rfl, r, z, k⟩, n⟩
theorem enC (w : World) (md li : Int) (ho pr : List UInt8) (ea : Int) (ax : Option Addr) (cx : Nat) (X : List Int) (ay : Option Addr) (cy : Nat) (Y : List Int) (hS : SD w ax cx X ay cy Y) (hh : ho.length ≤ 1048576) (hp : pr.length ≤ 1048576) :
    Calls Tryz.prog 15 #[.agg #[.slice ax X.length cx, .slice ay Y.length cy, .int .i64 md, .int .i64 li, .string ⟨⟨ho⟩⟩, .string ⟨⟨pr⟩⟩, .int .i64 ea]] w fun e w' => ∃ v', e = .returned v' ∧ DR w' v' (esA X Y md li ho pr ea) ∧ Below w.heap.size w w' := by
  obtain ⟨gx, gy, x1, x2, x3, y1, y2, y3⟩ := hS
  refine (implEnS_any w md li ho pr ea gx ax cx X x1 x2 gy ay cy Y y1 y2 hh hp).mono ?_
  rintro e w' ⟨v, rfl, R, n⟩
  obtain ⟨a, c, g, rfl, r, z, k, -⟩ := R.rd
  exact ⟨_, rfl, ⟨a, c, g, rfl, r, z, k⟩, n⟩
def OtA (w' : World) (e : Ending) (P : List Int) : Prop :=
  (dsB P = false ∧ ∃ v1 v2 md li ho pr ea a n c a' n' c', v1 = Value.slice a n c ∧ v2 = Value.slice a' n' c' ∧ e = .returned (.agg #[.bool false, v1, v2, .int .i64 md, .int .i64 li, .string ho, .string pr, .int .i64 ea])) ∨
  (dsB P = true ∧ ∃ ax cx ay cy, e = .returned (.agg #[.bool true, .slice ax (dX P).length cx, .slice ay (dY P).length cy, .int .i64 (dM P), .int .i64 (dL P), .string ⟨⟨dH P⟩⟩, .string ⟨⟨dP P⟩⟩, .int .i64 (dE P)]) ∧ SD w' ax cx (dX P) ay cy (dY P))
theorem otA_of {B : Nat} {w' : World} {e : Ending} {P : List Int} (hb : Byt P) (h : NewDE B w' e P) : OtA w' e P := by
  unfold NewDE at h
  cases g : dsB P with
  | false =>
    left
    rw [g] at h
    refine ⟨g, ?_⟩
    rcases h with ⟨a, c, gg, a', c', g', e, -⟩ | ⟨-, -, e⟩
    · exact ⟨_, _, _, _, _, _, _, _, _, _, _, _, _, rfl, rfl, e⟩
    · exact ⟨_, _, _, _, _, _, _, _, _, _, _, _, _, rfl, rfl, e⟩
  | true =>
    right
    unfold rX rY rM rL rH rP rE at h
    simp only [g, if_true] at h
    refine ⟨g, ?_⟩
    have l1 : (dX P).length = 32 := dX_len P
    have l2 : (dY P).length = 32 := dY_len P
    rcases h with ⟨a, c, gg, a', c', g', e, o, o', -⟩ | ⟨e1, -, -⟩
    · refine ⟨a, c, a', c', e, gg, g', o.rd, fun h => ?_, tkB_byt hb 0 32, o'.rd, fun h => ?_, tkB_byt hb 32 32⟩
      · obtain ⟨off, h', -⟩ := o (by omega)
        rw [h] at h'
        cases h'
      · obtain ⟨off, h', -⟩ := o' (by omega)
        rw [h] at h'
        cases h'
    · rw [e1] at l1
      simp at l1
theorem otC (w : World) (v1 v2 : Value) (ks ts : List Int) (h1 : DR w v1 ks) (h2 : DR w v2 ts) (b1 : Byt ks) (b2 : Byt ts) (hl : ts.length ≤ 1048576) (bP : Byt (otP ks ts)) :
    Calls Tryz.prog 8 #[v1, v2] w fun e w' => OtA w' e (otP ks ts) ∧ Below w.heap.size w w' := by
  obtain ⟨a1, c1, g1, rfl, r1, p1, q1⟩ := h1
  obtain ⟨a2, c2, g2, rfl, r2, p2, q2⟩ := h2
  exact (implOt_any w g1 a1 c1 ks r1 b1 q1 g2 a2 c2 ts r2 b2 q2 hl).mono (by rintro e w' ⟨h, n⟩; exact ⟨otA_of bP h, n⟩)
theorem specOtC (w : World) (v1 v2 : Value) (ks ts : List Int) (h1 : DR w v1 ks) (h2 : DR w v2 ts) (b1 : Byt ks) (b2 : Byt ts) (hl : ts.length ≤ 1048576) (bP : Byt (otP ks ts)) :
    Calls Tryz.prog 12 #[v1, v2] w fun e w' => OtA w' e (otP ks ts) ∧ Below w.heap.size w w' := by
  obtain ⟨a1, c1, g1, rfl, r1, p1, q1⟩ := h1
  obtain ⟨a2, c2, g2, rfl, r2, p2, q2⟩ := h2
  exact (specOt_any w g1 a1 c1 ks r1 b1 q1 g2 a2 c2 ts r2 b2 q2 hl).mono (by rintro e w' ⟨h, n⟩; exact ⟨otA_of bP h, n⟩)
theorem ssC (w : World) (md li : Int) (ho pr : List UInt8) (ea : Int) (ax bx ay by' : Option Addr) (cx ex cy ey : Nat) (X Y : List Int) (h1 : SD w ax cx X ay cy Y) (h2 : SD w bx ex X by' ey Y) :
    Calls Tryz.prog 10 #[.agg #[.slice ax X.length cx, .slice ay Y.length cy, .int .i64 md, .int .i64 li, .string ⟨⟨ho⟩⟩, .string ⟨⟨pr⟩⟩, .int .i64 ea], .agg #[.slice bx X.length ex, .slice by' Y.length ey, .int .i64 md, .int .i64 li, .string ⟨⟨ho⟩⟩, .string ⟨⟨pr⟩⟩, .int .i64 ea]] w fun e w' => e = .returned (.bool true) ∧ Below w.heap.size w w' := by
  obtain ⟨gx, gy, x1, -, -, y1, -, -⟩ := h1
  obtain ⟨hx, hy, x2, -, -, y2, -, -⟩ := h2
  exact lwSameState_same w ax bx ay by' cx ex cy ey gx hx gy hy X Y md li ea ho pr x1 x2 y1 y2
theorem otP_byt {ks ts : List Int} (h : Byt ts) : Byt (otP ks ts) := by
  unfold otP
  split
  · exact opL_bytT (byt_dropT h 12)
  · exact fun i => ⟨by simp, by simp⟩
end Go.Proofs.YtccnhdicibjbaaaGreat
