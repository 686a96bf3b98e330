
/-
  Names that are drawn.
-/
import Derived.Test.YtheggghidhjplaaStA
import Derived.Test.YtheggghidhjplaaDrL
namespace Go.Proofs.Ytheggghidhjplaa
open Go Go.RowKit

/-- A source that may be asked. -/
structure Dra (w : World) (s g : Nat) (a : Option Addr) (c : Nat) (xs : List Int) (t : Int) : Prop where
  S : Src w s a xs.length c t
  R : Rd w g a .u8 xs
  ne : 0 < xs.length → g ≠ s
  hb : Byt xs
  hl : xs.length ≤ 1048576
  t0 : 0 ≤ t
theorem Dra.up {w w' : World} {s g : Nat} {a : Option Addr} {c : Nat} {xs : List Int} {t : Int} (h : Dra w s g a c xs t) (n : Below w.heap.size w w') : Dra w' s g a c xs t := ⟨h.S.up n, h.R.up n, h.ne, h.hb, h.hl, h.t0⟩
theorem next_D {w : World} {s g : Nat} {a : Option Addr} {c : Nat} {xs : List Int} {t n : Int} (d : Dra w s g a c xs t) (t1 : t ≤ 1048576) (n0 : 1 ≤ n) (n1 : n ≤ 1048576) :
    Calls Try.prog 63 #[.pointer (some ⟨s, 0, none⟩), .int .i64 n] w fun e w' => ∃ r : Nat, e = .returned (.int .i64 (r : Int)) ∧ (r : Int) < n ∧ Dra w' s g a c xs (t + 1) ∧ But s w w' := by
  refine (l1Next_any w s g a c xs t n d.S d.R d.ne d.hb d.hl d.t0 t1 n0 n1).mono ?_
  rintro e w' ⟨r, rfl, ⟨h0, h1⟩, S, O⟩
  obtain ⟨k, rfl⟩ := Int.eq_ofNat_of_zero_le h0
  have B := But.ofOnly O
  exact ⟨k, rfl, h1, ⟨S, d.R.but B d.ne, d.ne, d.hb, d.hl, by have := d.t0; omega⟩, B⟩
theorem chance_D {w : World} {s g : Nat} {a : Option Addr} {c : Nat} {xs : List Int} {t n : Int} (d : Dra w s g a c xs t) (t1 : t ≤ 1048576) (n0 : 1 ≤ n) (n1 : n ≤ 1048576) :
    Calls Try.prog 64 #[.pointer (some ⟨s, 0, none⟩), .int .i64 n] w fun e w' => ∃ b, e = .returned (.bool b) ∧ Dra w' s g a c xs (t + 1) ∧ But s w w' := by
  refine (l1Chance_any w s g a c xs t n d.S d.R d.ne d.hb d.hl d.t0 t1 n0 n1).mono ?_
  rintro e w' ⟨b, rfl, S, O⟩
  have B := But.ofOnly O
  exact ⟨b, rfl, ⟨S, d.R.but B d.ne, d.ne, d.hb, d.hl, by have := d.t0; omega⟩, B⟩
/-- The names to choose from. -/
def poolA : List (List UInt8) := [[101, 120, 97, 109, 112, 108, 101], [97, 46, 101, 120, 97, 109, 112, 108, 101], [98, 46, 101, 120, 97, 109, 112, 108, 101], [115, 104, 111, 112, 46, 101, 120, 97, 109, 112, 108, 101], [119, 119, 119, 46, 115, 104, 111, 112, 46, 101, 120, 97, 109, 112, 108, 101], [120, 46, 119, 119, 119, 46, 115, 104, 111, 112, 46, 101, 120, 97, 109, 112, 108, 101], [109, 97, 105, 108, 46, 97, 46, 101, 120, 97, 109, 112, 108, 101], [97, 46, 98], [111, 116, 104, 101, 114], [48, 45, 49, 46, 98, 46, 101, 120, 97, 109, 112, 108, 101]]
theorem poolA_len : ∀ i, i < 10 → (poolA.getD i []).length ≤ 18 := by decide
set_option maxRecDepth 100000 in
set_option maxHeartbeats 1000000 in
theorem l11Pool_any (w : World) : Calls Try.prog 102 #[] w fun e w' => e = .returned (.slice (some ⟨w.heap.size, 0, none⟩) 10 10) ∧ BlkT w' w.heap.size poolA ∧ Below w.heap.size w w' := by
  have HB : Hid (BlkT (w.alloc (.cells (poolA.map tx).toArray 9)) w.heap.size poolA) := heap_alloc_new w _
  have HN : Hid (Below w.heap.size w (w.alloc (.cells (poolA.map tx).toArray 9))) := (Below.refl _ _).alloc (Nat.le_refl _) _
  simp only [poolA, List.map_cons, List.map_nil, tx] at HB HN
  go_enter Try.func102, Try.ntmps102
  go_wp2
  go_ret
  exact ⟨rfl, HB.out, HN.out⟩
set_option maxHeartbeats 4000000 in
theorem drawName_D {w : World} {s g : Nat} {a : Option Addr} {c : Nat} {xs : List Int} {t : Int} (d : Dra w s g a c xs t) (t1 : t ≤ 1000000) :
    Calls Try.prog 62 #[.pointer (some ⟨s, 0, none⟩)] w fun e w' => ∃ (l : List UInt8) (u : Int), e = .returned (.string ⟨⟨l⟩⟩) ∧ l.length ≤ 70 ∧ u ≤ t + 3 ∧ Dra w' s g a c xs u ∧ But s w w' := by
  have D0 := hide d
  clear d
  go_enter Try.func62, Try.ntmps62
  go_wp2_with fail
  refine (l11Pool_any w).mono ?_
  rintro e w1 ⟨rfl, B1, n1⟩
  have D1 := hide (D0.out.up n1)
  have U1 : Hid (But s w w1) := But.ofBelow n1
  have slt : Hid (s < w.heap.size) := D0.out.S.lt
  go_wp2_with fail
  refine (next_D D1.out (by omega) (by omega) (by omega)).mono ?_
  rintro e w2 ⟨r, rfl, hr, d2, b2⟩
  have D2 := hide d2
  have U2 := hide (U1.out.trans b2)
  have B2 : BlkT w2 w.heap.size poolA := (b2.block w.heap.size B1.lt (by have := slt.out; omega)).trans B1
  have c2 := B2.cell (i := r) (by show r < 10; omega)
  have pl := poolA_len r (by omega)
  generalize poolA.getD r [] = x at *
  have xs' := tx_size x
  unfold tx at c2
  have hr2 : (r : Int) < 10 := by omega
  clear d2 b2 B1 B2 n1 D1 U1 D0 slt
  go_wp2_with fail
  refine (next_D D2.out (by omega) (by omega) (by omega)).mono ?_
  rintro e w3 ⟨k, rfl, hk, d3, b3⟩
  have D3 := hide d3
  have U3 := hide (U2.out.trans b3)
  clear d3 b3 c2 hr D2 U2
  by_cases k0 : k = 0
  · subst k0
    rw [show ((0 : Nat) : Int) = 0 from rfl]
    have ad : ∀ W : World, (Op.stringOp .add (ByteArray.mk #[120, 46]) (ByteArray.mk ⟨x⟩)).run Try.prog W = .ok (.string ⟨⟨120 :: 46 :: x⟩⟩) W := fun W => tx_add W [120, 46] x (by simp; omega)
    go_wp2
    go_ret
    exact ⟨120 :: 46 :: x, _, rfl, by simp; omega, by omega, D3.out, U3.out⟩
  · have e0 : ((k : Int) == 0) = false := by simp; omega
    by_cases k1 : k = 1
    · subst k1
      rw [show ((1 : Nat) : Int) = 1 from rfl]
      go_wp2_with fail
      refine (next_D D3.out (by omega) (by omega) (by omega)).mono ?_
      rintro e w4 ⟨m, rfl, hm, d4, b4⟩
      have D4 := hide d4
      have U4 := hide (U3.out.trans b4)
      clear d4 b4 D3 U3 e0
      go_wp2
      go_loopw [4, 6] (fun v i wr => wr = w4 ∧ ∃ (l : List UInt8) (j : Nat), v = .string ⟨⟨l⟩⟩ ∧ i = .int .i64 j ∧ l.length + j ≤ 64) (fun _ i _ => (intOf i).toNat)
      case atStart => exact ⟨rfl, [], 62 + m, rfl, by go_num, by simp; omega⟩
      case round =>
        obtain ⟨e1, l, j, rfl, rfl, hl⟩ := hrel
        subst e1
        by_cases hj : j = 0
        · subst hj
          rw [show ((0 : Nat) : Int) = 0 from rfl]
          go_wp2
          go_ret
          exact ⟨l, _, rfl, by omega, by omega, D4.out, U4.out⟩
        · have tj : decide ((0 : Int) < (j : Int)) = true := decide_eq_true (by omega)
          have tj' : 0 < j := by omega
          have ad : ∀ W : World, (Op.stringOp .add (ByteArray.mk ⟨l⟩) (ByteArray.mk #[113])).run Try.prog W = .ok (.string ⟨⟨l ++ [113]⟩⟩) W := fun W => tx_add W l [113] (by simp; omega)
          have sj : IntKind.i64.wrap ((j : Int) - 1) = ((j - 1 : Nat) : Int) := by rw [IntKind.wrap_i64]; omega
          have sj' : wrap64 ((j : Int) - 1) = ((j - 1 : Nat) : Int) := by unfold wrap64; omega
          go_wp2
          go_roundw
          case rel => exact ⟨by simp, l ++ [113], j - 1, rfl, by first | rfl | go_num, by simp; omega⟩
          case measure => simp [intOf]; omega
    · have e1 : ((k : Int) == 1) = false := by simp; omega
      go_wp2
      go_ret
      exact ⟨x, _, rfl, by omega, by omega, D3.out, U3.out⟩
end Go.Proofs.Ytheggghidhjplaa
