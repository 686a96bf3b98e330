
/-
  A ticket's state as bytes; the program's.
-/
import Derived.Test.YtjdbnlbmhnpifaaStF
import Derived.Test.YtjdbnlbmhnpifaaShA
import Derived.Test.YtjdbnlbmhnpifaaCtA
namespace Go.Proofs.Ytjdbnlbmhnpifaa
open Go Go.RowKit

theorem lsts_twoS (w : World) (t : TypeId) (l0 l1 : Lst) : Lsts (w.alloc (.cells #[.slice l0.a l0.xs.length l0.c, .slice l1.a l1.xs.length l1.c] t)) w.heap.size [l0, l1] := fun j l h => by
  have R := RwC.new w [.slice l0.a l0.xs.length l0.c, .slice l1.a l1.xs.length l1.c] t
  rcases (by have := (List.getElem?_eq_some_iff.1 h).1; simp at this; omega : j = 0 ∨ j = 1) with rfl | rfl
  · simp at h; subst h; exact R.cell 0
  · simp at h; subst h; exact R.cell 1
theorem cat2S (l0 l1 : Lst) : cat [l0, l1] = l0.xs ++ l1.xs := by simp [cat]
theorem RwC.at_base {w w' : World} {q B : Nat} {cs : List Value} {t : TypeId} (h : RwC w q cs t) (n : Below B w w') (hq : q < B) : RwC w' q cs t := (n.block q hq).trans h
theorem nameF_len {l : List UInt8} (h : nameF l = 0) : 1 ≤ l.length ∧ l.length ≤ 128 := by
  unfold nameF at h
  by_cases q : l.length < 1 ∨ 128 < l.length
  · rw [if_pos q] at h; exact absurd h (by decide)
  · omega
theorem sf0 {n n' : Nat} {md li : Int} {ho : List UInt8} {p : Nat} {ea : Int} (h : sfV n n' md li ho p ea = 0) : n = 32 ∧ n' = 32 ∧ (0 ≤ md ∧ md ≤ 253402300799) ∧ (1 ≤ li ∧ li ≤ 604800) ∧ (1 ≤ ho.length ∧ ho.length ≤ 128) ∧ p ≤ 32 ∧ (0 ≤ ea ∧ ea ≤ 4294967295) := by
  unfold sfV at h
  by_cases h0 : n ≠ 32 ∨ n' ≠ 32
  · rw [if_pos h0] at h; exact absurd h (by decide)
  rw [if_neg h0] at h
  by_cases h1 : isTm md = false
  · rw [if_pos h1] at h; exact absurd h (by decide)
  rw [if_neg h1] at h
  by_cases h2 : isLi li = false
  · rw [if_pos h2] at h; exact absurd h (by decide)
  rw [if_neg h2] at h
  by_cases h3 : nameF ho ≠ 0
  · rw [if_pos h3] at h; exact absurd h (by decide)
  rw [if_neg h3] at h
  by_cases h4 : 32 < p
  · rw [if_pos h4] at h; exact absurd h (by decide)
  rw [if_neg h4] at h
  by_cases h5 : isAg ea = false
  · rw [if_pos h5] at h; exact absurd h (by decide)
  exact ⟨by omega, by omega, (isTm_iff md).1 (by simpa using h1), (isLi_iff li).1 (by simpa using h2), nameF_len (by simpa using h3), by omega, (isAg_iff ea).1 (by simpa using h5)⟩
/-- A state's bytes. -/
def esL (X Y : List Int) (md li : Int) (ho pr : List UInt8) (ea : Int) : List Int := X ++ Y ++ bigL md 8 ++ bigL li 4 ++ bigL ea 4 ++ shL ho ++ shL pr
def esA (X Y : List Int) (md li : Int) (ho pr : List UInt8) (ea : Int) : List Int := if sfV X.length Y.length md li ho pr.length ea = 0 then esL X Y md li ho pr ea else []
theorem esL_len (X Y : List Int) (md li : Int) (ho pr : List UInt8) (ea : Int) : (esL X Y md li ho pr ea).length = X.length + Y.length + ho.length + pr.length + 18 := by
  unfold esL
  simp only [List.length_append, bigL_len, shL_len]
  omega
theorem esA_len (X Y : List Int) (md li : Int) (ho pr : List UInt8) (ea : Int) : (esA X Y md li ho pr ea).length ≤ 242 := by
  unfold esA
  by_cases h : sfV X.length Y.length md li ho pr.length ea = 0
  · have := sf0 h
    rw [if_pos h, esL_len]
    omega
  · rw [if_neg h]; simp
set_option maxHeartbeats 4000000 in
theorem implEnS_any (w : World) (md li : Int) (ho pr : List UInt8) (ea : Int) (g : Nat) (a : Option Addr) (c : Nat) (X : List Int) (hr : Rd w g a .u8 X) (hz : a = none → c = 0) (g' : Nat) (a' : Option Addr) (c' : Nat) (Y : List Int) (hr' : Rd w g' a' .u8 Y) (hz' : a' = none → c' = 0) (hh : ho.length ≤ 1048576) (hp : pr.length ≤ 1048576) :
    Calls Try.prog 12 #[.agg #[.slice a X.length c, .slice a' Y.length c', .int .i64 md, .int .i64 li, .string ⟨⟨ho⟩⟩, .string ⟨⟨pr⟩⟩, .int .i64 ea]] w fun e w' => ∃ v, e = .returned v ∧ RowB w' w.heap.size v (esA X Y md li ho pr ea) ∧ Below w.heap.size w w' := by
  have n1 : Below w.heap.size w (w.alloc (.cells #[.slice a X.length c, .slice a' Y.length c', .int .i64 md, .int .i64 li, .string ⟨⟨ho⟩⟩, .string ⟨⟨pr⟩⟩, .int .i64 ea] 27)) := (Below.refl _ _).alloc (Nat.le_refl _) _
  have P0 : RwC (w.alloc (.cells #[.slice a X.length c, .slice a' Y.length c', .int .i64 md, .int .i64 li, .string ⟨⟨ho⟩⟩, .string ⟨⟨pr⟩⟩, .int .i64 ea] 27)) w.heap.size [.slice a X.length c, .slice a' Y.length c', .int .i64 md, .int .i64 li, .string ⟨⟨ho⟩⟩, .string ⟨⟨pr⟩⟩, .int .i64 ea] 27 := RwC.new w _ _
  have SF := fun W => hide (implState_any W md li ho pr ea a X.length c a' Y.length c' hh hp)
  by_cases h0 : sfV X.length Y.length md li ho pr.length ea = 0
  · have e1 : Hid (esA X Y md li ho pr ea = esL X Y md li ho pr ea) := by show _ = _; unfold esA; rw [if_pos h0]
    have LS := hide (sf0 h0)
    rw [h0] at SF
    have N := n1
    have lq : w.heap.size < (w.alloc (.cells #[.slice a X.length c, .slice a' Y.length c', .int .i64 md, .int .i64 li, .string ⟨⟨ho⟩⟩, .string ⟨⟨pr⟩⟩, .int .i64 ea] 27)).heap.size := by simp
    rw [e1.out]
    clear e1 h0 hh hp
    go_enter Try.func12, Try.ntmps12
    go_wp2_with fail
    generalize w.alloc (.cells #[.slice a X.length c, .slice a' Y.length c', .int .i64 md, .int .i64 li, .string ⟨⟨ho⟩⟩, .string ⟨⟨pr⟩⟩, .int .i64 ea] 27) = wa at *
    refine (SF _).out.mono ?_
    rintro e w1 ⟨rfl, m1⟩
    replace N := nxt N m1
    replace P0 := P0.up m1
    replace lq := Nat.lt_of_lt_of_le lq m1.size
    have D0 := hr.up N
    have D1 := hr'.up N
    have n3 : Below w1.heap.size w1 (w1.alloc (.cells #[.slice a X.length c, .slice a' Y.length c'] 22)) := (Below.refl _ _).alloc (Nat.le_refl _) _
    have LT := lsts_twoS w1 22 ⟨g, a, c, X⟩ ⟨g', a', c', Y⟩
    have CC := concatB_any (w1.alloc (.cells #[.slice a X.length c, .slice a' Y.length c'] 22)) w1.heap.size 2 2 [⟨g, a, c, X⟩, ⟨g', a', c', Y⟩] rfl (by omega) LT (by
      intro x hx
      simp only [List.mem_cons, List.not_mem_nil, or_false] at hx
      rcases hx with rfl | rfl
      · exact ⟨D0.up n3, hz⟩
      · exact ⟨D1.up n3, hz'⟩) (by rw [cat2S, List.length_append]; have := LS.out; show 0 < X.length + Y.length; omega) (by rw [cat2S, List.length_append]; have := LS.out; show X.length + Y.length ≤ _; omega)
    rw [cat2S] at CC
    replace CC := hide CC
    have p0 : w1.cell? ⟨w.heap.size, 0, none⟩ = some (.slice a X.length c) := P0.cell 0
    have p1 : w1.cell? ⟨w.heap.size, 1, none⟩ = some (.slice a' Y.length c') := P0.cell 1
    clear D0 D1 LT hr hr' hz hz' SF m1 n1
    go_wp2_with fail
    refine CC.out.mono ?_
    rintro e w2 ⟨⟨v2, rfl, R2⟩, m2⟩
    have N2 := nxt n3 m2
    have zz := n3.size
    replace P0 := P0.up N2
    replace N := nxt N N2
    clear p0 p1 CC
    have zb := m2.size
    generalize hB : (w1.alloc (.cells #[.slice a X.length c, .slice a' Y.length c'] 22)).heap.size = B at *
    have hq : w.heap.size < B := by omega
    clear hB zz n3 m2 N2
    have AN := hide (appendNum_any w2 B v2 (X ++ Y) R2 (by omega) md 8 (by omega) (by simp only [List.length_append]; have := LS.out; omega))
    have p2 : w2.cell? ⟨w.heap.size, 2, none⟩ = some (.int .i64 md) := P0.cell 2
    go_wp2_with fail
    refine AN.out.mono ?_
    rintro e w3 ⟨v3, rfl, R3, m3⟩
    have z3 := m3.size
    replace P0 := P0.at_base m3 hq
    replace N := N.trans (m3.mono (by omega))
    clear AN p2 R2 m3
    have AN := hide (appendNum_any w3 B v3 (X ++ Y ++ bigL md 8) R3 (by omega) li 4 (by omega) (by simp only [List.length_append, bigL_len]; have := LS.out; omega))
    have p3 : w3.cell? ⟨w.heap.size, 3, none⟩ = some (.int .i64 li) := P0.cell 3
    go_wp2_with fail
    refine AN.out.mono ?_
    rintro e w4 ⟨v4, rfl, R4, m4⟩
    have z4 := m4.size
    replace P0 := P0.at_base m4 hq
    replace N := N.trans (m4.mono (by omega))
    clear AN p3 R3 m4
    have AN := hide (appendNum_any w4 B v4 (X ++ Y ++ bigL md 8 ++ bigL li 4) R4 (by omega) ea 4 (by omega) (by simp only [List.length_append, bigL_len]; have := LS.out; omega))
    have p6 : w4.cell? ⟨w.heap.size, 6, none⟩ = some (.int .i64 ea) := P0.cell 6
    go_wp2_with fail
    refine AN.out.mono ?_
    rintro e w5 ⟨v5, rfl, R5, m5⟩
    have z5 := m5.size
    replace P0 := P0.at_base m5 hq
    replace N := N.trans (m5.mono (by omega))
    clear AN p6 R4 m5
    have AN := hide (appendShort_any w5 B v5 (X ++ Y ++ bigL md 8 ++ bigL li 4 ++ bigL ea 4) R5 (by omega) ho (by simp only [List.length_append, bigL_len]; have := LS.out; omega) (by have := LS.out; omega))
    have p4 : w5.cell? ⟨w.heap.size, 4, none⟩ = some (.string ⟨⟨ho⟩⟩) := P0.cell 4
    go_wp2_with fail
    refine AN.out.mono ?_
    rintro e w6 ⟨v6, rfl, R6, m6⟩
    have z6 := m6.size
    replace P0 := P0.at_base m6 hq
    replace N := N.trans (m6.mono (by omega))
    clear AN p4 R5 m6
    have AN := hide (appendShort_any w6 B v6 (X ++ Y ++ bigL md 8 ++ bigL li 4 ++ bigL ea 4 ++ shL ho) R6 (by omega) pr (by simp only [List.length_append, bigL_len, shL_len]; have := LS.out; omega) (by have := LS.out; omega))
    have p5 : w6.cell? ⟨w.heap.size, 5, none⟩ = some (.string ⟨⟨pr⟩⟩) := P0.cell 5
    go_wp2_with fail
    refine AN.out.mono ?_
    rintro e w7 ⟨v7, rfl, R7, m7⟩
    have z7 := m7.size
    replace P0 := P0.at_base m7 hq
    replace N := N.trans (m7.mono (by omega))
    clear AN p5 R6 m7
    go_wp2
    go_ret
    exact ⟨_, rfl, R7.base (by omega), N⟩
  · have e1 : Hid (esA X Y md li ho pr ea = []) := by show _ = _; unfold esA; rw [if_neg h0]
    rw [e1.out]
    generalize sfV X.length Y.length md li ho pr.length ea = R at *
    clear e1 hr hr' hz hz' hh hp
    go_enter Try.func12, Try.ntmps12
    go_wp2_with fail
    generalize w.alloc (.cells #[.slice a X.length c, .slice a' Y.length c', .int .i64 md, .int .i64 li, .string ⟨⟨ho⟩⟩, .string ⟨⟨pr⟩⟩, .int .i64 ea] 27) = wa at *
    refine (SF _).out.mono ?_
    rintro e w1 ⟨rfl, m1⟩
    have N := nxt n1 m1
    go_wp2
    go_ret
    exact ⟨_, rfl, RowB.nilN _ _, N⟩
end Go.Proofs.Ytjdbnlbmhnpifaa
