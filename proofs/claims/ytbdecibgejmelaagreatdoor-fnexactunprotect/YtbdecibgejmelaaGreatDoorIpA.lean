
/-
  The inside of a record: its fault, and its bytes with the padding; the program's.
-/
import Derived.Test.YtbdecibgejmelaaGreatDoorRcA
import Derived.Test.YtbdecibgejmelaaGreatDoorCtA
import Derived.Test.YtbdecibgejmelaaGreatDoorRgV
import Derived.Deep.Cut
namespace Go.Proofs.YtbdecibgejmelaaGreatDoor
set_option maxRecDepth 100000
open Go Go.RowKit

/-- An inside's fault. -/
def ifV (a1 a6 a7 : Addr) (k : Int) (n : Nat) : Value := if isK k = true then (if 2048 < n then erV a6 else if n = 0 ∧ k ≠ 23 then erV a7 else .nilIface) else erV a1
set_option maxHeartbeats 1000000 in
theorem partFault_any (w : World) (k : Int) (a : Option Addr) (n c : Nat) (a1 a6 a7 : Addr) (h1 : Sen w 5 a1) (h6 : Sen w 6 a6) (h7 : Sen w 7 a7) :
    Calls Tryz.prog 46 #[.agg #[.int .i64 k, .slice a n c]] w fun e w' => e = .returned (ifV a1 a6 a7 k n) ∧ Below w.heap.size w w' := by
  have n0 : Below w.heap.size w (w.alloc (.cells #[.int .i64 k, .slice a n c] 65)) := (Below.refl _ _).alloc (Nat.le_refl _) _
  have c1 := (h1.up n0).c
  have c6 := (h6.up n0).c
  have c7 := (h7.up n0).c
  have KD := fun W => hide (isKind_any W k)
  obtain ⟨v, hv⟩ : ∃ v, v = ifV a1 a6 a7 k n := ⟨_, rfl⟩
  rw [← hv]
  unfold erV at c1 c6 c7
  by_cases hk : isK k = true
  · rw [hk] at KD
    by_cases hm : 2048 < n
    · have e : Hid (v = .iface 216 (.pointer (some a6))) := by show _ = _; rw [hv, ifV, if_pos hk, if_pos hm]; rfl
      have q1 : decide ((2048 : Int) < (n : Int)) = true := by simp; omega
      clear hv h1 h6 h7 hk
      go_enter Tryz.func46, Tryz.ntmps46
      go_wp2_with fail
      refine (KD _).out.mono ?_
      rintro e w' ⟨rfl, rfl⟩
      go_wp2
      go_ret
      exact ⟨by rw [e.out]; rfl, n0⟩
    · have q1 : decide ((2048 : Int) < (n : Int)) = false := by simp; omega
      by_cases h0 : n = 0
      · subst h0
        by_cases h23 : k = 23
        · subst h23
          have e : Hid (v = .nilIface) := by show _ = _; rw [hv, ifV, if_pos hk, if_neg hm, if_neg (by simp)]
          clear hv h1 h6 h7 hk hm
          go_enter Tryz.func46, Tryz.ntmps46
          go_wp2_with fail
          refine (KD _).out.mono ?_
          rintro e w' ⟨rfl, rfl⟩
          go_wp2
          go_ret
          exact ⟨by rw [e.out]; rfl, n0⟩
        · have e : Hid (v = .iface 216 (.pointer (some a7))) := by show _ = _; rw [hv, ifV, if_pos hk, if_neg hm, if_pos ⟨rfl, h23⟩]; rfl
          have q3 : (k != 23) = true := by simp [h23]
          have q4 : decide (k = 23) = false := by simp [h23]
          clear hv h1 h6 h7 hk hm
          go_enter Tryz.func46, Tryz.ntmps46
          go_wp2_with fail
          refine (KD _).out.mono ?_
          rintro e w' ⟨rfl, rfl⟩
          go_wp2
          go_ret
          exact ⟨by rw [e.out]; rfl, n0⟩
      · have e : Hid (v = .nilIface) := by show _ = _; rw [hv, ifV, if_pos hk, if_neg hm, if_neg (fun q => h0 q.1)]
        have q3 : decide ((n : Int) = 0) = false := by simp; omega
        have q4 : ((n : Int) == 0) = false := by simp; omega
        clear hv h1 h6 h7 hk hm h0
        go_enter Tryz.func46, Tryz.ntmps46
        go_wp2_with fail
        refine (KD _).out.mono ?_
        rintro e w' ⟨rfl, rfl⟩
        go_wp2
        go_ret
        exact ⟨by rw [e.out]; rfl, n0⟩
  · have e : Hid (v = .iface 216 (.pointer (some a1))) := by show _ = _; rw [hv, ifV, if_neg hk]; rfl
    have hk' : isK k = false := by simpa using hk
    rw [hk'] at KD
    clear hv h1 h6 h7 hk hk'
    go_enter Tryz.func46, Tryz.ntmps46
    go_wp2_with fail
    refine (KD _).out.mono ?_
    rintro e w' ⟨rfl, rfl⟩
    go_wp2
    go_ret
    exact ⟨by rw [e.out]; rfl, n0⟩
/-- An owned row that the walk made since. -/
def Rbg (b : Nat) (xs : List Int) : Fact := ⟨fun v w => RowB w b v xs, fun n h => h.up n⟩
/-- Three lists in a row. -/
def B3g (l0 : Lst) (xs ys : List Int) : Fact :=
  ⟨fun v w => ∃ (b g : Nat) (a : Option Addr) (c g' : Nat) (a' : Option Addr) (c' : Nat), v = .slice (some ⟨b, 0, none⟩) 3 3 ∧ Lsts w b [l0, ⟨g, a, c, xs⟩, ⟨g', a', c', ys⟩] ∧ (Rd w g a .u8 xs ∧ (a = none → c = 0)) ∧ (Rd w g' a' .u8 ys ∧ (a' = none → c' = 0)), fun n h => by
    obtain ⟨b, g, a, c, g', a', c', e, l, r, z⟩ := h
    exact ⟨b, g, a, c, g', a', c', e, l.up n, ⟨r.1.up n, r.2⟩, ⟨z.1.up n, z.2⟩⟩⟩
theorem bs3_runN (w : World) (a1 a2 a3 : Option Addr) (n1 n2 n3 c1 c2 c3 : Nat) : (Instr.buildSlice 51 3 #[(0, .slice a1 n1 c1), (1, .slice a2 n2 c2), (2, .slice a3 n3 c3)]).run Tryz.prog w = .ok (.slice (some ⟨w.heap.size, 0, none⟩) 3 3) (w.alloc (.cells #[.slice a1 n1 c1, .slice a2 n2 c2, .slice a3 n3 c3] 22)) := by
  kernel_rfl
theorem lsts_threeN (w : World) (t : TypeId) (a b c : Lst) : Lsts (w.alloc (.cells #[.slice a.a a.xs.length a.c, .slice b.a b.xs.length b.c, .slice c.a c.xs.length c.c] t)) w.heap.size [a, b, c] := by
  intro j x hj
  match j, hj with
  | 0, hj => simp at hj; subst hj; simp [World.cell?_alloc_at]
  | 1, hj => simp at hj; subst hj; simp [World.cell?_alloc_at]
  | 2, hj => simp at hj; subst hj; simp [World.cell?_alloc_at]
theorem step_bs3N {ops : Array Oper} {Q : Exit → Act → World → Prop} {md : Region.Mode} {F : Nat → Fact} {a0 : Act} {w0 : World} {i : Nat} {o : Oper} {B B' : Nat} {xs ys : List Int} {l0 : Lst} (hi : ops[i]? = some o) (p q s j k m : Nat) (hop : o.op = .buildSlice 51 3 #[(0, .tmp p), (1, .tmp q), (2, .tmp s)])
    (hj : waits md ops i j p = true) (hk : waits md ops i k q = true) (hm : waits md ops i m s = true) (hFj : F j = Fact.eq (.slice l0.a l0.xs.length l0.c)) (hFk : F k = Rbg B xs) (hFm : F m = Rbg B' ys) (hFi : F i = B3g l0 xs ys) : StepOk Tryz.prog md ops Q F a0 w0 i := by
  refine step_grow hi fun a w _ _ hf => ?_
  have h1 := hf j p hj
  have h2 := hf k q hk
  have h3 := hf m s hm
  rw [hFj] at h1
  rw [hFk] at h2
  rw [hFm] at h3
  obtain ⟨a2, c2, g2, e2, r2, z2, _, _⟩ := RowB.rd h2
  obtain ⟨a3, c3, g3, e3, r3, z3, _, _⟩ := RowB.rd h3
  have x1 : a.eval (.tmp p) = .slice l0.a l0.xs.length l0.c := h1
  have x2 : a.eval (.tmp q) = .slice a2 xs.length c2 := e2
  have x3 : a.eval (.tmp s) = .slice a3 ys.length c3 := e3
  have gg : (#[(0, Operand.tmp p), (1, Operand.tmp q), (2, Operand.tmp s)].map fun (n, x) => (n, a.eval x)) = #[(0, Value.slice l0.a l0.xs.length l0.c), (1, .slice a2 xs.length c2), (2, .slice a3 ys.length c3)] := by simp [x1, x2, x3]
  have n9 : Below w.heap.size w (w.alloc (.cells #[.slice l0.a l0.xs.length l0.c, .slice a2 xs.length c2, .slice a3 ys.length c3] 22)) := (Below.refl _ _).alloc (Nat.le_refl _) _
  refine ⟨.slice (some ⟨w.heap.size, 0, none⟩) 3 3, _, ?_, n9, ?_⟩
  · simp only [execOp, hop, gg]
    rw [Sem.run_bind, bs3_runN]
    rfl
  · rw [hFi]
    exact ⟨w.heap.size, g2, a2, c2, g3, a3, c3, rfl, lsts_threeN w 22 l0 ⟨g2, a2, c2, xs⟩ ⟨g3, a3, c3, ys⟩, ⟨r2.up n9, z2⟩, ⟨r3.up n9, z3⟩⟩
theorem step_makeN {ops : Array Oper} {Q : Exit → Act → World → Prop} {md : Region.Mode} {F : Nat → Fact} {a0 : Act} {w0 : World} {i : Nat} {o : Oper} {n : Nat} (hn : n ≤ 1048576) (hi : ops[i]? = some o) (p j : Nat) (hop : o.op = .makeSlice 22 (.tmp p) (.tmp p)) (hj : waits md ops i j p = true) (hFj : F j = Fact.eq (.int .i64 (n : Int))) (hF : F i = Rbg w0.heap.size (List.replicate n 0)) : StepOk Tryz.prog md ops Q F a0 w0 i := by
  obtain ⟨i0, h1, hz0, hz1, hz2⟩ := info_parts Tryz.info5
  refine step_grow hi fun a w _ hw hf => ?_
  have h2 := hf j p hj
  rw [hFj] at h2
  have x1 : a.eval (.tmp p) = .int .i64 (n : Int) := h2
  obtain ⟨w', hrun, hown, hgrow⟩ := run_make_full (P := Tryz.prog) w w.heap.size 22 5 i0 (.int .u8 0) 1 Tryz.underlying22 h1 hz0 hz1 .i64 .i64 n (by rw [hz2]; omega) (by unfold maxLen; omega) (Nat.le_refl _)
  have hN0 : Below w.heap.size w w' := (Below.refl _ _).grown hgrow (Nat.le_refl _) (by simp)
  refine ⟨.slice (some ⟨w.heap.size, 0, none⟩) n n, w', by simp [execOp, hop, hrun, x1], hN0, ?_⟩
  rw [hF]
  have R : RowB w' w.heap.size (.slice (some ⟨w.heap.size, 0, none⟩) n n) (List.replicate n 0) := by
    unfold RowB
    rw [List.length_replicate]
    have e : (madeCells (Value.int .u8 0).cells (n * 1)).toList = List.map (Value.int .u8) (List.replicate n 0) := by simp [madeCells, Value.cells, Nat.mod_one, List.map_const']
    rw [← e]
    exact hown
  exact R.base hw.size
/-- The inside's bytes. -/
def inL (k : Int) (xs : List Int) (pad : Nat) : List Int := xs ++ (bigL k 1 ++ List.replicate pad 0)
theorem inL_len (k : Int) (xs : List Int) (pad : Nat) : (inL k xs pad).length = xs.length + 1 + pad := by simp [inL, bigL_len]; omega
theorem cat3N (a b c : Lst) : cat [a, b, c] = a.xs ++ (b.xs ++ c.xs) := by simp [cat]
set_option maxHeartbeats 4000000 in
theorem padded_any (w : World) (k : Int) (l0 : Lst) (r0 : Rd w l0.g l0.a .u8 l0.xs) (z0 : l0.a = none → l0.c = 0) (m0 : l0.xs.length ≤ 1048576) (pad : Nat) (hp : pad ≤ 1048576) :
    Calls Tryz.prog 47 #[.agg #[.int .i64 k, .slice l0.a l0.xs.length l0.c], .int .i64 (pad : Int)] w fun e w' => ∃ v, e = .returned v ∧ RowB w' w.heap.size v (inL k l0.xs pad) ∧ Below w.heap.size w w' := by
  have N : Below w.heap.size w (w.alloc (.cells #[.int .i64 k, .slice l0.a l0.xs.length l0.c] 65)) := (Below.refl _ _).alloc (Nat.le_refl _) _
  have k0 : (w.alloc (.cells #[.int .i64 k, .slice l0.a l0.xs.length l0.c] 65)).cell? ⟨w.heap.size, 0, none⟩ = some (.int .i64 k) := by simp [World.cell?_alloc_at]
  have k1 : (w.alloc (.cells #[.int .i64 k, .slice l0.a l0.xs.length l0.c] 65)).cell? ⟨w.heap.size, 1, none⟩ = some (.slice l0.a l0.xs.length l0.c) := by simp [World.cell?_alloc_at]
  have r0 := r0.up N
  go_enter Tryz.func47, Tryz.ntmps47
  go_upto_region 1 with fail
  generalize w.alloc (.cells #[.int .i64 k, .slice l0.a l0.xs.length l0.c] 65) = wb at *
  have ql := block_lt_of_cell k0
  have cu : ∀ {W : World}, Below wb.heap.size wb W → ∀ i, W.cell? ⟨w.heap.size, i, none⟩ = wb.cell? ⟨w.heap.size, i, none⟩ := fun n i => World.cell?_of_block (a := ⟨w.heap.size, i, none⟩) (n.block w.heap.size ql)
  refine region_end 10 (fun i => [Fact.eq (.pointer (some ⟨w.heap.size, 1, none⟩)), Fact.eq (.slice l0.a l0.xs.length l0.c), Fact.eq (.pointer (some ⟨w.heap.size, 0, none⟩)), Fact.eq (.int .i64 k), Rbg wb.heap.size (bigL k 1), Fact.eq (.int .i64 (pad : Int)), Rbg wb.heap.size (List.replicate pad 0), B3g l0 (bigL k 1) (List.replicate pad 0), Rbg wb.heap.size (inL k l0.xs pad), Rbg wb.heap.size (inL k l0.xs pad)].getD i Fact.no) (by kernel_rfl) (by kernel_rfl) rfl ?_ ?_
  · intro i hi
    obtain rfl | rfl | rfl | rfl | rfl | rfl | rfl | rfl | rfl | rfl : i = 0 ∨ i = 1 ∨ i = 2 ∨ i = 3 ∨ i = 4 ∨ i = 5 ∨ i = 6 ∨ i = 7 ∨ i = 8 ∨ i = 9 := by omega
    · refine step_pure rfl fun A ww hb hw hf => ?_
      have e0 : A.tmps[2]?.getD undef = .pointer (some ⟨w.heap.size, 0, none⟩) := gdv (hb.2.2 2 (by kernel_rfl))
      exact ⟨.pointer (some ⟨w.heap.size, 1, none⟩), by simp [go_sem, e0], rfl⟩
    · refine step_pure rfl fun A ww hb hw hf => ?_
      have e0 : A.tmps[5]?.getD undef = .pointer (some ⟨w.heap.size, 1, none⟩) := gdv (hf 0 5 (by kernel_rfl))
      have hc : ww.cell? ⟨w.heap.size, 1, none⟩ = some (.slice l0.a l0.xs.length l0.c) := (cu hw 1).trans k1
      exact ⟨.slice l0.a l0.xs.length l0.c, by simp [go_sem, e0, hc], rfl⟩
    · refine step_pure rfl fun A ww hb hw hf => ?_
      have e0 : A.tmps[2]?.getD undef = .pointer (some ⟨w.heap.size, 0, none⟩) := gdv (hb.2.2 2 (by kernel_rfl))
      exact ⟨.pointer (some ⟨w.heap.size, 0, none⟩), by simp [go_sem, e0], rfl⟩
    · refine step_pure rfl fun A ww hb hw hf => ?_
      have e0 : A.tmps[7]?.getD undef = .pointer (some ⟨w.heap.size, 0, none⟩) := gdv (hf 2 7 (by kernel_rfl))
      have hc : ww.cell? ⟨w.heap.size, 0, none⟩ = some (.int .i64 k) := (cu hw 0).trans k0
      exact ⟨.int .i64 k, by simp [go_sem, e0, hc], rfl⟩
    · refine step_callv rfl 72 _ _ rfl (by kernel_rfl) fun A ww hb hw hf => ?_
      have e6 : A.tmps.getD 8 undef = .int .i64 k := hf 3 8 (by kernel_rfl)
      show Calls Tryz.prog 72 #[.slice none 0 0, A.tmps.getD 8 undef, .int .i64 1] ww _
      rw [e6]
      refine (appendNum_any ww ww.heap.size (.slice none 0 0) [] (RowB.nilN ww _) (Nat.le_refl _) k 1 (by decide) (by simp)).mono ?_
      rintro r w' ⟨x, rfl, R, n⟩
      exact ⟨x, rfl, n, R.base hw.size⟩
    · refine step_pure rfl fun A ww hb hw hf => ?_
      have e0 : A.tmps[1]?.getD undef = .int .i64 (pad : Int) := gdv (hb.2.2 1 (by kernel_rfl))
      exact ⟨.int .i64 (pad : Int), by simp [go_sem, e0], rfl⟩
    · exact step_makeN hp rfl 10 5 rfl (by kernel_rfl) rfl rfl
    · exact step_bs3N rfl 6 9 11 1 4 6 rfl (by kernel_rfl) (by kernel_rfl) (by kernel_rfl) rfl rfl rfl rfl
    · refine step_callv rfl 71 _ _ rfl (by kernel_rfl) fun A ww hb hw hf => ?_
      obtain ⟨b, g, a, c, g', a', c', e16, L, R, Z⟩ := hf 7 12 (by kernel_rfl)
      show Calls Tryz.prog 71 #[A.tmps.getD 12 undef] ww _
      rw [e16]
      have lb := bigL_len k 1
      have CC := concatB_any ww b 3 3 [l0, ⟨g, a, c, bigL k 1⟩, ⟨g', a', c', List.replicate pad 0⟩] rfl (by omega) L (by
        intro x hx
        simp only [List.mem_cons, List.not_mem_nil, or_false] at hx
        rcases hx with rfl | rfl | rfl
        · exact ⟨r0.up hw, z0⟩
        · exact R
        · exact Z) (by rw [cat3N]; simp only [List.length_append]; omega) (by rw [cat3N]; simp only [List.length_append, List.length_replicate]; omega)
      rw [cat3N] at CC
      exact CC.mono (by rintro r w' ⟨⟨x, rfl, R'⟩, n⟩; exact ⟨x, rfl, n, R'.base hw.size⟩)
    · refine step_pure rfl fun A ww hb hw hf => ?_
      have e17 := hf 8 13 (by kernel_rfl)
      exact ⟨A.tmps.getD 13 undef, by simp [go_sem], e17⟩
  intro A W hb hw hF
  have e2 := hF 9 4 (by kernel_rfl)
  obtain ⟨vs, hvs⟩ : ∃ vs : Nat → Value, ∀ d, A.tmps.getD d undef = vs d := ⟨_, fun _ => rfl⟩
  rw [hvs] at e2
  rw [puts_of (md := .any) (k := 10) (by kernel_rfl) rfl hb vs hvs]
  clear hb hF hvs k0 k1 r0 z0 cu
  simp only [puts, Act.put, List.setIfInBounds_toArray, List.set_cons_succ, List.set_cons_zero]
  generalize vs 4 = v2 at *
  go_wp2
  go_ret
  exact ⟨_, rfl, RowB.base (show RowB W wb.heap.size v2 _ from e2) N.size, nxt N hw⟩
end Go.Proofs.YtbdecibgejmelaaGreatDoor
