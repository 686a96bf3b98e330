
/-
  The program's state of a hash as it is told (written by gens/hq.py).
-/
import Derived.Test.YtljpjbojdekeiaaDoorHe32
import Derived.Test.YtljpjbojdekeiaaDoorSh32
namespace Go.Proofs.YtljpjbojdekeiaaDoor
set_option maxRecDepth 100000
open Go Go.RowKit

set_option maxHeartbeats 1000000 in
theorem clone_any (w : World) (g : Nat) (ad : Addr) (c : Nat) (xs : List Int) (hr : Rd w g (some ad) .u8 xs) (hn : xs.length ≤ 1048576) :
    Calls Tryd.prog 87 #[.slice (some ad) xs.length c] w fun e w' => NewRow w.heap.size w' e .u8 xs ∧ Below w.heap.size w w' := by
  obtain ⟨i0, hi, hz0, hz1, hz2⟩ := info_parts Tryd.info5
  have n0 : Below w.heap.size w (w.alloc (.cells #[] 5)) := (Below.refl _ _).alloc (Nat.le_refl _) _
  obtain ⟨v', w2, hap, o2, n2⟩ := append_any (P := Tryd.prog) (w.alloc (.cells #[] 5)) 22 i0 Tryd.underlying22 hi hz0 hz1 hz2 w.heap.size w.heap.size _ _ (RowB.lit0 w) g (some ad) c xs (hr.up n0) (by simp) (by simp; omega) (Nat.le_refl _) n0.size
  rw [List.nil_append] at o2
  obtain ⟨a3, c3, g3, rfl, o3, p3, q3, r3⟩ := o2.own
  have NE : ∀ W, (binOp BinOp.eql 22 (.slice (some ad) xs.length c) (.slice none 0 0)).run Tryd.prog W = .ok (.bool false) W := fun W => by kernel_rfl
  go_enter Tryd.func87, Tryd.ntmps87
  go_wp2_with (at_builtin; refine Lib.wpList_append_run _ rfl _ _ 22 22 rfl _ _ rfl rfl _ _ hap ?_)
  go_ret
  exact ⟨⟨a3, c3, g3, rfl, o3, p3, q3, r3⟩, n0.trans n2⟩

/-- A list that the call made. -/
def RNh (B : Nat) (ys : List Int) : Fact := ⟨fun v w => ∃ (a : Option Addr) (c g : Nat), v = .slice a ys.length c ∧ Own w g a .u8 ys ∧ (a = none → c = 0) ∧ ys.length ≤ c ∧ B ≤ g, fun n h => by
  obtain ⟨a, c, g, e, o, q⟩ := h
  exact ⟨a, c, g, e, o.up n, q⟩⟩
/-- A state that the call made: its length, its words, its rest. -/
def ST3 (w : World) (v : Value) (B : Nat) (L : Int) (ws rs : List Int) : Prop :=
  ∃ (a a' : Option Addr) (c c' g g' : Nat), v = .agg #[.int .i64 L, .slice a ws.length c, .slice a' rs.length c'] ∧ Own w g a .u8 ws ∧ Own w g' a' .u8 rs ∧ (a = none → c = 0) ∧ (a' = none → c' = 0) ∧ ws.length ≤ c ∧ rs.length ≤ c' ∧ B ≤ g ∧ B ≤ g'
theorem ST3.up {w w' : World} {v : Value} {B : Nat} {L : Int} {ws rs : List Int} (h : ST3 w v B L ws rs) (n : Below w.heap.size w w') : ST3 w' v B L ws rs := by
  obtain ⟨a, a', c, c', g, g', e, o, o', q⟩ := h
  exact ⟨a, a', c, c', g, g', e, o.up n, o'.up n, q⟩
def STh (B : Nat) (L : Int) (ws rs : List Int) : Fact := ⟨fun v w => ST3 w v B L ws rs, fun n h => h.up n⟩
theorem buH (w : World) (L : Int) (a a' : Option Addr) (m m' c c' : Nat) : (Instr.build 26 #[(0, .int .i64 L), (1, .slice a m c), (2, .slice a' m' c')]).run Tryd.prog w = .ok (.agg #[.int .i64 L, .slice a m c, .slice a' m' c']) w := by kernel_rfl
theorem step_b3 {ops : Array Oper} {Q : Exit → Act → World → Prop} {md : Region.Mode} {F : Nat → Fact} {a0 : Act} {w0 : World} {i : Nat} {o : Oper} {B : Nat} {L : Int} {ws rs : List Int} (hi : ops[i]? = some o) (p q r j k l : Nat) (hop : o.op = .build 26 #[(0, .tmp p), (1, .tmp q), (2, .tmp r)])
    (hj : waits md ops i j p = true) (hk : waits md ops i k q = true) (hl : waits md ops i l r = true) (hFj : F j = Fact.eq (.int .i64 L)) (hFk : F k = RNh B ws) (hFl : F l = RNh B rs) (hFi : F i = STh B L ws rs) : StepOk Tryd.prog md ops Q F a0 w0 i := by
  refine step_pure hi fun a w _ _ hf => ?_
  have h1 := hf j p hj
  have h2 := hf k q hk
  have h3 := hf l r hl
  rw [hFj] at h1
  rw [hFk] at h2
  rw [hFl] at h3
  have x1 : a.eval (.tmp p) = .int .i64 L := h1
  obtain ⟨a1, c1, g1, e7, o1, p1, q1, r1⟩ := h2
  obtain ⟨a2, c2, g2, e12, o2, p2, q2, r2⟩ := h3
  have x2 : a.eval (.tmp q) = .slice a1 ws.length c1 := e7
  have x3 : a.eval (.tmp r) = .slice a2 rs.length c2 := e12
  refine ⟨.agg #[.int .i64 L, .slice a1 ws.length c1, .slice a2 rs.length c2], ?_, by rw [hFi]; exact ⟨a1, a2, c1, c2, g1, g2, rfl, o1, o2, p1, p2, q1, q2, r1, r2⟩⟩
  have gg : (#[(0, Operand.tmp p), (1, Operand.tmp q), (2, Operand.tmp r)].map fun (n, x) => (n, a.eval x)) = #[(0, Value.int .i64 L), (1, .slice a1 ws.length c1), (2, .slice a2 rs.length c2)] := by simp [x1, x2, x3]
  simp only [execOp, hop, gg]
  rw [Sem.run_bind, buH]
  rfl
theorem one3 (L : Int) (a a' : Option Addr) (m m' c c' : Nat) : ([.int .i64 L, .slice a m c, .slice a' m' c'] : List Value).toArray.all (·.oneCell') = true := all_oneCell_toArray fun v hv => by
  simp only [List.mem_cons, List.not_mem_nil, or_false] at hv
  rcases hv with rfl | rfl | rfl
  all_goals rfl
theorem iSt : (Tryd.prog.info? 26).map (·.size) = some 3 := by kernel_rfl
theorem rowSt : ∃ d, Tryd.prog.underlying 26 = some d ∧ d.isRow = true := ⟨_, Tryd.underlying26, rfl⟩
theorem there3 {w : World} {q : Nat} {x y z : Value} {t : TypeId} (h : w.heap[q]? = some (.cells #[x, y, z] t (0, 0))) : w.there q 0 3 := fun j hj => by
  rw [Nat.zero_add, cell_of_row _ _ _ _ _ _ h, frozen_of_row _ _ _ _ _ h]
  refine ⟨?_, rfl⟩
  obtain rfl | rfl | rfl : j = 0 ∨ j = 1 ∨ j = 2 := by omega
  all_goals rfl
theorem there_upn {W W' : World} {q n : Nat} (hn : 0 < n) (h : W.there q 0 n) (k : Below W.heap.size W W') : W'.there q 0 n := by
  have h0 := (h 0 hn).1
  rw [Option.isSome_iff_exists] at h0
  obtain ⟨v, hv⟩ := h0
  have l := block_lt_of_cell hv
  intro j hj
  rw [World.cell?_of_block (a := ⟨q, 0 + j, none⟩) (k.block q l), World.frozen?_of_block (a := ⟨q, 0 + j, none⟩) (k.block q l)]
  exact h j hj
/-- A region that ends with the storing of a row of which a fact tells. -/
theorem region_putF {P : Program} {ops : Array Oper} {Q : Exit → Act → World → Prop} {a0 : Act} {id : Nat} {draw : Bool} {w : World} (k jV pD pV : Nat) (o : Oper) (F : Nat → Fact) (q off : Nat) (ty : TypeId) (hm : P.follows .mixedOrders = true) (hT : textOk .any ops a0.tmps.size k = true) (hk : ops[k]? = some o) (hd : o.dst = none)
    (hop : o.op = .store ty (.tmp pD) (.tmp pV)) (hp : apart ops pD = true) (h0 : a0.tmps.getD pD undef = .pointer (some ⟨q, off, none⟩)) (wV : writes ops jV pV = true) (steps : ∀ i, i < k → StepOk P .any ops Q F a0 w i)
    (fin : ∀ (vs : Nat → Value) (W : World) (v : Value), Below w.heap.size w W → (F jV).p v W → ∃ cells : List Value, v = .agg cells.toArray ∧ W.there q off cells.length ∧ (P.info? ty).map (·.size) = some cells.length ∧ cells.toArray.all (·.oneCell') = true ∧ Q .normal (puts vs a0 ops.toList) (W.setCells q off cells)) : (Code.region id ops draw).wp P Q a0 w := by
  refine region_store k o F hm hT hk hd steps fun a W hb hw hF => ?_
  obtain ⟨vs, hvs⟩ : ∃ vs : Nat → Value, ∀ d, a.tmps.getD d undef = vs d := ⟨_, fun _ => rfl⟩
  obtain ⟨cells, hc, ht, hi, h1, hQ⟩ := fin vs W (a.tmps.getD pV undef) hw (hF jV pV wV)
  refine wp_store_mid ty (.tmp pD) (.tmp pV) hop q off cells.toArray ((based_at hb pD hp).trans h0) hc (by rw [List.size_toArray]; exact ht) (by rw [List.size_toArray]; exact hi) h1 ?_
  rw [hd]
  show Q .normal a _
  rw [puts_of hT rfl hb vs hvs]
  exact hQ
set_option maxHeartbeats 4000000 in
theorem told_32 (w : World) (L : Nat) (C : S8) (R : List Int) (hl : R.length = 128) (hC : Ok32 C) (hL : L ≤ 1099511627776) :
    Calls Tryd.prog 55 #[.agg (hcl .u32 (L : Int) C R).toArray] w fun e w' => (∃ v, e = .returned v ∧ ST3 w' v w.heap.size (L : Int) (tell32 C) (R.take (L % 64))) ∧ Below w.heap.size w w' := by
  have n0 : Below w.heap.size w (w.alloc (.cells (hcl .u32 (L : Int) C R).toArray 63)) := (Below.refl _ _).alloc (Nat.le_refl _) _
  have H0 := HB.alloc .u32 w 63 (L : Int) C hl
  have z0 : (w.alloc (.cells (hcl .u32 (L : Int) C R).toArray 63)).heap.size = w.heap.size + 1 := by simp
  have LH := hcl_len .u32 (L : Int) C hl
  have RS := fun W => restSize_32 W (L : Int) C R hl (by omega)
  have rz : (L : Int) % 64 = ((L % 64 : Nat) : Int) := by omega
  rw [rz] at RS
  generalize hv : hcl .u32 (L : Int) C R = vs at *
  obtain ⟨d, hd, hrow⟩ := rowH_32
  obtain ⟨d3, hd3, hrow3⟩ := rowSt
  obtain ⟨rs, hrs⟩ : ∃ l, l = R.take (L % 64) := ⟨_, rfl⟩
  have rl : rs.length = L % 64 := by rw [hrs, List.length_take]; omega
  have rr : ∀ W, HB .u32 W w.heap.size (L : Int) C R → Rd W w.heap.size (some ⟨w.heap.size, 9, none⟩) .u8 rs := fun W h _ => ⟨9, rfl, fun i hi => by
    have := (h.rs i (by omega)).1
    rw [hrs, List.getD_eq_getElem?_getD, List.getElem?_take, if_pos (by omega), ← List.getD_eq_getElem?_getD]
    exact this⟩
  have rm : L % 64 < 64 := by omega
  rw [← hrs]
  have RL := hide rl
  clear hrs rl
  generalize L % 64 = m at *
  go_enter Tryd.func55, Tryd.ntmps55
  go_upto_region 1 with fail
  generalize w.alloc (.cells vs.toArray 63) = wa at *
  have n1 : Below wa.heap.size wa (wa.alloc (.cells #[.int .i64 0, .slice none 0 0, .slice none 0 0] 26)) := (Below.refl _ _).alloc (Nat.le_refl _) _
  have TH : (wa.alloc (.cells #[.int .i64 0, .slice none 0 0, .slice none 0 0] 26)).there (w.heap.size + 1) 0 3 := there3 (x := .int .i64 0) (y := .slice none 0 0) (z := .slice none 0 0) (t := 26) (by rw [← z0]; show (wa.heap.push _)[wa.heap.size]? = _; simp)
  have H1 := H0.up n1
  have N1 := nxt n0 n1
  have zb : w.heap.size + 1 < (wa.alloc (.cells #[.int .i64 0, .slice none 0 0, .slice none 0 0] 26)).heap.size := by simp; omega
  generalize wa.alloc (.cells #[.int .i64 0, .slice none 0 0, .slice none 0 0] 26) = wb at *
  clear n0 n1 H0 z0
  have rk : (m : Int) ≤ 128 := by omega
  refine region_putF 11 10 2 13 _ (fun i => [Fact.eq (.pointer (some ⟨w.heap.size, 0, none⟩)), Fact.eq (.int .i64 (L : Int)), Fact.eq (.pointer (some ⟨w.heap.size, 1, none⟩)), Fact.eq (ag8 .u32 C), RNh wb.heap.size (tell32 C), Fact.eq (.pointer (some ⟨w.heap.size, 9, none⟩)), Fact.eq (.agg vs.toArray), Fact.eq (.int .i64 (m : Int)), Fact.eq (.slice (some ⟨w.heap.size, 9, none⟩) m 128), RNh wb.heap.size rs, STh wb.heap.size (L : Int) (tell32 C) rs].getD i Fact.no) (w.heap.size + 1) 0 26 (by kernel_rfl) (by kernel_rfl) rfl rfl rfl (by kernel_rfl) rfl (by kernel_rfl) ?_ ?_
  · skip
    intro i hi
    obtain rfl | rfl | rfl | rfl | rfl | rfl | rfl | rfl | rfl | rfl | rfl : i = 0 ∨ i = 1 ∨ i = 2 ∨ i = 3 ∨ i = 4 ∨ i = 5 ∨ i = 6 ∨ i = 7 ∨ i = 8 ∨ i = 9 ∨ i = 10 := by omega
    · refine step_pure rfl fun a ww hb hw hf => ?_
      have e1 : a.tmps[1]?.getD undef = .pointer (some ⟨w.heap.size, 0, none⟩) := gdv (hb.2.2 1 (by kernel_rfl))
      exact ⟨.pointer (some ⟨w.heap.size, 0, none⟩), by simp [go_sem, e1], rfl⟩
    · refine step_pure rfl fun a ww hb hw hf => ?_
      have e3 : a.tmps[3]?.getD undef = .pointer (some ⟨w.heap.size, 0, none⟩) := gdv (hf 0 3 (by kernel_rfl))
      have hc := (H1.up hw).c0
      exact ⟨.int .i64 (L : Int), by simp [go_sem, e3, hc], rfl⟩
    · refine step_pure rfl fun a ww hb hw hf => ?_
      have e1 : a.tmps[1]?.getD undef = .pointer (some ⟨w.heap.size, 0, none⟩) := gdv (hb.2.2 1 (by kernel_rfl))
      exact ⟨.pointer (some ⟨w.heap.size, 1, none⟩), by simp [go_sem, e1], rfl⟩
    · refine step_load rfl 60 (.tmp 5) rfl (.array 8 57) 8 row8_32 rfl info8_32 fun a ww hb hw hf => ⟨_, 1, C.l.map (Value.int .u32), hf 2 5 (by kernel_rfl), (H1.up hw).ch.range, by rw [List.length_map]; rfl, rfl⟩
    · refine step_callv rfl 86 _ _ rfl (by kernel_rfl) fun a ww hb hw hf => ?_
      have e6 : a.tmps.getD 6 undef = ag8 .u32 C := hf 3 6 (by kernel_rfl)
      show Calls Tryd.prog 86 #[a.tmps.getD 6 undef] ww _
      rw [e6]
      exact (bytes_32 ww C hC).mono (by rintro r w' ⟨⟨a1, c1, g1, rfl, o1, p1, q1, r1⟩, n⟩; exact ⟨_, rfl, n, a1, c1, g1, rfl, o1, p1, q1, Nat.le_trans hw.size r1⟩)
    · refine step_pure rfl fun a ww hb hw hf => ?_
      have e1 : a.tmps[1]?.getD undef = .pointer (some ⟨w.heap.size, 0, none⟩) := gdv (hb.2.2 1 (by kernel_rfl))
      exact ⟨.pointer (some ⟨w.heap.size, 9, none⟩), by simp [go_sem, e1], rfl⟩
    · refine step_load rfl 63 (.tmp 1) rfl d 137 hd hrow infoH_32 fun a ww hb hw hf => ⟨_, 0, vs, hb.2.2 1 (by kernel_rfl), by rw [← hv]; exact (H1.up hw).range, LH, rfl⟩
    · refine step_callv rfl 82 _ _ rfl (by kernel_rfl) fun a ww hb hw hf => ?_
      have e9 : a.tmps.getD 9 undef = .agg vs.toArray := hf 6 9 (by kernel_rfl)
      show Calls Tryd.prog 82 #[a.tmps.getD 9 undef] ww _
      rw [e9]
      exact (RS ww).mono (by rintro r w' ⟨rfl, n⟩; exact ⟨_, rfl, n, rfl⟩)
    · refine step_pure rfl fun a ww hb hw hf => ?_
      have e8 : a.tmps[8]?.getD undef = .pointer (some ⟨w.heap.size, 9, none⟩) := gdv (hf 5 8 (by kernel_rfl))
      have e10 : a.tmps[10]?.getD undef = .int .i64 (m : Int) := gdv (hf 7 10 (by kernel_rfl))
      exact ⟨.slice (some ⟨w.heap.size, 9, none⟩) m 128, by simp [go_sem, e8, e10, rk], rfl⟩
    · refine step_callv rfl 87 _ _ rfl (by kernel_rfl) fun a ww hb hw hf => ?_
      have e11 : a.tmps.getD 11 undef = .slice (some ⟨_, 9, none⟩) m 128 := hf 8 11 (by kernel_rfl)
      show Calls Tryd.prog 87 #[a.tmps.getD 11 undef] ww _
      rw [e11, ← RL.out]
      exact (clone_any ww _ _ 128 rs (rr ww (H1.up hw)) (by rw [RL.out]; omega)).mono (by rintro r w' ⟨⟨a1, c1, g1, rfl, o1, p1, q1, r1⟩, n⟩; exact ⟨_, rfl, n, a1, c1, g1, rfl, o1, p1, q1, Nat.le_trans hw.size r1⟩)
    · exact step_b3 rfl 4 7 12 1 4 9 rfl (by kernel_rfl) (by kernel_rfl) (by kernel_rfl) rfl rfl rfl rfl
  intro vs6 W v hw hv3
  have hv3 : ST3 W v wb.heap.size (L : Int) (tell32 C) rs := hv3
  obtain ⟨a1, a2, c1, c2, g1, g2, rfl, o1, o2, p1, p2, q1, q2, r1, r2⟩ := hv3
  have th := there_upn (by omega) TH hw
  refine ⟨[.int .i64 (L : Int), .slice a1 (tell32 C).length c1, .slice a2 rs.length c2], rfl, th, iSt, one3 _ _ _ _ _ _ _, ?_⟩
  have RR := World.rangeAt_setCells_same W (w.heap.size + 1) 0 [.int .i64 (L : Int), .slice a1 (tell32 C).length c1, .slice a2 rs.length c2] th
  have OQ := only_setCells W (w.heap.size + 1) [.int .i64 (L : Int), .slice a1 (tell32 C).length c1, .slice a2 rs.length c2] 0
  have N2 : Below w.heap.size w (W.setCells (w.heap.size + 1) 0 [.int .i64 (L : Int), .slice a1 (tell32 C).length c1, .slice a2 rs.length c2]) := (nxt N1 hw).trans (OQ.below (by omega))
  have o1' := o1.only OQ (fun _ => by omega)
  have o2' := o2.only OQ (fun _ => by omega)
  generalize W.setCells (w.heap.size + 1) 0 [.int .i64 (L : Int), .slice a1 (tell32 C).length c1, .slice a2 rs.length c2] = W2 at *
  simp only [puts, Act.put, List.setIfInBounds_toArray, List.set_cons_succ, List.set_cons_zero]
  clear o1 o2 OQ th TH H1 N1 rr RS
  go_wp2
  exact bodyPost_ret (v := .agg #[.int .i64 (L : Int), .slice a1 (tell32 C).length c1, .slice a2 rs.length c2]) (results_cell_m Tryd.results55 _ _ (w.heap.size + 1) _ d3 rfl RR hd3 hrow3 iSt) rfl ⟨⟨_, rfl, a1, a2, c1, c2, g1, g2, rfl, o1', o2', p1, p2, q1, q2, by omega, by omega⟩, N2⟩

set_option maxHeartbeats 4000000 in
theorem implStart (w : World) (hS : HasT w 0 stL) :
    Calls Tryd.prog 18 #[] w fun e w' => (∃ v, e = .returned v ∧ ST3 w' v w.heap.size 0 (tell32 start32) []) ∧ Below w.heap.size w w' := by
  obtain ⟨d3, hd3, hrow3⟩ := rowSt
  have n0 : Below w.heap.size w (w.alloc (.cells #[.int .i64 0, .slice none 0 0, .slice none 0 0] 26)) := (Below.refl _ _).alloc (Nat.le_refl _) _
  have TH : (w.alloc (.cells #[.int .i64 0, .slice none 0 0, .slice none 0 0] 26)).there w.heap.size 0 3 := there3 (x := .int .i64 0) (y := .slice none 0 0) (z := .slice none 0 0) (t := 26) (by show (w.heap.push _)[w.heap.size]? = _; simp)
  have z0 : (w.alloc (.cells #[.int .i64 0, .slice none 0 0, .slice none 0 0] 26)).heap.size = w.heap.size + 1 := by simp
  have TD := fun W => hide (told_32 W 0 start32 (List.replicate 128 0) (by simp) start_ok32 (by decide))
  rw [Nat.zero_mod, List.take_zero] at TD
  have NH := fun W h => hide (newHashing_32 W h)
  have e0 : ((0 : Nat) : Int) = 0 := rfl
  rw [e0] at TD
  generalize hcl .u32 0 start32 (List.replicate 128 0) = vs at *
  go_enter Tryd.func18, Tryd.ntmps18
  go_upto_region 1 with fail
  generalize w.alloc (.cells #[.int .i64 0, .slice none 0 0, .slice none 0 0] 26) = wa at *
  go_wp2_with fail
  refine (NH wa (hS.up n0)).out.mono ?_
  rintro r w1 ⟨rfl, n1⟩
  go_wp2_with fail
  refine (TD w1).out.mono ?_
  rintro r w2 ⟨⟨v, rfl, a1, a2, c1, c2, g1, g2, rfl, o1, o2, p1, p2, q1, q2, r1, r2⟩, n2⟩
  have N2 := nxt (nxt n0 n1) n2
  have th := there_upn (by omega) TH (nxt n1 n2)
  have z1 := n1.size
  have RR := World.rangeAt_setCells_same w2 w.heap.size 0 [.int .i64 0, .slice a1 (tell32 start32).length c1, .slice a2 ([] : List Int).length c2] th
  have OQ := only_setCells w2 w.heap.size [.int .i64 0, .slice a1 (tell32 start32).length c1, .slice a2 ([] : List Int).length c2] 0
  have N3 : Below w.heap.size w (w2.setCells w.heap.size 0 [.int .i64 0, .slice a1 (tell32 start32).length c1, .slice a2 ([] : List Int).length c2]) := N2.trans (OQ.below (Nat.le_refl _))
  have o1' := o1.only OQ (fun _ => by omega)
  clear TD NH n1 n2 TH n0 N2 o1 OQ
  obtain ⟨tl, htl⟩ : ∃ n, (tell32 start32).length = n := ⟨_, rfl⟩
  rw [htl] at q1 RR N3 o1' ⊢
  have TLh := hide htl
  clear htl
  go_wp2_with (refine wpList_store_mid rfl 26 (.tmp 0) (.tmp 2) rfl w.heap.size 0 #[.int .i64 0, .slice a1 tl c1, .slice a2 0 c2] rfl rfl ?hth ?hin ?hon ?_)
  case hth => exact th
  case hin => exact iSt
  case hon => exact one3 _ _ _ _ _ _ _
  exact bodyPost_ret (v := .agg #[.int .i64 0, .slice a1 tl c1, .slice a2 0 c2]) (results_cell_m Tryd.results18 _ _ w.heap.size _ d3 rfl RR hd3 hrow3 iSt) rfl ⟨⟨_, rfl, a1, a2, c1, c2, g1, g2, by rw [TLh.out]; rfl, o1', Own.nil _ _ _ _, p1, p2, by rw [TLh.out]; exact q1, q2, by omega, by omega⟩, N3⟩
end Go.Proofs.YtljpjbojdekeiaaDoor
