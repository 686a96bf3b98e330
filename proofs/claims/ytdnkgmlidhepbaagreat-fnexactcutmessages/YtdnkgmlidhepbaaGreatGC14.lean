import Derived.Test.YtdnkgmlidhepbaaGreatGC13
import Derived.Deep.RegionHeld3
import Derived.Test.YtdnkgmlidhepbaaGreatGC7
import Derived.Test.YtdnkgmlidhepbaaGreatGC8
import Derived.Deep.RegionLaw
import Derived.Deep.DeepMust
import Derived.Test.YtdnkgmlidhepbaaGreatGC3
import Derived.Test.YtdnkgmlidhepbaaGreatGC1
import Derived.Deep.QuietTactic
import Derived.BigQuiet
import Derived.Test.YtdnkgmlidhepbaaGreatGC4
import Derived.Test.YtdnkgmlidhepbaaGreatGC6
import Derived.Test.YtdnkgmlidhepbaaGreatGC12
namespace Go.Proofs.YtdnkgmlidhepbaaGreat
open Go Go.RowKit
theorem step_append_exM {P : Program} {ops : Array Oper} {o : Oper} {a : Act} {w : World} {K : Act → World → Prop} {Q : Exit → Act → World → Prop} {E : Prop} (hg : o.guard = none) (s x : Operand) (t tn : TypeId)
    (ho : o.op = .call { callee := .builtin .append, args := #[s, x], argTypes := #[t, tn] }) (vs vx : Value) (hs : a.eval s = vs) (hx : a.eval x = vx) (R : Value → World → Prop)
    (H : ∃ v' w', (Builtin.append_ #[t, tn] o.type #[vs, vx]).run P w = .ok v' w' ∧ R v' w') (hK : ∀ v' w', R v' w' → K (a.put o.dst v') w') :
    if Region.wanted o (yielded ops a.tmps) = true then Oper.wp P o a w K Q else E := by
  have hw : Region.wanted o (yielded ops a.tmps) = true := by simp [Region.wanted, hg]
  rw [if_pos hw]
  obtain ⟨v', w', hr, hR⟩ := H
  exact Lib.wp_append_run w s x t tn ho vs vx hs hx v' w' hr (hK v' w' hR)
structure Gr (w : World) (cs : List Value) (W : World) (v : Value) (xs : List Int) : Prop where
  n : Below w.heap.size w W
  c : RwC W w.heap.size cs 26
  r : RowB W (w.heap.size + 1) v xs
theorem Gr.up {w W W' : World} {cs : List Value} {v : Value} {xs : List Int} (h : Gr w cs W v xs) (m : Below W.heap.size W W') : Gr w cs W' v xs := ⟨nxt h.n m, h.c.up m, h.r.up m⟩
theorem Gr.app {w W : World} {cs : List Value} {v : Value} {xs : List Int} (h : Gr w cs W v xs) (g : Nat) (a : Option Addr) (c : Nat) (us : List Int) (hr : Rd W g a .u8 us) (hc : a = none → c = 0) (hl : xs.length + us.length ≤ 1099511627776) :
    ∃ v' w', (Builtin.append_ #[22, 22] 22 #[v, .slice a us.length c]).run Tryz.prog W = .ok v' w' ∧ (Gr w cs w' v' (xs ++ us) ∧ Below (w.heap.size + 1) W w') := by
  obtain ⟨i0, hi, hz0, hz1, hz2⟩ := info_parts Tryz.info5
  have l := h.c.lt
  obtain ⟨v', w', h1, h2, h3⟩ := append_any (P := Tryz.prog) W 22 i0 Tryz.underlying22 hi hz0 hz1 hz2 (w.heap.size + 1) (w.heap.size + 1) v xs h.r g a c us hr hc hl (Nat.le_refl _) (by omega)
  exact ⟨v', w', h1, ⟨h.n.trans (h3.mono (by omega)), (h3.block w.heap.size (by omega)).trans h.c, h2⟩, h3⟩
theorem Gr.list {w W : World} {cs : List Value} {v : Value} {xs : List Int} (h : Gr w cs W v xs) {l : Lst} (H : LstR w l) : LstR W l := H.up h.n
theorem Gr.start (w : World) (cs : List Value) : Gr w cs ((w.alloc (.cells cs.toArray 26)).alloc (.cells #[] 5)) (.slice (some ⟨w.heap.size + 1, 0, none⟩) 0 0) [] := by
  obtain ⟨n, c, r⟩ := boxed w cs 26
  exact ⟨n, c, r⟩
theorem Gr.body {w W : World} {cs : List Value} {v : Value} {xs : List Int} (h : Gr w cs W v xs) : BodP w xs (.returned v) W := ⟨⟨v, rfl, h.r.base (by omega)⟩, h.n⟩
theorem Gr.one {w W : World} {cs : List Value} {v : Value} {xs : List Int} (h : Gr w cs W v xs) (x : Int) (hl : xs.length ≤ 1099511627775) :
    ∃ v' w', (Builtin.append_ #[22, 22] 22 #[v, .slice (some ⟨W.heap.size, 0, none⟩) 1 1]).run Tryz.prog (W.alloc (.cells #[.int .u8 x] 5)) = .ok v' w' ∧ Gr w cs w' v' (xs ++ [x]) := by
  have na : Below W.heap.size W (W.alloc (.cells #[.int .u8 x] 5)) := (Below.refl _ _).alloc (Nat.le_refl _) _
  obtain ⟨v', w', h1, h2, -⟩ := (h.up na).app W.heap.size (some ⟨W.heap.size, 0, none⟩) 1 [x] (blk_lit1 W .u8 5 x).own0.rd (fun h => nomatch h) (by simp; omega)
  exact ⟨v', w', h1, h2⟩
set_option maxRecDepth 100000 in
set_option maxHeartbeats 4000000 in
theorem sbAnswer_any (w : World) (x4 x5 x6 x7 x8 x9 x11 x12 : Value) (v : Int) (v0 : 0 ≤ v) (v1 : v ≤ 255) (l2 l3 : Lst) (H2 : LstR w l2) (H3 : LstR w l3) (rs : Bool) :
    Calls Tryz.prog 42 #[.agg #[.int .i64 2, .int .i64 v, .slice l2.a l2.xs.length l2.c, .slice l3.a l3.xs.length l3.c, x4, x5, x6, x7, x8, x9, .bool rs, x11, x12]] w (BodP w (fpL v l2.xs l3.xs ++ [if rs = true then 1 else 0])) := by
  have G0 := Gr.start w [.int .i64 2, .int .i64 v, .slice l2.a l2.xs.length l2.c, .slice l3.a l3.xs.length l3.c, x4, x5, x6, x7, x8, x9, .bool rs, x11, x12]
  have FE : Hid (fpL v l2.xs l3.xs = ([v] ++ l2.xs) ++ l3.xs) := by show _ = _; unfold fpL; rw [big1 v v0 v1, List.append_assoc]
  rw [FE.out]
  obtain ⟨OUT, hO'⟩ : ∃ l : List Int, l = (([v] ++ l2.xs) ++ l3.xs) ++ [if rs = true then 1 else 0] := ⟨_, rfl⟩
  rw [← hO']
  have hO := hide hO'
  clear hO'
  have m2 := H2.m
  have m3 := H3.m
  have k0 := G0.c.cell 0
  have z1 : (w.alloc (.cells #[.int .i64 2, .int .i64 v, .slice l2.a l2.xs.length l2.c, .slice l3.a l3.xs.length l3.c, x4, x5, x6, x7, x8, x9, .bool rs, x11, x12] 26)).heap.size = w.heap.size + 1 := by simp
  go_enter Tryz.func42, Tryz.ntmps42
  go_upto_region 13 with fail
  clear k0 z1
  obtain ⟨vR, hvR⟩ : ∃ x, x = Value.slice (some ⟨w.heap.size + 1, 0, none⟩) 0 0 := ⟨_, rfl⟩
  rw [← hvR] at G0 ⊢
  clear hvR
  generalize (w.alloc (.cells #[.int .i64 2, .int .i64 v, .slice l2.a l2.xs.length l2.c, .slice l3.a l3.xs.length l3.c, x4, x5, x6, x7, x8, x9, .bool rs, x11, x12] 26)).alloc (.cells #[] 5) = W2 at *
  have c1 := G0.c.cell 1
  obtain ⟨v1', W3, hap, G1⟩ := G0.one v (by simp)
  have v256 : v < 256 := by omega
  clear G0
  go_upto_region 14 with (at_builtin; refine Lib.wpList_append_run _ rfl _ _ 22 22 rfl _ _ rfl rfl _ _ hap ?_)
  clear hap c1
  rw [List.nil_append] at G1
  have nd : Below W3.heap.size W3 W3.drew := (Below.refl _ _).drew
  have G2 := G1.up nd
  have A68 := hide (G2.app l2.g l2.a l2.c l2.xs (G2.list H2).r H2.z (by simp; omega))
  have A71 : Hid (∀ v' W, Gr w #[.int .i64 2, .int .i64 v, .slice l2.a l2.xs.length l2.c, .slice l3.a l3.xs.length l3.c, x4, x5, x6, x7, x8, x9, .bool rs, x11, x12].toList W v' ([v] ++ l2.xs) → ∃ v'' w', (Builtin.append_ #[22, 22] 22 #[v', .slice l3.a l3.xs.length l3.c]).run Tryz.prog W = .ok v'' w' ∧ (Gr w #[.int .i64 2, .int .i64 v, .slice l2.a l2.xs.length l2.c, .slice l3.a l3.xs.length l3.c, x4, x5, x6, x7, x8, x9, .bool rs, x11, x12].toList w' v'' (([v] ++ l2.xs) ++ l3.xs) ∧ Below (w.heap.size + 1) W w')) := fun v' W h => h.app l3.g l3.a l3.c l3.xs (h.list H3).r H3.z (by simp; omega)
  have CY : Hid (∀ W v' zs, Gr w #[.int .i64 2, .int .i64 v, .slice l2.a l2.xs.length l2.c, .slice l3.a l3.xs.length l3.c, x4, x5, x6, x7, x8, x9, .bool rs, x11, x12].toList W v' zs → (W.cell? ⟨w.heap.size, 2, none⟩ = some (.slice l2.a l2.xs.length l2.c) ∧ W.cell? ⟨w.heap.size, 3, none⟩ = some (.slice l3.a l3.xs.length l3.c))) := fun W v' zs h => ⟨h.c.cell 2, h.c.cell 3⟩
  go_region_held3 (fun W => W.cell? ⟨w.heap.size, 2, none⟩ = some (.slice l2.a l2.xs.length l2.c) ∧ W.cell? ⟨w.heap.size, 3, none⟩ = some (.slice l3.a l3.xs.length l3.c))
    (first | exact (unhide CY) _ _ _ G2 | exact (unhide CY) _ _ _ G3 | exact (unhide CY) _ _ _ G4)
    (first
      | (refine step_append_exM rfl (.tmp 65) (.tmp 67) 22 22 rfl v1' (.slice l2.a l2.xs.length l2.c) rfl rfl _ A68.out ?_; rintro v68 w68 ⟨G3, -⟩; (have B71 := hide ((unhide A71) v68 w68 G3)))
      | (refine step_append_exM rfl (.tmp 68) (.tmp 70) 22 22 rfl v68 (.slice l3.a l3.xs.length l3.c) rfl rfl _ B71.out ?_; rintro v71 w71 ⟨G4, -⟩)
      | fail)
  clear A68 A71 B71 CY G1 G2 G3 nd
  have c10 := G4.c.cell 10
  obtain ⟨ZZ, hZZ⟩ : ∃ l, l = ([v] ++ l2.xs) ++ l3.xs := ⟨_, rfl⟩
  have lZ : Hid (ZZ.length ≤ 2097153) := by show _ ≤ _; rw [hZZ]; simp; omega
  rw [← hZZ] at G4 hO
  clear hZZ FE
  cases rs with
  | true =>
    obtain ⟨v5, w5, hap, G5⟩ := G4.one 1 (by have := lZ.out; omega)
    have FIN : Hid (BodP w OUT (.returned v5) w5) := by show BodP _ _ _ _; rw [hO.out]; exact G5.body
    clear G4 G5
    go_wp2_with (at_builtin; refine Lib.wpList_append_run _ rfl _ _ 22 22 rfl _ _ rfl rfl _ _ hap ?_)
    go_ret
    exact FIN.out
  | false =>
    obtain ⟨v5, w5, hap, G5⟩ := G4.one 0 (by have := lZ.out; omega)
    have FIN : Hid (BodP w OUT (.returned v5) w5) := by show BodP _ _ _ _; rw [hO.out]; exact G5.body
    clear G4 G5
    go_wp2_with (at_builtin; refine Lib.wpList_append_run _ rfl _ _ 22 22 rfl _ _ rfl rfl _ _ hap ?_)
    go_ret
    exact FIN.out
end Go.Proofs.YtdnkgmlidhepbaaGreat
namespace Go.Proofs.YtdnkgmlidhepbaaGreat
open Go Go.RowKit
def ppL (xs : List Int) (i : Nat) : Nat → Nat
  | 0 => i
  | k + 1 => ppL xs i k + 2 + (beN xs (ppL xs i k) 2).toNat
def clT (xs : List Int) (i k : Nat) : List (List Int) := (List.range k).map fun j => tkB xs (ppL xs i j + 2) (beN xs (ppL xs i j) 2).toNat
theorem clT_len (xs : List Int) (i k : Nat) : (clT xs i k).length = k := by simp [clT]
theorem clT_step (xs : List Int) (i k : Nat) : clT xs i (k + 1) = clT xs i k ++ [tkB xs (ppL xs i k + 2) (beN xs (ppL xs i k) 2).toNat] := by simp [clT, List.range_succ]
theorem ppL_le (xs : List Int) (i k n : Nat) (h : k ≤ n) : ppL xs i k ≤ ppL xs i n := by
  induction n with
  | zero =>
    obtain rfl : k = 0 := by omega
    exact Nat.le_refl _
  | succ n ih =>
    by_cases e : k = n + 1
    · subst e
      exact Nat.le_refl _
    · have := ih (by omega)
      have e : ppL xs i (n + 1) = ppL xs i n + 2 + (beN xs (ppL xs i n) 2).toNat := rfl
      omega
theorem BRow.kp {w w' : World} {B p : Nat} {v : Value} {its : List (List Int)} {bs : List Plc} (h : BRow w B v its bs) (n : Kp p w w') (hp : p < B) : BRow w' B v its bs := h.of fun k hk hB => n.block k hk (by omega)
theorem BRow.onl {w w' : World} {B q : Nat} {v : Value} {its : List (List Int)} {bs : List Plc} (h : BRow w B v its bs) (O : Only q w w') (hq : q < B) : BRow w' B v its bs := h.of fun k hk hB => O.block k (by omega)
theorem BRow.lim {w : World} {B : Nat} {v : Value} {its : List (List Int)} {bs : List Plc} (h : BRow w B v its bs) : ∀ k, v.ownBlock = some k → k < w.heap.size := fun k hk => (h.o.lt k hk).2
set_option maxRecDepth 100000 in
set_option maxHeartbeats 4000000 in
theorem certsRead_any (w : World) (q p g : Nat) (a : Option Addr) (c : Nat) (xs : List Int) (t : TypeId) (hq : RwC w q [.slice none 0 0] t) (hqp : q ≠ p) (hC : Cur w p (.slice a xs.length c) ((0 : Nat) : Int)) (hpl : p < w.heap.size) (hr : Rd w g a .u8 xs) (hb : Byt xs) (hgp : 0 < xs.length → g ≠ p) (hgq : 0 < xs.length → g ≠ q) (hc0 : a = none → c = 0) (hc : xs.length ≤ c) (hn : xs.length ≤ 1048576) :
    Calls Tryz.prog 131 #[.pointer (some ⟨q, 0, none⟩), .pointer (some ⟨p, 0, none⟩)] w fun e w' => ((0 < xs.length ∧ ppL xs 1 (xs.getD 0 0).toNat ≤ xs.length ∧ e = .returned (.tuple #[]) ∧ ∃ v bs, RwC w' q [v] t ∧ BRow w' w.heap.size v (clT xs 1 (xs.getD 0 0).toNat) bs) ∨ (¬ (0 < xs.length ∧ ppL xs 1 (xs.getD 0 0).toNat ≤ xs.length) ∧ Pan e)) ∧ Kq p q w w' := by
  have hql := hq.lt
  by_cases h1 : 0 < xs.length
  rotate_left
  · have TB := hide (take_bad w p a xs.length c 0 hC (by omega))
    have H := hide h1
    clear hC hr h1 hq
    go_enter Tryz.func131, Tryz.ntmps131
    go_wp2_with fail
    refine TB.out.mono ?_
    rintro e v1 ⟨⟨t', v', rfl⟩, O2⟩
    go_wp2
    exact ⟨rfl, .inr ⟨fun h => H.out h.1, t', v', rfl⟩, (Tch.of_only O2).mono (by simp)⟩
  have TK := hide (take_ok w p g a c xs 0 hC hr h1 (by omega))
  have bx := hb 0
  obtain ⟨n, hn1⟩ := Int.eq_ofNat_of_zero_le bx.1
  have e1 : (xs.getD 0 0).toNat = n := by omega
  rw [e1]
  rw [hn1] at TK
  have n256 : n < 256 := by omega
  clear hn1 e1 hC bx
  go_enter Tryz.func131, Tryz.ntmps131
  go_wp2_with fail
  refine TK.out.mono ?_
  rintro e w1 ⟨rfl, C1, O1⟩
  have K1 : Hid (Tch [p, q] w w1) := (Tch.of_only O1).mono (by simp)
  have Q1 := hide (show RwC w1 q [.slice none 0 0] t from (O1.block q hqp).trans hq)
  have H1 := hide C1
  clear TK O1 hq C1
  go_wp2
  go_loopw [6] (fun j wr => ∃ (k : Nat) (v : Value) (bs : List Plc), k ≤ n ∧ j = .int .u8 k ∧ RwC wr q [v] t ∧ BRow wr w.heap.size v (clT xs 1 k) bs ∧ Cur wr p (.slice a xs.length c) ((ppL xs 1 k : Nat) : Int) ∧ ppL xs 1 k ≤ xs.length ∧ Tch [p, q] w wr) (fun j _ => n - (intOf j).toNat)
  case atStart => exact ⟨0, _, [], Nat.zero_le _, rfl, Q1.out, BRow.nil _ _, H1.out, by show 1 ≤ _; omega, K1.out⟩
  case round =>
    obtain ⟨k, v, bs, hk, rfl, hQ, hR, hC, hpp, hK⟩ := hrel
    clear H1 K1 Q1
    by_cases hlt : k < n
    · have t0 : (k : Int) < (n : Int) := by omega
      have hrk := hr.tchK hK (fun h0 => by have := hgp h0; have := hgq h0; simp; omega)
      obtain ⟨x, hx⟩ : ∃ x, Hid (tkB xs (ppL xs 1 k + 2) (beN xs (ppL xs 1 k) 2).toNat = x) := ⟨_, rfl⟩
      have xl : x.length = (beN xs (ppL xs 1 k) 2).toNat := by rw [← hx.out, tkB_len]
      have xm : (beN xs (ppL xs 1 k) 2).toNat < 65536 := by have := beN_rng hb (ppL xs 1 k) 2; omega
      have LE := ppL_le xs 1 (k + 1) n (by omega)
      have e2 : ppL xs 1 (k + 1) = ppL xs 1 k + 2 + (beN xs (ppL xs 1 k) 2).toNat := rfl
      have LO : Hid (Calls Tryz.prog 105 #[.pointer (some ⟨p, 0, none⟩)] wr.drew fun e w2 => (∃ G, e = .returned (.slice (some ⟨G, 0, none⟩) x.length x.length) ∧ w2.cell? ⟨q, 0, none⟩ = some v ∧ (w2.alloc (.cells #[.slice (some ⟨G, 0, none⟩) x.length x.length] 63)).cell? ⟨q, 0, none⟩ = some v ∧ ∃ v' w', (Builtin.append_ #[24, 24] 24 #[v, .slice (some ⟨w2.heap.size, 0, none⟩) 1 1]).run Tryz.prog (w2.alloc (.cells #[.slice (some ⟨G, 0, none⟩) x.length x.length] 63)) = .ok v' w' ∧ ((∃ a3 n3 c3, v' = .slice a3 n3 c3) ∧ w'.cell? ⟨q, 0, none⟩ = some v ∧ w'.frozen? ⟨q, 0, none⟩ = false ∧ ∃ bs', Hid (RwC (w'.setCell ⟨q, 0, none⟩ v') q [v'] t ∧ BRow (w'.setCell ⟨q, 0, none⟩ v') w.heap.size v' (clT xs 1 (k + 1)) bs' ∧ Cur (w'.setCell ⟨q, 0, none⟩ v') p (.slice a xs.length c) ((ppL xs 1 (k + 1) : Nat) : Int) ∧ ppL xs 1 (k + 1) ≤ xs.length ∧ Tch [p, q] w (w'.setCell ⟨q, 0, none⟩ v')))) ∨ (∃ t' v', e = .panicked [{ v := .iface t' v', recovered := false }]) ∧ ¬ (0 < xs.length ∧ ppL xs 1 n ≤ xs.length) ∧ Tch [p, q] w w2) := by
        refine (long_any wr.drew p g a c xs (ppL xs 1 k) hC hrk hb hgp hc0 hc hn hpp).mono ?_
        rintro e w2 ⟨⟨h2, ⟨G, rfl, B2, g2⟩, C2⟩ | ⟨h2, t', v', rfl⟩, K2⟩
        rotate_left
        · exact .inr ⟨⟨t', v', rfl⟩, by omega, ((hK.trans (Tch.of_below (S := []) ((Below.refl _ wr).drew))).trans K2.tch).mono (by simp)⟩
        rw [hx.out] at B2
        have Q2 := (show RwC wr.drew q [v] t from hQ).kp K2 hqp
        have R2 := (show BRow wr.drew w.heap.size v (clT xs 1 k) bs from hR.of (fun _ _ _ => rfl)).kp K2 hpl
        have hM := hR.lim
        have T2 : Tch [p, q] w w2 := ((hK.trans (Tch.of_below (S := []) ((Below.refl _ wr).drew))).trans K2.tch).mono (by simp)
        have s0 := hK.size
        have s2 := K2.size
        have g2' : wr.heap.size ≤ G := g2
        obtain ⟨v', w', ap, R3, kp3, N3, -⟩ := R2.app x ⟨some ⟨G, 0, none⟩, x.length, G⟩ T2.size ⟨B2.own0, (fun h => by cases h), Nat.le_refl _⟩ wr.heap.size s0 (fun i hi h0 => hR.lt hi h0) hM g2' (by rw [clT_len]; omega)
        have Q3 : RwC w' q [v] t := (kp3 q Q2.lt (fun e => by have := (R2.o.lt _ e).1; omega)).trans Q2
        have C3 := C2.belw N3 hpl
        have T3 : Tch [p, q] w w' := ⟨N3.os.trans T2.os, N3.tape.trans T2.tape, N3.output.trans T2.output, Nat.le_trans T2.size N3.size, fun b hb hn => (N3.block b hb).trans (T2.block b hb hn)⟩
        have O := Only.setCell w' q 0 v'
        refine .inl ⟨G, by rw [xl], Q2.cell 0, (Q2.up ((Below.refl _ _).alloc (Nat.le_refl _) _)).cell 0, v', w', ap, (by obtain ⟨a3, c3, e3, -⟩ := R3.slice; exact ⟨a3, _, c3, e3⟩), Q3.cell 0, Q3.free 0, bs ++ [⟨some ⟨G, 0, none⟩, x.length, G⟩], Q3.set 0 _, ?_, C3.only' O (fun h => hqp h.symm), by omega, (T3.trans (Tch.of_only O)).mono (by simp)⟩
        rw [clT_step, hx.out]
        exact R3.onl O hql
      have c0 := hQ.cell 0
      have ST := hide hQ
      clear hrk hC hR hK hQ xl xm LE e2 hx
      go_wp2
      go_region_law (first
        | (go_simp; go_at_call 105; refine LO.out.mono ?_; rintro e w2 (⟨G, rfl, m1, m2, AP⟩ | ⟨⟨t', v', rfl⟩, h2, T2⟩); rotate_left; (go_must (go_wp2; exact ⟨rfl, .inr ⟨h2, t', v', rfl⟩, T2⟩)))
        | (go_must (refine step_append_exM rfl (.tmp 12) (.tmp 16) 24 24 rfl v (.slice (some ⟨w2.heap.size, 0, none⟩) 1 1) rfl rfl _ AP ?_); rintro v3 w3 ⟨⟨a3, n3, c3, rfl⟩, m3, f3, bs', FF⟩)
        | fail)
      all_goals
        go_wp2
        go_roundw
        case rel => exact ⟨k + 1, _, bs', by omega, by go_num, FF.out.1, FF.out.2.1, FF.out.2.2.1, FF.out.2.2.2.1, FF.out.2.2.2.2⟩
        case measure => simp [intOf]; omega
    · obtain rfl : k = n := by omega
      have HQ := hide hQ
      have HR := hide hR
      have HK := hide hK
      clear hR hC hK hQ
      go_wp2
      go_end0
      exact ⟨.inl ⟨h1, hpp, rfl, v, bs, HQ.out, HR.out⟩, HK.out⟩
end Go.Proofs.YtdnkgmlidhepbaaGreat
namespace Go.Proofs.YtdnkgmlidhepbaaGreat
open Go Go.RowKit
def tkF (xs : List Int) (at_ n : Nat) : List Int := (List.range n).map fun i => xs.getD (at_ + i) 0
theorem tkF_len (xs : List Int) (at_ n : Nat) : (tkF xs at_ n).length = n := by simp [tkF]
theorem tkF_get (xs : List Int) (at_ n i : Nat) (h : i < n) : (tkF xs at_ n).getD i 0 = xs.getD (at_ + i) 0 := by simp [tkF, h]
def TkTo (xs : List Int) (at_ n : Nat) (ys : List Int) (k : Nat) : Prop := ys.length = n ∧ (∀ i, i < k → ys.getD i 0 = xs.getD (at_ + i) 0) ∧ ∀ i, k ≤ i → ys.getD i 0 = 0
theorem TkTo.zero (xs : List Int) (at_ n : Nat) : TkTo xs at_ n (List.replicate n 0) 0 := ⟨by simp, fun i hi => absurd hi (by omega), fun i _ => by
  rw [List.getD_eq_getElem?_getD, List.getElem?_replicate]
  split <;> rfl⟩
theorem TkTo.step {xs : List Int} {at_ n : Nat} {ys : List Int} {k : Nat} (h : TkTo xs at_ n ys k) (hk : k < n) : TkTo xs at_ n (ys.set k (xs.getD (at_ + k) 0)) (k + 1) := by
  refine ⟨by simpa using h.1, fun i hi => ?_, fun i hi => ?_⟩
  · by_cases e : k = i
    · subst e
      rw [getD_set_self _ _ _ (by rw [h.1]; exact hk)]
    · rw [getD_set_ne _ _ _ _ e]
      exact h.2.1 i (by omega)
  · rw [getD_set_ne _ _ _ _ (by omega)]
    exact h.2.2 i (by omega)
theorem TkTo.skip {xs : List Int} {at_ n : Nat} {ys : List Int} {k : Nat} (h : TkTo xs at_ n ys k) (hk : xs.length ≤ at_ + k) : TkTo xs at_ n ys (k + 1) := by
  refine ⟨h.1, fun i hi => ?_, fun i hi => h.2.2 i (by omega)⟩
  by_cases e : i = k
  · subst e
    rw [h.2.2 i (Nat.le_refl _), List.getD_eq_getElem?_getD, List.getElem?_eq_none (by omega)]
    rfl
  · exact h.2.1 i (by omega)
theorem TkTo.all {xs : List Int} {at_ n : Nat} {ys : List Int} (h : TkTo xs at_ n ys n) : ys = tkF xs at_ n :=
  eq_of_getD (by rw [h.1, tkF_len]) (fun i hi => by rw [h.1] at hi; rw [h.2.1 i hi, tkF_get xs at_ n i hi])
set_option maxRecDepth 100000 in
set_option maxHeartbeats 4000000 in
theorem l13TakeM_any (w : World) (q g : Nat) (a : Option Addr) (c : Nat) (xs : List Int) (at_ n : Nat) (hr : Rd w g a .u8 xs) (hq : RwC w q [.slice a xs.length c, .int .i64 at_] 58) (hx : xs.length ≤ 1048576) (ha : at_ ≤ 4294967296) (hn : n ≤ 1048576) :
    Calls Tryz.prog 36 #[.pointer (some ⟨q, 0, none⟩), .int .i64 n] w fun e w' => e = .returned (.slice (some ⟨w.heap.size, 0, none⟩) n n) ∧ Blk w' w.heap.size .u8 (tkF xs at_ n) ∧ RwC w' q [.slice a xs.length c, .int .i64 ((at_ + n : Nat) : Int)] 58 ∧ Tch [q] w w' := by
  obtain ⟨i0, hi, hz0, hz1, hz2⟩ := info_parts Tryz.info5
  have hql := hq.lt
  go_enter Tryz.func36, Tryz.ntmps36
  go_wp2_with (at_make; refine wpList_make_full _ rfl _ _ 22 rfl w.heap.size 5 i0 (.int .u8 0) 1 Tryz.underlying22 hi hz0 hz1 .i64 .i64 _ _ n rfl rfl rfl rfl (by rw [hz2]; omega) (by unfold maxLen; omega) (Nat.le_refl _) ?_; intro w1 hown hgrow)
  have hB0 := Blk.of_made hown
  have hN0 : Below w.heap.size w w1 := (Below.refl _ _).grown hgrow (Nat.le_refl _) (by simp)
  clear hown hgrow
  go_loopw [6] (fun i wr => ∃ (k : Nat) (ys : List Int), k ≤ n ∧ i = .int .i64 k ∧ TkTo xs at_ n ys k ∧ Blk wr w.heap.size .u8 ys ∧ Below w.heap.size w wr) (fun i _ => n - (intOf i).toNat)
  case atStart => exact ⟨0, _, Nat.zero_le _, rfl, TkTo.zero xs at_ n, hB0, hN0⟩
  case round =>
    obtain ⟨k, ys, hk, rfl, hT, hB, hN⟩ := hrel
    clear hB0 hN0
    have Q := hq.up hN
    have c0 : wr.cell? ⟨q, 0, none⟩ = some (.slice a xs.length c) := Q.cell 0
    have c1 : wr.cell? ⟨q, 1, none⟩ = some (.int .i64 at_) := Q.cell 1
    by_cases hlt : k < n
    · have t0 : (k : Int) < (n : Int) := by omega
      have s1 : IntKind.i64.wrap ((at_ : Int) + (k : Int)) = ((at_ + k : Nat) : Int) := by rw [IntKind.wrap_i64]; omega
      by_cases hin : at_ + k < xs.length
      · obtain ⟨off, rfl, hc⟩ := (hr.up hN) (by omega)
        have t1 : ((at_ + k : Nat) : Int) < (xs.length : Int) := by omega
        have hcx := hc (at_ + k) hin
        have hcy : wr.cell? ⟨w.heap.size, k, none⟩ = some (.int .u8 (ys.getD k 0)) := hB.cell (by rw [hT.1]; exact hlt)
        have hfy := hB.free k
        have hB' := hide (hB.store k (xs.getD (at_ + k) 0))
        have hN' : Hid (Below w.heap.size w (wr.setCell ⟨w.heap.size, k, none⟩ (.int .u8 (xs.getD (at_ + k) 0)))) := hN.setCell (Nat.le_refl _) _
        have R := hide (hT.step hlt)
        have NN := hide hN
        generalize xs.getD (at_ + k) 0 = x at *
        generalize ys.getD k 0 = y at *
        have HB := hide hB
        clear hB hN hc hT Q hB' hN'
        go_wp2
        go_quiet (fail)
        go_wp2
        have c0 : (wr.drewN nq).cell? ⟨q, 0, none⟩ = some (.slice (some ⟨g, off, none⟩) xs.length c) := c0
        have c1 : (wr.drewN nq).cell? ⟨q, 1, none⟩ = some (.int .i64 at_) := c1
        have hcx : (wr.drewN nq).cell? ⟨g, off + (at_ + k), none⟩ = some (.int .u8 x) := hcx
        have hcy : (wr.drewN nq).cell? ⟨w.heap.size, k, none⟩ = some (.int .u8 y) := hcy
        have hfy : (wr.drewN nq).frozen? ⟨w.heap.size, k, none⟩ = false := hfy
        have HB : Hid (Blk (wr.drewN nq) w.heap.size .u8 ys) := HB
        have NN := hide (below_drewN NN.out nq)
        generalize wr.drewN nq = wz at *
        have kl : k < n := hlt
        go_region
        go_wp2
        go_roundw
        case rel => exact ⟨k + 1, _, by omega, by go_num, R.out, HB.out.store k x, (show Below w.heap.size w (wz.setCell ⟨w.heap.size, k, none⟩ (.int .u8 x)) from NN.out.setCell (Nat.le_refl _) _).drew⟩
        case measure => simp [intOf]; omega
      · have t1 : ¬ ((at_ + k : Nat) : Int) < (xs.length : Int) := by omega
        have R := hide (hT.skip (by omega))
        have NN := hide hN
        have HB := hide hB
        clear hT hN hB Q
        go_wp2
        go_quiet (fail)
        go_wp2
        go_roundw
        case rel => exact ⟨k + 1, _, by omega, by go_num, R.out, HB.out, below_drewN NN.out _⟩
        case measure => simp [intOf]; omega
    · obtain rfl : k = n := by omega
      have hf : wr.frozen? ⟨q, 1, none⟩ = false := Q.free 1
      have E := hide hT.all
      have HB := hide hB
      have NN := hide hN
      have HQ := hide Q
      have O := Only.setCell wr q 1 (.int .i64 ((at_ : Int) + (k : Int)))
      have e1 : ((at_ + k : Nat) : Int) = (at_ : Int) + (k : Int) := by omega
      have FB : Hid (Blk (wr.setCell ⟨q, 1, none⟩ (.int .i64 ((at_ : Int) + (k : Int)))) w.heap.size .u8 (tkF xs at_ k)) := by
        show Blk _ _ _ _
        rw [← E.out]
        exact HB.out.of_block (O.block w.heap.size (by omega))
      have FQ : Hid (RwC (wr.setCell ⟨q, 1, none⟩ (.int .i64 ((at_ : Int) + (k : Int)))) q [.slice a xs.length c, .int .i64 ((at_ + k : Nat) : Int)] 58) := by
        show RwC _ _ _ _
        rw [e1]
        exact HQ.out.set 1 _
      have FT : Hid (Tch [q] w (wr.setCell ⟨q, 1, none⟩ (.int .i64 ((at_ : Int) + (k : Int))))) := (Tch.of_below (S := []) NN.out).trans (Tch.of_only O)
      clear hT hB hN Q O e1 E HB HQ NN
      go_wp2
      go_ret
      exact ⟨rfl, FB.out, FQ.out, FT.out⟩
end Go.Proofs.YtdnkgmlidhepbaaGreat
namespace Go.Proofs.YtdnkgmlidhepbaaGreat
open Go Go.RowKit
def beV (l : List Int) : Int := l.foldl (fun v b => v * 256 + b) 0
theorem beV_snoc (l : List Int) (b : Int) : beV (l ++ [b]) = beV l * 256 + b := by simp [beV, List.foldl_append]
theorem beV_bound : ∀ (k : Nat) (l : List Int), l.length = k → (∀ b ∈ l, 0 ≤ b ∧ b < 256) → 0 ≤ beV l ∧ beV l < 256 ^ k
  | 0, l, hl, _ => by
    obtain rfl := List.length_eq_zero_iff.1 hl
    exact ⟨by decide, by decide⟩
  | k + 1, l, hl, hb => by
    have e : l = l.take k ++ [l[k]'(by omega)] := by
      rw [← List.take_succ_eq_append_getElem (by omega), List.take_of_length_le (by omega)]
    have h1 := beV_bound k (l.take k) (by rw [List.length_take]; omega) (fun b h => hb b (List.mem_of_mem_take h))
    have h2 := hb (l[k]'(by omega)) (List.getElem_mem _)
    rw [e, beV_snoc, Int.pow_succ]
    omega
theorem beV_small (l : List Int) (hl : l.length ≤ 4) (hb : ∀ b ∈ l, 0 ≤ b ∧ b < 256) : 0 ≤ beV l ∧ beV l < 4294967296 := by
  obtain ⟨h1, h2⟩ := beV_bound l.length l rfl hb
  refine ⟨h1, ?_⟩
  have : l.length = 0 ∨ l.length = 1 ∨ l.length = 2 ∨ l.length = 3 ∨ l.length = 4 := by omega
  rcases this with e | e | e | e | e <;> rw [e] at h2 <;> omega
theorem tkF_byt {xs : List Int} (hb : Byt xs) (at_ n : Nat) : ∀ b ∈ tkF xs at_ n, 0 ≤ b ∧ b < 256 := fun b h => by
  obtain ⟨i, _, rfl⟩ := List.mem_map.1 h
  exact hb (at_ + i)
set_option maxRecDepth 100000 in
set_option maxHeartbeats 4000000 in
theorem l13NumberM_any (w : World) (q g : Nat) (a : Option Addr) (c : Nat) (xs : List Int) (at_ n : Nat) (hr : Rd w g a .u8 xs) (hb : Byt xs) (hq : RwC w q [.slice a xs.length c, .int .i64 at_] 58) (hx : xs.length ≤ 1048576) (ha : at_ ≤ 4294967296) (hn : n ≤ 4) :
    Calls Tryz.prog 35 #[.pointer (some ⟨q, 0, none⟩), .int .i64 n] w fun e w' => e = .returned (.int .i64 (beV (tkF xs at_ n))) ∧ RwC w' q [.slice a xs.length c, .int .i64 ((at_ + n : Nat) : Int)] 58 ∧ Tch [q] w w' := by
  have TK := hide (l13TakeM_any w q g a c xs at_ n hr hq hx ha (by omega))
  have BB := hide (tkF_byt hb at_ n)
  have LL := hide (tkF_len xs at_ n)
  clear hr hb hq
  generalize tkF xs at_ n = ys at *
  go_enter Tryz.func35, Tryz.ntmps35
  go_wp2_with fail
  refine TK.out.mono ?_
  rintro e w1 ⟨rfl, B, Q, T⟩
  have HB := hide B
  have HQ := hide Q
  have HT := hide T
  clear TK B Q T
  go_wp2
  go_loopw [5, 7] (fun v i wr => ∃ k : Nat, k ≤ n ∧ i = .int .i64 k ∧ v = .int .i64 (beV (ys.take k)) ∧ wr = w1) (fun _ i _ => n - (intOf i).toNat)
  case atStart => exact ⟨0, Nat.zero_le _, rfl, by rw [List.take_zero]; rfl, rfl⟩
  case round =>
    obtain ⟨k, hk, rfl, rfl, rfl⟩ := hrel
    by_cases hlt : k < n
    · have ly := LL.out
      have t0 : (k : Int) < (n : Int) := by omega
      have cy := HB.out.cell (i := k) (by rw [ly]; exact hlt)
      have e1 : ys.take (k + 1) = ys.take k ++ [ys.getD k 0] := by
        rw [List.take_succ_eq_append_getElem (by omega), List.getD_eq_getElem?_getD, List.getElem?_eq_getElem (by omega)]
        rfl
      have bn := beV_small (ys.take k) (by rw [List.length_take]; omega) (fun b h => BB.out b (List.mem_of_mem_take h))
      have bx : 0 ≤ ys.getD k 0 ∧ ys.getD k 0 < 256 := BB.out _ (by rw [List.getD_eq_getElem?_getD, List.getElem?_eq_getElem (by omega)]; exact List.getElem_mem _)
      have E := hide (show beV (ys.take (k + 1)) = beV (ys.take k) * 256 + ys.getD k 0 by rw [e1, beV_snoc])
      clear e1 ly
      generalize beV (ys.take k) = v at *
      generalize ys.getD k 0 = x at *
      go_wp2
      go_roundw
      case rel => exact ⟨k + 1, by omega, by go_num, by rw [E.out], trivial⟩
      case measure => simp [intOf]; omega
    · obtain rfl : k = n := by omega
      have e : ys.take k = ys := List.take_of_length_le (by rw [LL.out]; exact Nat.le_refl _)
      rw [e]
      clear e
      go_wp2
      go_ret
      exact ⟨rfl, HQ.out, HT.out⟩
theorem tkF_tkB (xs : List Int) (i n : Nat) : tkF xs i n = tkB xs i n :=
  eq_of_getD (by rw [tkF_len, tkB_len]) (fun k hk => by rw [tkF_len] at hk; rw [tkF_get xs i n k hk, tkB_get xs i n k hk])
theorem beV_beN (xs : List Int) (i : Nat) : ∀ n, beV (tkF xs i n) = beN xs i n
  | 0 => rfl
  | n + 1 => by
    have e : tkF xs i (n + 1) = tkF xs i n ++ [xs.getD (i + n) 0] := by simp [tkF, List.range_succ]
    rw [e, beV_snoc, beV_beN xs i n]
    rfl
theorem takeM_any (w : World) (q g : Nat) (a : Option Addr) (c : Nat) (xs : List Int) (at_ n : Nat) (hr : Rd w g a .u8 xs) (hq : RwC w q [.slice a xs.length c, .int .i64 at_] 58) (hx : xs.length ≤ 1048576) (ha : at_ ≤ 4294967296) (hn : n ≤ 1048576) :
    Calls Tryz.prog 36 #[.pointer (some ⟨q, 0, none⟩), .int .i64 n] w fun e w' => e = .returned (.slice (some ⟨w.heap.size, 0, none⟩) n n) ∧ Blk w' w.heap.size .u8 (tkB xs at_ n) ∧ RwC w' q [.slice a xs.length c, .int .i64 ((at_ + n : Nat) : Int)] 58 ∧ Tch [q] w w' := by
  rw [← tkF_tkB]
  exact l13TakeM_any w q g a c xs at_ n hr hq hx ha hn
theorem numM_any (w : World) (q g : Nat) (a : Option Addr) (c : Nat) (xs : List Int) (at_ n : Nat) (hr : Rd w g a .u8 xs) (hb : Byt xs) (hq : RwC w q [.slice a xs.length c, .int .i64 at_] 58) (hx : xs.length ≤ 1048576) (ha : at_ ≤ 4294967296) (hn : n ≤ 4) :
    Calls Tryz.prog 35 #[.pointer (some ⟨q, 0, none⟩), .int .i64 n] w fun e w' => e = .returned (.int .i64 (beN xs at_ n)) ∧ RwC w' q [.slice a xs.length c, .int .i64 ((at_ + n : Nat) : Int)] 58 ∧ Tch [q] w w' := by
  rw [← beV_beN]
  exact l13NumberM_any w q g a c xs at_ n hr hb hq hx ha hn
end Go.Proofs.YtdnkgmlidhepbaaGreat
namespace Go.Proofs.YtdnkgmlidhepbaaGreat
open Go Go.RowKit
theorem RowT.tch {w w' : World} {base q : Nat} {v : Value} {ls : List (List UInt8)} (h : RowT w base v ls) (n : Tch [q] w w') (hq : q < base) : RowT w' base v ls := by
  refine ⟨h.1, ?_⟩
  rcases h.2 with h' | ⟨g, cap, cur, rfl, hbg, hg, hnc, hcm, hcs, ht⟩
  · exact .inl h'
  · exact .inr ⟨g, cap, cur, rfl, hbg, by rw [n.block g ((Array.getElem?_eq_some_iff.1 hg).1) (by simp; omega)]; exact hg, hnc, hcm, hcs, ht⟩
theorem ppT_bd {xs : List Int} (hb : Byt xs) (i : Nat) : ∀ k, ppT xs i k ≤ i + k * 256
  | 0 => by simp [ppT]
  | k + 1 => by
    have := ppT_bd hb i k
    have h1 := beN_rng hb (ppT xs i k) 1
    have e : ppT xs i (k + 1) = ppT xs i k + 1 + (beN xs (ppT xs i k) 1).toNat := rfl
    omega
theorem RowT.empty (w : World) : RowT (w.alloc (.cells #[] 9)) w.heap.size (.slice (some ⟨w.heap.size, 0, none⟩) 0 0) [] :=
  ⟨rfl, .inr ⟨w.heap.size, 0, #[], rfl, Nat.le_refl _, heap_alloc_new w _, Nat.le_refl _, by decide, rfl, rfl⟩⟩
set_option maxRecDepth 100000 in
set_option maxHeartbeats 4000000 in
theorem takeListM_any (w : World) (q g : Nat) (a : Option Addr) (c : Nat) (xs : List Int) (i : Nat) (hr : Rd w g a .u8 xs) (hb : Byt xs) (hq : RwC w q [.slice a xs.length c, .int .i64 i] 58) (hgq : 0 < xs.length → g ≠ q) (hx : xs.length ≤ 1048576) (ha : i ≤ 1000000) :
    Calls Tryz.prog 37 #[.pointer (some ⟨q, 0, none⟩)] w fun e w' => (∃ v, e = .returned v ∧ RowT w' w.heap.size v (txT xs (i + 1) (xs.getD i 0).toNat)) ∧ RwC w' q [.slice a xs.length c, .int .i64 ((ppT xs (i + 1) (xs.getD i 0).toNat : Nat) : Int)] 58 ∧ Tch [q] w w' := by
  have hql := hq.lt
  have n0 : Below w.heap.size w (w.alloc (.cells #[] 9)) := (Below.refl _ _).alloc (Nat.le_refl _) _
  have R0 := RowT.empty w
  have Q0 := hq.up n0
  have r0 := hr.up n0
  have bx := hb i
  obtain ⟨n, hn1⟩ := Int.eq_ofNat_of_zero_le bx.1
  have e1 : (xs.getD i 0).toNat = n := by omega
  rw [e1]
  have n256 : n < 256 := by omega
  have NM := hide (numM_any (w.alloc (.cells #[] 9)) q g a c xs i 1 r0 hb Q0 hx (by omega) (by omega))
  have e3 : beN xs i 1 = (n : Int) := by show beN xs i 0 * 256 + xs.getD (i + 0) 0 = _; rw [Nat.add_zero, hn1]; show 0 * 256 + _ = _; omega
  rw [e3] at NM
  have GLT := hide (fun h => hr.lt h)
  clear hn1 e1 hq bx e3 Q0
  go_enter Tryz.func37, Tryz.ntmps37
  go_wp2_with fail
  refine NM.out.mono ?_
  rintro e w1 ⟨rfl, Q1, T1⟩
  have K1 : Tch [q] w w1 := ((Tch.of_below (S := []) n0).trans T1).mono (by simp)
  have R1 : RowT w1 w.heap.size _ [] := R0.tch T1 hql
  have H1 := hide Q1
  have HK := hide K1
  have HR := hide R1
  clear NM Q1 T1 R1 K1 R0 r0 n0
  go_wp2
  go_loopw [3, 4] (fun v j wr => ∃ k : Nat, k ≤ n ∧ j = .int .i64 ((n - k : Nat) : Int) ∧ RowT wr w.heap.size v (txT xs (i + 1) k) ∧ RwC wr q [.slice a xs.length c, .int .i64 ((ppT xs (i + 1) k : Nat) : Int)] 58 ∧ Tch [q] w wr) (fun _ j _ => (intOf j).toNat)
  case atStart => exact ⟨0, Nat.zero_le _, rfl, HR.out, H1.out, HK.out⟩
  case round =>
    obtain ⟨k, hk, rfl, hR, hQ, hK⟩ := hrel
    clear H1 HK HR
    by_cases hlt : k < n
    · have t0 : decide ((0 : Int) < ((n - k : Nat) : Int)) = true := decide_eq_true (by omega)
      have t1 : 0 < n - k := by omega
      have t2 : IntKind.i64.wrap (((n - k : Nat) : Int) - 1) = ((n - (k + 1) : Nat) : Int) := by rw [IntKind.wrap_i64]; omega
      have PB := ppT_bd hb (i + 1) k
      have hrk := hr.tchK hK (fun h0 => by have := hgq h0; simp; omega)
      have N1 := hide (numM_any wr q g a c xs (ppT xs (i + 1) k) 1 hrk hb hQ hx (by omega) (by omega))
      have b1 := beN_rng hb (ppT xs (i + 1) k) 1
      obtain ⟨m, hm⟩ := Int.eq_ofNat_of_zero_le b1.1
      have e1 : (beN xs (ppT xs (i + 1) k) 1).toNat = m := by omega
      have e4 : Hid (ppT xs (i + 1) (k + 1) = ppT xs (i + 1) k + 1 + m) := by show ppT xs (i + 1) k + 1 + (beN xs (ppT xs (i + 1) k) 1).toNat = _; rw [e1]
      have e5 : Hid (txT xs (i + 1) (k + 1) = txT xs (i + 1) k ++ [txB (tkB xs (ppT xs (i + 1) k + 1) m)]) := by show _ = _; rw [txT_step, e1]
      rw [hm] at N1
      have m256 : m < 256 := by omega
      have LN := hide (txT_len xs (i + 1) k)
      have HR := hide hR
      have HK := hide hK
      have HRK := hide hrk
      have PP := hide PB
      clear hrk hQ hR hK hm e1 b1 PB
      generalize ppT xs (i + 1) k = pk at *
      go_wp2_with fail
      refine N1.out.mono ?_
      rintro e w2 ⟨rfl, Q2, T2⟩
      have R2 := HRK.out.tchK T2 (fun h0 => by have := hgq h0; simp; omega)
      have TK := hide (takeM_any w2 q g a c xs (pk + 1) m R2 Q2 hx (by have := PP.out; omega) (by omega))
      have HT2 := hide T2
      clear Q2 T2 N1 R2
      go_wp2_with fail
      refine TK.out.mono ?_
      rintro e w3 ⟨rfl, B3, Q3, T3⟩
      obtain ⟨x, hx'⟩ : ∃ x, Hid (tkB xs (pk + 1) m = x) := ⟨_, rfl⟩
      have xl : x.length = m := by rw [← hx'.out, tkB_len]
      rw [hx'.out] at B3 e5
      have KK : Tch [q] w w3 := ((HK.out.trans HT2.out).trans T3).mono (by simp)
      have RR : RowT w3 w.heap.size u3 (txT xs (i + 1) k) := (HR.out.tch HT2.out hql).tch T3 hql
      have cv : (convert 22 9 (.slice (some ⟨w2.heap.size, 0, none⟩) m m)).run Tryz.prog w3 = .ok (.string ⟨⟨txB x⟩⟩) w3 := by
        have := conv_run w3 w2.heap.size (some ⟨w2.heap.size, 0, none⟩) m x B3.own0.rd
        rw [xl, str_is] at this
        exact this
      obtain ⟨v', w', hrun, R4, N4⟩ := append_tx w3 23 w.heap.size u3 _ RR (txB x) (by rw [LN.out]; omega) KK.size
      have h1' : (Builtin.append_ #[23, 23] 23 #[u3, .slice (some ⟨w3.heap.size, 0, none⟩) 1 1]).run Tryz.prog (w3.alloc (.cells #[Value.string ⟨⟨txB x⟩⟩] 9)) = .ok v' w' := hrun
      have FR : Hid (RowT w' w.heap.size v' (txT xs (i + 1) (k + 1))) := by show RowT _ _ _ _; rw [e5.out]; exact R4
      have FQ : Hid (RwC w' q [.slice a xs.length c, .int .i64 ((ppT xs (i + 1) (k + 1) : Nat) : Int)] 58) := by
        show RwC _ _ _ _
        rw [e4.out]
        exact (N4.block q hql).trans Q3
      have FK : Hid (Tch [q] w w') := ⟨N4.os.trans KK.os, N4.tape.trans KK.tape, N4.output.trans KK.output, Nat.le_trans KK.size N4.size, fun b hb hn => (N4.block b hb).trans (KK.block b hb hn)⟩
      generalize txB x = ll at *
      clear xl hx' B3 Q3 T3 KK RR R4 N4 HT2 HK HR HRK TK hrun e4 e5 PP LN
      go_wp2_with (first | (refine wpList_convT _ rfl 22 9 (.tmp 16) rfl (.slice (some ⟨w2.heap.size, 0, none⟩) m m) rfl _ _ cv ?_) | (at_builtin; refine Lib.wpList_append_run _ rfl _ _ 23 23 rfl _ _ rfl rfl _ _ h1' ?_))
      go_roundw
      case rel => exact ⟨k + 1, by omega, by first | rfl | (congr 1; omega) | go_num, FR.out, FQ.out, FK.out⟩
      case measure => simp [intOf]; omega
    · obtain rfl : k = n := by omega
      have HR := hide hR
      have HQ := hide hQ
      have HK := hide hK
      have t0 : k - k = 0 := by omega
      clear hR hQ hK
      go_wp2
      go_ret
      exact ⟨⟨_, rfl, HR.out⟩, HQ.out, HK.out⟩
end Go.Proofs.YtdnkgmlidhepbaaGreat
namespace Go.Proofs.YtdnkgmlidhepbaaGreat
open Go Go.RowKit
end Go.Proofs.YtdnkgmlidhepbaaGreat
namespace Go.Proofs.YtdnkgmlidhepbaaGreat
open Go Go.RowKit
section
variable (w : World) (k k' v v' ag ag' ea ea' : Int) (ho ho' : Array UInt8) (rs rs' : Bool) (a2 a2' a3 a3' a5 a5' a6 a6' a9 a9' a11 a11' a12 a12' : Option Addr) (n2 n2' c2 c2' n3 n3' c3 c3' n5 n5' c5 c5' n6 n6' c6 c6' n9 n9' c9 c9' n11 n11' c11 c11' n12 n12' c12 c12' : Nat)
end
end Go.Proofs.YtdnkgmlidhepbaaGreat
namespace Go.Proofs.YtdnkgmlidhepbaaGreat
open Go Go.RowKit
section
variable (w : World) (k k' v v' ag ag' ea ea' : Int) (ho ho' : Array UInt8) (rs rs' : Bool) (a2 a2' a3 a3' a5 a5' a6 a6' a9 a9' a11 a11' a12 a12' : Option Addr) (n2 n2' c2 c2' n3 n3' c3 c3' n5 n5' c5 c5' n6 n6' c6 c6' n9 n9' c9 c9' n11 n11' c11 c11' n12 n12' c12 c12' : Nat)
end
end Go.Proofs.YtdnkgmlidhepbaaGreat
namespace Go.Proofs.YtdnkgmlidhepbaaGreat
open Go Go.RowKit
section
variable (w : World) (k k' v v' ag ag' ea ea' : Int) (ho ho' : Array UInt8) (rs rs' : Bool) (a2 a2' a3 a3' a5 a5' a6 a6' a9 a9' a11 a11' a12 a12' : Option Addr) (n2 n2' c2 c2' n3 n3' c3 c3' n5 n5' c5 c5' n6 n6' c6 c6' n9 n9' c9 c9' n11 n11' c11 c11' n12 n12' c12 c12' : Nat)
end
end Go.Proofs.YtdnkgmlidhepbaaGreat
namespace Go.Proofs.YtdnkgmlidhepbaaGreat
open Go Go.RowKit
end Go.Proofs.YtdnkgmlidhepbaaGreat
