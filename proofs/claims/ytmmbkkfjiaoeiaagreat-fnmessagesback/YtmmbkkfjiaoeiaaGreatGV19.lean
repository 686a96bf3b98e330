import Derived.Test.YtmmbkkfjiaoeiaaGreatGV18
import Derived.Test.YtmmbkkfjiaoeiaaGreatGV12
import Derived.Test.YtmmbkkfjiaoeiaaGreatGV14
import Derived.Deep.RegionLaw
import Derived.Deep.DeepMust
import Derived.Test.YtmmbkkfjiaoeiaaGreatGV3
import Derived.Test.YtmmbkkfjiaoeiaaGreatGV2
import Derived.Deep.QuietTactic
import Derived.BigQuiet
import Derived.Test.YtmmbkkfjiaoeiaaGreatGV17
import Derived.Test.YtmmbkkfjiaoeiaaGreatGV13
import Derived.Test.YtmmbkkfjiaoeiaaGreatGV8
import Derived.Test.YtmmbkkfjiaoeiaaGreatGV6
namespace Go.Proofs.YtmmbkkfjiaoeiaaGreat
open Go Go.RowKit
def ppL (xs : List Int) (i : Nat) : Nat → Nat
  | 0 => i
  | k + 1 => ppL xs i k + 2 + (beN xs (ppL xs i k) 2).toNat
def clT (xs : List Int) (i k : Nat) : List (List Int) := (List.range k).map fun j => tkB xs (ppL xs i j + 2) (beN xs (ppL xs i j) 2).toNat
theorem clT_len (xs : List Int) (i k : Nat) : (clT xs i k).length = k := by simp [clT]
theorem clT_step (xs : List Int) (i k : Nat) : clT xs i (k + 1) = clT xs i k ++ [tkB xs (ppL xs i k + 2) (beN xs (ppL xs i k) 2).toNat] := by simp [clT, List.range_succ]
theorem ppL_le (xs : List Int) (i k n : Nat) (h : k ≤ n) : ppL xs i k ≤ ppL xs i n := by
  induction n with
  | zero =>
    obtain rfl : k = 0 := by omega
    exact Nat.le_refl _
  | succ n ih =>
    by_cases e : k = n + 1
    · subst e
      exact Nat.le_refl _
    · have := ih (by omega)
      have e : ppL xs i (n + 1) = ppL xs i n + 2 + (beN xs (ppL xs i n) 2).toNat := rfl
      omega
theorem BRow.kp {w w' : World} {B p : Nat} {v : Value} {its : List (List Int)} {bs : List Plc} (h : BRow w B v its bs) (n : Kp p w w') (hp : p < B) : BRow w' B v its bs := h.of fun k hk hB => n.block k hk (by omega)
theorem BRow.onl {w w' : World} {B q : Nat} {v : Value} {its : List (List Int)} {bs : List Plc} (h : BRow w B v its bs) (O : Only q w w') (hq : q < B) : BRow w' B v its bs := h.of fun k hk hB => O.block k (by omega)
theorem BRow.lim {w : World} {B : Nat} {v : Value} {its : List (List Int)} {bs : List Plc} (h : BRow w B v its bs) : ∀ k, v.ownBlock = some k → k < w.heap.size := fun k hk => (h.o.lt k hk).2
set_option maxRecDepth 100000 in
set_option maxHeartbeats 4000000 in
theorem certsRead_any (w : World) (q p g : Nat) (a : Option Addr) (c : Nat) (xs : List Int) (t : TypeId) (hq : RwC w q [.slice none 0 0] t) (hqp : q ≠ p) (hC : Cur w p (.slice a xs.length c) ((0 : Nat) : Int)) (hpl : p < w.heap.size) (hr : Rd w g a .u8 xs) (hb : Byt xs) (hgp : 0 < xs.length → g ≠ p) (hgq : 0 < xs.length → g ≠ q) (hc0 : a = none → c = 0) (hc : xs.length ≤ c) (hn : xs.length ≤ 1048576) :
    Calls Tryz.prog 131 #[.pointer (some ⟨q, 0, none⟩), .pointer (some ⟨p, 0, none⟩)] w fun e w' => ((0 < xs.length ∧ ppL xs 1 (xs.getD 0 0).toNat ≤ xs.length ∧ e = .returned (.tuple #[]) ∧ ∃ v bs, RwC w' q [v] t ∧ BRow w' w.heap.size v (clT xs 1 (xs.getD 0 0).toNat) bs) ∨ (¬ (0 < xs.length ∧ ppL xs 1 (xs.getD 0 0).toNat ≤ xs.length) ∧ Pan e)) ∧ Kq p q w w' := by
  have hql := hq.lt
  by_cases h1 : 0 < xs.length
  rotate_left
  · have TB := hide (take_bad w p a xs.length c 0 hC (by omega))
    have H := hide h1
    clear hC hr h1 hq
    go_enter Tryz.func131, Tryz.ntmps131
    go_wp2_with fail
    refine TB.out.mono ?_
    rintro e v1 ⟨⟨t', v', rfl⟩, O2⟩
    go_wp2
    exact ⟨rfl, .inr ⟨fun h => H.out h.1, t', v', rfl⟩, (Tch.of_only O2).mono (by simp)⟩
  have TK := hide (take_ok w p g a c xs 0 hC hr h1 (by omega))
  have bx := hb 0
  obtain ⟨n, hn1⟩ := Int.eq_ofNat_of_zero_le bx.1
  have e1 : (xs.getD 0 0).toNat = n := by omega
  rw [e1]
  rw [hn1] at TK
  have n256 : n < 256 := by omega
  clear hn1 e1 hC bx
  go_enter Tryz.func131, Tryz.ntmps131
  go_wp2_with fail
  refine TK.out.mono ?_
  rintro e w1 ⟨rfl, C1, O1⟩
  have K1 : Hid (Tch [p, q] w w1) := (Tch.of_only O1).mono (by simp)
  have Q1 := hide (show RwC w1 q [.slice none 0 0] t from (O1.block q hqp).trans hq)
  have H1 := hide C1
  clear TK O1 hq C1
  go_wp2
  go_loopw [6] (fun j wr => ∃ (k : Nat) (v : Value) (bs : List Plc), k ≤ n ∧ j = .int .u8 k ∧ RwC wr q [v] t ∧ BRow wr w.heap.size v (clT xs 1 k) bs ∧ Cur wr p (.slice a xs.length c) ((ppL xs 1 k : Nat) : Int) ∧ ppL xs 1 k ≤ xs.length ∧ Tch [p, q] w wr) (fun j _ => n - (intOf j).toNat)
  case atStart => exact ⟨0, _, [], Nat.zero_le _, rfl, Q1.out, BRow.nil _ _, H1.out, by show 1 ≤ _; omega, K1.out⟩
  case round =>
    obtain ⟨k, v, bs, hk, rfl, hQ, hR, hC, hpp, hK⟩ := hrel
    clear H1 K1 Q1
    by_cases hlt : k < n
    · have t0 : (k : Int) < (n : Int) := by omega
      have hrk := hr.tchK hK (fun h0 => by have := hgp h0; have := hgq h0; simp; omega)
      obtain ⟨x, hx⟩ : ∃ x, Hid (tkB xs (ppL xs 1 k + 2) (beN xs (ppL xs 1 k) 2).toNat = x) := ⟨_, rfl⟩
      have xl : x.length = (beN xs (ppL xs 1 k) 2).toNat := by rw [← hx.out, tkB_len]
      have xm : (beN xs (ppL xs 1 k) 2).toNat < 65536 := by have := beN_rng hb (ppL xs 1 k) 2; omega
      have LE := ppL_le xs 1 (k + 1) n (by omega)
      have e2 : ppL xs 1 (k + 1) = ppL xs 1 k + 2 + (beN xs (ppL xs 1 k) 2).toNat := rfl
      have LO : Hid (Calls Tryz.prog 104 #[.pointer (some ⟨p, 0, none⟩)] wr.drew fun e w2 => (∃ G, e = .returned (.slice (some ⟨G, 0, none⟩) x.length x.length) ∧ w2.cell? ⟨q, 0, none⟩ = some v ∧ (w2.alloc (.cells #[.slice (some ⟨G, 0, none⟩) x.length x.length] 52)).cell? ⟨q, 0, none⟩ = some v ∧ ∃ v' w', (Builtin.append_ #[24, 24] 24 #[v, .slice (some ⟨w2.heap.size, 0, none⟩) 1 1]).run Tryz.prog (w2.alloc (.cells #[.slice (some ⟨G, 0, none⟩) x.length x.length] 52)) = .ok v' w' ∧ ((∃ a3 n3 c3, v' = .slice a3 n3 c3) ∧ w'.cell? ⟨q, 0, none⟩ = some v ∧ w'.frozen? ⟨q, 0, none⟩ = false ∧ ∃ bs', Hid (RwC (w'.setCell ⟨q, 0, none⟩ v') q [v'] t ∧ BRow (w'.setCell ⟨q, 0, none⟩ v') w.heap.size v' (clT xs 1 (k + 1)) bs' ∧ Cur (w'.setCell ⟨q, 0, none⟩ v') p (.slice a xs.length c) ((ppL xs 1 (k + 1) : Nat) : Int) ∧ ppL xs 1 (k + 1) ≤ xs.length ∧ Tch [p, q] w (w'.setCell ⟨q, 0, none⟩ v')))) ∨ (∃ t' v', e = .panicked [{ v := .iface t' v', recovered := false }]) ∧ ¬ (0 < xs.length ∧ ppL xs 1 n ≤ xs.length) ∧ Tch [p, q] w w2) := by
        refine (long_any wr.drew p g a c xs (ppL xs 1 k) hC hrk hb hgp hc0 hc hn hpp).mono ?_
        rintro e w2 ⟨⟨h2, ⟨G, rfl, B2, g2⟩, C2⟩ | ⟨h2, t', v', rfl⟩, K2⟩
        rotate_left
        · exact .inr ⟨⟨t', v', rfl⟩, by omega, ((hK.trans (Tch.of_below (S := []) ((Below.refl _ wr).drew))).trans K2.tch).mono (by simp)⟩
        rw [hx.out] at B2
        have Q2 := (show RwC wr.drew q [v] t from hQ).kp K2 hqp
        have R2 := (show BRow wr.drew w.heap.size v (clT xs 1 k) bs from hR.of (fun _ _ _ => rfl)).kp K2 hpl
        have hM := hR.lim
        have T2 : Tch [p, q] w w2 := ((hK.trans (Tch.of_below (S := []) ((Below.refl _ wr).drew))).trans K2.tch).mono (by simp)
        have s0 := hK.size
        have s2 := K2.size
        have g2' : wr.heap.size ≤ G := g2
        obtain ⟨v', w', ap, R3, kp3, N3, -⟩ := R2.app x ⟨some ⟨G, 0, none⟩, x.length, G⟩ T2.size ⟨B2.own0, (fun h => by cases h), Nat.le_refl _⟩ wr.heap.size s0 (fun i hi h0 => hR.lt hi h0) hM g2' (by rw [clT_len]; omega)
        have Q3 : RwC w' q [v] t := (kp3 q Q2.lt (fun e => by have := (R2.o.lt _ e).1; omega)).trans Q2
        have C3 := C2.belw N3 hpl
        have T3 : Tch [p, q] w w' := ⟨N3.os.trans T2.os, N3.tape.trans T2.tape, N3.output.trans T2.output, Nat.le_trans T2.size N3.size, fun b hb hn => (N3.block b hb).trans (T2.block b hb hn)⟩
        have O := Only.setCell w' q 0 v'
        refine .inl ⟨G, by rw [xl], Q2.cell 0, (Q2.up ((Below.refl _ _).alloc (Nat.le_refl _) _)).cell 0, v', w', ap, (by obtain ⟨a3, c3, e3, -⟩ := R3.slice; exact ⟨a3, _, c3, e3⟩), Q3.cell 0, Q3.free 0, bs ++ [⟨some ⟨G, 0, none⟩, x.length, G⟩], Q3.set 0 _, ?_, C3.only' O (fun h => hqp h.symm), by omega, (T3.trans (Tch.of_only O)).mono (by simp)⟩
        rw [clT_step, hx.out]
        exact R3.onl O hql
      have c0 := hQ.cell 0
      have ST := hide hQ
      clear hrk hC hR hK hQ xl xm LE e2 hx
      go_wp2
      go_region_law (first
        | (go_simp; go_at_call 104; refine LO.out.mono ?_; rintro e w2 (⟨G, rfl, m1, m2, AP⟩ | ⟨⟨t', v', rfl⟩, h2, T2⟩); rotate_left; (go_must (go_wp2; exact ⟨rfl, .inr ⟨h2, t', v', rfl⟩, T2⟩)))
        | (go_must (refine step_append_exM rfl (.tmp 12) (.tmp 16) 24 24 rfl v (.slice (some ⟨w2.heap.size, 0, none⟩) 1 1) rfl rfl _ AP ?_); rintro v3 w3 ⟨⟨a3, n3, c3, rfl⟩, m3, f3, bs', FF⟩)
        | fail)
      all_goals
        go_wp2
        go_roundw
        case rel => exact ⟨k + 1, _, bs', by omega, by go_num, FF.out.1, FF.out.2.1, FF.out.2.2.1, FF.out.2.2.2.1, FF.out.2.2.2.2⟩
        case measure => simp [intOf]; omega
    · obtain rfl : k = n := by omega
      have HQ := hide hQ
      have HR := hide hR
      have HK := hide hK
      clear hR hC hK hQ
      go_wp2
      go_end0
      exact ⟨.inl ⟨h1, hpp, rfl, v, bs, HQ.out, HR.out⟩, HK.out⟩
end Go.Proofs.YtmmbkkfjiaoeiaaGreat
namespace Go.Proofs.YtmmbkkfjiaoeiaaGreat
open Go Go.RowKit
def tkF (xs : List Int) (at_ n : Nat) : List Int := (List.range n).map fun i => xs.getD (at_ + i) 0
theorem tkF_len (xs : List Int) (at_ n : Nat) : (tkF xs at_ n).length = n := by simp [tkF]
theorem tkF_get (xs : List Int) (at_ n i : Nat) (h : i < n) : (tkF xs at_ n).getD i 0 = xs.getD (at_ + i) 0 := by simp [tkF, h]
def TkTo (xs : List Int) (at_ n : Nat) (ys : List Int) (k : Nat) : Prop := ys.length = n ∧ (∀ i, i < k → ys.getD i 0 = xs.getD (at_ + i) 0) ∧ ∀ i, k ≤ i → ys.getD i 0 = 0
theorem TkTo.zero (xs : List Int) (at_ n : Nat) : TkTo xs at_ n (List.replicate n 0) 0 := ⟨by simp, fun i hi => absurd hi (by omega), fun i _ => by
  rw [List.getD_eq_getElem?_getD, List.getElem?_replicate]
  split <;> rfl⟩
theorem TkTo.step {xs : List Int} {at_ n : Nat} {ys : List Int} {k : Nat} (h : TkTo xs at_ n ys k) (hk : k < n) : TkTo xs at_ n (ys.set k (xs.getD (at_ + k) 0)) (k + 1) := by
  refine ⟨by simpa using h.1, fun i hi => ?_, fun i hi => ?_⟩
  · by_cases e : k = i
    · subst e
      rw [getD_set_self _ _ _ (by rw [h.1]; exact hk)]
    · rw [getD_set_ne _ _ _ _ e]
      exact h.2.1 i (by omega)
  · rw [getD_set_ne _ _ _ _ (by omega)]
    exact h.2.2 i (by omega)
theorem TkTo.skip {xs : List Int} {at_ n : Nat} {ys : List Int} {k : Nat} (h : TkTo xs at_ n ys k) (hk : xs.length ≤ at_ + k) : TkTo xs at_ n ys (k + 1) := by
  refine ⟨h.1, fun i hi => ?_, fun i hi => h.2.2 i (by omega)⟩
  by_cases e : i = k
  · subst e
    rw [h.2.2 i (Nat.le_refl _), List.getD_eq_getElem?_getD, List.getElem?_eq_none (by omega)]
    rfl
  · exact h.2.1 i (by omega)
theorem TkTo.all {xs : List Int} {at_ n : Nat} {ys : List Int} (h : TkTo xs at_ n ys n) : ys = tkF xs at_ n :=
  eq_of_getD (by rw [h.1, tkF_len]) (fun i hi => by rw [h.1] at hi; rw [h.2.1 i hi, tkF_get xs at_ n i hi])
set_option maxRecDepth 100000 in
set_option maxHeartbeats 4000000 in
theorem l13TakeM_any (w : World) (q g : Nat) (a : Option Addr) (c : Nat) (xs : List Int) (at_ n : Nat) (hr : Rd w g a .u8 xs) (hq : RwC w q [.slice a xs.length c, .int .i64 at_] 105) (hx : xs.length ≤ 1048576) (ha : at_ ≤ 4294967296) (hn : n ≤ 1048576) :
    Calls Tryz.prog 51 #[.pointer (some ⟨q, 0, none⟩), .int .i64 n] w fun e w' => e = .returned (.slice (some ⟨w.heap.size, 0, none⟩) n n) ∧ Blk w' w.heap.size .u8 (tkF xs at_ n) ∧ RwC w' q [.slice a xs.length c, .int .i64 ((at_ + n : Nat) : Int)] 105 ∧ Tch [q] w w' := by
  obtain ⟨i0, hi, hz0, hz1, hz2⟩ := info_parts Tryz.info5
  have hql := hq.lt
  go_enter Tryz.func51, Tryz.ntmps51
  go_wp2_with (at_make; refine wpList_make_full _ rfl _ _ 22 rfl w.heap.size 5 i0 (.int .u8 0) 1 Tryz.underlying22 hi hz0 hz1 .i64 .i64 _ _ n rfl rfl rfl rfl (by rw [hz2]; omega) (by unfold maxLen; omega) (Nat.le_refl _) ?_; intro w1 hown hgrow)
  have hB0 := Blk.of_made hown
  have hN0 : Below w.heap.size w w1 := (Below.refl _ _).grown hgrow (Nat.le_refl _) (by simp)
  clear hown hgrow
  go_loopw [6] (fun i wr => ∃ (k : Nat) (ys : List Int), k ≤ n ∧ i = .int .i64 k ∧ TkTo xs at_ n ys k ∧ Blk wr w.heap.size .u8 ys ∧ Below w.heap.size w wr) (fun i _ => n - (intOf i).toNat)
  case atStart => exact ⟨0, _, Nat.zero_le _, rfl, TkTo.zero xs at_ n, hB0, hN0⟩
  case round =>
    obtain ⟨k, ys, hk, rfl, hT, hB, hN⟩ := hrel
    clear hB0 hN0
    have Q := hq.up hN
    have c0 : wr.cell? ⟨q, 0, none⟩ = some (.slice a xs.length c) := Q.cell 0
    have c1 : wr.cell? ⟨q, 1, none⟩ = some (.int .i64 at_) := Q.cell 1
    by_cases hlt : k < n
    · have t0 : (k : Int) < (n : Int) := by omega
      have s1 : IntKind.i64.wrap ((at_ : Int) + (k : Int)) = ((at_ + k : Nat) : Int) := by rw [IntKind.wrap_i64]; omega
      by_cases hin : at_ + k < xs.length
      · obtain ⟨off, rfl, hc⟩ := (hr.up hN) (by omega)
        have t1 : ((at_ + k : Nat) : Int) < (xs.length : Int) := by omega
        have hcx := hc (at_ + k) hin
        have hcy : wr.cell? ⟨w.heap.size, k, none⟩ = some (.int .u8 (ys.getD k 0)) := hB.cell (by rw [hT.1]; exact hlt)
        have hfy := hB.free k
        have hB' := hide (hB.store k (xs.getD (at_ + k) 0))
        have hN' : Hid (Below w.heap.size w (wr.setCell ⟨w.heap.size, k, none⟩ (.int .u8 (xs.getD (at_ + k) 0)))) := hN.setCell (Nat.le_refl _) _
        have R := hide (hT.step hlt)
        have NN := hide hN
        generalize xs.getD (at_ + k) 0 = x at *
        generalize ys.getD k 0 = y at *
        have HB := hide hB
        clear hB hN hc hT Q hB' hN'
        go_wp2
        go_quiet (fail)
        go_wp2
        have c0 : (wr.drewN nq).cell? ⟨q, 0, none⟩ = some (.slice (some ⟨g, off, none⟩) xs.length c) := c0
        have c1 : (wr.drewN nq).cell? ⟨q, 1, none⟩ = some (.int .i64 at_) := c1
        have hcx : (wr.drewN nq).cell? ⟨g, off + (at_ + k), none⟩ = some (.int .u8 x) := hcx
        have hcy : (wr.drewN nq).cell? ⟨w.heap.size, k, none⟩ = some (.int .u8 y) := hcy
        have hfy : (wr.drewN nq).frozen? ⟨w.heap.size, k, none⟩ = false := hfy
        have HB : Hid (Blk (wr.drewN nq) w.heap.size .u8 ys) := HB
        have NN := hide (below_drewN NN.out nq)
        generalize wr.drewN nq = wz at *
        have kl : k < n := hlt
        go_region
        go_wp2
        go_roundw
        case rel => exact ⟨k + 1, _, by omega, by go_num, R.out, HB.out.store k x, (show Below w.heap.size w (wz.setCell ⟨w.heap.size, k, none⟩ (.int .u8 x)) from NN.out.setCell (Nat.le_refl _) _).drew⟩
        case measure => simp [intOf]; omega
      · have t1 : ¬ ((at_ + k : Nat) : Int) < (xs.length : Int) := by omega
        have R := hide (hT.skip (by omega))
        have NN := hide hN
        have HB := hide hB
        clear hT hN hB Q
        go_wp2
        go_quiet (fail)
        go_wp2
        go_roundw
        case rel => exact ⟨k + 1, _, by omega, by go_num, R.out, HB.out, below_drewN NN.out _⟩
        case measure => simp [intOf]; omega
    · obtain rfl : k = n := by omega
      have hf : wr.frozen? ⟨q, 1, none⟩ = false := Q.free 1
      have E := hide hT.all
      have HB := hide hB
      have NN := hide hN
      have HQ := hide Q
      have O := Only.setCell wr q 1 (.int .i64 ((at_ : Int) + (k : Int)))
      have e1 : ((at_ + k : Nat) : Int) = (at_ : Int) + (k : Int) := by omega
      have FB : Hid (Blk (wr.setCell ⟨q, 1, none⟩ (.int .i64 ((at_ : Int) + (k : Int)))) w.heap.size .u8 (tkF xs at_ k)) := by
        show Blk _ _ _ _
        rw [← E.out]
        exact HB.out.of_block (O.block w.heap.size (by omega))
      have FQ : Hid (RwC (wr.setCell ⟨q, 1, none⟩ (.int .i64 ((at_ : Int) + (k : Int)))) q [.slice a xs.length c, .int .i64 ((at_ + k : Nat) : Int)] 105) := by
        show RwC _ _ _ _
        rw [e1]
        exact HQ.out.set 1 _
      have FT : Hid (Tch [q] w (wr.setCell ⟨q, 1, none⟩ (.int .i64 ((at_ : Int) + (k : Int))))) := (Tch.of_below (S := []) NN.out).trans (Tch.of_only O)
      clear hT hB hN Q O e1 E HB HQ NN
      go_wp2
      go_ret
      exact ⟨rfl, FB.out, FQ.out, FT.out⟩
end Go.Proofs.YtmmbkkfjiaoeiaaGreat
namespace Go.Proofs.YtmmbkkfjiaoeiaaGreat
open Go Go.RowKit
def beV (l : List Int) : Int := l.foldl (fun v b => v * 256 + b) 0
theorem beV_snoc (l : List Int) (b : Int) : beV (l ++ [b]) = beV l * 256 + b := by simp [beV, List.foldl_append]
theorem beV_bound : ∀ (k : Nat) (l : List Int), l.length = k → (∀ b ∈ l, 0 ≤ b ∧ b < 256) → 0 ≤ beV l ∧ beV l < 256 ^ k
  | 0, l, hl, _ => by
    obtain rfl := List.length_eq_zero_iff.1 hl
    exact ⟨by decide, by decide⟩
  | k + 1, l, hl, hb => by
    have e : l = l.take k ++ [l[k]'(by omega)] := by
      rw [← List.take_succ_eq_append_getElem (by omega), List.take_of_length_le (by omega)]
    have h1 := beV_bound k (l.take k) (by rw [List.length_take]; omega) (fun b h => hb b (List.mem_of_mem_take h))
    have h2 := hb (l[k]'(by omega)) (List.getElem_mem _)
    rw [e, beV_snoc, Int.pow_succ]
    omega
theorem beV_small (l : List Int) (hl : l.length ≤ 4) (hb : ∀ b ∈ l, 0 ≤ b ∧ b < 256) : 0 ≤ beV l ∧ beV l < 4294967296 := by
  obtain ⟨h1, h2⟩ := beV_bound l.length l rfl hb
  refine ⟨h1, ?_⟩
  have : l.length = 0 ∨ l.length = 1 ∨ l.length = 2 ∨ l.length = 3 ∨ l.length = 4 := by omega
  rcases this with e | e | e | e | e <;> rw [e] at h2 <;> omega
theorem tkF_byt {xs : List Int} (hb : Byt xs) (at_ n : Nat) : ∀ b ∈ tkF xs at_ n, 0 ≤ b ∧ b < 256 := fun b h => by
  obtain ⟨i, _, rfl⟩ := List.mem_map.1 h
  exact hb (at_ + i)
set_option maxRecDepth 100000 in
set_option maxHeartbeats 4000000 in
theorem l13NumberM_any (w : World) (q g : Nat) (a : Option Addr) (c : Nat) (xs : List Int) (at_ n : Nat) (hr : Rd w g a .u8 xs) (hb : Byt xs) (hq : RwC w q [.slice a xs.length c, .int .i64 at_] 105) (hx : xs.length ≤ 1048576) (ha : at_ ≤ 4294967296) (hn : n ≤ 4) :
    Calls Tryz.prog 50 #[.pointer (some ⟨q, 0, none⟩), .int .i64 n] w fun e w' => e = .returned (.int .i64 (beV (tkF xs at_ n))) ∧ RwC w' q [.slice a xs.length c, .int .i64 ((at_ + n : Nat) : Int)] 105 ∧ Tch [q] w w' := by
  have TK := hide (l13TakeM_any w q g a c xs at_ n hr hq hx ha (by omega))
  have BB := hide (tkF_byt hb at_ n)
  have LL := hide (tkF_len xs at_ n)
  clear hr hb hq
  generalize tkF xs at_ n = ys at *
  go_enter Tryz.func50, Tryz.ntmps50
  go_wp2_with fail
  refine TK.out.mono ?_
  rintro e w1 ⟨rfl, B, Q, T⟩
  have HB := hide B
  have HQ := hide Q
  have HT := hide T
  clear TK B Q T
  go_wp2
  go_loopw [5, 7] (fun v i wr => ∃ k : Nat, k ≤ n ∧ i = .int .i64 k ∧ v = .int .i64 (beV (ys.take k)) ∧ wr = w1) (fun _ i _ => n - (intOf i).toNat)
  case atStart => exact ⟨0, Nat.zero_le _, rfl, by rw [List.take_zero]; rfl, rfl⟩
  case round =>
    obtain ⟨k, hk, rfl, rfl, rfl⟩ := hrel
    by_cases hlt : k < n
    · have ly := LL.out
      have t0 : (k : Int) < (n : Int) := by omega
      have cy := HB.out.cell (i := k) (by rw [ly]; exact hlt)
      have e1 : ys.take (k + 1) = ys.take k ++ [ys.getD k 0] := by
        rw [List.take_succ_eq_append_getElem (by omega), List.getD_eq_getElem?_getD, List.getElem?_eq_getElem (by omega)]
        rfl
      have bn := beV_small (ys.take k) (by rw [List.length_take]; omega) (fun b h => BB.out b (List.mem_of_mem_take h))
      have bx : 0 ≤ ys.getD k 0 ∧ ys.getD k 0 < 256 := BB.out _ (by rw [List.getD_eq_getElem?_getD, List.getElem?_eq_getElem (by omega)]; exact List.getElem_mem _)
      have E := hide (show beV (ys.take (k + 1)) = beV (ys.take k) * 256 + ys.getD k 0 by rw [e1, beV_snoc])
      clear e1 ly
      generalize beV (ys.take k) = v at *
      generalize ys.getD k 0 = x at *
      go_wp2
      go_roundw
      case rel => exact ⟨k + 1, by omega, by go_num, by rw [E.out], trivial⟩
      case measure => simp [intOf]; omega
    · obtain rfl : k = n := by omega
      have e : ys.take k = ys := List.take_of_length_le (by rw [LL.out]; exact Nat.le_refl _)
      rw [e]
      clear e
      go_wp2
      go_ret
      exact ⟨rfl, HQ.out, HT.out⟩
theorem tkF_tkB (xs : List Int) (i n : Nat) : tkF xs i n = tkB xs i n :=
  eq_of_getD (by rw [tkF_len, tkB_len]) (fun k hk => by rw [tkF_len] at hk; rw [tkF_get xs i n k hk, tkB_get xs i n k hk])
theorem beV_beN (xs : List Int) (i : Nat) : ∀ n, beV (tkF xs i n) = beN xs i n
  | 0 => rfl
  | n + 1 => by
    have e : tkF xs i (n + 1) = tkF xs i n ++ [xs.getD (i + n) 0] := by simp [tkF, List.range_succ]
    rw [e, beV_snoc, beV_beN xs i n]
    rfl
theorem takeM_any (w : World) (q g : Nat) (a : Option Addr) (c : Nat) (xs : List Int) (at_ n : Nat) (hr : Rd w g a .u8 xs) (hq : RwC w q [.slice a xs.length c, .int .i64 at_] 105) (hx : xs.length ≤ 1048576) (ha : at_ ≤ 4294967296) (hn : n ≤ 1048576) :
    Calls Tryz.prog 51 #[.pointer (some ⟨q, 0, none⟩), .int .i64 n] w fun e w' => e = .returned (.slice (some ⟨w.heap.size, 0, none⟩) n n) ∧ Blk w' w.heap.size .u8 (tkB xs at_ n) ∧ RwC w' q [.slice a xs.length c, .int .i64 ((at_ + n : Nat) : Int)] 105 ∧ Tch [q] w w' := by
  rw [← tkF_tkB]
  exact l13TakeM_any w q g a c xs at_ n hr hq hx ha hn
theorem numM_any (w : World) (q g : Nat) (a : Option Addr) (c : Nat) (xs : List Int) (at_ n : Nat) (hr : Rd w g a .u8 xs) (hb : Byt xs) (hq : RwC w q [.slice a xs.length c, .int .i64 at_] 105) (hx : xs.length ≤ 1048576) (ha : at_ ≤ 4294967296) (hn : n ≤ 4) :
    Calls Tryz.prog 50 #[.pointer (some ⟨q, 0, none⟩), .int .i64 n] w fun e w' => e = .returned (.int .i64 (beN xs at_ n)) ∧ RwC w' q [.slice a xs.length c, .int .i64 ((at_ + n : Nat) : Int)] 105 ∧ Tch [q] w w' := by
  rw [← beV_beN]
  exact l13NumberM_any w q g a c xs at_ n hr hb hq hx ha hn
end Go.Proofs.YtmmbkkfjiaoeiaaGreat
namespace Go.Proofs.YtmmbkkfjiaoeiaaGreat
open Go Go.RowKit
theorem RowT.tch {w w' : World} {base q : Nat} {v : Value} {ls : List (List UInt8)} (h : RowT w base v ls) (n : Tch [q] w w') (hq : q < base) : RowT w' base v ls := by
  refine ⟨h.1, ?_⟩
  rcases h.2 with h' | ⟨g, cap, cur, rfl, hbg, hg, hnc, hcm, hcs, ht⟩
  · exact .inl h'
  · exact .inr ⟨g, cap, cur, rfl, hbg, by rw [n.block g ((Array.getElem?_eq_some_iff.1 hg).1) (by simp; omega)]; exact hg, hnc, hcm, hcs, ht⟩
theorem ppT_bd {xs : List Int} (hb : Byt xs) (i : Nat) : ∀ k, ppT xs i k ≤ i + k * 256
  | 0 => by simp [ppT]
  | k + 1 => by
    have := ppT_bd hb i k
    have h1 := beN_rng hb (ppT xs i k) 1
    have e : ppT xs i (k + 1) = ppT xs i k + 1 + (beN xs (ppT xs i k) 1).toNat := rfl
    omega
theorem RowT.empty (w : World) : RowT (w.alloc (.cells #[] 9)) w.heap.size (.slice (some ⟨w.heap.size, 0, none⟩) 0 0) [] :=
  ⟨rfl, .inr ⟨w.heap.size, 0, #[], rfl, Nat.le_refl _, heap_alloc_new w _, Nat.le_refl _, by decide, rfl, rfl⟩⟩
set_option maxRecDepth 100000 in
set_option maxHeartbeats 4000000 in
theorem takeListM_any (w : World) (q g : Nat) (a : Option Addr) (c : Nat) (xs : List Int) (i : Nat) (hr : Rd w g a .u8 xs) (hb : Byt xs) (hq : RwC w q [.slice a xs.length c, .int .i64 i] 105) (hgq : 0 < xs.length → g ≠ q) (hx : xs.length ≤ 1048576) (ha : i ≤ 1000000) :
    Calls Tryz.prog 52 #[.pointer (some ⟨q, 0, none⟩)] w fun e w' => (∃ v, e = .returned v ∧ RowT w' w.heap.size v (txT xs (i + 1) (xs.getD i 0).toNat)) ∧ RwC w' q [.slice a xs.length c, .int .i64 ((ppT xs (i + 1) (xs.getD i 0).toNat : Nat) : Int)] 105 ∧ Tch [q] w w' := by
  have hql := hq.lt
  have n0 : Below w.heap.size w (w.alloc (.cells #[] 9)) := (Below.refl _ _).alloc (Nat.le_refl _) _
  have R0 := RowT.empty w
  have Q0 := hq.up n0
  have r0 := hr.up n0
  have bx := hb i
  obtain ⟨n, hn1⟩ := Int.eq_ofNat_of_zero_le bx.1
  have e1 : (xs.getD i 0).toNat = n := by omega
  rw [e1]
  have n256 : n < 256 := by omega
  have NM := hide (numM_any (w.alloc (.cells #[] 9)) q g a c xs i 1 r0 hb Q0 hx (by omega) (by omega))
  have e3 : beN xs i 1 = (n : Int) := by show beN xs i 0 * 256 + xs.getD (i + 0) 0 = _; rw [Nat.add_zero, hn1]; show 0 * 256 + _ = _; omega
  rw [e3] at NM
  have GLT := hide (fun h => hr.lt h)
  clear hn1 e1 hq bx e3 Q0
  go_enter Tryz.func52, Tryz.ntmps52
  go_wp2_with fail
  refine NM.out.mono ?_
  rintro e w1 ⟨rfl, Q1, T1⟩
  have K1 : Tch [q] w w1 := ((Tch.of_below (S := []) n0).trans T1).mono (by simp)
  have R1 : RowT w1 w.heap.size _ [] := R0.tch T1 hql
  have H1 := hide Q1
  have HK := hide K1
  have HR := hide R1
  clear NM Q1 T1 R1 K1 R0 r0 n0
  go_wp2
  go_loopw [3, 4] (fun v j wr => ∃ k : Nat, k ≤ n ∧ j = .int .i64 ((n - k : Nat) : Int) ∧ RowT wr w.heap.size v (txT xs (i + 1) k) ∧ RwC wr q [.slice a xs.length c, .int .i64 ((ppT xs (i + 1) k : Nat) : Int)] 105 ∧ Tch [q] w wr) (fun _ j _ => (intOf j).toNat)
  case atStart => exact ⟨0, Nat.zero_le _, rfl, HR.out, H1.out, HK.out⟩
  case round =>
    obtain ⟨k, hk, rfl, hR, hQ, hK⟩ := hrel
    clear H1 HK HR
    by_cases hlt : k < n
    · have t0 : decide ((0 : Int) < ((n - k : Nat) : Int)) = true := decide_eq_true (by omega)
      have t1 : 0 < n - k := by omega
      have t2 : IntKind.i64.wrap (((n - k : Nat) : Int) - 1) = ((n - (k + 1) : Nat) : Int) := by rw [IntKind.wrap_i64]; omega
      have PB := ppT_bd hb (i + 1) k
      have hrk := hr.tchK hK (fun h0 => by have := hgq h0; simp; omega)
      have N1 := hide (numM_any wr q g a c xs (ppT xs (i + 1) k) 1 hrk hb hQ hx (by omega) (by omega))
      have b1 := beN_rng hb (ppT xs (i + 1) k) 1
      obtain ⟨m, hm⟩ := Int.eq_ofNat_of_zero_le b1.1
      have e1 : (beN xs (ppT xs (i + 1) k) 1).toNat = m := by omega
      have e4 : Hid (ppT xs (i + 1) (k + 1) = ppT xs (i + 1) k + 1 + m) := by show ppT xs (i + 1) k + 1 + (beN xs (ppT xs (i + 1) k) 1).toNat = _; rw [e1]
      have e5 : Hid (txT xs (i + 1) (k + 1) = txT xs (i + 1) k ++ [txB (tkB xs (ppT xs (i + 1) k + 1) m)]) := by show _ = _; rw [txT_step, e1]
      rw [hm] at N1
      have m256 : m < 256 := by omega
      have LN := hide (txT_len xs (i + 1) k)
      have HR := hide hR
      have HK := hide hK
      have HRK := hide hrk
      have PP := hide PB
      clear hrk hQ hR hK hm e1 b1 PB
      generalize ppT xs (i + 1) k = pk at *
      go_wp2_with fail
      refine N1.out.mono ?_
      rintro e w2 ⟨rfl, Q2, T2⟩
      have R2 := HRK.out.tchK T2 (fun h0 => by have := hgq h0; simp; omega)
      have TK := hide (takeM_any w2 q g a c xs (pk + 1) m R2 Q2 hx (by have := PP.out; omega) (by omega))
      have HT2 := hide T2
      clear Q2 T2 N1 R2
      go_wp2_with fail
      refine TK.out.mono ?_
      rintro e w3 ⟨rfl, B3, Q3, T3⟩
      obtain ⟨x, hx'⟩ : ∃ x, Hid (tkB xs (pk + 1) m = x) := ⟨_, rfl⟩
      have xl : x.length = m := by rw [← hx'.out, tkB_len]
      rw [hx'.out] at B3 e5
      have KK : Tch [q] w w3 := ((HK.out.trans HT2.out).trans T3).mono (by simp)
      have RR : RowT w3 w.heap.size u3 (txT xs (i + 1) k) := (HR.out.tch HT2.out hql).tch T3 hql
      have cv : (convert 22 9 (.slice (some ⟨w2.heap.size, 0, none⟩) m m)).run Tryz.prog w3 = .ok (.string ⟨⟨txB x⟩⟩) w3 := by
        have := conv_run w3 w2.heap.size (some ⟨w2.heap.size, 0, none⟩) m x B3.own0.rd
        rw [xl, str_is] at this
        exact this
      obtain ⟨v', w', hrun, R4, N4⟩ := append_tx w3 23 w.heap.size u3 _ RR (txB x) (by rw [LN.out]; omega) KK.size
      have h1' : (Builtin.append_ #[23, 23] 23 #[u3, .slice (some ⟨w3.heap.size, 0, none⟩) 1 1]).run Tryz.prog (w3.alloc (.cells #[Value.string ⟨⟨txB x⟩⟩] 9)) = .ok v' w' := hrun
      have FR : Hid (RowT w' w.heap.size v' (txT xs (i + 1) (k + 1))) := by show RowT _ _ _ _; rw [e5.out]; exact R4
      have FQ : Hid (RwC w' q [.slice a xs.length c, .int .i64 ((ppT xs (i + 1) (k + 1) : Nat) : Int)] 105) := by
        show RwC _ _ _ _
        rw [e4.out]
        exact (N4.block q hql).trans Q3
      have FK : Hid (Tch [q] w w') := ⟨N4.os.trans KK.os, N4.tape.trans KK.tape, N4.output.trans KK.output, Nat.le_trans KK.size N4.size, fun b hb hn => (N4.block b hb).trans (KK.block b hb hn)⟩
      generalize txB x = ll at *
      clear xl hx' B3 Q3 T3 KK RR R4 N4 HT2 HK HR HRK TK hrun e4 e5 PP LN
      go_wp2_with (first | (refine wpList_convT _ rfl 22 9 (.tmp 16) rfl (.slice (some ⟨w2.heap.size, 0, none⟩) m m) rfl _ _ cv ?_) | (at_builtin; refine Lib.wpList_append_run _ rfl _ _ 23 23 rfl _ _ rfl rfl _ _ h1' ?_))
      go_roundw
      case rel => exact ⟨k + 1, by omega, by first | rfl | (congr 1; omega) | go_num, FR.out, FQ.out, FK.out⟩
      case measure => simp [intOf]; omega
    · obtain rfl : k = n := by omega
      have HR := hide hR
      have HQ := hide hQ
      have HK := hide hK
      have t0 : k - k = 0 := by omega
      clear hR hQ hK
      go_wp2
      go_ret
      exact ⟨⟨_, rfl, HR.out⟩, HQ.out, HK.out⟩
end Go.Proofs.YtmmbkkfjiaoeiaaGreat
namespace Go.Proofs.YtmmbkkfjiaoeiaaGreat
open Go Go.RowKit
def kfF (m : Msg) : Option (Msg × Int) := if m.k = 1 then some (helloM m, heF m.v m.r.length m.s.length m.ho m.pr m.ti.length m.bi.length m.ag m.ea) else if m.k = 2 then some (answerM m, fpF m.v m.r.length m.s.length) else if m.k = 4 then some (ticketM m, tiF m.ag m.ea m.r.length m.ti.length) else if m.k = 5 then some (endM m, 0) else if m.k = 8 then some (extrasM m, exF m.pr m.ea) else if m.k = 11 then some (certsM m, ceF m.ce) else if m.k = 15 then some (proofM m, pfF 64 m.pf.length) else if m.k = 20 then some (finishedM m, pfF 32 m.pf.length) else if m.k = 24 then some (updateM m, upF m.ea) else none
def mfF (m : Msg) : Int :=
  match kfF m with
  | none => 1
  | some (m', f) => if sameM m' m = true then f else 2
set_option maxHeartbeats 1000000 in
theorem mf_core (w : World) (vs : Array Value) (x0 x1 x2 x3 x4 x5 x6 x7 x8 x9 x10 x11 x12 : Value) (hv : vs = #[x0, x1, x2, x3, x4, x5, x6, x7, x8, x9, x10, x11, x12]) (f : Int)
    (C : ∀ W, Below w.heap.size w W → Calls Tryz.prog 16 #[.agg vs] W fun e w' => (∃ v, e = .returned (.tuple #[v, .int .i64 f])) ∧ Below W.heap.size W w') :
    Calls Tryz.prog 7 #[.agg vs] w fun e w' => e = .returned (.int .i64 f) ∧ Below w.heap.size w w' := by
  subst hv
  have n0 : Below w.heap.size w (w.alloc (.cells #[x0, x1, x2, x3, x4, x5, x6, x7, x8, x9, x10, x11, x12] 26)) := (Below.refl _ _).alloc (Nat.le_refl _) _
  have CC := hide (C _ n0)
  have N0 := hide n0
  have RG := RwC.range (RwC.new w [x0, x1, x2, x3, x4, x5, x6, x7, x8, x9, x10, x11, x12] 26)
  obtain ⟨d13, hd13, hrow13⟩ := rowM
  clear C n0
  go_enter Tryz.func7, Tryz.ntmps7
  go_wp2_with fail
  refine CC.out.mono ?_
  rintro e w1 ⟨⟨v, rfl⟩, n1⟩
  go_wp2
  go_ret
  exact ⟨rfl, nxt N0.out n1⟩
theorem mf_of {w : World} {s : Bool} {T S : TypeId} {fs : List Value} {f : Int} {e : Ending} {w' : World} (h : TyP w s T S fs f e w') : (∃ v, e = .returned (.tuple #[v, .int .i64 (if s = true then f else 2)])) ∧ Below w.heap.size w w' := by
  obtain ⟨h | h, n⟩ := h
  · obtain ⟨rfl, rfl⟩ := h
    exact ⟨⟨_, rfl⟩, n⟩
  · obtain ⟨rfl, q, rfl, _, _⟩ := h
    exact ⟨⟨_, rfl⟩, n⟩
theorem implMF_any (w : World) (p : MQ) (m : Msg) (h : HasM w p m) (i : IsM m) :
    Calls Tryz.prog 7 #[.agg (mgV p m)] w fun e w' => e = .returned (.int .i64 (mfF m)) ∧ Below w.heap.size w w' := by
  refine mf_core w (mgV p m) _ _ _ _ _ _ _ _ _ _ _ _ _ rfl (mfF m) fun W n => ?_
  unfold mfF kfF
  by_cases h1 : m.k = 1
  · rw [if_pos h1]
    exact (typedHello_any W p m (h.up n) i h1).mono fun e w' => mf_of
  by_cases h2 : m.k = 2
  · rw [if_neg h1, if_pos h2]
    exact (typedAnswer_any W p m (h.up n) i h2).mono fun e w' => mf_of
  by_cases h4 : m.k = 4
  · rw [if_neg h1, if_neg h2, if_pos h4]
    exact (typedTicket_any W p m (h.up n) i h4).mono fun e w' => mf_of
  by_cases h5 : m.k = 5
  · rw [if_neg h1, if_neg h2, if_neg h4, if_pos h5]
    exact (typedEnd_any W p m (h.up n) i h5).mono fun e w' => mf_of
  by_cases h8 : m.k = 8
  · rw [if_neg h1, if_neg h2, if_neg h4, if_neg h5, if_pos h8]
    exact (typedExtras_any W p m (h.up n) i h8).mono fun e w' => mf_of
  by_cases h11 : m.k = 11
  · rw [if_neg h1, if_neg h2, if_neg h4, if_neg h5, if_neg h8, if_pos h11]
    exact (typedCerts_any W p m (h.up n) i h11).mono fun e w' => mf_of
  by_cases h15 : m.k = 15
  · rw [if_neg h1, if_neg h2, if_neg h4, if_neg h5, if_neg h8, if_neg h11, if_pos h15]
    exact (typedProof_any W p m (h.up n) i h15).mono fun e w' => mf_of
  by_cases h20 : m.k = 20
  · rw [if_neg h1, if_neg h2, if_neg h4, if_neg h5, if_neg h8, if_neg h11, if_neg h15, if_pos h20]
    exact (typedFinished_any W p m (h.up n) i h20).mono fun e w' => mf_of
  by_cases h24 : m.k = 24
  · rw [if_neg h1, if_neg h2, if_neg h4, if_neg h5, if_neg h8, if_neg h11, if_neg h15, if_neg h20, if_pos h24]
    exact (typedUpdate_any W p m (h.up n) i h24).mono fun e w' => mf_of
  rw [if_neg h1, if_neg h2, if_neg h4, if_neg h5, if_neg h8, if_neg h11, if_neg h15, if_neg h20, if_neg h24]
  refine (typedNone_any W m.k m.v m.ag m.ea p.a2 p.a3 p.a5 p.a6 p.a9 p.a11 p.a12 m.r.length m.s.length m.pr.length m.ti.length m.bi.length m.ce.length m.pf.length p.c2 p.c3 p.c5 p.c6 p.c9 p.c11 p.c12 ⟨⟨m.ho⟩⟩ m.rs ?_).mono ?_
  · unfold regV
    rw [if_neg h1, if_neg h2, if_neg h4, if_neg h5, if_neg h8, if_neg h11, if_neg h15, if_neg h20, if_neg h24]
  · rintro e w' ⟨rfl, n'⟩
    exact ⟨⟨_, rfl⟩, n'⟩
end Go.Proofs.YtmmbkkfjiaoeiaaGreat
namespace Go.Proofs.YtmmbkkfjiaoeiaaGreat
open Go Go.RowKit
theorem row_slice {w : World} {b : Nat} {v : Value} {xs : List Int} (R : RowB w b v xs) : ∃ (a : Option Addr) (c g : Nat), v = .slice a xs.length c ∧ Rd w g a .u8 xs ∧ (a = none → c = 0) := by
  obtain ⟨a, c, g, e, r, z, -, -⟩ := R.rd
  exact ⟨a, c, g, e, r, z⟩
theorem Gr.row {w W : World} {cs : List Value} {v : Value} {xs : List Int} (h : Gr w cs W v xs) {b : Nat} {u : Value} {us : List Int} (R : RowB W b u us) (hl : xs.length + us.length ≤ 1099511627776) :
    ∃ v' w', (Builtin.append_ #[22, 22] 22 #[v, u]).run Tryz.prog W = .ok v' w' ∧ Gr w cs w' v' (xs ++ us) := by
  obtain ⟨a, c, g, e, r, z⟩ := row_slice R
  obtain ⟨v', w', h1, h2, -⟩ := h.app g a c us r z hl
  rw [e]
  exact ⟨v', w', h1, h2⟩
set_option maxRecDepth 100000 in
set_option maxHeartbeats 4000000 in
theorem sbTicket_any (w : World) (x1 x3 x4 x5 x9 x10 x11 x12 : Value) (ag ea : Int) (a0 : 0 ≤ ag) (a1 : ag < 9223372036854775808) (e0 : 0 ≤ ea) (e1 : ea < 9223372036854775808) (l2 l6 : Lst) (H2 : LstR w l2) (H6 : LstR w l6) :
    Calls Tryz.prog 53 #[.agg #[.int .i64 4, x1, .slice l2.a l2.xs.length l2.c, x3, x4, x5, .slice l6.a l6.xs.length l6.c, .int .i64 ag, .int .i64 ea, x9, x10, x11, x12]] w (BodP w (tkL ag ea l2.xs l6.xs)) := by
  have G0 := Gr.start w #[.int .i64 4, x1, .slice l2.a l2.xs.length l2.c, x3, x4, x5, .slice l6.a l6.xs.length l6.c, .int .i64 ag, .int .i64 ea, x9, x10, x11, x12].toList
  have m2 := H2.m
  have m6 := H6.m
  obtain ⟨OUT, hO'⟩ : ∃ l : List Int, l = tkL ag ea l2.xs l6.xs := ⟨_, rfl⟩
  rw [← hO']
  have hO := hide hO'
  clear hO'
  have k0 := G0.c.cell 0
  have z1 : (w.alloc (.cells #[.int .i64 4, x1, .slice l2.a l2.xs.length l2.c, x3, x4, x5, .slice l6.a l6.xs.length l6.c, .int .i64 ag, .int .i64 ea, x9, x10, x11, x12] 26)).heap.size = w.heap.size + 1 := by simp
  go_enter Tryz.func53, Tryz.ntmps53
  go_upto_region 19 with fail
  clear k0 z1
  obtain ⟨vR, hvR⟩ : ∃ x, x = Value.slice (some ⟨w.heap.size + 1, 0, none⟩) 0 0 := ⟨_, rfl⟩
  rw [← hvR] at G0 ⊢
  clear hvR
  generalize (w.alloc (.cells #[.int .i64 4, x1, .slice l2.a l2.xs.length l2.c, x3, x4, x5, .slice l6.a l6.xs.length l6.c, .int .i64 ag, .int .i64 ea, x9, x10, x11, x12] 26)).alloc (.cells #[] 5) = W2 at *
  have c7 := G0.c.cell 7
  have L1 := hide (l1BigB_any W2 ag 4 a0 a1 (by decide))
  go_wp2_with fail
  refine L1.out.mono ?_
  rintro e W3 ⟨rfl, R3, n3⟩
  obtain ⟨v4, W4, hap, G1⟩ := (G0.up n3).row R3 (by rw [bigL_len]; simp)
  rw [List.nil_append] at G1
  have c8 := G1.c.cell 8
  have L2 := hide (l1BigB_any W4 ea 4 e0 e1 (by decide))
  clear G0 R3 n3 L1 c7
  go_wp2_with (at_builtin; refine Lib.wpList_append_run _ rfl _ _ 22 22 rfl _ _ rfl rfl _ _ hap ?_)
  clear hap
  refine L2.out.mono ?_
  rintro e W5 ⟨rfl, R5, n5⟩
  obtain ⟨v6, W6, hap, G2⟩ := (G1.up n5).row R5 (by rw [bigL_len, bigL_len]; simp)
  clear G1 R5 n5 L2 c8
  go_upto_region 21 with (at_builtin; refine Lib.wpList_append_run _ rfl _ _ 22 22 rfl _ _ rfl rfl _ _ hap ?_)
  clear hap
  obtain ⟨BB, hBB⟩ : ∃ l, l = bigL ag 4 ++ bigL ea 4 := ⟨_, rfl⟩
  have lB : Hid (BB.length = 8) := by show _ = _; rw [hBB, List.length_append, bigL_len, bigL_len]
  rw [← hBB] at G2
  have hO2 : Hid (OUT = (BB ++ l2.xs) ++ loL l6.xs) := by show _ = _; rw [hO.out, hBB]; rfl
  clear hBB hO
  have nd : Below W6.heap.size W6 W6.drew := (Below.refl _ _).drew
  have G3 := G2.up nd
  have A95 := hide (G3.app l2.g l2.a l2.c l2.xs (G3.list H2).r H2.z (by rw [lB.out]; omega))
  have A98 : Hid (∀ v' W zs, Gr w #[.int .i64 4, x1, .slice l2.a l2.xs.length l2.c, x3, x4, x5, .slice l6.a l6.xs.length l6.c, .int .i64 ag, .int .i64 ea, x9, x10, x11, x12].toList W v' zs → Calls Tryz.prog 68 #[.slice l6.a l6.xs.length l6.c] W (BodP W (loL l6.xs))) := fun v' W zs h => l13Long_any W l6 (h.list H6)
  have A99 : Hid (∀ v' W u b, Gr w #[.int .i64 4, x1, .slice l2.a l2.xs.length l2.c, x3, x4, x5, .slice l6.a l6.xs.length l6.c, .int .i64 ag, .int .i64 ea, x9, x10, x11, x12].toList W v' (BB ++ l2.xs) → RowB W b u (loL l6.xs) → ∃ v'' w', (Builtin.append_ #[22, 22] 22 #[v', u]).run Tryz.prog W = .ok v'' w' ∧ Gr w #[.int .i64 4, x1, .slice l2.a l2.xs.length l2.c, x3, x4, x5, .slice l6.a l6.xs.length l6.c, .int .i64 ag, .int .i64 ea, x9, x10, x11, x12].toList w' v'' ((BB ++ l2.xs) ++ loL l6.xs)) := fun v' W u b h R => h.row R (by rw [List.length_append, lB.out, loL_len]; omega)
  have CY : Hid (∀ W v' zs, Gr w #[.int .i64 4, x1, .slice l2.a l2.xs.length l2.c, x3, x4, x5, .slice l6.a l6.xs.length l6.c, .int .i64 ag, .int .i64 ea, x9, x10, x11, x12].toList W v' zs → (W.cell? ⟨w.heap.size, 2, none⟩ = some (.slice l2.a l2.xs.length l2.c) ∧ W.cell? ⟨w.heap.size, 6, none⟩ = some (.slice l6.a l6.xs.length l6.c))) := fun W v' zs h => ⟨h.c.cell 2, h.c.cell 6⟩
  go_region_held3 (fun W => W.cell? ⟨w.heap.size, 2, none⟩ = some (.slice l2.a l2.xs.length l2.c) ∧ W.cell? ⟨w.heap.size, 6, none⟩ = some (.slice l6.a l6.xs.length l6.c))
    (first | exact (unhide CY) _ _ _ G3 | exact (unhide CY) _ _ _ G4 | exact (unhide CY) _ _ _ G5 | exact (unhide CY) _ _ _ G6)
    (first
      | (refine step_append_exM rfl (.tmp 92) (.tmp 94) 22 22 rfl v6 (.slice l2.a l2.xs.length l2.c) rfl rfl _ A95.out ?_; rintro v95 w95 ⟨G4, -⟩; (have B98 := hide ((unhide A98) v95 w95 _ G4)))
      | (go_at_call 68; refine B98.out.mono ?_; rintro rr w98 ⟨⟨v98, rfl, R98⟩, n98⟩; (have G5 := G4.up n98); (have B99 := hide ((unhide A99) v95 w98 v98 _ G5 R98)))
      | (refine step_append_exM rfl (.tmp 95) (.tmp 98) 22 22 rfl v95 v98 rfl rfl _ B99.out ?_; rintro v99 w99 G6)
      | fail)
  have FIN : Hid (BodP w OUT (.returned v99) w99) := by show BodP _ _ _ _; rw [hO2.out]; exact G6.body
  clear A95 A98 A99 B98 B99 CY G2 G3 G4 G5 G6 nd R98 n98
  go_wp2
  go_ret
  exact FIN.out
set_option maxRecDepth 100000 in
set_option maxHeartbeats 4000000 in
theorem sbExtras_any (w : World) (x1 x2 x3 x4 x6 x7 x9 x10 x11 x12 : Value) (g : Nat) (a : Option Addr) (c : Nat) (ls : List (List UInt8)) (H : TxsR w g a ls) (hs : ∀ l ∈ ls, l.length ≤ 255) (ea : Int) (e0 : 0 ≤ ea) (e1 : ea ≤ 255) :
    Calls Tryz.prog 53 #[.agg #[.int .i64 8, x1, x2, x3, x4, .slice a ls.length c, x6, x7, .int .i64 ea, x9, x10, x11, x12]] w (BodP w (lsL ls ++ bigL ea 1)) := by
  obtain ⟨i0, hi, hz0, hz1, hz2⟩ := info_parts Tryz.info5
  have G0 := Gr.start w #[.int .i64 8, x1, x2, x3, x4, .slice a ls.length c, x6, x7, .int .i64 ea, x9, x10, x11, x12].toList
  obtain ⟨OUT, hO'⟩ : ∃ l : List Int, l = lsL ls ++ bigL ea 1 := ⟨_, rfl⟩
  rw [← hO']
  have hO : Hid (OUT = lsL ls ++ [ea]) := by show _ = _; rw [hO', big1 ea e0 e1]
  clear hO'
  have LL : Hid ((lsL ls).length ≤ 8388617) := lsL_len ls H.n H.z
  have k0 := G0.c.cell 0
  have z1 : (w.alloc (.cells #[.int .i64 8, x1, x2, x3, x4, .slice a ls.length c, x6, x7, .int .i64 ea, x9, x10, x11, x12] 26)).heap.size = w.heap.size + 1 := by simp
  have w8 : IntKind.u8.wrap ea = ea := by simp [IntKind.wrap, IntKind.signed, IntKind.bits]; omega
  go_enter Tryz.func53, Tryz.ntmps53
  go_upto_region 23 with fail
  clear k0 z1
  obtain ⟨vR, hvR⟩ : ∃ x, x = Value.slice (some ⟨w.heap.size + 1, 0, none⟩) 0 0 := ⟨_, rfl⟩
  rw [← hvR] at G0 ⊢
  clear hvR
  generalize (w.alloc (.cells #[.int .i64 8, x1, x2, x3, x4, .slice a ls.length c, x6, x7, .int .i64 ea, x9, x10, x11, x12] 26)).alloc (.cells #[] 5) = W2 at *
  have nd : Below W2.heap.size W2 W2.drew := (Below.refl _ _).drew
  have zz := G0.n.size
  have bA : ∀ {W : World}, Below W2.heap.size W2 W → ∀ o, Below W2.heap.size W2 (W.alloc o) := fun n o => n.alloc n.size o
  have CL : Hid (∀ W, Below W2.heap.size W2 W → Calls Tryz.prog 67 #[.slice a ls.length c] W fun e w' => ∃ v, e = .returned v ∧ RowB w' W2.heap.size v (lsL ls) ∧ Below W2.heap.size W2 w' ∧ Below W.heap.size W w') := fun W m => (l13List_any W g a c ls (H.up (nxt G0.n m)) hs).mono (by rintro e w' ⟨⟨v, rfl, R⟩, n⟩; exact ⟨v, rfl, R.base m.size, nxt m n, n⟩)
  have AP : Hid (∀ W v q, Below W2.heap.size W2 W → RowB W W2.heap.size v (lsL ls) → Rd W q (some ⟨q, 0, none⟩) .u8 [ea] → ∃ v' w', (Builtin.append_ #[22, 22] 22 #[v, .slice (some ⟨q, 0, none⟩) 1 1]).run Tryz.prog W = .ok v' w' ∧ (RowB w' W2.heap.size v' (lsL ls ++ [ea]) ∧ Below W2.heap.size W2 w')) := fun W v q m R r => by
    obtain ⟨v', w', h1, h2, h3⟩ := append_any (P := Tryz.prog) W 22 i0 Tryz.underlying22 hi hz0 hz1 hz2 W2.heap.size W2.heap.size v (lsL ls) R q (some ⟨q, 0, none⟩) 1 [ea] r (fun h => nomatch h) (by have := LL.out; simp; omega) (Nat.le_refl _) m.size
    exact ⟨v', w', h1, h2, m.trans h3⟩
  have CY : Hid (∀ W, Below W2.heap.size W2 W → (W.cell? ⟨w.heap.size, 5, none⟩ = some (.slice a ls.length c) ∧ W.cell? ⟨w.heap.size, 8, none⟩ = some (.int .i64 ea))) := fun W m => ⟨(G0.c.up m).cell 5, (G0.c.up m).cell 8⟩
  have C0 := hide ((unhide CL) W2.drew nd)
  have C1 := hide ((unhide CL) (W2.drew.alloc (.cells #[.int .u8 ea] 5)) (bA nd _))
  have rE : Rd (W2.drew.alloc (.cells #[.int .u8 ea] 5)) W2.heap.size (some ⟨W2.heap.size, 0, none⟩) .u8 [ea] := (blk_lit1 W2.drew .u8 5 ea).own0.rd
  go_region_held3 (fun W => W.cell? ⟨w.heap.size, 5, none⟩ = some (.slice a ls.length c) ∧ W.cell? ⟨w.heap.size, 8, none⟩ = some (.int .i64 ea))
    (first | exact (unhide CY) _ nd | exact (unhide CY) _ (bA nd _) | exact (unhide CY) _ n104 | exact (unhide CY) _ (bA n104 _) | exact (unhide CY) _ n109)
    (first
      | (go_at_call 67; refine C0.out.mono ?_; rintro rr w104 ⟨v104, rfl, R104, n104, m104⟩; (have B109a := hide ((unhide AP) (w104.alloc (.cells #[.int .u8 ea] 5)) v104 w104.heap.size (bA n104 _) (R104.up ((Below.refl _ _).alloc (Nat.le_refl _) _)) (blk_lit1 w104 .u8 5 ea).own0.rd)))
      | (go_at_call 67; refine C1.out.mono ?_; rintro rr w104 ⟨v104, rfl, R104, n104, m104⟩; (have B109b := hide ((unhide AP) w104 v104 W2.heap.size n104 R104 (rE.up m104))))
      | (refine step_append_exM rfl (.tmp 104) (.tmp 108) 22 22 rfl v104 (.slice (some ⟨w104.heap.size, 0, none⟩) 1 1) rfl rfl _ B109a.out ?_; rintro v109 w109 ⟨R109, n109⟩)
      | (refine step_append_exM rfl (.tmp 104) (.tmp 108) 22 22 rfl v104 (.slice (some ⟨W2.heap.size, 0, none⟩) 1 1) rfl rfl _ B109b.out ?_; rintro v109 w109 ⟨R109, n109⟩)
      | fail)
  all_goals
    have FIN : Hid (BodP w OUT (.returned v109) w109) := ⟨⟨v109, rfl, by rw [hO.out]; exact R109.base zz⟩, nxt G0.n n109⟩
    clear C0 C1 CL AP CY R104 m104 n104 R109 n109 G0 nd bA rE
    go_wp2
    go_ret
    exact FIN.out
end Go.Proofs.YtmmbkkfjiaoeiaaGreat
namespace Go.Proofs.YtmmbkkfjiaoeiaaGreat
open Go Go.RowKit
set_option maxRecDepth 100000 in
set_option maxHeartbeats 8000000 in
theorem sbHello_any (w : World) (x10 x11 x12 : Value) (v : Int) (v0 : 0 ≤ v) (v1 : v ≤ 255) (l2 l3 l6 l9 : Lst) (H2 : LstR w l2) (H3 : LstR w l3) (H6 : LstR w l6) (H9 : LstR w l9) (ho : List UInt8) (hh : ho.length ≤ 255) (g : Nat) (a : Option Addr) (c : Nat) (ls : List (List UInt8)) (H : TxsR w g a ls) (hs : ∀ l ∈ ls, l.length ≤ 255) (ag ea : Int) (a0 : 0 ≤ ag) (a1 : ag < 9223372036854775808) (e0 : 0 ≤ ea) (e1 : ea ≤ 255) :
    Calls Tryz.prog 53 #[.agg #[.int .i64 1, .int .i64 v, .slice l2.a l2.xs.length l2.c, .slice l3.a l3.xs.length l3.c, .string ⟨⟨ho⟩⟩, .slice a ls.length c, .slice l6.a l6.xs.length l6.c, .int .i64 ag, .int .i64 ea, .slice l9.a l9.xs.length l9.c, x10, x11, x12]] w (BodP w (heL v l2.xs l3.xs ho ls l6.xs ag ea l9.xs)) := by
  have G0 := Gr.start w #[.int .i64 1, .int .i64 v, .slice l2.a l2.xs.length l2.c, .slice l3.a l3.xs.length l3.c, .string ⟨⟨ho⟩⟩, .slice a ls.length c, .slice l6.a l6.xs.length l6.c, .int .i64 ag, .int .i64 ea, .slice l9.a l9.xs.length l9.c, x10, x11, x12].toList
  have m2 := H2.m
  have m3 := H3.m
  have m6 := H6.m
  have m9 := H9.m
  have LL : Hid ((lsL ls).length ≤ 8388617) := lsL_len ls H.n H.z
  obtain ⟨OUT, hO'⟩ : ∃ l : List Int, l = heL v l2.xs l3.xs ho ls l6.xs ag ea l9.xs := ⟨_, rfl⟩
  rw [← hO']
  have hO : Hid (OUT = ((((([v] ++ l2.xs) ++ l3.xs) ++ shL ho) ++ lsL ls) ++ loL l6.xs) ++ bdL l6.xs ag ea l9.xs) := by show _ = _; rw [hO']; unfold heL fpL; rw [big1 v v0 v1]; simp only [List.append_assoc]
  clear hO'
  have k0 := G0.c.cell 0
  have z1 : (w.alloc (.cells #[.int .i64 1, .int .i64 v, .slice l2.a l2.xs.length l2.c, .slice l3.a l3.xs.length l3.c, .string ⟨⟨ho⟩⟩, .slice a ls.length c, .slice l6.a l6.xs.length l6.c, .int .i64 ag, .int .i64 ea, .slice l9.a l9.xs.length l9.c, x10, x11, x12] 26)).heap.size = w.heap.size + 1 := by simp
  have v256 : v < 256 := by omega
  go_enter Tryz.func53, Tryz.ntmps53
  go_upto_region 4 with fail
  clear k0 z1
  obtain ⟨vR, hvR⟩ : ∃ x, x = Value.slice (some ⟨w.heap.size + 1, 0, none⟩) 0 0 := ⟨_, rfl⟩
  rw [← hvR] at G0 ⊢
  clear hvR
  generalize (w.alloc (.cells #[.int .i64 1, .int .i64 v, .slice l2.a l2.xs.length l2.c, .slice l3.a l3.xs.length l3.c, .string ⟨⟨ho⟩⟩, .slice a ls.length c, .slice l6.a l6.xs.length l6.c, .int .i64 ag, .int .i64 ea, .slice l9.a l9.xs.length l9.c, x10, x11, x12] 26)).alloc (.cells #[] 5) = W2 at *
  have c1 := G0.c.cell 1
  obtain ⟨v1', W3, hap, G1⟩ := G0.one v (by simp)
  clear G0
  go_upto_region 5 with (at_builtin; refine Lib.wpList_append_run _ rfl _ _ 22 22 rfl _ _ rfl rfl _ _ hap ?_)
  clear hap c1
  rw [List.nil_append] at G1
  have nd : Below W3.heap.size W3 W3.drew := (Below.refl _ _).drew
  have G2 := G1.up nd
  have A19 := hide (G2.app l2.g l2.a l2.c l2.xs (G2.list H2).r H2.z (by simp; omega))
  have A22 : Hid (∀ v' W, Gr w #[.int .i64 1, .int .i64 v, .slice l2.a l2.xs.length l2.c, .slice l3.a l3.xs.length l3.c, .string ⟨⟨ho⟩⟩, .slice a ls.length c, .slice l6.a l6.xs.length l6.c, .int .i64 ag, .int .i64 ea, .slice l9.a l9.xs.length l9.c, x10, x11, x12].toList W v' ([v] ++ l2.xs) → ∃ v'' w', (Builtin.append_ #[22, 22] 22 #[v', .slice l3.a l3.xs.length l3.c]).run Tryz.prog W = .ok v'' w' ∧ (Gr w #[.int .i64 1, .int .i64 v, .slice l2.a l2.xs.length l2.c, .slice l3.a l3.xs.length l3.c, .string ⟨⟨ho⟩⟩, .slice a ls.length c, .slice l6.a l6.xs.length l6.c, .int .i64 ag, .int .i64 ea, .slice l9.a l9.xs.length l9.c, x10, x11, x12].toList w' v'' (([v] ++ l2.xs) ++ l3.xs) ∧ Below (w.heap.size + 1) W w')) := fun v' W h => h.app l3.g l3.a l3.c l3.xs (h.list H3).r H3.z (by simp; omega)
  have CY : Hid (∀ W v' zs, Gr w #[.int .i64 1, .int .i64 v, .slice l2.a l2.xs.length l2.c, .slice l3.a l3.xs.length l3.c, .string ⟨⟨ho⟩⟩, .slice a ls.length c, .slice l6.a l6.xs.length l6.c, .int .i64 ag, .int .i64 ea, .slice l9.a l9.xs.length l9.c, x10, x11, x12].toList W v' zs → (W.cell? ⟨w.heap.size, 2, none⟩ = some (.slice l2.a l2.xs.length l2.c) ∧ W.cell? ⟨w.heap.size, 3, none⟩ = some (.slice l3.a l3.xs.length l3.c))) := fun W v' zs h => ⟨h.c.cell 2, h.c.cell 3⟩
  go_region_held3 (fun W => W.cell? ⟨w.heap.size, 2, none⟩ = some (.slice l2.a l2.xs.length l2.c) ∧ W.cell? ⟨w.heap.size, 3, none⟩ = some (.slice l3.a l3.xs.length l3.c))
    (first | exact (unhide CY) _ _ _ G2 | exact (unhide CY) _ _ _ G3 | exact (unhide CY) _ _ _ G4)
    (first
      | (refine step_append_exM rfl (.tmp 16) (.tmp 18) 22 22 rfl v1' (.slice l2.a l2.xs.length l2.c) rfl rfl _ A19.out ?_; rintro v19 w19 ⟨G3, -⟩; (have B22 := hide ((unhide A22) v19 w19 G3)))
      | (refine step_append_exM rfl (.tmp 19) (.tmp 21) 22 22 rfl v19 (.slice l3.a l3.xs.length l3.c) rfl rfl _ B22.out ?_; rintro v22 w22 ⟨G4, -⟩)
      | fail)
  clear A19 A22 B22 CY G1 G2 G3 nd
  obtain ⟨Z1, hZ1⟩ : ∃ l, l = ([v] ++ l2.xs) ++ l3.xs := ⟨_, rfl⟩
  have lZ1 : Hid (Z1.length ≤ 2097153) := by show _ ≤ _; rw [hZ1]; simp; omega
  rw [← hZ1] at G4 hO
  clear hZ1
  have c4 := G4.c.cell 4
  obtain ⟨cx, wx, hcv, DX, -, mx⟩ := convT w22 ho
  have SH := hide (l13ShortR_any wx w22.heap.size (some ⟨w22.heap.size, 0, none⟩) cx (txL ho) DX (fun h => nomatch h) (by rw [txL_len]; omega))
  rw [txL_len, ← shL_is ho hh] at SH
  clear DX
  go_wp2_with (first | (refine wpList_convT _ rfl 9 22 (.tmp 25) rfl (.string ⟨⟨ho⟩⟩) rfl _ _ hcv ?_) | fail)
  refine SH.out.mono ?_
  rintro e w27 ⟨v27, rfl, R27, n27⟩
  have G5 := (G4.up mx).up n27
  obtain ⟨v28, w28, hap, G6⟩ := G5.row R27 (by rw [shL_len]; have := lZ1.out; omega)
  clear G4 G5 R27 n27 mx hcv SH c4
  obtain ⟨Z2, hZ2⟩ : ∃ l, l = Z1 ++ shL ho := ⟨_, rfl⟩
  have lZ2 : Hid (Z2.length ≤ 2098000) := by show _ ≤ _; rw [hZ2, List.length_append, shL_len]; have := lZ1.out; omega
  rw [← hZ2] at G6 hO
  clear hZ2
  have c5 := G6.c.cell 5
  have CL := hide (l13List_any w28 g a c ls (H.up G6.n) hs)
  go_wp2_with (at_builtin; refine Lib.wpList_append_run _ rfl _ _ 22 22 rfl _ _ rfl rfl _ _ hap ?_)
  clear hap
  refine CL.out.mono ?_
  rintro e w32 ⟨⟨v32, rfl, R32⟩, n32⟩
  obtain ⟨v33, w33, hap, G7⟩ := (G6.up n32).row R32 (by have := lZ2.out; have := LL.out; omega)
  clear G6 R32 n32 CL c5
  obtain ⟨Z3, hZ3⟩ : ∃ l, l = Z2 ++ lsL ls := ⟨_, rfl⟩
  have lZ3 : Hid (Z3.length ≤ 11000000) := by show _ ≤ _; rw [hZ3, List.length_append]; have := lZ2.out; have := LL.out; omega
  rw [← hZ3] at G7 hO
  clear hZ3
  have c6 := G7.c.cell 6
  have CG := hide (l13Long_any w33 l6 (G7.list H6))
  go_wp2_with (at_builtin; refine Lib.wpList_append_run _ rfl _ _ 22 22 rfl _ _ rfl rfl _ _ hap ?_)
  clear hap
  refine CG.out.mono ?_
  rintro e w37 ⟨⟨v37, rfl, R37⟩, n37⟩
  obtain ⟨v38, w38, hap, G8⟩ := (G7.up n37).row R37 (by rw [loL_len]; have := lZ3.out; omega)
  clear G7 R37 n37 CG c6
  obtain ⟨Z4, hZ4⟩ : ∃ l, l = Z3 ++ loL l6.xs := ⟨_, rfl⟩
  have lZ4 : Hid (Z4.length ≤ 13000000) := by show _ ≤ _; rw [hZ4, List.length_append, loL_len]; have := lZ3.out; omega
  rw [← hZ4] at G8 hO
  clear hZ4
  have c6 := G8.c.cell 6
  by_cases h6 : l6.xs.length = 0
  · have t6 : ¬ (0 < l6.xs.length) := by omega
    have FIN : Hid (BodP w OUT (.returned v38) w38) := by show BodP _ _ _ _; rw [hO.out]; unfold bdL; rw [if_pos h6, List.append_nil]; exact G8.body
    clear G8 h6
    go_wp2_with (at_builtin; refine Lib.wpList_append_run _ rfl _ _ 22 22 rfl _ _ rfl rfl _ _ hap ?_)
    clear hap
    go_ret
    exact FIN.out
  · have t6 : 0 < l6.xs.length := by omega
    have c7 := G8.c.cell 7
    have L1 := hide (l1BigB_any w38 ag 4 a0 a1 (by decide))
    have hO2 : Hid (OUT = ((Z4 ++ bigL ag 4) ++ [ea]) ++ l9.xs) := by show _ = _; rw [hO.out]; unfold bdL; rw [if_neg h6, big1 ea e0 e1]; simp only [List.append_assoc]
    clear hO h6
    go_wp2_with (at_builtin; refine Lib.wpList_append_run _ rfl _ _ 22 22 rfl _ _ rfl rfl _ _ hap ?_)
    clear hap
    refine L1.out.mono ?_
    rintro e w46 ⟨rfl, R46, n46⟩
    obtain ⟨v47, w47, hap, G9⟩ := (G8.up n46).row R46 (by rw [bigL_len]; have := lZ4.out; omega)
    clear G8 R46 n46 L1 c7 c6
    obtain ⟨Z5, hZ5⟩ : ∃ l, l = Z4 ++ bigL ag 4 := ⟨_, rfl⟩
    have lZ5 : Hid (Z5.length ≤ 13000004) := by show _ ≤ _; rw [hZ5, List.length_append, bigL_len]; have := lZ4.out; omega
    rw [← hZ5] at G9 hO2
    clear hZ5
    go_upto_region 11 with (at_builtin; refine Lib.wpList_append_run _ rfl _ _ 22 22 rfl _ _ rfl rfl _ _ hap ?_)
    clear hap
    have w8 : IntKind.u8.wrap ea = ea := by simp [IntKind.wrap, IntKind.signed, IntKind.bits]; omega
    have nd : Below w47.heap.size w47 w47.drew := (Below.refl _ _).drew
    have GA := G9.up nd
    have GL := GA.up (show Below w47.drew.heap.size w47.drew (w47.drew.alloc (.cells #[.int .u8 ea] 5)) from (Below.refl _ _).alloc (Nat.le_refl _) _)
    have A53 : Hid (∃ v' w', (Builtin.append_ #[22, 22] 22 #[v47, .slice (some ⟨w47.heap.size, 0, none⟩) 1 1]).run Tryz.prog (w47.drew.alloc (.cells #[.int .u8 ea] 5)) = .ok v' w' ∧ Gr w #[.int .i64 1, .int .i64 v, .slice l2.a l2.xs.length l2.c, .slice l3.a l3.xs.length l3.c, .string ⟨⟨ho⟩⟩, .slice a ls.length c, .slice l6.a l6.xs.length l6.c, .int .i64 ag, .int .i64 ea, .slice l9.a l9.xs.length l9.c, x10, x11, x12].toList w' v' (Z5 ++ [ea])) := GA.one ea (by have := lZ5.out; omega)
    have A56 : Hid (∀ v' W, Gr w #[.int .i64 1, .int .i64 v, .slice l2.a l2.xs.length l2.c, .slice l3.a l3.xs.length l3.c, .string ⟨⟨ho⟩⟩, .slice a ls.length c, .slice l6.a l6.xs.length l6.c, .int .i64 ag, .int .i64 ea, .slice l9.a l9.xs.length l9.c, x10, x11, x12].toList W v' (Z5 ++ [ea]) → ∃ v'' w', (Builtin.append_ #[22, 22] 22 #[v', .slice l9.a l9.xs.length l9.c]).run Tryz.prog W = .ok v'' w' ∧ (Gr w #[.int .i64 1, .int .i64 v, .slice l2.a l2.xs.length l2.c, .slice l3.a l3.xs.length l3.c, .string ⟨⟨ho⟩⟩, .slice a ls.length c, .slice l6.a l6.xs.length l6.c, .int .i64 ag, .int .i64 ea, .slice l9.a l9.xs.length l9.c, x10, x11, x12].toList w' v'' ((Z5 ++ [ea]) ++ l9.xs) ∧ Below (w.heap.size + 1) W w')) := fun v' W h => h.app l9.g l9.a l9.c l9.xs (h.list H9).r H9.z (by have := lZ5.out; simp; omega)
    have CY : Hid (∀ W v' zs, Gr w #[.int .i64 1, .int .i64 v, .slice l2.a l2.xs.length l2.c, .slice l3.a l3.xs.length l3.c, .string ⟨⟨ho⟩⟩, .slice a ls.length c, .slice l6.a l6.xs.length l6.c, .int .i64 ag, .int .i64 ea, .slice l9.a l9.xs.length l9.c, x10, x11, x12].toList W v' zs → (W.cell? ⟨w.heap.size, 8, none⟩ = some (.int .i64 ea) ∧ W.cell? ⟨w.heap.size, 9, none⟩ = some (.slice l9.a l9.xs.length l9.c))) := fun W v' zs h => ⟨h.c.cell 8, h.c.cell 9⟩
    go_region_held3 (fun W => W.cell? ⟨w.heap.size, 8, none⟩ = some (.int .i64 ea) ∧ W.cell? ⟨w.heap.size, 9, none⟩ = some (.slice l9.a l9.xs.length l9.c))
      (first | exact (unhide CY) _ _ _ GA | exact (unhide CY) _ _ _ GL | exact (unhide CY) _ _ _ GB | exact (unhide CY) _ _ _ GC)
      (first
        | (refine step_append_exM rfl (.tmp 48) (.tmp 52) 22 22 rfl v47 (.slice (some ⟨w47.heap.size, 0, none⟩) 1 1) rfl rfl _ A53.out ?_; rintro v53 w53 GB; (have B56 := hide ((unhide A56) v53 w53 GB)))
        | (refine step_append_exM rfl (.tmp 53) (.tmp 55) 22 22 rfl v53 (.slice l9.a l9.xs.length l9.c) rfl rfl _ B56.out ?_; rintro v56 w56 ⟨GC, -⟩)
        | fail)
    have FIN : Hid (BodP w OUT (.returned v56) w56) := by show BodP _ _ _ _; rw [hO2.out]; exact GC.body
    clear A53 A56 B56 CY G9 GA GL GB GC nd
    go_wp2
    go_ret
    exact FIN.out
end Go.Proofs.YtmmbkkfjiaoeiaaGreat
