import Derived.Test.YtcaljanahpdidaaGreatGV15
import Derived.Test.YtcaljanahpdidaaGreatGV1
import Derived.Test.YtcaljanahpdidaaGreatGV12
import Derived.Test.YtcaljanahpdidaaGreatGV13
import Derived.Deep.RegionLaw
import Derived.Deep.DeepMust
import Derived.Test.YtcaljanahpdidaaGreatGV3
import Derived.Test.YtcaljanahpdidaaGreatGV2
import Derived.Deep.QuietTactic
import Derived.BigQuiet
import Derived.Test.YtcaljanahpdidaaGreatGV14
import Derived.Test.YtcaljanahpdidaaGreatGV8
import Derived.Test.YtcaljanahpdidaaGreatGV6
import Derived.Test.YtcaljanahpdidaaGreatGV11
namespace Go.Proofs.YtcaljanahpdidaaGreat
open Go Go.RowKit
def ppT (xs : List Int) (i : Nat) : Nat → Nat
  | 0 => i
  | k + 1 => ppT xs i k + 1 + (beN xs (ppT xs i k) 1).toNat
def txT (xs : List Int) (i k : Nat) : List (List UInt8) := (List.range k).map fun j => txB (tkB xs (ppT xs i j + 1) (beN xs (ppT xs i j) 1).toNat)
theorem txT_len (xs : List Int) (i k : Nat) : (txT xs i k).length = k := by simp [txT]
theorem txT_step (xs : List Int) (i k : Nat) : txT xs i (k + 1) = txT xs i k ++ [txB (tkB xs (ppT xs i k + 1) (beN xs (ppT xs i k) 1).toNat)] := by simp [txT, List.range_succ]
theorem ppT_le (xs : List Int) (i k n : Nat) (h : k ≤ n) : ppT xs i k ≤ ppT xs i n := by
  induction n with
  | zero => obtain rfl : k = 0 := by omega
            exact Nat.le_refl _
  | succ n ih =>
    by_cases e : k = n + 1
    · subst e
      exact Nat.le_refl _
    · have := ih (by omega)
      show _ ≤ ppT xs i n + 1 + _
      omega
theorem RowT.kp {w w' : World} {base p : Nat} {v : Value} {ls : List (List UInt8)} (h : RowT w base v ls) (n : Kp p w w') (hp : p < base) : RowT w' base v ls := by
  refine ⟨h.1, ?_⟩
  rcases h.2 with h' | ⟨g, cap, cur, rfl, hbg, hg, hnc, hcm, hcs, ht⟩
  · exact .inl h'
  · exact .inr ⟨g, cap, cur, rfl, hbg, by rw [n.block g ((Array.getElem?_eq_some_iff.1 hg).1) (by omega)]; exact hg, hnc, hcm, hcs, ht⟩
theorem Kp.below' {p B : Nat} {w v v' : World} (h : Kp p w v) (n : Below B v v') (hB : w.heap.size ≤ B) : Kp p w v' :=
  ⟨n.os.trans h.os, n.tape.trans h.tape, n.output.trans h.output, Nat.le_trans h.size n.size, fun k hk hp => (n.block k (by omega)).trans (h.block k hk hp)⟩
theorem Cur.belw {w w' : World} {p B : Nat} {l : Value} {i : Int} (h : Cur w p l i) (n : Below B w w') (hp : p < B) : Cur w' p l i := by
  obtain ⟨t, h⟩ := h
  exact ⟨t, (n.block p hp).trans h⟩
set_option maxRecDepth 100000 in
set_option maxHeartbeats 4000000 in
theorem shorts_any (w : World) (p g : Nat) (a : Option Addr) (c : Nat) (xs : List Int) (i : Nat) (hC : Cur w p (.slice a xs.length c) i) (hpl : p < w.heap.size) (hr : Rd w g a .u8 xs) (hb : Byt xs) (hgp : 0 < xs.length → g ≠ p) (hc0 : a = none → c = 0) (hc : xs.length ≤ c) (hn : xs.length ≤ 1048576) (hi : i ≤ xs.length) :
    Calls Tryz.prog 89 #[.pointer (some ⟨p, 0, none⟩)] w fun e w' => ((i < xs.length ∧ ppT xs (i + 1) (xs.getD i 0).toNat ≤ xs.length ∧ (∃ v, e = .returned v ∧ RowT w' w.heap.size v (txT xs (i + 1) (xs.getD i 0).toNat)) ∧ Cur w' p (.slice a xs.length c) ((ppT xs (i + 1) (xs.getD i 0).toNat : Nat) : Int)) ∨ (¬ (i < xs.length ∧ ppT xs (i + 1) (xs.getD i 0).toNat ≤ xs.length) ∧ Pan e)) ∧ Kp p w w' := by
  by_cases h1 : i < xs.length
  rotate_left
  · have TB := hide (take_bad w p a xs.length c i hC (by omega))
    have H := hide h1
    clear hC hr h1
    go_enter Tryz.func89, Tryz.ntmps89
    go_wp2_with fail
    refine TB.out.mono ?_
    rintro e v1 ⟨⟨t', v', rfl⟩, O2⟩
    go_wp2
    exact ⟨rfl, .inr ⟨fun h => H.out h.1, t', v', rfl⟩, O2.kp⟩
  have TK := hide (take_ok w p g a c xs i hC hr h1 (by omega))
  have bx := hb i
  obtain ⟨n, hn1⟩ := Int.eq_ofNat_of_zero_le bx.1
  have e1 : (xs.getD i 0).toNat = n := by omega
  rw [e1]
  rw [hn1] at TK
  have n256 : n < 256 := by omega
  clear hn1 e1 hC
  go_enter Tryz.func89, Tryz.ntmps89
  go_wp2_with fail
  refine TK.out.mono ?_
  rintro e w1 ⟨rfl, C1, O1⟩
  have K1 := O1.kp
  have sz1 := O1.size
  clear TK O1
  go_wp2
  go_loopw [3, 6] (fun v j wr => ∃ k : Nat, k ≤ n ∧ j = .int .u8 k ∧ RowT wr w.heap.size v (txT xs (i + 1) k) ∧ Cur wr p (.slice a xs.length c) ((ppT xs (i + 1) k : Nat) : Int) ∧ ppT xs (i + 1) k ≤ xs.length ∧ Kp p w wr) (fun _ j _ => n - (intOf j).toNat)
  case atStart => exact ⟨0, Nat.zero_le _, rfl, World.ownsRow_nil _ _ _ _, C1, by show i + 1 ≤ _; omega, K1⟩
  case round =>
    obtain ⟨k, hk, rfl, hR, hC, hpp, hK⟩ := hrel
    clear C1 K1
    by_cases hlt : k < n
    · have t0 : (k : Int) < (n : Int) := by omega
      have hrk := hr.of_block' (fun h => hK.block g (hr.lt h) (hgp h))
      have SH := hide (short_any wr p g a c xs (ppT xs (i + 1) k) hC hrk hb hgp hc0 hc hn hpp)
      have LE := hide (ppT_le xs (i + 1) (k + 1) n (by omega))
      have ST := hide (txT_step xs (i + 1) k)
      have LN := hide (txT_len xs (i + 1) k)
      have HR := hide hR
      have HK := hide hK
      clear hrk hC hR hK
      go_wp2_with fail
      refine SH.out.mono ?_
      rintro e w2 ⟨⟨h2, rfl, C2⟩ | ⟨h2, t', v', rfl⟩, K2⟩
      rotate_left
      · have H : Hid (¬ (i < xs.length ∧ ppT xs (i + 1) n ≤ xs.length)) := fun h => by
          have := LE.out
          have e : ppT xs (i + 1) (k + 1) = ppT xs (i + 1) k + 1 + (beN xs (ppT xs (i + 1) k) 1).toNat := rfl
          omega
        go_wp2
        exact ⟨rfl, .inr ⟨H.out, t', v', rfl⟩, HK.out.trans K2⟩
      have R2 := HR.out.kp K2 hpl
      have KK := HK.out.trans K2
      obtain ⟨v', w', hrun, R3, N3⟩ := append_tx w2 25 w.heap.size u3 _ R2 (txB (tkB xs (ppT xs (i + 1) k + 1) (beN xs (ppT xs (i + 1) k) 1).toNat)) (by rw [LN.out]; omega) KK.size
      generalize hl : txB (tkB xs (ppT xs (i + 1) k + 1) (beN xs (ppT xs (i + 1) k) 1).toNat) = ll at *
      have h1' : (Builtin.append_ #[25, 25] 25 #[u3, .slice (some ⟨w2.heap.size, 0, none⟩) 1 1]).run Tryz.prog (w2.alloc (.cells #[Value.string ⟨⟨ll⟩⟩] 9)) = .ok v' w' := hrun
      have FR : Hid (RowT w' w.heap.size v' (txT xs (i + 1) (k + 1))) := by show RowT _ _ _ _; rw [ST.out]; exact R3
      have FC : Hid (Cur w' p (.slice a xs.length c) ((ppT xs (i + 1) (k + 1) : Nat) : Int)) := C2.belw N3 hpl
      have FK := hide (KK.below' N3 (Nat.le_refl _))
      have FP : Hid (ppT xs (i + 1) (k + 1) ≤ xs.length) := h2
      clear R2 KK R3 N3 C2 K2 SH HR HK ST LE h2 hrun hl
      go_wp2_with (at_builtin; refine Lib.wpList_append_run _ rfl _ _ 25 25 rfl _ _ rfl rfl _ _ h1' ?_)
      go_roundw
      case rel => exact ⟨k + 1, by omega, by go_num, FR.out, FC.out, FP.out, FK.out⟩
      case measure => simp [intOf]; omega
    · obtain rfl : k = n := by omega
      have HR := hide hR
      have HC := hide hC
      have HK := hide hK
      clear hR hC hK
      go_wp2
      go_ret
      exact ⟨.inl ⟨h1, hpp, ⟨_, rfl, HR.out⟩, HC.out⟩, HK.out⟩
end Go.Proofs.YtcaljanahpdidaaGreat
namespace Go.Proofs.YtcaljanahpdidaaGreat
open Go Go.RowKit
theorem RowT.onl {w w' : World} {base q : Nat} {v : Value} {ls : List (List UInt8)} (h : RowT w base v ls) (O : Only q w w') (hq : q < base) : RowT w' base v ls := by
  refine ⟨h.1, ?_⟩
  rcases h.2 with h' | ⟨g, cap, cur, rfl, hbg, hg, hnc, hcm, hcs, ht⟩
  · exact .inl h'
  · exact .inr ⟨g, cap, cur, rfl, hbg, by rw [O.block g (by omega)]; exact hg, hnc, hcm, hcs, ht⟩
set_option maxRecDepth 100000 in
set_option maxHeartbeats 4000000 in
theorem extRead_any (w : World) (q p g : Nat) (a : Option Addr) (c : Nat) (xs : List Int) (t : TypeId) (hq : RwC w q [.slice none 0 0, .int .i64 0] t) (hqp : q ≠ p) (hC : Cur w p (.slice a xs.length c) ((0 : Nat) : Int)) (hpl : p < w.heap.size) (hr : Rd w g a .u8 xs) (hb : Byt xs) (hgp : 0 < xs.length → g ≠ p) (hgq : 0 < xs.length → g ≠ q) (hc0 : a = none → c = 0) (hc : xs.length ≤ c) (hn : xs.length ≤ 1048576) :
    Calls Tryz.prog 113 #[.pointer (some ⟨q, 0, none⟩), .pointer (some ⟨p, 0, none⟩)] w fun e w' => ((0 < xs.length ∧ ppT xs 1 (xs.getD 0 0).toNat + 1 ≤ xs.length ∧ e = .returned (.tuple #[]) ∧ ∃ v, RwC w' q [v, .int .i64 (beN xs (ppT xs 1 (xs.getD 0 0).toNat) 1)] t ∧ RowT w' w.heap.size v (txT xs 1 (xs.getD 0 0).toNat)) ∨ (¬ (0 < xs.length ∧ ppT xs 1 (xs.getD 0 0).toNat + 1 ≤ xs.length) ∧ Pan e)) ∧ Kq p q w w' := by
  have hql := hq.lt
  have SH := hide (shorts_any w p g a c xs 0 hC hpl hr hb hgp hc0 hc hn (Nat.zero_le _))
  clear hC
  obtain ⟨P, hP⟩ : ∃ P, P = ppT xs (0 + 1) (xs.getD 0 0).toNat := ⟨_, rfl⟩
  have hP1 : ppT xs 1 (xs.getD 0 0).toNat = P := hP.symm
  rw [← hP] at SH
  rw [hP1]
  clear hP hP1
  obtain ⟨TX, hT⟩ : ∃ T, T = txT xs (0 + 1) (xs.getD 0 0).toNat := ⟨_, rfl⟩
  have hT1 : txT xs 1 (xs.getD 0 0).toNat = TX := hT.symm
  rw [← hT] at SH
  rw [hT1]
  clear hT hT1
  go_enter Tryz.func113, Tryz.ntmps113
  go_wp2_with fail
  refine SH.out.mono ?_
  rintro e v1 ⟨⟨h1, h2, ⟨rv, rfl, R1⟩, C1⟩ | ⟨h1, t', v', rfl⟩, K1⟩
  rotate_left
  · have H : Hid (¬ (0 < xs.length ∧ P + 1 ≤ xs.length)) := fun h => h1 ⟨h.1, by omega⟩
    go_wp2
    exact ⟨rfl, .inr ⟨H.out, t', v', rfl⟩, K1.tch.mono (by simp)⟩
  clear SH
  have Q1 := hq.kp K1 hqp
  have c0 : v1.cell? ⟨q, 0, none⟩ = some (.slice none 0 0) := Q1.cell 0
  have f0 := Q1.free 0
  have O := Only.setCell v1 q 0 rv
  have Q2 : RwC (v1.setCell ⟨q, 0, none⟩ rv) q [rv, .int .i64 0] t := Q1.set 0 _
  have T2 : Tch [p, q] w (v1.setCell ⟨q, 0, none⟩ rv) := (K1.tch.trans (Tch.of_only O)).mono (by simp)
  have C2 := C1.only' O (by omega)
  have R2 := R1.onl O hql
  have hr2 := (hr.of_block' (fun h => K1.block g (hr.lt h) (hgp h))).of_block' (fun h => O.block g (hgq h))
  obtain ⟨ra, rl, rc, hrv⟩ : ∃ ra rl rc, rv = .slice ra rl rc := by
    rcases R1.2 with ⟨h', _⟩ | ⟨g', cap, cur, h', _⟩
    · exact ⟨_, _, _, h'⟩
    · exact ⟨_, _, _, h'⟩
  subst hrv
  clear hq Q1 K1 O C1 R1 hr
  go_upto_region 1 with fail
  generalize v1.setCell ⟨q, 0, none⟩ (.slice ra rl rc) = w2 at *
  clear c0 f0
  by_cases h3 : P + 1 ≤ xs.length
  rotate_left
  · have NB := hide (number_bad w2 p g a c xs P 1 C2 hr2 hgp (by omega) (by omega) (by omega) (by omega))
    have H : Hid (¬ (0 < xs.length ∧ P + 1 ≤ xs.length)) := fun h => h3 h.2
    go_wp2_with fail
    refine NB.out.mono ?_
    rintro e v2 ⟨⟨t', v', rfl⟩, O2⟩
    go_wp2
    exact ⟨rfl, .inr ⟨H.out, t', v', rfl⟩, (T2.trans (Tch.of_only O2)).mono (by simp)⟩
  have NM := hide (numberG_any w2 p g a c xs P 1 C2 hr2 hb hgp h3 (by omega) (by omega))
  rw [nmV_small hb P 1 (by decide)] at NM
  go_wp2_with fail
  refine NM.out.mono ?_
  rintro e v2 ⟨rfl, -, O1⟩
  have K := O1.kp
  have Q3 := Q2.kp K hqp
  have c1 : v2.cell? ⟨q, 1, none⟩ = some (.int .i64 0) := Q3.cell 1
  have f1 := Q3.free 1
  have O := Only.setCell v2 q 1 (.int .i64 (beN xs P 1))
  have FQ : Hid (RwC (v2.setCell ⟨q, 1, none⟩ (.int .i64 (beN xs P 1))) q [.slice ra rl rc, .int .i64 (beN xs P 1)] t) := Q3.set 1 _
  have FT : Hid (Kq p q w (v2.setCell ⟨q, 1, none⟩ (.int .i64 (beN xs P 1)))) := ((T2.trans K.tch).trans (Tch.of_only O)).mono (by simp)
  have FR := hide ((R2.kp K hpl).onl O hql)
  clear NM O1 K Q3 O R2 T2 Q2 C2 hr2
  go_wp2
  go_end0
  exact ⟨.inl ⟨h1, h3, rfl, _, FQ.out, FR.out⟩, FT.out⟩
end Go.Proofs.YtcaljanahpdidaaGreat
namespace Go.Proofs.YtcaljanahpdidaaGreat
open Go Go.RowKit
def hpA (xs : List Int) : Nat := 65 + 1 + (beN xs 65 1).toNat
def hpB (xs : List Int) : Nat := ppT xs (hpA xs + 1) (xs.getD (hpA xs) 0).toNat
def hpN (xs : List Int) : Nat := (beN xs (hpB xs) 2).toNat
def hpC (xs : List Int) : Nat := hpB xs + 2 + hpN xs
def HeG (xs : List Int) : Prop := hpA xs < xs.length ∧ hpC xs ≤ xs.length ∧ (0 < hpN xs → hpC xs + 37 ≤ xs.length)
theorem RowT.base' {w : World} {b b' : Nat} {v : Value} {ls : List (List UInt8)} (h : RowT w b v ls) (l : b' ≤ b) : RowT w b' v ls := by
  refine ⟨h.1, ?_⟩
  rcases h.2 with h' | ⟨g, cap, cur, rfl, hbg, hg, hnc, hcm, hcs, ht⟩
  · exact .inl h'
  · exact .inr ⟨g, cap, cur, rfl, by omega, hg, hnc, hcm, hcs, ht⟩
set_option maxRecDepth 100000 in
set_option maxHeartbeats 8000000 in
theorem helRead_any (w : World) (q p g : Nat) (a : Option Addr) (c : Nat) (xs : List Int) (t : TypeId) (hq : RwC w q [.int .i64 0, .slice none 0 0, .slice none 0 0, .string ⟨#[]⟩, .slice none 0 0, .slice none 0 0, .int .i64 0, .int .i64 0, .slice none 0 0] t) (hqp : q ≠ p) (hC : Cur w p (.slice a xs.length c) ((0 : Nat) : Int)) (hpl : p < w.heap.size) (hr : Rd w g a .u8 xs) (hb : Byt xs) (hgp : 0 < xs.length → g ≠ p) (hgq : 0 < xs.length → g ≠ q) (hc0 : a = none → c = 0) (hc : xs.length ≤ c) (hn : xs.length ≤ 1048576) :
    Calls Tryz.prog 75 #[.pointer (some ⟨q, 0, none⟩), .pointer (some ⟨p, 0, none⟩)] w fun e w' => ((HeG xs ∧ e = .returned (.tuple #[]) ∧ ∃ G1 G2 rv G5 x6 x7 x8, RwC w' q [.int .i64 (beN xs 0 1), .slice (some ⟨G1, 0, none⟩) 32 32, .slice (some ⟨G2, 0, none⟩) 32 32, .string ⟨⟨txB (tkB xs 66 (beN xs 65 1).toNat)⟩⟩, rv, .slice (some ⟨G5, 0, none⟩) (hpN xs) (hpN xs), .int .i64 x6, .int .i64 x7, x8] t ∧ Blk w' G1 .u8 (tkB xs 1 32) ∧ w.heap.size ≤ G1 ∧ Blk w' G2 .u8 (tkB xs 33 32) ∧ w.heap.size ≤ G2 ∧ G1 < G2 ∧ (∃ F1, G2 < F1 ∧ F1 ≤ G5 ∧ RowT w' F1 rv (txT xs (hpA xs + 1) (xs.getD (hpA xs) 0).toNat) ∧ ∀ k, rv.ownBlock = some k → k < G5) ∧ Blk w' G5 .u8 (tkB xs (hpB xs + 2) (hpN xs)) ∧ w.heap.size ≤ G5 ∧ ((hpN xs = 0 ∧ x6 = 0 ∧ x7 = 0 ∧ x8 = .slice none 0 0) ∨ (0 < hpN xs ∧ x6 = beN xs (hpC xs) 4 ∧ x7 = beN xs (hpC xs + 4) 1 ∧ ∃ G8, x8 = .slice (some ⟨G8, 0, none⟩) 32 32 ∧ Blk w' G8 .u8 (tkB xs (hpC xs + 5) 32) ∧ G5 < G8))) ∨ (¬ HeG xs ∧ Pan e)) ∧ Kq p q w w' := by
  have FR := hide (firstRead_any w q p g a c xs t [.string ⟨#[]⟩, .slice none 0 0, .slice none 0 0, .int .i64 0, .int .i64 0, .slice none 0 0] hq hqp hC hpl hr hb hgp hgq hc0 hc hn)
  have hql := hq.lt
  have EA : Hid (hpA xs = 65 + 1 + (beN xs 65 1).toNat) := rfl
  have EB : Hid (hpB xs = ppT xs (hpA xs + 1) (xs.getD (hpA xs) 0).toNat) := rfl
  have EN : Hid (hpN xs = (beN xs (hpB xs) 2).toNat) := rfl
  have EC : Hid (hpC xs = hpB xs + 2 + hpN xs) := rfl
  have lAB : hpA xs + 1 ≤ hpB xs := by rw [EB.out]; exact ppT_le xs (hpA xs + 1) 0 _ (Nat.zero_le _)
  have HG : Hid (HeG xs ↔ hpA xs < xs.length ∧ hpC xs ≤ xs.length ∧ (0 < hpN xs → hpC xs + 37 ≤ xs.length)) := Iff.rfl
  clear hq hC
  go_enter Tryz.func75, Tryz.ntmps75
  go_wp2_with fail
  refine FR.out.mono ?_
  rintro e w1 ⟨⟨h1, rfl, G1, G2, Q, C, B1, l1, B2, l2, o12⟩ | ⟨h1, t', v', rfl⟩, T⟩
  rotate_left
  · have H : Hid (¬ HeG xs) := fun h => by have := HG.out.1 h; have := EA.out; have := EB.out; have := EN.out; have := EC.out; omega
    go_wp2
    exact ⟨rfl, .inr ⟨H.out, t', v', rfl⟩, T⟩
  have T : Tch [p, q] w w1 := T
  have hr := hr.tchK T (fun h0 => by have := hgp h0; have := hgq h0; simp; omega)
  clear FR
  have NM := hide (short_any w1 p g a c xs 65 C hr hb hgp hc0 hc hn (by omega))
  go_wp2_with fail
  refine NM.out.mono ?_
  rintro e v1 ⟨⟨hs, rfl, C'⟩ | ⟨h1, t', v', rfl⟩, K⟩
  rotate_left
  · have H : Hid (¬ HeG xs) := fun h => by have := HG.out.1 h; have := EA.out; have := EB.out; have := EN.out; have := EC.out; omega
    go_wp2
    exact ⟨rfl, .inr ⟨H.out, t', v', rfl⟩, (T.trans K.tch).mono (by simp)⟩
  have Q1 : RwC v1 q [.int .i64 (beN xs 0 1), .slice (some ⟨G1, 0, none⟩) 32 32, .slice (some ⟨G2, 0, none⟩) 32 32, .string ⟨#[]⟩, .slice none 0 0, .slice none 0 0, .int .i64 0, .int .i64 0, .slice none 0 0] t := Q.kp K hqp
  have cc : v1.cell? ⟨q, 3, none⟩ = some (.string ⟨#[]⟩) := Q1.cell 3
  have ff := Q1.free 3
  have O := Only.setCell v1 q 3 (.string ⟨⟨txB (tkB xs 66 (beN xs 65 1).toNat)⟩⟩)
  have Q2 : RwC (v1.setCell ⟨q, 3, none⟩ (.string ⟨⟨txB (tkB xs 66 (beN xs 65 1).toNat)⟩⟩)) q [.int .i64 (beN xs 0 1), .slice (some ⟨G1, 0, none⟩) 32 32, .slice (some ⟨G2, 0, none⟩) 32 32, .string ⟨⟨txB (tkB xs 66 (beN xs 65 1).toNat)⟩⟩, .slice none 0 0, .slice none 0 0, .int .i64 0, .int .i64 0, .slice none 0 0] t := Q1.set 3 _
  have T2 : Tch [p, q] w (v1.setCell ⟨q, 3, none⟩ (.string ⟨⟨txB (tkB xs 66 (beN xs 65 1).toNat)⟩⟩)) := ((T.trans K.tch).trans (Tch.of_only O)).mono (by simp)
  have C2 := C'.only' O (by omega)
  have R2 := (hr.of_block' (fun h => K.block g (hr.lt h) (hgp h))).of_block' (fun h => O.block g (hgq h))
  replace B1 := (B1.kp K (by omega)).of_block (O.block _ (by omega))
  replace B2 := (B2.kp K (by omega)).of_block (O.block _ (by omega))
  have sT := T.size
  clear NM Q Q1 T K O C C' hr
  go_upto_region 2 with fail
  generalize v1.setCell ⟨q, 3, none⟩ (.string ⟨⟨txB (tkB xs 66 (beN xs 65 1).toNat)⟩⟩) = w2 at *
  have Q := Q2
  have T := T2
  have C := C2
  have hr := R2
  clear Q2 T2 C2 R2 cc ff
  rw [← EA.out] at C hs
  have NM := hide (shorts_any w2 p g a c xs (hpA xs) C (by have := T.size; omega) hr hb hgp hc0 hc hn (by omega))
  go_wp2_with fail
  refine NM.out.mono ?_
  rintro e v2 ⟨⟨ht1, ht2, ⟨rv, rfl, RT⟩, C'⟩ | ⟨h2, t', v', rfl⟩, K⟩
  rotate_left
  · have H : Hid (¬ HeG xs) := fun h => by have := HG.out.1 h; have := EA.out; have := EB.out; have := EN.out; have := EC.out; omega
    go_wp2
    exact ⟨rfl, .inr ⟨H.out, t', v', rfl⟩, (T.trans K.tch).mono (by simp)⟩
  obtain ⟨ra, rl, rc, hrv⟩ : ∃ ra rl rc, rv = .slice ra rl rc := by
    rcases RT.2 with ⟨h', _⟩ | ⟨g', cap, cur, h', _⟩
    · exact ⟨_, _, _, h'⟩
    · exact ⟨_, _, _, h'⟩
  subst hrv
  obtain ⟨F1, g2F, wF, F1v, RT⟩ : ∃ F1, G2 < F1 ∧ w.heap.size ≤ F1 ∧ F1 ≤ v2.heap.size ∧ RowT v2 F1 (.slice ra rl rc) (txT xs (hpA xs + 1) (xs.getD (hpA xs) 0).toNat) := ⟨w2.heap.size, B2.lt, T.size, K.size, RT⟩
  have Q1 : RwC v2 q [.int .i64 (beN xs 0 1), .slice (some ⟨G1, 0, none⟩) 32 32, .slice (some ⟨G2, 0, none⟩) 32 32, .string ⟨⟨txB (tkB xs 66 (beN xs 65 1).toNat)⟩⟩, .slice none 0 0, .slice none 0 0, .int .i64 0, .int .i64 0, .slice none 0 0] t := Q.kp K hqp
  have cc : v2.cell? ⟨q, 4, none⟩ = some (.slice none 0 0) := Q1.cell 4
  have ff := Q1.free 4
  have O := Only.setCell v2 q 4 (.slice ra rl rc)
  have Q2 : RwC (v2.setCell ⟨q, 4, none⟩ (.slice ra rl rc)) q [.int .i64 (beN xs 0 1), .slice (some ⟨G1, 0, none⟩) 32 32, .slice (some ⟨G2, 0, none⟩) 32 32, .string ⟨⟨txB (tkB xs 66 (beN xs 65 1).toNat)⟩⟩, .slice ra rl rc, .slice none 0 0, .int .i64 0, .int .i64 0, .slice none 0 0] t := Q1.set 4 _
  have T2 : Tch [p, q] w (v2.setCell ⟨q, 4, none⟩ (.slice ra rl rc)) := ((T.trans K.tch).trans (Tch.of_only O)).mono (by simp)
  have C2 := C'.only' O (by omega)
  have R2 := (hr.of_block' (fun h => K.block g (hr.lt h) (hgp h))).of_block' (fun h => O.block g (hgq h))
  replace B1 := (B1.kp K (by omega)).of_block (O.block _ (by omega))
  replace B2 := (B2.kp K (by omega)).of_block (O.block _ (by omega))
  replace RT := RT.onl O (by omega)
  have FV : F1 ≤ (v2.setCell ⟨q, 4, none⟩ (.slice ra rl rc)).heap.size := by rw [O.size]; exact F1v
  clear F1v
  have sT := T.size
  clear NM Q Q1 T K O C C' hr
  go_upto_region 3 with fail
  generalize v2.setCell ⟨q, 4, none⟩ (.slice ra rl rc) = w3 at *
  have Q := Q2
  have T := T2
  have C := C2
  have hr := R2
  clear Q2 T2 C2 R2 cc ff
  rw [← EB.out] at C ht2
  have NM := hide (long_any w3 p g a c xs (hpB xs) C hr hb hgp hc0 hc hn (by omega))
  go_wp2_with fail
  refine NM.out.mono ?_
  rintro e v3 ⟨⟨hl1, ⟨G5, rfl, B5, l5⟩, C'⟩ | ⟨h3, t', v', rfl⟩, K⟩
  rotate_left
  · have H : Hid (¬ HeG xs) := fun h => by have := HG.out.1 h; have := EA.out; have := EB.out; have := EN.out; have := EC.out; omega
    go_wp2
    exact ⟨rfl, .inr ⟨H.out, t', v', rfl⟩, (T.trans K.tch).mono (by simp)⟩
  have l5' : w.heap.size ≤ G5 := Nat.le_trans T.size l5
  have F5 : F1 ≤ G5 := Nat.le_trans FV l5
  have rvG : Hid (∀ k, Value.ownBlock (.slice ra rl rc) = some k → k < G5) := fun k hk => Nat.lt_of_lt_of_le (World.ownsRow.lt RT k hk).2 l5
  clear l5 FV
  have Q1 : RwC v3 q [.int .i64 (beN xs 0 1), .slice (some ⟨G1, 0, none⟩) 32 32, .slice (some ⟨G2, 0, none⟩) 32 32, .string ⟨⟨txB (tkB xs 66 (beN xs 65 1).toNat)⟩⟩, .slice ra rl rc, .slice none 0 0, .int .i64 0, .int .i64 0, .slice none 0 0] t := Q.kp K hqp
  have cc : v3.cell? ⟨q, 5, none⟩ = some (.slice none 0 0) := Q1.cell 5
  have ff := Q1.free 5
  have O := Only.setCell v3 q 5 (.slice (some ⟨G5, 0, none⟩) (beN xs (hpB xs) 2).toNat (beN xs (hpB xs) 2).toNat)
  have Q2 : RwC (v3.setCell ⟨q, 5, none⟩ (.slice (some ⟨G5, 0, none⟩) (beN xs (hpB xs) 2).toNat (beN xs (hpB xs) 2).toNat)) q [.int .i64 (beN xs 0 1), .slice (some ⟨G1, 0, none⟩) 32 32, .slice (some ⟨G2, 0, none⟩) 32 32, .string ⟨⟨txB (tkB xs 66 (beN xs 65 1).toNat)⟩⟩, .slice ra rl rc, .slice (some ⟨G5, 0, none⟩) (beN xs (hpB xs) 2).toNat (beN xs (hpB xs) 2).toNat, .int .i64 0, .int .i64 0, .slice none 0 0] t := Q1.set 5 _
  have T2 : Tch [p, q] w (v3.setCell ⟨q, 5, none⟩ (.slice (some ⟨G5, 0, none⟩) (beN xs (hpB xs) 2).toNat (beN xs (hpB xs) 2).toNat)) := ((T.trans K.tch).trans (Tch.of_only O)).mono (by simp)
  have C2 := C'.only' O (by omega)
  have R2 := (hr.of_block' (fun h => K.block g (hr.lt h) (hgp h))).of_block' (fun h => O.block g (hgq h))
  replace B1 := (B1.kp K (by omega)).of_block (O.block _ (by omega))
  replace B2 := (B2.kp K (by omega)).of_block (O.block _ (by omega))
  replace RT := (RT.kp K (by omega)).onl O (by omega)
  replace B5 := B5.of_block (O.block _ (by omega))
  have sT := T.size
  clear NM Q Q1 T K O C C' hr
  go_upto_region 4 with fail
  generalize v3.setCell ⟨q, 5, none⟩ (.slice (some ⟨G5, 0, none⟩) (beN xs (hpB xs) 2).toNat (beN xs (hpB xs) 2).toNat) = w4 at *
  have Q := Q2
  have T := T2
  have C := C2
  have hr := R2
  clear Q2 T2 C2 R2 cc ff
  rw [← EN.out] at Q B5 C hl1
  try rw [← EN.out]
  rw [← EC.out] at C hl1
  have c5 : w4.cell? ⟨q, 5, none⟩ = some (.slice (some ⟨G5, 0, none⟩) (hpN xs) (hpN xs)) := Q.cell 5
  by_cases hz : hpN xs = 0
  · have z0 : decide ((0 : Int) < (hpN xs : Int)) = false := decide_eq_false (by omega)
    have FIN : Hid (HeG xs) := HG.out.2 ⟨by omega, by omega, fun h => by omega⟩
    go_wp2
    go_end0
    exact ⟨.inl ⟨FIN.out, rfl, G1, G2, .slice ra rl rc, G5, 0, 0, .slice none 0 0, Q, B1, l1, B2, l2, o12, ⟨F1, g2F, F5, RT, rvG.out⟩, B5, l5', .inl ⟨hz, rfl, rfl, rfl⟩⟩, T⟩
  have hpos : 0 < hpN xs := by omega
  have z0 : decide ((0 : Int) < (hpN xs : Int)) = true := decide_eq_true (by omega)
  go_upto_region 5 with fail
  clear c5 z0
  by_cases h4 : hpC xs + 4 ≤ xs.length
  rotate_left
  · have NB := hide (number_bad w4 p g a c xs (hpC xs) 4 C hr hgp (by omega) (by omega) (by omega) (by omega))
    have H : Hid (¬ HeG xs) := fun h => by have := (HG.out.1 h).2.2 hpos; have := EC.out; omega
    go_wp2_with fail
    refine NB.out.mono ?_
    rintro e v4 ⟨⟨t', v', rfl⟩, O2⟩
    go_wp2
    exact ⟨rfl, .inr ⟨H.out, t', v', rfl⟩, (T.trans (Tch.of_only O2)).mono (by simp)⟩
  have NM := hide (numberG_any w4 p g a c xs (hpC xs) 4 C hr hb hgp (by omega) (by omega) (by omega))
  rw [nmV_small hb (hpC xs) 4 (by decide)] at NM
  go_wp2_with fail
  refine NM.out.mono ?_
  rintro e v4 ⟨rfl, C', O1⟩
  have K := O1.kp
  clear O1
  have Q1 : RwC v4 q [.int .i64 (beN xs 0 1), .slice (some ⟨G1, 0, none⟩) 32 32, .slice (some ⟨G2, 0, none⟩) 32 32, .string ⟨⟨txB (tkB xs 66 (beN xs 65 1).toNat)⟩⟩, .slice ra rl rc, .slice (some ⟨G5, 0, none⟩) (hpN xs) (hpN xs), .int .i64 0, .int .i64 0, .slice none 0 0] t := Q.kp K hqp
  have cc : v4.cell? ⟨q, 6, none⟩ = some (.int .i64 0) := Q1.cell 6
  have ff := Q1.free 6
  have O := Only.setCell v4 q 6 (.int .i64 (beN xs (hpC xs) 4))
  have Q2 : RwC (v4.setCell ⟨q, 6, none⟩ (.int .i64 (beN xs (hpC xs) 4))) q [.int .i64 (beN xs 0 1), .slice (some ⟨G1, 0, none⟩) 32 32, .slice (some ⟨G2, 0, none⟩) 32 32, .string ⟨⟨txB (tkB xs 66 (beN xs 65 1).toNat)⟩⟩, .slice ra rl rc, .slice (some ⟨G5, 0, none⟩) (hpN xs) (hpN xs), .int .i64 (beN xs (hpC xs) 4), .int .i64 0, .slice none 0 0] t := Q1.set 6 _
  have T2 : Tch [p, q] w (v4.setCell ⟨q, 6, none⟩ (.int .i64 (beN xs (hpC xs) 4))) := ((T.trans K.tch).trans (Tch.of_only O)).mono (by simp)
  have C2 := C'.only' O (by omega)
  have R2 := (hr.of_block' (fun h => K.block g (hr.lt h) (hgp h))).of_block' (fun h => O.block g (hgq h))
  replace B1 := (B1.kp K (by omega)).of_block (O.block _ (by omega))
  replace B2 := (B2.kp K (by omega)).of_block (O.block _ (by omega))
  replace RT := (RT.kp K (by omega)).onl O (by omega)
  replace B5 := (B5.kp K (by omega)).of_block (O.block _ (by omega))
  have sT := T.size
  clear NM Q Q1 T K O C C' hr
  go_upto_region 6 with fail
  generalize v4.setCell ⟨q, 6, none⟩ (.int .i64 (beN xs (hpC xs) 4)) = w5 at *
  have Q := Q2
  have T := T2
  have C := C2
  have hr := R2
  clear Q2 T2 C2 R2 cc ff
  by_cases h5 : hpC xs + 4 + 1 ≤ xs.length
  rotate_left
  · have NB := hide (number_bad w5 p g a c xs (hpC xs + 4) 1 C hr hgp (by omega) (by omega) (by omega) (by omega))
    have H : Hid (¬ HeG xs) := fun h => by have := (HG.out.1 h).2.2 hpos; have := EC.out; omega
    go_wp2_with fail
    refine NB.out.mono ?_
    rintro e v5 ⟨⟨t', v', rfl⟩, O2⟩
    go_wp2
    exact ⟨rfl, .inr ⟨H.out, t', v', rfl⟩, (T.trans (Tch.of_only O2)).mono (by simp)⟩
  have NM := hide (numberG_any w5 p g a c xs (hpC xs + 4) 1 C hr hb hgp (by omega) (by omega) (by omega))
  rw [nmV_small hb (hpC xs + 4) 1 (by decide)] at NM
  go_wp2_with fail
  refine NM.out.mono ?_
  rintro e v5 ⟨rfl, C', O1⟩
  have K := O1.kp
  clear O1
  have Q1 : RwC v5 q [.int .i64 (beN xs 0 1), .slice (some ⟨G1, 0, none⟩) 32 32, .slice (some ⟨G2, 0, none⟩) 32 32, .string ⟨⟨txB (tkB xs 66 (beN xs 65 1).toNat)⟩⟩, .slice ra rl rc, .slice (some ⟨G5, 0, none⟩) (hpN xs) (hpN xs), .int .i64 (beN xs (hpC xs) 4), .int .i64 0, .slice none 0 0] t := Q.kp K hqp
  have cc : v5.cell? ⟨q, 7, none⟩ = some (.int .i64 0) := Q1.cell 7
  have ff := Q1.free 7
  have O := Only.setCell v5 q 7 (.int .i64 (beN xs (hpC xs + 4) 1))
  have Q2 : RwC (v5.setCell ⟨q, 7, none⟩ (.int .i64 (beN xs (hpC xs + 4) 1))) q [.int .i64 (beN xs 0 1), .slice (some ⟨G1, 0, none⟩) 32 32, .slice (some ⟨G2, 0, none⟩) 32 32, .string ⟨⟨txB (tkB xs 66 (beN xs 65 1).toNat)⟩⟩, .slice ra rl rc, .slice (some ⟨G5, 0, none⟩) (hpN xs) (hpN xs), .int .i64 (beN xs (hpC xs) 4), .int .i64 (beN xs (hpC xs + 4) 1), .slice none 0 0] t := Q1.set 7 _
  have T2 : Tch [p, q] w (v5.setCell ⟨q, 7, none⟩ (.int .i64 (beN xs (hpC xs + 4) 1))) := ((T.trans K.tch).trans (Tch.of_only O)).mono (by simp)
  have C2 := C'.only' O (by omega)
  have R2 := (hr.of_block' (fun h => K.block g (hr.lt h) (hgp h))).of_block' (fun h => O.block g (hgq h))
  replace B1 := (B1.kp K (by omega)).of_block (O.block _ (by omega))
  replace B2 := (B2.kp K (by omega)).of_block (O.block _ (by omega))
  replace RT := (RT.kp K (by omega)).onl O (by omega)
  replace B5 := (B5.kp K (by omega)).of_block (O.block _ (by omega))
  have sT := T.size
  clear NM Q Q1 T K O C C' hr
  go_upto_region 7 with fail
  generalize v5.setCell ⟨q, 7, none⟩ (.int .i64 (beN xs (hpC xs + 4) 1)) = w6 at *
  have Q := Q2
  have T := T2
  have C := C2
  have hr := R2
  clear Q2 T2 C2 R2 cc ff
  have C : Cur w6 p (.slice a xs.length c) ((hpC xs + 5 : Nat) : Int) := C
  have l8 := B5.lt
  by_cases h6 : hpC xs + 5 + 32 ≤ xs.length
  rotate_left
  · have NB := hide (takeList_bad w6 p a xs.length c (hpC xs + 5) 32 C (by omega) hn (by omega))
    have H : Hid (¬ HeG xs) := fun h => by have := (HG.out.1 h).2.2 hpos; have := EC.out; omega
    go_wp2_with fail
    refine NB.out.mono ?_
    rintro e v6 ⟨⟨t', v', rfl⟩, O2⟩
    go_wp2
    exact ⟨rfl, .inr ⟨H.out, t', v', rfl⟩, (T.trans (Tch.of_only O2)).mono (by simp)⟩
  have NM := hide (takeList_any w6 p g a c xs (hpC xs + 5) 32 C hr hc0 hc hn (by omega) (by omega))
  rw [tkB_take xs (hpC xs + 5) 32 (by omega)] at NM
  go_wp2_with fail
  refine NM.out.mono ?_
  rintro e v6 ⟨rfl, B8, C', K⟩
  have Q1 : RwC v6 q [.int .i64 (beN xs 0 1), .slice (some ⟨G1, 0, none⟩) 32 32, .slice (some ⟨G2, 0, none⟩) 32 32, .string ⟨⟨txB (tkB xs 66 (beN xs 65 1).toNat)⟩⟩, .slice ra rl rc, .slice (some ⟨G5, 0, none⟩) (hpN xs) (hpN xs), .int .i64 (beN xs (hpC xs) 4), .int .i64 (beN xs (hpC xs + 4) 1), .slice none 0 0] t := Q.kp K hqp
  have cc : v6.cell? ⟨q, 8, none⟩ = some (.slice none 0 0) := Q1.cell 8
  have ff := Q1.free 8
  have O := Only.setCell v6 q 8 (.slice (some ⟨w6.heap.size, 0, none⟩) 32 32)
  have Q2 : RwC (v6.setCell ⟨q, 8, none⟩ (.slice (some ⟨w6.heap.size, 0, none⟩) 32 32)) q [.int .i64 (beN xs 0 1), .slice (some ⟨G1, 0, none⟩) 32 32, .slice (some ⟨G2, 0, none⟩) 32 32, .string ⟨⟨txB (tkB xs 66 (beN xs 65 1).toNat)⟩⟩, .slice ra rl rc, .slice (some ⟨G5, 0, none⟩) (hpN xs) (hpN xs), .int .i64 (beN xs (hpC xs) 4), .int .i64 (beN xs (hpC xs + 4) 1), .slice (some ⟨w6.heap.size, 0, none⟩) 32 32] t := Q1.set 8 _
  have T2 : Tch [p, q] w (v6.setCell ⟨q, 8, none⟩ (.slice (some ⟨w6.heap.size, 0, none⟩) 32 32)) := ((T.trans K.tch).trans (Tch.of_only O)).mono (by simp)
  have C2 := C'.only' O (by omega)
  have R2 := (hr.of_block' (fun h => K.block g (hr.lt h) (hgp h))).of_block' (fun h => O.block g (hgq h))
  replace B1 := (B1.kp K (by omega)).of_block (O.block _ (by omega))
  replace B2 := (B2.kp K (by omega)).of_block (O.block _ (by omega))
  replace RT := (RT.kp K (by omega)).onl O (by omega)
  replace B5 := (B5.kp K (by omega)).of_block (O.block _ (by omega))
  replace B8 := B8.of_block (O.block _ (by omega))
  have sT := T.size
  clear NM Q Q1 T K O C C' hr
  have FIN : Hid (HeG xs) := HG.out.2 ⟨by omega, by omega, fun h => by omega⟩
  go_wp2
  go_end0
  exact ⟨.inl ⟨FIN.out, rfl, G1, G2, .slice ra rl rc, G5, _, _, _, Q2, B1, l1, B2, l2, o12, ⟨F1, g2F, F5, RT, rvG.out⟩, B5, l5', .inr ⟨hpos, rfl, rfl, _, rfl, B8, l8⟩⟩, T2⟩
end Go.Proofs.YtcaljanahpdidaaGreat
namespace Go.Proofs.YtcaljanahpdidaaGreat
open Go Go.RowKit
def ppL (xs : List Int) (i : Nat) : Nat → Nat
  | 0 => i
  | k + 1 => ppL xs i k + 2 + (beN xs (ppL xs i k) 2).toNat
def clT (xs : List Int) (i k : Nat) : List (List Int) := (List.range k).map fun j => tkB xs (ppL xs i j + 2) (beN xs (ppL xs i j) 2).toNat
theorem clT_len (xs : List Int) (i k : Nat) : (clT xs i k).length = k := by simp [clT]
theorem clT_step (xs : List Int) (i k : Nat) : clT xs i (k + 1) = clT xs i k ++ [tkB xs (ppL xs i k + 2) (beN xs (ppL xs i k) 2).toNat] := by simp [clT, List.range_succ]
theorem ppL_le (xs : List Int) (i k n : Nat) (h : k ≤ n) : ppL xs i k ≤ ppL xs i n := by
  induction n with
  | zero =>
    obtain rfl : k = 0 := by omega
    exact Nat.le_refl _
  | succ n ih =>
    by_cases e : k = n + 1
    · subst e
      exact Nat.le_refl _
    · have := ih (by omega)
      have e : ppL xs i (n + 1) = ppL xs i n + 2 + (beN xs (ppL xs i n) 2).toNat := rfl
      omega
theorem BRow.kp {w w' : World} {B p : Nat} {v : Value} {its : List (List Int)} {bs : List Plc} (h : BRow w B v its bs) (n : Kp p w w') (hp : p < B) : BRow w' B v its bs := h.of fun k hk hB => n.block k hk (by omega)
theorem BRow.onl {w w' : World} {B q : Nat} {v : Value} {its : List (List Int)} {bs : List Plc} (h : BRow w B v its bs) (O : Only q w w') (hq : q < B) : BRow w' B v its bs := h.of fun k hk hB => O.block k (by omega)
theorem BRow.lim {w : World} {B : Nat} {v : Value} {its : List (List Int)} {bs : List Plc} (h : BRow w B v its bs) : ∀ k, v.ownBlock = some k → k < w.heap.size := fun k hk => (h.o.lt k hk).2
set_option maxRecDepth 100000 in
set_option maxHeartbeats 4000000 in
theorem certsRead_any (w : World) (q p g : Nat) (a : Option Addr) (c : Nat) (xs : List Int) (t : TypeId) (hq : RwC w q [.slice none 0 0] t) (hqp : q ≠ p) (hC : Cur w p (.slice a xs.length c) ((0 : Nat) : Int)) (hpl : p < w.heap.size) (hr : Rd w g a .u8 xs) (hb : Byt xs) (hgp : 0 < xs.length → g ≠ p) (hgq : 0 < xs.length → g ≠ q) (hc0 : a = none → c = 0) (hc : xs.length ≤ c) (hn : xs.length ≤ 1048576) :
    Calls Tryz.prog 117 #[.pointer (some ⟨q, 0, none⟩), .pointer (some ⟨p, 0, none⟩)] w fun e w' => ((0 < xs.length ∧ ppL xs 1 (xs.getD 0 0).toNat ≤ xs.length ∧ e = .returned (.tuple #[]) ∧ ∃ v bs, RwC w' q [v] t ∧ BRow w' w.heap.size v (clT xs 1 (xs.getD 0 0).toNat) bs) ∨ (¬ (0 < xs.length ∧ ppL xs 1 (xs.getD 0 0).toNat ≤ xs.length) ∧ Pan e)) ∧ Kq p q w w' := by
  have hql := hq.lt
  by_cases h1 : 0 < xs.length
  rotate_left
  · have TB := hide (take_bad w p a xs.length c 0 hC (by omega))
    have H := hide h1
    clear hC hr h1 hq
    go_enter Tryz.func117, Tryz.ntmps117
    go_wp2_with fail
    refine TB.out.mono ?_
    rintro e v1 ⟨⟨t', v', rfl⟩, O2⟩
    go_wp2
    exact ⟨rfl, .inr ⟨fun h => H.out h.1, t', v', rfl⟩, (Tch.of_only O2).mono (by simp)⟩
  have TK := hide (take_ok w p g a c xs 0 hC hr h1 (by omega))
  have bx := hb 0
  obtain ⟨n, hn1⟩ := Int.eq_ofNat_of_zero_le bx.1
  have e1 : (xs.getD 0 0).toNat = n := by omega
  rw [e1]
  rw [hn1] at TK
  have n256 : n < 256 := by omega
  clear hn1 e1 hC bx
  go_enter Tryz.func117, Tryz.ntmps117
  go_wp2_with fail
  refine TK.out.mono ?_
  rintro e w1 ⟨rfl, C1, O1⟩
  have K1 : Hid (Tch [p, q] w w1) := (Tch.of_only O1).mono (by simp)
  have Q1 := hide (show RwC w1 q [.slice none 0 0] t from (O1.block q hqp).trans hq)
  have H1 := hide C1
  clear TK O1 hq C1
  go_wp2
  go_loopw [6] (fun j wr => ∃ (k : Nat) (v : Value) (bs : List Plc), k ≤ n ∧ j = .int .u8 k ∧ RwC wr q [v] t ∧ BRow wr w.heap.size v (clT xs 1 k) bs ∧ Cur wr p (.slice a xs.length c) ((ppL xs 1 k : Nat) : Int) ∧ ppL xs 1 k ≤ xs.length ∧ Tch [p, q] w wr) (fun j _ => n - (intOf j).toNat)
  case atStart => exact ⟨0, _, [], Nat.zero_le _, rfl, Q1.out, BRow.nil _ _, H1.out, by show 1 ≤ _; omega, K1.out⟩
  case round =>
    obtain ⟨k, v, bs, hk, rfl, hQ, hR, hC, hpp, hK⟩ := hrel
    clear H1 K1 Q1
    by_cases hlt : k < n
    · have t0 : (k : Int) < (n : Int) := by omega
      have hrk := hr.tchK hK (fun h0 => by have := hgp h0; have := hgq h0; simp; omega)
      obtain ⟨x, hx⟩ : ∃ x, Hid (tkB xs (ppL xs 1 k + 2) (beN xs (ppL xs 1 k) 2).toNat = x) := ⟨_, rfl⟩
      have xl : x.length = (beN xs (ppL xs 1 k) 2).toNat := by rw [← hx.out, tkB_len]
      have xm : (beN xs (ppL xs 1 k) 2).toNat < 65536 := by have := beN_rng hb (ppL xs 1 k) 2; omega
      have LE := ppL_le xs 1 (k + 1) n (by omega)
      have e2 : ppL xs 1 (k + 1) = ppL xs 1 k + 2 + (beN xs (ppL xs 1 k) 2).toNat := rfl
      have LO : Hid (Calls Tryz.prog 90 #[.pointer (some ⟨p, 0, none⟩)] wr.drew fun e w2 => (∃ G, e = .returned (.slice (some ⟨G, 0, none⟩) x.length x.length) ∧ w2.cell? ⟨q, 0, none⟩ = some v ∧ (w2.alloc (.cells #[.slice (some ⟨G, 0, none⟩) x.length x.length] 46)).cell? ⟨q, 0, none⟩ = some v ∧ ∃ v' w', (Builtin.append_ #[26, 26] 26 #[v, .slice (some ⟨w2.heap.size, 0, none⟩) 1 1]).run Tryz.prog (w2.alloc (.cells #[.slice (some ⟨G, 0, none⟩) x.length x.length] 46)) = .ok v' w' ∧ ((∃ a3 n3 c3, v' = .slice a3 n3 c3) ∧ w'.cell? ⟨q, 0, none⟩ = some v ∧ w'.frozen? ⟨q, 0, none⟩ = false ∧ ∃ bs', Hid (RwC (w'.setCell ⟨q, 0, none⟩ v') q [v'] t ∧ BRow (w'.setCell ⟨q, 0, none⟩ v') w.heap.size v' (clT xs 1 (k + 1)) bs' ∧ Cur (w'.setCell ⟨q, 0, none⟩ v') p (.slice a xs.length c) ((ppL xs 1 (k + 1) : Nat) : Int) ∧ ppL xs 1 (k + 1) ≤ xs.length ∧ Tch [p, q] w (w'.setCell ⟨q, 0, none⟩ v')))) ∨ (∃ t' v', e = .panicked [{ v := .iface t' v', recovered := false }]) ∧ ¬ (0 < xs.length ∧ ppL xs 1 n ≤ xs.length) ∧ Tch [p, q] w w2) := by
        refine (long_any wr.drew p g a c xs (ppL xs 1 k) hC hrk hb hgp hc0 hc hn hpp).mono ?_
        rintro e w2 ⟨⟨h2, ⟨G, rfl, B2, g2⟩, C2⟩ | ⟨h2, t', v', rfl⟩, K2⟩
        rotate_left
        · exact .inr ⟨⟨t', v', rfl⟩, by omega, ((hK.trans (Tch.of_below (S := []) ((Below.refl _ wr).drew))).trans K2.tch).mono (by simp)⟩
        rw [hx.out] at B2
        have Q2 := (show RwC wr.drew q [v] t from hQ).kp K2 hqp
        have R2 := (show BRow wr.drew w.heap.size v (clT xs 1 k) bs from hR.of (fun _ _ _ => rfl)).kp K2 hpl
        have hM := hR.lim
        have T2 : Tch [p, q] w w2 := ((hK.trans (Tch.of_below (S := []) ((Below.refl _ wr).drew))).trans K2.tch).mono (by simp)
        have s0 := hK.size
        have s2 := K2.size
        have g2' : wr.heap.size ≤ G := g2
        obtain ⟨v', w', ap, R3, kp3, N3, -⟩ := R2.app x ⟨some ⟨G, 0, none⟩, x.length, G⟩ T2.size ⟨B2.own0, (fun h => by cases h), Nat.le_refl _⟩ wr.heap.size s0 (fun i hi h0 => hR.lt hi h0) hM g2' (by rw [clT_len]; omega)
        have Q3 : RwC w' q [v] t := (kp3 q Q2.lt (fun e => by have := (R2.o.lt _ e).1; omega)).trans Q2
        have C3 := C2.belw N3 hpl
        have T3 : Tch [p, q] w w' := ⟨N3.os.trans T2.os, N3.tape.trans T2.tape, N3.output.trans T2.output, Nat.le_trans T2.size N3.size, fun b hb hn => (N3.block b hb).trans (T2.block b hb hn)⟩
        have O := Only.setCell w' q 0 v'
        refine .inl ⟨G, by rw [xl], Q2.cell 0, (Q2.up ((Below.refl _ _).alloc (Nat.le_refl _) _)).cell 0, v', w', ap, (by obtain ⟨a3, c3, e3, -⟩ := R3.slice; exact ⟨a3, _, c3, e3⟩), Q3.cell 0, Q3.free 0, bs ++ [⟨some ⟨G, 0, none⟩, x.length, G⟩], Q3.set 0 _, ?_, C3.only' O (fun h => hqp h.symm), by omega, (T3.trans (Tch.of_only O)).mono (by simp)⟩
        rw [clT_step, hx.out]
        exact R3.onl O hql
      have c0 := hQ.cell 0
      have ST := hide hQ
      clear hrk hC hR hK hQ xl xm LE e2 hx
      go_wp2
      go_region_law (first
        | (go_simp; go_at_call 90; refine LO.out.mono ?_; rintro e w2 (⟨G, rfl, m1, m2, AP⟩ | ⟨⟨t', v', rfl⟩, h2, T2⟩); rotate_left; (go_must (go_wp2; exact ⟨rfl, .inr ⟨h2, t', v', rfl⟩, T2⟩)))
        | (go_must (refine step_append_exM rfl (.tmp 12) (.tmp 16) 26 26 rfl v (.slice (some ⟨w2.heap.size, 0, none⟩) 1 1) rfl rfl _ AP ?_); rintro v3 w3 ⟨⟨a3, n3, c3, rfl⟩, m3, f3, bs', FF⟩)
        | fail)
      all_goals
        go_wp2
        go_roundw
        case rel => exact ⟨k + 1, _, bs', by omega, by go_num, FF.out.1, FF.out.2.1, FF.out.2.2.1, FF.out.2.2.2.1, FF.out.2.2.2.2⟩
        case measure => simp [intOf]; omega
    · obtain rfl : k = n := by omega
      have HQ := hide hQ
      have HR := hide hR
      have HK := hide hK
      clear hR hC hK hQ
      go_wp2
      go_end0
      exact ⟨.inl ⟨h1, hpp, rfl, v, bs, HQ.out, HR.out⟩, HK.out⟩
end Go.Proofs.YtcaljanahpdidaaGreat
namespace Go.Proofs.YtcaljanahpdidaaGreat
open Go Go.RowKit
def tkF (xs : List Int) (at_ n : Nat) : List Int := (List.range n).map fun i => xs.getD (at_ + i) 0
theorem tkF_len (xs : List Int) (at_ n : Nat) : (tkF xs at_ n).length = n := by simp [tkF]
theorem tkF_get (xs : List Int) (at_ n i : Nat) (h : i < n) : (tkF xs at_ n).getD i 0 = xs.getD (at_ + i) 0 := by simp [tkF, h]
def TkTo (xs : List Int) (at_ n : Nat) (ys : List Int) (k : Nat) : Prop := ys.length = n ∧ (∀ i, i < k → ys.getD i 0 = xs.getD (at_ + i) 0) ∧ ∀ i, k ≤ i → ys.getD i 0 = 0
theorem TkTo.zero (xs : List Int) (at_ n : Nat) : TkTo xs at_ n (List.replicate n 0) 0 := ⟨by simp, fun i hi => absurd hi (by omega), fun i _ => by
  rw [List.getD_eq_getElem?_getD, List.getElem?_replicate]
  split <;> rfl⟩
theorem TkTo.step {xs : List Int} {at_ n : Nat} {ys : List Int} {k : Nat} (h : TkTo xs at_ n ys k) (hk : k < n) : TkTo xs at_ n (ys.set k (xs.getD (at_ + k) 0)) (k + 1) := by
  refine ⟨by simpa using h.1, fun i hi => ?_, fun i hi => ?_⟩
  · by_cases e : k = i
    · subst e
      rw [getD_set_self _ _ _ (by rw [h.1]; exact hk)]
    · rw [getD_set_ne _ _ _ _ e]
      exact h.2.1 i (by omega)
  · rw [getD_set_ne _ _ _ _ (by omega)]
    exact h.2.2 i (by omega)
theorem TkTo.skip {xs : List Int} {at_ n : Nat} {ys : List Int} {k : Nat} (h : TkTo xs at_ n ys k) (hk : xs.length ≤ at_ + k) : TkTo xs at_ n ys (k + 1) := by
  refine ⟨h.1, fun i hi => ?_, fun i hi => h.2.2 i (by omega)⟩
  by_cases e : i = k
  · subst e
    rw [h.2.2 i (Nat.le_refl _), List.getD_eq_getElem?_getD, List.getElem?_eq_none (by omega)]
    rfl
  · exact h.2.1 i (by omega)
theorem TkTo.all {xs : List Int} {at_ n : Nat} {ys : List Int} (h : TkTo xs at_ n ys n) : ys = tkF xs at_ n :=
  eq_of_getD (by rw [h.1, tkF_len]) (fun i hi => by rw [h.1] at hi; rw [h.2.1 i hi, tkF_get xs at_ n i hi])
end Go.Proofs.YtcaljanahpdidaaGreat
namespace Go.Proofs.YtcaljanahpdidaaGreat
open Go Go.RowKit
end Go.Proofs.YtcaljanahpdidaaGreat
namespace Go.Proofs.YtcaljanahpdidaaGreat
open Go Go.RowKit
theorem RowT.tch {w w' : World} {base q : Nat} {v : Value} {ls : List (List UInt8)} (h : RowT w base v ls) (n : Tch [q] w w') (hq : q < base) : RowT w' base v ls := by
  refine ⟨h.1, ?_⟩
  rcases h.2 with h' | ⟨g, cap, cur, rfl, hbg, hg, hnc, hcm, hcs, ht⟩
  · exact .inl h'
  · exact .inr ⟨g, cap, cur, rfl, hbg, by rw [n.block g ((Array.getElem?_eq_some_iff.1 hg).1) (by simp; omega)]; exact hg, hnc, hcm, hcs, ht⟩
theorem RowT.empty (w : World) : RowT (w.alloc (.cells #[] 9)) w.heap.size (.slice (some ⟨w.heap.size, 0, none⟩) 0 0) [] :=
  ⟨rfl, .inr ⟨w.heap.size, 0, #[], rfl, Nat.le_refl _, heap_alloc_new w _, Nat.le_refl _, by decide, rfl, rfl⟩⟩
end Go.Proofs.YtcaljanahpdidaaGreat
namespace Go.Proofs.YtcaljanahpdidaaGreat
open Go Go.RowKit
def kfF (m : Msg) : Option (Msg × Int) := if m.k = 1 then some (helloM m, heF m.v m.r.length m.s.length m.ho m.pr m.ti.length m.bi.length m.ag m.ea) else if m.k = 2 then some (answerM m, fpF m.v m.r.length m.s.length) else if m.k = 4 then some (ticketM m, tiF m.ag m.ea m.r.length m.ti.length) else if m.k = 5 then some (endM m, 0) else if m.k = 8 then some (extrasM m, exF m.pr m.ea) else if m.k = 11 then some (certsM m, ceF m.ce) else if m.k = 15 then some (proofM m, pfF 64 m.pf.length) else if m.k = 20 then some (finishedM m, pfF 32 m.pf.length) else if m.k = 24 then some (updateM m, upF m.ea) else none
def mfF (m : Msg) : Int :=
  match kfF m with
  | none => 1
  | some (m', f) => if sameM m' m = true then f else 2
end Go.Proofs.YtcaljanahpdidaaGreat
namespace Go.Proofs.YtcaljanahpdidaaGreat
open Go Go.RowKit
theorem row_slice {w : World} {b : Nat} {v : Value} {xs : List Int} (R : RowB w b v xs) : ∃ (a : Option Addr) (c g : Nat), v = .slice a xs.length c ∧ Rd w g a .u8 xs ∧ (a = none → c = 0) := by
  obtain ⟨a, c, g, e, r, z, -, -⟩ := R.rd
  exact ⟨a, c, g, e, r, z⟩
theorem Gr.row {w W : World} {cs : List Value} {v : Value} {xs : List Int} (h : Gr w cs W v xs) {b : Nat} {u : Value} {us : List Int} (R : RowB W b u us) (hl : xs.length + us.length ≤ 1099511627776) :
    ∃ v' w', (Builtin.append_ #[22, 22] 22 #[v, u]).run Tryz.prog W = .ok v' w' ∧ Gr w cs w' v' (xs ++ us) := by
  obtain ⟨a, c, g, e, r, z⟩ := row_slice R
  obtain ⟨v', w', h1, h2, -⟩ := h.app g a c us r z hl
  rw [e]
  exact ⟨v', w', h1, h2⟩
end Go.Proofs.YtcaljanahpdidaaGreat
namespace Go.Proofs.YtcaljanahpdidaaGreat
open Go Go.RowKit
end Go.Proofs.YtcaljanahpdidaaGreat
namespace Go.Proofs.YtcaljanahpdidaaGreat
open Go Go.RowKit
end Go.Proofs.YtcaljanahpdidaaGreat
namespace Go.Proofs.YtcaljanahpdidaaGreat
open Go Go.RowKit
def bodF (m : Msg) : List Int := if m.k = 1 then heL m.v m.r m.s m.ho m.pr m.ti m.ag m.ea m.bi else if m.k = 2 then fpL m.v m.r m.s ++ [if m.rs = true then 1 else 0] else if m.k = 4 then tkL m.ag m.ea m.r m.ti else if m.k = 5 then [] else if m.k = 8 then lsL m.pr ++ bigL m.ea 1 else if m.k = 11 then clL m.ce else if m.k = 15 then m.pf else if m.k = 20 then m.pf else if m.k = 24 then bigL m.ea 1 else []
def encF (m : Msg) : List Int := if mfF m = 0 then enL m.k (bodF m) else []
theorem encF_of {m : Msg} {m' : Msg} {f : Int} {b : List Int} (h : kfF m = some (m', f)) (hb : bodF m = b) : encF m = if sameM m' m = true ∧ f = 0 then enL m.k b else [] := by
  unfold encF mfF
  rw [h, hb]
  by_cases c : sameM m' m = true
  · by_cases d : f = 0
    · simp [c, d]
    · simp [c, d]
  · simp [c]
set_option maxHeartbeats 1000000 in
theorem encNone (w : World) (x0 x1 x2 x3 x4 x5 x6 x7 x8 x9 x10 x11 x12 : Value)
    (TO : ∀ W, Below w.heap.size w W → Calls Tryz.prog 19 #[.agg #[x0, x1, x2, x3, x4, x5, x6, x7, x8, x9, x10, x11, x12]] W fun e w' => e = .returned (.tuple #[.nilIface, .int .i64 1]) ∧ Below W.heap.size W w') :
    Calls Tryz.prog 7 #[.agg #[x0, x1, x2, x3, x4, x5, x6, x7, x8, x9, x10, x11, x12]] w (BodP w []) := by
  have n0 : Below w.heap.size w (w.alloc (.cells #[x0, x1, x2, x3, x4, x5, x6, x7, x8, x9, x10, x11, x12] 28)) := (Below.refl _ _).alloc (Nat.le_refl _) _
  have CC := hide (TO _ n0)
  have RG := RwC.range (RwC.new w [x0, x1, x2, x3, x4, x5, x6, x7, x8, x9, x10, x11, x12] 28)
  obtain ⟨d13, hd13, hrow13⟩ := rowM
  have N0 := hide n0
  clear TO n0
  go_enter Tryz.func7, Tryz.ntmps7
  go_wp2_with fail
  refine CC.out.mono ?_
  rintro e w1 ⟨rfl, n1⟩
  have N1 := nxt N0.out n1
  clear CC RG n1
  go_wp2
  go_ret
  exact ⟨⟨_, rfl, RowB.nil _ _⟩, N1⟩
theorem implEnc_any (w : World) (p : MQ) (m : Msg) (h : HasM w p m) (i : IsM m) (z : HasZ p m) :
    Calls Tryz.prog 7 #[.agg (mgV p m)] w (BodP w (encF m)) := by
  by_cases h1 : m.k = 1
  · rw [encF_of (m := m) (m' := helloM m) (f := heF m.v m.r.length m.s.length m.ho m.pr m.ti.length m.bi.length m.ag m.ea) (b := heL m.v m.r m.s m.ho m.pr m.ti m.ag m.ea m.bi) (by unfold kfF; rw [if_pos h1]) (by unfold bodF; rw [if_pos h1]), h1]
    exact implEncHello w p m.k m.v m.r m.s m.ho m.pr m.ti m.ag m.ea m.bi m.rs m.ce m.pf h i z h1
  by_cases h2 : m.k = 2
  · rw [encF_of (m := m) (m' := answerM m) (f := fpF m.v m.r.length m.s.length) (b := fpL m.v m.r m.s ++ [if m.rs = true then 1 else 0]) (by unfold kfF; rw [if_neg h1]; rw [if_pos h2]) (by unfold bodF; rw [if_neg h1]; rw [if_pos h2]), h2]
    exact implEncAnswer w p m.k m.v m.r m.s m.ho m.pr m.ti m.ag m.ea m.bi m.rs m.ce m.pf h i z h2
  by_cases h4 : m.k = 4
  · rw [encF_of (m := m) (m' := ticketM m) (f := tiF m.ag m.ea m.r.length m.ti.length) (b := tkL m.ag m.ea m.r m.ti) (by unfold kfF; rw [if_neg h1]; rw [if_neg h2]; rw [if_pos h4]) (by unfold bodF; rw [if_neg h1]; rw [if_neg h2]; rw [if_pos h4]), h4]
    exact implEncTicket w p m.k m.v m.r m.s m.ho m.pr m.ti m.ag m.ea m.bi m.rs m.ce m.pf h i z h4
  by_cases h5 : m.k = 5
  · rw [encF_of (m := m) (m' := endM m) (f := 0) (b := []) (by unfold kfF; rw [if_neg h1]; rw [if_neg h2]; rw [if_neg h4]; rw [if_pos h5]) (by unfold bodF; rw [if_neg h1]; rw [if_neg h2]; rw [if_neg h4]; rw [if_pos h5]), h5]
    exact implEncEnd w p m.k m.v m.r m.s m.ho m.pr m.ti m.ag m.ea m.bi m.rs m.ce m.pf h i z h5
  by_cases h8 : m.k = 8
  · rw [encF_of (m := m) (m' := extrasM m) (f := exF m.pr m.ea) (b := lsL m.pr ++ bigL m.ea 1) (by unfold kfF; rw [if_neg h1]; rw [if_neg h2]; rw [if_neg h4]; rw [if_neg h5]; rw [if_pos h8]) (by unfold bodF; rw [if_neg h1]; rw [if_neg h2]; rw [if_neg h4]; rw [if_neg h5]; rw [if_pos h8]), h8]
    exact implEncExtras w p m.k m.v m.r m.s m.ho m.pr m.ti m.ag m.ea m.bi m.rs m.ce m.pf h i z h8
  by_cases h11 : m.k = 11
  · rw [encF_of (m := m) (m' := certsM m) (f := ceF m.ce) (b := clL m.ce) (by unfold kfF; rw [if_neg h1]; rw [if_neg h2]; rw [if_neg h4]; rw [if_neg h5]; rw [if_neg h8]; rw [if_pos h11]) (by unfold bodF; rw [if_neg h1]; rw [if_neg h2]; rw [if_neg h4]; rw [if_neg h5]; rw [if_neg h8]; rw [if_pos h11]), h11]
    exact implEncCerts w p m.k m.v m.r m.s m.ho m.pr m.ti m.ag m.ea m.bi m.rs m.ce m.pf h i z h11
  by_cases h15 : m.k = 15
  · rw [encF_of (m := m) (m' := proofM m) (f := pfF 64 m.pf.length) (b := m.pf) (by unfold kfF; rw [if_neg h1]; rw [if_neg h2]; rw [if_neg h4]; rw [if_neg h5]; rw [if_neg h8]; rw [if_neg h11]; rw [if_pos h15]) (by unfold bodF; rw [if_neg h1]; rw [if_neg h2]; rw [if_neg h4]; rw [if_neg h5]; rw [if_neg h8]; rw [if_neg h11]; rw [if_pos h15]), h15]
    exact implEncProof w p m.k m.v m.r m.s m.ho m.pr m.ti m.ag m.ea m.bi m.rs m.ce m.pf h i z h15
  by_cases h20 : m.k = 20
  · rw [encF_of (m := m) (m' := finishedM m) (f := pfF 32 m.pf.length) (b := m.pf) (by unfold kfF; rw [if_neg h1]; rw [if_neg h2]; rw [if_neg h4]; rw [if_neg h5]; rw [if_neg h8]; rw [if_neg h11]; rw [if_neg h15]; rw [if_pos h20]) (by unfold bodF; rw [if_neg h1]; rw [if_neg h2]; rw [if_neg h4]; rw [if_neg h5]; rw [if_neg h8]; rw [if_neg h11]; rw [if_neg h15]; rw [if_pos h20]), h20]
    exact implEncFinished w p m.k m.v m.r m.s m.ho m.pr m.ti m.ag m.ea m.bi m.rs m.ce m.pf h i z h20
  by_cases h24 : m.k = 24
  · rw [encF_of (m := m) (m' := updateM m) (f := upF m.ea) (b := bigL m.ea 1) (by unfold kfF; rw [if_neg h1]; rw [if_neg h2]; rw [if_neg h4]; rw [if_neg h5]; rw [if_neg h8]; rw [if_neg h11]; rw [if_neg h15]; rw [if_neg h20]; rw [if_pos h24]) (by unfold bodF; rw [if_neg h1]; rw [if_neg h2]; rw [if_neg h4]; rw [if_neg h5]; rw [if_neg h8]; rw [if_neg h11]; rw [if_neg h15]; rw [if_neg h20]; rw [if_pos h24]), h24]
    exact implEncUpdate w p m.k m.v m.r m.s m.ho m.pr m.ti m.ag m.ea m.bi m.rs m.ce m.pf h i z h24
  have e0 : encF m = [] := by
    unfold encF mfF kfF
    rw [if_neg h1, if_neg h2, if_neg h4, if_neg h5, if_neg h8, if_neg h11, if_neg h15, if_neg h20, if_neg h24]
    rfl
  rw [e0]
  refine encNone w _ _ _ _ _ _ _ _ _ _ _ _ _ fun W n => ?_
  refine (typedNone_any W m.k m.v m.ag m.ea p.a2 p.a3 p.a5 p.a6 p.a9 p.a11 p.a12 m.r.length m.s.length m.pr.length m.ti.length m.bi.length m.ce.length m.pf.length p.c2 p.c3 p.c5 p.c6 p.c9 p.c11 p.c12 ⟨⟨m.ho⟩⟩ m.rs ?_).mono ?_
  · unfold regV
    rw [if_neg h1, if_neg h2, if_neg h4, if_neg h5, if_neg h8, if_neg h11, if_neg h15, if_neg h20, if_neg h24]
  · rintro e w' ⟨rfl, n'⟩
    exact ⟨rfl, n'⟩
end Go.Proofs.YtcaljanahpdidaaGreat
namespace Go.Proofs.YtcaljanahpdidaaGreat
open Go Go.RowKit
theorem pr_all {ls : List (List UInt8)} {n : Nat} (h : prB ls n ≠ false) : ∀ l ∈ ls, l.length ≤ 255 := by
  unfold prB at h
  rw [Bool.ne_false_iff, Bool.and_eq_true] at h
  have h2 := List.all_eq_true.1 h.2
  intro l hl
  obtain ⟨i, hi, rfl⟩ := List.getElem_of_mem hl
  have h3 := h2 i (List.mem_range.2 hi)
  unfold prA at h3
  rw [List.getD_eq_getElem?_getD, List.getElem?_eq_getElem hi, Option.getD_some, Bool.and_eq_true, Bool.and_eq_true] at h3
  have := of_decide_eq_true h3.2.1
  omega
theorem fp_all {v : Int} {r s : Nat} (h : fpB v r s = false) : 0 ≤ v ∧ v ≤ 255 := by
  unfold fpB at h
  rw [Bool.or_eq_false_iff, Bool.or_eq_false_iff] at h
  have a := of_decide_eq_false h.1
  have b := of_decide_eq_false h.2.1
  omega
theorem age_all {g : Int} (h : ageB g = true) : 0 ≤ g ∧ g < 9223372036854775808 := by
  unfold ageB at h
  rw [Bool.and_eq_true] at h
  have a := of_decide_eq_true h.1
  have b := of_decide_eq_true h.2
  omega
theorem flg_all {g : Int} (h : flgB g = true) : 0 ≤ g ∧ g ≤ 255 := by
  unfold flgB at h
  rw [Bool.or_eq_true] at h
  rcases h with h | h
  · have a := of_decide_eq_true h
    omega
  · have a := of_decide_eq_true h
    omega
theorem name_all {ho : List UInt8} (h : nameF ho = 0) : ho.length ≤ 255 := by
  unfold nameF at h
  by_cases c : ho.length < 1 ∨ 128 < ho.length
  · rw [if_pos c] at h
    simp at h
  · omega
theorem he_all {v : Int} {r s : Nat} {ho : List UInt8} {ls : List (List UInt8)} {t b : Nat} {g e : Int} (h : heF v r s ho ls t b g e = 0) : (0 ≤ v ∧ v ≤ 255) ∧ ho.length ≤ 255 ∧ (∀ l ∈ ls, l.length ≤ 255) ∧ (0 ≤ g ∧ g < 9223372036854775808) ∧ (0 ≤ e ∧ e ≤ 255) := by
  unfold heF at h
  by_cases h1 : (fpB v r s || !bdB t b g e) = true
  · rw [if_pos h1] at h
    simp at h
  rw [if_neg h1] at h
  rw [Bool.not_eq_true, Bool.or_eq_false_iff] at h1
  by_cases h2 : nameF ho ≠ 0
  · rw [if_pos h2] at h
    simp at h
  rw [if_neg h2] at h
  by_cases h3 : prB ls 8 = false
  · rw [if_pos h3] at h
    simp at h
  rw [if_neg h3] at h
  by_cases h4 : 400 < t
  · rw [if_pos h4] at h
    simp at h
  rw [if_neg h4] at h
  by_cases h5 : (!ageB g || !flgB e) = true
  · rw [if_pos h5] at h
    simp at h
  rw [Bool.not_eq_true, Bool.or_eq_false_iff] at h5
  exact ⟨fp_all h1.1, name_all (Classical.not_not.1 h2), pr_all h3, age_all (by simpa using h5.1), flg_all (by simpa using h5.2)⟩
theorem ex_all {ls : List (List UInt8)} {e : Int} (h : exF ls e = 0) : (∀ l ∈ ls, l.length ≤ 255) ∧ (0 ≤ e ∧ e ≤ 255) := by
  unfold exF at h
  by_cases h1 : prB ls 1 = false
  · rw [if_pos h1] at h
    simp at h
  rw [if_neg h1] at h
  by_cases h2 : flgB e = false
  · rw [if_pos h2] at h
    simp at h
  exact ⟨pr_all h1, flg_all (by simpa using h2)⟩
theorem up_all {e : Int} (h : upF e = 0) : 0 ≤ e ∧ e ≤ 255 := by
  unfold upF at h
  by_cases h2 : flgB e = false
  · rw [if_pos h2] at h
    simp at h
  exact flg_all (by simpa using h2)
theorem mf_zero {m m' : Msg} {f : Int} (hk : kfF m = some (m', f)) (h : mfF m = 0) : f = 0 := by
  unfold mfF at h
  rw [hk] at h
  by_cases c : sameM m' m = true
  · simpa [c] using h
  · simp [c] at h
end Go.Proofs.YtcaljanahpdidaaGreat
