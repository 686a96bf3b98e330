
/-
  Rows of reports of channels: counted, held against each other, copied.
-/
import Derived.Test.YtpbniihhpfbamaaDoorFqV
import Derived.Test.YtpbniihhpfbamaaDoorFqZ
namespace Go.Proofs.YtpbniihhpfbamaaDoor
set_option maxRecDepth 100000
open Go Go.RowKit

def cd0 : CD := ⟨0, [], ⟨0, [], [], [], 0, 0, 0, 0, 0, false, false, ByteArray.empty, [], [], [], [], [], 0, 0, ByteArray.empty, ByteArray.empty, 0, 0, []⟩, ⟨0, [], [], [], 0, 0, 0, 0, 0, false, false, ByteArray.empty, [], [], [], [], [], 0, 0, ByteArray.empty, ByteArray.empty, 0, 0, []⟩, [], []⟩
/-- A row of reports of channels that may be read. -/
structure RdC (w : World) (g : Nat) (a : Option Addr) (cs : List CD) (P : Nat → CA) : Prop where
  r : 0 < cs.length → ∃ off, a = some ⟨g, off, none⟩ ∧ ∀ i, i < cs.length → w.rangeAt g (off + i * 52) (crL (P i) (cs.getD i cd0))
  b : ∀ i, i < cs.length → HasC 0 w (P i) (cs.getD i cd0)
theorem RdC.up {w w' : World} {g : Nat} {a : Option Addr} {cs : List CD} {P : Nat → CA} (h : RdC w g a cs P) (n : Below w.heap.size w w') : RdC w' g a cs P :=
  ⟨fun h0 => by
    obtain ⟨off, e, hc⟩ := h.r h0
    exact ⟨off, e, fun i hi => rangeQ (hc i hi) n⟩, fun i hi => (h.b i hi).up n⟩
def cdT (d : CD) : Int := (d.an.length : Int) + erT d.cl + erT d.sv + (d.ts.length : Int) + (d.tc.length : Int)
theorem cdT_0 (d : CD) : 0 ≤ cdT d := by have := erT_0 d.cl; have := erT_0 d.sv; unfold cdT; omega
def sumC (cs : List CD) : Int := cs.foldr (fun d s => cdT d + s) 0
theorem sumC_0 (cs : List CD) : 0 ≤ sumC cs := by
  induction cs with
  | nil => simp [sumC]
  | cons d cs ih => have := cdT_0 d; show 0 ≤ cdT d + sumC cs; omega
theorem sumC_app (x y : List CD) : sumC (x ++ y) = sumC x + sumC y := by
  induction x with
  | nil => simp [sumC]
  | cons a x ih => show cdT a + sumC (x ++ y) = cdT a + sumC x + sumC y; rw [ih]; omega
theorem sumC_take {ls : List CD} {k : Nat} (h : k < ls.length) : sumC (ls.take (k + 1)) = sumC (ls.take k) + cdT (ls.getD k cd0) := by
  rw [List.take_succ_eq_append_getElem h, sumC_app, List.getD_eq_getElem?_getD, List.getElem?_eq_getElem h]
  simp [sumC]
theorem sumC_le (ls : List CD) (k : Nat) : sumC (ls.take k) ≤ sumC ls := by
  have := sumC_app (ls.take k) (ls.drop k)
  rw [List.take_append_drop] at this
  have := sumC_0 (ls.drop k)
  omega
theorem sumC_get {ls : List CD} {k : Nat} (h : k < ls.length) : cdT (ls.getD k cd0) ≤ sumC ls := by
  have := sumC_take h
  have := sumC_le ls (k + 1)
  have := sumC_0 (ls.take k)
  omega
theorem szCL (w : World) (p : CA) (d : CD) (h : HasC 0 w p d) (g : BgC d) (L : Int) (h0 : 0 ≤ L) (h1 : L ≤ 1048576) :
    Calls Tryd.prog 29 #[.agg (crL p d).toArray, .int .i64 L] w fun e w' => (∃ r, e = .returned (.int .i64 r) ∧ LftK L (cdT d) r) ∧ Below w.heap.size w w' := by
  refine (show Calls _ _ _ _ _ from szChannelReport_r w p d h g L h0 h1).mono ?_
  rintro e w' ⟨⟨r, rfl, hr⟩, n⟩
  exact ⟨⟨r, rfl, hr⟩, n⟩
set_option maxRecDepth 100000 in
set_option maxHeartbeats 4000000 in
theorem szChannelReportS_r (w : World) (g : Nat) (a : Option Addr) (c : Nat) (cs : List CD) (P : Nat → CA) (L : Int) (hr : RdC w g a cs P) (hn : cs.length ≤ 9223372036854775807) (hz : ∀ i, i < cs.length → BgC (cs.getD i cd0)) (h0 : 0 ≤ L) (h1 : L ≤ 1048576) :
    Calls Tryd.prog 9 #[.slice a cs.length c, .int .i64 L] w fun e w' => (∃ r, e = .returned (.int .i64 r) ∧ LftK L ((cs.length : Int) + sumC cs) r) ∧ Below w.heap.size w w' := by
  have s1 : IntKind.i64.wrap (L - (cs.length : Int)) = L - (cs.length : Int) := by rw [IntKind.wrap_i64]; omega
  by_cases hl : L < (cs.length : Int)
  · have t1 : decide (L - (cs.length : Int) < 0) = true := decide_eq_true (by omega)
    have H := hide hl
    have S0 := sumC_0 cs
    clear hl hr
    go_enter Tryd.func9, Tryd.ntmps9
    go_wp2
    go_ret
    exact ⟨⟨_, rfl, .inl ⟨by have := H.out; omega, rfl⟩⟩, Below.refl _ _⟩
  · have t1 : decide (L - (cs.length : Int) < 0) = false := decide_eq_false (by omega)
    obtain ⟨dL, hdL, hrL⟩ := rowLCr
    go_enter Tryd.func9, Tryd.ntmps9
    go_wp2
    go_loopw [1, 5] (fun l i wr => ∃ (k : Nat), k ≤ cs.length ∧ i = .int .i64 k ∧ l = .int .i64 (L - (cs.length : Int) - sumC (cs.take k)) ∧ 0 ≤ L - (cs.length : Int) - sumC (cs.take k) ∧ Below w.heap.size w wr) (fun _ i _ => cs.length - (intOf i).toNat)
    case atStart => exact ⟨0, Nat.zero_le _, rfl, by rw [List.take_zero]; simp [sumC], by rw [List.take_zero]; simp [sumC]; omega, Below.refl _ _⟩
    case round =>
      obtain ⟨k, hk, rfl, rfl, hpos, nb⟩ := hrel
      by_cases hlt : k < cs.length
      · obtain ⟨off, rfl, hc⟩ := (hr.up nb).r (by omega)
        have t0 : (k : Int) < (cs.length : Int) := by omega
        have RG := hc k hlt
        have ST := hide (sumC_take hlt)
        have SL := hide (sumC_le cs (k + 1))
        have S0 := sumC_0 (cs.take k)
        have SZ := hide (szCL wr (P k) (cs.getD k cd0) ((hr.up nb).b k hlt) (hz k hlt) (L - (cs.length : Int) - sumC (cs.take k)) hpos (by omega))
        have LN : (crL (P k) (cs.getD k cd0)).length = 52 := rfl
        have NB := hide nb
        have M0 := hide (cdT_0 (cs.getD k cd0))
        clear hc nb S0
        generalize crL (P k) (cs.getD k cd0) = rw_ at *
        generalize cdT (cs.getD k cd0) = m at *
        obtain ⟨q, hq⟩ : ∃ q : Int, q = L - (cs.length : Int) - sumC (cs.take k) := ⟨_, rfl⟩
        rw [← hq] at SZ hpos ⊢
        have HQ := hide hq
        clear hq
        go_wp2_with (first | (refine wpList_load_mid rfl 74 (.tmp 20) rfl g (off + k * 52) rfl rw_ dL RG hdL hrL (iLCr.trans (congrArg some LN.symm)) ?_) | fail)
        refine SZ.out.mono ?_
        rintro e w1 ⟨⟨r, rfl, hr1⟩, n1⟩
        have N1 := hide (nxt NB.out n1)
        clear SZ NB n1 RG
        rcases hr1 with ⟨h2, rfl⟩ | ⟨h2, rfl⟩
        · have FA : Hid (L < (cs.length : Int) + sumC cs) := by
            have := ST.out; have := SL.out; have := HQ.out
            show L < _
            omega
          clear h2 ST SL HQ
          go_wp2
          go_ret
          exact ⟨⟨_, rfl, .inl ⟨FA.out, rfl⟩⟩, N1.out⟩
        · have t3 : decide (q - m < 0) = false := decide_eq_false (by omega)
          have EQ : Hid (q - m = L - (cs.length : Int) - sumC (cs.take (k + 1))) := by
            have := ST.out; have := HQ.out
            show _ = _
            omega
          have GE : Hid (0 ≤ q - m) := by show (0 : Int) ≤ _; omega
          clear h2 ST SL HQ hpos
          go_wp2
          go_roundw
          case rel => exact ⟨k + 1, by omega, by go_num, by rw [EQ.out], by rw [← EQ.out]; exact GE.out, N1.out⟩
          case measure => simp [intOf]; omega
      · obtain rfl : k = cs.length := by omega
        rw [List.take_length] at hpos ⊢
        have NB := hide nb
        have HP := hide hpos
        clear nb hr hpos
        go_wp2
        go_ret
        exact ⟨⟨_, rfl, .inr ⟨by have := HP.out; omega, by omega⟩⟩, NB.out⟩
end Go.Proofs.YtpbniihhpfbamaaDoor
