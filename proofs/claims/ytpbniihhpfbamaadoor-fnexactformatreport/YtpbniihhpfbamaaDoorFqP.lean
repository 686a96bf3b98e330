
/-
  Rows of reports of channels: copied (written by gens/fqp.py).
-/
import Derived.Test.YtpbniihhpfbamaaDoorFqO
namespace Go.Proofs.YtpbniihhpfbamaaDoor
set_option maxRecDepth 100000
open Go Go.RowKit

def crZ : Array Value := #[.int .i64 0, .slice none 0 0, .int .i64 0, .slice none 0 0, .slice none 0 0, .slice none 0 0, .int .i64 0, .int .i64 0, .int .i64 0, .int .i64 0, .int .i64 0, .bool false, .bool false, .string ⟨#[]⟩, .slice none 0 0, .slice none 0 0, .slice none 0 0, .slice none 0 0, .slice none 0 0, .int .i64 0, .int .i64 0, .string ⟨#[]⟩, .string ⟨#[]⟩, .int .i64 0, .int .i64 0, .slice none 0 0, .int .i64 0, .slice none 0 0, .slice none 0 0, .slice none 0 0, .int .i64 0, .int .i64 0, .int .i64 0, .int .i64 0, .int .i64 0, .bool false, .bool false, .string ⟨#[]⟩, .slice none 0 0, .slice none 0 0, .slice none 0 0, .slice none 0 0, .slice none 0 0, .int .i64 0, .int .i64 0, .string ⟨#[]⟩, .string ⟨#[]⟩, .int .i64 0, .int .i64 0, .slice none 0 0, .slice none 0 0, .slice none 0 0]
theorem infoCr : (Tryd.prog.info? 53).map (fun i => (i.zero, i.size, i.bytes)) = some (some (.agg crZ), 52, 784) := by kernel_rfl
/-- A new row of reports, the first k of them laid. -/
structure RwCk (B : Nat) (wr : World) (g : Nat) (cs : List CD) (k : Nat) (vs : List Value) : Prop where
  l : vs.length = cs.length * 52
  r : RwC wr g vs 53
  at_ : ∀ j, j < k → ∃ p : CA, (vs.drop (j * 52)).take 52 = crL p (cs.getD j cd0) ∧ HasC (B + 1) wr p (cs.getD j cd0)
theorem RwCk.step {B g k : Nat} {wr w1 : World} {cs : List CD} {vs : List Value} (h : RwCk B wr g cs k vs) (hk : k < cs.length) (hg : g ≤ B) (n : Below wr.heap.size wr w1) {p : CA} (hp : HasC (B + 1) w1 p (cs.getD k cd0)) :
    RwCk B (w1.setCells g (k * 52) (crL p (cs.getD k cd0))) g cs (k + 1) (setL vs (k * 52) (crL p (cs.getD k cd0))) := by
  have O := only_setG w1 g (crL p (cs.getD k cd0)) (k * 52)
  have L : (crL p (cs.getD k cd0)).length = 52 := rfl
  have hl := h.l
  have hkl : k * 52 + 52 ≤ vs.length := by omega
  have E := setL_eq (crL p (cs.getD k cd0)) vs (k * 52) (by rw [L]; exact hkl)
  refine ⟨?_, RwC.putsL _ _ _ _ (h.r.up n), fun j hj => ?_⟩
  · rw [E, List.length_append, List.length_append, List.length_take, List.length_drop, L]
    omega
  · by_cases e : j = k
    · subst e
      refine ⟨p, ?_, hp.onl O (by omega)⟩
      rw [E, L, List.append_assoc, List.drop_append_of_le_length (by rw [List.length_take]; omega), List.drop_of_length_le (by rw [List.length_take]; omega), List.nil_append, List.take_append_of_le_length (by rw [L]; omega), List.take_of_length_le (by rw [L]; omega)]
    · obtain ⟨p', e1, h1⟩ := h.at_ j (by omega)
      refine ⟨p', ?_, (h1.up n).onl O (by omega)⟩
      rw [E, ← e1]
      apply List.ext_getElem?
      intro i
      simp only [List.getElem?_take, List.getElem?_drop]
      by_cases hi : i < 52
      · rw [if_pos hi, if_pos hi, List.append_assoc]
        rcases Nat.lt_or_ge j k with hjk | hjk
        · rw [List.getElem?_append_left (by rw [List.length_take]; omega), List.getElem?_take, if_pos (by omega)]
        · omega
      · rw [if_neg hi, if_neg hi]
/-- A row of reports that was copied: all of it lies at b or above. -/
structure CpC (b : Nat) (W : World) (g : Nat) (cs : List CD) (P : Nat → CA) : Prop where
  rd : RdC W g (some ⟨g, 0, none⟩) cs P
  lo : b ≤ g
  los : ∀ i, i < cs.length → HasC b W (P i) (cs.getD i cd0)
theorem CpC.mono {b b' : Nat} {W : World} {g : Nat} {cs : List CD} {P : Nat → CA} (h : CpC b W g cs P) (l : b' ≤ b) : CpC b' W g cs P := ⟨h.rd, Nat.le_trans l h.lo, fun i hi => (h.los i hi).mono l⟩
theorem CpC.up {b : Nat} {W W' : World} {g : Nat} {cs : List CD} {P : Nat → CA} (h : CpC b W g cs P) (n : Below W.heap.size W W') : CpC b W' g cs P := ⟨h.rd.up n, h.lo, fun i hi => (h.los i hi).up n⟩
theorem CpC.onl {b q : Nat} {W W' : World} {g : Nat} {cs : List CD} {P : Nat → CA} (h : CpC b W g cs P) (O : Only q W W') (hq : q < b) : CpC b W' g cs P := by
  refine ⟨⟨fun h0 => ?_, fun i hi => ((h.los i hi).onl O hq).mono (Nat.zero_le _)⟩, h.lo, fun i hi => (h.los i hi).onl O hq⟩
  obtain ⟨off, e, hc⟩ := h.rd.r h0
  have := h.lo
  exact ⟨off, e, fun i hi j v hj => (World.cell?_of_block (a := ⟨g, off + i * 52 + j, none⟩) (O.block g (by omega))).trans (hc i hi j v hj)⟩
theorem RwCk.rd {B g : Nat} {wr : World} {cs : List CD} {vs : List Value} (h : RwCk B wr g cs cs.length vs) (hB : B ≤ g) : ∃ P, CpC B wr g cs P := by
  obtain ⟨P, hP⟩ := pickF (⟨none, 0, 0, ⟨none, 0, 0, none, 0, 0, none, 0, 0, none, 0, 0, none, 0, 0, none, 0, 0, none, 0, 0, none, 0, 0, none, 0, 0, []⟩, ⟨none, 0, 0, none, 0, 0, none, 0, 0, none, 0, 0, none, 0, 0, none, 0, 0, none, 0, 0, none, 0, 0, none, 0, 0, []⟩, none, 0, 0, none, 0, 0⟩ : CA) cs.length h.at_
  refine ⟨P, ⟨fun _ => ⟨0, rfl, fun i hi => ?_⟩, fun i hi => (hP i hi).2.mono (Nat.zero_le _)⟩, hB, fun i hi => (hP i hi).2.mono (Nat.le_succ _)⟩
  rw [Nat.zero_add]
  exact h.r.part (i * 52) _ (hP i hi).1
set_option maxRecDepth 100000 in
set_option maxHeartbeats 4000000 in
theorem toChannelReportS_any (w : World) (g : Nat) (a : Option Addr) (c : Nat) (cs : List CD) (P : Nat → CA) (hr : RdC w g a cs P) (hn : cs.length ≤ 1048576) (hz : ∀ i, i < cs.length → OkC (cs.getD i cd0)) :
    Calls Tryd.prog 18 #[.slice a cs.length c] w fun e w' => (e = .returned (.slice (some ⟨w.heap.size, 0, none⟩) cs.length cs.length) ∧ ∃ P', CpC w.heap.size w' w.heap.size cs P') ∧ Below w.heap.size w w' := by
  obtain ⟨i0, hi, hz0, hz1, hz2⟩ := info_parts infoCr
  obtain ⟨dL, hdL, hrL⟩ := rowLCr
  go_enter Tryd.func18, Tryd.ntmps18
  go_wp2_with (at_make; refine wpList_make_full _ rfl _ _ 33 rfl w.heap.size 53 i0 (.agg crZ) 52 Tryd.underlying33 hi hz0 hz1 .i64 .i64 _ _ cs.length rfl rfl rfl rfl (by rw [hz2]; omega) (by unfold maxLen; omega) (Nat.le_refl _) ?_; intro w1 hown hgrow)
  obtain ⟨v0, hv0, hB0⟩ := RwC.of_madeN hown
  have hN0 : Below w.heap.size w w1 := (Below.refl _ _).grown hgrow (Nat.le_refl _) (by simp)
  clear hown hgrow
  go_loopw [4] (fun i wr => ∃ (k : Nat) (vs : List Value), k ≤ cs.length ∧ i = .int .i64 k ∧ RwCk w.heap.size wr w.heap.size cs k vs ∧ Below w.heap.size w wr) (fun i _ => cs.length - (intOf i).toNat)
  case atStart => exact ⟨0, _, Nat.zero_le _, rfl, ⟨hv0, hB0, fun j hj => absurd hj (by omega)⟩, hN0⟩
  case round =>
    obtain ⟨k, vs, hk, rfl, hR, hN⟩ := hrel
    clear hB0 hN0 hv0
    by_cases hlt : k < cs.length
    · obtain ⟨off, rfl, hc⟩ := (hr.up hN).r (by omega)
      have t0 : (k : Int) < (cs.length : Int) := by omega
      have RG := hc k hlt
      have LN : (crL (P k) (cs.getD k cd0)).length = 52 := rfl
      have wl : w.heap.size < wr.heap.size := hR.r.lt
      have TB := hide (show Calls Tryd.prog 33 #[.agg (crL (P k) (cs.getD k cd0)).toArray] wr _ from toChannelReport_any wr (P k) (cs.getD k cd0) ((hr.up hN).b k hlt) (hz k hlt))
      have HS := hide (fun (w1 : World) (n : Below wr.heap.size wr w1) p hp => RwCk.step (w1 := w1) (p := p) hR hlt (Nat.le_refl _) n hp)
      have hR2 := hide hR.r
      have hlen := hide hR.l
      have HN := hide hN
      clear hc hR hN
      generalize crL (P k) (cs.getD k cd0) = xa at *
      go_wp2_with (first | (refine wpList_load_mid rfl 74 (.tmp 18) rfl g (off + k * 52) rfl xa dL RG hdL hrL (iLCr.trans (congrArg some LN.symm)) ?_) | fail)
      refine TB.out.mono ?_
      rintro e w2 ⟨p', rfl, hp, n2⟩
      have T2 := hR2.out.up n2
      have TH : w2.there w.heap.size (k * 52) 52 := T2.tpart (k * 52) 52 (by rw [hlen.out]; omega)
      have ST := hide (HS.out w2 n2 p' (hp.mono (by omega)))
      have N2 := hide (nxt HN.out n2)
      have ON : (crL p' (cs.getD k cd0)).toArray.all (·.oneCell') = true := oneCr p' _
      have LS : (crL p' (cs.getD k cd0)).toArray.size = 52 := rfl
      clear TB HS hR2 hlen T2 hp n2 HN RG
      generalize crL p' (cs.getD k cd0) = xb at *
      go_wp2_with (first | (refine wpList_store_mid rfl 53 (.tmp 21) (.tmp 20) rfl w.heap.size (k * 52) xb.toArray rfl rfl (by rw [LS]; exact TH) (iCr.trans (congrArg some LS.symm)) ON ?_) | fail)
      go_roundw
      case rel => exact ⟨k + 1, _, by omega, by go_num, ST.out, N2.out.trans ((only_setG w2 w.heap.size _ (k * 52)).below (Nat.le_refl _))⟩
      case measure => simp [intOf]; omega
    · obtain rfl : k = cs.length := by omega
      have RD := hide (hR.rd (Nat.le_refl _))
      have HN := hide hN
      clear hR hN hr
      go_wp2
      go_ret
      exact ⟨⟨rfl, RD.out⟩, HN.out⟩
end Go.Proofs.YtpbniihhpfbamaaDoor
