import Derived.Test.YtpbniihhpfbamaaDoorFW15
import Derived.Maps.AppendAt
import Derived.Test.YtpbniihhpfbamaaDoorFW9

/-
  Iterators over marks and over iterators: what is made; rows of iterators.
-/
namespace Go.Proofs.YtpbniihhpfbamaaDoor
set_option maxRecDepth 100000
open Go Go.RowKit

theorem eachM_any (w : World) (B g : Nat) (a : Option Addr) (c : Nat) (ms : List Mrk) (ps : List Plm) (hB : B ≤ w.heap.size) (hr : ∀ W, Below B w W → RdK W g a ms ps ∧ HasW W) (hm : LnM ms) (hN : ms.length ≤ 1048576) :
    Calls Tryd.prog 44 #[.slice a ms.length c, .func (.func 45) #[] #[]] w fun e w' => (∃ v, e = .returned v ∧ SqX B (ms.map mkT) v w') ∧ Below w.heap.size w w' := by
  have n1 : Below w.heap.size w (w.alloc (.cells #[.slice a ms.length c] 35)) := (Below.refl _ _).alloc (Nat.le_refl _) _
  have c1 : RwC (w.alloc (.cells #[.slice a ms.length c] 35)) w.heap.size [.slice a ms.length c] 35 := RwC.new w [.slice a ms.length c] 35
  have z1 : (w.alloc (.cells #[.slice a ms.length c] 35)).heap.size = w.heap.size + 1 := World.size_alloc _ _
  have FT := fun (w1 : World) => RwC.new w1 [.func (.func 45) #[] #[]] 99
  have N1 := hide n1
  have C1 := hide c1
  have Z1 := hide z1
  have HR := hide hr
  clear n1 c1 z1 hr
  go_enter Tryd.func44, Tryd.ntmps44
  go_wp2
  go_ret
  generalize w.alloc (.cells #[.slice a ms.length c] 35) = w1 at *
  have n2 : ∀ o, Below w1.heap.size w1 (w1.alloc o) := fun o => (Below.refl _ _).alloc (Nat.le_refl _) _
  have z2 : ∀ o, (w1.alloc o).heap.size = w1.heap.size + 1 := fun o => World.size_alloc _ _
  refine ⟨⟨_, rfl, _, _, _, rfl, Nat.le_refl _, by kernel_rfl, each_seq _ w.heap.size (w.heap.size + 1) g a c B _ ms ps ?_ ?_ ?_ ?_ (Nat.le_refl _) ?_ ?_ hm hN⟩, N1.out.trans ((n2 _).mono N1.out.size)⟩
  · exact C1.out.up (n2 _)
  · have := FT w1
    rw [Z1.out] at this
    exact this
  · have := Z1.out; rw [z2]; omega
  · have := Z1.out; rw [z2]; omega
  · have := Z1.out; rw [z2]; omega
  · intro W hBe
    exact HR.out W (((N1.out.trans ((n2 _).mono N1.out.size)).mono hB).trans hBe)
/-- A row of iterators in memory of its own. -/
def RwV (B : Nat) (w : World) (v : Value) (vs : List Value) : Prop := w.ownsRow B 63 1 v vs.length vs
theorem RwV.cells {B : Nat} {w : World} {v : Value} {vs : List Value} (h : RwV B w v vs) : ∃ g a c, v = .slice a vs.length c ∧ (0 < vs.length → ∃ off, a = some ⟨g, off, none⟩ ∧ ∀ i, i < vs.length → w.cell? ⟨g, off + i, none⟩ = some (vs.getD i undef)) := by
  have h' := h
  rcases h.2 with ⟨rfl, hn⟩ | ⟨g, cap, cur, rfl, _⟩
  · exact ⟨0, none, 0, by rw [hn], fun h0 => by omega⟩
  · refine ⟨g, some ⟨g, 0, none⟩, cap, rfl, fun _ => ⟨0, rfl, fun i hi => ?_⟩⟩
    have hc := World.ownsRow.cells (g := g) h' rfl i (vs.getD i undef) (by rw [List.getD_eq_getElem?_getD, List.getElem?_eq_getElem hi]; rfl)
    have e : (⟨g, 0, none⟩ : Addr).add i = ⟨g, i, none⟩ := by unfold Addr.add; split <;> simp_all
    rw [Nat.zero_add, ← e]
    exact hc
theorem joined_any (w : World) (B : Nat) (v : Value) (vs : List Value) (pss : List (List (List UInt8))) (hv : RwV B w v vs) (hlen : vs.length = pss.length) (hs : ∀ i, i < vs.length → SqV (pss.getD i []) (vs.getD i undef) w) (hN : vs.length ≤ 1000000000) :
    Calls Tryd.prog 46 #[v] w fun e w' => (∃ v, e = .returned v ∧ SqV pss.flatten v w') ∧ Below w.heap.size w w' := by
  obtain ⟨g, a, c, rfl, hc⟩ := hv.cells
  have n1 : Below w.heap.size w (w.alloc (.cells #[.slice a vs.length c] 95)) := (Below.refl _ _).alloc (Nat.le_refl _) _
  have c1 : (w.alloc (.cells #[.slice a vs.length c] 95)).cell? ⟨w.heap.size, 0, none⟩ = some (.slice a vs.length c) := (RwC.new w [.slice a vs.length c] 95).cell 0
  have z1 : (w.alloc (.cells #[.slice a vs.length c] 95)).heap.size = w.heap.size + 1 := World.size_alloc _ _
  have JS := hide (joined_seq _ w.heap.size g a c vs pss hlen c1 (by omega) (fun h0 => by
    obtain ⟨off, e, hh⟩ := hc h0
    exact ⟨off, e, fun i hi => (n1.cell (block_lt_of_cell (hh i hi))).trans (hh i hi)⟩) (fun i hi => (hs i hi).up n1) hN)
  have N1 := hide n1
  clear n1 c1 z1 hc hs hv hlen
  go_enter Tryd.func46, Tryd.ntmps46
  go_wp2
  go_ret
  exact ⟨⟨_, rfl, _, _, _, rfl, Nat.le_refl _, by kernel_rfl, JS.out⟩, N1.out⟩
theorem infoSq : (Tryd.prog.info? 63).map (fun i => (i.zero, i.size, i.bytes)) = some (some .nilFunc, 1, 8) := by kernel_rfl
/-- Iterators more: what is at B or above and no row of iterators stays. -/
theorem app_V (w : World) (B : Nat) (v : Value) (vs fs : List Value) (m : Nat) (hm : fs.length = m) (h0 : 0 < m) (hv : RwV B w v vs) (hf : ∀ f ∈ fs, f.oneCell' = true) (hN : vs.length + m ≤ 2000000) (hB : B ≤ w.heap.size) :
    ∃ v' w', (Builtin.append_ #[95, 95] 95 #[v, .slice (some ⟨w.heap.size, 0, none⟩) m m]).run Tryd.prog (w.alloc (.cells fs.toArray 63)) = .ok v' w' ∧ RwV B w' v' (vs ++ fs) ∧ Bel B w.heap.size w w' := by
  obtain ⟨i0, hi, hz0, hz1, hz2⟩ := info_parts infoSq
  subst hm
  have nz : ∀ k, k < w.heap.size → (w.alloc (.cells fs.toArray 63)).heap[k]? = w.heap[k]? := fun k hk => Lib.alloc_old w _ k hk
  have T := RwC.new w fs 63
  obtain ⟨v', w', hap, ho, hg, -, -⟩ := run_append_own_at (P := Tryd.prog) (w.alloc (.cells fs.toArray 63)) B 95 95 63 i0 .nilFunc 1 8 Tryd.underlying95 hi hz0 hz1 hz2 rfl (by decide) v vs.length vs (World.ownsRow.alloc hv _) ⟨w.heap.size, 0, none⟩ fs.length fs.length fs (by simp) (fun j u hj => by
    have e : (⟨w.heap.size, 0, none⟩ : Addr).add j = ⟨w.heap.size, j, none⟩ := by unfold Addr.add; split <;> simp_all
    rw [e, T.cell j]
    exact hj) hf (by unfold maxLen; omega) (by omega) (by simp; omega)
  refine ⟨v', w', hap, ?_, hg.os, hg.tape, hg.output, Nat.le_trans (by simp) hg.size, fun k hk ht => ?_⟩
  · show w'.ownsRow B _ 1 v' (vs ++ fs).length (vs ++ fs)
    rw [List.length_append]
    exact ho
  · refine (hg.block k (by simp; omega) fun e => ?_).trans (nz k hk)
    rcases hv.2 with ⟨rfl, -⟩ | ⟨g, cap, cur, rfl, hbg, hgc, -⟩
    · simp [Value.ownBlock] at e
    · have : k = g := Option.some.inj e
      subst this
      rcases ht with ht | ht
      · omega
      · exact ht _ _ hgc
end Go.Proofs.YtpbniihhpfbamaaDoor

/-
  Rows of reports of channels: counted, held against each other, copied.
-/
namespace Go.Proofs.YtpbniihhpfbamaaDoor
set_option maxRecDepth 100000
open Go Go.RowKit

def cd0 : CD := ⟨0, [], ⟨0, [], [], [], 0, 0, 0, 0, 0, false, false, ByteArray.empty, [], [], [], [], [], 0, 0, ByteArray.empty, ByteArray.empty, 0, 0, []⟩, ⟨0, [], [], [], 0, 0, 0, 0, 0, false, false, ByteArray.empty, [], [], [], [], [], 0, 0, ByteArray.empty, ByteArray.empty, 0, 0, []⟩, [], []⟩
/-- A row of reports of channels that may be read. -/
structure RdC (w : World) (g : Nat) (a : Option Addr) (cs : List CD) (P : Nat → CA) : Prop where
  r : 0 < cs.length → ∃ off, a = some ⟨g, off, none⟩ ∧ ∀ i, i < cs.length → w.rangeAt g (off + i * 52) (crL (P i) (cs.getD i cd0))
  b : ∀ i, i < cs.length → HasC 0 w (P i) (cs.getD i cd0)
theorem RdC.up {w w' : World} {g : Nat} {a : Option Addr} {cs : List CD} {P : Nat → CA} (h : RdC w g a cs P) (n : Below w.heap.size w w') : RdC w' g a cs P :=
  ⟨fun h0 => by
    obtain ⟨off, e, hc⟩ := h.r h0
    exact ⟨off, e, fun i hi => rangeQ (hc i hi) n⟩, fun i hi => (h.b i hi).up n⟩
def cdT (d : CD) : Int := (d.an.length : Int) + erT d.cl + erT d.sv + (d.ts.length : Int) + (d.tc.length : Int)
theorem cdT_0 (d : CD) : 0 ≤ cdT d := by have := erT_0 d.cl; have := erT_0 d.sv; unfold cdT; omega
def sumC (cs : List CD) : Int := cs.foldr (fun d s => cdT d + s) 0
theorem sumC_0 (cs : List CD) : 0 ≤ sumC cs := by
  induction cs with
  | nil => simp [sumC]
  | cons d cs ih => have := cdT_0 d; show 0 ≤ cdT d + sumC cs; omega
theorem sumC_app (x y : List CD) : sumC (x ++ y) = sumC x + sumC y := by
  induction x with
  | nil => simp [sumC]
  | cons a x ih => show cdT a + sumC (x ++ y) = cdT a + sumC x + sumC y; rw [ih]; omega
theorem sumC_take {ls : List CD} {k : Nat} (h : k < ls.length) : sumC (ls.take (k + 1)) = sumC (ls.take k) + cdT (ls.getD k cd0) := by
  rw [List.take_succ_eq_append_getElem h, sumC_app, List.getD_eq_getElem?_getD, List.getElem?_eq_getElem h]
  simp [sumC]
theorem sumC_le (ls : List CD) (k : Nat) : sumC (ls.take k) ≤ sumC ls := by
  have := sumC_app (ls.take k) (ls.drop k)
  rw [List.take_append_drop] at this
  have := sumC_0 (ls.drop k)
  omega
theorem sumC_get {ls : List CD} {k : Nat} (h : k < ls.length) : cdT (ls.getD k cd0) ≤ sumC ls := by
  have := sumC_take h
  have := sumC_le ls (k + 1)
  have := sumC_0 (ls.take k)
  omega
theorem szCL (w : World) (p : CA) (d : CD) (h : HasC 0 w p d) (g : BgC d) (L : Int) (h0 : 0 ≤ L) (h1 : L ≤ 1048576) :
    Calls Tryd.prog 29 #[.agg (crL p d).toArray, .int .i64 L] w fun e w' => (∃ r, e = .returned (.int .i64 r) ∧ LftK L (cdT d) r) ∧ Below w.heap.size w w' := by
  refine (show Calls _ _ _ _ _ from szChannelReport_r w p d h g L h0 h1).mono ?_
  rintro e w' ⟨⟨r, rfl, hr⟩, n⟩
  exact ⟨⟨r, rfl, hr⟩, n⟩
set_option maxRecDepth 100000 in
set_option maxHeartbeats 4000000 in
theorem szChannelReportS_r (w : World) (g : Nat) (a : Option Addr) (c : Nat) (cs : List CD) (P : Nat → CA) (L : Int) (hr : RdC w g a cs P) (hn : cs.length ≤ 9223372036854775807) (hz : ∀ i, i < cs.length → BgC (cs.getD i cd0)) (h0 : 0 ≤ L) (h1 : L ≤ 1048576) :
    Calls Tryd.prog 9 #[.slice a cs.length c, .int .i64 L] w fun e w' => (∃ r, e = .returned (.int .i64 r) ∧ LftK L ((cs.length : Int) + sumC cs) r) ∧ Below w.heap.size w w' := by
  have s1 : IntKind.i64.wrap (L - (cs.length : Int)) = L - (cs.length : Int) := by rw [IntKind.wrap_i64]; omega
  by_cases hl : L < (cs.length : Int)
  · have t1 : decide (L - (cs.length : Int) < 0) = true := decide_eq_true (by omega)
    have H := hide hl
    have S0 := sumC_0 cs
    clear hl hr
    go_enter Tryd.func9, Tryd.ntmps9
    go_wp2
    go_ret
    exact ⟨⟨_, rfl, .inl ⟨by have := H.out; omega, rfl⟩⟩, Below.refl _ _⟩
  · have t1 : decide (L - (cs.length : Int) < 0) = false := decide_eq_false (by omega)
    obtain ⟨dL, hdL, hrL⟩ := rowLCr
    go_enter Tryd.func9, Tryd.ntmps9
    go_wp2
    go_loopw [1, 5] (fun l i wr => ∃ (k : Nat), k ≤ cs.length ∧ i = .int .i64 k ∧ l = .int .i64 (L - (cs.length : Int) - sumC (cs.take k)) ∧ 0 ≤ L - (cs.length : Int) - sumC (cs.take k) ∧ Below w.heap.size w wr) (fun _ i _ => cs.length - (intOf i).toNat)
    case atStart => exact ⟨0, Nat.zero_le _, rfl, by rw [List.take_zero]; simp [sumC], by rw [List.take_zero]; simp [sumC]; omega, Below.refl _ _⟩
    case round =>
      obtain ⟨k, hk, rfl, rfl, hpos, nb⟩ := hrel
      by_cases hlt : k < cs.length
      · obtain ⟨off, rfl, hc⟩ := (hr.up nb).r (by omega)
        have t0 : (k : Int) < (cs.length : Int) := by omega
        have RG := hc k hlt
        have ST := hide (sumC_take hlt)
        have SL := hide (sumC_le cs (k + 1))
        have S0 := sumC_0 (cs.take k)
        have SZ := hide (szCL wr (P k) (cs.getD k cd0) ((hr.up nb).b k hlt) (hz k hlt) (L - (cs.length : Int) - sumC (cs.take k)) hpos (by omega))
        have LN : (crL (P k) (cs.getD k cd0)).length = 52 := rfl
        have NB := hide nb
        have M0 := hide (cdT_0 (cs.getD k cd0))
        clear hc nb S0
        generalize crL (P k) (cs.getD k cd0) = rw_ at *
        generalize cdT (cs.getD k cd0) = m at *
        obtain ⟨q, hq⟩ : ∃ q : Int, q = L - (cs.length : Int) - sumC (cs.take k) := ⟨_, rfl⟩
        rw [← hq] at SZ hpos ⊢
        have HQ := hide hq
        clear hq
        go_wp2_with (first | (refine wpList_load_mid rfl 74 (.tmp 20) rfl g (off + k * 52) rfl rw_ dL RG hdL hrL (iLCr.trans (congrArg some LN.symm)) ?_) | fail)
        refine SZ.out.mono ?_
        rintro e w1 ⟨⟨r, rfl, hr1⟩, n1⟩
        have N1 := hide (nxt NB.out n1)
        clear SZ NB n1 RG
        rcases hr1 with ⟨h2, rfl⟩ | ⟨h2, rfl⟩
        · have FA : Hid (L < (cs.length : Int) + sumC cs) := by
            have := ST.out; have := SL.out; have := HQ.out
            show L < _
            omega
          clear h2 ST SL HQ
          go_wp2
          go_ret
          exact ⟨⟨_, rfl, .inl ⟨FA.out, rfl⟩⟩, N1.out⟩
        · have t3 : decide (q - m < 0) = false := decide_eq_false (by omega)
          have EQ : Hid (q - m = L - (cs.length : Int) - sumC (cs.take (k + 1))) := by
            have := ST.out; have := HQ.out
            show _ = _
            omega
          have GE : Hid (0 ≤ q - m) := by show (0 : Int) ≤ _; omega
          clear h2 ST SL HQ hpos
          go_wp2
          go_roundw
          case rel => exact ⟨k + 1, by omega, by go_num, by rw [EQ.out], by rw [← EQ.out]; exact GE.out, N1.out⟩
          case measure => simp [intOf]; omega
      · obtain rfl : k = cs.length := by omega
        rw [List.take_length] at hpos ⊢
        have NB := hide nb
        have HP := hide hpos
        clear nb hr hpos
        go_wp2
        go_ret
        exact ⟨⟨_, rfl, .inr ⟨by have := HP.out; omega, by omega⟩⟩, NB.out⟩
end Go.Proofs.YtpbniihhpfbamaaDoor

/-
  Rows of reports of channels: held against each other, copied.
-/
namespace Go.Proofs.YtpbniihhpfbamaaDoor
set_option maxRecDepth 100000
open Go Go.RowKit

theorem HasC.mono {b b' : Nat} {W : World} {p : CA} {d : CD} (h : HasC b W p d) (l : b' ≤ b) : HasC b' W p d := ⟨h.an, Nat.le_trans l h.ban, h.cl.mono l, h.sv.mono l, h.ts, Nat.le_trans l h.bts, h.tc, Nat.le_trans l h.btc⟩
theorem HasC.onl {b q : Nat} {W W' : World} {p : CA} {d : CD} (h : HasC b W p d) (O : Only q W W') (hq : q < b) : HasC b W' p d :=
  ⟨h.an.onlK O (by have := h.ban; omega), h.ban, h.cl.onl O hq, h.sv.onl O hq, h.ts.onlK O (by have := h.bts; omega), h.bts, h.tc.onlK O (by have := h.btc; omega), h.btc⟩
theorem RwC.putsL {t : TypeId} {q : Nat} : ∀ (vs cs : List Value) (w : World) (o : Nat), RwC w q cs t → RwC (w.setCells q o vs) q (setL cs o vs) t
  | [], _, _, _, h => h
  | v :: r, cs, w, o, h => RwC.putsL r (cs.set o v) (w.setCell ⟨q, o, none⟩ v) (o + 1) (h.set o v)
theorem RwC.of_madeN {w : World} {base g n s : Nat} {t : TypeId} {xs : List Value} (h : w.ownsRow base t s (.slice (some ⟨g, 0, none⟩) n n) n xs) : ∃ vs : List Value, vs.length = n * s ∧ RwC w g vs t := by
  rcases h.2 with ⟨h', _⟩ | ⟨g', cap', cur, h', _, hg, _, _, hcs, htake⟩
  · simp at h'
  · simp only [Value.slice.injEq, Option.some.injEq, Addr.mk.injEq, and_true, true_and] at h'
    obtain ⟨rfl, rfl⟩ := h'
    exact ⟨cur.toList, by rw [Array.length_toList, hcs], by show _ = _; rw [hg]⟩
theorem pickF {α : Type} (d : α) {P : Nat → α → Prop} (n : Nat) (h : ∀ j, j < n → ∃ G, P j G) : ∃ Gs : Nat → α, ∀ j, j < n → P j (Gs j) := by
  refine ⟨fun j => if hj : j < n then Classical.choose (h j hj) else d, fun j hj => ?_⟩
  show P j (if hj : j < n then Classical.choose (h j hj) else d)
  rw [dif_pos hj]
  exact Classical.choose_spec (h j hj)
set_option maxRecDepth 100000 in
set_option maxHeartbeats 8000000 in
theorem eqChannelReportS_same (w : World) (g g' : Nat) (a b : Option Addr) (ca cb : Nat) (cs : List CD) (P Q : Nat → CA) (ha : RdC w g a cs P) (hb : RdC w g' b cs Q) (hn : cs.length ≤ 1048576) (hz : ∀ i, i < cs.length → OkC (cs.getD i cd0)) :
    Calls Tryd.prog 26 #[.slice a cs.length ca, .slice b cs.length cb] w fun e w' => e = .returned (.bool true) ∧ Below w.heap.size w w' := by
  obtain ⟨d1, hd1, hrow1⟩ := rowCr
  have e0 : ((cs.length : Int) != (cs.length : Int)) = false := by simp
  go_enter Tryd.func26, Tryd.ntmps26
  go_wp2
  go_loopw [5] (fun i wr => ∃ (k : Nat), k ≤ cs.length ∧ i = .int .i64 k ∧ Below w.heap.size w wr) (fun i _ => cs.length - (intOf i).toNat)
  case atStart => exact ⟨0, Nat.zero_le _, rfl, Below.refl _ _⟩
  case round =>
    obtain ⟨k, hk, rfl, nb⟩ := hrel
    by_cases hlt : k < cs.length
    · obtain ⟨off, rfl, hc⟩ := (ha.up nb).r (by omega)
      obtain ⟨off', rfl, hc'⟩ := (hb.up nb).r (by omega)
      have t0 : (k : Int) < (cs.length : Int) := by omega
      have t1 : decide ((k : Int) < (cs.length : Int)) = true := decide_eq_true t0
      have RA := hide (hc k hlt)
      have RB := hide (hc' k hlt)
      have EB := hide (fun (W : World) (n : Below wr.heap.size wr W) => (show Calls Tryd.prog 47 #[.agg (crL (P k) (cs.getD k cd0)).toArray, .agg (crL (Q k) (cs.getD k cd0)).toArray] W _ from eqC W (P k) (Q k) (cs.getD k cd0) (((ha.up nb).b k hlt).up n) (((hb.up nb).b k hlt).up n) (hz k hlt)))
      have LA : (crL (P k) (cs.getD k cd0)).length = 52 := rfl
      have LB : (crL (Q k) (cs.getD k cd0)).length = 52 := rfl
      have NB := hide nb
      clear hc hc' nb
      generalize crL (P k) (cs.getD k cd0) = xa at *
      generalize crL (Q k) (cs.getD k cd0) = xb at *
      go_upto_region 6 with fail
      refine region_end 10 (fun i => [Fact.eq (.slice (some ⟨g, off, none⟩) cs.length ca), Fact.eq (.int .i64 (k : Int)), Fact.eq (.pointer (some ⟨g, off + k * 52, none⟩)), Fact.eq (.agg xa.toArray), Fact.eq (.slice (some ⟨g', off', none⟩) cs.length cb), Fact.eq (.int .i64 (k : Int)), Fact.eq (.pointer (some ⟨g', off' + k * 52, none⟩)), Fact.eq (.agg xb.toArray), Fact.eq (.bool true), Fact.eq (.bool false)].getD i Fact.no) (by kernel_rfl) (by kernel_rfl) rfl ?_ ?_
      · intro i hi
        obtain rfl | rfl | rfl | rfl | rfl | rfl | rfl | rfl | rfl | rfl : i = 0 ∨ i = 1 ∨ i = 2 ∨ i = 3 ∨ i = 4 ∨ i = 5 ∨ i = 6 ∨ i = 7 ∨ i = 8 ∨ i = 9 := by omega
        · exact sp_mv rfl 0 rfl (by kernel_rfl) rfl rfl
        · exact sp_mv rfl 5 rfl (by kernel_rfl) rfl rfl
        · refine step_pure rfl fun A ww hb hw hf => ?_
          have e1 : A.tmps[17]?.getD undef = .slice (some ⟨g, off, none⟩) cs.length ca := gdv (hf 0 17 (by kernel_rfl))
          have e2 : A.tmps[18]?.getD undef = .int .i64 (k : Int) := gdv (hf 1 18 (by kernel_rfl))
          exact ⟨.pointer (some ⟨g, off + k * 52, none⟩), by simp [go_sem, e1, e2, hlt], rfl⟩
        · exact sp_lrow _ 52 rowCr iCr rfl 19 2 rfl (by kernel_rfl) xa RA.out LA rfl rfl
        · exact sp_mv rfl 1 rfl (by kernel_rfl) rfl rfl
        · exact sp_mv rfl 5 rfl (by kernel_rfl) rfl rfl
        · refine step_pure rfl fun A ww hb hw hf => ?_
          have e1 : A.tmps[21]?.getD undef = .slice (some ⟨g', off', none⟩) cs.length cb := gdv (hf 4 21 (by kernel_rfl))
          have e2 : A.tmps[22]?.getD undef = .int .i64 (k : Int) := gdv (hf 5 22 (by kernel_rfl))
          exact ⟨.pointer (some ⟨g', off' + k * 52, none⟩), by simp [go_sem, e1, e2, hlt], rfl⟩
        · exact sp_lrow _ 52 rowCr iCr rfl 23 6 rfl (by kernel_rfl) xb RB.out LB rfl rfl
        · refine step_callv rfl 47 _ _ rfl (by kernel_rfl) fun A ww hb hw hf => ?_
          have e1 : A.tmps.getD 20 undef = .agg xa.toArray := hf 3 20 (by kernel_rfl)
          have e2 : A.tmps.getD 24 undef = .agg xb.toArray := hf 7 24 (by kernel_rfl)
          show Calls Tryd.prog 47 #[A.tmps.getD 20 undef, A.tmps.getD 24 undef] ww _
          rw [e1, e2]
          exact (EB.out ww hw).mono (by rintro r w' ⟨rfl, n⟩; exact ⟨_, rfl, n, rfl⟩)
        · refine step_pure rfl fun A ww hb hw hf => ?_
          have e1 : A.tmps[25]?.getD undef = .bool true := gdv (hf 8 25 (by kernel_rfl))
          exact ⟨.bool false, by simp [go_sem, e1], rfl⟩
      intro A W hb' hw hF
      have e2 := hF 9 26 (by kernel_rfl)
      obtain ⟨vs, hvs⟩ : ∃ vs : Nat → Value, ∀ d, A.tmps.getD d undef = vs d := ⟨_, fun _ => rfl⟩
      rw [hvs] at e2
      rw [puts_of (md := .any) (k := 10) (by kernel_rfl) rfl hb' vs hvs]
      have e3 : vs 26 = .bool false := e2
      have NW := hide (nxt NB.out hw)
      clear hb' hF hvs e2 RA RB EB hw NB
      simp only [puts, e3, Act.put, List.setIfInBounds_toArray, List.set_cons_succ, List.set_cons_zero]
      clear e3
      go_wp2
      go_roundw
      case rel => exact ⟨k + 1, by omega, by go_num, NW.out⟩
      case measure => simp [intOf]; omega
    · obtain rfl : k = cs.length := by omega
      have NB := hide nb
      clear nb ha hb
      go_wp2
      go_ret
      exact ⟨rfl, NB.out⟩
end Go.Proofs.YtpbniihhpfbamaaDoor

/-
  Rows of reports of channels: copied (written by gens/fqp.py).
-/
namespace Go.Proofs.YtpbniihhpfbamaaDoor
set_option maxRecDepth 100000
open Go Go.RowKit

def crZ : Array Value := #[.int .i64 0, .slice none 0 0, .int .i64 0, .slice none 0 0, .slice none 0 0, .slice none 0 0, .int .i64 0, .int .i64 0, .int .i64 0, .int .i64 0, .int .i64 0, .bool false, .bool false, .string ⟨#[]⟩, .slice none 0 0, .slice none 0 0, .slice none 0 0, .slice none 0 0, .slice none 0 0, .int .i64 0, .int .i64 0, .string ⟨#[]⟩, .string ⟨#[]⟩, .int .i64 0, .int .i64 0, .slice none 0 0, .int .i64 0, .slice none 0 0, .slice none 0 0, .slice none 0 0, .int .i64 0, .int .i64 0, .int .i64 0, .int .i64 0, .int .i64 0, .bool false, .bool false, .string ⟨#[]⟩, .slice none 0 0, .slice none 0 0, .slice none 0 0, .slice none 0 0, .slice none 0 0, .int .i64 0, .int .i64 0, .string ⟨#[]⟩, .string ⟨#[]⟩, .int .i64 0, .int .i64 0, .slice none 0 0, .slice none 0 0, .slice none 0 0]
theorem infoCr : (Tryd.prog.info? 53).map (fun i => (i.zero, i.size, i.bytes)) = some (some (.agg crZ), 52, 784) := by kernel_rfl
/-- A new row of reports, the first k of them laid. -/
structure RwCk (B : Nat) (wr : World) (g : Nat) (cs : List CD) (k : Nat) (vs : List Value) : Prop where
  l : vs.length = cs.length * 52
  r : RwC wr g vs 53
  at_ : ∀ j, j < k → ∃ p : CA, (vs.drop (j * 52)).take 52 = crL p (cs.getD j cd0) ∧ HasC (B + 1) wr p (cs.getD j cd0)
theorem RwCk.step {B g k : Nat} {wr w1 : World} {cs : List CD} {vs : List Value} (h : RwCk B wr g cs k vs) (hk : k < cs.length) (hg : g ≤ B) (n : Below wr.heap.size wr w1) {p : CA} (hp : HasC (B + 1) w1 p (cs.getD k cd0)) :
    RwCk B (w1.setCells g (k * 52) (crL p (cs.getD k cd0))) g cs (k + 1) (setL vs (k * 52) (crL p (cs.getD k cd0))) := by
  have O := only_setG w1 g (crL p (cs.getD k cd0)) (k * 52)
  have L : (crL p (cs.getD k cd0)).length = 52 := rfl
  have hl := h.l
  have hkl : k * 52 + 52 ≤ vs.length := by omega
  have E := setL_eq (crL p (cs.getD k cd0)) vs (k * 52) (by rw [L]; exact hkl)
  refine ⟨?_, RwC.putsL _ _ _ _ (h.r.up n), fun j hj => ?_⟩
  · rw [E, List.length_append, List.length_append, List.length_take, List.length_drop, L]
    omega
  · by_cases e : j = k
    · subst e
      refine ⟨p, ?_, hp.onl O (by omega)⟩
      rw [E, L, List.append_assoc, List.drop_append_of_le_length (by rw [List.length_take]; omega), List.drop_of_length_le (by rw [List.length_take]; omega), List.nil_append, List.take_append_of_le_length (by rw [L]; omega), List.take_of_length_le (by rw [L]; omega)]
    · obtain ⟨p', e1, h1⟩ := h.at_ j (by omega)
      refine ⟨p', ?_, (h1.up n).onl O (by omega)⟩
      rw [E, ← e1]
      apply List.ext_getElem?
      intro i
      simp only [List.getElem?_take, List.getElem?_drop]
      by_cases hi : i < 52
      · rw [if_pos hi, if_pos hi, List.append_assoc]
        rcases Nat.lt_or_ge j k with hjk | hjk
        · rw [List.getElem?_append_left (by rw [List.length_take]; omega), List.getElem?_take, if_pos (by omega)]
        · omega
      · rw [if_neg hi, if_neg hi]
/-- A row of reports that was copied: all of it lies at b or above. -/
structure CpC (b : Nat) (W : World) (g : Nat) (cs : List CD) (P : Nat → CA) : Prop where
  rd : RdC W g (some ⟨g, 0, none⟩) cs P
  lo : b ≤ g
  los : ∀ i, i < cs.length → HasC b W (P i) (cs.getD i cd0)
theorem CpC.mono {b b' : Nat} {W : World} {g : Nat} {cs : List CD} {P : Nat → CA} (h : CpC b W g cs P) (l : b' ≤ b) : CpC b' W g cs P := ⟨h.rd, Nat.le_trans l h.lo, fun i hi => (h.los i hi).mono l⟩
theorem CpC.up {b : Nat} {W W' : World} {g : Nat} {cs : List CD} {P : Nat → CA} (h : CpC b W g cs P) (n : Below W.heap.size W W') : CpC b W' g cs P := ⟨h.rd.up n, h.lo, fun i hi => (h.los i hi).up n⟩
theorem CpC.onl {b q : Nat} {W W' : World} {g : Nat} {cs : List CD} {P : Nat → CA} (h : CpC b W g cs P) (O : Only q W W') (hq : q < b) : CpC b W' g cs P := by
  refine ⟨⟨fun h0 => ?_, fun i hi => ((h.los i hi).onl O hq).mono (Nat.zero_le _)⟩, h.lo, fun i hi => (h.los i hi).onl O hq⟩
  obtain ⟨off, e, hc⟩ := h.rd.r h0
  have := h.lo
  exact ⟨off, e, fun i hi j v hj => (World.cell?_of_block (a := ⟨g, off + i * 52 + j, none⟩) (O.block g (by omega))).trans (hc i hi j v hj)⟩
theorem RwCk.rd {B g : Nat} {wr : World} {cs : List CD} {vs : List Value} (h : RwCk B wr g cs cs.length vs) (hB : B ≤ g) : ∃ P, CpC B wr g cs P := by
  obtain ⟨P, hP⟩ := pickF (⟨none, 0, 0, ⟨none, 0, 0, none, 0, 0, none, 0, 0, none, 0, 0, none, 0, 0, none, 0, 0, none, 0, 0, none, 0, 0, none, 0, 0, []⟩, ⟨none, 0, 0, none, 0, 0, none, 0, 0, none, 0, 0, none, 0, 0, none, 0, 0, none, 0, 0, none, 0, 0, none, 0, 0, []⟩, none, 0, 0, none, 0, 0⟩ : CA) cs.length h.at_
  refine ⟨P, ⟨fun _ => ⟨0, rfl, fun i hi => ?_⟩, fun i hi => (hP i hi).2.mono (Nat.zero_le _)⟩, hB, fun i hi => (hP i hi).2.mono (Nat.le_succ _)⟩
  rw [Nat.zero_add]
  exact h.r.part (i * 52) _ (hP i hi).1
set_option maxRecDepth 100000 in
set_option maxHeartbeats 4000000 in
theorem toChannelReportS_any (w : World) (g : Nat) (a : Option Addr) (c : Nat) (cs : List CD) (P : Nat → CA) (hr : RdC w g a cs P) (hn : cs.length ≤ 1048576) (hz : ∀ i, i < cs.length → OkC (cs.getD i cd0)) :
    Calls Tryd.prog 18 #[.slice a cs.length c] w fun e w' => (e = .returned (.slice (some ⟨w.heap.size, 0, none⟩) cs.length cs.length) ∧ ∃ P', CpC w.heap.size w' w.heap.size cs P') ∧ Below w.heap.size w w' := by
  obtain ⟨i0, hi, hz0, hz1, hz2⟩ := info_parts infoCr
  obtain ⟨dL, hdL, hrL⟩ := rowLCr
  go_enter Tryd.func18, Tryd.ntmps18
  go_wp2_with (at_make; refine wpList_make_full _ rfl _ _ 33 rfl w.heap.size 53 i0 (.agg crZ) 52 Tryd.underlying33 hi hz0 hz1 .i64 .i64 _ _ cs.length rfl rfl rfl rfl (by rw [hz2]; omega) (by unfold maxLen; omega) (Nat.le_refl _) ?_; intro w1 hown hgrow)
  obtain ⟨v0, hv0, hB0⟩ := RwC.of_madeN hown
  have hN0 : Below w.heap.size w w1 := (Below.refl _ _).grown hgrow (Nat.le_refl _) (by simp)
  clear hown hgrow
  go_loopw [4] (fun i wr => ∃ (k : Nat) (vs : List Value), k ≤ cs.length ∧ i = .int .i64 k ∧ RwCk w.heap.size wr w.heap.size cs k vs ∧ Below w.heap.size w wr) (fun i _ => cs.length - (intOf i).toNat)
  case atStart => exact ⟨0, _, Nat.zero_le _, rfl, ⟨hv0, hB0, fun j hj => absurd hj (by omega)⟩, hN0⟩
  case round =>
    obtain ⟨k, vs, hk, rfl, hR, hN⟩ := hrel
    clear hB0 hN0 hv0
    by_cases hlt : k < cs.length
    · obtain ⟨off, rfl, hc⟩ := (hr.up hN).r (by omega)
      have t0 : (k : Int) < (cs.length : Int) := by omega
      have RG := hc k hlt
      have LN : (crL (P k) (cs.getD k cd0)).length = 52 := rfl
      have wl : w.heap.size < wr.heap.size := hR.r.lt
      have TB := hide (show Calls Tryd.prog 33 #[.agg (crL (P k) (cs.getD k cd0)).toArray] wr _ from toChannelReport_any wr (P k) (cs.getD k cd0) ((hr.up hN).b k hlt) (hz k hlt))
      have HS := hide (fun (w1 : World) (n : Below wr.heap.size wr w1) p hp => RwCk.step (w1 := w1) (p := p) hR hlt (Nat.le_refl _) n hp)
      have hR2 := hide hR.r
      have hlen := hide hR.l
      have HN := hide hN
      clear hc hR hN
      generalize crL (P k) (cs.getD k cd0) = xa at *
      go_wp2_with (first | (refine wpList_load_mid rfl 74 (.tmp 18) rfl g (off + k * 52) rfl xa dL RG hdL hrL (iLCr.trans (congrArg some LN.symm)) ?_) | fail)
      refine TB.out.mono ?_
      rintro e w2 ⟨p', rfl, hp, n2⟩
      have T2 := hR2.out.up n2
      have TH : w2.there w.heap.size (k * 52) 52 := T2.tpart (k * 52) 52 (by rw [hlen.out]; omega)
      have ST := hide (HS.out w2 n2 p' (hp.mono (by omega)))
      have N2 := hide (nxt HN.out n2)
      have ON : (crL p' (cs.getD k cd0)).toArray.all (·.oneCell') = true := oneCr p' _
      have LS : (crL p' (cs.getD k cd0)).toArray.size = 52 := rfl
      clear TB HS hR2 hlen T2 hp n2 HN RG
      generalize crL p' (cs.getD k cd0) = xb at *
      go_wp2_with (first | (refine wpList_store_mid rfl 53 (.tmp 21) (.tmp 20) rfl w.heap.size (k * 52) xb.toArray rfl rfl (by rw [LS]; exact TH) (iCr.trans (congrArg some LS.symm)) ON ?_) | fail)
      go_roundw
      case rel => exact ⟨k + 1, _, by omega, by go_num, ST.out, N2.out.trans ((only_setG w2 w.heap.size _ (k * 52)).below (Nat.le_refl _))⟩
      case measure => simp [intOf]; omega
    · obtain rfl : k = cs.length := by omega
      have RD := hide (hR.rd (Nat.le_refl _))
      have HN := hide hN
      clear hR hN hr
      go_wp2
      go_ret
      exact ⟨⟨rfl, RD.out⟩, HN.out⟩
end Go.Proofs.YtpbniihhpfbamaaDoor
