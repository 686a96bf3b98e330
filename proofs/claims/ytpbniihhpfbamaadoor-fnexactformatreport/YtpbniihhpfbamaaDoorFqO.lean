
/-
  Rows of reports of channels: held against each other, copied.
-/
import Derived.Test.YtpbniihhpfbamaaDoorFqM
namespace Go.Proofs.YtpbniihhpfbamaaDoor
set_option maxRecDepth 100000
open Go Go.RowKit

theorem HasC.mono {b b' : Nat} {W : World} {p : CA} {d : CD} (h : HasC b W p d) (l : b' ≤ b) : HasC b' W p d := ⟨h.an, Nat.le_trans l h.ban, h.cl.mono l, h.sv.mono l, h.ts, Nat.le_trans l h.bts, h.tc, Nat.le_trans l h.btc⟩
theorem HasC.onl {b q : Nat} {W W' : World} {p : CA} {d : CD} (h : HasC b W p d) (O : Only q W W') (hq : q < b) : HasC b W' p d :=
  ⟨h.an.onlK O (by have := h.ban; omega), h.ban, h.cl.onl O hq, h.sv.onl O hq, h.ts.onlK O (by have := h.bts; omega), h.bts, h.tc.onlK O (by have := h.btc; omega), h.btc⟩
theorem RwC.putsL {t : TypeId} {q : Nat} : ∀ (vs cs : List Value) (w : World) (o : Nat), RwC w q cs t → RwC (w.setCells q o vs) q (setL cs o vs) t
  | [], _, _, _, h => h
  | v :: r, cs, w, o, h => RwC.putsL r (cs.set o v) (w.setCell ⟨q, o, none⟩ v) (o + 1) (h.set o v)
theorem RwC.of_madeN {w : World} {base g n s : Nat} {t : TypeId} {xs : List Value} (h : w.ownsRow base t s (.slice (some ⟨g, 0, none⟩) n n) n xs) : ∃ vs : List Value, vs.length = n * s ∧ RwC w g vs t := by
  rcases h.2 with ⟨h', _⟩ | ⟨g', cap', cur, h', _, hg, _, _, hcs, htake⟩
  · simp at h'
  · simp only [Value.slice.injEq, Option.some.injEq, Addr.mk.injEq, and_true, true_and] at h'
    obtain ⟨rfl, rfl⟩ := h'
    exact ⟨cur.toList, by rw [Array.length_toList, hcs], by show _ = _; rw [hg]⟩
theorem pickF {α : Type} (d : α) {P : Nat → α → Prop} (n : Nat) (h : ∀ j, j < n → ∃ G, P j G) : ∃ Gs : Nat → α, ∀ j, j < n → P j (Gs j) := by
  refine ⟨fun j => if hj : j < n then Classical.choose (h j hj) else d, fun j hj => ?_⟩
  show P j (if hj : j < n then Classical.choose (h j hj) else d)
  rw [dif_pos hj]
  exact Classical.choose_spec (h j hj)
set_option maxRecDepth 100000 in
set_option maxHeartbeats 8000000 in
theorem eqChannelReportS_same (w : World) (g g' : Nat) (a b : Option Addr) (ca cb : Nat) (cs : List CD) (P Q : Nat → CA) (ha : RdC w g a cs P) (hb : RdC w g' b cs Q) (hn : cs.length ≤ 1048576) (hz : ∀ i, i < cs.length → OkC (cs.getD i cd0)) :
    Calls Tryd.prog 26 #[.slice a cs.length ca, .slice b cs.length cb] w fun e w' => e = .returned (.bool true) ∧ Below w.heap.size w w' := by
  obtain ⟨d1, hd1, hrow1⟩ := rowCr
  have e0 : ((cs.length : Int) != (cs.length : Int)) = false := by simp
  go_enter Tryd.func26, Tryd.ntmps26
  go_wp2
  go_loopw [5] (fun i wr => ∃ (k : Nat), k ≤ cs.length ∧ i = .int .i64 k ∧ Below w.heap.size w wr) (fun i _ => cs.length - (intOf i).toNat)
  case atStart => exact ⟨0, Nat.zero_le _, rfl, Below.refl _ _⟩
  case round =>
    obtain ⟨k, hk, rfl, nb⟩ := hrel
    by_cases hlt : k < cs.length
    · obtain ⟨off, rfl, hc⟩ := (ha.up nb).r (by omega)
      obtain ⟨off', rfl, hc'⟩ := (hb.up nb).r (by omega)
      have t0 : (k : Int) < (cs.length : Int) := by omega
      have t1 : decide ((k : Int) < (cs.length : Int)) = true := decide_eq_true t0
      have RA := hide (hc k hlt)
      have RB := hide (hc' k hlt)
      have EB := hide (fun (W : World) (n : Below wr.heap.size wr W) => (show Calls Tryd.prog 47 #[.agg (crL (P k) (cs.getD k cd0)).toArray, .agg (crL (Q k) (cs.getD k cd0)).toArray] W _ from eqC W (P k) (Q k) (cs.getD k cd0) (((ha.up nb).b k hlt).up n) (((hb.up nb).b k hlt).up n) (hz k hlt)))
      have LA : (crL (P k) (cs.getD k cd0)).length = 52 := rfl
      have LB : (crL (Q k) (cs.getD k cd0)).length = 52 := rfl
      have NB := hide nb
      clear hc hc' nb
      generalize crL (P k) (cs.getD k cd0) = xa at *
      generalize crL (Q k) (cs.getD k cd0) = xb at *
      go_upto_region 6 with fail
      refine region_end 10 (fun i => [Fact.eq (.slice (some ⟨g, off, none⟩) cs.length ca), Fact.eq (.int .i64 (k : Int)), Fact.eq (.pointer (some ⟨g, off + k * 52, none⟩)), Fact.eq (.agg xa.toArray), Fact.eq (.slice (some ⟨g', off', none⟩) cs.length cb), Fact.eq (.int .i64 (k : Int)), Fact.eq (.pointer (some ⟨g', off' + k * 52, none⟩)), Fact.eq (.agg xb.toArray), Fact.eq (.bool true), Fact.eq (.bool false)].getD i Fact.no) (by kernel_rfl) (by kernel_rfl) rfl ?_ ?_
      · intro i hi
        obtain rfl | rfl | rfl | rfl | rfl | rfl | rfl | rfl | rfl | rfl : i = 0 ∨ i = 1 ∨ i = 2 ∨ i = 3 ∨ i = 4 ∨ i = 5 ∨ i = 6 ∨ i = 7 ∨ i = 8 ∨ i = 9 := by omega
        · exact sp_mv rfl 0 rfl (by kernel_rfl) rfl rfl
        · exact sp_mv rfl 5 rfl (by kernel_rfl) rfl rfl
        · refine step_pure rfl fun A ww hb hw hf => ?_
          have e1 : A.tmps[17]?.getD undef = .slice (some ⟨g, off, none⟩) cs.length ca := gdv (hf 0 17 (by kernel_rfl))
          have e2 : A.tmps[18]?.getD undef = .int .i64 (k : Int) := gdv (hf 1 18 (by kernel_rfl))
          exact ⟨.pointer (some ⟨g, off + k * 52, none⟩), by simp [go_sem, e1, e2, hlt], rfl⟩
        · exact sp_lrow _ 52 rowCr iCr rfl 19 2 rfl (by kernel_rfl) xa RA.out LA rfl rfl
        · exact sp_mv rfl 1 rfl (by kernel_rfl) rfl rfl
        · exact sp_mv rfl 5 rfl (by kernel_rfl) rfl rfl
        · refine step_pure rfl fun A ww hb hw hf => ?_
          have e1 : A.tmps[21]?.getD undef = .slice (some ⟨g', off', none⟩) cs.length cb := gdv (hf 4 21 (by kernel_rfl))
          have e2 : A.tmps[22]?.getD undef = .int .i64 (k : Int) := gdv (hf 5 22 (by kernel_rfl))
          exact ⟨.pointer (some ⟨g', off' + k * 52, none⟩), by simp [go_sem, e1, e2, hlt], rfl⟩
        · exact sp_lrow _ 52 rowCr iCr rfl 23 6 rfl (by kernel_rfl) xb RB.out LB rfl rfl
        · refine step_callv rfl 47 _ _ rfl (by kernel_rfl) fun A ww hb hw hf => ?_
          have e1 : A.tmps.getD 20 undef = .agg xa.toArray := hf 3 20 (by kernel_rfl)
          have e2 : A.tmps.getD 24 undef = .agg xb.toArray := hf 7 24 (by kernel_rfl)
          show Calls Tryd.prog 47 #[A.tmps.getD 20 undef, A.tmps.getD 24 undef] ww _
          rw [e1, e2]
          exact (EB.out ww hw).mono (by rintro r w' ⟨rfl, n⟩; exact ⟨_, rfl, n, rfl⟩)
        · refine step_pure rfl fun A ww hb hw hf => ?_
          have e1 : A.tmps[25]?.getD undef = .bool true := gdv (hf 8 25 (by kernel_rfl))
          exact ⟨.bool false, by simp [go_sem, e1], rfl⟩
      intro A W hb' hw hF
      have e2 := hF 9 26 (by kernel_rfl)
      obtain ⟨vs, hvs⟩ : ∃ vs : Nat → Value, ∀ d, A.tmps.getD d undef = vs d := ⟨_, fun _ => rfl⟩
      rw [hvs] at e2
      rw [puts_of (md := .any) (k := 10) (by kernel_rfl) rfl hb' vs hvs]
      have e3 : vs 26 = .bool false := e2
      have NW := hide (nxt NB.out hw)
      clear hb' hF hvs e2 RA RB EB hw NB
      simp only [puts, e3, Act.put, List.setIfInBounds_toArray, List.set_cons_succ, List.set_cons_zero]
      clear e3
      go_wp2
      go_roundw
      case rel => exact ⟨k + 1, by omega, by go_num, NW.out⟩
      case measure => simp [intOf]; omega
    · obtain rfl : k = cs.length := by omega
      have NB := hide nb
      clear nb ha hb
      go_wp2
      go_ret
      exact ⟨rfl, NB.out⟩
end Go.Proofs.YtpbniihhpfbamaaDoor
