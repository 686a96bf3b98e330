import Derived.Test.YtbhmhkimddjhaaaDoorGG23
import Derived.Test.YtbhmhkimddjhaaaDoorGG17
import Derived.Deep.RegionHeld3
import Derived.Deep.DeepCutAuto
import Derived.Test.YtbhmhkimddjhaaaDoorGG30
/-
  The model's l2Root.
-/
namespace Go.Proofs.YtbhmhkimddjhaaaDoor
set_option maxRecDepth 100000
open Go.RowKit

abbrev Z16 : Obj := .cells #[.int .i64 0, .int .i64 0, .int .i64 0, .int .i64 0, .int .i64 0, .int .i64 0, .int .i64 0, .int .i64 0, .int .i64 0, .int .i64 0, .int .i64 0, .int .i64 0, .int .i64 0, .int .i64 0, .int .i64 0, .int .i64 0] 70
theorem blkZ (W : World) : Blk (W.alloc Z16) W.heap.size .i64 (ls16 (fun _ => 0)) := by
  have h := blk16 W 70 (fun _ => 0)
  exact h
theorem thZ (W : World) : (W.alloc Z16).there W.heap.size 0 16 := there16 (blkZ W)
theorem thup {W W' : World} (n : Below W.heap.size W W') {q : Nat} (h : W.there q 0 16) : W'.there q 0 16 := by
  have h0 := (h 0 (by omega)).1
  rw [Option.isSome_iff_exists] at h0
  obtain ⟨v, hv⟩ := h0
  have hb := n.block q (block_lt_of_cell hv)
  exact fun j hj => ⟨by rw [World.cell?_of_block (a := ⟨q, 0 + j, none⟩) hb]; exact (h j hj).1, by rw [World.frozen?_of_block (a := ⟨q, 0 + j, none⟩) hb]; exact (h j hj).2⟩
theorem th_al {W : World} {q : Nat} (h : W.there q 0 16) (o : Obj) : (W.alloc o).there q 0 16 := thup ((Below.refl _ _).alloc (Nat.le_refl _) _) h
theorem thZ1 (W : World) (o : Obj) : ((W.alloc o).alloc Z16).there (W.heap.size + 1) 0 16 := by
  have h := thZ (W.alloc o)
  simpa using h
theorem thZ2 (W : World) (o o' : Obj) : (((W.alloc o).alloc o').alloc Z16).there (W.heap.size + 1 + 1) 0 16 := by
  have h := thZ1 (W.alloc o) o'
  simpa using h
theorem blk_al {W : World} {g : Nat} {k : IntKind} {ys : List Int} (h : Blk W g k ys) (o : Obj) : Blk (W.alloc o) g k ys := h.up ((Below.refl _ _).alloc (Nat.le_refl _) _)
theorem one_e (W : World) (d : Int) (o o' : Obj) : Blk (((W.alloc o).alloc o').alloc (.cells #[.int .u8 d] 5)) (W.heap.size + 1 + 1) .u8 [d] := by
  have h := one_c (W.alloc o) d o'
  simpa using h
theorem bB {w W : World} (h : Below w.heap.size w W) (o : Obj) : Below w.heap.size w (W.alloc o) := h.alloc h.size _
theorem own_al {W : World} {g : Nat} {a : Option Addr} {k : IntKind} {xs : List Int} (h : Own W g a k xs) (o : Obj) : Own (W.alloc o) g a k xs := h.up ((Below.refl _ _).alloc (Nat.le_refl _) _)

/-- The root's block. -/
def RAt (wr : World) (A : Int) (v : Value) (wc : World) : Prop := ∃ q t, v = .pointer (some ⟨q, 0, none⟩) ∧ wr.heap.size ≤ q ∧ R16 wc q t ∧ L16 t ∧ s16 t 16 % PP = A ∧ Below wr.heap.size wr wc
theorem rAt {wr W : World} {A : Int} {q : Nat} {t : Nat → Int} {cs : List Value} (n : Below wr.heap.size wr W) (th : W.there q 0 16) (hq : wr.heap.size ≤ q) (h : cs = (a16 t).toList ∧ L16 t ∧ s16 t 16 % PP = A) : RAt wr A (.pointer (some ⟨q, 0, none⟩)) (W.setCells q 0 cs) :=
  ⟨q, t, rfl, hq, by rw [h.1]; exact R16.set t th, h.2.1, h.2.2, below_setCells hq _ _ _ n⟩
/-- What the model's root answers. -/
def RootS (A : Int) (r : Ending) : Prop := (r1S A * r1S A % PP = A ∧ ∃ t, r = .returned (.tuple #[.bool true, ag16 t]) ∧ L16 t ∧ s16 t 16 % PP = fin2 (r1S A)) ∨ (¬ r1S A * r1S A % PP = A ∧ ∃ t, r = .returned (.tuple #[.bool false, ag16 t]) ∧ L16 t ∧ s16 t 16 % PP = 0)
theorem powm (x : Int) : ∀ e : Nat, (x % PP) ^ e % PP = x ^ e % PP
  | 0 => by rw [Int.pow_zero, Int.pow_zero]
  | e + 1 => by
    rw [Int.pow_succ, Int.pow_succ, Int.mul_emod, powm x e, Int.emod_emod_of_dvd _ (Int.dvd_refl _), ← Int.mul_emod]
theorem canon_one {xs : List Int} {v : Int} (h : Canon xs v) (hv : 0 < v) : 1 ≤ xs.length := by
  by_cases e : xs.length = 0
  · have : xs = [] := List.eq_nil_of_length_eq_zero e
    subst this
    have := h.2.1
    rw [bval_nil] at this
    omega
  · omega
theorem results_two {fn : Func} {s p : Tmp} (h : fn.results = #[.tmp s, .cell p 70]) (tmps : Array Value) (w : World) (g : Nat) (cs : Array Value) (b : Bool)
    (hs : tmps.getD s undef = .bool b) (hp : tmps.getD p undef = .pointer (some ⟨g, 0, none⟩)) (hg : w.rangeAt g 0 cs.toList) (hi : (Tryd.prog.info? 70).map (·.size) = some cs.size) :
    (results fn tmps).run Tryd.prog w = .ok (.tuple #[.bool b, .agg cs]) w := by
  have hs' : tmps[s]?.getD undef = .bool b := by simpa using hs
  have hp' : tmps[p]?.getD undef = .pointer (some ⟨g, 0, none⟩) := by simpa using hp
  have hl := run_loadVar_mid (P := Tryd.prog) w g 0 70 cs.toList (.array 16 2) hg Go.Proofs.YtbhmhkimddjhaaaDoor.u50 rfl (by simpa using hi)
  simp [results, h, hs', hp', asAddr, hl]
theorem canon_toNat {ys : List Int} {n : Nat} (h : Canon ys (n : Int)) : (bval ys).toNat = n := by rw [h.2.1]; rfl

set_option maxHeartbeats 8000000 in
theorem l2Root_any (w : World) (f : Nat → Int) (hf : L16 f) :
    Calls Tryd.prog 70 #[ag16 f] w fun r w' => RootS (s16 f 16 % PP) r ∧ Below w.heap.size w w' := by
  show Calls Tryd.prog 70 #[.agg (a16 f)] w fun r w' => RootS (s16 f 16 % PP) r ∧ Below w.heap.size w w'
  have B0 : Blk (w.alloc (.cells (a16 f) 70)) w.heap.size .i64 (ls16 f) := blk16 w 70 f
  have n0 : Below w.heap.size w (w.alloc (.cells (a16 f) 70)) := (Below.refl _ _).alloc (Nat.le_refl _) _
  have s0 : (w.alloc (.cells (a16 f) 70)).heap.size = w.heap.size + 1 := by simp
  have u50' := Go.Proofs.YtbhmhkimddjhaaaDoor.u50
  have iA : (Tryd.prog.info? 70).map (·.size) = some (a16 f).toList.length := by
    have : (a16 f).toList.length = 16 := by simp [ls16]
    rw [this]; exact i50
  have PW0 := fun W g b c es ha hr hb => l2Power_any W f g b c es hf ha hr hb
  simp only [show ag16 f = .agg (a16 f) from rfl] at PW0
  obtain ⟨A, hA⟩ : ∃ A, A = a16 f := ⟨_, rfl⟩
  have HA := hide hA
  rw [← hA] at B0 n0 s0 iA PW0 ⊢
  clear hA
  go_enter Tryd.func70, Tryd.ntmps70
  go_upto_region 1 with fail
  generalize w.alloc (.cells A 70) = wa at *
  have B1 := blkZ wa
  have n1 : Below wa.heap.size wa (wa.alloc Z16) := (Below.refl _ _).alloc (Nat.le_refl _) _
  rw [s0] at B1
  generalize wa.alloc Z16 = wr at *
  have E0 := B0.up n1
  have N := nxt n0 n1
  have RA : R16 wr w.heap.size f := R16.ofBlk E0
  have RB := R16.ofBlk B1
  clear B0 n0 n1 s0 E0 B1
  have CE : Hid (∀ W, Below wr.heap.size wr W → W.rangeAt w.heap.size 0 A.toList) := fun W n => by rw [HA.out]; exact (RA.up n).1
  have SH : Hid (∀ W b, Below wr.heap.size wr W → Blk W b .u8 [1] → Calls Tryd.prog 88 #[.slice (some ⟨b, 0, none⟩) 1 1, .int .i64 252] W fun r w' => ∃ xs a c g, r = .returned (.slice a xs.length c) ∧ Own w' g a .u8 xs ∧ Hid (Canon xs 7237005577332262213973186563042994240829374041602535252466099000494570602496) ∧ Below wr.heap.size wr w' ∧ Below W.heap.size W w') := by
    intro W b n B
    refine (l1Shift252_any W b _ 1 [1] B.own0.rd (byt_one (by omega) (by omega)) (by simp) (by simp)).mono ?_
    rintro r w' ⟨xs, C, ⟨a, c, g, rfl, o, _, _, _⟩, n'⟩
    have e1 : bval [1] = 1 := by decide
    rw [e1, Int.one_mul] at C
    exact ⟨xs, a, c, g, rfl, o, C, nxt n n', n'⟩
  have SU : Hid (∀ W b xs a c g, Below wr.heap.size wr W → Own W g a .u8 xs → Hid (Canon xs 7237005577332262213973186563042994240829374041602535252466099000494570602496) → Blk W b .u8 [2] → Calls Tryd.prog 97 #[.slice a xs.length c, .slice (some ⟨b, 0, none⟩) 1 1] W fun r w' => ∃ ys a c g, r = .returned (.slice a ys.length c) ∧ Own w' g a .u8 ys ∧ Hid (Canon ys (eRt : Int)) ∧ Below wr.heap.size wr w' ∧ Below W.heap.size W w') := by
    intro W b xs a c g n o C B
    have L : xs.length ≤ 64 := C.out.len (by decide)
    have P1 : 1 ≤ xs.length := canon_one C.out (by decide)
    have e2 : bval [2] = 2 := by decide
    refine (l1Sub_any W g b a _ c 1 xs [2] o.rd B.own0.rd C.out.1 (byt_one (by omega) (by omega)) (by omega) (by simpa using P1) (by rw [C.out.2.1, e2]; decide)).mono ?_
    rintro r w' ⟨ys, D, ⟨a', c', g', rfl, o', _, _, _⟩, n'⟩
    rw [C.out.2.1, e2] at D
    exact ⟨ys, a', c', g', rfl, o', D, nxt n n', n'⟩
  have PW : Hid (∀ W ys a c g, Below wr.heap.size wr W → Own W g a .u8 ys → Hid (Canon ys (eRt : Int)) → Calls Tryd.prog 106 #[.agg A, .slice a ys.length c] W fun r w' => ∃ cs t, r = .returned (.agg (List.toArray cs)) ∧ Hid (cs = (a16 t).toList ∧ L16 t ∧ s16 t 16 % PP = rtR (s16 f 16 % PP)) ∧ Hid (cs.length = 16) ∧ (Tryd.prog.info? 70).map (·.size) = some cs.length ∧ (∀ v ∈ cs, v.oneCell' = true) ∧ Below wr.heap.size wr w' ∧ Below W.heap.size W w') := by
    intro W ys a c g n o C
    have L : ys.length ≤ 4096 := by
      have := C.out.len (n := 64) (by decide)
      omega
    refine (PW0 W g a c ys o.rd C.out.1 L).mono ?_
    rintro r w' ⟨t, rfl, LT, VT, n'⟩
    have len : (a16 t).toList.length = 16 := by simp [ls16]
    refine ⟨(a16 t).toList, t, rfl, ⟨rfl, LT, ?_⟩, len, by rw [len]; exact i50, by intro v hv; exact oneCells _ _ v (by simpa using hv), nxt n n', n'⟩
    rw [VT, canon_toNat C.out]
    unfold rtR
    exact (powm _ _).symm
  have nd : Below wr.heap.size wr wr.drew := (Below.refl _ _).drew
  go_cut [4] (fun v wc => RAt wr (rtR (s16 f 16 % PP)) v wc)
  case first =>
    go_region_held3 (fun W => W.rangeAt w.heap.size 0 A.toList)
      (first | exact (unhide CE) _ nd | exact (unhide CE) _ (bB nd _) | exact (unhide CE) _ (bB (bB nd _) _) | exact (unhide CE) _ (bB (bB (bB nd _) _) _) | exact (unhide CE) _ ns | exact (unhide CE) _ (bB ns _) | exact (unhide CE) _ (bB (bB ns _) _) | exact (unhide CE) _ nk | exact (unhide CE) _ (bB nk _) | exact (unhide CE) _ nm | exact (unhide CE) _ (bB nm _) | exact (unhide CE) _ (below_setCells hq _ _ _ nm) | exact (unhide CE) _ (below_setCells nm.size _ _ _ (bB nm _)))
      (first
        | (go_at_call 88; refine ((unhide SH) _ _ (by first | exact bB nd _ | exact bB (bB nd _) _ | exact bB (bB (bB nd _) _) _) (by first | exact one_a _ _ | exact one_b _ _ _ | exact one_c _ _ _ | exact blk_al (one_b _ _ _) _ | exact blk_al (one_c _ _ _) _ | exact one_e _ _ _ _)).mono ?_; rintro r ws ⟨xs, aS, cS, gS, rfl, oS, CS, ns, ns'⟩;
            (try first
              | (have Z1 : ws.there wr.heap.size 0 16 := thup ns' (by first | exact thZ wr | exact th_al (thZ wr) _ | exact th_al (th_al (thZ wr) _) _); (have hq : wr.heap.size ≤ wr.heap.size := Nat.le_refl _))
              | (have Z1 : ws.there (wr.heap.size + 1) 0 16 := thup ns' (by first | exact thZ1 wr _ | exact th_al (thZ1 wr _) _); (have hq : wr.heap.size ≤ wr.heap.size + 1 := by omega))
              | (have Z1 : ws.there (wr.heap.size + 1 + 1) 0 16 := thup ns' (thZ2 wr _ _); (have hq : wr.heap.size ≤ wr.heap.size + 1 + 1 := by omega)));
            (try first
              | (have T1 : Blk ws wr.heap.size .u8 [2] := upb ns' (by first | exact one_a wr _ | exact one_b wr _ _ | exact blk_al (one_b wr _ _) _))
              | (have T1 : Blk ws (wr.heap.size + 1) .u8 [2] := upb ns' (by first | exact one_c wr _ _ | exact blk_al (one_c wr _ _) _))
              | (have T1 : Blk ws (wr.heap.size + 1 + 1) .u8 [2] := upb ns' (one_e wr _ _ _))))
        | (go_at_call 97; refine ((unhide SU) _ _ xs aS cS gS (by first | exact ns | exact bB ns _ | exact bB (bB ns _) _) (by first | exact oS | exact own_al oS _ | exact own_al (own_al oS _) _) CS (by first | exact T1 | exact blk_al T1 _ | exact one_a _ _ | exact one_b _ _ _ | exact one_c _ _ _)).mono ?_; rintro r wk ⟨ys, aK, cK, gK, rfl, oK, CK, nk, nk'⟩;
            (try first
              | (have Z2 := thup nk' Z1)
              | (have Z2 := thup nk' (th_al Z1 _))
              | (have Z2 : wk.there ws.heap.size 0 16 := thup nk' (by first | exact thZ ws | exact th_al (thZ ws) _); (have hq : wr.heap.size ≤ ws.heap.size := ns.size))
              | (have Z2 : wk.there (ws.heap.size + 1) 0 16 := thup nk' (thZ1 ws _); (have hq : wr.heap.size ≤ ws.heap.size + 1 := Nat.le_succ_of_le ns.size))))
        | (go_at_call 106; refine ((unhide PW) _ ys aK cK gK (by first | exact nk | exact bB nk _) (by first | exact oK | exact own_al oK _) CK).mono ?_; rintro r wm ⟨cs, t, rfl, HC, LC, IC, OC, nm, nm'⟩; (have lc : cs.length = 16 := LC.out);
            (try first
              | (have Z3 := thup nm' Z2)
              | (have Z3 : wm.there wk.heap.size 0 16 := thup nm' (thZ wk); (have hq : wr.heap.size ≤ wk.heap.size := nk.size))
              | (have Z4 := thZ wm; (have hq : wr.heap.size ≤ wm.heap.size := nm.size)))))
    all_goals
      go_wp2_with fail
      go_meet
      first
        | exact rAt nm Z3 hq HC.out
        | exact rAt (bB nm _) Z4 hq HC.out
  case rest =>
    obtain ⟨q, t, rfl, hq, RT, LT, VT, nc⟩ := hcut
    have RA1 := RA.up nc
    have RB1 := RB.up nc
    have N1 := nxt N nc
    have zA := RA.lt
    have zB := RB.lt
    have HVT := hide VT
    have iT : (Tryd.prog.info? 70).map (·.size) = some (a16 t).toList.length := by
      have : (a16 t).toList.length = 16 := by simp [ls16]
      rw [this]; exact i50
    have MU0 := fun W => l2Mul_any W t t LT LT
    have SM0 := fun W u (hu : L16 u) => l2Same_any W u f hu hf
    simp only [show ag16 f = .agg (a16 f) from rfl] at SM0
    simp only [show ag16 t = .agg (a16 t) from rfl] at MU0
    rw [← HA.out] at SM0
    obtain ⟨T, hT⟩ : ∃ T, T = a16 t := ⟨_, rfl⟩
    have HT := hide hT
    rw [← hT] at MU0 iT
    clear hT SH SU PW PW0 CE nd VT
    have CE : Hid (∀ W, Below wc.heap.size wc W → W.rangeAt q 0 T.toList ∧ W.rangeAt w.heap.size 0 A.toList) := fun W n => ⟨by rw [HT.out]; exact (RT.up n).1, by rw [HA.out]; exact (RA1.up n).1⟩
    have MU : Hid (∀ W, Below wc.heap.size wc W → Calls Tryd.prog 108 #[.agg T, .agg T] W fun r w' => ∃ U, r = .returned (.agg U) ∧ Hid (∃ u, U = a16 u ∧ L16 u ∧ s16 u 16 % PP = rtR (s16 f 16 % PP) * rtR (s16 f 16 % PP) % PP) ∧ Below wc.heap.size wc w') := by
      intro W n
      refine (MU0 W).mono ?_
      rintro r w' ⟨u, rfl, LU, VU, n'⟩
      refine ⟨_, rfl, ⟨u, rfl, LU, ?_⟩, nxt n n'⟩
      rw [VU, Int.mul_emod, HVT.out]
    have SM : Hid (∀ W U, Below wc.heap.size wc W → Hid (∃ u, U = a16 u ∧ L16 u ∧ s16 u 16 % PP = rtR (s16 f 16 % PP) * rtR (s16 f 16 % PP) % PP) → Calls Tryd.prog 107 #[.agg U, .agg A] W fun r w' => r = .returned (.bool (decide (rtR (s16 f 16 % PP) * rtR (s16 f 16 % PP) % PP = s16 f 16 % PP))) ∧ Below wc.heap.size wc w') := by
      rintro W U n ⟨u, rfl, LU, VU⟩
      refine (SM0 W u LU).mono ?_
      rintro r w' ⟨rfl, n'⟩
      exact ⟨by rw [VU], nxt n n'⟩
    have nd : Below wc.heap.size wc wc.drew := (Below.refl _ _).drew
    go_upto_region 2 with fail
    go_cut [16] (fun v wd => v = .bool (!decide (rtR (s16 f 16 % PP) * rtR (s16 f 16 % PP) % PP = s16 f 16 % PP)) ∧ Below wc.heap.size wc wd)
    case first =>
      refine wp_region_held_drew (S := fun W => W.rangeAt q 0 T.toList ∧ W.rangeAt w.heap.size 0 A.toList) (by kernel_rfl) ((unhide CE) _ nd) (fun hH => ?_)
      refine wpAnyH_take (i := 0) (v := .agg T.toList.toArray) rfl (by kernel_rfl) (by kernel_rfl) (by kernel_rfl) (fun _ _ _ h => h) (yieldsIf_load_mid (by rfl) 70 (.tmp 4) rfl q 0 rfl T.toList (.array 16 2) (fun W h => h.1) u50' rfl iT) hH ?_
      refine wpAnyH_take (i := 1) (v := .agg T.toList.toArray) rfl (by kernel_rfl) (by kernel_rfl) (by kernel_rfl) (fun _ _ _ h => h) (yieldsIf_load_mid (by rfl) 70 (.tmp 4) rfl q 0 rfl T.toList (.array 16 2) (fun W h => h.1) u50' rfl iT) hH ?_
      refine wpAnyH_take (i := 3) (v := .agg A.toList.toArray) rfl (by kernel_rfl) (by kernel_rfl) (by kernel_rfl) (fun _ _ _ h => h) (yieldsIf_load_mid (by rfl) 70 (.tmp 1) rfl w.heap.size 0 rfl A.toList (.array 16 2) (fun W h => h.2) u50' rfl iA) hH ?_
      refine wpAnyH_ready (rs := [2]) (by kernel_rfl) (by simp) ?_
      refine AllReadyH.cons rfl (fun K1 hK1 => ?_) AllReadyH.nil
      go_simp
      go_at_call 108
      refine ((unhide MU) _ nd).mono ?_
      rintro r w2 ⟨U, rfl, HU, n2⟩
      go_wp2_with fail
      refine hK1.out _ _ ((unhide CE) _ n2) (fun hH1 => ?_)
      clear hK1
      refine wpAnyH_ready (rs := [4]) (by kernel_rfl) (by simp) ?_
      refine AllReadyH.cons rfl (fun K2 hK2 => ?_) AllReadyH.nil
      go_simp
      go_at_call 107
      refine ((unhide SM) _ U n2 HU).mono ?_
      rintro r w3 ⟨rfl, n3⟩
      go_wp2_with fail
      refine hK2.out _ _ ((unhide CE) _ n3) (fun hH2 => ?_)
      clear hK2
      refine wpAnyH_ready (rs := [5]) (by kernel_rfl) (by simp) ?_
      refine AllReadyH.cons rfl (fun K3 hK3 => ?_) AllReadyH.nil
      go_simp
      refine hK3.out _ _ ((unhide CE) _ n3) (fun hH3 => ?_)
      clear hK3
      refine wpAnyH_done (by kernel_rfl) ?_ _
      clear MU SM CE hH hH1 hH2 hH3
      go_wp2_with fail
      go_meet
      exact ⟨rfl, n3⟩
    case rest =>
      obtain ⟨rfl, nc2⟩ := hcut
      have RT2 := RT.up nc2
      have RA2 := RA1.up nc2
      have RB2 := RB1.up nc2
      have N2 := nxt N1 nc2
      clear MU SM MU0 SM0 CE nd RT RA RA1 RB RB1 N N1 nc2
      have zq := RT2.lt
      have hq1 : w.heap.size + 1 < q := by omega
      have HQ1 := hide hq1
      go_upto_if 16 with fail
      go_cut [] (fun wd => ∃ t1, R16 wd q t1 ∧ L16 t1 ∧ Hid (s16 t1 16 % PP = r1S (s16 f 16 % PP)) ∧ R16 wd w.heap.size f ∧ R16 wd (w.heap.size + 1) (fun _ => 0) ∧ Below w.heap.size w wd)
      case first =>
        by_cases cc : rtR (s16 f 16 % PP) * rtR (s16 f 16 % PP) % PP = s16 f 16 % PP
        · have k1 : Hid (s16 t 16 % PP = r1S (s16 f 16 % PP)) := by show _ = _; rw [HVT.out, r1S, if_pos cc]
          rw [decide_eq_true cc]
          clear cc
          go_wp2_with fail
          go_meet
          exact ⟨t, RT2, LT, k1, RA2, RB2, N2⟩
        · have k1 : Hid (r1S (s16 f 16 % PP) = rtR (s16 f 16 % PP) * iM % PP) := by show _ = _; rw [r1S, if_neg cc]
          rw [decide_eq_false cc]
          clear cc
          have nd : Below wc.heap.size wc wc.drew := (Below.refl _ _).drew
          have CQ : Hid (∀ W, Below wc.heap.size wc W → W.rangeAt q 0 T.toList) := fun W n => by rw [HT.out]; exact (RT2.up n).1
          have SML : Hid (∀ W, Below wc.heap.size wc W → Calls Tryd.prog 109 #[.int .i64 2] W fun r w' => ∃ V, r = .returned (.agg V) ∧ Hid (∃ v, V = a16 v ∧ L16 v ∧ s16 v 16 % PP = 2 % PP) ∧ Below wc.heap.size wc w' ∧ Below W.heap.size W w') := by
            intro W n
            refine (l2Small_any W 2 (by omega)).mono ?_
            rintro r w' ⟨v, rfl, LV, VV, n'⟩
            exact ⟨_, rfl, ⟨v, rfl, LV, VV⟩, nxt n n', n'⟩
          have SH3 : Hid (∀ W b, Below wc.heap.size wc W → Blk W b .u8 [1] → Calls Tryd.prog 88 #[.slice (some ⟨b, 0, none⟩) 1 1, .int .i64 253] W fun r w' => ∃ xs a c g, r = .returned (.slice a xs.length c) ∧ Own w' g a .u8 xs ∧ Hid (Canon xs 14474011154664524427946373126085988481658748083205070504932198000989141204992) ∧ Below wc.heap.size wc w' ∧ Below W.heap.size W w') := by
            intro W b n B
            refine (l1Shift253_any W b _ 1 [1] B.own0.rd (byt_one (by omega) (by omega)) (by simp) (by simp)).mono ?_
            rintro r w' ⟨xs, C, ⟨a, c, g, rfl, o, _, _, _⟩, n'⟩
            have e1 : bval [1] = 1 := by decide
            rw [e1, Int.one_mul] at C
            exact ⟨xs, a, c, g, rfl, o, C, nxt n n', n'⟩
          have SU3 : Hid (∀ W b xs a c g, Below wc.heap.size wc W → Own W g a .u8 xs → Hid (Canon xs 14474011154664524427946373126085988481658748083205070504932198000989141204992) → Blk W b .u8 [5] → Calls Tryd.prog 97 #[.slice a xs.length c, .slice (some ⟨b, 0, none⟩) 1 1] W fun r w' => ∃ ys a c g, r = .returned (.slice a ys.length c) ∧ Own w' g a .u8 ys ∧ Hid (Canon ys (eI : Int)) ∧ Below wc.heap.size wc w' ∧ Below W.heap.size W w') := by
            intro W b xs a c g n o C B
            have L : xs.length ≤ 64 := C.out.len (by decide)
            have P1 : 1 ≤ xs.length := canon_one C.out (by decide)
            have e2 : bval [5] = 5 := by decide
            refine (l1Sub_any W g b a _ c 1 xs [5] o.rd B.own0.rd C.out.1 (byt_one (by omega) (by omega)) (by omega) (by simpa using P1) (by rw [C.out.2.1, e2]; decide)).mono ?_
            rintro r w' ⟨ys, D, ⟨a', c', g', rfl, o', _, _, _⟩, n'⟩
            rw [C.out.2.1, e2] at D
            exact ⟨ys, a', c', g', rfl, o', D, nxt n n', n'⟩
          have PW3 : Hid (∀ W V ys a c g, Below wc.heap.size wc W → Own W g a .u8 ys → Hid (Canon ys (eI : Int)) → Hid (∃ v, V = a16 v ∧ L16 v ∧ s16 v 16 % PP = 2 % PP) → Calls Tryd.prog 106 #[.agg V, .slice a ys.length c] W fun r w' => ∃ X, r = .returned (.agg X) ∧ Hid (∃ x, X = a16 x ∧ L16 x ∧ s16 x 16 % PP = iM) ∧ Below wc.heap.size wc w') := by
            rintro W V ys a c g n o C ⟨v, rfl, LV, VV⟩
            have L : ys.length ≤ 4096 := by
              have := C.out.len (n := 64) (by decide)
              omega
            refine (l2Power_any W v g a c ys LV o.rd C.out.1 L).mono ?_
            rintro r w' ⟨x, rfl, LX, VX, n'⟩
            refine ⟨_, rfl, ⟨x, rfl, LX, ?_⟩, nxt n n'⟩
            rw [VX, canon_toNat C.out, ← powm, VV, powm, two_pow_i]
          have MU3 : Hid (∀ W X, Below wc.heap.size wc W → Hid (∃ x, X = a16 x ∧ L16 x ∧ s16 x 16 % PP = iM) → Calls Tryd.prog 108 #[.agg T, .agg X] W fun r w' => ∃ cs t1, r = .returned (.agg (List.toArray cs)) ∧ Hid (cs = (a16 t1).toList ∧ L16 t1 ∧ s16 t1 16 % PP = r1S (s16 f 16 % PP)) ∧ Hid (cs.length = 16) ∧ (Tryd.prog.info? 70).map (·.size) = some cs.length ∧ (∀ v ∈ cs, v.oneCell' = true) ∧ Below wc.heap.size wc w') := by
            rintro W X n ⟨x, rfl, LX, VX⟩
            rw [HT.out]
            refine (l2Mul_any W t x LT LX).mono ?_
            rintro r w' ⟨t1, rfl, LU, VU, n'⟩
            have len : (a16 t1).toList.length = 16 := by simp [ls16]
            refine ⟨(a16 t1).toList, t1, rfl, ⟨rfl, LU, ?_⟩, len, by rw [len]; exact i50, by intro v hv; exact oneCells _ _ v (by simpa using hv), nxt n n'⟩
            rw [VU, k1.out, Int.mul_emod, HVT.out, VX]
          have th : ∀ W, Below wc.heap.size wc W → W.there q 0 16 := fun W n => (RT2.up n).2
          have TH := hide th
          clear th
          go_upto_region 3 with fail
          refine region_K (S := fun W => W.rangeAt q 0 T.toList) (k := 7) (by kernel_rfl) ?_
          refine anyK_take (i := 0) (v := .agg T.toList.toArray) rfl rfl (by kernel_rfl) (by decide) (by kernel_rfl) (fun _ _ _ h => h) (by kernel_rfl) (by kernel_rfl) (by kernel_rfl) (yieldsIf_load_mid (by rfl) 70 (.tmp 4) rfl q 0 rfl T.toList (.array 16 2) (fun W h => h) u50' rfl iT) ((unhide CQ) _ nd) ?_
          all_goals
            first
              | refine anyK_ready (rs := [1, 2, 4]) (by decide +kernel) (by simp) ?_
              | refine anyK_ready (rs := [1, 2]) (by decide +kernel) (by simp) ?_
              | refine anyK_ready (rs := [1, 4]) (by decide +kernel) (by simp) ?_
              | refine anyK_ready (rs := [1]) (by decide +kernel) (by simp) ?_
              | refine anyK_ready (rs := [2, 4]) (by decide +kernel) (by simp) ?_
              | refine anyK_ready (rs := [2]) (by decide +kernel) (by simp) ?_
              | refine anyK_ready (rs := [3, 4]) (by decide +kernel) (by simp) ?_
              | refine anyK_ready (rs := [3]) (by decide +kernel) (by simp) ?_
              | refine anyK_ready (rs := [4]) (by decide +kernel) (by simp) ?_
              | refine anyK_ready (rs := [5]) (by decide +kernel) (by simp) ?_
              | refine anyK_ready (rs := [6]) (by decide +kernel) (by simp) ?_
              | refine anyK_ready (rs := [7]) (by decide +kernel) (by simp) ?_
            repeat' (first | exact AllK.nil | refine AllK.cons rfl (fun K hK => ?_) ?_)
          all_goals go_simp
          all_goals
            first
              | (go_at_call 109; refine ((unhide SML) _ (by first | exact nd | exact bB nd _ | exact bB (bB nd _) _)).mono ?_; rintro r ws ⟨V, rfl, HV, ns, ns'⟩;
                  (try first
                    | (have O1 : Blk ws wc.heap.size .u8 [1] := upb ns' (by first | exact one_a wc _ | exact one_b wc _ _))
                    | (have O1 : Blk ws (wc.heap.size + 1) .u8 [1] := upb ns' (one_c wc _ _)));
                  (try first
                    | (have F1 : Blk ws wc.heap.size .u8 [5] := upb ns' (by first | exact one_a wc _ | exact one_b wc _ _))
                    | (have F1 : Blk ws (wc.heap.size + 1) .u8 [5] := upb ns' (one_c wc _ _)));
                  go_wp2_with fail; refine hK.out _ _ (fun _ => (unhide CQ) _ ns) ?_)
              | (go_at_call 88; refine ((unhide SH3) _ _ (by first | exact ns | exact bB ns _ | exact bB (bB ns _) _) (by first | exact O1 | exact blk_al O1 _ | exact one_a _ _ | exact one_b _ _ _ | exact one_c _ _ _)).mono ?_; rintro r wk ⟨xs, aS, cS, gS, rfl, oS, CS, nk, nk'⟩;
                  (try first
                    | (have F2 := upb nk' F1)
                    | (have F2 := upb nk' (blk_al F1 _))
                    | (have F2 : Blk wk ws.heap.size .u8 [5] := upb nk' (by first | exact one_a ws _ | exact one_b ws _ _))
                    | (have F2 : Blk wk (ws.heap.size + 1) .u8 [5] := upb nk' (one_c ws _ _)));
                  go_wp2_with fail; refine hK.out _ _ (fun _ => (unhide CQ) _ nk) ?_)
              | (go_at_call 97; refine ((unhide SU3) _ _ xs aS cS gS (by first | exact nk | exact bB nk _) (by first | exact oS | exact own_al oS _) CS (by first | exact F2 | exact one_a _ _)).mono ?_; rintro r wj ⟨ys, aK, cK, gK, rfl, oK, CK, nj, nj'⟩; go_wp2_with fail; refine hK.out _ _ (fun _ => (unhide CQ) _ nj) ?_)
              | (go_at_call 106; refine ((unhide PW3) _ V ys aK cK gK nj oK CK HV).mono ?_; rintro r wl ⟨X, rfl, HX, nl⟩; go_wp2_with fail; refine hK.out _ _ (fun _ => (unhide CQ) _ nl) ?_)
              | (go_at_call 108; refine ((unhide MU3) _ X nl HX).mono ?_; rintro r wm ⟨cs, t1, rfl, HC, lc, IC, OC, nm⟩; go_wp2_with fail; refine hK.out _ _ (fun _ => (unhide CQ) _ nm) ?_)
              | (refine hK.out _ _ (fun _ => (unhide CQ) _ (by first | exact bB nd _ | exact bB (bB nd _) _ | exact bB ns _ | exact bB (bB ns _) _ | exact bB nk _)) ?_)
          all_goals clear hK
          all_goals
            first
              | refine anyK_ready (rs := [1, 2, 4]) (by decide +kernel) (by simp) ?_
              | refine anyK_ready (rs := [1, 2]) (by decide +kernel) (by simp) ?_
              | refine anyK_ready (rs := [1, 4]) (by decide +kernel) (by simp) ?_
              | refine anyK_ready (rs := [1]) (by decide +kernel) (by simp) ?_
              | refine anyK_ready (rs := [2, 4]) (by decide +kernel) (by simp) ?_
              | refine anyK_ready (rs := [2]) (by decide +kernel) (by simp) ?_
              | refine anyK_ready (rs := [3, 4]) (by decide +kernel) (by simp) ?_
              | refine anyK_ready (rs := [3]) (by decide +kernel) (by simp) ?_
              | refine anyK_ready (rs := [4]) (by decide +kernel) (by simp) ?_
              | refine anyK_ready (rs := [5]) (by decide +kernel) (by simp) ?_
              | refine anyK_ready (rs := [6]) (by decide +kernel) (by simp) ?_
              | refine anyK_ready (rs := [7]) (by decide +kernel) (by simp) ?_
            repeat' (first | exact AllK.nil | refine AllK.cons rfl (fun K hK => ?_) ?_)
          all_goals go_simp
          all_goals
            first
              | (go_at_call 109; refine ((unhide SML) _ (by first | exact nd | exact bB nd _ | exact bB (bB nd _) _)).mono ?_; rintro r ws ⟨V, rfl, HV, ns, ns'⟩;
                  (try first
                    | (have O1 : Blk ws wc.heap.size .u8 [1] := upb ns' (by first | exact one_a wc _ | exact one_b wc _ _))
                    | (have O1 : Blk ws (wc.heap.size + 1) .u8 [1] := upb ns' (one_c wc _ _)));
                  (try first
                    | (have F1 : Blk ws wc.heap.size .u8 [5] := upb ns' (by first | exact one_a wc _ | exact one_b wc _ _))
                    | (have F1 : Blk ws (wc.heap.size + 1) .u8 [5] := upb ns' (one_c wc _ _)));
                  go_wp2_with fail; refine hK.out _ _ (fun _ => (unhide CQ) _ ns) ?_)
              | (go_at_call 88; refine ((unhide SH3) _ _ (by first | exact ns | exact bB ns _ | exact bB (bB ns _) _) (by first | exact O1 | exact blk_al O1 _ | exact one_a _ _ | exact one_b _ _ _ | exact one_c _ _ _)).mono ?_; rintro r wk ⟨xs, aS, cS, gS, rfl, oS, CS, nk, nk'⟩;
                  (try first
                    | (have F2 := upb nk' F1)
                    | (have F2 := upb nk' (blk_al F1 _))
                    | (have F2 : Blk wk ws.heap.size .u8 [5] := upb nk' (by first | exact one_a ws _ | exact one_b ws _ _))
                    | (have F2 : Blk wk (ws.heap.size + 1) .u8 [5] := upb nk' (one_c ws _ _)));
                  go_wp2_with fail; refine hK.out _ _ (fun _ => (unhide CQ) _ nk) ?_)
              | (go_at_call 97; refine ((unhide SU3) _ _ xs aS cS gS (by first | exact nk | exact bB nk _) (by first | exact oS | exact own_al oS _) CS (by first | exact F2 | exact one_a _ _)).mono ?_; rintro r wj ⟨ys, aK, cK, gK, rfl, oK, CK, nj, nj'⟩; go_wp2_with fail; refine hK.out _ _ (fun _ => (unhide CQ) _ nj) ?_)
              | (go_at_call 106; refine ((unhide PW3) _ V ys aK cK gK nj oK CK HV).mono ?_; rintro r wl ⟨X, rfl, HX, nl⟩; go_wp2_with fail; refine hK.out _ _ (fun _ => (unhide CQ) _ nl) ?_)
              | (go_at_call 108; refine ((unhide MU3) _ X nl HX).mono ?_; rintro r wm ⟨cs, t1, rfl, HC, lc, IC, OC, nm⟩; go_wp2_with fail; refine hK.out _ _ (fun _ => (unhide CQ) _ nm) ?_)
              | (refine hK.out _ _ (fun _ => (unhide CQ) _ (by first | exact bB nd _ | exact bB (bB nd _) _ | exact bB ns _ | exact bB (bB ns _) _ | exact bB nk _)) ?_)
          all_goals clear hK
          all_goals
            first
              | refine anyK_ready (rs := [1, 2, 4]) (by decide +kernel) (by simp) ?_
              | refine anyK_ready (rs := [1, 2]) (by decide +kernel) (by simp) ?_
              | refine anyK_ready (rs := [1, 4]) (by decide +kernel) (by simp) ?_
              | refine anyK_ready (rs := [1]) (by decide +kernel) (by simp) ?_
              | refine anyK_ready (rs := [2, 4]) (by decide +kernel) (by simp) ?_
              | refine anyK_ready (rs := [2]) (by decide +kernel) (by simp) ?_
              | refine anyK_ready (rs := [3, 4]) (by decide +kernel) (by simp) ?_
              | refine anyK_ready (rs := [3]) (by decide +kernel) (by simp) ?_
              | refine anyK_ready (rs := [4]) (by decide +kernel) (by simp) ?_
              | refine anyK_ready (rs := [5]) (by decide +kernel) (by simp) ?_
              | refine anyK_ready (rs := [6]) (by decide +kernel) (by simp) ?_
              | refine anyK_ready (rs := [7]) (by decide +kernel) (by simp) ?_
            repeat' (first | exact AllK.nil | refine AllK.cons rfl (fun K hK => ?_) ?_)
          all_goals go_simp
          all_goals
            first
              | (go_at_call 109; refine ((unhide SML) _ (by first | exact nd | exact bB nd _ | exact bB (bB nd _) _)).mono ?_; rintro r ws ⟨V, rfl, HV, ns, ns'⟩;
                  (try first
                    | (have O1 : Blk ws wc.heap.size .u8 [1] := upb ns' (by first | exact one_a wc _ | exact one_b wc _ _))
                    | (have O1 : Blk ws (wc.heap.size + 1) .u8 [1] := upb ns' (one_c wc _ _)));
                  (try first
                    | (have F1 : Blk ws wc.heap.size .u8 [5] := upb ns' (by first | exact one_a wc _ | exact one_b wc _ _))
                    | (have F1 : Blk ws (wc.heap.size + 1) .u8 [5] := upb ns' (one_c wc _ _)));
                  go_wp2_with fail; refine hK.out _ _ (fun _ => (unhide CQ) _ ns) ?_)
              | (go_at_call 88; refine ((unhide SH3) _ _ (by first | exact ns | exact bB ns _ | exact bB (bB ns _) _) (by first | exact O1 | exact blk_al O1 _ | exact one_a _ _ | exact one_b _ _ _ | exact one_c _ _ _)).mono ?_; rintro r wk ⟨xs, aS, cS, gS, rfl, oS, CS, nk, nk'⟩;
                  (try first
                    | (have F2 := upb nk' F1)
                    | (have F2 := upb nk' (blk_al F1 _))
                    | (have F2 : Blk wk ws.heap.size .u8 [5] := upb nk' (by first | exact one_a ws _ | exact one_b ws _ _))
                    | (have F2 : Blk wk (ws.heap.size + 1) .u8 [5] := upb nk' (one_c ws _ _)));
                  go_wp2_with fail; refine hK.out _ _ (fun _ => (unhide CQ) _ nk) ?_)
              | (go_at_call 97; refine ((unhide SU3) _ _ xs aS cS gS (by first | exact nk | exact bB nk _) (by first | exact oS | exact own_al oS _) CS (by first | exact F2 | exact one_a _ _)).mono ?_; rintro r wj ⟨ys, aK, cK, gK, rfl, oK, CK, nj, nj'⟩; go_wp2_with fail; refine hK.out _ _ (fun _ => (unhide CQ) _ nj) ?_)
              | (go_at_call 106; refine ((unhide PW3) _ V ys aK cK gK nj oK CK HV).mono ?_; rintro r wl ⟨X, rfl, HX, nl⟩; go_wp2_with fail; refine hK.out _ _ (fun _ => (unhide CQ) _ nl) ?_)
              | (go_at_call 108; refine ((unhide MU3) _ X nl HX).mono ?_; rintro r wm ⟨cs, t1, rfl, HC, lc, IC, OC, nm⟩; go_wp2_with fail; refine hK.out _ _ (fun _ => (unhide CQ) _ nm) ?_)
              | (refine hK.out _ _ (fun _ => (unhide CQ) _ (by first | exact bB nd _ | exact bB (bB nd _) _ | exact bB ns _ | exact bB (bB ns _) _ | exact bB nk _)) ?_)
          all_goals clear hK
          all_goals
            first
              | refine anyK_ready (rs := [1, 2, 4]) (by decide +kernel) (by simp) ?_
              | refine anyK_ready (rs := [1, 2]) (by decide +kernel) (by simp) ?_
              | refine anyK_ready (rs := [1, 4]) (by decide +kernel) (by simp) ?_
              | refine anyK_ready (rs := [1]) (by decide +kernel) (by simp) ?_
              | refine anyK_ready (rs := [2, 4]) (by decide +kernel) (by simp) ?_
              | refine anyK_ready (rs := [2]) (by decide +kernel) (by simp) ?_
              | refine anyK_ready (rs := [3, 4]) (by decide +kernel) (by simp) ?_
              | refine anyK_ready (rs := [3]) (by decide +kernel) (by simp) ?_
              | refine anyK_ready (rs := [4]) (by decide +kernel) (by simp) ?_
              | refine anyK_ready (rs := [5]) (by decide +kernel) (by simp) ?_
              | refine anyK_ready (rs := [6]) (by decide +kernel) (by simp) ?_
              | refine anyK_ready (rs := [7]) (by decide +kernel) (by simp) ?_
            repeat' (first | exact AllK.nil | refine AllK.cons rfl (fun K hK => ?_) ?_)
          all_goals go_simp
          all_goals
            first
              | (go_at_call 109; refine ((unhide SML) _ (by first | exact nd | exact bB nd _ | exact bB (bB nd _) _)).mono ?_; rintro r ws ⟨V, rfl, HV, ns, ns'⟩;
                  (try first
                    | (have O1 : Blk ws wc.heap.size .u8 [1] := upb ns' (by first | exact one_a wc _ | exact one_b wc _ _))
                    | (have O1 : Blk ws (wc.heap.size + 1) .u8 [1] := upb ns' (one_c wc _ _)));
                  (try first
                    | (have F1 : Blk ws wc.heap.size .u8 [5] := upb ns' (by first | exact one_a wc _ | exact one_b wc _ _))
                    | (have F1 : Blk ws (wc.heap.size + 1) .u8 [5] := upb ns' (one_c wc _ _)));
                  go_wp2_with fail; refine hK.out _ _ (fun _ => (unhide CQ) _ ns) ?_)
              | (go_at_call 88; refine ((unhide SH3) _ _ (by first | exact ns | exact bB ns _ | exact bB (bB ns _) _) (by first | exact O1 | exact blk_al O1 _ | exact one_a _ _ | exact one_b _ _ _ | exact one_c _ _ _)).mono ?_; rintro r wk ⟨xs, aS, cS, gS, rfl, oS, CS, nk, nk'⟩;
                  (try first
                    | (have F2 := upb nk' F1)
                    | (have F2 := upb nk' (blk_al F1 _))
                    | (have F2 : Blk wk ws.heap.size .u8 [5] := upb nk' (by first | exact one_a ws _ | exact one_b ws _ _))
                    | (have F2 : Blk wk (ws.heap.size + 1) .u8 [5] := upb nk' (one_c ws _ _)));
                  go_wp2_with fail; refine hK.out _ _ (fun _ => (unhide CQ) _ nk) ?_)
              | (go_at_call 97; refine ((unhide SU3) _ _ xs aS cS gS (by first | exact nk | exact bB nk _) (by first | exact oS | exact own_al oS _) CS (by first | exact F2 | exact one_a _ _)).mono ?_; rintro r wj ⟨ys, aK, cK, gK, rfl, oK, CK, nj, nj'⟩; go_wp2_with fail; refine hK.out _ _ (fun _ => (unhide CQ) _ nj) ?_)
              | (go_at_call 106; refine ((unhide PW3) _ V ys aK cK gK nj oK CK HV).mono ?_; rintro r wl ⟨X, rfl, HX, nl⟩; go_wp2_with fail; refine hK.out _ _ (fun _ => (unhide CQ) _ nl) ?_)
              | (go_at_call 108; refine ((unhide MU3) _ X nl HX).mono ?_; rintro r wm ⟨cs, t1, rfl, HC, lc, IC, OC, nm⟩; go_wp2_with fail; refine hK.out _ _ (fun _ => (unhide CQ) _ nm) ?_)
              | (refine hK.out _ _ (fun _ => (unhide CQ) _ (by first | exact bB nd _ | exact bB (bB nd _) _ | exact bB ns _ | exact bB (bB ns _) _ | exact bB nk _)) ?_)
          all_goals clear hK
          all_goals
            first
              | refine anyK_ready (rs := [1, 2, 4]) (by decide +kernel) (by simp) ?_
              | refine anyK_ready (rs := [1, 2]) (by decide +kernel) (by simp) ?_
              | refine anyK_ready (rs := [1, 4]) (by decide +kernel) (by simp) ?_
              | refine anyK_ready (rs := [1]) (by decide +kernel) (by simp) ?_
              | refine anyK_ready (rs := [2, 4]) (by decide +kernel) (by simp) ?_
              | refine anyK_ready (rs := [2]) (by decide +kernel) (by simp) ?_
              | refine anyK_ready (rs := [3, 4]) (by decide +kernel) (by simp) ?_
              | refine anyK_ready (rs := [3]) (by decide +kernel) (by simp) ?_
              | refine anyK_ready (rs := [4]) (by decide +kernel) (by simp) ?_
              | refine anyK_ready (rs := [5]) (by decide +kernel) (by simp) ?_
              | refine anyK_ready (rs := [6]) (by decide +kernel) (by simp) ?_
              | refine anyK_ready (rs := [7]) (by decide +kernel) (by simp) ?_
            repeat' (first | exact AllK.nil | refine AllK.cons rfl (fun K hK => ?_) ?_)
          all_goals go_simp
          all_goals
            first
              | (go_at_call 109; refine ((unhide SML) _ (by first | exact nd | exact bB nd _ | exact bB (bB nd _) _)).mono ?_; rintro r ws ⟨V, rfl, HV, ns, ns'⟩;
                  (try first
                    | (have O1 : Blk ws wc.heap.size .u8 [1] := upb ns' (by first | exact one_a wc _ | exact one_b wc _ _))
                    | (have O1 : Blk ws (wc.heap.size + 1) .u8 [1] := upb ns' (one_c wc _ _)));
                  (try first
                    | (have F1 : Blk ws wc.heap.size .u8 [5] := upb ns' (by first | exact one_a wc _ | exact one_b wc _ _))
                    | (have F1 : Blk ws (wc.heap.size + 1) .u8 [5] := upb ns' (one_c wc _ _)));
                  go_wp2_with fail; refine hK.out _ _ (fun _ => (unhide CQ) _ ns) ?_)
              | (go_at_call 88; refine ((unhide SH3) _ _ (by first | exact ns | exact bB ns _ | exact bB (bB ns _) _) (by first | exact O1 | exact blk_al O1 _ | exact one_a _ _ | exact one_b _ _ _ | exact one_c _ _ _)).mono ?_; rintro r wk ⟨xs, aS, cS, gS, rfl, oS, CS, nk, nk'⟩;
                  (try first
                    | (have F2 := upb nk' F1)
                    | (have F2 := upb nk' (blk_al F1 _))
                    | (have F2 : Blk wk ws.heap.size .u8 [5] := upb nk' (by first | exact one_a ws _ | exact one_b ws _ _))
                    | (have F2 : Blk wk (ws.heap.size + 1) .u8 [5] := upb nk' (one_c ws _ _)));
                  go_wp2_with fail; refine hK.out _ _ (fun _ => (unhide CQ) _ nk) ?_)
              | (go_at_call 97; refine ((unhide SU3) _ _ xs aS cS gS (by first | exact nk | exact bB nk _) (by first | exact oS | exact own_al oS _) CS (by first | exact F2 | exact one_a _ _)).mono ?_; rintro r wj ⟨ys, aK, cK, gK, rfl, oK, CK, nj, nj'⟩; go_wp2_with fail; refine hK.out _ _ (fun _ => (unhide CQ) _ nj) ?_)
              | (go_at_call 106; refine ((unhide PW3) _ V ys aK cK gK nj oK CK HV).mono ?_; rintro r wl ⟨X, rfl, HX, nl⟩; go_wp2_with fail; refine hK.out _ _ (fun _ => (unhide CQ) _ nl) ?_)
              | (go_at_call 108; refine ((unhide MU3) _ X nl HX).mono ?_; rintro r wm ⟨cs, t1, rfl, HC, lc, IC, OC, nm⟩; go_wp2_with fail; refine hK.out _ _ (fun _ => (unhide CQ) _ nm) ?_)
              | (refine hK.out _ _ (fun _ => (unhide CQ) _ (by first | exact bB nd _ | exact bB (bB nd _) _ | exact bB ns _ | exact bB (bB ns _) _ | exact bB nk _)) ?_)
          all_goals clear hK
          all_goals
            first
              | refine anyK_ready (rs := [1, 2, 4]) (by decide +kernel) (by simp) ?_
              | refine anyK_ready (rs := [1, 2]) (by decide +kernel) (by simp) ?_
              | refine anyK_ready (rs := [1, 4]) (by decide +kernel) (by simp) ?_
              | refine anyK_ready (rs := [1]) (by decide +kernel) (by simp) ?_
              | refine anyK_ready (rs := [2, 4]) (by decide +kernel) (by simp) ?_
              | refine anyK_ready (rs := [2]) (by decide +kernel) (by simp) ?_
              | refine anyK_ready (rs := [3, 4]) (by decide +kernel) (by simp) ?_
              | refine anyK_ready (rs := [3]) (by decide +kernel) (by simp) ?_
              | refine anyK_ready (rs := [4]) (by decide +kernel) (by simp) ?_
              | refine anyK_ready (rs := [5]) (by decide +kernel) (by simp) ?_
              | refine anyK_ready (rs := [6]) (by decide +kernel) (by simp) ?_
              | refine anyK_ready (rs := [7]) (by decide +kernel) (by simp) ?_
            repeat' (first | exact AllK.nil | refine AllK.cons rfl (fun K hK => ?_) ?_)
          all_goals go_simp
          all_goals
            first
              | (go_at_call 109; refine ((unhide SML) _ (by first | exact nd | exact bB nd _ | exact bB (bB nd _) _)).mono ?_; rintro r ws ⟨V, rfl, HV, ns, ns'⟩;
                  (try first
                    | (have O1 : Blk ws wc.heap.size .u8 [1] := upb ns' (by first | exact one_a wc _ | exact one_b wc _ _))
                    | (have O1 : Blk ws (wc.heap.size + 1) .u8 [1] := upb ns' (one_c wc _ _)));
                  (try first
                    | (have F1 : Blk ws wc.heap.size .u8 [5] := upb ns' (by first | exact one_a wc _ | exact one_b wc _ _))
                    | (have F1 : Blk ws (wc.heap.size + 1) .u8 [5] := upb ns' (one_c wc _ _)));
                  go_wp2_with fail; refine hK.out _ _ (fun _ => (unhide CQ) _ ns) ?_)
              | (go_at_call 88; refine ((unhide SH3) _ _ (by first | exact ns | exact bB ns _ | exact bB (bB ns _) _) (by first | exact O1 | exact blk_al O1 _ | exact one_a _ _ | exact one_b _ _ _ | exact one_c _ _ _)).mono ?_; rintro r wk ⟨xs, aS, cS, gS, rfl, oS, CS, nk, nk'⟩;
                  (try first
                    | (have F2 := upb nk' F1)
                    | (have F2 := upb nk' (blk_al F1 _))
                    | (have F2 : Blk wk ws.heap.size .u8 [5] := upb nk' (by first | exact one_a ws _ | exact one_b ws _ _))
                    | (have F2 : Blk wk (ws.heap.size + 1) .u8 [5] := upb nk' (one_c ws _ _)));
                  go_wp2_with fail; refine hK.out _ _ (fun _ => (unhide CQ) _ nk) ?_)
              | (go_at_call 97; refine ((unhide SU3) _ _ xs aS cS gS (by first | exact nk | exact bB nk _) (by first | exact oS | exact own_al oS _) CS (by first | exact F2 | exact one_a _ _)).mono ?_; rintro r wj ⟨ys, aK, cK, gK, rfl, oK, CK, nj, nj'⟩; go_wp2_with fail; refine hK.out _ _ (fun _ => (unhide CQ) _ nj) ?_)
              | (go_at_call 106; refine ((unhide PW3) _ V ys aK cK gK nj oK CK HV).mono ?_; rintro r wl ⟨X, rfl, HX, nl⟩; go_wp2_with fail; refine hK.out _ _ (fun _ => (unhide CQ) _ nl) ?_)
              | (go_at_call 108; refine ((unhide MU3) _ X nl HX).mono ?_; rintro r wm ⟨cs, t1, rfl, HC, lc, IC, OC, nm⟩; go_wp2_with fail; refine hK.out _ _ (fun _ => (unhide CQ) _ nm) ?_)
              | (refine hK.out _ _ (fun _ => (unhide CQ) _ (by first | exact bB nd _ | exact bB (bB nd _) _ | exact bB ns _ | exact bB (bB ns _) _ | exact bB nk _)) ?_)
          all_goals clear hK
          all_goals
            first
              | refine anyK_ready (rs := [1, 2, 4]) (by decide +kernel) (by simp) ?_
              | refine anyK_ready (rs := [1, 2]) (by decide +kernel) (by simp) ?_
              | refine anyK_ready (rs := [1, 4]) (by decide +kernel) (by simp) ?_
              | refine anyK_ready (rs := [1]) (by decide +kernel) (by simp) ?_
              | refine anyK_ready (rs := [2, 4]) (by decide +kernel) (by simp) ?_
              | refine anyK_ready (rs := [2]) (by decide +kernel) (by simp) ?_
              | refine anyK_ready (rs := [3, 4]) (by decide +kernel) (by simp) ?_
              | refine anyK_ready (rs := [3]) (by decide +kernel) (by simp) ?_
              | refine anyK_ready (rs := [4]) (by decide +kernel) (by simp) ?_
              | refine anyK_ready (rs := [5]) (by decide +kernel) (by simp) ?_
              | refine anyK_ready (rs := [6]) (by decide +kernel) (by simp) ?_
              | refine anyK_ready (rs := [7]) (by decide +kernel) (by simp) ?_
            repeat' (first | exact AllK.nil | refine AllK.cons rfl (fun K hK => ?_) ?_)
          all_goals go_simp
          all_goals
            first
              | (go_at_call 109; refine ((unhide SML) _ (by first | exact nd | exact bB nd _ | exact bB (bB nd _) _)).mono ?_; rintro r ws ⟨V, rfl, HV, ns, ns'⟩;
                  (try first
                    | (have O1 : Blk ws wc.heap.size .u8 [1] := upb ns' (by first | exact one_a wc _ | exact one_b wc _ _))
                    | (have O1 : Blk ws (wc.heap.size + 1) .u8 [1] := upb ns' (one_c wc _ _)));
                  (try first
                    | (have F1 : Blk ws wc.heap.size .u8 [5] := upb ns' (by first | exact one_a wc _ | exact one_b wc _ _))
                    | (have F1 : Blk ws (wc.heap.size + 1) .u8 [5] := upb ns' (one_c wc _ _)));
                  go_wp2_with fail; refine hK.out _ _ (fun _ => (unhide CQ) _ ns) ?_)
              | (go_at_call 88; refine ((unhide SH3) _ _ (by first | exact ns | exact bB ns _ | exact bB (bB ns _) _) (by first | exact O1 | exact blk_al O1 _ | exact one_a _ _ | exact one_b _ _ _ | exact one_c _ _ _)).mono ?_; rintro r wk ⟨xs, aS, cS, gS, rfl, oS, CS, nk, nk'⟩;
                  (try first
                    | (have F2 := upb nk' F1)
                    | (have F2 := upb nk' (blk_al F1 _))
                    | (have F2 : Blk wk ws.heap.size .u8 [5] := upb nk' (by first | exact one_a ws _ | exact one_b ws _ _))
                    | (have F2 : Blk wk (ws.heap.size + 1) .u8 [5] := upb nk' (one_c ws _ _)));
                  go_wp2_with fail; refine hK.out _ _ (fun _ => (unhide CQ) _ nk) ?_)
              | (go_at_call 97; refine ((unhide SU3) _ _ xs aS cS gS (by first | exact nk | exact bB nk _) (by first | exact oS | exact own_al oS _) CS (by first | exact F2 | exact one_a _ _)).mono ?_; rintro r wj ⟨ys, aK, cK, gK, rfl, oK, CK, nj, nj'⟩; go_wp2_with fail; refine hK.out _ _ (fun _ => (unhide CQ) _ nj) ?_)
              | (go_at_call 106; refine ((unhide PW3) _ V ys aK cK gK nj oK CK HV).mono ?_; rintro r wl ⟨X, rfl, HX, nl⟩; go_wp2_with fail; refine hK.out _ _ (fun _ => (unhide CQ) _ nl) ?_)
              | (go_at_call 108; refine ((unhide MU3) _ X nl HX).mono ?_; rintro r wm ⟨cs, t1, rfl, HC, lc, IC, OC, nm⟩; go_wp2_with fail; refine hK.out _ _ (fun _ => (unhide CQ) _ nm) ?_)
              | (refine hK.out _ _ (fun _ => (unhide CQ) _ (by first | exact bB nd _ | exact bB (bB nd _) _ | exact bB ns _ | exact bB (bB ns _) _ | exact bB nk _)) ?_)
          all_goals clear hK
          all_goals
            refine anyK_ready (rs := [8]) (by decide +kernel) (by simp) ?_
            refine AllK.cons rfl (fun K hK => ?_) AllK.nil
            rw [if_pos (by rfl)]
            refine wp_store_mid 70 (.tmp 4) (.tmp 24) rfl q 0 (List.toArray cs) rfl rfl (by rw [List.size_toArray, lc.out]; exact TH.out wm nm) (by rw [List.size_toArray]; exact IC) (all_oneCell_toArray OC) ?_
            refine hK.out _ _ (fun h => by cases h) ?_
            refine anyK_done (by kernel_rfl) ?_ _
            have S1 : R16 (wm.setCells q 0 cs) q t1 := by rw [HC.out.1]; exact R16.set t1 (TH.out wm nm)
            have S2 := (RA2.up nm).keep cs (q := q) (by have := HQ1.out; omega)
            have S3 := (RB2.up nm).keep cs (q := q) (by have := HQ1.out; omega)
            have S4 : Below w.heap.size w (wm.setCells q 0 cs) := below_setCells (by have := HQ1.out; omega) _ _ _ (nxt N2 nm)
            clear CQ SML SH3 SU3 PW3 MU3 hK
            go_wp2_with fail
            go_meet
            exact ⟨t1, S1, HC.out.2.1, HC.out.2.2, S2, S3, S4⟩
      case rest =>
        obtain ⟨t1, RT, LT1, V1, RA, RB, N3⟩ := hcut
        clear RT2 RA2 RB2 N2 HT iT
        have iT : (Tryd.prog.info? 70).map (·.size) = some (a16 t1).toList.length := by
          have : (a16 t1).toList.length = 16 := by simp [ls16]
          rw [this]; exact i50
        have MU0 := fun W => l2Mul_any W t1 t1 LT1 LT1
        have SM0 := fun W u (hu : L16 u) => l2Same_any W u f hu hf
        simp only [show ag16 f = .agg (a16 f) from rfl] at SM0
        simp only [show ag16 t1 = .agg (a16 t1) from rfl] at MU0
        rw [← HA.out] at SM0
        obtain ⟨T1, hT⟩ : ∃ T, T = a16 t1 := ⟨_, rfl⟩
        have HT := hide hT
        rw [← hT] at MU0 iT
        clear hT
        have CE : Hid (∀ W, Below wc.heap.size wc W → W.rangeAt q 0 T1.toList ∧ W.rangeAt w.heap.size 0 A.toList) := fun W n => ⟨by rw [HT.out]; exact (RT.up n).1, by rw [HA.out]; exact (RA.up n).1⟩
        have MU : Hid (∀ W, Below wc.heap.size wc W → Calls Tryd.prog 108 #[.agg T1, .agg T1] W fun r w' => ∃ U, r = .returned (.agg U) ∧ Hid (∃ u, U = a16 u ∧ L16 u ∧ s16 u 16 % PP = r1S (s16 f 16 % PP) * r1S (s16 f 16 % PP) % PP) ∧ Below wc.heap.size wc w') := by
          intro W n
          refine (MU0 W).mono ?_
          rintro r w' ⟨u, rfl, LU, VU, n'⟩
          refine ⟨_, rfl, ⟨u, rfl, LU, ?_⟩, nxt n n'⟩
          rw [VU, Int.mul_emod, V1.out]
        have SM : Hid (∀ W U, Below wc.heap.size wc W → Hid (∃ u, U = a16 u ∧ L16 u ∧ s16 u 16 % PP = r1S (s16 f 16 % PP) * r1S (s16 f 16 % PP) % PP) → Calls Tryd.prog 107 #[.agg U, .agg A] W fun r w' => r = .returned (.bool (decide (r1S (s16 f 16 % PP) * r1S (s16 f 16 % PP) % PP = s16 f 16 % PP))) ∧ Below wc.heap.size wc w') := by
          rintro W U n ⟨u, rfl, LU, VU⟩
          refine (SM0 W u LU).mono ?_
          rintro r w' ⟨rfl, n'⟩
          exact ⟨by rw [VU], nxt n n'⟩
        have nd : Below wc.heap.size wc wc.drew := (Below.refl _ _).drew
        go_upto_region 4 with fail
        go_cut [30] (fun v wd => v = .bool (!decide (r1S (s16 f 16 % PP) * r1S (s16 f 16 % PP) % PP = s16 f 16 % PP)) ∧ Below wc.heap.size wc wd)
        case first =>
          refine wp_region_held_drew (S := fun W => W.rangeAt q 0 T1.toList ∧ W.rangeAt w.heap.size 0 A.toList) (by kernel_rfl) ((unhide CE) _ nd) (fun hH => ?_)
          refine wpAnyH_take (i := 0) (v := .agg T1.toList.toArray) rfl (by kernel_rfl) (by kernel_rfl) (by kernel_rfl) (fun _ _ _ h => h) (yieldsIf_load_mid (by rfl) 70 (.tmp 4) rfl q 0 rfl T1.toList (.array 16 2) (fun W h => h.1) u50' rfl iT) hH ?_
          refine wpAnyH_take (i := 1) (v := .agg T1.toList.toArray) rfl (by kernel_rfl) (by kernel_rfl) (by kernel_rfl) (fun _ _ _ h => h) (yieldsIf_load_mid (by rfl) 70 (.tmp 4) rfl q 0 rfl T1.toList (.array 16 2) (fun W h => h.1) u50' rfl iT) hH ?_
          refine wpAnyH_take (i := 3) (v := .agg A.toList.toArray) rfl (by kernel_rfl) (by kernel_rfl) (by kernel_rfl) (fun _ _ _ h => h) (yieldsIf_load_mid (by rfl) 70 (.tmp 1) rfl w.heap.size 0 rfl A.toList (.array 16 2) (fun W h => h.2) u50' rfl iA) hH ?_
          refine wpAnyH_ready (rs := [2]) (by kernel_rfl) (by simp) ?_
          refine AllReadyH.cons rfl (fun K1 hK1 => ?_) AllReadyH.nil
          go_simp
          go_at_call 108
          refine ((unhide MU) _ nd).mono ?_
          rintro r w2 ⟨U, rfl, HU, n2⟩
          go_wp2_with fail
          refine hK1.out _ _ ((unhide CE) _ n2) (fun hH1 => ?_)
          clear hK1
          refine wpAnyH_ready (rs := [4]) (by kernel_rfl) (by simp) ?_
          refine AllReadyH.cons rfl (fun K2 hK2 => ?_) AllReadyH.nil
          go_simp
          go_at_call 107
          refine ((unhide SM) _ U n2 HU).mono ?_
          rintro r w3 ⟨rfl, n3⟩
          go_wp2_with fail
          refine hK2.out _ _ ((unhide CE) _ n3) (fun hH2 => ?_)
          clear hK2
          refine wpAnyH_ready (rs := [5]) (by kernel_rfl) (by simp) ?_
          refine AllReadyH.cons rfl (fun K3 hK3 => ?_) AllReadyH.nil
          go_simp
          refine hK3.out _ _ ((unhide CE) _ n3) (fun hH3 => ?_)
          clear hK3
          refine wpAnyH_done (by kernel_rfl) ?_ _
          clear MU SM CE hH hH1 hH2 hH3
          go_wp2_with fail
          go_meet
          exact ⟨rfl, n3⟩
        case rest =>
          obtain ⟨rfl, nc3⟩ := hcut
          have RT4 := RT.up nc3
          have RB4 := RB.up nc3
          have N4 := nxt N3 nc3
          clear MU SM MU0 SM0 CE nd RT RA RB N3 nc3
          by_cases gg : r1S (s16 f 16 % PP) * r1S (s16 f 16 % PP) % PP = s16 f 16 % PP
          · have G : Hid (r1S (s16 f 16 % PP) * r1S (s16 f 16 % PP) % PP = s16 f 16 % PP) := gg
            rw [decide_eq_true gg]
            clear gg
            have BY := fun W => l2Bytes_any W t1 LT1
            rw [V1.out] at BY
            simp only [show ag16 t1 = .agg (a16 t1) from rfl] at BY
            rw [← HT.out] at BY
            have FB := bytP (r1S (s16 f 16 % PP))
            have R0 : r1S (s16 f 16 % PP) % PP = r1S (s16 f 16 % PP) := Int.emod_eq_of_lt (r1S_bd _).1 (r1S_bd _).2
            rw [R0] at FB
            have F0 : (fill (byt (r1S (s16 f 16 % PP))) 32).getD 0 0 % 2 = r1S (s16 f 16 % PP) % 2 := by
              rw [fill_get _ _ _ (by omega)]
              unfold byt
              simp
            have FL := hide (fill_len (byt (r1S (s16 f 16 % PP))) 32)
            generalize fill (byt (r1S (s16 f 16 % PP))) 32 = bs at *
            have HF0 := hide F0
            have rng := RT4.1
            rw [← HT.out] at rng
            go_upto_region 6 with fail
            go_wp2_with (first
              | (refine wpList_load_mid rfl 70 (.tmp 4) rfl q 0 rfl T1.toList (.array 16 2) rng u50' rfl iT ?_)
              | fail)
            refine (BY wc).mono ?_
            rintro r w5 ⟨⟨a5, c5', g5, rfl, o5, _, _, _⟩, n5⟩
            obtain ⟨off, rfl, hc5⟩ := o5 (by have := FL.out; omega)
            have hcell := (hc5 0 (by have := FL.out; omega)).1
            rw [Nat.add_zero] at hcell
            have hb0 := FB 0
            have e1 := and1u8 (bs.getD 0 0) hb0.1 hb0.2
            rw [HF0.out] at e1
            have bl : (0 : Int) < (bs.length : Int) := by have := FL.out; omega
            generalize bs.getD 0 0 = y0 at *
            have N5 := nxt N4 n5
            have RT5 := RT4.up n5
            have RB5 := RB4.up n5
            have mm := Int.emod_two_eq (r1S (s16 f 16 % PP))
            clear BY rng o5 hc5 N4 RT4 RB4 n5 F0
            go_upto_if 37 with fail
            go_cut [] (fun wd => ∃ t2, R16 wd q t2 ∧ L16 t2 ∧ Hid (s16 t2 16 % PP = fin2 (r1S (s16 f 16 % PP))) ∧ R16 wd (w.heap.size + 1) (fun _ => 0) ∧ Below w.heap.size w wd)
            case first =>
              rcases mm with m0 | m1
              · have tb : (r1S (s16 f 16 % PP) % 2 == 1) = false := by rw [m0]; rfl
                have K : Hid (s16 t1 16 % PP = fin2 (r1S (s16 f 16 % PP))) := by show _ = _; rw [V1.out, fin2, if_pos m0]
                go_wp2_with fail
                go_meet
                exact ⟨t1, RT5, LT1, K, RB5, N5⟩
              · have tb : (r1S (s16 f 16 % PP) % 2 == 1) = true := by rw [m1]; rfl
                have K : Hid (fin2 (r1S (s16 f 16 % PP)) = (0 - r1S (s16 f 16 % PP)) % PP) := by show _ = _; rw [fin2, if_neg (by omega)]
                have nd : Below w5.heap.size w5 w5.drew := (Below.refl _ _).drew
                have CQ : Hid (∀ W, Below w5.heap.size w5 W → W.rangeAt q 0 T1.toList) := fun W n => by rw [HT.out]; exact (RT5.up n).1
                have SML : Hid (∀ W, Below w5.heap.size w5 W → Calls Tryd.prog 109 #[.int .i64 0] W fun r w' => ∃ V, r = .returned (.agg V) ∧ Hid (∃ v, V = a16 v ∧ L16 v ∧ s16 v 16 % PP = 0 % PP) ∧ Below w5.heap.size w5 w') := by
                  intro W n
                  refine (l2Small_any W 0 (by omega)).mono ?_
                  rintro r w' ⟨v, rfl, LV, VV, n'⟩
                  exact ⟨_, rfl, ⟨v, rfl, LV, VV⟩, nxt n n'⟩
                have SUB : Hid (∀ W V, Below w5.heap.size w5 W → Hid (∃ v, V = a16 v ∧ L16 v ∧ s16 v 16 % PP = 0 % PP) → Calls Tryd.prog 110 #[.agg V, .agg T1] W fun r w' => ∃ cs t2, r = .returned (.agg (List.toArray cs)) ∧ Hid (cs = (a16 t2).toList ∧ L16 t2 ∧ s16 t2 16 % PP = fin2 (r1S (s16 f 16 % PP))) ∧ Hid (cs.length = 16) ∧ (Tryd.prog.info? 70).map (·.size) = some cs.length ∧ (∀ v ∈ cs, v.oneCell' = true) ∧ Below w5.heap.size w5 w') := by
                  rintro W V n ⟨v, rfl, LV, VV⟩
                  rw [HT.out]
                  refine (l2Sub_any W v t1 LV LT1).mono ?_
                  rintro r w' ⟨t2, rfl, LU, VU, n'⟩
                  have len : (a16 t2).toList.length = 16 := by simp [ls16]
                  refine ⟨(a16 t2).toList, t2, rfl, ⟨rfl, LU, ?_⟩, len, by rw [len]; exact i50, by intro v hv; exact oneCells _ _ v (by simpa using hv), nxt n n'⟩
                  rw [VU, K.out, Int.sub_emod, VV, V1.out, Int.sub_emod 0 (r1S (s16 f 16 % PP)), Int.emod_eq_of_lt (r1S_bd (s16 f 16 % PP)).1 (r1S_bd (s16 f 16 % PP)).2]
                have TH : Hid (∀ W, Below w5.heap.size w5 W → W.there q 0 16) := fun W n => (RT5.up n).2
                go_upto_region 7 with fail
                refine region_K (S := fun W => W.rangeAt q 0 T1.toList) (k := 2) (by kernel_rfl) ?_
                refine anyK_take (i := 1) (v := .agg T1.toList.toArray) rfl rfl (by kernel_rfl) (by decide) (by kernel_rfl) (fun _ _ _ h => h) (by kernel_rfl) (by kernel_rfl) (by kernel_rfl) (yieldsIf_load_mid (by rfl) 70 (.tmp 4) rfl q 0 rfl T1.toList (.array 16 2) (fun W h => h) u50' rfl iT) ((unhide CQ) _ nd) ?_
                refine anyK_ready (rs := [0]) (by kernel_rfl) (by simp) ?_
                refine AllK.cons rfl (fun K1 hK1 => ?_) AllK.nil
                go_simp
                go_at_call 109
                refine ((unhide SML) _ nd).mono ?_
                rintro r w6 ⟨V, rfl, HV, n6⟩
                go_wp2_with fail
                refine hK1.out _ _ (fun _ => (unhide CQ) _ n6) ?_
                clear hK1
                refine anyK_ready (rs := [2]) (by kernel_rfl) (by simp) ?_
                refine AllK.cons rfl (fun K2 hK2 => ?_) AllK.nil
                go_simp
                go_at_call 110
                refine ((unhide SUB) _ V n6 HV).mono ?_
                rintro r wm ⟨cs, t2, rfl, HC, lc, IC, OC, nm⟩
                go_wp2_with fail
                refine hK2.out _ _ (fun _ => (unhide CQ) _ nm) ?_
                clear hK2
                refine anyK_ready (rs := [3]) (by kernel_rfl) (by simp) ?_
                refine AllK.cons rfl (fun K3 hK3 => ?_) AllK.nil
                rw [if_pos (by rfl)]
                refine wp_store_mid 70 (.tmp 4) (.tmp 40) rfl q 0 (List.toArray cs) rfl rfl (by rw [List.size_toArray, lc.out]; exact TH.out wm nm) (by rw [List.size_toArray]; exact IC) (all_oneCell_toArray OC) ?_
                refine hK3.out _ _ (fun h => by cases h) ?_
                refine anyK_done (by kernel_rfl) ?_ _
                have S1 : R16 (wm.setCells q 0 cs) q t2 := by rw [HC.out.1]; exact R16.set t2 (TH.out wm nm)
                have S3 := (RB5.up nm).keep cs (q := q) (by have := HQ1.out; omega)
                have S4 : Below w.heap.size w (wm.setCells q 0 cs) := below_setCells (by have := HQ1.out; omega) _ _ _ (nxt N5 nm)
                clear CQ SML SUB hK3
                go_wp2_with fail
                go_meet
                exact ⟨t2, S1, HC.out.2.1, HC.out.2.2, S3, S4⟩
            case rest =>
              clear RT5 RB5 N5 iT HT mm e1 hb0 FB V1 LT1 HF0 hcell bl
              obtain ⟨t2, RT, LT2, V2, RB, N6⟩ := hcut
              have nd : Below wc.heap.size wc wc.drew := (Below.refl _ _).drew
              have RTd := RT.up nd
              have RBd := RB.up nd
              have HX : Hid (L16 t2 ∧ s16 t2 16 % PP = fin2 (r1S (s16 f 16 % PP))) := ⟨LT2, V2.out⟩
              have iT : (Tryd.prog.info? 70).map (·.size) = some (a16 t2).toList.length := by
                have : (a16 t2).toList.length = 16 := by simp [ls16]
                rw [this]; exact i50
              have len : Hid ((a16 t2).size = 16) := a16_size t2
              have S1 : Hid ((wc.drew.setCells (w.heap.size + 1) 0 (a16 t2).toList).rangeAt (w.heap.size + 1) 0 (a16 t2).toList) := (R16.set t2 RBd.2).1
              have S2 : Hid (Below w.heap.size w (wc.drew.setCells (w.heap.size + 1) 0 (a16 t2).toList)) := below_setCells (Nat.le_succ _) _ _ _ N6.drew
              have th : Hid (wc.drew.there (w.heap.size + 1) 0 16) := RBd.2
              have r0 : Hid (wc.drew.rangeAt q 0 (a16 t2).toList) := RTd.1
              have r1 : Hid ((wc.drew.setCells (w.heap.size + 1) 0 (a16 t2).toList).rangeAt q 0 (a16 t2).toList) := (RTd.keep (a16 t2).toList (q := w.heap.size + 1) (Nat.ne_of_gt HQ1.out)).1
              have one := a16_one t2
              have HE : Hid (ag16 t2 = .agg (a16 t2)) := rfl
              generalize a16 t2 = T2 at *
              clear RT RB RTd RBd nd N6 LT2 V2
              go_upto_region 8 with fail
              refine wp_region_held_drew (S := fun W => W.rangeAt q 0 T2.toList) (by kernel_rfl) r0.out (fun hH => ?_)
              refine wpAnyH_take (i := 0) (v := .agg T2.toList.toArray) rfl (by kernel_rfl) (by kernel_rfl) (by kernel_rfl) (fun _ _ _ h => h) (yieldsIf_load_mid (by rfl) 70 (.tmp 4) rfl q 0 rfl T2.toList (.array 16 2) (fun W h => h) u50' rfl iT) hH ?_
              refine wpAnyH_ready (rs := [1]) (by kernel_rfl) (by simp) ?_
              refine AllReadyH.cons rfl (fun K1 hK1 => ?_) AllReadyH.nil
              · go_simp
                refine hK1.out _ _ r0.out (fun hH1 => ?_)
                clear hK1
                refine wpAnyH_ready (rs := [2]) (by kernel_rfl) (by simp) ?_
                refine AllReadyH.cons rfl (fun K3 hK3 => ?_) AllReadyH.nil
                rw [if_pos (by rfl)]
                refine wp_store_mid 70 (.tmp 3) (.tmp 41) rfl (w.heap.size + 1) 0 T2 rfl rfl (by rw [len.out]; exact th.out) (by rw [len.out]; exact i50) one ?_
                refine hK3.out _ _ r1.out (fun hH2 => ?_)
                refine wpAnyH_done (by kernel_rfl) ?_ _
                clear hK3 hH hH1 hH2
                go_wp2_with fail
                exact bodyPost_ret (v := .tuple #[.bool true, .agg T2]) (results_two Tryd.results70 _ _ (w.heap.size + 1) T2 true rfl rfl S1.out (by rw [len.out]; exact i50)) rfl ⟨Or.inl ⟨G.out, t2, by rw [HE.out], HX.out.1, HX.out.2⟩, S2.out⟩
          · have G : Hid (¬ r1S (s16 f 16 % PP) * r1S (s16 f 16 % PP) % PP = s16 f 16 % PP) := gg
            rw [decide_eq_false gg]
            clear gg
            go_wp2_with fail
            refine (l2Small_any wc 0 (by omega)).mono ?_
            rintro r w5 ⟨u, rfl, LU, VU, n5⟩
            have HU := hide VU
            clear VU
            have RB5 := RB4.up n5
            have N5 := nxt N4 n5
            have len : (a16 u).size = 16 := a16_size u
            have S1 : R16 (w5.setCells (w.heap.size + 1) 0 (a16 u).toList) (w.heap.size + 1) u := R16.set u RB5.2
            have S2 : Below w.heap.size w (w5.setCells (w.heap.size + 1) 0 (a16 u).toList) := below_setCells (by omega) _ _ _ N5
            go_wp2_with (first
              | (refine wpList_store_mid rfl 70 (.tmp 3) (.tmp 31) rfl (w.heap.size + 1) 0 (a16 u) rfl rfl (by rw [len]; exact RB5.2) (by rw [len]; exact i50) (a16_one _) ?_)
              | fail)
            exact bodyPost_ret (v := .tuple #[.bool false, .agg (a16 u)]) (results_two Tryd.results70 _ _ (w.heap.size + 1) (a16 u) false rfl rfl S1.1 (by rw [len]; exact i50)) rfl ⟨Or.inr ⟨G.out, u, rfl, LU, HU.out⟩, S2⟩
end Go.Proofs.YtbhmhkimddjhaaaDoor
