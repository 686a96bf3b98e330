
/-
  Iterators one behind the other.
-/
import Derived.Test.YtpbniihhpfbamaaDoorFqY
namespace Go.Proofs.YtpbniihhpfbamaaDoor
set_option maxRecDepth 100000
open Go Go.RowKit Go.Shelf
attribute [local go_sem] Oper.semAt_some

theorem ChS.putNew {S : World → Nat → Prop} {W0 W : World} (h : ChS S W0 W) {D : Nat} (hD : W0.heap.size ≤ D) {o : Obj} (s : ∀ b, S (W.putObj D o) b → S W b) : ChS S W0 (W.putObj D o) :=
  have b : Below D W (W.putObj D o) := below_put (Nat.le_refl _)
  ⟨b.os.trans h.os, b.tape.trans h.tape, b.output.trans h.output, Nat.le_trans h.size b.size, fun k hk hs => (World.putObj_heap_other (by omega)).trans (h.keep k hk hs), fun k hk => h.own k (s k hk)⟩
/-- The mark of a loop that is behind. -/
def mkD (D : Nat) : Deferred := { target := .collected D, args := #[] }
/-- The marks of the loops that are behind. -/
structure MkL (S : World → Nat → Prop) (Ds : List Nat) (lo : Nat) (W : World) : Prop where
  pw : Ds.Pairwise (fun x y => y < x)
  at_ : ∀ D, D ∈ Ds → lo ≤ D ∧ W.heap[D]? = some (.deferred (some [])) ∧ ¬ S W D
theorem MkL.nil (S : World → Nat → Prop) (lo : Nat) (W : World) : MkL S [] lo W := ⟨List.Pairwise.nil, fun _ h => (by cases h)⟩
theorem MkL.lt {S : World → Nat → Prop} {Ds : List Nat} {lo : Nat} {W : World} (h : MkL S Ds lo W) {D : Nat} (hD : D ∈ Ds) : D < W.heap.size := (Array.getElem?_eq_some_iff.1 (h.at_ D hD).2.1).1
theorem MkL.next {S : World → Nat → Prop} {Ds : List Nat} {lo : Nat} {W W' : World} (h : MkL S Ds lo W) (c : ChS S W W') (hlo : lo ≤ W.heap.size) (hK : W'.heap[W.heap.size]? = some (.deferred (some []))) (hs : ¬ S W' W.heap.size) : MkL S (W.heap.size :: Ds) lo W' := by
  refine ⟨List.Pairwise.cons (fun D hD => h.lt hD) h.pw, fun D hD => ?_⟩
  rcases List.mem_cons.1 hD with rfl | hD
  · exact ⟨hlo, hK, hs⟩
  · obtain ⟨h1, h2, h3⟩ := h.at_ D hD
    exact ⟨h1, (c.keep D (h.lt hD) h3).trans h2, fun hv => (c.own D hv).elim h3 (fun hl => by have := h.lt hD; omega)⟩
theorem leaves_marks {P : Program} {n n0 : Nat} {fn : Func} {tmps : Array Value} {R : Ending → World → Prop} {S : World → Nat → Prop} {J : List (List UInt8) → World → Prop} (hA : Abd S n0 J) {W0 : World} {lo : Nat} (hlo : W0.heap.size ≤ lo) {pre : List (List UInt8)}
    (fin : ∀ W, J pre W → ChS S W0 W → LeavesIn Fence.wide n P fn tmps R [] .returning W) : ∀ (Ds : List Nat) (W : World), J pre W → ChS S W0 W → MkL S Ds lo W → LeavesInM Fence.wide n P fn tmps R (Ds.map mkD) .returning W
  | [], W, hJ, hC, _ => fin W hJ hC
  | D :: Ds, W, hJ, hC, hM => by
    obtain ⟨h1, h2, h3⟩ := hM.at_ D (List.mem_cons_self ..)
    obtain ⟨j, s⟩ := hA.put hJ h3 (.deferred none)
    refine ⟨by simp, .inl ⟨D, _, rfl, run_takeDeferred h2, leaves_marks hA hlo fin Ds _ j (hC.putNew (by omega) s) ⟨(List.pairwise_cons.1 hM.pw).2, fun D' hD' => ?_⟩⟩⟩
    obtain ⟨k1, k2, k3⟩ := hM.at_ D' (List.mem_cons_of_mem _ hD')
    have := (List.pairwise_cons.1 hM.pw).1 D' hD'
    exact ⟨k1, (World.putObj_heap_other (by omega)).trans k2, fun h => k3 (s _ h)⟩
set_option maxRecDepth 100000 in
set_option maxHeartbeats 4000000 in
theorem joined_seq (w : World) (b g : Nat) (a : Option Addr) (c : Nat) (vs : List Value) (pss : List (List (List UInt8))) (hlen : vs.length = pss.length) (hb : w.cell? ⟨b, 0, none⟩ = some (.slice a vs.length c)) (hbn : b < w.heap.size)
    (hc : 0 < vs.length → ∃ off, a = some ⟨g, off, none⟩ ∧ ∀ i, i < vs.length → w.cell? ⟨g, off + i, none⟩ = some (vs.getD i undef)) (hs : ∀ i, i < vs.length → SqV (pss.getD i []) (vs.getD i undef) w) (hN : vs.length ≤ 1000000000) :
    SeqS Tryd.prog 65 #[.pointer (some ⟨b, 0, none⟩)] w.heap.size pss.flatten w := by
  intro n l S J W hW hA hY h0
  have BL : ∀ W', ChS S W W' → Below w.heap.size W W' := fun W' h => h.below (fun b hb => (hA.lie [] W h0 b hb).1) hW.size
  have hbW : ∀ W', Below w.heap.size w W' → W'.cell? ⟨b, 0, none⟩ = some (.slice a vs.length c) := fun W' h => (h.cell (p := ⟨b, 0, none⟩) hbn).trans hb
  have nB : Below W.heap.size W (W.alloc (.cells #[.func (.yield l) #[] #[]] 112)) := (Below.refl _ _).alloc (Nat.le_refl _) _
  have hbB := hbW _ (hW.trans (nB.mono hW.size))
  have BX : (W.alloc (.cells #[.func (.yield l) #[] #[]] 112)).cell? ⟨W.heap.size, 0, none⟩ = some (.func (.yield l) #[] #[]) := (RwC.new W [.func (.yield l) #[] #[]] 112).cell 0
  have zB : (W.alloc (.cells #[.func (.yield l) #[] #[]] 112)).heap.size = W.heap.size + 1 := World.size_alloc _ _
  have JB := hA.grow h0 nB
  have nS : ¬ S (W.alloc (.cells #[.func (.yield l) #[] #[]] 112)) W.heap.size := fun h => by
    have h1 := (hA.stay [] W _ h0 nB.size (fun b hb => nB.block b (hA.lie [] W h0 b hb).2)).2 _ h
    exact absurd (hA.lie [] W h0 _ h1).2 (Nat.lt_irrefl _)
  have lW : w.heap.size ≤ W.heap.size := hW.size
  have HLn := hide hlen
  clear hlen
  have BW := hW.trans (nB.mono hW.size)
  have CB := JB.2
  have J0 := JB.1
  refine callsIn_of_wp_marks Tryd.func65 rfl trivial ?_ rfl
  simp only [Tryd.ntmps65, List.size_toArray, List.length_cons, List.length_nil, Nat.reduceAdd, Nat.reduceSub, Array.replicate_succ, Array.replicate_zero, List.push_toArray, List.append_toArray, List.nil_append, List.cons_append]
  gi_wp2
  clear hbB JB nB
  generalize W.alloc (.cells #[.func (.yield l) #[] #[]] 112) = Wb at *
  have lb : ∀ b, S Wb b → w.heap.size ≤ b := fun b hb => (hA.lie [] Wb J0 b hb).1
  refine wpIn_loop (fun a' wr => ∃ (k : Nat) (Ds : List Nat) (u4 u5 u9 u10 u11 u12 u13 u14 u15 u16 u17 u18 : Value), a' = { tmps := #[.func (.yield l) #[] #[], .pointer (some ⟨b, 0, none⟩), .pointer (some ⟨W.heap.size, 0, none⟩), undef, u4, u5, .slice a vs.length c, .int .i64 vs.length, .int .i64 k, u9, u10, u11, u12, u13, u14, u15, u16, u17, u18], defers := Ds.map mkD } ∧ k ≤ vs.length ∧ Hid (J (pss.take k).flatten wr ∧ ChS S Wb wr) ∧ Hid (MkL S Ds Wb.heap.size wr)) (fun a' _ => vs.length - (intOf (a'.tmps.getD 8 undef)).toNat) ?_ ?_
  · exact ⟨0, [], undef, undef, undef, undef, undef, undef, undef, undef, undef, undef, undef, undef, rfl, Nat.zero_le _, ⟨J0, ChS.refl _ _⟩, MkL.nil _ _ _⟩
  · rintro _ wr ⟨k, Ds, u4, u5, u9, u10, u11, u12, u13, u14, u15, u16, u17, u18, rfl, hk, HJ, HM⟩
    by_cases hlt : k < vs.length
    · have k0 : (k : Int) < (vs.length : Int) := by omega
      have k0' : decide ((k : Int) < (vs.length : Int)) = true := decide_eq_true k0
      have k1 : IntKind.i64.wrap ((k : Int) + 1) = ((k + 1 : Nat) : Int) := by rw [IntKind.wrap_i64]; omega
      have Bw : Below w.heap.size w wr := BW.trans (HJ.out.2.below lb (by omega))
      obtain ⟨off, rfl, hcc⟩ := hc (by omega)
      have cv : wr.cell? ⟨g, off + k, none⟩ = some (vs.getD k undef) := (Bw.cell (p := ⟨g, off + k, none⟩) (block_lt_of_cell (hcc k hlt))).trans (hcc k hlt)
      obtain ⟨gf, lb', n0, ev, hn0, en, SQ⟩ := hs k hlt
      rw [ev] at cv
      have TK : Hid ((pss.take (k + 1)).flatten = (pss.take k).flatten ++ pss.getD k []) := by
        show _ = _
        rw [List.take_add_one, List.flatten_append, List.getD_eq_getElem?_getD, List.getElem?_eq_getElem (by have := HLn.out; omega)]
        simp
      have PX : Hid (pss.getD k [] <:+: pss.flatten ∧ (pss.take k).flatten ++ pss.getD k [] <+: pss.flatten) := by
        show _ ∧ _
        have h1 : (pss.take k).flatten ++ pss.getD k [] <+: pss.flatten := by
          rw [← TK.out]
          exact ⟨(pss.drop (k + 1)).flatten, by rw [← List.flatten_append, List.take_append_drop]⟩
        exact ⟨List.IsInfix.trans ⟨(pss.take k).flatten, [], by simp⟩ h1.isInfix, h1⟩
      have hAk : Abd S n0 (fun pre X => J ((pss.take k).flatten ++ pre) X) := ⟨fun pre X h b hb => ⟨Nat.le_trans hn0 (hA.lie _ X h b hb).1, (hA.lie _ X h b hb).2⟩, fun pre X Y h => hA.stay _ X Y h⟩
      have nxB : Wb.heap.size ≤ wr.heap.size := HJ.out.2.size
      have bxw : wr.cell? ⟨W.heap.size, 0, none⟩ = some (.func (.yield l) #[] #[]) := (World.cell?_of_block (a := ⟨W.heap.size, 0, none⟩) (HJ.out.2.keep W.heap.size (by omega) nS)).trans BX
      have nSr : ¬ S wr W.heap.size := fun h => (HJ.out.2.own _ h).elim nS (fun hl => by omega)
      clear hcc hc
      gi_wp2
      refine wpIn_rangeS (gf := gf) (lb := lb') rfl (fun args w => run_enter en args w) SQ (Bw.mono hn0) (Nat.le_trans hn0 Bw.size) rfl S (fun pre X => J ((pss.take k).flatten ++ pre) X) hAk (by rw [List.append_nil]; exact HJ.out.1)
        (fun x => { tmps := #[.func (.yield l) #[] #[], .pointer (some ⟨b, 0, none⟩), .pointer (some ⟨W.heap.size, 0, none⟩), undef, .func (.func gf) #[] lb', txv x, .slice (some ⟨g, off, none⟩) vs.length c, .int .i64 vs.length, .int .i64 k, .bool true, .pointer (some ⟨g, off + k, none⟩), .func (.func gf) #[] lb', .func (.func gf) #[] lb', txv x, u14, u15, u16, u17, u18], defers := [] }) ?_ ?_ ?_
      · intro l' x X K hK
        unfold txv
        gi_wp2
        exact hK
      · intro l' pre x X hI hpre hC
        have cx : X.cell? ⟨W.heap.size, 0, none⟩ = some (.func (.yield l) #[] #[]) := (World.cell?_of_block (a := ⟨W.heap.size, 0, none⟩) (hC.keep W.heap.size (by omega) nSr)).trans bxw
        obtain ⟨fn, tmps, assign, body, hy, hR⟩ := hY ((pss.take k).flatten ++ pre) x X hI (by
          rw [List.append_assoc]
          exact List.IsPrefix.trans ((List.prefix_append_right_inj _).2 hpre) PX.out.2) (CB.trans (HJ.out.2.trans hC))
        unfold txv at hy ⊢
        gi_wp2
        refine ⟨fun h => (by cases h), RoundIn.mono (show RoundIn (Fence.wide.inRound l') (n - 1 - 1) _ l _ _ _ _ X _ from round_any hR) ?_⟩
        rintro e X3 ⟨rfl, hJ3, hc3⟩
        have HJ3 : Hid (J ((pss.take k).flatten ++ (pre ++ [x])) X3 ∧ ChS S X X3) := ⟨by rw [← List.append_assoc]; exact hJ3, hc3⟩
        clear hJ3 hc3
        gi_wp2
        exact HJ3.out
      · intro X hIx hCx hsz hK hns
        have HM2 : Hid (MkL S (wr.heap.size :: Ds) Wb.heap.size X) := HM.out.next hCx nxB hK hns
        have HJ2 : Hid (J (pss.take (k + 1)).flatten X ∧ ChS S Wb X) := by
          refine ⟨?_, HJ.out.2.trans hCx⟩
          rw [TK.out]
          exact hIx
        gi_wp2
        refine ⟨⟨k + 1, wr.heap.size :: Ds, _, _, _, _, _, _, _, _, _, _, _, _, rfl, by omega, HJ2, HM2⟩, ?_⟩
        simp [intOf]
        omega
    · obtain rfl : k = vs.length := by omega
      have k0 : ¬ (vs.length : Int) < (vs.length : Int) := by omega
      have E : (pss.take vs.length).flatten = pss.flatten := by rw [List.take_of_length_le (by have := HLn.out; omega)]
      rw [E] at HJ
      gi_wp2
      exact leaves_marks hA (W0 := W) (lo := Wb.heap.size) (by omega) (fun X hJ hC => ⟨_, results_none Tryd.results65 _ _ _, ⟨_, rfl⟩, hJ, hC⟩) Ds wr HJ.out.1 (CB.trans HJ.out.2) HM.out
end Go.Proofs.YtpbniihhpfbamaaDoor
