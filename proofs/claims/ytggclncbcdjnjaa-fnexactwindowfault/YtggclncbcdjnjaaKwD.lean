
/-
  Windows: the program's book of marks.
-/
import Derived.Test.YtggclncbcdjnjaaKwC
import Derived.Test.YtggclncbcdjnjaaRgV
import Derived.Laws.Cover3
namespace Go.Proofs.Ytggclncbcdjnjaa
open Go Go.RowKit Go.Maps

/-- How an element of the book reads: as nothing at all. -/
def unR (_ : Value) : Option (DataW Unit × List MemPlace) := some (.nil, [])
set_option maxRecDepth 100000 in
def bkD (ms : List Mrk) (k : Nat) : DataW Unit := setOf .nil ((ms.take k).map fun m => keyL m.id)
theorem bkD_step {ms : List Mrk} {k : Nat} (h : k < ms.length) : bkD ms (k + 1) = (bkD ms k).put (keyL (ms.getD k mrk0).id) .nil := by
  unfold bkD
  rw [List.take_succ_eq_append_getElem h, List.map_append, List.map_cons, List.map_nil, setOf_snoc, List.getD_eq_getElem?_getD, List.getElem?_eq_getElem h]
  rfl
/-- How many entries the book has tells whether all ids are different. -/
theorem bk_size {ms : List Mrk} (h32 : ∀ i, i < ms.length → (ms.getD i mrk0).id.length = 32) (hb : ∀ i, i < ms.length → Byt (ms.getD i mrk0).id) : (IdOk ms → Maps.size (bkD ms ms.length) = ms.length) ∧ (¬ IdOk ms → Maps.size (bkD ms ms.length) < ms.length) := by
  have gd : ∀ i (hi : i < ms.length), ms.getD i mrk0 = ms[i] := fun i hi => by rw [List.getD_eq_getElem?_getD, List.getElem?_eq_getElem hi]; rfl
  have key : ∀ x ∈ ms.map (fun m => keyL m.id), WideAt.IsKeyLit x := fun x hx => by
    obtain ⟨m, hm, rfl⟩ := List.mem_map.1 hx
    obtain ⟨i, hi, rfl⟩ := List.getElem_of_mem hm
    have h1 := h32 i hi
    have h2 := hb i hi
    rw [gd i hi] at h1 h2
    exact keyL_key h1 h2
  have C := addKey_count (ms.map fun m => keyL m.id) key ms.length (by simp)
  have et : (ms.map fun m => keyL m.id).take ms.length = ms.map fun m => keyL m.id := List.take_of_length_le (by simp)
  rw [et] at C
  have es : Maps.size (bkD ms ms.length) = (((ms.map fun m => keyL m.id).foldl addKey []).length : Nat) := by
    unfold bkD
    rw [List.take_length]
    exact size_setOf _ _ key
  have el : ∀ i (hi : i < ms.length), (ms.map fun m => keyL m.id)[i]? = some (keyL (ms.getD i mrk0).id) := fun i hi => by
    rw [List.getElem?_map, List.getElem?_eq_getElem hi, gd i hi]
    rfl
  refine ⟨fun ok => ?_, fun no => ?_⟩
  · rw [es, C.1 (fun i hi j hj h => ?_)]
    · simp
    · rw [el i hi, el j (by omega)] at h
      exact (ok i hi).2 j hj (keyL_inj (h32 i hi) (hb i hi) (h32 j (by omega)) (hb j (by omega)) (Option.some.inj h))
  · rw [es]
    have : ∃ i j, i < ms.length ∧ j < i ∧ (ms.map fun m => keyL m.id)[i]? = (ms.map fun m => keyL m.id)[j]? := by
      refine Classical.byContradiction fun hno => no fun i hi => ⟨h32 i hi, fun j hj e => hno ⟨i, j, hi, hj, ?_⟩⟩
      rw [el i hi, el j (by omega), e]
    exact C.2.1 this
theorem rangeK {w w' : World} {b o : Nat} {cs : List Value} (h : w.rangeAt b o cs) (n : Below w.heap.size w w') : w'.rangeAt b o cs := fun j v hj => (n.cell (block_lt_of_cell (h j v hj))).trans (h j v hj)
theorem ownK {w w' : World} {b n : Nat} {D : DataW Unit} (h : w.ownsMap Try.prog 51 unR b n D) (m : Below w.heap.size w w') : w'.ownsMap Try.prog 51 unR b n D := by
  obtain ⟨es, clock, hb, h⟩ := h
  exact ⟨es, clock, (m.block b (Array.getElem?_eq_some_iff.1 hb).1).trans hb, h⟩
set_option maxRecDepth 100000 in
set_option maxHeartbeats 8000000 in
theorem bookOf_any (w : World) (wd : Int) (g : Nat) (a : Option Addr) (c : Nat) (ms : List Mrk) (ps : List Plm) (hr : RdK w g a ms ps) (hb : ∀ i, i < ms.length → Byt (ms.getD i mrk0).id) :
    Calls Try.prog 12 #[.agg #[.int .i64 wd, .slice a ms.length c]] w fun e w' => (∃ v, e = .returned (.tuple #[v, .int .i64 (wfV wd ms)])) ∧ Below w.heap.size w w' := by
  have n1 : Below w.heap.size w (w.alloc (.cells #[.int .i64 wd, .slice a ms.length c] 29)) := (Below.refl _ _).alloc (Nat.le_refl _) _
  have IW := hide (fun W => isWidth_any W wd)
  have P0 : RwC (w.alloc (.cells #[.int .i64 wd, .slice a ms.length c] 29)) w.heap.size [.int .i64 wd, .slice a ms.length c] 29 := RwC.new w _ _
  have c0 : (w.alloc (.cells #[.int .i64 wd, .slice a ms.length c] 29)).cell? ⟨w.heap.size, 0, none⟩ = some (.int .i64 wd) := P0.cell 0
  have c1 : (w.alloc (.cells #[.int .i64 wd, .slice a ms.length c] 29)).cell? ⟨w.heap.size, 1, none⟩ = some (.slice a ms.length c) := P0.cell 1
  have hr1 := hr.up n1
  have V1 := hide (fun h => wfV1 (wd := wd) (ms := ms) h)
  have V2 := hide (fun h l => wfV2 (wd := wd) (ms := ms) h l)
  have V3 := hide (fun h l i => wfV3 (wd := wd) (ms := ms) h l i)
  have V4 := hide (fun h l i u => wfV4 (wd := wd) (ms := ms) h l i u)
  have V0 := hide (fun h l i u => wfV0 (wd := wd) (ms := ms) h l i u)
  generalize wfV wd ms = R at *
  have N1 := hide n1
  have HB := hide hb
  have HR := hide hr1
  have PB := hide P0
  have hmm := @run_makeMap Try.prog
  clear P0 hr n1 hb hr1
  generalize hwo : wdO wd = wo at *
  go_enter Try.func12, Try.ntmps12
  go_wp2_with fail
  generalize w.alloc (.cells #[.int .i64 wd, .slice a ms.length c] 29) = wa at *
  refine (IW.out _).mono ?_
  rintro e w1 ⟨rfl, hw⟩
  have hw := hw.symm
  subst hw
  clear IW
  cases wo with
  | false =>
    have hv := hide (V1.out rfl)
    clear V1 V2 V3 V4 V0 hwo
    go_wp2
    go_ret2
    exact ⟨⟨.map none, by rw [hv.out]; rfl⟩, N1.out⟩
  | true =>
  by_cases h1 : 64 < ms.length
  · have hv := hide (V2.out (by decide) h1)
    have t1 : (64 : Int) < (ms.length : Int) := by omega
    clear V1 V2 V3 V4 V0 hwo
    go_wp2
    go_ret2
    exact ⟨⟨.map none, by rw [hv.out]; rfl⟩, N1.out⟩
  have t1 : ¬ (64 : Int) < (ms.length : Int) := by omega
  have W3 := hide (fun i => V3.out (by decide) h1 i)
  have W4 := hide (fun i u => V4.out (by decide) h1 i u)
  have W0 := hide (fun i u => V0.out (by decide) h1 i u)
  clear V1 V2 V3 V4 V0 hwo
  have MM := World.ownsMap_made wa Try.prog 51 unR
  have NM : Below wa.heap.size wa (wa.alloc (.map #[] 0)) := (Below.refl _ _).alloc (Nat.le_refl _) _
  have c1' : (wa.alloc (.map #[] 0)).cell? ⟨w.heap.size, 1, none⟩ = some (.slice a ms.length c) := (NM.cell (block_lt_of_cell c1)).trans c1
  go_wp2
  go_loopw [19, 5, 6] (fun i _ _ wr => ∃ (k : Nat), k ≤ ms.length ∧ i = .int .i64 k ∧ wr.ownsMap Try.prog 51 unR wa.heap.size k (bkD ms k) ∧ Below wa.heap.size wa wr ∧ ∀ i, i < k → (ms.getD i mrk0).id.length = 32) (fun i _ _ _ => ms.length - (intOf i).toNat)
  case atStart => exact ⟨0, Nat.zero_le _, rfl, MM, NM, fun i hi => absurd hi (by omega)⟩
  case round =>
    obtain ⟨k, hk, rfl, hown, hN, hall⟩ := hrel
    clear MM NM c1'
    by_cases hlt : k < ms.length
    · have hrk := (HR.out.up hN)
      obtain ⟨off, rfl, hc⟩ := hrk.r (by omega)
      have t0 : (k : Int) < (ms.length : Int) := by omega
      have d1 := (hc k hlt).1
      have d2 := (hc k hlt).2
      have hgl := block_lt_of_cell d1
      have rk := hrk.b k hlt
      have bk := HB.out k hlt
      have BS := hide (bkD_step hlt)
      have H3 : Hid ((ms.getD k mrk0).id.length ≠ 32 → R = 3) := fun h => W3.out fun hI => h (hI k hlt).1
      have HALL : Hid ((ms.getD k mrk0).id.length = 32 → ∀ i, i < k + 1 → (ms.getD i mrk0).id.length = 32) := fun h i hi => by
        by_cases e : i = k
        · subst e
          exact h
        · exact hall i (by omega)
      clear hc hall hrk
      generalize (ms.getD k mrk0).id = x at *
      generalize (ms.getD k mrk0).un = un at *
      generalize (ps.getD k plm0).a = pa at *
      generalize (ps.getD k plm0).c = pc at *
      generalize (ps.getD k plm0).q = pq at *
      have HN := hide hN
      have HO := hide hown
      have RK := hide rk
      have BK := hide bk
      clear hN hown rk bk
      by_cases h32 : x.length = 32
      rotate_left
      · have hv := hide (H3.out h32)
        have t2 : ((x.length : Int) == 32) = false := beq_eq_false_iff_ne.2 (by omega)
        have NB : Hid (Below w.heap.size w (wr.alloc (.cells #[.slice pa x.length pc, .int .i64 un] 36))) := by
          have := N1.out.size
          have := HN.out.size
          exact (N1.out.trans (HN.out.mono N1.out.size)).alloc (by omega) _
        generalize x.length = m at *
        clear H3 HALL W3 W4 W0 BS
        go_wp2
        go_ret2
        exact ⟨⟨.map none, by rw [hv.out]; rfl⟩, NB.out⟩
      have t2 : ((x.length : Int) == 32) = true := by rw [h32]; rfl
      have HL := hide h32
      rw [h32] at d1 t2
      clear h32 H3
      have PM : RwC (wr.alloc (.cells #[.slice pa 32 pc, .int .i64 un] 36)) wr.heap.size [.slice pa 32 pc, .int .i64 un] 36 := RwC.new wr _ _
      have nm : Below wr.heap.size wr (wr.alloc (.cells #[.slice pa 32 pc, .int .i64 un] 36)) := (Below.refl _ _).alloc (Nat.le_refl _) _
      have q0 : (wr.alloc (.cells #[.slice pa 32 pc, .int .i64 un] 36)).cell? ⟨wr.heap.size, 0, none⟩ = some (.slice pa 32 pc) := PM.cell 0
      have q1 : (wr.alloc (.cells #[.slice pa 32 pc, .int .i64 un] 36)).cell? ⟨wr.heap.size, 1, none⟩ = some (.int .i64 un) := PM.cell 1
      obtain ⟨o, rfl, hx⟩ := RK.out.up nm (by rw [HL.out]; decide)
      have RG : World.rangeAt (wr.alloc (.cells #[.slice (some ⟨pq, o, none⟩) 32 pc, .int .i64 un] 36)) pq o (x.map (Value.int .u8)) := fun j v hj => by
        have hj' : j < x.length := by
          have := (List.getElem?_eq_some_iff.1 hj).1
          simpa using this
        rw [hx j hj']
        rw [List.getElem?_map, List.getElem?_eq_getElem hj'] at hj
        rw [← hj, List.getD_eq_getElem?_getD, List.getElem?_eq_getElem hj']
        rfl
      have HG := hide RG
      have OM := hide (HO.out.alloc (.cells #[.slice (some ⟨pq, o, none⟩) 32 pc, .int .i64 un] 36))
      have NM := hide (nxt HN.out nm)
      clear hx RG PM nm HO HN RK
      go_upto_region 11 with fail
      generalize wr.alloc (.cells #[.slice (some ⟨pq, o, none⟩) 32 pc, .int .i64 un] 36) = wm at *
      generalize wr.heap.size = q at *
      refine region_store 9 _ (fun i => [Fact.eq (.map (some wa.heap.size)), Fact.eq (.pointer (some ⟨q, 0, none⟩)), Fact.eq (.slice (some ⟨pq, o, none⟩) 32 pc), Fact.eq (.pointer (some ⟨pq, o, none⟩)), Fact.eq (idV x), Fact.eq (.int .i64 (k : Int)), Fact.eq (.pointer (some ⟨q, 1, none⟩)), Fact.eq (.int .i64 un), Fact.eq (.agg #[.int .i64 (k : Int), .int .i64 un])].getD i Fact.no) (by kernel_rfl) (by kernel_rfl) rfl rfl ?_ ?_
      · intro i hi
        obtain rfl | rfl | rfl | rfl | rfl | rfl | rfl | rfl | rfl : i = 0 ∨ i = 1 ∨ i = 2 ∨ i = 3 ∨ i = 4 ∨ i = 5 ∨ i = 6 ∨ i = 7 ∨ i = 8 := by omega
        · refine step_pure rfl fun A ww hb hw hf => ?_
          have e1 : A.tmps[4]?.getD undef = .map (some wa.heap.size) := gdv (hb.2.2 4 (by kernel_rfl))
          exact ⟨.map (some wa.heap.size), by simp [go_sem, e1], rfl⟩
        · refine step_pure rfl fun A ww hb hw hf => ?_
          have e1 : A.tmps[6]?.getD undef = .pointer (some ⟨q, 0, none⟩) := gdv (hb.2.2 6 (by kernel_rfl))
          exact ⟨.pointer (some ⟨q, 0, none⟩), by simp [go_sem, e1], rfl⟩
        · refine step_pure rfl fun A ww hb hw hf => ?_
          have e1 : A.tmps[29]?.getD undef = .pointer (some ⟨q, 0, none⟩) := gdv (hf 1 29 (by kernel_rfl))
          have qq := (hw.cell (block_lt_of_cell q0)).trans q0
          exact ⟨.slice (some ⟨pq, o, none⟩) 32 pc, by simp [go_sem, e1, qq], rfl⟩
        · refine step_pure rfl fun A ww hb hw hf => ?_
          have e1 : A.tmps[30]?.getD undef = .slice (some ⟨pq, o, none⟩) 32 pc := gdv (hf 2 30 (by kernel_rfl))
          have ra := run_arrayAt (P := Try.prog) (w := ww) 51 5 32 (some ⟨pq, o, none⟩) 32 pc uId (by decide)
          exact ⟨.pointer (some ⟨pq, o, none⟩), by simp [go_sem, e1, ra], rfl⟩
        · refine step_load rfl 51 (.tmp 31) rfl _ 32 uId rfl (by kernel_rfl) fun A ww hb hw hf => ⟨pq, o, x.map (Value.int .u8), hf 3 31 (by kernel_rfl), rangeK HG.out hw, by rw [List.length_map, HL.out], rfl⟩
        · refine step_pure rfl fun A ww hb hw hf => ?_
          have e1 : A.tmps[5]?.getD undef = .int .i64 (k : Int) := gdv (hb.2.2 5 (by kernel_rfl))
          exact ⟨.int .i64 (k : Int), by simp [go_sem, e1], rfl⟩
        · refine step_pure rfl fun A ww hb hw hf => ?_
          have e1 : A.tmps[6]?.getD undef = .pointer (some ⟨q, 0, none⟩) := gdv (hb.2.2 6 (by kernel_rfl))
          exact ⟨.pointer (some ⟨q, 1, none⟩), by simp [go_sem, e1], rfl⟩
        · refine step_pure rfl fun A ww hb hw hf => ?_
          have e1 : A.tmps[34]?.getD undef = .pointer (some ⟨q, 1, none⟩) := gdv (hf 6 34 (by kernel_rfl))
          have qq := (hw.cell (block_lt_of_cell q1)).trans q1
          exact ⟨.int .i64 un, by simp [go_sem, e1, qq], rfl⟩
        · refine step_pure rfl fun A ww hb hw hf => ?_
          have e1 : A.tmps[33]?.getD undef = .int .i64 (k : Int) := gdv (hf 5 33 (by kernel_rfl))
          have e2 : A.tmps[35]?.getD undef = .int .i64 un := gdv (hf 7 35 (by kernel_rfl))
          exact ⟨.agg #[.int .i64 (k : Int), .int .i64 un], by simp [go_sem, e1, e2], rfl⟩
      intro A W hb' hw hF
      have e28 := hF 0 28 (by kernel_rfl)
      have e32 := hF 4 32 (by kernel_rfl)
      have e36 := hF 8 36 (by kernel_rfl)
      have OW : W.ownsMap Try.prog 51 unR wa.heap.size k (bkD ms k) := ownK OM.out hw
      obtain ⟨w', hrun, ho', hg⟩ := OW.update lawK Try.underlying40 (by unfold maxLen; omega) (keyL_some HL.out BK.out) (val := .agg #[.int .i64 (k : Int), .int .i64 un]) (d := .nil) (ps := []) rfl
      have em : A.eval (.tmp 28) = .map (some wa.heap.size) := e28
      have ex : A.eval (.tmp 32) = idV x := e32
      have ev : A.eval (.tmp 36) = .agg #[.int .i64 (k : Int), .int .i64 un] := e36
      have NW : Hid (Below wa.heap.size wa w') := by
        have n := nxt NM.out hw
        exact n.grown hg n.size (fun j hj => by cases hj; exact Nat.le_refl _)
      have OF : Hid (w'.ownsMap Try.prog 51 unR wa.heap.size (k + 1) (bkD ms (k + 1))) := by show World.ownsMap _ _ _ _ _ _ _; rw [BS.out]; exact ho'
      have AL := hide (HALL.out HL.out)
      obtain ⟨vs, hvs⟩ : ∃ vs : Nat → Value, ∀ d, A.tmps.getD d undef = vs d := ⟨_, fun _ => rfl⟩
      have ep := puts_of (md := .any) (k := 9) (by kernel_rfl) rfl hb' vs hvs
      unfold Oper.wp
      simp [execOp, em, ex, ev, hrun, Result.andThen]
      unfold Oper.upon
      rw [ep]
      clear ep hb' hF e28 e32 e36 em ex ev hvs OW hrun ho' hg hw BS HALL
      simp only [puts, Act.put, List.setIfInBounds_toArray, List.set_cons_succ, List.set_cons_zero]
      go_wp2
      go_roundw
      case rel => exact ⟨k + 1, by omega, by go_num, OF.out, NW.out, AL.out⟩
      case measure => simp [intOf]; omega
    · obtain rfl : k = ms.length := by omega
      have BZ := hide (bk_size hall HB.out)
      have cc : wr.cell? ⟨w.heap.size, 1, none⟩ = some (.slice a ms.length c) := (hN.cell (block_lt_of_cell c1)).trans c1
      have UC := hide (untilContains_any wr g a c ms ps (HR.out.up hN) (by omega))
      have NN := hide (N1.out.trans (hN.mono N1.out.size))
      have HO := hide hown
      clear hall hN
      by_cases ok : IdOk ms
      rotate_left
      · have hv := hide (W3.out ok)
        have lt := BZ.out.2 ok
        have t3 : ((Maps.size (bkD ms ms.length) : Nat) : Int) < (ms.length : Int) := by omega
        have OW := HO.out
        clear W3 W4 W0 BZ ok lt
        generalize bkD ms ms.length = D at *
        go_wp2_with (first | (at_len; refine wpList_len_own (H := Unit) _ rfl (.tmp 38) 40 rfl 51 49 Try.underlying40 unR wa.heap.size ms.length D rfl OW ?_) | fail)
        go_ret2
        exact ⟨⟨.map none, by rw [hv.out]; rfl⟩, NN.out⟩
      · have es := BZ.out.1 ok
        have OW := HO.out
        have X4 := hide (fun u => W4.out ok u)
        have X0 := hide (fun u => W0.out ok u)
        clear W3 W4 W0 BZ ok
        generalize bkD ms ms.length = D at *
        generalize utA ms = u at *
        go_wp2_with (first | (at_len; refine wpList_len_own (H := Unit) _ rfl (.tmp 38) 40 rfl 51 49 Try.underlying40 unR wa.heap.size ms.length D rfl OW ?_; rw [es]) | fail)
        refine UC.out.mono ?_
        rintro e w2 ⟨rfl, n2⟩
        have N2 := hide (nxt NN.out n2)
        clear UC n2 NN HO OW es
        cases u with
        | true =>
          have hv := hide (X4.out rfl)
          clear X4 X0
          go_wp2
          go_ret2
          exact ⟨⟨.map none, by rw [hv.out]; rfl⟩, N2.out⟩
        | false =>
          have hv := hide (X0.out rfl)
          clear X4 X0
          go_wp2
          go_ret2
          exact ⟨⟨.map (some wa.heap.size), by rw [hv.out]; rfl⟩, N2.out⟩
end Go.Proofs.Ytggclncbcdjnjaa
