import Derived.Test.YtjjoimlnpbelpaaGK19
import Derived.Test.YtjjoimlnpbelpaaGK7
import Derived.Deep.RegionHeld3

/-
  Windows that are asked: the marks of the book (written by gens/wal.py).
-/
namespace Go.Proofs.Ytjjoimlnpbelpaa
open Go Go.RowKit Go.Maps Go.Sort

set_option maxRecDepth 100000 in
theorem step_append_exB {P : Program} {ops : Array Oper} {o : Oper} {a : Act} {w : World} {K : Act → World → Prop} {Q : Exit → Act → World → Prop} {E : Prop} (hg : o.guard = none) (s x : Operand) (t tn : TypeId)
    (ho : o.op = .call { callee := .builtin .append, args := #[s, x], argTypes := #[t, tn] }) (vs vx : Value) (hs : a.eval s = vs) (hx : a.eval x = vx) (R : Value → World → Prop)
    (H : ∃ v' w', (Builtin.append_ #[t, tn] o.type #[vs, vx]).run P w = .ok v' w' ∧ R v' w') (hK : ∀ v' w', R v' w' → K (a.put o.dst v') w') :
    if Region.wanted o (yielded ops a.tmps) = true then Oper.wp P o a w K Q else E := by
  have hw : Region.wanted o (yielded ops a.tmps) = true := by simp [Region.wanted, hg]
  rw [if_pos hw]
  obtain ⟨v', w', hr, hR⟩ := H
  exact Lib.wp_append_run w s x t tn ho vs vx hs hx v' w' hr (hK v' w' hR)
set_option maxRecDepth 100000 in
def mkOf (E : List Ent) : List (Int × List Int) := E.map fun e => (e.un, e.id)
set_option maxRecDepth 100000 in
theorem mkOf_len (E : List Ent) : (mkOf E).length = E.length := by simp [mkOf]
set_option maxRecDepth 100000 in
theorem mkOf_take {E : List Ent} {k : Nat} (h : k < E.length) : mkOf (E.take (k + 1)) = mkOf (E.take k) ++ [((E.getD k ent0).un, (E.getD k ent0).id)] := by
  unfold mkOf
  rw [List.take_succ_eq_append_getElem h, List.map_append, List.getD_eq_getElem?_getD, List.getElem?_eq_getElem h]
  rfl
set_option maxRecDepth 100000 in
/-- What a round leaves. -/
def MkR (w3 : World) (E : List Ent) (k : Nat) (v : Value) (w' : World) : Prop := ∃ a n c bs, v = .slice a n c ∧ IRow w' w3.heap.size v (mkOf (E.take k)) bs ∧ Below w3.heap.size w3 w'
set_option maxRecDepth 100000 in
set_option maxHeartbeats 4000000 in
theorem marks_any (w : World) (b nn : Nat) (D : DataW Unit) (E : List Ent) (hB : Bk D E) (own : w.ownsMap Try.prog 58 pmR b nn D) (hl : E.length ≤ 1000) (h0 : 0 < E.length) (asc : E.Pairwise (fun x y => x.pl < y.pl)) :
    Calls Try.prog 26 #[.map (some b)] w fun e w' => (∃ v bs, e = .returned v ∧ IRow w' w.heap.size v (mkOf E) bs) ∧ Below w.heap.size w w' := by
  have na : Below w.heap.size w (w.alloc (.cells #[.map (some b)] 49)) := (Below.refl _ _).alloc (Nat.le_refl _) _
  have Ta := RwC.new w [.map (some b)] 49
  have KE := hide (keys_any (w.alloc (.cells #[.map (some b)] 49)) (some b))
  have oa := ownP own na
  have c0 := Ta.c0
  go_enter Try.func26, Try.ntmps26
  go_upto_region 3 with fail
  generalize w.alloc (.cells #[.map (some b)] 49) = wa at *
  go_wp2_with fail
  refine KE.out.mono ?_
  rintro e wb ⟨rfl, rfl⟩
  have nb : Below wa.heap.size wa (wa.alloc (.cells #[.map (some b)] 49)) := (Below.refl _ _).alloc (Nat.le_refl _) _
  have Tb := RwC.new wa [.map (some b)] 49
  have SF := hide (sortedFunc_any (wa.alloc (.cells #[.map (some b)] 49)) wa.heap.size b nn w.heap.size D E hB Tb.lt Tb.c0 (ownP oa nb) ((Ta.up nb).c0) hl h0 asc)
  have Na := hide (nxt na nb)
  have HB := hide hB
  have Tc := Ta.up nb
  have oc := ownP oa nb
  clear KE Tb Ta nb na c0 hB own oa
  generalize wa.alloc (.cells #[.map (some b)] 49) = wb at *
  generalize wa.heap.size = sb at *
  go_wp2_with fail
  refine SF.out.mono ?_
  rintro e w3 ⟨⟨g, cap, rfl, hr⟩, n3⟩
  have HR := hide hr
  have N3 := hide (nxt Na.out n3)
  have T3 := hide (Tc.up n3)
  have O3 := hide (ownP oc n3)
  have HL := hide hl
  clear SF hr n3 Tc oc Na hl asc
  go_wp2_with fail
  go_loopw [4, 6, 13] (fun v _ i wr => ∃ (k : Nat), k ≤ E.length ∧ i = .int .i64 k ∧ MkR w3 E k v wr) (fun _ _ i _ => E.length - (intOf i).toNat)
  case atStart => exact ⟨0, Nat.zero_le _, rfl, none, 0, 0, [], rfl, by simpa [mkOf] using IRow.nil w3 w3.heap.size, Below.refl _ _⟩
  case round =>
    obtain ⟨k, hk, rfl, av, nv, cv, bs, rfl, RW, NW⟩ := hrel
    by_cases hlt : k < E.length
    · have t0 : (k : Int) < (E.length : Int) := by omega
      have hlt' : ¬ (E.length ≤ k) := by omega
      have he : E.getD k ent0 ∈ E := by rw [List.getD_eq_getElem?_getD, List.getElem?_eq_getElem hlt]; exact List.getElem_mem hlt
      have HE := hide (HB.out.ok _ he)
      have AT := hide (HB.out.at' _ he)
      have RG0 := rangeK (HR.out k hlt) NW
      have MT := hide (mkOf_take hlt)
      generalize E.getD k ent0 = ee at *
      obtain ⟨cs, hcs⟩ : ∃ cs, cs = ee.id.map (Value.int .u8) := ⟨_, rfl⟩
      have cl : cs.length = 32 := by rw [hcs, List.length_map]; exact HE.out.1
      have one : cs.toArray.all (·.oneCell') = true := by rw [hcs]; exact idOne _
      have HC := hide hcs
      have ev : idV ee.id = .agg cs.toArray := by rw [hcs]; rfl
      have hkey := hide (entKey HE.out)
      rw [ev] at hkey
      rw [← hcs] at RG0
      obtain ⟨nbx, th1, R1⟩ := box1 wr cs cl
      have sz : cs.toArray.size = 32 := by simpa using cl
      have SZC : (Try.prog.info? 58).map (·.size) = some cs.toArray.size := by rw [sz]; exact iId
      have SL : (Try.prog.info? 58).map (·.size) = some cs.length := by rw [cl]; exact iId
      rw [← sz] at th1
      have CL := hide cl
      have HRW := hide RW
      have HNW := hide NW
      have NBX := hide nbx
      have HR1 := hide R1
      clear hcs ev cl he RW NW nbx sz R1
      go_upto_region 6 with (first
        | (refine wpList_load_mid rfl 58 (.tmp 15) rfl g (k * 32) rfl cs _ RG0 uId rfl SL ?_)
        | (refine wpList_store_mid rfl 58 (.tmp 6) (.tmp 16) rfl wr.heap.size 0 cs.toArray rfl rfl th1 SZC one ?_)
        | fail)
      have RW6 := HRW.out.of (w' := World.setCells (wr.alloc (.cells #[.int .u8 0, .int .u8 0, .int .u8 0, .int .u8 0, .int .u8 0, .int .u8 0, .int .u8 0, .int .u8 0, .int .u8 0, .int .u8 0, .int .u8 0, .int .u8 0, .int .u8 0, .int .u8 0, .int .u8 0, .int .u8 0, .int .u8 0, .int .u8 0, .int .u8 0, .int .u8 0, .int .u8 0, .int .u8 0, .int .u8 0, .int .u8 0, .int .u8 0, .int .u8 0, .int .u8 0, .int .u8 0, .int .u8 0, .int .u8 0, .int .u8 0, .int .u8 0] 58)) wr.heap.size 0 cs) (fun i hi _ => NBX.out.block i hi)
      have NW6 := nxt HNW.out NBX.out
      have T6 := T3.out.up NW6
      have O6 := ownP O3.out NW6
      have R6 := HR1.out
      have lw := (HRW.out.o.lt)
      have l6 := NBX.out.size
      have s63 := HNW.out.size
      have RD6 : Rd (World.setCells (wr.alloc (.cells #[.int .u8 0, .int .u8 0, .int .u8 0, .int .u8 0, .int .u8 0, .int .u8 0, .int .u8 0, .int .u8 0, .int .u8 0, .int .u8 0, .int .u8 0, .int .u8 0, .int .u8 0, .int .u8 0, .int .u8 0, .int .u8 0, .int .u8 0, .int .u8 0, .int .u8 0, .int .u8 0, .int .u8 0, .int .u8 0, .int .u8 0, .int .u8 0, .int .u8 0, .int .u8 0, .int .u8 0, .int .u8 0, .int .u8 0, .int .u8 0, .int .u8 0, .int .u8 0] 58)) wr.heap.size 0 cs) wr.heap.size (some ⟨wr.heap.size, 0, none⟩) .u8 ee.id := fun _ => ⟨0, rfl, fun i hi => by
        have hc : cs[i]? = some (.int .u8 (ee.id.getD i 0)) := by
          rw [HC.out, List.getElem?_map, List.getElem?_eq_getElem hi, List.getD_eq_getElem?_getD, List.getElem?_eq_getElem hi]
          rfl
        rw [Nat.zero_add]
        exact (HR1.out.cell i).trans hc⟩
      go_frame
      generalize World.setCells (wr.alloc (.cells #[.int .u8 0, .int .u8 0, .int .u8 0, .int .u8 0, .int .u8 0, .int .u8 0, .int .u8 0, .int .u8 0, .int .u8 0, .int .u8 0, .int .u8 0, .int .u8 0, .int .u8 0, .int .u8 0, .int .u8 0, .int .u8 0, .int .u8 0, .int .u8 0, .int .u8 0, .int .u8 0, .int .u8 0, .int .u8 0, .int .u8 0, .int .u8 0, .int .u8 0, .int .u8 0, .int .u8 0, .int .u8 0, .int .u8 0, .int .u8 0, .int .u8 0, .int .u8 0] 58)) wr.heap.size 0 cs = W6 at *
      obtain ⟨s6, hs6⟩ : ∃ s6, s6 = wr.heap.size := ⟨_, rfl⟩
      have own6 : Hid ((Value.slice av nv cv).ownBlock ≠ some s6) := fun e => by have := (lw _ e).2; omega
      have own6b : Hid (∀ q, (Value.slice av nv cv).ownBlock = some q → q < W6.heap.size ∧ w3.heap.size ≤ q) := fun q e => by have := lw _ e; omega
      rw [← hs6] at R6 RD6 ⊢
      have CY : Hid (∀ W, Below W6.heap.size W6 W → (W.rangeAt s6 0 cs ∧ W.cell? ⟨w.heap.size, 0, none⟩ = some (.map (some b)))) := fun W m => ⟨(R6.up m).rangeG, (T6.up m).c0⟩
      have LKf : Hid (∀ W, Below W6.heap.size W6 W → (Instr.lookup 49 (.map (some b)) (.agg cs.toArray) false).run Try.prog W = .ok (.agg #[.int .i64 ee.pl, .int .i64 ee.un]) W) := fun W m => by
        obtain ⟨pa, pc, h1, h2⟩ := look_book0 (ownP O6 m) hkey.out
        obtain ⟨rfl, rfl⟩ := pmD_inj ((AT.out _).symm.trans h2)
        exact h1
      have CLf : Hid (∀ W, Below W6.heap.size W6 W → Calls Try.prog 39 #[.slice (some ⟨s6, 0, none⟩) 32 32] W fun e w' => ∃ a c, e = .returned (.slice a 32 c) ∧ RowB w' W6.heap.size (.slice a 32 c) ee.id ∧ Below W6.heap.size W6 w') := fun W m => by
        have h := cloneR_any W s6 (some ⟨s6, 0, none⟩) 32 ee.id (RD6.up m) (fun e => by cases e) (by rw [HE.out.1]; decide)
        rw [HE.out.1] at h
        refine h.mono ?_
        rintro e w' ⟨v', rfl, R, n⟩
        obtain ⟨a, c, g', rfl, -⟩ := R.own
        rw [HE.out.1] at R ⊢
        exact ⟨a, c, rfl, R.base m.size, nxt m n⟩
      have APf : Hid (∀ W a c, Below W6.heap.size W6 W → RowB W W6.heap.size (.slice a 32 c) ee.id → ∃ v' w', (Builtin.append_ #[27, 27] 27 #[.slice av nv cv, .slice (some ⟨W.heap.size, 0, none⟩) 1 1]).run Try.prog (W.alloc (.cells #[.slice a 32 c, .int .i64 ee.un] 46)) = .ok v' w' ∧ (MkR w3 E (k + 1) v' w' ∧ (w'.rangeAt s6 0 cs ∧ w'.cell? ⟨w.heap.size, 0, none⟩ = some (.map (some b))))) := fun W a c m R => by
        have na : Below W.heap.size W (W.alloc (.cells #[.slice a 32 c, .int .i64 ee.un] 46)) := (Below.refl _ _).alloc (Nat.le_refl _) _
        have mz := nxt m na
        have sz1 := m.size
        have sz2 := na.size
        obtain ⟨a', c', g', e', O1, O2, O3', O4⟩ := (R.up na).own
        rw [HE.out.1] at e'
        injection e' with e1 _ e3
        subst e1 e3
        have hp : RwC (W.alloc (.cells #[.slice a 32 c, .int .i64 ee.un] 46)) W.heap.size [.slice a (ee.un, ee.id).2.length c, .int .i64 (ee.un, ee.id).1] 46 := by
          show RwC _ _ [.slice a ee.id.length c, .int .i64 ee.un] _
          rw [HE.out.1]
          exact RwC.new W _ _
        obtain ⟨v', w', r1, r2, r3, r4, -⟩ := (RW6.of (w' := W.alloc (.cells #[.slice a 32 c, .int .i64 ee.un] 46)) (fun i hi _ => mz.block i hi)).appQ (ee.un, ee.id) ⟨a, c, g'⟩ W.heap.size hp (by omega) ⟨O1, O2, O3'⟩ W6.heap.size (by omega) (fun i hi h0' => RW6.lt hi h0') (fun q hq => (own6b.out q hq).1) O4 (by rw [mkOf_len, List.length_take]; have := HL.out; omega)
        obtain ⟨ra, rc, re, -⟩ := r2.slice
        have q6 := mz.size
        have lt6 := R6.lt
        have ltw := T6.lt
        refine ⟨v', w', r1, ⟨ra, _, rc, _, re, by rw [MT.out]; exact r2, (NW6.trans (mz.mono (by omega))).trans r4⟩, ?_⟩
        have h6 : RwC w' s6 cs 58 := (r3 s6 (by omega) own6.out).trans (R6.up mz)
        have hW : RwC w' w.heap.size [.map (some b)] 49 := (r4.block w.heap.size (T3.out.lt)).trans (T6.up mz)
        exact ⟨h6.rangeG, hW.c0⟩
      have nd : Below W6.heap.size W6 W6.drew := (Below.refl _ _).drew
      have bA : ∀ {W : World}, Below W6.heap.size W6 W → ∀ o, Below W6.heap.size W6 (W.alloc o) := fun n o => n.alloc n.size o
      have F1 := fldP1 ee.pl ee.un
      have uu := uId
      have LK0 := (unhide LKf) _ nd
      have CL0 := hide ((unhide CLf) _ nd)
      clear hs6 RW6 NW6 T6 O6 R6 RD6 lw l6 s63 HRW HNW NBX HR1 HR N3 T3 O3 HB AT hkey HE th1 one SZC RG0 own6 own6b
      generalize ee.un = un at *
      generalize ee.pl = pl at *
      go_region_held3 (fun W => W.rangeAt s6 0 cs ∧ W.cell? ⟨w.heap.size, 0, none⟩ = some (.map (some b)))
        (first | exact (unhide CY) _ nd | exact (unhide CY) _ nS | exact (unhide CY) _ (bA nS _) | exact SP)
        (first
          | (go_at_call 39; refine CL0.out.mono ?_; rintro rr ws ⟨ac, cc, rfl, RC, nS⟩; (have LK1 := (unhide LKf) _ nS); (have AP := hide ((unhide APf) ws ac cc nS RC)))
          | (refine step_append_exB rfl (.tmp 17) (.tmp 25) 27 27 rfl (.slice av nv cv) (.slice (some ⟨ws.heap.size, 0, none⟩) 1 1) rfl rfl _ AP.out ?_; rintro v9 wp ⟨hR, SP⟩)
          | fail)
      all_goals
        obtain ⟨a9, n9, c9, bs9, rfl, R9, N9⟩ := hR
        have HR9 := hide R9
        have HN9 := hide N9
        clear R9 N9 CY LKf CLf APf nd bA F1 LK0 CL0
        have hl2 := HL.out
        go_wp2
        go_roundw
        case rel => exact ⟨k + 1, by omega, by go_num, a9, n9, c9, bs9, rfl, HR9.out, HN9.out⟩
        case measure => simp [intOf]; omega
    · obtain rfl : k = E.length := by omega
      have FI : Hid (IRow wr w.heap.size (.slice av nv cv) (mkOf E) bs) := by
        have := RW.base (C := w.heap.size) (N3.out.size)
        rw [List.take_length] at this
        exact this
      have NF := hide (nxt N3.out NW)
      clear RW NW
      go_wp2
      go_ret
      exact ⟨⟨_, bs, rfl, FI.out⟩, NF.out⟩
end Go.Proofs.Ytjjoimlnpbelpaa

/-
  Windows that are asked: what is answered, no walk.
-/
namespace Go.Proofs.Ytjjoimlnpbelpaa
open Go Go.RowKit Go.Maps

set_option maxRecDepth 100000 in
def tmO (t : Int) : Bool := decide (0 ≤ t) && decide (t ≤ 253402300799)
set_option maxRecDepth 100000 in
def kept (ms : List Mrk) (now : Int) : List Ent := (entsTo ms ms.length).filter fun e => decide (now ≤ e.un)
set_option maxRecDepth 100000 in
def askE (wd : Int) (ms : List Mrk) (X : List Int) (now : Int) : List Ent := tkE (kept ms now) X (ms.length : Int) (now + 2 * wd)
set_option maxRecDepth 100000 in
def AskOk (wd : Int) (ms : List Mrk) (X : List Int) (now : Int) : Prop := wfV wd ms = 0 ∧ X.length = 32 ∧ tmO now = true
set_option maxRecDepth 100000 in
def askD (wd : Int) (ms : List Mrk) (X : List Int) (now : Int) : Decidable (AskOk wd ms X now) := by unfold AskOk; infer_instance
set_option maxRecDepth 100000 in
def askC (wd : Int) (ms : List Mrk) (X : List Int) (now : Int) : Int := @ite _ (AskOk wd ms X now) (askD wd ms X now) (tkC (kept ms now) X) 3
set_option maxRecDepth 100000 in
def askW (wd : Int) (ms : List Mrk) (X : List Int) (now : Int) : Int := @ite _ (AskOk wd ms X now) (askD wd ms X now) wd 0
set_option maxRecDepth 100000 in
def askM (wd : Int) (ms : List Mrk) (X : List Int) (now : Int) : List (Int × List Int) := @ite _ (AskOk wd ms X now) (askD wd ms X now) (mkOf (askE wd ms X now)) []
set_option maxRecDepth 100000 in
theorem wfV_zero {wd : Int} {ms : List Mrk} (h : wfV wd ms = 0) : wdO wd = true ∧ ms.length ≤ 64 ∧ IdOk ms ∧ utA ms = false := by
  unfold wfV at h
  split at h
  · cases h
  · rename_i h1
    split at h
    · cases h
    · rename_i h2
      split at h
      · cases h
      · rename_i h3
        split at h
        · cases h
        · rename_i h4
          exact ⟨by simpa using h1, by omega, Classical.not_not.1 h3, by simpa using h4⟩
set_option maxRecDepth 100000 in
theorem entsTo_len (ms : List Mrk) (k : Nat) : (entsTo ms k).length = k := by simp [entsTo]
set_option maxRecDepth 100000 in
theorem entsTo_asc (ms : List Mrk) (k : Nat) : (entsTo ms k).Pairwise (fun x y => x.pl < y.pl) := by
  unfold entsTo
  refine List.pairwise_map.2 (List.pairwise_lt_range.imp fun {a b} h => ?_)
  show (a : Int) < (b : Int)
  omega
set_option maxRecDepth 100000 in
theorem entsTo_pl {ms : List Mrk} {k : Nat} {e : Ent} (h : e ∈ entsTo ms k) : e.pl < (k : Int) := by
  unfold entsTo at h
  obtain ⟨i, hi, rfl⟩ := List.mem_map.1 h
  have : i < k := by simpa using hi
  show (i : Int) < (k : Int)
  omega
set_option maxRecDepth 100000 in
theorem kept_len (ms : List Mrk) (now : Int) : (kept ms now).length ≤ ms.length := by
  unfold kept
  have := List.length_filter_le (fun e : Ent => decide (now ≤ e.un)) (entsTo ms ms.length)
  rw [entsTo_len] at this
  exact this
set_option maxRecDepth 100000 in
theorem askE_asc (wd : Int) (ms : List Mrk) (X : List Int) (now : Int) : (askE wd ms X now).Pairwise (fun x y => x.pl < y.pl) := by
  have h : (kept ms now).Pairwise (fun x y => x.pl < y.pl) := (entsTo_asc ms ms.length).filter _
  unfold askE tkE
  split
  · rw [List.pairwise_append]
    refine ⟨h, List.pairwise_singleton _ _, fun x hx y hy => ?_⟩
    simp at hy
    subst hy
    exact entsTo_pl (List.mem_filter.1 hx).1
  · exact h
set_option maxRecDepth 100000 in
theorem askE_pos (wd : Int) (ms : List Mrk) (X : List Int) (now : Int) : 0 < (askE wd ms X now).length := by
  unfold askE tkE
  split
  · simp
  · rename_i h
    unfold tkC at h
    split at h
    · rename_i h1
      obtain ⟨e, he, _⟩ := h1
      exact List.length_pos_of_mem he
    · split at h
      · omega
      · exact absurd rfl h
set_option maxRecDepth 100000 in
theorem askE_len (wd : Int) (ms : List Mrk) (X : List Int) (now : Int) : (askE wd ms X now).length ≤ ms.length + 1 := by
  have := kept_len ms now
  unfold askE tkE
  split
  · simp
    omega
  · omega
end Go.Proofs.Ytjjoimlnpbelpaa
