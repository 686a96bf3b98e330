import Derived.Test.YtingekgcjnkljaaGW21
import Derived.Test.YtingekgcjnkljaaGW23
import Derived.Test.YtingekgcjnkljaaGW7

/-
  The window and the ids of FnWindowOnce's loop: what is known of them, no walk.
-/
namespace Go.Proofs.Ytingekgcjnkljaa
open Go Go.RowKit Go.Maps

/-- The block of a row, if it has one. -/
def obs (v : Value) : List Nat := match v.ownBlock with
  | some q => [q]
  | none => []
theorem mem_obs {v : Value} {q : Nat} : q ∈ obs v ↔ v.ownBlock = some q := by
  unfold obs
  cases h : v.ownBlock with
  | none => simp
  | some k => simp [eq_comm]
/-- A window's row as it stands: nothing of it lies in the blocks of S. -/
def WnR (W : World) (C : Nat) (S : List Nat) (v : Value) (ms : List Mrk) : Prop := ∃ its bs, KRow W C C v its bs ∧ toM its = ms ∧ (∀ i, i < ms.length → Byt (ms.getD i mrk0).id) ∧ (∀ q, q ∈ S → v.ownBlock ≠ some q) ∧ ∀ i, i < its.length → 0 < (its.getD i (0, [])).2.length → (bs.getD i plc0).q ∉ S
set_option maxRecDepth 100000 in
theorem WnR.of {w w' : World} {C : Nat} {S : List Nat} {v : Value} {ms : List Mrk} (h : WnR w C S v ms) (hb : ∀ k, k < w.heap.size → C ≤ k → k ∉ S → w'.heap[k]? = w.heap[k]?) : WnR w' C S v ms := by
  obtain ⟨its, bs, R, l, b, e1, e2⟩ := h
  refine ⟨its, bs, ⟨⟨R.o.1, ?_⟩, R.l, fun i hi => ?_, R.h⟩, l, b, e1, e2⟩
  · rcases R.o.2 with h' | ⟨g, cap, cur, rfl, hbg, hg, hnc, hcm, hcs, ht⟩
    · exact .inl h'
    · exact .inr ⟨g, cap, cur, rfl, hbg, by rw [hb g ((Array.getElem?_eq_some_iff.1 hg).1) (by omega) (fun m => e1 g m rfl)]; exact hg, hnc, hcm, hcs, ht⟩
  · exact rd_of (R.b i hi) fun h0 => hb _ ((R.b i hi).lt h0) (R.h i hi h0).1 (e2 i hi h0)
theorem WnR.up {w w' : World} {C : Nat} {S : List Nat} {v : Value} {ms : List Mrk} (h : WnR w C S v ms) (m : Below w.heap.size w w') : WnR w' C S v ms := h.of fun k hk _ _ => m.block k hk
set_option maxRecDepth 100000 in
theorem WnR.shut {w : World} {C : Nat} {S : List Nat} {v : Value} {ms : List Mrk} (h : WnR w C S v ms) (T : List Nat) (hT : ∀ q, q ∈ T → w.heap.size ≤ q ∨ q ∈ S) : WnR w C T v ms := by
  obtain ⟨its0, bs0, R0, l0, b0, e10, e20⟩ := h
  exact ⟨its0, bs0, R0, l0, b0, fun q hq e => by
      rcases hT q hq with h1 | h1
      · have := (R0.o.lt q e).2; omega
      · exact e10 q h1 e, fun i hi h0 hq => by
      rcases hT _ hq with h1 | h1
      · have := (R0.b i hi).lt h0; omega
      · exact e20 i hi h0 h1⟩
set_option maxRecDepth 100000 in
/-- What the old blocks let stand, and what the new ones shut out. -/
theorem WnR.move {w w' : World} {C : Nat} {S : List Nat} {v : Value} {ms : List Mrk} (h : WnR w C S v ms) (hb : ∀ k, k < w.heap.size → C ≤ k → k ∉ S → w'.heap[k]? = w.heap[k]?) (T : List Nat) (hT : ∀ q, q ∈ T → w.heap.size ≤ q ∨ q ∈ S) : WnR w' C T v ms := by
  obtain ⟨its, bs, R, l, b, e1, e2⟩ := h
  refine ⟨its, bs, ⟨⟨R.o.1, ?_⟩, R.l, fun i hi => ?_, R.h⟩, l, b, fun q hq e => ?_, fun i hi h0 hq => ?_⟩
  · rcases R.o.2 with h' | ⟨g, cap, cur, rfl, hbg, hg, hnc, hcm, hcs, ht⟩
    · exact .inl h'
    · exact .inr ⟨g, cap, cur, rfl, hbg, by rw [hb g ((Array.getElem?_eq_some_iff.1 hg).1) (by omega) (fun m => e1 g m rfl)]; exact hg, hnc, hcm, hcs, ht⟩
  · exact rd_of (R.b i hi) fun h0 => hb _ ((R.b i hi).lt h0) (R.h i hi h0).1 (e2 i hi h0)
  · rcases hT q hq with h1 | h1
    · have := (R.o.lt q e).2; omega
    · exact e1 q h1 e
  · rcases hT _ hq with h1 | h1
    · have := (R.b i hi).lt h0; omega
    · exact e2 i hi h0 h1
set_option maxRecDepth 100000 in
theorem WnR.rd {w : World} {C : Nat} {S : List Nat} {v : Value} {ms : List Mrk} (h : WnR w C S v ms) : ∃ g a c ps, v = .slice a ms.length c ∧ RdK w g a ms ps ∧ ∀ i, i < ms.length → Byt (ms.getD i mrk0).id := by
  obtain ⟨its, bs, R, rfl, b, -, -⟩ := h
  obtain ⟨g, a, c, e, r⟩ := R.rdK
  exact ⟨g, a, c, _, e, r, b⟩
set_option maxRecDepth 100000 in
theorem WnR.nil (w : World) (C : Nat) (S : List Nat) : WnR w C S (.slice none 0 0) [] := ⟨[], [], KRow.nil w C C, rfl, fun i h => absurd h (by simp), fun q _ => by simp [Value.ownBlock], fun i h => absurd h (by simp)⟩
set_option maxRecDepth 100000 in
theorem WnR.ofD {w : World} {C n : Nat} {v : Value} (h : DwR w C [] v n) : ∃ ms, WnR w C [] v ms := by
  obtain ⟨its, bs, R, l, b, e1, e2⟩ := h
  exact ⟨_, its, bs, R, rfl, fun i hi => by
    rw [toM_len] at hi
    rw [toM_get hi]
    exact (b i hi).1, e1, e2⟩
set_option maxRecDepth 100000 in
theorem WnR.ofI {w : World} {B C : Nat} {v : Value} {its : List (Int × List Int)} {bs : List Plc} (R : IRow w B v its bs) (hb : ∀ i, i < (toM its).length → Byt ((toM its).getD i mrk0).id) (hC : C ≤ B) (S : List Nat) (hS : ∀ q, q ∈ S → q < B) : WnR w C S v (toM its) :=
  ⟨its, bs, R.kRow.base hC hC, rfl, hb, fun q hq e => by have := (R.o.lt q e).1; have := hS q hq; omega, fun i hi h0 m => by have := (R.h i hi h0).1; have := hS _ m; omega⟩
set_option maxRecDepth 100000 in
/-- The ids behind a question are bytes. -/
theorem nxM_byt {wd : Int} {ms : List Mrk} {X : List Int} {now : Int} (ok : AskOk wd ms X now) (hb : ∀ i, i < ms.length → Byt (ms.getD i mrk0).id) (bX : Byt X) : ∀ i, i < (nxM wd ms X now).length → Byt ((nxM wd ms X now).getD i mrk0).id := by
  intro i hi
  have ln : (nxM wd ms X now).length = (askE wd ms X now).length := by rw [nxM_ok ok, List.length_map]
  have gt : (nxM wd ms X now).getD i mrk0 = ⟨((askE wd ms X now)[i]'(by omega)).id, ((askE wd ms X now)[i]'(by omega)).un⟩ := by
    rw [nxM_ok ok, List.getD_eq_getElem?_getD, List.getElem?_map, List.getElem?_eq_getElem (by omega)]
    rfl
  rw [gt]
  show Byt ((askE wd ms X now)[i]'(by omega)).id
  have hm : (askE wd ms X now)[i]'(by omega) ∈ askE wd ms X now := List.getElem_mem _
  generalize (askE wd ms X now)[i]'(by omega) = e at *
  have hk : ∀ e ∈ kept ms now, Byt e.id := fun e he => by
    obtain ⟨j, hj, rfl⟩ := mem_ents (List.mem_filter.1 he).1
    exact hb j hj
  unfold askE tkE at hm
  split at hm
  · rcases List.mem_append.1 hm with h | h
    · exact hk e h
    · simp only [List.mem_singleton] at h
      rw [h]
      exact bX
  · exact hk e hm
/-- Where the loop stands. -/
structure WoS (w wr : World) (p B : Nat) (wd : Int) (v vi : Value) (ms : List Mrk) (its : List (Int × List Int)) (bs : List Plc) (g3 : Nat) (a3 : Option Addr) (X : List Int) : Prop where
  P : RwC wr p [.int .i64 wd, v] 25
  V : WnR wr w.heap.size (p :: obs vi) v ms
  I : KRow wr B B vi its bs
  y : ∀ i, i < its.length → Byt (its.getD i (0, [])).2
  f : wfV wd ms = 0
  N : Below w.heap.size w wr
  b : w.heap.size ≤ p ∧ p < B ∧ B ≤ wr.heap.size ∧ (0 < X.length → g3 < B)
  E : Rd wr g3 a3 .u8 X
set_option maxRecDepth 100000 in
/-- Memory has grown. -/
theorem WoS.up {w wr W : World} {p B : Nat} {wd : Int} {v vi : Value} {ms : List Mrk} {its : List (Int × List Int)} {bs : List Plc} {g3 : Nat} {a3 : Option Addr} {X : List Int} (h : WoS w wr p B wd v vi ms its bs g3 a3 X) (n : Below wr.heap.size wr W) : WoS w W p B wd v vi ms its bs g3 a3 X :=
  ⟨h.P.up n, h.V.up n, h.I.of (Nat.le_refl _) (fun k hk _ => n.block k hk), h.y, h.f, nxt h.N n, ⟨h.b.1, h.b.2.1, Nat.le_trans h.b.2.2.1 n.size, h.b.2.2.2⟩, h.E.up n⟩
set_option maxRecDepth 100000 in
/-- The window that was answered is taken over. -/
theorem WoS.take {w W : World} {p B : Nat} {wd : Int} {v vi : Value} {ms : List Mrk} {its : List (Int × List Int)} {bs : List Plc} {g3 : Nat} {a3 : Option Addr} {X : List Int} (H : WoS w W p B wd v vi ms its bs g3 a3 X) (v2 : Value) (ms2 : List Mrk) (V2 : WnR W w.heap.size (p :: obs vi) v2 ms2) (f2 : wfV wd ms2 = 0) (hg : 0 < X.length → g3 ≠ p) :
    WoS w ((W.setCell ⟨p, 0, none⟩ (.int .i64 wd)).setCell ⟨p, 1, none⟩ v2) p B wd v2 vi ms2 its bs g3 a3 X := by
  have OF : Only p W ((W.setCell ⟨p, 0, none⟩ (.int .i64 wd)).setCell ⟨p, 1, none⟩ v2) := (Only.setCell _ _ 0 _).trans (Only.setCell _ _ 1 _)
  obtain ⟨b1, b2, b3, b4⟩ := H.b
  exact ⟨(H.P.set 0 _).set 1 _, V2.of (fun k hk hC hS => OF.block k (fun e => hS (by rw [e]; simp))), H.I.of (Nat.le_refl _) (fun k hk hB => OF.block k (by omega)), H.y, f2, H.N.trans (OF.below b1), ⟨b1, b2, by rw [OF.size]; exact b3, b4⟩, rd_of H.E (fun h0 => OF.block g3 (hg h0))⟩
set_option maxRecDepth 100000 in
/-- One id more is kept; its copy lies in block q. -/
theorem WoS.add {w wr W : World} {p B : Nat} {wd : Int} {v vi : Value} {ms : List Mrk} {its : List (Int × List Int)} {bs : List Plc} {g3 : Nat} {a3 : Option Addr} {X : List Int} (h : WoS w wr p B wd v vi ms its bs g3 a3 X) (n : Below wr.heap.size wr W) (hl : its.length ≤ 1000) (Y : List Int) (yY : Byt Y) (q : Nat) (a : Option Addr) (c : Nat) (hq : Rd W q a .u8 Y) (hq0 : wr.heap.size ≤ q) (un : Int) :
    ∃ v' W', (Builtin.append_ #[23, 23] 23 #[vi, .slice (some ⟨W.heap.size, 0, none⟩) 1 1]).run Try.prog (W.alloc (.cells #[.slice a Y.length c, .int .i64 un] 36)) = .ok v' W' ∧ (∃ a' l' c', v' = .slice a' l' c') ∧
      WoS w W' p B wd v v' ms (its ++ [(un, Y)]) (bs ++ [⟨a, c, q⟩]) g3 a3 X ∧ (∀ k, k < wr.heap.size → k ∉ obs vi → W'.heap[k]? = wr.heap[k]?) ∧ ∀ v2 ms2, WnR wr w.heap.size (p :: obs vi) v2 ms2 → WnR W' w.heap.size (p :: obs v') v2 ms2 := by
  have n1 : Below W.heap.size W (W.alloc (.cells #[.slice a Y.length c, .int .i64 un] 36)) := (Below.refl _ _).alloc (Nat.le_refl _) _
  have n2 := nxt n n1
  have H := h.up n2
  obtain ⟨b1, b2, b3, b4⟩ := H.b
  have ob := h.I.o.lt
  have z1 := n1.size
  have z2 := n.size
  obtain ⟨v', W', h1, h2, h3, h4, h5⟩ := H.I.appN [(un, Y)] [⟨a, c, q⟩] rfl W.heap.size (RwC.new W _ _) b3 (all1 (P := fun i => Rd (W.alloc (.cells #[.slice a Y.length c, .int .i64 un] 36)) ([(⟨a, c, q⟩ : Plc)].getD i plc0).q ([(⟨a, c, q⟩ : Plc)].getD i plc0).a .u8 ([(un, Y)].getD i (0, [])).2) (hq.up n1)) (fun i hi h0 => by
      obtain rfl : i = 0 := by simpa using hi
      exact ⟨by show B ≤ q; have := h.b.2.2.1; omega, fun e => by have := (ob q e).2; omega⟩) (by omega) (by simp)
  obtain ⟨a', c', e', -⟩ := h2.slice
  have keep : ∀ k, k < (W.alloc (.cells #[.slice a Y.length c, .int .i64 un] 36)).heap.size → k ∉ obs vi → W'.heap[k]? = (W.alloc (.cells #[.slice a Y.length c, .int .i64 un] 36)).heap[k]? := fun k hk hn => h4.block k hk (fun e => hn (mem_obs.2 (e.symm)))
  have MV : ∀ v2 ms2, WnR (W.alloc (.cells #[.slice a Y.length c, .int .i64 un] 36)) w.heap.size (p :: obs vi) v2 ms2 → WnR W' w.heap.size (p :: obs v') v2 ms2 := fun v2 ms2 V2 => V2.move (fun k hk _ hS => keep k hk (fun e => hS (List.mem_cons_of_mem _ e))) _ (fun k hk => by
      rcases List.mem_cons.1 hk with rfl | hk
      · exact .inr (by simp)
      · by_cases hlt : k < (W.alloc (.cells #[.slice a Y.length c, .int .i64 un] 36)).heap.size
        · by_cases ho : vi.ownBlock = some k
          · exact .inr (List.mem_cons_of_mem _ (mem_obs.2 ho))
          · exact absurd (mem_obs.1 hk) (h5 k hlt ho)
        · exact .inl (by omega))
  refine ⟨v', W', h1, ⟨a', _, c', e'⟩, ⟨(h3.block p b2).trans H.P, MV _ _ H.V, h2, fun i hi => ?_, h.f, H.N.trans (h3.mono (by omega)), ⟨b1, b2, Nat.le_trans b3 h3.size, b4⟩, rd_of H.E (fun h0 => h3.block g3 (b4 h0))⟩, fun k hk hn => (keep k (by omega) hn).trans (n2.block k hk), fun v2 ms2 V2 => MV v2 ms2 (V2.up n2)⟩
  by_cases hi' : i < its.length
  · have : (its ++ [(un, Y)]).getD i (0, []) = its.getD i (0, []) := by simp [List.getD, List.getElem?_append_left hi']
    rw [this]
    exact h.y i hi'
  · have ei : i = its.length := by simp at hi; omega
    subst ei
    have : (its ++ [(un, Y)]).getD its.length (0, []) = (un, Y) := by simp
    rw [this]
    exact yY
/-- What is known of the ids that were taken. -/
def IdK (now : Int) (ms : List Mrk) (its : List (Int × List Int)) : Prop := ∀ i, i < its.length → now ≤ (its.getD i (0, [])).1 → (⟨(its.getD i (0, [])).2, (its.getD i (0, [])).1⟩ : Mrk) ∈ ms
theorem IdK.nil (now : Int) (ms : List Mrk) : IdK now ms [] := fun i h => absurd h (by simp)
theorem IdK.next {now nw : Int} {ms ms2 : List Mrk} {its : List (Int × List Int)} (h : IdK now ms its) (hn : now ≤ nw) (st : ∀ m, m ∈ ms → nw ≤ m.un → m ∈ ms2) : IdK nw ms2 its := fun i hi hu => st _ (h i hi (by omega)) hu
theorem IdK.add {now : Int} {ms : List Mrk} {its : List (Int × List Int)} (h : IdK now ms its) {Y : List Int} {un : Int} (k : (⟨Y, un⟩ : Mrk) ∈ ms) : IdK now ms (its ++ [(un, Y)]) := by
  intro i hi hn
  by_cases hi' : i < its.length
  · have : (its ++ [(un, Y)]).getD i (0, []) = its.getD i (0, []) := by simp [List.getD, List.getElem?_append_left hi']
    rw [this] at hn ⊢
    exact h i hi' hn
  · have ei : i = its.length := by simp at hi; omega
    subst ei
    have : (its ++ [(un, Y)]).getD its.length (0, []) = (un, Y) := by simp
    rw [this]
    exact k
end Go.Proofs.Ytingekgcjnkljaa

/-
  A law's copy of a list, still its own to be appended to; a list of the input that is nil holds nothing.
-/
namespace Go.Proofs.Ytingekgcjnkljaa
open Go.RowKit

set_option maxHeartbeats 400000 in
theorem lwCopyO_any (w : World) (g : Nat) (a : Option Addr) (cap : Nat) (xs : List Int) (hr : Rd w g a .u8 xs) (hc : a = none → cap = 0) (hn : xs.length ≤ 1048576) :
    Calls Try.prog 10 #[.slice a xs.length cap] w fun e w' => ∃ v, e = .returned v ∧ w'.ownsRow w.heap.size 5 1 v xs.length (xs.map (Value.int .u8)) ∧ Below w.heap.size w w' := by
  obtain ⟨i0, hi, hz0, hz1, hz2⟩ := info_parts Try.info5
  have hown : (w.alloc (.cells #[] 5)).ownsRow w.heap.size 5 1 (.slice (some ⟨w.heap.size, 0, none⟩) 0 0) 0 [] := World.ownsRow_lit w #[] 0 (Nat.le_refl _) (by unfold maxLen; omega) (by simp)
  have hal : Below w.heap.size w (w.alloc (.cells #[] 5)) := (Below.refl _ _).alloc (Nat.le_refl _) _
  cases a with
  | none =>
    obtain rfl : xs = [] := by
      by_cases h0 : 0 < xs.length
      · obtain ⟨off, h, _⟩ := hr h0
        simp at h
      · exact List.eq_nil_of_length_eq_zero (by omega)
    obtain rfl := hc rfl
    go_enter Try.func10, Try.ntmps10
    go_wp2_with (at_builtin; refine wpList_append_own_none rfl _ _ 22 rfl w.heap.size 5 i0 1 Try.underlying22 hi _ 0 [] rfl hown rfl ?_)
    go_ret
    exact ⟨_, rfl, hown, hal⟩
  | some ad =>
    have hcell : ∀ j u, (xs.map (Value.int .u8))[j]? = some u → (w.alloc (.cells #[] 5)).cell? (ad.add j) = some u := by
      intro j u hj
      have hjl : j < xs.length := by
        have := (List.getElem?_eq_some_iff.1 hj).1
        simpa using this
      obtain ⟨off, ha, hcc⟩ := (hr.up hal) (by omega)
      simp only [Option.some.injEq] at ha
      subst ha
      rw [Addr.add_mid, hcc j hjl]
      simpa [hjl] using hj
    have hone : ∀ u ∈ xs.map (Value.int .u8), u.oneCell' = true := by
      intro u hu
      obtain ⟨x, _, rfl⟩ := List.mem_map.1 hu
      rfl
    go_enter Try.func10, Try.ntmps10
    go_wp2_with (at_builtin; refine wpList_append_own _ rfl _ _ 22 rfl w.heap.size 5 i0 (.int .u8 0) 1 1 Try.underlying22 hi hz0 hz1 hz2 rfl (by decide) (.slice (some ⟨w.heap.size, 0, none⟩) 0 0) 0 [] rfl hown ad xs.length cap (xs.map (Value.int .u8)) rfl (by simp) hcell hone (by unfold maxLen; omega) (by omega) (by simp) ?_; intro v' w1 hown' hgrow _)
    simp only [Nat.zero_add, List.nil_append] at hown'
    have hB : Below w.heap.size w w1 := hal.grown hgrow (by simp) (by intro k hk; simp [Value.ownBlock] at hk; omega)
    clear hgrow hown
    go_wp2
    go_ret
    exact ⟨_, rfl, hown', hB⟩
theorem rd_of_row0 {w : World} {a : Option Addr} {len cap : Nat} {zs : List Int}
    (h : (a = none ∧ len = 0 ∧ cap = 0 ∧ zs = []) ∨ ∃ x, a = some x ∧ len ≤ cap ∧ cap ≤ maxLen ∧ zs.length = cap ∧ (∀ i, i < zs.length → w.cell? (x.add i) = some (.int .u8 (zs.getD i 0))) ∧ ∀ n ∈ zs, (Lit.int .u8 n).wf = true) :
    ∃ (g : Nat) (xs : List Int), xs.length = len ∧ Rd w g a .u8 xs ∧ Byt xs ∧ (a = none → cap = 0) := by
  obtain ⟨g, xs, hl, r, b⟩ := rd_of_row h
  refine ⟨g, xs, hl, r, b, fun e => ?_⟩
  rcases h with ⟨_, _, h, _⟩ | ⟨_, h, _⟩
  · exact h
  · rw [h] at e
    exact nomatch e
end Go.Proofs.Ytingekgcjnkljaa
