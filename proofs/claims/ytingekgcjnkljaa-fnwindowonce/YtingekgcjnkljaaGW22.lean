import Derived.Test.YtingekgcjnkljaaGW7
import Derived.Test.YtingekgcjnkljaaGW19

/-
  A source that may be asked (cut out of DnA); rows of marks that may be read, appended to by some at once.
-/
namespace Go.Proofs.Ytingekgcjnkljaa
open Go Go.RowKit

/-- A source that may be asked. -/
structure Dra (w : World) (s g : Nat) (a : Option Addr) (c : Nat) (xs : List Int) (t : Int) : Prop where
  S : Src w s a xs.length c t
  R : Rd w g a .u8 xs
  ne : 0 < xs.length → g ≠ s
  hb : Byt xs
  hl : xs.length ≤ 1048576
  t0 : 0 ≤ t
theorem Dra.up {w w' : World} {s g : Nat} {a : Option Addr} {c : Nat} {xs : List Int} {t : Int} (h : Dra w s g a c xs t) (n : Below w.heap.size w w') : Dra w' s g a c xs t := ⟨h.S.up n, h.R.up n, h.ne, h.hb, h.hl, h.t0⟩
theorem next_D {w : World} {s g : Nat} {a : Option Addr} {c : Nat} {xs : List Int} {t n : Int} (d : Dra w s g a c xs t) (t1 : t ≤ 1048576) (n0 : 1 ≤ n) (n1 : n ≤ 1099511627776) :
    Calls Try.prog 18 #[.pointer (some ⟨s, 0, none⟩), .int .i64 n] w fun e w' => ∃ r : Nat, e = .returned (.int .i64 (r : Int)) ∧ (r : Int) < n ∧ Dra w' s g a c xs (t + 1) ∧ But s w w' := by
  refine (l1Next_any w s g a c xs t n d.S d.R d.ne d.hb d.hl d.t0 t1 n0 n1).mono ?_
  rintro e w' ⟨r, rfl, ⟨h0, h1⟩, S, O⟩
  obtain ⟨k, rfl⟩ := Int.eq_ofNat_of_zero_le h0
  have B := But.ofOnly O
  exact ⟨k, rfl, h1, ⟨S, d.R.but B d.ne, d.ne, d.hb, d.hl, by have := d.t0; omega⟩, B⟩
theorem chance_D {w : World} {s g : Nat} {a : Option Addr} {c : Nat} {xs : List Int} {t n : Int} (d : Dra w s g a c xs t) (t1 : t ≤ 1048576) (n0 : 1 ≤ n) (n1 : n ≤ 1048576) :
    Calls Try.prog 15 #[.pointer (some ⟨s, 0, none⟩), .int .i64 n] w fun e w' => ∃ b, e = .returned (.bool b) ∧ Dra w' s g a c xs (t + 1) ∧ But s w w' := by
  refine (l1Chance_any w s g a c xs t n d.S d.R d.ne d.hb d.hl d.t0 t1 n0 n1).mono ?_
  rintro e w' ⟨b, rfl, S, O⟩
  have B := But.ofOnly O
  exact ⟨b, rfl, ⟨S, d.R.but B d.ne, d.ne, d.hb, d.hl, by have := d.t0; omega⟩, B⟩
set_option maxRecDepth 100000 in
theorem itCs_app : ∀ (its : List (Int × List Int)) (bs : List Plc) (is2 : List (Int × List Int)) (b2 : List Plc), bs.length = its.length → itCs (its ++ is2) (bs ++ b2) = itCs its bs ++ itCs is2 b2
  | [], [], _, _, _ => rfl
  | [], _ :: _, _, _, h => by simp at h
  | _ :: _, [], _, _, h => by simp at h
  | y :: its, p :: bs, is2, b2, h => by
    show itC y p ++ itCs (its ++ is2) (bs ++ b2) = (itC y p ++ itCs its bs) ++ itCs is2 b2
    rw [itCs_app its bs is2 b2 (by simpa using h), List.append_assoc]
set_option maxRecDepth 100000 in
theorem itCs_one : ∀ (its : List (Int × List Int)) (bs : List Plc), ∀ u ∈ itCs its bs, u.oneCell' = true
  | [], _, u, h => by simp [itCs] at h
  | _ :: _, [], u, h => by simp [itCs] at h
  | y :: its, p :: bs, u, h => by
    rcases List.mem_append.1 (show u ∈ itC y p ++ itCs its bs from h) with h | h
    · simp only [itC, List.mem_cons, List.not_mem_nil, or_false] at h
      rcases h with rfl | rfl <;> rfl
    · exact itCs_one its bs u h
set_option maxRecDepth 100000 in
/-- Some items more at once. -/
theorem KRow.appN {w : World} {C B : Nat} {v : Value} {its : List (Int × List Int)} {bs : List Plc} (h : KRow w C B v its bs) (xs : List (Int × List Int)) (qs : List Plc) (hqs : qs.length = xs.length) (p0 : Nat) (hp0 : RwC w p0 (itCs xs qs) 36) (hB : B ≤ w.heap.size) (hq : ∀ i, i < xs.length → Rd w (qs.getD i plc0).q (qs.getD i plc0).a .u8 (xs.getD i (0, [])).2) (hqr : ∀ i, i < xs.length → 0 < (xs.getD i (0, [])).2.length → C ≤ (qs.getD i plc0).q ∧ v.ownBlock ≠ some (qs.getD i plc0).q) (hl : its.length ≤ 1048576) (hx : xs.length ≤ 1000) :
    ∃ v' w', (Builtin.append_ #[23, 23] 23 #[v, .slice (some ⟨p0, 0, none⟩) xs.length xs.length]).run Try.prog w = .ok v' w' ∧ KRow w' C B v' (its ++ xs) (bs ++ qs) ∧ Below B w w' ∧ w.grownBy w' v.ownBlock ∧ (∀ p, p < w.heap.size → v.ownBlock ≠ some p → v'.ownBlock ≠ some p) := by
  obtain ⟨i, hi, hz, hs, hby⟩ := info_parts iInfo
  have h0 : w.ownsRow B 36 2 v its.length (itCs its bs) := h.o
  have hcell : ∀ j u, (itCs xs qs)[j]? = some u → w.cell? ((⟨p0, 0, none⟩ : Addr).add j) = some u := by
    intro j u hj
    rw [Addr.add_mid, Nat.zero_add, hp0.cell j]
    exact hj
  obtain ⟨v', w', h1, h2, h3, h4, h5⟩ := run_append_own_at (P := Try.prog) w B 23 23 36 i (.agg #[.slice none 0 0, .int .i64 0]) 2 32 iUnd hi hz hs hby rfl (by decide) v its.length (itCs its bs) h0 ⟨p0, 0, none⟩ xs.length xs.length (itCs xs qs) (by rw [itCs_len xs qs hqs]) hcell (itCs_one xs qs) (by unfold maxLen; omega) (by omega) hB
  have keep : ∀ k, k < w.heap.size → v.ownBlock ≠ some k → w'.heap[k]? = w.heap[k]? := fun k hk hne => h3.block k (by omega) (fun e => hne e.symm)
  have ob := h.o.lt
  have A1 : ∀ j, j < its.length → (bs ++ qs).getD j plc0 = bs.getD j plc0 := fun j hj => by
    have : j < bs.length := by rw [h.l]; exact hj
    simp [List.getD, List.getElem?_append_left this]
  have A2 : ∀ j, j < its.length → (its ++ xs).getD j (0, []) = its.getD j (0, []) := fun j hj => by simp [List.getD, List.getElem?_append_left hj]
  have A3 : ∀ j, ¬ j < its.length → (bs ++ qs).getD j plc0 = qs.getD (j - its.length) plc0 := fun j hj => by
    simp [List.getD, List.getElem?_append_right (show bs.length ≤ j by rw [h.l]; omega), h.l]
  have A4 : ∀ j, ¬ j < its.length → (its ++ xs).getD j (0, []) = xs.getD (j - its.length) (0, []) := fun j hj => by
    simp [List.getD, List.getElem?_append_right (show its.length ≤ j by omega)]
  have LT : ∀ p, p < w.heap.size → v.ownBlock ≠ some p → v'.ownBlock ≠ some p := fun p hp hn => by
    rcases h5 with h5 | h5
    · rw [h5]; exact hn
    · rw [h5]
      intro e
      have e := Option.some.inj e
      omega
  refine ⟨v', w', h1, ⟨?_, by simp [h.l, hqs], fun j hj => ?_, fun j hj h0' => ?_⟩, (Below.refl B w).grown h3 (by omega) (fun k hk => (ob k hk).1), h3, LT⟩
  · show w'.ownsRow B 36 2 v' (its ++ xs).length (itCs (its ++ xs) (bs ++ qs))
    rw [itCs_app its bs xs qs h.l, List.length_append]
    exact h2
  · by_cases hj' : j < its.length
    · rw [A1 j hj', A2 j hj']
      exact rd_of (h.b j hj') fun h0' => keep _ ((h.b j hj').lt h0') (h.h j hj' h0').2
    · have hk : j - its.length < xs.length := by rw [List.length_append] at hj; omega
      rw [A3 j hj', A4 j hj']
      exact rd_of (hq _ hk) fun h0' => keep _ ((hq _ hk).lt h0') (hqr _ hk h0').2
  · by_cases hj' : j < its.length
    · rw [A2 j hj'] at h0'
      rw [A1 j hj']
      exact ⟨(h.h j hj' h0').1, LT _ ((h.b j hj').lt h0') (h.h j hj' h0').2⟩
    · have hk : j - its.length < xs.length := by rw [List.length_append] at hj; omega
      rw [A4 j hj'] at h0'
      rw [A3 j hj']
      exact ⟨(hqr _ hk h0').1, LT _ ((hq _ hk).lt h0') (hqr _ hk h0').2⟩
set_option maxRecDepth 100000 in
theorem KRow.base {w : World} {C B C' B' : Nat} {v : Value} {its : List (Int × List Int)} {bs : List Plc} (R : KRow w C B v its bs) (hC : C' ≤ C) (hB : B' ≤ B) : KRow w C' B' v its bs :=
  ⟨⟨R.o.1, by
      rcases R.o.2 with h' | ⟨g, cap, cur, e1, hbg, h3⟩
      · exact .inl h'
      · exact .inr ⟨g, cap, cur, e1, by omega, h3⟩⟩, R.l, R.b, fun i hi h0 => ⟨by have := (R.h i hi h0).1; omega, (R.h i hi h0).2⟩⟩
/-- A drawn id: bytes, not many. -/
def ItO (x : List Int) (q : Plc) : Prop := Byt x ∧ x.length ≤ 100 ∧ (q.a = none → q.c = 0)
/-- A drawn row of marks: at most n, each with bytes as its id; nothing of it lies in the blocks of S. -/
def DwR (w : World) (C : Nat) (S : List Nat) (v : Value) (n : Nat) : Prop := ∃ its bs, KRow w C C v its bs ∧ its.length ≤ n ∧ (∀ i, i < its.length → ItO (its.getD i (0, [])).2 (bs.getD i plc0)) ∧ (∀ q, q ∈ S → v.ownBlock ≠ some q) ∧ ∀ i, i < its.length → 0 < (its.getD i (0, [])).2.length → (bs.getD i plc0).q ∉ S
set_option maxRecDepth 100000 in
theorem DwR.nil (w : World) (C : Nat) (S : List Nat) (n : Nat) : DwR w C S (.slice none 0 0) n := ⟨[], [], KRow.nil w C C, by simp, fun i h => absurd h (by simp), fun q _ => by simp [Value.ownBlock], fun i h => absurd h (by simp)⟩
set_option maxRecDepth 100000 in
theorem DwR.mono {w : World} {C n m : Nat} {S : List Nat} {v : Value} (h : DwR w C S v n) (k : n ≤ m) : DwR w C S v m := by
  obtain ⟨its, bs, R, l, b, e⟩ := h
  exact ⟨its, bs, R, by omega, b, e⟩
set_option maxRecDepth 100000 in
theorem DwR.base {w : World} {B C n : Nat} {S : List Nat} {v : Value} (h : DwR w B S v n) (k : C ≤ B) : DwR w C S v n := by
  obtain ⟨its, bs, R, l, b, e⟩ := h
  exact ⟨its, bs, R.base k k, l, b, e⟩
set_option maxRecDepth 100000 in
theorem DwR.of {w w' : World} {C n : Nat} {S : List Nat} {v : Value} (h : DwR w C S v n) (hb : ∀ k, k < w.heap.size → C ≤ k → k ∉ S → w'.heap[k]? = w.heap[k]?) : DwR w' C S v n := by
  obtain ⟨its, bs, R, l, b, e1, e2⟩ := h
  refine ⟨its, bs, ⟨⟨R.o.1, ?_⟩, R.l, fun i hi => ?_, R.h⟩, l, b, e1, e2⟩
  · rcases R.o.2 with h' | ⟨g, cap, cur, rfl, hbg, hg, hnc, hcm, hcs, ht⟩
    · exact .inl h'
    · exact .inr ⟨g, cap, cur, rfl, hbg, by rw [hb g ((Array.getElem?_eq_some_iff.1 hg).1) (by omega) (fun m => e1 g m rfl)]; exact hg, hnc, hcm, hcs, ht⟩
  · exact rd_of (R.b i hi) fun h0 => hb _ ((R.b i hi).lt h0) (R.h i hi h0).1 (e2 i hi h0)
set_option maxRecDepth 100000 in
theorem DwR.but {w w' : World} {C n q : Nat} {S : List Nat} {v : Value} (h : DwR w C S v n) (o : But q w w') (hq : q < C) : DwR w' C S v n := h.of fun k hk hB _ => o.block k hk (by omega)
theorem DwR.up {w w' : World} {C n : Nat} {S : List Nat} {v : Value} (h : DwR w C S v n) (m : Below w.heap.size w w') : DwR w' C S v n := h.of fun k hk _ _ => m.block k hk
set_option maxRecDepth 100000 in
theorem DwR.onl {w w' : World} {C n q : Nat} {S : List Nat} {v : Value} (h : DwR w C S v n) (o : Only q w w') (hq : q ∈ S) : DwR w' C S v n := h.of fun k hk hB hS => o.block k (fun e => hS (by rw [e]; exact hq))
set_option maxRecDepth 100000 in
/-- What is made later may be shut out too. -/
theorem DwR.shut {w w' : World} {C n : Nat} {S : List Nat} {v : Value} (h : DwR w C S v n) (m : Below w.heap.size w w') (T : List Nat) (hT : ∀ q, q ∈ T → w.heap.size ≤ q ∨ q ∈ S) : DwR w' C T v n := by
  obtain ⟨its, bs, R, l, b, e1, e2⟩ := h.up m
  obtain ⟨its0, bs0, R0, l0, b0, e10, e20⟩ := h
  have key : DwR w C T v n := ⟨its0, bs0, R0, l0, b0, fun q hq e => by
      rcases hT q hq with h1 | h1
      · have := (R0.o.lt q e).2; omega
      · exact e10 q h1 e, fun i hi h0 hq => by
      rcases hT _ hq with h1 | h1
      · have := (R0.b i hi).lt h0; omega
      · exact e20 i hi h0 h1⟩
  exact key.up m
set_option maxRecDepth 100000 in
theorem DwR.shut0 {w : World} {C n : Nat} {S : List Nat} {v : Value} (h : DwR w C S v n) : DwR w C [] v n := h.shut (Below.refl _ _) [] (fun q h => by simp at h)
set_option maxRecDepth 100000 in
theorem DwR.slice {w : World} {C n : Nat} {S : List Nat} {v : Value} (h : DwR w C S v n) : ∃ a l c, v = .slice a l c ∧ l ≤ n ∧ (a = none → c = 0) := by
  obtain ⟨its, bs, R, l, -⟩ := h
  obtain ⟨a, c, e, h'⟩ := R.slice
  exact ⟨a, _, c, e, l, h'⟩
/-- What an append leaves of such a row. -/
def DwA (W w' : World) (C : Nat) (S : List Nat) (v v' : Value) (n m : Nat) : Prop := DwR w' C S v' n ∧ (∀ a l c, v = .slice a l c → ∃ a' c', v' = .slice a' (l + m) c') ∧ Below C W w' ∧ ∀ k, k < W.heap.size → (k < C ∨ k ∈ S) → w'.heap[k]? = W.heap[k]?
set_option maxRecDepth 100000 in
theorem DwR.addN {W0 W : World} {C n : Nat} {S : List Nat} {v : Value} (h0 : DwR W0 C S v n) (hb : ∀ k, k < W0.heap.size → C ≤ k → k ∉ S → W.heap[k]? = W0.heap[k]?) (hs : W0.heap.size ≤ W.heap.size) (hC : C ≤ W0.heap.size) (hS : ∀ q, q ∈ S → q < W0.heap.size) (hn : n ≤ 1000) (xs : List (Int × List Int)) (qs : List Plc) (hqs : qs.length = xs.length) (hx : xs.length ≤ 1000) (bx : ∀ i, i < xs.length → ItO (xs.getD i (0, [])).2 (qs.getD i plc0))
    (hq : ∀ i, i < xs.length → Rd W (qs.getD i plc0).q (qs.getD i plc0).a .u8 (xs.getD i (0, [])).2) (hq0 : ∀ i, i < xs.length → W0.heap.size ≤ (qs.getD i plc0).q) :
    ∃ v' w', (Builtin.append_ #[23, 23] 23 #[v, .slice (some ⟨W.heap.size, 0, none⟩) xs.length xs.length]).run Try.prog (W.alloc (.cells (itCs xs qs).toArray 36)) = .ok v' w' ∧ DwA W w' C S v v' (n + xs.length) xs.length := by
  have n1 : Below W.heap.size W (W.alloc (.cells (itCs xs qs).toArray 36)) := (Below.refl _ _).alloc (Nat.le_refl _) _
  have R1' := h0.of (w' := W) hb
  obtain ⟨its, bs, R, l, b, e1, e2⟩ := h0
  have ob := R.o.lt
  have zz := n1.size
  have sz1 : (W.alloc (.cells (itCs xs qs).toArray 36)).heap.size = W.heap.size + 1 := by simp
  have R1 : KRow (W.alloc (.cells (itCs xs qs).toArray 36)) C C v its bs := by
    refine ⟨⟨R.o.1, ?_⟩, R.l, fun i hi => ?_, R.h⟩
    · rcases R.o.2 with h' | ⟨g, cap, cur, rfl, hbg, hg, hnc, hcm, hcs, ht⟩
      · exact .inl h'
      · have gl := (Array.getElem?_eq_some_iff.1 hg).1
        exact .inr ⟨g, cap, cur, rfl, hbg, by rw [n1.block g (by omega), hb g gl (by omega) (fun m => e1 g m rfl)]; exact hg, hnc, hcm, hcs, ht⟩
    · exact rd_of (R.b i hi) fun h0 => by
        have := (R.b i hi).lt h0
        rw [n1.block _ (by omega), hb _ this (R.h i hi h0).1 (e2 i hi h0)]
  obtain ⟨v', w', h1, h2, h3, h4, h5⟩ := R1.appN xs qs hqs W.heap.size (RwC.new W _ _) (by omega) (fun i hi => (hq i hi).up n1) (fun i hi _ => ⟨by have := hq0 i hi; omega, fun e => by have := (ob _ e).2; have := hq0 i hi; omega⟩) (by omega) hx
  obtain ⟨a', c', e', -⟩ := h2.slice
  have keep : ∀ k, k < W.heap.size → v.ownBlock ≠ some k → w'.heap[k]? = W.heap[k]? := fun k hk hne => (h4.block k (by omega) (fun e => hne e.symm)).trans (n1.block k hk)
  have A1 : ∀ j, j < its.length → (bs ++ qs).getD j plc0 = bs.getD j plc0 := fun j hj => by
    have : j < bs.length := by rw [R.l]; exact hj
    simp [List.getD, List.getElem?_append_left this]
  have A2 : ∀ j, j < its.length → (its ++ xs).getD j (0, []) = its.getD j (0, []) := fun j hj => by simp [List.getD, List.getElem?_append_left hj]
  have A3 : ∀ j, ¬ j < its.length → (bs ++ qs).getD j plc0 = qs.getD (j - its.length) plc0 := fun j hj => by
    simp [List.getD, List.getElem?_append_right (show bs.length ≤ j by rw [R.l]; omega), R.l]
  have A4 : ∀ j, ¬ j < its.length → (its ++ xs).getD j (0, []) = xs.getD (j - its.length) (0, []) := fun j hj => by
    simp [List.getD, List.getElem?_append_right (show its.length ≤ j by omega)]
  have OB : ∀ q, q ∈ S → v'.ownBlock ≠ some q := fun q hqS => h5 q (by have := hS q hqS; omega) (e1 q hqS)
  refine ⟨v', w', h1, ⟨its ++ xs, bs ++ qs, h2, by simp; omega, fun i hi => ?_, OB, fun i hi h0' => ?_⟩, (fun a l c e => by
    obtain ⟨a0, c0, e0, -⟩ := R.slice
    rw [e0] at e
    simp only [Value.slice.injEq] at e
    obtain ⟨-, rfl, -⟩ := e
    exact ⟨a', c', by rw [e', List.length_append]⟩), (n1.mono (by omega)).trans h3, fun k hk hk2 => keep k hk (fun e => ?_)⟩
  · by_cases hi' : i < its.length
    · rw [A2 i hi', A1 i hi']
      exact b i hi'
    · rw [A4 i hi', A3 i hi']
      exact bx _ (by rw [List.length_append] at hi; omega)
  · by_cases hi' : i < its.length
    · rw [A2 i hi'] at h0'
      rw [A1 i hi']
      exact e2 i hi' h0'
    · rw [A3 i hi']
      have hk : i - its.length < xs.length := by rw [List.length_append] at hi; omega
      exact fun m => by have := hS _ m; have := hq0 _ hk; omega
  · rcases hk2 with h | h
    · have := (ob k e).1; omega
    · exact e1 k h e
/-- But block s, nothing below C and nothing in the blocks of S has turned. -/
structure LoC (C s : Nat) (S : List Nat) (w w' : World) : Prop where
  os : w'.os = w.os
  tape : w'.tape = w.tape
  output : w'.output = w.output
  size : w.heap.size ≤ w'.heap.size
  block : ∀ k, k < w.heap.size → (k < C ∨ k ∈ S) → k ≠ s → w'.heap[k]? = w.heap[k]?
theorem LoC.refl (C s : Nat) (S : List Nat) (w : World) : LoC C s S w w := ⟨rfl, rfl, rfl, Nat.le_refl _, fun _ _ _ _ => rfl⟩
theorem LoC.but {C s : Nat} {S : List Nat} {a b c : World} (h : LoC C s S a b) (n : But s b c) : LoC C s S a c :=
  ⟨n.os.trans h.os, n.tape.trans h.tape, n.output.trans h.output, Nat.le_trans h.size n.size, fun k hk h1 hn => (n.block k (Nat.lt_of_lt_of_le hk h.size) hn).trans (h.block k hk h1 hn)⟩
theorem LoC.onl {C s : Nat} {S : List Nat} {a b c : World} (h : LoC C s S a b) {q : Nat} (n : Only q b c) (hq : a.heap.size ≤ q) : LoC C s S a c :=
  ⟨n.os.trans h.os, n.tape.trans h.tape, n.output.trans h.output, by rw [n.size]; exact h.size, fun k hk h1 hn => (n.block k (by omega)).trans (h.block k hk h1 hn)⟩
theorem LoC.app {C s n m : Nat} {S T : List Nat} {a b c : World} {v v' : Value} (h : LoC C s S a b) (A : DwA b c C T v v' n m) (hT : ∀ q, q ∈ S → q ∈ T) : LoC C s S a c :=
  ⟨A.2.2.1.os.trans h.os, A.2.2.1.tape.trans h.tape, A.2.2.1.output.trans h.output, Nat.le_trans h.size A.2.2.1.size, fun k hk h1 hn => (A.2.2.2 k (Nat.lt_of_lt_of_le hk h.size) (h1.imp id (hT k))).trans (h.block k hk h1 hn)⟩
theorem LoC.below {C s : Nat} {S : List Nat} {a b c : World} (h : LoC C s S a b) (n : Below b.heap.size b c) : LoC C s S a c := h.but (But.ofBelow n)
theorem LoC.toBut {s : Nat} {S : List Nat} {a b : World} (h : LoC a.heap.size s S a b) : But s a b := ⟨h.os, h.tape, h.output, h.size, fun k hk hn => h.block k hk (.inl hk) hn⟩
theorem Dra.at' {w w' : World} {s g : Nat} {a : Option Addr} {c : Nat} {xs : List Int} {t : Int} (h : Dra w s g a c xs t) (hs : w'.heap[s]? = w.heap[s]?) (hg : 0 < xs.length → w'.heap[g]? = w.heap[g]?) : Dra w' s g a c xs t :=
  ⟨h.S.of_block hs, rd_of h.R hg, h.ne, h.hb, h.hl, h.t0⟩
theorem RwC.but {W W' : World} {p s : Nat} {zs : List Value} {t : TypeId} (h : RwC W p zs t) (k : But s W W') (hp : p ≠ s) : RwC W' p zs t := (k.block p h.lt hp).trans h
end Go.Proofs.Ytingekgcjnkljaa

/-
  The laws lwAt and lw32.
-/
namespace Go.Proofs.Ytingekgcjnkljaa
open Go.RowKit

set_option maxHeartbeats 2000000 in
theorem lwAt_any (w : World) (g : Nat) (a : Option Addr) (c : Nat) (xs : List Int) (i n : Int) (hr : Rd w g a .u8 xs) (hb : Byt xs) (hl : xs.length ≤ 1048576) (i0 : 0 ≤ i) (i1 : i ≤ 1000) (n0 : 2 ≤ n) (n1 : n ≤ 1048576) :
    Calls Try.prog 7 #[.slice a xs.length c, .int .i64 i, .int .i64 n] w fun e w' => ∃ r : Nat, e = .returned (.int .i64 (r : Int)) ∧ (r : Int) < n ∧ ∃ m, w' = w.drewN m := by
  have tn : decide (n ≤ 1) = false := by simp; omega
  by_cases h0 : xs.length = 0
  · have hk : ((xs.length : Int) == 0) = true := by simp [h0]
    obtain ⟨r, hr'⟩ := Int.eq_ofNat_of_zero_le (Int.emod_nonneg (i * 7) (show n ≠ 0 by omega))
    have r1 := Int.emod_lt_of_pos (i * 7) (show 0 < n by omega)
    rw [hr'] at r1
    have HR := hide hr'
    clear h0 hr'
    go_enter Try.func7, Try.ntmps7
    go_wp2
    go_ret
    exact ⟨r, congrArg (fun v => Ending.returned (.int .i64 v)) HR.out, r1, 0, rfl⟩
  · have hk : ((xs.length : Int) == 0) = false := beq_eq_false_iff_ne.2 (by omega)
    obtain ⟨off, rfl, hc⟩ := hr (by omega)
    obtain ⟨j1, hi1⟩ := Int.eq_ofNat_of_zero_le (Int.emod_nonneg i (show (xs.length : Int) ≠ 0 by omega))
    have li1 : (j1 : Int) < (xs.length : Int) := by rw [← hi1]; exact Int.emod_lt_of_pos _ (by omega)
    obtain ⟨j2, hi2⟩ := Int.eq_ofNat_of_zero_le (Int.emod_nonneg (i + 1) (show (xs.length : Int) ≠ 0 by omega))
    have li2 : (j2 : Int) < (xs.length : Int) := by rw [← hi2]; exact Int.emod_lt_of_pos _ (by omega)
    obtain ⟨q, hq⟩ : ∃ q, i / (xs.length : Int) = q := ⟨_, rfl⟩
    have q0 : 0 ≤ q := by rw [← hq]; exact Int.ediv_nonneg i0 (by omega)
    have q1 : q ≤ 1000 := by rw [← hq]; exact Int.le_trans (Int.ediv_le_self _ i0) i1
    have x1 := hc j1 (by omega)
    have x2 := hc j2 (by omega)
    have b1 := hb j1
    have b2 := hb j2
    generalize xs.getD j1 0 = x at *
    generalize xs.getD j2 0 = y at *
    clear hc hr h0
    by_cases hn : n ≤ 200
    · have tn2 : decide (200 < n) = false := by simp; omega
      obtain ⟨r, hr'⟩ := Int.eq_ofNat_of_zero_le (Int.emod_nonneg (x + q) (show n ≠ 0 by omega))
      have r1 := Int.emod_lt_of_pos (x + q) (show 0 < n by omega)
      rw [hr'] at r1
      have HR := hide hr'
      clear x2 hi2 li2 b2 hr'
      go_enter Try.func7, Try.ntmps7
      go_wp2
      go_quiet (fail)
      go_wp2
      go_ret
      exact ⟨r, congrArg (fun v => Ending.returned (.int .i64 v)) HR.out, r1, _, rfl⟩
    · have tn2 : decide (200 < n) = true := by simp; omega
      obtain ⟨r, hr'⟩ := Int.eq_ofNat_of_zero_le (Int.emod_nonneg ((x + q) * 37 + y) (show n ≠ 0 by omega))
      have r1 := Int.emod_lt_of_pos ((x + q) * 37 + y) (show 0 < n by omega)
      rw [hr'] at r1
      have HR := hide hr'
      clear hr'
      go_enter Try.func7, Try.ntmps7
      go_wp2
      go_quiet (fail)
      go_wp2
      go_ret
      exact ⟨r, congrArg (fun v => Ending.returned (.int .i64 v)) HR.out, r1, _, rfl⟩

set_option maxHeartbeats 2000000 in
theorem lwAt_small (w : World) (a : Option Addr) (c m : Nat) (i n : Int) (n1 : n ≤ 1) : Calls Try.prog 7 #[.slice a m c, .int .i64 i, .int .i64 n] w fun e w' => e = .returned (.int .i64 0) ∧ w' = w := by
  have tn : decide (n ≤ 1) = true := by simpa using n1
  go_enter Try.func7, Try.ntmps7
  go_wp2
  go_ret
  exact ⟨rfl, rfl⟩

/-- 'copy' into a block that is known whole, of as much as fits. -/
theorem copy_min {P : Program} (w : World) (ty rt e : TypeId) (hu : P.underlying ty = some (.slice e)) (hsz : (P.info? e).map (·.size) = some 1) {g : Nat} {k : IntKind} {zs : List Int} (hB : Blk w g k zs)
    (gs : Nat) (sp : Option Addr) (ys : List Int) (hr : Rd w gs sp k ys) (dc sc : Nat) :
    ∃ w2, (Builtin.copy_ #[ty, ty] rt #[.slice (some ⟨g, 0, none⟩) zs.length dc, .slice sp ys.length sc]).run P w = .ok (goInt (ys.take zs.length).length) w2 ∧ Blk w2 g k (ys.take zs.length ++ zs.drop (ys.take zs.length).length) ∧ Only g w w2 := by
  by_cases h0 : 0 < ys.length
  · obtain ⟨off, rfl, hc⟩ := hr h0
    obtain ⟨t, hB⟩ := hB
    have hrun := run_copy_row (P := P) w ty ty rt e g 0 zs.length dc ⟨gs, off, none⟩ ys.length sc _ t ((ys.take zs.length).map (Value.int k)) hu hsz hB (by simp [Nat.min_comm])
      (fun j v hj => by
        have hjl : j < (ys.take zs.length).length := by
          have := (List.getElem?_eq_some_iff.1 hj).1
          simpa using this
        have hj1 : j < ys.length := by simp at hjl; omega
        have hj2 : j < zs.length := by simp at hjl; omega
        rw [add_mid, hc j hj1]
        simpa [hj1, hj2, List.getElem?_take] using hj) (by simp; omega) (oneCells _ _)
    rw [List.length_map] at hrun
    refine ⟨_, hrun, ⟨t, ?_⟩, ⟨rfl, rfl, rfl, by simp, fun i hi => setRow_other w g i _ hi⟩⟩
    rw [setRow_heap w g _ _ t _ hB]
    simp
  · obtain rfl : ys = [] := List.eq_nil_of_length_eq_zero (by omega)
    exact ⟨w, by simpa using run_copy_none (P := P) w ty ty rt e _ _ _ _ _ _ hu hsz (by simp), by simpa using hB, Only.refl _ _⟩

/-- Thirty-two bytes of a list. -/
def to32 (xs : List Int) : List Int := xs.take 32 ++ (List.replicate 32 0).drop (xs.take 32).length

theorem to32_len (xs : List Int) : (to32 xs).length = 32 := by
  unfold to32
  rw [List.length_append, List.length_drop, List.length_replicate, List.length_take]
  omega

theorem to32_byt {xs : List Int} (h : Byt xs) : Byt (to32 xs) := by
  intro i
  unfold to32
  by_cases hi : i < (xs.take 32).length
  · have h1 := h i
    have h2 : i < 32 := by simp at hi; omega
    have e : (xs.take 32 ++ (List.replicate 32 (0 : Int)).drop (xs.take 32).length).getD i 0 = xs.getD i 0 := by
      rw [List.getD_eq_getElem?_getD, List.getElem?_append, if_pos hi, List.getElem?_take, if_pos h2, List.getD_eq_getElem?_getD]
    rw [e]; exact h1
  · rw [List.getD_eq_getElem?_getD, List.getElem?_append, if_neg hi, List.getElem?_drop, List.getElem?_replicate]
    split <;> simp

set_option maxRecDepth 100000 in
set_option maxHeartbeats 1000000 in
theorem lw32_any (w : World) (g : Nat) (a : Option Addr) (c : Nat) (xs : List Int) (ha : Rd w g a .u8 xs) :
    Calls Try.prog 6 #[.slice a xs.length c] w fun e w' => e = .returned (.slice (some ⟨w.heap.size, 0, none⟩) 32 32) ∧ Blk w' w.heap.size .u8 (to32 xs) ∧ Below w.heap.size w w' := by
  obtain ⟨i0, hi, hz0, hz1, hz2⟩ := info_parts Try.info5
  have hsz : (Try.prog.info? 5).map (·.size) = some 1 := by rw [hi]; simp [hz1]
  go_enter Try.func6, Try.ntmps6
  go_wp2_with (at_make; refine wpList_make_full _ rfl _ _ 22 rfl w.heap.size 5 i0 (.int .u8 0) 1 Try.underlying22 hi hz0 hz1 .i64 .i64 _ _ 32 rfl rfl rfl rfl (by rw [hz2]; omega) (by unfold maxLen; omega) (Nat.le_refl _) ?_; intro w1 hown hgrow)
  have hB := Blk.of_made hown
  have hN : Below w.heap.size w w1 := (Below.refl _ _).grown hgrow (Nat.le_refl _) (by simp)
  obtain ⟨w2, hrun, hB2, hO⟩ := copy_min (P := Try.prog) w1 22 3 5 Try.underlying22 hsz hB g a xs (ha.up hN) 32 c
  rw [List.length_replicate] at hrun
  have hN2 := hN.trans (hO.below (Nat.le_refl _))
  rw [hrun]
  clear hown hgrow hB hN hO hrun
  go_wp2
  go_ret
  exact ⟨rfl, hB2, hN2⟩

end Go.Proofs.Ytingekgcjnkljaa

/-
  An id of a drawn mark.
-/
namespace Go.Proofs.Ytingekgcjnkljaa
open Go Go.RowKit

theorem byt_setI {ys : List Int} (h : Byt ys) (p : Nat) (x : Int) (h0 : 0 ≤ x) (h1 : x < 256) : Byt (ys.set p x) := by
  intro i
  by_cases hi : p = i
  · subst hi
    rw [List.getD_eq_getElem?_getD, List.getElem?_set_self']
    cases hk : ys[p]? with
    | none => simp
    | some y => simpa using ⟨h0, h1⟩
  · rw [List.getD_eq_getElem?_getD, List.getElem?_set_ne hi, ← List.getD_eq_getElem?_getD]
    exact h i
/-- An id that was made: 32 bytes of its own. -/
def IdN (w : World) (q : Nat) (v : Value) (X : List Int) : Prop := v = .slice (some ⟨q, 0, none⟩) 32 32 ∧ Blk w q .u8 X ∧ X.length = 32 ∧ Byt X
set_option maxRecDepth 100000 in
set_option maxHeartbeats 1000000 in
theorem l16Id_any (w : World) (n : Int) :
    Calls Try.prog 17 #[.int .i64 n] w fun e w' => (∃ v X, e = .returned v ∧ IdN w' w.heap.size v X) ∧ Below w.heap.size w w' := by
  obtain ⟨i0, hi, hz0, hz1, hz2⟩ := info_parts Try.info5
  have W := IntKind.wrap_u8 n
  have h0 := Int.emod_nonneg n (show (256 : Int) ≠ 0 by decide)
  have h1 := Int.emod_lt_of_pos n (show (0 : Int) < 256 by decide)
  go_enter Try.func17, Try.ntmps17
  go_upto_region 2 with (at_make; refine wpList_make_full _ rfl _ _ 22 rfl w.heap.size 5 i0 (.int .u8 0) 1 Try.underlying22 hi hz0 hz1 .i64 .i64 _ _ 32 rfl rfl rfl rfl (by rw [hz2]; omega) (by unfold maxLen; omega) (Nat.le_refl _) ?_; intro w1 hown hgrow)
  have B0 := Blk.of_made hown
  have hN : Hid (Below w.heap.size w w1) := (Below.refl _ _).grown hgrow (Nat.le_refl _) (by simp)
  have bz : Byt (List.replicate 32 (0 : Int)) := fun i => by
    rw [List.getD_eq_getElem?_getD, List.getElem?_replicate]
    split <;> exact ⟨by simp, by simp⟩
  have c0 := B0.cell (i := 0) (by simp)
  have f0 := B0.free 0
  have B1 := B0.store 0 (n % 256)
  have c1 := B1.cell (i := 31) (by simp)
  have f1 := B1.free 31
  have B2 := hide (B1.store 31 7)
  have O2 := hide ((Only.setCell w1 w.heap.size 0 (.int .u8 (n % 256))).trans (Only.setCell _ w.heap.size 31 (.int .u8 7)))
  have YB := hide (byt_setI (byt_setI bz 0 _ h0 h1) 31 7 (by decide) (by decide))
  have YL : Hid ((((List.replicate 32 (0 : Int)).set 0 (n % 256)).set 31 7).length = 32) := by show _ = _; simp
  generalize ((List.replicate 32 (0 : Int)).set 0 (n % 256)).set 31 7 = X at *
  clear hown hgrow B0 B1 bz
  go_wp2
  go_ret
  exact ⟨⟨_, X, rfl, rfl, B2.out, YL.out, YB.out⟩, hN.out.trans (O2.out.below (Nat.le_refl _))⟩
end Go.Proofs.Ytingekgcjnkljaa
