/-
  The laws' helpers on structs of a truth and two slices.
-/
import Derived.Test.YthdjopkmlcdoeaaResH
import Derived.Test.YthdjopkmlcdoeaaThr
namespace Go.Proofs.Ythdjopkmlcdoeaa
open Go.RowKit

/-- Of what was there nothing but the blocks g and h has turned. -/
structure But2 (g h : Nat) (w w' : World) : Prop where
  os : w'.os = w.os
  tape : w'.tape = w.tape
  output : w'.output = w.output
  size : w.heap.size ≤ w'.heap.size
  block : ∀ k, k < w.heap.size → k ≠ g → k ≠ h → w'.heap[k]? = w.heap[k]?
theorem But2.of {g h : Nat} {a b c d : World} (n : Below a.heap.size a b) (k : Only g b c) (l : Only h c d) : But2 g h a d :=
  ⟨(l.os.trans k.os).trans n.os, (l.tape.trans k.tape).trans n.tape, (l.output.trans k.output).trans n.output, by rw [l.size, k.size]; exact n.size, fun i hi h1 h2 => ((l.block i h2).trans (k.block i h1)).trans (n.block i hi)⟩
theorem But2.below {g h B : Nat} {w w' : World} (n : But2 g h w w') (hB : B ≤ g) (hC : B ≤ h) (hs : B ≤ w.heap.size) : Below B w w' := ⟨n.os, n.tape, n.output, n.size, fun k hk => n.block k (by omega) (by omega) (by omega)⟩
theorem Three.but {w w' : World} {p g h : Nat} {x y z : Value} (t : Three w p x y z) (n : But2 g h w w') (h1 : p ≠ g) (h2 : p ≠ h) : Three w' p x y z := t.of_block (n.block p t.lt h1 h2)

/-- Two rows of bytes. -/
structure Pr (w : World) (g : Nat) (a : Option Addr) (xs : List Int) (g' : Nat) (a' : Option Addr) (ys : List Int) : Prop where
  l : Own w g a .u8 xs
  r : Own w g' a' .u8 ys
theorem Pr.up {w w' : World} {g g' : Nat} {a a' : Option Addr} {xs ys : List Int} (h : Pr w g a xs g' a' ys) (n : Below w.heap.size w w') : Pr w' g a xs g' a' ys := ⟨h.l.up n, h.r.up n⟩
theorem Pr.only {w w' : World} {g g' k : Nat} {a a' : Option Addr} {xs ys : List Int} (h : Pr w g a xs g' a' ys) (n : Only k w w') (h1 : 0 < xs.length → g ≠ k) (h2 : 0 < ys.length → g' ≠ k) : Pr w' g a xs g' a' ys := ⟨h.l.only n h1, h.r.only n h2⟩
theorem Own.but2 {w w' : World} {g k l : Nat} {a : Option Addr} {i : IntKind} {xs : List Int} (h : Own w g a i xs) (ho : But2 k l w w') (h1 : 0 < xs.length → g ≠ k ∧ g ≠ l) : Own w' g a i xs := by
  by_cases h0 : 0 < xs.length
  · exact h.of_block (ho.block g (h.rd.lt h0) (h1 h0).1 (h1 h0).2)
  · exact fun h1 => absurd h1 h0
theorem Pr.but {w w' : World} {g g' k l : Nat} {a a' : Option Addr} {xs ys : List Int} (h : Pr w g a xs g' a' ys) (n : But2 k l w w') (h1 : 0 < xs.length → g ≠ k ∧ g ≠ l) (h2 : 0 < ys.length → g' ≠ k ∧ g' ≠ l) : Pr w' g a xs g' a' ys := ⟨h.l.but2 n h1, h.r.but2 n h2⟩

theorem QuoOf.len {x us : List Int} {t : Bool} {qs rs : List Int} (hx : Byt x) (hu : Byt us) (h : QuoOf (x.length ≤ 128 ∧ us.length ≤ 128 ∧ 0 < bval us) (bval x) (bval us) t qs rs) : qs.length ≤ 128 ∧ rs.length ≤ 128 := by
  rcases h with ⟨h1, rfl, h2, h3⟩ | ⟨h1, rfl, rfl, rfl⟩
  · have x0 := bval_nonneg hx
    have q1 : bval x / bval us ≤ bval x := Int.ediv_le_self _ x0
    have q2 : bval x % bval us < bval us := Int.emod_lt_of_pos _ h1.2.2
    have e2 := h2.2.1
    have e3 := h3.2.1
    refine ⟨?_, ?_⟩
    · by_cases k : x.length < qs.length
      · have := canon_lt hx h2 k
        omega
      · omega
    · by_cases k : us.length < rs.length
      · have := canon_lt hu h3 k
        omega
      · omega
  · simp
/-- A row that is not read may be said to lie anywhere. -/
theorem NewQuo.at {B B' : Nat} {w : World} {e : Ending} {b : Bool} {ys ss : List Int} (h : NewQuo B w e b ys ss) (h1 : B' < B) (h2 : B' < w.heap.size) :
    ∃ (a : Option Addr) (c g : Nat) (a' : Option Addr) (c' g' : Nat), e = .returned (.agg #[.bool b, .slice a ys.length c, .slice a' ss.length c']) ∧ Pr w g a ys g' a' ss ∧ B' ≤ g ∧ g < w.heap.size ∧ B' ≤ g' ∧ g' < w.heap.size ∧ (0 < ys.length → B ≤ g ∧ g ≠ g') ∧ (0 < ss.length → B ≤ g' ∧ g ≠ g') := by
  obtain ⟨a, c, g, a', c', g', he, ⟨o, _, _, hg⟩, ⟨o', _, _, hg'⟩, hne⟩ := h
  by_cases h0 : 0 < ys.length
  · by_cases k0 : 0 < ss.length
    · exact ⟨a, c, g, a', c', g', he, ⟨o, o'⟩, by omega, o.rd.lt h0, by omega, o'.rd.lt k0, fun _ => ⟨hg, by have := hne h0; omega⟩, fun _ => ⟨hg', by have := hne h0; omega⟩⟩
    · obtain rfl : ss = [] := List.eq_nil_of_length_eq_zero (by omega)
      exact ⟨a, c, g, a', c', B', he, ⟨o, Own.nil _ _ _ _⟩, by omega, o.rd.lt h0, Nat.le_refl _, h2, fun _ => ⟨hg, by omega⟩, fun h => absurd h (by simp)⟩
  · obtain rfl : ys = [] := List.eq_nil_of_length_eq_zero (by omega)
    by_cases k0 : 0 < ss.length
    · exact ⟨a, c, B', a', c', g', he, ⟨Own.nil _ _ _ _, o'⟩, Nat.le_refl _, h2, by omega, o'.rd.lt k0, fun h => absurd h (by simp), fun _ => ⟨hg', by omega⟩⟩
    · obtain rfl : ss = [] := List.eq_nil_of_length_eq_zero (by omega)
      exact ⟨a, c, B', a', c', B', he, ⟨Own.nil _ _ _ _, Own.nil _ _ _ _⟩, Nat.le_refl _, h2, Nat.le_refl _, h2, fun h => absurd h (by simp), fun h => absurd h (by simp)⟩

set_option maxHeartbeats 1000000 in
theorem eqDivided_same (w : World) (t : Bool) (g g' h h' : Nat) (a b p q : Option Addr) (ca cb cp cq : Nat) (ys ss : List Int) (ha : Pr w g a ys h p ss) (hb : Pr w g' b ys h' q ss) (hn : ys.length ≤ 1048576) (hm : ss.length ≤ 1048576) :
    Calls Try.prog 33 #[.agg #[.bool t, .slice a ys.length ca, .slice p ss.length cp], .agg #[.bool t, .slice b ys.length cb, .slice q ss.length cq]] w fun e w' => e = .returned (.bool true) ∧ Below w.heap.size w w' := by
  have n1 : Below w.heap.size w (w.alloc (.cells #[.bool t, .slice a ys.length ca, .slice p ss.length cp] 36)) := (Below.refl _ _).alloc (Nat.le_refl _) _
  have n2 : Below w.heap.size w ((w.alloc (.cells #[.bool t, .slice a ys.length ca, .slice p ss.length cp] 36)).alloc (.cells #[.bool t, .slice b ys.length cb, .slice q ss.length cq] 36)) := n1.alloc (by simp) _
  have T2 := Three.new (w.alloc (.cells #[.bool t, .slice a ys.length ca, .slice p ss.length cp] 36)) (.bool t) (.slice b ys.length cb) (.slice q ss.length cq) 36
  have T1 := (Three.new w (.bool t) (.slice a ys.length ca) (.slice p ss.length cp) 36).up (w' := (w.alloc (.cells #[.bool t, .slice a ys.length ca, .slice p ss.length cp] 36)).alloc (.cells #[.bool t, .slice b ys.length cb, .slice q ss.length cq] 36)) ((Below.refl _ _).alloc (Nat.le_refl _) _)
  have s1 : (w.alloc (.cells #[.bool t, .slice a ys.length ca, .slice p ss.length cp] 36)).heap.size = w.heap.size + 1 := by simp
  rw [s1] at T2
  have HT1 := hide T1
  have HT2 := hide T2
  clear T1 T2 s1
  cases t
  all_goals
    go_enter Try.func33, Try.ntmps33
    go_wp2_with fail
    generalize (w.alloc (.cells #[.bool _, .slice a ys.length ca, .slice p ss.length cp] 36)).alloc (.cells #[.bool _, .slice b ys.length cb, .slice q ss.length cq] 36) = w2 at *
    refine (eqByteS_same w2 g g' a b ca cb ys (ha.l.up n2).rd (hb.l.up n2).rd hn).mono ?_
    rintro e w3 ⟨rfl, n3⟩
    have T1 := (unhide HT1).up n3
    have T2 := (unhide HT2).up n3
    have N3 := nxt n2 n3
    have k11 := T1.c1
    have k12 := T1.c2
    have k21 := T2.c1
    have k22 := T2.c2
    go_wp2_with fail
    refine (eqByteS_same w3 h h' p q cp cq ss (ha.r.up N3).rd (hb.r.up N3).rd hm).mono ?_
    rintro e w4 ⟨rfl, n4⟩
    go_wp2
    go_ret
    exact ⟨rfl, nxt N3 n4⟩

set_option maxHeartbeats 1000000 in
theorem markDivided_any (w : World) (t : Bool) (g h : Nat) (a p : Option Addr) (ca cp : Nat) (ys ss : List Int) (k : Int) (ha : Pr w g a ys h p ss) (hn : ys.length ≤ 1048576) (hm : ss.length ≤ 1048576) (k0 : 0 ≤ k) (k1 : k ≤ 1048576) (l1 : 0 < ys.length → g ≠ h) (l2 : 0 < ss.length → g ≠ h) (lg : g < w.heap.size) :
    Calls Try.prog 34 #[.agg #[.bool t, .slice a ys.length ca, .slice p ss.length cp], .int .i64 k] w fun e w' => e = .returned (.int .i64 (k + (ys.length : Int) + (ss.length : Int))) ∧ Pr w' g a (marks k ys.length) h p (marks (k + (ys.length : Int)) ss.length) ∧ But2 g h w w' := by
  have n1 : Below w.heap.size w (w.alloc (.cells #[.bool t, .slice a ys.length ca, .slice p ss.length cp] 36)) := (Below.refl _ _).alloc (Nat.le_refl _) _
  have T1 := Three.new w (.bool t) (.slice a ys.length ca) (.slice p ss.length cp) 36
  go_enter Try.func34, Try.ntmps34
  go_wp2_with fail
  generalize w.alloc (.cells #[.bool t, .slice a ys.length ca, .slice p ss.length cp] 36) = w1 at *
  have o1 := ha.up n1
  refine (markByteS_any w1 g a ca ys k o1.l hn k0 (by omega)).mono ?_
  rintro e w2 ⟨rfl, o2, O2⟩
  have T2 := T1.only O2 (by omega)
  have q2 := T2.c2
  have o3 := o1.r.only O2 (fun h => by have := l2 h; omega)
  go_wp2_with fail
  refine (markByteS_any w2 h p cp ss (k + (ys.length : Int)) o3 hm (by omega) (by omega)).mono ?_
  rintro e w3 ⟨rfl, o4, O4⟩
  go_wp2
  go_ret
  exact ⟨rfl, ⟨o2.only O4 (fun h => l1 (by simpa [marks] using h)), o4⟩, But2.of n1 O2 O4⟩

set_option maxHeartbeats 1000000 in
theorem heldDivided_any (w : World) (t : Bool) (g h : Nat) (a p : Option Addr) (ca cp n m : Nat) (k : Int) (ha : Pr w g a (marks k n) h p (marks (k + (n : Int)) m)) (hn : n ≤ 1048576) (hm : m ≤ 1048576) (k0 : 0 ≤ k) (k1 : k ≤ 1048576) :
    Calls Try.prog 35 #[.agg #[.bool t, .slice a n ca, .slice p m cp], .int .i64 k] w fun e w' => e = .returned (.int .i64 (k + (n : Int) + (m : Int))) ∧ Below w.heap.size w w' := by
  have n1 : Below w.heap.size w (w.alloc (.cells #[.bool t, .slice a n ca, .slice p m cp] 36)) := (Below.refl _ _).alloc (Nat.le_refl _) _
  have T1 := Three.new w (.bool t) (.slice a n ca) (.slice p m cp) 36
  have t1 : decide (k + (n : Int) < 0) = false := by simp; omega
  have t2 : decide (k + (n : Int) + (m : Int) < 0) = false := by simp; omega
  go_enter Try.func35, Try.ntmps35
  go_wp2_with fail
  generalize w.alloc (.cells #[.bool t, .slice a n ca, .slice p m cp] 36) = w1 at *
  have o1 := ha.up n1
  refine (heldByteS_any w1 g a ca n k o1.l.rd hn k0 (by omega)).mono ?_
  rintro e w2 ⟨rfl, rfl⟩
  have q2 := T1.c2
  go_wp2_with fail
  refine (heldByteS_any w2 h p cp m (k + (n : Int)) o1.r.rd hm (by omega) (by omega)).mono ?_
  rintro e w3 ⟨rfl, rfl⟩
  go_wp2
  go_ret
  exact ⟨rfl, n1⟩
end Go.Proofs.Ythdjopkmlcdoeaa
