
/-
  The laws' own helpers on windows that are asked (written by gens/wau.py).
-/
import Derived.Test.YtjjoimlnpbelpaaWaT
import Derived.Test.YtjjoimlnpbelpaaWaR
import Derived.Test.YtjjoimlnpbelpaaKwE
namespace Go.Proofs.Ytjjoimlnpbelpaa
open Go Go.RowKit

/-- Of what was there only blocks of S have turned. -/
structure Tws (S : Nat → Prop) (w w' : World) : Prop where
  os : w'.os = w.os
  tape : w'.tape = w.tape
  output : w'.output = w.output
  size : w.heap.size ≤ w'.heap.size
  block : ∀ k, k < w.heap.size → ¬ S k → w'.heap[k]? = w.heap[k]?
set_option maxRecDepth 100000 in
theorem Tws.of {S : Nat → Prop} {a b c : World} (h : Below a.heap.size a b) (k : Bsx S b c) : Tws S a c := ⟨k.os.trans h.os, k.tape.trans h.tape, k.output.trans h.output, by rw [k.size]; exact h.size, fun i hi hn => (k.block i hn).trans (h.block i hi)⟩
set_option maxRecDepth 100000 in
theorem Tws.ofT {S : Nat → Prop} {a b c : World} (h : Below a.heap.size a b) (k : Tws S b c) : Tws S a c := ⟨k.os.trans h.os, k.tape.trans h.tape, k.output.trans h.output, Nat.le_trans h.size k.size, fun i hi hn => (k.block i (Nat.lt_of_lt_of_le hi h.size) hn).trans (h.block i hi)⟩
set_option maxRecDepth 100000 in
theorem Tws.below {S : Nat → Prop} {w w' : World} {B : Nat} (h : Tws S w w') (hS : ∀ p, S p → B ≤ p) (hB : B ≤ w.heap.size) : Below B w w' := ⟨h.os, h.tape, h.output, h.size, fun k hk => h.block k (by omega) (fun s => by have := hS k s; omega)⟩
set_option maxRecDepth 100000 in
theorem IRow.rows {w : World} {B : Nat} {v : Value} {its : List (Int × List Int)} {bs : List Plc} (h : IRow w B v its bs) : ∀ p, rowS v its bs p → B ≤ p ∧ p < w.heap.size := fun p hp => by
  rcases hp with hp | ⟨i, hi, h0, rfl⟩
  · exact h.o.lt p hp
  · exact ⟨(h.h i hi h0).1, h.lt hi h0⟩
set_option maxRecDepth 100000 in
set_option maxHeartbeats 1000000 in
theorem markWindow_own (w : World) (wd : Int) (a : Option Addr) (c : Nat) (its : List (Int × List Int)) (bs : List Plc) (n : Int) (B : Nat) (h : IRow w B (.slice a its.length c) its bs) (hl : its.length ≤ 1048576) (hn : ∀ i, i < its.length → (its.getD i (0, [])).2.length ≤ 1048576) (k0 : 0 ≤ n) (k1 : psI its n its.length ≤ 1000000000) :
    Calls Try.prog 12 #[.agg #[.int .i64 wd, .slice a its.length c], .int .i64 n] w fun e w' => e = .returned (.int .i64 (psI its n its.length)) ∧ Mkd w' (.slice a its.length c) its bs n ∧ Tws (rowS (.slice a its.length c) its bs) w w' := by
  have n1 : Below w.heap.size w (w.alloc (.cells #[.int .i64 wd, .slice a its.length c] 29)) := (Below.refl _ _).alloc (Nat.le_refl _) _
  have T := RwC.new w [.int .i64 wd, .slice a its.length c] 29
  have MM := hide (markMarkS_any (w.alloc (.cells #[.int .i64 wd, .slice a its.length c] 29)) B _ its bs n (h.of (fun k hk _ => n1.block k hk)) hl hn k0 k1)
  have N1 := hide n1
  have bp := psI_bd (its := its) k0 its.length (Nat.le_refl _)
  generalize psI its n its.length = R at *
  have c0 := T.c0
  have c1 := T.c1
  clear n1 T h hn k1 hl
  go_enter Try.func12, Try.ntmps12
  go_wp2_with fail
  generalize w.alloc (.cells #[.int .i64 wd, .slice a its.length c] 29) = w1 at *
  refine MM.out.mono ?_
  rintro e w2 ⟨rfl, m1, m2⟩
  have M1 := hide m1
  have M2 := hide (Tws.of N1.out m2)
  clear m1 m2 MM c0 c1
  go_wp2
  go_ret
  exact ⟨rfl, M1.out, M2.out⟩
set_option maxRecDepth 100000 in
set_option maxHeartbeats 1000000 in
theorem heldWindow_own (w : World) (wd : Int) (a : Option Addr) (c : Nat) (its : List (Int × List Int)) (bs : List Plc) (n : Int) (hv : 0 < its.length → ∃ g, a = some ⟨g, 0, none⟩) (h : Mkd w (.slice a its.length c) its bs n) (hl : its.length ≤ 1048576) (hn : ∀ i, i < its.length → (its.getD i (0, [])).2.length ≤ 1048576) (k0 : 0 ≤ n) (k1 : psI its n its.length ≤ 1000000000) :
    Calls Try.prog 29 #[.agg #[.int .i64 wd, .slice a its.length c], .int .i64 n] w fun e w' => e = .returned (.int .i64 (psI its n its.length)) ∧ Below w.heap.size w w' := by
  have n1 : Below w.heap.size w (w.alloc (.cells #[.int .i64 wd, .slice a its.length c] 29)) := (Below.refl _ _).alloc (Nat.le_refl _) _
  have T := RwC.new w [.int .i64 wd, .slice a its.length c] 29
  have MM := hide (heldMarkS_any (w.alloc (.cells #[.int .i64 wd, .slice a its.length c] 29)) _ its bs n ⟨a, c, rfl, hv⟩ (h.up n1) hl hn k0 k1)
  have N1 := hide n1
  have bp := psI_bd (its := its) k0 its.length (Nat.le_refl _)
  generalize psI its n its.length = R at *
  have c0 := T.c0
  have c1 := T.c1
  have t1 : decide (R < 0) = false := decide_eq_false (by omega)
  clear n1 T h hv hn k1 hl
  go_enter Try.func29, Try.ntmps29
  go_wp2_with fail
  generalize w.alloc (.cells #[.int .i64 wd, .slice a its.length c] 29) = w1 at *
  refine MM.out.mono ?_
  rintro e w2 ⟨rfl, hw⟩
  have hw := hw.symm
  subst hw
  clear MM c0 c1
  go_wp2
  go_ret
  exact ⟨rfl, N1.out⟩
set_option maxRecDepth 100000 in
set_option maxHeartbeats 1000000 in
theorem markWindowAnswer_own (w : World) (cd wd : Int) (a : Option Addr) (c : Nat) (its : List (Int × List Int)) (bs : List Plc) (n : Int) (B : Nat) (h : IRow w B (.slice a its.length c) its bs) (hl : its.length ≤ 1048576) (hn : ∀ i, i < its.length → (its.getD i (0, [])).2.length ≤ 1048576) (k0 : 0 ≤ n) (k1 : psI its n its.length ≤ 1000000000) :
    Calls Try.prog 14 #[.agg #[.int .i64 cd, .int .i64 wd, .slice a its.length c], .int .i64 n] w fun e w' => e = .returned (.int .i64 (psI its n its.length)) ∧ Mkd w' (.slice a its.length c) its bs n ∧ Tws (rowS (.slice a its.length c) its bs) w w' := by
  have n1 : Below w.heap.size w (w.alloc (.cells #[.int .i64 cd, .int .i64 wd, .slice a its.length c] 31)) := (Below.refl _ _).alloc (Nat.le_refl _) _
  have T := RwC.new w [.int .i64 cd, .int .i64 wd, .slice a its.length c] 31
  have MM := hide (markWindow_own (w.alloc (.cells #[.int .i64 cd, .int .i64 wd, .slice a its.length c] 31)) wd a c its bs n B (h.of (fun k hk _ => n1.block k hk)) hl hn k0 k1)
  have N1 := hide n1
  have bp := psI_bd (its := its) k0 its.length (Nat.le_refl _)
  generalize psI its n its.length = R at *
  have c0 := T.c0
  have c1 := T.c1
  have c2 := T.c2
  clear n1 T h hn k1 hl
  go_enter Try.func14, Try.ntmps14
  go_wp2_with fail
  generalize w.alloc (.cells #[.int .i64 cd, .int .i64 wd, .slice a its.length c] 31) = w1 at *
  refine MM.out.mono ?_
  rintro e w2 ⟨rfl, m1, m2⟩
  have M1 := hide m1
  have M2 := hide (Tws.ofT N1.out m2)
  clear m1 m2 MM c0 c1
  go_wp2
  go_ret
  exact ⟨rfl, M1.out, M2.out⟩
set_option maxRecDepth 100000 in
set_option maxHeartbeats 1000000 in
theorem heldWindowAnswer_own (w : World) (cd wd : Int) (a : Option Addr) (c : Nat) (its : List (Int × List Int)) (bs : List Plc) (n : Int) (hv : 0 < its.length → ∃ g, a = some ⟨g, 0, none⟩) (h : Mkd w (.slice a its.length c) its bs n) (hl : its.length ≤ 1048576) (hn : ∀ i, i < its.length → (its.getD i (0, [])).2.length ≤ 1048576) (k0 : 0 ≤ n) (k1 : psI its n its.length ≤ 1000000000) :
    Calls Try.prog 15 #[.agg #[.int .i64 cd, .int .i64 wd, .slice a its.length c], .int .i64 n] w fun e w' => e = .returned (.int .i64 (psI its n its.length)) ∧ Below w.heap.size w w' := by
  have n1 : Below w.heap.size w (w.alloc (.cells #[.int .i64 cd, .int .i64 wd, .slice a its.length c] 31)) := (Below.refl _ _).alloc (Nat.le_refl _) _
  have T := RwC.new w [.int .i64 cd, .int .i64 wd, .slice a its.length c] 31
  have MM := hide (heldWindow_own (w.alloc (.cells #[.int .i64 cd, .int .i64 wd, .slice a its.length c] 31)) wd a c its bs n hv (h.up n1) hl hn k0 k1)
  have N1 := hide n1
  have bp := psI_bd (its := its) k0 its.length (Nat.le_refl _)
  generalize psI its n its.length = R at *
  have c0 := T.c0
  have c1 := T.c1
  have c2 := T.c2
  have t1 : decide (R < 0) = false := decide_eq_false (by omega)
  clear n1 T h hv hn k1 hl
  go_enter Try.func15, Try.ntmps15
  go_wp2_with fail
  generalize w.alloc (.cells #[.int .i64 cd, .int .i64 wd, .slice a its.length c] 31) = w1 at *
  refine MM.out.mono ?_
  rintro e w2 ⟨rfl, hw⟩
  have M2 := hide (nxt N1.out hw)
  clear MM c0 c1 hw
  go_wp2
  go_ret
  exact ⟨rfl, M2.out⟩

set_option maxRecDepth 100000 in
set_option maxHeartbeats 1000000 in
theorem eqWindowAnswer_same (w : World) (cd wd : Int) (g g' : Nat) (a a' : Option Addr) (c c' : Nat) (ms : List Mrk) (ps ps' : List Plm) (h : RdK w g a ms ps) (h' : RdK w g' a' ms ps') (hn : ms.length ≤ 1048576) (hz : ∀ i, i < ms.length → (ms.getD i mrk0).id.length ≤ 1048576) :
    Calls Try.prog 9 #[.agg #[.int .i64 cd, .int .i64 wd, .slice a ms.length c], .agg #[.int .i64 cd, .int .i64 wd, .slice a' ms.length c']] w fun e w' => e = .returned (.bool true) ∧ Below w.heap.size w w' := by
  have n1 : Below w.heap.size w (w.alloc (.cells #[.int .i64 cd, .int .i64 wd, .slice a ms.length c] 31)) := (Below.refl _ _).alloc (Nat.le_refl _) _
  have z1 : (w.alloc (.cells #[.int .i64 cd, .int .i64 wd, .slice a ms.length c] 31)).heap.size = w.heap.size + 1 := by simp
  have n2 : Below w.heap.size w ((w.alloc (.cells #[.int .i64 cd, .int .i64 wd, .slice a ms.length c] 31)).alloc (.cells #[.int .i64 cd, .int .i64 wd, .slice a' ms.length c'] 31)) := n1.alloc (by simp) _
  have P0 := (RwC.new w [.int .i64 cd, .int .i64 wd, .slice a ms.length c] 31).push (.cells #[.int .i64 cd, .int .i64 wd, .slice a' ms.length c'] 31)
  have P1 : RwC ((w.alloc (.cells #[.int .i64 cd, .int .i64 wd, .slice a ms.length c] 31)).alloc (.cells #[.int .i64 cd, .int .i64 wd, .slice a' ms.length c'] 31)) (w.heap.size + 1) [.int .i64 cd, .int .i64 wd, .slice a' ms.length c'] 31 := by
    have h := RwC.new (w.alloc (.cells #[.int .i64 cd, .int .i64 wd, .slice a ms.length c] 31)) [.int .i64 cd, .int .i64 wd, .slice a' ms.length c'] 31
    rwa [z1] at h
  have E0 := hide (eqWindow_same _ wd g g' a a' c c' ms ps ps' (h.up n2) (h'.up n2) hn hz)
  have N2 := hide n2
  have p0 := P0.c0
  have p1 := P0.c1
  have p2 := P0.c2
  have r0 := P1.c0
  have r1 := P1.c1
  have r2 := P1.c2
  clear n1 n2 P0 P1 h h'
  go_enter Try.func9, Try.ntmps9
  go_upto_region 1 with fail
  try rw [z1]
  clear z1
  generalize (w.alloc (.cells #[.int .i64 cd, .int .i64 wd, .slice a ms.length c] 31)).alloc (.cells #[.int .i64 cd, .int .i64 wd, .slice a' ms.length c'] 31) = w1 at *
  have cc : (cd != cd) = false := by simp
  go_wp2_with fail
  refine E0.out.mono ?_
  rintro e w2 ⟨rfl, m⟩
  have N3 := hide (nxt N2.out m)
  clear m N2 E0 p0 p1 p2 r0 r1 r2
  go_wp2
  go_ret
  exact ⟨rfl, N3.out⟩
end Go.Proofs.Ytjjoimlnpbelpaa
