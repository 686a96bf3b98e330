
/-
  The program's CutRecords: where its loop stands.
-/
import Derived.Test.YtjfggcefdobooaaDoorCrF
import Derived.Test.YtjfggcefdobooaaDoorCrR
import Derived.Test.YtjfggcefdobooaaDoorCrC
namespace Go.Proofs.YtjfggcefdobooaaDoor
set_option maxRecDepth 100000
open Go Go.RowKit

/-- What firstRecord told of ys: a record of its own lists, or an error. -/
def RS (a0 a1 a2 : Addr) (w : World) (B : Nat) (ys : List Int) (K : Int) (ad : Option Addr) (n cd : Nat) (ev : Value) : Prop :=
  (rcT ys = 0 ∧ ev = .nilIface ∧ K = rcK ys ∧ n = (rcB ys).length ∧ RowB w B (.slice ad n cd) (rcB ys)) ∨ (rcT ys ≠ 0 ∧ ∃ x, rcX a0 a1 a2 (rcT ys) = some x ∧ ev = erV x)
theorem RS.up {a0 a1 a2 : Addr} {w w' : World} {B : Nat} {ys : List Int} {K : Int} {ad : Option Addr} {n cd : Nat} {ev : Value} (h : RS a0 a1 a2 w B ys K ad n cd ev) (m : Below w.heap.size w w') : RS a0 a1 a2 w' B ys K ad n cd ev := by
  rcases h with ⟨h1, h2, h3, h4, h5⟩ | h
  · exact .inl ⟨h1, h2, h3, h4, h5.up m⟩
  · exact .inr h
theorem RS.only {a0 a1 a2 : Addr} {w w' : World} {B q : Nat} {zs : List Value} {t : TypeId} {ys : List Int} {K : Int} {ad : Option Addr} {n cd : Nat} {ev : Value} (h : RS a0 a1 a2 w B ys K ad n cd ev) (O : Only q w w') (hq : RwC w q zs t) (ht : t ≠ 5) : RS a0 a1 a2 w' B ys K ad n cd ev := by
  rcases h with ⟨h1, h2, h3, h4, h5⟩ | h
  · exact .inl ⟨h1, h2, h3, h4, h5.onlyT O hq ht⟩
  · exact .inr h
theorem firstR_any (w W : World) (g : Nat) (a : Option Addr) (c m k : Nat) (xs : List Int) (hm : m = (xs.drop k).length) (hr : Rd w g a .u8 (xs.drop k)) (hb : Byt xs) (hc : m ≤ c) (hn : xs.length ≤ 1048576) (a0 a1 a2 : Addr) (h0 : Sen w 0 a0) (h1 : Sen w 1 a1) (h2 : Sen w 2 a2) (N : Below w.heap.size w W) :
    Calls Tryd.prog 20 #[.slice a m c] W fun e w' => Below W.heap.size W w' ∧ ∃ K ad n cd ev, e = .returned (.tuple #[.agg #[.int .i64 K, .slice ad n cd], ev]) ∧ RS a0 a1 a2 w' W.heap.size (xs.drop k) K ad n cd ev := by
  subst hm
  refine (firstRecord_any W g a c (xs.drop k) (hr.up N) (byt_drop hb k) hc (by rw [List.length_drop]; omega) a0 a1 a2 (h0.up N) (h1.up N) (h2.up N)).mono ?_
  rintro e w' ⟨b, ⟨h, ad, cd, rfl, R⟩ | ⟨x, h, rfl⟩⟩
  · refine ⟨b, _, _, _, _, _, rfl, .inl ⟨?_, rfl, rfl, rfl, R⟩⟩
    rw [rcE_T] at h
    generalize rcT (xs.drop k) = t at h
    match t, h with
    | 0, _ => rfl
    | 1, h => cases h
    | 2, h => cases h
    | t + 3, h => cases h
  · refine ⟨b, _, _, _, _, _, rfl, .inr ⟨fun e => ?_, x, ?_, rfl⟩⟩
    · rw [rcE_T, e] at h
      cases h
    · rw [← rcE_T]
      exact h
/-- Where the loop stands. -/
structure CSt (w wr : World) (g q4 : Nat) (xs : List Int) (a0 a1 a2 : Addr) (k m : Nat) (a' : Option Addr) (c' : Nat) (its : List (Int × List Int)) (bs : List Plc) (v : Value) (K : Int) (ad : Option Addr) (n cd : Nat) (ev : Value) (M : Nat) : Prop where
  hm : m = (xs.drop k).length
  mc : m ≤ c'
  z : a' = none → c' = 0
  rd : Rd w g a' .u8 (xs.drop k)
  A : Ahc xs its k
  R : IRow wr (w.heap.size + 2) v its bs
  NP : NoP q4 v its bs
  T : RwC wr (w.heap.size + 1) [.int .i64 0, v, .slice none 0 0] 31
  U : RwC wr w.heap.size [.int .i64 0, .slice none 0 0, .slice none 0 0] 31
  V : RwC wr q4 [.int .i64 K, .slice ad n cd] 25
  S : RS a0 a1 a2 wr M (xs.drop k) K ad n cd ev
  M0 : w.heap.size + 2 ≤ M
  M1 : ∀ i, i < its.length → 0 < (its.getD i (0, [])).2.length → (bs.getD i plc0).q < M
  M2 : ∀ k, v.ownBlock = some k → k < M
  N : Below w.heap.size w wr
  q : w.heap.size + 2 ≤ q4
/-- A record taken over into the row: what the walk needs of the append, and where it stands behind it. -/
structure CSm (w w5 : World) (q4 : Nat) (xs : List Int) (k : Nat) (its : List (Int × List Int)) (bs : List Plc) (v : Value) (K : Int) (ad : Option Addr) (n cd : Nat) : Prop where
  A : Ahc xs its k
  R : IRow w5 (w.heap.size + 2) v its bs
  NP : NoP q4 v its bs
  T : RwC w5 (w.heap.size + 1) [.int .i64 0, v, .slice none 0 0] 31
  U : RwC w5 w.heap.size [.int .i64 0, .slice none 0 0, .slice none 0 0] 31
  V : RwC w5 q4 [.int .i64 K, .slice ad n cd] 25
  N : Below w.heap.size w w5
theorem CSt.app {w wr : World} {g q4 : Nat} {xs : List Int} {a0 a1 a2 : Addr} {k m : Nat} {a' : Option Addr} {c' : Nat} {its : List (Int × List Int)} {bs : List Plc} {v : Value} {K : Int} {ad : Option Addr} {n cd : Nat} {ev : Value} {M : Nat} (h : CSt w wr g q4 xs a0 a1 a2 k m a' c' its bs v K ad n cd ev M) (hb : Byt xs) (hn : xs.length ≤ 1048576) (ht : rcT (xs.drop k) = 0) :
    ∃ v' w4, (Builtin.append_ #[23, 23] 23 #[v, .slice (some ⟨wr.heap.size, 0, none⟩) 1 1]).run Tryd.prog (wr.alloc (.cells #[.int .i64 K, .slice ad n cd] 25)) = .ok v' w4 ∧ w4.cell? ⟨w.heap.size + 1, 1, none⟩ = some v ∧ w4.frozen? ⟨w.heap.size + 1, 1, none⟩ = false ∧
      ∃ its' bs', CSm w (w4.setCell ⟨w.heap.size + 1, 1, none⟩ v') q4 xs (k + (3 + n)) its' bs' v' K ad n cd ∧ its'.length ≤ 1048576 ∧ 3 + n ≤ m := by
  have L := rcT_len (byt_drop hb k) ht
  rcases h.S with ⟨-, -, hK, hn', hR⟩ | ⟨h1, -⟩
  · subst hK
    subst hn'
    have Al := h.A.l
    have Ak := h.A.k
    obtain ⟨a, c, gd, ev', O1, O2, O3, O4⟩ := hR.own
    simp only [Value.slice.injEq, true_and] at ev'
    obtain ⟨rfl, rfl⟩ := ev'
    have LI : Lie wr (rcB (xs.drop k)) ⟨ad, cd, gd⟩ := ⟨O1, O2, O3⟩
    have z := h.N.size
    have zq := h.V.lt
    have Mg : M ≤ gd := O4
    have gq : gd ≠ q4 := by
      rintro rfl
      obtain ⟨-, ⟨e1, e2⟩ | ⟨gg, cap, cur, e1, -, hg, -⟩⟩ := hR
      · omega
      · have lt := O1.rd.lt (by omega)
        obtain ⟨off, e3, -⟩ := O1 (by omega)
        simp only [Value.slice.injEq] at e1
        rw [e3] at e1
        simp only [Option.some.injEq, Addr.mk.injEq] at e1
        obtain ⟨⟨rfl, -⟩, -⟩ := e1
        have := hg.symm.trans h.V
        simp at this
    obtain ⟨v', w4, r1, r2, r3, r4, r5⟩ := h.R.app (rcK (xs.drop k), rcB (xs.drop k)) ⟨ad, cd, gd⟩ (by have := h.T.lt; have := h.q; omega) LI M h.M0 h.M1 h.M2 Mg (by omega)
    have T4 : RwC w4 (w.heap.size + 1) [.int .i64 0, v, .slice none 0 0] 31 := (r4.block _ (by omega)).trans h.T
    have U4 : RwC w4 w.heap.size [.int .i64 0, .slice none 0 0, .slice none 0 0] 31 := (r4.block _ (by omega)).trans h.U
    have V4 : RwC w4 q4 [.int .i64 (rcK (xs.drop k)), .slice ad (rcB (xs.drop k)).length cd] 25 := (r3 q4 zq h.NP.o).trans h.V
    have O5 := Only.setCell w4 (w.heap.size + 1) 1 v'
    refine ⟨v', w4, r1, T4.c1, T4.free 1, _, _, ⟨?_, r2.of (fun i hi hB => O5.block i (by omega)), h.NP.app h.R.l (r5 q4 zq h.NP.o) _ _ gq, T4.set 1 v', U4.onl O5 (by omega), V4.onl O5 (by have := h.q; omega), (h.N.trans (r4.mono (show w.heap.size ≤ w.heap.size + 2 by omega))).trans (O5.below (by omega))⟩, by simp; omega, by have := h.hm; omega⟩
    have := h.A.step hb ht
    rw [L.2.2.2]
    exact this
  · exact absurd ht h1
/-- The next record told. -/
theorem CSm.next {w w5 w6 w7 : World} {g q4 : Nat} {xs : List Int} {a0 a1 a2 : Addr} {k m : Nat} {a' : Option Addr} {c' : Nat} {its : List (Int × List Int)} {bs : List Plc} {v : Value} {K K' : Int} {ad ad' : Option Addr} {n cd n' cd' : Nat} {ev : Value} (h : CSm w w5 q4 xs k its bs v K ad n cd) (q : w.heap.size + 2 ≤ q4) (b6 : Below w5.heap.size w5 w6) (S : RS a0 a1 a2 w6 w5.heap.size (xs.drop k) K' ad' n' cd' ev) (O : Only q4 w6 w7) (V7 : RwC w7 q4 [.int .i64 K', .slice ad' n' cd'] 25)
    (hm : m = (xs.drop k).length) (mc : m ≤ c') (z : a' = none → c' = 0) (rd : Rd w g a' .u8 (xs.drop k)) : CSt w w7 g q4 xs a0 a1 a2 k m a' c' its bs v K' ad' n' cd' ev w5.heap.size := by
  have zq := h.V.lt
  have s6 := b6.size
  refine ⟨hm, mc, z, rd, h.A, ?_, h.NP, (h.T.up b6).onl O (by omega), (h.U.up b6).onl O (by omega), V7, S.only O (h.V.up b6) (by decide), by omega, fun i hi h0 => h.R.lt hi h0, fun i hi => (h.R.o.lt i hi).2, (nxt h.N b6).trans (O.below (by omega)), q⟩
  exact (h.R.of (w' := w6) (fun i hi _ => b6.block i hi)).ofN h.NP (fun i hi hB hne => O.block i hne)
end Go.Proofs.YtjfggcefdobooaaDoor
