
/-
  FnCutAnywhere: what stands behind its first loop: rows of records appended, a region with an append in its middle.
-/
import Derived.Test.YtjfggcefdobooaaDoorCaA
import Derived.Test.YtjfggcefdobooaaDoorCaE
import Derived.Test.YtjfggcefdobooaaDoorCaI
import Derived.Test.YtjfggcefdobooaaDoorCrQ
import Derived.Test.YtjfggcefdobooaaDoorRcB
import Derived.Test.YtjfggcefdobooaaDoorLwA8
import Derived.Test.YtjfggcefdobooaaDoorLwO
namespace Go.Proofs.YtjfggcefdobooaaDoor
set_option maxRecDepth 100000
open Go Go.RowKit

theorem flR_byt : ∀ (rs : List (Int × List Int)), (∀ r ∈ rs, gdR r) → Byt (flR rs)
  | [], _ => fun i => ⟨by simp [flR], by simp [flR]⟩
  | r :: rs, h => by
    have g := h r (by simp)
    have k := isK_rng g.1
    have l := g.2.2.1
    refine byt_app ?_ (flR_byt rs fun x hx => h x (by simp [hx]))
    rw [enA_is g]
    refine byt_app (fun i => ?_) g.2.2.2
    match i with
    | 0 => exact ⟨by simp; omega, by simp; omega⟩
    | 1 => exact ⟨by simp; omega, by simp; omega⟩
    | 2 => exact ⟨by simp; omega, by simp; omega⟩
    | n + 3 => exact ⟨by simp, by simp⟩
theorem flR_ge : ∀ (rs : List (Int × List Int)), (∀ r ∈ rs, gdR r) → 4 * rs.length ≤ (flR rs).length
  | [], _ => by simp
  | r :: rs, h => by
    have g := h r (by simp)
    have := flR_ge rs fun x hx => h x (by simp [hx])
    have e : (flR (r :: rs)).length = (enA r.1 r.2).length + (flR rs).length := List.length_append
    have := g.2.1
    rw [e, enA_ln g, List.length_cons]
    omega
theorem byt_takeV {xs : List Int} (h : Byt xs) (n : Nat) : Byt (xs.take n) := fun i => by
  by_cases hi : i < n
  · have : (xs.take n).getD i 0 = xs.getD i 0 := by simp [List.getD, hi]
    rw [this]
    exact h i
  · have : (xs.take n).getD i 0 = 0 := by simp [List.getD, List.getElem?_take, hi]
    rw [this]
    exact ⟨by decide, by decide⟩
theorem byt_dropV {xs : List Int} (h : Byt xs) (n : Nat) : Byt (xs.drop n) := fun i => by
  have : (xs.drop n).getD i 0 = xs.getD (n + i) 0 := by simp [List.getD, List.getElem?_drop]
  rw [this]
  exact h _
theorem rd_takeV {w : World} {g : Nat} {a : Option Addr} {k : IntKind} {xs : List Int} (h : Rd w g a k xs) (n : Nat) : Rd w g a k (xs.take n) := fun h0 => by
  rw [List.length_take] at h0
  obtain ⟨o, e, hc⟩ := h (by omega)
  refine ⟨o, e, fun i hi => ?_⟩
  rw [List.length_take] at hi
  rw [hc i (by omega), List.getD_eq_getElem?_getD, List.getD_eq_getElem?_getD, List.getElem?_take, if_pos (by omega)]
theorem rd_dropV {w : World} {g o : Nat} {k : IntKind} {xs : List Int} (h : Rd w g (some ⟨g, o, none⟩) k xs) (n : Nat) (p : Option Addr) (hp : n < xs.length → p = some ⟨g, o + n, none⟩) : Rd w g p k (xs.drop n) := fun h0 => by
  rw [List.length_drop] at h0
  obtain ⟨o', e, hc⟩ := h (by omega)
  simp only [Option.some.injEq, Addr.mk.injEq, and_true, true_and] at e
  subst e
  refine ⟨o + n, hp (by omega), fun i hi => ?_⟩
  rw [List.length_drop] at hi
  rw [Nat.add_assoc, hc (n + i) (by omega), List.getD_eq_getElem?_getD, List.getD_eq_getElem?_getD, List.getElem?_drop]
theorem cutL_le (xs : List Int) : (cutL xs).length ≤ xs.length := by
  unfold cutL
  split
  · rw [List.length_drop]
    omega
  · simp
theorem cutL_byt {xs : List Int} (h : Byt xs) : Byt (cutL xs) := by
  unfold cutL
  split
  · exact byt_dropV h _
  · exact fun i => ⟨by simp, by simp⟩
/-- A list appended to a row: all blocks but the row's own stay. -/
theorem append_anyK {P : Program} (w : World) (ty : TypeId) (i : TypeInfo) (ht : P.underlying 22 = some (.slice 5)) (hi : P.info? 5 = some i) (hz : i.zero = some (.int .u8 0)) (hsize : i.size = 1) (hby : i.bytes = 1)
    (base : Nat) (v : Value) (xs : List Int) (hown : RowB w base v xs) (g : Nat) (a : Option Addr) (c : Nat) (us : List Int) (hr : Rd w g a .u8 us) (hc : a = none → c = 0) (hl : xs.length + us.length ≤ 1099511627776) (hbase : base ≤ w.heap.size) :
    ∃ v' w', (Builtin.append_ #[22, 22] ty #[v, .slice a us.length c]).run P w = .ok v' w' ∧ RowB w' base v' (xs ++ us) ∧ w.grownBy w' v.ownBlock := by
  cases a with
  | none =>
    obtain rfl : us = [] := by
      by_cases h0 : 0 < us.length
      · obtain ⟨off, h, _⟩ := hr h0
        simp at h
      · exact List.eq_nil_of_length_eq_zero (by omega)
    obtain rfl := hc rfl
    exact ⟨v, w, run_append_owned_none (P := P) (w := w) base 22 ty 5 i 1 ht hi v _ _ hown, by simpa using hown, ⟨rfl, rfl, rfl, Nat.le_refl _, fun _ _ _ => rfl⟩⟩
  | some ad =>
    have hcell : ∀ j u, (us.map (Value.int .u8))[j]? = some u → w.cell? (ad.add j) = some u := by
      intro j u hj
      have hjl : j < us.length := by
        have := (List.getElem?_eq_some_iff.1 hj).1
        simpa using this
      obtain ⟨off, ha, hcc⟩ := hr (by omega)
      simp only [Option.some.injEq] at ha
      subst ha
      rw [Addr.add_mid, hcc j hjl]
      simpa [hjl] using hj
    have hone : ∀ u ∈ us.map (Value.int .u8), u.oneCell' = true := by
      intro u hu
      obtain ⟨x, _, rfl⟩ := List.mem_map.1 hu
      rfl
    obtain ⟨v', w', h1, h2, h3, -, -⟩ := run_append_own_at (P := P) w base 22 ty 5 i (.int .u8 0) 1 1 ht hi hz hsize hby rfl (by decide) v xs.length (xs.map (Value.int .u8)) hown ad us.length c (us.map (Value.int .u8)) (by simp) hcell hone (by unfold maxLen; omega) (by omega) hbase
    refine ⟨v', w', h1, ?_, h3⟩
    show w'.ownsRow base 5 1 v' (xs ++ us).length ((xs ++ us).map (Value.int .u8))
    rw [List.length_append, List.map_append]
    exact h2
theorem itCs_one : ∀ (its : List (Int × List Int)) (bs : List Plc), ∀ u ∈ itCs its bs, u.oneCell' = true
  | x :: xs, q :: qs, u, hu => by
    have hu : u ∈ itC x q ++ itCs xs qs := hu
    rcases List.mem_append.1 hu with h | h
    · simp only [itC, List.mem_cons, List.not_mem_nil, or_false] at h
      rcases h with rfl | rfl <;> rfl
    · exact itCs_one xs qs u h
  | [], _, u, hu => by simp [itCs] at hu
  | _ :: _, [], u, hu => by simp [itCs] at hu
theorem itCs_app : ∀ (a b : List (Int × List Int)) (p q : List Plc), p.length = a.length → itCs (a ++ b) (p ++ q) = itCs a p ++ itCs b q
  | [], b, [], q, _ => rfl
  | x :: a, b, y :: p, q, h => by
    show itC x y ++ itCs (a ++ b) (p ++ q) = (itC x y ++ itCs a p) ++ itCs b q
    rw [itCs_app a b p q (by simpa using h), List.append_assoc]
  | [], b, _ :: _, q, h => by simp at h
  | _ :: _, b, [], q, h => by simp at h
/-- The cells of a row of records. -/
theorem row_cells {w : World} {B : Nat} {v : Value} {its : List (Int × List Int)} {bs : List Plc} (o : w.ownsRow B 25 2 v its.length (itCs its bs)) (hl : bs.length = its.length) (h0 : 0 < its.length) : ∃ g c, v = .slice (some ⟨g, 0, none⟩) its.length c ∧ g < w.heap.size ∧ (∀ i, i < its.length → w.cell? ⟨g, i * 2, none⟩ = some (.int .i64 (its.getD i (0, [])).1) ∧ w.cell? ⟨g, i * 2 + 1, none⟩ = some (.slice (bs.getD i plc0).a (its.getD i (0, [])).2.length (bs.getD i plc0).c)) := by
  rcases o.2 with ⟨_, h'⟩ | ⟨g, cap, cur, rfl, hb, hg, hnc, hcm, hcs, ht⟩
  · omega
  · refine ⟨g, cap, rfl, (Array.getElem?_eq_some_iff.1 hg).1, fun i hi => ⟨?_, ?_⟩⟩
    · rw [cell_of_row w g _ cur _ (0, 0) hg]
      have : (cur.toList.take (its.length * 2))[i * 2]? = (itCs its bs)[i * 2]? := by rw [ht]
      rw [List.getElem?_take, if_pos (by omega), show i * 2 = 2 * i from Nat.mul_comm _ _, itCs_at0 its bs i hl hi] at this
      simpa [Nat.mul_comm] using this
    · rw [cell_of_row w g _ cur _ (0, 0) hg]
      have : (cur.toList.take (its.length * 2))[i * 2 + 1]? = (itCs its bs)[i * 2 + 1]? := by rw [ht]
      rw [List.getElem?_take, if_pos (by omega), show i * 2 = 2 * i from Nat.mul_comm _ _, itCs_at1 its bs i hl hi] at this
      simpa [Nat.mul_comm] using this
/-- Two rows of records one behind the other: where each body lies. -/
theorem lie_app {w : World} {a b : List (Int × List Int)} {p q : List Plc} (hp : p.length = a.length) (ha : ∀ i, i < a.length → Lie w (a.getD i (0, [])).2 (p.getD i plc0)) (hb : ∀ i, i < b.length → Lie w (b.getD i (0, [])).2 (q.getD i plc0)) :
    ∀ i, i < (a ++ b).length → Lie w ((a ++ b).getD i (0, [])).2 ((p ++ q).getD i plc0) := by
  intro i hi
  by_cases h : i < a.length
  · have e1 : (a ++ b).getD i (0, []) = a.getD i (0, []) := by simp [List.getD, List.getElem?_append_left h]
    have e2 : (p ++ q).getD i plc0 = p.getD i plc0 := by simp [List.getD, List.getElem?_append_left (show i < p.length by omega)]
    rw [e1, e2]
    exact ha i h
  · have e1 : (a ++ b).getD i (0, []) = b.getD (i - a.length) (0, []) := by simp [List.getD, List.getElem?_append_right (show a.length ≤ i by omega)]
    have e2 : (p ++ q).getD i plc0 = q.getD (i - a.length) plc0 := by simp [List.getD, List.getElem?_append_right (show p.length ≤ i by omega), hp]
    rw [e1, e2]
    exact hb _ (by simp at hi; omega)
/-- A row of records appended to another. -/
theorem rows_append (w : World) (B B' : Nat) (v vs : Value) (n m : Nat) (cs us : List Value) (h : w.ownsRow B 25 2 v n cs) (hs : w.ownsRow B' 25 2 vs m us) (h1 : ∀ u ∈ us, u.oneCell' = true) (hl : n + m ≤ 1048576) (hB : B ≤ w.heap.size) :
    ∃ v' w', (Builtin.append_ #[23, 23] 23 #[v, vs]).run Tryd.prog w = .ok v' w' ∧ w'.ownsRow B 25 2 v' (n + m) (cs ++ us) ∧ w.grownBy w' v.ownBlock := by
  obtain ⟨i, hi, hz, hsz, hby⟩ := info_parts iInfo
  rcases hs.2 with ⟨rfl, rfl⟩ | ⟨g, cap, cur, rfl, -⟩
  · have e : us = [] := List.eq_nil_of_length_eq_zero (by have := hs.1; omega)
    subst e
    exact ⟨v, w, run_append_owned_none (P := Tryd.prog) (w := w) B 23 23 25 i 2 iUnd hi v _ _ h, by simpa using h, ⟨rfl, rfl, rfl, Nat.le_refl _, fun _ _ _ => rfl⟩⟩
  · obtain ⟨v', w', k1, k2, k3, -, -⟩ := run_append_own_at (P := Tryd.prog) w B 23 23 25 i (.agg #[.int .i64 0, .slice none 0 0]) 2 32 iUnd hi hz hsz hby rfl (by decide) v n cs h ⟨g, 0, none⟩ m cap us hs.1 (hs.cells rfl) h1 (by unfold maxLen; omega) (by omega) hB
    exact ⟨v', w', k1, k2, k3⟩
/-- What the second cut leaves. -/
def C15 (wa : World) (xs : List Int) (v : Value) (wc : World) : Prop := ∃ q vr bs vl, v = .pointer (some ⟨q, 0, none⟩) ∧ RwC wc q [.int .i64 (cutC xs), vr, vl] 31 ∧ IRow wc wa.heap.size vr (cutR xs) bs ∧ RowB wc wa.heap.size vl (cutL xs) ∧ Below wa.heap.size wa wc
theorem c15_1 {wa wm : World} {xs : List Int} {vr vl : Value} {bs : List Plc} {B : Nat} (n : Below wa.heap.size wa wm) (hB : wa.heap.size ≤ B) (I : IRow wm B vr (cutR xs) bs) (R : RowB wm B vl (cutL xs)) :
    C15 wa xs (.pointer (some ⟨wm.heap.size, 0, none⟩)) (wm.alloc (.cells #[.int .i64 (cutC xs), vr, vl] 31)) := by
  have na : Below wm.heap.size wm (wm.alloc (.cells #[.int .i64 (cutC xs), vr, vl] 31)) := (Below.refl _ _).alloc (Nat.le_refl _) _
  exact ⟨_, vr, bs, vl, rfl, RwC.new wm _ _, (I.of fun k hk _ => na.block k hk).base hB, (R.up na).base hB, nxt n na⟩
theorem c15_2 {wa wm : World} {xs : List Int} {vr vl : Value} {bs : List Plc} {B q : Nat} {z0 z1 z2 : Value} (n : Below wa.heap.size wa wm) (I : IRow wm B vr (cutR xs) bs) (R : RowB wm B vl (cutL xs)) (Z : RwC wm q [z0, z1, z2] 31) (hq : wa.heap.size ≤ q) (hg : q < B) :
    C15 wa xs (.pointer (some ⟨q, 0, none⟩)) (((wm.setCell ⟨q, 0, none⟩ (.int .i64 (cutC xs))).setCell ⟨q, 1, none⟩ vr).setCell ⟨q, 2, none⟩ vl) := by
  have O : Only q wm (((wm.setCell ⟨q, 0, none⟩ (.int .i64 (cutC xs))).setCell ⟨q, 1, none⟩ vr).setCell ⟨q, 2, none⟩ vl) := ((Only.setCell _ q 0 _).trans (Only.setCell _ q 1 _)).trans (Only.setCell _ q 2 _)
  have Z' : RwC (((wm.setCell ⟨q, 0, none⟩ (.int .i64 (cutC xs))).setCell ⟨q, 1, none⟩ vr).setCell ⟨q, 2, none⟩ vl) q [.int .i64 (cutC xs), vr, vl] 31 := ((Z.set 0 _).set 1 _).set 2 _
  exact ⟨q, vr, bs, vl, rfl, Z', (I.of fun k _ hk => O.block k (by omega)).base (by omega), (R.only O hg).base (by omega), n.trans (O.below hq)⟩
theorem bAl {B : Nat} {w W : World} (n : Below B w W) (hB : B ≤ w.heap.size) (o : Obj) : Below B w (W.alloc o) := n.alloc (Nat.le_trans hB n.size) o
theorem RwC.newD (w : World) (zs : List Value) (t : TypeId) : RwC (w.drew.alloc (.cells zs.toArray t)) w.heap.size zs t := RwC.new w.drew zs t
end Go.Proofs.YtjfggcefdobooaaDoor
