import Derived.Test.YtjjoimlnpbelpaaGK7
import Derived.Test.YtjjoimlnpbelpaaGK2
import Derived.Deep.DeepCutAuto

/-
  The laws' own helpers on rows of marks: markMarkS, heldMarkS (written by gens/was.py).
-/
namespace Go.Proofs.Ytjjoimlnpbelpaa
open Go Go.RowKit

set_option maxRecDepth 100000 in
/-- The number that a mark's list begins with. -/
def psI (its : List (Int × List Int)) (n : Int) : Nat → Int
  | 0 => n
  | k + 1 => psI its n k + ((its.getD k (0, [])).2.length : Int) + 1
set_option maxRecDepth 100000 in
theorem psI_le {its : List (Int × List Int)} {n : Int} : ∀ (d k : Nat), psI its n k ≤ psI its n (k + d)
  | 0, k => Int.le_refl _
  | d + 1, k => by
    have := psI_le (its := its) (n := n) d k
    show _ ≤ psI its n (k + d) + ((its.getD (k + d) (0, [])).2.length : Int) + 1
    omega
set_option maxRecDepth 100000 in
theorem psI_bd {its : List (Int × List Int)} {n : Int} (h0 : 0 ≤ n) (k : Nat) (hk : k ≤ its.length) : 0 ≤ psI its n k ∧ psI its n k ≤ psI its n its.length := by
  have a := psI_le (its := its) (n := n) k 0
  have b := psI_le (its := its) (n := n) (its.length - k) k
  rw [Nat.zero_add] at a
  rw [show k + (its.length - k) = its.length by omega] at b
  have c : psI its n 0 = n := rfl
  omega
set_option maxRecDepth 100000 in
/-- The blocks of a row and of its lists. -/
def rowS (v : Value) (its : List (Int × List Int)) (bs : List Plc) (p : Nat) : Prop := v.ownBlock = some p ∨ ∃ i, i < its.length ∧ 0 < (its.getD i (0, [])).2.length ∧ (bs.getD i plc0).q = p
/-- What lies outside these blocks has not turned. -/
structure Bsx (S : Nat → Prop) (w w' : World) : Prop where
  os : w'.os = w.os
  tape : w'.tape = w.tape
  output : w'.output = w.output
  size : w'.heap.size = w.heap.size
  block : ∀ k, ¬ S k → w'.heap[k]? = w.heap[k]?
set_option maxRecDepth 100000 in
theorem Bsx.refl (S : Nat → Prop) (w : World) : Bsx S w w := ⟨rfl, rfl, rfl, rfl, fun _ _ => rfl⟩
set_option maxRecDepth 100000 in
theorem Bsx.trans {S : Nat → Prop} {a b c : World} (h : Bsx S a b) (k : Bsx S b c) : Bsx S a c := ⟨k.os.trans h.os, k.tape.trans h.tape, k.output.trans h.output, k.size.trans h.size, fun i hi => (k.block i hi).trans (h.block i hi)⟩
set_option maxRecDepth 100000 in
theorem Bsx.only {S : Nat → Prop} {p : Nat} {a b c : World} (h : Bsx S a b) (k : Only p b c) (h1 : S p) (_ : True) : Bsx S a c := h.trans ⟨k.os, k.tape, k.output, k.size, fun i hi => k.block i (fun e => hi (e ▸ h1))⟩
set_option maxRecDepth 100000 in
/-- One mark as it is marked. -/
def MkP (w : World) (g : Nat) (its : List (Int × List Int)) (bs : List Plc) (n : Int) (i : Nat) : Prop :=
  w.cell? ⟨g, i * 2, none⟩ = some (.slice (bs.getD i plc0).a (its.getD i (0, [])).2.length (bs.getD i plc0).c) ∧ w.cell? ⟨g, i * 2 + 1, none⟩ = some (.int .i64 (psI its n i + ((its.getD i (0, [])).2.length : Int))) ∧ Own w (bs.getD i plc0).q (bs.getD i plc0).a .u8 (marks (psI its n i) (its.getD i (0, [])).2.length)
set_option maxRecDepth 100000 in
/-- .. and as it is not yet. -/
def MkQ (w : World) (g : Nat) (its : List (Int × List Int)) (bs : List Plc) (i : Nat) : Prop :=
  w.cell? ⟨g, i * 2, none⟩ = some (.slice (bs.getD i plc0).a (its.getD i (0, [])).2.length (bs.getD i plc0).c) ∧ w.cell? ⟨g, i * 2 + 1, none⟩ = some (.int .i64 (its.getD i (0, [])).1) ∧ Own w (bs.getD i plc0).q (bs.getD i plc0).a .u8 (its.getD i (0, [])).2
set_option maxRecDepth 100000 in
theorem own_any {w w' : World} {g : Nat} {a : Option Addr} {xs : List Int} (h : Own w g a .u8 xs) (hb : 0 < xs.length → w'.heap[g]? = w.heap[g]?) : Own w' g a .u8 xs := fun h0 => h.of_block (hb h0) h0
set_option maxRecDepth 100000 in
theorem MkP.keep {w w' : World} {g : Nat} {its : List (Int × List Int)} {bs : List Plc} {n : Int} {i : Nat} (h : MkP w g its bs n i) (h1 : w'.cell? ⟨g, i * 2, none⟩ = w.cell? ⟨g, i * 2, none⟩) (h2 : w'.cell? ⟨g, i * 2 + 1, none⟩ = w.cell? ⟨g, i * 2 + 1, none⟩) (h3 : 0 < (its.getD i (0, [])).2.length → w'.heap[(bs.getD i plc0).q]? = w.heap[(bs.getD i plc0).q]?) : MkP w' g its bs n i :=
  ⟨h1.trans h.1, h2.trans h.2.1, own_any h.2.2 (fun h0 => h3 (by rwa [marks_len] at h0))⟩
set_option maxRecDepth 100000 in
theorem MkQ.keep {w w' : World} {g : Nat} {its : List (Int × List Int)} {bs : List Plc} {i : Nat} (h : MkQ w g its bs i) (h1 : w'.cell? ⟨g, i * 2, none⟩ = w.cell? ⟨g, i * 2, none⟩) (h2 : w'.cell? ⟨g, i * 2 + 1, none⟩ = w.cell? ⟨g, i * 2 + 1, none⟩) (h3 : 0 < (its.getD i (0, [])).2.length → w'.heap[(bs.getD i plc0).q]? = w.heap[(bs.getD i plc0).q]?) : MkQ w' g its bs i :=
  ⟨h1.trans h.1, h2.trans h.2.1, own_any h.2.2 h3⟩
set_option maxRecDepth 100000 in
/-- The whole row, marked. -/
def Mkd (w : World) (v : Value) (its : List (Int × List Int)) (bs : List Plc) (n : Int) : Prop := ∀ g c, v = .slice (some ⟨g, 0, none⟩) its.length c → ∀ i, i < its.length → MkP w g its bs n i
set_option maxRecDepth 100000 in
theorem Mkd.up {w w' : World} {v : Value} {its : List (Int × List Int)} {bs : List Plc} {n : Int} (h : Mkd w v its bs n) (N : Below w.heap.size w w') : Mkd w' v its bs n := fun g c e i hi => by
  have P := h g c e i hi
  have hg : g < w.heap.size := block_lt_of_cell P.1
  exact P.keep (World.cell?_of_block (a := ⟨g, i * 2, none⟩) (N.block g hg)) (World.cell?_of_block (a := ⟨g, i * 2 + 1, none⟩) (N.block g hg)) (fun h0 => N.block _ (P.2.2.rd.lt (by rw [marks_len]; exact h0)))

set_option maxRecDepth 100000 in
set_option maxHeartbeats 2000000 in
theorem markMarkS_any (w : World) (B : Nat) (v : Value) (its : List (Int × List Int)) (bs : List Plc) (n : Int) (h : IRow w B v its bs) (hl : its.length ≤ 1048576) (hn : ∀ i, i < its.length → (its.getD i (0, [])).2.length ≤ 1048576) (k0 : 0 ≤ n) (k1 : psI its n its.length ≤ 1000000000) :
    Calls Try.prog 28 #[v, .int .i64 n] w fun e w' => e = .returned (.int .i64 (psI its n its.length)) ∧ Mkd w' v its bs n ∧ Bsx (rowS v its bs) w w' := by
  by_cases h0 : 0 < its.length
  · obtain ⟨g, c, rfl, hgB, hg, hob, hc, hfr⟩ := h.cells h0
    have sg : rowS (.slice (some ⟨g, 0, none⟩) its.length c) its bs g := .inl hob
    obtain ⟨SS, eS⟩ : ∃ SS, SS = rowS (.slice (some ⟨g, 0, none⟩) its.length c) its bs := ⟨_, rfl⟩
    rw [← eS] at sg ⊢
    have BD := fun k => hide (psI_bd (its := its) k0 k)
    have QS : Hid (∀ i, i < its.length → MkQ w g its bs i) := fun i hi => ⟨(hc i hi).1, (hc i hi).2, (h.b i hi).o⟩
    have HH : Hid (∀ i, i < its.length → 0 < (its.getD i (0, [])).2.length → SS (bs.getD i plc0).q ∧ True ∧ (bs.getD i plc0).q ≠ g) := fun i hi h1 => ⟨eS ▸ .inr ⟨i, hi, h1, rfl⟩, trivial, fun e => (h.h i hi h1).2 (by rw [e]; exact hob)⟩
    have HD := hide h.d
    have HN := hide hn
    have HL := hide hl
    have HF := hide hfr
    have HG := hide (And.intro sg trivial)
    have K1 := hide k1
    clear hc hn hfr h hgB hob hg h0 sg eS k1
    obtain ⟨f, hf⟩ : ∃ f, f = psI its n := ⟨_, rfl⟩
    have HFN := hide hf
    have F0 : Hid (f 0 = n) := by show f 0 = n; rw [hf]; rfl
    have FS : Hid (∀ k, f (k + 1) = f k + ((its.getD k (0, [])).2.length : Int) + 1) := fun k => by rw [hf]; rfl
    rw [← hf]
    simp only [← hf] at BD K1
    clear hf
    generalize hm : its.length = m at *
    have HMM := hide hm
    clear hm
    go_enter Try.func28, Try.ntmps28
    go_wp2
    go_loopw [1, 5] (fun q i wr => ∃ (k : Nat), k ≤ m ∧ i = .int .i64 k ∧ q = .int .i64 (f k) ∧ Bsx SS w wr ∧ Hid (∀ j, wr.frozen? ⟨g, j, none⟩ = false) ∧ Hid (∀ i, i < k → MkP wr g its bs n i) ∧ Hid (∀ i, k ≤ i → i < m → MkQ wr g its bs i)) (fun _ i _ => m - (intOf i).toNat)
    case atStart => exact ⟨0, Nat.zero_le _, rfl, by rw [F0.out], Bsx.refl _ _, HF, fun i hi => absurd hi (by omega), fun i _ hi => QS.out i hi⟩
    case round =>
      obtain ⟨k, hk, rfl, rfl, T, FR, P, Q⟩ := hrel
      by_cases hlt : k < m
      · have t0 : (k : Int) < (m : Int) := by omega
        have hm : m ≤ 1048576 := HL.out
        obtain ⟨b0, b1⟩ := (BD k).out (by omega)
        have K1' := K1.out
        have b2 : f k ≤ 1000000000 := by omega
        have c0 := (Q.out k (Nat.le_refl _) hlt).1
        have c1 := (Q.out k (Nat.le_refl _) hlt).2.1
        have hL := HN.out k hlt
        have OW : Hid (Own wr (if 0 < (its.getD k (0, [])).2.length then (bs.getD k plc0).q else wr.heap.size) (bs.getD k plc0).a .u8 (its.getD k (0, [])).2) := by
          show Own _ _ _ _ _
          split
          · exact (Q.out k (Nat.le_refl _) hlt).2.2
          · rename_i hp
            exact fun h1 => absurd h1 hp
        have MB := hide (markByteS_any wr _ (bs.getD k plc0).a (bs.getD k plc0).c _ (f k) OW.out (by have := HN.out k hlt; omega) (by omega) (by omega))
        have f2 := hide (FS.out k)
        have PP : Hid (∀ w2, Own w2 (if 0 < (its.getD k (0, [])).2.length then (bs.getD k plc0).q else wr.heap.size) (bs.getD k plc0).a .u8 (marks (f k) (its.getD k (0, [])).2.length) → Only (if 0 < (its.getD k (0, [])).2.length then (bs.getD k plc0).q else wr.heap.size) wr w2 → (w2.cell? ⟨g, k * 2 + 1, none⟩ = some (.int .i64 (its.getD k (0, [])).1) ∧ w2.frozen? ⟨g, k * 2 + 1, none⟩ = false) ∧ Hid (Bsx SS w (w2.setCell ⟨g, k * 2 + 1, none⟩ (.int .i64 (f k + ((its.getD k (0, [])).2.length : Int)))) ∧ Hid (∀ j, (w2.setCell ⟨g, k * 2 + 1, none⟩ (.int .i64 (f k + ((its.getD k (0, [])).2.length : Int)))).frozen? ⟨g, j, none⟩ = false) ∧ Hid (∀ i, i < k + 1 → MkP (w2.setCell ⟨g, k * 2 + 1, none⟩ (.int .i64 (f k + ((its.getD k (0, [])).2.length : Int)))) g its bs n i) ∧ Hid (∀ i, k + 1 ≤ i → i < m → MkQ (w2.setCell ⟨g, k * 2 + 1, none⟩ (.int .i64 (f k + ((its.getD k (0, [])).2.length : Int)))) g its bs i))) := by
          intro w2 ho oo
          have fk : f k = psI its n k := by rw [HFN.out]
          have gW : g < wr.heap.size := block_lt_of_cell c0
          have NE : ∀ p, p < wr.heap.size → (0 < (its.getD k (0, [])).2.length → p ≠ (bs.getD k plc0).q) → w2.heap[p]? = wr.heap[p]? := fun p hp hq => oo.block p (by split <;> rename_i hh; exact hq hh; omega)
          have gg : w2.heap[g]? = wr.heap[g]? := NE g gW (fun hh e => (HH.out k hlt hh).2.2 e.symm)
          have CC : ∀ j, w2.cell? ⟨g, j, none⟩ = wr.cell? ⟨g, j, none⟩ := fun j => World.cell?_of_block (a := ⟨g, j, none⟩) gg
          have F2 : ∀ j, w2.frozen? ⟨g, j, none⟩ = false := fun j => by rw [World.frozen?_of_block (a := ⟨g, j, none⟩) gg]; exact FR.out j
          refine ⟨⟨(CC _).trans c1, F2 _⟩, ?_⟩
          obtain ⟨W3, eW⟩ : ∃ W3, W3 = w2.setCell ⟨g, k * 2 + 1, none⟩ (.int .i64 (f k + ((its.getD k (0, [])).2.length : Int))) := ⟨_, rfl⟩
          rw [← eW]
          have O1 : Only g w2 W3 := by rw [eW]; exact Only.setCell _ _ _ _
          have S1 : W3.cell? ⟨g, k * 2 + 1, none⟩ = some (.int .i64 (f k + ((its.getD k (0, [])).2.length : Int))) := by rw [eW]; exact World.cell?_setCell_same _ _ _ ((CC _).trans c1)
          have S2 : ∀ j, j ≠ k * 2 + 1 → W3.cell? ⟨g, j, none⟩ = wr.cell? ⟨g, j, none⟩ := fun j hj => by rw [eW]; exact (World.cell?_setCell_other _ _ _ _ (fun e => hj (by simpa using e.symm))).trans (CC j)
          have FR1 : Hid (∀ j, W3.frozen? ⟨g, j, none⟩ = false) := fun j => by rw [eW]; simpa using F2 j
          have DQ : ∀ i, i < m → i ≠ k → 0 < (its.getD i (0, [])).2.length → (bs.getD i plc0).q < wr.heap.size → W3.heap[(bs.getD i plc0).q]? = wr.heap[(bs.getD i plc0).q]? := fun i hi hne hp hs =>
            (O1.block _ (HH.out i hi hp).2.2).trans (NE _ hs (fun hh e => HD.out i k hi hlt hne hp hh e))
          have T2 : Bsx SS w w2 := by
            by_cases hh : 0 < (its.getD k (0, [])).2.length
            · rw [if_pos hh] at oo
              exact T.only oo (HH.out k hlt hh).1 (HH.out k hlt hh).2.1
            · rw [if_neg hh] at oo
              exact T.trans ⟨oo.os, oo.tape, oo.output, oo.size, fun p _ => by
                by_cases hp : p = wr.heap.size
                · have sz := oo.size
                  rw [hp, Array.getElem?_eq_none (by omega), Array.getElem?_eq_none (by omega)]
                · exact oo.block p hp⟩
          refine ⟨T2.only O1 HG.out.1 HG.out.2, FR1, fun i hi => ?_, fun i hi hi2 => ?_⟩
          · by_cases hik : i = k
            · subst hik
              refine ⟨(S2 _ (by omega)).trans c0, by rw [S1, fk], ?_⟩
              rw [← fk]
              by_cases hh : 0 < (its.getD i (0, [])).2.length
              · rw [if_pos hh] at ho
                exact own_any ho (fun _ => O1.block _ (HH.out i hlt hh).2.2)
              · exact fun h1 => absurd h1 (by rw [marks_len]; exact hh)
            · have Pi := P.out i (by omega)
              exact Pi.keep (S2 _ (by omega)) (S2 _ (by omega)) (fun hp => DQ i (by omega) hik hp (Pi.2.2.rd.lt (by rw [marks_len]; exact hp)))
          · have Qi := Q.out i (by omega) hi2
            exact Qi.keep (S2 _ (by omega)) (S2 _ (by omega)) (fun hp => DQ i hi2 (by omega) hp (Qi.2.2.rd.lt hp))
        clear OW P Q T FR b1 F0 FS QS HH HD HN HF HG c1 K1 K1' BD
        generalize (if 0 < (its.getD k (0, [])).2.length then (bs.getD k plc0).q else wr.heap.size) = PQ at *
        generalize (its.getD k (0, [])).2.length = L at *
        generalize (its.getD k (0, [])).1 = U1 at *
        generalize (bs.getD k plc0).c = C1 at *
        generalize (bs.getD k plc0).a = A1 at *
        have f3 := f2.out
        clear f2
        have F3 := hide f3
        clear f3
        generalize f k = z at *
        have w1 : IntKind.i64.wrap (z + (L : Int)) = z + (L : Int) := by rw [IntKind.wrap_i64]; omega
        go_wp2_with fail
        refine MB.out.mono ?_
        rintro e w2 ⟨rfl, ho, oo⟩
        obtain ⟨⟨d1, d2⟩, PF⟩ := PP.out w2 ho oo
        clear ho oo MB PP c0
        go_wp2
        go_roundw
        case rel => exact ⟨k + 1, by omega, by go_num, by rw [F3.out], PF.out⟩
        case measure => simp [intOf]; omega
      · obtain rfl : k = m := by omega
        have FIN : Hid (Mkd wr (.slice (some ⟨g, 0, none⟩) k c) its bs n) := fun g' c' e i hi => by
          injection e with e1 e2 e3
          injection e1 with e1
          injection e1 with e1 _ _
          subst e1
          exact P.out i (by rw [HMM.out] at hi; exact hi)
        go_wp2
        go_ret
        exact ⟨rfl, FIN.out, T⟩
  · obtain ⟨a, c, rfl, -⟩ := h.slice
    obtain rfl : its = [] := List.eq_nil_of_length_eq_zero (by omega)
    clear h hl hn h0 k1
    go_enter Try.func28, Try.ntmps28
    go_wp2
    go_loopw [1, 5] (fun q i wr => q = .int .i64 n ∧ i = .int .i64 0 ∧ wr = w) (fun _ _ _ => 0)
    case atStart => exact ⟨rfl, rfl, rfl⟩
    case round =>
      obtain ⟨rfl, rfl, rfl⟩ := hrel
      go_wp2
      go_ret
      exact ⟨rfl, fun g c e i hi => absurd hi (by simp), Bsx.refl _ _⟩

set_option maxRecDepth 100000 in
set_option maxHeartbeats 2000000 in
theorem heldMarkS_any (w : World) (v : Value) (its : List (Int × List Int)) (bs : List Plc) (n : Int) (hv : ∃ a c, v = .slice a its.length c ∧ (0 < its.length → ∃ g, a = some ⟨g, 0, none⟩)) (h : Mkd w v its bs n) (hl : its.length ≤ 1048576) (hn : ∀ i, i < its.length → (its.getD i (0, [])).2.length ≤ 1048576) (k0 : 0 ≤ n) (k1 : psI its n its.length ≤ 1000000000) :
    Calls Try.prog 41 #[v, .int .i64 n] w fun e w' => e = .returned (.int .i64 (psI its n its.length)) ∧ w' = w := by
  obtain ⟨a, c, rfl, ha⟩ := hv
  by_cases h0 : 0 < its.length
  · obtain ⟨g, rfl⟩ := ha h0
    have P := hide (h g c rfl)
    have BD := fun k => hide (psI_bd (its := its) k0 k)
    have HN := hide hn
    have HL := hide hl
    have K1 := hide k1
    clear hn h h0 ha k1
    obtain ⟨f, hf⟩ : ∃ f, f = psI its n := ⟨_, rfl⟩
    have HFN := hide hf
    have F0 : Hid (f 0 = n) := by show f 0 = n; rw [hf]; rfl
    have FS : Hid (∀ k, f (k + 1) = f k + ((its.getD k (0, [])).2.length : Int) + 1) := fun k => by rw [hf]; rfl
    rw [← hf]
    simp only [← hf] at BD K1
    clear hf
    generalize its.length = m at *
    go_enter Try.func41, Try.ntmps41
    go_wp2
    go_loopw [1, 5] (fun q i wr => ∃ (k : Nat), k ≤ m ∧ i = .int .i64 k ∧ q = .int .i64 (f k) ∧ wr = w) (fun _ i _ => m - (intOf i).toNat)
    case atStart => exact ⟨0, Nat.zero_le _, rfl, by rw [F0.out], rfl⟩
    case round =>
      obtain ⟨k, hk, rfl, rfl, rfl⟩ := hrel
      by_cases hlt : k < m
      · have t0 : (k : Int) < (m : Int) := by omega
        have hm : m ≤ 1048576 := HL.out
        obtain ⟨b0, b1⟩ := (BD k).out (by omega)
        have K1' := K1.out
        have b2 : f k ≤ 1000000000 := by omega
        have fk : f k = psI its n k := by rw [HFN.out]
        obtain ⟨p0, p1, p2⟩ := P.out k hlt
        rw [← fk] at p1 p2
        have HB := hide (heldByteS_any wr _ (bs.getD k plc0).a (bs.getD k plc0).c _ (f k) p2.rd (by have := HN.out k hlt; omega) (by omega) (by omega))
        have F3 := hide (FS.out k)
        have hL := HN.out k hlt
        clear p2 b1 fk F0 FS HN P BD HFN K1 K1'
        generalize (its.getD k (0, [])).2.length = L at *
        generalize (bs.getD k plc0).c = C1 at *
        generalize (bs.getD k plc0).a = A1 at *
        generalize f k = z at *
        have t3 : decide (z + (L : Int) < 0) = false := by simp; omega
        have w1 : IntKind.i64.wrap (z + (L : Int)) = z + (L : Int) := by rw [IntKind.wrap_i64]; omega
        go_wp2_with fail
        refine HB.out.mono ?_
        rintro e w2 ⟨rfl, hw⟩
        have hw := hw.symm
        subst hw
        clear HB
        go_wp2
        go_roundw
        case rel => exact ⟨k + 1, by omega, by go_num, by rw [F3.out], by first | rfl | trivial⟩
        case measure => simp [intOf]; omega
      · obtain rfl : k = m := by omega
        go_wp2
        go_ret
        exact ⟨rfl, rfl⟩
  · obtain rfl : its = [] := List.eq_nil_of_length_eq_zero (by omega)
    clear h hl hn h0 ha k1
    go_enter Try.func41, Try.ntmps41
    go_wp2
    go_loopw [1, 5] (fun q i wr => q = .int .i64 n ∧ i = .int .i64 0 ∧ wr = w) (fun _ _ _ => 0)
    case atStart => exact ⟨rfl, rfl, rfl⟩
    case round =>
      obtain ⟨rfl, rfl, rfl⟩ := hrel
      go_wp2
      go_ret
      exact ⟨rfl, rfl⟩
set_option maxRecDepth 100000 in
/-- A row's slice, as the marks' helpers want it. -/
theorem IRow.shape {w : World} {B : Nat} {v : Value} {its : List (Int × List Int)} {bs : List Plc} (h : IRow w B v its bs) : ∃ a c, v = .slice a its.length c ∧ (0 < its.length → ∃ g, a = some ⟨g, 0, none⟩) := by
  by_cases h0 : 0 < its.length
  · obtain ⟨g, c, e, -⟩ := h.cells h0
    exact ⟨_, c, e, fun _ => ⟨g, rfl⟩⟩
  · obtain ⟨a, c, e, -⟩ := h.slice
    exact ⟨a, c, e, fun h1 => absurd h1 h0⟩
end Go.Proofs.Ytjjoimlnpbelpaa

/-
  The laws' helpers on a Saved: counted, copied, held against each other (written by gens/svc.py).
-/
namespace Go.Proofs.Ytjjoimlnpbelpaa
open Go Go.RowKit

theorem oneSv (md li : Int) (ho pr : ByteArray) (ea : Int) (a : Option Addr) (n c : Nat) (a' : Option Addr) (n' c' : Nat) (a'' : Option Addr) (n'' c'' : Nat) : ([.slice a n c, .slice a' n' c', .slice a'' n'' c'', .int .i64 md, .int .i64 li, .string ho, .string pr, .int .i64 ea] : List Value).toArray.all (·.oneCell') = true := all_oneCell_toArray fun v hv => by
  simp only [List.mem_cons, List.not_mem_nil, or_false] at hv
  rcases hv with rfl | rfl | rfl | rfl | rfl | rfl | rfl | rfl
  all_goals rfl
end Go.Proofs.Ytjjoimlnpbelpaa
