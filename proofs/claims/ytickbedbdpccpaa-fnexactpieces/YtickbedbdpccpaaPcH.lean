
/-
  The law's own helpers on rows of blobs: markBlobS, heldBlobS.
-/
import Derived.Test.YtickbedbdpccpaaPcE
namespace Go.Proofs.Ytickbedbdpccpaa
open Go Go.RowKit

/-- The number that a blob's first byte is marked with. -/
def psB (its : List (List Int)) (n : Int) : Nat → Int
  | 0 => n
  | k + 1 => psB its n k + ((its.getD k []).length : Int)
theorem psB_bd {its : List (List Int)} {n : Int} (h0 : 0 ≤ n) (hn : ∀ i, i < its.length → (its.getD i []).length ≤ 2048) : ∀ k, k ≤ its.length → 0 ≤ psB its n k ∧ psB its n k ≤ n + (k : Int) * 2048
  | 0, _ => by simp [psB, h0]
  | k + 1, h => by
    have := psB_bd h0 hn k (by omega)
    have := hn k (by omega)
    simp only [psB]
    omega
/-- The blocks of the row's lists. -/
def lstS (its : List (List Int)) (bs : List Plc) (p : Nat) : Prop := ∃ i, i < its.length ∧ 0 < (its.getD i []).length ∧ (bs.getD i plc0).q = p
/-- What lies outside these blocks has not turned. -/
structure Bsy (S : Nat → Prop) (w w' : World) : Prop where
  os : w'.os = w.os
  tape : w'.tape = w.tape
  output : w'.output = w.output
  size : w'.heap.size = w.heap.size
  block : ∀ k, ¬ S k → w'.heap[k]? = w.heap[k]?
theorem Bsy.refl (S : Nat → Prop) (w : World) : Bsy S w w := ⟨rfl, rfl, rfl, rfl, fun _ _ => rfl⟩
theorem own_anyB {w w' : World} {g : Nat} {a : Option Addr} {xs : List Int} (h : Own w g a .u8 xs) (hb : 0 < xs.length → w'.heap[g]? = w.heap[g]?) : Own w' g a .u8 xs := fun h0 => h.of_block (hb h0) h0
/-- The whole row, marked. -/
def MkdB (w : World) (v : Value) (its : List (List Int)) (bs : List Plc) (n : Int) : Prop := ∀ g c, v = .slice (some ⟨g, 0, none⟩) its.length c → ∀ i, i < its.length → w.cell? ⟨g, i, none⟩ = some (.slice (bs.getD i plc0).a (its.getD i []).length (bs.getD i plc0).c) ∧ Own w (bs.getD i plc0).q (bs.getD i plc0).a .u8 (marks (psB its n i) (its.getD i []).length)
theorem MkdB.up {w w' : World} {v : Value} {its : List (List Int)} {bs : List Plc} {n : Int} (h : MkdB w v its bs n) (N : Below w.heap.size w w') : MkdB w' v its bs n := fun g c e i hi => by
  have P := h g c e i hi
  have hg : g < w.heap.size := block_lt_of_cell P.1
  exact ⟨(World.cell?_of_block (a := ⟨g, i, none⟩) (N.block g hg)).trans P.1, own_anyB P.2 (fun h0 => N.block _ (P.2.rd.lt h0))⟩

set_option maxHeartbeats 2000000 in
theorem markBlobS_any (w : World) (B : Nat) (v : Value) (its : List (List Int)) (bs : List Plc) (n : Int) (h : BRow w B v its bs) (hl : its.length ≤ 1000) (hn : ∀ i, i < its.length → (its.getD i []).length ≤ 2048) (k0 : 0 ≤ n) (k1 : n ≤ 1000) :
    Calls Try.prog 15 #[v, .int .i64 n] w fun e w' => e = .returned (.int .i64 (psB its n its.length)) ∧ MkdB w' v its bs n ∧ Bsy (lstS its bs) w w' := by
  by_cases h0 : 0 < its.length
  · obtain ⟨g, c, rfl, hgB, hg, hob, hc⟩ := h.cells h0
    have BD := fun k => hide (psB_bd k0 hn k)
    have HC := hide hc
    have HO : Hid (∀ i, i < its.length → Own w (bs.getD i plc0).q (bs.getD i plc0).a .u8 (its.getD i [])) := fun i hi => (h.b i hi).o
    have HH : Hid (∀ i, i < its.length → 0 < (its.getD i []).length → (bs.getD i plc0).q ≠ g) := fun i hi h1 e => (h.h i hi h1).2 (by rw [e]; exact hob)
    have HD := hide h.d
    have HN := hide hn
    have HL := hide hl
    have SG : Hid (¬ lstS its bs g) := fun hs => by
      obtain ⟨i, hi, h1, e⟩ := hs
      exact HH.out i hi h1 e
    clear hc hn h hgB hob h0
    obtain ⟨f, hf⟩ : ∃ f, f = psB its n := ⟨_, rfl⟩
    have HFN := hide hf
    have F0 : Hid (f 0 = n) := by show f 0 = n; rw [hf]; rfl
    have FS : Hid (∀ k, f (k + 1) = f k + ((its.getD k []).length : Int)) := fun k => by rw [hf]; rfl
    rw [← hf]
    simp only [← hf] at BD
    clear hf
    generalize hm : its.length = m at *
    have HMM := hide hm
    clear hm
    go_enter Try.func15, Try.ntmps15
    go_wp2
    go_loopw [1, 5] (fun q i wr => ∃ (k : Nat), k ≤ m ∧ i = .int .i64 k ∧ q = .int .i64 (f k) ∧ Bsy (lstS its bs) w wr ∧ Hid (∀ i, i < k → Own wr (bs.getD i plc0).q (bs.getD i plc0).a .u8 (marks (f i) (its.getD i []).length)) ∧ Hid (∀ i, k ≤ i → i < m → Own wr (bs.getD i plc0).q (bs.getD i plc0).a .u8 (its.getD i []))) (fun _ i _ => m - (intOf i).toNat)
    case atStart => exact ⟨0, Nat.zero_le _, rfl, by rw [F0.out], Bsy.refl _ _, fun i hi => absurd hi (by omega), fun i _ hi => HO.out i hi⟩
    case round =>
      obtain ⟨k, hk, rfl, rfl, T, P, Q⟩ := hrel
      have TC := hide fun i hi => (World.cell?_of_block (a := ⟨g, i, none⟩) (T.block g SG.out)).trans (HC.out i hi)
      by_cases hlt : k < m
      · have t0 : (k : Int) < (m : Int) := by omega
        have hm : m ≤ 1000 := HL.out
        obtain ⟨b0, b1⟩ := (BD k).out (by omega)
        have b2 : f k ≤ 2000000000 := by omega
        have c0 := TC.out k hlt
        have OW : Hid (Own wr (if 0 < (its.getD k []).length then (bs.getD k plc0).q else wr.heap.size) (bs.getD k plc0).a .u8 (its.getD k [])) := by
          show Own _ _ _ _ _
          split
          · exact Q.out k (Nat.le_refl _) hlt
          · rename_i hp
            exact fun h1 => absurd h1 hp
        have MB := hide (markByteS_any wr _ (bs.getD k plc0).a (bs.getD k plc0).c _ (f k) OW.out (by have := HN.out k hlt; omega) (by omega) (by omega))
        have F3 := hide (FS.out k)
        have PP : Hid (∀ w2, Own w2 (if 0 < (its.getD k []).length then (bs.getD k plc0).q else wr.heap.size) (bs.getD k plc0).a .u8 (marks (f k) (its.getD k []).length) → Only (if 0 < (its.getD k []).length then (bs.getD k plc0).q else wr.heap.size) wr w2 → Bsy (lstS its bs) w w2 ∧ Hid (∀ i, i < k + 1 → Own w2 (bs.getD i plc0).q (bs.getD i plc0).a .u8 (marks (f i) (its.getD i []).length)) ∧ Hid (∀ i, k + 1 ≤ i → i < m → Own w2 (bs.getD i plc0).q (bs.getD i plc0).a .u8 (its.getD i []))) := by
          intro w2 ho oo
          have NE : ∀ p, p < wr.heap.size → (0 < (its.getD k []).length → p ≠ (bs.getD k plc0).q) → w2.heap[p]? = wr.heap[p]? := fun p hp hq => oo.block p (by split <;> rename_i hh; exact hq hh; omega)
          refine ⟨⟨oo.os.trans T.os, oo.tape.trans T.tape, oo.output.trans T.output, oo.size.trans T.size, fun p hp => ?_⟩, fun i hi => ?_, fun i hi hi2 => ?_⟩
          · refine Eq.trans ?_ (T.block p hp)
            by_cases hh : 0 < (its.getD k []).length
            · rw [if_pos hh] at oo
              exact oo.block p (fun e => hp ⟨k, by rw [HMM.out]; exact hlt, hh, e.symm⟩)
            · rw [if_neg hh] at oo
              by_cases hp' : p = wr.heap.size
              · have sz := oo.size
                rw [hp', Array.getElem?_eq_none (by omega), Array.getElem?_eq_none (by omega)]
              · exact oo.block p hp'
          · by_cases hik : i = k
            · subst hik
              by_cases hh : 0 < (its.getD i []).length
              · rw [if_pos hh] at ho
                exact ho
              · exact fun h1 => absurd h1 (by rw [marks_len]; exact hh)
            · exact own_anyB (P.out i (by omega)) (fun h1 => NE _ ((P.out i (by omega)).rd.lt h1) (fun hh e => HD.out i k (by omega) hlt hik (by rwa [marks_len] at h1) hh e))
          · exact own_anyB (Q.out i (by omega) hi2) (fun h1 => NE _ ((Q.out i (by omega) hi2).rd.lt h1) (fun hh e => HD.out i k hi2 hlt (by omega) h1 hh e))
        clear OW P Q T b1 F0 FS HH HD HN TC HC HO
        generalize (if 0 < (its.getD k []).length then (bs.getD k plc0).q else wr.heap.size) = PQ at *
        generalize (its.getD k []).length = L at *
        generalize (bs.getD k plc0).c = C1 at *
        generalize (bs.getD k plc0).a = A1 at *
        generalize f k = z at *
        go_wp2_with fail
        refine MB.out.mono ?_
        rintro e w2 ⟨rfl, ho, oo⟩
        have PF := PP.out w2 ho oo
        clear ho oo MB PP c0
        go_wp2
        go_roundw
        case rel => exact ⟨k + 1, by omega, by go_num, by rw [F3.out], PF⟩
        case measure => simp [intOf]; omega
      · obtain rfl : k = m := by omega
        have FIN : Hid (MkdB wr (.slice (some ⟨g, 0, none⟩) k c) its bs n) := fun g' c' e i hi => by
          injection e with e1 e2 e3
          injection e1 with e1
          injection e1 with e1 _ _
          subst e1
          rw [HMM.out] at hi
          rw [← HFN.out]
          exact ⟨TC.out i hi, P.out i hi⟩
        go_wp2
        go_ret
        exact ⟨rfl, FIN.out, T⟩
  · obtain ⟨a, c, rfl, -⟩ := h.slice
    obtain rfl : its = [] := List.eq_nil_of_length_eq_zero (by omega)
    clear h hl hn h0
    go_enter Try.func15, Try.ntmps15
    go_wp2
    go_loopw [1, 5] (fun q i wr => q = .int .i64 n ∧ i = .int .i64 0 ∧ wr = w) (fun _ _ _ => 0)
    case atStart => exact ⟨rfl, rfl, rfl⟩
    case round =>
      obtain ⟨rfl, rfl, rfl⟩ := hrel
      go_wp2
      go_ret
      exact ⟨rfl, fun g c e i hi => absurd hi (by simp), Bsy.refl _ _⟩
set_option maxHeartbeats 2000000 in
theorem heldBlobS_any (w : World) (v : Value) (its : List (List Int)) (bs : List Plc) (n : Int) (hv : ∃ a c, v = .slice a its.length c ∧ (0 < its.length → ∃ g, a = some ⟨g, 0, none⟩)) (h : MkdB w v its bs n) (hl : its.length ≤ 1000) (hn : ∀ i, i < its.length → (its.getD i []).length ≤ 2048) (k0 : 0 ≤ n) (k1 : n ≤ 1000) :
    Calls Try.prog 16 #[v, .int .i64 n] w fun e w' => e = .returned (.int .i64 (psB its n its.length)) ∧ w' = w := by
  obtain ⟨a, c, rfl, ha⟩ := hv
  by_cases h0 : 0 < its.length
  · obtain ⟨g, rfl⟩ := ha h0
    have P := hide (h g c rfl)
    have BD := fun k => hide (psB_bd k0 hn k)
    have HN := hide hn
    have HL := hide hl
    clear hn h h0 ha
    obtain ⟨f, hf⟩ : ∃ f, f = psB its n := ⟨_, rfl⟩
    have HFN := hide hf
    have F0 : Hid (f 0 = n) := by show f 0 = n; rw [hf]; rfl
    have FS : Hid (∀ k, f (k + 1) = f k + ((its.getD k []).length : Int)) := fun k => by rw [hf]; rfl
    rw [← hf]
    simp only [← hf] at BD
    clear hf
    generalize its.length = m at *
    go_enter Try.func16, Try.ntmps16
    go_wp2
    go_loopw [1, 5] (fun q i wr => ∃ (k : Nat), k ≤ m ∧ i = .int .i64 k ∧ q = .int .i64 (f k) ∧ wr = w) (fun _ i _ => m - (intOf i).toNat)
    case atStart => exact ⟨0, Nat.zero_le _, rfl, by rw [F0.out], rfl⟩
    case round =>
      obtain ⟨k, hk, rfl, rfl, rfl⟩ := hrel
      by_cases hlt : k < m
      · have t0 : (k : Int) < (m : Int) := by omega
        have hm : m ≤ 1000 := HL.out
        obtain ⟨b0, b1⟩ := (BD k).out (by omega)
        have b2 : f k ≤ 2000000000 := by omega
        have fk : f k = psB its n k := by rw [HFN.out]
        obtain ⟨p1, p2⟩ := P.out k hlt
        rw [← fk] at p2
        have HB := hide (heldByteS_any wr _ (bs.getD k plc0).a (bs.getD k plc0).c _ (f k) p2.rd (by have := HN.out k hlt; omega) (by omega) (by omega))
        have F3 := hide (FS.out k)
        have hL := HN.out k hlt
        clear p2 b1 fk F0 FS HN P BD HFN
        generalize (its.getD k []).length = L at *
        generalize (bs.getD k plc0).c = C1 at *
        generalize (bs.getD k plc0).a = A1 at *
        generalize f k = z at *
        have t3 : decide (z + (L : Int) < 0) = false := by simp; omega
        go_wp2_with fail
        refine HB.out.mono ?_
        rintro e w2 ⟨rfl, hw⟩
        have hw := hw.symm
        subst hw
        clear HB
        go_wp2
        go_roundw
        case rel => exact ⟨k + 1, by omega, by go_num, by rw [F3.out], by first | rfl | trivial⟩
        case measure => simp [intOf]; omega
      · obtain rfl : k = m := by omega
        go_wp2
        go_ret
        exact ⟨rfl, rfl⟩
  · obtain rfl : its = [] := List.eq_nil_of_length_eq_zero (by omega)
    clear h hl hn h0 ha
    go_enter Try.func16, Try.ntmps16
    go_wp2
    go_loopw [1, 5] (fun q i wr => q = .int .i64 n ∧ i = .int .i64 0 ∧ wr = w) (fun _ _ _ => 0)
    case atStart => exact ⟨rfl, rfl, rfl⟩
    case round =>
      obtain ⟨rfl, rfl, rfl⟩ := hrel
      go_wp2
      go_ret
      exact ⟨rfl, rfl⟩
/-- A row's slice, as the marks' helpers want it. -/
theorem BRow.shape {w : World} {B : Nat} {v : Value} {its : List (List Int)} {bs : List Plc} (h : BRow w B v its bs) : ∃ a c, v = .slice a its.length c ∧ (0 < its.length → ∃ g, a = some ⟨g, 0, none⟩) := by
  by_cases h0 : 0 < its.length
  · obtain ⟨g, c, e, -⟩ := h.cells h0
    exact ⟨_, c, e, fun _ => ⟨g, rfl⟩⟩
  · obtain ⟨a, c, e, -⟩ := h.slice
    exact ⟨a, c, e, fun h1 => absurd h1 h0⟩
end Go.Proofs.Ytickbedbdpccpaa
