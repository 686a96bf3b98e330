import Derived.Test.YtdnkgmlidhepbaaGreatGC33
import Derived.Test.YtdnkgmlidhepbaaGreatGC20
import Derived.Test.YtdnkgmlidhepbaaGreatGC21
namespace Go.Proofs.YtdnkgmlidhepbaaGreat
open Go Go.RowKit
set_option maxHeartbeats 2000000 in
theorem markBlobS_gen (w : World) (B : Nat) (v : Value) (its : List (List Int)) (bs : List Plc) (n : Int) (h : BRow w B v its bs) (hl : its.length ≤ 1000) (hn : ∀ i, i < its.length → (its.getD i []).length ≤ 2048) (k0 : 0 ≤ n) (k1 : n ≤ 1000000000000) :
    Calls Tryz.prog 59 #[v, .int .i64 n] w fun e w' => e = .returned (.int .i64 (psB its n its.length)) ∧ MkdB w' v its bs n ∧ Bsy (lstS its bs) w w' := by
  by_cases h0 : 0 < its.length
  · obtain ⟨g, c, rfl, hgB, hg, hob, hc⟩ := h.cells h0
    have BD := fun k => hide (psB_bd k0 hn k)
    have HC := hide hc
    have HO : Hid (∀ i, i < its.length → Own w (bs.getD i plc0).q (bs.getD i plc0).a .u8 (its.getD i [])) := fun i hi => (h.b i hi).o
    have HH : Hid (∀ i, i < its.length → 0 < (its.getD i []).length → (bs.getD i plc0).q ≠ g) := fun i hi h1 e => (h.h i hi h1).2 (by rw [e]; exact hob)
    have HD := hide h.d
    have HN := hide hn
    have HL := hide hl
    have SG : Hid (¬ lstS its bs g) := fun hs => by
      obtain ⟨i, hi, h1, e⟩ := hs
      exact HH.out i hi h1 e
    clear hc hn h hgB hob h0
    obtain ⟨f, hf⟩ : ∃ f, f = psB its n := ⟨_, rfl⟩
    have HFN := hide hf
    have F0 : Hid (f 0 = n) := by show f 0 = n; rw [hf]; rfl
    have FS : Hid (∀ k, f (k + 1) = f k + ((its.getD k []).length : Int)) := fun k => by rw [hf]; rfl
    rw [← hf]
    simp only [← hf] at BD
    clear hf
    generalize hm : its.length = m at *
    have HMM := hide hm
    clear hm
    go_enter Tryz.func59, Tryz.ntmps59
    go_wp2
    go_loopw [1, 5] (fun q i wr => ∃ (k : Nat), k ≤ m ∧ i = .int .i64 k ∧ q = .int .i64 (f k) ∧ Bsy (lstS its bs) w wr ∧ Hid (∀ i, i < k → Own wr (bs.getD i plc0).q (bs.getD i plc0).a .u8 (marks (f i) (its.getD i []).length)) ∧ Hid (∀ i, k ≤ i → i < m → Own wr (bs.getD i plc0).q (bs.getD i plc0).a .u8 (its.getD i []))) (fun _ i _ => m - (intOf i).toNat)
    case atStart => exact ⟨0, Nat.zero_le _, rfl, by rw [F0.out], Bsy.refl _ _, fun i hi => absurd hi (by omega), fun i _ hi => HO.out i hi⟩
    case round =>
      obtain ⟨k, hk, rfl, rfl, T, P, Q⟩ := hrel
      have TC := hide fun i hi => (World.cell?_of_block (a := ⟨g, i, none⟩) (T.block g SG.out)).trans (HC.out i hi)
      by_cases hlt : k < m
      · have t0 : (k : Int) < (m : Int) := by omega
        have hm : m ≤ 1000 := HL.out
        obtain ⟨b0, b1⟩ := (BD k).out (by omega)
        have b2 : f k ≤ 1010000000000 := by omega
        have c0 := TC.out k hlt
        have OW : Hid (Own wr (if 0 < (its.getD k []).length then (bs.getD k plc0).q else wr.heap.size) (bs.getD k plc0).a .u8 (its.getD k [])) := by
          show Own _ _ _ _ _
          split
          · exact Q.out k (Nat.le_refl _) hlt
          · rename_i hp
            exact fun h1 => absurd h1 hp
        have MB := hide (markByteS_any wr _ (bs.getD k plc0).a (bs.getD k plc0).c _ (f k) OW.out (by have := HN.out k hlt; omega) (by omega) (by omega))
        have F3 := hide (FS.out k)
        have PP : Hid (∀ w2, Own w2 (if 0 < (its.getD k []).length then (bs.getD k plc0).q else wr.heap.size) (bs.getD k plc0).a .u8 (marks (f k) (its.getD k []).length) → Only (if 0 < (its.getD k []).length then (bs.getD k plc0).q else wr.heap.size) wr w2 → Bsy (lstS its bs) w w2 ∧ Hid (∀ i, i < k + 1 → Own w2 (bs.getD i plc0).q (bs.getD i plc0).a .u8 (marks (f i) (its.getD i []).length)) ∧ Hid (∀ i, k + 1 ≤ i → i < m → Own w2 (bs.getD i plc0).q (bs.getD i plc0).a .u8 (its.getD i []))) := by
          intro w2 ho oo
          have NE : ∀ p, p < wr.heap.size → (0 < (its.getD k []).length → p ≠ (bs.getD k plc0).q) → w2.heap[p]? = wr.heap[p]? := fun p hp hq => oo.block p (by split <;> rename_i hh; exact hq hh; omega)
          refine ⟨⟨oo.os.trans T.os, oo.tape.trans T.tape, oo.output.trans T.output, oo.size.trans T.size, fun p hp => ?_⟩, fun i hi => ?_, fun i hi hi2 => ?_⟩
          · refine Eq.trans ?_ (T.block p hp)
            by_cases hh : 0 < (its.getD k []).length
            · rw [if_pos hh] at oo
              exact oo.block p (fun e => hp ⟨k, by rw [HMM.out]; exact hlt, hh, e.symm⟩)
            · rw [if_neg hh] at oo
              by_cases hp' : p = wr.heap.size
              · have sz := oo.size
                rw [hp', Array.getElem?_eq_none (by omega), Array.getElem?_eq_none (by omega)]
              · exact oo.block p hp'
          · by_cases hik : i = k
            · subst hik
              by_cases hh : 0 < (its.getD i []).length
              · rw [if_pos hh] at ho
                exact ho
              · exact fun h1 => absurd h1 (by rw [marks_len]; exact hh)
            · exact own_anyB (P.out i (by omega)) (fun h1 => NE _ ((P.out i (by omega)).rd.lt h1) (fun hh e => HD.out i k (by omega) hlt hik (by rwa [marks_len] at h1) hh e))
          · exact own_anyB (Q.out i (by omega) hi2) (fun h1 => NE _ ((Q.out i (by omega) hi2).rd.lt h1) (fun hh e => HD.out i k hi2 hlt (by omega) h1 hh e))
        clear OW P Q T b1 F0 FS HH HD HN TC HC HO
        generalize (if 0 < (its.getD k []).length then (bs.getD k plc0).q else wr.heap.size) = PQ at *
        generalize (its.getD k []).length = L at *
        generalize (bs.getD k plc0).c = C1 at *
        generalize (bs.getD k plc0).a = A1 at *
        generalize f k = z at *
        go_wp2_with fail
        refine MB.out.mono ?_
        rintro e w2 ⟨rfl, ho, oo⟩
        have PF := PP.out w2 ho oo
        clear ho oo MB PP c0
        go_wp2
        go_roundw
        case rel => exact ⟨k + 1, by omega, by go_num, by rw [F3.out], PF⟩
        case measure => simp [intOf]; omega
      · obtain rfl : k = m := by omega
        have FIN : Hid (MkdB wr (.slice (some ⟨g, 0, none⟩) k c) its bs n) := fun g' c' e i hi => by
          injection e with e1 e2 e3
          injection e1 with e1
          injection e1 with e1 _ _
          subst e1
          rw [HMM.out] at hi
          rw [← HFN.out]
          exact ⟨TC.out i hi, P.out i hi⟩
        go_wp2
        go_ret
        exact ⟨rfl, FIN.out, T⟩
  · obtain ⟨a, c, rfl, -⟩ := h.slice
    obtain rfl : its = [] := List.eq_nil_of_length_eq_zero (by omega)
    clear h hl hn h0
    go_enter Tryz.func59, Tryz.ntmps59
    go_wp2
    go_loopw [1, 5] (fun q i wr => q = .int .i64 n ∧ i = .int .i64 0 ∧ wr = w) (fun _ _ _ => 0)
    case atStart => exact ⟨rfl, rfl, rfl⟩
    case round =>
      obtain ⟨rfl, rfl, rfl⟩ := hrel
      go_wp2
      go_ret
      exact ⟨rfl, fun g c e i hi => absurd hi (by simp), Bsy.refl _ _⟩
set_option maxHeartbeats 2000000 in
theorem heldBlobS_gen (w : World) (v : Value) (its : List (List Int)) (bs : List Plc) (n : Int) (hv : ∃ a c, v = .slice a its.length c ∧ (0 < its.length → ∃ g, a = some ⟨g, 0, none⟩)) (h : MkdB w v its bs n) (hl : its.length ≤ 1000) (hn : ∀ i, i < its.length → (its.getD i []).length ≤ 2048) (k0 : 0 ≤ n) (k1 : n ≤ 1000000000000) :
    Calls Tryz.prog 61 #[v, .int .i64 n] w fun e w' => e = .returned (.int .i64 (psB its n its.length)) ∧ w' = w := by
  obtain ⟨a, c, rfl, ha⟩ := hv
  by_cases h0 : 0 < its.length
  · obtain ⟨g, rfl⟩ := ha h0
    have P := hide (h g c rfl)
    have BD := fun k => hide (psB_bd k0 hn k)
    have HN := hide hn
    have HL := hide hl
    clear hn h h0 ha
    obtain ⟨f, hf⟩ : ∃ f, f = psB its n := ⟨_, rfl⟩
    have HFN := hide hf
    have F0 : Hid (f 0 = n) := by show f 0 = n; rw [hf]; rfl
    have FS : Hid (∀ k, f (k + 1) = f k + ((its.getD k []).length : Int)) := fun k => by rw [hf]; rfl
    rw [← hf]
    simp only [← hf] at BD
    clear hf
    generalize its.length = m at *
    go_enter Tryz.func61, Tryz.ntmps61
    go_wp2
    go_loopw [1, 5] (fun q i wr => ∃ (k : Nat), k ≤ m ∧ i = .int .i64 k ∧ q = .int .i64 (f k) ∧ wr = w) (fun _ i _ => m - (intOf i).toNat)
    case atStart => exact ⟨0, Nat.zero_le _, rfl, by rw [F0.out], rfl⟩
    case round =>
      obtain ⟨k, hk, rfl, rfl, rfl⟩ := hrel
      by_cases hlt : k < m
      · have t0 : (k : Int) < (m : Int) := by omega
        have hm : m ≤ 1000 := HL.out
        obtain ⟨b0, b1⟩ := (BD k).out (by omega)
        have b2 : f k ≤ 1010000000000 := by omega
        have fk : f k = psB its n k := by rw [HFN.out]
        obtain ⟨p1, p2⟩ := P.out k hlt
        rw [← fk] at p2
        have HB := hide (heldByteS_any wr _ (bs.getD k plc0).a (bs.getD k plc0).c _ (f k) p2.rd (by have := HN.out k hlt; omega) (by omega) (by omega))
        have F3 := hide (FS.out k)
        have hL := HN.out k hlt
        clear p2 b1 fk F0 FS HN P BD HFN
        generalize (its.getD k []).length = L at *
        generalize (bs.getD k plc0).c = C1 at *
        generalize (bs.getD k plc0).a = A1 at *
        generalize f k = z at *
        have t3 : decide (z + (L : Int) < 0) = false := by simp; omega
        go_wp2_with fail
        refine HB.out.mono ?_
        rintro e w2 ⟨rfl, hw⟩
        have hw := hw.symm
        subst hw
        clear HB
        go_wp2
        go_roundw
        case rel => exact ⟨k + 1, by omega, by go_num, by rw [F3.out], by first | rfl | trivial⟩
        case measure => simp [intOf]; omega
      · obtain rfl : k = m := by omega
        go_wp2
        go_ret
        exact ⟨rfl, rfl⟩
  · obtain rfl : its = [] := List.eq_nil_of_length_eq_zero (by omega)
    clear h hl hn h0 ha
    go_enter Tryz.func61, Tryz.ntmps61
    go_wp2
    go_loopw [1, 5] (fun q i wr => q = .int .i64 n ∧ i = .int .i64 0 ∧ wr = w) (fun _ _ _ => 0)
    case atStart => exact ⟨rfl, rfl, rfl⟩
    case round =>
      obtain ⟨rfl, rfl, rfl⟩ := hrel
      go_wp2
      go_ret
      exact ⟨rfl, rfl⟩
set_option maxRecDepth 100000 in
set_option maxHeartbeats 2000000 in
theorem markStringS_gen (w : World) (B : Nat) (a : Option Addr) (c : Nat) (ls : List (List UInt8)) (k : Nat) (h : RowT w B (.slice a ls.length c) ls) (hn : ls.length ≤ 1048576) (k1 : k ≤ 1000000000000) :
    Calls Tryz.prog 58 #[.slice a ls.length c, .int .i64 (k : Int)] w fun e w' => e = .returned (.int .i64 ((k + ls.length : Nat) : Int)) ∧ RowT w' B (.slice a ls.length c) (mkT k ls.length) ∧ w.heap.size ≤ w'.heap.size ∧ w'.os = w.os ∧ w'.tape = w.tape ∧ w'.output = w.output ∧ ∀ b, b < w.heap.size → (0 < ls.length → Value.ownBlock (.slice a ls.length c) ≠ some b) → w'.heap[b]? = w.heap[b]? := by
  by_cases h0 : ls.length = 0
  · obtain rfl : ls = [] := List.eq_nil_of_length_eq_zero h0
    have H := hide h
    clear h
    go_enter Tryz.func58, Tryz.ntmps58
    go_wp2
    go_loopw [1, 5] (fun q i wr => q = .int .i64 (k : Int) ∧ i = .int .i64 0 ∧ wr = w) (fun _ i _ => (intOf i).toNat)
    case atStart => exact ⟨rfl, rfl, rfl⟩
    case round =>
      obtain ⟨rfl, rfl, rfl⟩ := hrel
      go_wp2
      go_ret
      exact ⟨rfl, H.out, Nat.le_refl _, rfl, rfl, rfl, fun _ _ _ => rfl⟩
  obtain ⟨g, c', e, hB, hl, hcl, hfr⟩ := h.cells (by omega)
  obtain ⟨rfl, rfl⟩ : a = some ⟨g, 0, none⟩ ∧ c = c' := by cases e; exact ⟨rfl, rfl⟩
  obtain ⟨n, hnl⟩ : ∃ n, Hid (ls.length = n) := ⟨_, rfl⟩
  have hn' : n ≤ 1048576 := by rw [← hnl.out]; exact hn
  have hnp : 0 < n := by rw [← hnl.out]; omega
  have M0 : MkTo k ls n 0 := ⟨hnl.out, fun i hi => absurd hi (by omega)⟩
  rw [hnl.out] at h ⊢
  clear hcl hfr e h0 hn
  go_enter Tryz.func58, Tryz.ntmps58
  go_wp2
  go_loopw [1, 5] (fun q i wr => ∃ (j : Nat) (ys : List (List UInt8)), j ≤ n ∧ i = .int .i64 j ∧ q = .int .i64 ((k + j : Nat) : Int) ∧ Hid (MkTo k ys n j) ∧ RowT wr B (.slice (some ⟨g, 0, none⟩) n c) ys ∧ Hid (w.heap.size ≤ wr.heap.size ∧ wr.os = w.os ∧ wr.tape = w.tape ∧ wr.output = w.output ∧ ∀ b, b < w.heap.size → g ≠ b → wr.heap[b]? = w.heap[b]?)) (fun _ i _ => n - (intOf i).toNat)
  case atStart => exact ⟨0, ls, Nat.zero_le _, rfl, by go_num, M0, h, Nat.le_refl _, rfl, rfl, rfl, fun _ _ _ => rfl⟩
  case round =>
    obtain ⟨j, ys, hj, rfl, rfl, hM, hR, hN⟩ := hrel
    clear M0 h
    by_cases hlt : j < n
    · have MT := hide (markText_is wr (k + j) (by omega))
      have HR := hide hR
      have ST := hide (hM.out.step hlt)
      have ly := hide hM.out.1
      clear hR hM
      go_wp2_with fail
      refine MT.out.mono ?_
      rintro e w2 ⟨rfl, n2⟩
      have R2 := HR.out.up n2
      obtain ⟨g', c'', e', -, -, hcl, hfr⟩ := R2.cells (by rw [ly.out]; omega)
      obtain rfl : g = g' := by cases e'; rfl
      have hcy : w2.cell? ⟨g, j, none⟩ = some (tx (ys.getD j [])) := hcl j (by rw [ly.out]; exact hlt)
      have hfy := hfr j
      have R3 := hide (R2.setAt j (mtF (k + j)))
      have O := Only.setCell w2 g j (tx (mtF (k + j)))
      have N3 : Hid (w.heap.size ≤ (w2.setCell ⟨g, j, none⟩ (tx (mtF (k + j)))).heap.size ∧ (w2.setCell ⟨g, j, none⟩ (tx (mtF (k + j)))).os = w.os ∧ (w2.setCell ⟨g, j, none⟩ (tx (mtF (k + j)))).tape = w.tape ∧ (w2.setCell ⟨g, j, none⟩ (tx (mtF (k + j)))).output = w.output ∧ ∀ b, b < w.heap.size → g ≠ b → (w2.setCell ⟨g, j, none⟩ (tx (mtF (k + j)))).heap[b]? = w.heap[b]?) := by
        obtain ⟨q1, q2, q3, q4, q5⟩ := hN.out
        exact ⟨by rw [O.size]; have := n2.size; omega, O.os.trans (n2.os.trans q2), O.tape.trans (n2.tape.trans q3), O.output.trans (n2.output.trans q4), fun b hb hne => (O.block b (fun e => hne e.symm)).trans ((n2.block b (by omega)).trans (q5 b hb hne))⟩
      generalize ys.getD j [] = y at *
      generalize mtF (k + j) = z at *
      clear R2 n2 HR hN MT O hcl hfr e'
      unfold tx at hcy R3 N3
      go_wp2
      go_roundw
      case rel => exact ⟨j + 1, ys.set j z, by omega, by go_num, by go_num, ST.out, R3.out, N3.out⟩
      case measure => simp [intOf]; omega
    · obtain rfl : j = n := by omega
      have e := hM.out.all
      subst e
      have HR := hide hR
      clear hR hM
      go_wp2
      go_ret
      obtain ⟨q1, q2, q3, q4, q5⟩ := hN.out
      exact ⟨rfl, HR.out, q1, q2, q3, q4, fun b hb hne => q5 b hb (fun e => hne hnp (by rw [e]; rfl))⟩
set_option maxRecDepth 100000 in
set_option maxHeartbeats 2000000 in
theorem heldStringS_gen (w : World) (g : Nat) (a : Option Addr) (c k n : Nat) (h : RdT w g a (mkT k n)) (hn : n ≤ 1048576) (k1 : k ≤ 1000000000000) :
    Calls Tryz.prog 60 #[.slice a n c, .int .i64 (k : Int)] w fun e w' => e = .returned (.int .i64 ((k + n : Nat) : Int)) ∧ Below w.heap.size w w' := by
  have H := hide h
  clear h
  go_enter Tryz.func60, Tryz.ntmps60
  go_wp2
  go_loopw [1, 5] (fun q i wr => ∃ j : Nat, j ≤ n ∧ i = .int .i64 j ∧ q = .int .i64 ((k + j : Nat) : Int) ∧ Below w.heap.size w wr) (fun _ i _ => n - (intOf i).toNat)
  case atStart => exact ⟨0, Nat.zero_le _, rfl, by go_num, Below.refl _ _⟩
  case round =>
    obtain ⟨j, hj, rfl, rfl, hN⟩ := hrel
    by_cases hlt : j < n
    · obtain ⟨off, rfl, hc⟩ := H.out (by rw [mkT_len]; omega)
      have hcj := hc j (by rw [mkT_len]; exact hlt)
      rw [mkT_get k n j hlt] at hcj
      have hcw : wr.cell? ⟨g, off + j, none⟩ = some (tx (mtF (k + j))) := (World.cell?_of_block (a := ⟨g, off + j, none⟩) (hN.block g (block_lt_of_cell hcj))).trans hcj
      have MT : Hid (Calls Tryz.prog 62 #[.int .i64 ((k + j : Nat) : Int)] wr.drew fun e w2 => e = .returned (.string ⟨⟨mtF (k + j)⟩⟩) ∧ w2.cell? ⟨g, off + j, none⟩ = some (.string ⟨⟨mtF (k + j)⟩⟩) ∧ Hid (Below w.heap.size w w2)) := by
        refine (markText_is wr.drew (k + j) (by omega)).mono ?_
        rintro e w2 ⟨rfl, n2⟩
        exact ⟨rfl, (World.cell?_of_block (a := ⟨g, off + j, none⟩) (n2.block g (block_lt_of_cell (show wr.drew.cell? ⟨g, off + j, none⟩ = _ from hcw)))).trans hcw, nxt hN.drew n2⟩
      unfold tx at hcw
      clear hc hcj hN
      generalize mtF (k + j) = z at *
      go_wp2_with fail
      go_region_with (go_at_call 62; refine MT.out.mono ?_; rintro e w2 ⟨rfl, m2, N2⟩)
      all_goals
        go_wp2
        go_roundw
        case rel => exact ⟨j + 1, by omega, by go_num, by go_num, N2.out⟩
        case measure => simp [intOf]; omega
    · obtain rfl : j = n := by omega
      have HN := hide hN
      clear hN
      go_wp2
      go_ret
      exact ⟨rfl, HN.out⟩
end Go.Proofs.YtdnkgmlidhepbaaGreat
namespace Go.Proofs.YtdnkgmlidhepbaaGreat
open Go Go.RowKit
theorem cmM_all {xs : List Int} (hb : Byt xs) : ∀ (f i : Nat), ∀ m ∈ cmM xs f i, IsM m ∧ SmM m
  | 0, _, m, h => by simp [cmM] at h
  | f + 1, i, m, h => by
    unfold cmM at h
    split at h
    · rcases List.mem_cons.1 h with rfl | h
      · exact ⟨isM_dm hb _, sm_dm _⟩
      · exact cmM_all hb f _ m h
    · simp at h
theorem cmM_len {xs : List Int} (hb : Byt xs) : ∀ (f i : Nat), i ≤ xs.length → 4 * (cmM xs f i).length + i ≤ xs.length
  | 0, i, h => by simpa [cmM] using h
  | f + 1, i, h => by
    unfold cmM
    split
    · rename_i h0
      obtain ⟨j, ej, h4, hj⟩ := dmE_at hb h h0
      have := cmM_len hb f j hj
      rw [ej, List.length_cons]
      show 4 * ((cmM xs f ((j : Nat) : Int).toNat).length + 1) + i ≤ _
      rw [Int.toNat_natCast]
      omega
    · simpa using h
theorem cmL_get {xs : List Int} (hb : Byt xs) (i : Nat) (hi : i < (cmL xs).length) : IsM ((cmL xs).getD i msg0) ∧ SmM ((cmL xs).getD i msg0) := by
  have e : (cmL xs).getD i msg0 = (cmL xs)[i] := by simp [List.getD, hi]
  rw [e]
  exact cmM_all hb _ _ _ (List.getElem_mem hi)
theorem cmL_len {xs : List Int} (hb : Byt xs) : 4 * (cmL xs).length ≤ xs.length := by
  have := cmM_len hb (xs.length + 1) 0 (Nat.zero_le _)
  unfold cmL
  omega
theorem MRow.rd {w : World} {B : Nat} {v : Value} {ms : List Msg} {es : List El} (h : MRow w B v ms es) : ∃ g a c, v = .slice a ms.length c ∧ RdMs w g a ms (fun i => (es.getD i el0).p) := by
  by_cases h0 : 0 < ms.length
  · obtain ⟨g, c, rfl, -, hg, -, hc, -⟩ := h.cells h0
    exact ⟨g, _, c, rfl, fun _ => ⟨rfl, hg, hc⟩, fun i hi => (h.b i hi).has⟩
  · obtain ⟨a, c, hv, -⟩ := h.slice
    exact ⟨0, a, c, hv, fun h' => absurd h' h0, fun i hi => (h.b i hi).has⟩
end Go.Proofs.YtdnkgmlidhepbaaGreat
namespace Go.Proofs.YtdnkgmlidhepbaaGreat
open Go Go.RowKit
def gA (k : Nat) (m : Msg) : Nat := k + 2 + m.r.length
def gB (k : Nat) (m : Msg) : Nat := gA k m + m.s.length
def gC (k : Nat) (m : Msg) : Nat := gB k m + 1 + m.pr.length
def gD (k : Nat) (m : Msg) : Nat := gC k m + m.ti.length
def gE (k : Nat) (m : Msg) : Nat := gD k m + 2 + m.bi.length
def gF (k : Nat) (m : Msg) : Nat := (psB m.ce ((gE k m + 1 : Nat) : Int) m.ce.length).toNat
def gG (k : Nat) (m : Msg) : Nat := gF k m + m.pf.length
theorem gF_is (k : Nat) {m : Msg} (h : SmM m) : psB m.ce ((gE k m + 1 : Nat) : Int) m.ce.length = (gF k m : Int) := by
  have := psB_bd (n := ((gE k m + 1 : Nat) : Int)) (its := m.ce) (by omega) h.z m.ce.length (Nat.le_refl _)
  unfold gF
  omega
theorem gE_bd (k : Nat) {m : Msg} (h : SmM m) : gE k m ≤ k + 905 := by
  have := h.a
  unfold gE gD gC gB gA
  omega
theorem gF_bd (k : Nat) {m : Msg} (h : SmM m) : gF k m ≤ k + 2050000 := by
  have b := psB_bd (n := ((gE k m + 1 : Nat) : Int)) (its := m.ce) (by omega) h.z m.ce.length (Nat.le_refl _)
  have e := gE_bd k h
  have c := h.c
  have g := gF_is k h
  have d : (m.ce.length : Int) * 2048 ≤ 1000 * 2048 := by omega
  omega
theorem gG_bd (k : Nat) {m : Msg} (h : SmM m) : gG k m ≤ k + 3200000 := by
  have := gF_bd k h
  have := h.f
  unfold gG
  omega
def kS (ms : List Msg) : Nat → Nat
  | 0 => 1
  | i + 1 => gG (kS ms i) (ms.getD i msg0)
theorem kS_bd {ms : List Msg} (h : ∀ i, i < ms.length → SmM (ms.getD i msg0)) : ∀ i, i ≤ ms.length → kS ms i ≤ 1 + i * 3200000
  | 0, _ => by simp [kS]
  | i + 1, hi => by
    have := kS_bd h i (by omega)
    have := gG_bd (kS ms i) (h i (by omega))
    show gG _ _ ≤ _
    omega
def mkV (p : MQ) (m : Msg) (k : Nat) : List Value := [.int .i64 (k : Int), .int .i64 ((k + 1 : Nat) : Int), .slice p.a2 m.r.length p.c2, .slice p.a3 m.s.length p.c3, .string ⟨⟨mtF (gB k m)⟩⟩, .slice p.a5 m.pr.length p.c5, .slice p.a6 m.ti.length p.c6, .int .i64 (gD k m : Int), .int .i64 ((gD k m + 1 : Nat) : Int), .slice p.a9 m.bi.length p.c9, .bool (decide (gE k m % 3 = 0)), .slice p.a11 m.ce.length p.c11, .slice p.a12 m.pf.length p.c12]
structure RJ (W : World) (g n j : Nat) (cur : Nat → List Value) (L : List Value) : Prop where
  a : W.rangeAt g (j * 13) L
  o : ∀ i, i < n → i ≠ j → W.rangeAt g (i * 13) (cur i)
  z : ∀ o, W.frozen? ⟨g, o, none⟩ = false
  l : L.length = 13
  c : ∀ i, i < n → (cur i).length = 13
theorem RJ.of {W W' : World} {g n j : Nat} {cur : Nat → List Value} {L : List Value} (h : RJ W g n j cur L) (hb : W'.heap[g]? = W.heap[g]?) : RJ W' g n j cur L :=
  ⟨fun f u hu => (World.cell?_of_block (a := ⟨g, j * 13 + f, none⟩) hb).trans (h.a f u hu), fun i hi hne f u hu => (World.cell?_of_block (a := ⟨g, i * 13 + f, none⟩) hb).trans (h.o i hi hne f u hu), fun o => (World.frozen?_of_block (a := ⟨g, o, none⟩) hb).trans (h.z o), h.l, h.c⟩
theorem RJ.cell {W : World} {g n j : Nat} {cur : Nat → List Value} {L : List Value} (h : RJ W g n j cur L) (f : Nat) (u : Value) (hu : L[f]? = some u) : W.cell? ⟨g, j * 13 + f, none⟩ = some u := h.a f u hu
theorem RJ.set {W : World} {g n j : Nat} {cur : Nat → List Value} {L : List Value} (h : RJ W g n j cur L) (f : Nat) (hf : f < 13) (v : Value) : RJ (W.setCell ⟨g, j * 13 + f, none⟩ v) g n j cur (L.set f v) := by
  have hL := h.l
  refine ⟨fun t u hu => ?_, fun i hi hne t u hu => ?_, fun o => by simpa using h.z o, by rw [List.length_set]; exact hL, h.c⟩
  · by_cases e : f = t
    · subst e
      rw [List.getElem?_set_self (by omega)] at hu
      obtain ⟨x, hx⟩ : ∃ x, L[f]? = some x := ⟨_, List.getElem?_eq_getElem (by omega)⟩
      rw [World.cell?_setCell_same W _ v (h.a f x hx)]
      exact hu
    · rw [List.getElem?_set_ne e] at hu
      rw [World.cell?_setCell_other W _ _ v (by intro e'; injection e' with _ e2 _; omega)]
      exact h.a t u hu
  · have ht : t < 13 := by have := (List.getElem?_eq_some_iff.1 hu).1; rw [h.c i hi] at this; exact this
    rw [World.cell?_setCell_other W _ _ v (by intro e'; injection e' with _ e2 _; omega)]
    exact h.o i hi hne t u hu
theorem RJ.lt {W : World} {g n j : Nat} {cur : Nat → List Value} {L : List Value} (h : RJ W g n j cur L) : g < W.heap.size := by
  have hL := h.l
  obtain ⟨x, hx⟩ : ∃ x, L[0]? = some x := ⟨_, List.getElem?_eq_getElem (by omega)⟩
  exact block_lt_of_cell (h.a 0 x hx)
structure Cg (g lo hi : Nat) (w w' : World) : Prop where
  os : w'.os = w.os
  tape : w'.tape = w.tape
  output : w'.output = w.output
  size : w.heap.size ≤ w'.heap.size
  block : ∀ b, b < w.heap.size → b ≠ g → b < lo ∨ hi ≤ b → w'.heap[b]? = w.heap[b]?
theorem Cg.refl (g lo hi : Nat) (w : World) : Cg g lo hi w w := ⟨rfl, rfl, rfl, Nat.le_refl _, fun _ _ _ _ => rfl⟩
theorem Cg.trans {g lo hi : Nat} {a b c : World} (h : Cg g lo hi a b) (k : Cg g lo hi b c) : Cg g lo hi a c :=
  ⟨k.os.trans h.os, k.tape.trans h.tape, k.output.trans h.output, Nat.le_trans h.size k.size, fun i hl hg hi => (k.block i (Nat.lt_of_lt_of_le hl h.size) hg hi).trans (h.block i hl hg hi)⟩
theorem Cg.mono {g lo hi lo' hi' : Nat} {a b : World} (h : Cg g lo hi a b) (hl : lo' ≤ lo) (hh : hi ≤ hi') : Cg g lo' hi' a b := ⟨h.os, h.tape, h.output, h.size, fun i hb hg hi => h.block i hb hg (by omega)⟩
theorem Cg.of_ch {g lo hi : Nat} {a b : World} (h : Ch lo hi a b) : Cg g lo hi a b := ⟨h.os, h.tape, h.output, h.size, fun i hb _ hi => h.block i hb hi⟩
theorem Cg.of_below {g lo hi : Nat} {a b : World} (h : Below a.heap.size a b) : Cg g lo hi a b := ⟨h.os, h.tape, h.output, h.size, fun i hb _ _ => h.block i hb⟩
theorem Cg.of_only {g lo hi : Nat} {a b : World} (h : Only g a b) : Cg g lo hi a b := ⟨h.os, h.tape, h.output, Nat.le_of_eq h.size.symm, fun i _ hg _ => h.block i hg⟩
structure Fen (F : Nat → Nat) (p : MQ) (m : Msg) (bs : List Plc) : Prop where
  b2 : 0 < m.r.length → F 0 ≤ p.g2 ∧ p.g2 < F 1
  b3 : 0 < m.s.length → F 1 ≤ p.g3 ∧ p.g3 < F 2
  b5 : 0 < m.pr.length → p.a5 = some ⟨p.g5, 0, none⟩ ∧ F 2 ≤ p.g5 ∧ p.g5 < F 3
  b6 : 0 < m.ti.length → F 3 ≤ p.g6 ∧ p.g6 < F 4
  b9 : 0 < m.bi.length → F 4 ≤ p.g9 ∧ p.g9 < F 5
  b11 : 0 < m.ce.length → p.a11 = some ⟨p.g11, 0, none⟩ ∧ F 5 ≤ p.g11 ∧ p.g11 < F 6
  bl : ∀ i, i < m.ce.length → 0 < (m.ce.getD i []).length → F 5 ≤ (bs.getD i plc0).q ∧ (bs.getD i plc0).q < F 6
  b12 : 0 < m.pf.length → F 6 ≤ p.g12 ∧ p.g12 < F 7
  mono : F 0 ≤ F 1 ∧ F 1 ≤ F 2 ∧ F 2 ≤ F 3 ∧ F 3 ≤ F 4 ∧ F 4 ≤ F 5 ∧ F 5 ≤ F 6 ∧ F 6 ≤ F 7
theorem AnsC.fen {W : World} {F : Nat → Nat} {p : MQ} {m : Msg} {bs : List Plc} (h : AnsC W F p m bs) : Fen F p m bs := by
  refine ⟨h.b2, h.b3, fun h0 => ?_, h.b6, h.b9, fun h0 => ?_, fun i hi h0 => ⟨((h.ce (by omega)).h i hi h0).1, h.bl i hi h0⟩, h.b12, h.mono⟩
  · have e := h.b5 h0
    refine ⟨e.1, ?_, e.2⟩
    exact (World.ownsRow.lt (h.pr h0) p.g5 (by rw [e.1]; rfl)).1
  · have e := h.b11 h0
    refine ⟨e.1, ?_, e.2⟩
    exact (World.ownsRow.lt (h.ce h0).o p.g11 (by rw [e.1]; rfl)).1
structure MkG (W : World) (p : MQ) (m : Msg) (bs : List Plc) (k : Nat) : Prop where
  r : Rd W p.g2 p.a2 .u8 (marks ((k + 2 : Nat) : Int) m.r.length)
  s : Rd W p.g3 p.a3 .u8 (marks (gA k m : Int) m.s.length)
  pr : RdT W p.g5 p.a5 (mkT (gB k m + 1) m.pr.length)
  ti : Rd W p.g6 p.a6 .u8 (marks (gC k m : Int) m.ti.length)
  bi : Rd W p.g9 p.a9 .u8 (marks ((gD k m + 2 : Nat) : Int) m.bi.length)
  ce : MkdB W (.slice p.a11 m.ce.length p.c11) m.ce bs ((gE k m + 1 : Nat) : Int)
  pf : Rd W p.g12 p.a12 .u8 (marks (gF k m : Int) m.pf.length)
theorem MkG.up {W W' : World} {p : MQ} {m : Msg} {bs : List Plc} {k : Nat} (h : MkG W p m bs k) (n : Below W.heap.size W W') : MkG W' p m bs k :=
  ⟨h.r.up n, h.s.up n, h.pr.up n, h.ti.up n, h.bi.up n, h.ce.up n, h.pf.up n⟩
theorem rd_ch {W W' : World} {g : Nat} {a : Option Addr} {xs : List Int} (h : Rd W g a .u8 xs) (hb : 0 < xs.length → W'.heap[g]? = W.heap[g]?) : Rd W' g a .u8 xs := fun h0 => by
  obtain ⟨o, e, hc⟩ := h h0
  exact ⟨o, e, fun i hi => (World.cell?_of_block (a := ⟨g, o + i, none⟩) (hb h0)).trans (hc i hi)⟩
theorem rdT_ch {W W' : World} {g : Nat} {a : Option Addr} {ls : List (List UInt8)} (h : RdT W g a ls) (hb : 0 < ls.length → W'.heap[g]? = W.heap[g]?) : RdT W' g a ls := fun h0 => by
  obtain ⟨o, e, hc⟩ := h h0
  exact ⟨o, e, fun i hi => (World.cell?_of_block (a := ⟨g, o + i, none⟩) (hb h0)).trans (hc i hi)⟩
theorem MkdB.of {W W' : World} {v : Value} {its : List (List Int)} {bs : List Plc} {n : Int} (h : MkdB W v its bs n) (hg : ∀ g c, v = .slice (some ⟨g, 0, none⟩) its.length c → 0 < its.length → W'.heap[g]? = W.heap[g]?) (hq : ∀ i, i < its.length → 0 < (its.getD i []).length → W'.heap[(bs.getD i plc0).q]? = W.heap[(bs.getD i plc0).q]?) : MkdB W' v its bs n := fun g c e i hi' => by
  have P := h g c e i hi'
  refine ⟨(World.cell?_of_block (a := ⟨g, i, none⟩) (hg g c e (by omega))).trans P.1, own_ch P.2 fun h0 => hq i hi' (by rw [marks_len] at h0; exact h0)⟩
theorem MkG.of {W W' : World} {F : Nat → Nat} {p : MQ} {m : Msg} {bs : List Plc} {k : Nat} (h : MkG W p m bs k) (f : Fen F p m bs) (hb : ∀ b, F 0 ≤ b → b < F 7 → W'.heap[b]? = W.heap[b]?) : MkG W' p m bs k := by
  have mo := f.mono
  refine ⟨rd_ch h.r fun h0 => ?_, rd_ch h.s fun h0 => ?_, rdT_ch h.pr fun h0 => ?_, rd_ch h.ti fun h0 => ?_, rd_ch h.bi fun h0 => ?_, h.ce.of (fun g c e h0 => ?_) (fun i hi h0 => ?_), rd_ch h.pf fun h0 => ?_⟩
  · have := f.b2 (by rw [marks_len] at h0; exact h0); exact hb _ (by omega) (by omega)
  · have := f.b3 (by rw [marks_len] at h0; exact h0); exact hb _ (by omega) (by omega)
  · have := f.b5 (by rw [mkT_len] at h0; exact h0); exact hb _ (by omega) (by omega)
  · have := f.b6 (by rw [marks_len] at h0; exact h0); exact hb _ (by omega) (by omega)
  · have := f.b9 (by rw [marks_len] at h0; exact h0); exact hb _ (by omega) (by omega)
  · have := f.b11 h0
    rw [this.1] at e
    injection e with e1
    injection e1 with e1
    injection e1 with e1
    rw [← e1]
    exact hb _ (by omega) (by omega)
  · have := f.bl i hi h0; exact hb _ (by omega) (by omega)
  · have := f.b12 (by rw [marks_len] at h0; exact h0); exact hb _ (by omega) (by omega)
end Go.Proofs.YtdnkgmlidhepbaaGreat
namespace Go.Proofs.YtdnkgmlidhepbaaGreat
open Go Go.RowKit
theorem markB_g (w : World) (g lo hi : Nat) (a : Option Addr) (ca : Nat) (xs : List Int) (k : Nat) (ha : Own w g a .u8 xs) (hb : 0 < xs.length → lo ≤ g ∧ g < hi) (hn : xs.length ≤ 1048576) (k1 : k ≤ 1000000000000) :
    Calls Tryz.prog 10 #[.slice a xs.length ca, .int .i64 (k : Int)] w fun e w' => e = .returned (.int .i64 ((k + xs.length : Nat) : Int)) ∧ Rd w' g a .u8 (marks (k : Int) xs.length) ∧ Ch lo hi w w' := by
  by_cases h0 : 0 < xs.length
  · refine (markByteS_any w g a ca xs (k : Int) ha hn (by omega) (by omega)).mono ?_
    rintro e w' ⟨rfl, o, O⟩
    exact ⟨rfl, o.rd, Ch.of_only O (hb h0).1 (hb h0).2⟩
  · refine (markByteS_any w w.heap.size a ca xs (k : Int) (fun h => absurd h h0) hn (by omega) (by omega)).mono ?_
    rintro e w' ⟨rfl, o, O⟩
    exact ⟨rfl, fun h => absurd h (by rw [marks_len]; omega), O.os, O.tape, O.output, Nat.le_of_eq O.size.symm, fun b hb _ => O.block b (by omega)⟩
set_option maxHeartbeats 1000000 in
theorem markT_0 (w : World) (a : Option Addr) (c : Nat) (k : Int) :
    Calls Tryz.prog 58 #[.slice a 0 c, .int .i64 k] w fun e w' => e = .returned (.int .i64 k) ∧ w' = w := by
  go_enter Tryz.func58, Tryz.ntmps58
  go_wp2
  go_loopw [1, 5] (fun x i wr => x = .int .i64 k ∧ i = .int .i64 0 ∧ wr = w) (fun _ _ _ => 0)
  case atStart => exact ⟨rfl, rfl, rfl⟩
  case round =>
    obtain ⟨rfl, rfl, rfl⟩ := hrel
    go_wp2
    go_ret
    exact ⟨rfl, rfl⟩
set_option maxHeartbeats 1000000 in
theorem markL_0 (w : World) (a : Option Addr) (c : Nat) (k : Int) :
    Calls Tryz.prog 59 #[.slice a 0 c, .int .i64 k] w fun e w' => e = .returned (.int .i64 k) ∧ w' = w := by
  go_enter Tryz.func59, Tryz.ntmps59
  go_wp2
  go_loopw [1, 5] (fun x i wr => x = .int .i64 k ∧ i = .int .i64 0 ∧ wr = w) (fun _ _ _ => 0)
  case atStart => exact ⟨rfl, rfl, rfl⟩
  case round =>
    obtain ⟨rfl, rfl, rfl⟩ := hrel
    go_wp2
    go_ret
    exact ⟨rfl, rfl⟩
theorem markT_g (w : World) (B g lo hi : Nat) (a : Option Addr) (c : Nat) (ls : List (List UInt8)) (k : Nat) (h : 0 < ls.length → RowT w B (.slice a ls.length c) ls) (hb : 0 < ls.length → a = some ⟨g, 0, none⟩ ∧ lo ≤ g ∧ g < hi) (hn : ls.length ≤ 1048576) (k1 : k ≤ 1000000000000) :
    Calls Tryz.prog 58 #[.slice a ls.length c, .int .i64 (k : Int)] w fun e w' => e = .returned (.int .i64 ((k + ls.length : Nat) : Int)) ∧ RdT w' g a (mkT k ls.length) ∧ Ch lo hi w w' := by
  by_cases h0 : 0 < ls.length
  · have e0 := hb h0
    refine (markStringS_gen w B a c ls k (h h0) hn k1).mono ?_
    rintro e w' ⟨rfl, R, q1, q2, q3, q4, q5⟩
    refine ⟨rfl, fun h1 => ?_, q2, q3, q4, q1, fun b hb' hh => q5 b hb' (fun _ e => by
      rw [e0.1] at e
      have : g = b := Option.some.inj e
      omega)⟩
    obtain ⟨g', c', e', -, -, hc, -⟩ := R.cells h1
    have eg : g = g' := by rw [e0.1] at e'; exact Option.some.inj (congrArg Value.ownBlock e')
    exact ⟨0, e0.1, fun i hi => by rw [Nat.zero_add, eg]; exact hc i hi⟩
  · have z : ls.length = 0 := by omega
    rw [z]
    refine (markT_0 w a c (k : Int)).mono ?_
    rintro e w' ⟨rfl, rfl⟩
    exact ⟨rfl, fun h1 => absurd h1 (by simp [mkT_len]), Ch.refl _ _ _⟩
theorem markL_g (w : World) (B lo hi : Nat) (a : Option Addr) (c : Nat) (its : List (List Int)) (bs : List Plc) (k : Nat) (h : 0 < its.length → BRow w B (.slice a its.length c) its bs) (hb : ∀ i, i < its.length → 0 < (its.getD i []).length → lo ≤ (bs.getD i plc0).q ∧ (bs.getD i plc0).q < hi) (hl : its.length ≤ 1000) (hn : ∀ i, i < its.length → (its.getD i []).length ≤ 2048) (k1 : k ≤ 1000000000000) :
    Calls Tryz.prog 59 #[.slice a its.length c, .int .i64 (k : Int)] w fun e w' => e = .returned (.int .i64 (psB its (k : Int) its.length)) ∧ MkdB w' (.slice a its.length c) its bs (k : Int) ∧ Ch lo hi w w' := by
  by_cases h0 : 0 < its.length
  · refine (markBlobS_gen w B _ its bs (k : Int) (h h0) hl hn (by omega) (by omega)).mono ?_
    rintro e w' ⟨rfl, M, Y⟩
    refine ⟨rfl, M, Y.os, Y.tape, Y.output, Nat.le_of_eq Y.size.symm, fun b hb' hh => Y.block b ?_⟩
    rintro ⟨i, hi, h0, e⟩
    have := hb i hi h0
    omega
  · have z : its.length = 0 := by omega
    obtain rfl := List.eq_nil_of_length_eq_zero z
    refine (markL_0 w a c (k : Int)).mono ?_
    rintro e w' ⟨rfl, rfl⟩
    exact ⟨rfl, fun g c e i hi => absurd hi (by simp), Ch.refl _ _ _⟩
end Go.Proofs.YtdnkgmlidhepbaaGreat
