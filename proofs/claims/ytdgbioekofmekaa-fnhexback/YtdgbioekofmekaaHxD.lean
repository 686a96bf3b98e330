
/-
  DecodeHex, both sides, and the laws' helpers on what it answers (written by hand out of AddS, ResH).
-/
import Derived.Test.YtdgbioekofmekaaHxN
import Derived.Test.YtdgbioekofmekaaRdT
namespace Go.Proofs.Ytdgbioekofmekaa
open Go Go.RowKit

/-- A cell of a new block of two, behind calls that keep what was there. -/
theorem two_kept {w w1 : World} {x y : Value} {t : TypeId} (n : Below (w.alloc (.cells #[x, y] t)).heap.size (w.alloc (.cells #[x, y] t)) w1) :
    w1.cell? ⟨w.heap.size, 0, none⟩ = some x ∧ w1.cell? ⟨w.heap.size, 1, none⟩ = some y ∧ w1.frozen? ⟨w.heap.size, 0, none⟩ = false ∧ w1.frozen? ⟨w.heap.size, 1, none⟩ = false ∧ w.heap.size < w1.heap.size := by
  have hs : w.heap.size < (w.alloc (.cells #[x, y] t)).heap.size := by simp
  refine ⟨?_, ?_, ?_, ?_, by have := n.size; omega⟩
  · rw [n.cell (p := ⟨w.heap.size, 0, none⟩) hs]; simp [World.cell?_alloc_at]
  · rw [n.cell (p := ⟨w.heap.size, 1, none⟩) hs]; simp [World.cell?_alloc_at]
  · rw [n.frozen (p := ⟨w.heap.size, 0, none⟩) hs]; simp [World.frozen?_alloc_at]
  · rw [n.frozen (p := ⟨w.heap.size, 1, none⟩) hs]; simp [World.frozen?_alloc_at]

/-- A block of two cells, known and free. -/
structure Two (w : World) (p : Nat) (x y : Value) : Prop where
  c0 : w.cell? ⟨p, 0, none⟩ = some x
  c1 : w.cell? ⟨p, 1, none⟩ = some y
  f0 : w.frozen? ⟨p, 0, none⟩ = false
  f1 : w.frozen? ⟨p, 1, none⟩ = false
theorem Two.lt {w : World} {p : Nat} {x y : Value} (h : Two w p x y) : p < w.heap.size := block_lt_of_cell h.c0
theorem Two.of_block {w w' : World} {p : Nat} {x y : Value} (h : Two w p x y) (hb : w'.heap[p]? = w.heap[p]?) : Two w' p x y :=
  ⟨(World.cell?_of_block (a := ⟨p, 0, none⟩) hb).trans h.c0, (World.cell?_of_block (a := ⟨p, 1, none⟩) hb).trans h.c1, (World.frozen?_of_block (a := ⟨p, 0, none⟩) hb).trans h.f0, (World.frozen?_of_block (a := ⟨p, 1, none⟩) hb).trans h.f1⟩
theorem Two.up {w w' : World} {p : Nat} {x y : Value} (h : Two w p x y) (n : Below w.heap.size w w') : Two w' p x y := h.of_block (n.block p h.lt)
theorem Two.only {w w' : World} {p g : Nat} {x y : Value} (h : Two w p x y) (n : Only g w w') (hne : p ≠ g) : Two w' p x y := h.of_block (n.block p hne)
theorem Two.new (w : World) (x y : Value) (t : TypeId) : Two (w.alloc (.cells #[x, y] t)) w.heap.size x y := by
  obtain ⟨k1, k2, k3, k4, _⟩ := two_kept (Below.refl (w.alloc (.cells #[x, y] t)).heap.size (w.alloc (.cells #[x, y] t)))
  exact ⟨k1, k2, k3, k4⟩

/-- The result is laid into its cell: all else stands. -/
theorem two_laid {w w2 : World} {g : Nat} {a : Option Addr} {zs : List Int} {u v : Value} (n : Below w.heap.size w w2) (o : Own w2 g a .u8 zs) (hg : w.heap.size < g) :
    Own ((w2.setCell ⟨w.heap.size, 0, none⟩ u).setCell ⟨w.heap.size, 1, none⟩ v) g a .u8 zs ∧ Below w.heap.size w ((w2.setCell ⟨w.heap.size, 0, none⟩ u).setCell ⟨w.heap.size, 1, none⟩ v) := by
  have h1 := Only.setCell w2 w.heap.size 0 u
  have h2 := Only.setCell (w2.setCell ⟨w.heap.size, 0, none⟩ u) w.heap.size 1 v
  have h3 := h1.trans h2
  exact ⟨o.only h3 (fun _ => by omega), n.trans (h3.below (Nat.le_refl _))⟩

theorem Two.but {w w' : World} {p g : Nat} {x y : Value} (h : Two w p x y) (n : But g w w') (hne : p ≠ g) : Two w' p x y := h.of_block (n.block p h.lt hne)

set_option maxHeartbeats 1000000 in
theorem eqHexResult_same (w : World) (t : Bool) (g g' : Nat) (a b : Option Addr) (ca cb : Nat) (ys : List Int) (ha : Rd w g a .u8 ys) (hb : Rd w g' b .u8 ys) (hn : ys.length ≤ 1048576) :
    Calls Try.prog 12 #[.agg #[.bool t, .slice a ys.length ca], .agg #[.bool t, .slice b ys.length cb]] w fun e w' => e = .returned (.bool true) ∧ Below w.heap.size w w' := by
  have n1 : Below w.heap.size w (w.alloc (.cells #[.bool t, .slice a ys.length ca] 28)) := (Below.refl _ _).alloc (Nat.le_refl _) _
  have n2 : Below w.heap.size w ((w.alloc (.cells #[.bool t, .slice a ys.length ca] 28)).alloc (.cells #[.bool t, .slice b ys.length cb] 28)) := n1.alloc (by simp) _
  cases t
  all_goals
    go_enter Try.func12, Try.ntmps12
    go_wp2_with fail
    refine (eqByteS_same _ g g' a b ca cb ys (ha.up n2) (hb.up n2) hn).mono ?_
    rintro e w3 ⟨rfl, n3⟩
    go_wp2
    go_ret
    exact ⟨rfl, nxt n2 n3⟩

set_option maxHeartbeats 1000000 in
theorem markHexResult_any (w : World) (t : Bool) (g : Nat) (a : Option Addr) (ca : Nat) (ys : List Int) (k : Int) (ha : Own w g a .u8 ys) (hn : ys.length ≤ 1048576) (k0 : 0 ≤ k) (k1 : k ≤ 1099511627776) :
    Calls Try.prog 13 #[.agg #[.bool t, .slice a ys.length ca], .int .i64 k] w fun e w' => e = .returned (.int .i64 (k + (ys.length : Int))) ∧ Own w' g a .u8 (marks k ys.length) ∧ But g w w' := by
  have n1 : Below w.heap.size w (w.alloc (.cells #[.bool t, .slice a ys.length ca] 28)) := (Below.refl _ _).alloc (Nat.le_refl _) _
  go_enter Try.func13, Try.ntmps13
  go_wp2_with fail
  refine (markByteS_any _ g a ca ys k (ha.up n1) hn k0 k1).mono ?_
  rintro e w2 ⟨rfl, o2, O2⟩
  go_wp2
  go_ret
  exact ⟨rfl, o2, But.of n1 O2⟩

set_option maxHeartbeats 1000000 in
theorem heldHexResult_any (w : World) (t : Bool) (g : Nat) (a : Option Addr) (ca n : Nat) (k : Int) (ha : Rd w g a .u8 (marks k n)) (hn : n ≤ 1048576) (k0 : 0 ≤ k) (k1 : k ≤ 1099511627776) :
    Calls Try.prog 14 #[.agg #[.bool t, .slice a n ca], .int .i64 k] w fun e w' => e = .returned (.int .i64 (k + (n : Int))) ∧ Below w.heap.size w w' := by
  have n1 : Below w.heap.size w (w.alloc (.cells #[.bool t, .slice a n ca] 28)) := (Below.refl _ _).alloc (Nat.le_refl _) _
  have t1 : decide (k + (n : Int) < 0) = false := by simp; omega
  go_enter Try.func14, Try.ntmps14
  go_wp2_with fail
  refine (heldByteS_any _ g a ca n k (ha.up n1) hn k0 k1).mono ?_
  rintro e w2 ⟨rfl, rfl⟩
  go_wp2
  go_ret
  exact ⟨rfl, n1⟩

/-- A struct of a truth and a slice that the call made is handed back. -/
def NewX (B : Nat) (w' : World) (e : Ending) (b : Bool) (ys : List Int) : Prop :=
  ∃ (a : Option Addr) (c g : Nat), e = .returned (.agg #[.bool b, .slice a ys.length c]) ∧ Own w' g a .u8 ys ∧ (a = none → c = 0) ∧ ys.length ≤ c ∧ B ≤ g
theorem NewX.none {B : Nat} {w : World} (b : Bool) (h : B ≤ w.heap.size) : NewX B w (.returned (.agg #[.bool b, .slice none 0 0])) b [] :=
  ⟨_, 0, w.heap.size, rfl, Own.nil _ _ _ _, by simp, Nat.zero_le _, h⟩
theorem NewX.at {B B' : Nat} {w : World} {e : Ending} {b : Bool} {ys : List Int} (h : NewX B w e b ys) (h1 : B' ≤ B) (h2 : B' < w.heap.size) :
    ∃ (a : Option Addr) (c g : Nat), e = .returned (.agg #[.bool b, .slice a ys.length c]) ∧ Own w g a .u8 ys ∧ B' ≤ g ∧ g < w.heap.size ∧ (0 < ys.length → B ≤ g) := by
  obtain ⟨a, c, g, he, o, _, _, hg⟩ := h
  by_cases h0 : 0 < ys.length
  · exact ⟨a, c, g, he, o, by omega, o.rd.lt h0, fun _ => hg⟩
  · obtain rfl : ys = [] := List.eq_nil_of_length_eq_zero (by omega)
    exact ⟨a, c, B', he, Own.nil _ _ _ _, Nat.le_refl _, h2, fun h => absurd h (by simp)⟩

set_option maxRecDepth 100000 in
set_option maxHeartbeats 8000000 in
theorem implDecodeHex_any (w : World) (l : List UInt8) (hl : l.length ≤ 1048576) :
    Calls Try.prog 11 #[.string ⟨⟨l⟩⟩] w fun e w' => NewX w.heap.size w' e (dhG l) (dhD l) ∧ Below w.heap.size w w' := by
  obtain ⟨i0, hi, hz0, hz1, hz2⟩ := info_parts Try.info5
  have hsz := tx_size l
  have hal : Below w.heap.size w (w.alloc (.cells #[.bool false, .slice none 0 0] 28)) := (Below.refl _ _).alloc (Nat.le_refl _) _
  have TW := Two.new w (.bool false) (.slice none 0 0) 28
  have J : ∀ m : List UInt8, ((ByteArray.mk ⟨l⟩) = (ByteArray.mk ⟨m⟩)) ↔ l = m := fun m => ⟨fun h => by injection h with h; injection h, fun h => by rw [h]⟩
  by_cases h45 : l = [45]
  · subst h45
    have E1 : Hid (dhG [45] = true) := rfl
    have E2 : Hid (dhD [45] = []) := rfl
    rw [E1.out, E2.out]
    go_enter Try.func11, Try.ntmps11
    go_wp2
    exact bodyPost_ret (v := .agg #[.bool true, .slice none 0 0]) (by simp [results, Try.results11, go_sem]) rfl ⟨NewX.none true (by simp), (Below.refl _ _).alloc (Nat.le_refl _) _⟩
  have t45 : decide ((ByteArray.mk ⟨l⟩) = (ByteArray.mk #[45])) = false := decide_eq_false (fun h => h45 ((J [45]).1 h))
  by_cases h0 : l.length = 0
  · obtain rfl := List.eq_nil_of_length_eq_zero h0
    have E1 : Hid (dhG [] = false) := rfl
    have E2 : Hid (dhD [] = []) := rfl
    rw [E1.out, E2.out]
    go_enter Try.func11, Try.ntmps11
    go_wp2
    exact bodyPost_ret (v := .agg #[.bool false, .slice none 0 0]) (by simp [results, Try.results11, go_sem]) rfl ⟨NewX.none false (by simp), (Below.refl _ _).alloc (Nat.le_refl _) _⟩
  have hne : l ≠ [] := fun h => h0 (by rw [h]; rfl)
  have t0 : decide ((ByteArray.mk ⟨l⟩) = (ByteArray.mk #[])) = false := decide_eq_false (fun h => hne ((J []).1 h))
  by_cases h2' : ¬ l.length % 2 = 0
  · have h2 : ¬ l.length % 2 = 0 := h2'
    have G : dhG l = false := by simp [dhG, h45, h2]
    have E1 : Hid (dhG l = false) := G
    have E2 : Hid (dhD l = []) := by show _ = _; unfold dhD; rw [G]; rfl
    rw [E1.out, E2.out]
    have m1 : Int.tmod (l.length : Int) 2 = 1 := by rw [Int.tmod_eq_emod_of_nonneg (by omega)]; omega
    have m2 : (l.length : Int) % 2 = 1 := by omega
    have ie : l.isEmpty = false := by simpa using hne
    have i45 : (l == [45]) = false := by simpa using h45
    clear G J E1 E2
    go_enter Try.func11, Try.ntmps11
    go_wp2
    exact bodyPost_ret (v := .agg #[.bool false, .slice none 0 0]) (by simp [results, Try.results11, go_sem]) rfl ⟨NewX.none false (by simp), (Below.refl _ _).alloc (Nat.le_refl _) _⟩
  have h2 : l.length % 2 = 0 := by omega
  clear h2'
  have GG : Hid (l.all isX = true → dhG l = true ∧ dhD l = h2L l) := fun h => by
    have : dhG l = true := by simp only [dhG, h2, h]; simp [hne]
    exact ⟨this, by unfold dhD; rw [if_pos this]⟩
  have GB : Hid (∀ i, i < l.length → isX (l.getD i 0) = false → dhG l = false ∧ dhD l = []) := fun i hi h => by
    have ha : l.all isX = false := by
      rw [List.all_eq_false]
      exact ⟨l.getD i 0, by simp [List.getD, List.getElem?_eq_getElem hi], by rw [h]; simp⟩
    have : dhG l = false := by simp only [dhG, h45, ha]; simp
    exact ⟨this, by unfold dhD; rw [this]; rfl⟩
  have AT : Hid (∀ i (h : i < l.length), (ByteArray.mk ⟨l⟩)[i]'h = l.getD i 0) := tx_at l
  obtain ⟨m, hm⟩ : ∃ m, m = l.length / 2 := ⟨_, rfl⟩
  have m1 : Int.tmod (l.length : Int) 2 = 0 := by rw [Int.tmod_eq_emod_of_nonneg (by omega)]; omega
  have m2 : (l.length : Int) % 2 = 0 := by omega
  have m3 : Int.tdiv (l.length : Int) 2 = (m : Int) := by rw [Int.tdiv_eq_ediv_of_nonneg (by omega)]; omega
  have m4 : (l.length : Int) / 2 = (m : Int) := by omega
  have m5 : m ≤ 524288 := by omega
  have HM := hide hm
  have ie : l.isEmpty = false := by simpa using hne
  have i45 : (l == [45]) = false := by simpa using h45
  clear hm hne h0
  obtain ⟨n, hn⟩ : ∃ n, n = l.length := ⟨_, rfl⟩
  have HN := hide hn
  rw [← hn] at hsz m1 m2 m3 m4 hl
  clear hn h2
  clear J h45
  have P0 : w.heap.size < (w.alloc (.cells #[.bool false, .slice none 0 0] 28)).heap.size := by simp
  go_enter Try.func11, Try.ntmps11
  go_upto_region 5 with fail
  generalize w.alloc (.cells #[.bool false, .slice none 0 0] 28) = wa at *
  obtain ⟨s, hs⟩ : ∃ s, s = ByteArray.mk ⟨l⟩ := ⟨_, rfl⟩
  rw [← hs] at hsz
  simp only [← hs]
  have HS := hide hs
  clear hs
  clear t0 t45
  go_wp2_with (at_make; refine wpList_make_full _ rfl _ _ 22 rfl wa.heap.size 5 i0 (.int .u8 0) 1 Try.underlying22 hi hz0 hz1 .i64 .i64 _ _ m rfl rfl rfl rfl (by rw [hz2]; omega) (by unfold maxLen; omega) (Nat.le_refl _) ?_; intro w5 hown hgrow)
  have hB0 := Blk.of_made hown
  have hN5 : Below wa.heap.size wa w5 := (Below.refl _ _).grown hgrow (Nat.le_refl _) (by simp)
  have TW5 := TW.up hN5
  have NN5 := nxt hal hN5
  have zB : wa.heap.size < w5.heap.size := hB0.lt
  clear hown hgrow TW hal hN5
  have I0 := World.iter_heap w5 s 0
  have n6 : Below w5.heap.size w5 (w5.iter s 0) := (Below.refl _ _).alloc (Nat.le_refl _) _
  go_wp2_with fail
  generalize w5.iter s 0 = w6 at *
  have B6 := hB0.up n6
  have T6 := TW5.up n6
  have N6 := nxt NN5 n6
  have Z6 : Hid (w.heap.size < wa.heap.size ∧ wa.heap.size < w5.heap.size) := ⟨P0, zB⟩
  clear hB0 TW5 NN5 n6 P0 zB
  generalize w5.heap.size = q at *
  generalize wa.heap.size = g at *
  clear w5
  have IL := fun W (r : Int) h0 h1 => hide (indexRune_low W r h0 h1)
  have IH := fun W (r : Int) h0 h1 => hide (indexRune_high W r h0 h1)
  go_loopw [4, 5, 6, 7] (fun _ _ _ _ wr => ∃ (i : Nat) (ys : List Int), i ≤ n ∧ wr.heap[q]? = some (.stringIter s i) ∧ Hid (ys.length = m) ∧ Hid (∀ j, j < m → ys.getD j 0 = pV l i j) ∧ Hid (∀ j, j < i → isX (l.getD j 0) = true) ∧ Blk wr g .u8 ys ∧ Two wr w.heap.size (.bool false) (.slice none 0 0) ∧ Below w.heap.size w wr) (fun _ _ _ _ wr => n - wr.iterPos q)
  case atStart => exact ⟨0, _, Nat.zero_le _, I0, by show _ = _; simp, fun j hj => by rw [pV_zero]; simp [hj], fun j hj => absurd hj (by omega), B6, T6, N6⟩
  case round =>
    obtain ⟨i, ys, hin, hI, hL, hV, hX, hB, hT, hN⟩ := hrel
    clear I0 B6 T6 N6
    have ip : wr.iterPos q = i := by simp [World.iterPos, hI]
    by_cases hlt : i < n
    · have hlS : i < s.size := by rw [hsz]; exact hlt
      have eS : s[i]'hlS = l.getD i 0 := by
        have := AT.out i (by rw [← HN.out]; exact hlt)
        have e := HS.out
        subst e
        exact this
      obtain ⟨c, hc⟩ : ∃ c, c = l.getD i 0 := ⟨_, rfl⟩
      rw [← hc] at eS
      by_cases hlow : c.toNat < 128
      · have nx := fun ty => Lib.run_next_ascii_at (P := Try.prog) wr q s i ty hI hlS (by rw [eS]; exact hlow)
        rw [eS] at nx
        have I2 := Lib.iterAt_heap wr q s i (i + 1) hI
        have N2 := Lib.below_iterAt hN (k := q) (by have := Z6.out; omega) s (i + 1)
        have B2 := hB.of_block (Lib.iterAt_other wr q g s (i + 1) (by have := Z6.out; omega))
        have T2 := hT.of_block (Lib.iterAt_other wr q w.heap.size s (i + 1) (by have := Z6.out; omega))
        have il := IL (wr.iterAt q s (i + 1)) (c.toNat : Int) (by omega) (by omega)
        have ec : (c.toNat : Int).toNat.toUInt8 = c := by simp
        rw [ec, idx_hx] at il
        cases hx : isX c with
        | true =>
          rw [if_pos hx] at il
          have nb := nbV_bd c
          obtain ⟨p, hp⟩ : ∃ p, p = i / 2 := ⟨_, rfl⟩
          have pm : p < m := by have := HM.out; have := HN.out; omega
          have ol := (hV.out p pm)
          have ob := pV_bd l i
          have oa := pV_at l i
          rw [← hp] at ob oa
          rw [← hc] at oa
          have cy := B2.cell (i := p) (by rw [hL.out]; exact pm)
          have fy := B2.free p
          rw [ol] at cy
          have VV : Hid (∀ j, j < m → (ys.set p (pV l i p * 16 + nbV c)).getD j 0 = pV l (i + 1) j) := fun j hj => by
            by_cases e : p = j
            · subst e
              rw [getD_set_self _ _ _ (by rw [hL.out]; exact hj), oa]
            · rw [getD_set_ne _ _ _ _ e, hV.out j hj, pV_ne l i j (by omega)]
          have XX : Hid (∀ j, j < i + 1 → isX (l.getD j 0) = true) := fun j hj => by
            by_cases e : j = i
            · subst e
              rw [← hc]
              exact hx
            · exact hX.out j (by omega)
          have LL : Hid ((ys.set p (pV l i p * 16 + nbV c)).length = m) := by show _ = _; rw [List.length_set]; exact hL.out
          obtain ⟨o, ho⟩ : ∃ o, o = pV l i p := ⟨_, rfl⟩
          rw [← ho] at cy ob VV LL
          have B3 := B2.store p (o * 16 + nbV c)
          have O3 := Only.setCell (wr.iterAt q s (i + 1)) g p (.int .u8 (o * 16 + nbV c))
          have I3 := (O3.block q (by have := Z6.out; omega)).trans I2
          have T3 := T2.only O3 (by have := Z6.out; omega)
          have N3 := N2.trans (O3.below (B := w.heap.size) (by have := Z6.out; omega))
          have ip3 : (((wr.iterAt q s (i + 1)).setCell ⟨g, p, none⟩ (.int .u8 (o * 16 + nbV c)))).iterPos q = i + 1 := by simp only [World.iterPos, I3]
          have d1 : Int.tdiv (i : Int) 2 = (p : Int) := by rw [Int.tdiv_eq_ediv_of_nonneg (by omega)]; omega
          have d2 : (i : Int) / 2 = (p : Int) := by omega
          have d3 : (p : Int) < (m : Int) := by omega
          have HP := hide hp
          clear hV hX oa ol hp ho hI hN hB hT hx hc O3 B2 N2
          obtain ⟨v, hv⟩ : ∃ v, v = nbV c := ⟨_, rfl⟩
          rw [← hv] at nb il B3 I3 T3 N3 ip3 LL VV
          clear hv
          have w1 : IntKind.u8.wrap v = v := by rw [IntKind.wrap_u8]; omega
          have w2 : v % 256 = v := by omega
          have w3 : o * 16 % 256 = o * 16 := by omega
          have w4 : (o * 16 + v) % 256 = o * 16 + v := by omega
          have t1 : decide (v < 0) = false := by simp; omega
          go_wp2_with fail
          refine il.out.mono ?_
          rintro e wz ⟨rfl, h⟩
          have h := h.symm
          subst h
          go_wp2
          go_roundw
          case rel => exact ⟨i + 1, _, by omega, I3, LL, VV, XX, B3, T3, N3⟩
          case measure => rw [ip, ip3]; omega
        | false =>
          rw [if_neg (by rw [hx]; simp)] at il
          obtain ⟨E1, E2⟩ := GB.out i (by rw [← HN.out]; exact hlt) (by rw [← hc]; exact hx)
          have E1 := hide E1
          have E2 := hide E2
          have k0 := T2.c0
          have k1 := T2.c1
          have k2 := T2.f0
          have k3 := T2.f1
          clear hV hX hI hN hB hT hx hc B2 GG GB
          go_wp2_with fail
          refine il.out.mono ?_
          rintro e wz ⟨rfl, h⟩
          have h := h.symm
          subst h
          go_wp2
          exact bodyPost_ret (v := .agg #[.bool false, .slice none 0 0]) (by simp [results, Try.results11, go_sem, k0, k1]) rfl (by
            have NF := N2.trans (((Only.setCell (wr.iterAt q s (i + 1)) w.heap.size 0 (.bool false)).trans (Only.setCell _ w.heap.size 1 (.slice none 0 0))).below (Nat.le_refl _))
            show NewX _ _ _ (dhG l) (dhD l) ∧ _
            rw [E1.out, E2.out]
            exact ⟨NewX.none false NF.size, NF⟩)
      · have hx : isX c = false := by simp [isX]; omega
        obtain ⟨E1, E2⟩ := GB.out i (by rw [← HN.out]; exact hlt) (by rw [← hc]; exact hx)
        have E1 := hide E1
        have E2 := hide E2
        have nx := fun ty => Lib.run_next_any_at (P := Try.prog) wr q s i ty hI hlS
        have dh := decode_high s i hlS (by rw [eS]; omega)
        have dl := decode_le s i
        generalize Utf8.decode s i = d at *
        obtain ⟨r, wd⟩ := d
        simp only at nx dh dl
        have N2 := Lib.below_iterAt hN (k := q) (by have := Z6.out; omega) s (i + wd)
        have T2 := hT.of_block (Lib.iterAt_other wr q w.heap.size s (i + wd) (by have := Z6.out; omega))
        have ih := IH (wr.iterAt q s (i + wd)) (r : Int) (by omega) (by omega)
        clear hV hX hI hN hB hT hx hc GG GB
        go_wp2_with fail
        refine ih.out.mono ?_
        rintro e wz ⟨rfl, nz⟩
        replace T2 := T2.up nz
        replace N2 := nxt N2 nz
        have k0 := T2.c0
        have k1 := T2.c1
        have k2 := T2.f0
        have k3 := T2.f1
        go_wp2
        exact bodyPost_ret (v := .agg #[.bool false, .slice none 0 0]) (by simp [results, Try.results11, go_sem, k0, k1]) rfl (by
          have NF := N2.trans (((Only.setCell wz w.heap.size 0 (.bool false)).trans (Only.setCell _ w.heap.size 1 (.slice none 0 0))).below (Nat.le_refl _))
          show NewX _ _ _ (dhG l) (dhD l) ∧ _
          rw [E1.out, E2.out]
          exact ⟨NewX.none false NF.size, NF⟩)
    · obtain rfl : i = n := by omega
      have nx := fun ty => Lib.run_next_end_at (P := Try.prog) wr q s i ty hI (by rw [hsz]; omega)
      have al : l.all isX = true := by
        rw [List.all_eq_true]
        intro x hx
        obtain ⟨j, hj, e⟩ := List.getElem_of_mem hx
        have := hX.out j (by rw [HN.out]; exact hj)
        rw [List.getD_eq_getElem?_getD, List.getElem?_eq_getElem hj, Option.getD_some, e] at this
        exact this
      obtain ⟨E1, E2⟩ := GG.out al
      have ey : ys = h2L l := eq_of_getD (by rw [hL.out, h2L_len, HM.out]) (fun j hj => by
        rw [hL.out] at hj
        rw [hV.out j hj, HN.out, pV_end l j (by rw [← HM.out]; exact hj)])
      have E1 := hide E1
      have E2 := hide E2
      have EY := hide ey
      have k0 := hT.c0
      have k1 := hT.c1
      have k2 := hT.f0
      have k3 := hT.f1
      clear hV hX hT ey al GG GB IL IH
      go_wp2
      have OF := (Only.setCell wr w.heap.size 0 (.bool true)).trans (Only.setCell _ w.heap.size 1 (.slice (some ⟨g, 0, none⟩) m m))
      have NF := hN.trans (OF.below (Nat.le_refl _))
      have BF := hB.own0.only OF (fun _ => by have := Z6.out; omega)
      rw [EY.out] at BF
      have LM : (h2L l).length = m := by rw [← EY.out]; exact hL.out
      exact bodyPost_ret (v := .agg #[.bool true, .slice (some ⟨g, 0, none⟩) m m]) (by simp [results, Try.results11, go_sem, k0, k1]) rfl (by
        show NewX _ _ _ (dhG l) (dhD l) ∧ _
        rw [E1.out, E2.out]
        exact ⟨⟨_, m, g, by rw [LM], BF, by simp, by rw [LM]; exact Nat.le_refl _, by have := Z6.out; omega⟩, NF⟩)
end Go.Proofs.Ytdgbioekofmekaa
