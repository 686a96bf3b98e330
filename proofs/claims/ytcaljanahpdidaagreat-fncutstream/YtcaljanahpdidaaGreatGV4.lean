import Derived.Test.YtcaljanahpdidaaGreatGV2
import Derived.Test.YtcaljanahpdidaaGreatGV3
import Derived.Test.YtcaljanahpdidaaGreatGV1
namespace Go.Proofs.YtcaljanahpdidaaGreat
open Go Go.RowKit
structure Drm (w : World) (s g : Nat) (a : Option Addr) (c : Nat) (xs : List Int) (t : Int) : Prop where
  S : Src w s a xs.length c t
  R : Rd w g a .u8 xs
  ne : 0 < xs.length → g ≠ s
  hb : Byt xs
  hl : xs.length ≤ 4194304
  t0 : 0 ≤ t
theorem Drm.up {w w' : World} {s g : Nat} {a : Option Addr} {c : Nat} {xs : List Int} {t : Int} (h : Drm w s g a c xs t) (n : Below w.heap.size w w') : Drm w' s g a c xs t := ⟨h.S.up n, h.R.up n, h.ne, h.hb, h.hl, h.t0⟩
set_option maxHeartbeats 2000000 in
theorem l1NextM_any (w : World) (s g : Nat) (a : Option Addr) (c : Nat) (xs : List Int) (t n : Int) (hs : Src w s a xs.length c t) (hr : Rd w g a .u8 xs) (hne : 0 < xs.length → g ≠ s) (hb : Byt xs) (hl : xs.length ≤ 4194304)
    (t0 : 0 ≤ t) (t1 : t ≤ 1048576) (n0 : 1 ≤ n) (n1 : n ≤ 1099511627776) :
    Calls Tryz.prog 43 #[.pointer (some ⟨s, 0, none⟩), .int .i64 n] w fun e w' => ∃ r, e = .returned (.int .i64 r) ∧ (0 ≤ r ∧ r < n) ∧ Src w' s a xs.length c (t + 1) ∧ Only s w w' := by
  have c0 := hs.code
  have c1 := hs.at_
  have f1 := hs.free
  have k1 : (w.setCell ⟨s, 1, none⟩ (.int .i64 (t + 1))).cell? ⟨s, 1, none⟩ = some (.int .i64 (t + 1)) := World.cell?_setCell_same _ _ _ hs.at_
  have k0 : (w.setCell ⟨s, 1, none⟩ (.int .i64 (t + 1))).cell? ⟨s, 0, none⟩ = some (.slice a xs.length c) := by rw [World.cell?_setCell_other (h := by simp)]; exact hs.code
  have tn : decide (n < 1) = false := by simp; omega
  by_cases h0 : xs.length = 0
  · have hk : ((xs.length : Int) == 0) = true := by simp [h0]
    have r0 := Int.emod_nonneg (t * 7) (show n ≠ 0 by omega)
    have r1 := Int.emod_lt_of_pos (t * 7) (show 0 < n by omega)
    have S := hs.step (t + 1) 0
    have O := Only.step w s (.int .i64 (t + 1)) 0
    clear h0
    go_enter Tryz.func43, Tryz.ntmps43
    go_wp2
    go_ret
    exact ⟨_, rfl, ⟨r0, r1⟩, S, O⟩
  · have hk : ((xs.length : Int) == 0) = false := beq_eq_false_iff_ne.2 (by omega)
    obtain ⟨off, rfl, hc⟩ := hr (by omega)
    have gs : g ≠ s := hne (by omega)
    obtain ⟨i1, hi1⟩ := Int.eq_ofNat_of_zero_le (Int.emod_nonneg t (show (xs.length : Int) ≠ 0 by omega))
    have li1 : (i1 : Int) < (xs.length : Int) := by rw [← hi1]; exact Int.emod_lt_of_pos _ (by omega)
    obtain ⟨i2, hi2⟩ := Int.eq_ofNat_of_zero_le (Int.emod_nonneg (t + 1) (show (xs.length : Int) ≠ 0 by omega))
    have li2 : (i2 : Int) < (xs.length : Int) := by rw [← hi2]; exact Int.emod_lt_of_pos _ (by omega)
    obtain ⟨q, hq⟩ : ∃ q, t / (xs.length : Int) = q := ⟨_, rfl⟩
    have q0 : 0 ≤ q := by rw [← hq]; exact Int.ediv_nonneg t0 (by omega)
    have q1 : q ≤ 1048576 := by rw [← hq]; exact Int.le_trans (Int.ediv_le_self _ t0) t1
    have x1 : (w.setCell ⟨s, 1, none⟩ (.int .i64 (t + 1))).cell? ⟨g, off + i1, none⟩ = some (.int .u8 (xs.getD i1 0)) := by rw [World.cell?_setCell_other (h := fun e => gs (by simpa using (congrArg Addr.block e).symm))]; exact hc i1 (by omega)
    have x2 : (w.setCell ⟨s, 1, none⟩ (.int .i64 (t + 1))).cell? ⟨g, off + i2, none⟩ = some (.int .u8 (xs.getD i2 0)) := by rw [World.cell?_setCell_other (h := fun e => gs (by simpa using (congrArg Addr.block e).symm))]; exact hc i2 (by omega)
    have b1 := hb i1
    have b2 := hb i2
    have S := fun m => hs.step (t + 1) m
    have O := fun m => Only.step w s (.int .i64 (t + 1)) m
    generalize xs.getD i1 0 = x at *
    generalize xs.getD i2 0 = y at *
    clear hc hs hr h0
    by_cases hn : n ≤ 200
    · have tn2 : decide (200 < n) = false := by simp; omega
      have r0 := Int.emod_nonneg (x + q * 37) (show n ≠ 0 by omega)
      have r1 := Int.emod_lt_of_pos (x + q * 37) (show 0 < n by omega)
      clear x2 hi2 li2 b2
      go_enter Tryz.func43, Tryz.ntmps43
      go_wp2
      go_quiet (fail)
      go_wp2
      go_ret
      exact ⟨_, rfl, ⟨r0, r1⟩, S _, O _⟩
    · have tn2 : decide (200 < n) = true := by simp; omega
      have r0 := Int.emod_nonneg ((x + q * 37) * 251 + y * 13 + t) (show n ≠ 0 by omega)
      have r1 := Int.emod_lt_of_pos ((x + q * 37) * 251 + y * 13 + t) (show 0 < n by omega)
      go_enter Tryz.func43, Tryz.ntmps43
      go_wp2
      go_quiet (fail)
      go_wp2
      go_quiet (fail)
      go_wp2
      go_ret
      exact ⟨_, rfl, ⟨r0, r1⟩, S _, O _⟩
theorem next_M {w : World} {s g : Nat} {a : Option Addr} {c : Nat} {xs : List Int} {t n : Int} (d : Drm w s g a c xs t) (t1 : t ≤ 1048576) (n0 : 1 ≤ n) (n1 : n ≤ 1099511627776) :
    Calls Tryz.prog 43 #[.pointer (some ⟨s, 0, none⟩), .int .i64 n] w fun e w' => ∃ r : Nat, e = .returned (.int .i64 (r : Int)) ∧ (r : Int) < n ∧ Drm w' s g a c xs (t + 1) ∧ But s w w' := by
  refine (l1NextM_any w s g a c xs t n d.S d.R d.ne d.hb d.hl d.t0 t1 n0 n1).mono ?_
  rintro e w' ⟨r, rfl, ⟨h0, h1⟩, S, O⟩
  obtain ⟨k, rfl⟩ := Int.eq_ofNat_of_zero_le h0
  have B := But.ofOnly O
  exact ⟨k, rfl, h1, ⟨S, d.R.but B d.ne, d.ne, d.hb, d.hl, by have := d.t0; omega⟩, B⟩
theorem chance_M {w : World} {s g : Nat} {a : Option Addr} {c : Nat} {xs : List Int} {t n : Int} (d : Drm w s g a c xs t) (t1 : t ≤ 1048576) (n0 : 1 ≤ n) (n1 : n ≤ 1048576) :
    Calls Tryz.prog 26 #[.pointer (some ⟨s, 0, none⟩), .int .i64 n] w fun e w' => ∃ b, e = .returned (.bool b) ∧ Drm w' s g a c xs (t + 1) ∧ But s w w' := by
  refine (l1ChanceX_any w s g a c xs t n d.S d.R d.ne d.hb d.hl d.t0 t1 n0 n1).mono ?_
  rintro e w' ⟨b, rfl, S, O⟩
  have B := But.ofOnly O
  exact ⟨b, rfl, ⟨S, d.R.but B d.ne, d.ne, d.hb, d.hl, by have := d.t0; omega⟩, B⟩
def poolM : List (List UInt8) := [[101, 120, 97, 109, 112, 108, 101], [97, 46, 101, 120, 97, 109, 112, 108, 101], [98, 46, 101, 120, 97, 109, 112, 108, 101], [115, 104, 111, 112, 46, 101, 120, 97, 109, 112, 108, 101], [119, 119, 119, 46, 115, 104, 111, 112, 46, 101, 120, 97, 109, 112, 108, 101], [120, 46, 119, 119, 119, 46, 115, 104, 111, 112, 46, 101, 120, 97, 109, 112, 108, 101], [109, 97, 105, 108, 46, 97, 46, 101, 120, 97, 109, 112, 108, 101], [97, 46, 98], [111, 116, 104, 101, 114], [48, 45, 49, 46, 98, 46, 101, 120, 97, 109, 112, 108, 101]]
theorem poolM_len : ∀ i, i < 10 → (poolM.getD i []).length ≤ 18 := by decide
set_option maxRecDepth 100000 in
set_option maxHeartbeats 1000000 in
theorem l11PoolM_any (w : World) : Calls Tryz.prog 57 #[] w fun e w' => e = .returned (.slice (some ⟨w.heap.size, 0, none⟩) 10 10) ∧ BlkT w' w.heap.size poolM ∧ Below w.heap.size w w' := by
  have HB : Hid (BlkT (w.alloc (.cells (poolM.map tx).toArray 9)) w.heap.size poolM) := heap_alloc_new w _
  have HN : Hid (Below w.heap.size w (w.alloc (.cells (poolM.map tx).toArray 9))) := (Below.refl _ _).alloc (Nat.le_refl _) _
  simp only [poolM, List.map_cons, List.map_nil, tx] at HB HN
  go_enter Tryz.func57, Tryz.ntmps57
  go_wp2
  go_ret
  exact ⟨rfl, HB.out, HN.out⟩
set_option maxHeartbeats 4000000 in
theorem drawName_M {w : World} {s g : Nat} {a : Option Addr} {c : Nat} {xs : List Int} {t : Int} (d : Drm w s g a c xs t) (t1 : t ≤ 1000000) :
    Calls Tryz.prog 55 #[.pointer (some ⟨s, 0, none⟩)] w fun e w' => ∃ (l : List UInt8) (u : Int), e = .returned (.string ⟨⟨l⟩⟩) ∧ l.length ≤ 70 ∧ u ≤ t + 3 ∧ Drm w' s g a c xs u ∧ But s w w' := by
  have D0 := hide d
  clear d
  go_enter Tryz.func55, Tryz.ntmps55
  go_wp2_with fail
  refine (l11PoolM_any w).mono ?_
  rintro e w1 ⟨rfl, B1, n1⟩
  have D1 := hide (D0.out.up n1)
  have U1 : Hid (But s w w1) := But.ofBelow n1
  have slt : Hid (s < w.heap.size) := D0.out.S.lt
  go_wp2_with fail
  refine (next_M D1.out (by omega) (by omega) (by omega)).mono ?_
  rintro e w2 ⟨r, rfl, hr, d2, b2⟩
  have D2 := hide d2
  have U2 := hide (U1.out.trans b2)
  have B2 : BlkT w2 w.heap.size poolM := (b2.block w.heap.size B1.lt (by have := slt.out; omega)).trans B1
  have c2 := B2.cell (i := r) (by show r < 10; omega)
  have pl := poolM_len r (by omega)
  generalize poolM.getD r [] = x at *
  have xs' := tx_size x
  unfold tx at c2
  have hr2 : (r : Int) < 10 := by omega
  clear d2 b2 B1 B2 n1 D1 U1 D0 slt
  go_wp2_with fail
  refine (next_M D2.out (by omega) (by omega) (by omega)).mono ?_
  rintro e w3 ⟨k, rfl, hk, d3, b3⟩
  have D3 := hide d3
  have U3 := hide (U2.out.trans b3)
  clear d3 b3 c2 hr D2 U2
  by_cases k0 : k = 0
  · subst k0
    rw [show ((0 : Nat) : Int) = 0 from rfl]
    have ad : ∀ W : World, (Op.stringOp .add (ByteArray.mk #[120, 46]) (ByteArray.mk ⟨x⟩)).run Tryz.prog W = .ok (.string ⟨⟨120 :: 46 :: x⟩⟩) W := fun W => tx_add W [120, 46] x (by simp; omega)
    go_wp2
    go_ret
    exact ⟨120 :: 46 :: x, _, rfl, by simp; omega, by omega, D3.out, U3.out⟩
  · have e0 : ((k : Int) == 0) = false := by simp; omega
    by_cases k1 : k = 1
    · subst k1
      rw [show ((1 : Nat) : Int) = 1 from rfl]
      go_wp2_with fail
      refine (next_M D3.out (by omega) (by omega) (by omega)).mono ?_
      rintro e w4 ⟨m, rfl, hm, d4, b4⟩
      have D4 := hide d4
      have U4 := hide (U3.out.trans b4)
      clear d4 b4 D3 U3 e0
      go_wp2
      go_loopw [4, 6] (fun v i wr => wr = w4 ∧ ∃ (l : List UInt8) (j : Nat), v = .string ⟨⟨l⟩⟩ ∧ i = .int .i64 j ∧ l.length + j ≤ 64) (fun _ i _ => (intOf i).toNat)
      case atStart => exact ⟨rfl, [], 62 + m, rfl, by go_num, by simp; omega⟩
      case round =>
        obtain ⟨e1, l, j, rfl, rfl, hl⟩ := hrel
        subst e1
        by_cases hj : j = 0
        · subst hj
          rw [show ((0 : Nat) : Int) = 0 from rfl]
          go_wp2
          go_ret
          exact ⟨l, _, rfl, by omega, by omega, D4.out, U4.out⟩
        · have tj : decide ((0 : Int) < (j : Int)) = true := decide_eq_true (by omega)
          have tj' : 0 < j := by omega
          have ad : ∀ W : World, (Op.stringOp .add (ByteArray.mk ⟨l⟩) (ByteArray.mk #[113])).run Tryz.prog W = .ok (.string ⟨⟨l ++ [113]⟩⟩) W := fun W => tx_add W l [113] (by simp; omega)
          have sj : IntKind.i64.wrap ((j : Int) - 1) = ((j - 1 : Nat) : Int) := by rw [IntKind.wrap_i64]; omega
          have sj' : wrap64 ((j : Int) - 1) = ((j - 1 : Nat) : Int) := by unfold wrap64; omega
          go_wp2
          go_roundw
          case rel => exact ⟨by simp, l ++ [113], j - 1, rfl, by first | rfl | go_num, by simp; omega⟩
          case measure => simp [intOf]; omega
    · have e1 : ((k : Int) == 1) = false := by simp; omega
      go_wp2
      go_ret
      exact ⟨x, _, rfl, by omega, by omega, D3.out, U3.out⟩
set_option maxHeartbeats 2000000 in
theorem l1DrawBytesM_any (w : World) (s g : Nat) (a : Option Addr) (c : Nat) (xs : List Int) (t : Int) (n : Nat) (hs : Src w s a xs.length c t) (hr : Rd w g a .u8 xs) (hne : 0 < xs.length → g ≠ s) (hb : Byt xs) (hl : xs.length ≤ 4194304)
    (t0 : 0 ≤ t) (t1 : t + (n : Int) ≤ 1048576) :
    Calls Tryz.prog 47 #[.pointer (some ⟨s, 0, none⟩), .int .i64 n] w fun e w' => ∃ v ys, e = .returned v ∧ ys.length = n ∧ Byt ys ∧ RowB w' w.heap.size v ys ∧ Src w' s a xs.length c (t + (n : Int)) ∧ But s w w' := by
  obtain ⟨i0, hi, hz0, hz1, hz2⟩ := info_parts Tryz.info5
  have hown0 : (w.alloc (.cells #[] 5)).ownsRow w.heap.size 5 1 (.slice (some ⟨w.heap.size, 0, none⟩) 0 0) 0 [] := World.ownsRow_lit w #[] 0 (Nat.le_refl _) (by unfold maxLen; omega) (by simp)
  have hal : Below w.heap.size w (w.alloc (.cells #[] 5)) := (Below.refl _ _).alloc (Nat.le_refl _) _
  have hsl := hs.lt
  go_enter Tryz.func47, Tryz.ntmps47
  go_wp2
  go_loopw [5, 6] (fun v i wr => ∃ (k : Nat) (ys : List Int), k ≤ n ∧ i = .int .i64 k ∧ Hid (ys.length = k) ∧ Byt ys ∧ wr.ownsRow w.heap.size 5 1 v k (ys.map (Value.int .u8)) ∧ Src wr s a xs.length c (t + (k : Int)) ∧ But s w wr) (fun _ i _ => n - (intOf i).toNat)
  case atStart => exact ⟨0, [], Nat.zero_le _, rfl, rfl, byt_nil, hown0, by simpa using hs.up hal, But.ofBelow hal⟩
  case round =>
    obtain ⟨k, ys, hk, rfl, hyl, hyb, hown, hS, hN⟩ := hrel
    have hr' := hr.but hN hne
    by_cases hlt : k < n
    · have hob := hown.lt
      go_wp2_with fail
      refine (l1NextX_any wr s g a c xs (t + (k : Int)) 256 hS hr' hne hb hl (by omega) (by omega) (by decide) (by decide)).mono ?_
      rintro e w1 ⟨r, rfl, ⟨r0, r1⟩, S1, O1⟩
      have N1 := hN.only O1
      have hown1 := hown.kept O1.grown (by
        cases hv : Value.ownBlock _ with
        | none => exact .inl rfl
        | some q => exact .inr (fun e => by have := (hob q hv).1; simp at e; omega))
      have m1 : r % 256 = r := by omega
      have sz := N1.size
      clear hown hS hN O1 hr'
      go_wp2_with (at_builtin; refine wpList_append_own _ rfl _ _ 22 rfl w.heap.size 5 i0 (.int .u8 0) 1 1 Tryz.underlying22 hi hz0 hz1 hz2 rfl (by decide) _ k (ys.map (Value.int .u8)) rfl (hown1.alloc _) ⟨w1.heap.size, 0, none⟩ 1 1 [.int .u8 r] rfl rfl ?c1 ?c2 ?c3 ?c4 ?c5 ?_)
      case c1 =>
        intro j u hj
        match j, hj with
        | 0, hj => simp at hj; subst hj; simp [Addr.add]
      case c2 => intro u hu; simp at hu; subst hu; rfl
      case c3 => unfold maxLen; omega
      case c4 => omega
      case c5 => simp; omega
      · intro v' w2 hown2 hgrow _
        have nA : But s w (w1.alloc (.cells #[.int .u8 r] 5)) := N1.trans (But.ofBelow ((Below.refl _ _).alloc (Nat.le_refl _) _))
        have N2 := nA.grown hgrow (fun i hi => (hob i hi).1)
        have S2 : Src w2 s a xs.length c (t + ((k + 1 : Nat) : Int)) := by
          have := (S1.up ((Below.refl _ _).alloc (Nat.le_refl _) (.cells #[.int .u8 r] 5))).of_block (hgrow.block s (by simp; omega) (fun e => by have := (hob s e.symm).1; omega))
          rw [show t + ((k + 1 : Nat) : Int) = t + (k : Int) + 1 by omega]
          exact this
        have hown3 : w2.ownsRow w.heap.size 5 1 v' (k + 1) ((ys ++ [r]).map (Value.int .u8)) := by simpa using hown2
        have hl3 : Hid ((ys ++ [r]).length = k + 1) := by show _ = _; have := hyl.out; simp; omega
        have hb3 := byt_snoc hyb r r0 r1
        clear hown1 hown2 hgrow N1 S1 nA hob
        go_wp2
        go_roundw
        case rel => exact ⟨k + 1, ys ++ [r], by omega, by go_num, hl3, hb3, hown3, S2, N2⟩
        case measure => simp [intOf]; omega
    · obtain rfl : k = n := by omega
      have hown' := hown
      rw [← hyl.out] at hown'
      clear hown
      go_wp2
      go_ret
      exact ⟨_, ys, rfl, hyl.out, hyb, hown', hS, hN⟩
theorem str_oneM (x : Int) : ∃ b, str [x] = ByteArray.mk ⟨[b]⟩ := ⟨UInt8.ofNat x.toNat, rfl⟩
set_option maxRecDepth 100000 in
set_option maxHeartbeats 8000000 in
theorem drawAny_M {w : World} {s g : Nat} {a : Option Addr} {c : Nat} {xs : List Int} {t : Int} (d : Drm w s g a c xs t) (t1 : t ≤ 1000000) :
    Calls Tryz.prog 48 #[.pointer (some ⟨s, 0, none⟩)] w fun e w' => ∃ (l : List UInt8) (u : Int), e = .returned (.string ⟨⟨l⟩⟩) ∧ l.length ≤ 200 ∧ u ≤ t + 6 ∧ Drm w' s g a c xs u ∧ But s w w' := by
  have D0 := hide d
  clear d
  go_enter Tryz.func48, Tryz.ntmps48
  go_wp2_with fail
  refine (drawName_M D0.out (by omega)).mono ?_
  rintro e w1 ⟨x, u1, rfl, hx, hu, d1, b1⟩
  have D1 := hide d1
  have U1 := hide b1
  have sx := tx_size x
  clear d1 b1 D0
  go_wp2_with fail
  refine (next_M D1.out (by omega) (by omega) (by omega)).mono ?_
  rintro e w2 ⟨k, rfl, hk, d2, b2⟩
  have D2 := hide d2
  have U2 := hide (U1.out.trans b2)
  clear d2 b2 D1 U1
  have hk' : k = 0 ∨ k = 1 ∨ k = 2 ∨ k = 3 ∨ k = 4 ∨ k = 5 ∨ k = 6 ∨ (k ≠ 0 ∧ k ≠ 1 ∧ k ≠ 2 ∧ k ≠ 3 ∧ k ≠ 4 ∧ k ≠ 5 ∧ k ≠ 6) := by omega
  clear hk
  rcases hk' with rfl | rfl | rfl | rfl | rfl | rfl | rfl | ⟨q0, q1, q2, q3, q4, q5, q6⟩
  · have ad : ∀ W : World, (Op.stringOp .add (ByteArray.mk ⟨x⟩) (ByteArray.mk #[46])).run Tryz.prog W = .ok (.string ⟨⟨x ++ [46]⟩⟩) W := fun W => tx_add W x [46] (by simp; omega)
    rw [show ((0 : Nat) : Int) = 0 from rfl]
    go_wp2
    go_ret
    exact ⟨_, _, rfl, by simp; omega, by omega, D2.out, U2.out⟩
  · have ad : ∀ W : World, (Op.stringOp .add (ByteArray.mk #[45]) (ByteArray.mk ⟨x⟩)).run Tryz.prog W = .ok (.string ⟨⟨45 :: x⟩⟩) W := fun W => tx_add W [45] x (by simp; omega)
    rw [show ((1 : Nat) : Int) = 1 from rfl]
    go_wp2
    go_ret
    exact ⟨_, _, rfl, by simp; omega, by omega, D2.out, U2.out⟩
  · rw [show ((2 : Nat) : Int) = 2 from rfl]
    go_wp2
    go_ret
    exact ⟨[97, 46, 46, 98], _, rfl, by simp, by omega, D2.out, U2.out⟩
  · rw [show ((3 : Nat) : Int) = 3 from rfl]
    go_wp2
    go_ret
    exact ⟨[], _, rfl, by simp, by omega, D2.out, U2.out⟩
  · have ad : ∀ W : World, (Op.stringOp .add (ByteArray.mk #[65]) (ByteArray.mk ⟨x⟩)).run Tryz.prog W = .ok (.string ⟨⟨65 :: x⟩⟩) W := fun W => tx_add W [65] x (by simp; omega)
    rw [show ((4 : Nat) : Int) = 4 from rfl]
    go_wp2
    go_ret
    exact ⟨_, _, rfl, by simp; omega, by omega, D2.out, U2.out⟩
  · rw [show ((5 : Nat) : Int) = 5 from rfl]
    go_wp2
    go_loopw [3] (fun v wr => wr = w2 ∧ ∃ (l : List UInt8), v = .string ⟨⟨l⟩⟩ ∧ l.length ≤ 127) (fun v _ => 128 - (match v with | .string b => b.size | _ => 0))
    case atStart => exact ⟨rfl, x, rfl, by omega⟩
    case round =>
      obtain ⟨e1, l, rfl, hl⟩ := hrel
      subst e1
      have sl := tx_size l
      by_cases h : l.length < 120
      · have tl : decide ((l.length : Int) < 120) = true := decide_eq_true (by omega)
        have ad : ∀ W : World, (Op.stringOp .add (ByteArray.mk ⟨l⟩) (ByteArray.mk #[46, 97, 98, 99, 100, 101, 102, 103])).run Tryz.prog W = .ok (.string ⟨⟨l ++ [46, 97, 98, 99, 100, 101, 102, 103]⟩⟩) W := fun W => tx_add W l [46, 97, 98, 99, 100, 101, 102, 103] (by simp; omega)
        have H := hide h
        clear h
        go_wp2
        go_roundw
        case rel => exact ⟨by simp, _, rfl, by have := H.out; simp; omega⟩
        case measure =>
          have := H.out
          show 128 - (l ++ [46, 97, 98, 99, 100, 101, 102, 103]).length < 128 - l.length
          simp
          omega
      · have tl : decide ((l.length : Int) < 120) = false := decide_eq_false (by omega)
        clear h
        go_wp2_with fail
        refine (next_M D2.out (by omega) (by omega) (by omega)).mono ?_
        rintro e w3 ⟨m, rfl, hm, d3, b3⟩
        have D3 := hide d3
        have U3 := hide (U2.out.trans b3)
        clear d3 b3 D2 U2
        go_wp2
        go_loopw [3, 5] (fun v i wr => wr = w3 ∧ ∃ (l : List UInt8) (j : Nat), v = .string ⟨⟨l⟩⟩ ∧ i = .int .i64 j ∧ l.length + j ≤ 150) (fun _ i _ => (intOf i).toNat)
        case atStart => exact ⟨rfl, l, m, rfl, rfl, by omega⟩
        case round =>
          obtain ⟨e1, l, j, rfl, rfl, hl⟩ := hrel
          subst e1
          by_cases hj : j = 0
          · subst hj
            rw [show ((0 : Nat) : Int) = 0 from rfl]
            go_wp2
            go_ret
            exact ⟨l, _, rfl, by omega, by omega, D3.out, U3.out⟩
          · have tj : decide ((0 : Int) < (j : Int)) = true := decide_eq_true (by omega)
            have tj' : 0 < j := by omega
            have ad : ∀ W : World, (Op.stringOp .add (ByteArray.mk ⟨l⟩) (ByteArray.mk #[104])).run Tryz.prog W = .ok (.string ⟨⟨l ++ [104]⟩⟩) W := fun W => tx_add W l [104] (by simp; omega)
            have sj : IntKind.i64.wrap ((j : Int) - 1) = ((j - 1 : Nat) : Int) := by rw [IntKind.wrap_i64]; omega
            have sj' : wrap64 ((j : Int) - 1) = ((j - 1 : Nat) : Int) := by unfold wrap64; omega
            go_wp2
            go_roundw
            case rel => exact ⟨by simp, l ++ [104], j - 1, rfl, by first | rfl | go_num, by simp; omega⟩
            case measure => simp [intOf]; omega
  · rw [show ((6 : Nat) : Int) = 6 from rfl]
    have w6 : IntKind.i64.wrap ((x.length : Int) + 1) = (x.length : Int) + 1 := by rw [IntKind.wrap_i64]; omega
    go_wp2_with fail
    refine (next_M D2.out (by omega) (by omega) (by omega)).mono ?_
    rintro e w3 ⟨m, rfl, hm, d3, b3⟩
    have D3 := hide d3
    have U3 := hide (U2.out.trans b3)
    clear d3 b3 D2 U2
    have hm' : m ≤ x.length := by omega
    have x1 : (ByteArray.mk ⟨x⟩).extract 0 m = ByteArray.mk ⟨x.take m⟩ := by
      have := ByteArray.extract_mk x 0 m
      simpa using this
    have x2 : (ByteArray.mk ⟨x⟩).extract m x.length = ByteArray.mk ⟨x.drop m⟩ := by
      have := ByteArray.extract_mk x m x.length
      rw [List.take_of_length_le (by rw [List.length_drop]; omega)] at this
      exact this
    have t2 : (m : Int) ≤ (x.length : Int) := by omega
    have NX := hide (fun W (h : Below w3.heap.size w3 W) => next_M (n := 256) (D3.out.up h) (by omega) (by omega) (by omega))
    have nd : Below w3.heap.size w3 w3.drew := (Below.refl _ _).drew
    have UU := hide (fun W (h : Below w3.heap.size w3 W) => U3.out.trans (But.ofBelow (g := s) h))
    have KC : Hid (∀ (W : World) (y : Nat), (y : Int) < 256 → ∃ b : UInt8, (convert 22 9 (.slice (some ⟨W.heap.size, 0, none⟩) 1 1)).run Tryz.prog (W.alloc (.cells #[.int .u8 (IntKind.u8.wrap (y : Int))] 5)) = .ok (.string ⟨⟨[b]⟩⟩) (W.alloc (.cells #[.int .u8 (IntKind.u8.wrap (y : Int))] 5)) ∧ (∀ W : World, (Op.stringOp .add (ByteArray.mk ⟨x.take m⟩) (ByteArray.mk ⟨[b]⟩)).run Tryz.prog W = .ok (.string ⟨⟨x.take m ++ [b]⟩⟩) W) ∧ (∀ W : World, (Op.stringOp .add (ByteArray.mk ⟨x.take m ++ [b]⟩) (ByteArray.mk ⟨x.drop m⟩)).run Tryz.prog W = .ok (.string ⟨⟨x.take m ++ [b] ++ x.drop m⟩⟩) W)) := by
      intro W y _
      obtain ⟨b, hb⟩ := str_oneM (IntKind.u8.wrap (y : Int))
      have cv := conv_run (W.alloc (.cells #[.int .u8 (IntKind.u8.wrap (y : Int))] 5)) W.heap.size (some ⟨W.heap.size, 0, none⟩) 1 [IntKind.u8.wrap (y : Int)] (fun _ => ⟨0, rfl, fun i hi => by
        obtain rfl : i = 0 := by
          simp at hi
          omega
        exact cell_one_new W (.int .u8 (IntKind.u8.wrap (y : Int))) 5 0 _ rfl⟩)
      rw [hb] at cv
      exact ⟨b, cv, fun W => tx_add W (x.take m) [b] (by simp; omega), fun W => tx_add W (x.take m ++ [b]) (x.drop m) (by simp; omega)⟩
    go_wp2
    go_region_with (go_at_call 43; refine ((unhide NX) _ nd).mono ?_; rintro e w4 ⟨y, rfl, hy, d4, b4⟩; obtain ⟨b, cv, ad1, ad2⟩ := (unhide KC) w4 y hy)
    have na : Below w4.heap.size w4 (w4.alloc (.cells #[.int .u8 (IntKind.u8.wrap (y : Int))] 5)) := (Below.refl _ _).alloc (Nat.le_refl _) _
    have D5 := hide (d4.up na)
    have U5 := hide (((UU.out w3.drew nd).trans b4).trans (But.ofBelow na))
    clear na d4 b4 cv ad1 ad2
    generalize w4.alloc (.cells #[.int .u8 (IntKind.u8.wrap (y : Int))] 5) = w5 at *
    go_wp2
    go_ret
    exact ⟨x.take m ++ [b] ++ x.drop m, _, by simp, by simp; omega, by omega, D5.out, U5.out⟩
  · have e0 : ((k : Int) == 0) = false := by simp; omega
    have e1 : ((k : Int) == 1) = false := by simp; omega
    have e2 : ((k : Int) == 2) = false := by simp; omega
    have e3 : ((k : Int) == 3) = false := by simp; omega
    have e4 : ((k : Int) == 4) = false := by simp; omega
    have e5 : ((k : Int) == 5) = false := by simp; omega
    have e6 : ((k : Int) == 6) = false := by simp; omega
    clear q0 q1 q2 q3 q4 q5 q6
    go_wp2
    go_ret
    exact ⟨x, _, rfl, by omega, by omega, D2.out, U2.out⟩
theorem bytes_M {w : World} {s g : Nat} {a : Option Addr} {c : Nat} {xs : List Int} {t : Int} (d : Drm w s g a c xs t) (n : Nat) (t1 : t ≤ 1000000) (hn : n ≤ 3000) :
    Calls Tryz.prog 44 #[.pointer (some ⟨s, 0, none⟩), .int .i64 (n : Int)] w fun e w' => ∃ v ys, e = .returned v ∧ ys.length = n ∧ Byt ys ∧ RowB w' w.heap.size v ys ∧ Drm w' s g a c xs (t + 1) ∧ But s w w' := by
  refine (l11Bytes_any w s g a c xs t n d.S d.R d.ne d.hb d.hl d.t0 t1 hn).mono ?_
  rintro e w' ⟨v, ys, rfl, l, b, R, S, B⟩
  exact ⟨v, ys, rfl, l, b, R, ⟨S, d.R.but B d.ne, d.ne, d.hb, d.hl, by have := d.t0; omega⟩, B⟩
theorem drawBytes_M {w : World} {s g : Nat} {a : Option Addr} {c : Nat} {xs : List Int} {t : Int} (d : Drm w s g a c xs t) (n : Nat) (t1 : t + (n : Int) ≤ 1048576) :
    Calls Tryz.prog 47 #[.pointer (some ⟨s, 0, none⟩), .int .i64 (n : Int)] w fun e w' => ∃ v ys, e = .returned v ∧ ys.length = n ∧ Byt ys ∧ RowB w' w.heap.size v ys ∧ Drm w' s g a c xs (t + (n : Int)) ∧ But s w w' := by
  refine (l1DrawBytesM_any w s g a c xs t n d.S d.R d.ne d.hb d.hl d.t0 t1).mono ?_
  rintro e w' ⟨v, ys, rfl, l, b, R, S, B⟩
  exact ⟨v, ys, rfl, l, b, R, ⟨S, d.R.but B d.ne, d.ne, d.hb, d.hl, by have := d.t0; omega⟩, B⟩
end Go.Proofs.YtcaljanahpdidaaGreat
namespace Go.Proofs.YtcaljanahpdidaaGreat
open Go Go.RowKit
def ageB (n : Int) : Bool := decide (0 ≤ n) && decide (n ≤ 4294967295)
def flgB (n : Int) : Bool := decide (n = 0) || decide (n = 1)
theorem isAge_any (w : World) (n : Int) : Calls Tryz.prog 85 #[.int .i64 n] w fun e w' => e = .returned (.bool (ageB n)) ∧ w' = w := by
  by_cases h : 0 ≤ n
  · have d1 : decide (0 ≤ n) = true := decide_eq_true h
    go_enter Tryz.func85, Tryz.ntmps85
    go_wp2
    go_ret
    exact ⟨by simp [ageB, h], rfl⟩
  · have d1 : decide (0 ≤ n) = false := decide_eq_false h
    go_enter Tryz.func85, Tryz.ntmps85
    go_wp2
    go_ret
    exact ⟨by rw [ageB, d1]; rfl, rfl⟩
theorem isFlag_any (w : World) (n : Int) : Calls Tryz.prog 86 #[.int .i64 n] w fun e w' => e = .returned (.bool (flgB n)) ∧ w' = w := by
  by_cases h : n = 0
  · subst h
    go_enter Tryz.func86, Tryz.ntmps86
    go_wp2
    go_ret
    exact ⟨rfl, rfl⟩
  · have d1 : decide (n = 0) = false := decide_eq_false h
    have d2 : (n == 0) = false := by simpa using h
    go_enter Tryz.func86, Tryz.ntmps86
    go_wp2
    go_ret
    exact ⟨by rw [flgB, d1, Bool.false_or]; rfl, rfl⟩
theorem index_any (w : World) (g : Nat) (a : Option Addr) (c : Nat) (ls : List (List UInt8)) (l : List UInt8) (hr : RdT w g a ls) (hn : ls.length ≤ 1048576) :
    Calls Tryz.prog 99 #[.slice a ls.length c, tx l] w fun e w' => ∃ r : Int, e = .returned (.int .i64 r) ∧ (0 ≤ r ↔ l ∈ ls) ∧ w' = w := by
  show Calls Tryz.prog 99 #[.slice a ls.length c, .string ⟨⟨l⟩⟩] w _
  go_enter Tryz.func99, Tryz.ntmps99
  go_wp2
  go_loopw [8] (fun i wr => ∃ (k : Nat), k ≤ ls.length ∧ i = .int .i64 k ∧ wr = w ∧ ∀ j, j < k → ls.getD j [] ≠ l) (fun i _ => ls.length - (intOf i).toNat)
  case atStart => exact ⟨0, Nat.zero_le _, rfl, rfl, fun j hj => absurd hj (by omega)⟩
  case round =>
    obtain ⟨k, hk, rfl, rfl, hne⟩ := hrel
    by_cases hlt : k < ls.length
    · obtain ⟨off, rfl, hc⟩ := hr (by omega)
      have t0 : (k : Int) < (ls.length : Int) := by omega
      have c1 := hc k hlt
      have HNE := hide hne
      have HC := hide hc
      clear hne hc hr
      generalize hx : ls.getD k [] = x at *
      have HX := hide hx
      clear hx
      simp only [tx] at c1
      by_cases hq : l = x
      · subst hq
        have e1 : (l == l) = true := by simp
        have MEM : Hid (l ∈ ls) := by
          show l ∈ ls
          rw [← HX.out, List.getD_eq_getElem?_getD, List.getElem?_eq_getElem hlt]
          exact List.getElem_mem hlt
        clear HNE HC
        go_wp2
        go_ret
        exact ⟨_, rfl, ⟨fun _ => MEM.out, fun _ => by omega⟩, rfl⟩
      · have e1 : (l == x) = false := by simpa using hq
        have e2 : (x == l) = false := by simpa using (fun h => hq h.symm)
        have NXT : Hid (∀ j, j < k + 1 → ls.getD j [] ≠ l) := fun j hj => by
          by_cases h : j = k
          · subst h
            rw [HX.out]
            exact fun h => hq h.symm
          · exact HNE.out j (by omega)
        clear HNE HC
        go_wp2
        go_roundw
        case rel => exact ⟨k + 1, by omega, by go_num, trivial, NXT.out⟩
        case measure => simp [intOf]; omega
    · obtain rfl : k = ls.length := by omega
      have NM : Hid (¬ l ∈ ls) := fun h => by
        obtain ⟨i, hi, e⟩ := List.getElem_of_mem h
        refine hne i hi ?_
        rw [List.getD_eq_getElem?_getD, List.getElem?_eq_getElem hi]
        exact e
      clear hne hr
      go_wp2
      go_ret
      exact ⟨-1, rfl, ⟨fun h => absurd h (by decide), fun h => absurd h NM.out⟩, rfl⟩
theorem contains_any (w : World) (g : Nat) (a : Option Addr) (c : Nat) (ls : List (List UInt8)) (l : List UInt8) (hr : RdT w g a ls) (hn : ls.length ≤ 1048576) :
    Calls Tryz.prog 95 #[.slice a ls.length c, tx l] w fun e w' => e = .returned (.bool (decide (l ∈ ls))) ∧ w' = w := by
  have IX := hide (index_any w g a c ls l hr hn)
  show Calls Tryz.prog 95 #[.slice a ls.length c, .string ⟨⟨l⟩⟩] w _
  clear hr
  simp only [tx] at IX
  go_enter Tryz.func95, Tryz.ntmps95
  go_wp2_with fail
  refine IX.out.mono ?_
  rintro e w1 ⟨r, rfl, hr, rfl⟩
  have HR := hide hr
  clear hr
  go_wp2
  go_ret
  exact ⟨by show Ending.returned (Value.bool (decide (0 ≤ r))) = _; rw [decide_eq_decide.2 HR.out], rfl⟩
theorem RdT.take {w : World} {g : Nat} {a : Option Addr} {ls : List (List UInt8)} (h : RdT w g a ls) (n : Nat) : RdT w g a (ls.take n) := fun h0 => by
  rw [List.length_take] at h0
  obtain ⟨o, e, hc⟩ := h (by omega)
  refine ⟨o, e, fun i hi => ?_⟩
  rw [List.length_take] at hi
  rw [hc i (by omega)]
  simp [List.getD, show i < n by omega]
def prA (ls : List (List UInt8)) (i : Nat) : Bool := decide (0 < (ls.getD i []).length) && (decide ((ls.getD i []).length ≤ 32) && !decide (ls.getD i [] ∈ ls.take i))
def prB (ls : List (List UInt8)) (n : Nat) : Bool := decide (ls.length ≤ n) && (List.range ls.length).all (prA ls)
theorem prB_no {ls : List (List UInt8)} {n k : Nat} (hk : k < ls.length) (h : prA ls k = false) : prB ls n = false := by
  unfold prB
  rw [Bool.and_eq_false_iff]
  refine .inr (Bool.eq_false_iff.2 fun e => ?_)
  have := List.all_eq_true.1 e k (List.mem_range.2 hk)
  rw [h] at this
  cases this
theorem prB_yes {ls : List (List UInt8)} {n : Nat} (hn : ls.length ≤ n) (h : ∀ j, j < ls.length → prA ls j = true) : prB ls n = true := by
  unfold prB
  rw [decide_eq_true hn, Bool.true_and, List.all_eq_true]
  exact fun j hj => h j (List.mem_range.1 hj)
set_option maxHeartbeats 1000000 in
theorem areProtocols_any (w : World) (g : Nat) (a : Option Addr) (c : Nat) (ls : List (List UInt8)) (n : Nat) (hr : RdT w g a ls) (hc : ls.length ≤ c) (hn : ls.length ≤ 1048576) (_n1 : n ≤ 100) (hz : ∀ l ∈ ls, l.length ≤ 1048576) :
    Calls Tryz.prog 84 #[.slice a ls.length c, .int .i64 (n : Int)] w fun e w' => e = .returned (.bool (prB ls n)) ∧ w' = w := by
  by_cases hl : ls.length ≤ n
  · have d0 : decide ((n : Int) < (ls.length : Int)) = false := by simp; omega
    have d0' : decide (n < ls.length) = false := by simp; omega
    go_enter Tryz.func84, Tryz.ntmps84
    go_wp2
    go_loopw [13] (fun i wr => ∃ (k : Nat), k ≤ ls.length ∧ i = .int .i64 k ∧ wr = w ∧ ∀ j, j < k → prA ls j = true) (fun i _ => ls.length - (intOf i).toNat)
    case atStart => exact ⟨0, Nat.zero_le _, rfl, rfl, fun j hj => absurd hj (by omega)⟩
    case round =>
      obtain ⟨k, hk, rfl, rfl, hall⟩ := hrel
      by_cases hlt : k < ls.length
      · have CN := hide (contains_any wr g a c (ls.take k) (ls.getD k []) (hr.take k) (by rw [List.length_take]; omega))
        rw [List.length_take, Nat.min_eq_left (Nat.le_of_lt hlt)] at CN
        have PA := hide (show prA ls k = (decide (0 < (ls.getD k []).length) && (decide ((ls.getD k []).length ≤ 32) && !decide (ls.getD k [] ∈ ls.take k))) from rfl)
        have HZ : (ls.getD k []).length ≤ 1048576 := by
          refine hz _ ?_
          rw [List.getD_eq_getElem?_getD, List.getElem?_eq_getElem hlt]
          exact List.getElem_mem hlt
        obtain ⟨off, rfl, hcl⟩ := hr (by omega)
        have t0 : (k : Int) < (ls.length : Int) := by omega
        have c1 := hcl k hlt
        have s1 : (k : Int) ≤ (c : Int) := by omega
        have HALL := hide hall
        have HR := hide hr
        have HH := hide hz
        clear hcl hall hr hz
        generalize decide (ls.getD k [] ∈ ls.take k) = bm at *
        generalize ls.getD k [] = x at *
        have sx := tx_size x
        simp only [tx] at c1 CN
        by_cases x0 : x = []
        · subst x0
          have NO := hide (prB_no (n := n) hlt (show prA ls k = false by rw [PA.out]; rfl))
          clear PA HALL CN HR HH
          go_wp2
          go_ret
          exact ⟨by rw [NO.out]; rfl, rfl⟩
        · have e0 : (x == []) = false := by simpa using x0
          have e1 : 0 < x.length := by
            cases x with
            | nil => exact absurd rfl x0
            | cons _ _ => simp
          by_cases x1 : 32 < x.length
          · have NO := hide (prB_no (n := n) hlt (show prA ls k = false by rw [PA.out, decide_eq_false (show ¬ x.length ≤ 32 by omega)]; simp))
            have d1 : decide ((32 : Int) < (x.length : Int)) = true := by simp; omega
            clear PA HALL CN HR HH
            go_wp2
            go_ret
            exact ⟨by rw [NO.out]; rfl, rfl⟩
          · have d1 : decide ((32 : Int) < (x.length : Int)) = false := by simp; omega
            cases bm with
            | true =>
              have NO := hide (prB_no (n := n) hlt (show prA ls k = false by rw [PA.out]; simp))
              clear PA HALL HR HH
              go_wp2_with fail
              refine CN.out.mono ?_
              rintro e w1 ⟨rfl, rfl⟩
              go_wp2
              go_ret
              exact ⟨by rw [NO.out]; rfl, rfl⟩
            | false =>
              have NXT : Hid (∀ j, j < k + 1 → prA ls j = true) := fun j hj => by
                by_cases h : j = k
                · subst h
                  rw [PA.out, decide_eq_true e1, decide_eq_true (show x.length ≤ 32 by omega)]
                  rfl
                · exact HALL.out j (by omega)
              clear PA HALL HR HH
              go_wp2_with fail
              refine CN.out.mono ?_
              rintro e w1 ⟨rfl, rfl⟩
              go_wp2
              go_roundw
              case rel => exact ⟨k + 1, by omega, by go_num, trivial, NXT.out⟩
              case measure => simp [intOf]; omega
      · obtain rfl : k = ls.length := by omega
        have YES := hide (prB_yes hl hall)
        clear hall hr
        go_wp2
        go_ret
        exact ⟨by rw [YES.out]; rfl, rfl⟩
  · have d0 : decide ((n : Int) < (ls.length : Int)) = true := by simp; omega
    have NO : Hid (prB ls n = false) := by show _ = _; unfold prB; rw [decide_eq_false hl, Bool.false_and]
    clear hr
    go_enter Tryz.func84, Tryz.ntmps84
    go_wp2
    go_ret
    exact ⟨by rw [NO.out]; rfl, rfl⟩
end Go.Proofs.YtcaljanahpdidaaGreat
namespace Go.Proofs.YtcaljanahpdidaaGreat
open Go Go.RowKit
def fpB (v : Int) (r s : Nat) : Bool := decide (v < 0) || (decide (255 < v) || (decide (r ≠ 32) || decide (s ≠ 32)))
def fpF (v : Int) (r s : Nat) : Int := if fpB v r s = true then 3 else 0
theorem firstFault_any (w : World) (q : Nat) (v : Int) (a1 a2 : Option Addr) (r s c1 c2 : Nat) (hr : r ≤ 1048576) (hs : s ≤ 1048576) (h0 : w.cell? ⟨q, 0, none⟩ = some (.int .i64 v)) (h1 : w.cell? ⟨q, 1, none⟩ = some (.slice a1 r c1)) (h2 : w.cell? ⟨q, 2, none⟩ = some (.slice a2 s c2)) :
    Calls Tryz.prog 81 #[.pointer (some ⟨q, 0, none⟩)] w fun e w' => e = .returned (.int .i64 (fpF v r s)) ∧ w' = w := by
  have E := hide (show fpF v r s = if (decide (v < 0) || (decide (255 < v) || (decide (r ≠ 32) || decide (s ≠ 32)))) = true then 3 else 0 from rfl)
  by_cases k0 : v < 0
  · have d0 : decide (v < 0) = true := decide_eq_true k0
    go_enter Tryz.func81, Tryz.ntmps81
    go_wp2
    go_ret
    exact ⟨by rw [E.out, d0]; rfl, rfl⟩
  · have d0 : decide (v < 0) = false := decide_eq_false k0
    by_cases k1 : 255 < v
    · have d1 : decide (255 < v) = true := decide_eq_true k1
      go_enter Tryz.func81, Tryz.ntmps81
      go_wp2
      go_ret
      exact ⟨by rw [E.out, d0, d1]; rfl, rfl⟩
    · have d1 : decide (255 < v) = false := decide_eq_false k1
      by_cases k2 : r = 32
      · have d2 : decide (r ≠ 32) = false := by simpa using k2
        by_cases k3 : s = 32
        · have d3 : decide (s ≠ 32) = false := by simpa using k3
          subst k2
          subst k3
          go_enter Tryz.func81, Tryz.ntmps81
          go_wp2
          go_ret
          exact ⟨by rw [E.out, d0, d1, d2]; rfl, rfl⟩
        · have d3 : decide (s ≠ 32) = true := by simpa using k3
          have e3 : ((s : Int) != 32) = true := by simp; omega
          subst k2
          go_enter Tryz.func81, Tryz.ntmps81
          go_wp2
          go_ret
          exact ⟨by rw [E.out, d0, d1, d2, d3]; rfl, rfl⟩
      · have d2 : decide (r ≠ 32) = true := by simpa using k2
        have e2 : ((r : Int) != 32) = true := by simp; omega
        go_enter Tryz.func81, Tryz.ntmps81
        go_wp2
        go_ret
        exact ⟨by rw [E.out, d0, d1, d2]; rfl, rfl⟩
def bdB (t b : Nat) (g e : Int) : Bool := if t = 0 then decide (b = 0) && (decide (g = 0) && decide (e = 0)) else decide (b = 32)
theorem isBound_any (w : World) (q : Nat) (a5 a8 : Option Addr) (t b c5 c8 : Nat) (g e : Int) (ht : t ≤ 1048576) (hb : b ≤ 1048576) (h5 : w.cell? ⟨q, 5, none⟩ = some (.slice a5 t c5)) (h6 : w.cell? ⟨q, 6, none⟩ = some (.int .i64 g)) (h7 : w.cell? ⟨q, 7, none⟩ = some (.int .i64 e)) (h8 : w.cell? ⟨q, 8, none⟩ = some (.slice a8 b c8)) :
    Calls Tryz.prog 82 #[.pointer (some ⟨q, 0, none⟩)] w fun r w' => r = .returned (.bool (bdB t b g e)) ∧ w' = w := by
  by_cases k0 : t = 0
  · subst k0
    have E := hide (show bdB 0 b g e = (decide (b = 0) && (decide (g = 0) && decide (e = 0))) from rfl)
    by_cases k1 : b = 0
    · subst k1
      by_cases k2 : g = 0
      · subst k2
        by_cases k3 : e = 0
        · subst k3
          go_enter Tryz.func82, Tryz.ntmps82
          go_wp2
          go_ret
          exact ⟨by rw [E.out]; rfl, rfl⟩
        · have d3 : decide (e = 0) = false := decide_eq_false k3
          have e3 : (e == 0) = false := by simpa using k3
          go_enter Tryz.func82, Tryz.ntmps82
          go_wp2
          go_ret
          exact ⟨by rw [E.out, d3]; rfl, rfl⟩
      · have d2 : decide (g = 0) = false := decide_eq_false k2
        have e2 : (g == 0) = false := by simpa using k2
        go_enter Tryz.func82, Tryz.ntmps82
        go_wp2
        go_ret
        exact ⟨by rw [E.out, d2]; rfl, rfl⟩
    · have d1 : decide (b = 0) = false := decide_eq_false k1
      have e1 : ((b : Int) == 0) = false := by simp; omega
      go_enter Tryz.func82, Tryz.ntmps82
      go_wp2
      go_ret
      exact ⟨by rw [E.out, d1]; rfl, rfl⟩
  · have E := hide (show bdB t b g e = decide (b = 32) by unfold bdB; rw [if_neg k0])
    have e0 : ((t : Int) == 0) = false := by simp; omega
    by_cases k1 : b = 32
    · subst k1
      go_enter Tryz.func82, Tryz.ntmps82
      go_wp2
      go_ret
      exact ⟨by rw [E.out]; rfl, rfl⟩
    · have d1 : decide (b = 32) = false := decide_eq_false k1
      have e1 : ((b : Int) == 32) = false := by simp; omega
      go_enter Tryz.func82, Tryz.ntmps82
      go_wp2
      go_ret
      exact ⟨by rw [E.out, d1]; rfl, rfl⟩
end Go.Proofs.YtcaljanahpdidaaGreat
namespace Go.Proofs.YtcaljanahpdidaaGreat
open Go Go.RowKit
def heF (v : Int) (r s : Nat) (host : List UInt8) (ls : List (List UInt8)) (t b : Nat) (g e : Int) : Int :=
  if (fpB v r s || !bdB t b g e) = true then 3 else if nameF host ≠ 0 then 4 else if prB ls 8 = false then 5 else if 400 < t then 6 else if (!ageB g || !flgB e) = true then 7 else 0
set_option maxHeartbeats 1000000 in
theorem helloFault_any (w : World) (q : Nat) (v : Int) (a1 a2 a4 a5 a8 : Option Addr) (r s t b c1 c2 c4 c5 c8 gp : Nat) (host : List UInt8) (ls : List (List UInt8)) (g e : Int)
    (hr : r ≤ 1048576) (hs : s ≤ 1048576) (ht : t ≤ 1048576) (hb : b ≤ 1048576) (hh : host.length ≤ 1048576) (hp : RdT w gp a4 ls) (hc : ls.length ≤ c4) (hn : ls.length ≤ 1048576) (hz : ∀ l ∈ ls, l.length ≤ 1048576)
    (h0 : w.cell? ⟨q, 0, none⟩ = some (.int .i64 v)) (h1 : w.cell? ⟨q, 1, none⟩ = some (.slice a1 r c1)) (h2 : w.cell? ⟨q, 2, none⟩ = some (.slice a2 s c2)) (h3 : w.cell? ⟨q, 3, none⟩ = some (.string ⟨⟨host⟩⟩)) (h4 : w.cell? ⟨q, 4, none⟩ = some (.slice a4 ls.length c4))
    (h5 : w.cell? ⟨q, 5, none⟩ = some (.slice a5 t c5)) (h6 : w.cell? ⟨q, 6, none⟩ = some (.int .i64 g)) (h7 : w.cell? ⟨q, 7, none⟩ = some (.int .i64 e)) (h8 : w.cell? ⟨q, 8, none⟩ = some (.slice a8 b c8)) :
    Calls Tryz.prog 74 #[.pointer (some ⟨q, 0, none⟩)] w fun x w' => x = .returned (.int .i64 (heF v r s host ls t b g e)) ∧ w' = w := by
  have E := hide (show heF v r s host ls t b g e = if (fpB v r s || !bdB t b g e) = true then 3 else if nameF host ≠ 0 then 4 else if prB ls 8 = false then 5 else if 400 < t then 6 else if (!ageB g || !flgB e) = true then 7 else 0 from rfl)
  have FF := hide (firstFault_any w q v a1 a2 r s c1 c2 hr hs h0 h1 h2)
  have IB := hide (isBound_any w q a5 a8 t b c5 c8 g e ht hb h5 h6 h7 h8)
  have NF := hide (implNameFault_any w host (by omega))
  have AP := hide (areProtocols_any w gp a4 c4 ls 8 hp hc hn (by decide) hz)
  have AG := hide (isAge_any w g)
  have FL := hide (isFlag_any w e)
  clear hp hc hn hz
  generalize heF v r s host ls t b g e = f at *
  have FE : fpF v r s = if fpB v r s = true then 3 else 0 := rfl
  rw [FE] at FF
  clear FE
  generalize fpB v r s = x1 at *
  generalize bdB t b g e = x2 at *
  generalize nameF host = x3 at *
  generalize prB ls 8 = x4 at *
  generalize ageB g = x5 at *
  generalize flgB e = x6 at *
  cases x1 with
  | true =>
    obtain rfl : f = 3 := E.out
    clear E IB NF AP AG FL
    simp only [if_pos] at FF
    go_enter Tryz.func74, Tryz.ntmps74
    go_wp2_with fail
    refine FF.out.mono ?_
    rintro x w1 ⟨rfl, rfl⟩
    go_wp2
    go_ret
    exact ⟨rfl, rfl⟩
  | false =>
    simp only [Bool.false_eq_true, if_false] at FF
    cases x2 with
    | false =>
      obtain rfl : f = 3 := E.out
      clear E NF AP AG FL
      go_enter Tryz.func74, Tryz.ntmps74
      go_wp2_with fail
      refine FF.out.mono ?_
      rintro x w1 ⟨rfl, rfl⟩
      go_wp2_with fail
      refine IB.out.mono ?_
      rintro x w1 ⟨rfl, rfl⟩
      go_wp2
      go_ret
      exact ⟨rfl, rfl⟩
    | true =>
      by_cases k3 : x3 = 0
      · subst k3
        cases x4 with
        | false =>
          obtain rfl : f = 5 := E.out
          clear E AG FL
          go_enter Tryz.func74, Tryz.ntmps74
          go_wp2_with fail
          refine FF.out.mono ?_
          rintro x w1 ⟨rfl, rfl⟩
          go_wp2_with fail
          refine IB.out.mono ?_
          rintro x w1 ⟨rfl, rfl⟩
          go_wp2_with fail
          refine NF.out.mono ?_
          rintro x w1 ⟨rfl, rfl⟩
          go_wp2_with fail
          refine AP.out.mono ?_
          rintro x w1 ⟨rfl, rfl⟩
          go_wp2
          go_ret
          exact ⟨rfl, rfl⟩
        | true =>
          by_cases k5 : 400 < t
          · have EF : f = 6 := by rw [E.out]; simp [k5]
            subst EF
            have d5 : decide ((400 : Int) < (t : Int)) = true := by simp; omega
            clear E AG FL
            go_enter Tryz.func74, Tryz.ntmps74
            go_wp2_with fail
            refine FF.out.mono ?_
            rintro x w1 ⟨rfl, rfl⟩
            go_wp2_with fail
            refine IB.out.mono ?_
            rintro x w1 ⟨rfl, rfl⟩
            go_wp2_with fail
            refine NF.out.mono ?_
            rintro x w1 ⟨rfl, rfl⟩
            go_wp2_with fail
            refine AP.out.mono ?_
            rintro x w1 ⟨rfl, rfl⟩
            go_wp2
            go_ret
            exact ⟨rfl, rfl⟩
          · have d5 : decide ((400 : Int) < (t : Int)) = false := by simp; omega
            have EF := hide (show f = if (!x5 || !x6) = true then 7 else 0 by rw [E.out]; simp [k5])
            clear E
            go_enter Tryz.func74, Tryz.ntmps74
            go_wp2_with fail
            refine FF.out.mono ?_
            rintro x w1 ⟨rfl, rfl⟩
            go_wp2_with fail
            refine IB.out.mono ?_
            rintro x w1 ⟨rfl, rfl⟩
            go_wp2_with fail
            refine NF.out.mono ?_
            rintro x w1 ⟨rfl, rfl⟩
            go_wp2_with fail
            refine AP.out.mono ?_
            rintro x w1 ⟨rfl, rfl⟩
            go_wp2_with fail
            refine AG.out.mono ?_
            rintro x w1 ⟨rfl, rfl⟩
            cases x5 with
            | false =>
              go_wp2
              go_ret
              exact ⟨by rw [EF.out]; rfl, rfl⟩
            | true =>
              go_wp2_with fail
              refine FL.out.mono ?_
              rintro x w1 ⟨rfl, rfl⟩
              cases x6 with
              | false =>
                go_wp2
                go_ret
                exact ⟨by rw [EF.out]; rfl, rfl⟩
              | true =>
                go_wp2
                go_ret
                exact ⟨by rw [EF.out]; rfl, rfl⟩
      · have EF : f = 4 := by rw [E.out]; simp [k3]
        subst EF
        have d3 : (x3 != 0) = true := by simpa using k3
        clear E AP AG FL
        go_enter Tryz.func74, Tryz.ntmps74
        go_wp2_with fail
        refine FF.out.mono ?_
        rintro x w1 ⟨rfl, rfl⟩
        go_wp2_with fail
        refine IB.out.mono ?_
        rintro x w1 ⟨rfl, rfl⟩
        go_wp2_with fail
        refine NF.out.mono ?_
        rintro x w1 ⟨rfl, rfl⟩
        go_wp2
        go_ret
        exact ⟨rfl, rfl⟩
end Go.Proofs.YtcaljanahpdidaaGreat
namespace Go.Proofs.YtcaljanahpdidaaGreat
open Go Go.RowKit
def tiF (g e : Int) (r t : Nat) : Int := if r ≠ 32 then 3 else if t = 0 ∨ 400 < t then 6 else if (!ageB g || !ageB e) = true then 7 else 0
set_option maxHeartbeats 1000000 in
theorem ticketFault_any (w : World) (q : Nat) (g e : Int) (a2 a3 : Option Addr) (r t c2 c3 : Nat) (hr : r ≤ 1048576) (ht : t ≤ 1048576)
    (h0 : w.cell? ⟨q, 0, none⟩ = some (.int .i64 g)) (h1 : w.cell? ⟨q, 1, none⟩ = some (.int .i64 e)) (h2 : w.cell? ⟨q, 2, none⟩ = some (.slice a2 r c2)) (h3 : w.cell? ⟨q, 3, none⟩ = some (.slice a3 t c3)) :
    Calls Tryz.prog 104 #[.pointer (some ⟨q, 0, none⟩)] w fun x w' => x = .returned (.int .i64 (tiF g e r t)) ∧ w' = w := by
  have E := hide (show tiF g e r t = if r ≠ 32 then 3 else if t = 0 ∨ 400 < t then 6 else if (!ageB g || !ageB e) = true then 7 else 0 from rfl)
  have AG := hide (isAge_any w g)
  have AE := hide (isAge_any w e)
  generalize tiF g e r t = f at *
  generalize ageB g = x5 at *
  generalize ageB e = x6 at *
  by_cases k0 : r = 32
  · subst k0
    by_cases k1 : t = 0
    · subst k1
      have EF : f = 6 := by rw [E.out]; simp
      subst EF
      clear E AG AE
      go_enter Tryz.func104, Tryz.ntmps104
      go_wp2
      go_ret
      exact ⟨rfl, rfl⟩
    · have d1 : ((t : Int) == 0) = false := by simp; omega
      by_cases k2 : 400 < t
      · have EF : f = 6 := by rw [E.out]; simp [k2]
        subst EF
        have d2 : decide ((400 : Int) < (t : Int)) = true := by simp; omega
        clear E AG AE
        go_enter Tryz.func104, Tryz.ntmps104
        go_wp2
        go_ret
        exact ⟨rfl, rfl⟩
      · have EF := hide (show f = if (!x5 || !x6) = true then 7 else 0 by rw [E.out]; simp [k1, k2])
        have d2 : decide ((400 : Int) < (t : Int)) = false := by simp; omega
        clear E
        go_enter Tryz.func104, Tryz.ntmps104
        go_wp2_with fail
        refine AG.out.mono ?_
        rintro x w1 ⟨rfl, rfl⟩
        cases x5 with
        | false =>
          go_wp2
          go_ret
          exact ⟨by rw [EF.out]; rfl, rfl⟩
        | true =>
          go_wp2_with fail
          refine AE.out.mono ?_
          rintro x w1 ⟨rfl, rfl⟩
          cases x6 with
          | false =>
            go_wp2
            go_ret
            exact ⟨by rw [EF.out]; rfl, rfl⟩
          | true =>
            go_wp2
            go_ret
            exact ⟨by rw [EF.out]; rfl, rfl⟩
  · have EF : f = 3 := by rw [E.out]; simp [k0]
    subst EF
    have d0 : ((r : Int) != 32) = true := by simp; omega
    clear E AG AE
    go_enter Tryz.func104, Tryz.ntmps104
    go_wp2
    go_ret
    exact ⟨rfl, rfl⟩
def exF (ls : List (List UInt8)) (e : Int) : Int := if prB ls 1 = false then 5 else if flgB e = false then 7 else 0
set_option maxHeartbeats 1000000 in
theorem extrasFault_any (w : World) (q : Nat) (a0 : Option Addr) (c0 gp : Nat) (ls : List (List UInt8)) (e : Int) (hp : RdT w gp a0 ls) (hc : ls.length ≤ c0) (hn : ls.length ≤ 1048576) (hz : ∀ l ∈ ls, l.length ≤ 1048576)
    (h0 : w.cell? ⟨q, 0, none⟩ = some (.slice a0 ls.length c0)) (h1 : w.cell? ⟨q, 1, none⟩ = some (.int .i64 e)) :
    Calls Tryz.prog 112 #[.pointer (some ⟨q, 0, none⟩)] w fun x w' => x = .returned (.int .i64 (exF ls e)) ∧ w' = w := by
  have E := hide (show exF ls e = if prB ls 1 = false then 5 else if flgB e = false then 7 else 0 from rfl)
  have AP := hide (areProtocols_any w gp a0 c0 ls 1 hp hc hn (by decide) hz)
  have FL := hide (isFlag_any w e)
  clear hp hc hn hz
  generalize exF ls e = f at *
  generalize prB ls 1 = x4 at *
  generalize flgB e = x6 at *
  cases x4 with
  | false =>
    obtain rfl : f = 5 := E.out
    clear E FL
    go_enter Tryz.func112, Tryz.ntmps112
    go_wp2_with fail
    refine AP.out.mono ?_
    rintro x w1 ⟨rfl, rfl⟩
    go_wp2
    go_ret
    exact ⟨rfl, rfl⟩
  | true =>
    go_enter Tryz.func112, Tryz.ntmps112
    go_wp2_with fail
    refine AP.out.mono ?_
    rintro x w1 ⟨rfl, rfl⟩
    go_wp2_with fail
    refine FL.out.mono ?_
    rintro x w1 ⟨rfl, rfl⟩
    cases x6 with
    | false =>
      go_wp2
      go_ret
      exact ⟨by rw [E.out]; rfl, rfl⟩
    | true =>
      go_wp2
      go_ret
      exact ⟨by rw [E.out]; rfl, rfl⟩
def pfF (n : Nat) (k : Nat) : Int := if k ≠ n then 3 else 0
theorem proofFault_any (w : World) (q : Nat) (a0 : Option Addr) (k c0 : Nat) (hk : k ≤ 1048576) (h0 : w.cell? ⟨q, 0, none⟩ = some (.slice a0 k c0)) :
    Calls Tryz.prog 123 #[.pointer (some ⟨q, 0, none⟩)] w fun x w' => x = .returned (.int .i64 (pfF 64 k)) ∧ w' = w := by
  have E := hide (show pfF 64 k = if k ≠ 64 then 3 else 0 from rfl)
  generalize pfF 64 k = f at *
  by_cases k0 : k = 64
  · subst k0
    obtain rfl : f = 0 := E.out
    go_enter Tryz.func123, Tryz.ntmps123
    go_wp2
    go_ret
    exact ⟨rfl, rfl⟩
  · have EF : f = 3 := by rw [E.out]; simp [k0]
    subst EF
    have d0 : ((k : Int) != 64) = true := by simp; omega
    go_enter Tryz.func123, Tryz.ntmps123
    go_wp2
    go_ret
    exact ⟨rfl, rfl⟩
theorem finishedFault_any (w : World) (q : Nat) (a0 : Option Addr) (k c0 : Nat) (hk : k ≤ 1048576) (h0 : w.cell? ⟨q, 0, none⟩ = some (.slice a0 k c0)) :
    Calls Tryz.prog 127 #[.pointer (some ⟨q, 0, none⟩)] w fun x w' => x = .returned (.int .i64 (pfF 32 k)) ∧ w' = w := by
  have E := hide (show pfF 32 k = if k ≠ 32 then 3 else 0 from rfl)
  generalize pfF 32 k = f at *
  by_cases k0 : k = 32
  · subst k0
    obtain rfl : f = 0 := E.out
    go_enter Tryz.func127, Tryz.ntmps127
    go_wp2
    go_ret
    exact ⟨rfl, rfl⟩
  · have EF : f = 3 := by rw [E.out]; simp [k0]
    subst EF
    have d0 : ((k : Int) != 32) = true := by simp; omega
    go_enter Tryz.func127, Tryz.ntmps127
    go_wp2
    go_ret
    exact ⟨rfl, rfl⟩
def upF (e : Int) : Int := if flgB e = false then 7 else 0
theorem updateFault_any (w : World) (q : Nat) (e : Int) (h0 : w.cell? ⟨q, 0, none⟩ = some (.int .i64 e)) :
    Calls Tryz.prog 131 #[.pointer (some ⟨q, 0, none⟩)] w fun x w' => x = .returned (.int .i64 (upF e)) ∧ w' = w := by
  have E := hide (show upF e = if flgB e = false then 7 else 0 from rfl)
  have FL := hide (isFlag_any w e)
  generalize upF e = f at *
  generalize flgB e = x6 at *
  go_enter Tryz.func131, Tryz.ntmps131
  go_wp2_with fail
  refine FL.out.mono ?_
  rintro x w1 ⟨rfl, rfl⟩
  cases x6 with
  | false =>
    go_wp2
    go_ret
    exact ⟨by rw [E.out]; rfl, rfl⟩
  | true =>
    go_wp2
    go_ret
    exact ⟨by rw [E.out]; rfl, rfl⟩
theorem endFault_any (w : World) (v : Value) : Calls Tryz.prog 108 #[v] w fun x w' => x = .returned (.int .i64 0) ∧ w' = w := by
  go_enter Tryz.func108, Tryz.ntmps108
  go_wp2
  go_ret
  exact ⟨rfl, rfl⟩
end Go.Proofs.YtcaljanahpdidaaGreat
