
/-
  Two names that are drawn, and the law of names inside one another.
-/
import Derived.Test.YtheggghidhjplaaDnB
import Derived.Test.YtheggghidhjplaaNmE
namespace Go.Proofs.Ytheggghidhjplaa
open Go Go.RowKit

set_option maxHeartbeats 4000000 in
theorem drawInside_any (w : World) (g : Nat) (a : Option Addr) (c : Nat) (xs : List Int) (hr : Rd w g a .u8 xs) (hb : Byt xs) (hl : xs.length ≤ 1048576) :
    Calls Try.prog 17 #[.slice a xs.length c] w fun e w' => ∃ (l m : List UInt8), e = .returned (.tuple #[.string ⟨⟨l⟩⟩, .string ⟨⟨m⟩⟩]) ∧ l.length ≤ 200 ∧ m.length ≤ 200 ∧ Below w.heap.size w w' := by
  have HR := hide hr
  have HB := hide hb
  go_enter Try.func17, Try.ntmps17
  go_wp2_with fail
  refine (l1Source_any w a xs.length c hl).mono ?_
  rintro e w1 ⟨rfl, S1, n1⟩
  have D1 : Hid (Dra w1 w.heap.size g a c xs 0) := ⟨S1, HR.out.up n1, fun h => by have := HR.out.lt h; omega, HB.out, hl, by omega⟩
  have U1 : Hid (But w.heap.size w w1) := But.ofBelow n1
  have FB := hide (fun W (h : But w.heap.size w W) => h.below (Nat.le_refl _) (Nat.le_refl _))
  clear S1 n1 hr hb HR HB
  generalize hs : w.heap.size = s at D1 U1 ⊢
  have HS := hide hs
  clear hs
  go_wp2_with fail
  refine (drawName_D D1.out (by omega)).mono ?_
  rintro e w2 ⟨x, u2, rfl, hx, hu2, d2, b2⟩
  have D2 := hide d2
  have U2 := hide (U1.out.trans b2)
  clear d2 b2 D1 U1
  go_wp2_with fail
  refine (drawName_D D2.out (by omega)).mono ?_
  rintro e w3 ⟨y, u3, rfl, hy, hu3, d3, b3⟩
  have D3 := hide d3
  have U3 := hide (U2.out.trans b3)
  clear d3 b3 D2 U2
  go_wp2_with fail
  refine (next_D D3.out (by omega) (by omega) (by omega)).mono ?_
  rintro e w4 ⟨k, rfl, hk, d4, b4⟩
  have D4 := hide d4
  have U4 := hide (U3.out.trans b4)
  clear d4 b4 D3 U3
  have ad : ∀ W : World, (Op.stringOp .add (ByteArray.mk #[110, 46]) (ByteArray.mk ⟨x⟩)).run Try.prog W = .ok (.string ⟨⟨110 :: 46 :: x⟩⟩) W := fun W => tx_add W [110, 46] x (by simp; omega)
  have ad2 : ∀ W : World, (Op.stringOp .add (ByteArray.mk #[110]) (ByteArray.mk ⟨x⟩)).run Try.prog W = .ok (.string ⟨⟨110 :: x⟩⟩) W := fun W => tx_add W [110] x (by simp; omega)
  have EN : Hid (∀ (l m : List UInt8) (W : World), l.length ≤ 200 → m.length ≤ 200 → But s w W → ∃ (l' m' : List UInt8), (.returned (.tuple #[.string ⟨⟨l⟩⟩, .string ⟨⟨m⟩⟩]) : Ending) = .returned (.tuple #[.string ⟨⟨l'⟩⟩, .string ⟨⟨m'⟩⟩]) ∧ l'.length ≤ 200 ∧ m'.length ≤ 200 ∧ Below w.heap.size w W) := fun l m W h1 h2 h3 => ⟨l, m, rfl, h1, h2, FB.out W (by rw [HS.out]; exact h3)⟩
  have hk3 : (k < 2) ∨ k = 2 ∨ (¬ k < 2 ∧ k ≠ 2) := by omega
  clear hk
  rcases hk3 with h | rfl | ⟨h, h'⟩
  · have t1 : decide ((k : Int) < 2) = true := decide_eq_true (by omega)
    have t2 : ((k : Int) == 2) = false := by simp; omega
    clear h
    go_wp2_with fail
    refine (chance_D D4.out (by omega) (by omega) (by omega)).mono ?_
    rintro e w5 ⟨b, rfl, d5, b5⟩
    have D5 := hide d5
    have U5 := hide (U4.out.trans b5)
    clear d5 b5 D4 U4
    cases b with
    | false =>
      go_wp2
      exact bodyPost_ret (v := .tuple #[.string ⟨⟨110 :: 46 :: x⟩⟩, .string ⟨⟨x⟩⟩]) (by simp [results, Try.results17, go_sem]) rfl (EN.out (110 :: 46 :: x) x _ (by simp; omega) (by omega) U5.out)
    | true =>
      go_wp2_with fail
      refine (drawAny_D D5.out (by omega)).mono ?_
      rintro e w6 ⟨z, u6, rfl, hz, hu6, d6, b6⟩
      have U6 := hide (U5.out.trans b6)
      clear d6 b6 D5 U5
      go_wp2
      exact bodyPost_ret (v := .tuple #[.string ⟨⟨110 :: 46 :: x⟩⟩, .string ⟨⟨z⟩⟩]) (by simp [results, Try.results17, go_sem]) rfl (EN.out (110 :: 46 :: x) z _ (by simp; omega) (by omega) U6.out)
  · have t1 : decide (((2 : Nat) : Int) < 2) = false := rfl
    rw [show ((2 : Nat) : Int) = 2 from rfl]
    go_wp2_with fail
    refine (chance_D D4.out (by omega) (by omega) (by omega)).mono ?_
    rintro e w5 ⟨b, rfl, d5, b5⟩
    have D5 := hide d5
    have U5 := hide (U4.out.trans b5)
    clear d5 b5 D4 U4
    cases b with
    | false =>
      go_wp2
      exact bodyPost_ret (v := .tuple #[.string ⟨⟨110 :: x⟩⟩, .string ⟨⟨x⟩⟩]) (by simp [results, Try.results17, go_sem]) rfl (EN.out (110 :: x) x _ (by simp; omega) (by omega) U5.out)
    | true =>
      go_wp2_with fail
      refine (drawAny_D D5.out (by omega)).mono ?_
      rintro e w6 ⟨z, u6, rfl, hz, hu6, d6, b6⟩
      have U6 := hide (U5.out.trans b6)
      clear d6 b6 D5 U5
      go_wp2
      exact bodyPost_ret (v := .tuple #[.string ⟨⟨110 :: x⟩⟩, .string ⟨⟨z⟩⟩]) (by simp [results, Try.results17, go_sem]) rfl (EN.out (110 :: x) z _ (by simp; omega) (by omega) U6.out)
  · have t1 : decide ((k : Int) < 2) = false := decide_eq_false (by omega)
    have t2 : ((k : Int) == 2) = false := by simp; omega
    clear h h'
    go_wp2_with fail
    refine (chance_D D4.out (by omega) (by omega) (by omega)).mono ?_
    rintro e w5 ⟨b, rfl, d5, b5⟩
    have D5 := hide d5
    have U5 := hide (U4.out.trans b5)
    clear d5 b5 D4 U4
    cases b with
    | false =>
      go_wp2
      exact bodyPost_ret (v := .tuple #[.string ⟨⟨y⟩⟩, .string ⟨⟨x⟩⟩]) (by simp [results, Try.results17, go_sem]) rfl (EN.out (y) x _ (by omega) (by omega) U5.out)
    | true =>
      go_wp2_with fail
      refine (drawAny_D D5.out (by omega)).mono ?_
      rintro e w6 ⟨z, u6, rfl, hz, hu6, d6, b6⟩
      have U6 := hide (U5.out.trans b6)
      clear d6 b6 D5 U5
      go_wp2
      exact bodyPost_ret (v := .tuple #[.string ⟨⟨y⟩⟩, .string ⟨⟨z⟩⟩]) (by simp [results, Try.results17, go_sem]) rfl (EN.out (y) z _ (by omega) (by omega) U6.out)
theorem nameF_pre {x a : List UInt8} (hd : dot x = false) (hx : lf x = 0) (h : nameF a = 0) (hl : x.length + 1 + a.length ≤ 128) : nameF (x ++ 46 :: a) = 0 := by
  have ha := nameF_len h
  unfold nameF at h ⊢
  rw [if_neg (by omega)] at h
  rw [if_neg (by simp; omega), labs_cat, dotless hd, ff_app, ff_one, if_pos hx]
  exact h
theorem suf_of {n a : List UInt8} (h : inS n a = true) : a.length ≤ n.length ∧ (a.length = n.length → n = a) := by
  unfold inS at h
  rw [Bool.or_eq_true, decide_eq_true_eq, List.isSuffixOf_iff_suffix] at h
  rcases h with rfl | h
  · exact ⟨Nat.le_refl _, fun _ => rfl⟩
  · have := h.length_le
    rw [List.length_cons] at this
    exact ⟨by omega, fun e => by omega⟩
theorem inS_long {n a : List UInt8} (h : n.length < a.length) : inS n a = false := by
  cases k : inS n a with
  | false => rfl
  | true =>
    have := (suf_of k).1
    omega
theorem inS_pre {n a : List UInt8} (x : List UInt8) (h : inS n a = true) : inS (x ++ 46 :: n) a = true := by
  unfold inS at h ⊢
  rw [Bool.or_eq_true, decide_eq_true_eq, List.isSuffixOf_iff_suffix] at *
  right
  rcases h with rfl | h
  · exact List.suffix_append _ _
  · exact h.trans ((List.suffix_cons 46 n).trans (List.suffix_append x (46 :: n)))
theorem niB_of {n a : List UInt8} (h1 : nameF n = 0) (h2 : nameF a = 0) : niB n a = inS n a := by
  unfold niB
  rw [decide_eq_true h1, decide_eq_true h2]
  rfl
structure NamesOk (a b : List UInt8) : Prop where
  f1 : niB a a = true
  f2 : niB (120 :: 46 :: a) a = true
  f3 : niB a (120 :: 46 :: a) = false
  f4 : niB (121 :: 46 :: 120 :: 46 :: a) (120 :: 46 :: a) = true
  f5 : niB a b = true → niB b a = (a == b)
  f6 : niB a b = true → niB (121 :: 46 :: 120 :: 46 :: a) b = true
  f7 : nmB (42 :: 46 :: 120 :: 46 :: a) (121 :: 46 :: 120 :: 46 :: a) = true
  f8 : nmB (42 :: 46 :: 120 :: 46 :: a) (120 :: 46 :: a) = false
theorem names_ok {a b : List UInt8} (ha : nameF a = 0) (hb : nameF b = 0) (la : a.length ≤ 120) : NamesOk a b := by
  have hx : nameF (120 :: 46 :: a) = 0 := nameF_pre (x := [120]) (a := a) rfl (by decide) ha (by simp; omega)
  have hyx : nameF (121 :: 46 :: 120 :: 46 :: a) = 0 := nameF_pre (x := [121]) (a := 120 :: 46 :: a) rfl (by decide) hx (by simp; omega)
  have st : star (42 :: 46 :: 120 :: 46 :: a) = true := rfl
  have dp : (42 :: 46 :: 120 :: 46 :: a).drop 2 = 120 :: 46 :: a := rfl
  have pf : patF (42 :: 46 :: 120 :: 46 :: a) = 0 := by
    unfold patF
    rw [if_pos st, if_neg (by simp; omega), dp, if_neg (fun k => k hx), if_pos (by simp [dot])]
  refine ⟨?_, ?_, ?_, ?_, ?_, ?_, ?_, ?_⟩
  · rw [niB_of ha ha, inS_self]
  · rw [niB_of hx ha]
    exact inS_pre [120] (inS_self a)
  · rw [niB_of ha hx]
    exact inS_long (by simp; omega)
  · rw [niB_of hyx hx]
    exact inS_pre [121] (inS_self _)
  · intro h
    rw [niB_of ha hb] at h
    rw [niB_of hb ha]
    by_cases e : a = b
    · subst e
      rw [inS_self]
      simp
    · rw [show (a == b) = false by simpa using e]
      cases k : inS b a with
      | false => rfl
      | true =>
        have h1 := suf_of h
        have h2 := suf_of k
        exact absurd (h1.2 (by omega)) e
  · intro h
    rw [niB_of ha hb] at h
    rw [niB_of hyx hb]
    exact inS_pre [121] (inS_pre [120] h)
  · unfold nmB mtS
    rw [decide_eq_true pf, decide_eq_true hyx, if_pos st, dp]
    have : (labs (121 :: 46 :: 120 :: 46 :: a)).getD 0 [] = [121] := by
      have := labs_cat [121] (120 :: 46 :: a)
      rw [dotless (l := [121]) rfl] at this
      show (labs ([121] ++ 46 :: 120 :: 46 :: a)).getD 0 [] = _
      rw [this]
      rfl
    rw [this]
    simp
  · unfold nmB mtS
    rw [decide_eq_true pf, decide_eq_true hx, if_pos st, dp]
    have : (labs (120 :: 46 :: a)).getD 0 [] = [120] := by
      have := labs_cat [120] a
      rw [dotless (l := [120]) rfl] at this
      show (labs ([120] ++ 46 :: a)).getD 0 [] = _
      rw [this]
      rfl
    rw [this, decide_eq_false (fun k => by have := congrArg List.length k; simp at this; omega)]
    rfl
set_option maxHeartbeats 16000000 in
theorem namesInside_law (w : World) (g : Nat) (a : Option Addr) (c : Nat) (xs : List Int) (hr : Rd w g a .u8 xs) (hb : Byt xs) (g' : Nat) (a' : Option Addr) (c' : Nat) (ys : List Int) (_ : Rd w g' a' .u8 ys) (_ : Byt ys) :
    Calls Try.prog 5 #[.slice a xs.length c, .slice a' ys.length c'] w fun e w' => e = .returned (.bool true) ∧ Below w.heap.size w w' := by
  by_cases h1 : 1048576 < xs.length
  · have t1 : decide ((1048576 : Int) < (xs.length : Int)) = true := decide_eq_true (by omega)
    go_enter Try.func5, Try.ntmps5
    go_wp2
    go_ret
    exact ⟨rfl, Below.refl _ _⟩
  · have t1 : decide ((1048576 : Int) < (xs.length : Int)) = false := decide_eq_false (by omega)
    by_cases h2 : 1048576 < ys.length
    · have t2 : decide ((1048576 : Int) < (ys.length : Int)) = true := decide_eq_true (by omega)
      go_enter Try.func5, Try.ntmps5
      go_wp2
      go_ret
      exact ⟨rfl, Below.refl _ _⟩
    · have t2 : decide ((1048576 : Int) < (ys.length : Int)) = false := decide_eq_false (by omega)
      have DR := hide (drawInside_any w g a c xs hr hb (by omega))
      clear hr hb h1 h2
      go_enter Try.func5, Try.ntmps5
      go_wp2_with fail
      refine DR.out.mono ?_
      rintro e w1 ⟨l, m, rfl, ll, lm, n1⟩
      have Nw1 := hide n1
      clear n1 DR
      have sl := tx_size l
      have sm := tx_size m
      have SFl := hide (fun W => specNameFault_any W l (by omega))
      have SFm := hide (fun W => specNameFault_any W m (by omega))
      have IFl := hide (fun W => implNameFault_any W l (by omega))
      have KK := hide (fun W => implNameInside_any W [120, 46, 97, 46, 98] [97, 46, 98] (by simp) (by simp))
      rw [show niB [120, 46, 97, 46, 98] [97, 46, 98] = true by decide] at KK
      by_cases fl : nameF l = 0
      · have z1 : (nameF l == 0) = true := by rw [fl]; rfl
        have z1' : (nameF l != 0) = false := by rw [fl]; rfl
        by_cases fm : nameF m = 0
        · by_cases k1 : 120 < l.length
          · have u1 : decide ((120 : Int) < (l.length : Int)) = true := decide_eq_true (by omega)
            rw [fl] at SFl IFl
            rw [fm] at SFm
            clear fl fm k1 z1 z1'
            go_wp2_with fail
            refine (SFl.out w1).mono ?_
            rintro e w2 ⟨rfl, nz⟩
            have Nw2 := hide (nxt Nw1.out nz)
            clear nz
            go_wp2_with fail
            refine (SFm.out w2).mono ?_
            rintro e w3 ⟨rfl, nz⟩
            have Nw3 := hide (nxt Nw2.out nz)
            clear nz
            go_wp2_with fail
            refine (IFl.out w3).mono ?_
            rintro e wz ⟨rfl, hz⟩
            have hz' := hz.symm
            subst hz'
            go_wp2_with fail
            refine (SFl.out w3).mono ?_
            rintro e wb ⟨rfl, nz⟩
            have Nwb := hide (nxt Nw3.out nz)
            clear nz
            go_wp2_with fail
            refine (KK.out wb).mono ?_
            rintro e wz ⟨rfl, hz⟩
            have hz' := hz.symm
            subst hz'
            go_wp2
            go_ret
            exact ⟨rfl, Nwb.out⟩
          · have u1 : decide ((120 : Int) < (l.length : Int)) = false := decide_eq_false (by omega)
            by_cases k2 : 120 < m.length
            · have u2 : decide ((120 : Int) < (m.length : Int)) = true := decide_eq_true (by omega)
              rw [fl] at SFl IFl
              rw [fm] at SFm
              clear fl fm k1 k2 z1 z1'
              go_wp2_with fail
              refine (SFl.out w1).mono ?_
              rintro e w2 ⟨rfl, nz⟩
              have Nw2 := hide (nxt Nw1.out nz)
              clear nz
              go_wp2_with fail
              refine (SFm.out w2).mono ?_
              rintro e w3 ⟨rfl, nz⟩
              have Nw3 := hide (nxt Nw2.out nz)
              clear nz
              go_wp2_with fail
              refine (IFl.out w3).mono ?_
              rintro e wz ⟨rfl, hz⟩
              have hz' := hz.symm
              subst hz'
              go_wp2_with fail
              refine (SFl.out w3).mono ?_
              rintro e wb ⟨rfl, nz⟩
              have Nwb := hide (nxt Nw3.out nz)
              clear nz
              go_wp2_with fail
              refine (KK.out wb).mono ?_
              rintro e wz ⟨rfl, hz⟩
              have hz' := hz.symm
              subst hz'
              go_wp2
              go_ret
              exact ⟨rfl, Nwb.out⟩
            · have u2 : decide ((120 : Int) < (m.length : Int)) = false := decide_eq_false (by omega)
              obtain ⟨f1, f2, f3, f4, f5, f6, f7, f8⟩ := names_ok (b := m) fl fm (by omega)
              rw [fl] at SFl
              rw [fm] at SFm
              have a1 : ∀ W : World, (Op.stringOp .add (ByteArray.mk #[120, 46]) (ByteArray.mk ⟨l⟩)).run Try.prog W = .ok (.string ⟨⟨120 :: 46 :: l⟩⟩) W := fun W => tx_add W [120, 46] l (by simp; omega)
              have a2 : ∀ W : World, (Op.stringOp .add (ByteArray.mk #[121, 46, 120, 46]) (ByteArray.mk ⟨l⟩)).run Try.prog W = .ok (.string ⟨⟨121 :: 46 :: 120 :: 46 :: l⟩⟩) W := fun W => tx_add W [121, 46, 120, 46] l (by simp; omega)
              have a3 : ∀ W : World, (Op.stringOp .add (ByteArray.mk #[42, 46, 120, 46]) (ByteArray.mk ⟨l⟩)).run Try.prog W = .ok (.string ⟨⟨42 :: 46 :: 120 :: 46 :: l⟩⟩) W := fun W => tx_add W [42, 46, 120, 46] l (by simp; omega)
              have I1 := hide (fun W => implNameInside_any W l l (by omega) (by omega))
              have I2 := hide (fun W => implNameInside_any W (120 :: 46 :: l) l (by simp; omega) (by omega))
              have I3 := hide (fun W => implNameInside_any W l (120 :: 46 :: l) (by omega) (by simp; omega))
              have I4 := hide (fun W => implNameInside_any W (121 :: 46 :: 120 :: 46 :: l) (120 :: 46 :: l) (by simp; omega) (by simp; omega))
              have I5 := hide (fun W => implNameInside_any W l m (by omega) (by omega))
              have I6 := hide (fun W => implNameInside_any W m l (by omega) (by omega))
              have I7 := hide (fun W => implNameInside_any W (121 :: 46 :: 120 :: 46 :: l) m (by simp; omega) (by omega))
              have I8 := hide (fun W => specNameInside_any W l m (by omega) (by omega))
              have M1 := hide (fun W => implNameMatches_any W (42 :: 46 :: 120 :: 46 :: l) (121 :: 46 :: 120 :: 46 :: l) (by simp; omega) (by simp; omega))
              have M2 := hide (fun W => implNameMatches_any W (42 :: 46 :: 120 :: 46 :: l) (120 :: 46 :: l) (by simp; omega) (by simp; omega))
              rw [f1] at I1
              rw [f2] at I2
              rw [f3] at I3
              rw [f4] at I4
              rw [f7] at M1
              rw [f8] at M2
              clear f1 f2 f3 f4 f7 f8 fl fm k1 k2 z1 z1' KK IFl
              cases hz : niB l m with
              | true =>
                have f5' := f5 hz
                have f6' := f6 hz
                rw [f5'] at I6
                rw [f6'] at I7
                rw [hz] at I5 I8
                clear f5 f6 f5' f6' hz
                generalize hq : (l == m) = q at *
                have qq : (q != q) = false := by cases q <;> rfl
                go_wp2_with fail
                refine (SFl.out w1).mono ?_
                rintro e w2 ⟨rfl, nz⟩
                have Nw2 := hide (nxt Nw1.out nz)
                clear nz
                go_wp2_with fail
                refine (SFm.out w2).mono ?_
                rintro e w3 ⟨rfl, nz⟩
                have Nw3 := hide (nxt Nw2.out nz)
                clear nz
                go_wp2_with fail
                refine (I1.out w3).mono ?_
                rintro e wz ⟨rfl, hz⟩
                have hz' := hz.symm
                subst hz'
                go_wp2_with fail
                refine (I2.out w3).mono ?_
                rintro e wz ⟨rfl, hz⟩
                have hz' := hz.symm
                subst hz'
                go_wp2_with fail
                refine (I3.out w3).mono ?_
                rintro e wz ⟨rfl, hz⟩
                have hz' := hz.symm
                subst hz'
                go_wp2_with fail
                refine (I4.out w3).mono ?_
                rintro e wz ⟨rfl, hz⟩
                have hz' := hz.symm
                subst hz'
                go_wp2_with fail
                refine (I5.out w3).mono ?_
                rintro e wz ⟨rfl, hz⟩
                have hz' := hz.symm
                subst hz'
                go_wp2_with fail
                refine (I6.out w3).mono ?_
                rintro e wz ⟨rfl, hz⟩
                have hz' := hz.symm
                subst hz'
                go_wp2_with fail
                refine (I5.out w3).mono ?_
                rintro e wz ⟨rfl, hz⟩
                have hz' := hz.symm
                subst hz'
                go_wp2_with fail
                refine (I7.out w3).mono ?_
                rintro e wz ⟨rfl, hz⟩
                have hz' := hz.symm
                subst hz'
                go_wp2_with fail
                refine (I5.out w3).mono ?_
                rintro e wz ⟨rfl, hz⟩
                have hz' := hz.symm
                subst hz'
                go_wp2_with fail
                refine (I8.out w3).mono ?_
                rintro e w4 ⟨rfl, nz⟩
                have Nw4 := hide (nxt Nw3.out nz)
                clear nz
                go_wp2_with fail
                refine (M1.out w4).mono ?_
                rintro e w5 ⟨rfl, nz⟩
                have Nw5 := hide (nxt Nw4.out nz)
                clear nz
                go_wp2_with fail
                refine (M2.out w5).mono ?_
                rintro e w6 ⟨rfl, nz⟩
                have Nw6 := hide (nxt Nw5.out nz)
                clear nz
                go_wp2
                go_ret
                exact ⟨rfl, Nw6.out⟩
              | false =>
                rw [hz] at I5 I8
                clear f5 f6 hz I6 I7
                go_wp2_with fail
                refine (SFl.out w1).mono ?_
                rintro e w2 ⟨rfl, nz⟩
                have Nw2 := hide (nxt Nw1.out nz)
                clear nz
                go_wp2_with fail
                refine (SFm.out w2).mono ?_
                rintro e w3 ⟨rfl, nz⟩
                have Nw3 := hide (nxt Nw2.out nz)
                clear nz
                go_wp2_with fail
                refine (I1.out w3).mono ?_
                rintro e wz ⟨rfl, hz⟩
                have hz' := hz.symm
                subst hz'
                go_wp2_with fail
                refine (I2.out w3).mono ?_
                rintro e wz ⟨rfl, hz⟩
                have hz' := hz.symm
                subst hz'
                go_wp2_with fail
                refine (I3.out w3).mono ?_
                rintro e wz ⟨rfl, hz⟩
                have hz' := hz.symm
                subst hz'
                go_wp2_with fail
                refine (I4.out w3).mono ?_
                rintro e wz ⟨rfl, hz⟩
                have hz' := hz.symm
                subst hz'
                go_wp2_with fail
                refine (I5.out w3).mono ?_
                rintro e wz ⟨rfl, hz⟩
                have hz' := hz.symm
                subst hz'
                go_wp2_with fail
                refine (I5.out w3).mono ?_
                rintro e wz ⟨rfl, hz⟩
                have hz' := hz.symm
                subst hz'
                go_wp2_with fail
                refine (I5.out w3).mono ?_
                rintro e wz ⟨rfl, hz⟩
                have hz' := hz.symm
                subst hz'
                go_wp2_with fail
                refine (I8.out w3).mono ?_
                rintro e w4 ⟨rfl, nz⟩
                have Nw4 := hide (nxt Nw3.out nz)
                clear nz
                go_wp2_with fail
                refine (M1.out w4).mono ?_
                rintro e w5 ⟨rfl, nz⟩
                have Nw5 := hide (nxt Nw4.out nz)
                clear nz
                go_wp2_with fail
                refine (M2.out w5).mono ?_
                rintro e w6 ⟨rfl, nz⟩
                have Nw6 := hide (nxt Nw5.out nz)
                clear nz
                go_wp2
                go_ret
                exact ⟨rfl, Nw6.out⟩
        · have z2 : (nameF m == 0) = false := by simpa using fm
          have z2' : (nameF m != 0) = true := by simpa using fm
          rw [fl] at SFl IFl
          clear fl fm z1 z1'
          generalize nameF m = q at *
          go_wp2_with fail
          refine (SFl.out w1).mono ?_
          rintro e w2 ⟨rfl, nz⟩
          have Nw2 := hide (nxt Nw1.out nz)
          clear nz
          go_wp2_with fail
          refine (SFm.out w2).mono ?_
          rintro e w3 ⟨rfl, nz⟩
          have Nw3 := hide (nxt Nw2.out nz)
          clear nz
          go_wp2_with fail
          refine (IFl.out w3).mono ?_
          rintro e wz ⟨rfl, hz⟩
          have hz' := hz.symm
          subst hz'
          go_wp2_with fail
          refine (SFl.out w3).mono ?_
          rintro e wb ⟨rfl, nz⟩
          have Nwb := hide (nxt Nw3.out nz)
          clear nz
          go_wp2_with fail
          refine (KK.out wb).mono ?_
          rintro e wz ⟨rfl, hz⟩
          have hz' := hz.symm
          subst hz'
          go_wp2
          go_ret
          exact ⟨rfl, Nwb.out⟩
      · have z1 : (nameF l == 0) = false := by simpa using fl
        have z1' : (nameF l != 0) = true := by simpa using fl
        clear fl
        generalize nameF l = q at *
        go_wp2_with fail
        refine (SFl.out w1).mono ?_
        rintro e w2 ⟨rfl, nz⟩
        have Nw2 := hide (nxt Nw1.out nz)
        clear nz
        go_wp2_with fail
        refine (IFl.out w2).mono ?_
        rintro e wz ⟨rfl, hz⟩
        have hz' := hz.symm
        subst hz'
        go_wp2_with fail
        refine (SFl.out w2).mono ?_
        rintro e wb ⟨rfl, nz⟩
        have Nwb := hide (nxt Nw2.out nz)
        clear nz
        have qq : (q == q) = true := by simp
        go_wp2_with fail
        refine (KK.out wb).mono ?_
        rintro e wz ⟨rfl, hz⟩
        have hz' := hz.symm
        subst hz'
        go_wp2
        go_ret
        exact ⟨rfl, Nwb.out⟩
end Go.Proofs.Ytheggghidhjplaa
