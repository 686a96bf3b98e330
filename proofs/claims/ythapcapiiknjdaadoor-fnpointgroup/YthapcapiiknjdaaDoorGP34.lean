import Derived.Test.YthapcapiiknjdaaDoorGP33

/-
  The law of PointValid.
-/
namespace Go.Proofs.YthapcapiiknjdaaDoor
set_option maxRecDepth 100000
open Go Go.RowKit

/-- The tables that the reading of a point needs. -/
def HasB (w : World) : Prop := HasTw w 3 ∧ Em5 w 2 0 dGo
set_option maxHeartbeats 4000000 in
theorem pvalid_law (w : World) (g : Nat) (a : Option Addr) (c : Nat) (X : List Int) (hX : Rd w g a .u8 X) (bX : Byt X) (lX : X.length < 9223372036854775808) (g' : Nat) (a' : Option Addr) (c' : Nat) (Y : List Int) (hY : Rd w g' a' .u8 Y) (bY : Byt Y) (lY : Y.length < 9223372036854775808) (hL : HasB w) :
    Calls Tryd.prog 4 #[.agg #[.slice a X.length c, .slice a' Y.length c']] w fun e w' => e = .returned (.bool true) ∧ Below w.heap.size w w' := by
  have SP := fun W g1 g2 a1 a2 c1 c2 h1 h2 => pointValid_any W g1 g2 a1 a2 c1 c2 X Y h1 h2 bX bY
  have IM := fun W g1 g2 a1 a2 c1 c2 h1 h2 (n : Below w.heap.size w W) => implValid_any W g1 g2 a1 a2 c1 c2 X Y h1 h2 bX bY dGo (hL.1.up n) (hL.2.up n)
  simp only [rp_valid] at IM
  obtain ⟨tt, htt⟩ : ∃ b, b = validP X Y := ⟨_, rfl⟩
  simp only [← htt] at SP IM
  clear htt hL
  have SZ := fun W => szPoint_any W a a' X.length c Y.length c' 1048576 lX lY (by omega) (by omega)
  by_cases q : X.length + Y.length ≤ 1048576
  · rw [if_neg (show ¬ (1048576 : Int) < (X.length : Int) + (Y.length : Int) by omega)] at SZ
    have tz : decide ((1048576 : Int) - (X.length : Int) - (Y.length : Int) < 0) = false := by simp; omega
    go_enter Tryd.func4, Tryd.ntmps4
    go_upto_region 1 with fail
    have B := Two.new w (.slice a X.length c) (.slice a' Y.length c') 29
    have N : Below w.heap.size w (w.alloc (.cells #[.slice a X.length c, .slice a' Y.length c'] 29)) := (Below.refl _ _).alloc (Nat.le_refl _) _
    generalize w.alloc (.cells #[.slice a X.length c, .slice a' Y.length c'] 29) = v0 at *
    have B0 := B.c0
    have B1 := B.c1
    go_wp2_with fail
    refine (SZ v0).mono ?_
    rintro e w1 ⟨rfl, n1⟩
    clear B0 B1 SZ
    replace B := B.up n1
    replace N := nxt N n1
    clear n1
    have B0 := B.c0
    have B1 := B.c1
    go_wp2_with fail
    refine (toPoint_any w1 g g' a a' c c' X Y (hX.up N) (hY.up N) (by omega) (by omega)).mono ?_
    rintro e w2 ⟨p, q', rfl, x1, y1, _, _, n2⟩
    clear B0 B1
    replace B := B.up n2
    replace N := nxt N n2
    clear n2
    go_wp2_with fail
    refine (SP w2 _ _ _ _ _ _ x1.own0.rd y1.own0.rd).mono ?_
    rintro e w3 ⟨rfl, n3⟩
    clear x1 y1 SP
    replace B := B.up n3
    replace N := nxt N n3
    clear n3
    have B0 := B.c0
    have B1 := B.c1
    go_wp2_with fail
    refine (toPoint_any w3 g g' a a' c c' X Y (hX.up N) (hY.up N) (by omega) (by omega)).mono ?_
    rintro e w4 ⟨xp, xq, rfl, xx, xy, _, _, n4⟩
    clear B0 B1
    replace B := B.up n4
    replace N := nxt N n4
    clear n4
    have T5 := Two.new w4 (.slice (some ⟨xp, 0, none⟩) X.length X.length) (.slice (some ⟨xq, 0, none⟩) Y.length Y.length) 24
    have n5 : Below w4.heap.size w4 (w4.alloc (.cells #[.slice (some ⟨xp, 0, none⟩) X.length X.length, .slice (some ⟨xq, 0, none⟩) Y.length Y.length] 24)) := (Below.refl _ _).alloc (Nat.le_refl _) _
    replace B := B.up n5
    replace N := nxt N n5
    replace xx := xx.up n5
    replace xy := xy.up n5
    clear n5
    go_wp2_with fail
    generalize w4.alloc (.cells #[.slice (some ⟨xp, 0, none⟩) X.length X.length, .slice (some ⟨xq, 0, none⟩) Y.length Y.length] 24) = w5 at *
    refine (IM w5 _ _ _ _ _ _ xx.own0.rd xy.own0.rd N).mono ?_
    rintro e w6 ⟨rfl, n6⟩
    replace B := B.up n6
    replace N := nxt N n6
    replace xx := xx.up n6
    replace xy := xy.up n6
    replace T5 := T5.up n6
    clear n6 IM
    have tq : (tt == tt) = true := by simp
    cases tt
    all_goals
      go_upto_region 10 with fail
      refine region_end 5 (fun i => [Fact.eq (.agg #[.slice (some ⟨xp, 0, none⟩) X.length X.length, .slice (some ⟨xq, 0, none⟩) Y.length Y.length]), Fact.eq (.agg #[.slice a X.length c, .slice a' Y.length c']), PR X Y, Fact.eq (.bool true), Fact.eq (.bool (!true))].getD i Fact.no) (by kernel_rfl) (by kernel_rfl) rfl ?_ ?_
      · intro i hi
        obtain rfl | rfl | rfl | rfl | rfl : i = 0 ∨ i = 1 ∨ i = 2 ∨ i = 3 ∨ i = 4 := by omega
        · exact step_l2 _ uP iP rfl 5 rfl (by kernel_rfl) _ rfl _ _ T5 rfl
        · exact step_l2 _ uLP iLP rfl 1 rfl (by kernel_rfl) _ rfl _ _ B rfl
        · exact step_toP rfl 23 1 rfl (by kernel_rfl) (hX.up N) (hY.up N) (by omega) (by omega) rfl rfl
        · exact step_eqP rfl 22 24 0 2 rfl (by kernel_rfl) (by kernel_rfl) (g := xp) (g' := xq) ⟨xx.own0, xy.own0⟩ (by omega) (by omega) rfl rfl rfl
        · exact step_notb rfl 25 3 rfl (by kernel_rfl) rfl rfl
      intro A W hb hw hF
      have e2 := hF 4 26 (by kernel_rfl)
      obtain ⟨vs, hvs⟩ : ∃ vs : Nat → Value, ∀ d, A.tmps.getD d undef = vs d := ⟨_, fun _ => rfl⟩
      rw [hvs] at e2
      rw [puts_of (md := .any) (k := 5) (by kernel_rfl) rfl hb vs hvs]
      clear hb hF hvs
      have e3 : vs 26 = .bool false := e2
      clear e2
      simp only [puts, e3, Act.put, List.setIfInBounds_toArray, List.set_cons_succ, List.set_cons_zero]
      clear e3
      replace N := nxt N hw
      clear hw B xx xy T5
      go_wp2
      go_ret
      exact ⟨rfl, N⟩
  · rw [if_pos (show (1048576 : Int) < (X.length : Int) + (Y.length : Int) by omega)] at SZ
    go_enter Tryd.func4, Tryd.ntmps4
    go_upto_region 1 with fail
    have B := Two.new w (.slice a X.length c) (.slice a' Y.length c') 29
    have N : Below w.heap.size w (w.alloc (.cells #[.slice a X.length c, .slice a' Y.length c'] 29)) := (Below.refl _ _).alloc (Nat.le_refl _) _
    generalize w.alloc (.cells #[.slice a X.length c, .slice a' Y.length c'] 29) = v0 at *
    have B0 := B.c0
    have B1 := B.c1
    go_wp2_with fail
    refine (SZ v0).mono ?_
    rintro e w1 ⟨rfl, n1⟩
    clear B0 B1 SZ
    replace B := B.up n1
    replace N := nxt N n1
    clear n1
    go_wp2
    go_ret
    exact ⟨rfl, N⟩
theorem laid_pvalid {W : World} (h : laidMetH Tryd.prog Rows.fnExactPointValidRow.laid W) : HasB W := ⟨tw_of_reads (reads_of h (by kernel_rfl) (.head _)), cf_of_reads (reads_of h (by kernel_rfl) (.tail _ (.head _)))⟩
end Go.Proofs.YthapcapiiknjdaaDoor
