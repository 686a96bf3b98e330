import Derived.Test.YtliahigljoeeoaaGreatDoorGP41
import Derived.Test.YtliahigljoeeoaaGreatDoorGP45
import Derived.Test.YtliahigljoeeoaaGreatDoorDr
import Derived.Test.YtliahigljoeeoaaGreatDoorBase
import Derived.Laws.AppendOwnNone
import Derived.Lib.AppendZeros
import Derived.Deep.MidRow
import Derived.Test.YtliahigljoeeoaaGreatDoorGP42
import Derived.Test.YtliahigljoeeoaaGreatDoorSpecA
import Derived.Test.YtliahigljoeeoaaGreatDoorSpF
import Derived.Test.YtliahigljoeeoaaGreatDoorGP37
import Derived.Test.YtliahigljoeeoaaGreatDoorS2
import Derived.Test.YtliahigljoeeoaaGreatDoorLCan
import Derived.Test.YtliahigljoeeoaaGreatDoorAdd
import Derived.Test.YtliahigljoeeoaaGreatDoorGP44
import Derived.Test.YtliahigljoeeoaaGreatDoorRows
import Derived.Test.YtliahigljoeeoaaGreatDoorNum
import Derived.WalkSpells
import Derived.Deep.QuietTactic
import Derived.BigQuiet
import Derived.BigRegion
import Derived.Laws.BitsAllLaws

/-
  The law by facts for a region that draws its order, with guarded operations that all are wanted. No program in sight.
-/
namespace Go.Proofs.YtliahigljoeeoaaGreatDoor
set_option maxRecDepth 100000
open Go Go.RowKit

section
variable {P : Program} {ops : Array Oper} {Q : Exit → Act → World → Prop} {md : Region.Mode} {F : Nat → Fact} {a0 : Act} {w0 : World}

end
end Go.Proofs.YtliahigljoeeoaaGreatDoor

/-
  Steps on points of the curve, for the laws that draw them.
-/
namespace Go.Proofs.YtliahigljoeeoaaGreatDoor
set_option maxRecDepth 100000
open Go Go.RowKit

/-- A point that may be read. -/
def RP (p : Int × Int) : Fact := ⟨fun v w => ∃ (a a' : Option Addr) (c c' g g' : Nat), v = .agg #[.slice a (lx p).length c, .slice a' (ly p).length c'] ∧ Rd w g a .u8 (lx p) ∧ Rd w g' a' .u8 (ly p), fun n h => by
  obtain ⟨a, a', c, c', g, g', e, o, o'⟩ := h
  exact ⟨a, a', c, c', g, g', e, o.up n, o'.up n⟩⟩
theorem rp_of_new2 {B : Nat} {w : World} {r : Ending} {p : Int × Int} {xs ys : List Int} (hx : xs = lx p) (hy : ys = ly p) (h : NewP2 B w r xs ys) : ∃ v, r = .returned v ∧ (RP p).p v w := by
  subst hx hy
  obtain ⟨a, c, g, a', c', g', rfl, o, o', _⟩ := h
  exact ⟨_, rfl, a, a', c, c', g, g', rfl, o.rd, o'.rd⟩
section
variable {ops : Array Oper} {Q : Exit → Act → World → Prop} {md : Region.Mode} {F : Nat → Fact} {a0 : Act} {w0 : World} {i : Nat} {o : Oper} {ts : Array TypeId}
theorem step_gadd (hA : HasA w0) (hi : ops[i]? = some o) (p q j k : Nat) {x y : Int × Int} (hx : Pv x) (hy : Pv y) (hop : o.op = .call { callee := .value (.func 27), args := #[.tmp p, .tmp q], argTypes := ts })
    (hj : waits md ops i j p = true) (hk : waits md ops i k q = true) (hFj : F j = RP x) (hFk : F k = RP y) (hFi : F i = RP (pAdd x y)) : StepOk Tryz.prog md ops Q F a0 w0 i := by
  refine step_call hi _ _ ts hop (by kernel_rfl) fun a w _ hw hF => ?_
  have ea := hF j p hj
  have eb := hF k q hk
  rw [hFj] at ea
  rw [hFk] at eb
  obtain ⟨a1, a1', c1, c1', g1, g1', e1, r1, r1'⟩ := ea
  obtain ⟨a2, a2', c2, c2', g2, g2', e2, r2, r2'⟩ := eb
  show Calls Tryz.prog 27 #[a.tmps.getD p undef, a.tmps.getD q undef] w _
  rw [e1, e2]
  refine (implAdd_any w g1 g1' a1 a1' c1 c1' (lx x) (ly x) r1 r1' (lx_byt x) (ly_byt x) g2 g2' a2 a2' c2 c2' (lx y) (ly y) r2 r2' (lx_byt y) (ly_byt y) dGo (hA.1.up hw) (hA.2.1.up hw) (hA.2.2.1.up hw) (hA.2.2.2.up hw)).mono ?_
  rintro r w' ⟨h, hn⟩
  rw [hFi]
  obtain ⟨v, e, hv⟩ := rp_of_new2 ((adX_eq _ _ _ _).trans (pa_of hx hy).1) ((adY_eq _ _ _ _).trans (pa_of hx hy).2) h
  exact ⟨v, e, hn, hv⟩
theorem step_gzero (hZ : RowN w0 2 0 [0, 1]) (hi : ops[i]? = some o) (hop : o.op = .call { callee := .value (.func 30), args := #[], argTypes := ts }) (hFi : F i = RP pZero) : StepOk Tryz.prog md ops Q F a0 w0 i := by
  refine step_call hi _ _ ts hop (by kernel_rfl) fun a w _ hw _ => ?_
  refine (implZero_any w (hZ.up hw)).mono ?_
  rintro r w' ⟨h, hn⟩
  rw [hFi]
  obtain ⟨v, e, hv⟩ := rp_of_new2 ze_of.1 ze_of.2 h
  exact ⟨v, e, hn, hv⟩
theorem step_gsame (hi : ops[i]? = some o) (p q j k : Nat) {x : Int × Int} (hop : o.op = .call { callee := .value (.func 26), args := #[.tmp p, .tmp q], argTypes := ts })
    (hj : waits md ops i j p = true) (hk : waits md ops i k q = true) (hFj : F j = RP x) (hFk : F k = RP x) (hFi : F i = Fact.eq (.bool true)) : StepOk Tryz.prog md ops Q F a0 w0 i := by
  refine step_call hi _ _ ts hop (by kernel_rfl) fun a w _ hw hF => ?_
  have ea := hF j p hj
  have eb := hF k q hk
  rw [hFj] at ea
  rw [hFk] at eb
  obtain ⟨a1, a1', c1, c1', g1, g1', e1, r1, r1'⟩ := ea
  obtain ⟨a2, a2', c2, c2', g2, g2', e2, r2, r2'⟩ := eb
  show Calls Tryz.prog 26 #[a.tmps.getD p undef, a.tmps.getD q undef] w _
  rw [e1, e2]
  refine (lwSamePoint_same w g1 g2 g1' g2' a1 a2 a1' a2' c1 c2 c1' c2' (lx x) (ly x) r1 r1' r2 r2').mono ?_
  rintro r w' ⟨rfl, hn⟩
  rw [hFi]
  exact ⟨_, rfl, hn, rfl⟩
theorem step_gload (hi : ops[i]? = some o) (p : Nat) (hop : o.op = .load 37 (.tmp p)) (hp : apart ops p = true) (B : Nat) (h0 : a0.tmps.getD p undef = .pointer (some ⟨B, 0, none⟩)) {x : Int × Int} {a a' : Option Addr} {c c' g g' : Nat} (T : Two w0 B (.slice a (lx x).length c) (.slice a' (ly x).length c')) (r : Rd w0 g a .u8 (lx x)) (r' : Rd w0 g' a' .u8 (ly x)) (hF : F i = RP x) : StepOk Tryz.prog md ops Q F a0 w0 i := by
  obtain ⟨fs, hu⟩ := uP
  refine step_load hi _ _ hop _ 2 hu rfl iP fun A w hb hw _ => ?_
  refine ⟨B, 0, [.slice a (lx x).length c, .slice a' (ly x).length c'], (based_at hb p hp).trans h0, fun j v hv => ?_, rfl, by rw [hF]; exact ⟨a, a', c, c', g, g', rfl, r.up hw, r'.up hw⟩⟩
  have T' := T.up hw
  match j, hv with
  | 0, hv => cases hv; exact T'.c0
  | 1, hv => cases hv; exact T'.c1
end
end Go.Proofs.YtliahigljoeeoaaGreatDoor

/-
  A law's copy of a list, still its own to be appended to; a list of the input that is nil holds nothing.
-/
namespace Go.Proofs.YtliahigljoeeoaaGreatDoor
set_option maxRecDepth 100000
open Go.RowKit

set_option maxHeartbeats 400000 in
theorem lwCopyO_any (w : World) (g : Nat) (a : Option Addr) (cap : Nat) (xs : List Int) (hr : Rd w g a .u8 xs) (hc : a = none → cap = 0) (hn : xs.length ≤ 1048576) :
    Calls Tryz.prog 11 #[.slice a xs.length cap] w fun e w' => ∃ v, e = .returned v ∧ w'.ownsRow w.heap.size 5 1 v xs.length (xs.map (Value.int .u8)) ∧ Below w.heap.size w w' := by
  obtain ⟨i0, hi, hz0, hz1, hz2⟩ := info_parts Tryz.info5
  have hown : (w.alloc (.cells #[] 5)).ownsRow w.heap.size 5 1 (.slice (some ⟨w.heap.size, 0, none⟩) 0 0) 0 [] := World.ownsRow_lit w #[] 0 (Nat.le_refl _) (by unfold maxLen; omega) (by simp)
  have hal : Below w.heap.size w (w.alloc (.cells #[] 5)) := (Below.refl _ _).alloc (Nat.le_refl _) _
  cases a with
  | none =>
    obtain rfl : xs = [] := by
      by_cases h0 : 0 < xs.length
      · obtain ⟨off, h, _⟩ := hr h0
        simp at h
      · exact List.eq_nil_of_length_eq_zero (by omega)
    obtain rfl := hc rfl
    go_enter Tryz.func11, Tryz.ntmps11
    go_wp2_with (at_builtin; refine wpList_append_own_none rfl _ _ 22 rfl w.heap.size 5 i0 1 Tryz.underlying22 hi _ 0 [] rfl hown rfl ?_)
    go_ret
    exact ⟨_, rfl, hown, hal⟩
  | some ad =>
    have hcell : ∀ j u, (xs.map (Value.int .u8))[j]? = some u → (w.alloc (.cells #[] 5)).cell? (ad.add j) = some u := by
      intro j u hj
      have hjl : j < xs.length := by
        have := (List.getElem?_eq_some_iff.1 hj).1
        simpa using this
      obtain ⟨off, ha, hcc⟩ := (hr.up hal) (by omega)
      simp only [Option.some.injEq] at ha
      subst ha
      rw [Addr.add_mid, hcc j hjl]
      simpa [hjl] using hj
    have hone : ∀ u ∈ xs.map (Value.int .u8), u.oneCell' = true := by
      intro u hu
      obtain ⟨x, _, rfl⟩ := List.mem_map.1 hu
      rfl
    go_enter Tryz.func11, Tryz.ntmps11
    go_wp2_with (at_builtin; refine wpList_append_own _ rfl _ _ 22 rfl w.heap.size 5 i0 (.int .u8 0) 1 1 Tryz.underlying22 hi hz0 hz1 hz2 rfl (by decide) (.slice (some ⟨w.heap.size, 0, none⟩) 0 0) 0 [] rfl hown ad xs.length cap (xs.map (Value.int .u8)) rfl (by simp) hcell hone (by unfold maxLen; omega) (by omega) (by simp) ?_; intro v' w1 hown' hgrow _)
    simp only [Nat.zero_add, List.nil_append] at hown'
    have hB : Below w.heap.size w w1 := hal.grown hgrow (by simp) (by intro k hk; simp [Value.ownBlock] at hk; omega)
    clear hgrow hown
    go_wp2
    go_ret
    exact ⟨_, rfl, hown', hB⟩
end Go.Proofs.YtliahigljoeeoaaGreatDoor

/-
  A row of bytes appended to an owned row of bytes, nil ones too, as one equation. No program in sight.
-/
namespace Go.Proofs.YtliahigljoeeoaaGreatDoor
set_option maxRecDepth 100000
open Go.RowKit

/-- A row of bytes that the walk owns. -/
def RowB (w : World) (base : Nat) (v : Value) (xs : List Int) : Prop := w.ownsRow base 5 1 v xs.length (xs.map (Value.int .u8))
theorem RowB.up {w w' : World} {base : Nat} {v : Value} {xs : List Int} (h : RowB w base v xs) (hb : Below w.heap.size w w') : RowB w' base v xs := by
  refine ⟨h.1, ?_⟩
  rcases h.2 with h' | ⟨g, cap, cur, rfl, hbg, hg, hnc, hcm, hcs, ht⟩
  · exact .inl h'
  · exact .inr ⟨g, cap, cur, rfl, hbg, by rw [hb.block g ((Array.getElem?_eq_some_iff.1 hg).1)]; exact hg, hnc, hcm, hcs, ht⟩
theorem RowB.only {w w' : World} {base q : Nat} {v : Value} {xs : List Int} (h : RowB w base v xs) (hb : Only q w w') (hq : q < base) : RowB w' base v xs := by
  refine ⟨h.1, ?_⟩
  rcases h.2 with h' | ⟨g, cap, cur, rfl, hbg, hg, hnc, hcm, hcs, ht⟩
  · exact .inl h'
  · exact .inr ⟨g, cap, cur, rfl, hbg, by rw [hb.block g (by omega)]; exact hg, hnc, hcm, hcs, ht⟩
theorem RowB.base {w : World} {base base' : Nat} {v : Value} {xs : List Int} (h : RowB w base v xs) (hb : base' ≤ base) : RowB w base' v xs := by
  refine ⟨h.1, ?_⟩
  rcases h.2 with h' | ⟨g, cap, cur, rfl, hbg, hg, hnc, hcm, hcs, ht⟩
  · exact .inl h'
  · exact .inr ⟨g, cap, cur, rfl, by omega, hg, hnc, hcm, hcs, ht⟩
theorem RowB.own {w : World} {base : Nat} {v : Value} {xs : List Int} (h : RowB w base v xs) :
    ∃ (a : Option Addr) (c g : Nat), v = .slice a xs.length c ∧ Own w g a .u8 xs ∧ (a = none → c = 0) ∧ xs.length ≤ c ∧ base ≤ g := Own.of_ownsRow h
theorem RowB.rd {w : World} {base : Nat} {v : Value} {xs : List Int} (h : RowB w base v xs) : ∃ (a : Option Addr) (c g : Nat), v = .slice a xs.length c ∧ Rd w g a .u8 xs ∧ (a = none → c = 0) ∧ xs.length ≤ c ∧ base ≤ g := by
  obtain ⟨a, c, g, h1, h2, h3⟩ := h.own
  exact ⟨a, c, g, h1, h2.rd, h3⟩
end Go.Proofs.YtliahigljoeeoaaGreatDoor

/-
  The law FnPointGroup (written by gens/lgrp.py).
-/
namespace Go.Proofs.YtliahigljoeeoaaGreatDoor
set_option maxRecDepth 100000
open Go Go.RowKit


def HasG (w : World) : Prop := HasA w ∧ RowN w 2 0 [0, 1]
theorem HasG.up {w w' : World} (h : HasG w) (n : Below w.heap.size w w') : HasG w' := ⟨⟨h.1.1.up n, h.1.2.1.up n, h.1.2.2.1.up n, h.1.2.2.2.up n⟩, h.2.up n⟩
end Go.Proofs.YtliahigljoeeoaaGreatDoor

/-
  The law of NumTurn.
-/
namespace Go.Proofs.YtliahigljoeeoaaGreatDoor
set_option maxRecDepth 100000
open Go.RowKit


/-- What both answer. -/
def TurnOf (xs : List Int) (n : Int) (zs : List Int) : Prop :=
  ((xs.length ≤ 128 ∧ 1 ≤ n ∧ n ≤ 128) ∧ ∃ c, Canon c (bval xs) ∧ (((c.length : Int) ≤ n ∧ zs = fill (dig xs) n.toNat) ∨ (n < (c.length : Int) ∧ zs = []))) ∨ (¬ (xs.length ≤ 128 ∧ 1 ≤ n ∧ n ≤ 128) ∧ zs = [])
theorem TurnOf.uniq {xs : List Int} {n : Int} {a b : List Int} (ha : TurnOf xs n a) (hb : TurnOf xs n b) : a = b := by
  rcases ha with ⟨h1, c, hc, h2⟩ | ⟨h1, rfl⟩
  · rcases hb with ⟨h3, d, hd, h4⟩ | ⟨h3, rfl⟩
    · obtain rfl := hc.uniq hd
      rcases h2 with ⟨h5, rfl⟩ | ⟨h5, rfl⟩
      · rcases h4 with ⟨h6, rfl⟩ | ⟨h6, rfl⟩
        · rfl
        · omega
      · rcases h4 with ⟨h6, rfl⟩ | ⟨h6, rfl⟩
        · omega
        · rfl
    · exact absurd h1 h3
  · rcases hb with ⟨h3, d, hd, h4⟩ | ⟨h3, rfl⟩
    · exact absurd h3 h1
    · rfl
theorem TurnOf.len {xs : List Int} {n : Int} {a : List Int} (ha : TurnOf xs n a) : a.length ≤ 128 := by
  rcases ha with ⟨h1, c, hc, ⟨_, rfl⟩ | ⟨_, rfl⟩⟩ | ⟨_, rfl⟩
  · rw [fill_len]; omega
  · simp
  · simp

theorem newRow_nil1 (w : World) (k : IntKind) : NewRow w.heap.size w (.returned (.slice none 0 0)) k [] :=
  ⟨_, 0, w.heap.size, rfl, Own.nil _ _ _ _, by simp, Nat.zero_le _, Nat.le_refl _⟩

theorem newRow_nil1' {B : Nat} {w : World} {k : IntKind} (h : B ≤ w.heap.size) : NewRow B w (.returned (.slice none 0 0)) k [] :=
  ⟨_, 0, w.heap.size, rfl, Own.nil _ _ _ _, by simp, Nat.zero_le _, h⟩

set_option maxHeartbeats 2000000 in
theorem implNumTurn_any (w : World) (g : Nat) (a : Option Addr) (cap : Nat) (xs : List Int) (n : Int) (hr : Rd w g a .u8 xs) (hb : Byt xs) (hcap : xs.length ≤ cap) (hn : xs.length ≤ 1048576) :
    Calls Tryz.prog 18 #[.slice a xs.length cap, .int .i64 n] w fun e w' => ∃ ys, TurnOf xs n ys ∧ NewRow w.heap.size w' e .u8 ys ∧ Below w.heap.size w w' := by
  obtain ⟨i0, hi, hz0, hz1, hz2⟩ := info_parts Tryz.info5
  by_cases h1 : xs.length ≤ 128
  · have t1 : decide ((xs.length : Int) ≤ 128) = true := by simp; omega
    by_cases h2 : 1 ≤ n
    · have t2 : decide (n < 1) = false := by simp; omega
      by_cases h3 : n ≤ 128
      · have t3 : decide (128 < n) = false := by simp; omega
        go_enter Tryz.func18, Tryz.ntmps18
        go_wp2_with (go_at_call 43; go_in)
        refine (withoutZeros_any w g a cap xs hr hb hcap hn).mono ?_
        rintro e w1 ⟨ys, C, hl, rfl, B1, n1⟩
        have hl1 := B1.lt
        by_cases h4 : (ys.length : Int) ≤ n
        · have t4 : decide (n < (ys.length : Int)) = false := by simp; omega
          obtain ⟨m, hm⟩ := Int.eq_ofNat_of_zero_le (show 0 ≤ n by omega)
          subst hm
          go_wp2_with (at_make; refine wpList_make_full _ rfl _ _ 22 rfl w1.heap.size 5 i0 (.int .u8 0) 1 Tryz.underlying22 hi hz0 hz1 .i64 .i64 _ _ m rfl rfl rfl rfl (by rw [hz2]; omega) (by unfold maxLen; omega) (Nat.le_refl _) ?_; intro w2 hown hgrow)
          have hB0 := Blk.of_made hown
          have hN0 : Below w1.heap.size w1 w2 := (Below.refl _ _).grown hgrow (Nat.le_refl _) (by simp)
          clear hown hgrow
          go_loopw [29] (fun i wr => ∃ (k : Nat) (zs : List Int), k ≤ ys.length ∧ i = .int .i64 k ∧ (FillTo (dig ys) zs m k ∧ ∀ j, k ≤ j → zs.getD j 0 = 0) ∧ Blk wr w1.heap.size .u8 zs ∧ Below w1.heap.size w1 wr) (fun i _ => ys.length - (intOf i).toNat)
          case atStart => exact ⟨0, _, Nat.zero_le _, rfl, ⟨⟨by simp, fun j h => absurd h (by omega)⟩, fun j _ => by by_cases hj : j < m <;> simp [hj]⟩, hB0, hN0⟩
          case round =>
            obtain ⟨k, zs, hk, rfl, hcp, hB, hN⟩ := hrel
            by_cases hlt : k < ys.length
            · have R : FillTo (dig ys) (zs.set k (dig ys k)) m (k + 1) ∧ ∀ j, k + 1 ≤ j → (zs.set k (dig ys k)).getD j 0 = 0 :=
                ⟨hcp.1.step (by omega), fun j hj => by rw [getD_set_ne _ _ _ _ (by omega)]; exact hcp.2 j (by omega)⟩
              have hcy : wr.cell? ⟨w1.heap.size, k, none⟩ = some (.int .u8 (zs.getD k 0)) := hB.cell (by rw [hcp.1.1]; omega)
              have hfy := hB.free k
              have hcx : wr.cell? ⟨w.heap.size, ys.length - 1 - k, none⟩ = some (.int .u8 (dig ys k)) := by
                rw [hN.cell (p := ⟨w.heap.size, ys.length - 1 - k, none⟩) hl1, B1.cell (by omega)]
                unfold dig
                rw [if_pos hlt]
              have hB' := hB.store k (dig ys k)
              have hN' : Below w1.heap.size w1 (wr.setCell ⟨w1.heap.size, k, none⟩ (.int .u8 (dig ys k))) := hN.setCell (Nat.le_refl _) _
              obtain ⟨p, hp⟩ : ∃ p : Nat, ys.length - 1 - k = p := ⟨_, rfl⟩
              rw [hp] at hcx
              have p1 : (ys.length : Int) - 1 - (k : Int) = (p : Int) := by omega
              have p2 : (p : Int) < (ys.length : Int) := by omega
              have q2 : (k : Int) < (m : Int) := by omega
              have R' := hide R
              generalize dig ys k = x at *
              clear hB hN hcp hp R
              go_wp2
              go_roundw
              case rel => exact ⟨k + 1, _, by omega, by go_num, R'.out, hB', hN'⟩
              case measure => simp [intOf]; omega
            · obtain rfl : k = ys.length := by omega
              have e1 : zs = fill (dig xs) m := by
                refine eq_of_getD (by rw [hcp.1.1, fill_len]) (fun j hj => ?_)
                rw [hcp.1.1] at hj
                rw [fill_get _ _ _ hj, dig_same hb C.1 C.2.1.symm j]
                by_cases hjl : j < ys.length
                · exact hcp.1.2 j hjl
                · rw [hcp.2 j (by omega)]
                  unfold dig
                  rw [if_neg hjl]
              have e2 := hide e1
              clear e1 hcp
              go_wp2
              go_ret
              rw [e2.out] at hB
              exact ⟨_, .inl ⟨⟨h1, h2, h3⟩, ys, C, .inl ⟨h4, rfl⟩⟩, ⟨_, _, _, ret_slice (by rw [fill_len, Int.toNat_natCast]), hB.own0, by simp, by rw [fill_len, Int.toNat_natCast]; exact Nat.le_refl _, n1.size⟩, nxt n1 hN⟩
        · have t4 : decide (n < (ys.length : Int)) = true := by simp; omega
          go_wp2
          go_ret
          exact ⟨[], .inl ⟨⟨h1, h2, h3⟩, ys, C, .inr ⟨by omega, rfl⟩⟩, newRow_nil1' n1.size, n1⟩
      · have t3 : decide (128 < n) = true := by simp; omega
        go_enter Tryz.func18, Tryz.ntmps18
        go_wp2
        go_ret
        exact ⟨[], .inr ⟨by omega, rfl⟩, newRow_nil1 w _, Below.refl _ _⟩
    · have t2 : decide (n < 1) = true := by simp; omega
      go_enter Tryz.func18, Tryz.ntmps18
      go_wp2
      go_ret
      exact ⟨[], .inr ⟨by omega, rfl⟩, newRow_nil1 w _, Below.refl _ _⟩
  · have t1 : decide ((xs.length : Int) ≤ 128) = false := by simp; omega
    go_enter Tryz.func18, Tryz.ntmps18
    go_wp2
    go_ret
    exact ⟨[], .inr ⟨by omega, rfl⟩, newRow_nil1 w _, Below.refl _ _⟩

end Go.Proofs.YtliahigljoeeoaaGreatDoor

/-
  The law's own turning of bytes.
-/
namespace Go.Proofs.YtliahigljoeeoaaGreatDoor
set_option maxRecDepth 100000
open Go.RowKit

set_option maxHeartbeats 2000000 in
theorem lwTurn_any (w : World) (g : Nat) (a : Option Addr) (c : Nat) (xs : List Int) (hr : Rd w g a .u8 xs) (hb : Byt xs) (hl : xs.length ≤ 1048576) :
    Calls Tryz.prog 16 #[.slice a xs.length c] w fun e w' => ∃ ys, TurnTo xs ys xs.length ∧ Byt ys ∧ NewRow w.heap.size w' e .u8 ys ∧ Below w.heap.size w w' := by
  obtain ⟨i0, hi, hz0, hz1, hz2⟩ := info_parts Tryz.info5
  have hown0 : (w.alloc (.cells #[] 5)).ownsRow w.heap.size 5 1 (.slice (some ⟨w.heap.size, 0, none⟩) 0 0) 0 [] := World.ownsRow_lit w #[] 0 (Nat.le_refl _) (by unfold maxLen; omega) (by simp)
  have hal : Below w.heap.size w (w.alloc (.cells #[] 5)) := (Below.refl _ _).alloc (Nat.le_refl _) _
  go_enter Tryz.func16, Tryz.ntmps16
  go_wp2
  go_loopw [3, 4] (fun v i wr => ∃ (k : Nat) (t : Int) (ys : List Int), i = .int .i64 t ∧ t + (k : Int) + 1 = (xs.length : Int) ∧ -1 ≤ t ∧ TurnTo xs ys k ∧ Byt ys ∧ wr.ownsRow w.heap.size 5 1 v k (ys.map (Value.int .u8)) ∧ Below w.heap.size w wr) (fun _ i _ => (intOf i + 1).toNat)
  case atStart => exact ⟨0, (xs.length : Int) - 1, [], rfl, by omega, by omega, ⟨rfl, fun i h => absurd h (by omega)⟩, byt_nil, hown0, hal⟩
  case round =>
    obtain ⟨k, t, ys, rfl, ht, ht0, hT, hyb, hown, hN⟩ := hrel
    have hob := hown.lt
    by_cases hlt : 0 ≤ t
    · obtain ⟨j, rfl⟩ := Int.eq_ofNat_of_zero_le hlt
      obtain ⟨off, rfl, hc⟩ := (hr.up hN) (by omega)
      have cx := hc j (by omega)
      have xb := hb j
      have hT' := hT.step
      rw [show xs.length - 1 - k = j by omega] at hT'
      generalize xs.getD j 0 = x at *
      have j1 : (j : Int) < (xs.length : Int) := by omega
      have HT := hide ht
      clear hc ht
      go_wp2_with (at_builtin; refine wpList_append_own _ rfl _ _ 22 rfl w.heap.size 5 i0 (.int .u8 0) 1 1 Tryz.underlying22 hi hz0 hz1 hz2 rfl (by decide) _ k (ys.map (Value.int .u8)) rfl (hown.alloc _) ⟨wr.heap.size, 0, none⟩ 1 1 [.int .u8 x] rfl rfl ?c1 ?c2 ?c3 ?c4 ?c5 ?_)
      case c1 =>
        intro j u hj
        match j, hj with
        | 0, hj => simp at hj; subst hj; simp [Addr.add]
      case c2 => intro u hu; simp at hu; subst hu; rfl
      case c3 => unfold maxLen; have := HT.out; omega
      case c4 => have := HT.out; omega
      case c5 => simp; have := hN.size; omega
      · intro v' w2 hown2 hgrow _
        have nA : Below w.heap.size w (wr.alloc (.cells #[.int .u8 x] 5)) := hN.alloc hN.size _
        have N2 : Below w.heap.size w w2 := nA.grown hgrow (by simp; have := hN.size; omega) (fun i hi => (hob i hi).1)
        have hown3 : w2.ownsRow w.heap.size 5 1 v' (k + 1) ((ys ++ [x]).map (Value.int .u8)) := by simpa using hown2
        have hb3 := byt_app1 hyb x xb.1 (by omega)
        clear hown hown2 hgrow nA hob
        go_wp2
        go_roundw
        case rel => exact ⟨k + 1, (j : Int) - 1, ys ++ [x], rfl, by have := HT.out; omega, by omega, hT', hb3, hown3, N2⟩
        case measure => simp [intOf]
    · obtain rfl : t = -1 := by omega
      obtain rfl : k = xs.length := by omega
      have hown' := hown
      rw [← hT.1] at hown'
      obtain ⟨a', c', g', hv, o1, o2, o3, o4⟩ := Own.of_ownsRow hown'
      subst hv
      have L := hide hT
      clear hown hown' ht hT
      go_wp2
      go_ret
      exact ⟨ys, L.out, hyb, ⟨_, _, g', rfl, o1, o2, o3, o4⟩, hN⟩
end Go.Proofs.YtliahigljoeeoaaGreatDoor

/-
  The bytes that are drawn for an element, from a source that was asked before.
-/
namespace Go.Proofs.YtliahigljoeeoaaGreatDoor
set_option maxRecDepth 100000
open Go.RowKit

theorem canon_pos {ys : List Int} {v : Int} (h : Canon ys v) : 0 < ys.length ↔ 0 < v := by
  constructor
  · intro h0
    have := h.ge h0
    have hp := p256_pos (ys.length - 1)
    omega
  · intro hv
    by_cases e : ys.length = 0
    · have : ys = [] := List.eq_nil_of_length_eq_zero e
      subst this
      have := h.2.1
      rw [bval_nil] at this
      omega
    · omega
theorem But.up {g : Nat} {a b c : World} (h : But g a b) (n : Below b.heap.size b c) : But g a c := h.trans (But.ofBelow n)
theorem dig_bytes {xs : List Int} (h : Byt xs) (n : Nat) : Byt (fill (dig xs) n) := by
  intro i
  by_cases hi : i < n
  · rw [fill_get _ _ _ hi]; have := dig_byt h i; omega
  · rw [List.getD_eq_getElem?_getD, List.getElem?_eq_none (by rw [fill_len]; omega)]; simp

theorem byt_fill {f : Nat → Int} (h : ∀ i, 0 ≤ f i ∧ f i < 256) (n : Nat) : Byt (fill f n) := by
  intro i
  by_cases hi : i < n
  · rw [fill_get _ _ _ hi]; exact h i
  · rw [List.getD_eq_getElem?_getD, List.getElem?_eq_none (by rw [fill_len]; omega)]; simp

/-- A source that was asked at most m times. -/
def SrcTo (w : World) (s : Nat) (a : Option Addr) (n c : Nat) (m : Int) : Prop := ∃ t, 0 ≤ t ∧ t ≤ m ∧ Src w s a n c t

set_option maxHeartbeats 4000000 in
theorem l2DrawT_any (w : World) (s g : Nat) (a : Option Addr) (c : Nat) (xs : List Int) (t : Int) (t0 : 0 ≤ t) (t1 : t ≤ 10000) (hs : Src w s a xs.length c t) (hr : Rd w g a .u8 xs) (hne : 0 < xs.length → g ≠ s) (hb : Byt xs) (hl : xs.length ≤ 1048576) :
    Calls Tryz.prog 108 #[.pointer (some ⟨s, 0, none⟩)] w fun e w' => ∃ ys, Byt ys ∧ ys.length ≤ 64 ∧ NewRow w.heap.size w' e .u8 ys ∧ But s w w' ∧ SrcTo w' s a xs.length c (t + 200) := by
  obtain ⟨i0, hi, hz0, hz1, hz2⟩ := info_parts Tryz.info5
  have sl := hs.lt
  have NX := l1Next_any w s g a c xs t 10 hs hr hne hb hl (by omega) (by omega) (by decide) (by decide)
  go_enter Tryz.func108, Tryz.ntmps108
  go_wp2_with fail
  refine NX.mono ?_
  rintro e w1 ⟨r, rfl, ⟨r0, r1⟩, S1, O1⟩
  have N1 : But s w w1 := But.ofOnly O1
  have hr1 := hr.but N1 hne
  have z1 := hide O1.size
  clear NX
  rcases (show r = 0 ∨ r = 1 ∨ r = 2 ∨ r = 3 ∨ r = 4 ∨ 5 ≤ r by omega) with rfl | rfl | rfl | rfl | rfl | h5
  · go_wp2_with fail
    refine (l1Next_any w1 s g a c xs (t + 1) 40 S1 hr1 hne hb hl (by omega) (by omega) (by decide) (by decide)).mono ?_
    rintro e w2 ⟨v, rfl, ⟨v0, v1⟩, S2, O2⟩
    go_wp2_with fail
    refine (l1Int_any w2 v v0 (by omega)).mono ?_
    rintro e w3 ⟨i1, il, ib, ⟨ai, ci, gi, rfl, oi, pi, qi, ri⟩, n3⟩
    go_wp2_with fail
    refine (l1Little_any w3 gi ai ci i1 32 oi.rd ib (by omega) (by omega)).mono ?_
    rintro e w4 ⟨rfl, B4, n4⟩
    have N4 := ((N1.only O2).up n3).up n4
    have z := ((N1.only O2).up n3).size
    go_wp2
    go_ret
    exact ⟨_, dig_bytes ib 32, by rw [fill_len]; omega, ⟨_, 32, w3.heap.size, by rw [fill_len]; rfl, B4.own0, by simp, by rw [fill_len]; omega, z⟩, N4, ⟨_, by omega, by omega, (S2.up n3).up n4⟩⟩
  · go_wp2_with fail
    refine (l2Prime_any w1).mono ?_
    rintro e w2 ⟨rfl, B2, n2⟩
    have nB : Below w2.heap.size w2 (w2.alloc (.cells #[.int .u8 20] 5)) := (Below.refl _ _).alloc (Nat.le_refl _) _
    have BB : Blk (w2.alloc (.cells #[.int .u8 20] 5)) w2.heap.size .u8 [20] := ⟨5, by rw [heap_alloc_last]; rfl⟩
    have hb20 : Byt [20] := fun i => by
      match i with
      | 0 => decide
      | i + 1 => simp
    go_wp2_with fail
    generalize w2.alloc (.cells #[.int .u8 20] 5) = wB at *
    refine (l1Add_any wB _ _ _ _ 32 1 pbytes [20] (B2.up nB).own0.rd BB.own0.rd pbytes_byt hb20 (by decide) (by decide)).mono ?_
    rintro e w3 ⟨y3, C3, ⟨a3, c3, g3, rfl, o3, p3, q3, r3⟩, n3⟩
    rw [pbytes_val] at C3
    have N3 := ((N1.up n2).up nB).up n3
    have hz3 : w.heap.size ≤ w2.heap.size := (N1.up n2).size
    have S3 := ((S1.up n2).up nB).up n3
    have hg3 : w.heap.size ≤ g3 := by have := nB.size; omega
    clear B2 BB
    go_wp2_with fail
    refine (l1Next_any w3 s g a c xs (t + 1) 40 S3 (hr.but N3 hne) hne hb hl (by omega) (by omega) (by decide) (by decide)).mono ?_
    rintro e w4 ⟨v, rfl, ⟨v0, v1⟩, S4, O4⟩
    have o3a := o3.only O4 (fun _ => by omega)
    have N4 := N3.only O4
    go_wp2_with fail
    refine (l1Int_any w4 v v0 (by omega)).mono ?_
    rintro e w5 ⟨i1, il, ib, ⟨ai, ci, gi, rfl, oi, pi, qi, ri⟩, n5⟩
    have o3b := o3a.up n5
    have N5 := N4.up n5
    go_wp2_with fail
    have V : Hid (bval i1 ≤ bval y3) := by
      show _ ≤ _
      have h1 : bval i1 < 256 := by
        have := bval_lt ib
        have hp : (256 : Int) ^ i1.length ≤ 256 ^ 1 := p256_le il
        have : (256 : Int) ^ 1 = 256 := by decide
        omega
      rw [C3.2.1]
      have : bval [20] = 20 := rfl
      have : (0 : Int) ≤ PP - 256 := by decide
      omega
    have L3 : y3.length ≤ 64 := C3.len (by decide)
    have LI : i1.length ≤ y3.length := by
      have := (canon_pos C3).2 (by decide)
      omega
    refine (l1Sub_any w5 g3 gi a3 ai c3 ci y3 i1 o3b.rd oi.rd C3.1 ib (by omega) LI V.out).mono ?_
    rintro e w6 ⟨y6, C6, ⟨a6, c6, g6, rfl, o6, p6, q6, r6⟩, n6⟩
    have L6 : y6.length ≤ 64 := C6.len (Int.lt_of_le_of_lt (show bval y3 - bval i1 ≤ bval y3 by have := bval_nonneg ib; omega) (Int.lt_of_lt_of_le (bval_lt C3.1) (p256_le L3)))
    go_wp2_with fail
    refine (l1Little_any w6 g6 a6 c6 y6 32 o6.rd C6.1 (by omega) (by omega)).mono ?_
    rintro e w7 ⟨rfl, B7, n7⟩
    have N7 := (N5.up n6).up n7
    have z := (N5.up n6).size
    go_wp2
    go_ret
    exact ⟨_, dig_bytes C6.1 32, by rw [fill_len]; omega, ⟨_, 32, w6.heap.size, by rw [fill_len]; rfl, B7.own0, by simp, by rw [fill_len]; omega, z⟩, N7, ⟨_, by omega, by omega, ((S4.up n5).up n6).up n7⟩⟩
  · go_wp2_with fail
    refine (l2Prime_any w1).mono ?_
    rintro e w2 ⟨rfl, B2, n2⟩
    go_wp2_with fail
    refine (l1Shift1_any w2 _ _ 32 pbytes B2.own0.rd pbytes_byt (by simp) (by decide) (by decide)).mono ?_
    rintro e wS ⟨yS, CS, ⟨aS, cS, gS, rfl, oS, pS, qS, rS⟩, nS⟩
    rw [pbytes_val] at CS
    have lS : yS.length ≤ 64 := CS.len (by decide)
    have nB : Below wS.heap.size wS (wS.alloc (.cells #[.int .u8 20] 5)) := (Below.refl _ _).alloc (Nat.le_refl _) _
    have BB : Blk (wS.alloc (.cells #[.int .u8 20] 5)) wS.heap.size .u8 [20] := ⟨5, by rw [heap_alloc_last]; rfl⟩
    have hb20 : Byt [20] := fun i => by
      match i with
      | 0 => decide
      | i + 1 => simp
    go_wp2_with fail
    generalize wS.alloc (.cells #[.int .u8 20] 5) = wB at *
    refine (l1Add_any wB gS _ aS _ cS 1 yS [20] (oS.up nB).rd BB.own0.rd CS.1 hb20 (by omega) (by decide)).mono ?_
    rintro e w3 ⟨y3, C3, ⟨a3, c3, g3, rfl, o3, p3, q3, r3⟩, n3⟩
    rw [CS.2.1] at C3
    have N3 := (((N1.up n2).up nS).up nB).up n3
    have hz3 : w.heap.size ≤ wS.heap.size := ((N1.up n2).up nS).size
    have S3 := (((S1.up n2).up nS).up nB).up n3
    have hg3 : w.heap.size ≤ g3 := by have := nB.size; omega
    clear B2 BB
    go_wp2_with fail
    refine (l1Next_any w3 s g a c xs (t + 1) 40 S3 (hr.but N3 hne) hne hb hl (by omega) (by omega) (by decide) (by decide)).mono ?_
    rintro e w4 ⟨v, rfl, ⟨v0, v1⟩, S4, O4⟩
    have o3a := o3.only O4 (fun _ => by omega)
    have N4 := N3.only O4
    go_wp2_with fail
    refine (l1Int_any w4 v v0 (by omega)).mono ?_
    rintro e w5 ⟨i1, il, ib, ⟨ai, ci, gi, rfl, oi, pi, qi, ri⟩, n5⟩
    have o3b := o3a.up n5
    have N5 := N4.up n5
    go_wp2_with fail
    have V : Hid (bval i1 ≤ bval y3) := by
      show _ ≤ _
      have h1 : bval i1 < 256 := by
        have := bval_lt ib
        have hp : (256 : Int) ^ i1.length ≤ 256 ^ 1 := p256_le il
        have : (256 : Int) ^ 1 = 256 := by decide
        omega
      rw [C3.2.1]
      have : bval [20] = 20 := rfl
      have : (0 : Int) ≤ PP - 256 := by decide
      omega
    have L3 : y3.length ≤ 64 := C3.len (by decide)
    have LI : i1.length ≤ y3.length := by
      have := (canon_pos C3).2 (by decide)
      omega
    refine (l1Sub_any w5 g3 gi a3 ai c3 ci y3 i1 o3b.rd oi.rd C3.1 ib (by omega) LI V.out).mono ?_
    rintro e w6 ⟨y6, C6, ⟨a6, c6, g6, rfl, o6, p6, q6, r6⟩, n6⟩
    have L6 : y6.length ≤ 64 := C6.len (Int.lt_of_le_of_lt (show bval y3 - bval i1 ≤ bval y3 by have := bval_nonneg ib; omega) (Int.lt_of_lt_of_le (bval_lt C3.1) (p256_le L3)))
    go_wp2_with fail
    refine (l1Little_any w6 g6 a6 c6 y6 32 o6.rd C6.1 (by omega) (by omega)).mono ?_
    rintro e w7 ⟨rfl, B7, n7⟩
    have N7 := (N5.up n6).up n7
    have z := (N5.up n6).size
    go_wp2
    go_ret
    exact ⟨_, dig_bytes C6.1 32, by rw [fill_len]; omega, ⟨_, 32, w6.heap.size, by rw [fill_len]; rfl, B7.own0, by simp, by rw [fill_len]; omega, z⟩, N7, ⟨_, by omega, by omega, ((S4.up n5).up n6).up n7⟩⟩
  · go_wp2_with (at_make; refine wpList_make_full _ rfl _ _ 22 rfl w1.heap.size 5 i0 (.int .u8 0) 1 Tryz.underlying22 hi hz0 hz1 .i64 .i64 _ _ 32 rfl rfl rfl rfl (by rw [hz2]; omega) (by unfold maxLen; omega) (Nat.le_refl _) ?_; intro w2 hown hgrow)
    have hB := Blk.of_made hown
    have nM : Below w1.heap.size w1 w2 := (Below.refl _ _).grown hgrow (Nat.le_refl _) (by simp)
    have S2 := S1.up nM
    have N2 := N1.up nM
    have z2 : w1.heap.size < w2.heap.size := hB.lt
    clear hown hgrow
    go_loopw [5] (fun i wr => ∃ (k : Nat) (ys : List Int), k ≤ 32 ∧ i = .int .i64 k ∧ FillTo (fun _ => 255) ys 32 k ∧ Blk wr w1.heap.size .u8 ys ∧ Src wr s a xs.length c (t + 1) ∧ But s w wr) (fun i _ => 32 - (intOf i).toNat)
    case atStart => exact ⟨0, _, by omega, rfl, ⟨by simp, fun j hj => absurd hj (by omega)⟩, hB, S2, N2⟩
    case round =>
      clear hB nM S2 N2
      obtain ⟨k, ys, hk, rfl, hF, hB, hS, hN⟩ := hrel
      have z1' := z1.out
      have sne : s ≠ w1.heap.size := by omega
      clear z1'
      by_cases hlt : k < 32
      · have hst := hF.step hlt
        have hcy := hB.cell (i := k) (by rw [hF.1]; exact hlt)
        have hfy := hB.free k
        have k2 : (k : Int) < 32 := by omega
        have St := hB.store k 255
        have Ss := hS.of_block (w' := wr.setCell ⟨w1.heap.size, k, none⟩ (.int .u8 255)) (heap_setCell_other wr ⟨w1.heap.size, k, none⟩ s _ sne)
        have Sn : But s w (wr.setCell ⟨w1.heap.size, k, none⟩ (.int .u8 255)) := hN.setCell (by have := z1.out; omega)
        clear hB hN hF hS
        go_wp2
        go_roundw
        case rel => exact ⟨k + 1, _, by omega, by go_num, hst, St, Ss, Sn⟩
        case measure => simp [intOf]; omega
      · obtain rfl : k = 32 := by omega
        have hy := hF.all
        subst hy
        go_wp2_with fail
        refine (l1Next_any wr s g a c xs (t + 1) 256 hS (hr.but hN hne) hne hb hl (by omega) (by omega) (by decide) (by decide)).mono ?_
        rintro e w4 ⟨v, rfl, ⟨v0, v1⟩, S4, O4⟩
        have B4 := hB.of_block (O4.block w1.heap.size (by omega))
        have c0 : w4.cell? ⟨w1.heap.size, 0, none⟩ = some (.int .u8 255) := B4.cell (i := 0) (by rw [fill_len]; omega)
        have f0 := B4.free 0
        have B5 := B4.store 0 v
        have S5 := S4.of_block (w' := w4.setCell ⟨w1.heap.size, 0, none⟩ (.int .u8 v)) (heap_setCell_other w4 ⟨w1.heap.size, 0, none⟩ s _ sne)
        have N5 : But s w (w4.setCell ⟨w1.heap.size, 0, none⟩ (.int .u8 v)) := (hN.only O4).setCell (by have := z1.out; omega)
        have hv : v % 256 = v := by omega
        have zz : w.heap.size ≤ w1.heap.size := by have := z1.out; omega
        have ZZ := hide zz
        clear zz
        clear hB B4
        go_wp2
        go_ret
        refine ⟨_, byt_set (byt_fill (fun _ => ⟨by decide, by decide⟩) 32) 0 v v0 (by omega), by simp [fill_len], ⟨_, 32, w1.heap.size, ?_, B5.own0, by simp, by simp [fill_len], ZZ.out⟩, N5, ⟨_, by omega, by omega, S5⟩⟩
        simp [fill_len]
  · go_wp2_with (first | (at_make; refine wpList_make_full _ rfl _ _ 22 rfl w1.heap.size 5 i0 (.int .u8 0) 1 Tryz.underlying22 hi hz0 hz1 .i64 .i64 _ _ 32 rfl rfl rfl rfl (by rw [hz2]; omega) (by unfold maxLen; omega) (Nat.le_refl _) ?_; intro w2 hown hgrow) | fail)
    have hB := Blk.of_made hown
    have nM : Below w1.heap.size w1 w2 := (Below.refl _ _).grown hgrow (Nat.le_refl _) (by simp)
    have S2 := S1.up nM
    have N2 := N1.up nM
    clear hown hgrow
    refine (l1Next_any w2 s g a c xs (t + 1) 32 S2 (hr.but N2 hne) hne hb hl (by omega) (by omega) (by decide) (by decide)).mono ?_
    rintro e w3 ⟨i, rfl, ⟨j0, j1⟩, S3, O3⟩
    have sne : s ≠ w1.heap.size := by have := z1.out; omega
    have B3 := hB.of_block (O3.block w1.heap.size (by omega))
    have N3 := N2.only O3
    obtain ⟨j, rfl⟩ := Int.eq_ofNat_of_zero_le j0
    go_wp2_with fail
    refine (l1Next_any w3 s g a c xs (t + 1 + 1) 256 S3 (hr.but N3 hne) hne hb hl (by omega) (by omega) (by decide) (by decide)).mono ?_
    rintro e w4 ⟨v, rfl, ⟨v0, v1⟩, S4, O4⟩
    have B4 := B3.of_block (O4.block w1.heap.size (by omega))
    have c0 := B4.cell (i := j) (by simp; omega)
    have f0 := B4.free j
    have B5 := B4.store j v
    have S5 := S4.of_block (w' := w4.setCell ⟨w1.heap.size, j, none⟩ (.int .u8 v)) (heap_setCell_other w4 ⟨w1.heap.size, j, none⟩ s _ sne)
    have N5 : But s w (w4.setCell ⟨w1.heap.size, j, none⟩ (.int .u8 v)) := (N3.only O4).setCell (by have := z1.out; omega)
    have hv : v % 256 = v := by omega
    have zz : w.heap.size ≤ w1.heap.size := by have := z1.out; omega
    have ZZ := hide zz
    clear zz hB B3 B4
    go_wp2
    go_ret
    refine ⟨_, byt_set (byt_zeros 32) j v v0 (by omega), by simp, ⟨_, 32, w1.heap.size, ?_, B5.own0, by simp, by simp, ZZ.out⟩, N5, ⟨_, by omega, by omega, S5⟩⟩
    simp
  · have q0 : (r == 0) = false := by simp; omega
    have q1 : (r == 1) = false := by simp; omega
    have q2 : (r == 2) = false := by simp; omega
    have q3 : (r == 3) = false := by simp; omega
    have q4 : (r == 4) = false := by simp; omega
    clear r0 r1 h5
    go_wp2_with fail
    refine (l1DrawBytes_any w1 s g a c xs (t + 1) 32 S1 hr1 hne hb hl (by omega) (by omega)).mono ?_
    rintro e w2 ⟨y2, l2, b2, ⟨a2, c2, g2, rfl, o2, p2, q2', r2⟩, S2, T2⟩
    have N2 := N1.trans T2
    have z2 := T2.size
    go_wp2_with fail
    refine (l1Chance_any w2 s g a c xs (t + 1 + ((32 : Nat) : Int)) 25 S2 (hr.but N2 hne) hne hb hl (by omega) (by omega) (by decide) (by decide)).mono ?_
    rintro e w3 ⟨bb, rfl, S3, O3⟩
    have N3 := N2.only O3
    have z1' := z1.out
    have o3 := o2.only O3 (fun _ => by omega)
    have zz : w.heap.size ≤ g2 := by omega
    have ZZ := hide zz
    have L2 := hide l2
    clear zz z1' l2
    cases bb
    · go_wp2
      go_ret
      exact ⟨y2, b2, by have := L2.out; omega, ⟨_, _, g2, by rw [L2.out]; rfl, o3, p2, q2', ZZ.out⟩, N3, ⟨_, by omega, by omega, S3⟩⟩
    · go_wp2_with fail
      refine (l1Next_any w3 s g a c xs (t + 1 + ((32 : Nat) : Int) + 1) 2 S3 (hr.but N3 hne) hne hb hl (by omega) (by omega) (by decide) (by decide)).mono ?_
      rintro e w4 ⟨v, rfl, ⟨v0, v1⟩, S4, O4⟩
      have N4 := N3.only O4
      obtain ⟨j, rfl⟩ := Int.eq_ofNat_of_zero_le v0
      have hj : (31 : Int) + 2 * (j : Int) = ((31 + 2 * j : Nat) : Int) := by omega
      have DB := l1DrawBytes_any w4 s g a c xs (t + 1 + ((32 : Nat) : Int) + 1 + 1) (31 + 2 * j) S4 (hr.but N4 hne) hne hb hl (by omega) (by omega)
      rw [← hj] at DB
      have DH := hide DB
      clear DB hj
      go_wp2_with fail
      refine DH.out.mono ?_
      rintro e w5 ⟨y5, l5, b5, ⟨a5, c5, g5, rfl, o5, p5, q5, r5⟩, S5, T5⟩
      have N5 := N4.trans T5
      have z4 := N4.size
      have L5 : y5.length ≤ 64 := by omega
      have zz : w.heap.size ≤ g5 := by omega
      have ZZ := hide zz
      clear zz l5 DH
      go_wp2
      go_ret
      exact ⟨y5, b5, L5, ⟨_, _, g5, rfl, o5, p5, q5, ZZ.out⟩, N5, ⟨_, by omega, by omega, S5⟩⟩

end Go.Proofs.YtliahigljoeeoaaGreatDoor

/-
  What the three operations share: the model's l2Two, bounds of bytes, the elements' operations with their values.
-/
namespace Go.Proofs.YtliahigljoeeoaaGreatDoor
set_option maxRecDepth 100000
open Go.RowKit


end Go.Proofs.YtliahigljoeeoaaGreatDoor

/-
  The model's chapter 3: the order and its bytes, what is below it, what is left modulo it.
-/
namespace Go.Proofs.YtliahigljoeeoaaGreatDoor
set_option maxRecDepth 100000
open Go.RowKit

theorem qtxt : Txt ⟨#[50, 55, 55, 52, 50, 51, 49, 55, 55, 55, 55, 51, 55, 50, 51, 53, 51, 53, 51, 53, 56, 53, 49, 57, 51, 55, 55, 57, 48, 56, 56, 51, 54, 52, 56, 52, 57, 51]⟩ qdec := by
  refine ⟨by decide, fun k hk => ?_⟩
  have : ∀ k : Fin 38, ∃ b : UInt8, (⟨#[50, 55, 55, 52, 50, 51, 49, 55, 55, 55, 55, 51, 55, 50, 51, 53, 51, 53, 51, 53, 56, 53, 49, 57, 51, 55, 55, 57, 48, 56, 56, 51, 54, 52, 56, 52, 57, 51]⟩ : ByteArray)[k.1]? = some b ∧ (b.toNat : Int) = qdec.getD k.1 0 + 48 := by
    intro k
    refine ⟨UInt8.ofNat (qdec.getD k.1 0 + 48).toNat, ?_, ?_⟩
    · revert k; decide
    · revert k; decide
  exact this ⟨k, hk⟩

set_option maxHeartbeats 1000000 in
theorem l3Order_any (w : World) :
    Calls Tryz.prog 124 #[] w fun e w' => ∃ ys, Canon ys QQ ∧ NewRow w.heap.size w' e .u8 ys ∧ Below w.heap.size w w' := by
  have n0 : Below w.heap.size w (w.alloc (.cells #[.int .u8 1] 5)) := (Below.refl _ _).alloc (Nat.le_refl _) _
  have B0 := one_a w 1
  have D := fun W => l1Decimal_any W _ qtxt
  have b1 : Byt [1] := byt_one (by omega) (by omega)
  have e1 : Hid (bval [1] = 1) := by show _ = _; decide
  go_enter Tryz.func124, Tryz.ntmps124
  go_wp2_with fail
  generalize w.alloc (.cells #[.int .u8 1] 5) = wa at *
  refine (l1Shift252_any wa _ _ 1 [1] B0.own0.rd b1 (by simp) (by simp)).mono ?_
  rintro e w1 ⟨xs, C1, ⟨a1, c1, g1, rfl, o1, p1, q1, r1⟩, n1⟩
  have N1 := nxt n0 n1
  go_wp2_with fail
  refine (D w1).mono ?_
  rintro e w2 ⟨us, C2, ⟨a2, c2, g2, rfl, o2, p2, q2, r2⟩, n2⟩
  have N2 := nxt N1 n2
  rw [e1.out, Int.one_mul] at C1
  have L1 : xs.length ≤ 64 := C1.len (by decide)
  have L2 : us.length ≤ 64 := C2.len (by decide)
  go_wp2_with fail
  refine (l1Add_any w2 g1 g2 a1 a2 c1 c2 xs us (o1.up n2).rd o2.rd C1.1 C2.1 (by omega) (by omega)).mono ?_
  rintro e w3 ⟨ys, C3, ⟨a3, c3, g3, rfl, o3, p3, q3, r3⟩, n3⟩
  have N3 := nxt N2 n3
  have z := N2.size
  rw [C1.2.1, C2.2.1] at C3
  have C4 : Canon ys QQ := C3
  clear C1 C2 C3
  go_wp2
  go_ret
  exact ⟨ys, C4, ⟨a3, c3, g3, rfl, o3, p3, q3, by omega⟩, N3⟩
theorem canon_q {ys : List Int} (C : Canon ys QQ) : ys.length ≤ 32 := C.len (by decide)



end Go.Proofs.YtliahigljoeeoaaGreatDoor

/-
  The three lists of bytes that are drawn for OrderMulAdd.
-/
namespace Go.Proofs.YtliahigljoeeoaaGreatDoor
set_option maxRecDepth 100000
open Go.RowKit

theorem little_byt {xs : List Int} (h : Byt xs) (n : Nat) : Byt (fill (dig xs) n) := dig_bytes h n

set_option maxHeartbeats 4000000 in
theorem l3Draw_any (w : World) (s g : Nat) (a : Option Addr) (c : Nat) (xs : List Int) (t : Int) (t0 : 0 ≤ t) (t1 : t ≤ 9000) (hs : Src w s a xs.length c t) (hr : Rd w g a .u8 xs) (hne : 0 < xs.length → g ≠ s) (hb : Byt xs) (hl : xs.length ≤ 1048576) :
    Calls Tryz.prog 163 #[.pointer (some ⟨s, 0, none⟩)] w fun e w' => ∃ ys, Byt ys ∧ ys.length ≤ 64 ∧ NewRow w.heap.size w' e .u8 ys ∧ But s w w' ∧ SrcTo w' s a xs.length c (t + 300) := by
  have sl := hs.lt
  have NX := l1Next_any w s g a c xs t 6 hs hr hne hb hl (by omega) (by omega) (by decide) (by decide)
  go_enter Tryz.func163, Tryz.ntmps163
  go_wp2_with fail
  refine NX.mono ?_
  rintro e w1 ⟨r, rfl, ⟨r0, r1⟩, S1, O1⟩
  have N1 : But s w w1 := But.ofOnly O1
  have hr1 := hr.but N1 hne
  have z1 := hide O1.size
  clear NX
  by_cases h2 : r < 2
  · have q1 : decide (r < 2) = true := by simp; omega
    clear h2 r0 r1
    go_wp2_with fail
    refine (l3Order_any w1).mono ?_
    rintro e w2 ⟨qs, Cq, ⟨a2, c2, g2, rfl, o2, p2, q2, r2⟩, n2⟩
    have N2 := N1.up n2
    have S2 := S1.up n2
    have hz2 : w.heap.size ≤ g2 := by have := z1.out; omega
    go_wp2_with fail
    refine (l1Next_any w2 s g a c xs (t + 1) 15 S2 (hr.but N2 hne) hne hb hl (by omega) (by omega) (by decide) (by decide)).mono ?_
    rintro e w3 ⟨v, rfl, ⟨v0, v1⟩, S3, O3⟩
    have N3 := N2.only O3
    have o3 := o2.only O3 (fun _ => by omega)
    have hw : IntKind.i64.wrap (1 + v) = 1 + v := by rw [IntKind.wrap_i64]; omega
    have hw8 : (1 + v) % 256 = 1 + v := by omega
    have hw9 : IntKind.u8.wrap (1 + v) = 1 + v := by rw [IntKind.wrap_u8]; omega
    have bv := byt_one (d := 1 + v) (by omega) (by omega)
    have nB : Below w3.heap.size w3 (w3.alloc (.cells #[.int .u8 (1 + v)] 5)) := (Below.refl _ _).alloc (Nat.le_refl _) _
    have BB := one_a w3 (1 + v)
    have Lq := canon_q Cq
    have ev : bval [1 + v] = 1 + v := by simp [bval]
    go_wp2_with fail
    generalize w3.alloc (.cells #[.int .u8 (1 + v)] 5) = wB at *
    refine (l1Mul_any wB g2 _ a2 _ c2 1 qs [1 + v] (o3.up nB).rd BB.own0.rd Cq.1 bv (by omega) (by simp)).mono ?_
    rintro e w4 ⟨ms, C4, ⟨a4, c4, g4, rfl, o4, p4, q4, r4⟩, n4⟩
    have N4 := (N3.up nB).up n4
    have S4 := (S3.up nB).up n4
    rw [Cq.2.1, ev] at C4
    have V4 : QQ ≤ bval ms := by
      rw [C4.2.1]
      have : QQ * 1 ≤ QQ * (1 + v) := Int.mul_le_mul_of_nonneg_left (by omega) (by decide)
      omega
    have L4 : ms.length ≤ 64 := C4.len (by
      have : QQ * (1 + v) ≤ QQ * 15 := Int.mul_le_mul_of_nonneg_left (by omega) (by decide)
      exact Int.lt_of_le_of_lt this (by decide))
    have M4 := C4.1
    have hg4 : w.heap.size ≤ g4 := by have := (N3.up nB).size; omega
    clear C4 BB hw hw8 hw9 ev bv o3 o2 Cq N1 N2 N3 S1 S2 S3 nB n4 n2 O3
    have nC : Below w4.heap.size w4 (w4.alloc (.cells #[.int .u8 3] 5)) := (Below.refl _ _).alloc (Nat.le_refl _) _
    have BC := one_a w4 3
    have b3 := byt_one (d := 3) (by omega) (by omega)
    have e3 : bval [3] = 3 := by decide
    go_wp2_with fail
    generalize w4.alloc (.cells #[.int .u8 3] 5) = wC at *
    refine (l1Add_any wC g4 _ a4 _ c4 1 ms [3] (o4.up nC).rd BC.own0.rd M4 b3 (by omega) (by decide)).mono ?_
    rintro e w5 ⟨ys5, C5, ⟨a5, c5, g5, rfl, o5, p5, q5, r5⟩, n5⟩
    have N5 := (N4.up nC).up n5
    have S5 := (S4.up nC).up n5
    have hg5 : w.heap.size ≤ g5 := by have := (N4.up nC).size; omega
    have V5 : QQ ≤ bval ys5 := by rw [C5.2.1, e3]; omega
    have L5 : ys5.length ≤ 65 := C5.len (n := 65) (by
      have b4 := Int.lt_of_lt_of_le (bval_lt M4) (p256_le (show ms.length ≤ 64 from L4))
      have e64 : (256 : Int) ^ 65 = 256 ^ 64 * 256 := by rw [← Int.pow_succ]
      have e1 : (3 : Int) ≤ 256 ^ 64 := by decide
      rw [e3, e64]
      omega)
    have M5 := C5.1
    clear C5 BC b3 e3 o4 N4 S4 nC n5 V4 L4
    go_wp2_with fail
    refine (l1Next_any w5 s g a c xs (t + 1 + 1) 7 S5 (hr.but N5 hne) hne hb hl (by omega) (by omega) (by decide) (by decide)).mono ?_
    rintro e w6 ⟨v6, rfl, ⟨v60, v61⟩, S6, O6⟩
    have N6 := N5.only O6
    have o6 := o5.only O6 (fun _ => by omega)
    go_wp2_with fail
    refine (l1Int_any w6 v6 v60 (by omega)).mono ?_
    rintro e w7 ⟨i1, il, ib, ⟨ai, ci, gi, rfl, oi, pi, qi, ri⟩, n7⟩
    have o7 := o6.up n7
    have N7 := N6.up n7
    have S7 := S6.up n7
    have V : Hid (bval i1 ≤ bval ys5) := by
      show _ ≤ _
      have h1 : bval i1 < 256 := by
        have := bval_lt ib
        have hp : (256 : Int) ^ i1.length ≤ 256 ^ 1 := p256_le il
        have : (256 : Int) ^ 1 = 256 := by decide
        omega
      have : (256 : Int) ≤ QQ := by decide
      omega
    have LI : i1.length ≤ ys5.length := by
      by_cases e : ys5.length = 0
      · have : ys5 = [] := List.eq_nil_of_length_eq_zero e
        subst this
        rw [bval_nil] at V5
        exact absurd V5 (by decide)
      · omega
    clear o5 o6 N5 N6 S5 S6 n7 O6 V5
    go_wp2_with fail
    refine (l1Sub_any w7 g5 gi a5 ai c5 ci ys5 i1 o7.rd oi.rd M5 ib (by omega) LI V.out).mono ?_
    rintro e w8 ⟨y8, C8, ⟨a8, c8', g8, rfl, o8, p8, q8, r8⟩, n8⟩
    have L8 : y8.length ≤ 65 := C8.len (Int.lt_of_le_of_lt (show bval ys5 - bval i1 ≤ bval ys5 by have := bval_nonneg ib; omega) (Int.lt_of_lt_of_le (bval_lt M5) (p256_le L5)))
    go_wp2_with fail
    refine (l1Little_any w8 g8 a8 c8' y8 32 o8.rd C8.1 (by omega) (by omega)).mono ?_
    rintro e w9 ⟨rfl, B9, n9⟩
    have N9 := (N7.up n8).up n9
    have S9 := (S7.up n8).up n9
    have z := (N7.up n8).size
    clear LI V
    go_wp2
    go_ret
    exact ⟨_, little_byt C8.1 32, by rw [fill_len]; omega, ⟨_, 32, w8.heap.size, by rw [fill_len]; rfl, B9.own0, by simp, by rw [fill_len]; omega, z⟩, N9, ⟨_, by omega, by omega, S9⟩⟩
  · have q1 : decide (r < 2) = false := by simp; omega
    by_cases h3 : r = 2
    · subst h3
      clear h2 r0 r1
      have L2 := l2DrawT_any w1 s g a c xs (t + 1) (by omega) (by omega) S1 hr1 hne hb hl
      go_wp2_with fail
      refine L2.mono ?_
      rintro e w2 ⟨ys, yb, yl, ⟨a2, c2, g2, rfl, o2, p2, q2, r2⟩, N2, ⟨t2, t20, t21, S2⟩⟩
      have N3 := N1.trans N2
      have z := z1.out
      have ZZ : Hid (w.heap.size ≤ g2) := by show _ ≤ _; omega
      clear L2 z
      go_wp2
      go_ret
      exact ⟨ys, yb, yl, ⟨_, _, g2, rfl, o2, p2, q2, ZZ.out⟩, N3, ⟨t2, t20, by omega, S2⟩⟩
    · have q2 : (r == 2) = false := by simp; omega
      clear h2 h3 r0 r1
      go_wp2_with fail
      refine (l1DrawBytes_any w1 s g a c xs (t + 1) 32 S1 hr1 hne hb hl (by omega) (by omega)).mono ?_
      rintro e w2 ⟨ys, yl, yb, ⟨a2, c2, g2, rfl, o2, p2, q2', r2⟩, S2, N2⟩
      have N3 := N1.trans N2
      have z := z1.out
      have ZZ : Hid (w.heap.size ≤ g2) := by show _ ≤ _; omega
      have L := hide yl
      clear yl z
      go_wp2
      go_ret
      exact ⟨ys, yb, by have := L.out; omega, ⟨_, _, g2, by first | rfl | (rw [L.out]; rfl), o2, p2, q2', ZZ.out⟩, N3, ⟨_, by omega, by omega, S2⟩⟩

end Go.Proofs.YtliahigljoeeoaaGreatDoor

/-
  What FnFieldRing draws: two elements, a ladder's key and u.
-/
namespace Go.Proofs.YtliahigljoeeoaaGreatDoor
set_option maxRecDepth 100000
open Go Go.RowKit

set_option maxHeartbeats 2000000 in
theorem l1Int1_any (w : World) (v : Int) (v0 : 1 ≤ v) (v1 : v ≤ 255) :
    Calls Tryz.prog 155 #[.int .i64 v] w fun e w' => ∃ ys, ys = [v] ∧ NewRow w.heap.size w' e .u8 ys ∧ Below w.heap.size w w' := by
  obtain ⟨i0, hi, hz0, hz1, hz2⟩ := info_parts Tryz.info5
  have hown0 : (w.alloc (.cells #[] 5)).ownsRow w.heap.size 5 1 (.slice (some ⟨w.heap.size, 0, none⟩) 0 0) 0 [] := World.ownsRow_lit w #[] 0 (Nat.le_refl _) (by unfold maxLen; omega) (by simp)
  have hal : Below w.heap.size w (w.alloc (.cells #[] 5)) := (Below.refl _ _).alloc (Nat.le_refl _) _
  go_enter Tryz.func155, Tryz.ntmps155
  go_wp2
  go_loopw [0, 3] (fun q vv wr => ∃ (k : Nat) (t : Int) (ys : List Int), q = .int .i64 t ∧ 0 ≤ t ∧ t ≤ 255 ∧ k ≤ 1 ∧ (0 < t → k = 0) ∧ Hid ((0 < t → t = v) ∧ (t = 0 → ys = [v])) ∧ Hid (ys.length = k) ∧ Byt ys ∧ wr.ownsRow w.heap.size 5 1 vv k (ys.map (Value.int .u8)) ∧ Below w.heap.size w wr) (fun q _ _ => (intOf q).toNat)
  case atStart => exact ⟨0, v, [], rfl, by omega, v1, by omega, fun _ => rfl, ⟨fun _ => rfl, fun h => absurd h (by omega)⟩, rfl, byt_nil, hown0, hal⟩
  case round =>
    obtain ⟨k, t, ys, rfl, ht0, ht1, hk1, hk0, hvl, hyl, hyb, hown, hN⟩ := hrel
    have hob := hown.lt
    by_cases hlt : 0 < t
    · have hk := hk0 hlt
      subst hk
      have m1 : t % 256 = t := by omega
      have m2 : t / 256 = 0 := by omega
      clear hk0 hk1
      go_wp2_with (at_builtin; refine wpList_append_own _ rfl _ _ 22 rfl w.heap.size 5 i0 (.int .u8 0) 1 1 Tryz.underlying22 hi hz0 hz1 hz2 rfl (by decide) _ 0 (ys.map (Value.int .u8)) rfl (hown.alloc _) ⟨wr.heap.size, 0, none⟩ 1 1 [.int .u8 t] rfl rfl ?c1 ?c2 ?c3 ?c4 ?c5 ?_)
      case c1 =>
        intro j u hj
        match j, hj with
        | 0, hj => simp at hj; subst hj; simp [Addr.add]
      case c2 => intro u hu; simp at hu; subst hu; rfl
      case c3 => unfold maxLen; omega
      case c4 => omega
      case c5 => simp; have := hN.size; omega
      · intro v' w2 hown2 hgrow _
        have nA : Below w.heap.size w (wr.alloc (.cells #[.int .u8 t] 5)) := hN.alloc hN.size _
        have N2 : Below w.heap.size w w2 := nA.grown hgrow (by simp; have := hN.size; omega) (fun i hi => (hob i hi).1)
        have hown3 : w2.ownsRow w.heap.size 5 1 v' 1 ((ys ++ [t]).map (Value.int .u8)) := by simpa using hown2
        have hl3 : Hid ((ys ++ [t]).length = 1) := by show _ = _; have := hyl.out; simp; exact List.eq_nil_of_length_eq_zero this
        have hb3 := byt_snoc hyb t ht0 (by omega)
        have hv3 : Hid (ys ++ [t] = [v]) := by
          show _ = _
          rw [List.eq_nil_of_length_eq_zero hyl.out, hvl.out.1 hlt]
          rfl
        clear hown hown2 hgrow nA hob
        go_wp2
        go_roundw
        case rel => exact ⟨1, t / 256, ys ++ [t], rfl, by omega, by omega, by omega, fun h => absurd h (by omega), ⟨fun h => absurd h (by omega), fun _ => hv3.out⟩, hl3, hb3, hown3, N2⟩
        case measure => simp [intOf]; omega
    · obtain rfl : t = 0 := by omega
      have hown' := hown
      rw [← hyl.out] at hown'
      obtain ⟨a', c', g', hv, o1, o2, o3, o4⟩ := Own.of_ownsRow hown'
      subst hv
      have L : ys.length ≤ 1 := by rw [hyl.out]; exact hk1
      have T := l1Turn_any wr g' a' c' ys o1.rd hyb (by omega)
      have HT := hide T
      clear hown hown' hk0 T
      go_wp2_with fail
      refine (unhide HT).mono ?_
      rintro e w3 ⟨zs, zt, zb, ⟨a3, c3, g3, rfl, o31, o32, o33, o34⟩, n3⟩
      have zl := zt.1
      have ZV : Hid (zs = [v]) := by
        show _ = _
        have e := hvl.out.2 (by first | exact True.intro | rfl)
        have g := zt.2 0 (by rw [e]; simp)
        rw [e] at zl g
        match zs, zl, g with
        | [z], _, g => simpa using g
      clear zt
      have N3 := nxt hN n3
      have sz := hN.size
      have ZL : zs.length ≤ 1 := by omega
      clear zl
      go_wp2
      go_ret
      exact ⟨zs, ZV.out, ⟨_, _, g3, rfl, o31, o32, o33, by omega⟩, N3⟩

set_option maxHeartbeats 2000000 in
theorem drawFieldMul_any (w : World) (g : Nat) (a : Option Addr) (c : Nat) (code : List Int) (hr : Rd w g a .u8 code) (hb : Byt code) (hl : code.length ≤ 1048576) :
    Calls Tryz.prog 55 #[.slice a code.length c] w fun e w' => ∃ (a1 a2 : Option Addr) (c1 c2 g1 g2 : Nat) (xs ys : List Int), e = .returned (.tuple #[.slice a1 xs.length c1, .slice a2 ys.length c2]) ∧ Own w' g1 a1 .u8 xs ∧ Own w' g2 a2 .u8 ys ∧ Byt xs ∧ Byt ys ∧ Below w.heap.size w w' := by
  have hne : 0 < code.length → g ≠ w.heap.size := fun h => by have := hr.lt h; omega
  go_enter Tryz.func55, Tryz.ntmps55
  go_wp2_with fail
  refine (l1Source_any w a code.length c hl).mono ?_
  rintro e w1 ⟨rfl, S1, n1⟩
  have sl := S1.lt
  go_wp2_with fail
  refine (l2DrawT_any w1 w.heap.size g a c code 0 (by omega) (by omega) S1 (hr.up n1) hne hb hl).mono ?_
  rintro e w2 ⟨xs, xb, xl, ⟨a1, c1, g1, rfl, o1, p1, q1, r1⟩, N2, ⟨t2, t20, t21, S2⟩⟩
  have m2 := N2.size
  have n12 : Below w.heap.size w1 w2 := N2.below (Nat.le_refl _) (by omega)
  have K2 := n1.trans n12
  go_wp2_with fail
  refine (l2DrawT_any w2 w.heap.size g a c code t2 t20 (by omega) S2 (hr.up K2) hne hb hl).mono ?_
  rintro e w3 ⟨ys, yb, yl, ⟨a2, c2, g2, rfl, o2, p2, q2, r2⟩, N3, ⟨t3, t30, t31, S3⟩⟩
  have n23 : Below w.heap.size w2 w3 := N3.below (Nat.le_refl _) (by omega)
  have K3 := K2.trans n23
  have o1a := o1.but N3 (fun _ => by omega)
  clear N2 N3 S1 S2 S3 n1 n12 n23 K2 o1
  go_wp2
  go_ret2
  exact ⟨a1, a2, c1, c2, g1, g2, xs, ys, rfl, o1a, o2, xb, yb, K3⟩

set_option maxHeartbeats 2000000 in
theorem l4DrawKey_any (w : World) (s g : Nat) (a : Option Addr) (c : Nat) (xs : List Int) (t : Int) (t0 : 0 ≤ t) (t1 : t ≤ 5000) (hs : Src w s a xs.length c t) (hr : Rd w g a .u8 xs) (hne : 0 < xs.length → g ≠ s) (hb : Byt xs) (hl : xs.length ≤ 1048576) :
    Calls Tryz.prog 109 #[.pointer (some ⟨s, 0, none⟩)] w fun e w' => ∃ ys, Byt ys ∧ ys.length ≤ 64 ∧ NewRow w.heap.size w' e .u8 ys ∧ But s w w' ∧ SrcTo w' s a xs.length c (t + 400) := by
  have sl := hs.lt
  go_enter Tryz.func109, Tryz.ntmps109
  go_wp2_with fail
  refine (l1Chance_any w s g a c xs t 30 hs hr hne hb hl (by omega) (by omega) (by decide) (by decide)).mono ?_
  rintro e w1 ⟨b, rfl, S1, O1⟩
  have N1 : But s w w1 := But.ofOnly O1
  have z1 := hide O1.size
  cases b with
  | true =>
    go_wp2_with fail
    refine (l1Next_any w1 s g a c xs (t + 1) 2 S1 (hr.but N1 hne) hne hb hl (by omega) (by omega) (by decide) (by decide)).mono ?_
    rintro e w2 ⟨v, rfl, ⟨v0, v1⟩, S2, O2⟩
    have N2 := N1.only O2
    have z2 := hide O2.size
    obtain ⟨m, hm⟩ : ∃ m : Nat, (m : Int) = 31 + 2 * v := ⟨(31 + 2 * v).toNat, by omega⟩
    have e1 : IntKind.i64.wrap (2 * v) = 2 * v := by rw [IntKind.wrap_i64]; omega
    have e2 : IntKind.i64.wrap (31 + 2 * v) = 31 + 2 * v := by rw [IntKind.wrap_i64]; omega
    have DB := l1DrawBytes_any w2 s g a c xs (t + 1 + 1) m S2 (hr.but N2 hne) hne hb hl (by omega) (by omega)
    rw [hm] at DB
    have HM := hide hm
    clear hm
    go_wp2_with fail
    refine DB.mono ?_
    rintro e w3 ⟨ys, yl, yb, ⟨a3, c3, g3, rfl, o3, p3, q3, r3⟩, S3, N3⟩
    have N4 := N2.trans N3
    have YL := hide yl
    have zz := hide (show w.heap.size ≤ g3 by have := z1.out; have := z2.out; omega)
    clear DB yl
    go_wp2
    go_ret
    exact ⟨ys, yb, by have := YL.out; have := HM.out; omega, ⟨a3, c3, g3, rfl, o3, p3, q3, zz.out⟩, N4, ⟨_, by omega, by omega, S3⟩⟩
  | false =>
    go_wp2_with fail
    refine (l3Draw_any w1 s g a c xs (t + 1) (by omega) (by omega) S1 (hr.but N1 hne) hne hb hl).mono ?_
    rintro e w2 ⟨ys, yb, yl, ⟨a3, c3, g3, rfl, o3, p3, q3, r3⟩, N3, ⟨t3, t30, t31, S3⟩⟩
    have N4 := N1.trans N3
    have YL := hide yl
    have zz := hide (show w.heap.size ≤ g3 by have := z1.out; omega)
    clear yl
    go_wp2
    go_ret
    exact ⟨ys, yb, YL.out, ⟨a3, c3, g3, rfl, o3, p3, q3, zz.out⟩, N4, ⟨t3, t30, by omega, S3⟩⟩
end Go.Proofs.YtliahigljoeeoaaGreatDoor

/-
  The ladder's u, as it is drawn; DrawLadder.
-/
namespace Go.Proofs.YtliahigljoeeoaaGreatDoor
set_option maxRecDepth 100000
open Go Go.RowKit

/-- A list of bytes that the drawing made. -/
def Drawn (w : World) (s : Nat) (a : Option Addr) (n c : Nat) (m : Int) (v : Value) (wc : World) : Prop :=
  ∃ (ys : List Int) (b : Option Addr) (d h : Nat), v = .slice b ys.length d ∧ Byt ys ∧ ys.length ≤ 64 ∧ Own wc h b .u8 ys ∧ (b = none → d = 0) ∧ ys.length ≤ d ∧ w.heap.size ≤ h ∧ But s w wc ∧ SrcTo wc s a n c m

theorem or128 : ∀ n : Fin 256, 0 ≤ bits BinOp.or IntKind.u8 (n.val : Int) 128 ∧ bits BinOp.or IntKind.u8 (n.val : Int) 128 < 256 := by decide +kernel
theorem or_bd {y : Int} (h : 0 ≤ y ∧ y < 256) : 0 ≤ bits BinOp.or IntKind.u8 y 128 ∧ bits BinOp.or IntKind.u8 y 128 < 256 := by
  have := or128 ⟨y.toNat, by omega⟩
  simp only [Int.toNat_of_nonneg h.1] at this
  exact this
theorem byt_set5 {ys : List Int} (h : Byt ys) (i : Nat) {v : Int} (hv : 0 ≤ v ∧ v < 256) : Byt (ys.set i v) := fun j => by
  rw [List.getD_eq_getElem?_getD, List.getElem?_set]
  split
  · split
    · exact hv
    · simp
  · rw [← List.getD_eq_getElem?_getD]; exact h j
theorem Drawn.only {w W W' : World} {s : Nat} {a : Option Addr} {n c : Nat} {m m' : Int} {v : Value} (h : Drawn w s a n c m v W) (o : Only s W W') (S : SrcTo W' s a n c m') (hs : s < w.heap.size := by omega) : Drawn w s a n c m' v W' := by
  obtain ⟨ys, b, d, g, rfl, yb, yl, oy, p, q, z, N, _⟩ := h
  exact ⟨ys, b, d, g, rfl, yb, yl, oy.only o (fun _ => by omega), p, q, z, N.only o, S⟩
theorem Drawn.le {w W : World} {s : Nat} {a : Option Addr} {n c : Nat} {m m' : Int} {v : Value} (h : Drawn w s a n c m v W) (hm : m ≤ m') : Drawn w s a n c m' v W := by
  obtain ⟨ys, b, d, g, e, yb, yl, oy, p, q, z, N, t, t0, t1, S⟩ := h
  exact ⟨ys, b, d, g, e, yb, yl, oy, p, q, z, N, t, t0, by omega, S⟩
theorem toLad_len (xs ys : List Int) : (toLad xs ys).length ≤ 64 := by
  unfold toLad
  split
  · rw [fill_len]; omega
  · simp
theorem toLad_byt (xs ys : List Int) : Byt (toLad xs ys) := by
  unfold toLad
  split
  · exact bytes_5 _ _
  · exact byt_nil
theorem drawn_little {w W W' : World} {s : Nat} {a : Option Addr} {n c : Nat} {m : Int} {xs : List Int} (hb : Byt xs) (B : Blk W' W.heap.size .u8 (fill (dig xs) 32)) (z : w.heap.size ≤ W.heap.size) (N : But s w W') (S : SrcTo W' s a n c m) :
    Drawn w s a n c m (.slice (some ⟨W.heap.size, 0, none⟩) 32 32) W' :=
  ⟨fill (dig xs) 32, _, 32, W.heap.size, by rw [fill_len], dig_bytes hb 32, by rw [fill_len]; omega, B.own0, by simp, by rw [fill_len]; omega, z, N, S⟩

set_option maxHeartbeats 4000000 in
theorem l4DrawU_any (w : World) (s g : Nat) (a : Option Addr) (c : Nat) (xs : List Int) (t : Int) (t0 : 0 ≤ t) (t1 : t ≤ 5000) (hs : Src w s a xs.length c t) (hr : Rd w g a .u8 xs) (hne : 0 < xs.length → g ≠ s) (hb : Byt xs) (hl : xs.length ≤ 1048576) :
    Calls Tryz.prog 110 #[.pointer (some ⟨s, 0, none⟩)] w fun e w' => ∃ ys, Byt ys ∧ ys.length ≤ 64 ∧ NewRow w.heap.size w' e .u8 ys ∧ But s w w' ∧ SrcTo w' s a xs.length c (t + 400) := by
  have sl := hs.lt
  go_enter Tryz.func110, Tryz.ntmps110
  go_wp2_with fail
  refine (l1Next_any w s g a c xs t 8 hs hr hne hb hl (by omega) (by omega) (by decide) (by decide)).mono ?_
  rintro e w1 ⟨r, rfl, ⟨r0, r1⟩, S1, O1⟩
  have N1 : But s w w1 := But.ofOnly O1
  have z1 := hide O1.size
  clear hs O1
  by_cases h0 : r = 0
  · subst h0
    clear r0 r1
    go_wp2_with fail
    refine (l2DrawT_any w1 s g a c xs (t + 1) (by omega) (by omega) S1 (hr.but N1 hne) hne hb hl).mono ?_
    rintro e w2 ⟨ys, yb, yl, ⟨a3, c3, g3, rfl, o3, p3, q3, r3⟩, N3, ⟨t3, t30, t31, S3⟩⟩
    have N4 := N1.trans N3
    have YL := hide yl
    have zz := hide (show w.heap.size ≤ g3 by have := z1.out; omega)
    clear yl
    go_wp2
    go_ret
    exact ⟨ys, yb, YL.out, ⟨a3, c3, g3, rfl, o3, p3, q3, zz.out⟩, N4, ⟨t3, t30, by omega, S3⟩⟩
  · have q0 : (r == 0) = false := by simp [h0]
    by_cases h1 : r = 1
    · subst h1
      clear r0 r1 h0 q0
      go_wp2_with fail
      refine (l1Next_any w1 s g a c xs (t + 1) 3 S1 (hr.but N1 hne) hne hb hl (by omega) (by omega) (by decide) (by decide)).mono ?_
      rintro e w2 ⟨v, rfl, ⟨v0, v1⟩, S2, O2⟩
      have N2 := N1.only O2
      have z2 := hide O2.size
      go_wp2_with fail
      refine (l1Int_any w2 v v0 (by omega)).mono ?_
      rintro e w3 ⟨us, ul, ub, ⟨a3, c3, g3, rfl, o3, p3, q3, r3⟩, n3⟩
      have N3 := N2.up n3
      have S3 := S2.up n3
      go_wp2_with fail
      refine (l1Little_any w3 g3 a3 c3 us 32 o3.rd ub (by omega) (by omega)).mono ?_
      rintro e w4 ⟨rfl, B4, n4⟩
      have N4 := N3.up n4
      have S4 := S3.up n4
      have D4 : Drawn w s a xs.length c (t + 10) (.slice (some ⟨w3.heap.size, 0, none⟩) 32 32) w4 := drawn_little ub B4 (by have := N3.size; omega) N4 ⟨_, by omega, by omega, S4⟩
      clear B4 n4 S3 N3 o3 p3 q3 r3 n3 S2 N2 O2 z2 v0 v1 S1 N1 z1
      go_wp2_with fail
      refine (l1Chance_any w4 s g a c xs (t + 1 + 1) 2 S4 (hr.but N4 hne) hne hb hl (by omega) (by omega) (by decide) (by decide)).mono ?_
      rintro e w5 ⟨b, rfl, S5, O5⟩
      have N5 := N4.only O5
      have D5 : Drawn w s a xs.length c (t + 10) (.slice (some ⟨w3.heap.size, 0, none⟩) 32 32) w5 := D4.only O5 ⟨_, by omega, by omega, S5⟩
      clear D4 O5 S4 N4
      go_upto_if 19 with fail
      go_cut [4] (fun v wc => Drawn w s a xs.length c (t + 20) v wc)
      case first =>
        cases b with
        | true =>
          go_wp2_with fail
          refine (l2Prime_any w5).mono ?_
          rintro e w6 ⟨rfl, B6, n6⟩
          have N6 := N5.up n6
          have S6 := S5.up n6
          have k6 := N5.size
          go_wp2_with fail
          refine (l1Next_any w6 s g a c xs (t + 1 + 1 + 1) 2 S6 (hr.but N6 hne) hne hb hl (by omega) (by omega) (by decide) (by decide)).mono ?_
          rintro e w7 ⟨v, rfl, ⟨v0, v1⟩, S7, O7⟩
          have N7 := N6.only O7
          have B7 := B6.own0.only O7 (fun _ => by omega)
          have e1 : IntKind.i64.wrap (v + 1) = v + 1 := by rw [IntKind.wrap_i64]; omega
          go_wp2_with fail
          refine (l1Int1_any w7 (v + 1) (by omega) (by omega)).mono ?_
          rintro e w8 ⟨vs, rfl, ⟨a8, c8, g8, rfl, o8, p8, q8, r8⟩, n8⟩
          have N8 := N7.up n8
          have S8 := S7.up n8
          have B8 := B7.up n8
          have n9 : Below w8.heap.size w8 (w8.alloc (.cells #[.int .u8 1] 5)) := (Below.refl _ _).alloc (Nat.le_refl _) _
          have B9 := one_a w8 1
          have bv := byt_one (d := v + 1) (by omega) (by omega)
          have ev : bval [v + 1] = v + 1 := by simp [bval]
          have e1' : bval [1] = 1 := by decide
          go_wp2_with fail
          generalize w8.alloc (.cells #[.int .u8 1] 5) = w9 at *
          refine (l1Sub_any w9 g8 _ a8 _ c8 1 [v + 1] [1] (o8.up n9).rd B9.own0.rd bv (byt_one (by omega) (by omega)) (by simp) (by simp) (by rw [ev, e1']; omega)).mono ?_
          rintro e wA ⟨ms, CA, ⟨aA, cA, gA, rfl, oA, pA, qA, rA⟩, nA⟩
          have NA := (N8.up n9).up nA
          have SA := (S8.up n9).up nA
          have BA := (B8.up n9).up nA
          rw [ev, e1'] at CA
          have LA : ms.length ≤ 1 := CA.len (n := 1) (by simp; omega)
          go_wp2_with fail
          refine (l1Add_any wA _ gA _ aA 32 cA pbytes ms BA.rd oA.rd pbytes_byt CA.1 (by decide) (by omega)).mono ?_
          rintro e wB ⟨hs', CB, ⟨aB, cB, gB, rfl, oB, pB, qB, rB⟩, nB⟩
          have NB' := NA.up nB
          have SB := SA.up nB
          have LB : hs'.length ≤ 64 := CB.len (n := 64) (by
            rw [pbytes_val, CA.2.1]
            have : PP + (v + 1 - 1) ≤ PP + 255 := by omega
            exact Int.lt_of_le_of_lt this (by decide))
          go_wp2_with fail
          refine (l1Little_any wB gB aB cB hs' 32 oB.rd CB.1 (by omega) (by omega)).mono ?_
          rintro e wC ⟨rfl, BC, nC⟩
          have DC : Drawn w s a xs.length c (t + 20) (.slice (some ⟨wB.heap.size, 0, none⟩) 32 32) wC := drawn_little CB.1 BC (by have := NB'.size; omega) (NB'.up nC) ⟨_, by omega, by omega, SB.up nC⟩
          clear D5
          go_wp2_with fail
          go_meet
          exact DC
        | false =>
          go_wp2_with fail
          go_meet
          exact D5.le (by omega)
      case rest =>
        clear D5 S5 N5
        obtain ⟨ys, b1, d1, h1, rfl, yb, yl, oy, py, qy, ry, N5, ⟨t5, t50, t51, S5⟩⟩ := hcut
        go_wp2_with fail
        refine (l1Chance_any wc s g a c xs t5 3 S5 (hr.but N5 hne) hne hb hl (by omega) (by omega) (by decide) (by decide)).mono ?_
        rintro e w6 ⟨b, rfl, S6, O6⟩
        have D6 : Drawn w s a xs.length c (t + 30) (.slice b1 ys.length d1) w6 := (show Drawn w s a xs.length c (t + 20) _ wc from ⟨ys, b1, d1, h1, rfl, yb, yl, oy, py, qy, ry, N5, ⟨t5, t50, t51, S5⟩⟩).only O6 ⟨_, by omega, by omega, S6⟩
        have N6 := N5.only O6
        clear oy py qy ry S5 N5 O6 yb yl
        go_upto_if 30 with fail
        go_cut [4] (fun v wc => Drawn w s a xs.length c (t + 40) v wc)
        case first =>
          cases b with
          | true =>
            go_wp2_with fail
            refine (l2Prime_any w6).mono ?_
            rintro e w7 ⟨rfl, B7, n7⟩
            have N7 := N6.up n7
            have S7 := S6.up n7
            have n9 : Below w7.heap.size w7 (w7.alloc (.cells #[.int .u8 1] 5)) := (Below.refl _ _).alloc (Nat.le_refl _) _
            have B9 := one_a w7 1
            have e1' : bval [1] = 1 := by decide
            go_wp2_with fail
            generalize w7.alloc (.cells #[.int .u8 1] 5) = w9 at *
            refine (l1Sub_any w9 _ _ _ _ 32 1 pbytes [1] (B7.up n9).own0.rd B9.own0.rd pbytes_byt (byt_one (by omega) (by omega)) (by decide) (by decide) (by rw [pbytes_val, e1']; decide)).mono ?_
            rintro e wA ⟨ms, CA, ⟨aA, cA, gA, rfl, oA, pA, qA, rA⟩, nA⟩
            have NA := (N7.up n9).up nA
            have SA := (S7.up n9).up nA
            rw [pbytes_val, e1'] at CA
            have LA : ms.length ≤ 64 := CA.len (n := 64) (by decide)
            go_wp2_with fail
            refine (l1Little_any wA gA aA cA ms 32 oA.rd CA.1 (by omega) (by omega)).mono ?_
            rintro e wC ⟨rfl, BC, nC⟩
            have DC : Drawn w s a xs.length c (t + 40) (.slice (some ⟨wA.heap.size, 0, none⟩) 32 32) wC := drawn_little CA.1 BC (by have := NA.size; omega) (NA.up nC) ⟨_, by omega, by omega, SA.up nC⟩
            clear D6
            go_wp2_with fail
            go_meet
            exact DC
          | false =>
            go_wp2_with fail
            go_meet
            exact D6.le (by omega)
        case rest =>
          clear D6 S6 N6 t50 t51
          obtain ⟨ys, b1, d1, h1, rfl, yb, yl, oy, py, qy, ry, N5, ⟨t5, t50, t51, S5⟩⟩ := hcut
          go_wp2_with fail
          refine (l1Chance_any wc s g a c xs t5 3 S5 (hr.but N5 hne) hne hb hl (by omega) (by omega) (by decide) (by decide)).mono ?_
          rintro e w6 ⟨b, rfl, S6, O6⟩
          have D6 : Drawn w s a xs.length c (t + 50) (.slice b1 ys.length d1) w6 := (show Drawn w s a xs.length c (t + 40) _ wc from ⟨ys, b1, d1, h1, rfl, yb, yl, oy, py, qy, ry, N5, ⟨t5, t50, t51, S5⟩⟩).only O6 ⟨_, by omega, by omega, S6⟩
          have N6 := N5.only O6
          clear oy py qy ry S5 N5 O6 yb yl
          go_upto_if 36 with fail
          go_cut [4] (fun v wc => Drawn w s a xs.length c (t + 60) v wc)
          case first =>
            cases b with
            | true =>
              go_wp2_with fail
              refine (l1Next_any w6 s g a c xs (t5 + 1) 8 S6 (hr.but N6 hne) hne hb hl (by omega) (by omega) (by decide) (by decide)).mono ?_
              rintro e w7 ⟨v, rfl, ⟨v0, v1⟩, S7, O7⟩
              have N7 := N6.only O7
              go_wp2_with fail
              refine (l5Small_any w7 v v0 (by omega)).mono ?_
              rintro e w8 ⟨px, py, ⟨a8, a9, c8, c9, g8, g9, rfl, o8, o9, r8, r9⟩, ⟨bx, -⟩, ⟨bY, -⟩, n8⟩
              have N8 := N7.up n8
              have S8 := S7.up n8
              go_wp2_with fail
              refine (pointToLadder_any w8 g8 g9 a8 a9 c8 c9 px py o8.rd o9.rd bx bY).mono ?_
              rintro e wC ⟨⟨aC, cC, gC, rfl, oC, pC, qC, rC⟩, nC⟩
              have DC : Drawn w s a xs.length c (t + 60) (.slice aC (toLad px py).length cC) wC := ⟨_, aC, cC, gC, rfl, toLad_byt px py, toLad_len px py, oC, pC, qC, by have := N8.size; omega, N8.up nC, ⟨_, by omega, by omega, S8.up nC⟩⟩
              clear D6 oC o8 o9
              generalize toLad px py = zs at *
              go_wp2_with fail
              go_meet
              exact DC
            | false =>
              go_wp2_with fail
              go_meet
              exact D6.le (by omega)
          case rest =>
            clear D6 S6 N6
            obtain ⟨zs, b2, d2, h2, rfl, zb, zl, oz, pz, qz, rz, N9, ⟨t9, t90, t91, S9⟩⟩ := hcut
            have ZL := hide zl
            clear zl
            go_wp2
            go_ret
            exact ⟨zs, zb, ZL.out, ⟨b2, d2, h2, rfl, oz, pz, qz, rz⟩, N9, ⟨t9, t90, by omega, S9⟩⟩
    · have q1 : (r == 1) = false := by simp [h1]
      have DB := l1DrawBytes_any w1 s g a c xs (t + 1) 32 S1 (hr.but N1 hne) hne hb hl (by omega) (by omega)
      go_wp2_with fail
      refine DB.mono ?_
      rintro e w2 ⟨ys, yl, yb, ⟨a3, c3, g3, rfl, o3, p3, q3, r3⟩, S3, N3⟩
      have N4 := N1.trans N3
      have zz := hide (show w.heap.size ≤ g3 by have := z1.out; omega)
      have zs := hide (show s < w1.heap.size by have := z1.out; omega)
      clear DB
      by_cases h2 : r = 2
      · subst h2
        have y31 : 31 < ys.length := by omega
        obtain ⟨off, rfl, hc⟩ := o3 (by omega)
        have c31 := (hc 31 y31).1
        have f31 := (hc 31 y31).2
        have yb31 := yb 31
        have OB := or_bd yb31
        have OS := o3.store 31 y31 (bits BinOp.or IntKind.u8 (ys.getD 31 0) 128)
        have SS := hide (byt_set5 yb 31 OB)
        have LS := hide (show (ys.set 31 (bits BinOp.or IntKind.u8 (ys.getD 31 0) 128)).length = ys.length from List.length_set)
        have ww : IntKind.u8.wrap (bits BinOp.or IntKind.u8 (ys.getD 31 0) 128) = bits BinOp.or IntKind.u8 (ys.getD 31 0) 128 := by rw [IntKind.wrap_u8]; omega
        have i31 : (31 : Int) < (ys.length : Int) := by omega
        have YL := hide yl
        have NS : But s w (w2.setCell ⟨g3, off + 31, none⟩ (.int .u8 (bits BinOp.or IntKind.u8 (ys.getD 31 0) 128))) := N4.setCell zz.out
        have SN := S3.of_block (w' := w2.setCell ⟨g3, off + 31, none⟩ (.int .u8 (bits BinOp.or IntKind.u8 (ys.getD 31 0) 128))) (heap_setCell_other w2 ⟨g3, off + 31, none⟩ s _ (by show s ≠ g3; have := zs.out; omega))
        clear hc yl o3 y31 q0 q1 h0 h1 r0 r1 S3 N3 N4
        generalize ys.set 31 (bits BinOp.or IntKind.u8 (ys.getD 31 0) 128) = ys' at *
        generalize ys.getD 31 0 = y at *
        go_wp2
        go_ret
        exact ⟨ys', SS.out, by have := LS.out; have := YL.out; omega, ⟨_, c3, g3, by rw [LS.out]; rfl, OS, by simp, by have := LS.out; omega, zz.out⟩, NS, ⟨_, by omega, by omega, SN⟩⟩
      · have q2 : (r == 2) = false := by simp [h2]
        have YL := hide yl
        clear yl
        go_wp2
        go_ret
        exact ⟨ys, yb, by have := YL.out; omega, ⟨a3, c3, g3, rfl, o3, p3, q3, zz.out⟩, N4, ⟨_, by omega, by omega, S3⟩⟩

set_option maxHeartbeats 2000000 in
theorem drawLadder_any (w : World) (g : Nat) (a : Option Addr) (c : Nat) (code : List Int) (hr : Rd w g a .u8 code) (hb : Byt code) (hl : code.length ≤ 1048576) :
    Calls Tryz.prog 56 #[.slice a code.length c] w fun e w' => ∃ (a1 a2 : Option Addr) (c1 c2 g1 g2 : Nat) (xs ys : List Int), e = .returned (.tuple #[.slice a1 xs.length c1, .slice a2 ys.length c2]) ∧ Own w' g1 a1 .u8 xs ∧ Own w' g2 a2 .u8 ys ∧ Byt xs ∧ Byt ys ∧ Below w.heap.size w w' := by
  have hne : 0 < code.length → g ≠ w.heap.size := fun h => by have := hr.lt h; omega
  go_enter Tryz.func56, Tryz.ntmps56
  go_wp2_with fail
  refine (l1Source_any w a code.length c hl).mono ?_
  rintro e w1 ⟨rfl, S1, n1⟩
  have sl := S1.lt
  go_wp2_with fail
  refine (l4DrawKey_any w1 w.heap.size g a c code 0 (by omega) (by omega) S1 (hr.up n1) hne hb hl).mono ?_
  rintro e w2 ⟨xs, xb, xl, ⟨a1, c1, g1, rfl, o1, p1, q1, r1⟩, N2, ⟨t2, t20, t21, S2⟩⟩
  have m2 := N2.size
  have n12 : Below w.heap.size w1 w2 := N2.below (Nat.le_refl _) (by omega)
  have K2 := n1.trans n12
  go_wp2_with fail
  refine (l4DrawU_any w2 w.heap.size g a c code t2 t20 (by omega) S2 (hr.up K2) hne hb hl).mono ?_
  rintro e w3 ⟨ys, yb, yl, ⟨a2, c2, g2, rfl, o2, p2, q2, r2⟩, N3, ⟨t3, t30, t31, S3⟩⟩
  have n23 : Below w.heap.size w2 w3 := N3.below (Nat.le_refl _) (by omega)
  have K3 := K2.trans n23
  have o1a := o1.but N3 (fun _ => by omega)
  clear N2 N3 S1 S2 S3 n1 n12 n23 K2 o1
  go_wp2
  go_ret2
  exact ⟨a1, a2, c1, c2, g1, g2, xs, ys, rfl, o1a, o2, xb, yb, K3⟩
end Go.Proofs.YtliahigljoeeoaaGreatDoor

/-
  Six lists of thirty-two drawn bytes, the first and the third in blocks of their own.
-/
namespace Go.Proofs.YtliahigljoeeoaaGreatDoor
set_option maxRecDepth 100000
open Go Go.RowKit

theorem lw32Y_any (w : World) (g : Nat) (a : Option Addr) (c : Nat) (xs : List Int) (ha : Rd w g a .u8 xs) :
    Calls Tryz.prog 9 #[.slice a xs.length c] w fun e w' => e = .returned (.slice (some ⟨w.heap.size, 0, none⟩) (to32 xs).length 32) ∧ Blk w' w.heap.size .u8 (to32 xs) ∧ Below w.heap.size w w' := by
  rw [to32_len]
  exact lw32_any w g a c xs ha
theorem cell_newY (w : World) (cs : Array Value) (t : TypeId) (i : Nat) (v : Value) (h : cs[i]? = some v) : (w.alloc (.cells cs t)).cell? ⟨w.heap.size, i, none⟩ = some v := by
  have e : (w.alloc (.cells cs t)).heap[w.heap.size]? = some (.cells cs t) := heap_alloc_last _ _
  unfold World.cell?
  simp only
  rw [e]
  exact h
theorem Own.alY {W : World} {g : Nat} {a : Option Addr} {k : IntKind} {xs : List Int} (h : Own W g a k xs) (o : Obj) : Own (W.alloc o) g a k xs := h.up ((Below.refl _ _).alloc (Nat.le_refl _) _)
/-- The first three of them. -/
def SixY (w : World) (e : Ending) (w' : World) : Prop := ∃ (q g1 g2 g3 : Nat) (X Y Z : List Int), e = .returned (.slice (some ⟨q, 0, none⟩) 6 6) ∧ w'.cell? ⟨q, 0, none⟩ = some (.slice (some ⟨g1, 0, none⟩) X.length 32) ∧ w'.cell? ⟨q, 1, none⟩ = some (.slice (some ⟨g2, 0, none⟩) Y.length 32) ∧ w'.cell? ⟨q, 2, none⟩ = some (.slice (some ⟨g3, 0, none⟩) Z.length 32) ∧
  Own w' g1 (some ⟨g1, 0, none⟩) .u8 X ∧ Own w' g2 (some ⟨g2, 0, none⟩) .u8 Y ∧ Own w' g3 (some ⟨g3, 0, none⟩) .u8 Z ∧ Hid ((Byt X ∧ X.length = 32) ∧ (Byt Y ∧ Y.length = 32) ∧ (Byt Z ∧ Z.length = 32)) ∧ Hid (w.heap.size ≤ g1 ∧ g1 < g3 ∧ g3 < q) ∧ Below w.heap.size w w'

set_option maxHeartbeats 4000000 in
theorem lwSixY_any (w : World) (g g' : Nat) (a b : Option Addr) (ca cb : Nat) (code more : List Int) (hc : Rd w g a .u8 code) (hm : Rd w g' b .u8 more) (bc : Byt code) (bm : Byt more) (lc : code.length ≤ 1048576) (lm : more.length ≤ 1048576) :
    Calls Tryz.prog 25 #[.slice a code.length ca, .slice b more.length cb] w fun e w' => SixY w e w' := by
  go_enter Tryz.func25, Tryz.ntmps25
  go_wp2_with fail
  refine (drawFieldMul_any w g a ca code hc bc lc).mono ?_
  rintro e w1 ⟨a1, a2, c1, c2, g1, g2, x1, x2, rfl, o1, o2, b1, b2, n1⟩
  go_wp2_with fail
  refine (drawFieldMul_any w1 g' b cb more (hm.up n1) bm lm).mono ?_
  rintro e w2 ⟨a3, a4, c3, c4, g3, g4, x3, x4, rfl, o3, o4, b3, b4, n2⟩
  have N2 := nxt n1 n2
  go_wp2_with fail
  refine (drawLadder_any w2 g a ca code (hc.up N2) bc lc).mono ?_
  rintro e w3 ⟨a5, a6, c5, c6, g5, g6, x5, x6, rfl, o5, o6, b5, b6, n3⟩
  have N3 := nxt N2 n3
  replace o1 := (o1.up n2).up n3
  replace o2 := (o2.up n2).up n3
  replace o3 := o3.up n3
  replace o4 := o4.up n3
  clear n1 n2 n3 N2
  go_wp2_with fail
  refine (lw32Y_any w3 g1 a1 c1 x1 o1.rd).mono ?_
  rintro e w4 ⟨rfl, B4, n4⟩
  go_wp2_with fail
  refine (lw32Y_any w4 g2 a2 c2 x2 (o2.up n4).rd).mono ?_
  rintro e w5 ⟨rfl, B5, n5⟩
  go_wp2_with fail
  refine (lw32Y_any w5 g3 a3 c3 x3 ((o3.up n4).up n5).rd).mono ?_
  rintro e w6 ⟨rfl, B6, n6⟩
  have M6 := nxt (nxt n4 n5) n6
  have P4 := (B4.up n5).up n6
  have P5 := B5.up n6
  have N6 := nxt N3 M6
  have HS : Hid (w.heap.size ≤ w3.heap.size ∧ w3.heap.size < w5.heap.size ∧ w5.heap.size < w6.heap.size) := ⟨N3.size, by have := B4.lt; have := n5.size; omega, B6.lt⟩
  replace o4 := o4.up M6
  replace o5 := o5.up M6
  replace o6 := o6.up M6
  have HB := hide (show (Byt (to32 x1) ∧ (to32 x1).length = 32) ∧ (Byt (to32 x2) ∧ (to32 x2).length = 32) ∧ (Byt (to32 x3) ∧ (to32 x3).length = 32) from ⟨⟨to32_byt b1, to32_len _⟩, ⟨to32_byt b2, to32_len _⟩, to32_byt b3, to32_len _⟩)
  generalize to32 x1 = X at *
  generalize to32 x2 = Y at *
  generalize to32 x3 = Z at *
  clear o1 o2 o3 b1 b2 b3 B4 B5 n4 n5 n6 M6 N3
  obtain ⟨q1, h1⟩ : ∃ q, q = w3.heap.size := ⟨_, rfl⟩
  obtain ⟨q2, h2⟩ : ∃ q, q = w4.heap.size := ⟨_, rfl⟩
  obtain ⟨q3, h3⟩ : ∃ q, q = w5.heap.size := ⟨_, rfl⟩
  rw [← h1] at P4 ⊢
  rw [← h2] at P5 ⊢
  rw [← h3] at B6 ⊢
  rw [← h1, ← h3] at HS
  clear h1 h2 h3
  go_wp2_with fail
  refine (lw32Y_any w6 g4 a4 c4 x4 o4.rd).mono ?_
  rintro e w7 ⟨rfl, -, n7⟩
  go_wp2_with fail
  refine (lw32Y_any w7 g5 a5 c5 x5 (o5.up n7).rd).mono ?_
  rintro e w8 ⟨rfl, -, n8⟩
  go_wp2_with fail
  refine (lw32Y_any w8 g6 a6 c6 x6 ((o6.up n7).up n8).rd).mono ?_
  rintro e w9 ⟨rfl, -, n9⟩
  have M9 := nxt (nxt n7 n8) n9
  have O4 := (P4.up M9).own0
  have O5 := (P5.up M9).own0
  have O6 := (B6.up M9).own0
  have N9 := nxt N6 M9
  have HS2 : Hid (w.heap.size ≤ q1 ∧ q1 < q3 ∧ q3 < w9.heap.size) := ⟨HS.out.1, HS.out.2.1, by have := HS.out.2.2; have := M9.size; omega⟩
  clear HS
  clear P4 P5 B6 N6 M9 n7 n8 n9 o4 o5 o6
  go_wp2
  go_ret
  exact ⟨w9.heap.size, q1, q2, q3, X, Y, Z, rfl, cell_newY _ _ _ 0 _ rfl, cell_newY _ _ _ 1 _ rfl, cell_newY _ _ _ 2 _ rfl, O4.alY _, O5.alY _, O6.alY _, HB, HS2.out, N9.alloc N9.size _⟩
end Go.Proofs.YtliahigljoeeoaaGreatDoor

/-
  impl.readNatural, natural.trim, natural.compare: bytes into limbs, and limbs compared.
-/
namespace Go.Proofs.YtliahigljoeeoaaGreatDoor
set_option maxRecDepth 100000
open Go.RowKit
theorem Tryz.info124 : (Tryz.prog.info? 124).map (fun i => (i.zero, i.size, i.bytes)) = some (some (.int .u32 0), 1, 4) := by kernel_rfl

theorem or_mul1 (a b i m : Nat) (hm : m = 2 ^ i) (h : a < m) : a ||| (b * m) = b * m + a := by
  subst hm
  rw [Nat.or_comm, ← Nat.shiftLeft_eq, Nat.shiftLeft_add_eq_or_of_lt h]
theorem or32 (z x : Int) (i m : Nat) (hm : m = 2 ^ i) (z0 : 0 ≤ z) (z1 : z < (m : Int)) (x0 : 0 ≤ x) (x1 : x * (m : Int) < 4294967296) (m1 : m ≤ 4294967296) :
    bits BinOp.or IntKind.u32 z (x * (m : Int)) = z + x * (m : Int) := by
  obtain ⟨a, rfl⟩ := Int.eq_ofNat_of_zero_le z0
  obtain ⟨b, rfl⟩ := Int.eq_ofNat_of_zero_le x0
  have e : (b : Int) * (m : Int) = ((b * m : Nat) : Int) := by simp
  rw [e] at x1 ⊢
  rw [u32_or_nat a (b * m) (by omega) (by omega), or_mul1 a b i m hm (by omega)]
  omega

/-- The lowest k bytes stand in the limbs. -/
def ReadTo (xs zs : List Int) (k : Nat) : Prop := zs.length = (xs.length + 3) / 4 ∧ Lmb zs ∧ lval zs = lo xs k
theorem ReadTo.small {xs zs : List Int} {k : Nat} (h : ReadTo xs zs k) (hb : Byt xs) : zs.getD (k / 4) 0 < 256 ^ (k % 4) := by
  obtain ⟨h1, h2, h3⟩ := h
  have l1 := limb_le h2 (k / 4)
  have l2 := (lo_bd hb k).2
  have hp := p256_4 (k % 4) (k / 4)
  rw [show 4 * (k / 4) + k % 4 = k by omega] at hp
  rw [h3] at l1
  rw [hp, Int.mul_comm] at l2
  have pp := p32_pos (k / 4)
  by_cases c : zs.getD (k / 4) 0 < 256 ^ (k % 4)
  · exact c
  · have : 256 ^ (k % 4) * (4294967296 : Int) ^ (k / 4) ≤ zs.getD (k / 4) 0 * 4294967296 ^ (k / 4) := Int.mul_le_mul_of_nonneg_right (by omega) (by omega)
    omega
theorem ReadTo.step {xs zs : List Int} {k : Nat} (h : ReadTo xs zs k) (hk : k < xs.length) (v : Int) (hv : v = zs.getD (k / 4) 0 + dig xs k * 256 ^ (k % 4)) (v0 : 0 ≤ v) (v1 : v < 4294967296) :
    ReadTo xs (zs.set (k / 4) v) (k + 1) := by
  obtain ⟨h1, h2, h3⟩ := h
  refine ⟨by simpa using h1, lmb_set h2 _ _ v0 v1, ?_⟩
  have hp := p256_4 (k % 4) (k / 4)
  rw [show 4 * (k / 4) + k % 4 = k by omega] at hp
  rw [lval_set v zs (k / 4) (by omega), h3, lo, hp, hv, Int.mul_comm (4294967296 ^ (k / 4)), ← Int.mul_assoc]
  congr 2
  omega

/-- From place s on there is nothing. -/
def ZeroFrom (zs : List Int) (s : Nat) : Prop := ∀ j, s ≤ j → zs.getD j 0 = 0
theorem ZeroFrom.all (zs : List Int) : ZeroFrom zs zs.length := fun j hj => by simp [hj]
theorem ZeroFrom.step {zs : List Int} {s : Nat} (h : ZeroFrom zs (s + 1)) (hz : zs.getD s 0 = 0) : ZeroFrom zs s := fun j hj => by
  by_cases e : j = s
  · rw [e]; exact hz
  · exact h j (by omega)

set_option maxHeartbeats 400000 in
theorem trim_any (w : World) (g off cap : Nat) (zs : List Int) (hr : Rd w g (some ⟨g, off, none⟩) .u32 zs) (hcap : zs.length ≤ cap) (hn : zs.length ≤ 4096) :
    Calls Tryz.prog 92 #[.slice (some ⟨g, off, none⟩) zs.length cap] w fun e w' => ∃ s : Nat, s ≤ zs.length ∧ e = .returned (.slice (some ⟨g, off, none⟩) s cap) ∧ ZeroFrom zs s ∧ (0 < s → zs.getD (s - 1) 0 ≠ 0) ∧ w' = w := by
  go_enter Tryz.func92, Tryz.ntmps92
  go_wp2
  go_loop [3] (fun i => ∃ s : Nat, s ≤ zs.length ∧ i = .int .i64 s ∧ ZeroFrom zs s) (fun i => (intOf i).toNat)
  case atStart => exact ⟨_, Nat.le_refl _, rfl, ZeroFrom.all zs⟩
  case round =>
    obtain ⟨s, hs, rfl, hz⟩ := hrel
    by_cases h0 : s = 0
    · subst h0
      go_wp2
      go_ret
      exact ⟨0, Nat.zero_le _, rfl, hz, by simp, rfl⟩
    · obtain ⟨t, rfl⟩ : ∃ t, s = t + 1 := ⟨s - 1, by omega⟩
      obtain ⟨off', ha, hc⟩ := hr (by omega)
      simp only [Option.some.injEq, Addr.mk.injEq, true_and, and_true] at ha
      subst ha
      have hcz := hc t (by omega)
      clear hc
      have R := hz.step
      obtain ⟨z, hzz⟩ : ∃ z, z = zs.getD t 0 := ⟨_, rfl⟩
      rw [← hzz] at hcz R
      have Hz : Hid (z = zs.getD t 0) := hzz
      clear hzz
      by_cases hz0 : z = 0
      · have R' := R hz0
        subst hz0
        clear R hz Hz
        go_wp2
        go_round
        case rel => exact ⟨t, by omega, by go_num, R'⟩
        case measure => simp [intOf]
      · have hz1 : (z == 0) = false := by simp [hz0]
        clear R
        go_wp2
        go_ret
        exact ⟨t + 1, hs, rfl, hz, fun _ => by have h := Hz.out; simp at h ⊢; rw [← h]; exact hz0, rfl⟩

set_option maxHeartbeats 1000000 in
theorem readNatural_any (w : World) (g : Nat) (a : Option Addr) (cap : Nat) (xs : List Int) (hr : Rd w g a .u8 xs) (hb : Byt xs) (hn : xs.length ≤ 128) :
    Calls Tryz.prog 44 #[.slice a xs.length cap] w fun e w' => ∃ (zs : List Int) (ca : Nat), zs.length ≤ ca ∧ ca ≤ 32 ∧ e = .returned (.slice (some ⟨w.heap.size, 0, none⟩) zs.length ca) ∧
      Own w' w.heap.size (some ⟨w.heap.size, 0, none⟩) .u32 zs ∧ Lmb zs ∧ Top zs ∧ lval zs = bval xs ∧ Below w.heap.size w w' ∧ w.heap.size < w'.heap.size := by
  obtain ⟨i0, hi, hz0, hz1, hz2⟩ := info_parts Tryz.info124
  go_enter Tryz.func44, Tryz.ntmps44
  go_wp2_with (at_make; refine wpList_make_full _ rfl _ _ 66 rfl w.heap.size 124 i0 (.int .u32 0) 1 Tryz.underlying66 hi hz0 hz1 .i64 .i64 _ _ ((xs.length + 3) / 4) rfl rfl (by omega) (by omega) (by rw [hz2]; omega) (by unfold maxLen; omega) (Nat.le_refl _) ?_; intro w1 hown hgrow)
  have hB0 := Blk.of_made hown
  have hN0 : Below w.heap.size w w1 := (Below.refl _ _).grown hgrow (Nat.le_refl _) (by simp)
  clear hown hgrow
  go_loopw [14] (fun i wr => ∃ (k : Nat) (zs : List Int), k ≤ xs.length ∧ i = .int .i64 k ∧ ReadTo xs zs k ∧ Blk wr w.heap.size .u32 zs ∧ Below w.heap.size w wr) (fun i _ => xs.length - (intOf i).toNat)
  case atStart => exact ⟨0, _, Nat.zero_le _, rfl, ⟨by simp, lmb_zeros _, lval_zeros _⟩, hB0, hN0⟩
  case round =>
    obtain ⟨k, zs, hk, rfl, hcp, hB, hN⟩ := hrel
    by_cases hlt : k < xs.length
    · obtain ⟨off, rfl, hc⟩ := hr (by omega)
      have hg := hr.lt (by omega)
      have hsm := hcp.small hb
      have hst := hcp.step hlt
      obtain ⟨q, hq⟩ : ∃ q : Nat, k / 4 = q := ⟨_, rfl⟩
      have hql : q < zs.length := by rw [hcp.1]; omega
      rw [hq] at hsm hst
      have hcx : wr.cell? ⟨g, off + (xs.length - 1 - k), none⟩ = some (.int .u8 (dig xs k)) := (hN.cell (p := ⟨g, off + (xs.length - 1 - k), none⟩) hg).trans (by rw [hc _ (by omega)]; simp [dig, hlt])
      have hcy : wr.cell? ⟨w.heap.size, q, none⟩ = some (.int .u32 (zs.getD q 0)) := hB.cell hql
      have hfy := hB.free q
      have hd := dig_byt hb k
      have hz := hcp.2.1 q
      obtain ⟨p, hp⟩ : ∃ p : Nat, xs.length - 1 - k = p := ⟨_, rfl⟩
      rw [hp] at hcx
      have p1 : (xs.length : Int) - 1 - (k : Int) = (p : Int) := by omega
      have p2 : (p : Int) < (xs.length : Int) := by omega
      have q1 : (k : Int) / 4 = (q : Int) := by omega
      have q2 : (q : Int) < (((xs.length + 3) / 4 : Nat) : Int) := by omega
      have hSt := fun v => hB.store q v
      have hSn : ∀ v, Below w.heap.size w (wr.setCell ⟨w.heap.size, q, none⟩ v) := fun v => hN.setCell (Nat.le_refl _) v
      generalize dig xs k = x at *
      generalize zs.getD q 0 = z at *
      clear hp hc hcp hB hN hb
      rcases (show k % 4 = 0 ∨ k % 4 = 1 ∨ k % 4 = 2 ∨ k % 4 = 3 by omega) with h4 | h4 | h4 | h4
      · have r1 : (k : Int) % 4 = 0 := by omega
        rw [h4] at hsm hst
        have e := or32 z x 0 1 (by decide) hz.1 (by simpa using hsm) hd.1 (by omega) (by decide)
        simp only [Int.natCast_one, Int.mul_one] at e
        have R := hst (bits BinOp.or IntKind.u32 z x) (by rw [e]; simp) (by omega) (by simp at hsm; omega)
        have S := hSt (bits BinOp.or IntKind.u32 z x)
        clear hst hSt e hsm
        go_wp2
        go_region
        go_wp2
        go_roundw
        case rel => exact ⟨k + 1, _, by omega, by go_num, R, S.drew, (hSn _).drew⟩
        case measure => simp [intOf]; omega
      · have r1 : (k : Int) % 4 = 1 := by omega
        rw [h4] at hsm hst
        have e := or32 z x 8 256 (by decide) hz.1 (by simpa using hsm) hd.1 (by omega) (by decide)
        have e' : bits BinOp.or IntKind.u32 z (x * 256) = z + x * 256 := e
        have R := hst (bits BinOp.or IntKind.u32 z (x * 256)) (by rw [e']; simp) (by omega) (by simp at hsm; omega)
        have S := hSt (bits BinOp.or IntKind.u32 z (x * 256))
        clear hst hSt e hsm e'
        go_wp2
        go_region
        go_wp2
        go_roundw
        case rel => exact ⟨k + 1, _, by omega, by go_num, R, S.drew, (hSn _).drew⟩
        case measure => simp [intOf]; omega
      · have r1 : (k : Int) % 4 = 2 := by omega
        rw [h4] at hsm hst
        have e := or32 z x 16 65536 (by decide) hz.1 (by simpa using hsm) hd.1 (by omega) (by decide)
        have e' : bits BinOp.or IntKind.u32 z (x * 65536) = z + x * 65536 := e
        have R := hst (bits BinOp.or IntKind.u32 z (x * 65536)) (by rw [e']; simp) (by omega) (by simp at hsm; omega)
        have S := hSt (bits BinOp.or IntKind.u32 z (x * 65536))
        clear hst hSt e hsm e'
        go_wp2
        go_region
        go_wp2
        go_roundw
        case rel => exact ⟨k + 1, _, by omega, by go_num, R, S.drew, (hSn _).drew⟩
        case measure => simp [intOf]; omega
      · have r1 : (k : Int) % 4 = 3 := by omega
        rw [h4] at hsm hst
        have e := or32 z x 24 16777216 (by decide) hz.1 (by simpa using hsm) hd.1 (by omega) (by decide)
        have e' : bits BinOp.or IntKind.u32 z (x * 16777216) = z + x * 16777216 := e
        have R := hst (bits BinOp.or IntKind.u32 z (x * 16777216)) (by rw [e']; simp) (by omega) (by simp at hsm; omega)
        have S := hSt (bits BinOp.or IntKind.u32 z (x * 16777216))
        clear hst hSt e hsm e'
        go_wp2
        go_region
        go_wp2
        go_roundw
        case rel => exact ⟨k + 1, _, by omega, by go_num, R, S.drew, (hSn _).drew⟩
        case measure => simp [intOf]; omega
    · obtain rfl : k = xs.length := by omega
      obtain ⟨c1, c2, c3⟩ := hcp
      have ho := hB.own0
      have hl : Hid ((xs.length + 3) / 4 = zs.length) := c1.symm
      clear c1
      go_wp2_with fail
      rw [hl.out]
      refine (trim_any wr w.heap.size 0 zs.length zs ho.rd (Nat.le_refl _) (by rw [← hl.out]; omega)).mono ?_
      rintro e w' ⟨s, hs, rfl, hzf, htop, rfl⟩
      go_wp2
      go_ret
      have hlen : (zs.take s).length = s := by simp; omega
      refine ⟨zs.take s, zs.length, by omega, by rw [← hl.out]; omega, ret_slice hlen.symm, ?_, lmb_take c2 s, ?_, ?_, hN, hB.lt⟩
      · refine hB.own 0 (by omega) (fun i hi => ?_)
        rw [hlen] at hi
        simp [hi]
      · intro h0
        rw [hlen] at h0 ⊢
        have := htop h0
        simpa [List.getElem?_take, show s - 1 < s by omega] using this
      · rw [lval_take zs s hzf, c3, lo_all xs _ (Nat.le_refl _)]
end Go.Proofs.YtliahigljoeeoaaGreatDoor
