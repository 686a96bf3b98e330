import Derived.Test.YtkglcainhkbgbaaGreatDoorSG5
import Derived.Test.YtkglcainhkbgbaaGreatDoorSG6
import Derived.Laws.AppendOwnNone
import Derived.Deep.MidRow
import Derived.Test.YtkglcainhkbgbaaGreatDoorSG10
import Derived.Test.YtkglcainhkbgbaaGreatDoorSG11
import Derived.Test.YtkglcainhkbgbaaGreatDoorSG42
import Derived.Test.YtkglcainhkbgbaaGreatDoorSG41
import Derived.Test.YtkglcainhkbgbaaGreatDoorSG24
namespace Go.Proofs.YtkglcainhkbgbaaGreatDoor
set_option maxRecDepth 100000
open Go.RowKit
set_option maxHeartbeats 1000000 in
theorem withoutZeros_any (w : World) (g : Nat) (a : Option Addr) (cap : Nat) (xs : List Int) (hr : Rd w g a .u8 xs) (hb : Byt xs) (hcap : xs.length ≤ cap) (hn : xs.length ≤ 1048576) :
    Calls Tryz.prog 30 #[.slice a xs.length cap] w fun e w' => ∃ ys, Canon ys (bval xs) ∧ ys.length ≤ xs.length ∧ e = .returned (.slice (some ⟨w.heap.size, 0, none⟩) ys.length ys.length) ∧ Blk w' w.heap.size .u8 ys ∧ Below w.heap.size w w' := by
  obtain ⟨i0, hi, hz0, hz1, hz2⟩ := info_parts Tryz.info5
  have hsz : (Tryz.prog.info? 5).map (·.size) = some 1 := by rw [hi]; simp [hz1]
  go_enter Tryz.func30, Tryz.ntmps30
  go_wp2
  go_loop [3] (fun i => ∃ k : Nat, k ≤ xs.length ∧ i = .int .i64 k ∧ ZeroTo xs k) (fun i => xs.length - (intOf i).toNat)
  case atStart => exact ⟨0, Nat.zero_le _, rfl, fun j hj => absurd hj (by omega)⟩
  case round =>
    obtain ⟨k, hk, rfl, hz⟩ := hrel
    by_cases hlt : k < xs.length
    · obtain ⟨off, rfl, hcc⟩ := hr (by omega)
      have hcx := hcc k hlt
      have R := hz.step
      obtain ⟨x, hx⟩ : ∃ x, x = xs.getD k 0 := ⟨_, rfl⟩
      rw [← hx] at hcx R
      have Hx : Hid (x = xs.getD k 0) := hx
      clear hx
      by_cases h0 : x = 0
      · have R' := R h0
        subst h0
        clear R hcc Hx hz
        go_wp2
        go_round
        case rel => exact ⟨k + 1, by omega, by go_num, R'⟩
        case measure => simp [intOf]; omega
      · have h1 : (x == 0) = false := by simp [h0]
        have C := hz.canon hb (fun _ => by rw [← Hx.out]; exact h0)
        have hr' : Rd w g (some ⟨g, off + k, none⟩) .u8 (xs.drop k) := by
          intro _
          refine ⟨off + k, rfl, fun i hi => ?_⟩
          rw [List.length_drop] at hi
          rw [Nat.add_assoc, hcc (k + i) (by omega)]
          simp [List.getElem?_drop]
        have hlen : (xs.drop k).length = xs.length - k := List.length_drop
        obtain ⟨ys, hys⟩ : ∃ ys, ys = xs.drop k := ⟨_, rfl⟩
        rw [← hys] at C hr' hlen
        have HL : Hid (ys.length = xs.length - k) := hlen
        have hl1 : (xs.length : Int) - (k : Int) = ((ys.length : Nat) : Int) := by omega
        have hl2 : xs.length - k = ys.length := hlen.symm
        have hl3 : ys.length ≤ xs.length := by omega
        clear R hcc Hx hz hys hlen
        go_wp2_with (at_make; refine wpList_make_full _ rfl _ _ 22 rfl w.heap.size 5 i0 (.int .u8 0) 1 Tryz.underlying22 hi hz0 hz1 .i64 .i64 _ _ ys.length rfl rfl rfl rfl (by rw [hz2]; omega) (by unfold maxLen; omega) (Nat.le_refl _) ?_; intro w1 hown hgrow)
        have hB := Blk.of_made hown
        have hN : Below w.heap.size w w1 := (Below.refl _ _).grown hgrow (Nat.le_refl _) (by simp)
        obtain ⟨w2, hrun, hB2, hO⟩ := copy_blk (P := Tryz.prog) w1 22 3 5 Tryz.underlying22 hsz hB g _ ys (hr'.up hN) (by simp) ys.length (cap - k)
        rw [List.length_replicate] at hrun
        have hN2 := hN.trans (hO.below (Nat.le_refl _))
        rw [hrun]
        clear hown hgrow hB hN hO
        go_wp2
        go_ret
        exact ⟨ys, C, hl3, rfl, by simpa using hB2, hN2⟩
    · obtain rfl : k = xs.length := by omega
      have C := hz.canon hb (fun h => absurd h (by omega))
      rw [List.drop_length] at C
      go_wp2_with (at_make; refine wpList_make_full _ rfl _ _ 22 rfl w.heap.size 5 i0 (.int .u8 0) 1 Tryz.underlying22 hi hz0 hz1 .i64 .i64 _ _ 0 rfl rfl (by omega) (by omega) (by omega) (by omega) (Nat.le_refl _) ?_; intro w1 hown hgrow)
      all_goals
        have hB := Blk.of_made hown
        have hN : Below w.heap.size w w1 := (Below.refl _ _).grown hgrow (Nat.le_refl _) (by simp)
        rw [run_copy_none (P := Tryz.prog) w1 22 22 3 5 _ _ _ _ _ _ Tryz.underlying22 hsz (by simp)]
        clear hown hgrow
        go_wp2
        go_ret
        exact ⟨[], C, Nat.zero_le _, rfl, hB, hN⟩
end Go.Proofs.YtkglcainhkbgbaaGreatDoor
namespace Go.Proofs.YtkglcainhkbgbaaGreatDoor
set_option maxRecDepth 100000
open Go.RowKit
def ResOf (v : Int) (b : Bool) (ys : List Int) : Prop := ∃ c, Canon c v ∧ ((c.length ≤ 128 ∧ b = true ∧ ys = c) ∨ (128 < c.length ∧ b = false ∧ ys = []))
def NumOf (A : Prop) (v : Int) (b : Bool) (ys : List Int) : Prop := (A ∧ ResOf v b ys) ∨ (¬ A ∧ b = false ∧ ys = [])
theorem ResOf.uniq {v : Int} {b d : Bool} {ys zs : List Int} (h : ResOf v b ys) (k : ResOf v d zs) : b = d ∧ ys = zs := by
  obtain ⟨c, hc, h⟩ := h
  obtain ⟨c', hc', k⟩ := k
  obtain rfl := hc.uniq hc'
  rcases h with ⟨h1, rfl, rfl⟩ | ⟨h1, rfl, rfl⟩
  · rcases k with ⟨k1, rfl, rfl⟩ | ⟨k1, rfl, rfl⟩
    · exact ⟨rfl, rfl⟩
    · omega
  · rcases k with ⟨k1, rfl, rfl⟩ | ⟨k1, rfl, rfl⟩
    · omega
    · exact ⟨rfl, rfl⟩
theorem NumOf.uniq {A : Prop} {v : Int} {b d : Bool} {ys zs : List Int} (h : NumOf A v b ys) (k : NumOf A v d zs) : b = d ∧ ys = zs := by
  rcases h with ⟨h1, h2⟩ | ⟨h1, rfl, rfl⟩
  · rcases k with ⟨k1, k2⟩ | ⟨k1, rfl, rfl⟩
    · exact h2.uniq k2
    · exact absurd h1 k1
  · rcases k with ⟨k1, k2⟩ | ⟨k1, rfl, rfl⟩
    · exact absurd k1 h1
    · exact ⟨rfl, rfl⟩
theorem NumOf.len {A : Prop} {v : Int} {b : Bool} {ys : List Int} (h : NumOf A v b ys) : ys.length ≤ 128 := by
  rcases h with ⟨_, c, _, ⟨h1, _, rfl⟩ | ⟨_, _, rfl⟩⟩ | ⟨_, _, rfl⟩
  · exact h1
  · simp
  · simp
def NewRes (B : Nat) (w' : World) (e : Ending) (b : Bool) (ys : List Int) : Prop :=
  ∃ (a : Option Addr) (c g : Nat), e = .returned (.agg #[.bool b, .slice a ys.length c]) ∧ Own w' g a .u8 ys ∧ (a = none → c = 0) ∧ ys.length ≤ c ∧ B ≤ g
theorem NewRes.none {B : Nat} {w : World} (h : B ≤ w.heap.size) : NewRes B w (.returned (.agg #[.bool false, .slice none 0 0])) false [] :=
  ⟨_, 0, w.heap.size, rfl, Own.nil _ _ _ _, by simp, Nat.zero_le _, h⟩
end Go.Proofs.YtkglcainhkbgbaaGreatDoor
namespace Go.Proofs.YtkglcainhkbgbaaGreatDoor
set_option maxRecDepth 100000
open Go.RowKit
theorem two_kept {w w1 : World} {x y : Value} {t : TypeId} (n : Below (w.alloc (.cells #[x, y] t)).heap.size (w.alloc (.cells #[x, y] t)) w1) :
    w1.cell? ⟨w.heap.size, 0, none⟩ = some x ∧ w1.cell? ⟨w.heap.size, 1, none⟩ = some y ∧ w1.frozen? ⟨w.heap.size, 0, none⟩ = false ∧ w1.frozen? ⟨w.heap.size, 1, none⟩ = false ∧ w.heap.size < w1.heap.size := by
  have hs : w.heap.size < (w.alloc (.cells #[x, y] t)).heap.size := by simp
  refine ⟨?_, ?_, ?_, ?_, by have := n.size; omega⟩
  · rw [n.cell (p := ⟨w.heap.size, 0, none⟩) hs]; simp [World.cell?_alloc_at]
  · rw [n.cell (p := ⟨w.heap.size, 1, none⟩) hs]; simp [World.cell?_alloc_at]
  · rw [n.frozen (p := ⟨w.heap.size, 0, none⟩) hs]; simp [World.frozen?_alloc_at]
  · rw [n.frozen (p := ⟨w.heap.size, 1, none⟩) hs]; simp [World.frozen?_alloc_at]
structure Two (w : World) (p : Nat) (x y : Value) : Prop where
  c0 : w.cell? ⟨p, 0, none⟩ = some x
  c1 : w.cell? ⟨p, 1, none⟩ = some y
  f0 : w.frozen? ⟨p, 0, none⟩ = false
  f1 : w.frozen? ⟨p, 1, none⟩ = false
theorem Two.lt {w : World} {p : Nat} {x y : Value} (h : Two w p x y) : p < w.heap.size := block_lt_of_cell h.c0
theorem Two.of_block {w w' : World} {p : Nat} {x y : Value} (h : Two w p x y) (hb : w'.heap[p]? = w.heap[p]?) : Two w' p x y :=
  ⟨(World.cell?_of_block (a := ⟨p, 0, none⟩) hb).trans h.c0, (World.cell?_of_block (a := ⟨p, 1, none⟩) hb).trans h.c1, (World.frozen?_of_block (a := ⟨p, 0, none⟩) hb).trans h.f0, (World.frozen?_of_block (a := ⟨p, 1, none⟩) hb).trans h.f1⟩
theorem Two.up {w w' : World} {p : Nat} {x y : Value} (h : Two w p x y) (n : Below w.heap.size w w') : Two w' p x y := h.of_block (n.block p h.lt)
theorem Two.only {w w' : World} {p g : Nat} {x y : Value} (h : Two w p x y) (n : Only g w w') (hne : p ≠ g) : Two w' p x y := h.of_block (n.block p hne)
theorem Two.new (w : World) (x y : Value) (t : TypeId) : Two (w.alloc (.cells #[x, y] t)) w.heap.size x y := by
  obtain ⟨k1, k2, k3, k4, _⟩ := two_kept (Below.refl (w.alloc (.cells #[x, y] t)).heap.size (w.alloc (.cells #[x, y] t)))
  exact ⟨k1, k2, k3, k4⟩
theorem two_laid {w w2 : World} {g : Nat} {a : Option Addr} {zs : List Int} {u v : Value} (n : Below w.heap.size w w2) (o : Own w2 g a .u8 zs) (hg : w.heap.size < g) :
    Own ((w2.setCell ⟨w.heap.size, 0, none⟩ u).setCell ⟨w.heap.size, 1, none⟩ v) g a .u8 zs ∧ Below w.heap.size w ((w2.setCell ⟨w.heap.size, 0, none⟩ u).setCell ⟨w.heap.size, 1, none⟩ v) := by
  have h1 := Only.setCell w2 w.heap.size 0 u
  have h2 := Only.setCell (w2.setCell ⟨w.heap.size, 0, none⟩ u) w.heap.size 1 v
  have h3 := h1.trans h2
  exact ⟨o.only h3 (fun _ => by omega), n.trans (h3.below (Nat.le_refl _))⟩
end Go.Proofs.YtkglcainhkbgbaaGreatDoor
namespace Go.Proofs.YtkglcainhkbgbaaGreatDoor
set_option maxRecDepth 100000
open Go.RowKit
structure ButP (g h : Nat) (w w' : World) : Prop where
  os : w'.os = w.os
  tape : w'.tape = w.tape
  output : w'.output = w.output
  size : w.heap.size ≤ w'.heap.size
  block : ∀ k, k < w.heap.size → k ≠ g → k ≠ h → w'.heap[k]? = w.heap[k]?
theorem ButP.of {g h : Nat} {a b c d : World} (n : Below a.heap.size a b) (k : Only g b c) (l : Only h c d) : ButP g h a d :=
  ⟨(l.os.trans k.os).trans n.os, (l.tape.trans k.tape).trans n.tape, (l.output.trans k.output).trans n.output, by rw [l.size, k.size]; exact n.size, fun i hi h1 h2 => ((l.block i h2).trans (k.block i h1)).trans (n.block i hi)⟩
theorem ButP.below {g h B : Nat} {w w' : World} (n : ButP g h w w') (hB : B ≤ g) (hC : B ≤ h) (hs : B ≤ w.heap.size) : Below B w w' := ⟨n.os, n.tape, n.output, n.size, fun k hk => n.block k (by omega) (by omega) (by omega)⟩
theorem ButP.up {g h : Nat} {a b c : World} (n : ButP g h a b) (k : Below b.heap.size b c) : ButP g h a c :=
  ⟨k.os.trans n.os, k.tape.trans n.tape, k.output.trans n.output, Nat.le_trans n.size k.size, fun i hi h1 h2 => (k.block i (Nat.lt_of_lt_of_le hi n.size)).trans (n.block i hi h1 h2)⟩
theorem ButP.from {g h : Nat} {a b c : World} (k : Below a.heap.size a b) (n : ButP g h b c) : ButP g h a c :=
  ⟨n.os.trans k.os, n.tape.trans k.tape, n.output.trans k.output, Nat.le_trans k.size n.size, fun i hi h1 h2 => (n.block i (Nat.lt_of_lt_of_le hi k.size) h1 h2).trans (k.block i hi)⟩
structure PrP (w : World) (g : Nat) (a : Option Addr) (xs : List Int) (g' : Nat) (a' : Option Addr) (ys : List Int) : Prop where
  l : Own w g a .u8 xs
  r : Own w g' a' .u8 ys
theorem PrP.up {w w' : World} {g g' : Nat} {a a' : Option Addr} {xs ys : List Int} (h : PrP w g a xs g' a' ys) (n : Below w.heap.size w w') : PrP w' g a xs g' a' ys := ⟨h.l.up n, h.r.up n⟩
theorem PrP.only {w w' : World} {g g' k : Nat} {a a' : Option Addr} {xs ys : List Int} (h : PrP w g a xs g' a' ys) (n : Only k w w') (h1 : 0 < xs.length → g ≠ k) (h2 : 0 < ys.length → g' ≠ k) : PrP w' g a xs g' a' ys := ⟨h.l.only n h1, h.r.only n h2⟩
def NewP2 (B : Nat) (w' : World) (e : Ending) (xs ys : List Int) : Prop :=
  ∃ (a : Option Addr) (c g : Nat) (a' : Option Addr) (c' g' : Nat), e = .returned (.agg #[.slice a xs.length c, .slice a' ys.length c']) ∧ Own w' g a .u8 xs ∧ Own w' g' a' .u8 ys ∧ B ≤ g ∧ B ≤ g' ∧ (0 < xs.length → 0 < ys.length → g ≠ g')
theorem NewP2.nil {B : Nat} {w : World} : NewP2 B w (.returned (.agg #[.slice none 0 0, .slice none 0 0])) [] [] := ⟨none, 0, B, none, 0, B, rfl, Own.nil _ _ _ _, Own.nil _ _ _ _, Nat.le_refl _, Nat.le_refl _, fun h => absurd h (by simp)⟩
theorem NewP2.at {B B' : Nat} {w : World} {e : Ending} {ys ss : List Int} (h : NewP2 B w e ys ss) (h1 : B' < B) (h2 : B' < w.heap.size) :
    ∃ (a : Option Addr) (c g : Nat) (a' : Option Addr) (c' g' : Nat), e = .returned (.agg #[.slice a ys.length c, .slice a' ss.length c']) ∧ PrP w g a ys g' a' ss ∧ B' ≤ g ∧ g < w.heap.size ∧ B' ≤ g' ∧ g' < w.heap.size ∧ (0 < ys.length → B ≤ g ∧ g ≠ g') ∧ (0 < ss.length → B ≤ g' ∧ g ≠ g') := by
  obtain ⟨a, c, g, a', c', g', he, o, o', hg, hg', hne⟩ := h
  by_cases h0 : 0 < ys.length
  · by_cases k0 : 0 < ss.length
    · exact ⟨a, c, g, a', c', g', he, ⟨o, o'⟩, by omega, o.rd.lt h0, by omega, o'.rd.lt k0, fun _ => ⟨hg, hne h0 k0⟩, fun _ => ⟨hg', hne h0 k0⟩⟩
    · obtain rfl : ss = [] := List.eq_nil_of_length_eq_zero (by omega)
      exact ⟨a, c, g, a', c', B', he, ⟨o, Own.nil _ _ _ _⟩, by omega, o.rd.lt h0, Nat.le_refl _, h2, fun _ => ⟨hg, by omega⟩, fun h => absurd h (by simp)⟩
  · obtain rfl : ys = [] := List.eq_nil_of_length_eq_zero (by omega)
    by_cases k0 : 0 < ss.length
    · exact ⟨a, c, B', a', c', g', he, ⟨Own.nil _ _ _ _, o'⟩, Nat.le_refl _, h2, by omega, o'.rd.lt k0, fun h => absurd h (by simp), fun _ => ⟨hg', by omega⟩⟩
    · obtain rfl : ss = [] := List.eq_nil_of_length_eq_zero (by omega)
      exact ⟨a, c, B', a', c', B', he, ⟨Own.nil _ _ _ _, Own.nil _ _ _ _⟩, Nat.le_refl _, h2, Nat.le_refl _, h2, fun h => absurd h (by simp), fun h => absurd h (by simp)⟩
end Go.Proofs.YtkglcainhkbgbaaGreatDoor
namespace Go.Proofs.YtkglcainhkbgbaaGreatDoor
set_option maxRecDepth 100000
open Go Go.RowKit
def PD (w0 : World) (xs ys : List Int) : Fact := ⟨fun v w => ∃ (a a' : Option Addr) (c c' g g' : Nat), v = .agg #[.slice a xs.length c, .slice a' ys.length c'] ∧ Own w g a .u8 xs ∧ Own w g' a' .u8 ys ∧ w0.heap.size ≤ g ∧ w0.heap.size ≤ g' ∧ (0 < xs.length → 0 < ys.length → g ≠ g'), fun n h => by
  obtain ⟨a, a', c, c', g, g', e, o, o', q⟩ := h
  exact ⟨a, a', c, c', g, g', e, o.up n, o'.up n, q⟩⟩
section
variable {ops : Array Oper} {Q : Exit → Act → World → Prop} {md : Region.Mode} {F : Nat → Fact} {a0 : Act} {w0 : World} {i : Nat} {o : Oper} {ts : Array TypeId}
end
section
variable {ops : Array Oper} {Q : Exit → Act → World → Prop} {a0 : Act} {w : World} {id : Nat} {draw : Bool}
end
end Go.Proofs.YtkglcainhkbgbaaGreatDoor
namespace Go.Proofs.YtkglcainhkbgbaaGreatDoor
set_option maxRecDepth 100000
open Go Go.RowKit
theorem results_cell_slot {P : Program} {fn : Func} {p s : Tmp} {ty : TypeId} {v : Value} (h : fn.results = #[.cell p ty, .tmp s]) (tmps : Array Value) (w : World) (g : Nat) (cs : List Value) (d : TypeDesc)
    (hp : tmps.getD p undef = .pointer (some ⟨g, 0, none⟩)) (hs : tmps.getD s undef = v) (hc : w.rangeAt g 0 cs) (hu : P.underlying ty = some d) (hd : d.isRow = true) (hi : (P.info? ty).map (·.size) = some cs.length) :
    (results fn tmps).run P w = .ok (.tuple #[.agg cs.toArray, v]) w := by
  have hp' : tmps[p]?.getD undef = .pointer (some ⟨g, 0, none⟩) := by simpa using hp
  have hs' : tmps[s]?.getD undef = v := by simpa using hs
  simp [results, h, hp', hs', asAddr, run_loadVar_mid w g 0 ty cs d hc hu hd hi]
def onB (D x y : Int) : Bool := decide ((y * y - x * x) % PP = (1 + D * (x * x) * (y * y)) % PP)
section
variable {ops : Array Oper} {Q : Exit → Act → World → Prop} {md : Region.Mode} {F : Nat → Fact} {a0 : Act} {w0 : World} {i : Nat} {o : Oper} {ts : Array TypeId}
end
def rpC (xs ys : List Int) : Bool := canN xs && canN ys
def rpX (xs ys : List Int) : Int := if rpC xs ys = true then num xs else 0
def rpY (xs ys : List Int) : Int := if rpC xs ys = true then num ys else 0
def rpB (D : Int) (xs ys : List Int) : Bool := rpC xs ys && onB D (num xs) (num ys)
end Go.Proofs.YtkglcainhkbgbaaGreatDoor
namespace Go.Proofs.YtkglcainhkbgbaaGreatDoor
set_option maxRecDepth 100000
open Go Go.RowKit
theorem field_X (x y z t : Nat → Int) (w : World) : (Instr.field 146 (agN [x, y, z, t]) 0).run Tryz.prog w = .ok (agN [x, y, z]) w := by kernel_rfl
def RdOk (W : World) (a : Option Addr) (xs : List Int) : Prop := ∃ g, Rd W g a .u8 xs ∧ Byt xs
theorem RdOk.up {W W' : World} {a : Option Addr} {xs : List Int} (h : RdOk W a xs) (n : Below W.heap.size W W') : RdOk W' a xs := by
  obtain ⟨g, r, b⟩ := h
  exact ⟨g, r.up n, b⟩
theorem Two.there {w : World} {p : Nat} {x y : Value} (h : Two w p x y) : w.there p 0 2 := fun j hj => by
  obtain rfl | rfl : j = 0 ∨ j = 1 := by omega
  · exact ⟨by rw [show (⟨p, 0 + 0, none⟩ : Addr) = ⟨p, 0, none⟩ from rfl, h.c0]; rfl, h.f0⟩
  · exact ⟨by rw [show (⟨p, 0 + 1, none⟩ : Addr) = ⟨p, 1, none⟩ from rfl, h.c1]; rfl, h.f1⟩
section
variable {ops : Array Oper} {Q : Exit → Act → World → Prop} {md : Region.Mode} {F : Nat → Fact} {a0 : Act} {w0 : World} {i : Nat} {o : Oper} {ts : Array TypeId}
theorem step_ext (hi : ops[i]? = some o) (p j : Nat) (A B : Int) (hop : o.op = .call { callee := .value (.func 81), args := #[.tmp p], argTypes := ts })
    (hj : waits md ops i j p = true) (hFj : F j = EN [A, B]) (hFi : F i = EN [A, B, 1, A * B]) : StepOk Tryz.prog md ops Q F a0 w0 i :=
  step_oneN hi _ p hop (by kernel_rfl) j _ _ (fun w es _ he => toExt_any w es A B he) hj hFj hFi
theorem step_xadd (TT : HasTw w0 9) {D : Int} (CC : Em5 w0 8 0 D) (hi : ops[i]? = some o) (p q j k : Nat) (X Y Z T X' Y' Z' T' : Int) (hop : o.op = .call { callee := .value (.func 79), args := #[.tmp p, .tmp q], argTypes := ts })
    (hj : waits md ops i j p = true) (hk : waits md ops i k q = true) (hFj : F j = EN [X, Y, Z, T]) (hFk : F k = EN [X', Y', Z', T'])
    (hFi : F i = EN [xaR X Y X' Y' * ybR Z T Z' T' D, yaR X Y X' Y' * xbR Z T Z' T' D, xbR Z T Z' T' D * ybR Z T Z' T' D, xaR X Y X' Y' * yaR X Y X' Y']) : StepOk Tryz.prog md ops Q F a0 w0 i :=
  step_twoN hi _ p q hop (by kernel_rfl) j k _ _ _ (fun w es fs hw he hf => extAdd_any w D es fs T T' X X' Y Y' Z Z' he hf (TT.up hw) (CC.up hw)) hj hk hFj hFk hFi
theorem step_fldX (hi : ops[i]? = some o) (p j : Nat) (A B C T : Int) (hop : o.op = .field 146 (.tmp p) 0)
    (hj : waits md ops i j p = true) (hFj : F j = EN [A, B, C, T]) (hFi : F i = EN [A, B, C]) : StepOk Tryz.prog md ops Q F a0 w0 i := by
  refine step_pure hi fun a w _ _ hf => ?_
  have h1 := hf j p hj
  rw [hFj] at h1
  obtain ⟨es, e1, X⟩ := h1
  obtain ⟨x, y, z, t, rfl, hx, hy, hz, ht⟩ := isN4 X
  refine ⟨agN [x, y, z], ?_, by rw [hFi]; exact ⟨_, rfl, hx, hy, hz, trivial⟩⟩
  have g1 : a.eval (.tmp p) = agN [x, y, z, t] := e1
  simp only [execOp, hop, g1]
  rw [Sem.run_bind, field_X]
  rfl
theorem step_aff (SS : HasSt w0 13) (II : Has3 w0 10 12 5 4) (hi : ops[i]? = some o) (p j : Nat) (X Y Z : Int) (hop : o.op = .call { callee := .value (.func 84), args := #[.tmp p], argTypes := ts })
    (hj : waits md ops i j p = true) (hFj : F j = EN [X, Y, Z]) (hFi : F i = EN [X * Z ^ eInv, Y * Z ^ eInv]) : StepOk Tryz.prog md ops Q F a0 w0 i :=
  step_oneN hi _ p hop (by kernel_rfl) j _ _ (fun w es hw he => toAffine_any w es X Y Z he (SS.up hw) (II.up hw)) hj hFj hFi
end
end Go.Proofs.YtkglcainhkbgbaaGreatDoor
namespace Go.Proofs.YtkglcainhkbgbaaGreatDoor
set_option maxRecDepth 100000
open Go Go.RowKit
def AG (R : List (Nat → Int) → Prop) : Fact := ⟨fun v _ => ∃ es, v = agN es ∧ R es, fun _ h => h⟩
def RowG (W : World) (q o : Nat) (R : List (Nat → Int) → Prop) : Prop := ∃ es, W.rangeAt q o (clN es) ∧ q < W.heap.size ∧ R es
theorem RowG.up {W W' : World} {q o : Nat} {R : List (Nat → Int) → Prop} (h : RowG W q o R) (n : Below W.heap.size W W') : RowG W' q o R := by
  obtain ⟨t, r, l, h⟩ := h
  exact ⟨t, fun j v hv => (World.cell?_of_block (a := ⟨q, o + j, none⟩) (n.block q l)).trans (r j v hv), Nat.lt_of_lt_of_le l n.size, h⟩
theorem RowG.but {W W' : World} {g o q : Nat} {R : List (Nat → Int) → Prop} (h : RowG W g o R) (k : ButQ q W W') (hne : g ≠ q) : RowG W' g o R := by
  obtain ⟨t, r, l, h⟩ := h
  exact ⟨t, fun j v hv => (World.cell?_of_block (a := ⟨g, o + j, none⟩) (k.1 g hne l)).trans (r j v hv), Nat.lt_of_lt_of_le l k.2, h⟩
theorem there_upo {W W' : World} {q o n : Nat} (hn : 0 < n) (h : W.there q o n) (k : Below W.heap.size W W') : W'.there q o n := by
  have l : q < W.heap.size := by
    have := (h 0 hn).1
    cases hc : W.cell? ⟨q, o + 0, none⟩ with
    | none => rw [hc] at this; simp at this
    | some v => exact block_lt_of_cell hc
  intro j hj
  have e := k.block q l
  rw [World.cell?_of_block (a := ⟨q, o + j, none⟩) e, World.frozen?_of_block (a := ⟨q, o + j, none⟩) e]
  exact h j hj
theorem but_setO {W W' : World} {q : Nat} (n : Below W.heap.size W W') (o : Nat) (vs : List Value) : ButQ q W (W'.setCells q o vs) :=
  ⟨fun g hg hl => (setCells_other hg vs o W').trans (n.block g hl), by rw [heap_size_setCells]; exact n.size⟩
section
variable {ops : Array Oper} {Q : Exit → Act → World → Prop} {md : Region.Mode} {F : Nat → Fact} {a0 : Act} {w0 w : World} {i id : Nat} {o : Oper} {ts : Array TypeId} {draw : Bool}
theorem step_lG (ty : TypeId) (d : TypeDesc) (m : Nat) (R : List (Nat → Int) → Prop) (hR : ∀ es, R es → es.length = m) (hu : Tryz.prog.underlying ty = some d) (hd : d.isRow = true) (hs : (Tryz.prog.info? ty).map (·.size) = some (5 * m)) (hi : ops[i]? = some o) (p : Nat) (hop : o.op = .load ty (.tmp p)) (hp : apart ops p = true) (q off : Nat) (h0 : a0.tmps.getD p undef = .pointer (some ⟨q, off, none⟩)) (hE : RowG w0 q off R) (hF : F i = AG R) : StepOk Tryz.prog md ops Q F a0 w0 i := by
  refine step_load hi _ _ hop d _ hu hd hs fun a w hb hw _ => ?_
  obtain ⟨t, r, _, h⟩ := hE.up hw
  exact ⟨q, off, _, (based_at hb p hp).trans h0, r, by rw [clN_size, hR _ h], by rw [hF]; exact ⟨t, rfl, h⟩⟩
theorem step_lGf (ty : TypeId) (d : TypeDesc) (m : Nat) (R : List (Nat → Int) → Prop) (hR : ∀ es, R es → es.length = m) (hu : Tryz.prog.underlying ty = some d) (hd : d.isRow = true) (hs : (Tryz.prog.info? ty).map (·.size) = some (5 * m)) (hi : ops[i]? = some o) (p j : Nat) (hop : o.op = .load ty (.tmp p)) (hj : waits md ops i j p = true) (q off : Nat) (hFj : F j = Fact.eq (.pointer (some ⟨q, off, none⟩))) (hE : RowG w0 q off R) (hF : F i = AG R) : StepOk Tryz.prog md ops Q F a0 w0 i := by
  refine step_load hi _ _ hop d _ hu hd hs fun a w hb hw hf => ?_
  obtain ⟨t, r, _, h⟩ := hE.up hw
  have e := hf j p hj
  rw [hFj] at e
  exact ⟨q, off, _, e, r, by rw [clN_size, hR _ h], by rw [hF]; exact ⟨t, rfl, h⟩⟩
theorem step_nil0 {P : Program} (hi : ops[i]? = some o) (p : Nat) (hop : o.op = .nilCheck (.tmp p)) (hp : apart ops p = true) {q off : Nat} (h0 : a0.tmps.getD p undef = .pointer (some ⟨q, off, none⟩)) (hF : F i = Fact.eq (.pointer (some ⟨q, off, none⟩))) : StepOk P md ops Q F a0 w0 i := by
  refine step_pure hi fun a w hb _ _ => ⟨.pointer (some ⟨q, off, none⟩), ?_, by rw [hF]; exact rfl⟩
  have e := (based_at hb p hp).trans h0
  simp [execOp, hop, e]
theorem step_asgf {P : Program} (hi : ops[i]? = some o) (p j : Nat) (hop : o.op = .assign (.tmp p)) (hj : waits md ops i j p = true) {v : Value} (hFj : F j = Fact.eq v) (hF : F i = Fact.eq v) : StepOk P md ops Q F a0 w0 i := by
  refine step_pure hi fun a w _ _ hf => ⟨v, ?_, by rw [hF]; exact rfl⟩
  have e := hf j p hj
  rw [hFj] at e
  have e' : a.eval (.tmp p) = v := e
  simp [execOp, hop, e']
theorem run_idx16 (w : World) (q n : Nat) (hn : n < 16) : (Instr.indexAt 149 (.pointer (some ⟨q, 0, none⟩)) (.int .i64 (n : Int))).run Tryz.prog w = .ok (.pointer (some ⟨q, 20 * n, none⟩)) w := by
  have h1 : (0 : Int) ≤ (n : Int) ∧ (n : Int) < 16 := by omega
  simp [go_sem, h1, Nat.mul_comm]
theorem region_newG (ty : TypeId) (k jA jV pA pV m : Nat) (o1 : Oper) (F : Nat → Fact) (R : List (Nat → Int) → Prop) (hR : ∀ es, R es → es.length = m) (hT : textTail .any draw ops a0.tmps.size k = true) (hdrop : ops.toList.drop k = [o1]) (hd1 : o1.dst = none)
    (hop1 : o1.op = .store ty (.tmp pA) (.tmp pV)) (hs : (Tryz.prog.info? ty).map (·.size) = some (5 * m))
    (qA : decide (jA < k) = true) (qV : decide (jV < k) = true) (wA : writes ops jA pA = true) (wV : writes ops jV pV = true) (FA : F jA = NB w (5 * m)) (FV : F jV = AG R) (steps : ∀ i, i < k → StepOk Tryz.prog .any ops Q F a0 w i)
    (fin : ∀ (vs : Nat → Value) (q : Nat) (W W' : World), vs pA = .pointer (some ⟨q, 0, none⟩) → (∀ i d, decide (i < k) = true → writes ops i d = true → (F i).p (vs d) W) → w.heap.size ≤ q → Below w.heap.size w W' → RowG W' q 0 R → W'.there q 0 (5 * m) → Q .normal (puts vs a0 ops.toList) W') :
    (Code.region id ops draw).wp Tryz.prog Q a0 w := by
  refine region_tail k F (by kernel_rfl) hT steps [] (fun p hp => by cases hp) (fun p hp => by cases hp) fun a W hb hw hF _ => ?_
  have h1 := hF jA pA qA wA
  have h2 := hF jV pV qV wV
  rw [FA] at h1
  rw [FV] at h2
  obtain ⟨_, q, eq, th, hq⟩ := h1
  obtain ⟨es, ev, V⟩ := h2
  have le : (clN es).length = 5 * m := by rw [clN_size, hR _ V]
  rw [hdrop]
  show o1.wp _ a W (fun a' w' => Q .normal a' w') Q
  refine wp_store_mid ty (.tmp pA) (.tmp pV) hop1 q 0 (clN es).toArray eq ev (by show W.there q 0 (clN es).length; rw [le]; exact th) (by show _ = some (clN es).length; rw [le]; exact hs) (clN_one es) ?_
  rw [hd1]
  obtain ⟨vs, hvs⟩ : ∃ vs : Nat → Value, ∀ d, a.tmps.getD d undef = vs d := ⟨_, fun _ => rfl⟩
  show Q .normal a _
  rw [puts_tail hT rfl hb vs hvs]
  refine fin vs q W _ ((hvs pA).symm.trans eq) (fun i d hi hd => by rw [← hvs]; exact hF i d hi hd) hq (below_setCells hq _ _ _ hw) ⟨es, World.rangeAt_setCells_same W q 0 _ (by rw [le]; exact th), by rw [heap_size_setCells]; exact there_lt (by omega) th, V⟩ (World.there_setCells th _ _ _)
theorem region_putG (ty : TypeId) (k jV pD pV m q off : Nat) (o1 : Oper) (F : Nat → Fact) (R : List (Nat → Int) → Prop) (hR : ∀ es, R es → es.length = m) (hm : 0 < m) (hT : textTail .any draw ops a0.tmps.size k = true) (hdrop : ops.toList.drop k = [o1]) (hd1 : o1.dst = none)
    (hop1 : o1.op = .store ty (.tmp pD) (.tmp pV)) (hs : (Tryz.prog.info? ty).map (·.size) = some (5 * m)) (ht : w.there q off (5 * m))
    (hP : ∀ (a : Act) (W : World), Based ops a0 a → (∀ i d, decide (i < k) = true → writes ops i d = true → (F i).p (a.tmps.getD d undef) W) → a.eval (.tmp pD) = .pointer (some ⟨q, off, none⟩))
    (qV : decide (jV < k) = true) (wV : writes ops jV pV = true) (FV : F jV = AG R) (steps : ∀ i, i < k → StepOk Tryz.prog .any ops Q F a0 w i)
    (fin : ∀ (vs : Nat → Value) (W : World) (es : List (Nat → Int)), R es → Below w.heap.size w W → Q .normal (puts vs a0 ops.toList) (W.setCells q off (clN es))) :
    (Code.region id ops draw).wp Tryz.prog Q a0 w := by
  refine region_tail k F (by kernel_rfl) hT steps [] (fun p hp => by cases hp) (fun p hp => by cases hp) fun a W hb hw hF _ => ?_
  have h2 := hF jV pV qV wV
  rw [FV] at h2
  obtain ⟨es, ev, V⟩ := h2
  have le : (clN es).length = 5 * m := by rw [clN_size, hR _ V]
  rw [hdrop]
  show o1.wp _ a W (fun a' w' => Q .normal a' w') Q
  refine wp_store_mid ty (.tmp pD) (.tmp pV) hop1 q off (clN es).toArray (hP a W hb hF) ev (by show W.there q off (clN es).length; rw [le]; exact there_upo (by omega) ht hw) (by show _ = some (clN es).length; rw [le]; exact hs) (clN_one es) ?_
  rw [hd1]
  obtain ⟨vs, hvs⟩ : ∃ vs : Nat → Value, ∀ d, a.tmps.getD d undef = vs d := ⟨_, fun _ => rfl⟩
  show Q .normal a _
  rw [puts_tail hT rfl hb vs hvs]
  exact fin vs W es V hw
end
def m20 (b : Bool) (k : Nat) (y E : Nat → Int) (j : Nat) : Int := if b = true ∧ 5 * k ≤ j ∧ j < 5 * k + 5 then E j else y j
theorem merge20 (w : World) (q k : Nat) (b : Bool) (y E : Nat → Int) (hk : k < 4) (hy : ∀ j, j < 20 → w.cell? ⟨q, j, none⟩ = some (.int .u64 (y j))) (hf : ∀ j, w.frozen? ⟨q, j, none⟩ = false) (bx : ∀ j, j < 20 → 0 ≤ y j ∧ y j < 18446744073709551616) (be : ∀ j, j < 20 → 0 ≤ E j ∧ E j < 18446744073709551616) (h0 : b = true → ∀ j, 5 * k ≤ j → y j = 0) :
    Calls Tryz.prog 106 #[.pointer (some ⟨q, 5 * k, none⟩), ag5 (fun j => E (5 * k + j)), .int .u64 (mask b)] w fun r w' => r = .returned (.tuple #[]) ∧ (∀ j, j < 20 → w'.cell? ⟨q, j, none⟩ = some (.int .u64 (m20 b k y E j))) ∧ (∀ j, w'.frozen? ⟨q, j, none⟩ = false) ∧ ButQ q w w' ∧ ∀ w1 B, Below B w1 w → B ≤ q → Below B w1 w' := by
  have lq : q < w.heap.size := block_lt_of_cell (hy 0 (by omega))
  refine (merge_any w q (5 * k) b (fun j => y (5 * k + j)) (fun j => E (5 * k + j)) (fun j hj => hy _ (by omega)) hf (fun j hj => bx _ (by omega)) (fun j hj => be _ (by omega)) (fun hb j _ => h0 hb _ (by omega))).mono ?_
  rintro r w' ⟨rfl, w1, n1, M⟩
  refine ⟨rfl, fun j hj => ?_, fun j => ?_, ⟨fun g hg hl => (M.only.block g hg).trans (n1.block g hl), by rw [M.only.size]; exact n1.size⟩, fun w2 B hB hq => ?_⟩
  · unfold m20
    by_cases c : 5 * k ≤ j ∧ j < 5 * k + 5
    · have e := M.at5 (j - 5 * k) (by omega)
      rw [show 5 * k + (j - 5 * k) = j by omega] at e
      rw [e]
      unfold mgd
      simp only
      rw [show 5 * k + (j - 5 * k) = j by omega]
      by_cases hb : b = true
      · rw [if_pos hb, if_pos ⟨hb, c⟩]
      · rw [if_neg hb, if_neg (fun h => hb h.1)]
    · rw [if_neg (fun h => c h.2), M.off j (by omega)]
      exact (World.cell?_of_block (a := ⟨q, j, none⟩) (n1.block q lq)).trans (hy j hj)
  · rw [M.fr j]
    exact (World.frozen?_of_block (a := ⟨q, j, none⟩) (n1.block q lq)).trans (hf j)
  · exact (hB.trans (n1.mono (by omega))).trans (M.only.below hq)
end Go.Proofs.YtkglcainhkbgbaaGreatDoor
namespace Go.Proofs.YtkglcainhkbgbaaGreatDoor
set_option maxRecDepth 100000
open Go Go.RowKit
def flat (es : List (Nat → Int)) (j : Nat) : Int := (es.getD (j / 5) zl5) (j % 5)
theorem clN_flat : ∀ (es : List (Nat → Int)) (j : Nat), j < 5 * es.length → (clN es)[j]? = some (.int .u64 (flat es j))
  | [], j, h => by simp at h
  | e :: es, j, h => by
    show (cl5 e ++ clN es)[j]? = _
    have h : j < 5 * es.length + 5 := by simpa [Nat.mul_add] using h
    by_cases c : j < 5
    · rw [List.getElem?_append_left (by simpa [cl5] using c)]
      obtain rfl | rfl | rfl | rfl | rfl : j = 0 ∨ j = 1 ∨ j = 2 ∨ j = 3 ∨ j = 4 := by omega
      all_goals rfl
    · rw [List.getElem?_append_right (by simp [cl5]; omega)]
      have e1 : (cl5 e).length = 5 := rfl
      rw [e1, clN_flat es (j - 5) (by omega)]
      unfold flat
      rw [show j / 5 = (j - 5) / 5 + 1 by omega, show (j - 5) % 5 = j % 5 by omega]
      rfl
theorem row_flat {W : World} {q o : Nat} {es : List (Nat → Int)} (h : W.rangeAt q o (clN es)) {n : Nat} (hl : es.length = n) (j : Nat) (hj : j < 5 * n) : W.cell? ⟨q, o + j, none⟩ = some (.int .u64 (flat es j)) := h j _ (clN_flat es j (by omega))
theorem flat_row {W : World} {q : Nat} {es : List (Nat → Int)} {n : Nat} (hl : es.length = n) (h : ∀ j, j < 5 * n → W.cell? ⟨q, j, none⟩ = some (.int .u64 (flat es j))) : W.rangeAt q 0 (clN es) := by
  intro j v hv
  have hj : j < 5 * n := by
    have := (List.getElem?_eq_some_iff.1 hv).1
    rw [clN_size] at this
    omega
  rw [clN_flat es j (by omega)] at hv
  rw [Nat.zero_add, h j hj, hv]
theorem flat_bd : ∀ {es : List (Nat → Int)} {As : List Int}, IsN es As → ∀ j, j < 5 * es.length → 0 ≤ flat es j ∧ flat es j < 18446744073709551616
  | [], _, _, j, h => by simp at h
  | e :: es, A :: As, k, j, h => by
    have h : j < 5 * es.length + 5 := by simpa [Nat.mul_add] using h
    by_cases c : j < 5
    · have e0 : flat (e :: es) j = e j := by
        unfold flat
        rw [show j / 5 = 0 by omega, show j % 5 = j by omega]
        rfl
      have := k.1.1 j c
      rw [e0]
      omega
    · have e0 : flat (e :: es) j = flat es (j - 5) := by
        unfold flat
        rw [show j / 5 = (j - 5) / 5 + 1 by omega, show (j - 5) % 5 = j % 5 by omega]
        rfl
      rw [e0]
      exact flat_bd k.2 (j - 5) (by omega)
  | _ :: _, [], k, _, _ => k.elim
theorem Ext.bd {es : List (Nat → Int)} {q : Int × Int} (h : Ext es q) (j : Nat) (hj : j < 20) : 0 ≤ flat es j ∧ flat es j < 18446744073709551616 := by
  have l := h.len
  obtain ⟨X, Y, Z, T, h, _⟩ := h
  exact flat_bd h j (by omega)
def atY (es : List (Nat → Int)) (d k j : Nat) : Int := if d < k then flat (prt es d) j else 0
theorem atY_step (es : List (Nat → Int)) (d k : Nat) (b : Bool) (hb : b = decide (k = d)) : m20 b 3 (m20 b 2 (m20 b 1 (m20 b 0 (atY es d k) (flat (prt es k))) (flat (prt es k))) (flat (prt es k))) (flat (prt es k)) = fun j => if j < 20 then atY es d (k + 1) j else atY es d k j := by
  funext j
  unfold m20 atY
  by_cases c : k = d
  · subst c
    have hb : b = true := by simpa using hb
    subst hb
    simp only [true_and]
    repeat' split
    all_goals first | rfl | (exfalso; omega)
  · have hb : b = false := by simpa [c] using hb
    subst hb
    simp only [Bool.false_eq_true, false_and, if_false]
    repeat' split
    all_goals first | rfl | (exfalso; omega)
end Go.Proofs.YtkglcainhkbgbaaGreatDoor
namespace Go.Proofs.YtkglcainhkbgbaaGreatDoor
set_option maxRecDepth 100000
open Go Go.RowKit
structure AtI (w wr : World) (q4 q5 d k : Nat) (es : List (Nat → Int)) : Prop where
  n : Below w.heap.size w wr
  tr : wr.there q4 0 20
  y : ∀ j, j < 20 → wr.cell? ⟨q5, j, none⟩ = some (.int .u64 (atY es d k j))
  fr : ∀ j, wr.frozen? ⟨q5, j, none⟩ = false
theorem msk_is {k d x : Nat} (x16 : x < 16) (x0 : x = 0 ↔ k = d) : IntKind.u64.wrap (-(IntKind.u64.wrap ((x : Int) - 1) / 9223372036854775808)) = mask (decide (k = d)) := by
  by_cases h : k = d
  · have e := x0.2 h
    subst e
    rw [decide_eq_true h, IntKind.wrap_u64, IntKind.wrap_u64]
    decide
  · have e : x ≠ 0 := fun h' => h (x0.1 h')
    rw [decide_eq_false h, IntKind.wrap_u64, IntKind.wrap_u64]
    have e1 : ((x : Int) - 1) % 18446744073709551616 = (x : Int) - 1 := by omega
    have e2 : ((x : Int) - 1) / 9223372036854775808 = 0 := by omega
    rw [e1, e2]
    decide
set_option maxHeartbeats 4000000 in
theorem at_any (w : World) (p d : Nat) (es : List (Nat → Int)) (P0 : Int × Int) (hM : MulL es 16 P0) (hr : w.rangeAt p 0 (clN es)) (lp : p < w.heap.size) (hd : d < 16) :
    Calls Tryz.prog 82 #[.pointer (some ⟨p, 0, none⟩), .int .u64 (d : Int)] w fun r w' => ∃ ts, r = .returned (agN ts) ∧ Ext ts (mlP d P0) ∧ Below w.heap.size w w' := by
  have m1 : Below w.heap.size w (w.alloc zX) := (Below.refl _ _).alloc (Nat.le_refl _) _
  have s1 : (w.alloc zX).heap.size = w.heap.size + 1 := by simp
  have T1 : (w.alloc zX).there w.heap.size 0 20 := there_new w _ _
  have m2 : Below (w.alloc zX).heap.size (w.alloc zX) ((w.alloc zX).alloc zX) := (Below.refl _ _).alloc (Nat.le_refl _) _
  have T2 := there_up (by omega) T1 m2
  have F2 : ((w.alloc zX).alloc zX).there (w.heap.size + 1) 0 20 := by
    have := there_new (w.alloc zX) [.int .u64 0, .int .u64 0, .int .u64 0, .int .u64 0, .int .u64 0, .int .u64 0, .int .u64 0, .int .u64 0, .int .u64 0, .int .u64 0, .int .u64 0, .int .u64 0, .int .u64 0, .int .u64 0, .int .u64 0, .int .u64 0, .int .u64 0, .int .u64 0, .int .u64 0, .int .u64 0] 146
    rw [s1] at this
    exact this
  have hb2 : ((w.alloc zX).alloc zX).heap[w.heap.size + 1]? = some zX := by
    have := heap_alloc_last (w.alloc zX) zX
    rwa [s1] at this
  have Y2 : ∀ j, j < 20 → ((w.alloc zX).alloc zX).cell? ⟨w.heap.size + 1, j, none⟩ = some (.int .u64 0) := by
    intro j hj
    have z : clN [zl5, zl5, zl5, zl5] = [.int .u64 0, .int .u64 0, .int .u64 0, .int .u64 0, .int .u64 0, .int .u64 0, .int .u64 0, .int .u64 0, .int .u64 0, .int .u64 0, .int .u64 0, .int .u64 0, .int .u64 0, .int .u64 0, .int .u64 0, .int .u64 0, .int .u64 0, .int .u64 0, .int .u64 0, .int .u64 0] := rfl
    have := clN_flat [zl5, zl5, zl5, zl5] j (by simpa using hj)
    have e : flat [zl5, zl5, zl5, zl5] j = 0 := by
      unfold flat
      obtain h | h | h | h : j / 5 = 0 ∨ j / 5 = 1 ∨ j / 5 = 2 ∨ j / 5 = 3 := by omega
      all_goals rw [h]; rfl
    rw [e, z] at this
    unfold World.cell?
    simp only
    rw [hb2]
    simpa using this
  have F2' : ∀ j, ((w.alloc zX).alloc zX).frozen? ⟨w.heap.size + 1, j, none⟩ = false := by
    intro j
    unfold World.frozen?
    simp only
    rw [hb2]
    rfl
  have N2 := nxt m1 m2
  have I0 : AtI w ((w.alloc zX).alloc zX) w.heap.size (w.heap.size + 1) d 0 es := ⟨N2, T2, fun j hj => by rw [Y2 j hj]; unfold atY; rw [if_neg (by omega)], F2'⟩
  clear Y2 F2 F2' hb2 T1 T2 m1 m2 s1 N2
  have hr' := hide hr
  clear hr
  go_enter Tryz.func82, Tryz.ntmps82
  go_upto_region 2 with fail
  obtain ⟨wq, hwq⟩ : ∃ W, W = (w.alloc zX).alloc zX := ⟨_, rfl⟩
  rw [← hwq] at I0
  change Code.wp _ _ _ _ ((w.alloc zX).alloc zX)
  rw [← hwq]
  clear hwq
  go_wp2
  go_loopw [11] (fun i wr => ∃ k : Nat, k ≤ 16 ∧ i = .int .i64 k ∧ AtI w wr w.heap.size (w.heap.size + 1) d k es) (fun i _ => 16 - (intOf i).toNat)
  case atStart => exact ⟨0, by omega, rfl, I0⟩
  case round =>
    clear I0
    obtain ⟨k, hk, rfl, I⟩ := hrel
    have l4 : w.heap.size < wr.heap.size := there_lt (by omega) I.tr
    have l5 : w.heap.size + 1 < wr.heap.size := block_lt_of_cell (I.y 0 (by omega))
    by_cases hlt : k < 16
    · have k5 : (k : Int) < 16 := by omega
      have MR : RowG wr p (20 * k) (fun t => t = prt es k) := by
        have h : RowG w p (20 * k) (fun t => t = prt es k) := ⟨prt es k, row_part hr'.out hM.1 hlt, lp, rfl⟩
        obtain ⟨t, r, l, h⟩ := h
        exact ⟨t, fun j v hv => (World.cell?_of_block (a := ⟨p, 20 * k + j, none⟩) (I.n.block p l)).trans (r j v hv), by omega, h⟩
      go_upto_region 4 with fail
      refine region_newG 146 6 4 3 7 16 4 _ (fun i => [Fact.eq (.int .i64 k), Fact.eq (.pointer (some ⟨p, 0, none⟩)), Fact.eq (.pointer (some ⟨p, 20 * k, none⟩)), AG (fun t => t = prt es k), NB wr 20, Fact.eq (.int .i64 k)].getD i Fact.no) (fun t => t = prt es k) (fun t ht => by rw [ht]; exact prt_len hM.1 hlt) (by kernel_rfl) rfl rfl rfl iX (by decide) (by decide) (by kernel_rfl) (by kernel_rfl) rfl rfl ?_ ?_
      · intro i hi
        obtain rfl | rfl | rfl | rfl | rfl | rfl : i = 0 ∨ i = 1 ∨ i = 2 ∨ i = 3 ∨ i = 4 ∨ i = 5 := by omega
        · exact step_mv rfl 11 rfl (by kernel_rfl) rfl rfl
        · exact step_nil0 rfl 9 rfl (by kernel_rfl) rfl rfl
        · refine step_pure rfl fun a W hb _ hf => ⟨.pointer (some ⟨p, 20 * k, none⟩), ?_, rfl⟩
          have e1 := hf 1 14 (by kernel_rfl)
          have e2 := (based_at hb 11 (by kernel_rfl))
          have g1 : a.eval (.tmp 14) = .pointer (some ⟨p, 0, none⟩) := e1
          have g2 : a.eval (.tmp 11) = .int .i64 (k : Int) := e2
          simp [execOp, g1, g2, run_idx16 W p k hlt]
        · exact step_lGf 146 _ 4 _ (fun t ht => by rw [ht]; exact prt_len hM.1 hlt) Tryz.underlying146 rfl iX rfl 15 2 rfl (by kernel_rfl) _ _ rfl MR rfl
        · exact step_newX rfl rfl rfl
        · exact step_asgf rfl 13 0 rfl (by kernel_rfl) rfl rfl
      intro vs q W W' hq hF hql nW RG TG
      have h6 : vs 6 = .int .i64 k := hF 5 6 (by decide) (by kernel_rfl)
      clear hF MR
      obtain ⟨t, rt, lt, rfl⟩ := RG
      obtain ⟨x, hx, x16, x0⟩ := msk_ok k d hlt hd
      simp only [puts, hq, h6, Act.put, List.setIfInBounds_toArray, List.set_cons_succ, List.set_cons_zero]
      have MK := msk_is x16 x0
      have el : (prt es k).length = 4 := prt_len hM.1 hlt
      have bE := (hM.2 k hlt).bd
      have yE : ∀ j, j < 20 → 0 ≤ atY es d k j ∧ atY es d k j < 18446744073709551616 := by
        intro j hj
        unfold atY
        split
        · exact (hM.2 d hd).bd j hj
        · omega
      obtain ⟨b, hb⟩ : ∃ b, b = decide (k = d) := ⟨_, rfl⟩
      have zE : b = true → ∀ j, atY es d k j = 0 := by
        intro h j
        rw [h] at hb
        have : k = d := by simpa using hb.symm
        unfold atY
        rw [if_neg (by omega)]
      have ST := hide (atY_step es d k b hb)
      have y0 : ∀ j, j < 20 → W'.cell? ⟨w.heap.size + 1, j, none⟩ = some (.int .u64 (atY es d k j)) := fun j hj => (World.cell?_of_block (a := ⟨w.heap.size + 1, j, none⟩) (nW.block _ l5)).trans (I.y j hj)
      have f0 : ∀ j, W'.frozen? ⟨w.heap.size + 1, j, none⟩ = false := fun j => (World.frozen?_of_block (a := ⟨w.heap.size + 1, j, none⟩) (nW.block _ l5)).trans (I.fr j)
      have tr0 := there_up (by omega) I.tr nW
      have N0 := I.n.trans (nW.mono (by omega))
      have hne : q ≠ w.heap.size + 1 := by omega
      generalize hY : atY es d k = Y at *
      have rc : ∀ (W : World), W.rangeAt q 0 (clN (prt es k)) → ∀ j, j < 20 → W.cell? ⟨q, j, none⟩ = some (.int .u64 (flat (prt es k) j)) := fun W h j hj => by
        have := row_flat h el j (by omega)
        rwa [Nat.zero_add] at this
      have rcH := hide rc
      clear rc
      have rq := hide rt
      clear rt
      generalize hE : flat (prt es k) = E at *
      have HE := hide hE
      clear hE
      rw [← hb] at MK
      clear hb I nW
      go_upto_region 6 with fail
      clear MK hx x0
      have HYY := hide hY
      clear hY
      have q0 := rcH.out W' rq.out
      have c0 := q0 0 (by omega)
      have c1 := q0 1 (by omega)
      have c2 := q0 2 (by omega)
      have c3 := q0 3 (by omega)
      have c4 := q0 4 (by omega)
      have MG := merge20 W' (w.heap.size + 1) 0 b (Y) E (by omega) y0 f0 yE bE (fun h j hj => zE h j)
      simp only [ag5, Nat.mul_zero, Nat.zero_add] at MG
      have MG' := hide MG
      clear MG y0 f0 q0
      go_wp2_with fail
      refine MG'.out.mono ?_
      rintro r V1 ⟨rfl, y1, f1, B1, n1⟩
      clear MG' c0 c1 c2 c3 c4
      have y0 := y1
      have f0 := f1
      have rq := hide (show (V1).rangeAt q 0 (clN (prt es k)) from fun j v hv => (World.cell?_of_block (a := ⟨q, 0 + j, none⟩) (B1.1 q hne lt)).trans (rq.out j v hv))
      replace lt := Nat.lt_of_lt_of_le lt B1.2
      have tr0 := there_but (by omega) tr0 B1 (by omega)
      have N0 := n1 w w.heap.size N0 (by omega)
      have yE : ∀ j, j < 20 → 0 ≤ m20 b 0 (Y) E j ∧ m20 b 0 (Y) E j < 18446744073709551616 := by
        intro j hj
        unfold m20
        split
        · exact bE j hj
        · exact yE j hj
      clear y1 f1 B1 n1
      have z1 : b = true → ∀ j, 5 * 1 ≤ j → m20 b 0 (Y) E j = 0 := by
        intro h j hj
        unfold m20
        rw [if_neg (by omega)]
        exact zE h j
      have q1 := rcH.out V1 rq.out
      have c0 := q1 5 (by omega)
      have c1 := q1 6 (by omega)
      have c2 := q1 7 (by omega)
      have c3 := q1 8 (by omega)
      have c4 := q1 9 (by omega)
      have MG := merge20 V1 (w.heap.size + 1) 1 b (m20 b 0 (Y) E) E (by omega) y0 f0 yE bE (fun h j hj => z1 h j hj)
      simp only [ag5, Nat.reduceMul, Nat.reduceAdd, Nat.add_zero] at MG
      have MG' := hide MG
      clear MG y0 f0 q1
      go_wp2_with fail
      refine MG'.out.mono ?_
      rintro r V2 ⟨rfl, y1, f1, B1, n1⟩
      clear MG' c0 c1 c2 c3 c4
      have y0 := y1
      have f0 := f1
      have rq := hide (show (V2).rangeAt q 0 (clN (prt es k)) from fun j v hv => (World.cell?_of_block (a := ⟨q, 0 + j, none⟩) (B1.1 q hne lt)).trans (rq.out j v hv))
      replace lt := Nat.lt_of_lt_of_le lt B1.2
      have tr0 := there_but (by omega) tr0 B1 (by omega)
      have N0 := n1 w w.heap.size N0 (by omega)
      have yE : ∀ j, j < 20 → 0 ≤ m20 b 1 (m20 b 0 (Y) E) E j ∧ m20 b 1 (m20 b 0 (Y) E) E j < 18446744073709551616 := by
        intro j hj
        unfold m20
        split
        · exact bE j hj
        · exact yE j hj
      clear y1 f1 B1 n1
      have z2 : b = true → ∀ j, 5 * 2 ≤ j → m20 b 1 (m20 b 0 (Y) E) E j = 0 := by
        intro h j hj
        unfold m20
        rw [if_neg (by omega)]
        exact z1 h j (by omega)
      have q2 := rcH.out V2 rq.out
      have c0 := q2 10 (by omega)
      have c1 := q2 11 (by omega)
      have c2 := q2 12 (by omega)
      have c3 := q2 13 (by omega)
      have c4 := q2 14 (by omega)
      have MG := merge20 V2 (w.heap.size + 1) 2 b (m20 b 1 (m20 b 0 (Y) E) E) E (by omega) y0 f0 yE bE (fun h j hj => z2 h j hj)
      simp only [ag5, Nat.reduceMul, Nat.reduceAdd, Nat.add_zero] at MG
      have MG' := hide MG
      clear MG y0 f0 q2
      go_wp2_with fail
      refine MG'.out.mono ?_
      rintro r V3 ⟨rfl, y1, f1, B1, n1⟩
      clear MG' c0 c1 c2 c3 c4
      have y0 := y1
      have f0 := f1
      have rq := hide (show (V3).rangeAt q 0 (clN (prt es k)) from fun j v hv => (World.cell?_of_block (a := ⟨q, 0 + j, none⟩) (B1.1 q hne lt)).trans (rq.out j v hv))
      replace lt := Nat.lt_of_lt_of_le lt B1.2
      have tr0 := there_but (by omega) tr0 B1 (by omega)
      have N0 := n1 w w.heap.size N0 (by omega)
      have yE : ∀ j, j < 20 → 0 ≤ m20 b 2 (m20 b 1 (m20 b 0 (Y) E) E) E j ∧ m20 b 2 (m20 b 1 (m20 b 0 (Y) E) E) E j < 18446744073709551616 := by
        intro j hj
        unfold m20
        split
        · exact bE j hj
        · exact yE j hj
      clear y1 f1 B1 n1
      have z3 : b = true → ∀ j, 5 * 3 ≤ j → m20 b 2 (m20 b 1 (m20 b 0 (Y) E) E) E j = 0 := by
        intro h j hj
        unfold m20
        rw [if_neg (by omega)]
        exact z2 h j (by omega)
      have q3 := rcH.out V3 rq.out
      have c0 := q3 15 (by omega)
      have c1 := q3 16 (by omega)
      have c2 := q3 17 (by omega)
      have c3 := q3 18 (by omega)
      have c4 := q3 19 (by omega)
      have MG := merge20 V3 (w.heap.size + 1) 3 b (m20 b 2 (m20 b 1 (m20 b 0 (Y) E) E) E) E (by omega) y0 f0 yE bE (fun h j hj => z3 h j hj)
      simp only [ag5, Nat.reduceMul, Nat.reduceAdd, Nat.add_zero] at MG
      have MG' := hide MG
      clear MG y0 f0 q3
      go_wp2_with fail
      refine MG'.out.mono ?_
      rintro r V4 ⟨rfl, y1, f1, B1, n1⟩
      clear MG' c0 c1 c2 c3 c4
      have y0 := y1
      have f0 := f1
      have rq := hide (show (V4).rangeAt q 0 (clN (prt es k)) from fun j v hv => (World.cell?_of_block (a := ⟨q, 0 + j, none⟩) (B1.1 q hne lt)).trans (rq.out j v hv))
      replace lt := Nat.lt_of_lt_of_le lt B1.2
      have tr0 := there_but (by omega) tr0 B1 (by omega)
      have N0 := n1 w w.heap.size N0 (by omega)
      have yE : ∀ j, j < 20 → 0 ≤ m20 b 3 (m20 b 2 (m20 b 1 (m20 b 0 (Y) E) E) E) E j ∧ m20 b 3 (m20 b 2 (m20 b 1 (m20 b 0 (Y) E) E) E) E j < 18446744073709551616 := by
        intro j hj
        unfold m20
        split
        · exact bE j hj
        · exact yE j hj
      clear y1 f1 B1 n1
      have z4 : b = true → ∀ j, 5 * 4 ≤ j → m20 b 3 (m20 b 2 (m20 b 1 (m20 b 0 (Y) E) E) E) E j = 0 := by
        intro h j hj
        unfold m20
        rw [if_neg (by omega)]
        exact z3 h j (by omega)
      have HH := hide (show AtI w V4 w.heap.size (w.heap.size + 1) d (k + 1) es from by
        refine ⟨N0, tr0, fun j hj => ?_, f0⟩
        rw [y0 j hj]
        have e := congrFun ST.out j
        simp only [if_pos hj] at e
        rw [e])
      clear y0 f0 yE z1 z2 z3 z4 zE bE ST tr0 N0 rq rcH
      go_wp2
      go_roundw
      case rel => exact ⟨k + 1, by omega, by go_num, HH.out⟩
      case measure => simp [intOf]; omega
    · obtain rfl : k = 16 := by omega
      have el : (prt es d).length = 4 := prt_len hM.1 hd
      have RG : RowG wr (w.heap.size + 1) 0 (fun t => t = prt es d) := ⟨prt es d, flat_row el (fun j hj => by
        rw [I.y j hj]
        unfold atY
        rw [if_pos hd]), l5, rfl⟩
      go_upto_region 11 with fail
      refine region_putG 146 1 0 4 51 4 w.heap.size 0 _ (fun i => [AG (fun t => t = prt es d)].getD i Fact.no) (fun t => t = prt es d) (fun t ht => by rw [ht]; exact el) (by omega) (by kernel_rfl) rfl rfl rfl iX I.tr (fun a W hb _ => based_at hb 4 (by kernel_rfl)) (by decide) (by kernel_rfl) rfl ?_ ?_
      · intro i hi
        obtain rfl : i = 0 := by omega
        exact step_lG 146 _ 4 _ (fun t ht => by rw [ht]; exact el) Tryz.underlying146 rfl iX rfl 5 rfl (by kernel_rfl) _ _ rfl RG rfl
      intro vs W t ht nW
      subst ht
      have th := there_up (by omega) I.tr nW
      have lz : (clN (prt es d)).length = 20 := by rw [clN_size, el]
      have rg : (W.setCells w.heap.size 0 (clN (prt es d))).rangeAt w.heap.size 0 (clN (prt es d)) := World.rangeAt_setCells_same W _ 0 _ (by rw [lz]; exact th)
      have NS : Below w.heap.size w (W.setCells w.heap.size 0 (clN (prt es d))) := below_setCells (Nat.le_refl _) _ _ _ (I.n.trans (nW.mono (by omega)))
      have EX := hM.2 d hd
      generalize W.setCells w.heap.size 0 (clN (prt es d)) = W2 at *
      simp only [puts, Act.put, List.setIfInBounds_toArray, List.set_cons_succ, List.set_cons_zero]
      clear RG I th
      go_wp2
      obtain ⟨fs, hfs⟩ := uX
      exact bodyPost_ret (v := agN (prt es d)) (results_cell_mid Tryz.results82 _ _ w.heap.size (clN (prt es d)) _ rfl rg hfs rfl (by rw [lz]; exact iX)) rfl ⟨prt es d, rfl, EX, NS⟩
end Go.Proofs.YtkglcainhkbgbaaGreatDoor
namespace Go.Proofs.YtkglcainhkbgbaaGreatDoor
set_option maxRecDepth 100000
open Go Go.RowKit
theorem extAdd_E (w : World) (D : Int) (hD : PP ∣ D - d0) (es fs : List (Nat → Int)) (p q : Int × Int) (hp : OnP PP (-1) d0 p) (hq : OnP PP (-1) d0 q) (he : Ext es p) (hf : Ext fs q) (TT : HasTw w 9) (CC : Em5 w 8 0 D) :
    Calls Tryz.prog 79 #[agN es, agN fs] w fun r w' => ∃ ts, r = .returned (agN ts) ∧ Ext ts (eadd (-1) d0 einv p q) ∧ Below w.heap.size w w' := by
  obtain ⟨X, Y, Z, T, h1, h2⟩ := he
  obtain ⟨X', Y', Z', T', k1, k2⟩ := hf
  refine (extAdd_any w D es fs T T' X X' Y Y' Z Z' h1 k1 TT CC).mono ?_
  rintro r w' ⟨ts, rfl, h, n⟩
  exact ⟨ts, rfl, ⟨_, _, _, _, h, ex_sum hD hp hq h2 k2⟩, n⟩
theorem double_E (w : World) (x y z t : Nat → Int) (fs : List (Nat → Int)) (p q : Int × Int) (hp : OnP PP (-1) d0 p) (he : Ext [x, y, z, t] p) (hf : Ext fs q) (TT : HasTw w 9) :
    Calls Tryz.prog 78 #[agN [x, y, z], agN fs] w fun r w' => ∃ ts, r = .returned (agN ts) ∧ Ext ts (eadd (-1) d0 einv p p) ∧ Below w.heap.size w w' := by
  obtain ⟨X, Y, Z, T, h1, h2⟩ := he
  obtain ⟨X', Y', Z', T', k1, k2⟩ := hf
  refine (double_any w [x, y, z] fs T' X X' Y Y' Z Z' ⟨h1.1, h1.2.1, h1.2.2.1, trivial⟩ k1 TT).mono ?_
  rintro r w' ⟨ts, rfl, h, n⟩
  exact ⟨ts, rfl, ⟨_, _, _, _, h, ex_double hp h2⟩, n⟩
theorem toExt_E (w : World) (es : List (Nat → Int)) (X Y : Int) (hes : IsN es [X, Y]) :
    Calls Tryz.prog 81 #[agN es] w fun r w' => ∃ ts, r = .returned (agN ts) ∧ Ext ts (X, Y) ∧ Below w.heap.size w w' := by
  refine (toExt_any w es X Y hes).mono ?_
  rintro r w' ⟨ts, rfl, h, n⟩
  exact ⟨ts, rfl, ⟨_, _, _, _, h, ex_one (X, Y)⟩, n⟩
theorem buM (x y z t : Nat → Int) (w : World) : (Instr.build 149 #[(0, agN [x, y, z, t])]).run Tryz.prog w = .ok (agN ([x, y, z, t] ++ List.replicate 60 zl5)) w := by kernel_rfl
theorem mulL_one {x y z t : Nat → Int} {p : Int × Int} (h : Ext [x, y, z, t] (0, 1)) : MulL ([x, y, z, t] ++ List.replicate 60 zl5) 1 p := by
  refine ⟨by simp, fun i hi => ?_⟩
  obtain rfl : i = 0 := by omega
  exact h
def zM : List (Nat → Int) := List.replicate 64 zl5
theorem alM (w : World) : (Instr.alloc 149 true (.tuple #[])).run Tryz.prog w = .ok (.pointer (some ⟨w.heap.size, 0, none⟩)) (w.alloc (.cells (clN zM).toArray 149)) := by kernel_rfl
section
variable {ops : Array Oper} {Q : Exit → Act → World → Prop} {md : Region.Mode} {F : Nat → Fact} {a0 : Act} {w0 w : World} {i id : Nat} {o : Oper} {ts : Array TypeId} {draw : Bool}
theorem step_newM (hi : ops[i]? = some o) (hop : o.op = .alloc 149) (hF : F i = NB w0 320) : StepOk Tryz.prog md ops Q F a0 w0 i := by
  refine step_grow hi fun a w _ hw _ => ⟨.pointer (some ⟨w.heap.size, 0, none⟩), w.alloc (.cells (clN zM).toArray 149), ?_, (Below.refl _ _).alloc (Nat.le_refl _) _, ?_⟩
  · simp only [execOp, hop]
    rw [Sem.run_bind, alM]
    rfl
  · rw [hF]
    refine ⟨by omega, _, rfl, ?_, hw.size⟩
    have := there_new w (clN zM) 149
    rwa [show (clN zM).length = 320 by rw [clN_size]; rfl] at this
theorem step_extG (R : List (Nat → Int) → Prop) (hi : ops[i]? = some o) (p j : Nat) (A B : Int) (hR : ∀ es, Ext es (A, B) → R es) (hop : o.op = .call { callee := .value (.func 81), args := #[.tmp p], argTypes := ts }) (hj : waits md ops i j p = true) (hFj : F j = EN [A, B]) (hFi : F i = AG R) : StepOk Tryz.prog md ops Q F a0 w0 i := by
  refine step_call hi _ _ ts hop (by kernel_rfl) fun a w _ hw hF => ?_
  have ea := hF j p hj
  rw [hFj] at ea
  obtain ⟨t, e1, L1⟩ := ea
  show Calls Tryz.prog _ #[a.tmps.getD p undef] w _
  rw [e1]
  refine (toExt_E w t A B L1).mono ?_
  rintro r w' ⟨s, rfl, L, hn⟩
  rw [hFi]
  exact ⟨_, rfl, hn, s, rfl, hR _ L⟩
theorem step_addG {D : Int} (hD : PP ∣ D - d0) (TT : HasTw w0 9) (CC : Em5 w0 8 0 D) (Ra Rb R : List (Nat → Int) → Prop) (P1 P2 : Int × Int) (hp : OnP PP (-1) d0 P1) (hq : OnP PP (-1) d0 P2) (ha : ∀ es, Ra es → Ext es P1) (hb : ∀ es, Rb es → Ext es P2) (hR : ∀ es, Ext es (eadd (-1) d0 einv P1 P2) → R es) (hi : ops[i]? = some o) (p q j k : Nat) (hop : o.op = .call { callee := .value (.func 79), args := #[.tmp p, .tmp q], argTypes := ts }) (hj : waits md ops i j p = true) (hk : waits md ops i k q = true) (hFj : F j = AG Ra) (hFk : F k = AG Rb) (hFi : F i = AG R) : StepOk Tryz.prog md ops Q F a0 w0 i := by
  refine step_call hi _ _ ts hop (by kernel_rfl) fun a w _ hw hF => ?_
  have ea := hF j p hj
  have eb := hF k q hk
  rw [hFj] at ea
  rw [hFk] at eb
  obtain ⟨t, e1, L1⟩ := ea
  obtain ⟨u, e2, L2⟩ := eb
  show Calls Tryz.prog _ #[a.tmps.getD p undef, a.tmps.getD q undef] w _
  rw [e1, e2]
  refine (extAdd_E w D hD t u P1 P2 hp hq (ha _ L1) (hb _ L2) (TT.up hw) (CC.up hw)).mono ?_
  rintro r w' ⟨s, rfl, L, hn⟩
  rw [hFi]
  exact ⟨_, rfl, hn, s, rfl, hR _ L⟩
end
end Go.Proofs.YtkglcainhkbgbaaGreatDoor
namespace Go.Proofs.YtkglcainhkbgbaaGreatDoor
set_option maxRecDepth 100000
open Go Go.RowKit
theorem iMu : (Tryz.prog.info? 149).map (·.size) = some (5 * 64) := by kernel_rfl
structure MuI (w wr : World) (q2 q3 q4 k : Nat) (p : Int × Int) : Prop where
  n : Below w.heap.size w wr
  t2 : wr.there q2 0 320
  t3 : wr.there q3 0 320
  r3 : RowG wr q3 0 (fun es => MulL es (k + 1) p)
  r4 : RowG wr q4 0 (fun es => Ext es p)
theorem there_part {W : World} {q i : Nat} (h : W.there q 0 320) (hi : i < 16) : W.there q (20 * i) (5 * 4) := fun j hj => by
  have := h (20 * i + j) (by omega)
  rwa [Nat.zero_add] at this
theorem bxA (x y : Nat → Int) (w : World) : (Instr.box 82 (agN [x, y])).run Tryz.prog w = .ok (.pointer (some ⟨w.heap.size, 0, none⟩)) (w.alloc (.cells (clN [x, y]).toArray 82)) := by kernel_rfl
theorem mlP_inc {p : Int × Int} (hp : OnP PP (-1) d0 p) (k : Nat) : Pe PP (eadd (-1) d0 einv (mlP k p) p) (mlP (k + 1) p) :=
  (eadd_cg crv1 (mlP_on hp k) hp (Pe.refl _) (mlP_one hp).symm).trans (mlP_add hp k 1)
theorem run_inc {P : Program} {o : Oper} {a : Act} {W : World} {p : Nat} {t : TypeId} {n : Int} (hop : o.op = .binOp .add t (.tmp p) (.const (.int .i64 1)) t) (g : a.eval (.tmp p) = .int .i64 n) (h0 : 0 ≤ n) (h1 : n < 1000000) : (execOp a.eval o).run P W = .ok (.value (.int .i64 (n + 1))) W := by
  have e : IntKind.i64.wrap (n + 1) = n + 1 := by
    have m : (n + 1) % 18446744073709551616 = n + 1 := by omega
    simp [IntKind.wrap, IntKind.bits, IntKind.signed, m]
    omega
  have g' : a.tmps[p]?.getD undef = .int .i64 n := by simpa [Act.eval] using g
  simp [execOp, hop, Act.eval, g', eqGuard, binOp, Op.intArith, e]
theorem step_idxM {ops : Array Oper} {Q : Exit → Act → World → Prop} {md : Region.Mode} {F : Nat → Fact} {a0 : Act} {w0 : World} {i : Nat} {o : Oper} (hi : ops[i]? = some o) (p s j q n : Nat) (hn : n < 16) (hop : o.op = .indexAddr 149 (.tmp p) (.tmp s)) (hp : apart ops p = true) (h0 : a0.tmps.getD p undef = .pointer (some ⟨q, 0, none⟩)) (hj : waits md ops i j s = true) (hFj : F j = Fact.eq (.int .i64 (n : Int))) (hF : F i = Fact.eq (.pointer (some ⟨q, 20 * n, none⟩))) : StepOk Tryz.prog md ops Q F a0 w0 i := by
  refine step_pure hi fun a W hb _ hf => ⟨.pointer (some ⟨q, 20 * n, none⟩), ?_, by rw [hF]; exact rfl⟩
  have g1 : a.eval (.tmp p) = .pointer (some ⟨q, 0, none⟩) := (based_at hb p hp).trans h0
  have g2 := hf j s hj
  rw [hFj] at g2
  have g2' : a.eval (.tmp s) = .int .i64 (n : Int) := g2
  simp only [execOp, hop, g1, g2']
  rw [Sem.run_bind, run_idx16 W q n hn]
  rfl
theorem step_buM {ops : Array Oper} {Q : Exit → Act → World → Prop} {md : Region.Mode} {F : Nat → Fact} {a0 : Act} {w0 : World} {i : Nat} {o : Oper} {p : Int × Int} (hi : ops[i]? = some o) (s j : Nat) (hop : o.op = .build 149 #[(0, .tmp s)]) (hj : waits md ops i j s = true) (hFj : F j = AG (fun t => Ext t (0, 1))) (hFi : F i = AG (fun t => MulL t 1 p)) : StepOk Tryz.prog md ops Q F a0 w0 i := by
  refine step_pure hi fun a w _ _ hf => ?_
  have h1 := hf j s hj
  rw [hFj] at h1
  obtain ⟨us, e1, hE⟩ := h1
  obtain ⟨X, Y, Z, T, hN, hX⟩ := id hE
  obtain ⟨x, y, z, t, rfl, _⟩ := isN4 hN
  refine ⟨agN ([x, y, z, t] ++ List.replicate 60 zl5), ?_, by rw [hFi]; exact ⟨_, rfl, mulL_one hE⟩⟩
  have g1 : a.eval (.tmp s) = agN [x, y, z, t] := e1
  have g : (#[(0, Operand.tmp s)].map fun (n, x) => (n, a.eval x)) = #[(0, agN [x, y, z, t])] := by simp [g1]
  simp only [execOp, hop, g]
  rw [Sem.run_bind, buM]
  rfl
def BXA (A B : Int) : Fact := ⟨fun v W => ∃ q, v = .pointer (some ⟨q, 0, none⟩) ∧ RowN W q 0 [A, B], fun n h => by obtain ⟨q, e, r⟩ := h; exact ⟨q, e, r.up n⟩⟩
theorem step_boxA {ops : Array Oper} {Q : Exit → Act → World → Prop} {md : Region.Mode} {F : Nat → Fact} {a0 : Act} {w0 : World} {i : Nat} {o : Oper} (hi : ops[i]? = some o) (p : Nat) (hop : o.op = .box 82 (.tmp p)) (hp : apart ops p = true) (us : List (Nat → Int)) (A B : Int) (hus : IsN us [A, B]) (h0 : a0.tmps.getD p undef = .agg (clN us).toArray) (hF : F i = BXA A B) : StepOk Tryz.prog md ops Q F a0 w0 i := by
  refine step_grow hi fun a W hb _ _ => ⟨.pointer (some ⟨W.heap.size, 0, none⟩), W.alloc (.cells (clN us).toArray 82), ?_, (Below.refl _ _).alloc (Nat.le_refl _) _, by rw [hF]; exact ⟨_, rfl, rowN_new W _ hus⟩⟩
  have e : a.eval (.tmp p) = .agg (clN us).toArray := (based_at hb p hp).trans h0
  obtain ⟨x, y, rfl, _, _⟩ := isN2 hus
  have k := bxA x y W
  unfold agN at k
  simp only [execOp, hop, e]
  rw [Sem.run_bind, k]
  rfl
set_option maxHeartbeats 4000000 in
theorem multiples_any (w : World) (us : List (Nat → Int)) (X Y D : Int) (hus : IsN us [X, Y]) (hp : OnP PP (-1) d0 (X, Y)) (hD : PP ∣ D - d0) (TT : HasTw w 9) (CC : Em5 w 8 0 D) (ZP : RowN w 6 0 [0, 1]) :
    Calls Tryz.prog 80 #[agN us] w fun r w' => ∃ es, r = .returned (agN es) ∧ MulL es 16 (X, Y) ∧ Below w.heap.size w w' := by
  show Calls Tryz.prog 80 #[.agg (clN us).toArray] w _
  go_enter Tryz.func80, Tryz.ntmps80
  go_upto_region 0 with fail
  refine region_end 2 (fun i => [BXA X Y, NB w 320].getD i Fact.no) (by kernel_rfl) (by kernel_rfl) rfl ?_ ?_
  · intro i hi
    obtain rfl | rfl : i = 0 ∨ i = 1 := by omega
    · exact step_boxA rfl 0 rfl (by kernel_rfl) us X Y hus rfl rfl
    · exact step_newM rfl rfl rfl
  intro a W hb nW hF
  have h1 := hF 0 1 (by kernel_rfl)
  have h2 := hF 1 2 (by kernel_rfl)
  obtain ⟨q1, e1, A1⟩ := h1
  obtain ⟨_, q2, e2, T2, l2⟩ := h2
  obtain ⟨vs, hvs⟩ : ∃ vs : Nat → Value, ∀ d, a.tmps.getD d undef = vs d := ⟨_, fun _ => rfl⟩
  rw [hvs] at e1 e2
  rw [puts_of (md := .any) (k := 2) (by kernel_rfl) rfl hb vs hvs]
  simp only [puts, e1, e2, Act.put, List.setIfInBounds_toArray, List.set_cons_succ, List.set_cons_zero]
  clear hF hb hvs
  have ZP1 := ZP.up nW
  go_upto_region 1 with fail
  refine region_newG 149 4 3 2 3 8 64 _ (fun i => [EN [0, 1], AG (fun t => Ext t (0, 1)), AG (fun t => MulL t 1 (X, Y)), NB W 320].getD i Fact.no) (fun t => MulL t 1 (X, Y)) (fun t ht => ht.1) (by kernel_rfl) rfl rfl rfl iMu (by decide) (by decide) (by kernel_rfl) (by kernel_rfl) rfl rfl ?_ ?_
  · intro i hi
    obtain rfl | rfl | rfl | rfl : i = 0 ∨ i = 1 ∨ i = 2 ∨ i = 3 := by omega
    · exact step_glA rfl 6 rfl _ _ ZP1 rfl
    · exact step_extG _ rfl 6 0 0 1 (fun _ h => h) rfl (by kernel_rfl) rfl rfl
    · exact step_buM rfl 7 1 rfl (by kernel_rfl) rfl rfl
    · exact step_newM rfl rfl rfl
  intro vs1 q3 W1 W2 hq3 _ lq3 n2 R3 T3
  simp only [puts, hq3, Act.put, List.setIfInBounds_toArray, List.set_cons_succ, List.set_cons_zero]
  have T2' := there_up (by omega) T2 n2
  have A1' := A1.up n2
  have N2 := nW.trans (n2.mono nW.size)
  have lt2 := there_lt (by omega) T2
  clear T2 A1 ZP1 nW n2
  go_upto_region 2 with fail
  refine region_newG 146 3 2 1 4 10 4 _ (fun i => [EN [X, Y], AG (fun t => Ext t (X, Y)), NB W2 20].getD i Fact.no) (fun t => Ext t (X, Y)) (fun t ht => ht.len) (by kernel_rfl) rfl rfl rfl iX (by decide) (by decide) (by kernel_rfl) (by kernel_rfl) rfl rfl ?_ ?_
  · intro i hi
    obtain rfl | rfl | rfl : i = 0 ∨ i = 1 ∨ i = 2 := by omega
    · exact step_lA rfl 1 rfl (by kernel_rfl) _ rfl _ _ A1' rfl
    · exact step_extG _ rfl 9 0 X Y (fun _ h => h) rfl (by kernel_rfl) rfl rfl
    · exact step_newX rfl rfl rfl
  intro vs2 q4 W3 W4 hq4 _ lq4 n4 R4 T4
  simp only [puts, hq4, Act.put, List.setIfInBounds_toArray, List.set_cons_succ, List.set_cons_zero]
  have l3 : q3 < W2.heap.size := there_lt (by omega) T3
  have I0 : MuI w W4 q2 q3 q4 0 (X, Y) := ⟨N2.trans (n4.mono N2.size), there_up (by omega) T2' n4, there_up (by omega) T3 n4, R3.up n4, R4⟩
  have h34 : q3 ≠ q4 := by omega
  have h23 : w.heap.size ≤ q2 := l2
  have h33 : w.heap.size ≤ q3 := by omega
  clear T2' A1' N2 T3 R3 n4 R4 T4 lq4 l3 lt2 lq3
  go_wp2
  go_loopw [11] (fun i wr => ∃ k : Nat, k ≤ 15 ∧ i = .int .i64 k ∧ MuI w wr q2 q3 q4 k (X, Y)) (fun i _ => 15 - (intOf i).toNat)
  case atStart => exact ⟨0, by omega, rfl, I0⟩
  case round =>
    clear I0
    obtain ⟨k, hk, rfl, I⟩ := hrel
    have l3 : q3 < wr.heap.size := there_lt (by omega) I.t3
    have TTr := TT.up I.n
    have CCr := CC.up I.n
    by_cases hlt : k < 15
    · have k5 : (k : Int) < 15 := by omega
      obtain ⟨es, re, le, hes⟩ := I.r3
      have RK : RowG wr q3 (20 * k) (fun t => t = prt es k) := ⟨_, row_part re hes.1 (by omega), le, rfl⟩
      have K1 : ((k : Int) + 1) = ((k + 1 : Nat) : Int) := by omega
      go_upto_region 6 with fail
      refine region_putG 146 8 6 21 20 4 q3 (20 * (k + 1)) _ (fun i => [Fact.eq (.int .i64 (k : Int)), Fact.eq (.int .i64 ((k + 1 : Nat) : Int)), Fact.eq (.int .i64 (k : Int)), Fact.eq (.pointer (some ⟨q3, 20 * k, none⟩)), AG (fun t => t = prt es k), AG (fun t => Ext t (X, Y)), AG (fun t => Ext t (mlP (k + 1) (X, Y))), Fact.eq (.pointer (some ⟨q3, 20 * (k + 1), none⟩))].getD i Fact.no) (fun t => Ext t (mlP (k + 1) (X, Y))) (fun t ht => ht.len) (by omega) (by kernel_rfl) rfl rfl rfl iX (there_part I.t3 (by omega)) (fun a W _ hf => hf 7 21 (by decide) (by kernel_rfl)) (by decide) (by kernel_rfl) rfl ?_ ?_
      · intro i hi
        obtain rfl | rfl | rfl | rfl | rfl | rfl | rfl | rfl : i = 0 ∨ i = 1 ∨ i = 2 ∨ i = 3 ∨ i = 4 ∨ i = 5 ∨ i = 6 ∨ i = 7 := by omega
        · exact step_mv rfl 5 rfl (by kernel_rfl) rfl rfl
        · refine step_pure rfl fun a W hb _ hf => ⟨.int .i64 ((k + 1 : Nat) : Int), ?_, rfl⟩
          have g1 : a.eval (.tmp 14) = .int .i64 (k : Int) := hf 0 14 (by kernel_rfl)
          rw [← K1]
          exact run_inc rfl g1 (by omega) (by omega)
        · exact step_mv rfl 5 rfl (by kernel_rfl) rfl rfl
        · exact step_idxM rfl 3 16 2 q3 k (by omega) rfl (by kernel_rfl) rfl (by kernel_rfl) rfl rfl
        · exact step_lGf 146 _ 4 _ (fun t ht => by rw [ht]; exact prt_len hes.1 (by omega)) Tryz.underlying146 rfl iX rfl 17 3 rfl (by kernel_rfl) _ _ rfl RK rfl
        · exact step_lG 146 _ 4 _ (fun t ht => ht.len) Tryz.underlying146 rfl iX rfl 4 rfl (by kernel_rfl) _ _ rfl I.r4 rfl
        · exact step_addG hD TTr CCr _ _ _ (mlP k (X, Y)) (X, Y) (mlP_on hp k) hp (fun t ht => by rw [ht]; exact hes.2 k (by omega)) (fun _ h => h) (fun t ht => ht.cg (mlP_inc hp k)) rfl 18 19 4 5 rfl (by kernel_rfl) (by kernel_rfl) rfl rfl rfl
        · exact step_idxM rfl 3 15 1 q3 (k + 1) (by omega) rfl (by kernel_rfl) rfl (by kernel_rfl) rfl rfl
      intro vs5 W5 fs hfs n5
      have b5 : ButQ q3 wr (W5.setCells q3 (20 * (k + 1)) (clN fs)) := but_setO n5 _ _
      have HH := hide (show MuI w (W5.setCells q3 (20 * (k + 1)) (clN fs)) q2 q3 q4 (k + 1) (X, Y) from by
        refine ⟨below_setCells h33 _ _ _ (I.n.trans (n5.mono I.n.size)), World.there_setCells (there_up (by omega) I.t2 n5) _ _ _, World.there_setCells (there_up (by omega) I.t3 n5) _ _ _, ?_, I.r4.but b5 (Ne.symm h34)⟩
        have re5 : W5.rangeAt q3 0 (clN es) := fun j v hv => (World.cell?_of_block (a := ⟨q3, 0 + j, none⟩) (n5.block q3 le)).trans (re j v hv)
        exact ⟨putP es fs (k + 1), row_put (there_up (by omega) I.t3 n5) re5 hes.1 hfs.len (by omega), by rw [heap_size_setCells]; exact Nat.lt_of_lt_of_le le n5.size, hes.put (by omega) hfs⟩)
      clear b5 RK I re hes TTr CCr n5 K1
      generalize W5.setCells q3 (20 * (k + 1)) (clN fs) = W6 at *
      simp only [puts, Act.put, List.setIfInBounds_toArray, List.set_cons_succ, List.set_cons_zero]
      go_wp2
      go_roundw
      case rel => exact ⟨k + 1, by omega, by go_num, HH.out⟩
      case measure => simp [intOf]; omega
    · obtain rfl : k = 15 := by omega
      go_upto_region 8 with fail
      refine region_putG 149 1 0 2 23 64 q2 0 _ (fun i => [AG (fun t => MulL t 16 (X, Y))].getD i Fact.no) (fun t => MulL t 16 (X, Y)) (fun t ht => ht.1) (by omega) (by kernel_rfl) rfl rfl rfl iMu I.t2 (fun a W hb _ => based_at hb 2 (by kernel_rfl)) (by decide) (by kernel_rfl) rfl ?_ ?_
      · intro i hi
        obtain rfl : i = 0 := by omega
        exact step_lG 149 _ 64 _ (fun t ht => ht.1) Tryz.underlying149 rfl iMu rfl 3 rfl (by kernel_rfl) _ _ rfl I.r3 rfl
      intro vs5 W5 fs hfs n5
      have th := there_up (by omega) I.t2 n5
      have lz : (clN fs).length = 320 := by rw [clN_size, hfs.1]
      have rg : (W5.setCells q2 0 (clN fs)).rangeAt q2 0 (clN fs) := World.rangeAt_setCells_same W5 _ 0 _ (by rw [lz]; exact th)
      have NS : Below w.heap.size w (W5.setCells q2 0 (clN fs)) := below_setCells h23 _ _ _ (I.n.trans (n5.mono I.n.size))
      generalize W5.setCells q2 0 (clN fs) = W6 at *
      simp only [puts, Act.put, List.setIfInBounds_toArray, List.set_cons_succ, List.set_cons_zero]
      clear I th
      go_wp2
      exact bodyPost_ret (v := agN fs) (results_cell_mid Tryz.results80 _ _ q2 (clN fs) _ rfl rg Tryz.underlying149 rfl (by rw [lz]; exact iMu)) rfl ⟨fs, rfl, hfs, NS⟩
end Go.Proofs.YtkglcainhkbgbaaGreatDoor
namespace Go.Proofs.YtkglcainhkbgbaaGreatDoor
set_option maxRecDepth 100000
open Go Go.RowKit
def fD : Value := .func (.methodOf 146 "loop.example/g00004/impl.double") #[] #[]
def fA : Value := .func (.func 79) #[] #[]
theorem run_dbl (x y z t : Nat → Int) (f : Value) (w : World) : (invoke (.fn (.methodOf 146 "loop.example/g00004/impl.double") #[]) #[agN [x, y, z, t], f]).run Tryz.prog w = .ok (.enter 78 #[agN [x, y, z], f]) w := by kernel_rfl
theorem run_addV (e f : Value) (w : World) : (invoke (.fn (.func 79) #[]) #[e, f]).run Tryz.prog w = .ok (.enter 79 #[e, f]) w := by kernel_rfl
section
variable {ops : Array Oper} {Q : Exit → Act → World → Prop} {md : Region.Mode} {F : Nat → Fact} {a0 : Act} {w0 w : World} {i id : Nat} {o : Oper} {ts : Array TypeId} {draw : Bool}
theorem step_dblV (TT : HasTw w0 9) (P1 P2 : Int × Int) (R : List (Nat → Int) → Prop) (hp : OnP PP (-1) d0 P1) (hR : ∀ es, Ext es (eadd (-1) d0 einv P1 P1) → R es) (hi : ops[i]? = some o) (c p q l j k : Nat) (hop : o.op = .call { callee := .value (.tmp c), args := #[.tmp p, .tmp q], argTypes := ts }) (hl : waits md ops i l c = true) (hj : waits md ops i j p = true) (hk : waits md ops i k q = true) (hFl : F l = Fact.eq fD) (hFj : F j = AG (fun t => Ext t P1)) (hFk : F k = AG (fun t => Ext t P2)) (hFi : F i = AG R) : StepOk Tryz.prog md ops Q F a0 w0 i := by
  intro o' ho' a w hb hw hf K hK
  obtain rfl := Option.some.inj (hi.symm.trans ho')
  have ec := hf l c hl
  have ea := hf j p hj
  have eb := hf k q hk
  rw [hFl] at ec
  rw [hFj] at ea
  rw [hFk] at eb
  obtain ⟨u, e1, L1⟩ := ea
  obtain ⟨v, e2, L2⟩ := eb
  obtain ⟨X, Y, Z, T, hN, hX⟩ := id L1
  obtain ⟨x, y, z, t, rfl, _⟩ := isN4 hN
  have g0 : a.eval (.tmp c) = fD := ec
  have g1 : a.eval (.tmp p) = agN [x, y, z, t] := e1
  have g2 : a.eval (.tmp q) = agN v := e2
  have hr : (execOp a.eval o).run Tryz.prog w = .ok (.enter 78 #[agN [x, y, z], agN v]) w := by
    have h0 : (Deferred.ofValue fD #[agN [x, y, z, t], agN v]).run Tryz.prog w = .ok { target := .fn (.methodOf 146 "loop.example/g00004/impl.double") #[], args := #[agN [x, y, z, t], agN v] } w := by simp [Deferred.ofValue, fD]
    simp [execOp, hop, resolve, g0, g1, g2, h0, run_dbl]
  unfold Oper.wp
  rw [hr, Oper.upon_enter]
  refine (double_E w x y z t v P1 P2 hp L1 L2 (TT.up hw)).mono ?_
  rintro r w' ⟨s, rfl, L, hn⟩
  refine hK _ w' hn ?_
  rw [hFi]
  exact ⟨s, rfl, hR _ L⟩
theorem step_addV {D : Int} (hD : PP ∣ D - d0) (TT : HasTw w0 9) (CC : Em5 w0 8 0 D) (P1 P2 : Int × Int) (R : List (Nat → Int) → Prop) (hp : OnP PP (-1) d0 P1) (hq : OnP PP (-1) d0 P2) (hR : ∀ es, Ext es (eadd (-1) d0 einv P1 P2) → R es) (hi : ops[i]? = some o) (c p q l j k : Nat) (hop : o.op = .call { callee := .value (.tmp c), args := #[.tmp p, .tmp q], argTypes := ts }) (hl : waits md ops i l c = true) (hj : waits md ops i j p = true) (hk : waits md ops i k q = true) (hFl : F l = Fact.eq fA) (hFj : F j = AG (fun t => Ext t P1)) (hFk : F k = AG (fun t => Ext t P2)) (hFi : F i = AG R) : StepOk Tryz.prog md ops Q F a0 w0 i := by
  intro o' ho' a w hb hw hf K hK
  obtain rfl := Option.some.inj (hi.symm.trans ho')
  have ec := hf l c hl
  have ea := hf j p hj
  have eb := hf k q hk
  rw [hFl] at ec
  rw [hFj] at ea
  rw [hFk] at eb
  obtain ⟨u, e1, L1⟩ := ea
  obtain ⟨v, e2, L2⟩ := eb
  have g0 : a.eval (.tmp c) = fA := ec
  have g1 : a.eval (.tmp p) = agN u := e1
  have g2 : a.eval (.tmp q) = agN v := e2
  have hr : (execOp a.eval o).run Tryz.prog w = .ok (.enter 79 #[agN u, agN v]) w := by
    have h0 : (Deferred.ofValue fA #[agN u, agN v]).run Tryz.prog w = .ok { target := .fn (.func 79) #[], args := #[agN u, agN v] } w := by simp [Deferred.ofValue, fA]
    simp [execOp, hop, resolve, g0, g1, g2, h0, run_addV]
  unfold Oper.wp
  rw [hr, Oper.upon_enter]
  refine (extAdd_E w D hD u v P1 P2 hp hq L1 L2 (TT.up hw) (CC.up hw)).mono ?_
  rintro r w' ⟨s, rfl, L, hn⟩
  refine hK _ w' hn ?_
  rw [hFi]
  exact ⟨s, rfl, hR _ L⟩
end
end Go.Proofs.YtkglcainhkbgbaaGreatDoor
namespace Go.Proofs.YtkglcainhkbgbaaGreatDoor
set_option maxRecDepth 100000
open Go Go.RowKit
def cF : List Value := [fD, fD, fD, fD, fA]
def fV (i : Nat) : Value := if i < 4 then fD else fA
theorem buF (w : World) : (Instr.build 147 #[(0, fD), (1, fD), (2, fD), (3, fD), (4, fA)]).run Tryz.prog w = .ok (.agg cF.toArray) w := by kernel_rfl
theorem alF (w : World) : (Instr.alloc 147 true (.tuple #[])).run Tryz.prog w = .ok (.pointer (some ⟨w.heap.size, 0, none⟩)) (w.alloc (.cells [Value.nilFunc, Value.nilFunc, Value.nilFunc, Value.nilFunc, Value.nilFunc].toArray 147)) := by kernel_rfl
theorem idxF (w : World) (i : Nat) (hi : i < 5) : (Instr.index 147 (.agg cF.toArray) (.int .i64 (i : Int))).run Tryz.prog w = .ok (fV i) w := by
  obtain rfl | rfl | rfl | rfl | rfl : i = 0 ∨ i = 1 ∨ i = 2 ∨ i = 3 ∨ i = 4 := by omega
  all_goals kernel_rfl
def RowV (W : World) (q : Nat) (cs : List Value) : Prop := W.rangeAt q 0 cs ∧ q < W.heap.size
theorem RowV.up {W W' : World} {q : Nat} {cs : List Value} (h : RowV W q cs) (n : Below W.heap.size W W') : RowV W' q cs :=
  ⟨fun j v hv => (World.cell?_of_block (a := ⟨q, 0 + j, none⟩) (n.block q h.2)).trans (h.1 j v hv), Nat.lt_of_lt_of_le h.2 n.size⟩
theorem RowV.but {W W' : World} {g q : Nat} {cs : List Value} (h : RowV W g cs) (k : ButQ q W W') (hne : g ≠ q) : RowV W' g cs :=
  ⟨fun j v hv => (World.cell?_of_block (a := ⟨g, 0 + j, none⟩) (k.1 g hne h.2)).trans (h.1 j v hv), Nat.lt_of_lt_of_le h.2 k.2⟩
def cU (U : Nat → Int) : List Value := [.int .u64 (U 0), .int .u64 (U 1), .int .u64 (U 2), .int .u64 (U 3)]
section
variable {ops : Array Oper} {Q : Exit → Act → World → Prop} {md : Region.Mode} {F : Nat → Fact} {a0 : Act} {w0 w : World} {i id : Nat} {o : Oper} {ts : Array TypeId} {draw : Bool}
theorem step_lV (ty : TypeId) (d : TypeDesc) (cs : List Value) (hu : Tryz.prog.underlying ty = some d) (hd : d.isRow = true) (hs : (Tryz.prog.info? ty).map (·.size) = some cs.length) (hi : ops[i]? = some o) (p : Nat) (hop : o.op = .load ty (.tmp p)) (hp : apart ops p = true) (q : Nat) (h0 : a0.tmps.getD p undef = .pointer (some ⟨q, 0, none⟩)) (hE : RowV w0 q cs) (hF : F i = Fact.eq (.agg cs.toArray)) : StepOk Tryz.prog md ops Q F a0 w0 i := by
  refine step_load hi _ _ hop d _ hu hd hs fun a w hb hw _ => ?_
  exact ⟨q, 0, cs, (based_at hb p hp).trans h0, (hE.up hw).1, rfl, by rw [hF]; exact rfl⟩
theorem step_fun {P : Program} (hi : ops[i]? = some o) (fn : Fn) (hop : o.op = .makeFunc fn #[] #[]) (hF : F i = Fact.eq (.func fn #[] #[])) : StepOk P md ops Q F a0 w0 i := by
  refine step_pure hi fun a w _ _ _ => ⟨.func fn #[] #[], ?_, by rw [hF]; exact rfl⟩
  simp only [execOp, hop, Array.map_empty]
  rw [Sem.run_bind]
  rfl
theorem step_buF (hi : ops[i]? = some o) (hop : o.op = .build 147 #[(0, .tmp 12), (1, .tmp 13), (2, .tmp 14), (3, .tmp 15), (4, .func 79)]) (h0 : waits md ops i 0 12 = true) (h1 : waits md ops i 1 13 = true) (h2 : waits md ops i 2 14 = true) (h3 : waits md ops i 3 15 = true) (F0 : F 0 = Fact.eq fD) (F1 : F 1 = Fact.eq fD) (F2 : F 2 = Fact.eq fD) (F3 : F 3 = Fact.eq fD) (hF : F i = Fact.eq (.agg cF.toArray)) : StepOk Tryz.prog md ops Q F a0 w0 i := by
  refine step_pure hi fun a w _ _ hf => ⟨.agg cF.toArray, ?_, by rw [hF]; exact rfl⟩
  have e0 := hf 0 12 h0
  have e1 := hf 1 13 h1
  have e2 := hf 2 14 h2
  have e3 := hf 3 15 h3
  rw [F0] at e0
  rw [F1] at e1
  rw [F2] at e2
  rw [F3] at e3
  have g0 : a.eval (.tmp 12) = fD := e0
  have g1 : a.eval (.tmp 13) = fD := e1
  have g2 : a.eval (.tmp 14) = fD := e2
  have g3 : a.eval (.tmp 15) = fD := e3
  have g4 : a.eval (.func 79) = fA := rfl
  have g : (#[(0, Operand.tmp 12), (1, .tmp 13), (2, .tmp 14), (3, .tmp 15), (4, .func 79)].map fun (n, x) => (n, a.eval x)) = #[(0, fD), (1, fD), (2, fD), (3, fD), (4, fA)] := by simp [g0, g1, g2, g3, g4]
  simp only [execOp, hop, g]
  rw [Sem.run_bind, buF]
  rfl
theorem step_newF (hi : ops[i]? = some o) (hop : o.op = .alloc 147) (hF : F i = NB w0 5) : StepOk Tryz.prog md ops Q F a0 w0 i := by
  refine step_grow hi fun a w _ hw _ => ⟨.pointer (some ⟨w.heap.size, 0, none⟩), w.alloc (.cells [Value.nilFunc, Value.nilFunc, Value.nilFunc, Value.nilFunc, Value.nilFunc].toArray 147), ?_, (Below.refl _ _).alloc (Nat.le_refl _) _, ?_⟩
  · simp only [execOp, hop]
    rw [Sem.run_bind, alF]
    rfl
  · rw [hF]
    exact ⟨by omega, _, rfl, there_new w _ 147, hw.size⟩
theorem region_newV (ty : TypeId) (k jA jV pA pV : Nat) (o1 : Oper) (F : Nat → Fact) (cs : List Value) (h1c : cs.toArray.all (·.oneCell') = true) (h0c : 0 < cs.length) (hT : textTail .any draw ops a0.tmps.size k = true) (hdrop : ops.toList.drop k = [o1]) (hd1 : o1.dst = none)
    (hop1 : o1.op = .store ty (.tmp pA) (.tmp pV)) (hs : (Tryz.prog.info? ty).map (·.size) = some cs.length)
    (qA : decide (jA < k) = true) (qV : decide (jV < k) = true) (wA : writes ops jA pA = true) (wV : writes ops jV pV = true) (FA : F jA = NB w cs.length) (FV : F jV = Fact.eq (.agg cs.toArray)) (steps : ∀ i, i < k → StepOk Tryz.prog .any ops Q F a0 w i)
    (fin : ∀ (vs : Nat → Value) (q : Nat) (W' : World), vs pA = .pointer (some ⟨q, 0, none⟩) → w.heap.size ≤ q → Below w.heap.size w W' → RowV W' q cs → Q .normal (puts vs a0 ops.toList) W') :
    (Code.region id ops draw).wp Tryz.prog Q a0 w := by
  refine region_tail k F (by kernel_rfl) hT steps [] (fun p hp => by cases hp) (fun p hp => by cases hp) fun a W hb hw hF _ => ?_
  have h1 := hF jA pA qA wA
  have h2 := hF jV pV qV wV
  rw [FA] at h1
  rw [FV] at h2
  obtain ⟨_, q, eq, th, hq⟩ := h1
  rw [hdrop]
  show o1.wp _ a W (fun a' w' => Q .normal a' w') Q
  refine wp_store_mid ty (.tmp pA) (.tmp pV) hop1 q 0 cs.toArray eq h2 th hs h1c ?_
  rw [hd1]
  obtain ⟨vs, hvs⟩ : ∃ vs : Nat → Value, ∀ d, a.tmps.getD d undef = vs d := ⟨_, fun _ => rfl⟩
  show Q .normal a _
  rw [puts_tail hT rfl hb vs hvs]
  exact fin vs q _ ((hvs pA).symm.trans eq) hq (below_setCells hq _ _ _ hw) ⟨World.rangeAt_setCells_same W q 0 _ th, by rw [heap_size_setCells]; exact there_lt h0c th⟩
end
def stN (h d i : Nat) : Nat := if i < 5 then 2 ^ i * h else 16 * h + d
structure ScI (w wr : World) (q2 q4 q5 q6 q7 c : Nat) (U : Nat → Int) (p : Int × Int) : Prop where
  n : Below w.heap.size w wr
  r2 : RowV wr q2 (cU U)
  t4 : wr.there q4 0 10
  r5 : RowV wr q5 cF
  r6 : RowG wr q6 0 (fun es => MulL es 16 p)
  t7 : wr.there q7 0 20
  r7 : RowG wr q7 0 (fun es => Ext es (mlP c p))
theorem ScI.up {w wr W : World} {q2 q4 q5 q6 q7 n : Nat} {U : Nat → Int} {p : Int × Int} (h : ScI w wr q2 q4 q5 q6 q7 n U p) (k : Below wr.heap.size wr W) : ScI w W q2 q4 q5 q6 q7 n U p :=
  ⟨h.n.trans (k.mono h.n.size), h.r2.up k, there_up (by omega) h.t4 k, h.r5.up k, h.r6.up k, there_up (by omega) h.t7 k, h.r7.up k⟩
theorem ScI.put {w wr W : World} {q2 q4 q5 q6 q7 n : Nat} {U : Nat → Int} {p : Int × Int} (h : ScI w wr q2 q4 q5 q6 q7 n U p) (k : Below wr.heap.size wr W) (l : w.heap.size ≤ q7) (h2 : q2 ≠ q7) (h5 : q5 ≠ q7) (h6 : q6 ≠ q7) {es : List (Nat → Int)} {m : Nat} (he : Ext es (mlP m p)) : ScI w (W.setCells q7 0 (clN es)) q2 q4 q5 q6 q7 m U p := by
  have b := but_setO (q := q7) k 0 (clN es)
  have t7 := there_up (by omega) h.t7 k
  have le : (clN es).length = 20 := by rw [clN_size, he.len]
  exact ⟨below_setCells l _ _ _ (h.n.trans (k.mono h.n.size)), h.r2.but b h2, World.there_setCells (there_up (by omega) h.t4 k) _ _ _, h.r5.but b h5, h.r6.but b h6, World.there_setCells t7 _ _ _, ⟨es, World.rangeAt_setCells_same W q7 0 _ (by rw [le]; exact t7), by rw [heap_size_setCells]; exact there_lt (by omega) t7, he⟩⟩
theorem wval_lt {U : Nat → Int} (hU : W4 U) {v : Nat} (hv : wval U = (v : Int)) : v < 2 ^ 256 := by
  have b0 := hU 0 (by omega)
  have b1 := hU 1 (by omega)
  have b2 := hU 2 (by omega)
  have b3 := hU 3 (by omega)
  unfold wval at hv
  have : (2 : Nat) ^ 256 = 115792089237316195423570985008687907853269984665640564039457584007913129639936 := by decide +kernel
  omega
end Go.Proofs.YtkglcainhkbgbaaGreatDoor
namespace Go.Proofs.YtkglcainhkbgbaaGreatDoor
set_option maxRecDepth 100000
open Go Go.RowKit
theorem info55 : (Tryz.prog.info? 41).map (·.size) = some 4 := by kernel_rfl
theorem info95 : (Tryz.prog.info? 147).map (·.size) = some 5 := by kernel_rfl
theorem bxU (U : Nat → Int) (w : World) : (Instr.box 41 (.agg (cU U).toArray)).run Tryz.prog w = .ok (.pointer (some ⟨w.heap.size, 0, none⟩)) (w.alloc (.cells (cU U).toArray 41)) := by kernel_rfl
theorem rowV_new (W : World) (cs : List Value) (t : TypeId) : RowV (W.alloc (.cells cs.toArray t)) W.heap.size cs := by
  have e : (W.alloc (.cells cs.toArray t)).heap[W.heap.size]? = some (.cells cs.toArray t) := heap_alloc_last _ _
  refine ⟨fun j v hv => ?_, by simp⟩
  unfold World.cell?
  simp only
  rw [e]
  simpa using hv
def BXV (cs : List Value) : Fact := ⟨fun v W => ∃ q, v = .pointer (some ⟨q, 0, none⟩) ∧ RowV W q cs, fun n h => by obtain ⟨q, e, r⟩ := h; exact ⟨q, e, r.up n⟩⟩
section
variable {ops : Array Oper} {Q : Exit → Act → World → Prop} {md : Region.Mode} {F : Nat → Fact} {a0 : Act} {w0 w : World} {i id : Nat} {o : Oper} {ts : Array TypeId} {draw : Bool}
theorem step_boxU (hi : ops[i]? = some o) (p : Nat) (hop : o.op = .box 41 (.tmp p)) (hp : apart ops p = true) (U : Nat → Int) (h0 : a0.tmps.getD p undef = .agg (cU U).toArray) (hF : F i = BXV (cU U)) : StepOk Tryz.prog md ops Q F a0 w0 i := by
  refine step_grow hi fun a W hb _ _ => ⟨.pointer (some ⟨W.heap.size, 0, none⟩), W.alloc (.cells (cU U).toArray 41), ?_, (Below.refl _ _).alloc (Nat.le_refl _) _, by rw [hF]; exact ⟨_, rfl, rowV_new W _ _⟩⟩
  have e : a.eval (.tmp p) = .agg (cU U).toArray := (based_at hb p hp).trans h0
  simp only [execOp, hop, e]
  rw [Sem.run_bind, bxU]
  rfl
theorem step_mulG {D : Int} (hD : PP ∣ D - d0) (TT : HasTw w0 9) (CC : Em5 w0 8 0 D) (ZP : RowN w0 6 0 [0, 1]) (X Y : Int) (hp : OnP PP (-1) d0 (X, Y)) (hi : ops[i]? = some o) (p j : Nat) (hop : o.op = .call { callee := .value (.func 80), args := #[.tmp p], argTypes := ts }) (hj : waits md ops i j p = true) (hFj : F j = EN [X, Y]) (hFi : F i = AG (fun es => MulL es 16 (X, Y))) : StepOk Tryz.prog md ops Q F a0 w0 i := by
  refine step_call hi _ _ ts hop (by kernel_rfl) fun a w _ hw hF => ?_
  have ea := hF j p hj
  rw [hFj] at ea
  obtain ⟨t, e1, L1⟩ := ea
  show Calls Tryz.prog _ #[a.tmps.getD p undef] w _
  rw [e1]
  refine (multiples_any w t X Y D L1 hp hD (TT.up hw) (CC.up hw) (ZP.up hw)).mono ?_
  rintro r w' ⟨s, rfl, L, hn⟩
  rw [hFi]
  exact ⟨_, rfl, hn, s, rfl, L⟩
theorem step_dig (U : Nat → Int) (hU : W4 U) {v : Nat} (hv : wval U = (v : Int)) (n : Nat) (hn : n < 64) (hi : ops[i]? = some o) (p q j k : Nat) (hop : o.op = .call { callee := .value (.func 83), args := #[.tmp p, .tmp q], argTypes := ts }) (hj : waits md ops i j p = true) (hk : waits md ops i k q = true) (hFj : F j = Fact.eq (.agg (cU U).toArray)) (hFk : F k = Fact.eq (.int .i64 (n : Int))) (hFi : F i = Fact.eq (.int .u64 ((v / 16 ^ n % 16 : Nat) : Int))) : StepOk Tryz.prog md ops Q F a0 w0 i := by
  refine step_call hi _ _ ts hop (by kernel_rfl) fun a w _ hw hF => ?_
  have ea := hF j p hj
  have eb := hF k q hk
  rw [hFj] at ea
  rw [hFk] at eb
  have e1 : a.tmps.getD p undef = ag4 U := ea
  have e2 : a.tmps.getD q undef = .int .i64 (n : Int) := eb
  show Calls Tryz.prog _ #[a.tmps.getD p undef, a.tmps.getD q undef] w _
  rw [e1, e2]
  refine (digit_any w U hU n hn).mono ?_
  rintro r w' ⟨rfl, hn'⟩
  rw [hFi]
  exact ⟨_, rfl, hn', by rw [dgt_words hU hv hn]; exact rfl⟩
theorem step_at (p0 : Int × Int) (q6 d : Nat) (hd : d < 16) (hM : RowG w0 q6 0 (fun es => MulL es 16 p0)) (hi : ops[i]? = some o) (p q k : Nat) (hop : o.op = .call { callee := .value (.func 82), args := #[.tmp p, .tmp q], argTypes := ts }) (hp : apart ops p = true) (h0 : a0.tmps.getD p undef = .pointer (some ⟨q6, 0, none⟩)) (hk : waits md ops i k q = true) (hFk : F k = Fact.eq (.int .u64 (d : Int))) (hFi : F i = AG (fun es => Ext es (mlP d p0))) : StepOk Tryz.prog md ops Q F a0 w0 i := by
  refine step_call hi _ _ ts hop (by kernel_rfl) fun a w hb hw hF => ?_
  have eb := hF k q hk
  rw [hFk] at eb
  have e1 : a.tmps.getD p undef = .pointer (some ⟨q6, 0, none⟩) := (based_at hb p hp).trans h0
  have e2 : a.tmps.getD q undef = .int .u64 (d : Int) := eb
  show Calls Tryz.prog _ #[a.tmps.getD p undef, a.tmps.getD q undef] w _
  rw [e1, e2]
  obtain ⟨es, r, l, h⟩ := hM.up hw
  refine (at_any w q6 d es p0 h r l hd).mono ?_
  rintro r w' ⟨s, rfl, L, hn⟩
  rw [hFi]
  exact ⟨_, rfl, hn, s, rfl, L⟩
theorem step_const0 {P : Program} (hi : ops[i]? = some o) (v : Value) (hop : o.op = .move (.const v)) (hF : F i = Fact.eq v) : StepOk P md ops Q F a0 w0 i := by
  refine step_pure hi fun a w _ _ _ => ⟨v, ?_, by rw [hF]; exact rfl⟩
  simp [execOp, hop, Act.eval]
theorem step_sub63 {P : Program} (hi : ops[i]? = some o) (p j n : Nat) (hn : n < 64) {t : TypeId} (hop : o.op = .binOp .sub t (.const (.int .i64 63)) (.tmp p) t) (hj : waits md ops i j p = true) (hFj : F j = Fact.eq (.int .i64 (n : Int))) (hF : F i = Fact.eq (.int .i64 ((63 - n : Nat) : Int))) : StepOk P md ops Q F a0 w0 i := by
  refine step_pure hi fun a w _ _ hf => ⟨.int .i64 ((63 - n : Nat) : Int), ?_, by rw [hF]; exact rfl⟩
  have g := hf j p hj
  rw [hFj] at g
  have g' : a.tmps[p]?.getD undef = .int .i64 (n : Int) := by
    have : a.tmps.getD p undef = .int .i64 (n : Int) := g
    simpa using this
  have e : IntKind.i64.wrap (63 - (n : Int)) = ((63 - n : Nat) : Int) := by
    have m : (63 - (n : Int)) % 18446744073709551616 = 63 - (n : Int) := by omega
    simp [IntKind.wrap, IntKind.bits, IntKind.signed, m]
    omega
  simp [execOp, hop, Act.eval, g', eqGuard, binOp, Op.intArith, e]
end
theorem stN_next {p : Int × Int} (hp : OnP PP (-1) d0 p) (h d i : Nat) (hi : i < 4) : Pe PP (eadd (-1) d0 einv (mlP (stN h d i) p) (mlP (stN h d i) p)) (mlP (stN h d (i + 1)) p) := by
  have e : stN h d (i + 1) = stN h d i + stN h d i := by
    unfold stN
    rw [if_pos (by omega), if_pos (by omega), Nat.pow_succ, Nat.mul_assoc, Nat.mul_comm 2 h, ← Nat.mul_assoc]
    omega
  rw [e]
  exact mlP_add hp _ _
theorem stN_last {p : Int × Int} (hp : OnP PP (-1) d0 p) (h d : Nat) : Pe PP (eadd (-1) d0 einv (mlP (stN h d 4) p) (mlP d p)) (mlP (stN h d 5) p) := by
  have e : stN h d 5 = stN h d 4 + d := by
    unfold stN
    rw [if_neg (by omega), if_pos (by omega)]
  rw [e]
  exact mlP_add hp _ _
end Go.Proofs.YtkglcainhkbgbaaGreatDoor
