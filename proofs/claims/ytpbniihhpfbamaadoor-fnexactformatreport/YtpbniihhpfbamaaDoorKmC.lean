
/-
  Rows of int64: counted, copied, held against each other; windows; what an end's report reads as (written by gens/kmc.py).
-/
import Derived.Test.YtpbniihhpfbamaaDoorKmB
import Derived.Test.YtpbniihhpfbamaaDoorSvC
namespace Go.Proofs.YtpbniihhpfbamaaDoor
set_option maxRecDepth 100000
open Go Go.RowKit

theorem infoI64 : (Tryd.prog.info? 2).map (fun i => (i.zero, i.size, i.bytes)) = some (some (.int .i64 0), 1, 8) := by kernel_rfl
theorem i64Parts : ∃ i0, Tryd.prog.info? 2 = some i0 ∧ i0.zero = some (.int .i64 0) ∧ i0.size = 1 ∧ i0.bytes = 8 := by
  have h := infoI64
  cases hq : Tryd.prog.info? 2 with
  | none => rw [hq] at h; simp at h
  | some i0 =>
    rw [hq] at h
    simp only [Option.map_some, Option.some.injEq, Prod.mk.injEq] at h
    exact ⟨i0, rfl, h.1, h.2.1, h.2.2⟩
set_option maxHeartbeats 1000000 in
theorem toIntS_any (w : World) (g : Nat) (a : Option Addr) (cap : Nat) (xs : List Int) (hr : Rd w g a .i64 xs) (hn : xs.length ≤ 1048576) :
    Calls Tryd.prog 53 #[.slice a xs.length cap] w fun e w' => e = .returned (.slice (some ⟨w.heap.size, 0, none⟩) xs.length xs.length) ∧ Blk w' w.heap.size .i64 xs ∧ Below w.heap.size w w' := by
  obtain ⟨i0, hi, hz0, hz1, hz2⟩ := i64Parts
  go_enter Tryd.func53, Tryd.ntmps53
  go_wp2_with (at_make; refine wpList_make_full _ rfl _ _ 49 rfl w.heap.size 2 i0 (.int .i64 0) 1 Tryd.underlying49 hi hz0 hz1 .i64 .i64 _ _ xs.length rfl rfl rfl rfl (by rw [hz2]; omega) (by unfold maxLen; omega) (Nat.le_refl _) ?_; intro w1 hown hgrow)
  have hB0 := Blk.of_made hown
  have hN0 : Below w.heap.size w w1 := (Below.refl _ _).grown hgrow (Nat.le_refl _) (by simp)
  clear hown hgrow
  go_loopw [4] (fun i wr => ∃ (k : Nat) (ys : List Int), k ≤ xs.length ∧ i = .int .i64 k ∧ CopyTo xs ys k ∧ Blk wr w.heap.size .i64 ys ∧ Below w.heap.size w wr) (fun i _ => xs.length - (intOf i).toNat)
  case atStart => exact ⟨0, _, Nat.zero_le _, rfl, CopyTo.zero xs, hB0, hN0⟩
  case round =>
    obtain ⟨k, ys, hk, rfl, hcp, hB, hN⟩ := hrel
    by_cases hlt : k < xs.length
    · obtain ⟨off, rfl, hc⟩ := hr (by omega)
      have hg := hr.lt (by omega)
      have R : CopyTo xs (ys.set k (xs.getD k 0)) (k + 1) := hcp.step hlt
      have hcx : wr.cell? ⟨g, off + k, none⟩ = some (.int .i64 (xs.getD k 0)) := (hN.cell (p := ⟨g, off + k, none⟩) hg).trans (hc k hlt)
      have hcy : wr.cell? ⟨w.heap.size, k, none⟩ = some (.int .i64 (ys.getD k 0)) := hB.cell (by rw [hcp.1]; exact hlt)
      have hfy := hB.free k
      have hB' := hB.store k (xs.getD k 0)
      have hN' : Below w.heap.size w (wr.setCell ⟨w.heap.size, k, none⟩ (.int .i64 (xs.getD k 0))) := hN.setCell (Nat.le_refl _) _
      generalize xs.getD k 0 = x at *
      clear hB hN hc hcp
      go_wp2
      go_roundw
      case rel => exact ⟨k + 1, _, by omega, by go_num, R, hB', hN'⟩
      case measure => simp [intOf]; omega
    · obtain rfl : k = xs.length := by omega
      go_wp2
      go_ret
      refine ⟨rfl, ?_, hN⟩
      rw [← hcp.all]
      exact hB

set_option maxHeartbeats 400000 in
theorem eqIntS_same (w : World) (g g' : Nat) (a b : Option Addr) (ca cb : Nat) (xs : List Int) (ha : Rd w g a .i64 xs) (hb : Rd w g' b .i64 xs) (hn : xs.length ≤ 1048576) :
    Calls Tryd.prog 66 #[.slice a xs.length ca, .slice b xs.length cb] w fun e w' => e = .returned (.bool true) ∧ Below w.heap.size w w' := by
  go_enter Tryd.func66, Tryd.ntmps66
  go_wp2
  go_loopw [5] (fun i wr => ∃ (k n : Nat), k ≤ xs.length ∧ i = .int .i64 k ∧ wr = w.drewN n) (fun i _ => xs.length - (intOf i).toNat)
  case atStart => exact ⟨0, 0, Nat.zero_le _, rfl, rfl⟩
  case round =>
    obtain ⟨k, n, hk, rfl, rfl⟩ := hrel
    by_cases hlt : k < xs.length
    · obtain ⟨off, rfl, hc⟩ := ha (by omega)
      obtain ⟨off', rfl, hc'⟩ := hb (by omega)
      have h1 := hc k hlt
      have h2 := hc' k hlt
      have hlt' : (k : Int) < (xs.length : Int) := by omega
      generalize xs.getD k 0 = x at *
      clear hc hc'
      go_wp2
      go_quiet (fail)
      go_wp2
      go_roundw
      case rel => exact ⟨k + 1, _, by omega, by go_num, rfl⟩
      case measure => simp [intOf]; omega
    · obtain rfl : k = xs.length := by omega
      go_wp2
      go_ret
      exact ⟨rfl, below_drewN (Below.refl _ _) _⟩

theorem szIntS_r (w : World) (a : Option Addr) (c n : Nat) (L : Int) (hn : n < 9223372036854775808) (h0 : 0 ≤ L) (h1 : L ≤ 1048576) :
    Calls Tryd.prog 50 #[.slice a n c, .int .i64 L] w fun e w' => (∃ r, e = .returned (.int .i64 r) ∧ LftK L n r) ∧ w' = w := by
  have s1 : IntKind.i64.wrap (L - (n : Int)) = L - (n : Int) := by rw [IntKind.wrap_i64]; omega
  by_cases h : L < (n : Int)
  · have t1 : decide (L - (n : Int) < 0) = true := decide_eq_true (by omega)
    have H := hide h
    clear h
    go_enter Tryd.func50, Tryd.ntmps50
    go_wp2
    go_ret
    exact ⟨⟨_, rfl, .inl ⟨H.out, rfl⟩⟩, rfl⟩
  · have t1 : decide (L - (n : Int) < 0) = false := decide_eq_false (by omega)
    have H := hide h
    clear h
    go_enter Tryd.func50, Tryd.ntmps50
    go_wp2
    go_ret
    exact ⟨⟨_, rfl, .inr ⟨by have := H.out; omega, rfl⟩⟩, rfl⟩
theorem Rd.onlK {w w' : World} {g q : Nat} {a : Option Addr} {k : IntKind} {xs : List Int} (h : Rd w g a k xs) (O : Only q w w') (hne : g ≠ q) : Rd w' g a k xs := fun h0 => h.of_block (O.block g hne) h0
/-- A list that was copied: all of it lies at b or above. -/
structure CpS (b : Nat) (W : World) (p : Nat) (k : IntKind) (xs : List Int) : Prop where
  rd : Rd W p (some ⟨p, 0, none⟩) k xs
  lo : b ≤ p
theorem CpS.of {b : Nat} {W : World} {p : Nat} {k : IntKind} {xs : List Int} (h : Blk W p k xs) (l : b ≤ p) : CpS b W p k xs := ⟨h.own0.rd, l⟩
theorem CpS.up {b : Nat} {W W' : World} {p : Nat} {k : IntKind} {xs : List Int} (h : CpS b W p k xs) (n : Below W.heap.size W W') : CpS b W' p k xs := ⟨h.rd.up n, h.lo⟩
theorem CpS.onl {b q : Nat} {W W' : World} {p : Nat} {k : IntKind} {xs : List Int} (h : CpS b W p k xs) (O : Only q W W') (hq : q < b) : CpS b W' p k xs := ⟨h.rd.onlK O (by have := h.lo; omega), h.lo⟩
/-- Marks that were copied. -/
structure CpK (b : Nat) (W : World) (p : Nat) (ms : List Mrk) (ps : List Plm) : Prop where
  rd : RdK W p (some ⟨p, 0, none⟩) ms ps
  lo : b ≤ p
  los : ∀ i, i < ms.length → b ≤ (ps.getD i plm0).q
theorem CpK.up {b : Nat} {W W' : World} {p : Nat} {ms : List Mrk} {ps : List Plm} (h : CpK b W p ms ps) (n : Below W.heap.size W W') : CpK b W' p ms ps := ⟨h.rd.up n, h.lo, h.los⟩
theorem RdK.onl {w w' : World} {g q : Nat} {a : Option Addr} {ms : List Mrk} {ps : List Plm} (h : RdK w g a ms ps) (O : Only q w w') (hg : g ≠ q) (hs : ∀ i, i < ms.length → (ps.getD i plm0).q ≠ q) : RdK w' g a ms ps :=
  ⟨fun h0 => by
    obtain ⟨off, e, hc⟩ := h.r h0
    exact ⟨off, e, fun i hi => ⟨(World.cell?_of_block (O.block g hg)).trans (hc i hi).1, (World.cell?_of_block (O.block g hg)).trans (hc i hi).2⟩⟩,
   fun i hi => (h.b i hi).onlK O (hs i hi)⟩
theorem CpK.onl {b q : Nat} {W W' : World} {p : Nat} {ms : List Mrk} {ps : List Plm} (h : CpK b W p ms ps) (O : Only q W W') (hq : q < b) : CpK b W' p ms ps := ⟨h.rd.onl O (by have := h.lo; omega) (fun i hi => by have := h.los i hi; omega), h.lo, h.los⟩
/-- Cells put into a list, one behind the other. -/
def setL (cs : List Value) : Nat → List Value → List Value
  | _, [] => cs
  | o, v :: r => setL (cs.set o v) (o + 1) r
theorem TMs.sets {w W : World} {tL tM : TypeId} {src zer cs : List Value} (h : TMs w W tL tM src zer cs) (o : Nat) (vs : List Value) : TMs w (W.setCells (w.heap.size + 1 + 1) o vs) tL tM src zer (setL cs o vs) := by
  induction vs generalizing W cs o with
  | nil => exact h
  | cons v r ih => exact ih (h.set o v) (o + 1)
theorem RwC.part {w : World} {q : Nat} {cs : List Value} {t : TypeId} (h : RwC w q cs t) (o : Nat) (l : List Value) (hl : (cs.drop o).take l.length = l) : w.rangeAt q o l := fun j v hj => by
  rw [h.cell (o + j)]
  rw [← hl] at hj
  rw [List.getElem?_take] at hj
  split at hj
  · rw [List.getElem?_drop] at hj
    exact hj
  · simp at hj
theorem RwC.tpart {w : World} {q : Nat} {cs : List Value} {t : TypeId} (h : RwC w q cs t) (o n : Nat) (hl : o + n ≤ cs.length) : w.there q o n := fun j hj => by
  rw [h.cell (o + j), h.free (o + j)]
  exact ⟨by rw [List.getElem?_eq_getElem (by omega)]; simp, rfl⟩
theorem iWd : (Tryd.prog.info? 37).map (·.size) = some 2 := by kernel_rfl
theorem rowWd : ∃ d, Tryd.prog.underlying 37 = some d ∧ d.isRow = true := ⟨_, Tryd.underlying37, rfl⟩
theorem oneWd (wd : Int) (a : Option Addr) (n c : Nat) : ([.int .i64 wd, .slice a n c] : List Value).toArray.all (·.oneCell') = true := all_oneCell_toArray fun v hv => by
  simp only [List.mem_cons, List.not_mem_nil, or_false] at hv
  rcases hv with rfl | rfl
  all_goals rfl
end Go.Proofs.YtpbniihhpfbamaaDoor
