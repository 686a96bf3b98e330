import Derived.Test.YtdbgdiahddpgkaaGreatGE5

/-
  Messages: Certs held against others.
-/
namespace Go.Proofs.YtdbgdiahddpgkaaGreat
open Go Go.RowKit

set_option maxHeartbeats 1000000 in
theorem certEqual_any (w : World) (g g' : Nat) (a b : Option Addr) (ca cb : Nat) (xs ys : List (List Int)) (ps qs : List Plb) (ha : RdL w g a xs ps) (hb : RdL w g' b ys qs) (hn : xs.length ≤ 1048576) (_hm : ys.length ≤ 1048576) (hx : ∀ i, i < xs.length → Byt (xs.getD i [])) (hy : ∀ i, i < ys.length → Byt (ys.getD i [])) :
    Calls Tryz.prog 60 #[.slice a xs.length ca, .slice b ys.length cb, .func (Fn.func 57) #[] #[]] w fun e w' => e = .returned (.bool (decide (xs = ys))) ∧ Below w.heap.size w w' := by
  by_cases hl : xs.length = ys.length
  · have d0 : ((xs.length : Int) != (ys.length : Int)) = false := by simp [hl]
    have E := hide (show ∀ k, xs.getD k [] ≠ ys.getD k [] → decide (xs = ys) = false from fun k hne => decide_eq_false fun h => hne (by rw [h]))
    have T := hide (show (∀ j, j < xs.length → xs.getD j [] = ys.getD j []) → decide (xs = ys) = true from fun hall => decide_eq_true (List.ext_getElem hl fun i h1 h2 => by
      have := hall i h1
      rw [List.getD_eq_getElem?_getD, List.getD_eq_getElem?_getD, List.getElem?_eq_getElem h1, List.getElem?_eq_getElem h2] at this
      exact this))
    have HY := hide (show ∀ i, i < xs.length → Byt (ys.getD i []) from fun i hi => hy i (by omega))
    have HB1 := hide (show ∀ W, Below w.heap.size w W → 0 < xs.length → ∃ off, b = some ⟨g', off, none⟩ ∧ ∀ i, i < xs.length → W.cell? ⟨g', off + i, none⟩ = some (.slice (qs.getD i plb0).a (ys.getD i []).length (qs.getD i plb0).c) from fun W n h => by
      obtain ⟨o, e, hc⟩ := (hb.up n).r (by omega)
      exact ⟨o, e, fun i hi => hc i (by omega)⟩)
    have HB2 := hide (show ∀ W, Below w.heap.size w W → ∀ i, i < xs.length → Rd W (qs.getD i plb0).q (qs.getD i plb0).a .u8 (ys.getD i []) from fun W n i hi => (hb.up n).b i (by omega))
    have HX := hide hx
    have HA := hide ha
    rw [← hl]
    generalize decide (xs = ys) = d at *
    clear hl hb ha hx hy
    go_enter Tryz.func60, Tryz.ntmps60
    go_wp2
    go_loopw [17] (fun i wr => ∃ (k : Nat), k ≤ xs.length ∧ i = .int .i64 k ∧ Below w.heap.size w wr ∧ ∀ j, j < k → xs.getD j [] = ys.getD j []) (fun i _ => xs.length - (intOf i).toNat)
    case atStart => exact ⟨0, Nat.zero_le _, rfl, Below.refl _ _, fun j hj => absurd hj (by omega)⟩
    case round =>
      obtain ⟨k, hk, rfl, N, hall⟩ := hrel
      by_cases hlt : k < xs.length
      · obtain ⟨off, rfl, hc⟩ := (HA.out.up N).r (by omega)
        obtain ⟨off', rfl, hc'⟩ := HB1.out wr N (by omega)
        have t0 : (k : Int) < (xs.length : Int) := by omega
        have c1 := hc k hlt
        have c2 := hc' k hlt
        have l1 := block_lt_of_cell c1
        have l2 := block_lt_of_cell c2
        have z1 : g ≠ wr.heap.size := by simp only at l1; omega
        have z2 : g' ≠ wr.heap.size := by simp only at l2; omega
        have z3 : wr.heap.size ≠ g := fun h => z1 h.symm
        have z4 : wr.heap.size ≠ g' := fun h => z2 h.symm
        have l3 : ∀ o, (wr.alloc o).cell? ⟨g', off' + k, none⟩ = some (.slice (qs.getD k plb0).a (ys.getD k []).length (qs.getD k plb0).c) := fun o => (World.cell?_of_block (a := ⟨g', off' + k, none⟩) (Below.heap_alloc wr o g' (by simpa using l2))).trans c2
        have BE := hide (show ∀ W, Below wr.heap.size wr W → _ from fun W n => blobEq_any W (ps.getD k plb0).q (qs.getD k plb0).q (ps.getD k plb0).a (qs.getD k plb0).a (ps.getD k plb0).c (qs.getD k plb0).c (xs.getD k []) (ys.getD k []) (((HA.out.up N).b k hlt).up n) ((HB2.out wr N k hlt).up n) (HX.out k hlt) (HY.out k hlt))
        have EK := hide (E.out k)
        have HALL := hide hall
        have HN := hide N
        have DY : Hid (decide (xs.getD k [] = ys.getD k []) = true → xs.getD k [] = ys.getD k []) := fun h => of_decide_eq_true h
        have DN : Hid (decide (xs.getD k [] = ys.getD k []) = false → xs.getD k [] ≠ ys.getD k []) := fun h => of_decide_eq_false h
        clear hc hc' E hall HB1 HB2 HA HX HY N
        generalize (ps.getD k plb0).a = pa at *
        generalize (ps.getD k plb0).c = pc at *
        generalize (qs.getD k plb0).a = qa at *
        generalize (qs.getD k plb0).c = qc at *
        generalize hx : xs.getD k [] = x at *
        generalize hy : ys.getD k [] = y at *
        have GX := hide hx
        have GY := hide hy
        clear hx hy
        generalize decide (x = y) = v at *
        generalize hxl : x.length = xl at *
        generalize hyl : y.length = yl at *
        clear hxl hyl
        go_wp2_with fail
        refine (BE.out _ ?_).mono ?_
        · exact ((Below.refl _ _).alloc (Nat.le_refl _) _).alloc (by simp) _
        rintro e w1 ⟨rfl, n1⟩
        have N1 := hide (nxt HN.out ((((Below.refl _ _).alloc (Nat.le_refl _) _).alloc (by simp) _).trans (n1.mono (by simp <;> omega))))
        clear BE n1 HN
        cases v with
        | true =>
          have XY := DY.out rfl
          have NXT : Hid (∀ j, j < k + 1 → xs.getD j [] = ys.getD j []) := fun j hj => by
            by_cases h : j = k
            · subst h
              rw [GX.out, GY.out, XY]
            · exact HALL.out j (by omega)
          clear XY HALL EK DY DN
          go_wp2
          go_roundw
          case rel => exact ⟨k + 1, by omega, by go_num, N1.out, NXT.out⟩
          case measure => simp [intOf]; omega
        | false =>
          have F := hide (EK.out (DN.out rfl))
          clear HALL EK DY DN
          go_wp2
          go_ret
          exact ⟨by rw [F.out]; rfl, N1.out⟩
      · obtain rfl : k = xs.length := by omega
        have F := hide (T.out hall)
        have HN := hide N
        clear hall E HB1 HB2 HA N
        go_wp2
        go_ret
        exact ⟨by rw [F.out]; rfl, HN.out⟩
  · have d0 : ((xs.length : Int) != (ys.length : Int)) = true := by simp; omega
    have F : Hid (decide (xs = ys) = false) := decide_eq_false fun h => hl (by rw [h])
    go_enter Tryz.func60, Tryz.ntmps60
    go_wp2
    go_ret
    exact ⟨by rw [F.out]; rfl, Below.refl _ _⟩
end Go.Proofs.YtdbgdiahddpgkaaGreat
