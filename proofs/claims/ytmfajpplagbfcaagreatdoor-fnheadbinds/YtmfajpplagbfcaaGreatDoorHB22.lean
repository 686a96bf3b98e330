import Derived.Test.YtmfajpplagbfcaaGreatDoorHB21
import Derived.Deep.MidRow
namespace Go.Proofs.YtmfajpplagbfcaaGreatDoor
set_option maxRecDepth 100000
open Go Go.RowKit
set_option maxRecDepth 100000 in
set_option maxHeartbeats 8000000 in
theorem specEnc_walk (w : World) (p : MQ) (m : Msg) (h : HasM w p m) (i : IsM m) (z : HasZ p m)
    (MF : ∀ W, HasM W p m → Calls Tryz.prog 16 #[.agg (mgV p m)] W fun e w' => e = .returned (.int .i64 (mfF m)) ∧ Below W.heap.size W w') :
    Calls Tryz.prog 17 #[.agg (mgV p m)] w (BodP w (encF m)) := by
  obtain ⟨i0, hi, hz0, hz1, hz2⟩ := info_parts Tryz.info5
  obtain ⟨OUT, hO'⟩ : ∃ l : List Int, l = encF m := ⟨_, rfl⟩
  rw [← hO']
  have hO := hide hO'
  clear hO'
  have n0 : Below w.heap.size w (w.alloc (.cells (mgV p m) 26)) := (Below.refl _ _).alloc (Nat.le_refl _) _
  have RW : RwC (w.alloc (.cells (mgV p m) 26)) w.heap.size (mgV p m).toList 26 := RwC.new w (mgV p m).toList 26
  have C1 := hide (MF _ (h.up n0))
  have SB : Hid (∀ W, Below w.heap.size w W → mfF m = 0 → SbP W p m) := fun W n f0 => sb_any W p m (h.up n) i z f0
  have N0 := hide n0
  have RG := RW.rangeG
  have RH := hide RW
  clear n0 MF h i z RW
  obtain ⟨dC, hdC, hrC⟩ := rowM
  go_enter Tryz.func17, Tryz.ntmps17
  go_upto_region 1 with fail
  generalize w.alloc (.cells (mgV p m) 26) = W1 at *
  go_wp2_with (first | (refine wpList_load_mid rfl 26 (.tmp 1) rfl w.heap.size 0 rfl (mgV p m).toList dC RG hdC hrC iM ?_) | fail)
  refine C1.out.mono ?_
  rintro e w1 ⟨rfl, n1⟩
  have N1 := nxt N0.out n1
  have RW1 := RH.out.up n1
  clear RG RH C1 N0 n1
  by_cases f0 : mfF m = 0
  rotate_left
  · have eo : Hid (OUT = []) := by show _ = _; rw [hO.out]; unfold encF; rw [if_neg f0]
    clear SB hO RW1
    generalize mfF m = f at *
    have d0 : (f == 0) = false := beq_eq_false_iff_ne.2 f0
    have FIN : Hid (BodP w OUT (.returned (.slice (some ⟨w1.heap.size, 0, none⟩) 0 0)) (w1.alloc (.cells #[] 5))) := ⟨⟨_, rfl, by rw [eo.out]; exact (RowB.lit0 w1).base N1.size⟩, nxt N1 ((Below.refl _ _).alloc (Nat.le_refl _) _)⟩
    clear eo N1
    go_wp2
    go_ret
    exact FIN.out
  obtain ⟨S1, S2, S3, S4⟩ := (unhide SB) w1 N1 f0
  have hO2 : Hid (OUT = ([m.k] ++ bigL ((bodF m).length : Int) 3) ++ bodF m) := by show _ = _; rw [hO.out]; unfold encF enL; rw [if_pos f0]
  have S5 := hide S1
  have RG1 := RW1.rangeG
  clear SB hO S1
  rw [f0]
  clear f0
  go_wp2_with (first | (refine wpList_load_mid rfl 26 (.tmp 1) rfl w.heap.size 0 rfl (mgV p m).toList dC RG1 hdC hrC iM ?_) | fail)
  refine S5.out.mono ?_
  rintro e w2 ⟨⟨v2, rfl, R2⟩, n2⟩
  have N2 := nxt N1 n2
  have RW2 := RW1.up n2
  obtain ⟨a2, c2, g2, rfl, r2, z2⟩ := row_slice R2
  clear RG1 RW1 S5 N1 n2 R2
  generalize bodF m = bl at *
  have kc : w2.cell? ⟨w.heap.size, 0, none⟩ = some (.int .i64 m.k) := RW2.cell 0
  have kq := RW2.lt
  clear RW2
  generalize m.k = k at *
  have w8 : IntKind.u8.wrap k = k := by simp [IntKind.wrap, IntKind.signed, IntKind.bits]; omega
  go_upto_region 4 with fail
  have nd : Below w2.heap.size w2 w2.drew := (Below.refl _ _).drew
  have bA : ∀ {W : World}, Below w2.heap.size w2 W → ∀ o, Below w2.heap.size w2 (W.alloc o) := fun n o => n.alloc n.size o
  have LB := S2
  have CL : Hid (∀ W, Below w2.heap.size w2 W → Calls Tryz.prog 37 #[.int .i64 (bl.length : Int), .int .i64 3] W fun e w' => ∃ v, e = .returned v ∧ RowB w' w2.heap.size v (bigL (bl.length : Int) 3) ∧ Below w2.heap.size w2 w' ∧ Below W.heap.size W w') := fun W n => (l1BigB_any W (bl.length : Int) 3 (by omega) (by omega) (by decide)).mono (by rintro e w' ⟨rfl, R, m⟩; exact ⟨_, rfl, R.base n.size, nxt n m, m⟩)
  have AP : Hid (∀ W v u, Below w2.heap.size w2 W → RowB W w2.heap.size v [k] → RowB W w2.heap.size u (bigL (bl.length : Int) 3) → ∃ v' w', (Builtin.append_ #[22, 22] 22 #[v, u]).run Tryz.prog W = .ok v' w' ∧ (RowB w' w2.heap.size v' ([k] ++ bigL (bl.length : Int) 3) ∧ Below w2.heap.size w2 w')) := fun W v u n R S => by
    obtain ⟨a, c, g, e, r, zz⟩ := row_slice S
    obtain ⟨v', w', h1, h2, h3⟩ := append_any (P := Tryz.prog) W 22 i0 Tryz.underlying22 hi hz0 hz1 hz2 w2.heap.size w2.heap.size v [k] R g a c _ r zz (by rw [bigL_len]; simp) (Nat.le_refl _) n.size
    rw [e]
    exact ⟨v', w', h1, h2, n.trans h3⟩
  have AQ : Hid (∀ W v, Below w2.heap.size w2 W → RowB W w2.heap.size v ([k] ++ bigL (bl.length : Int) 3) → ∃ v' w', (Builtin.append_ #[22, 22] 22 #[v, .slice a2 bl.length c2]).run Tryz.prog W = .ok v' w' ∧ (RowB w' w2.heap.size v' (([k] ++ bigL (bl.length : Int) 3) ++ bl) ∧ Below w2.heap.size w2 w')) := fun W v n R => by
    obtain ⟨v', w', h1, h2, h3⟩ := append_any (P := Tryz.prog) W 22 i0 Tryz.underlying22 hi hz0 hz1 hz2 w2.heap.size w2.heap.size v _ R g2 a2 c2 bl (r2.up n) z2 (by rw [List.length_append, bigL_len]; simp only [List.length_cons, List.length_nil]; omega) (Nat.le_refl _) n.size
    exact ⟨v', w', h1, h2, n.trans h3⟩
  have CY : Hid (∀ W, Below w2.heap.size w2 W → W.cell? ⟨w.heap.size, 0, none⟩ = some (.int .i64 k)) := fun W n => cellq n kc
  have C0 := hide ((unhide CL) w2.drew nd)
  have C1 := hide ((unhide CL) (w2.drew.alloc (.cells #[.int .u8 k] 5)) (bA nd _))
  have RE : RowB (w2.drew.alloc (.cells #[.int .u8 k] 5)) w2.heap.size (.slice (some ⟨w2.heap.size, 0, none⟩) 1 1) [k] := RowB.lit1 w2.drew k
  clear kc CL
  go_region_held3 (fun W => W.cell? ⟨w.heap.size, 0, none⟩ = some (.int .i64 k))
    (first | exact (unhide CY) _ nd | exact (unhide CY) _ (bA nd _) | exact (unhide CY) _ n16 | exact (unhide CY) _ (bA n16 _) | exact (unhide CY) _ n17 | exact (unhide CY) _ n19)
    (first
      | (go_at_call 37; refine C0.out.mono ?_; rintro rr w16 ⟨v16, rfl, R16, n16, m16⟩; (have B17a := hide ((unhide AP) (w16.alloc (.cells #[.int .u8 k] 5)) (.slice (some ⟨w16.heap.size, 0, none⟩) 1 1) v16 (bA n16 _) ((RowB.lit1 w16 k).base n16.size) (R16.up ((Below.refl _ _).alloc (Nat.le_refl _) _)))))
      | (go_at_call 37; refine C1.out.mono ?_; rintro rr w16 ⟨v16, rfl, R16, n16, m16⟩; (have B17b := hide ((unhide AP) w16 (.slice (some ⟨w2.heap.size, 0, none⟩) 1 1) v16 n16 (RE.up m16) R16)))
      | (refine step_append_exM rfl (.tmp 13) (.tmp 16) 22 22 rfl (.slice (some ⟨w16.heap.size, 0, none⟩) 1 1) v16 rfl rfl _ B17a.out ?_; rintro v17 w17 ⟨R17, n17⟩; (have B19 := hide ((unhide AQ) w17 v17 n17 R17)))
      | (refine step_append_exM rfl (.tmp 13) (.tmp 16) 22 22 rfl (.slice (some ⟨w2.heap.size, 0, none⟩) 1 1) v16 rfl rfl _ B17b.out ?_; rintro v17 w17 ⟨R17, n17⟩; (have B19 := hide ((unhide AQ) w17 v17 n17 R17)))
      | (refine step_append_exM rfl (.tmp 17) (.tmp 18) 22 22 rfl v17 (.slice a2 bl.length c2) rfl rfl _ B19.out ?_; rintro v19 w19 ⟨R19, n19⟩)
      | fail)
  all_goals
    have FIN : Hid (BodP w OUT (.returned v19) w19) := ⟨⟨v19, rfl, by rw [hO2.out]; exact R19.base N2.size⟩, nxt N2 n19⟩
    clear C0 C1 AP AQ CY R16 m16 n16 R17 n17 R19 n19 nd bA RE B19
    go_wp2
    go_ret
    exact FIN.out
end Go.Proofs.YtmfajpplagbfcaaGreatDoor
namespace Go.Proofs.YtmfajpplagbfcaaGreatDoor
set_option maxRecDepth 100000
open Go Go.RowKit
def ex6 (vb rb he an tk : Bool) : Bool := (vb && !he && !an) || (rb && !he && !an && !tk)
def ex8 (sb hb pb he an ex : Bool) : Bool := (sb && !he && !an) || (hb && !he) || (pb && !he && !ex)
def ex10 (tb gb bb he tk : Bool) : Bool := (tb && !he && !tk) || (gb && !he && !tk) || (bb && !he)
def ex12 (eb he tk ex nu : Bool) : Bool := eb && !he && !tk && !ex && nu
def ex14 (rs an cb nc fb np nf : Bool) : Bool := (rs && !an) || (cb && nc) || (fb && np && nf)
def si2 (v0 v1 : Bool) : Bool := v0 || v1
def si4 (he an tk r2 : Bool) : Bool := (he || an || tk) && r2
def si6 (he an s2 : Bool) : Bool := (he || an) && s2
def si8 (pf p6 ff p3 : Bool) : Bool := (pf && p6) || (ff && p3)
def siR (he tb b3 b0 g0 e0 : Bool) : Bool := if (he && tb) = true then b3 else if he = true then b0 && g0 && e0 else true
end Go.Proofs.YtmfajpplagbfcaaGreatDoor
