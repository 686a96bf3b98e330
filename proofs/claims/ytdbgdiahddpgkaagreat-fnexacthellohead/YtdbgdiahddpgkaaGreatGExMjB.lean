import Derived.Test.YtdbgdiahddpgkaaGreatGE19
import Derived.Test.YtdbgdiahddpgkaaGreatGE14
import Derived.Deep.MidRow

/-
  Messages: HelloHead, the program's and the model's.
-/
namespace Go.Proofs.YtdbgdiahddpgkaaGreat
open Go Go.RowKit

/-- An answer that is a list of its own. -/
def HhP (w : World) (xs : List Int) (e : Ending) (w' : World) : Prop := (∃ (a : Option Addr) (c g : Nat), e = .returned (.slice a xs.length c) ∧ Own w' g a .u8 xs ∧ (a = none → c = 0) ∧ xs.length ≤ c ∧ w.heap.size ≤ g) ∧ Below w.heap.size w w'
theorem Own.takeH {w : World} {g : Nat} {a : Option Addr} {k : IntKind} {xs : List Int} (h : Own w g a k xs) (n : Nat) : Own w g a k (xs.take n) := fun h0 => by
  rw [List.length_take] at h0
  obtain ⟨off, ha, hc⟩ := h (by omega)
  refine ⟨off, ha, fun i hi => ?_⟩
  rw [List.length_take] at hi
  rw [show (xs.take n).getD i 0 = xs.getD i 0 by rw [List.getD_eq_getElem?_getD, List.getElem?_take, if_pos (by omega), ← List.getD_eq_getElem?_getD]]
  exact hc i (by omega)
/-- The bytes of a Hello ahead of its binder. -/
def hhF (m : Msg) : List Int := if m.k = 1 ∧ m.ti ≠ [] ∧ mfF m = 0 then (encF m).take ((encF m).length - 32) else []
theorem hh_le (m : Msg) : (hhF m).length ≤ 10000 := by
  have := enc_le m
  unfold hhF
  split
  · rw [List.length_take]; omega
  · simp
theorem enc_some {m : Msg} (hk : m.k = 1) (h : mfF m = 0) : 32 ≤ (encF m).length := by
  have hf := mf_zero (m := m) (m' := helloM m) (f := heF m.v m.r.length m.s.length m.ho m.pr m.ti.length m.bi.length m.ag m.ea) (by unfold kfF; rw [if_pos hk]) h
  have hm := (he_more hf).1.1
  unfold encF
  rw [if_pos h]
  unfold enL bodF
  rw [if_pos hk]
  unfold heL fpL
  simp only [List.length_append]
  omega
theorem enc_none {m : Msg} (h : mfF m ≠ 0) : encF m = [] := by
  unfold encF
  rw [if_neg h]
set_option maxRecDepth 100000 in
set_option maxHeartbeats 4000000 in
theorem implHH_any (w : World) (p : MQ) (m : Msg) (h : HasM w p m) (i : IsM m) (z : HasZ p m) :
    Calls Tryz.prog 7 #[.agg (mgV p m)] w (HhP w (hhF m)) := by
  obtain ⟨OUT, hO'⟩ : ∃ l : List Int, l = hhF m := ⟨_, rfl⟩
  rw [← hO']
  have hO := hide hO'
  clear hO'
  have n0 : Below w.heap.size w (w.alloc (.cells (mgV p m) 31)) := (Below.refl _ _).alloc (Nat.le_refl _) _
  have RW : RwC (w.alloc (.cells (mgV p m) 31)) w.heap.size (mgV p m).toList 31 := RwC.new w (mgV p m).toList 31
  have C1 := hide (implEnc_any _ p m (h.up n0) i z)
  have N0 := hide n0
  have RG := RW.rangeG
  have RH := hide RW
  have EL := hide (enc_le m)
  clear n0 h i z RW
  obtain ⟨dC, hdC, hrC⟩ := rowM
  go_enter Tryz.func7, Tryz.ntmps7
  go_upto_region 1 with fail
  generalize w.alloc (.cells (mgV p m) 31) = W1 at *
  go_wp2_with (first | (refine wpList_load_mid rfl 31 (.tmp 1) rfl w.heap.size 0 rfl (mgV p m).toList dC RG hdC hrC iM ?_) | fail)
  refine C1.out.mono ?_
  rintro e w1 ⟨⟨v1, rfl, R1⟩, n1⟩
  have N1 := hide (nxt N0.out n1)
  have RW1 := RH.out.up n1
  obtain ⟨a1, c1, g1, rfl, o1, z1, l1, lg⟩ := R1.own
  have c0 : w1.cell? ⟨w.heap.size, 0, none⟩ = some (.int .i64 m.k) := RW1.cell 0
  have c6 : w1.cell? ⟨w.heap.size, 6, none⟩ = some (.slice p.a6 m.ti.length p.c6) := RW1.cell 6
  have s0 := N0.out.size
  clear RG RH C1 N0 n1 RW1 R1
  by_cases hk : m.k = 1
  rotate_left
  · have FIN : Hid (HhP w OUT (.returned (.slice none 0 0)) w1) := by
      have eo : OUT = [] := by rw [hO.out]; unfold hhF; rw [if_neg (fun h => hk h.1)]
      subst eo
      exact ⟨⟨none, 0, w.heap.size, rfl, fun h => absurd h (by simp), fun _ => rfl, by simp, Nat.le_refl _⟩, N1.out⟩
    have t1 : (m.k == 1) = false := by simp [hk]
    generalize m.k = k at *
    clear hO N1 o1
    go_wp2
    go_ret
    exact FIN.out
  by_cases ht : m.ti = []
  · have FIN : Hid (HhP w OUT (.returned (.slice none 0 0)) w1) := by
      have eo : OUT = [] := by rw [hO.out]; unfold hhF; rw [if_neg (fun h => h.2.1 ht)]
      subst eo
      exact ⟨⟨none, 0, w.heap.size, rfl, fun h => absurd h (by simp), fun _ => rfl, by simp, Nat.le_refl _⟩, N1.out⟩
    have t2 : m.ti.length = 0 := by rw [ht]; rfl
    rw [hk] at c0
    rw [t2] at c6
    clear hO N1 o1 hk ht
    go_wp2
    go_ret
    exact FIN.out
  have t2 : ((m.ti.length : Int) == 0) = false := by
    have : m.ti.length ≠ 0 := fun h => ht (List.length_eq_zero_iff.1 h)
    simp; omega
  rw [hk] at c0
  by_cases hf : mfF m = 0
  rotate_left
  · have FIN : Hid (HhP w OUT (.returned (.slice none 0 0)) w1) := by
      have eo : OUT = [] := by rw [hO.out]; unfold hhF; rw [if_neg (fun h => hf h.2.2)]
      subst eo
      exact ⟨⟨none, 0, w.heap.size, rfl, fun h => absurd h (by simp), fun _ => rfl, by simp, Nat.le_refl _⟩, N1.out⟩
    have e0 := enc_none hf
    rw [e0] at *
    generalize m.ti.length = tl at *
    clear hO N1 o1 hf hk ht e0
    go_wp2
    go_ret
    exact FIN.out
  have h32 := enc_some hk hf
  have eo : Hid (OUT = (encF m).take ((encF m).length - 32)) := by show _ = _; rw [hO.out]; unfold hhF; rw [if_pos ⟨hk, ht, hf⟩]
  have el := EL.out
  clear hO hk ht hf EL
  generalize encF m = E at *
  generalize m.ti.length = tl at *
  have lo : Hid (OUT.length = E.length - 32) := by show _ = _; rw [eo.out, List.length_take]; omega
  have OO : Hid (Own w1 g1 a1 .u8 OUT) := by show Own _ _ _ _ _; rw [eo.out]; exact o1.takeH _
  have t3 : ((E.length : Int) == 0) = false := beq_eq_false_iff_ne.2 (by omega)
  have s1 : IntKind.i64.wrap ((E.length : Int) - 32) = ((E.length - 32 : Nat) : Int) := by rw [IntKind.wrap_i64]; omega
  have s2 : ((E.length - 32 : Nat) : Int) ≤ (c1 : Int) := by omega
  obtain ⟨n, hn⟩ : ∃ n : Nat, n = E.length - 32 := ⟨_, rfl⟩
  rw [← hn] at s1 s2 lo
  have hc : n ≤ c1 := by omega
  have hcs : (n : Int) ≤ c1 := by omega
  have FIN : Hid (HhP w OUT (.returned (.slice a1 n c1)) w1) := ⟨⟨a1, c1, g1, by rw [lo.out], OO.out, z1, by rw [lo.out]; omega, by omega⟩, N1.out⟩
  generalize E.length = el' at *
  clear o1 OO eo lo N1 hn z1
  go_wp2
  go_ret
  exact FIN.out
theorem hhNone {w w1 : World} {OUT : List Int} (eo : OUT = []) (N1 : Below w.heap.size w w1) : HhP w OUT (.returned (.slice (some ⟨w1.heap.size, 0, none⟩) 0 0)) (w1.alloc (.cells #[] 5)) := by
  subst eo
  exact ⟨⟨_, 0, w.heap.size, rfl, fun h => absurd h (by simp), fun _ => rfl, by simp, Nat.le_refl _⟩, nxt N1 ((Below.refl _ _).alloc (Nat.le_refl _) _)⟩
set_option maxRecDepth 100000 in
set_option maxHeartbeats 4000000 in
theorem specHH_any (w : World) (p : MQ) (m : Msg) (h : HasM w p m) (i : IsM m) (z : HasZ p m) :
    Calls Tryz.prog 5 #[.agg (mgV p m)] w (HhP w (hhF m)) := by
  obtain ⟨OUT, hO'⟩ : ∃ l : List Int, l = hhF m := ⟨_, rfl⟩
  rw [← hO']
  have hO := hide hO'
  clear hO'
  have n0 : Below w.heap.size w (w.alloc (.cells (mgV p m) 31)) := (Below.refl _ _).alloc (Nat.le_refl _) _
  have RW : RwC (w.alloc (.cells (mgV p m) 31)) w.heap.size (mgV p m).toList 31 := RwC.new w (mgV p m).toList 31
  have C1 := hide (specMF_any _ p m (h.up n0) i)
  have C2 : Hid (∀ W, Below w.heap.size w W → Calls Tryz.prog 17 #[.agg (mgV p m)] W (BodP W (encF m))) := fun W n => specEnc_any W p m (h.up n) i z
  have N0 := hide n0
  have RG := RW.rangeG
  have RH := hide RW
  have EL := hide (enc_le m)
  clear n0 h i z RW
  obtain ⟨dC, hdC, hrC⟩ := rowM
  go_enter Tryz.func5, Tryz.ntmps5
  go_upto_region 1 with fail
  generalize w.alloc (.cells (mgV p m) 31) = W1 at *
  go_wp2_with (first | (refine wpList_load_mid rfl 31 (.tmp 1) rfl w.heap.size 0 rfl (mgV p m).toList dC RG hdC hrC iM ?_) | fail)
  refine C1.out.mono ?_
  rintro e w1 ⟨rfl, n1⟩
  have N1 := hide (nxt N0.out n1)
  have RW1 := RH.out.up n1
  have RG1 := hide RW1.rangeG
  have c0 : w1.cell? ⟨w.heap.size, 0, none⟩ = some (.int .i64 m.k) := RW1.cell 0
  have c6 : w1.cell? ⟨w.heap.size, 6, none⟩ = some (.slice p.a6 m.ti.length p.c6) := RW1.cell 6
  clear RG RH C1 N0 n1 RW1
  by_cases hf : mfF m = 0
  rotate_left
  · have FIN := hide (hhNone (OUT := OUT) (by rw [hO.out]; unfold hhF; rw [if_neg (fun h => hf h.2.2)]) N1.out)
    have t1 : (mfF m == 0) = false := by simp [hf]
    generalize mfF m = f at *
    clear hO N1 C2 EL RG1
    go_wp2
    go_ret
    exact FIN.out
  by_cases hk : m.k = 1
  rotate_left
  · have FIN := hide (hhNone (OUT := OUT) (by rw [hO.out]; unfold hhF; rw [if_neg (fun h => hk h.1)]) N1.out)
    have t1 : (m.k == 1) = false := by simp [hk]
    rw [hf]
    generalize m.k = k at *
    clear hO N1 C2 EL RG1 hf
    go_wp2
    go_ret
    exact FIN.out
  by_cases ht : m.ti = []
  · have FIN := hide (hhNone (OUT := OUT) (by rw [hO.out]; unfold hhF; rw [if_neg (fun h => h.2.1 ht)]) N1.out)
    have t2 : m.ti.length = 0 := by rw [ht]; rfl
    rw [hf]
    rw [hk] at c0
    rw [t2] at c6
    clear hO N1 C2 EL RG1 hf hk ht
    go_wp2
    go_ret
    exact FIN.out
  have t2 : ((m.ti.length : Int) == 0) = false := by
    have : m.ti.length ≠ 0 := fun h => ht (List.length_eq_zero_iff.1 h)
    simp; omega
  have h32 := enc_some hk hf
  have eo : Hid (OUT = (encF m).take ((encF m).length - 32)) := by show _ = _; rw [hO.out]; unfold hhF; rw [if_pos ⟨hk, ht, hf⟩]
  have el := EL.out
  rw [hf]
  rw [hk] at c0
  have C3 := hide ((unhide C2) w1 N1.out)
  have RG2 := RG1.out
  clear hO hk ht hf EL C2 RG1
  generalize m.ti.length = tl at *
  generalize encF m = E at *
  go_wp2_with (first | (refine wpList_load_mid rfl 31 (.tmp 1) rfl w.heap.size 0 rfl (mgV p m).toList dC RG2 hdC hrC iM ?_) | fail)
  refine C3.out.mono ?_
  rintro e w2 ⟨⟨v2, rfl, R2⟩, n2⟩
  have N2 := hide (nxt N1.out n2)
  obtain ⟨a1, c1, g1, rfl, o1, z1, l1, lg⟩ := R2.own
  clear RG2 C3 c0 c6 t2 N1 n2 R2
  have lo : OUT.length = E.length - 32 := by rw [eo.out, List.length_take]; omega
  have RR : Rd w2 g1 a1 .u8 OUT := by rw [eo.out]; exact (o1.takeH _).rd
  have s1 : IntKind.i64.wrap ((E.length : Int) - 32) = ((E.length - 32 : Nat) : Int) := by rw [IntKind.wrap_i64]; omega
  have hc : E.length - 32 ≤ c1 := by omega
  have CP := l1CopyN_any w2 g1 a1 c1 OUT RR z1 (by omega)
  rw [lo] at CP
  replace CP := hide CP
  generalize E.length = el' at *
  clear o1 eo RR
  go_wp2_with fail
  refine CP.out.mono ?_
  rintro e w3 ⟨v3, rfl, R3, n3⟩
  have FIN : Hid (HhP w OUT (.returned v3) w3) := by
    obtain ⟨a, c, g, rfl, o, zz, l, lg'⟩ := R3.own
    have := N2.out.size
    exact ⟨⟨a, c, g, rfl, o, zz, l, by omega⟩, nxt N2.out n3⟩
  clear CP R3 n3 N2 z1
  go_wp2
  go_ret
  exact FIN.out
end Go.Proofs.YtdbgdiahddpgkaaGreat
