import Derived.Test.YteedfhljbdnmnaaGreatDoorGT48
import Derived.Test.YteedfhljbdnmnaaGreatDoorGT7
import Derived.Test.YteedfhljbdnmnaaGreatDoorGT36
import Derived.Test.YteedfhljbdnmnaaGreatDoorGT44
namespace Go.Proofs.YteedfhljbdnmnaaGreatDoor
set_option maxRecDepth 100000
open Go Go.RowKit
set_option maxHeartbeats 1000000 in
theorem isOther_any (w : World) (a : Option Addr) (n c : Nat) :
    Calls Tryz.prog 60 #[.slice a n c] w fun e w' => e = .returned (.bool (decide (n ≠ 32))) ∧ w' = w := by
  by_cases h : n = 32
  · subst h
    go_enter Tryz.func60, Tryz.ntmps60
    go_wp2
    go_ret
    exact ⟨rfl, rfl⟩
  · have t : ((n : Int) != 32) = true := by simp; omega
    have t2 : decide (n ≠ 32) = true := decide_eq_true h
    rw [t2]
    go_enter Tryz.func60, Tryz.ntmps60
    go_wp2
    go_ret
    exact ⟨rfl, rfl⟩
abbrev Sv := Option Addr × Nat × Nat
def sv0 : Sv := (none, 0, 0)
def Sv.v (x : Sv) : Value := .slice x.1 x.2.1 x.2.2
def RwV (w : World) (b : Nat) (vs : List Sv) : Prop := ∀ i, i < vs.length → w.cell? ⟨b, i, none⟩ = some (.slice (vs.getD i sv0).1 (vs.getD i sv0).2.1 (vs.getD i sv0).2.2)
def oth (vs : List Sv) : Bool := vs.any fun x => decide (x.2.1 ≠ 32)
theorem oth_take {vs : List Sv} {k : Nat} (hk : k < vs.length) : oth (vs.take (k + 1)) = (oth (vs.take k) || decide ((vs.getD k sv0).2.1 ≠ 32)) := by
  have e : vs.take (k + 1) = vs.take k ++ [vs.getD k sv0] := by
    rw [List.take_succ_eq_append_getElem hk]
    congr 2
    simp [hk]
  rw [e]
  unfold oth
  rw [List.any_append]
  simp
theorem oth_of {vs : List Sv} {k : Nat} (hk : k < vs.length) (h : decide ((vs.getD k sv0).2.1 ≠ 32) = true) : oth vs = true := by
  unfold oth
  rw [List.any_eq_true]
  exact ⟨vs.getD k sv0, by simp [hk], h⟩
set_option maxHeartbeats 2000000 in
theorem idxO_any (w : World) (b : Nat) (vs : List Sv) (hr : RwV w b vs) (hn : vs.length ≤ 1048576) :
    Calls Tryz.prog 96 #[.slice (some ⟨b, 0, none⟩) vs.length vs.length, .func (.func 60) #[] #[]] w fun e w' => (∃ r : Int, e = .returned (.int .i64 r) ∧ decide (0 ≤ r) = oth vs) ∧ w' = w := by
  go_enter Tryz.func96, Tryz.ntmps96
  go_wp2
  go_loopw [8] (fun i wr => wr = w ∧ ∃ k : Nat, k ≤ vs.length ∧ i = .int .i64 k ∧ Hid (oth (vs.take k) = false)) (fun i _ => vs.length - (intOf i).toNat)
  case atStart => exact ⟨rfl, 0, by omega, rfl, by show _ = _; rw [List.take_zero]; rfl⟩
  case round =>
    obtain ⟨rfl, k, hk, rfl, hA⟩ := hrel
    by_cases hlt : k < vs.length
    · have t2 : (k : Int) < (vs.length : Int) := by omega
      have c1 := hr k hlt
      have CC := hide (isOther_any wr (vs.getD k sv0).1 (vs.getD k sv0).2.1 (vs.getD k sv0).2.2)
      have AT := hide (oth_take hlt)
      have AO := hide (fun h => oth_of hlt h)
      rw [hA.out] at AT
      clear hA
      generalize (vs.getD k sv0).1 = x1 at *
      generalize (vs.getD k sv0).2.1 = x2 at *
      generalize (vs.getD k sv0).2.2 = x3 at *
      generalize decide (x2 ≠ 32) = z at *
      cases z with
      | false =>
        clear AO
        go_wp2_with fail
        refine CC.out.mono ?_
        rintro e w1 ⟨rfl, rfl⟩
        go_wp2
        go_roundw
        case rel => exact ⟨by first | rfl | trivial, k + 1, by omega, by go_num, by show _ = _; rw [AT.out]; rfl⟩
        case measure => simp [intOf]; omega
      | true =>
        have AO' := hide (AO.out rfl)
        clear AO AT
        go_wp2_with fail
        refine CC.out.mono ?_
        rintro e w1 ⟨rfl, rfl⟩
        go_wp2
        go_ret
        exact ⟨⟨_, rfl, by rw [AO'.out]; exact decide_eq_true (by omega)⟩, rfl⟩
    · obtain rfl : k = vs.length := by omega
      rw [List.take_length] at hA
      go_wp2
      go_ret
      exact ⟨⟨_, rfl, by rw [hA.out]; rfl⟩, rfl⟩
set_option maxHeartbeats 2000000 in
theorem conO_any (w : World) (b : Nat) (vs : List Sv) (hr : RwV w b vs) (hn : vs.length ≤ 1048576) :
    Calls Tryz.prog 59 #[.slice (some ⟨b, 0, none⟩) vs.length vs.length, .func (.func 60) #[] #[]] w fun e w' => e = .returned (.bool (oth vs)) ∧ w' = w := by
  have IX := hide (idxO_any w b vs hr hn)
  generalize oth vs = z at *
  go_enter Tryz.func59, Tryz.ntmps59
  go_wp2_with fail
  refine IX.out.mono ?_
  rintro e w1 ⟨⟨r, rfl, hrz⟩, rfl⟩
  have HZ := hide hrz
  clear hrz
  go_wp2
  go_ret
  exact ⟨by rw [← HZ.out]; rfl, rfl⟩
set_option maxHeartbeats 1000000 in
theorem takeExtract_any (w : World) (b : Nat) (vs : List Sv) (hr : RwV w b vs) (hn : vs.length ≤ 1048576) (x : Value) (ys : List Int) (C : oth vs = false → Calls Tryz.prog 33 #[x] w fun e w' => NewRow w.heap.size w' e .u8 ys ∧ Below w.heap.size w w') :
    Calls Tryz.prog 29 #[.func (.func 33) #[x] #[], .slice (some ⟨b, 0, none⟩) vs.length vs.length] w fun e w' => NewRow w.heap.size w' e .u8 (if oth vs = true then [] else ys) ∧ Below w.heap.size w w' := by
  have CO := hide (conO_any w b vs hr hn)
  have CH := hide C
  clear hr C
  cases hz : oth vs with
  | true =>
    rw [hz] at CO
    clear CH hz
    rw [if_pos rfl]
    go_enter Tryz.func29, Tryz.ntmps29
    go_wp2_with fail
    refine CO.out.mono ?_
    rintro e w1 ⟨rfl, rfl⟩
    go_wp2
    go_ret
    exact ⟨newRow_z _ _, Below.refl _ _⟩
  | false =>
    rw [hz] at CO
    have CH := hide (CH.out hz)
    clear hz
    rw [if_neg (by decide)]
    go_enter Tryz.func29, Tryz.ntmps29
    go_wp2_with fail
    refine CO.out.mono ?_
    rintro e w1 ⟨rfl, rfl⟩
    go_wp2_with fail
    refine CH.out.mono ?_
    rintro e w2 ⟨⟨a3, c3, g3, rfl, o3, p3, q3, r3⟩, n⟩
    go_wp2
    go_ret
    exact ⟨⟨a3, c3, g3, rfl, o3, p3, q3, r3⟩, n⟩
set_option maxHeartbeats 1000000 in
theorem takeMix_any (w : World) (b : Nat) (vs : List Sv) (hr : RwV w b vs) (hn : vs.length ≤ 1048576) (x : Value) (ys : List Int) (C : oth vs = false → Calls Tryz.prog 30 #[x] w fun e w' => NewRow w.heap.size w' e .u8 ys ∧ Below w.heap.size w w') :
    Calls Tryz.prog 29 #[.func (.func 30) #[x] #[], .slice (some ⟨b, 0, none⟩) vs.length vs.length] w fun e w' => NewRow w.heap.size w' e .u8 (if oth vs = true then [] else ys) ∧ Below w.heap.size w w' := by
  have CO := hide (conO_any w b vs hr hn)
  have CH := hide C
  clear hr C
  cases hz : oth vs with
  | true =>
    rw [hz] at CO
    clear CH hz
    rw [if_pos rfl]
    go_enter Tryz.func29, Tryz.ntmps29
    go_wp2_with fail
    refine CO.out.mono ?_
    rintro e w1 ⟨rfl, rfl⟩
    go_wp2
    go_ret
    exact ⟨newRow_z _ _, Below.refl _ _⟩
  | false =>
    rw [hz] at CO
    have CH := hide (CH.out hz)
    clear hz
    rw [if_neg (by decide)]
    go_enter Tryz.func29, Tryz.ntmps29
    go_wp2_with fail
    refine CO.out.mono ?_
    rintro e w1 ⟨rfl, rfl⟩
    go_wp2_with fail
    refine CH.out.mono ?_
    rintro e w2 ⟨⟨a3, c3, g3, rfl, o3, p3, q3, r3⟩, n⟩
    go_wp2
    go_ret
    exact ⟨⟨a3, c3, g3, rfl, o3, p3, q3, r3⟩, n⟩
set_option maxHeartbeats 1000000 in
theorem takeFinish_any (w : World) (b : Nat) (vs : List Sv) (hr : RwV w b vs) (hn : vs.length ≤ 1048576) (x : Value) (ys : List Int) (C : oth vs = false → Calls Tryz.prog 42 #[x] w fun e w' => NewRow w.heap.size w' e .u8 ys ∧ Below w.heap.size w w') :
    Calls Tryz.prog 29 #[.func (.func 42) #[x] #[], .slice (some ⟨b, 0, none⟩) vs.length vs.length] w fun e w' => NewRow w.heap.size w' e .u8 (if oth vs = true then [] else ys) ∧ Below w.heap.size w w' := by
  have CO := hide (conO_any w b vs hr hn)
  have CH := hide C
  clear hr C
  cases hz : oth vs with
  | true =>
    rw [hz] at CO
    clear CH hz
    rw [if_pos rfl]
    go_enter Tryz.func29, Tryz.ntmps29
    go_wp2_with fail
    refine CO.out.mono ?_
    rintro e w1 ⟨rfl, rfl⟩
    go_wp2
    go_ret
    exact ⟨newRow_z _ _, Below.refl _ _⟩
  | false =>
    rw [hz] at CO
    have CH := hide (CH.out hz)
    clear hz
    rw [if_neg (by decide)]
    go_enter Tryz.func29, Tryz.ntmps29
    go_wp2_with fail
    refine CO.out.mono ?_
    rintro e w1 ⟨rfl, rfl⟩
    go_wp2_with fail
    refine CH.out.mono ?_
    rintro e w2 ⟨⟨a3, c3, g3, rfl, o3, p3, q3, r3⟩, n⟩
    go_wp2
    go_ret
    exact ⟨⟨a3, c3, g3, rfl, o3, p3, q3, r3⟩, n⟩
set_option maxHeartbeats 1000000 in
theorem takeUpdate_any (w : World) (b : Nat) (vs : List Sv) (hr : RwV w b vs) (hn : vs.length ≤ 1048576) (x : Value) (ys : List Int) (C : oth vs = false → Calls Tryz.prog 36 #[x] w fun e w' => NewRow w.heap.size w' e .u8 ys ∧ Below w.heap.size w w') :
    Calls Tryz.prog 29 #[.func (.func 36) #[x] #[], .slice (some ⟨b, 0, none⟩) vs.length vs.length] w fun e w' => NewRow w.heap.size w' e .u8 (if oth vs = true then [] else ys) ∧ Below w.heap.size w w' := by
  have CO := hide (conO_any w b vs hr hn)
  have CH := hide C
  clear hr C
  cases hz : oth vs with
  | true =>
    rw [hz] at CO
    clear CH hz
    rw [if_pos rfl]
    go_enter Tryz.func29, Tryz.ntmps29
    go_wp2_with fail
    refine CO.out.mono ?_
    rintro e w1 ⟨rfl, rfl⟩
    go_wp2
    go_ret
    exact ⟨newRow_z _ _, Below.refl _ _⟩
  | false =>
    rw [hz] at CO
    have CH := hide (CH.out hz)
    clear hz
    rw [if_neg (by decide)]
    go_enter Tryz.func29, Tryz.ntmps29
    go_wp2_with fail
    refine CO.out.mono ?_
    rintro e w1 ⟨rfl, rfl⟩
    go_wp2_with fail
    refine CH.out.mono ?_
    rintro e w2 ⟨⟨a3, c3, g3, rfl, o3, p3, q3, r3⟩, n⟩
    go_wp2
    go_ret
    exact ⟨⟨a3, c3, g3, rfl, o3, p3, q3, r3⟩, n⟩
set_option maxHeartbeats 1000000 in
theorem takeBind_any (w : World) (b : Nat) (vs : List Sv) (hr : RwV w b vs) (hn : vs.length ≤ 1048576) (x : Value) (ys : List Int) (C : oth vs = false → Calls Tryz.prog 41 #[x] w fun e w' => NewRow w.heap.size w' e .u8 ys ∧ Below w.heap.size w w') :
    Calls Tryz.prog 29 #[.func (.func 41) #[x] #[], .slice (some ⟨b, 0, none⟩) vs.length vs.length] w fun e w' => NewRow w.heap.size w' e .u8 (if oth vs = true then [] else ys) ∧ Below w.heap.size w w' := by
  have CO := hide (conO_any w b vs hr hn)
  have CH := hide C
  clear hr C
  cases hz : oth vs with
  | true =>
    rw [hz] at CO
    clear CH hz
    rw [if_pos rfl]
    go_enter Tryz.func29, Tryz.ntmps29
    go_wp2_with fail
    refine CO.out.mono ?_
    rintro e w1 ⟨rfl, rfl⟩
    go_wp2
    go_ret
    exact ⟨newRow_z _ _, Below.refl _ _⟩
  | false =>
    rw [hz] at CO
    have CH := hide (CH.out hz)
    clear hz
    rw [if_neg (by decide)]
    go_enter Tryz.func29, Tryz.ntmps29
    go_wp2_with fail
    refine CO.out.mono ?_
    rintro e w1 ⟨rfl, rfl⟩
    go_wp2_with fail
    refine CH.out.mono ?_
    rintro e w2 ⟨⟨a3, c3, g3, rfl, o3, p3, q3, r3⟩, n⟩
    go_wp2
    go_ret
    exact ⟨⟨a3, c3, g3, rfl, o3, p3, q3, r3⟩, n⟩
set_option maxHeartbeats 1000000 in
theorem takeKey_any (w : World) (b : Nat) (vs : List Sv) (hr : RwV w b vs) (hn : vs.length ≤ 1048576) (x : Value) (ys : List Int) (C : oth vs = false → Calls Tryz.prog 34 #[x] w fun e w' => NewRow w.heap.size w' e .u8 ys ∧ Below w.heap.size w w') :
    Calls Tryz.prog 29 #[.func (.func 34) #[x] #[], .slice (some ⟨b, 0, none⟩) vs.length vs.length] w fun e w' => NewRow w.heap.size w' e .u8 (if oth vs = true then [] else ys) ∧ Below w.heap.size w w' := by
  have CO := hide (conO_any w b vs hr hn)
  have CH := hide C
  clear hr C
  cases hz : oth vs with
  | true =>
    rw [hz] at CO
    clear CH hz
    rw [if_pos rfl]
    go_enter Tryz.func29, Tryz.ntmps29
    go_wp2_with fail
    refine CO.out.mono ?_
    rintro e w1 ⟨rfl, rfl⟩
    go_wp2
    go_ret
    exact ⟨newRow_z _ _, Below.refl _ _⟩
  | false =>
    rw [hz] at CO
    have CH := hide (CH.out hz)
    clear hz
    rw [if_neg (by decide)]
    go_enter Tryz.func29, Tryz.ntmps29
    go_wp2_with fail
    refine CO.out.mono ?_
    rintro e w1 ⟨rfl, rfl⟩
    go_wp2_with fail
    refine CH.out.mono ?_
    rintro e w2 ⟨⟨a3, c3, g3, rfl, o3, p3, q3, r3⟩, n⟩
    go_wp2
    go_ret
    exact ⟨⟨a3, c3, g3, rfl, o3, p3, q3, r3⟩, n⟩
set_option maxHeartbeats 1000000 in
theorem takeIv_any (w : World) (b : Nat) (vs : List Sv) (hr : RwV w b vs) (hn : vs.length ≤ 1048576) (x : Value) (ys : List Int) (C : oth vs = false → Calls Tryz.prog 35 #[x] w fun e w' => NewRow w.heap.size w' e .u8 ys ∧ Below w.heap.size w w') :
    Calls Tryz.prog 29 #[.func (.func 35) #[x] #[], .slice (some ⟨b, 0, none⟩) vs.length vs.length] w fun e w' => NewRow w.heap.size w' e .u8 (if oth vs = true then [] else ys) ∧ Below w.heap.size w w' := by
  have CO := hide (conO_any w b vs hr hn)
  have CH := hide C
  clear hr C
  cases hz : oth vs with
  | true =>
    rw [hz] at CO
    clear CH hz
    rw [if_pos rfl]
    go_enter Tryz.func29, Tryz.ntmps29
    go_wp2_with fail
    refine CO.out.mono ?_
    rintro e w1 ⟨rfl, rfl⟩
    go_wp2
    go_ret
    exact ⟨newRow_z _ _, Below.refl _ _⟩
  | false =>
    rw [hz] at CO
    have CH := hide (CH.out hz)
    clear hz
    rw [if_neg (by decide)]
    go_enter Tryz.func29, Tryz.ntmps29
    go_wp2_with fail
    refine CO.out.mono ?_
    rintro e w1 ⟨rfl, rfl⟩
    go_wp2_with fail
    refine CH.out.mono ?_
    rintro e w2 ⟨⟨a3, c3, g3, rfl, o3, p3, q3, r3⟩, n⟩
    go_wp2
    go_ret
    exact ⟨⟨a3, c3, g3, rfl, o3, p3, q3, r3⟩, n⟩
def zer32 : List Int := List.replicate 32 0
theorem zer32_len : zer32.length = 32 := by simp [zer32]
theorem zer32_byt : Byt zer32 := fun i => by
  unfold zer32
  rw [List.getD_eq_getElem?_getD, List.getElem?_replicate]
  split <;> simp
set_option maxHeartbeats 1000000 in
theorem noSecret_any (w : World) :
    Calls Tryz.prog 32 #[] w fun e w' => NewRow w.heap.size w' e .u8 zer32 ∧ Below w.heap.size w w' := by
  obtain ⟨i0, hi, hz0, hz1, hz2⟩ := info_parts Tryz.info5
  go_enter Tryz.func32, Tryz.ntmps32
  go_wp2_with (at_make; refine wpList_make_full _ rfl _ _ 22 rfl w.heap.size 5 i0 (.int .u8 0) 1 Tryz.underlying22 hi hz0 hz1 .i64 .i64 _ _ 32 rfl rfl rfl rfl (by rw [hz2]; decide) (by unfold maxLen; decide) (Nat.le_refl _) ?_; intro w5 hown hgrow)
  have hB0 := Blk.of_made hown
  have hN0 : Below w.heap.size w w5 := (Below.refl _ _).grown hgrow (Nat.le_refl _) (by simp)
  clear hown hgrow
  go_wp2
  go_ret
  exact ⟨⟨_, _, _, rfl, hB0.own0, fun h => by simp at h, by rw [zer32_len]; exact Nat.le_refl _, Nat.le_refl _⟩, hN0⟩
def knL (ks : List Int) : List Int := if ks.length = 0 then zer32 else ks
set_option maxHeartbeats 1000000 in
theorem knownKey_any (w : World) {a : Option Addr} {c : Nat} {ks : List Int} (h1 : Lq w a c ks) :
    Calls Tryz.prog 31 #[.slice a ks.length c] w fun e w' => (∃ a' c', e = .returned (.slice a' (knL ks).length c') ∧ Lq w' a' c' (knL ks)) ∧ Below w.heap.size w w' := by
  have NS := hide (noSecret_any w)
  by_cases h : ks.length = 0
  · have e : knL ks = zer32 := by unfold knL; rw [if_pos h]
    rw [e]
    have t : ((ks.length : Int) == 0) = true := by rw [h]; rfl
    clear h
    go_enter Tryz.func31, Tryz.ntmps31
    go_wp2_with fail
    refine NS.out.mono ?_
    rintro e w2 ⟨⟨a3, c3, g3, rfl, o3, p3, q3, r3⟩, n⟩
    go_wp2
    go_ret
    exact ⟨⟨a3, c3, rfl, Lq.of o3 p3 q3 zer32_byt (by rw [zer32_len]; decide)⟩, n⟩
  · have e : knL ks = ks := by unfold knL; rw [if_neg h]
    rw [e]
    have t : ((ks.length : Int) == 0) = false := beq_eq_false_iff_ne.2 (by omega)
    have L := hide h1
    clear h NS h1
    go_enter Tryz.func31, Tryz.ntmps31
    go_wp2
    go_ret
    exact ⟨⟨a, c, rfl, L.out⟩, Below.refl _ _⟩
theorem rw1 (w : World) (x : Sv) : RwV (w.alloc (.cells #[.slice x.1 x.2.1 x.2.2] 22)) w.heap.size [x] := fun i hi => by
  have h : (w.alloc (.cells #[.slice x.1 x.2.1 x.2.2] 22)).heap[w.heap.size]? = some (.cells #[.slice x.1 x.2.1 x.2.2] 22 (0, 0)) := by show (w.heap.push _)[w.heap.size]? = _; simp
  rw [cell_of_row _ _ _ _ _ _ h]
  obtain rfl : i = 0 := by simp at hi; omega
  rfl
theorem rw2 (w : World) (x y : Sv) : RwV (w.alloc (.cells #[.slice x.1 x.2.1 x.2.2, .slice y.1 y.2.1 y.2.2] 22)) w.heap.size [x, y] := fun i hi => by
  have h : (w.alloc (.cells #[.slice x.1 x.2.1 x.2.2, .slice y.1 y.2.1 y.2.2] 22)).heap[w.heap.size]? = some (.cells #[.slice x.1 x.2.1 x.2.2, .slice y.1 y.2.1 y.2.2] 22 (0, 0)) := by show (w.heap.push _)[w.heap.size]? = _; simp
  rw [cell_of_row _ _ _ _ _ _ h]
  obtain rfl | rfl : i = 0 ∨ i = 1 := by simp at hi; omega
  all_goals rfl
def al1 (w : World) (x : Value) : World := w.alloc (.cells #[x] 22)
def al2 (w : World) (x y : Value) : World := w.alloc (.cells #[x, y] 22)
theorem al1_up (w : World) (x : Value) : Below w.heap.size w (al1 w x) := (Below.refl _ _).alloc (Nat.le_refl _) _
theorem al2_up (w : World) (x y : Value) : Below w.heap.size w (al2 w x y) := (Below.refl _ _).alloc (Nat.le_refl _) _
theorem oth1 (a : Option Addr) (n c : Nat) (ys : List Int) : (if oth [(a, n, c)] = true then [] else ys) = if n = 32 then ys else [] := by
  unfold oth
  by_cases h : n = 32 <;> simp [h]
theorem oth2 (a a' : Option Addr) (n n' c c' : Nat) (ys : List Int) : (if oth [(a, n, c), (a', n', c')] = true then [] else ys) = if n = 32 ∧ n' = 32 then ys else [] := by
  unfold oth
  by_cases h : n = 32 <;> by_cases h' : n' = 32 <;> simp [h, h']
def eaA (p : List Int) : List Int := if (knL p).length = 32 then macL zer32 (knL p) else []
def hsA (ks xs : List Int) : List Int := if ks.length = 32 ∧ xs.length = 32 then macL (labA ks lbD hE 32) xs else []
def msA (ks : List Int) : List Int := if ks.length = 32 then macL (labA ks lbD hE 32) zer32 else []
def nxA (ks : List Int) : List Int := if ks.length = 32 then labA ks lbU [] 32 else []
def fmA (ks xs : List Int) : List Int := if ks.length = 32 ∧ xs.length = 32 then macL (labA ks lbF [] 32) xs else []
def bmA (p xs : List Int) : List Int := if (eaA p).length = 32 then macL (labA (labA (eaA p) lbB hE 32) lbF [] 32) (hashL32 xs) else []
set_option maxHeartbeats 1000000 in
theorem implHandshakeSecret_any (w : World) (hH : HasH w) {a a' : Option Addr} {c c' : Nat} {ks xs : List Int} (h1 : Lq w a c ks) (h2 : Lq w a' c' xs) :
    Calls Tryz.prog 9 #[.slice a ks.length c, .slice a' xs.length c'] w fun e w' => NewRow w.heap.size w' e .u8 (hsA ks xs) ∧ Below w.heap.size w w' := by
  have n1 := al2_up w (.slice a ks.length c) (.slice a' xs.length c')
  have T := takeMix_any _ w.heap.size [(a, ks.length, c), (a', xs.length, c')] (rw2 w (a, ks.length, c) (a', xs.length, c')) (by simp) (.agg #[.slice a ks.length c, .slice a' xs.length c']) (macL (labA ks lbD hE 32) xs) (fun _ => sMix_any _ (hH.up n1) (h1.up n1) (h2.up n1))
  rw [oth2, show (if ks.length = 32 ∧ xs.length = 32 then macL (labA ks lbD hE 32) xs else []) = hsA ks xs from rfl] at T
  have TH : Hid (Calls Tryz.prog 29 #[.func (.func 30) #[.agg #[.slice a ks.length c, .slice a' xs.length c']] #[], .slice (some ⟨w.heap.size, 0, none⟩) 2 2] (al2 w (.slice a ks.length c) (.slice a' xs.length c')) fun e w' => NewRow (al2 w (.slice a ks.length c) (.slice a' xs.length c')).heap.size w' e .u8 (hsA ks xs) ∧ Below (al2 w (.slice a ks.length c) (.slice a' xs.length c')).heap.size (al2 w (.slice a ks.length c) (.slice a' xs.length c')) w') := T
  have N1 := hide n1
  clear T h1 h2 n1 hH
  unfold al2 at TH N1
  generalize hsA ks xs = ys at *
  generalize ks.length = m at *
  generalize xs.length = m' at *
  go_enter Tryz.func9, Tryz.ntmps9
  go_wp2_with fail
  refine TH.out.mono ?_
  rintro e w1 ⟨⟨a3, c3, g3, rfl, o3, p3, q3, r3⟩, n⟩
  have z1 := N1.out.size
  go_wp2
  go_ret
  exact ⟨⟨a3, c3, g3, rfl, o3, p3, q3, by omega⟩, nxt N1.out n⟩
set_option maxHeartbeats 1000000 in
theorem implFinishedMac_any (w : World) (hH : HasH w) {a a' : Option Addr} {c c' : Nat} {ks xs : List Int} (h1 : Lq w a c ks) (h2 : Lq w a' c' xs) :
    Calls Tryz.prog 18 #[.slice a ks.length c, .slice a' xs.length c'] w fun e w' => NewRow w.heap.size w' e .u8 (fmA ks xs) ∧ Below w.heap.size w w' := by
  have n1 := al2_up w (.slice a ks.length c) (.slice a' xs.length c')
  have T := takeFinish_any _ w.heap.size [(a, ks.length, c), (a', xs.length, c')] (rw2 w (a, ks.length, c) (a', xs.length, c')) (by simp) (.agg #[.slice a ks.length c, .slice a' xs.length c']) (macL (labA ks lbF [] 32) xs) (fun _ => sFinish_any _ (hH.up n1) (h1.up n1) (h2.up n1))
  rw [oth2, show (if ks.length = 32 ∧ xs.length = 32 then macL (labA ks lbF [] 32) xs else []) = fmA ks xs from rfl] at T
  have TH : Hid (Calls Tryz.prog 29 #[.func (.func 42) #[.agg #[.slice a ks.length c, .slice a' xs.length c']] #[], .slice (some ⟨w.heap.size, 0, none⟩) 2 2] (al2 w (.slice a ks.length c) (.slice a' xs.length c')) fun e w' => NewRow (al2 w (.slice a ks.length c) (.slice a' xs.length c')).heap.size w' e .u8 (fmA ks xs) ∧ Below (al2 w (.slice a ks.length c) (.slice a' xs.length c')).heap.size (al2 w (.slice a ks.length c) (.slice a' xs.length c')) w') := T
  have N1 := hide n1
  clear T h1 h2 n1 hH
  unfold al2 at TH N1
  generalize fmA ks xs = ys at *
  generalize ks.length = m at *
  generalize xs.length = m' at *
  go_enter Tryz.func18, Tryz.ntmps18
  go_wp2_with fail
  refine TH.out.mono ?_
  rintro e w1 ⟨⟨a3, c3, g3, rfl, o3, p3, q3, r3⟩, n⟩
  have z1 := N1.out.size
  go_wp2
  go_ret
  exact ⟨⟨a3, c3, g3, rfl, o3, p3, q3, by omega⟩, nxt N1.out n⟩
set_option maxHeartbeats 1000000 in
theorem implNextSecret_any (w : World) (hH : HasH w) {a : Option Addr} {c : Nat} {ks : List Int} (h1 : Lq w a c ks) :
    Calls Tryz.prog 15 #[.slice a ks.length c] w fun e w' => NewRow w.heap.size w' e .u8 (nxA ks) ∧ Below w.heap.size w w' := by
  have n1 := al1_up w (.slice a ks.length c)
  have T := takeUpdate_any _ w.heap.size [(a, ks.length, c)] (rw1 w (a, ks.length, c)) (by simp) (.agg #[.slice a ks.length c, .slice none 0 0]) (labA ks lbU [] 32) (fun _ => sUpdate_any _ (hH.up n1) (.slice none 0 0) (h1.up n1))
  rw [oth1, show (if ks.length = 32 then labA ks lbU [] 32 else []) = nxA ks from rfl] at T
  have TH : Hid (Calls Tryz.prog 29 #[.func (.func 36) #[.agg #[.slice a ks.length c, .slice none 0 0]] #[], .slice (some ⟨w.heap.size, 0, none⟩) 1 1] (al1 w (.slice a ks.length c)) fun e w' => NewRow (al1 w (.slice a ks.length c)).heap.size w' e .u8 (nxA ks) ∧ Below (al1 w (.slice a ks.length c)).heap.size (al1 w (.slice a ks.length c)) w') := T
  have N1 := hide n1
  clear T h1 n1 hH
  unfold al1 at TH N1
  generalize nxA ks = ys at *
  generalize ks.length = m at *
  go_enter Tryz.func15, Tryz.ntmps15
  go_wp2_with fail
  refine TH.out.mono ?_
  rintro e w1 ⟨⟨a3, c3, g3, rfl, o3, p3, q3, r3⟩, n⟩
  have z1 := N1.out.size
  go_wp2
  go_ret
  exact ⟨⟨a3, c3, g3, rfl, o3, p3, q3, by omega⟩, nxt N1.out n⟩
set_option maxHeartbeats 1000000 in
theorem implMasterSecret_any (w : World) (hH : HasH w) {a : Option Addr} {c : Nat} {ks : List Int} (h1 : Lq w a c ks) :
    Calls Tryz.prog 12 #[.slice a ks.length c] w fun e w' => NewRow w.heap.size w' e .u8 (msA ks) ∧ Below w.heap.size w w' := by
  have NS := hide (noSecret_any w)
  have TA : ∀ w1 (n0 : Below w.heap.size w w1) a2 c2 (h2 : Lq w1 a2 c2 zer32), Hid (Calls Tryz.prog 29 #[.func (.func 30) #[.agg #[.slice a ks.length c, .slice a2 zer32.length c2]] #[], .slice (some ⟨w1.heap.size, 0, none⟩) 1 1] (w1.alloc (.cells #[.slice a ks.length c] 22)) fun e w' => NewRow w.heap.size w' e .u8 (msA ks) ∧ Below w.heap.size w w') := by
    intro w1 n0 a2 c2 h2
    show Calls _ _ _ _ _
    have n1 := al1_up w1 (.slice a ks.length c)
    have T := takeMix_any _ w1.heap.size [(a, ks.length, c)] (rw1 w1 (a, ks.length, c)) (by simp) (.agg #[.slice a ks.length c, .slice a2 zer32.length c2]) (macL (labA ks lbD hE 32) zer32) (fun _ => sMix_any _ (hH.up (nxt n0 n1)) (h1.up (nxt n0 n1)) (h2.up n1))
    rw [oth1, show (if ks.length = 32 then macL (labA ks lbD hE 32) zer32 else []) = msA ks from rfl] at T
    refine T.mono ?_
    rintro e w2 ⟨r, n2⟩
    have z0 := n0.size
    have z1 := n1.size
    exact ⟨r.low (Nat.le_trans z0 z1), nxt (nxt n0 n1) n2⟩
  clear h1 hH
  generalize msA ks = ys at *
  generalize ks.length = m at *
  rw [zer32_len] at TA
  have ZL := hide zer32_len
  go_enter Tryz.func12, Tryz.ntmps12
  go_wp2_with fail
  refine NS.out.mono ?_
  rintro e w1 ⟨⟨a3, c3, g3, rfl, o3, p3, q3, r3⟩, n⟩
  have T := TA w1 n a3 c3 (Lq.of o3 p3 q3 zer32_byt (by rw [zer32_len]; decide))
  rw [← ZL.out] at T
  clear TA o3 p3 q3 NS
  generalize zer32.length = m2 at *
  go_wp2_with fail
  refine T.out.mono ?_
  rintro e w2 ⟨⟨a4, c4, g4, rfl, o4, p4, q4, r4⟩, n4⟩
  go_wp2
  go_ret
  exact ⟨⟨a4, c4, g4, rfl, o4, p4, q4, r4⟩, n4⟩
set_option maxHeartbeats 1000000 in
theorem implEarlySecret_any (w : World) (hH : HasH w) {a : Option Addr} {c : Nat} {ks : List Int} (h1 : Lq w a c ks) :
    Calls Tryz.prog 10 #[.slice a ks.length c] w fun e w' => NewRow w.heap.size w' e .u8 (eaA ks) ∧ Below w.heap.size w w' := by
  have KK := hide (knownKey_any w h1)
  have NS := fun W => hide (noSecret_any W)
  have TA : ∀ w1 (n0 : Below w.heap.size w w1) a2 c2 (h2 : Lq w1 a2 c2 zer32) a1 c1 (h1 : Lq w1 a1 c1 (knL ks)), Hid (Calls Tryz.prog 29 #[.func (.func 33) #[.agg #[.slice a2 zer32.length c2, .slice a1 (knL ks).length c1]] #[], .slice (some ⟨w1.heap.size, 0, none⟩) 1 1] (w1.alloc (.cells #[.slice a1 (knL ks).length c1] 22)) fun e w' => NewRow w.heap.size w' e .u8 (eaA ks) ∧ Below w.heap.size w w') := by
    intro w1 n0 a2 c2 h2 a1 c1 h1
    show Calls _ _ _ _ _
    have n1 := al1_up w1 (.slice a1 (knL ks).length c1)
    have T := takeExtract_any _ w1.heap.size [(a1, (knL ks).length, c1)] (rw1 w1 (a1, (knL ks).length, c1)) (by simp) (.agg #[.slice a2 zer32.length c2, .slice a1 (knL ks).length c1]) (macL zer32 (knL ks)) (fun _ => sExtract_any _ (hH.up (nxt n0 n1)) (h2.up n1) (h1.up n1))
    rw [oth1, show (if (knL ks).length = 32 then macL zer32 (knL ks) else []) = eaA ks from rfl] at T
    refine T.mono ?_
    rintro e w2 ⟨r, n2⟩
    have z0 := n0.size
    have z1 := n1.size
    exact ⟨r.low (Nat.le_trans z0 z1), nxt (nxt n0 n1) n2⟩
  clear h1 hH
  generalize eaA ks = ys at *
  generalize ks.length = m at *
  generalize knL ks = kk at *
  go_enter Tryz.func10, Tryz.ntmps10
  go_wp2_with fail
  refine KK.out.mono ?_
  rintro e w1 ⟨⟨a1, c1, rfl, L1⟩, n1⟩
  have NS1 := NS w1
  have L1 := hide L1
  clear NS KK
  go_wp2_with fail
  refine NS1.out.mono ?_
  rintro e w2 ⟨⟨a3, c3, g3, rfl, o3, p3, q3, r3⟩, n⟩
  have T := TA w2 (nxt n1 n) a3 c3 (Lq.of o3 p3 q3 zer32_byt (by rw [zer32_len]; decide)) a1 c1 (L1.out.up n)
  clear TA o3 p3 q3 NS1 L1
  generalize zer32.length = m2 at *
  generalize kk.length = m3 at *
  go_wp2_with fail
  refine T.out.mono ?_
  rintro e w2 ⟨⟨a4, c4, g4, rfl, o4, p4, q4, r4⟩, n4⟩
  go_wp2
  go_ret
  exact ⟨⟨a4, c4, g4, rfl, o4, p4, q4, r4⟩, n4⟩
theorem eaA_len (p : List Int) : (eaA p).length ≤ 32 := by
  unfold eaA
  split
  · rw [macL_len]
    exact Nat.le_refl _
  · simp
theorem eaA_byt (p : List Int) : Byt (eaA p) := by
  unfold eaA
  split
  · exact macL_byt _ _
  · exact byt_nil
set_option maxHeartbeats 1000000 in
theorem implBinderMac_any (w : World) (hH : HasH w) {a a' : Option Addr} {c c' : Nat} {ks xs : List Int} (h1 : Lq w a c ks) (h2 : Lq w a' c' xs) :
    Calls Tryz.prog 17 #[.slice a ks.length c, .slice a' xs.length c'] w fun e w' => NewRow w.heap.size w' e .u8 (bmA ks xs) ∧ Below w.heap.size w w' := by
  have KK := hide (implEarlySecret_any w hH h1)
  have NS : ∀ W, Below w.heap.size w W → Hid (Calls Tryz.prog 19 #[.slice a' xs.length c'] W fun e w' => NewRow W.heap.size w' e .u8 (hashL32 xs) ∧ Below W.heap.size W w') := fun W n => by
    obtain ⟨⟨g, r⟩, b, p, q, l⟩ := h2.up n
    exact implHash_32 W g a' c' xs r b q (by omega) (hH.1.up n) (hH.2.up n)
  have TA : ∀ w1 (n0 : Below w.heap.size w w1) a2 c2 (h2 : Lq w1 a2 c2 (hashL32 xs)) a1 c1 (h1 : Lq w1 a1 c1 (eaA ks)), Hid (Calls Tryz.prog 29 #[.func (.func 41) #[.agg #[.slice a1 (eaA ks).length c1, .slice a2 (hashL32 xs).length c2]] #[], .slice (some ⟨w1.heap.size, 0, none⟩) 1 1] (w1.alloc (.cells #[.slice a1 (eaA ks).length c1] 22)) fun e w' => NewRow w.heap.size w' e .u8 (bmA ks xs) ∧ Below w.heap.size w w') := by
    intro w1 n0 a2 c2 h2 a1 c1 h1
    show Calls _ _ _ _ _
    have n1 := al1_up w1 (.slice a1 (eaA ks).length c1)
    have T := takeBind_any _ w1.heap.size [(a1, (eaA ks).length, c1)] (rw1 w1 (a1, (eaA ks).length, c1)) (by simp) (.agg #[.slice a1 (eaA ks).length c1, .slice a2 (hashL32 xs).length c2]) (macL (labA (labA (eaA ks) lbB hE 32) lbF [] 32) (hashL32 xs)) (fun _ => sBind_any _ (hH.up (nxt n0 n1)) (h1.up n1) (h2.up n1))
    rw [oth1, show (if (eaA ks).length = 32 then macL (labA (labA (eaA ks) lbB hE 32) lbF [] 32) (hashL32 xs) else []) = bmA ks xs from rfl] at T
    refine T.mono ?_
    rintro e w2 ⟨r, n2⟩
    have z0 := n0.size
    have z1 := n1.size
    exact ⟨r.low (Nat.le_trans z0 z1), nxt (nxt n0 n1) n2⟩
  clear h1 hH h2
  have EL := hide (eaA_len ks)
  have EB := hide (eaA_byt ks)
  have HL := hide (hash_len32 xs)
  have HB := hide (hash_byt32 xs)
  generalize bmA ks xs = ys at *
  generalize ks.length = m at *
  generalize eaA ks = kk at *
  generalize hashL32 xs = hh at *
  generalize xs.length = m1 at *
  go_enter Tryz.func17, Tryz.ntmps17
  go_wp2_with fail
  refine KK.out.mono ?_
  rintro e w1 ⟨⟨a1, c1, g1, rfl, o1, p1, q1, r1⟩, n1⟩
  have NS1 := NS w1 n1
  have L1 := hide (Lq.of o1 p1 q1 EB.out (by have := EL.out; omega))
  clear NS KK o1 p1 q1
  go_wp2_with fail
  refine NS1.out.mono ?_
  rintro e w2 ⟨⟨a3, c3, g3, rfl, o3, p3, q3, r3⟩, n⟩
  have T := TA w2 (nxt n1 n) a3 c3 (Lq.of o3 p3 q3 HB.out (by have := HL.out; omega)) a1 c1 (L1.out.up n)
  clear TA o3 p3 q3 NS1 L1 HL HB EL EB
  generalize hh.length = m2 at *
  generalize kk.length = m3 at *
  go_wp2_with fail
  refine T.out.mono ?_
  rintro e w2 ⟨⟨a4, c4, g4, rfl, o4, p4, q4, r4⟩, n4⟩
  go_wp2
  go_ret
  exact ⟨⟨a4, c4, g4, rfl, o4, p4, q4, r4⟩, n4⟩
end Go.Proofs.YteedfhljbdnmnaaGreatDoor
namespace Go.Proofs.YteedfhljbdnmnaaGreatDoor
set_option maxRecDepth 100000
open Go Go.RowKit
end Go.Proofs.YteedfhljbdnmnaaGreatDoor
namespace Go.Proofs.YteedfhljbdnmnaaGreatDoor
set_option maxRecDepth 100000
open Go Go.RowKit
section
variable {P : Program} {ops : Array Oper} {Q : Exit → Act → World → Prop} {md : Region.Mode} {F : Nat → Fact} {a0 : Act} {w0 : World} {R : Nat → Nat → Value → Value → Prop}
def StepR (P : Program) (md : Region.Mode) (ops : Array Oper) (Q : Exit → Act → World → Prop) (F : Nat → Fact) (R : Nat → Nat → Value → Value → Prop) (a0 : Act) (w0 : World) (i : Nat) : Prop :=
  ∀ o, ops[i]? = some o → ∀ a w, Based ops a0 a → Below w0.heap.size w0 w → (∀ j d, waits md ops i j d = true → (F j).p (a.tmps.getD d undef) w) → (∀ j l d d', waits md ops i j d = true → waits md ops j l d' = true → R j l (a.tmps.getD d' undef) (a.tmps.getD d undef)) →
    ∀ K : Act → World → Prop, (∀ v w', Below w.heap.size w w' → (F i).p v w' → (∀ j d, waits md ops i j d = true → R i j (a.tmps.getD d undef) v) → K (a.put o.dst v) w') → o.wp P a w K Q
theorem StepR.of {i : Nat} (h : StepOk P md ops Q F a0 w0 i) (hi : ∀ j x y, R i j x y) : StepR P md ops Q F R a0 w0 i := fun o ho a w hb hw hf _ K hK => h o ho a w hb hw hf K fun v w' hn hv => hK v w' hn hv fun j _ _ => hi j _ _
def PairR (md : Region.Mode) (ops : Array Oper) (R : Nat → Nat → Value → Value → Prop) (listed : Array Bool) (a : Act) : Prop := ∀ i j d d', listed.getD i false = true → waits md ops i j d = true → writes ops i d' = true → R i j (a.tmps.getD d undef) (a.tmps.getD d' undef)
theorem PairR.next {n k : Nat} (T : Text md ops n k) (hn : n ≤ a0.tmps.size) {listed : Array Bool} {a : Act} {w : World} (H : Held md ops F a0 w0 listed a w) (X : PairR md ops R listed a) {i : Nat} {o : Oper} (ho : ops[i]? = some o) (hr : i ∈ Region.ready md ops listed)
    {v : Value} (hR : ∀ j d, waits md ops i j d = true → R i j (a.tmps.getD d undef) v) : PairR md ops R (listed.setIfInBounds i true) (a.put o.dst v) := by
  intro i0 j0 d0 d1 hl hJ0 hD
  have hJ := hJ0
  unfold waits at hJ
  unfold writes at hD
  cases h0 : ops[i0]? with
  | none => rw [h0] at hD; simp at hD
  | some o0 =>
    cases hj : ops[j0]? with
    | none => rw [h0, hj] at hJ; simp at hJ
    | some oj =>
      rw [h0] at hD
      rw [h0, hj] at hJ
      simp only [Bool.and_eq_true, beq_iff_eq] at hJ hD
      obtain ⟨e, he, hb⟩ := Array.any_eq_true'.1 hJ.1
      simp only [Bool.and_eq_true, beq_iff_eq] at hb
      have hlt := T.a i0 o0 h0 e he hb.1
      rw [hb.2] at hlt
      by_cases c : i = i0
      · subst c
        obtain rfl := Option.some.inj (ho.symm.trans h0)
        rw [hD, put_at (Nat.lt_of_lt_of_le (T.d i o d1 ho hD) (by rw [H.b.2.1]; exact hn)), put_off (fun x => T.x i j0 o oj d1 ho hj (by omega) hD (by rw [hJ.2]; exact x.symm))]
        exact hR j0 d0 hJ0
      · rw [getD_off c] at hl
        have hjl := H.c i0 o0 h0 hl e he hb.1
        rw [hb.2] at hjl
        obtain ⟨g0, _⟩ := mem_ready.1 hr
        have hlt2 := (Array.getElem?_eq_some_iff.1 ho).1
        have cj : i ≠ j0 := fun x => by
          subst x
          rw [dflt (by rw [H.s]; exact hlt2), hjl] at g0
          simp at g0
        rw [put_off (fun x => T.x j0 i oj o d0 hj ho (Ne.symm cj) hJ.2 x), put_off (fun x => T.x i0 i o0 o d1 h0 ho (Ne.symm c) hD x)]
        exact X i0 j0 d0 d1 hl hJ0 (by unfold writes; rw [h0]; simpa using hD)
theorem any_factsR {n k : Nat} (T : Text md ops n k) (hn : n ≤ a0.tmps.size) (steps : ∀ i, i < k → StepR P md ops Q F R a0 w0 i)
    (fin : ∀ a w, Based ops a0 a → Below w0.heap.size w0 w → (∀ i o d, i < k → ops[i]? = some o → o.dst = some d → (F i).p (a.tmps.getD d undef) w) → (∀ i j d d', i < k → waits md ops i j d = true → writes ops i d' = true → R i j (a.tmps.getD d undef) (a.tmps.getD d' undef)) →
      match ops[k]? with
      | none => Q .normal a w
      | some o => o.wp P a w (fun a' w' => Q .normal a' w') Q) :
    ∀ (fuel : Nat) (listed : Array Bool) (a : Act) (w : World), left listed ops.size ≤ fuel → Held md ops F a0 w0 listed a w → PairR md ops R listed a → listed.getD k false = false → wpAny P md ops Q fuel listed a w := by
  intro fuel
  induction fuel with
  | zero =>
    intro listed a w hl H X hk
    have hall : ∀ i, i < ops.size → listed.getD i false = true := fun i hi => by
      rw [← dflt (by rw [H.s]; exact hi)]
      exact left_zero (n := ops.size) (by omega) i hi
    have hke : ops[k]? = none := by
      rcases Nat.lt_or_ge k ops.size with h | h
      · rw [hall k h] at hk; simp at hk
      · simp [h]
    have q := fin a w H.b H.n (fun i o d _ ho hd => H.f i o d ho (hall i (Array.getElem?_eq_some_iff.1 ho).1) hd) (fun i j d d' hi => X i j d d' (hall i (by have := T.k1; omega)))
    rw [hke] at q
    refine ⟨?_, q⟩
    cases hr : Region.ready md ops listed with
    | nil => rfl
    | cons i t =>
      have hi : i ∈ Region.ready md ops listed := by rw [hr]; simp
      obtain ⟨h0, o, ho, _⟩ := mem_ready.1 hi
      have hlt := (Array.getElem?_eq_some_iff.1 ho).1
      rw [dflt (by rw [H.s]; exact hlt), hall i hlt] at h0
      simp at h0
  | succ fuel ih =>
    intro listed a w hl H X hk
    refine ⟨fun hr => ?_, fun i hi => ?_⟩
    · have hall : ∀ i, i < ops.size → listed.getD i false = true := fun i hi => all_listed T H.s hr (i + 1) i (by omega) hi
      have hke : ops[k]? = none := by
        rcases Nat.lt_or_ge k ops.size with h | h
        · rw [hall k h] at hk; simp at hk
        · simp [h]
      have q := fin a w H.b H.n (fun i o d _ ho hd => H.f i o d ho (hall i (Array.getElem?_eq_some_iff.1 ho).1) hd) (fun i j d d' hi => X i j d d' (hall i (by have := T.k1; omega)))
      rw [hke] at q
      exact q
    · obtain ⟨h0, o, ho, hall⟩ := mem_ready.1 hi
      have hlt := (Array.getElem?_eq_some_iff.1 ho).1
      have hwant : Region.wanted o (yielded ops a.tmps) = true := by simp [Region.wanted, T.g i o ho]
      refine wpOp_step ho fun K' hK => ?_
      rw [if_pos hwant]
      have hll := left_set (by rw [H.s]; exact hlt) h0 ops.size hlt
      rcases Nat.lt_or_ge i k with h1 | h1
      · refine steps i h1 o ho a w H.b H.n ?_ ?_ K' ?_
        · intro j d hjd
          unfold waits at hjd
          rw [ho] at hjd
          cases hoj : ops[j]? with
          | none => rw [hoj] at hjd; simp at hjd
          | some oj =>
            rw [hoj] at hjd
            simp only [Bool.and_eq_true, beq_iff_eq] at hjd
            obtain ⟨e, he, hb⟩ := Array.any_eq_true'.1 hjd.1
            simp only [Bool.and_eq_true, beq_iff_eq] at hb
            exact H.f j oj d hoj (by rw [← hb.2]; exact hall e he hb.1) hjd.2
        · intro j l d d' hjd hjl
          have hjd0 := hjd
          unfold waits at hjd
          rw [ho] at hjd
          cases hoj : ops[j]? with
          | none => rw [hoj] at hjd; simp at hjd
          | some oj =>
            rw [hoj] at hjd
            simp only [Bool.and_eq_true, beq_iff_eq] at hjd
            obtain ⟨e, he, hb⟩ := Array.any_eq_true'.1 hjd.1
            simp only [Bool.and_eq_true, beq_iff_eq] at hb
            exact X j l d' d (by rw [← hb.2]; exact hall e he hb.1) hjl (by unfold writes; rw [hoj]; simpa using hjd.2)
        · intro v w' hw hf hR
          refine hK _ _ (ih _ _ _ (by omega) (H.next T hn ho hi hw hf) (X.next T hn H ho hi hR) ?_)
          rw [getD_off (by omega)]
          exact hk
      · obtain rfl : i = k := by have := T.k2; omega
        have hahead := all_ahead T hlt H hi
        have q := fin a w H.b H.n (fun j oj d hj hoj hd => H.f j oj d hoj (hahead (i - j) j (Nat.le_refl _) hj) hd) (fun p j d d' hp => X p j d d' (hahead (i - p) p (Nat.le_refl _) hp))
        rw [ho] at q
        refine Oper.wp_mono (fun a' w' h => hK _ _ (wpAny_done ?_ h fuel)) q
        cases hr : Region.ready md ops (listed.setIfInBounds i true) with
        | nil => rfl
        | cons j t =>
          exfalso
          have hj : j ∈ Region.ready md ops (listed.setIfInBounds i true) := by rw [hr]; simp
          obtain ⟨g0, oj, hoj, _⟩ := mem_ready.1 hj
          have hjl := (Array.getElem?_eq_some_iff.1 hoj).1
          by_cases e : i = j
          · subst e
            rw [getD_same (by rw [H.s]; exact hlt)] at g0
            simp at g0
          · rw [getD_off e, dflt (by rw [H.s]; exact hjl), hahead (i - j) j (Nat.le_refl _) (by have := T.k2; omega)] at g0
            simp at g0
theorem region_storeR {id : Nat} {w : World} (R : Nat → Nat → Value → Value → Prop) (k : Nat) (o : Oper) (F : Nat → Fact) (hm : P.follows .mixedOrders = true) (hT : textOk .any ops a0.tmps.size k = true) (hk : ops[k]? = some o) (hd : o.dst = none) (steps : ∀ i, i < k → StepR P .any ops Q F R a0 w i)
    (fin : ∀ a w', Based ops a0 a → Below w.heap.size w w' → Full ops F a w' → (∀ i j d d', i < k → waits .any ops i j d = true → writes ops i d' = true → R i j (a.tmps.getD d undef) (a.tmps.getD d' undef)) → o.wp P a w' (fun a' w'' => Q .normal a' w'') Q) : (Code.region id ops true).wp P Q a0 w := by
  have T := text_of hT
  refine wp_region_any hm ?_
  refine any_factsR (w0 := w) T (Nat.le_refl _) steps ?_ ops.size _ a0 _ ?_ ⟨⟨rfl, rfl, fun _ _ => rfl⟩, (Below.refl _ _).drew, ?_, ?_, by simp⟩ ?_ ?_
  · intro a w' hb hw hf hR
    rw [hk]
    refine fin a w' hb hw (fun i d hi => ?_) hR
    unfold writes at hi
    cases ho : ops[i]? with
    | none => rw [ho] at hi; simp at hi
    | some oi =>
      rw [ho] at hi
      have hi' : oi.dst = some d := by simpa using hi
      refine hf i oi d ?_ ho hi'
      have h1 := (Array.getElem?_eq_some_iff.1 ho).1
      have h2 := T.k2
      rcases Nat.lt_or_ge i k with h | h
      · exact h
      · obtain rfl : i = k := by omega
        obtain rfl := Option.some.inj (hk.symm.trans ho)
        rw [hd] at hi'
        simp at hi'
  · have : ∀ m, left (Array.replicate ops.size false) m ≤ m := by
      intro m
      induction m with
      | zero => exact Nat.le_refl _
      | succ m ih => unfold left; split <;> omega
    exact this _
  · intro i o d ho hl _
    rw [Array.getD_eq_getD_getElem?, Array.getElem?_replicate] at hl
    split at hl <;> simp at hl
  · intro i o ho hl
    rw [Array.getD_eq_getD_getElem?, Array.getElem?_replicate] at hl
    split at hl <;> simp at hl
  · intro i j d d' hl
    rw [Array.getD_eq_getD_getElem?, Array.getElem?_replicate] at hl
    split at hl <;> simp at hl
  · rw [Array.getD_eq_getD_getElem?, Array.getElem?_replicate]
    split <;> rfl
end
end Go.Proofs.YteedfhljbdnmnaaGreatDoor
namespace Go.Proofs.YteedfhljbdnmnaaGreatDoor
set_option maxRecDepth 100000
open Go Go.RowKit
def tkK (ks : List Int) : List Int := if ks.length = 32 then labA ks lbK [] 32 else []
def tkI (ks : List Int) : List Int := if ks.length = 32 then labA ks lbI [] 12 else []
def KY (w : World) (v : Value) (B : Nat) (ks is : List Int) : Prop :=
  ∃ (a a' : Option Addr) (c c' g g' : Nat), v = .agg #[.slice a ks.length c, .slice a' is.length c'] ∧ Own w g a .u8 ks ∧ Own w g' a' .u8 is ∧ (a = none → c = 0) ∧ (a' = none → c' = 0) ∧ ks.length ≤ c ∧ is.length ≤ c' ∧ B ≤ g ∧ B ≤ g' ∧ (0 < ks.length → 0 < is.length → g < g')
theorem KY.up {w w' : World} {v : Value} {B : Nat} {ks is : List Int} (h : KY w v B ks is) (n : Below w.heap.size w w') : KY w' v B ks is := by
  obtain ⟨a, a', c, c', g, g', e, o, o', q⟩ := h
  exact ⟨a, a', c, c', g, g', e, o.up n, o'.up n, q⟩
def BS1 (x : Value) : Fact := ⟨fun v w => ∃ b, v = .slice (some ⟨b, 0, none⟩) 1 1 ∧ w.cell? ⟨b, 0, none⟩ = some x, fun n h => by
  obtain ⟨b, e, c⟩ := h
  exact ⟨b, e, (World.cell?_of_block (a := ⟨b, 0, none⟩) (n.block b (block_lt_of_cell c))).trans c⟩⟩
def dj (x y : Value) : Prop := ∀ p m c p' m' c', x = .slice (some p) m c → y = .slice (some p') m' c' → 0 < m → 0 < m' → p.block < p'.block
def RK (i j : Nat) (x y : Value) : Prop := (i = 9 → j = 4 → dj x y) ∧ (i = 10 → (j = 4 → ∃ z, y = .agg #[x, z]) ∧ (j = 9 → ∃ z, y = .agg #[z, x]))
theorem waits_writes {md : Region.Mode} {ops : Array Oper} {i j d : Nat} (h : waits md ops i j d = true) : writes ops j d = true := by
  unfold waits at h
  unfold writes
  cases hi : ops[i]? with
  | none => rw [hi] at h; simp at h
  | some o =>
    cases hj : ops[j]? with
    | none => rw [hi, hj] at h; simp at h
    | some oj =>
      rw [hi, hj] at h
      simp only [Bool.and_eq_true] at h
      exact h.2
theorem writes_one {ops : Array Oper} {j d d' : Nat} (h : writes ops j d = true) (h' : writes ops j d' = true) : d = d' := by
  unfold writes at h h'
  cases hj : ops[j]? with
  | none => rw [hj] at h; simp at h
  | some oj =>
    rw [hj] at h h'
    simp only [beq_iff_eq] at h h'
    exact Option.some.inj (h.symm.trans h')
section
variable {P : Program} {ops : Array Oper} {Q : Exit → Act → World → Prop} {md : Region.Mode} {F : Nat → Fact} {a0 : Act} {w0 : World} {R : Nat → Nat → Value → Value → Prop}
theorem step_callR {i : Nat} {o : Oper} (hi : ops[i]? = some o) (n : FuncId) (args : Array Operand) (ts : Array TypeId) (hop : o.op = .call { callee := .value (.func n), args := args, argTypes := ts }) (he : enters P n = true)
    (G : ∀ a w, Based ops a0 a → Below w0.heap.size w0 w → Facts md ops F i a w → Calls P n (args.toList.map a.eval).toArray w fun e w' => ∃ v, e = .returned v ∧ Below w.heap.size w w' ∧ (F i).p v w' ∧ ∀ j d, waits md ops i j d = true → R i j (a.tmps.getD d undef) v) : StepR P md ops Q F R a0 w0 i := by
  intro o' ho' a w hb hw hf _ K hK
  obtain rfl := Option.some.inj (hi.symm.trans ho')
  have hr : (execOp a.eval o).run P w = .ok (.enter n (args.map a.eval)) w := by
    have h0 : (Deferred.ofValue (Value.func (Fn.func n) #[] #[]) (args.map a.eval)).run P w = .ok { target := .fn (.func n) #[], args := args.map a.eval } w := by simp [Deferred.ofValue]
    simp [execOp, hop, resolve, invoke, Act.eval, h0, run_enter he]
  have e : args.map a.eval = (args.toList.map a.eval).toArray := by cases args; simp
  unfold Oper.wp
  rw [hr, e, Oper.upon_enter]
  refine (G a w hb hw hf).mono ?_
  rintro e w' ⟨v, rfl, hn, hv, hR⟩
  exact hK v w' hn hv hR
theorem step_pureR {i : Nat} {o : Oper} (hi : ops[i]? = some o)
    (G : ∀ a w, Based ops a0 a → Below w0.heap.size w0 w → Facts md ops F i a w → ∃ v, (execOp a.eval o).run P w = .ok (.value v) w ∧ (F i).p v w ∧ ∀ j d, waits md ops i j d = true → R i j (a.tmps.getD d undef) v) : StepR P md ops Q F R a0 w0 i := by
  intro o' ho' a w hb hw hf _ K hK
  obtain rfl := Option.some.inj (hi.symm.trans ho')
  obtain ⟨v, hr, hv, hR⟩ := G a w hb hw hf
  unfold Oper.wp
  rw [hr]
  exact hK v w (Below.refl _ _) hv hR
end
theorem iKy : (Tryz.prog.info? 34).map (·.size) = some 2 := by kernel_rfl
theorem rowKy : ∃ d, Tryz.prog.underlying 34 = some d ∧ d.isRow = true := ⟨_, Tryz.underlying34, rfl⟩
theorem buKy (w : World) (a a' : Option Addr) (n n' c c' : Nat) : (Instr.build 34 #[(0, .slice a n c), (1, .slice a' n' c')]).run Tryz.prog w = .ok (.agg #[.slice a n c, .slice a' n' c']) w := by kernel_rfl
theorem bs_run (w : World) (a : Option Addr) (n c : Nat) : (Instr.buildSlice 23 1 #[(0, .slice a n c)]).run Tryz.prog w = .ok (.slice (some ⟨w.heap.size, 0, none⟩) 1 1) (al1 w (.slice a n c)) := by
  kernel_rfl
theorem takes1 {W : World} {b : Nat} {a : Option Addr} {n c : Nat} (h : W.cell? ⟨b, 0, none⟩ = some (.slice a n c)) : RwV W b [(a, n, c)] := fun i hi => by
  obtain rfl : i = 0 := by simp at hi; omega
  exact h
theorem rk_free {i : Nat} (h9 : i ≠ 9) (h10 : i ≠ 10) : ∀ j x y, RK i j x y := fun _ _ _ => ⟨fun h => absurd h h9, fun h => absurd h h10⟩
end Go.Proofs.YteedfhljbdnmnaaGreatDoor
namespace Go.Proofs.YteedfhljbdnmnaaGreatDoor
set_option maxRecDepth 100000
open Go Go.RowKit
theorem ex_build {a : Act} {w : World} {o : Oper} {a1 a2 : Option Addr} {n1 n2 c1 c2 : Nat} (p q : Nat) (hop : o.op = .build 34 #[(0, .tmp p), (1, .tmp q)]) (hp : a.tmps.getD p undef = .slice a1 n1 c1) (hq : a.tmps.getD q undef = .slice a2 n2 c2) : (execOp a.eval o).run Tryz.prog w = .ok (.value (.agg #[.slice a1 n1 c1, .slice a2 n2 c2])) w := by
  have x1 : a.eval (.tmp p) = .slice a1 n1 c1 := hp
  have x2 : a.eval (.tmp q) = .slice a2 n2 c2 := hq
  have gg : (#[(0, Operand.tmp p), (1, Operand.tmp q)].map fun (n, x) => (n, a.eval x)) = #[(0, Value.slice a1 n1 c1), (1, .slice a2 n2 c2)] := by simp [x1, x2]
  simp only [execOp, hop, gg]
  rw [Sem.run_bind, buKy]
  rfl
theorem step_bs1 {ops : Array Oper} {Q : Exit → Act → World → Prop} {md : Region.Mode} {F : Nat → Fact} {a0 : Act} {w0 : World} {i : Nat} {o : Oper} {a1 : Option Addr} {n1 c1 : Nat} (hi : ops[i]? = some o) (p j : Nat) (hop : o.op = .buildSlice 23 1 #[(0, .tmp p)]) (hj : waits md ops i j p = true) (hFj : F j = Fact.eq (.slice a1 n1 c1)) (hFi : F i = BS1 (.slice a1 n1 c1)) : StepOk Tryz.prog md ops Q F a0 w0 i := by
  refine step_grow hi fun a w _ _ hf => ?_
  have h1 := hf j p hj
  rw [hFj] at h1
  have x1 : a.eval (.tmp p) = .slice a1 n1 c1 := h1
  have gg : (#[(0, Operand.tmp p)].map fun (n, x) => (n, a.eval x)) = #[(0, Value.slice a1 n1 c1)] := by simp [x1]
  refine ⟨.slice (some ⟨w.heap.size, 0, none⟩) 1 1, al1 w (.slice a1 n1 c1), ?_, al1_up _ _, ?_⟩
  · simp only [execOp, hop, gg]
    rw [Sem.run_bind, bs_run]
    rfl
  · rw [hFi]
    have := rw1 w (a1, n1, c1) 0 (by simp)
    exact ⟨w.heap.size, rfl, this⟩
set_option maxHeartbeats 4000000 in
theorem implTrafficKeys_any (w : World) (hH : HasH w) {a : Option Addr} {c : Nat} {ks : List Int} (h1 : Lq w a c ks) :
    Calls Tryz.prog 14 #[.slice a ks.length c] w fun e w' => (∃ v, e = .returned v ∧ KY w' v w.heap.size (tkK ks) (tkI ks)) ∧ Below w.heap.size w w' := by
  obtain ⟨d3, hd3, hrow3⟩ := rowKy
  obtain ⟨d2, hd2, hrow2⟩ := rowSc
  have n0 : Below w.heap.size w (w.alloc (.cells #[.slice none 0 0, .slice none 0 0] 34)) := (Below.refl _ _).alloc (Nat.le_refl _) _
  have T0 : (w.alloc (.cells #[.slice none 0 0, .slice none 0 0] 34)).there w.heap.size 0 2 := there2 (x := .slice none 0 0) (y := .slice none 0 0) (t := 34) (by show (w.heap.push _)[w.heap.size]? = _; simp)
  have z0 : (w.alloc (.cells #[.slice none 0 0, .slice none 0 0] 34)).heap.size = w.heap.size + 1 := by simp
  go_enter Tryz.func14, Tryz.ntmps14
  go_upto_region 1 with fail
  generalize w.alloc (.cells #[.slice none 0 0, .slice none 0 0] 34) = wa at *
  have n1 := bx_up wa (.slice a ks.length c) (.slice none 0 0)
  have z1 := bx_lt wa (.slice a ks.length c) (.slice none 0 0)
  have R1 := bx_range wa (.slice a ks.length c) (.slice none 0 0)
  unfold bx at n1 z1 R1
  go_upto_region 2 with fail
  have zz : (wa.alloc (.cells #[.slice a ks.length c, .slice none 0 0] 52)).heap.size = w.heap.size + 2 := by simp [z0]
  have TH := there_upn (by omega) T0 n1
  have N1 := nxt n0 n1
  have HH1 := hH.up N1
  have L1 := h1.up N1
  rw [z0] at R1
  generalize wa.alloc (.cells #[.slice a ks.length c, .slice none 0 0] 52) = wb at *
  clear n0 n1 T0 z0 z1 hH h1
  have zb : w.heap.size + 1 < wb.heap.size := by omega
  have FS : ∀ i, i ≠ 9 → i ≠ 10 → ∀ j x y, RK i j x y := fun i h9 h10 => rk_free h9 h10
  refine region_storeR RK 11 _ (fun i => [Fact.eq (.agg #[.slice a ks.length c, .slice none 0 0]), Fact.eq (.func (.func 34) #[.agg #[.slice a ks.length c, .slice none 0 0]] #[]), Fact.eq (.slice a ks.length c), BS1 (.slice a ks.length c), RNh wb.heap.size (tkK ks), Fact.eq (.agg #[.slice a ks.length c, .slice none 0 0]), Fact.eq (.func (.func 35) #[.agg #[.slice a ks.length c, .slice none 0 0]] #[]), Fact.eq (.slice a ks.length c), BS1 (.slice a ks.length c), RNh wb.heap.size (tkI ks), Fact.no].getD i Fact.no) (by kernel_rfl) (by kernel_rfl) rfl rfl ?_ ?_
  · intro i hi
    obtain rfl | rfl | rfl | rfl | rfl | rfl | rfl | rfl | rfl | rfl | rfl : i = 0 ∨ i = 1 ∨ i = 2 ∨ i = 3 ∨ i = 4 ∨ i = 5 ∨ i = 6 ∨ i = 7 ∨ i = 8 ∨ i = 9 ∨ i = 10 := by omega
    · refine StepR.of ?_ (FS _ (by decide) (by decide))
      refine step_load rfl 52 (.tmp 3) rfl d2 2 hd2 hrow2 iSc fun A ww hb hw hf => ⟨_, 0, [.slice a ks.length c, .slice none 0 0], hb.2.2 3 (by kernel_rfl), range_up R1 zb hw, rfl, rfl⟩
    · refine StepR.of ?_ (FS _ (by decide) (by decide))
      refine step_pure rfl fun A ww hb hw hf => ?_
      have e6 : A.tmps[6]?.getD undef = .agg #[.slice a ks.length c, .slice none 0 0] := gdv (hf 0 6 (by kernel_rfl))
      exact ⟨.func (.func 34) #[.agg #[.slice a ks.length c, .slice none 0 0]] #[], by simp [go_sem, e6], rfl⟩
    · refine StepR.of ?_ (FS _ (by decide) (by decide))
      refine step_pure rfl fun A ww hb hw hf => ?_
      have e1 : A.tmps[0]?.getD undef = .slice a ks.length c := gdv (hb.2.2 0 (by kernel_rfl))
      exact ⟨.slice a ks.length c, by simp [go_sem, e1], rfl⟩
    · refine StepR.of ?_ (FS _ (by decide) (by decide))
      exact step_bs1 rfl 8 2 rfl (by kernel_rfl) rfl rfl
    · refine StepR.of ?_ (FS _ (by decide) (by decide))
      refine step_callv rfl 29 _ _ rfl (by kernel_rfl) fun A ww hb hw hf => ?_
      have e7 : A.tmps.getD 7 undef = .func (.func 34) #[.agg #[.slice a ks.length c, .slice none 0 0]] #[] := hf 1 7 (by kernel_rfl)
      obtain ⟨bb, e9, hcell⟩ := hf 3 9 (by kernel_rfl)
      show Calls Tryz.prog 29 #[A.tmps.getD 7 undef, A.tmps.getD 9 undef] ww _
      rw [e7, e9]
      have D := takeKey_any ww bb [(a, ks.length, c)] (takes1 hcell) (by simp) (.agg #[.slice a ks.length c, .slice none 0 0]) (labA ks lbK [] 32) (fun _ => sKey_any ww (HH1.up hw) (.slice none 0 0) (L1.up hw))
      rw [oth1, show (if ks.length = 32 then labA ks lbK [] 32 else []) = tkK ks from rfl] at D
      exact D.mono (by rintro r w' ⟨⟨a1, c1, g1, rfl, o1, p1, q1, r1⟩, n⟩; exact ⟨_, rfl, n, a1, c1, g1, rfl, o1, p1, q1, Nat.le_trans hw.size r1⟩)
    · refine StepR.of ?_ (FS _ (by decide) (by decide))
      refine step_load rfl 52 (.tmp 3) rfl d2 2 hd2 hrow2 iSc fun A ww hb hw hf => ⟨_, 0, [.slice a ks.length c, .slice none 0 0], hb.2.2 3 (by kernel_rfl), range_up R1 zb hw, rfl, rfl⟩
    · refine StepR.of ?_ (FS _ (by decide) (by decide))
      refine step_pure rfl fun A ww hb hw hf => ?_
      have e6 : A.tmps[11]?.getD undef = .agg #[.slice a ks.length c, .slice none 0 0] := gdv (hf 5 11 (by kernel_rfl))
      exact ⟨.func (.func 35) #[.agg #[.slice a ks.length c, .slice none 0 0]] #[], by simp [go_sem, e6], rfl⟩
    · refine StepR.of ?_ (FS _ (by decide) (by decide))
      refine step_pure rfl fun A ww hb hw hf => ?_
      have e1 : A.tmps[0]?.getD undef = .slice a ks.length c := gdv (hb.2.2 0 (by kernel_rfl))
      exact ⟨.slice a ks.length c, by simp [go_sem, e1], rfl⟩
    · refine StepR.of ?_ (FS _ (by decide) (by decide))
      exact step_bs1 rfl 13 7 rfl (by kernel_rfl) rfl rfl
    · refine step_callR rfl 29 _ _ rfl (by kernel_rfl) fun A ww hb hw hf => ?_
      obtain ⟨a4, c4, g4, e10, o4, p4, q4, r4⟩ := hf 4 10 (by kernel_rfl)
      have e7 : A.tmps.getD 12 undef = .func (.func 35) #[.agg #[.slice a ks.length c, .slice none 0 0]] #[] := hf 6 12 (by kernel_rfl)
      obtain ⟨bb, e9, hcell⟩ := hf 8 14 (by kernel_rfl)
      show Calls Tryz.prog 29 #[A.tmps.getD 12 undef, A.tmps.getD 14 undef] ww _
      rw [e7, e9]
      have D := takeIv_any ww bb [(a, ks.length, c)] (takes1 hcell) (by simp) (.agg #[.slice a ks.length c, .slice none 0 0]) (labA ks lbI [] 12) (fun _ => sIv_any ww (HH1.up hw) (.slice none 0 0) (L1.up hw))
      rw [oth1, show (if ks.length = 32 then labA ks lbI [] 12 else []) = tkI ks from rfl] at D
      refine D.mono ?_
      rintro r w' ⟨⟨a1, c1, g1, rfl, o1, p1, q1, r1⟩, n⟩
      refine ⟨_, rfl, n, ⟨a1, c1, g1, rfl, o1, p1, q1, Nat.le_trans hw.size r1⟩, fun j d hjd => ⟨fun _ hj => ?_, fun h => absurd h (by decide)⟩⟩
      subst hj
      obtain rfl : d = 10 := writes_one (waits_writes hjd) (by kernel_rfl)
      rw [e10]
      intro p m cc p' m' cc' hx hy hm hm'
      simp only [Value.slice.injEq] at hx hy
      obtain ⟨hx1, hx2, -⟩ := hx
      obtain ⟨hy1, hy2, -⟩ := hy
      obtain ⟨off, ha, -⟩ := o4 (by omega)
      obtain ⟨off', ha', -⟩ := o1 (by omega)
      have hl := o4.rd.lt (by omega)
      rw [ha] at hx1
      rw [ha'] at hy1
      obtain rfl := Option.some.inj hx1
      obtain rfl := Option.some.inj hy1
      show g4 < g1
      omega
    · refine step_pureR rfl fun A ww hb hw hf => ?_
      obtain ⟨a1, c1, g1, e10, o1, p1, q1, r1⟩ := hf 4 10 (by kernel_rfl)
      obtain ⟨a2, c2, g2, e15, o2, p2, q2, r2⟩ := hf 9 15 (by kernel_rfl)
      refine ⟨.agg #[.slice a1 (tkK ks).length c1, .slice a2 (tkI ks).length c2], ex_build 10 15 rfl e10 e15, trivial, fun j d hjd => ⟨fun h => absurd h (by decide), fun _ => ⟨fun hj => ?_, fun hj => ?_⟩⟩⟩
      · subst hj
        obtain rfl : d = 10 := writes_one (waits_writes hjd) (by kernel_rfl)
        exact ⟨_, by rw [e10]⟩
      · subst hj
        obtain rfl : d = 15 := writes_one (waits_writes hjd) (by kernel_rfl)
        exact ⟨_, by rw [e15]⟩
  intro A W hb hw hF hR
  obtain ⟨a1, c1, g1, e10, o1, p1, q1, r1⟩ := hF 4 10 (by kernel_rfl)
  obtain ⟨a2, c2, g2, e15, o2, p2, q2, r2⟩ := hF 9 15 (by kernel_rfl)
  obtain ⟨zA, x1⟩ := ((hR 10 4 10 16 (by decide) (by kernel_rfl) (by kernel_rfl)).2 rfl).1 rfl
  obtain ⟨zB, x2⟩ := ((hR 10 9 15 16 (by decide) (by kernel_rfl) (by kernel_rfl)).2 rfl).2 rfl
  have dd := (hR 9 4 10 15 (by decide) (by kernel_rfl) (by kernel_rfl)).1 rfl rfl
  rw [e10] at x1 dd
  rw [e15] at x2 dd
  have x3 : A.tmps.getD 16 undef = .agg #[.slice a1 (tkK ks).length c1, .slice a2 (tkI ks).length c2] := by
    rw [x1] at x2
    simp only [Value.agg.injEq] at x2
    have h2 : [Value.slice a1 (tkK ks).length c1, zA] = [zB, Value.slice a2 (tkI ks).length c2] := congrArg Array.toList x2
    simp only [List.cons.injEq, and_true] at h2
    rw [x1, h2.2]
  have HD : 0 < (tkK ks).length → 0 < (tkI ks).length → g1 < g2 := fun h h' => by
    obtain ⟨off, ha, -⟩ := o1 h
    obtain ⟨off', ha', -⟩ := o2 h'
    exact dd ⟨g1, off, none⟩ _ _ ⟨g2, off', none⟩ _ _ (by rw [ha]) (by rw [ha']) h h'
  have th := there_upn (by omega) TH hw
  have ep : A.tmps.getD 2 undef = .pointer (some ⟨w.heap.size, 0, none⟩) := hb.2.2 2 (by kernel_rfl)
  refine wp_store_mid 34 (.tmp 2) (.tmp 16) rfl w.heap.size 0 #[.slice a1 (tkK ks).length c1, .slice a2 (tkI ks).length c2] ep x3 th iKy (one2 _ _ _ _ _ _) ?_
  have RR := World.rangeAt_setCells_same W w.heap.size 0 [.slice a1 (tkK ks).length c1, .slice a2 (tkI ks).length c2] th
  have OQ := only_setCells W w.heap.size [.slice a1 (tkK ks).length c1, .slice a2 (tkI ks).length c2] 0
  have N2 : Below w.heap.size w (W.setCells w.heap.size 0 [.slice a1 (tkK ks).length c1, .slice a2 (tkI ks).length c2]) := (nxt N1 hw).trans (OQ.below (by omega))
  have o1' := o1.only OQ (fun _ => by omega)
  have o2' := o2.only OQ (fun _ => by omega)
  obtain ⟨vs, hvs⟩ : ∃ vs : Nat → Value, ∀ d, A.tmps.getD d undef = vs d := ⟨_, fun _ => rfl⟩
  rw [puts_of (md := .any) (k := 11) (by kernel_rfl) rfl hb vs hvs]
  clear hb hF hR hvs R1 TH th x1 x2 x3 e10 e15 dd OQ ep
  show Exit.then _ _ _ _ _
  generalize W.setCells w.heap.size 0 _ = W2 at *
  simp only [puts, Act.put, List.setIfInBounds_toArray, List.set_cons_succ, List.set_cons_zero]
  clear o1 o2 N1 HH1 L1
  go_wp2
  exact bodyPost_ret (v := .agg #[.slice a1 (tkK ks).length c1, .slice a2 (tkI ks).length c2]) (results_cell_m Tryz.results14 _ _ w.heap.size _ d3 rfl RR hd3 hrow3 iKy) rfl ⟨⟨_, rfl, a1, a2, c1, c2, g1, g2, rfl, o1', o2', p1, p2, q1, q2, by omega, by omega, HD⟩, N2⟩
end Go.Proofs.YteedfhljbdnmnaaGreatDoor
namespace Go.Proofs.YteedfhljbdnmnaaGreatDoor
set_option maxRecDepth 100000
open Go.RowKit
set_option maxHeartbeats 2000000 in
theorem lwAt_any (w : World) (g : Nat) (a : Option Addr) (c : Nat) (xs : List Int) (i n : Int) (hr : Rd w g a .u8 xs) (hb : Byt xs) (hl : xs.length ≤ 1048576) (i0 : 0 ≤ i) (i1 : i ≤ 1000) (n0 : 2 ≤ n) (n1 : n ≤ 1048576) :
    Calls Tryz.prog 6 #[.slice a xs.length c, .int .i64 i, .int .i64 n] w fun e w' => ∃ r : Nat, e = .returned (.int .i64 (r : Int)) ∧ (r : Int) < n ∧ ∃ m, w' = w.drewN m := by
  have tn : decide (n ≤ 1) = false := by simp; omega
  by_cases h0 : xs.length = 0
  · have hk : ((xs.length : Int) == 0) = true := by simp [h0]
    obtain ⟨r, hr'⟩ := Int.eq_ofNat_of_zero_le (Int.emod_nonneg (i * 7) (show n ≠ 0 by omega))
    have r1 := Int.emod_lt_of_pos (i * 7) (show 0 < n by omega)
    rw [hr'] at r1
    have HR := hide hr'
    clear h0 hr'
    go_enter Tryz.func6, Tryz.ntmps6
    go_wp2
    go_ret
    exact ⟨r, congrArg (fun v => Ending.returned (.int .i64 v)) HR.out, r1, 0, rfl⟩
  · have hk : ((xs.length : Int) == 0) = false := beq_eq_false_iff_ne.2 (by omega)
    obtain ⟨off, rfl, hc⟩ := hr (by omega)
    obtain ⟨j1, hi1⟩ := Int.eq_ofNat_of_zero_le (Int.emod_nonneg i (show (xs.length : Int) ≠ 0 by omega))
    have li1 : (j1 : Int) < (xs.length : Int) := by rw [← hi1]; exact Int.emod_lt_of_pos _ (by omega)
    obtain ⟨j2, hi2⟩ := Int.eq_ofNat_of_zero_le (Int.emod_nonneg (i + 1) (show (xs.length : Int) ≠ 0 by omega))
    have li2 : (j2 : Int) < (xs.length : Int) := by rw [← hi2]; exact Int.emod_lt_of_pos _ (by omega)
    obtain ⟨q, hq⟩ : ∃ q, i / (xs.length : Int) = q := ⟨_, rfl⟩
    have q0 : 0 ≤ q := by rw [← hq]; exact Int.ediv_nonneg i0 (by omega)
    have q1 : q ≤ 1000 := by rw [← hq]; exact Int.le_trans (Int.ediv_le_self _ i0) i1
    have x1 := hc j1 (by omega)
    have x2 := hc j2 (by omega)
    have b1 := hb j1
    have b2 := hb j2
    generalize xs.getD j1 0 = x at *
    generalize xs.getD j2 0 = y at *
    clear hc hr h0
    by_cases hn : n ≤ 200
    · have tn2 : decide (200 < n) = false := by simp; omega
      obtain ⟨r, hr'⟩ := Int.eq_ofNat_of_zero_le (Int.emod_nonneg (x + q) (show n ≠ 0 by omega))
      have r1 := Int.emod_lt_of_pos (x + q) (show 0 < n by omega)
      rw [hr'] at r1
      have HR := hide hr'
      clear x2 hi2 li2 b2 hr'
      go_enter Tryz.func6, Tryz.ntmps6
      go_wp2
      go_quiet (fail)
      go_wp2
      go_ret
      exact ⟨r, congrArg (fun v => Ending.returned (.int .i64 v)) HR.out, r1, _, rfl⟩
    · have tn2 : decide (200 < n) = true := by simp; omega
      obtain ⟨r, hr'⟩ := Int.eq_ofNat_of_zero_le (Int.emod_nonneg ((x + q) * 37 + y) (show n ≠ 0 by omega))
      have r1 := Int.emod_lt_of_pos ((x + q) * 37 + y) (show 0 < n by omega)
      rw [hr'] at r1
      have HR := hide hr'
      clear hr'
      go_enter Tryz.func6, Tryz.ntmps6
      go_wp2
      go_quiet (fail)
      go_wp2
      go_ret
      exact ⟨r, congrArg (fun v => Ending.returned (.int .i64 v)) HR.out, r1, _, rfl⟩
end Go.Proofs.YteedfhljbdnmnaaGreatDoor
namespace Go.Proofs.YteedfhljbdnmnaaGreatDoor
set_option maxRecDepth 100000
open Go Go.RowKit
def SxC (w : World) (q i : Nat) (xs : List Int) : Prop := ∃ g, w.cell? ⟨q, i, none⟩ = some (.slice (some ⟨g, 0, none⟩) xs.length 32) ∧ Lq w (some ⟨g, 0, none⟩) 32 xs
theorem SxC.up {w w' : World} {q i : Nat} {xs : List Int} (h : SxC w q i xs) (n : Below w.heap.size w w') : SxC w' q i xs := by
  obtain ⟨g, c, l⟩ := h
  exact ⟨g, (World.cell?_of_block (a := ⟨q, i, none⟩) (n.block q (block_lt_of_cell c))).trans c, l.up n⟩
structure Sx (w : World) (q : Nat) (X Y Z V U : List Int) : Prop where
  c0 : SxC w q 0 X
  c1 : SxC w q 1 Y
  c2 : SxC w q 2 Z
  c3 : SxC w q 3 V
  c4 : SxC w q 4 U
theorem Sx.up {w w' : World} {q : Nat} {X Y Z V U : List Int} (h : Sx w q X Y Z V U) (n : Below w.heap.size w w') : Sx w' q X Y Z V U := ⟨h.c0.up n, h.c1.up n, h.c2.up n, h.c3.up n, h.c4.up n⟩
theorem to32Q {w : World} {g : Nat} {xs : List Int} (h : Blk w g .u8 (to32 xs)) (b : Byt xs) : Lq w (some ⟨g, 0, none⟩) 32 (to32 xs) := Lq.of h.own0 (fun h => by simp at h) (by rw [to32_len]; exact Nat.le_refl _) (to32_byt b) (by rw [to32_len]; decide)
set_option maxHeartbeats 4000000 in
theorem lwSix5_any (w : World) (g g' : Nat) (a b : Option Addr) (ca cb : Nat) (code more : List Int) (hc : Rd w g a .u8 code) (hm : Rd w g' b .u8 more) (bc : Byt code) (bm : Byt more) (lc : code.length ≤ 1048576) (lm : more.length ≤ 1048576) :
    Calls Tryz.prog 4 #[.slice a code.length ca, .slice b more.length cb] w fun e w' => (∃ q X Y Z V U, e = .returned (.slice (some ⟨q, 0, none⟩) 6 6) ∧ Sx w' q X Y Z V U ∧ Hid (X.length = 32 ∧ Y.length = 32 ∧ Z.length = 32 ∧ V.length = 32 ∧ U.length = 32)) ∧ Below w.heap.size w w' := by
  go_enter Tryz.func4, Tryz.ntmps4
  go_wp2_with fail
  refine (drawFieldMul_any w g a ca code hc bc lc).mono ?_
  rintro e w1 ⟨a1, a2, c1, c2, g1, g2, x1, x2, rfl, o1, o2, b1, b2, n1⟩
  go_wp2_with fail
  refine (drawFieldMul_any w1 g' b cb more (hm.up n1) bm lm).mono ?_
  rintro e w2 ⟨a3, a4, c3, c4, g3, g4, x3, x4, rfl, o3, o4, b3, b4, n2⟩
  have N2 := nxt n1 n2
  go_wp2_with fail
  refine (drawLadder_any w2 g a ca code (hc.up N2) bc lc).mono ?_
  rintro e w3 ⟨a5, a6, c5, c6, g5, g6, x5, x6, rfl, o5, o6, b5, b6, n3⟩
  have N3 := nxt N2 n3
  replace o1 := (o1.up n2).up n3
  replace o2 := (o2.up n2).up n3
  replace o3 := o3.up n3
  replace o4 := o4.up n3
  clear n1 n2 n3 N2
  go_wp2_with fail
  refine (lw32M_any w3 g1 a1 c1 x1 o1.rd).mono ?_
  rintro e w4 ⟨rfl, B4, n4⟩
  go_wp2_with fail
  refine (lw32M_any w4 g2 a2 c2 x2 (o2.up n4).rd).mono ?_
  rintro e w5 ⟨rfl, B5, n5⟩
  go_wp2_with fail
  refine (lw32M_any w5 g3 a3 c3 x3 ((o3.up n4).up n5).rd).mono ?_
  rintro e w6 ⟨rfl, B6, n6⟩
  have M6 := nxt (nxt n4 n5) n6
  have Q0 := to32Q ((B4.up n5).up n6) b1
  have Q1 := to32Q (B5.up n6) b2
  have Q2 := to32Q B6 b3
  have N6 := nxt N3 M6
  replace o4 := o4.up M6
  replace o5 := o5.up M6
  replace o6 := o6.up M6
  have H1 := hide (to32_len x1)
  have H2 := hide (to32_len x2)
  have H3 := hide (to32_len x3)
  generalize to32 x1 = X at *
  generalize to32 x2 = Y at *
  generalize to32 x3 = Z at *
  clear o1 o2 o3 b1 b2 b3 B4 B5 B6 n4 n5 n6 M6 N3
  obtain ⟨q1, h1⟩ : ∃ q, q = w3.heap.size := ⟨_, rfl⟩
  obtain ⟨q2, h2⟩ : ∃ q, q = w4.heap.size := ⟨_, rfl⟩
  obtain ⟨q3, h3⟩ : ∃ q, q = w5.heap.size := ⟨_, rfl⟩
  rw [← h1] at Q0 ⊢
  rw [← h2] at Q1 ⊢
  rw [← h3] at Q2 ⊢
  clear h1 h2 h3
  go_wp2_with fail
  refine (lw32M_any w6 g4 a4 c4 x4 o4.rd).mono ?_
  rintro e w7 ⟨rfl, B7, n7⟩
  go_wp2_with fail
  refine (lw32M_any w7 g5 a5 c5 x5 (o5.up n7).rd).mono ?_
  rintro e w8 ⟨rfl, B8, n8⟩
  have Q3 := to32Q (B7.up n8) b4
  have Q4 := to32Q B8 b5
  have M8 := nxt n7 n8
  replace Q0 := Q0.up M8
  replace Q1 := Q1.up M8
  replace Q2 := Q2.up M8
  replace o6 := o6.up M8
  have N8 := nxt N6 M8
  have H4 := hide (to32_len x4)
  have H5 := hide (to32_len x5)
  generalize to32 x4 = V at *
  generalize to32 x5 = U at *
  clear o4 o5 b4 b5 B7 B8 n7 n8 M8 N6
  obtain ⟨q4, h4⟩ : ∃ q, q = w6.heap.size := ⟨_, rfl⟩
  obtain ⟨q5, h5⟩ : ∃ q, q = w7.heap.size := ⟨_, rfl⟩
  rw [← h4] at Q3 ⊢
  rw [← h5] at Q4 ⊢
  clear h4 h5
  go_wp2_with fail
  refine (lw32M_any w8 g6 a6 c6 x6 o6.rd).mono ?_
  rintro e w9 ⟨rfl, -, n9⟩
  have N9 := nxt N8 n9
  replace Q0 := Q0.up n9
  replace Q1 := Q1.up n9
  replace Q2 := Q2.up n9
  replace Q3 := Q3.up n9
  replace Q4 := Q4.up n9
  have HB := hide (⟨H1.out, H2.out, H3.out, H4.out, H5.out⟩ : X.length = 32 ∧ Y.length = 32 ∧ Z.length = 32 ∧ V.length = 32 ∧ U.length = 32)
  clear N8 n9 o6 H1 H2 H3 H4 H5
  have AL : ∀ o : Obj, Below w9.heap.size w9 (w9.alloc o) := fun o => (Below.refl _ _).alloc (Nat.le_refl _) o
  have ALh := hide AL
  clear AL
  go_wp2
  go_ret
  exact ⟨⟨w9.heap.size, X, Y, Z, V, U, rfl, ⟨⟨q1, cell_new _ _ _ 0 _ rfl, Q0.up (ALh.out _)⟩, ⟨q2, cell_new _ _ _ 1 _ rfl, Q1.up (ALh.out _)⟩, ⟨q3, cell_new _ _ _ 2 _ rfl, Q2.up (ALh.out _)⟩, ⟨q4, cell_new _ _ _ 3 _ rfl, Q3.up (ALh.out _)⟩, ⟨q5, cell_new _ _ _ 4 _ rfl, Q4.up (ALh.out _)⟩⟩, HB⟩, N9.alloc N9.size _⟩
end Go.Proofs.YteedfhljbdnmnaaGreatDoor
namespace Go.Proofs.YteedfhljbdnmnaaGreatDoor
set_option maxRecDepth 100000
open Go Go.RowKit
def LQf (xs : List Int) : Fact := ⟨fun v w => ∃ (a : Option Addr) (c : Nat), v = .slice a xs.length c ∧ Lq w a c xs, fun n h => by
  obtain ⟨a, c, e, l⟩ := h
  exact ⟨a, c, e, l.up n⟩⟩
theorem lq_new {B : Nat} {w w0 : World} {e : Ending} {ys : List Int} (h : NewRow B w e .u8 ys ∧ Below w0.heap.size w0 w) (b : Byt ys) (l : ys.length ≤ 1048576) : ∃ v, e = .returned v ∧ Below w0.heap.size w0 w ∧ (LQf ys).p v w := by
  obtain ⟨⟨a, c, g, he, o, p, q, r⟩, n⟩ := h
  exact ⟨_, he, n, a, c, rfl, Lq.of o p q b l⟩
theorem hsA_len (x y : List Int) : (hsA x y).length ≤ 1048576 := by
  unfold hsA; split
  · rw [macL_len]; decide
  · simp
theorem hsA_byt (x y : List Int) : Byt (hsA x y) := by
  unfold hsA; split
  · exact macL_byt _ _
  · exact byt_nil
theorem msA_len (x : List Int) : (msA x).length ≤ 1048576 := by
  unfold msA; split
  · rw [macL_len]; decide
  · simp
theorem msA_byt (x : List Int) : Byt (msA x) := by
  unfold msA; split
  · exact macL_byt _ _
  · exact byt_nil
theorem fmA_len (x y : List Int) : (fmA x y).length ≤ 1048576 := by
  unfold fmA; split
  · rw [macL_len]; decide
  · simp
theorem fmA_byt (x y : List Int) : Byt (fmA x y) := by
  unfold fmA; split
  · exact macL_byt _ _
  · exact byt_nil
theorem bmA_len (x y : List Int) : (bmA x y).length ≤ 1048576 := by
  unfold bmA; split
  · rw [macL_len]; decide
  · simp
theorem bmA_byt (x y : List Int) : Byt (bmA x y) := by
  unfold bmA; split
  · exact macL_byt _ _
  · exact byt_nil
theorem labA_1M (x : List Int) (s : ByteArray) (y : List Int) (n : Int) : (labA x s y n).length ≤ 1048576 := Nat.le_trans (labA_len _ _ _ _) (by decide)
theorem pubA_1M {x : List Int} (b : Byt x) (l : x.length = 32) : (pubA x).length ≤ 1048576 := by
  unfold pubA
  rw [ladA_32 b l nine_len]
  decide
theorem pubA_byt (x : List Int) : Byt (pubA x) := ladA_byt
section
variable {ops : Array Oper} {Q : Exit → Act → World → Prop} {md : Region.Mode} {F : Nat → Fact} {a0 : Act} {w0 : World} {i : Nat} {o : Oper} {ts : Array TypeId}
theorem lqm (hi : ops[i]? = some o) (p : Nat) {a : Option Addr} {c : Nat} {xs : List Int} (hop : o.op = .move (.tmp p)) (hp : apart ops p = true) (h0 : a0.tmps.getD p undef = .slice a xs.length c) (hq : Lq w0 a c xs) (hF : F i = LQf xs) : StepOk Tryz.prog md ops Q F a0 w0 i := by
  refine step_pure hi fun b w hb hw _ => ⟨.slice a xs.length c, ?_, by rw [hF]; exact ⟨a, c, rfl, hq.up hw⟩⟩
  have e := (based_at hb p hp).trans h0
  simp [execOp, hop, e]
theorem eqm (hi : ops[i]? = some o) (p : Nat) {v : Value} (hop : o.op = .move (.tmp p)) (hp : apart ops p = true) (h0 : a0.tmps.getD p undef = v) (hF : F i = Fact.eq v) : StepOk Tryz.prog md ops Q F a0 w0 i := by
  refine step_pure hi fun b w hb hw _ => ⟨v, ?_, by rw [hF]; exact rfl⟩
  have e := (based_at hb p hp).trans h0
  simp [execOp, hop, e]
theorem lqa (hi : ops[i]? = some o) (p j : Nat) {xs : List Int} (hop : o.op = .assign (.tmp p)) (hj : waits md ops i j p = true) (hFj : F j = LQf xs) (hF : F i = LQf xs) : StepOk Tryz.prog md ops Q F a0 w0 i := by
  refine step_pure hi fun b w hb hw hf => ?_
  have h1 := hf j p hj
  rw [hFj] at h1
  obtain ⟨a, c, e, l⟩ := h1
  have e' : b.eval (.tmp p) = .slice a xs.length c := e
  exact ⟨.slice a xs.length c, by simp [execOp, hop, e'], by rw [hF]; exact ⟨a, c, rfl, l⟩⟩
theorem ix6 (w : World) (q k : Nat) (hk : k < 6) : (Instr.indexAt 23 (.slice (some ⟨q, 0, none⟩) 6 6) (.int .i64 (k : Int))).run Tryz.prog w = .ok (.pointer (some ⟨q, k, none⟩)) w := by
  obtain rfl | rfl | rfl | rfl | rfl | rfl : k = 0 ∨ k = 1 ∨ k = 2 ∨ k = 3 ∨ k = 4 ∨ k = 5 := by omega
  all_goals kernel_rfl
theorem lqi (hi : ops[i]? = some o) (p j : Nat) (q k : Nat) (hk : k < 6) (hop : o.op = .indexAddr 23 (.tmp p) (.const (.int .i64 (k : Int)))) (hj : waits md ops i j p = true) (hFj : F j = Fact.eq (.slice (some ⟨q, 0, none⟩) 6 6)) (hF : F i = Fact.eq (.pointer (some ⟨q, k, none⟩))) : StepOk Tryz.prog md ops Q F a0 w0 i := by
  refine step_pure hi fun b w hb hw hf => ?_
  have h1 := hf j p hj
  rw [hFj] at h1
  have e' : b.eval (.tmp p) = .slice (some ⟨q, 0, none⟩) 6 6 := h1
  refine ⟨.pointer (some ⟨q, k, none⟩), ?_, by rw [hF]; exact rfl⟩
  have e2 : b.eval (.const (.int .i64 (k : Int))) = .int .i64 (k : Int) := rfl
  simp only [execOp, hop, e', e2]
  rw [Sem.run_bind, ix6 _ _ _ hk]
  rfl
theorem lql (hi : ops[i]? = some o) (p j : Nat) (q k : Nat) {xs : List Int} (hop : o.op = .load 22 (.tmp p)) (hj : waits md ops i j p = true) (hFj : F j = Fact.eq (.pointer (some ⟨q, k, none⟩))) (hs : ∀ W, Below w0.heap.size w0 W → ∃ a c, W.cell? ⟨q, k, none⟩ = some (.slice a xs.length c) ∧ Lq W a c xs) (hF : F i = LQf xs) : StepOk Tryz.prog md ops Q F a0 w0 i := by
  refine step_pure hi fun b w hb hw hf => ?_
  have h1 := hf j p hj
  rw [hFj] at h1
  have e' : b.eval (.tmp p) = .pointer (some ⟨q, k, none⟩) := h1
  obtain ⟨a, c, hc, l⟩ := hs w hw
  refine ⟨.slice a xs.length c, ?_, by rw [hF]; exact ⟨a, c, rfl, l⟩⟩
  have hld : (Instr.loadAt 22 (.pointer (some ⟨q, k, none⟩))).run Tryz.prog w = .ok (.slice a xs.length c) w := by simp [go_sem, hc]
  simp [execOp, hop, e', hld]
theorem lcp (hi : ops[i]? = some o) (p j : Nat) {xs : List Int} (hop : o.op = .call { callee := .value (.func 5), args := #[.tmp p], argTypes := ts }) (hj : waits md ops i j p = true) (hFj : F j = LQf xs) (hF : F i = LQf (xs)) : StepOk Tryz.prog md ops Q F a0 w0 i := by
  refine step_callv hi _ _ ts hop (by kernel_rfl) fun A w hb hw hf => ?_
  have ea := hf j p hj
  rw [hFj] at ea
  obtain ⟨a, c, e1, L⟩ := ea
  show Calls Tryz.prog _ #[A.tmps.getD p undef] w _
  rw [e1, hF]
  have LL := L
  obtain ⟨⟨g, r⟩, b, pp, q, l⟩ := L
  exact (lwCopy_any w g a c xs r pp l).mono fun e w' h => lq_new h b l
theorem lpub (HL : HasL w0) (hi : ops[i]? = some o) (p j : Nat) {xs : List Int} (h32 : xs.length = 32) (hop : o.op = .call { callee := .value (.func 8), args := #[.tmp p], argTypes := ts }) (hj : waits md ops i j p = true) (hFj : F j = LQf xs) (hF : F i = LQf (pubA xs)) : StepOk Tryz.prog md ops Q F a0 w0 i := by
  refine step_callv hi _ _ ts hop (by kernel_rfl) fun A w hb hw hf => ?_
  have ea := hf j p hj
  rw [hFj] at ea
  obtain ⟨a, c, e1, L⟩ := ea
  show Calls Tryz.prog _ #[A.tmps.getD p undef] w _
  rw [e1, hF]
  have LL := L
  obtain ⟨⟨g, r⟩, b, pp, q, l⟩ := L
  exact (implPublic_any w g a c xs r b (HL.up hw)).mono fun e w' h => lq_new h (pubA_byt _) (pubA_1M b h32)
theorem lea (HH : HasH w0) (hi : ops[i]? = some o) (p j : Nat) {xs : List Int} (hop : o.op = .call { callee := .value (.func 10), args := #[.tmp p], argTypes := ts }) (hj : waits md ops i j p = true) (hFj : F j = LQf xs) (hF : F i = LQf (eaA xs)) : StepOk Tryz.prog md ops Q F a0 w0 i := by
  refine step_callv hi _ _ ts hop (by kernel_rfl) fun A w hb hw hf => ?_
  have ea := hf j p hj
  rw [hFj] at ea
  obtain ⟨a, c, e1, L⟩ := ea
  show Calls Tryz.prog _ #[A.tmps.getD p undef] w _
  rw [e1, hF]
  have LL := L
  obtain ⟨⟨g, r⟩, b, pp, q, l⟩ := L
  exact (implEarlySecret_any w (HH.up hw) LL).mono fun e w' h => lq_new h (eaA_byt _) (Nat.le_trans (eaA_len _) (by decide))
theorem lms (HH : HasH w0) (hi : ops[i]? = some o) (p j : Nat) {xs : List Int} (hop : o.op = .call { callee := .value (.func 12), args := #[.tmp p], argTypes := ts }) (hj : waits md ops i j p = true) (hFj : F j = LQf xs) (hF : F i = LQf (msA xs)) : StepOk Tryz.prog md ops Q F a0 w0 i := by
  refine step_callv hi _ _ ts hop (by kernel_rfl) fun A w hb hw hf => ?_
  have ea := hf j p hj
  rw [hFj] at ea
  obtain ⟨a, c, e1, L⟩ := ea
  show Calls Tryz.prog _ #[A.tmps.getD p undef] w _
  rw [e1, hF]
  have LL := L
  obtain ⟨⟨g, r⟩, b, pp, q, l⟩ := L
  exact (implMasterSecret_any w (HH.up hw) LL).mono fun e w' h => lq_new h (msA_byt _) (msA_len _)
theorem lha (HH : HasH w0) (hi : ops[i]? = some o) (p j : Nat) {xs : List Int} (hop : o.op = .call { callee := .value (.func 19), args := #[.tmp p], argTypes := ts }) (hj : waits md ops i j p = true) (hFj : F j = LQf xs) (hF : F i = LQf (hashL32 xs)) : StepOk Tryz.prog md ops Q F a0 w0 i := by
  refine step_callv hi _ _ ts hop (by kernel_rfl) fun A w hb hw hf => ?_
  have ea := hf j p hj
  rw [hFj] at ea
  obtain ⟨a, c, e1, L⟩ := ea
  show Calls Tryz.prog _ #[A.tmps.getD p undef] w _
  rw [e1, hF]
  have LL := L
  obtain ⟨⟨g, r⟩, b, pp, q, l⟩ := L
  exact (implHash_32 w g a c xs r b q (by omega) (HH.1.up hw) (HH.2.up hw)).mono fun e w' h => lq_new h (hash_byt32 _) (by rw [hash_len32]; decide)
theorem lhs (HH : HasH w0) (hi : ops[i]? = some o) (p p' j j' : Nat) {xs ys : List Int} (hop : o.op = .call { callee := .value (.func 9), args := #[.tmp p, .tmp p'], argTypes := ts }) (hj : waits md ops i j p = true) (hj' : waits md ops i j' p' = true) (hFj : F j = LQf xs) (hFj' : F j' = LQf ys) (hF : F i = LQf (hsA xs ys)) : StepOk Tryz.prog md ops Q F a0 w0 i := by
  refine step_callv hi _ _ ts hop (by kernel_rfl) fun A w hb hw hf => ?_
  have ea := hf j p hj
  have eb := hf j' p' hj'
  rw [hFj] at ea
  rw [hFj'] at eb
  obtain ⟨a, c, e1, L⟩ := ea
  obtain ⟨a', c', e2, L'⟩ := eb
  show Calls Tryz.prog _ #[A.tmps.getD p undef, A.tmps.getD p' undef] w _
  rw [e1, e2, hF]
  have LL := L
  have LL' := L'
  obtain ⟨⟨g, r⟩, b, pp, q, l⟩ := L
  obtain ⟨⟨g', r'⟩, b', pp', q', l'⟩ := L'
  exact (implHandshakeSecret_any w (HH.up hw) LL LL').mono fun e w' h => lq_new h (hsA_byt _ _) (hsA_len _ _)
theorem lfm (HH : HasH w0) (hi : ops[i]? = some o) (p p' j j' : Nat) {xs ys : List Int} (hop : o.op = .call { callee := .value (.func 18), args := #[.tmp p, .tmp p'], argTypes := ts }) (hj : waits md ops i j p = true) (hj' : waits md ops i j' p' = true) (hFj : F j = LQf xs) (hFj' : F j' = LQf ys) (hF : F i = LQf (fmA xs ys)) : StepOk Tryz.prog md ops Q F a0 w0 i := by
  refine step_callv hi _ _ ts hop (by kernel_rfl) fun A w hb hw hf => ?_
  have ea := hf j p hj
  have eb := hf j' p' hj'
  rw [hFj] at ea
  rw [hFj'] at eb
  obtain ⟨a, c, e1, L⟩ := ea
  obtain ⟨a', c', e2, L'⟩ := eb
  show Calls Tryz.prog _ #[A.tmps.getD p undef, A.tmps.getD p' undef] w _
  rw [e1, e2, hF]
  have LL := L
  have LL' := L'
  obtain ⟨⟨g, r⟩, b, pp, q, l⟩ := L
  obtain ⟨⟨g', r'⟩, b', pp', q', l'⟩ := L'
  exact (implFinishedMac_any w (HH.up hw) LL LL').mono fun e w' h => lq_new h (fmA_byt _ _) (fmA_len _ _)
theorem lbm (HH : HasH w0) (hi : ops[i]? = some o) (p p' j j' : Nat) {xs ys : List Int} (hop : o.op = .call { callee := .value (.func 17), args := #[.tmp p, .tmp p'], argTypes := ts }) (hj : waits md ops i j p = true) (hj' : waits md ops i j' p' = true) (hFj : F j = LQf xs) (hFj' : F j' = LQf ys) (hF : F i = LQf (bmA xs ys)) : StepOk Tryz.prog md ops Q F a0 w0 i := by
  refine step_callv hi _ _ ts hop (by kernel_rfl) fun A w hb hw hf => ?_
  have ea := hf j p hj
  have eb := hf j' p' hj'
  rw [hFj] at ea
  rw [hFj'] at eb
  obtain ⟨a, c, e1, L⟩ := ea
  obtain ⟨a', c', e2, L'⟩ := eb
  show Calls Tryz.prog _ #[A.tmps.getD p undef, A.tmps.getD p' undef] w _
  rw [e1, e2, hF]
  have LL := L
  have LL' := L'
  obtain ⟨⟨g, r⟩, b, pp, q, l⟩ := L
  obtain ⟨⟨g', r'⟩, b', pp', q', l'⟩ := L'
  exact (implBinderMac_any w (HH.up hw) LL LL').mono fun e w' h => lq_new h (bmA_byt _ _) (bmA_len _ _)
theorem lde (HH : HasH w0) (hi : ops[i]? = some o) (p p' j j' : Nat) {xs ys : List Int} (s : ByteArray) (hs : s.size ≤ 1048576) (hop : o.op = .call { callee := .value (.func 13), args := #[.tmp p, .const (.string s), .tmp p'], argTypes := ts }) (hj : waits md ops i j p = true) (hj' : waits md ops i j' p' = true) (hFj : F j = LQf xs) (hFj' : F j' = LQf ys) (hF : F i = LQf (labA xs s ys 32)) : StepOk Tryz.prog md ops Q F a0 w0 i := by
  refine step_callv hi _ _ ts hop (by kernel_rfl) fun A w hb hw hf => ?_
  have ea := hf j p hj
  have eb := hf j' p' hj'
  rw [hFj] at ea
  rw [hFj'] at eb
  obtain ⟨a, c, e1, L⟩ := ea
  obtain ⟨a', c', e2, L'⟩ := eb
  show Calls Tryz.prog _ #[A.tmps.getD p undef, .string s, A.tmps.getD p' undef] w _
  rw [e1, e2, hF]
  have LL := L
  have LL' := L'
  obtain ⟨⟨g, r⟩, b, pp, q, l⟩ := L
  obtain ⟨⟨g', r'⟩, b', pp', q', l'⟩ := L'
  exact (implDerive_any w g a c xs r b q l s hs g' a' c' ys r' b' pp' l' (HH.1.up hw) (HH.2.up hw)).mono fun e w' h => lq_new h (labA_byt _ _ _ _) (labA_1M _ _ _ _)
theorem lh0 (HH : HasH w0) (hi : ops[i]? = some o) (hop : o.op = .call { callee := .value (.func 19), args := #[.const (.slice none 0 0)], argTypes := ts }) (hF : F i = LQf hE) : StepOk Tryz.prog md ops Q F a0 w0 i := by
  refine step_callv hi _ _ ts hop (by kernel_rfl) fun A w hb hw hf => ?_
  show Calls Tryz.prog _ #[.slice none 0 0] w _
  rw [hF]
  exact (implHash_32 w 0 none 0 [] (Rd.nil _ _ _ _) byt_nil (Nat.le_refl _) (by simp) (HH.1.up hw) (HH.2.up hw)).mono fun e w' h => lq_new h hE_byt (by rw [hE_len]; decide)
theorem lsm (hi : ops[i]? = some o) (p p' j j' : Nat) {xs : List Int} (hop : o.op = .call { callee := .value (.func 11), args := #[.tmp p, .tmp p'], argTypes := ts }) (hj : waits md ops i j p = true) (hj' : waits md ops i j' p' = true) (hFj : F j = LQf xs) (hFj' : F j' = LQf xs) (hF : F i = Fact.eq (.bool true)) : StepOk Tryz.prog md ops Q F a0 w0 i := by
  refine step_callv hi _ _ ts hop (by kernel_rfl) fun A w hb hw hf => ?_
  have ea := hf j p hj
  have eb := hf j' p' hj'
  rw [hFj] at ea
  rw [hFj'] at eb
  obtain ⟨a, c, e1, ⟨⟨g, r⟩, b, pp, q, l⟩⟩ := ea
  obtain ⟨a', c', e2, ⟨⟨g', r'⟩, b', pp', q', l'⟩⟩ := eb
  show Calls Tryz.prog _ #[A.tmps.getD p undef, A.tmps.getD p' undef] w _
  rw [e1, e2, hF]
  refine (lwSame_same w g g' a a' c c' xs r r').mono ?_
  rintro e w' ⟨rfl, rfl⟩
  exact ⟨_, rfl, Below.refl _ _, rfl⟩
theorem bta (hi : ops[i]? = some o) (p j : Nat) (hop : o.op = .assign (.tmp p)) (hj : waits md ops i j p = true) (hFj : F j = Fact.eq (.bool true)) (hF : F i = Fact.eq (.bool true)) : StepOk Tryz.prog md ops Q F a0 w0 i := by
  refine step_pure hi fun b w hb hw hf => ?_
  have h1 := hf j p hj
  rw [hFj] at h1
  have e' : b.eval (.tmp p) = .bool true := h1
  exact ⟨.bool true, by simp [execOp, hop, e'], by rw [hF]; exact rfl⟩
def SHf (b : Bool) (xs : List Int) : Fact := ⟨fun v w => ∃ (a : Option Addr) (c : Nat), v = .agg #[.bool b, .slice a xs.length c] ∧ Lq w a c xs, fun n h => by
  obtain ⟨a, c, e, l⟩ := h
  exact ⟨a, c, e, l.up n⟩⟩
theorem lshr (HL : HasL w0) (hi : ops[i]? = some o) (p p' j j' : Nat) {xs ys zs : List Int} (hz : shL xs ys = zs) (bz : Byt zs) (lz : zs.length ≤ 1048576) (hb0 : shB xs ys = true) (hop : o.op = .call { callee := .value (.func 7), args := #[.tmp p, .tmp p'], argTypes := ts }) (hj : waits md ops i j p = true) (hj' : waits md ops i j' p' = true) (hFj : F j = LQf xs) (hFj' : F j' = LQf ys) (hF : F i = SHf true zs) : StepOk Tryz.prog md ops Q F a0 w0 i := by
  refine step_callv hi _ _ ts hop (by kernel_rfl) fun A w hb hw hf => ?_
  have ea := hf j p hj
  have eb := hf j' p' hj'
  rw [hFj] at ea
  rw [hFj'] at eb
  obtain ⟨a, c, e1, ⟨⟨g, r⟩, b, pp, q, l⟩⟩ := ea
  obtain ⟨a', c', e2, ⟨⟨g', r'⟩, b', pp', q', l'⟩⟩ := eb
  show Calls Tryz.prog _ #[A.tmps.getD p undef, A.tmps.getD p' undef] w _
  rw [e1, e2, hF]
  have IS := implShared_any w g g' a a' c c' xs ys r r' b b' (HL.up hw)
  rw [hz, hb0] at IS
  refine IS.mono ?_
  rintro e w' ⟨⟨a3, c3, g3, rfl, o3, p3, q3, r3⟩, n⟩
  exact ⟨_, rfl, n, a3, c3, rfl, Lq.of o3 p3 q3 bz lz⟩
def NBs (B : Nat) : Fact := ⟨fun v w => ∃ q, v = .pointer (some ⟨q, 0, none⟩) ∧ B ≤ q ∧ w.heap[q]? = some (.cells #[.bool false, .slice none 0 0] 28 (0, 0)), fun n h => by
  obtain ⟨q, e, hB, hq⟩ := h
  exact ⟨q, e, hB, (n.block q (Array.getElem?_eq_some_iff.1 hq).1).trans hq⟩⟩
theorem lnb (hi : ops[i]? = some o) (hop : o.op = .alloc 28) (hF : F i = NBs w0.heap.size) : StepOk Tryz.prog md ops Q F a0 w0 i := by
  refine step_grow hi fun b w hb hw hf => ⟨.pointer (some ⟨w.heap.size, 0, none⟩), w.alloc (.cells #[.bool false, .slice none 0 0] 28), ?_, (Below.refl _ _).alloc (Nat.le_refl _) _, ?_⟩
  · simp only [execOp, hop]
    kernel_rfl
  · rw [hF]
    exact ⟨w.heap.size, rfl, hw.size, by show (w.heap.push _)[w.heap.size]? = _; simp⟩
end
end Go.Proofs.YteedfhljbdnmnaaGreatDoor
namespace Go.Proofs.YteedfhljbdnmnaaGreatDoor
set_option maxRecDepth 100000
open Go Go.RowKit
def lbC : ByteArray := ⟨#[99, 108, 105, 101, 110, 116, 32, 100, 97, 116, 97]⟩
theorem SxC.lq {w : World} {q i : Nat} {xs : List Int} (h : SxC w q i xs) : ∃ a c, w.cell? ⟨q, i, none⟩ = some (.slice a xs.length c) ∧ Lq w a c xs := by
  obtain ⟨g, c, l⟩ := h
  exact ⟨_, _, c, l⟩
def ShC (w : World) (q : Nat) (xs : List Int) : Prop := ∃ a c, w.cell? ⟨q, 1, none⟩ = some (.slice a xs.length c) ∧ Lq w a c xs
theorem ShC.up {w w' : World} {q : Nat} {xs : List Int} (h : ShC w q xs) (n : Below w.heap.size w w') : ShC w' q xs := by
  obtain ⟨a, c, e, l⟩ := h
  exact ⟨a, c, (World.cell?_of_block (a := ⟨q, 1, none⟩) (n.block q (block_lt_of_cell e))).trans e, l.up n⟩
theorem ShC.lq {w : World} {q : Nat} {xs : List Int} (h : ShC w q xs) : ∃ a c, w.cell? ⟨q, 1, none⟩ = some (.slice a xs.length c) ∧ Lq w a c xs := h
theorem iSr : (Tryz.prog.info? 28).map (·.size) = some 2 := by kernel_rfl
theorem oneS (b : Bool) (a' : Option Addr) (n' c' : Nat) : ([.bool b, .slice a' n' c'] : List Value).toArray.all (·.oneCell') = true := all_oneCell_toArray fun v hv => by
  simp only [List.mem_cons, List.not_mem_nil, or_false] at hv
  rcases hv with rfl | rfl
  all_goals rfl
theorem lq_only {w w' : World} {q : Nat} {a : Option Addr} {c : Nat} {xs : List Int} (h : Lq w a c xs) (hq : ∀ g off, a = some ⟨g, off, none⟩ → 0 < xs.length → g ≠ q) (O : Only q w w') : Lq w' a c xs := by
  obtain ⟨⟨g, r⟩, b, p, k, l⟩ := h
  refine ⟨⟨g, fun h0 => ?_⟩, b, p, k, l⟩
  obtain ⟨off, ha, hc⟩ := r h0
  exact ⟨off, ha, fun i hi => (World.cell?_of_block (a := ⟨g, off + i, none⟩) (O.block g (hq g off ha h0))).trans (hc i hi)⟩
section
variable {ops : Array Oper} {Q : Exit → Act → World → Prop} {md : Region.Mode} {F : Nat → Fact} {a0 : Act} {w0 : World} {i : Nat} {o : Oper} {ts : Array TypeId}
theorem lqf (hi : ops[i]? = some o) (p q : Nat) (hop : o.op = .fieldAddr 28 (.tmp p) 1) (hp : apart ops p = true) (h0 : a0.tmps.getD p undef = .pointer (some ⟨q, 0, none⟩)) (hF : F i = Fact.eq (.pointer (some ⟨q, 1, none⟩))) : StepOk Tryz.prog md ops Q F a0 w0 i := by
  have hr : ∀ w, (Instr.fieldAt 28 (.pointer (some ⟨q, 0, none⟩)) 1).run Tryz.prog w = .ok (.pointer (some ⟨q, 1, none⟩)) w := fun w => by kernel_rfl
  refine step_pure hi fun b w hb hw _ => ⟨_, ?_, by rw [hF]; exact rfl⟩
  have e := (based_at hb p hp).trans h0
  simp [execOp, hop, e, hr]
theorem region_newSh {a0 : Act} {id : Nat} {draw : Bool} {w : World} (k jA jV pA pV : Nat) (o : Oper) (F : Nat → Fact) (xs : List Int) (hm : Tryz.prog.follows .mixedOrders = true) (hT : textOk .any ops a0.tmps.size k = true) (hk : ops[k]? = some o) (hd : o.dst = none)
    (hop : o.op = .store 28 (.tmp pA) (.tmp pV)) (wA : writes ops jA pA = true) (FA : F jA = NBs w.heap.size) (wV : writes ops jV pV = true) (FV : F jV = SHf true xs) (steps : ∀ i, i < k → StepOk Tryz.prog .any ops Q F a0 w i)
    (fin : ∀ (vs : Nat → Value) (W : World) (q : Nat), vs pA = .pointer (some ⟨q, 0, none⟩) → Below w.heap.size w W → ShC W q xs → Q .normal (puts vs a0 ops.toList) W) : (Code.region id ops draw).wp Tryz.prog Q a0 w := by
  refine region_store k o F hm hT hk hd steps fun a W hb hw hF => ?_
  have e1 := hF jA pA wA
  have e2 := hF jV pV wV
  rw [FA] at e1
  rw [FV] at e2
  obtain ⟨q, e1, hB, hq⟩ := e1
  obtain ⟨a1, c1, e2, l⟩ := e2
  have TH : W.there q 0 2 := there2 hq
  refine wp_store_mid _ (.tmp pA) (.tmp pV) hop q 0 #[.bool true, .slice a1 xs.length c1] e1 e2 TH iSr (oneS _ _ _ _) ?_
  obtain ⟨vs, hvs⟩ : ∃ vs : Nat → Value, ∀ d, a.tmps.getD d undef = vs d := ⟨_, fun _ => rfl⟩
  rw [hd]
  show Q .normal a _
  rw [puts_of hT rfl hb vs hvs]
  have RR := World.rangeAt_setCells_same W q 0 [.bool true, .slice a1 xs.length c1] TH
  have OQ := only_setCells W q [.bool true, .slice a1 xs.length c1] 0
  have hne : ∀ g off, a1 = some ⟨g, off, none⟩ → 0 < xs.length → g ≠ q := fun g off ha h0 => by
    obtain ⟨⟨g', r⟩, _⟩ := l
    obtain ⟨off', ha', hc⟩ := r h0
    rw [ha] at ha'
    simp only [Option.some.injEq, Addr.mk.injEq, and_true] at ha'
    obtain ⟨rfl, rfl⟩ := ha'
    intro he
    subst he
    have h1 := hc 0 h0
    rw [Nat.add_zero, cell_of_row _ _ _ _ _ _ hq] at h1
    match off, h1 with
    | 0, h1 => simp at h1
    | 1, h1 => simp at h1
    | n + 2, h1 => simp at h1
  exact fin vs _ q ((hvs pA).symm.trans e1) (hw.trans (OQ.below hB)) ⟨a1, c1, RR 1 _ rfl, lq_only l hne OQ⟩
end
theorem nx_lab {ks : List Int} (h : ks.length = 32) : labA ks lbU [] 32 = nxA ks := by unfold nxA; rw [if_pos h]
theorem nxA_32 {ks : List Int} (h : ks.length = 32) : (nxA ks).length = 32 := by
  rw [← nx_lab h]
  exact labA_full ks lbU [] 32 (by decide) (by simp) (by decide)
theorem nxA_byt (ks : List Int) : Byt (nxA ks) := by
  unfold nxA; split
  · exact labA_byt _ _ _ _
  · exact byt_nil
theorem tk_lens {ks : List Int} (h : ks.length = 32) : (tkK ks).length = 32 ∧ (tkI ks).length = 12 := by
  unfold tkK tkI
  rw [if_pos h, if_pos h]
  exact ⟨labA_full ks lbK [] 32 (by decide) (by simp) (by decide), labA_full ks lbI [] 12 (by decide) (by simp) (by decide)⟩
theorem bm_fm {p xs : List Int} (h : p.length = 32 ∨ p.length = 0) : bmA p xs = fmA (labA (eaA p) lbB hE 32) (hashL32 xs) := by
  have e : (eaA p).length = 32 := by
    unfold eaA
    have : (knL p).length = 32 := by
      unfold knL
      split
      · exact zer32_len
      · omega
    rw [if_pos this, macL_len]
  have l : (labA (eaA p) lbB hE 32).length = 32 := labA_full (eaA p) lbB hE 32 (by decide) (by rw [hE_len]; decide) (by decide)
  unfold bmA fmA
  rw [if_pos e, if_pos ⟨l, hash_len32 _⟩]
theorem hs_32 {p ks : List Int} (h : p.length = 32 ∨ p.length = 0) (hk : ks.length = 32) : (hsA (eaA p) ks).length = 32 := by
  have e : (eaA p).length = 32 := by
    unfold eaA
    have : (knL p).length = 32 := by
      unfold knL
      split
      · exact zer32_len
      · omega
    rw [if_pos this, macL_len]
  unfold hsA
  rw [if_pos ⟨e, hk⟩, macL_len]
end Go.Proofs.YteedfhljbdnmnaaGreatDoor
