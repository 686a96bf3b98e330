import Derived.Test.YtmfajpplagbfcaaGreatDoorHB7
namespace Go.Proofs.YtmfajpplagbfcaaGreatDoor
set_option maxRecDepth 100000
open Go Go.RowKit
def ctA (bs : List (List Int)) : Bool := bs.any fun b => ctO b.length
theorem ctA_yes {bs : List (List Int)} {k : Nat} (hk : k < bs.length) (h : ctO (bs.getD k []).length = true) : ctA bs = true := by
  unfold ctA
  rw [List.any_eq_true]
  refine ⟨bs.getD k [], ?_, h⟩
  rw [List.getD_eq_getElem?_getD, List.getElem?_eq_getElem hk]
  exact List.getElem_mem hk
theorem ctA_no {bs : List (List Int)} (h : ∀ j, j < bs.length → ctO (bs.getD j []).length = false) : ctA bs = false := by
  unfold ctA
  rw [List.any_eq_false]
  intro b hb
  obtain ⟨i, hi, e⟩ := List.getElem_of_mem hb
  have := h i hi
  rw [List.getD_eq_getElem?_getD, List.getElem?_eq_getElem hi] at this
  simpa [← e] using this
set_option maxHeartbeats 1000000 in
theorem certIndex_any (w : World) (g : Nat) (a : Option Addr) (c : Nat) (bs : List (List Int)) (ps : List Plb) (hr : RdL w g a bs ps) (hn : bs.length ≤ 1048576) (hz : ∀ i, i < bs.length → (bs.getD i []).length ≤ 1048576) :
    Calls Tryz.prog 168 #[.slice a bs.length c, .func (Fn.func 166) #[] #[]] w fun e w' => ∃ r : Int, e = .returned (.int .i64 r) ∧ decide (0 ≤ r) = ctA bs ∧ Below w.heap.size w w' := by
  go_enter Tryz.func168, Tryz.ntmps168
  go_wp2
  go_loopw [8] (fun i wr => ∃ (k : Nat), k ≤ bs.length ∧ i = .int .i64 k ∧ Below w.heap.size w wr ∧ ∀ j, j < k → ctO (bs.getD j []).length = false) (fun i _ => bs.length - (intOf i).toNat)
  case atStart => exact ⟨0, Nat.zero_le _, rfl, Below.refl _ _, fun j hj => absurd hj (by omega)⟩
  case round =>
    obtain ⟨k, hk, rfl, N, hall⟩ := hrel
    by_cases hlt : k < bs.length
    · obtain ⟨off, rfl, hc⟩ := (hr.up N).r (by omega)
      have t0 : (k : Int) < (bs.length : Int) := by omega
      have c1 := hc k hlt
      have CO := hide (certOut_any wr (ps.getD k plb0).a (ps.getD k plb0).c (bs.getD k []).length (hz k hlt))
      have YES := hide (fun h => ctA_yes hlt h)
      have HALL := hide hall
      have HN := hide N
      clear hc hall N
      generalize (ps.getD k plb0).a = pa at *
      generalize (ps.getD k plb0).c = pc at *
      generalize hx : (bs.getD k []).length = x at *
      have HX := hide hx
      clear hx
      generalize hv : ctO x = v at *
      have HV := hide hv
      clear hv
      go_wp2_with fail
      refine CO.out.mono ?_
      rintro e w1 ⟨rfl, n1⟩
      have N1 := hide (nxt HN.out n1)
      clear CO n1 HN
      cases v with
      | true =>
        have Y := hide (YES.out (by first | rfl | exact HV.out))
        clear YES HALL
        go_wp2
        go_ret
        exact ⟨_, rfl, by rw [Y.out]; simp, N1.out⟩
      | false =>
        have NXT : Hid (∀ j, j < k + 1 → ctO (bs.getD j []).length = false) := fun j hj => by
          by_cases h : j = k
          · subst h
            rw [HX.out]
            exact HV.out
          · exact HALL.out j (by omega)
        clear YES HALL
        go_wp2
        go_roundw
        case rel => exact ⟨k + 1, by omega, by go_num, N1.out, NXT.out⟩
        case measure => simp [intOf]; omega
    · obtain rfl : k = bs.length := by omega
      have NO := hide (ctA_no hall)
      have HN := hide N
      clear hall hr N
      go_wp2
      go_ret
      exact ⟨-1, rfl, by rw [NO.out]; rfl, HN.out⟩
theorem certContains_any (w : World) (g : Nat) (a : Option Addr) (c : Nat) (bs : List (List Int)) (ps : List Plb) (hr : RdL w g a bs ps) (hn : bs.length ≤ 1048576) (hz : ∀ i, i < bs.length → (bs.getD i []).length ≤ 1048576) :
    Calls Tryz.prog 167 #[.slice a bs.length c, .func (Fn.func 166) #[] #[]] w fun e w' => e = .returned (.bool (ctA bs)) ∧ Below w.heap.size w w' := by
  have IX := hide (certIndex_any w g a c bs ps hr hn hz)
  clear hr hz
  generalize ctA bs = v at *
  go_enter Tryz.func167, Tryz.ntmps167
  go_wp2_with fail
  refine IX.out.mono ?_
  rintro e w1 ⟨r, rfl, hr, n1⟩
  have HR := hide hr
  have N1 := hide n1
  clear hr n1 IX
  go_wp2
  go_ret
  exact ⟨by rw [← HR.out]; rfl, N1.out⟩
def ceF (bs : List (List Int)) : Int := if bs.length = 0 then 8 else if 4 < bs.length then 8 else if ctA bs = true then 8 else 0
set_option maxHeartbeats 1000000 in
theorem certsFault_any (w : World) (q g : Nat) (a : Option Addr) (c : Nat) (bs : List (List Int)) (ps : List Plb) (hr : RdL w g a bs ps) (hn : bs.length ≤ 1048576) (hz : ∀ i, i < bs.length → (bs.getD i []).length ≤ 1048576) (h0 : w.cell? ⟨q, 0, none⟩ = some (.slice a bs.length c)) :
    Calls Tryz.prog 163 #[.pointer (some ⟨q, 0, none⟩)] w fun x w' => x = .returned (.int .i64 (ceF bs)) ∧ Below w.heap.size w w' := by
  have E := hide (show ceF bs = if bs.length = 0 then 8 else if 4 < bs.length then 8 else if ctA bs = true then 8 else 0 from rfl)
  have CC := hide (certContains_any w g a c bs ps hr hn hz)
  clear hr hz
  generalize ceF bs = f at *
  generalize ctA bs = v at *
  by_cases k0 : bs.length = 0
  · have EF : f = 8 := by rw [E.out, if_pos k0]
    subst EF
    have e0 : ((bs.length : Int) == 0) = true := by simp [k0]
    clear E CC k0
    go_enter Tryz.func163, Tryz.ntmps163
    go_wp2
    go_ret
    exact ⟨rfl, Below.refl _ _⟩
  · have e0 : ((bs.length : Int) == 0) = false := by rw [beq_eq_false_iff_ne]; omega
    by_cases k1 : 4 < bs.length
    · have EF : f = 8 := by rw [E.out, if_neg k0, if_pos k1]
      subst EF
      have d1 : decide ((4 : Int) < (bs.length : Int)) = true := by simp; omega
      clear E CC
      go_enter Tryz.func163, Tryz.ntmps163
      go_wp2
      go_ret
      exact ⟨rfl, Below.refl _ _⟩
    · have EF := hide (show f = if v = true then 8 else 0 by rw [E.out, if_neg k0, if_neg k1])
      have d1 : decide ((4 : Int) < (bs.length : Int)) = false := by simp; omega
      clear E
      go_enter Tryz.func163, Tryz.ntmps163
      go_wp2_with fail
      refine CC.out.mono ?_
      rintro e w1 ⟨rfl, n1⟩
      cases v with
      | false =>
        go_wp2
        go_ret
        exact ⟨by rw [EF.out]; rfl, n1⟩
      | true =>
        go_wp2
        go_ret
        exact ⟨by rw [EF.out]; rfl, n1⟩
end Go.Proofs.YtmfajpplagbfcaaGreatDoor
namespace Go.Proofs.YtmfajpplagbfcaaGreatDoor
set_option maxRecDepth 100000
open Go Go.RowKit
set_option maxHeartbeats 1000000 in
theorem certEqual_any (w : World) (g g' : Nat) (a b : Option Addr) (ca cb : Nat) (xs ys : List (List Int)) (ps qs : List Plb) (ha : RdL w g a xs ps) (hb : RdL w g' b ys qs) (hn : xs.length ≤ 1048576) (_hm : ys.length ≤ 1048576) (hx : ∀ i, i < xs.length → Byt (xs.getD i [])) (hy : ∀ i, i < ys.length → Byt (ys.getD i [])) :
    Calls Tryz.prog 71 #[.slice a xs.length ca, .slice b ys.length cb, .func (Fn.func 68) #[] #[]] w fun e w' => e = .returned (.bool (decide (xs = ys))) ∧ Below w.heap.size w w' := by
  by_cases hl : xs.length = ys.length
  · have d0 : ((xs.length : Int) != (ys.length : Int)) = false := by simp [hl]
    have E := hide (show ∀ k, xs.getD k [] ≠ ys.getD k [] → decide (xs = ys) = false from fun k hne => decide_eq_false fun h => hne (by rw [h]))
    have T := hide (show (∀ j, j < xs.length → xs.getD j [] = ys.getD j []) → decide (xs = ys) = true from fun hall => decide_eq_true (List.ext_getElem hl fun i h1 h2 => by
      have := hall i h1
      rw [List.getD_eq_getElem?_getD, List.getD_eq_getElem?_getD, List.getElem?_eq_getElem h1, List.getElem?_eq_getElem h2] at this
      exact this))
    have HY := hide (show ∀ i, i < xs.length → Byt (ys.getD i []) from fun i hi => hy i (by omega))
    have HB1 := hide (show ∀ W, Below w.heap.size w W → 0 < xs.length → ∃ off, b = some ⟨g', off, none⟩ ∧ ∀ i, i < xs.length → W.cell? ⟨g', off + i, none⟩ = some (.slice (qs.getD i plb0).a (ys.getD i []).length (qs.getD i plb0).c) from fun W n h => by
      obtain ⟨o, e, hc⟩ := (hb.up n).r (by omega)
      exact ⟨o, e, fun i hi => hc i (by omega)⟩)
    have HB2 := hide (show ∀ W, Below w.heap.size w W → ∀ i, i < xs.length → Rd W (qs.getD i plb0).q (qs.getD i plb0).a .u8 (ys.getD i []) from fun W n i hi => (hb.up n).b i (by omega))
    have HX := hide hx
    have HA := hide ha
    rw [← hl]
    generalize decide (xs = ys) = d at *
    clear hl hb ha hx hy
    go_enter Tryz.func71, Tryz.ntmps71
    go_wp2
    go_loopw [17] (fun i wr => ∃ (k : Nat), k ≤ xs.length ∧ i = .int .i64 k ∧ Below w.heap.size w wr ∧ ∀ j, j < k → xs.getD j [] = ys.getD j []) (fun i _ => xs.length - (intOf i).toNat)
    case atStart => exact ⟨0, Nat.zero_le _, rfl, Below.refl _ _, fun j hj => absurd hj (by omega)⟩
    case round =>
      obtain ⟨k, hk, rfl, N, hall⟩ := hrel
      by_cases hlt : k < xs.length
      · obtain ⟨off, rfl, hc⟩ := (HA.out.up N).r (by omega)
        obtain ⟨off', rfl, hc'⟩ := HB1.out wr N (by omega)
        have t0 : (k : Int) < (xs.length : Int) := by omega
        have c1 := hc k hlt
        have c2 := hc' k hlt
        have l1 := block_lt_of_cell c1
        have l2 := block_lt_of_cell c2
        have z1 : g ≠ wr.heap.size := by simp only at l1; omega
        have z2 : g' ≠ wr.heap.size := by simp only at l2; omega
        have z3 : wr.heap.size ≠ g := fun h => z1 h.symm
        have z4 : wr.heap.size ≠ g' := fun h => z2 h.symm
        have l3 : ∀ o, (wr.alloc o).cell? ⟨g', off' + k, none⟩ = some (.slice (qs.getD k plb0).a (ys.getD k []).length (qs.getD k plb0).c) := fun o => (World.cell?_of_block (a := ⟨g', off' + k, none⟩) (Below.heap_alloc wr o g' (by simpa using l2))).trans c2
        have BE := hide (show ∀ W, Below wr.heap.size wr W → _ from fun W n => blobEq_any W (ps.getD k plb0).q (qs.getD k plb0).q (ps.getD k plb0).a (qs.getD k plb0).a (ps.getD k plb0).c (qs.getD k plb0).c (xs.getD k []) (ys.getD k []) (((HA.out.up N).b k hlt).up n) ((HB2.out wr N k hlt).up n) (HX.out k hlt) (HY.out k hlt))
        have EK := hide (E.out k)
        have HALL := hide hall
        have HN := hide N
        have DY : Hid (decide (xs.getD k [] = ys.getD k []) = true → xs.getD k [] = ys.getD k []) := fun h => of_decide_eq_true h
        have DN : Hid (decide (xs.getD k [] = ys.getD k []) = false → xs.getD k [] ≠ ys.getD k []) := fun h => of_decide_eq_false h
        clear hc hc' E hall HB1 HB2 HA HX HY N
        generalize (ps.getD k plb0).a = pa at *
        generalize (ps.getD k plb0).c = pc at *
        generalize (qs.getD k plb0).a = qa at *
        generalize (qs.getD k plb0).c = qc at *
        generalize hx : xs.getD k [] = x at *
        generalize hy : ys.getD k [] = y at *
        have GX := hide hx
        have GY := hide hy
        clear hx hy
        generalize decide (x = y) = v at *
        generalize hxl : x.length = xl at *
        generalize hyl : y.length = yl at *
        clear hxl hyl
        go_wp2_with fail
        refine (BE.out _ ?_).mono ?_
        · exact ((Below.refl _ _).alloc (Nat.le_refl _) _).alloc (by simp) _
        rintro e w1 ⟨rfl, n1⟩
        have N1 := hide (nxt HN.out ((((Below.refl _ _).alloc (Nat.le_refl _) _).alloc (by simp) _).trans (n1.mono (by simp <;> omega))))
        clear BE n1 HN
        cases v with
        | true =>
          have XY := DY.out rfl
          have NXT : Hid (∀ j, j < k + 1 → xs.getD j [] = ys.getD j []) := fun j hj => by
            by_cases h : j = k
            · subst h
              rw [GX.out, GY.out, XY]
            · exact HALL.out j (by omega)
          clear XY HALL EK DY DN
          go_wp2
          go_roundw
          case rel => exact ⟨k + 1, by omega, by go_num, N1.out, NXT.out⟩
          case measure => simp [intOf]; omega
        | false =>
          have F := hide (EK.out (DN.out rfl))
          clear HALL EK DY DN
          go_wp2
          go_ret
          exact ⟨by rw [F.out]; rfl, N1.out⟩
      · obtain rfl : k = xs.length := by omega
        have F := hide (T.out hall)
        have HN := hide N
        clear hall E HB1 HB2 HA N
        go_wp2
        go_ret
        exact ⟨by rw [F.out]; rfl, HN.out⟩
  · have d0 : ((xs.length : Int) != (ys.length : Int)) = true := by simp; omega
    have F : Hid (decide (xs = ys) = false) := decide_eq_false fun h => hl (by rw [h])
    go_enter Tryz.func71, Tryz.ntmps71
    go_wp2
    go_ret
    exact ⟨by rw [F.out]; rfl, Below.refl _ _⟩
end Go.Proofs.YtmfajpplagbfcaaGreatDoor
namespace Go.Proofs.YtmfajpplagbfcaaGreatDoor
set_option maxRecDepth 100000
open Go Go.RowKit
section
variable (w : World) (k k' v v' ag ag' ea ea' : Int) (ho ho' : Array UInt8) (rs rs' : Bool) (a2 a2' a3 a3' a5 a5' a6 a6' a9 a9' a11 a11' a12 a12' : Option Addr) (n2 n2' c2 c2' n3 n3' c3 c3' n5 n5' c5 c5' n6 n6' c6 c6' n9 n9' c9 c9' n11 n11' c11 c11' n12 n12' c12 c12' : Nat)
set_option maxRecDepth 20000 in
set_option maxHeartbeats 4000000 in
theorem same_k (e : k ≠ k') :
    Calls Tryz.prog 39 #[.agg #[Value.int .i64 k, Value.int .i64 v, Value.slice a2 n2 c2, Value.slice a3 n3 c3, Value.string ⟨ho⟩, Value.slice a5 n5 c5, Value.slice a6 n6 c6, Value.int .i64 ag, Value.int .i64 ea, Value.slice a9 n9 c9, Value.bool rs, Value.slice a11 n11 c11, Value.slice a12 n12 c12], .agg #[Value.int .i64 k', Value.int .i64 v', Value.slice a2' n2' c2', Value.slice a3' n3' c3', Value.string ⟨ho'⟩, Value.slice a5' n5' c5', Value.slice a6' n6' c6', Value.int .i64 ag', Value.int .i64 ea', Value.slice a9' n9' c9', Value.bool rs', Value.slice a11' n11' c11', Value.slice a12' n12' c12']] w fun e w' => e = .returned (.bool false) ∧ Below w.heap.size w w' := by
  have N := hide (show Below w.heap.size w ((w.alloc (.cells #[Value.int .i64 k, Value.int .i64 v, Value.slice a2 n2 c2, Value.slice a3 n3 c3, Value.string ⟨ho⟩, Value.slice a5 n5 c5, Value.slice a6 n6 c6, Value.int .i64 ag, Value.int .i64 ea, Value.slice a9 n9 c9, Value.bool rs, Value.slice a11 n11 c11, Value.slice a12 n12 c12] 26)).alloc (.cells #[Value.int .i64 k', Value.int .i64 v', Value.slice a2' n2' c2', Value.slice a3' n3' c3', Value.string ⟨ho'⟩, Value.slice a5' n5' c5', Value.slice a6' n6' c6', Value.int .i64 ag', Value.int .i64 ea', Value.slice a9' n9' c9', Value.bool rs', Value.slice a11' n11' c11', Value.slice a12' n12' c12'] 26)) from ((Below.refl _ _).alloc (Nat.le_refl _) _).alloc (by simp) _)
  have d : decide (k = k') = false := decide_eq_false e
  have q : (k == k') = false := by simpa using e
  go_enter Tryz.func39, Tryz.ntmps39
  go_wp2
  go_ret
  exact ⟨rfl, N.out⟩
set_option maxRecDepth 20000 in
set_option maxHeartbeats 4000000 in
theorem same_v (e : v ≠ v') :
    Calls Tryz.prog 39 #[.agg #[Value.int .i64 k, Value.int .i64 v, Value.slice a2 n2 c2, Value.slice a3 n3 c3, Value.string ⟨ho⟩, Value.slice a5 n5 c5, Value.slice a6 n6 c6, Value.int .i64 ag, Value.int .i64 ea, Value.slice a9 n9 c9, Value.bool rs, Value.slice a11 n11 c11, Value.slice a12 n12 c12], .agg #[Value.int .i64 k, Value.int .i64 v', Value.slice a2' n2' c2', Value.slice a3' n3' c3', Value.string ⟨ho'⟩, Value.slice a5' n5' c5', Value.slice a6' n6' c6', Value.int .i64 ag', Value.int .i64 ea', Value.slice a9' n9' c9', Value.bool rs', Value.slice a11' n11' c11', Value.slice a12' n12' c12']] w fun e w' => e = .returned (.bool false) ∧ Below w.heap.size w w' := by
  have N := hide (show Below w.heap.size w ((w.alloc (.cells #[Value.int .i64 k, Value.int .i64 v, Value.slice a2 n2 c2, Value.slice a3 n3 c3, Value.string ⟨ho⟩, Value.slice a5 n5 c5, Value.slice a6 n6 c6, Value.int .i64 ag, Value.int .i64 ea, Value.slice a9 n9 c9, Value.bool rs, Value.slice a11 n11 c11, Value.slice a12 n12 c12] 26)).alloc (.cells #[Value.int .i64 k, Value.int .i64 v', Value.slice a2' n2' c2', Value.slice a3' n3' c3', Value.string ⟨ho'⟩, Value.slice a5' n5' c5', Value.slice a6' n6' c6', Value.int .i64 ag', Value.int .i64 ea', Value.slice a9' n9' c9', Value.bool rs', Value.slice a11' n11' c11', Value.slice a12' n12' c12'] 26)) from ((Below.refl _ _).alloc (Nat.le_refl _) _).alloc (by simp) _)
  have d : decide (v = v') = false := decide_eq_false e
  have q : (v == v') = false := by simpa using e
  go_enter Tryz.func39, Tryz.ntmps39
  go_wp2
  go_ret
  exact ⟨rfl, N.out⟩
end
end Go.Proofs.YtmfajpplagbfcaaGreatDoor
namespace Go.Proofs.YtmfajpplagbfcaaGreatDoor
set_option maxRecDepth 100000
open Go Go.RowKit
section
variable (w : World) (k k' v v' ag ag' ea ea' : Int) (ho ho' : Array UInt8) (rs rs' : Bool) (a2 a2' a3 a3' a5 a5' a6 a6' a9 a9' a11 a11' a12 a12' : Option Addr) (n2 n2' c2 c2' n3 n3' c3 c3' n5 n5' c5 c5' n6 n6' c6 c6' n9 n9' c9 c9' n11 n11' c11 c11' n12 n12' c12 c12' : Nat)
set_option maxRecDepth 20000 in
set_option maxHeartbeats 4000000 in
theorem same_ho (e : ho ≠ ho') :
    Calls Tryz.prog 39 #[.agg #[Value.int .i64 k, Value.int .i64 v, Value.slice a2 n2 c2, Value.slice a3 n3 c3, Value.string ⟨ho⟩, Value.slice a5 n5 c5, Value.slice a6 n6 c6, Value.int .i64 ag, Value.int .i64 ea, Value.slice a9 n9 c9, Value.bool rs, Value.slice a11 n11 c11, Value.slice a12 n12 c12], .agg #[Value.int .i64 k, Value.int .i64 v, Value.slice a2' n2' c2', Value.slice a3' n3' c3', Value.string ⟨ho'⟩, Value.slice a5' n5' c5', Value.slice a6' n6' c6', Value.int .i64 ag', Value.int .i64 ea', Value.slice a9' n9' c9', Value.bool rs', Value.slice a11' n11' c11', Value.slice a12' n12' c12']] w fun e w' => e = .returned (.bool false) ∧ Below w.heap.size w w' := by
  have N := hide (show Below w.heap.size w ((w.alloc (.cells #[Value.int .i64 k, Value.int .i64 v, Value.slice a2 n2 c2, Value.slice a3 n3 c3, Value.string ⟨ho⟩, Value.slice a5 n5 c5, Value.slice a6 n6 c6, Value.int .i64 ag, Value.int .i64 ea, Value.slice a9 n9 c9, Value.bool rs, Value.slice a11 n11 c11, Value.slice a12 n12 c12] 26)).alloc (.cells #[Value.int .i64 k, Value.int .i64 v, Value.slice a2' n2' c2', Value.slice a3' n3' c3', Value.string ⟨ho'⟩, Value.slice a5' n5' c5', Value.slice a6' n6' c6', Value.int .i64 ag', Value.int .i64 ea', Value.slice a9' n9' c9', Value.bool rs', Value.slice a11' n11' c11', Value.slice a12' n12' c12'] 26)) from ((Below.refl _ _).alloc (Nat.le_refl _) _).alloc (by simp) _)
  have d : decide (ho = ho') = false := decide_eq_false e
  have q : (ho == ho') = false := by simpa using e
  have ne : (ByteArray.mk ho).toList ≠ (ByteArray.mk ho').toList := fun h => e (by injection toList_inj h)
  have p : ((ByteArray.mk ho).toList == (ByteArray.mk ho').toList) = false := by rw [beq_eq_false_iff_ne]; exact ne
  have p' : decide ((ByteArray.mk ho).toList = (ByteArray.mk ho').toList) = false := decide_eq_false ne
  go_enter Tryz.func39, Tryz.ntmps39
  go_wp2
  go_ret
  exact ⟨rfl, N.out⟩
set_option maxRecDepth 20000 in
set_option maxHeartbeats 4000000 in
theorem same_ag (e : ag ≠ ag') :
    Calls Tryz.prog 39 #[.agg #[Value.int .i64 k, Value.int .i64 v, Value.slice a2 n2 c2, Value.slice a3 n3 c3, Value.string ⟨ho⟩, Value.slice a5 n5 c5, Value.slice a6 n6 c6, Value.int .i64 ag, Value.int .i64 ea, Value.slice a9 n9 c9, Value.bool rs, Value.slice a11 n11 c11, Value.slice a12 n12 c12], .agg #[Value.int .i64 k, Value.int .i64 v, Value.slice a2' n2' c2', Value.slice a3' n3' c3', Value.string ⟨ho⟩, Value.slice a5' n5' c5', Value.slice a6' n6' c6', Value.int .i64 ag', Value.int .i64 ea', Value.slice a9' n9' c9', Value.bool rs', Value.slice a11' n11' c11', Value.slice a12' n12' c12']] w fun e w' => e = .returned (.bool false) ∧ Below w.heap.size w w' := by
  have N := hide (show Below w.heap.size w ((w.alloc (.cells #[Value.int .i64 k, Value.int .i64 v, Value.slice a2 n2 c2, Value.slice a3 n3 c3, Value.string ⟨ho⟩, Value.slice a5 n5 c5, Value.slice a6 n6 c6, Value.int .i64 ag, Value.int .i64 ea, Value.slice a9 n9 c9, Value.bool rs, Value.slice a11 n11 c11, Value.slice a12 n12 c12] 26)).alloc (.cells #[Value.int .i64 k, Value.int .i64 v, Value.slice a2' n2' c2', Value.slice a3' n3' c3', Value.string ⟨ho⟩, Value.slice a5' n5' c5', Value.slice a6' n6' c6', Value.int .i64 ag', Value.int .i64 ea', Value.slice a9' n9' c9', Value.bool rs', Value.slice a11' n11' c11', Value.slice a12' n12' c12'] 26)) from ((Below.refl _ _).alloc (Nat.le_refl _) _).alloc (by simp) _)
  have d : decide (ag = ag') = false := decide_eq_false e
  have q : (ag == ag') = false := by simpa using e
  go_enter Tryz.func39, Tryz.ntmps39
  go_wp2
  go_ret
  exact ⟨rfl, N.out⟩
end
end Go.Proofs.YtmfajpplagbfcaaGreatDoor
namespace Go.Proofs.YtmfajpplagbfcaaGreatDoor
set_option maxRecDepth 100000
open Go Go.RowKit
section
variable (w : World) (k k' v v' ag ag' ea ea' : Int) (ho ho' : Array UInt8) (rs rs' : Bool) (a2 a2' a3 a3' a5 a5' a6 a6' a9 a9' a11 a11' a12 a12' : Option Addr) (n2 n2' c2 c2' n3 n3' c3 c3' n5 n5' c5 c5' n6 n6' c6 c6' n9 n9' c9 c9' n11 n11' c11 c11' n12 n12' c12 c12' : Nat)
set_option maxRecDepth 20000 in
set_option maxHeartbeats 4000000 in
theorem same_ea (e : ea ≠ ea') :
    Calls Tryz.prog 39 #[.agg #[Value.int .i64 k, Value.int .i64 v, Value.slice a2 n2 c2, Value.slice a3 n3 c3, Value.string ⟨ho⟩, Value.slice a5 n5 c5, Value.slice a6 n6 c6, Value.int .i64 ag, Value.int .i64 ea, Value.slice a9 n9 c9, Value.bool rs, Value.slice a11 n11 c11, Value.slice a12 n12 c12], .agg #[Value.int .i64 k, Value.int .i64 v, Value.slice a2' n2' c2', Value.slice a3' n3' c3', Value.string ⟨ho⟩, Value.slice a5' n5' c5', Value.slice a6' n6' c6', Value.int .i64 ag, Value.int .i64 ea', Value.slice a9' n9' c9', Value.bool rs', Value.slice a11' n11' c11', Value.slice a12' n12' c12']] w fun e w' => e = .returned (.bool false) ∧ Below w.heap.size w w' := by
  have N := hide (show Below w.heap.size w ((w.alloc (.cells #[Value.int .i64 k, Value.int .i64 v, Value.slice a2 n2 c2, Value.slice a3 n3 c3, Value.string ⟨ho⟩, Value.slice a5 n5 c5, Value.slice a6 n6 c6, Value.int .i64 ag, Value.int .i64 ea, Value.slice a9 n9 c9, Value.bool rs, Value.slice a11 n11 c11, Value.slice a12 n12 c12] 26)).alloc (.cells #[Value.int .i64 k, Value.int .i64 v, Value.slice a2' n2' c2', Value.slice a3' n3' c3', Value.string ⟨ho⟩, Value.slice a5' n5' c5', Value.slice a6' n6' c6', Value.int .i64 ag, Value.int .i64 ea', Value.slice a9' n9' c9', Value.bool rs', Value.slice a11' n11' c11', Value.slice a12' n12' c12'] 26)) from ((Below.refl _ _).alloc (Nat.le_refl _) _).alloc (by simp) _)
  have d : decide (ea = ea') = false := decide_eq_false e
  have q : (ea == ea') = false := by simpa using e
  go_enter Tryz.func39, Tryz.ntmps39
  go_wp2
  go_ret
  exact ⟨rfl, N.out⟩
set_option maxRecDepth 20000 in
set_option maxHeartbeats 4000000 in
theorem same_rs (e : rs ≠ rs') :
    Calls Tryz.prog 39 #[.agg #[Value.int .i64 k, Value.int .i64 v, Value.slice a2 n2 c2, Value.slice a3 n3 c3, Value.string ⟨ho⟩, Value.slice a5 n5 c5, Value.slice a6 n6 c6, Value.int .i64 ag, Value.int .i64 ea, Value.slice a9 n9 c9, Value.bool rs, Value.slice a11 n11 c11, Value.slice a12 n12 c12], .agg #[Value.int .i64 k, Value.int .i64 v, Value.slice a2' n2' c2', Value.slice a3' n3' c3', Value.string ⟨ho⟩, Value.slice a5' n5' c5', Value.slice a6' n6' c6', Value.int .i64 ag, Value.int .i64 ea, Value.slice a9' n9' c9', Value.bool rs', Value.slice a11' n11' c11', Value.slice a12' n12' c12']] w fun e w' => e = .returned (.bool false) ∧ Below w.heap.size w w' := by
  have N := hide (show Below w.heap.size w ((w.alloc (.cells #[Value.int .i64 k, Value.int .i64 v, Value.slice a2 n2 c2, Value.slice a3 n3 c3, Value.string ⟨ho⟩, Value.slice a5 n5 c5, Value.slice a6 n6 c6, Value.int .i64 ag, Value.int .i64 ea, Value.slice a9 n9 c9, Value.bool rs, Value.slice a11 n11 c11, Value.slice a12 n12 c12] 26)).alloc (.cells #[Value.int .i64 k, Value.int .i64 v, Value.slice a2' n2' c2', Value.slice a3' n3' c3', Value.string ⟨ho⟩, Value.slice a5' n5' c5', Value.slice a6' n6' c6', Value.int .i64 ag, Value.int .i64 ea, Value.slice a9' n9' c9', Value.bool rs', Value.slice a11' n11' c11', Value.slice a12' n12' c12'] 26)) from ((Below.refl _ _).alloc (Nat.le_refl _) _).alloc (by simp) _)
  have d : decide (rs = rs') = false := decide_eq_false e
  have q : (rs == rs') = false := by simpa using e
  go_enter Tryz.func39, Tryz.ntmps39
  go_wp2
  go_ret
  exact ⟨rfl, N.out⟩
end
end Go.Proofs.YtmfajpplagbfcaaGreatDoor
namespace Go.Proofs.YtmfajpplagbfcaaGreatDoor
set_option maxRecDepth 100000
open Go Go.RowKit
set_option maxRecDepth 20000 in
set_option maxHeartbeats 8000000 in
theorem same_lists (w : World) (k v ag ea : Int) (ho : Array UInt8) (rs b1 b2 b3 b4 b5 b6 b7 : Bool) (a2 a2' a3 a3' a5 a5' a6 a6' a9 a9' a11 a11' a12 a12' : Option Addr) (n2 n2' c2 c2' n3 n3' c3 c3' n5 n5' c5 c5' n6 n6' c6 c6' n9 n9' c9 c9' n11 n11' c11 c11' n12 n12' c12 c12' : Nat)
    (H2 : ∀ W, Below w.heap.size w W → Calls Tryz.prog 69 #[.slice a2 n2 c2, .slice a2' n2' c2'] W fun e w' => e = .returned (.bool b1) ∧ w' = W)
    (H3 : ∀ W, Below w.heap.size w W → Calls Tryz.prog 69 #[.slice a3 n3 c3, .slice a3' n3' c3'] W fun e w' => e = .returned (.bool b2) ∧ w' = W)
    (H6 : ∀ W, Below w.heap.size w W → Calls Tryz.prog 69 #[.slice a6 n6 c6, .slice a6' n6' c6'] W fun e w' => e = .returned (.bool b3) ∧ w' = W)
    (H9 : ∀ W, Below w.heap.size w W → Calls Tryz.prog 69 #[.slice a9 n9 c9, .slice a9' n9' c9'] W fun e w' => e = .returned (.bool b4) ∧ w' = W)
    (H12 : ∀ W, Below w.heap.size w W → Calls Tryz.prog 69 #[.slice a12 n12 c12, .slice a12' n12' c12'] W fun e w' => e = .returned (.bool b5) ∧ w' = W)
    (H5 : ∀ W, Below w.heap.size w W → Calls Tryz.prog 70 #[.slice a5 n5 c5, .slice a5' n5' c5'] W fun e w' => e = .returned (.bool b6) ∧ Below W.heap.size W w')
    (H11 : ∀ W, Below w.heap.size w W → Calls Tryz.prog 71 #[.slice a11 n11 c11, .slice a11' n11' c11', .func (Fn.func 68) #[] #[]] W fun e w' => e = .returned (.bool b7) ∧ Below W.heap.size W w') :
    Calls Tryz.prog 39 #[.agg #[Value.int .i64 k, Value.int .i64 v, Value.slice a2 n2 c2, Value.slice a3 n3 c3, Value.string ⟨ho⟩, Value.slice a5 n5 c5, Value.slice a6 n6 c6, Value.int .i64 ag, Value.int .i64 ea, Value.slice a9 n9 c9, Value.bool rs, Value.slice a11 n11 c11, Value.slice a12 n12 c12], .agg #[Value.int .i64 k, Value.int .i64 v, Value.slice a2' n2' c2', Value.slice a3' n3' c3', Value.string ⟨ho⟩, Value.slice a5' n5' c5', Value.slice a6' n6' c6', Value.int .i64 ag, Value.int .i64 ea, Value.slice a9' n9' c9', Value.bool rs, Value.slice a11' n11' c11', Value.slice a12' n12' c12']] w fun e w' => e = .returned (.bool (b1 && (b2 && (b3 && (b4 && (b5 && (b6 && b7))))))) ∧ Below w.heap.size w w' := by
  have N := hide (show Below w.heap.size w ((w.alloc (.cells #[Value.int .i64 k, Value.int .i64 v, Value.slice a2 n2 c2, Value.slice a3 n3 c3, Value.string ⟨ho⟩, Value.slice a5 n5 c5, Value.slice a6 n6 c6, Value.int .i64 ag, Value.int .i64 ea, Value.slice a9 n9 c9, Value.bool rs, Value.slice a11 n11 c11, Value.slice a12 n12 c12] 26)).alloc (.cells #[Value.int .i64 k, Value.int .i64 v, Value.slice a2' n2' c2', Value.slice a3' n3' c3', Value.string ⟨ho⟩, Value.slice a5' n5' c5', Value.slice a6' n6' c6', Value.int .i64 ag, Value.int .i64 ea, Value.slice a9' n9' c9', Value.bool rs, Value.slice a11' n11' c11', Value.slice a12' n12' c12'] 26)) from ((Below.refl _ _).alloc (Nat.le_refl _) _).alloc (by simp) _)
  have C2 := hide H2
  have C3 := hide H3
  have C6 := hide H6
  have C9 := hide H9
  have C12 := hide H12
  have C5 := hide H5
  have C11 := hide H11
  clear H2 H3 H6 H9 H12 H5 H11
  generalize hres : (b1 && (b2 && (b3 && (b4 && (b5 && (b6 && b7)))))) = res
  have R := hide hres
  clear hres
  go_enter Tryz.func39, Tryz.ntmps39
  go_wp2_with fail
  refine (C2.out _ N.out).mono ?_
  rintro e w1 ⟨rfl, rfl⟩
  clear C2
  cases b1 with
  | false =>
    obtain rfl : false = res := by rw [← R.out]; simp
    clear R
    go_wp2
    go_ret
    exact ⟨rfl, N.out⟩
  | true =>
    go_wp2_with fail
    refine (C3.out _ N.out).mono ?_
    rintro e w1 ⟨rfl, rfl⟩
    clear C3
    cases b2 with
    | false =>
      obtain rfl : false = res := by rw [← R.out]; simp
      clear R
      go_wp2
      go_ret
      exact ⟨rfl, N.out⟩
    | true =>
      go_wp2_with fail
      refine (C6.out _ N.out).mono ?_
      rintro e w1 ⟨rfl, rfl⟩
      clear C6
      cases b3 with
      | false =>
        obtain rfl : false = res := by rw [← R.out]; simp
        clear R
        go_wp2
        go_ret
        exact ⟨rfl, N.out⟩
      | true =>
        go_wp2_with fail
        refine (C9.out _ N.out).mono ?_
        rintro e w1 ⟨rfl, rfl⟩
        clear C9
        cases b4 with
        | false =>
          obtain rfl : false = res := by rw [← R.out]; simp
          clear R
          go_wp2
          go_ret
          exact ⟨rfl, N.out⟩
        | true =>
          go_wp2_with fail
          refine (C12.out _ N.out).mono ?_
          rintro e w1 ⟨rfl, rfl⟩
          clear C12
          cases b5 with
          | false =>
            obtain rfl : false = res := by rw [← R.out]; simp
            clear R
            go_wp2
            go_ret
            exact ⟨rfl, N.out⟩
          | true =>
            go_wp2_with fail
            refine (C5.out _ N.out).mono ?_
            rintro e w1 ⟨rfl, n1⟩
            have N1 := hide (N.out.trans (n1.mono N.out.size))
            have l11 : w1.cell? ⟨w.heap.size, 11, none⟩ = some (.slice a11 n11 c11) := (((RwC.new w [Value.int .i64 k, Value.int .i64 v, Value.slice a2 n2 c2, Value.slice a3 n3 c3, Value.string ⟨ho⟩, Value.slice a5 n5 c5, Value.slice a6 n6 c6, Value.int .i64 ag, Value.int .i64 ea, Value.slice a9 n9 c9, Value.bool rs, Value.slice a11 n11 c11, Value.slice a12 n12 c12] 26).up ((Below.refl _ _).alloc (Nat.le_refl _) _)).up n1).cell 11
            have l12 : w1.cell? ⟨w.heap.size + 1, 11, none⟩ = some (.slice a11' n11' c11') := by
              have h := ((RwC.new (w.alloc (.cells #[Value.int .i64 k, Value.int .i64 v, Value.slice a2 n2 c2, Value.slice a3 n3 c3, Value.string ⟨ho⟩, Value.slice a5 n5 c5, Value.slice a6 n6 c6, Value.int .i64 ag, Value.int .i64 ea, Value.slice a9 n9 c9, Value.bool rs, Value.slice a11 n11 c11, Value.slice a12 n12 c12] 26)) [Value.int .i64 k, Value.int .i64 v, Value.slice a2' n2' c2', Value.slice a3' n3' c3', Value.string ⟨ho⟩, Value.slice a5' n5' c5', Value.slice a6' n6' c6', Value.int .i64 ag, Value.int .i64 ea, Value.slice a9' n9' c9', Value.bool rs, Value.slice a11' n11' c11', Value.slice a12' n12' c12'] 26).up n1).cell 11
              rw [World.size_alloc] at h
              exact h
            clear n1 C5 N
            cases b6 with
            | false =>
              obtain rfl : false = res := by rw [← R.out]; simp
              clear R
              go_wp2
              go_ret
              exact ⟨rfl, N1.out⟩
            | true =>
              go_wp2_with fail
              refine (C11.out _ N1.out).mono ?_
              rintro e w2 ⟨rfl, n2⟩
              have N2 := hide (N1.out.trans (n2.mono N1.out.size))
              clear n2
              cases b7 with
              | false =>
                obtain rfl : false = res := by rw [← R.out]; simp
                clear R
                go_wp2
                go_ret
                exact ⟨rfl, N2.out⟩
              | true =>
                obtain rfl : true = res := by rw [← R.out]; rfl
                clear R
                go_wp2
                go_ret
                exact ⟨rfl, N2.out⟩
end Go.Proofs.YtmfajpplagbfcaaGreatDoor
namespace Go.Proofs.YtmfajpplagbfcaaGreatDoor
set_option maxRecDepth 100000
open Go Go.RowKit
structure Msg where
  k : Int
  v : Int
  r : List Int
  s : List Int
  ho : List UInt8
  pr : List (List UInt8)
  ti : List Int
  ag : Int
  ea : Int
  bi : List Int
  rs : Bool
  ce : List (List Int)
  pf : List Int
structure MQ where
  a2 : Option Addr
  c2 : Nat
  g2 : Nat
  a3 : Option Addr
  c3 : Nat
  g3 : Nat
  a5 : Option Addr
  c5 : Nat
  g5 : Nat
  a6 : Option Addr
  c6 : Nat
  g6 : Nat
  a9 : Option Addr
  c9 : Nat
  g9 : Nat
  a11 : Option Addr
  c11 : Nat
  g11 : Nat
  a12 : Option Addr
  c12 : Nat
  g12 : Nat
  ps : List Plb
def mgV (p : MQ) (m : Msg) : Array Value := #[.int .i64 m.k, .int .i64 m.v, .slice p.a2 m.r.length p.c2, .slice p.a3 m.s.length p.c3, .string ⟨⟨m.ho⟩⟩, .slice p.a5 m.pr.length p.c5, .slice p.a6 m.ti.length p.c6, .int .i64 m.ag, .int .i64 m.ea, .slice p.a9 m.bi.length p.c9, .bool m.rs, .slice p.a11 m.ce.length p.c11, .slice p.a12 m.pf.length p.c12]
structure HasM (w : World) (p : MQ) (m : Msg) : Prop where
  r : Rd w p.g2 p.a2 .u8 m.r
  s : Rd w p.g3 p.a3 .u8 m.s
  pr : RdT w p.g5 p.a5 m.pr
  ti : Rd w p.g6 p.a6 .u8 m.ti
  bi : Rd w p.g9 p.a9 .u8 m.bi
  ce : RdL w p.g11 p.a11 m.ce p.ps
  pf : Rd w p.g12 p.a12 .u8 m.pf
  prC : m.pr.length ≤ p.c5
theorem HasM.up {w w' : World} {p : MQ} {m : Msg} (h : HasM w p m) (n : Below w.heap.size w w') : HasM w' p m := ⟨h.r.up n, h.s.up n, h.pr.up n, h.ti.up n, h.bi.up n, h.ce.up n, h.pf.up n, h.prC⟩
structure IsM (m : Msg) : Prop where
  rB : Byt m.r
  sB : Byt m.s
  tiB : Byt m.ti
  biB : Byt m.bi
  pfB : Byt m.pf
  ceB : ∀ i, i < m.ce.length → Byt (m.ce.getD i [])
  rL : m.r.length ≤ 1048576
  sL : m.s.length ≤ 1048576
  prL : m.pr.length ≤ 1048576
  tiL : m.ti.length ≤ 1048576
  biL : m.bi.length ≤ 1048576
  ceL : m.ce.length ≤ 1048576
  pfL : m.pf.length ≤ 1048576
  ceZ : ∀ i, i < m.ce.length → (m.ce.getD i []).length ≤ 1048576
  hoL : m.ho.length ≤ 1048576
  prZ : ∀ l ∈ m.pr, l.length ≤ 1048576
def sameM (m m' : Msg) : Bool := decide (m.k = m'.k) && (decide (m.v = m'.v) && (decide (m.ho = m'.ho) && (decide (m.ag = m'.ag) && (decide (m.ea = m'.ea) && (decide (m.rs = m'.rs) && (decide (m.r = m'.r) && (decide (m.s = m'.s) && (decide (m.ti = m'.ti) && (decide (m.bi = m'.bi) && (decide (m.pf = m'.pf) && (decide (m.pr = m'.pr) && (decide (m.ce = m'.ce)))))))))))))
set_option maxHeartbeats 1000000 in
theorem isSame_any (w : World) (p p' : MQ) (m m' : Msg) (h : HasM w p m) (h' : HasM w p' m') (i : IsM m) (i' : IsM m') :
    Calls Tryz.prog 39 #[.agg (mgV p m), .agg (mgV p' m')] w fun e w' => e = .returned (.bool (sameM m m')) ∧ Below w.heap.size w w' := by
  unfold mgV
  by_cases e0 : m.k = m'.k
  rotate_left
  · refine (same_k w m.k m'.k m.v m'.v m.ag m'.ag m.ea m'.ea ⟨m.ho⟩ ⟨m'.ho⟩ m.rs m'.rs p.a2 p'.a2 p.a3 p'.a3 p.a5 p'.a5 p.a6 p'.a6 p.a9 p'.a9 p.a11 p'.a11 p.a12 p'.a12 m.r.length m'.r.length p.c2 p'.c2 m.s.length m'.s.length p.c3 p'.c3 m.pr.length m'.pr.length p.c5 p'.c5 m.ti.length m'.ti.length p.c6 p'.c6 m.bi.length m'.bi.length p.c9 p'.c9 m.ce.length m'.ce.length p.c11 p'.c11 m.pf.length m'.pf.length p.c12 p'.c12 e0).mono ?_
    rintro e w1 ⟨rfl, n⟩
    exact ⟨by simp [sameM, e0], n⟩
  rw [← e0]
  by_cases e1 : m.v = m'.v
  rotate_left
  · refine (same_v w m.k m.v m'.v m.ag m'.ag m.ea m'.ea ⟨m.ho⟩ ⟨m'.ho⟩ m.rs m'.rs p.a2 p'.a2 p.a3 p'.a3 p.a5 p'.a5 p.a6 p'.a6 p.a9 p'.a9 p.a11 p'.a11 p.a12 p'.a12 m.r.length m'.r.length p.c2 p'.c2 m.s.length m'.s.length p.c3 p'.c3 m.pr.length m'.pr.length p.c5 p'.c5 m.ti.length m'.ti.length p.c6 p'.c6 m.bi.length m'.bi.length p.c9 p'.c9 m.ce.length m'.ce.length p.c11 p'.c11 m.pf.length m'.pf.length p.c12 p'.c12 e1).mono ?_
    rintro e w1 ⟨rfl, n⟩
    exact ⟨by simp [sameM, e1], n⟩
  rw [← e1]
  by_cases e2 : m.ho = m'.ho
  rotate_left
  · refine (same_ho w m.k m.v m.ag m'.ag m.ea m'.ea ⟨m.ho⟩ ⟨m'.ho⟩ m.rs m'.rs p.a2 p'.a2 p.a3 p'.a3 p.a5 p'.a5 p.a6 p'.a6 p.a9 p'.a9 p.a11 p'.a11 p.a12 p'.a12 m.r.length m'.r.length p.c2 p'.c2 m.s.length m'.s.length p.c3 p'.c3 m.pr.length m'.pr.length p.c5 p'.c5 m.ti.length m'.ti.length p.c6 p'.c6 m.bi.length m'.bi.length p.c9 p'.c9 m.ce.length m'.ce.length p.c11 p'.c11 m.pf.length m'.pf.length p.c12 p'.c12 (fun h => e2 (by injection h))).mono ?_
    rintro e w1 ⟨rfl, n⟩
    exact ⟨by simp [sameM, e2], n⟩
  rw [← e2]
  by_cases e3 : m.ag = m'.ag
  rotate_left
  · refine (same_ag w m.k m.v m.ag m'.ag m.ea m'.ea ⟨m.ho⟩ m.rs m'.rs p.a2 p'.a2 p.a3 p'.a3 p.a5 p'.a5 p.a6 p'.a6 p.a9 p'.a9 p.a11 p'.a11 p.a12 p'.a12 m.r.length m'.r.length p.c2 p'.c2 m.s.length m'.s.length p.c3 p'.c3 m.pr.length m'.pr.length p.c5 p'.c5 m.ti.length m'.ti.length p.c6 p'.c6 m.bi.length m'.bi.length p.c9 p'.c9 m.ce.length m'.ce.length p.c11 p'.c11 m.pf.length m'.pf.length p.c12 p'.c12 e3).mono ?_
    rintro e w1 ⟨rfl, n⟩
    exact ⟨by simp [sameM, e3], n⟩
  rw [← e3]
  by_cases e4 : m.ea = m'.ea
  rotate_left
  · refine (same_ea w m.k m.v m.ag m.ea m'.ea ⟨m.ho⟩ m.rs m'.rs p.a2 p'.a2 p.a3 p'.a3 p.a5 p'.a5 p.a6 p'.a6 p.a9 p'.a9 p.a11 p'.a11 p.a12 p'.a12 m.r.length m'.r.length p.c2 p'.c2 m.s.length m'.s.length p.c3 p'.c3 m.pr.length m'.pr.length p.c5 p'.c5 m.ti.length m'.ti.length p.c6 p'.c6 m.bi.length m'.bi.length p.c9 p'.c9 m.ce.length m'.ce.length p.c11 p'.c11 m.pf.length m'.pf.length p.c12 p'.c12 e4).mono ?_
    rintro e w1 ⟨rfl, n⟩
    exact ⟨by simp [sameM, e4], n⟩
  rw [← e4]
  by_cases e5 : m.rs = m'.rs
  rotate_left
  · refine (same_rs w m.k m.v m.ag m.ea ⟨m.ho⟩ m.rs m'.rs p.a2 p'.a2 p.a3 p'.a3 p.a5 p'.a5 p.a6 p'.a6 p.a9 p'.a9 p.a11 p'.a11 p.a12 p'.a12 m.r.length m'.r.length p.c2 p'.c2 m.s.length m'.s.length p.c3 p'.c3 m.pr.length m'.pr.length p.c5 p'.c5 m.ti.length m'.ti.length p.c6 p'.c6 m.bi.length m'.bi.length p.c9 p'.c9 m.ce.length m'.ce.length p.c11 p'.c11 m.pf.length m'.pf.length p.c12 p'.c12 e5).mono ?_
    rintro e w1 ⟨rfl, n⟩
    exact ⟨by simp [sameM, e5], n⟩
  rw [← e5]
  refine (same_lists w m.k m.v m.ag m.ea ⟨m.ho⟩ m.rs (decide (m.r = m'.r)) (decide (m.s = m'.s)) (decide (m.ti = m'.ti)) (decide (m.bi = m'.bi)) (decide (m.pf = m'.pf)) (decide (m.pr = m'.pr)) (decide (m.ce = m'.ce)) p.a2 p'.a2 p.a3 p'.a3 p.a5 p'.a5 p.a6 p'.a6 p.a9 p'.a9 p.a11 p'.a11 p.a12 p'.a12 m.r.length m'.r.length p.c2 p'.c2 m.s.length m'.s.length p.c3 p'.c3 m.pr.length m'.pr.length p.c5 p'.c5 m.ti.length m'.ti.length p.c6 p'.c6 m.bi.length m'.bi.length p.c9 p'.c9 m.ce.length m'.ce.length p.c11 p'.c11 m.pf.length m'.pf.length p.c12 p'.c12
    (fun W n => bytesEqual_any W p.g2 p'.g2 p.a2 p'.a2 p.c2 p'.c2 m.r m'.r (h.r.up n) (h'.r.up n) i.rB i'.rB)
    (fun W n => bytesEqual_any W p.g3 p'.g3 p.a3 p'.a3 p.c3 p'.c3 m.s m'.s (h.s.up n) (h'.s.up n) i.sB i'.sB)
    (fun W n => bytesEqual_any W p.g6 p'.g6 p.a6 p'.a6 p.c6 p'.c6 m.ti m'.ti (h.ti.up n) (h'.ti.up n) i.tiB i'.tiB)
    (fun W n => bytesEqual_any W p.g9 p'.g9 p.a9 p'.a9 p.c9 p'.c9 m.bi m'.bi (h.bi.up n) (h'.bi.up n) i.biB i'.biB)
    (fun W n => bytesEqual_any W p.g12 p'.g12 p.a12 p'.a12 p.c12 p'.c12 m.pf m'.pf (h.pf.up n) (h'.pf.up n) i.pfB i'.pfB)
    (fun W n => equalTexts_any W p.g5 p'.g5 p.a5 p'.a5 p.c5 p'.c5 m.pr m'.pr (h.pr.up n) (h'.pr.up n) i.prL i'.prL)
    (fun W n => certEqual_any W p.g11 p'.g11 p.a11 p'.a11 p.c11 p'.c11 m.ce m'.ce p.ps p'.ps (h.ce.up n) (h'.ce.up n) i.ceL i'.ceL i.ceB i'.ceB)).mono ?_
  rintro e w1 ⟨rfl, n⟩
  exact ⟨by simp [sameM, e0, e1, e2, e3, e4, e5], n⟩
end Go.Proofs.YtmfajpplagbfcaaGreatDoor
