import Derived.Test.YtbhmhkimddjhaaaDoorGR40
import Derived.Test.YtbhmhkimddjhaaaDoorGR6
import Derived.Test.YtbhmhkimddjhaaaDoorGR19
import Derived.Test.YtbhmhkimddjhaaaDoorGR34
/-
  The program's FieldRoot.
-/
namespace Go.Proofs.YtbhmhkimddjhaaaDoor
set_option maxRecDepth 100000
open Go.RowKit

/-- Has the element of these bytes a root? The bytes of the even one. -/
def frB (xs : List Int) : Bool := decide (xs.length = 32) && decide (r1I (num xs % PP) * r1I (num xs % PP) % PP = num xs % PP)
def frL (xs : List Int) : List Int := if frB xs = true then fill (byt (fin2 (r1I (num xs % PP)))) 32 else []
theorem frL_len (xs : List Int) : (frL xs).length ≤ 32 := by
  unfold frL
  split
  · rw [fill_len]; omega
  · simp

set_option maxHeartbeats 4000000 in
theorem implFieldRoot_any (w : World) (g : Nat) (a : Option Addr) (c : Nat) (xs : List Int) (hr : Rd w g a .u8 xs) (hb : Byt xs) (hR : HasR w) :
    Calls Tryd.prog 33 #[.slice a xs.length c] w fun e w' => NewRes w.heap.size w' e (frB xs) (frL xs) ∧ Below w.heap.size w w' := by
  have hal : Below w.heap.size w (w.alloc (.cells #[.bool false, .slice none 0 0] 41)) := (Below.refl _ _).alloc (Nat.le_refl _) _
  have T0 := Two.new w (.bool false) (.slice none 0 0) 41
  have s0 : (w.alloc (.cells #[.bool false, .slice none 0 0] 41)).heap.size = w.heap.size + 1 := by simp
  have TS := fun W => isFieldSize_any W a c xs.length
  by_cases hl : xs.length = 32
  · have E1 := elt_ok hb hl
    have EE : Elm (elt xs) := Elm.of E1.1 E1.2
    have R1 := fun W n => readElement_any W g a c xs (hr.up n) hb hl
    have RT := fun W (h : Below w.heap.size w W) => root_any W (elt xs) EE (hR.up h)
    rw [E1.2] at RT
    have EA : (stl (rl (wv (fun j => xs.getD j 0) 32))) = elt xs := rfl
    rw [EA] at R1
    simp only [decide_eq_true hl] at TS
    have HL := hide hl
    rw [hl] at TS ⊢
    clear hl hb hr E1 EE EA
    generalize elt xs = e at *
    simp only [ag5] at R1 RT
    go_enter Tryd.func33, Tryd.ntmps33
    go_wp2_with fail
    generalize w.alloc (.cells #[.bool false, .slice none 0 0] 41) = wa at *
    refine (TS wa).mono ?_
    rintro r w0 ⟨rfl, rfl⟩
    go_wp2_with fail
    refine (R1 w0 hal).mono ?_
    rintro r w1 ⟨rfl, n1⟩
    have N1 := nxt hal n1
    go_wp2_with fail
    refine (RT w1 N1).mono ?_
    rintro r w2 ⟨RO, n2⟩
    have N2 := nxt N1 n2
    have T2 := (T0.up n1).up n2
    clear RT R1 TS T0 n1 N1
    rcases RO with ⟨gg, t, rfl, L, V⟩ | ⟨gg, rfl⟩
    · have KB : Hid (frB xs = true) := by show _ = _; unfold frB; rw [decide_eq_true HL.out, decide_eq_true gg]; rfl
      have KL : Hid (frL xs = fill (byt (sv t 5)) 32) := by show _ = _; rw [V, frL, if_pos KB.out]
      have BY := fun W => bytes_any W t L
      rw [← KL.out] at BY
      have n3 : Below w2.heap.size w2 (w2.alloc (.cells #[.int .u64 (t 0), .int .u64 (t 1), .int .u64 (t 2), .int .u64 (t 3), .int .u64 (t 4)] 76)) := (Below.refl _ _).alloc (Nat.le_refl _) _
      clear gg V
      simp only [ag5] at BY ⊢
      go_wp2_with fail
      generalize w2.alloc (.cells #[.int .u64 (t 0), .int .u64 (t 1), .int .u64 (t 2), .int .u64 (t 3), .int .u64 (t 4)] 76) = w3 at *
      refine (BY w3).mono ?_
      rintro r w4 ⟨⟨a4, c4, g4, rfl, o4, p4, q4, r4⟩, n4⟩
      have N4 := nxt (nxt N2 n3) n4
      obtain ⟨c0, c1, f0, f1⟩ := (T2.up n3).up n4
      have z4 := (nxt N2 n3).size
      have z2 := T2.lt
      have z3 := n3.size
      have O := (Only.setCell w4 w.heap.size 0 (.bool true)).trans (Only.setCell _ w.heap.size 1 (.slice a4 (frL xs).length c4))
      have o5 := o4.only O (fun _ => by omega)
      have N5 := N4.trans (O.below (Nat.le_refl _))
      clear BY n3 n4 T2 N2 O o4 N4
      have HK := hide KL
      clear KL
      go_wp2
      refine bodyPost_ret (v := .agg #[.bool true, .slice a4 (frL xs).length c4]) (by simp [results, Tryd.results33, go_sem, c0, c1]) rfl ⟨?_, N5⟩
      rw [KB.out]
      exact ⟨a4, c4, g4, rfl, o5, p4, q4, by omega⟩
    · have KB : Hid (frB xs = false) := by show _ = _; unfold frB; rw [decide_eq_true HL.out, decide_eq_false gg]; rfl
      have KL : Hid (frL xs = []) := by show _ = _; rw [frL, if_neg (by rw [KB.out]; simp)]
      have n3 : Below w2.heap.size w2 (w2.alloc (.cells #[.int .u64 0, .int .u64 0, .int .u64 0, .int .u64 0, .int .u64 0] 76)) := (Below.refl _ _).alloc (Nat.le_refl _) _
      have N3 := nxt N2 n3
      obtain ⟨c0, c1, f0, f1⟩ := T2.up n3
      clear gg
      simp only [ag5, z5e]
      go_wp2
      refine bodyPost_ret (v := .agg #[.bool false, .slice none 0 0]) (by simp [results, Tryd.results33, go_sem, c0, c1]) rfl ⟨?_, ?_⟩
      · rw [KB.out, KL.out]
        exact NewRes.none (by simp [World.setCell]; have := N3.size; simp at this; omega)
      · exact (N3.setCell (Nat.le_refl _) _).setCell (Nat.le_refl _) _
  · have KB : Hid (frB xs = false) := by show _ = _; unfold frB; rw [decide_eq_false hl]; rfl
    have KL : Hid (frL xs = []) := by show _ = _; rw [frL, if_neg (by rw [KB.out]; simp)]
    simp only [decide_eq_false hl] at TS
    obtain ⟨c0, c1, f0, f1⟩ := T0
    clear hl
    go_enter Tryd.func33, Tryd.ntmps33
    go_wp2_with fail
    generalize w.alloc (.cells #[.bool false, .slice none 0 0] 41) = wa at *
    refine (TS wa).mono ?_
    rintro r w0 ⟨rfl, rfl⟩
    go_wp2
    refine bodyPost_ret (v := .agg #[.bool false, .slice none 0 0]) (by simp [results, Tryd.results33, go_sem, c0, c1]) rfl ⟨?_, ?_⟩
    · rw [KB.out, KL.out]
      exact NewRes.none (by simp [World.setCell]; omega)
    · exact (hal.setCell (Nat.le_refl _) _).setCell (Nat.le_refl _) _
end Go.Proofs.YtbhmhkimddjhaaaDoor
/-
  The model's FieldRoot.
-/
namespace Go.Proofs.YtbhmhkimddjhaaaDoor
set_option maxRecDepth 100000
open Go.RowKit

theorem rootS_tells {xs : List Int} (hl : xs.length = 32) {r : Ending} (h : RootS (num xs % PP) r) :
    (frB xs = true ∧ ∃ t, r = .returned (.tuple #[.bool true, ag16 t]) ∧ L16 t ∧ fill (byt (s16 t 16 % PP)) 32 = frL xs) ∨ (frB xs = false ∧ frL xs = [] ∧ ∃ t, r = .returned (.tuple #[.bool false, ag16 t])) := by
  have h0 : 0 ≤ num xs % PP := Int.emod_nonneg _ (by decide)
  have h1 : num xs % PP < PP := Int.emod_lt_of_pos _ (by decide)
  have S := same_root h0 h1
  rcases h with ⟨gg, t, rfl, L, V⟩ | ⟨gg, t, rfl⟩
  · have KB : frB xs = true := by unfold frB; rw [decide_eq_true hl, decide_eq_true (S.1.mpr gg)]; rfl
    refine .inl ⟨KB, t, rfl, L, ?_⟩
    rw [V, frL, if_pos KB, S.2 gg]
  · have KB : frB xs = false := by unfold frB; rw [decide_eq_true hl, decide_eq_false (fun e => gg (S.1.mp e))]; rfl
    exact .inr ⟨KB, by rw [frL, if_neg (by rw [KB]; simp)], t, rfl⟩

set_option maxHeartbeats 4000000 in
theorem specFieldRoot_any (w : World) (g : Nat) (a : Option Addr) (c : Nat) (xs : List Int) (hr : Rd w g a .u8 xs) (hb : Byt xs) :
    Calls Tryd.prog 32 #[.slice a xs.length c] w fun e w' => NewRes w.heap.size w' e (frB xs) (frL xs) ∧ Below w.heap.size w w' := by
  have hal : Below w.heap.size w (w.alloc (.cells #[.bool false, .slice none 0 0] 41)) := (Below.refl _ _).alloc (Nat.le_refl _) _
  have T0 := Two.new w (.bool false) (.slice none 0 0) 41
  by_cases hl : xs.length = 32
  · have t0 : ((xs.length : Int) != 32) = false := by simp; omega
    have hbt : Bt (fun j => xs.getD j 0) := hb
    have LO := of16_ok hbt
    have VO : s16 (of16 (fun j => xs.getD j 0)) 16 % PP = num xs % PP := by rw [of16_val, num, hl]
    have OF := fun W n => l2Of_any W g a c xs (hr.up n) hb hl
    have RT := fun W => l2Root_any W (of16 (fun j => xs.getD j 0)) LO
    rw [VO] at RT
    have TL := fun r (h : RootS (num xs % PP) r) => rootS_tells hl h
    simp only [show ∀ f, ag16 f = .agg (a16 f) from fun _ => rfl] at OF RT TL
    generalize a16 (of16 (fun j => xs.getD j 0)) = F at *
    rw [hl] at t0 ⊢
    have HL := hide hl
    clear hl hb hr LO VO hbt
    have u50' := Go.Proofs.YtbhmhkimddjhaaaDoor.u50
    go_enter Tryd.func32, Tryd.ntmps32
    go_wp2_with fail
    generalize w.alloc (.cells #[.bool false, .slice none 0 0] 41) = wa at *
    refine (OF wa hal).mono ?_
    rintro r w1 ⟨rfl, n1⟩
    have N1 := nxt hal n1
    go_wp2_with fail
    refine (RT w1).mono ?_
    rintro r w2 ⟨RO, n2⟩
    have N2 := nxt N1 n2
    have T2 := (T0.up n1).up n2
    have R := TL r RO
    clear OF RT TL RO T0 n1 n2 N1 hal
    have B3 := blkZ w2
    have n3 : Below w2.heap.size w2 (w2.alloc Z16) := (Below.refl _ _).alloc (Nat.le_refl _) _
    rcases R with ⟨KB, t, rfl, LT, FL⟩ | ⟨KB, KL, t, rfl⟩
    · have R3 := R16.set t (thZ w2)
      have iT : (Tryd.prog.info? 70).map (·.size) = some (a16 t).toList.length := by
        have : (a16 t).toList.length = 16 := by simp [ls16]
        rw [this]; exact i50
      have len : Hid ((a16 t).size = 16) := a16_size t
      have one := a16_one t
      have n4 : Below w2.heap.size w2 ((w2.alloc Z16).setCells w2.heap.size 0 (a16 t).toList) := below_setCells (Nat.le_refl _) _ _ _ n3
      have rng := R3.1
      have th := thZ w2
      have BY := fun W => l2Bytes_any W t LT
      rw [FL] at BY
      simp only [show ag16 t = .agg (a16 t) from rfl] at BY
      generalize a16 t = T at *
      clear FL LT R3 B3 n3
      go_wp2_with (first
        | (refine wpList_store_mid rfl 70 (.tmp 4) (.tmp 14) rfl w2.heap.size 0 T rfl rfl (by rw [len.out]; exact th) (by rw [len.out]; exact i50) one ?_)
        | (refine wpList_load_mid rfl 70 (.tmp 4) rfl w2.heap.size 0 rfl T.toList (.array 16 2) rng u50' rfl iT ?_)
        | fail)
      generalize (w2.alloc Z16).setCells w2.heap.size 0 T.toList = w3 at *
      refine (BY w3).mono ?_
      rintro r w4 ⟨⟨a4, c4, g4, rfl, o4, p4, q4, r4⟩, n5⟩
      have N4 := nxt (nxt N2 n4) n5
      obtain ⟨c0, c1, f0, f1⟩ := (T2.up n4).up n5
      have z4 := (nxt N2 n4).size
      have z2 := T2.lt
      have z3 := n4.size
      have O := (Only.setCell w4 w.heap.size 0 (.bool true)).trans (Only.setCell _ w.heap.size 1 (.slice a4 (frL xs).length c4))
      have o5 := o4.only O (fun _ => by omega)
      have N5 := N4.trans (O.below (Nat.le_refl _))
      clear BY n4 n5 T2 N2 O o4 N4
      go_wp2
      refine bodyPost_ret (v := .agg #[.bool true, .slice a4 (frL xs).length c4]) (by simp [results, Tryd.results32, go_sem, c0, c1]) rfl ⟨?_, N5⟩
      rw [KB]
      exact ⟨a4, c4, g4, rfl, o5, p4, q4, by omega⟩
    · have th := thZ w2
      have n4 : Below w2.heap.size w2 ((w2.alloc Z16).setCells w2.heap.size 0 (a16 t).toList) := below_setCells (Nat.le_refl _) _ _ _ n3
      have len : Hid ((a16 t).size = 16) := a16_size t
      have one := a16_one t
      generalize a16 t = T at *
      have N3 := nxt N2 n4
      obtain ⟨c0, c1, f0, f1⟩ := T2.up n4
      clear B3 n3
      go_wp2_with (first
        | (refine wpList_store_mid rfl 70 (.tmp 4) (.tmp 14) rfl w2.heap.size 0 T rfl rfl (by rw [len.out]; exact th) (by rw [len.out]; exact i50) one ?_)
        | fail)
      generalize (w2.alloc Z16).setCells w2.heap.size 0 T.toList = w3 at *
      refine bodyPost_ret (v := .agg #[.bool false, .slice none 0 0]) (by simp [results, Tryd.results32, go_sem, c0, c1]) rfl ⟨?_, ?_⟩
      · rw [KB, KL]
        exact NewRes.none (by simp [World.setCell]; have := N3.size; omega)
      · exact (N3.setCell (Nat.le_refl _) _).setCell (Nat.le_refl _) _
  · have KB : Hid (frB xs = false) := by show _ = _; unfold frB; rw [decide_eq_false hl]; rfl
    have KL : Hid (frL xs = []) := by show _ = _; rw [frL, if_neg (by rw [KB.out]; simp)]
    have t0 : ((xs.length : Int) != 32) = true := by simp; omega
    obtain ⟨c0, c1, f0, f1⟩ := T0
    clear hl
    go_enter Tryd.func32, Tryd.ntmps32
    go_upto_region 1 with fail
    generalize w.alloc (.cells #[.bool false, .slice none 0 0] 41) = wa at *
    go_wp2
    refine bodyPost_ret (v := .agg #[.bool false, .slice none 0 0]) (by simp [results, Tryd.results32, go_sem, c0, c1]) rfl ⟨?_, ?_⟩
    · rw [KB.out, KL.out]
      exact NewRes.none (by simp [World.setCell]; have := hal.size; omega)
    · exact (hal.setCell (Nat.le_refl _) _).setCell (Nat.le_refl _) _
end Go.Proofs.YtbhmhkimddjhaaaDoor
