
/-
  The keyed sum: the program's Mac, the model's l7Xor and Mac.
-/
import Derived.Test.YtnfciobpfiibcaaDoorMkC
import Derived.Test.YtnfciobpfiibcaaDoorSh32
namespace Go.Proofs.YtnfciobpfiibcaaDoor
set_option maxRecDepth 100000
open Go Go.RowKit

set_option maxHeartbeats 2000000 in
theorem implMac_any (w : World) (g : Nat) (a : Option Addr) (c : Nat) (ks : List Int) (hr : Rd w g a .u8 ks) (hk : Byt ks) (hc : ks.length ≤ c) (hn : ks.length ≤ 1048576) (gd : Nat) (ad : Option Addr) (cd : Nat) (xs : List Int) (hd : Rd w gd ad .u8 xs) (hx : Byt xs) (hcd : xs.length ≤ cd) (hnd : xs.length ≤ 549755813888)
    (hS : HasT w 0 stLh) (hT : HasT w 1 kL) :
    Calls Tryd.prog 61 #[.slice a ks.length c, .slice ad xs.length cd] w fun e w' => NewRow w.heap.size w' e .u8 (macL ks xs) ∧ Below w.heap.size w w' := by
  have NK := hide (newKeyed_any w g a c ks hr hk hc (by omega) hS hT)
  obtain ⟨rs, hrs⟩ : ∃ l, l = macL ks xs := ⟨_, rfl⟩
  have HR := hide hrs
  rw [← hrs]
  clear hrs
  go_enter Tryd.func61, Tryd.ntmps61
  go_wp2_with fail
  refine NK.out.mono ?_
  rintro r w1 ⟨⟨v1, v2, rfl, V1, V2⟩, n1⟩
  have LS := lsts_one w1 22 ⟨gd, ad, cd, xs⟩
  have n2 : Below w1.heap.size w1 (w1.alloc (.cells #[.slice ad xs.length cd] 22)) := (Below.refl _ _).alloc (Nat.le_refl _) _
  have N2 := nxt n1 n2
  have z2 : w1.heap.size < (w1.alloc (.cells #[.slice ad xs.length cd] 22)).heap.size := by simp
  have LS' : Lsts (w1.alloc (.cells #[.slice ad xs.length cd] 22)) w1.heap.size [⟨gd, ad, cd, xs⟩] := LS
  have OF := ofD (w1.alloc (.cells #[.slice ad xs.length cd] 22)) v1 v2 _ _ V1 V2 w1.heap.size 1 1 [⟨gd, ad, cd, xs⟩] rfl (by omega) LS' z2 (fun l h => by
    rw [List.mem_singleton] at h
    subst h
    exact ⟨hd.up N2, hx, hcd⟩) (by rw [maskL_len, cat_one]; show 64 + xs.length ≤ _; omega) (by rw [maskL_len]; omega) (hT.up N2)
  rw [cat_one] at OF
  have e : hashL32 (maskL (keyL ks) 92 ++ hashL32 (maskL (keyL ks) 54 ++ xs)) = rs := HR.out.symm
  have OF2 : Hid (Calls Tryd.prog 75 #[.agg (v1 ++ v2).toArray, .slice (some ⟨w1.heap.size, 0, none⟩) 1 1] (w1.alloc (.cells #[.slice ad xs.length cd] 22)) fun e w' => NewRow (w1.alloc (.cells #[.slice ad xs.length cd] 22)).heap.size w' e .u8 rs ∧ Below (w1.alloc (.cells #[.slice ad xs.length cd] 22)).heap.size (w1.alloc (.cells #[.slice ad xs.length cd] 22)) w') := by
    show Calls _ _ _ _ _
    rw [← e]
    exact OF
  clear OF e LS LS' V1 V2 NK n2
  generalize v1 ++ v2 = vs at *
  go_wp2_with fail
  change Calls _ _ _ (w1.alloc (.cells #[.slice ad xs.length cd] 22)) _
  generalize w1.alloc (.cells #[.slice ad xs.length cd] 22) = w2 at *
  refine OF2.out.mono ?_
  rintro r w3 ⟨⟨a3, c3, g3, rfl, o3, p3, q3, r3⟩, n3⟩
  have y2 := N2.size
  go_wp2
  go_ret
  exact ⟨⟨a3, c3, g3, rfl, o3, p3, q3, by omega⟩, nxt N2 n3⟩

theorem maskL_take (xs : List Int) (m : Int) {k : Nat} (h : k < 64) : (maskL xs m).take (k + 1) = (maskL xs m).take k ++ [mx (xs.getD k 0) m] := by
  rw [List.take_add_one, List.getElem?_eq_getElem (by rw [maskL_len]; exact h)]
  have := maskL_get xs m h
  rw [List.getD_eq_getElem?_getD, List.getElem?_eq_getElem (by rw [maskL_len]; exact h)] at this
  simp at this
  simp [this]
set_option maxHeartbeats 2000000 in
theorem l7Xor_any (w : World) (g : Nat) (a : Option Addr) (c : Nat) (xs : List Int) (hr : Rd w g a .u8 xs) (hx : Byt xs) (m : Int) (hm : m = 54 ∨ m = 92) (hn : xs.length ≤ 1099511627776) :
    Calls Tryd.prog 60 #[.slice a xs.length c, .int .u8 m] w fun e w' => ∃ v, e = .returned v ∧ RowB w' w.heap.size v (maskL xs m) ∧ Below w.heap.size w w' := by
  obtain ⟨i0, hi, hz0, hz1, hz2⟩ := info_parts Tryd.info5
  have hal : Below w.heap.size w (w.alloc (.cells #[] 5)) := (Below.refl _ _).alloc (Nat.le_refl _) _
  have m0 : 0 ≤ m ∧ m < 256 := by omega
  have ML := hide (maskL_len xs m)
  go_enter Tryd.func60, Tryd.ntmps60
  go_wp2
  go_loopw [5, 6, 7] (fun v i _ wr => ∃ (k : Nat), k ≤ 64 ∧ i = .int .i64 k ∧ RowB wr w.heap.size v ((maskL xs m).take k) ∧ Below w.heap.size w wr) (fun _ i _ _ => 64 - (intOf i).toNat)
  case atStart => exact ⟨0, Nat.zero_le _, rfl, RowB.lit0 w, hal⟩
  case round =>
    obtain ⟨k, hk, rfl, hown, hN⟩ := hrel
    by_cases hlt : k < 64
    · have e1 := hide (maskL_take xs m hlt)
      have tl : Hid (((maskL xs m).take k).length = k) := by show _ = _; rw [List.length_take, ML.out]; omega
      generalize (maskL xs m).take k = ys at *
      have x0 := hx k
      have l1 : Below wr.heap.size wr (wr.alloc (.cells #[.int .u8 (mx (xs.getD k 0) m)] 5)) := (Below.refl _ _).alloc (Nat.le_refl _) _
      have sz := hN.size
      obtain ⟨v', w2, hap, o2, n2⟩ := append_any (P := Tryd.prog) (wr.alloc (.cells #[.int .u8 (mx (xs.getD k 0) m)] 5)) 22 i0 Tryd.underlying22 hi hz0 hz1 hz2 w.heap.size w.heap.size _ ys (hown.up l1) wr.heap.size (some ⟨wr.heap.size, 0, none⟩) 1 [mx (xs.getD k 0) m] (blk_lit1 wr .u8 5 _).own0.rd (by simp) (by rw [tl.out]; simp; omega) (Nat.le_refl _) (by simp; omega)
      rw [← e1.out] at o2
      have N2 : Below w.heap.size w w2 := (hN.trans ⟨l1.os, l1.tape, l1.output, l1.size, fun b hb => l1.block b (by omega)⟩).trans n2
      clear e1 tl hown l1 n2
      have kk : (k : Int) < 64 := by omega
      unfold mx at hap
      by_cases hin : k < xs.length
      · have ki : (k : Int) < (xs.length : Int) := by omega
        obtain ⟨off, rfl, hc⟩ := (hr.up hN) (by omega)
        have ck := hc k hin
        clear hc hr
        generalize xs.getD k 0 = x at *
        go_wp2_with (at_builtin; refine Lib.wpList_append_run _ rfl _ _ 22 22 rfl _ _ rfl rfl _ _ hap ?_)
        go_roundw
        case rel => exact ⟨k + 1, by omega, by go_num, o2, N2⟩
        case measure => simp [intOf]; omega
      · have ki : decide ((k : Int) < (xs.length : Int)) = false := by simp; omega
        have xz : xs.getD k 0 = 0 := by rw [List.getD_eq_getElem?_getD, List.getElem?_eq_none (by omega)]; rfl
        rw [xz] at hap
        clear x0 xz
        go_wp2_with (at_builtin; refine Lib.wpList_append_run _ rfl _ _ 22 22 rfl _ _ rfl rfl _ _ hap ?_)
        go_roundw
        case rel => exact ⟨k + 1, by omega, by go_num, o2, N2⟩
        case measure => simp [intOf]; omega
    · obtain rfl : k = 64 := by omega
      rw [List.take_of_length_le (by rw [ML.out]; exact Nat.le_refl _)] at hown
      go_wp2
      go_ret
      exact ⟨_, rfl, hown, hN⟩
end Go.Proofs.YtnfciobpfiibcaaDoor
