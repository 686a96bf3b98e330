import Derived.Test.YtkpomobhjkikeaaGreatDoorSS35
import Derived.Test.YtkpomobhjkikeaaGreatDoorSS37
import Derived.Test.YtkpomobhjkikeaaGreatDoorSS2
namespace Go.Proofs.YtkpomobhjkikeaaGreatDoor
set_option maxRecDepth 100000
open Go Go.RowKit
def st0 : List Int := [1634760805, 857760878, 2036477234, 1797285236, 0, 0, 0, 0, 0, 0, 0, 0, 0, 0, 0, 0]
theorem st0_ws : Ws st0 := by
  intro i
  by_cases h : i < 16
  · have : ∀ j : Fin 16, 0 ≤ st0.getD j.val 0 ∧ st0.getD j.val 0 < 4294967296 := by decide
    exact this ⟨i, h⟩
  · rw [List.getD_eq_getElem?_getD, List.getElem?_eq_none (by show 16 ≤ i; omega)]; exact ⟨by decide, by decide⟩
def nsW (key non : List Int) : List Int := wsF (wsF st0 4 key 8) 13 non 3
theorem nsW_len (key non : List Int) : (nsW key non).length = 16 := by unfold nsW; rw [wsF_len, wsF_len]; rfl
theorem nsW_ws {key non : List Int} (hk : Byt key) (hn : Byt non) : Ws (nsW key non) := wsF_ws (wsF_ws st0_ws 4 hk 8) 13 hn 3
set_option maxRecDepth 100000 in
set_option maxHeartbeats 4000000 in
theorem newWords_any (w : World) (g : Nat) (a : Option Addr) (c : Nat) (key : List Int) (hr : Rd w g a .u8 key) (hb : Byt key) (hl : key.length = 32) (hc : key.length ≤ c) (g' : Nat) (a' : Option Addr) (c' : Nat) (non : List Int) (hr' : Rd w g' a' .u8 non) (hb' : Byt non) (hl' : non.length = 12) (hc' : non.length ≤ c') :
    Calls Tryz.prog 60 #[.slice a key.length c, .slice a' non.length c'] w fun e w' => e = .returned (ag .u32 (nsW key non)) ∧ Below w.heap.size w w' := by
  have gl := hr.lt (by omega)
  have gl' := hr'.lt (by omega)
  have HL := hide hl
  have HL' := hide hl'
  clear hl hl'
  have n1 : Below w.heap.size w (w.alloc (.cells #[.int .u32 0, .int .u32 0, .int .u32 0, .int .u32 0, .int .u32 0, .int .u32 0, .int .u32 0, .int .u32 0, .int .u32 0, .int .u32 0, .int .u32 0, .int .u32 0, .int .u32 0, .int .u32 0, .int .u32 0, .int .u32 0] 101)) := (Below.refl _ _).alloc (Nat.le_refl _) _
  have B1 := blk_z16 w 101
  have z1 : (w.alloc (.cells #[.int .u32 0, .int .u32 0, .int .u32 0, .int .u32 0, .int .u32 0, .int .u32 0, .int .u32 0, .int .u32 0, .int .u32 0, .int .u32 0, .int .u32 0, .int .u32 0, .int .u32 0, .int .u32 0, .int .u32 0, .int .u32 0] 101)).heap.size = w.heap.size + 1 := by simp
  go_enter Tryz.func60, Tryz.ntmps60
  go_upto_region 1 with fail
  generalize w.alloc (.cells #[.int .u32 0, .int .u32 0, .int .u32 0, .int .u32 0, .int .u32 0, .int .u32 0, .int .u32 0, .int .u32 0, .int .u32 0, .int .u32 0, .int .u32 0, .int .u32 0, .int .u32 0, .int .u32 0, .int .u32 0, .int .u32 0] 101) = w1 at *
  have n2 : Below w1.heap.size w1 (w1.alloc (.cells #[.int .u32 1634760805, .int .u32 857760878, .int .u32 2036477234, .int .u32 1797285236, .int .u32 0, .int .u32 0, .int .u32 0, .int .u32 0, .int .u32 0, .int .u32 0, .int .u32 0, .int .u32 0, .int .u32 0, .int .u32 0, .int .u32 0, .int .u32 0] 101)) := (Below.refl _ _).alloc (Nat.le_refl _) _
  have SR : Blk (w1.alloc (.cells #[.int .u32 1634760805, .int .u32 857760878, .int .u32 2036477234, .int .u32 1797285236, .int .u32 0, .int .u32 0, .int .u32 0, .int .u32 0, .int .u32 0, .int .u32 0, .int .u32 0, .int .u32 0, .int .u32 0, .int .u32 0, .int .u32 0, .int .u32 0] 101)) w1.heap.size .u32 st0 := blk_alloc w1 .u32 101 st0
  have z2 : (w1.alloc (.cells #[.int .u32 1634760805, .int .u32 857760878, .int .u32 2036477234, .int .u32 1797285236, .int .u32 0, .int .u32 0, .int .u32 0, .int .u32 0, .int .u32 0, .int .u32 0, .int .u32 0, .int .u32 0, .int .u32 0, .int .u32 0, .int .u32 0, .int .u32 0] 101)).heap.size = w1.heap.size + 1 := by simp
  go_wp2_with fail
  generalize w1.alloc (.cells #[.int .u32 1634760805, .int .u32 857760878, .int .u32 2036477234, .int .u32 1797285236, .int .u32 0, .int .u32 0, .int .u32 0, .int .u32 0, .int .u32 0, .int .u32 0, .int .u32 0, .int .u32 0, .int .u32 0, .int .u32 0, .int .u32 0, .int .u32 0] 101) = w3 at *
  have B1 := B1.up n2
  have N3 := nxt n1 n2
  rw [z1] at SR z2
  clear n1 n2
  refine (fill_any w3 (w.heap.size + 1) st0 SR rfl 4 8 (by decide) (by decide) g a c key (hr.up N3) hb HL.out hc (by omega)).mono ?_
  rintro e w4 ⟨rfl, B4, n4⟩
  have N4 := N3.trans (n4.mono (by omega))
  have B1 := B1.of_block (n4.block w.heap.size (by omega))
  go_wp2_with fail
  refine (fill_any w4 (w.heap.size + 1) _ B4 (by rw [wsF_len]; rfl) 13 3 (by decide) (by decide) g' a' c' non (hr'.up N4) hb' HL'.out hc' (by omega)).mono ?_
  rintro e w5 ⟨rfl, B5, n5⟩
  have N5 := N4.trans (n5.mono (by omega))
  obtain ⟨t0, H0⟩ := B1.of_block (n5.block w.heap.size (by omega))
  have NW : Hid (wsF (wsF st0 4 key 8) 13 non 3 = nsW key non) := rfl
  rw [NW.out] at B5
  have RG := (Seg.blk B5).range
  have L : Hid (((nsW key non).map (Value.int .u32)).length = 16) := by show _ = _; rw [List.length_map]; exact nsW_len key non
  have O := one_ints .u32 (nsW key non)
  have SR := setRow_heap w5 w.heap.size _ ((nsW key non).map (Value.int .u32)).toArray _ _ H0
  have SN : Below w.heap.size w (w5.setRow w.heap.size ((nsW key non).map (Value.int .u32)).toArray) := N5.trans ((only_setRow w5 w.heap.size _).below (Nat.le_refl _))
  have V : Hid (ag .u32 (nsW key non) = Value.agg ((nsW key non).map (Value.int .u32)).toArray) := rfl
  obtain ⟨vs', hv⟩ : ∃ v, v = (nsW key non).map (Value.int .u32) := ⟨_, rfl⟩
  rw [← hv] at RG L O SR SN V
  clear hv B5 B4 NW N3 N4 N5 n4 n5
  go_wp2_with (first
    | (refine wpList_load_mid rfl 101 (.tmp 5) rfl (w.heap.size + 1) 0 rfl vs' (.array 16 99) RG undS rfl (by rw [L.out]; exact infoS) ?_)
    | (refine wpList_store_row rfl 101 (.tmp 4) (.tmp 11) rfl w.heap.size vs'.toArray rfl rfl t0 _ H0 (by rw [List.size_toArray, L.out]; exact infoS) (by rw [List.size_toArray, List.size_toArray, L.out]; rfl) O ?_))
  exact bodyPost_ret (v := .agg vs'.toArray) (results_cell_row Tryz.results60 _ _ w.heap.size t0 vs'.toArray (0, 0) (.array 16 99) rfl SR undS rfl (by rw [List.size_toArray, L.out]; exact infoS)) rfl ⟨by rw [V.out], SN⟩
theorem isKey_any (w : World) (a a' : Option Addr) (n m c c' : Nat) : Calls Tryz.prog 39 #[.slice a n c, .slice a' m c'] w fun e w' => e = .returned (.bool (decide (n = 32) && decide (m = 12))) ∧ w' = w := by
  by_cases h : n = 32
  · subst h
    by_cases h' : m = 12
    · subst h'
      go_enter Tryz.func39, Tryz.ntmps39
      go_wp2
      go_ret
      exact ⟨rfl, rfl⟩
    · have q : decide ((m : Int) = 12) = false := by simp; omega
      go_enter Tryz.func39, Tryz.ntmps39
      go_wp2
      go_ret
      exact ⟨by simp [h'] <;> omega, rfl⟩
  · have q : decide ((n : Int) = 32) = false := by simp; omega
    go_enter Tryz.func39, Tryz.ntmps39
    go_wp2
    go_ret
    exact ⟨by simp [h], rfl⟩
end Go.Proofs.YtkpomobhjkikeaaGreatDoor
