
/-
  The model's l6State and HashEnd.
-/
import Derived.Test.YtljpjbojdekeiaaDoorLsI
import Derived.Test.YtljpjbojdekeiaaDoorHmD
import Derived.Test.YtljpjbojdekeiaaDoorMkE
namespace Go.Proofs.YtljpjbojdekeiaaDoor
set_option maxRecDepth 100000
open Go Go.RowKit

theorem und8s : Tryd.prog.underlying 59 = some (.array 8 57) := by kernel_rfl
theorem inf8s : (Tryd.prog.info? 59).map (·.size) = some 8 := by kernel_rfl
theorem S8.of_list {ys : List Int} (h : ys.length = 8) : ∃ C : S8, C.l = ys := ⟨⟨ys.getD 0 0, ys.getD 1 0, ys.getD 2 0, ys.getD 3 0, ys.getD 4 0, ys.getD 5 0, ys.getD 6 0, ys.getD 7 0⟩, eq_of_getD (by rw [h]; rfl) (fun i hi => by
  have hi : i < 8 := hi
  obtain rfl | rfl | rfl | rfl | rfl | rfl | rfl | rfl : i = 0 ∨ i = 1 ∨ i = 2 ∨ i = 3 ∨ i = 4 ∨ i = 5 ∨ i = 6 ∨ i = 7 := by omega
  all_goals rfl)⟩
set_option maxHeartbeats 4000000 in
theorem l6State_any (w : World) (g : Nat) (a : Option Addr) (c : Nat) (xs : List Int) (hr : Rd w g a .u8 xs) (hb : Byt xs) (hl : xs.length = 32) :
    Calls Tryd.prog 70 #[.slice a xs.length c] w fun e w' => (∃ C : S8, e = .returned (ag8 .u32 C) ∧ ∀ j, j < 8 → C.l.getD j 0 = wd 4 xs j) ∧ Below w.heap.size w w' := by
  obtain ⟨o2, rfl, hc⟩ := id hr (by omega)
  have gl := hr.lt (by omega)
  have n0 : Below w.heap.size w (w.alloc (.cells #[.int .u32 0, .int .u32 0, .int .u32 0, .int .u32 0, .int .u32 0, .int .u32 0, .int .u32 0, .int .u32 0] 59)) := (Below.refl _ _).alloc (Nat.le_refl _) _
  have B0 := blk_ag8 w .u32 59 ⟨0, 0, 0, 0, 0, 0, 0, 0⟩
  have z0 : (w.alloc (.cells #[.int .u32 0, .int .u32 0, .int .u32 0, .int .u32 0, .int .u32 0, .int .u32 0, .int .u32 0, .int .u32 0] 59)).heap.size = w.heap.size + 1 := by simp
  have HL := hide hl
  rw [hl]
  clear hl
  go_enter Tryd.func70, Tryd.ntmps70
  go_upto_region 2 with fail
  have B0' : Blk (w.alloc (.cells #[.int .u32 0, .int .u32 0, .int .u32 0, .int .u32 0, .int .u32 0, .int .u32 0, .int .u32 0, .int .u32 0] 59)) w.heap.size .u32 [0, 0, 0, 0, 0, 0, 0, 0] := B0
  generalize w.alloc (.cells #[.int .u32 0, .int .u32 0, .int .u32 0, .int .u32 0, .int .u32 0, .int .u32 0, .int .u32 0, .int .u32 0] 59) = wa at *
  have n1 : Below wa.heap.size wa (wa.alloc (.cells #[.int .u32 0, .int .u32 0, .int .u32 0, .int .u32 0, .int .u32 0, .int .u32 0, .int .u32 0, .int .u32 0] 59)) := (Below.refl _ _).alloc (Nat.le_refl _) _
  have B1 : Blk (wa.alloc (.cells #[.int .u32 0, .int .u32 0, .int .u32 0, .int .u32 0, .int .u32 0, .int .u32 0, .int .u32 0, .int .u32 0] 59)) wa.heap.size .u32 [0, 0, 0, 0, 0, 0, 0, 0] := blk_ag8 wa .u32 59 ⟨0, 0, 0, 0, 0, 0, 0, 0⟩
  replace B0' := B0'.up n1
  generalize wa.alloc (.cells #[.int .u32 0, .int .u32 0, .int .u32 0, .int .u32 0, .int .u32 0, .int .u32 0, .int .u32 0, .int .u32 0] 59) = wb at *
  rw [z0] at B1
  have N := nxt n0 n1
  have hcb : ∀ i, i < 32 → wb.cell? ⟨g, o2 + i, none⟩ = some (.int .u8 (xs.getD i 0)) := fun i hi => (World.cell?_of_block (a := ⟨g, o2 + i, none⟩) (N.block g gl)).trans (hc i (by rw [HL.out]; exact hi))
  clear n0 n1 z0 hc hr B0
  go_wp2
  go_loopw [4] (fun i wr => ∃ (j : Nat) (ys : List Int), j ≤ 32 ∧ i = .int .i64 j ∧ FilW 4 xs 8 ys j ∧ Blk wr (w.heap.size + 1) .u32 ys ∧ Only (w.heap.size + 1) wb wr) (fun i _ => 32 - (intOf i).toNat)
  case atStart => exact ⟨0, _, Nat.zero_le _, rfl, FilW.zero 4 xs 8, B1, Only.refl _ _⟩
  case round =>
    obtain ⟨j, ys, hj, rfl, hF, hB, hO⟩ := hrel
    by_cases hlt : j < 32
    · have cx : wr.cell? ⟨g, o2 + j, none⟩ = some (.int .u8 (xs.getD j 0)) := (World.cell?_of_block (a := ⟨g, o2 + j, none⟩) (hO.block g (by omega))).trans (hcb j hlt)
      have hp : j / 4 < 8 := by omega
      have R := hF.step (by decide)
      have hh := hF.here hp
      have h1 := hB.cell (i := j / 4) (by rw [hF.1]; exact hp)
      have h2 := hB.free (j / 4)
      rw [hh] at h1
      have xb := hb j
      have bl := bw_lt (z := 4) hb (j / 4) (j % 4)
      have bl2 : bw 4 xs (j / 4) (j % 4) < 16777216 := by
        have : (256 : Int) ^ (j % 4) ≤ 256 ^ (4 - 1) := p256_le (by omega)
        have e : (256 : Int) ^ (4 - 1) = 16777216 := by decide
        omega
      have S' := hB.store (j / 4) (bw 4 xs (j / 4) (j % 4) * 256 + xs.getD j 0)
      have X' := hO.trans (Only.setCell wr (w.heap.size + 1) (j / 4) (.int .u32 (bw 4 xs (j / 4) (j % 4) * 256 + xs.getD j 0)))
      have d1 : (j : Int) / 4 = ((j / 4 : Nat) : Int) := by omega
      have d2 : ((j / 4 : Nat) : Int) < 8 := by omega
      have d3 : (j : Int) < 32 := by omega
      have d0 := bl.1
      clear hF hB hO hh bl hp hcb B1 B0'
      generalize j / 4 = p at *
      generalize bw 4 xs p (j % 4) = bv at *
      generalize xs.getD j 0 = x at *
      obtain ⟨x0, x1⟩ := xb
      have e1 : bv * 256 % 4294967296 = bv * 256 := by omega
      have e2 : (bv * 256 + x) % 4294967296 = bv * 256 + x := by omega
      go_wp2_with fail
      go_region
      go_wp2
      go_roundw
      case rel => exact ⟨j + 1, _, by omega, by go_num, R, S'.drew, X'.trans (Only.drewN _ _ 1)⟩
      case measure => simp [intOf]; omega
    · obtain rfl : j = 32 := by omega
      obtain ⟨yl, yv⟩ := hF.all (by decide)
      obtain ⟨C, rfl⟩ := S8.of_list yl
      have B0f := B0'.of_block (hO.block w.heap.size (by omega))
      have RG : wr.rangeAt (w.heap.size + 1) 0 (C.l.map (Value.int .u32)) := fun k v hk => by
        have hk' : k < C.l.length := by have := (List.getElem?_eq_some_iff.1 hk).1; simpa using this
        rw [Nat.zero_add, hB.cell hk']
        simpa [hk'] using hk
      have TH : wr.there w.heap.size 0 8 := fun k hk => ⟨by rw [Nat.zero_add, B0f.cell (i := k) hk]; rfl, B0f.free _⟩
      have L8 : (C.l.map (Value.int .u32)).length = 8 := by rw [List.length_map]; rfl
      have RR := World.rangeAt_setCells_same wr w.heap.size 0 (C.l.map (Value.int .u32)) (by rw [L8]; exact TH)
      have N9 : Below w.heap.size w (wr.setCells w.heap.size 0 (C.l.map (Value.int .u32))) := (N.trans (hO.below (by omega))).trans ((only_setCells wr w.heap.size (C.l.map (Value.int .u32)) 0).below (Nat.le_refl _))
      have YV := hide yv
      clear hF hB hO hcb B1 B0' B0f yl yv N
      have ONE := one_ints .u32 C.l
      obtain ⟨vs, hvs⟩ : ∃ vs, vs = C.l.map (Value.int .u32) := ⟨_, rfl⟩
      rw [← hvs] at RG L8 RR N9 ONE
      have HVS := hide hvs
      clear hvs
      go_wp2_with (first
        | (refine wpList_load_mid rfl 59 (.tmp 3) rfl (w.heap.size + 1) 0 rfl vs (.array 8 57) RG und8s rfl (by rw [L8]; exact inf8s) ?_)
        | (refine wpList_store_mid rfl 59 (.tmp 2) (.tmp 23) rfl w.heap.size 0 vs.toArray rfl rfl ?hth ?hin ?hon ?_))
      case hth => show wr.there w.heap.size 0 vs.length; rw [L8]; exact TH
      case hin => show _ = some vs.length; rw [L8]; exact inf8s
      case hon => exact ONE
      exact bodyPost_ret (v := .agg vs.toArray) (results_cell_m Tryd.results70 _ _ w.heap.size vs (.array 8 57) rfl RR und8s rfl (by rw [L8]; exact inf8s)) rfl ⟨⟨C, by rw [HVS.out]; rfl, YV.out⟩, N9⟩
end Go.Proofs.YtljpjbojdekeiaaDoor
