
/-
  The model's step words and its block, 32 bits (written by gens/sb.py).
-/
import Derived.Test.YtnfciobpfiibcaaDoorHsS
import Derived.Test.YtnfciobpfiibcaaDoorPdS
import Derived.BigRegion
import Derived.Deep.DeepCutAuto
namespace Go.Proofs.YtnfciobpfiibcaaDoor
set_option maxRecDepth 100000
open Go Go.RowKit

def kA32 : List Int := [1116352408, 1899447441, 3049323471, 3921009573, 961987163, 1508970993, 2453635748, 2870763221, 3624381080, 310598401, 607225278, 1426881987, 1925078388, 2162078206, 2614888103, 3248222580, 3835390401, 4022224774, 264347078, 604807628, 770255983, 1249150122, 1555081692, 1996064986, 2554220882, 2821834349, 2952996808, 3210313671, 3336571891, 3584528711, 113926993, 338241895, 666307205, 773529912, 1294757372, 1396182291, 1695183700, 1986661051, 2177026350, 2456956037, 2730485921, 2820302411, 3259730800, 3345764771, 3516065817, 3600352804, 4094571909, 275423344, 430227734, 506948616, 659060556, 883997877, 958139571, 1322822218, 1537002063, 1747873779, 1955562222, 2024104815, 2227730452, 2361852424, 2428436474, 2756734187, 3204031479, 3329325298]
set_option maxRecDepth 4000 in
theorem kA_is32 : ∀ i : Fin 64, kA32.getD i.val 0 = K32 i.val := by decide +kernel
theorem kA_len32 : kA32.length = 64 := rfl
theorem infoN_32 : (Tryd.prog.info? 81).map (·.size) = some 64 := by kernel_rfl
theorem undN_32 : Tryd.prog.underlying 81 = some (.array 64 47) := by kernel_rfl
abbrev zN32 : Obj := .cells (List.toArray (.int .u32 0 :: .int .u32 0 :: .int .u32 0 :: .int .u32 0 :: .int .u32 0 :: .int .u32 0 :: .int .u32 0 :: .int .u32 0 :: .int .u32 0 :: .int .u32 0 :: .int .u32 0 :: .int .u32 0 :: .int .u32 0 :: .int .u32 0 :: .int .u32 0 :: .int .u32 0 :: .int .u32 0 :: .int .u32 0 :: .int .u32 0 :: .int .u32 0 :: .int .u32 0 :: .int .u32 0 :: .int .u32 0 :: .int .u32 0 :: .int .u32 0 :: .int .u32 0 :: .int .u32 0 :: .int .u32 0 :: .int .u32 0 :: .int .u32 0 :: .int .u32 0 :: .int .u32 0 :: .int .u32 0 :: .int .u32 0 :: .int .u32 0 :: .int .u32 0 :: .int .u32 0 :: .int .u32 0 :: .int .u32 0 :: .int .u32 0 :: .int .u32 0 :: .int .u32 0 :: .int .u32 0 :: .int .u32 0 :: .int .u32 0 :: .int .u32 0 :: .int .u32 0 :: .int .u32 0 :: .int .u32 0 :: .int .u32 0 :: .int .u32 0 :: .int .u32 0 :: .int .u32 0 :: .int .u32 0 :: .int .u32 0 :: .int .u32 0 :: .int .u32 0 :: .int .u32 0 :: .int .u32 0 :: .int .u32 0 :: .int .u32 0 :: .int .u32 0 :: .int .u32 0 :: .int .u32 0 :: [])) 81
set_option maxRecDepth 4000 in
theorem zeroN_32 : (.int .u32 0 :: .int .u32 0 :: .int .u32 0 :: .int .u32 0 :: .int .u32 0 :: .int .u32 0 :: .int .u32 0 :: .int .u32 0 :: .int .u32 0 :: .int .u32 0 :: .int .u32 0 :: .int .u32 0 :: .int .u32 0 :: .int .u32 0 :: .int .u32 0 :: .int .u32 0 :: .int .u32 0 :: .int .u32 0 :: .int .u32 0 :: .int .u32 0 :: .int .u32 0 :: .int .u32 0 :: .int .u32 0 :: .int .u32 0 :: .int .u32 0 :: .int .u32 0 :: .int .u32 0 :: .int .u32 0 :: .int .u32 0 :: .int .u32 0 :: .int .u32 0 :: .int .u32 0 :: .int .u32 0 :: .int .u32 0 :: .int .u32 0 :: .int .u32 0 :: .int .u32 0 :: .int .u32 0 :: .int .u32 0 :: .int .u32 0 :: .int .u32 0 :: .int .u32 0 :: .int .u32 0 :: .int .u32 0 :: .int .u32 0 :: .int .u32 0 :: .int .u32 0 :: .int .u32 0 :: .int .u32 0 :: .int .u32 0 :: .int .u32 0 :: .int .u32 0 :: .int .u32 0 :: .int .u32 0 :: .int .u32 0 :: .int .u32 0 :: .int .u32 0 :: .int .u32 0 :: .int .u32 0 :: .int .u32 0 :: .int .u32 0 :: .int .u32 0 :: .int .u32 0 :: .int .u32 0 :: []) = (List.replicate 64 0).map (Value.int .u32) := by kernel_rfl
theorem blk_zN32 (w : World) : Blk (w.alloc zN32) w.heap.size .u32 (List.replicate 64 0) := by
  refine ⟨81, ?_⟩
  show (w.heap.push _)[w.heap.size]? = _
  unfold zN32
  rw [zeroN_32]
  simp
theorem Blk.setRow32 {w : World} {q : Nat} {k : IntKind} {ys zs : List Int} (h : Blk w q k ys) : Blk (w.setRow q (zs.map (Value.int k)).toArray) q k zs := by
  obtain ⟨t, h⟩ := h
  exact ⟨t, setRow_heap _ _ _ _ _ _ h⟩
theorem only_setRow32 (w : World) (q : Nat) (cs : Array Value) : Only q w (w.setRow q cs) := ⟨rfl, rfl, rfl, by simp, fun k hk => setRow_other w _ k _ hk⟩
set_option maxRecDepth 20000 in
set_option maxHeartbeats 4000000 in
theorem l6Steps_32 (w : World) : Calls Tryd.prog 94 #[] w fun e w' => e = .returned (.agg (kA32.map (Value.int .u32)).toArray) ∧ Below w.heap.size w w' := by
  have B0 := blk_zN32 w
  have n0 : Below w.heap.size w (w.alloc zN32) := (Below.refl _ _).alloc (Nat.le_refl _) _
  go_enter Tryd.func94, Tryd.ntmps94
  go_upto_region 1 with fail
  change Code.wp _ _ _ _ (w.alloc zN32)
  generalize w.alloc zN32 = wa at *
  have S0 := B0.setRow32 (zs := kA32)
  have O0 := only_setRow32 wa w.heap.size (kA32.map (Value.int .u32)).toArray
  have L0 : Hid ((kA32.map (Value.int .u32)).length = 64) := by show _ = _; rw [List.length_map]; rfl
  obtain ⟨t0, H0⟩ := B0
  obtain ⟨t1, H1⟩ := S0
  go_wp2_with (refine wpList_store_row rfl 81 (.tmp 0) (.tmp 1) rfl w.heap.size (kA32.map (Value.int .u32)).toArray rfl ?hy t0 _ H0 ?hi ?hs ?ho ?_)
  case hy => kernel_rfl
  case hi => kernel_rfl
  case hs => kernel_rfl
  case ho => kernel_rfl
  exact bodyPost_ret (v := .agg (kA32.map (Value.int .u32)).toArray) (results_cell_row Tryd.results94 _ _ w.heap.size t1 _ (0, 0) (.array 64 47) rfl H1 undN_32 rfl (by show _ = some (kA32.map (Value.int .u32)).length; rw [L0.out]; exact infoN_32)) rfl ⟨rfl, n0.trans (O0.below (Nat.le_refl _))⟩
end Go.Proofs.YtnfciobpfiibcaaDoor
