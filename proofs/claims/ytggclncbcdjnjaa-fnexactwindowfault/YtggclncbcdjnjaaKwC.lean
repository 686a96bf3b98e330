
/-
  Windows: ids as the keys of a map.
-/
import Derived.Test.YtggclncbcdjnjaaKwB
import Derived.Maps.Own
import Derived.Maps.OwnSet
import Derived.Maps.Views
import Derived.DeepKeys4
namespace Go.Proofs.Ytggclncbcdjnjaa
open Go Go.RowKit Go.Maps

theorem laidOutK : laidOutB Try.prog = true := by kernel_rfl
theorem lawK : Keyed Try.prog 51 := Keyed.of_law (deep_law_laid laidOutK (m := 3) (by decide) (by decide +kernel) (by kernel_rfl) (by kernel_rfl))
/-- An id as an array. -/
def idV (xs : List Int) : Value := .agg (xs.map (Value.int .u8)).toArray
theorem mapM_allK {α β : Type} (f : α → Option β) (h : α → β) : ∀ l : List α, (∀ x ∈ l, f x = some (h x)) → l.mapM f = some (l.map h)
  | [], _ => rfl
  | x :: l, hl => by
    rw [List.mapM_cons, hl x (by simp), mapM_allK f h l (fun y hy => hl y (by simp [hy]))]
    rfl
theorem wf8 {x : Int} (h0 : 0 ≤ x) (h1 : x < 256) : (Lit.int .u8 x).wf = true := by
  simp [Lit.wf, IntKind.min, IntKind.max, IntKind.signed, IntKind.bits]
  omega
theorem uId : Try.prog.underlying 51 = some (.array 32 5) := by kernel_rfl
theorem cId : Try.prog.cellsOf 51 = 32 := by kernel_rfl
theorem cU8 : Try.prog.cellsOf 5 = 1 := by kernel_rfl
theorem kId : Try.prog.keyType 51 = true := by kernel_rfl
theorem szT : ∃ m, Try.prog.types.size = m + 1 := ⟨Try.prog.types.size - 1, by kernel_rfl⟩
def keyF : Nat → List Int → Lit
  | 0, _ => .bool true
  | _ + 1, xs => .string (keyBytes (((List.range 32).map fun i => [Lit.int .u8 (xs.getD i 0)]).flatten))
def keyL (xs : List Int) : Lit := keyF xs.length xs
set_option maxRecDepth 100000 in
theorem keyL_some {xs : List Int} (hl : xs.length = 32) (hb : Byt xs) : keyOf Try.prog 51 (idV xs) = some (keyL xs) := by
  obtain ⟨m, hm⟩ := szT
  have ek : keyL xs = .string (keyBytes (((List.range 32).map fun i => [Lit.int .u8 (xs.getD i 0)]).flatten)) := by unfold keyL; rw [hl]; rfl
  rw [ek]
  unfold keyOf idV
  simp only [uId]
  rw [if_pos (by simp [kId, Value.formed, cId, hl]), hm]
  unfold Program.keyLits
  simp only [uId, Value.cells]
  rw [if_pos (by rw [cId]; simp [hl])]
  rw [mapM_allK _ (fun i => [Lit.int .u8 (xs.getD i 0)]) (List.range 32) (fun i hi => by
    have hi' : i < 32 := by simpa using hi
    have hx := hb i
    have e : ((xs.map (Value.int .u8)).drop (i * Try.prog.cellsOf 5)).take (Try.prog.cellsOf 5) = [.int .u8 (xs.getD i 0)] := by
      rw [cU8, Nat.mul_one, List.drop_eq_getElem_cons (by simp; omega)]
      simp [List.getD_eq_getElem?_getD, List.getElem?_eq_getElem (show i < xs.length by omega)]
    simp only [e]
    unfold Program.keyLits
    simp only [Try.underlying5]
    rw [if_pos ⟨trivial, wf8 hx.1 hx.2⟩])]
  rfl
theorem keyL_inj {xs ys : List Int} (hx : xs.length = 32) (bx : Byt xs) (hy : ys.length = 32) (by' : Byt ys) (h : keyL xs = keyL ys) : xs = ys := by
  have e := lawK.inj (keyL_some hx bx) (h ▸ keyL_some hy by')
  unfold idV at e
  have e2 : (xs.map (Value.int .u8)) = ys.map (Value.int .u8) := by simpa using e
  exact (List.map_inj_right (fun a b h => by simpa using h)).1 e2
theorem keyL_key {xs : List Int} (hl : xs.length = 32) (hb : Byt xs) : WideAt.IsKeyLit (keyL xs) := lawK.key (keyL_some hl hb)
/-- Of keys put into a set one behind the other: how many there are tells whether two are the same. -/
theorem addKey_count (ls : List Lit) (hk : ∀ x ∈ ls, WideAt.IsKeyLit x) : ∀ k, k ≤ ls.length → ((∀ i, i < k → ∀ j, j < i → ls[i]? ≠ ls[j]?) → (ls.take k).foldl addKey [] = ls.take k) ∧ ((∃ i j, i < k ∧ j < i ∧ ls[i]? = ls[j]?) → ((ls.take k).foldl addKey []).length < k) ∧ ((ls.take k).foldl addKey []).length ≤ k
  | 0, _ => ⟨fun _ => by simp, fun ⟨i, _, h, _⟩ => absurd h (by omega), by simp⟩
  | k + 1, hk1 => by
    obtain ⟨h1, h2, h3⟩ := addKey_count ls hk k (by omega)
    have et : ls.take (k + 1) = ls.take k ++ [ls[k]'(by omega)] := List.take_succ_eq_append_getElem (by omega)
    have ef : (ls.take (k + 1)).foldl addKey [] = addKey ((ls.take k).foldl addKey []) (ls[k]'(by omega)) := by rw [et, List.foldl_append]; rfl
    have hle : ∀ acc : List Lit, ∀ x, (addKey acc x).length ≤ acc.length + 1 := fun acc x => by unfold addKey; split <;> simp
    refine ⟨fun hd => ?_, fun hd => ?_, ?_⟩
    · have e := h1 (fun i hi j hj => hd i (by omega) j hj)
      rw [ef, e, et]
      unfold addKey
      rw [if_neg]
      intro ha
      rw [List.any_eq_true] at ha
      obtain ⟨y, hy, hs⟩ := ha
      have ey := WideAt.sameKey_eq hs
      obtain ⟨j, hj, e2⟩ := List.getElem_of_mem hy
      have hj' : j < k := by rw [List.length_take] at hj; omega
      refine hd k (by omega) j hj' ?_
      rw [List.getElem?_eq_getElem (by omega), List.getElem?_eq_getElem (by omega), ← ey, ← e2]
      simp
    · rw [ef]
      by_cases hd' : ∃ i j, i < k ∧ j < i ∧ ls[i]? = ls[j]?
      · have := h2 hd'
        have := hle ((ls.take k).foldl addKey []) (ls[k]'(by omega))
        omega
      · obtain ⟨i, j, hi, hj, e⟩ := hd
        obtain rfl : i = k := by
          by_cases hik : i < k
          · exact absurd ⟨i, j, hik, hj, e⟩ hd'
          · omega
        have e1 := h1 (fun i' hi' j' hj' h => hd' ⟨i', j', hi', hj', h⟩)
        rw [e1]
        unfold addKey
        rw [if_pos]
        · rw [List.length_take]; omega
        · rw [List.any_eq_true]
          refine ⟨ls[j]'(by omega), ?_, ?_⟩
          · rw [List.mem_take_iff_getElem]
            exact ⟨j, by omega, rfl⟩
          · rw [List.getElem?_eq_getElem (by omega), List.getElem?_eq_getElem (by omega)] at e
            have e' : ls[i]'(by omega) = ls[j]'(by omega) := Option.some.inj e
            rw [← e']
            exact WideAt.sameKey_self (hk _ (List.getElem_mem _))
    · rw [ef]
      have := hle ((ls.take k).foldl addKey []) (ls[k]'(by omega))
      omega
end Go.Proofs.Ytggclncbcdjnjaa
