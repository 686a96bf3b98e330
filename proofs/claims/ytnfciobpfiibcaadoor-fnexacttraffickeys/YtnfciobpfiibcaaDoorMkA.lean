
/-
  Hashes on their way told by the data that they have taken; lists of lists; keys that are masked.
-/
import Derived.Test.YtnfciobpfiibcaaDoorHu32
import Derived.Test.YtnfciobpfiibcaaDoorHmD
import Derived.Laws.CopyOwn
namespace Go.Proofs.YtnfciobpfiibcaaDoor
set_option maxRecDepth 100000
open Go Go.RowKit

/-- A hash on its way, within a block, that has taken ys. -/
def HD (w : World) (q o : Nat) (ys : List Int) : Prop := ∃ R, HBo .u32 w q o ((ys.length : Nat) : Int) (whole32 start32 ys) R ∧ Byt R ∧ R.take (ys.length % 64) = left32 ys
theorem HD.lt {w : World} {q o : Nat} {ys : List Int} (h : HD w q o ys) : q < w.heap.size := by
  obtain ⟨R, h, _⟩ := h
  exact h.lt
theorem HD.up {w w' : World} {q o : Nat} {ys : List Int} (h : HD w q o ys) (n : Below w.heap.size w w') : HD w' q o ys := by
  obtain ⟨R, h, k⟩ := h
  exact ⟨R, h.up n, k⟩
theorem HD.bx {w w' : World} {q o p : Nat} {ys : List Int} (h : HD w q p ys) (b : Bx q o w w') (hp : p + 137 ≤ o ∨ o + 137 ≤ p) : HD w' q p ys := by
  obtain ⟨R, h, k⟩ := h
  exact ⟨R, h.bx b hp, k⟩
theorem HD.of_block {w w' : World} {q o : Nat} {ys : List Int} (h : HD w q o ys) (hb : w'.heap[q]? = w.heap[q]?) : HD w' q o ys := by
  obtain ⟨R, h, k⟩ := h
  exact ⟨R, h.of_block hb, k⟩
/-- The same as a value's cells. -/
def HV (vs : List Value) (ys : List Int) : Prop := ∃ R, vs = hcl .u32 ((ys.length : Nat) : Int) (whole32 start32 ys) R ∧ R.length = 128 ∧ Byt R ∧ R.take (ys.length % 64) = left32 ys
theorem HV.len {vs : List Value} {ys : List Int} (h : HV vs ys) : vs.length = 137 := by
  obtain ⟨R, rfl, hl, _⟩ := h
  exact hcl_len _ _ _ hl
theorem HV.one {vs : List Value} {ys : List Int} (h : HV vs ys) : ∀ v ∈ vs, v.oneCell' = true := by
  obtain ⟨R, rfl, hl, _⟩ := h
  intro v hv
  have := hcl_one .u32 ((ys.length : Nat) : Int) (whole32 start32 ys) R
  rw [Array.all_eq_true_iff_forall_mem] at this
  exact this v (by simpa using hv)
theorem HD.val {w : World} {q o : Nat} {ys : List Int} (h : HD w q o ys) : ∃ vs, HV vs ys ∧ w.rangeAt q o vs ∧ w.there q o 137 := by
  obtain ⟨R, h, b, e⟩ := h
  exact ⟨_, ⟨R, rfl, h.len, b, e⟩, h.range, h.there⟩
theorem HV.at {w : World} {q o : Nat} {vs : List Value} {ys : List Int} (h : HV vs ys) (rg : w.rangeAt q o vs) (th : w.there q o 137) : HD w q o ys := by
  obtain ⟨R, rfl, hl, b, e⟩ := h
  exact ⟨R, HBo.of_range hl rg th, b, e⟩
theorem HV.start : HV (hcl .u32 0 start32 (List.replicate 128 0)) [] := ⟨List.replicate 128 0, by rw [whole_short32 start32 (by simp)]; rfl, by simp, byt_rep0 _, by rw [left_short32 (by simp)]; rfl⟩
theorem takeD (w : World) (q o : Nat) (ys : List Int) (h : HD w q o ys) (g : Nat) (a : Option Addr) (c : Nat) (xs : List Int) (hr : Rd w g a .u8 xs) (hx : Byt xs) (hc : xs.length ≤ c) (hg : 0 < xs.length → g ≠ q)
    (hL : ys.length + xs.length ≤ 1152921504606846976) (hT : HasT w 1 kL) (hq : 1 ≠ q) :
    Calls Tryd.prog 69 #[.pointer (some ⟨q, o, none⟩), .slice a xs.length c] w fun e w' => e = .returned (.tuple #[]) ∧ HD w' q o (ys ++ xs) ∧ Bx q o w w' := by
  obtain ⟨R, H, b, e⟩ := h
  refine (takeO_32 w q o ys.length (whole32 start32 ys) R H (whole_ok32 start_ok32 ys) b g a c xs hr hx hc hg hL hT hq).mono ?_
  rintro r w' ⟨rfl, R', H', b', e', B'⟩
  rw [e, whole_left32] at H'
  rw [e, left_left32] at e'
  exact ⟨rfl, ⟨R', by rw [List.length_append]; exact H', b', by rw [List.length_append]; exact e'⟩, B'⟩
theorem endV (w : World) (vs : List Value) (ys : List Int) (h : HV vs ys) (hn : ys.length ≤ 1099511627776) (hT : HasT w 1 kL) :
    Calls Tryd.prog 70 #[.agg vs.toArray] w fun e w' => NewRow w.heap.size w' e .u8 (hashL32 ys) ∧ Below w.heap.size w w' := by
  obtain ⟨R, rfl, hl, b, e⟩ := h
  rw [← hash_is32 e]
  exact end_32 w ys.length (whole32 start32 ys) R hl (whole_ok32 start_ok32 ys) b hn hT
theorem hash_byt32 (ys : List Int) : Byt (hashL32 ys) := tell_byt32 _
theorem hash_len32 (ys : List Int) : (hashL32 ys).length = 32 := tell_len32 _

/-- A list that lies somewhere, out of block q. -/
structure Lst where
  g : Nat
  a : Option Addr
  c : Nat
  xs : List Int
def Lst.ok (w : World) (q : Nat) (l : Lst) : Prop := Rd w l.g l.a .u8 l.xs ∧ Byt l.xs ∧ l.xs.length ≤ l.c ∧ (0 < l.xs.length → l.g ≠ q)
def cat (ls : List Lst) : List Int := (ls.map Lst.xs).flatten
theorem cat_take (ls : List Lst) (j : Nat) (l : Lst) (h : ls[j]? = some l) : cat (ls.take (j + 1)) = cat (ls.take j) ++ l.xs := by
  unfold cat
  rw [List.take_add_one, h]
  simp
/-- A row of lists in block b. -/
def Lsts (w : World) (b : Nat) (ls : List Lst) : Prop := ∀ j l, ls[j]? = some l → w.cell? ⟨b, j, none⟩ = some (.slice l.a l.xs.length l.c)
theorem Lst.ok.bt {w w' : World} {q : Nat} {l : Lst} (h : l.ok w q) (b : Bth q w w') : l.ok w' q := by
  obtain ⟨h1, h2, h3, h4⟩ := h
  refine ⟨?_, h2, h3, h4⟩
  by_cases h0 : 0 < l.xs.length
  · exact h1.bt b (h4 h0)
  · exact fun h1 => absurd h1 h0
theorem Lsts.bt {w w' : World} {q b : Nat} {ls : List Lst} (h : Lsts w b ls) (B : Bth q w w') (hb : b ≠ q) : Lsts w' b ls := fun j l hj => by
  have := h j l hj
  rw [World.cell?_of_block (a := ⟨b, j, none⟩) (B.block b (block_lt_of_cell this) hb)]
  exact this
set_option maxHeartbeats 2000000 in
theorem takeAllD (w : World) (q o : Nat) (ys : List Int) (h : HD w q o ys) (b n c : Nat) (ls : List Lst) (hn : ls.length = n) (hm : n ≤ 1000) (hs : Lsts w b ls) (hl : ∀ l ∈ ls, l.ok w q) (hb : b ≠ q)
    (hL : ys.length + (cat ls).length ≤ 1152921504606846976) (hT : HasT w 1 kL) (hq : 1 ≠ q) :
    Calls Tryd.prog 91 #[.pointer (some ⟨q, o, none⟩), .slice (some ⟨b, 0, none⟩) n c] w fun e w' => e = .returned (.tuple #[]) ∧ HD w' q o (ys ++ cat ls) ∧ Bx q o w w' := by
  have HN := hide hn
  clear hn
  have hp : ∀ j, (cat (ls.take j)).length ≤ (cat ls).length := fun j => by
    have : cat ls = cat (ls.take j) ++ cat (ls.drop j) := by
      unfold cat
      rw [← List.flatten_append, ← List.map_append, List.take_append_drop]
    rw [this, List.length_append]
    omega
  go_enter Tryd.func91, Tryd.ntmps91
  go_wp2_with fail
  go_loopw [5, 8] (fun _ i wr => ∃ (j : Nat), j ≤ n ∧ i = .int .i64 j ∧ HD wr q o (ys ++ cat (ls.take j)) ∧ Bx q o w wr) (fun _ i _ => n - (intOf i).toNat)
  case atStart => exact ⟨0, Nat.zero_le _, rfl, by simpa [cat] using h, Bx.refl _ _ _⟩
  case round =>
    obtain ⟨j, hj, rfl, hD, hB⟩ := hrel
    by_cases hlt : j < n
    · obtain ⟨l, hjl⟩ : ∃ l, ls[j]? = some l := ⟨ls[j]'(by rw [HN.out]; exact hlt), List.getElem?_eq_getElem _⟩
      have lm : l ∈ ls := List.mem_of_getElem? hjl
      have ok := (hl l lm).bt hB.bt
      have cc := (hs.bt hB.bt hb) j l hjl
      have ct := cat_take ls j l hjl
      have lb : (ys ++ cat (ls.take j)).length + l.xs.length ≤ 1152921504606846976 := by
        have := hp (j + 1)
        rw [ct, List.length_append] at this
        rw [List.length_append]
        omega
      have TD := hide (takeD wr q o _ hD l.g l.a l.c l.xs ok.1 ok.2.1 ok.2.2.1 ok.2.2.2 lb (hT.bt (by decide) hB.bt hq) hq)
      have CT := hide ct
      clear lb ct hD h hs hl ok lm
      generalize cat (ls.take j) = cj at *
      have jn : (j : Int) < (n : Int) := by omega
      go_wp2_with fail
      refine TD.out.mono ?_
      rintro e w1 ⟨rfl, D1, B1⟩
      rw [List.append_assoc, ← CT.out] at D1
      have BB := hB.trans B1
      clear TD
      go_wp2
      go_roundw
      case rel => exact ⟨j + 1, by omega, by go_num, D1, BB⟩
      case measure => simp [intOf]; omega
    · obtain rfl : j = n := by omega
      have e : ls.take j = ls := List.take_of_length_le (by rw [HN.out]; exact Nat.le_refl _)
      rw [e] at hD
      go_wp2
      exact bodyPost_end (v := .tuple #[]) (by simp [results, Tryd.results91, go_sem]) rfl ⟨rfl, hD, hB⟩

/-- A key, filled up and masked. -/
def mx (x m : Int) : Int := bits BinOp.xor IntKind.u8 x m
def to64 (xs : List Int) : List Int := xs.take 64 ++ (List.replicate 64 0).drop (xs.take 64).length
def maskL (xs : List Int) (m : Int) : List Int := (to64 xs).map (mx · m)
theorem to64_len (xs : List Int) : (to64 xs).length = 64 := by
  unfold to64
  rw [List.length_append, List.length_drop, List.length_replicate, List.length_take]
  omega
theorem to64_get (xs : List Int) {i : Nat} (h : i < 64) : (to64 xs).getD i 0 = xs.getD i 0 := by
  unfold to64
  by_cases hi : i < (xs.take 64).length
  · rw [List.getD_eq_getElem?_getD, List.getElem?_append, if_pos hi, List.getElem?_take, if_pos h, List.getD_eq_getElem?_getD]
  · have : xs.length ≤ i := by rw [List.length_take] at hi; omega
    rw [List.getD_eq_getElem?_getD, List.getElem?_append, if_neg hi, List.getElem?_drop, List.getElem?_replicate, List.getD_eq_getElem?_getD, List.getElem?_eq_none this]
    split <;> simp
theorem maskL_len (xs : List Int) (m : Int) : (maskL xs m).length = 64 := by unfold maskL; rw [List.length_map, to64_len]
theorem maskL_get (xs : List Int) (m : Int) {i : Nat} (h : i < 64) : (maskL xs m).getD i 0 = mx (xs.getD i 0) m := by
  rw [← to64_get xs h]
  unfold maskL
  have := to64_len xs
  simp [List.getD_eq_getElem?_getD, show i < (to64 xs).length by omega]
theorem mx_in {m : Int} (hm : m = 54 ∨ m = 92) {x : Int} (h : 0 ≤ x ∧ x < 256) : 0 ≤ mx x m ∧ mx x m < 256 := by
  have h1 : ∀ n : Fin 256, 0 ≤ mx (n.val : Int) 54 ∧ mx (n.val : Int) 54 < 256 := by decide +kernel
  have h2 : ∀ n : Fin 256, 0 ≤ mx (n.val : Int) 92 ∧ mx (n.val : Int) 92 < 256 := by decide +kernel
  obtain ⟨k, rfl⟩ := Int.eq_ofNat_of_zero_le h.1
  rcases hm with rfl | rfl
  · exact h1 ⟨k, by omega⟩
  · exact h2 ⟨k, by omega⟩
theorem maskL_byt {xs : List Int} (h : Byt xs) {m : Int} (hm : m = 54 ∨ m = 92) : Byt (maskL xs m) := by
  intro i
  by_cases c : i < 64
  · rw [maskL_get xs m c]
    exact mx_in hm (h i)
  · rw [List.getD_eq_getElem?_getD, List.getElem?_eq_none (by rw [maskL_len]; omega)]
    simp
end Go.Proofs.YtnfciobpfiibcaaDoor
