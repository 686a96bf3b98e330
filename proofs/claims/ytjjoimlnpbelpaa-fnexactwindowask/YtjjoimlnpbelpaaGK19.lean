import Derived.Test.YtjjoimlnpbelpaaGK18
import Derived.Test.YtjjoimlnpbelpaaGK1
import Derived.Test.YtjjoimlnpbelpaaGK11
import Derived.Test.YtjjoimlnpbelpaaGK2

/-
  Windows that are asked: the ids of the book in the order of their places (written by gens/waj.py).
-/
namespace Go.Proofs.Ytjjoimlnpbelpaa
open Go Go.RowKit Go.Maps Go.Sort Go.Shelf

set_option maxRecDepth 100000 in
theorem collect_any (w : World) (Bm b nn : Nat) (D : DataW Unit) (E : List Ent) (hB : Bk D E) (hBm : Bm < w.heap.size) (hm : w.cell? ⟨Bm, 0, none⟩ = some (.map (some b))) (own : w.ownsMap Try.prog 58 pmR b nn D) (hl : E.length ≤ 1000) :
    Calls Try.prog 45 #[.func (.func 47) #[] #[.pointer (some ⟨Bm, 0, none⟩)]] w fun e w' => (∃ v xs, e = .returned v ∧ (xs.map (fun x : Id32 => x.1)).Perm (E.map (·.id)) ∧ w'.ownsRow w.heap.size 58 32 v xs.length (fltI xs)) ∧ Below w.heap.size w w' := by
  have AS := hide (appendSeq_any w Bm b nn D E hB hBm hm own hl)
  go_enter Try.func45, Try.ntmps45
  go_wp2_with fail
  refine AS.out.mono ?_
  rintro e w1 ⟨⟨v, xs, rfl, hp, ho⟩, n1⟩
  have HP := hide hp
  have HO := hide ho
  clear hp ho AS
  go_wp2
  go_ret
  exact ⟨⟨v, xs, rfl, HP.out, HO.out⟩, n1⟩
set_option maxRecDepth 100000 in
theorem flt_get [Inhabited Id32] : ∀ (xs : List Id32) (j : Nat), j < xs.length * 32 → (fltI xs)[j]? = some ((encI (xs.toArray[j / 32]!))[j % 32]!)
  | [], j, h => by simp at h
  | x :: xs, j, h => by
    have e : fltI (x :: xs) = encI x ++ fltI xs := by simp [fltI]
    have l := encI_len x
    rw [e]
    by_cases hj : j < 32
    · rw [List.getElem?_append_left (by omega), show j / 32 = 0 by omega, show j % 32 = j by omega]
      simp [hj, l]
    · rw [List.getElem?_append_right (by omega), l, flt_get xs (j - 32) (by simp at h; omega)]
      have a1 : j / 32 = (j - 32) / 32 + 1 := by omega
      have a2 : (j - 32) % 32 = j % 32 := by omega
      rw [a1, a2]
      simp
set_option maxRecDepth 100000 in
def ent0 : Ent := ⟨[], 0, 0⟩
set_option maxRecDepth 100000 in
theorem sortedFunc_any (w : World) (Bm b nn s : Nat) (D : DataW Unit) (E : List Ent) (hB : Bk D E) (hBm : Bm < w.heap.size) (hm : w.cell? ⟨Bm, 0, none⟩ = some (.map (some b))) (own : w.ownsMap Try.prog 58 pmR b nn D) (hs : w.cell? ⟨s, 0, none⟩ = some (.map (some b))) (hl : E.length ≤ 1000) (h0 : 0 < E.length) (asc : E.Pairwise (fun x y => x.pl < y.pl)) :
    Calls Try.prog 37 #[.func (.func 47) #[] #[.pointer (some ⟨Bm, 0, none⟩)], .func (.func 35) #[] #[.pointer (some ⟨s, 0, none⟩)]] w fun e w' => (∃ g cap, e = .returned (.slice (some ⟨g, 0, none⟩) E.length cap) ∧ (∀ i, i < E.length → w'.rangeAt g (i * 32) ((E.getD i ent0).id.map (Value.int .u8)))) ∧ Below w.heap.size w w' := by
  haveI iI : Inhabited Id32 := ⟨id0⟩
  have CO := hide (collect_any w Bm b nn D E hB hBm hm own hl)
  have hb := own.lt
  have hsl := block_lt_of_cell hs
  go_enter Try.func37, Try.ntmps37
  go_wp2_with fail
  refine CO.out.mono ?_
  rintro e w1 ⟨⟨v, xs, rfl, hp, ho⟩, n1⟩
  have xl : xs.length = E.length := by have := hp.length_eq; simpa using this
  obtain ⟨g, cap, cur, rfl, hbg, hg, hn, hmx, hcs, ht⟩ : ∃ g cap cur, v = .slice (some ⟨g, 0, none⟩) xs.length cap ∧ w.heap.size ≤ g ∧ w1.heap[g]? = some (.cells cur 58 (0, 0)) ∧ xs.length ≤ cap ∧ cap ≤ maxLen ∧ cur.size = cap * 32 ∧ cur.toList.take (xs.length * 32) = fltI xs := by
    rcases ho.2 with ⟨_, h'⟩ | h'
    · omega
    · exact h'
  have gl : g < w1.heap.size := (Array.getElem?_eq_some_iff.1 hg).1
  have H1 : HoldsK encI 32 w1 g 0 xs.toArray := by
    intro j hj
    rw [size_flatK] at hj
    have hj' : j < xs.length * 32 := by simpa using hj
    rw [get_flatK _ _ _ _ hj]
    refine ⟨?_, frozen_of_row w1 g _ cur 58 hg⟩
    rw [cell_of_row w1 g _ cur _ (0, 0) hg, Nat.zero_add]
    have e1 : (cur.toList.take (xs.length * 32))[j]? = (fltI xs)[j]? := by rw [ht]
    rw [List.getElem?_take, if_pos hj', flt_get xs j hj'] at e1
    simpa using e1
  have SO := hide (sortIds_any D s b nn g cap xs.toArray w1 ((n1.cell (block_lt_of_cell hs)).trans hs) (ownP own n1) (by omega) (by omega) H1 gl (by simp; omega))
  have XL := hide xl
  have HP := hide hp
  have N1 := hide n1
  have HB := hide hB
  have AS := hide asc
  have e2 : xs.toArray.size = E.length := by simpa using xl
  rw [e2] at SO
  rw [xl]
  clear hp ho ht H1 hn hmx hcs CO hg e2 xl hB asc n1
  go_wp2_with fail
  refine SO.out.mono ?_
  rintro e w2 ⟨rfl, d', pm, hso, hH, hgr⟩
  have PM := hide pm
  have SOR := hide hso
  have HH := hide hH
  have GR := hide hgr
  clear pm hso hH hgr SO
  go_wp2
  go_ret
  have dl : d'.size = E.length := by have := PM.out.length_eq; have := XL.out; simp at *; omega
  have pl : ∀ e ∈ E, plOf D e.id = e.pl := fun e he => by unfold plOf; rw [HB.out.at' e he]; rfl
  have q1 : (d'.toList.map (fun x : Id32 => x.1)).Perm (E.map (·.id)) := (PM.out.map _).trans (by simpa using HP.out)
  have EQ : d'.toList.map (fun x : Id32 => x.1) = E.map (·.id) := by
    refine List.Perm.eq_of_pairwise (le := fun a b => plOf D a ≤ plOf D b) (fun a b ha hb h1 h2 => ?_) ?_ ?_ q1
    · obtain ⟨e, he, rfl⟩ := List.mem_map.1 (q1.mem_iff.1 ha)
      obtain ⟨f, hf, rfl⟩ := List.mem_map.1 hb
      rw [pl e he, pl f hf] at h1 h2
      obtain ⟨i, hi, ei⟩ := List.getElem_of_mem he
      obtain ⟨j, hj, ej⟩ := List.getElem_of_mem hf
      rcases Nat.lt_trichotomy i j with l | l | l
      · have := List.pairwise_iff_getElem.1 AS.out i j hi hj l
        rw [ei, ej] at this
        omega
      · subst l
        rw [← ei, ej]
      · have := List.pairwise_iff_getElem.1 AS.out j i hj hi l
        rw [ei, ej] at this
        omega
    · refine List.pairwise_map.2 (List.pairwise_iff_getElem.2 fun i j hi hj hij => ?_)
      have := SOR.out i j hij (by simpa [dl] using hj)
      rw [getElem!_pos d' i (by simpa using hi), getElem!_pos d' j (by simpa using hj)] at this
      simpa using this
    · refine List.pairwise_map.2 (AS.out.imp_of_mem fun {x y} hx hy h => ?_)
      show plOf D x.id ≤ plOf D y.id
      rw [pl x hx, pl y hy]
      omega
  refine ⟨⟨g, cap, rfl, fun i hi => ?_⟩, N1.out.trans ((Below.refl w.heap.size w1).grown GR.out (by have := N1.out.size; omega) (fun k hk => by cases hk; omega))⟩
  intro c u hu
  have e3 : (E.getD i ent0).id = (d'[i]!).1 := by
    have a1 : (d'.toList.map (fun x : Id32 => x.1))[i]? = (E.map (·.id))[i]? := by rw [EQ]
    rw [List.getElem?_map, List.getElem?_map, List.getElem?_eq_getElem hi, Array.getElem?_toList, Array.getElem?_eq_getElem (by omega)] at a1
    rw [List.getD_eq_getElem?_getD, List.getElem?_eq_getElem hi, getElem!_pos d' i (by omega)]
    simpa using a1.symm
  rw [e3] at hu
  have hc : c < 32 := by
    have := (List.getElem?_eq_some_iff.1 hu).1
    rw [List.length_map, (d'[i]!).2.1] at this
    exact this
  have h9 := (HH.out.cell (i := i) (c := c) (by omega) hc).1
  rw [Nat.zero_add] at h9
  rw [h9]
  have : (encI (d'[i]!))[c]? = some u := hu
  rw [List.getElem!_eq_getElem?_getD, this]
  rfl
end Go.Proofs.Ytjjoimlnpbelpaa

/-
  Numbers as bytes, the highest first, and the padding of a hash. No program in sight.
-/
namespace Go.Proofs.Ytjjoimlnpbelpaa
open Go.RowKit

/-- v in t bytes, the highest first. -/
def bigL (v : Int) (t : Nat) : List Int := (List.range t).map fun j => v / 256 ^ (t - 1 - j) % 256
theorem bigL_len (v : Int) (t : Nat) : (bigL v t).length = t := by simp [bigL]
theorem bigL_get (v : Int) (t j : Nat) (h : j < t) : (bigL v t).getD j 0 = v / 256 ^ (t - 1 - j) % 256 := by simp [bigL, h]
theorem bigL_byt (v : Int) (t : Nat) : Byt (bigL v t) := by
  intro j
  by_cases h : j < t
  · rw [bigL_get v t j h]
    omega
  · have : (bigL v t).getD j 0 = 0 := by
      rw [List.getD_eq_getElem?_getD, List.getElem?_eq_none (by rw [bigL_len]; omega)]
      rfl
    rw [this]
    omega

/-- The last k places of ys are those of v. -/
def BigTo (v : Int) (t : Nat) (ys : List Int) (k : Nat) : Prop := ys.length = t ∧ ∀ j, t - k ≤ j → j < t → ys.getD j 0 = v / 256 ^ (t - 1 - j) % 256
theorem BigTo.zero (v : Int) (t : Nat) : BigTo v t (List.replicate t 0) 0 := ⟨by simp, fun j h h' => absurd h (by omega)⟩
theorem BigTo.step {v : Int} {t : Nat} {ys : List Int} {k : Nat} (h : BigTo v t ys k) (hk : k < t) : BigTo v t (ys.set (t - 1 - k) (v / 256 ^ k % 256)) (k + 1) := by
  refine ⟨by simpa using h.1, fun j hj hj' => ?_⟩
  by_cases e : t - 1 - k = j
  · subst e
    rw [getD_set_self _ _ _ (by rw [h.1]; omega), show t - 1 - (t - 1 - k) = k by omega]
  · rw [getD_set_ne _ _ _ _ e]
    exact h.2 j (by omega) hj'
theorem BigTo.all {v : Int} {t : Nat} {ys : List Int} (h : BigTo v t ys t) : ys = bigL v t :=
  eq_of_getD (by rw [h.1, bigL_len]) (fun i hi => by rw [h.1] at hi; rw [h.2 i (by omega) hi, bigL_get v t i hi])
theorem div256 (v : Int) (k : Nat) : v / 256 ^ k / 256 = v / 256 ^ (k + 1) := by
  have h0 := p256_pos k
  rw [Int.ediv_ediv_of_nonneg (by omega), ← Int.pow_succ]

theorem getD_apd_right (xs ys : List Int) (i : Nat) (h : xs.length ≤ i) : (xs ++ ys).getD i 0 = ys.getD (i - xs.length) 0 := by
  rw [List.getD_eq_getElem?_getD, List.getElem?_append_right h, ← List.getD_eq_getElem?_getD]
theorem getD_apd_left (xs ys : List Int) (i : Nat) (h : i < xs.length) : (xs ++ ys).getD i 0 = xs.getD i 0 := by
  rw [List.getD_eq_getElem?_getD, List.getElem?_append_left h, ← List.getD_eq_getElem?_getD]

/-- How many zeros, and the whole padding. -/
def padZ (n : Int) (B t : Nat) : Nat := (((B : Int) - (n + 1 + (t : Int)) % (B : Int)) % (B : Int)).toNat
def padL (n : Int) (B t : Nat) : List Int := 128 :: (List.replicate (padZ n B t) 0 ++ bigL (8 * n) t)
theorem padL_len (n : Int) (B t : Nat) : (padL n B t).length = 1 + padZ n B t + t := by
  unfold padL
  simp [bigL_len]
  omega
theorem byt_cons {x : Int} {xs : List Int} (h0 : 0 ≤ x) (h1 : x < 256) (h : Byt xs) : Byt (x :: xs) := by
  intro j
  cases j with
  | zero => exact ⟨h0, h1⟩
  | succ j => exact h j
theorem byt_apd {xs ys : List Int} (h : Byt xs) (k : Byt ys) : Byt (xs ++ ys) := by
  intro j
  rw [List.getD_eq_getElem?_getD]
  by_cases c : j < xs.length
  · rw [List.getElem?_append_left c, ← List.getD_eq_getElem?_getD]
    exact h j
  · rw [List.getElem?_append_right (by omega), ← List.getD_eq_getElem?_getD]
    exact k _
theorem byt_rep0 (n : Nat) : Byt (List.replicate n 0) := by
  intro j
  rw [List.getD_eq_getElem?_getD, List.getElem?_replicate]
  split <;> simp
theorem padL_byt (n : Int) (B t : Nat) : Byt (padL n B t) := byt_cons (by omega) (by omega) (byt_apd (byt_rep0 _) (bigL_byt _ _))
/-- What is asked for: nothing, where n is not to be hashed. -/
def padA (n : Int) (B t : Nat) : List Int := if 0 ≤ n ∧ n ≤ 1099511627776 then padL n B t else []
theorem padA_byt (n : Int) (B t : Nat) : Byt (padA n B t) := by
  unfold padA
  split
  · exact padL_byt n B t
  · intro j
    simp
theorem padZ_lt (n : Int) {B t : Nat} (h : 0 < B) : padZ n B t < B := by
  unfold padZ
  have h0 := Int.emod_nonneg ((B : Int) - (n + 1 + (t : Int)) % (B : Int)) (show (B : Int) ≠ 0 by omega)
  have h1 := Int.emod_lt_of_pos ((B : Int) - (n + 1 + (t : Int)) % (B : Int)) (show (0 : Int) < (B : Int) by omega)
  omega
theorem padA_len (n : Int) {B t : Nat} (h : 0 < B) : (padA n B t).length ≤ B + t := by
  unfold padA
  split
  · rw [padL_len]
    have := padZ_lt n (t := t) h
    omega
  · simp
/-- As long as the length is no multiple, there are less zeros than are asked. -/
theorem padZ_go {n : Int} {B t k : Nat} (h : k ≤ padZ n B t) (hB : B = 64 ∧ t = 8 ∨ B = 128 ∧ t = 16) (hn : (n + (1 + (k : Int)) + (t : Int)) % (B : Int) ≠ 0) : k + 1 ≤ padZ n B t := by
  unfold padZ at *
  rcases hB with ⟨rfl, rfl⟩ | ⟨rfl, rfl⟩ <;> omega
theorem padZ_end {n : Int} {B t k : Nat} (h : k ≤ padZ n B t) (hB : B = 64 ∧ t = 8 ∨ B = 128 ∧ t = 16) (hn : (n + (1 + (k : Int)) + (t : Int)) % (B : Int) = 0) : k = padZ n B t := by
  unfold padZ at *
  rcases hB with ⟨rfl, rfl⟩ | ⟨rfl, rfl⟩ <;> omega

/-- The program's: the size, and the places from the end on. -/
def padS (n : Int) (B t : Nat) : Nat := 1 + padZ n B t + t
theorem padS_32 (n : Int) : ((padS n 64 8 : Nat) : Int) = if 64 - n % 64 < 9 then 64 - n % 64 + 64 else 64 - n % 64 := by
  unfold padS padZ
  split <;> omega
theorem padS_64 (n : Int) : ((padS n 128 16 : Nat) : Int) = if 128 - n % 128 < 17 then 128 - n % 128 + 128 else 128 - n % 128 := by
  unfold padS padZ
  split <;> omega
def PadTo (n : Int) (s : Nat) (ys : List Int) (k : Nat) : Prop :=
  ys.length = s ∧ ys.getD 0 0 = 128 ∧ (∀ j, 0 < j → j < s - k → ys.getD j 0 = 0) ∧ ∀ j, s - k ≤ j → j < s → ys.getD j 0 = 8 * n / 256 ^ (s - 1 - j) % 256
theorem PadTo.zero (n : Int) (s : Nat) (h : 0 < s) : PadTo n s ((List.replicate s 0).set 0 128) 0 := by
  refine ⟨by simp, ?_, fun j h0 hj => ?_, fun j hj hj' => absurd hj (by omega)⟩
  · rw [getD_set_self _ _ _ (by simpa using h)]
  · rw [getD_set_ne _ _ _ _ (by omega)]
    rw [List.getD_eq_getElem?_getD, List.getElem?_replicate]
    split <;> rfl
theorem PadTo.step {n : Int} {s : Nat} {ys : List Int} {k : Nat} (h : PadTo n s ys k) (hk : k + 1 < s) : PadTo n s (ys.set (s - 1 - k) (8 * n / 256 ^ k % 256)) (k + 1) := by
  obtain ⟨h1, h2, h3, h4⟩ := h
  refine ⟨by simpa using h1, ?_, fun j h0 hj => ?_, fun j hj hj' => ?_⟩
  · rw [getD_set_ne _ _ _ _ (by omega)]
    exact h2
  · rw [getD_set_ne _ _ _ _ (by omega)]
    exact h3 j h0 (by omega)
  · by_cases e : s - 1 - k = j
    · subst e
      rw [getD_set_self _ _ _ (by rw [h1]; omega), show s - 1 - (s - 1 - k) = k by omega]
    · rw [getD_set_ne _ _ _ _ e]
      exact h4 j (by omega) hj'
theorem PadTo.all {n : Int} {B t : Nat} {ys : List Int} (h0 : 0 ≤ n) (h1 : n ≤ 1099511627776) (ht : t = 8 ∨ t = 16) (h : PadTo n (padS n B t) ys 8) : ys = padL n B t := by
  obtain ⟨a1, a2, a3, a4⟩ := h
  refine eq_of_getD (by rw [a1, padL_len]; rfl) (fun i hi => ?_)
  rw [a1] at hi
  have hs : padS n B t = 1 + padZ n B t + t := rfl
  unfold padL
  cases i with
  | zero => rw [a2]; rfl
  | succ i =>
    rw [List.getD_cons_succ]
    by_cases c : i < padZ n B t
    · rw [a3 _ (by omega) (by omega), List.getD_eq_getElem?_getD, List.getElem?_append_left (by simpa using c), List.getElem?_replicate, if_pos c]
      rfl
    · rw [getD_apd_right (List.replicate (padZ n B t) 0) _ i (by simpa using c), List.length_replicate, bigL_get _ _ _ (by omega)]
      by_cases d : padS n B t - 8 ≤ i + 1
      · rw [a4 _ d hi, show padS n B t - 1 - (i + 1) = t - 1 - (i - padZ n B t) by omega]
      · rw [a3 _ (by omega) (by omega)]
        obtain ⟨e, he⟩ : ∃ e, t - 1 - (i - padZ n B t) = 8 + e := ⟨t - 1 - (i - padZ n B t) - 8, by omega⟩
        rw [he, Int.pow_add]
        have hp := p256_pos e
        have hz : 8 * n / ((256 : Int) ^ 8 * 256 ^ e) = 0 := by
          refine Int.ediv_eq_zero_of_lt (by omega) ?_
          have : (256 : Int) ^ 8 * 1 ≤ 256 ^ 8 * 256 ^ e := Int.mul_le_mul_of_nonneg_left (by omega) (by decide)
          have : (256 : Int) ^ 8 = 18446744073709551616 := by decide
          omega
        rw [hz]
        rfl
end Go.Proofs.Ytjjoimlnpbelpaa

/-
  The program's appendNumber, up to eight bytes; slices.Clone of bytes (as MiB, MiD, without the messages).
-/
namespace Go.Proofs.Ytjjoimlnpbelpaa
open Go Go.RowKit

theorem bigL_takeN (n : Int) (t k : Nat) (h : k < t) : (bigL n t).take (k + 1) = (bigL n t).take k ++ [n / 256 ^ (t - 1 - k) % 256] := by
  rw [List.take_add_one]
  simp [bigL, h]
theorem RowB.nilN (w : World) (base : Nat) : RowB w base (.slice none 0 0) [] := ⟨rfl, .inl ⟨rfl, rfl⟩⟩
set_option maxRecDepth 100000 in
set_option maxHeartbeats 1000000 in
theorem cloneR_any (w : World) (g : Nat) (a : Option Addr) (c : Nat) (xs : List Int) (h : Rd w g a .u8 xs) (hz : a = none → c = 0) (m : xs.length ≤ 1099511627776) : Calls Try.prog 39 #[.slice a xs.length c] w fun e w' => ∃ v', e = .returned v' ∧ RowB w' w.heap.size v' xs ∧ Below w.heap.size w w' := by
  obtain ⟨i0, hi, hz0, hz1, hz2⟩ := info_parts Try.info5
  cases a with
  | none =>
    obtain rfl : xs = [] := by
      by_cases h0 : 0 < xs.length
      · obtain ⟨off, e, _⟩ := h h0
        simp at e
      · exact List.eq_nil_of_length_eq_zero (by omega)
    obtain rfl := hz rfl
    have b0 : ∀ W, (binOp BinOp.eql 25 (.slice none 0 0) (.slice none 0 0)).run Try.prog W = .ok (.bool true) W := fun W => by kernel_rfl
    go_enter Try.func39, Try.ntmps39
    go_wp2
    go_ret
    exact ⟨_, rfl, RowB.nilN _ _, Below.refl _ _⟩
  | some ad =>
    have n0 : Below w.heap.size w (w.alloc (.cells #[] 5)) := (Below.refl _ _).alloc (Nat.le_refl _) _
    have r := h.up n0
    obtain ⟨v1, w1, hap, R1, n1⟩ := append_any (P := Try.prog) (w.alloc (.cells #[] 5)) 25 i0 Try.underlying25 hi hz0 hz1 hz2 w.heap.size w.heap.size _ _ (RowB.lit0 w) g (some ad) c xs r (by simp) (by simp; omega) (Nat.le_refl _) n0.size
    have N1 := n0.trans n1
    rw [List.nil_append] at R1
    have b0 : ∀ W, (binOp BinOp.eql 25 (.slice (some ad) xs.length c) (.slice none 0 0)).run Try.prog W = .ok (.bool false) W := fun W => by kernel_rfl
    clear n0 n1 r m h
    go_enter Try.func39, Try.ntmps39
    go_wp2_with (at_builtin; refine Lib.wpList_append_run _ rfl _ _ 25 25 rfl _ _ rfl rfl _ _ hap ?_)
    go_ret
    exact ⟨_, rfl, R1, N1⟩
end Go.Proofs.Ytjjoimlnpbelpaa
