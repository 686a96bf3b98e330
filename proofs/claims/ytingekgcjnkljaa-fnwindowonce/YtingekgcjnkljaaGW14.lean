import Derived.Test.YtingekgcjnkljaaGW1
import Derived.Test.YtingekgcjnkljaaGW6
import Derived.Test.YtingekgcjnkljaaGW2
import Derived.Test.YtingekgcjnkljaaGW13
import Derived.Test.YtingekgcjnkljaaGW4
import Derived.Deep.RegionHeld3

/-
  Numbers as bytes, the highest first, and the padding of a hash. No program in sight.
-/
namespace Go.Proofs.Ytingekgcjnkljaa
open Go.RowKit

/-- v in t bytes, the highest first. -/
def bigL (v : Int) (t : Nat) : List Int := (List.range t).map fun j => v / 256 ^ (t - 1 - j) % 256
theorem bigL_len (v : Int) (t : Nat) : (bigL v t).length = t := by simp [bigL]
theorem bigL_get (v : Int) (t j : Nat) (h : j < t) : (bigL v t).getD j 0 = v / 256 ^ (t - 1 - j) % 256 := by simp [bigL, h]
theorem bigL_byt (v : Int) (t : Nat) : Byt (bigL v t) := by
  intro j
  by_cases h : j < t
  · rw [bigL_get v t j h]
    omega
  · have : (bigL v t).getD j 0 = 0 := by
      rw [List.getD_eq_getElem?_getD, List.getElem?_eq_none (by rw [bigL_len]; omega)]
      rfl
    rw [this]
    omega

/-- The last k places of ys are those of v. -/
def BigTo (v : Int) (t : Nat) (ys : List Int) (k : Nat) : Prop := ys.length = t ∧ ∀ j, t - k ≤ j → j < t → ys.getD j 0 = v / 256 ^ (t - 1 - j) % 256
theorem BigTo.zero (v : Int) (t : Nat) : BigTo v t (List.replicate t 0) 0 := ⟨by simp, fun j h h' => absurd h (by omega)⟩
theorem BigTo.step {v : Int} {t : Nat} {ys : List Int} {k : Nat} (h : BigTo v t ys k) (hk : k < t) : BigTo v t (ys.set (t - 1 - k) (v / 256 ^ k % 256)) (k + 1) := by
  refine ⟨by simpa using h.1, fun j hj hj' => ?_⟩
  by_cases e : t - 1 - k = j
  · subst e
    rw [getD_set_self _ _ _ (by rw [h.1]; omega), show t - 1 - (t - 1 - k) = k by omega]
  · rw [getD_set_ne _ _ _ _ e]
    exact h.2 j (by omega) hj'
theorem BigTo.all {v : Int} {t : Nat} {ys : List Int} (h : BigTo v t ys t) : ys = bigL v t :=
  eq_of_getD (by rw [h.1, bigL_len]) (fun i hi => by rw [h.1] at hi; rw [h.2 i (by omega) hi, bigL_get v t i hi])
theorem div256 (v : Int) (k : Nat) : v / 256 ^ k / 256 = v / 256 ^ (k + 1) := by
  have h0 := p256_pos k
  rw [Int.ediv_ediv_of_nonneg (by omega), ← Int.pow_succ]

theorem getD_apd_right (xs ys : List Int) (i : Nat) (h : xs.length ≤ i) : (xs ++ ys).getD i 0 = ys.getD (i - xs.length) 0 := by
  rw [List.getD_eq_getElem?_getD, List.getElem?_append_right h, ← List.getD_eq_getElem?_getD]
theorem getD_apd_left (xs ys : List Int) (i : Nat) (h : i < xs.length) : (xs ++ ys).getD i 0 = xs.getD i 0 := by
  rw [List.getD_eq_getElem?_getD, List.getElem?_append_left h, ← List.getD_eq_getElem?_getD]

/-- How many zeros, and the whole padding. -/
def padZ (n : Int) (B t : Nat) : Nat := (((B : Int) - (n + 1 + (t : Int)) % (B : Int)) % (B : Int)).toNat
def padL (n : Int) (B t : Nat) : List Int := 128 :: (List.replicate (padZ n B t) 0 ++ bigL (8 * n) t)
theorem padL_len (n : Int) (B t : Nat) : (padL n B t).length = 1 + padZ n B t + t := by
  unfold padL
  simp [bigL_len]
  omega
theorem byt_cons {x : Int} {xs : List Int} (h0 : 0 ≤ x) (h1 : x < 256) (h : Byt xs) : Byt (x :: xs) := by
  intro j
  cases j with
  | zero => exact ⟨h0, h1⟩
  | succ j => exact h j
theorem byt_apd {xs ys : List Int} (h : Byt xs) (k : Byt ys) : Byt (xs ++ ys) := by
  intro j
  rw [List.getD_eq_getElem?_getD]
  by_cases c : j < xs.length
  · rw [List.getElem?_append_left c, ← List.getD_eq_getElem?_getD]
    exact h j
  · rw [List.getElem?_append_right (by omega), ← List.getD_eq_getElem?_getD]
    exact k _
theorem byt_rep0 (n : Nat) : Byt (List.replicate n 0) := by
  intro j
  rw [List.getD_eq_getElem?_getD, List.getElem?_replicate]
  split <;> simp
theorem padL_byt (n : Int) (B t : Nat) : Byt (padL n B t) := byt_cons (by omega) (by omega) (byt_apd (byt_rep0 _) (bigL_byt _ _))
/-- What is asked for: nothing, where n is not to be hashed. -/
def padA (n : Int) (B t : Nat) : List Int := if 0 ≤ n ∧ n ≤ 1099511627776 then padL n B t else []
theorem padA_byt (n : Int) (B t : Nat) : Byt (padA n B t) := by
  unfold padA
  split
  · exact padL_byt n B t
  · intro j
    simp
theorem padZ_lt (n : Int) {B t : Nat} (h : 0 < B) : padZ n B t < B := by
  unfold padZ
  have h0 := Int.emod_nonneg ((B : Int) - (n + 1 + (t : Int)) % (B : Int)) (show (B : Int) ≠ 0 by omega)
  have h1 := Int.emod_lt_of_pos ((B : Int) - (n + 1 + (t : Int)) % (B : Int)) (show (0 : Int) < (B : Int) by omega)
  omega
theorem padA_len (n : Int) {B t : Nat} (h : 0 < B) : (padA n B t).length ≤ B + t := by
  unfold padA
  split
  · rw [padL_len]
    have := padZ_lt n (t := t) h
    omega
  · simp
/-- As long as the length is no multiple, there are less zeros than are asked. -/
theorem padZ_go {n : Int} {B t k : Nat} (h : k ≤ padZ n B t) (hB : B = 64 ∧ t = 8 ∨ B = 128 ∧ t = 16) (hn : (n + (1 + (k : Int)) + (t : Int)) % (B : Int) ≠ 0) : k + 1 ≤ padZ n B t := by
  unfold padZ at *
  rcases hB with ⟨rfl, rfl⟩ | ⟨rfl, rfl⟩ <;> omega
theorem padZ_end {n : Int} {B t k : Nat} (h : k ≤ padZ n B t) (hB : B = 64 ∧ t = 8 ∨ B = 128 ∧ t = 16) (hn : (n + (1 + (k : Int)) + (t : Int)) % (B : Int) = 0) : k = padZ n B t := by
  unfold padZ at *
  rcases hB with ⟨rfl, rfl⟩ | ⟨rfl, rfl⟩ <;> omega

/-- The program's: the size, and the places from the end on. -/
def padS (n : Int) (B t : Nat) : Nat := 1 + padZ n B t + t
theorem padS_32 (n : Int) : ((padS n 64 8 : Nat) : Int) = if 64 - n % 64 < 9 then 64 - n % 64 + 64 else 64 - n % 64 := by
  unfold padS padZ
  split <;> omega
theorem padS_64 (n : Int) : ((padS n 128 16 : Nat) : Int) = if 128 - n % 128 < 17 then 128 - n % 128 + 128 else 128 - n % 128 := by
  unfold padS padZ
  split <;> omega
def PadTo (n : Int) (s : Nat) (ys : List Int) (k : Nat) : Prop :=
  ys.length = s ∧ ys.getD 0 0 = 128 ∧ (∀ j, 0 < j → j < s - k → ys.getD j 0 = 0) ∧ ∀ j, s - k ≤ j → j < s → ys.getD j 0 = 8 * n / 256 ^ (s - 1 - j) % 256
theorem PadTo.zero (n : Int) (s : Nat) (h : 0 < s) : PadTo n s ((List.replicate s 0).set 0 128) 0 := by
  refine ⟨by simp, ?_, fun j h0 hj => ?_, fun j hj hj' => absurd hj (by omega)⟩
  · rw [getD_set_self _ _ _ (by simpa using h)]
  · rw [getD_set_ne _ _ _ _ (by omega)]
    rw [List.getD_eq_getElem?_getD, List.getElem?_replicate]
    split <;> rfl
theorem PadTo.step {n : Int} {s : Nat} {ys : List Int} {k : Nat} (h : PadTo n s ys k) (hk : k + 1 < s) : PadTo n s (ys.set (s - 1 - k) (8 * n / 256 ^ k % 256)) (k + 1) := by
  obtain ⟨h1, h2, h3, h4⟩ := h
  refine ⟨by simpa using h1, ?_, fun j h0 hj => ?_, fun j hj hj' => ?_⟩
  · rw [getD_set_ne _ _ _ _ (by omega)]
    exact h2
  · rw [getD_set_ne _ _ _ _ (by omega)]
    exact h3 j h0 (by omega)
  · by_cases e : s - 1 - k = j
    · subst e
      rw [getD_set_self _ _ _ (by rw [h1]; omega), show s - 1 - (s - 1 - k) = k by omega]
    · rw [getD_set_ne _ _ _ _ e]
      exact h4 j (by omega) hj'
theorem PadTo.all {n : Int} {B t : Nat} {ys : List Int} (h0 : 0 ≤ n) (h1 : n ≤ 1099511627776) (ht : t = 8 ∨ t = 16) (h : PadTo n (padS n B t) ys 8) : ys = padL n B t := by
  obtain ⟨a1, a2, a3, a4⟩ := h
  refine eq_of_getD (by rw [a1, padL_len]; rfl) (fun i hi => ?_)
  rw [a1] at hi
  have hs : padS n B t = 1 + padZ n B t + t := rfl
  unfold padL
  cases i with
  | zero => rw [a2]; rfl
  | succ i =>
    rw [List.getD_cons_succ]
    by_cases c : i < padZ n B t
    · rw [a3 _ (by omega) (by omega), List.getD_eq_getElem?_getD, List.getElem?_append_left (by simpa using c), List.getElem?_replicate, if_pos c]
      rfl
    · rw [getD_apd_right (List.replicate (padZ n B t) 0) _ i (by simpa using c), List.length_replicate, bigL_get _ _ _ (by omega)]
      by_cases d : padS n B t - 8 ≤ i + 1
      · rw [a4 _ d hi, show padS n B t - 1 - (i + 1) = t - 1 - (i - padZ n B t) by omega]
      · rw [a3 _ (by omega) (by omega)]
        obtain ⟨e, he⟩ : ∃ e, t - 1 - (i - padZ n B t) = 8 + e := ⟨t - 1 - (i - padZ n B t) - 8, by omega⟩
        rw [he, Int.pow_add]
        have hp := p256_pos e
        have hz : 8 * n / ((256 : Int) ^ 8 * 256 ^ e) = 0 := by
          refine Int.ediv_eq_zero_of_lt (by omega) ?_
          have : (256 : Int) ^ 8 * 1 ≤ 256 ^ 8 * 256 ^ e := Int.mul_le_mul_of_nonneg_left (by omega) (by decide)
          have : (256 : Int) ^ 8 = 18446744073709551616 := by decide
          omega
        rw [hz]
        rfl
end Go.Proofs.Ytingekgcjnkljaa

/-
  The program's appendNumber, up to eight bytes; slices.Clone of bytes (as MiB, MiD, without the messages).
-/
namespace Go.Proofs.Ytingekgcjnkljaa
open Go Go.RowKit

theorem bigL_takeN (n : Int) (t k : Nat) (h : k < t) : (bigL n t).take (k + 1) = (bigL n t).take k ++ [n / 256 ^ (t - 1 - k) % 256] := by
  rw [List.take_add_one]
  simp [bigL, h]
theorem RowB.nilN (w : World) (base : Nat) : RowB w base (.slice none 0 0) [] := ⟨rfl, .inl ⟨rfl, rfl⟩⟩
set_option maxRecDepth 100000 in
set_option maxHeartbeats 1000000 in
theorem cloneR_any (w : World) (g : Nat) (a : Option Addr) (c : Nat) (xs : List Int) (h : Rd w g a .u8 xs) (hz : a = none → c = 0) (m : xs.length ≤ 1099511627776) : Calls Try.prog 35 #[.slice a xs.length c] w fun e w' => ∃ v', e = .returned v' ∧ RowB w' w.heap.size v' xs ∧ Below w.heap.size w w' := by
  obtain ⟨i0, hi, hz0, hz1, hz2⟩ := info_parts Try.info5
  cases a with
  | none =>
    obtain rfl : xs = [] := by
      by_cases h0 : 0 < xs.length
      · obtain ⟨off, e, _⟩ := h h0
        simp at e
      · exact List.eq_nil_of_length_eq_zero (by omega)
    obtain rfl := hz rfl
    have b0 : ∀ W, (binOp BinOp.eql 22 (.slice none 0 0) (.slice none 0 0)).run Try.prog W = .ok (.bool true) W := fun W => by kernel_rfl
    go_enter Try.func35, Try.ntmps35
    go_wp2
    go_ret
    exact ⟨_, rfl, RowB.nilN _ _, Below.refl _ _⟩
  | some ad =>
    have n0 : Below w.heap.size w (w.alloc (.cells #[] 5)) := (Below.refl _ _).alloc (Nat.le_refl _) _
    have r := h.up n0
    obtain ⟨v1, w1, hap, R1, n1⟩ := append_any (P := Try.prog) (w.alloc (.cells #[] 5)) 22 i0 Try.underlying22 hi hz0 hz1 hz2 w.heap.size w.heap.size _ _ (RowB.lit0 w) g (some ad) c xs r (by simp) (by simp; omega) (Nat.le_refl _) n0.size
    have N1 := n0.trans n1
    rw [List.nil_append] at R1
    have b0 : ∀ W, (binOp BinOp.eql 22 (.slice (some ad) xs.length c) (.slice none 0 0)).run Try.prog W = .ok (.bool false) W := fun W => by kernel_rfl
    clear n0 n1 r m h
    go_enter Try.func35, Try.ntmps35
    go_wp2_with (at_builtin; refine Lib.wpList_append_run _ rfl _ _ 22 22 rfl _ _ rfl rfl _ _ hap ?_)
    go_ret
    exact ⟨_, rfl, R1, N1⟩
end Go.Proofs.Ytingekgcjnkljaa

/-
  Windows that are asked: the marks of the book (written by gens/wal.py).
-/
namespace Go.Proofs.Ytingekgcjnkljaa
open Go Go.RowKit Go.Maps Go.Sort

set_option maxRecDepth 100000 in
theorem step_append_exB {P : Program} {ops : Array Oper} {o : Oper} {a : Act} {w : World} {K : Act → World → Prop} {Q : Exit → Act → World → Prop} {E : Prop} (hg : o.guard = none) (s x : Operand) (t tn : TypeId)
    (ho : o.op = .call { callee := .builtin .append, args := #[s, x], argTypes := #[t, tn] }) (vs vx : Value) (hs : a.eval s = vs) (hx : a.eval x = vx) (R : Value → World → Prop)
    (H : ∃ v' w', (Builtin.append_ #[t, tn] o.type #[vs, vx]).run P w = .ok v' w' ∧ R v' w') (hK : ∀ v' w', R v' w' → K (a.put o.dst v') w') :
    if Region.wanted o (yielded ops a.tmps) = true then Oper.wp P o a w K Q else E := by
  have hw : Region.wanted o (yielded ops a.tmps) = true := by simp [Region.wanted, hg]
  rw [if_pos hw]
  obtain ⟨v', w', hr, hR⟩ := H
  exact Lib.wp_append_run w s x t tn ho vs vx hs hx v' w' hr (hK v' w' hR)
set_option maxRecDepth 100000 in
def mkOf (E : List Ent) : List (Int × List Int) := E.map fun e => (e.un, e.id)
set_option maxRecDepth 100000 in
theorem mkOf_len (E : List Ent) : (mkOf E).length = E.length := by simp [mkOf]
set_option maxRecDepth 100000 in
theorem mkOf_take {E : List Ent} {k : Nat} (h : k < E.length) : mkOf (E.take (k + 1)) = mkOf (E.take k) ++ [((E.getD k ent0).un, (E.getD k ent0).id)] := by
  unfold mkOf
  rw [List.take_succ_eq_append_getElem h, List.map_append, List.getD_eq_getElem?_getD, List.getElem?_eq_getElem h]
  rfl
set_option maxRecDepth 100000 in
/-- What a round leaves. -/
def MkR (w3 : World) (E : List Ent) (k : Nat) (v : Value) (w' : World) : Prop := ∃ a n c bs, v = .slice a n c ∧ IRow w' w3.heap.size v (mkOf (E.take k)) bs ∧ Below w3.heap.size w3 w'
set_option maxRecDepth 100000 in
set_option maxHeartbeats 4000000 in
theorem marks_any (w : World) (b nn : Nat) (D : DataW Unit) (E : List Ent) (hB : Bk D E) (own : w.ownsMap Try.prog 56 pmR b nn D) (hl : E.length ≤ 1000) (h0 : 0 < E.length) (asc : E.Pairwise (fun x y => x.pl < y.pl)) :
    Calls Try.prog 26 #[.map (some b)] w fun e w' => (∃ v bs, e = .returned v ∧ IRow w' w.heap.size v (mkOf E) bs) ∧ Below w.heap.size w w' := by
  have na : Below w.heap.size w (w.alloc (.cells #[.map (some b)] 47)) := (Below.refl _ _).alloc (Nat.le_refl _) _
  have Ta := RwC.new w [.map (some b)] 47
  have KE := hide (keys_any (w.alloc (.cells #[.map (some b)] 47)) (some b))
  have oa := ownP own na
  have c0 := Ta.c0
  go_enter Try.func26, Try.ntmps26
  go_upto_region 3 with fail
  generalize w.alloc (.cells #[.map (some b)] 47) = wa at *
  go_wp2_with fail
  refine KE.out.mono ?_
  rintro e wb ⟨rfl, rfl⟩
  have nb : Below wa.heap.size wa (wa.alloc (.cells #[.map (some b)] 47)) := (Below.refl _ _).alloc (Nat.le_refl _) _
  have Tb := RwC.new wa [.map (some b)] 47
  have SF := hide (sortedFunc_any (wa.alloc (.cells #[.map (some b)] 47)) wa.heap.size b nn w.heap.size D E hB Tb.lt Tb.c0 (ownP oa nb) ((Ta.up nb).c0) hl h0 asc)
  have Na := hide (nxt na nb)
  have HB := hide hB
  have Tc := Ta.up nb
  have oc := ownP oa nb
  clear KE Tb Ta nb na c0 hB own oa
  generalize wa.alloc (.cells #[.map (some b)] 47) = wb at *
  generalize wa.heap.size = sb at *
  go_wp2_with fail
  refine SF.out.mono ?_
  rintro e w3 ⟨⟨g, cap, rfl, hr⟩, n3⟩
  have HR := hide hr
  have N3 := hide (nxt Na.out n3)
  have T3 := hide (Tc.up n3)
  have O3 := hide (ownP oc n3)
  have HL := hide hl
  clear SF hr n3 Tc oc Na hl asc
  go_wp2_with fail
  go_loopw [4, 6, 13] (fun v _ i wr => ∃ (k : Nat), k ≤ E.length ∧ i = .int .i64 k ∧ MkR w3 E k v wr) (fun _ _ i _ => E.length - (intOf i).toNat)
  case atStart => exact ⟨0, Nat.zero_le _, rfl, none, 0, 0, [], rfl, by simpa [mkOf] using IRow.nil w3 w3.heap.size, Below.refl _ _⟩
  case round =>
    obtain ⟨k, hk, rfl, av, nv, cv, bs, rfl, RW, NW⟩ := hrel
    by_cases hlt : k < E.length
    · have t0 : (k : Int) < (E.length : Int) := by omega
      have hlt' : ¬ (E.length ≤ k) := by omega
      have he : E.getD k ent0 ∈ E := by rw [List.getD_eq_getElem?_getD, List.getElem?_eq_getElem hlt]; exact List.getElem_mem hlt
      have HE := hide (HB.out.ok _ he)
      have AT := hide (HB.out.at' _ he)
      have RG0 := rangeK (HR.out k hlt) NW
      have MT := hide (mkOf_take hlt)
      generalize E.getD k ent0 = ee at *
      obtain ⟨cs, hcs⟩ : ∃ cs, cs = ee.id.map (Value.int .u8) := ⟨_, rfl⟩
      have cl : cs.length = 32 := by rw [hcs, List.length_map]; exact HE.out.1
      have one : cs.toArray.all (·.oneCell') = true := by rw [hcs]; exact idOne _
      have HC := hide hcs
      have ev : idV ee.id = .agg cs.toArray := by rw [hcs]; rfl
      have hkey := hide (entKey HE.out)
      rw [ev] at hkey
      rw [← hcs] at RG0
      obtain ⟨nbx, th1, R1⟩ := box1 wr cs cl
      have sz : cs.toArray.size = 32 := by simpa using cl
      have SZC : (Try.prog.info? 56).map (·.size) = some cs.toArray.size := by rw [sz]; exact iId
      have SL : (Try.prog.info? 56).map (·.size) = some cs.length := by rw [cl]; exact iId
      rw [← sz] at th1
      have CL := hide cl
      have HRW := hide RW
      have HNW := hide NW
      have NBX := hide nbx
      have HR1 := hide R1
      clear hcs ev cl he RW NW nbx sz R1
      go_upto_region 6 with (first
        | (refine wpList_load_mid rfl 56 (.tmp 15) rfl g (k * 32) rfl cs _ RG0 uId rfl SL ?_)
        | (refine wpList_store_mid rfl 56 (.tmp 6) (.tmp 16) rfl wr.heap.size 0 cs.toArray rfl rfl th1 SZC one ?_)
        | fail)
      have RW6 := HRW.out.of (w' := World.setCells (wr.alloc (.cells #[.int .u8 0, .int .u8 0, .int .u8 0, .int .u8 0, .int .u8 0, .int .u8 0, .int .u8 0, .int .u8 0, .int .u8 0, .int .u8 0, .int .u8 0, .int .u8 0, .int .u8 0, .int .u8 0, .int .u8 0, .int .u8 0, .int .u8 0, .int .u8 0, .int .u8 0, .int .u8 0, .int .u8 0, .int .u8 0, .int .u8 0, .int .u8 0, .int .u8 0, .int .u8 0, .int .u8 0, .int .u8 0, .int .u8 0, .int .u8 0, .int .u8 0, .int .u8 0] 56)) wr.heap.size 0 cs) (fun i hi _ => NBX.out.block i hi)
      have NW6 := nxt HNW.out NBX.out
      have T6 := T3.out.up NW6
      have O6 := ownP O3.out NW6
      have R6 := HR1.out
      have lw := (HRW.out.o.lt)
      have l6 := NBX.out.size
      have s63 := HNW.out.size
      have RD6 : Rd (World.setCells (wr.alloc (.cells #[.int .u8 0, .int .u8 0, .int .u8 0, .int .u8 0, .int .u8 0, .int .u8 0, .int .u8 0, .int .u8 0, .int .u8 0, .int .u8 0, .int .u8 0, .int .u8 0, .int .u8 0, .int .u8 0, .int .u8 0, .int .u8 0, .int .u8 0, .int .u8 0, .int .u8 0, .int .u8 0, .int .u8 0, .int .u8 0, .int .u8 0, .int .u8 0, .int .u8 0, .int .u8 0, .int .u8 0, .int .u8 0, .int .u8 0, .int .u8 0, .int .u8 0, .int .u8 0] 56)) wr.heap.size 0 cs) wr.heap.size (some ⟨wr.heap.size, 0, none⟩) .u8 ee.id := fun _ => ⟨0, rfl, fun i hi => by
        have hc : cs[i]? = some (.int .u8 (ee.id.getD i 0)) := by
          rw [HC.out, List.getElem?_map, List.getElem?_eq_getElem hi, List.getD_eq_getElem?_getD, List.getElem?_eq_getElem hi]
          rfl
        rw [Nat.zero_add]
        exact (HR1.out.cell i).trans hc⟩
      go_frame
      generalize World.setCells (wr.alloc (.cells #[.int .u8 0, .int .u8 0, .int .u8 0, .int .u8 0, .int .u8 0, .int .u8 0, .int .u8 0, .int .u8 0, .int .u8 0, .int .u8 0, .int .u8 0, .int .u8 0, .int .u8 0, .int .u8 0, .int .u8 0, .int .u8 0, .int .u8 0, .int .u8 0, .int .u8 0, .int .u8 0, .int .u8 0, .int .u8 0, .int .u8 0, .int .u8 0, .int .u8 0, .int .u8 0, .int .u8 0, .int .u8 0, .int .u8 0, .int .u8 0, .int .u8 0, .int .u8 0] 56)) wr.heap.size 0 cs = W6 at *
      obtain ⟨s6, hs6⟩ : ∃ s6, s6 = wr.heap.size := ⟨_, rfl⟩
      have own6 : Hid ((Value.slice av nv cv).ownBlock ≠ some s6) := fun e => by have := (lw _ e).2; omega
      have own6b : Hid (∀ q, (Value.slice av nv cv).ownBlock = some q → q < W6.heap.size ∧ w3.heap.size ≤ q) := fun q e => by have := lw _ e; omega
      rw [← hs6] at R6 RD6 ⊢
      have CY : Hid (∀ W, Below W6.heap.size W6 W → (W.rangeAt s6 0 cs ∧ W.cell? ⟨w.heap.size, 0, none⟩ = some (.map (some b)))) := fun W m => ⟨(R6.up m).rangeG, (T6.up m).c0⟩
      have LKf : Hid (∀ W, Below W6.heap.size W6 W → (Instr.lookup 47 (.map (some b)) (.agg cs.toArray) false).run Try.prog W = .ok (.agg #[.int .i64 ee.pl, .int .i64 ee.un]) W) := fun W m => by
        obtain ⟨pa, pc, h1, h2⟩ := look_book0 (ownP O6 m) hkey.out
        obtain ⟨rfl, rfl⟩ := pmD_inj ((AT.out _).symm.trans h2)
        exact h1
      have CLf : Hid (∀ W, Below W6.heap.size W6 W → Calls Try.prog 35 #[.slice (some ⟨s6, 0, none⟩) 32 32] W fun e w' => ∃ a c, e = .returned (.slice a 32 c) ∧ RowB w' W6.heap.size (.slice a 32 c) ee.id ∧ Below W6.heap.size W6 w') := fun W m => by
        have h := cloneR_any W s6 (some ⟨s6, 0, none⟩) 32 ee.id (RD6.up m) (fun e => by cases e) (by rw [HE.out.1]; decide)
        rw [HE.out.1] at h
        refine h.mono ?_
        rintro e w' ⟨v', rfl, R, n⟩
        obtain ⟨a, c, g', rfl, -⟩ := R.own
        rw [HE.out.1] at R ⊢
        exact ⟨a, c, rfl, R.base m.size, nxt m n⟩
      have APf : Hid (∀ W a c, Below W6.heap.size W6 W → RowB W W6.heap.size (.slice a 32 c) ee.id → ∃ v' w', (Builtin.append_ #[23, 23] 23 #[.slice av nv cv, .slice (some ⟨W.heap.size, 0, none⟩) 1 1]).run Try.prog (W.alloc (.cells #[.slice a 32 c, .int .i64 ee.un] 36)) = .ok v' w' ∧ (MkR w3 E (k + 1) v' w' ∧ (w'.rangeAt s6 0 cs ∧ w'.cell? ⟨w.heap.size, 0, none⟩ = some (.map (some b))))) := fun W a c m R => by
        have na : Below W.heap.size W (W.alloc (.cells #[.slice a 32 c, .int .i64 ee.un] 36)) := (Below.refl _ _).alloc (Nat.le_refl _) _
        have mz := nxt m na
        have sz1 := m.size
        have sz2 := na.size
        obtain ⟨a', c', g', e', O1, O2, O3', O4⟩ := (R.up na).own
        rw [HE.out.1] at e'
        injection e' with e1 _ e3
        subst e1 e3
        have hp : RwC (W.alloc (.cells #[.slice a 32 c, .int .i64 ee.un] 36)) W.heap.size [.slice a (ee.un, ee.id).2.length c, .int .i64 (ee.un, ee.id).1] 36 := by
          show RwC _ _ [.slice a ee.id.length c, .int .i64 ee.un] _
          rw [HE.out.1]
          exact RwC.new W _ _
        obtain ⟨v', w', r1, r2, r3, r4, -⟩ := (RW6.of (w' := W.alloc (.cells #[.slice a 32 c, .int .i64 ee.un] 36)) (fun i hi _ => mz.block i hi)).appQ (ee.un, ee.id) ⟨a, c, g'⟩ W.heap.size hp (by omega) ⟨O1, O2, O3'⟩ W6.heap.size (by omega) (fun i hi h0' => RW6.lt hi h0') (fun q hq => (own6b.out q hq).1) O4 (by rw [mkOf_len, List.length_take]; have := HL.out; omega)
        obtain ⟨ra, rc, re, -⟩ := r2.slice
        have q6 := mz.size
        have lt6 := R6.lt
        have ltw := T6.lt
        refine ⟨v', w', r1, ⟨ra, _, rc, _, re, by rw [MT.out]; exact r2, (NW6.trans (mz.mono (by omega))).trans r4⟩, ?_⟩
        have h6 : RwC w' s6 cs 56 := (r3 s6 (by omega) own6.out).trans (R6.up mz)
        have hW : RwC w' w.heap.size [.map (some b)] 47 := (r4.block w.heap.size (T3.out.lt)).trans (T6.up mz)
        exact ⟨h6.rangeG, hW.c0⟩
      have nd : Below W6.heap.size W6 W6.drew := (Below.refl _ _).drew
      have bA : ∀ {W : World}, Below W6.heap.size W6 W → ∀ o, Below W6.heap.size W6 (W.alloc o) := fun n o => n.alloc n.size o
      have F1 := fldP1 ee.pl ee.un
      have uu := uId
      have LK0 := (unhide LKf) _ nd
      have CL0 := hide ((unhide CLf) _ nd)
      clear hs6 RW6 NW6 T6 O6 R6 RD6 lw l6 s63 HRW HNW NBX HR1 HR N3 T3 O3 HB AT hkey HE th1 one SZC RG0 own6 own6b
      generalize ee.un = un at *
      generalize ee.pl = pl at *
      go_region_held3 (fun W => W.rangeAt s6 0 cs ∧ W.cell? ⟨w.heap.size, 0, none⟩ = some (.map (some b)))
        (first | exact (unhide CY) _ nd | exact (unhide CY) _ nS | exact (unhide CY) _ (bA nS _) | exact SP)
        (first
          | (go_at_call 35; refine CL0.out.mono ?_; rintro rr ws ⟨ac, cc, rfl, RC, nS⟩; (have LK1 := (unhide LKf) _ nS); (have AP := hide ((unhide APf) ws ac cc nS RC)))
          | (refine step_append_exB rfl (.tmp 17) (.tmp 25) 23 23 rfl (.slice av nv cv) (.slice (some ⟨ws.heap.size, 0, none⟩) 1 1) rfl rfl _ AP.out ?_; rintro v9 wp ⟨hR, SP⟩)
          | fail)
      all_goals
        obtain ⟨a9, n9, c9, bs9, rfl, R9, N9⟩ := hR
        have HR9 := hide R9
        have HN9 := hide N9
        clear R9 N9 CY LKf CLf APf nd bA F1 LK0 CL0
        have hl2 := HL.out
        go_wp2
        go_roundw
        case rel => exact ⟨k + 1, by omega, by go_num, a9, n9, c9, bs9, rfl, HR9.out, HN9.out⟩
        case measure => simp [intOf]; omega
    · obtain rfl : k = E.length := by omega
      have FI : Hid (IRow wr w.heap.size (.slice av nv cv) (mkOf E) bs) := by
        have := RW.base (C := w.heap.size) (N3.out.size)
        rw [List.take_length] at this
        exact this
      have NF := hide (nxt N3.out NW)
      clear RW NW
      go_wp2
      go_ret
      exact ⟨⟨_, bs, rfl, FI.out⟩, NF.out⟩
end Go.Proofs.Ytingekgcjnkljaa

/-
  Windows that are asked: what is answered, no walk.
-/
namespace Go.Proofs.Ytingekgcjnkljaa
open Go Go.RowKit Go.Maps

set_option maxRecDepth 100000 in
def tmO (t : Int) : Bool := decide (0 ≤ t) && decide (t ≤ 253402300799)
set_option maxRecDepth 100000 in
def kept (ms : List Mrk) (now : Int) : List Ent := (entsTo ms ms.length).filter fun e => decide (now ≤ e.un)
set_option maxRecDepth 100000 in
def askE (wd : Int) (ms : List Mrk) (X : List Int) (now : Int) : List Ent := tkE (kept ms now) X (ms.length : Int) (now + 2 * wd)
set_option maxRecDepth 100000 in
def AskOk (wd : Int) (ms : List Mrk) (X : List Int) (now : Int) : Prop := wfV wd ms = 0 ∧ X.length = 32 ∧ tmO now = true
set_option maxRecDepth 100000 in
def askD (wd : Int) (ms : List Mrk) (X : List Int) (now : Int) : Decidable (AskOk wd ms X now) := by unfold AskOk; infer_instance
set_option maxRecDepth 100000 in
def askC (wd : Int) (ms : List Mrk) (X : List Int) (now : Int) : Int := @ite _ (AskOk wd ms X now) (askD wd ms X now) (tkC (kept ms now) X) 3
set_option maxRecDepth 100000 in
def askW (wd : Int) (ms : List Mrk) (X : List Int) (now : Int) : Int := @ite _ (AskOk wd ms X now) (askD wd ms X now) wd 0
set_option maxRecDepth 100000 in
def askM (wd : Int) (ms : List Mrk) (X : List Int) (now : Int) : List (Int × List Int) := @ite _ (AskOk wd ms X now) (askD wd ms X now) (mkOf (askE wd ms X now)) []
set_option maxRecDepth 100000 in
theorem wfV_zero {wd : Int} {ms : List Mrk} (h : wfV wd ms = 0) : wdO wd = true ∧ ms.length ≤ 64 ∧ IdOk ms ∧ utA ms = false := by
  unfold wfV at h
  split at h
  · cases h
  · rename_i h1
    split at h
    · cases h
    · rename_i h2
      split at h
      · cases h
      · rename_i h3
        split at h
        · cases h
        · rename_i h4
          exact ⟨by simpa using h1, by omega, Classical.not_not.1 h3, by simpa using h4⟩
set_option maxRecDepth 100000 in
theorem entsTo_len (ms : List Mrk) (k : Nat) : (entsTo ms k).length = k := by simp [entsTo]
set_option maxRecDepth 100000 in
theorem entsTo_asc (ms : List Mrk) (k : Nat) : (entsTo ms k).Pairwise (fun x y => x.pl < y.pl) := by
  unfold entsTo
  refine List.pairwise_map.2 (List.pairwise_lt_range.imp fun {a b} h => ?_)
  show (a : Int) < (b : Int)
  omega
set_option maxRecDepth 100000 in
theorem entsTo_pl {ms : List Mrk} {k : Nat} {e : Ent} (h : e ∈ entsTo ms k) : e.pl < (k : Int) := by
  unfold entsTo at h
  obtain ⟨i, hi, rfl⟩ := List.mem_map.1 h
  have : i < k := by simpa using hi
  show (i : Int) < (k : Int)
  omega
set_option maxRecDepth 100000 in
theorem kept_len (ms : List Mrk) (now : Int) : (kept ms now).length ≤ ms.length := by
  unfold kept
  have := List.length_filter_le (fun e : Ent => decide (now ≤ e.un)) (entsTo ms ms.length)
  rw [entsTo_len] at this
  exact this
set_option maxRecDepth 100000 in
theorem askE_asc (wd : Int) (ms : List Mrk) (X : List Int) (now : Int) : (askE wd ms X now).Pairwise (fun x y => x.pl < y.pl) := by
  have h : (kept ms now).Pairwise (fun x y => x.pl < y.pl) := (entsTo_asc ms ms.length).filter _
  unfold askE tkE
  split
  · rw [List.pairwise_append]
    refine ⟨h, List.pairwise_singleton _ _, fun x hx y hy => ?_⟩
    simp at hy
    subst hy
    exact entsTo_pl (List.mem_filter.1 hx).1
  · exact h
set_option maxRecDepth 100000 in
theorem askE_pos (wd : Int) (ms : List Mrk) (X : List Int) (now : Int) : 0 < (askE wd ms X now).length := by
  unfold askE tkE
  split
  · simp
  · rename_i h
    unfold tkC at h
    split at h
    · rename_i h1
      obtain ⟨e, he, _⟩ := h1
      exact List.length_pos_of_mem he
    · split at h
      · omega
      · exact absurd rfl h
set_option maxRecDepth 100000 in
theorem askE_len (wd : Int) (ms : List Mrk) (X : List Int) (now : Int) : (askE wd ms X now).length ≤ ms.length + 1 := by
  have := kept_len ms now
  unfold askE tkE
  split
  · simp
    omega
  · omega
end Go.Proofs.Ytingekgcjnkljaa
