import Derived.Test.YthonlkghkdjagaaGreatDoorGX47
import Derived.Test.YthonlkghkdjagaaGreatDoorGX39
import Derived.Test.YthonlkghkdjagaaGreatDoorGX38
import Derived.Deep.RegionWith
import Derived.Deep.RegionHeld3
import Derived.Deep.DeepCutAuto
import Derived.Test.YthonlkghkdjagaaGreatDoorGX24
import Derived.Test.YthonlkghkdjagaaGreatDoorGX25
import Derived.Test.YthonlkghkdjagaaGreatDoorRows
import Derived.Lib.LaidTab
import Derived.Lib.LaidU8
import Derived.LaidMore
import Derived.Deep.MidRow
import Derived.Test.YthonlkghkdjagaaGreatDoorGX45
import Derived.Test.YthonlkghkdjagaaGreatDoorGX44
import Derived.Test.YthonlkghkdjagaaGreatDoorGX41
namespace Go.Proofs.YthonlkghkdjagaaGreatDoor
set_option maxRecDepth 100000
open Go Go.RowKit
theorem left_left64 (l m : List Int) : left64 (left64 l ++ m) = left64 (l ++ m) := by
  induction h : l.length using Nat.strongRecOn generalizing l with
  | ind n ih =>
    by_cases c : l.length < 128
    · rw [left_short64 c]
    · have hl : (l.take 128).length = 128 := by rw [List.length_take]; omega
      have e : l = l.take 128 ++ l.drop 128 := (List.take_append_drop _ _).symm
      have r := ih (l.drop 128).length (by rw [List.length_drop]; omega) (l.drop 128) rfl
      rw [e, left_app64 _ _ hl, List.append_assoc, left_app64 _ _ hl]
      exact r
def HD (w : World) (q : Nat) (ys : List Int) : Prop := ∃ R, HB .u64 w q ((ys.length : Nat) : Int) (whole64 start64 ys) R ∧ Byt R ∧ R.take (ys.length % 128) = left64 ys
theorem HD.lt {w : World} {q : Nat} {ys : List Int} (h : HD w q ys) : q < w.heap.size := by
  obtain ⟨R, h, _⟩ := h
  exact h.lt
theorem HD.up {w w' : World} {q : Nat} {ys : List Int} (h : HD w q ys) (n : Below w.heap.size w w') : HD w' q ys := by
  obtain ⟨R, h, k⟩ := h
  exact ⟨R, h.up n, k⟩
theorem HD.of_block {w w' : World} {q : Nat} {ys : List Int} (h : HD w q ys) (hb : w'.heap[q]? = w.heap[q]?) : HD w' q ys := by
  obtain ⟨R, h, k⟩ := h
  exact ⟨R, h.of_block hb, k⟩
def HV (vs : List Value) (ys : List Int) : Prop := ∃ R, vs = hcl .u64 ((ys.length : Nat) : Int) (whole64 start64 ys) R ∧ R.length = 128 ∧ Byt R ∧ R.take (ys.length % 128) = left64 ys
theorem HV.len {vs : List Value} {ys : List Int} (h : HV vs ys) : vs.length = 137 := by
  obtain ⟨R, rfl, hl, _⟩ := h
  exact hcl_len _ _ _ hl
theorem HV.one {vs : List Value} {ys : List Int} (h : HV vs ys) : ∀ v ∈ vs, v.oneCell' = true := by
  obtain ⟨R, rfl, hl, _⟩ := h
  intro v hv
  have := hcl_one .u64 ((ys.length : Nat) : Int) (whole64 start64 ys) R
  rw [Array.all_eq_true_iff_forall_mem] at this
  exact this v (by simpa using hv)
theorem HD.val {w : World} {q : Nat} {ys : List Int} (h : HD w q ys) : ∃ vs, HV vs ys ∧ w.rangeAt q 0 vs ∧ w.there q 0 137 := by
  obtain ⟨R, h, b, e⟩ := h
  exact ⟨_, ⟨R, rfl, h.len, b, e⟩, h.range, h.there⟩
theorem HV.at {w : World} {q : Nat} {vs : List Value} {ys : List Int} (h : HV vs ys) (rg : w.rangeAt q 0 vs) (th : w.there q 0 137) : HD w q ys := by
  obtain ⟨R, rfl, hl, b, e⟩ := h
  exact ⟨R, HB.of_range hl rg th, b, e⟩
theorem HV.start : HV (hcl .u64 0 start64 (List.replicate 128 0)) [] := ⟨List.replicate 128 0, by rw [whole_short64 start64 (by simp)]; rfl, by simp, byt_rep0 _, by rw [left_short64 (by simp)]; rfl⟩
theorem takeD (w : World) (q : Nat) (ys : List Int) (h : HD w q ys) (g : Nat) (a : Option Addr) (c : Nat) (xs : List Int) (hr : Rd w g a .u8 xs) (hx : Byt xs) (hc : xs.length ≤ c) (hg : 0 < xs.length → g ≠ q)
    (hL : ys.length + xs.length ≤ 1152921504606846976) (hT : HasT w 7 kL) (hq : 7 ≠ q) :
    Calls Tryz.prog 101 #[.pointer (some ⟨q, 0, none⟩), .slice a xs.length c] w fun e w' => e = .returned (.tuple #[]) ∧ HD w' q (ys ++ xs) ∧ Bth q w w' := by
  obtain ⟨R, H, b, e⟩ := h
  refine (take_64 w q ys.length (whole64 start64 ys) R H (whole_ok64 start_ok64 ys) b g a c xs hr hx hc hg hL hT hq).mono ?_
  rintro r w' ⟨rfl, R', H', b', e', B'⟩
  rw [e, whole_left64] at H'
  rw [e, left_left64] at e'
  exact ⟨rfl, ⟨R', by rw [List.length_append]; exact H', b', by rw [List.length_append]; exact e'⟩, B'⟩
theorem endV (w : World) (vs : List Value) (ys : List Int) (h : HV vs ys) (hn : ys.length ≤ 1099511627776) (hT : HasT w 7 kL) :
    Calls Tryz.prog 102 #[.agg vs.toArray] w fun e w' => NewRow w.heap.size w' e .u8 (hashL64 ys) ∧ Below w.heap.size w w' := by
  obtain ⟨R, rfl, hl, b, e⟩ := h
  rw [← hash_is64 e]
  exact end_64 w ys.length (whole64 start64 ys) R hl (whole_ok64 start_ok64 ys) b hn hT
def Lst.ok (w : World) (q : Nat) (l : Lst) : Prop := Rd w l.g l.a .u8 l.xs ∧ Byt l.xs ∧ l.xs.length ≤ l.c ∧ (0 < l.xs.length → l.g ≠ q)
theorem Lst.ok.bt {w w' : World} {q : Nat} {l : Lst} (h : l.ok w q) (b : Bth q w w') : l.ok w' q := by
  obtain ⟨h1, h2, h3, h4⟩ := h
  refine ⟨?_, h2, h3, h4⟩
  by_cases h0 : 0 < l.xs.length
  · exact h1.bt b (h4 h0)
  · exact fun h1 => absurd h1 h0
theorem Lsts.bt {w w' : World} {q b : Nat} {ls : List Lst} (h : Lsts w b ls) (B : Bth q w w') (hb : b ≠ q) : Lsts w' b ls := fun j l hj => by
  have := h j l hj
  rw [World.cell?_of_block (a := ⟨b, j, none⟩) (B.block b (block_lt_of_cell this) hb)]
  exact this
set_option maxHeartbeats 2000000 in
theorem takeAllD (w : World) (q : Nat) (ys : List Int) (h : HD w q ys) (b n c : Nat) (ls : List Lst) (hn : ls.length = n) (hm : n ≤ 1000) (hs : Lsts w b ls) (hl : ∀ l ∈ ls, l.ok w q) (hb : b ≠ q)
    (hL : ys.length + (cat ls).length ≤ 1152921504606846976) (hT : HasT w 7 kL) (hq : 7 ≠ q) :
    Calls Tryz.prog 106 #[.pointer (some ⟨q, 0, none⟩), .slice (some ⟨b, 0, none⟩) n c] w fun e w' => e = .returned (.tuple #[]) ∧ HD w' q (ys ++ cat ls) ∧ Bth q w w' := by
  have HN := hide hn
  clear hn
  have hp : ∀ j, (cat (ls.take j)).length ≤ (cat ls).length := fun j => by
    have : cat ls = cat (ls.take j) ++ cat (ls.drop j) := by
      unfold cat
      rw [← List.flatten_append, ← List.map_append, List.take_append_drop]
    rw [this, List.length_append]
    omega
  go_enter Tryz.func106, Tryz.ntmps106
  go_wp2_with fail
  go_loopw [5, 8] (fun _ i wr => ∃ (j : Nat), j ≤ n ∧ i = .int .i64 j ∧ HD wr q (ys ++ cat (ls.take j)) ∧ Bth q w wr) (fun _ i _ => n - (intOf i).toNat)
  case atStart => exact ⟨0, Nat.zero_le _, rfl, by simpa [cat] using h, Bth.refl _ _⟩
  case round =>
    obtain ⟨j, hj, rfl, hD, hB⟩ := hrel
    by_cases hlt : j < n
    · obtain ⟨l, hjl⟩ : ∃ l, ls[j]? = some l := ⟨ls[j]'(by rw [HN.out]; exact hlt), List.getElem?_eq_getElem _⟩
      have lm : l ∈ ls := List.mem_of_getElem? hjl
      have ok := (hl l lm).bt hB
      have cc := (hs.bt hB hb) j l hjl
      have ct := cat_take ls j l hjl
      have lb : (ys ++ cat (ls.take j)).length + l.xs.length ≤ 1152921504606846976 := by
        have := hp (j + 1)
        rw [ct, List.length_append] at this
        rw [List.length_append]
        omega
      have TD := hide (takeD wr q _ hD l.g l.a l.c l.xs ok.1 ok.2.1 ok.2.2.1 ok.2.2.2 lb (hT.bt (by decide) hB hq) hq)
      have CT := hide ct
      clear lb ct hD h hs hl ok lm
      generalize cat (ls.take j) = cj at *
      have jn : (j : Int) < (n : Int) := by omega
      go_wp2_with fail
      refine TD.out.mono ?_
      rintro e w1 ⟨rfl, D1, B1⟩
      rw [List.append_assoc, ← CT.out] at D1
      have BB := hB.trans B1
      clear TD
      go_wp2
      go_roundw
      case rel => exact ⟨j + 1, by omega, by go_num, D1, BB⟩
      case measure => simp [intOf]; omega
    · obtain rfl : j = n := by omega
      have e : ls.take j = ls := List.take_of_length_le (by rw [HN.out]; exact Nat.le_refl _)
      rw [e] at hD
      go_wp2
      exact bodyPost_end (v := .tuple #[]) (by simp [results, Tryz.results106, go_sem]) rfl ⟨rfl, hD, hB⟩
end Go.Proofs.YthonlkghkdjagaaGreatDoor
namespace Go.Proofs.YthonlkghkdjagaaGreatDoor
set_option maxRecDepth 100000
open Go.RowKit
def sub64Entry : Array Value → Sem Value := fun args => do
  let (x, y, b) ← Extern.MathBitsCarry.three "Sub64" args
  pure (Extern.MathBitsCarry.pair ((x + Extern.MathBitsCarry.m64 - y - b) % Extern.MathBitsCarry.m64) (if x < y + b then 1 else 0))
theorem run_sub64 {P : Program} (x y c : Int) (hx : 0 ≤ x ∧ x < 18446744073709551616) (hy : 0 ≤ y ∧ y < 18446744073709551616) (hc : c = 0 ∨ c = 1) (w : World) :
    (sub64Entry #[.int .u64 x, .int .u64 y, .int .u64 c]).run P w =
      .ok (.tuple #[.int .u64 ((x - y - c) % 18446744073709551616), .int .u64 (if x - y - c < 0 then 1 else 0)]) w := by
  have key : ∀ k : Nat, k ≤ 1 → (sub64Entry #[.int .u64 x, .int .u64 y, .int .u64 (k : Int)]).run P w =
      .ok (Extern.MathBitsCarry.pair ((x.toNat + Extern.MathBitsCarry.m64 - y.toNat - k) % Extern.MathBitsCarry.m64) (if x.toNat < y.toNat + k then 1 else 0)) w := by
    intro k hk
    have : k = 0 ∨ k = 1 := by omega
    rcases this with rfl | rfl <;> rfl
  obtain ⟨k, rfl⟩ := Int.eq_ofNat_of_zero_le (show 0 ≤ c by omega)
  rw [key k (by omega)]
  obtain ⟨X, rfl⟩ := Int.eq_ofNat_of_zero_le hx.1
  obtain ⟨Y, rfl⟩ := Int.eq_ofNat_of_zero_le hy.1
  simp only [Extern.MathBitsCarry.pair, Extern.MathBitsCarry.m64, Int.toNat_natCast]
  have e1 : Int.ofNat ((X + 2 ^ 64 - Y - k) % 2 ^ 64) = ((X : Int) - Y - k) % 18446744073709551616 := by
    show (((X + 2 ^ 64 - Y - k) % 2 ^ 64 : Nat) : Int) = _
    omega
  have e2 : Int.ofNat (if X < Y + k then 1 else 0) = (if (X : Int) - Y - k < 0 then 1 else 0 : Int) := by
    by_cases h : X < Y + k
    · rw [if_pos h, if_pos (by omega)]; rfl
    · rw [if_neg h, if_neg (by omega)]; rfl
  rw [e1, e2]
theorem sub64_run (x y c : Int) (hx : 0 ≤ x ∧ x < 18446744073709551616) (hy : 0 ≤ y ∧ y < 18446744073709551616) (hc : c = 0 ∨ c = 1) (w : World) :
    (callFunc 118 #[.int .u64 x, .int .u64 y, .int .u64 c]).run Tryz.prog w =
      .ok (.value (.tuple #[.int .u64 ((x - y - c) % 18446744073709551616), .int .u64 (if x - y - c < 0 then 1 else 0)])) w := by
  rw [run_callFunc_extern Tryz.func118 (by kernel_rfl) (by kernel_rfl) (by kernel_rfl) (e := sub64Entry) (by kernel_rfl), run_sub64 x y c hx hy hc]
  simp only [Result.andThen]
theorem add64c_run (x y c : Int) (hx : 0 ≤ x) (hy : 0 ≤ y) (hc : c = 0 ∨ c = 1) (w : World) :
    (callFunc 119 #[.int .u64 x, .int .u64 y, .int .u64 c]).run Tryz.prog w =
      .ok (.value (.tuple #[.int .u64 ((x + y + c) % 18446744073709551616), .int .u64 ((x + y + c) / 18446744073709551616)])) w := by
  rw [run_callFunc_extern Tryz.func119 (by kernel_rfl) (by kernel_rfl) (by kernel_rfl) (e := add64Entry) (by kernel_rfl), run_add64 x y c hx hy (by omega) (by omega)]
  simp only [Result.andThen]
theorem addProduct0 (w : World) (l a b : Int) (hl : 0 ≤ l ∧ l < 18446744073709551616) (ha : 0 ≤ a ∧ a < 18446744073709551616) (hb : 0 ≤ b ∧ b < 18446744073709551616) :
    Calls Tryz.prog 117 #[.agg #[.int .u64 0, .int .u64 l], .int .u64 a, .int .u64 b] w fun e w' =>
      e = .returned (.agg #[.int .u64 ((l + a * b) / 18446744073709551616), .int .u64 ((l + a * b) % 18446744073709551616)]) ∧ Below w.heap.size w w' := by
  have h := addProduct_any w 0 l a b (by omega) hl ha hb (by have := (mul_word ha hb).2; omega)
  simp only [ag2, Int.zero_mul, Int.zero_add] at h
  exact h
theorem idx4 (t : Nat → Int) (k : Nat) (hk : k < 4) (W : World) :
    (Instr.index 44 (.agg #[.int .u64 (t 0), .int .u64 (t 1), .int .u64 (t 2), .int .u64 (t 3)]) (.int .i64 (k : Int))).run Tryz.prog W = .ok (.int .u64 (t k)) W := by
  obtain rfl | rfl | rfl | rfl : k = 0 ∨ k = 1 ∨ k = 2 ∨ k = 3 := by omega
  all_goals kernel_rfl
theorem and_mask (q b : Int) (hq : 0 ≤ q ∧ q < 18446744073709551616) (hb : b = 0 ∨ b = 1) : bits BinOp.and .u64 q (b * 18446744073709551615) = q * b := by
  obtain ⟨m, rfl⟩ := Int.eq_ofNat_of_zero_le hq.1
  rcases hb with rfl | rfl
  · have h := bits_and_u64_nat m 0 (by omega) (by omega)
    rw [Nat.and_zero] at h
    simpa using h
  · have h := bits_and_u64_nat m 18446744073709551615 (by omega) (by omega)
    have e : m &&& 18446744073709551615 = m % 18446744073709551616 := Nat.and_two_pow_sub_one_eq_mod m 64
    rw [e, Nat.mod_eq_of_lt (by omega)] at h
    simpa using h
def mix (f s : Nat → Int) (k j : Nat) : Int := if j < k then f j else s j
abbrev c4 (u : Nat → Int) : List Int := [u 0, u 1, u 2, u 3]
theorem mix_set (f s : Nat → Int) (k : Nat) (hk : k < 4) : (c4 (mix f s k)).set k (f k) = c4 (mix f s (k + 1)) := by
  obtain rfl | rfl | rfl | rfl : k = 0 ∨ k = 1 ∨ k = 2 ∨ k = 3 := by omega
  all_goals simp [mix, c4]
theorem mix_allO (f s : Nat → Int) : c4 (mix f s 4) = c4 f := by simp [mix, c4]
theorem mix_zero (f s : Nat → Int) : c4 (mix f s 0) = c4 s := by simp [mix, c4]
theorem mix_at (f s : Nat → Int) (k : Nat) (hk : k < 4) : (c4 (mix f s k)).getD k 0 = s k := by
  obtain rfl | rfl | rfl | rfl : k = 0 ∨ k = 1 ∨ k = 2 ∨ k = 3 := by omega
  all_goals simp [mix, c4]
theorem mix_len (f s : Nat → Int) (k : Nat) : (c4 (mix f s k)).length = 4 := rfl
theorem blk_box2O (w : World) (k : IntKind) (t : TypeId) (a b : Int) : Blk (w.alloc (.cells #[.int k a, .int k b] t)) w.heap.size k [a, b] :=
  ⟨t, by rw [heap_alloc_last]; rfl⟩
set_option maxHeartbeats 8000000 in
theorem lessTimes_any (w : World) (s t : Nat → Int) (n : Int) (hn : 0 ≤ n ∧ n < 18446744073709551616) (hs : W4 s) (ht : W4 t) (hQ : HasW w 0 qw 4) :
    Calls Tryz.prog 74 #[ag4 s, .int .u64 n, ag4 t] w fun r w' => r = .returned (ag4 (lsT n s t)) ∧ Below w.heap.size w w' := by
  have gq := hQ.lt (by omega)
  have B0 := blk_box4 w .u64 44 (s 0) (s 1) (s 2) (s 3)
  have n0 : Below w.heap.size w (w.alloc (.cells #[.int .u64 (s 0), .int .u64 (s 1), .int .u64 (s 2), .int .u64 (s 3)] 44)) := (Below.refl _ _).alloc (Nat.le_refl _) _
  have s0 : (w.alloc (.cells #[.int .u64 (s 0), .int .u64 (s 1), .int .u64 (s 2), .int .u64 (s 3)] 44)).heap.size = w.heap.size + 1 := by simp
  simp only [ag4]
  go_enter Tryz.func74, Tryz.ntmps74
  go_wp2
  generalize w.alloc (.cells #[.int .u64 (s 0), .int .u64 (s 1), .int .u64 (s 2), .int .u64 (s 3)] 44) = wa at *
  have n1 : Below wa.heap.size wa (wa.alloc (.cells #[.int .u64 (t 0), .int .u64 (t 1), .int .u64 (t 2), .int .u64 (t 3)] 44)) := (Below.refl _ _).alloc (Nat.le_refl _) _
  have s1 : (wa.alloc (.cells #[.int .u64 (t 0), .int .u64 (t 1), .int .u64 (t 2), .int .u64 (t 3)] 44)).heap.size = w.heap.size + 1 + 1 := by simp [s0]
  generalize wa.alloc (.cells #[.int .u64 (t 0), .int .u64 (t 1), .int .u64 (t 2), .int .u64 (t 3)] 44) = wb at *
  have B2 := blk_box4 wb .u64 44 0 0 0 0
  have n2 : Below wb.heap.size wb (wb.alloc (.cells #[.int .u64 0, .int .u64 0, .int .u64 0, .int .u64 0] 44)) := (Below.refl _ _).alloc (Nat.le_refl _) _
  have s2 : (wb.alloc (.cells #[.int .u64 0, .int .u64 0, .int .u64 0, .int .u64 0] 44)).heap.size = w.heap.size + 1 + 1 + 1 := by simp [s1]
  generalize wb.alloc (.cells #[.int .u64 0, .int .u64 0, .int .u64 0, .int .u64 0] 44) = wc at *
  have E0 := (B0.up n1).up n2
  rw [s1] at B2
  have N := nxt (nxt n0 n1) n2
  clear B0 n0 n1 n2 s0 s1 s2
  go_loopw [7, 8, 17] (fun o b i wr => ∃ k : Nat, k ≤ 4 ∧ i = .int .i64 k ∧ o = .int .u64 (lo4 n t k) ∧ b = .int .u64 (lb4 n s t k) ∧ Blk wr w.heap.size .u64 (c4 (mix (ls4 n s t) s k)) ∧ Blk wr (w.heap.size + 1 + 1) .u64 [0, 0, 0, 0] ∧ Below w.heap.size w wr) (fun _ _ i _ => 4 - (intOf i).toNat)
  case atStart => exact ⟨0, by omega, rfl, rfl, rfl, by rw [mix_zero]; exact E0, B2, N⟩
  case round =>
    clear E0 B2 N
    obtain ⟨k, hk, rfl, rfl, rfl, hB, hR, hN⟩ := hrel
    by_cases hlt : k < 4
    · have IX := idx4 t k hlt
      have tk := ht k hlt
      have sk := hs k hlt
      have ok := lo4_bd hn ht k hk
      have bk := lb4_bd n s t k
      have e1 : lo4 n t (k + 1) = (lo4 n t k + n * t k) / 18446744073709551616 := rfl
      have e2 : lb4 n s t (k + 1) = if s k - (lo4 n t k + n * t k) % 18446744073709551616 - lb4 n s t k < 0 then 1 else 0 := rfl
      have e3 : ls4 n s t k = (s k - (lo4 n t k + n * t k) % 18446744073709551616 - lb4 n s t k) % 18446744073709551616 := rfl
      have SU := sub64_run (s k) ((lo4 n t k + n * t k) % 18446744073709551616) (lb4 n s t k) sk (by omega) bk
      rw [← e2, ← e3] at SU
      have AP := fun W => addProduct0 W (lo4 n t k) n (t k) ok hn tk
      rw [← e1] at AP
      have k2 : (k : Int) < 4 := by omega
      have hcs : (c4 (mix (ls4 n s t) s k)).getD k 0 = s k := mix_at _ _ _ hlt
      have hst := mix_set (ls4 n s t) s k hlt
      generalize (lo4 n t k + n * t k) % 18446744073709551616 = d at *
      obtain ⟨o1, ho1⟩ : ∃ o1, o1 = lo4 n t (k + 1) := ⟨_, rfl⟩
      obtain ⟨b1, hb1⟩ : ∃ b1, b1 = lb4 n s t (k + 1) := ⟨_, rfl⟩
      have E1 : Hid (Value.int IntKind.u64 o1 = .int .u64 (lo4 n t (k + 1))) := by show _ = _; rw [ho1]
      have E2 : Hid (Value.int IntKind.u64 b1 = .int .u64 (lb4 n s t (k + 1))) := by show _ = _; rw [hb1]
      rw [← ho1] at AP e1
      rw [← hb1] at SU e2
      clear ho1 hb1 e1 e2 e3
      generalize lo4 n t k = o0 at *
      generalize lb4 n s t k = b0 at *
      generalize ls4 n s t k = l at *
      generalize t k = tv at *
      obtain ⟨ys, hys⟩ : ∃ ys, ys = c4 (mix (ls4 n s t) s k) := ⟨_, rfl⟩
      rw [← hys] at hB hcs hst
      go_wp2_with fail
      refine (AP wr).mono ?_
      rintro r w1 ⟨rfl, n1⟩
      have D := blk_box2O w1 .u64 162 o1 d
      have n2 : Below w1.heap.size w1 (w1.alloc (.cells #[.int .u64 o1, .int .u64 d] 162)) := (Below.refl _ _).alloc (Nat.le_refl _) _
      have hN2 := nxt (nxt hN n1) n2
      have hB2 := (hB.up n1).up n2
      have hR2 := (hR.up n1).up n2
      have yl : ys.length = 4 := by rw [← mix_len (ls4 n s t) s k]; exact congrArg List.length hys
      have cy : (w1.alloc (.cells #[.int .u64 o1, .int .u64 d] 162)).cell? ⟨w.heap.size, k, none⟩ = some (.int .u64 (s k)) := by rw [hB2.cell (by omega), hcs]
      have fy := hB2.free k
      have d0 := D.cell (i := 0) (by simp)
      have d1 := D.cell (i := 1) (by simp)
      simp only [List.getD_cons_zero, List.getD_cons_succ] at d0 d1
      have S0 := hB2.store k l
      rw [hst] at S0
      have S1 := hR2.of_block (w' := (w1.alloc (.cells #[.int .u64 o1, .int .u64 d] 162)).setCell ⟨w.heap.size, k, none⟩ (.int .u64 l)) (heap_setCell_other _ ⟨w.heap.size, k, none⟩ _ _ (by show w.heap.size + 1 + 1 ≠ w.heap.size; omega))
      have S2 : Below w.heap.size w ((w1.alloc (.cells #[.int .u64 o1, .int .u64 d] 162)).setCell ⟨w.heap.size, k, none⟩ (.int .u64 l)) := hN2.setCell (Nat.le_refl _) _
      clear hB2 hR2 hN2 n2 n1 D hB hR hN AP hst yl hcs
      go_wp2
      generalize w1.alloc (.cells #[.int .u64 o1, .int .u64 d] 162) = w2 at *
      go_region
      go_wp2
      go_roundw
      case rel => exact ⟨k + 1, by omega, by go_num, E1.out, E2.out, S0.drew, S1.drew, S2.drew⟩
      case measure => simp [intOf]; omega
    · obtain rfl : k = 4 := by omega
      rw [mix_allO] at hB
      have hL := ls4_W4 n s t
      have bk := lb4_bd n s t 4
      have hT : lsT n s t = qs4 (ls4 n s t) qw (lb4 n s t 4) := rfl
      have HT := hide hT
      obtain ⟨q0, q1, q2, q3⟩ := (hQ.up hN).f4
      generalize ls4 n s t = L at *
      generalize lb4 n s t 4 = b at *
      generalize lo4 n t 4 = o at *
      obtain ⟨m, hm⟩ : ∃ m, m = b * 18446744073709551615 := ⟨_, rfl⟩
      have hneg : IntKind.u64.wrap (-b) = m := by rw [IntKind.wrap_u64]; omega
      have AN : Hid (∀ k, k < 4 → bits BinOp.and .u64 (qw k) m = qw k * b) := by
        intro k hk
        have hq := qw_W4 k hk
        rw [hm]
        exact and_mask _ _ hq bk
      clear hT hm
      obtain ⟨qf, hqf⟩ : ∃ qf, qf = qw := ⟨_, rfl⟩
      have hq4 : W4 qf := by rw [hqf]; exact qw_W4
      rw [← hqf] at q0 q1 q2 q3 AN HT
      clear hQ hqf
      go_wp2
      go_loopw [13, 44] (fun c i wr => ∃ k : Nat, k ≤ 4 ∧ i = .int .i64 k ∧ c = .int .u64 (qc4 L qf b k) ∧ Blk wr w.heap.size .u64 (c4 (mix (qs4 L qf b) L k)) ∧ Blk wr (w.heap.size + 1 + 1) .u64 [0, 0, 0, 0] ∧ Below w.heap.size w wr) (fun _ i _ => 4 - (intOf i).toNat)
      case atStart => exact ⟨0, by omega, rfl, rfl, by rw [mix_zero]; exact hB, hR, hN⟩
      case round =>
        clear hB hR hN q0 q1 q2 q3
        obtain ⟨k, hk, rfl, rfl, hB, hR, hN⟩ := hrel
        by_cases hlt : k < 4
        · have IX := idx4 qf k hlt
          have lk := hL k hlt
          have qk := hq4 k hlt
          have qb0 : 0 ≤ qf k * b := Int.mul_nonneg qk.1 (by omega)
          have an := AN.out k hlt
          have ck := qc4_bd hL hq4 bk k hk
          have AD := add64c_run (L k) (qf k * b) (qc4 L qf b k) lk.1 qb0 ck
          have e1 : qc4 L qf b (k + 1) = (L k + qf k * b + qc4 L qf b k) / 18446744073709551616 := rfl
          have e2 : qs4 L qf b k = (L k + qf k * b + qc4 L qf b k) % 18446744073709551616 := rfl
          rw [← e1, ← e2] at AD
          have k2 : (k : Int) < 4 := by omega
          have hcs : (c4 (mix (qs4 L qf b) L k)).getD k 0 = L k := mix_at _ _ _ hlt
          have cy : wr.cell? ⟨w.heap.size, k, none⟩ = some (.int .u64 (L k)) := by rw [hB.cell (by rw [mix_len]; exact hlt), hcs]
          have fy := hB.free k
          have S0 := hB.store k (qs4 L qf b k)
          rw [mix_set _ _ _ hlt] at S0
          have S1 := hR.of_block (w' := wr.setCell ⟨w.heap.size, k, none⟩ (.int .u64 (qs4 L qf b k))) (heap_setCell_other _ ⟨w.heap.size, k, none⟩ _ _ (by show w.heap.size + 1 + 1 ≠ w.heap.size; omega))
          have S2 : Below w.heap.size w (wr.setCell ⟨w.heap.size, k, none⟩ (.int .u64 (qs4 L qf b k))) := hN.setCell (Nat.le_refl _) _
          obtain ⟨c1, hc1⟩ : ∃ c1, c1 = qc4 L qf b (k + 1) := ⟨_, rfl⟩
          have E1 : Hid (Value.int IntKind.u64 c1 = .int .u64 (qc4 L qf b (k + 1))) := by show _ = _; rw [hc1]
          rw [← hc1] at AD
          clear hB hR hN e1 e2 hcs hc1
          generalize qs4 L qf b k = l at *
          generalize qc4 L qf b k = c0 at *
          generalize qf k * b = qm at *
          generalize qf k = qv at *
          generalize L k = lv at *
          go_wp2
          go_roundw
          case rel => exact ⟨k + 1, by omega, by go_num, E1.out, S0, S1, S2⟩
          case measure => simp [intOf]; omega
        · obtain rfl : k = 4 := by omega
          rw [mix_allO] at hB
          have hE : Hid (lsT n s t = qs4 L qf b) := HT
          generalize qs4 L qf b = f at *
          obtain ⟨⟨p0, p1, p2, p3⟩, _⟩ := hB.f4
          obtain ⟨⟨r0, r1, r2, r3⟩, ⟨g0, g1, g2, g3⟩⟩ := hR.f4
          go_wp2
          refine bodyPost_ret (v := ag4 f) (by simp [ag4, results, Tryz.results74, go_sem, r0, r1, r2, r3]) rfl ⟨by rw [hE.out]; rfl, ?_⟩
          exact below_set4 hN (by omega) _ _ _ _
end Go.Proofs.YthonlkghkdjagaaGreatDoor
namespace Go.Proofs.YthonlkghkdjagaaGreatDoor
set_option maxRecDepth 100000
open Go.RowKit
def ag8O (u : Nat → Int) : Value := .agg #[.int .u64 (u 0), .int .u64 (u 1), .int .u64 (u 2), .int .u64 (u 3), .int .u64 (u 4), .int .u64 (u 5), .int .u64 (u 6), .int .u64 (u 7)]
abbrev c8 (u : Nat → Int) : List Int := [u 0, u 1, u 2, u 3, u 4, u 5, u 6, u 7]
theorem blk_box8 (w : World) (k : IntKind) (t : TypeId) (a b c d e f g h : Int) : Blk (w.alloc (.cells #[.int k a, .int k b, .int k c, .int k d, .int k e, .int k f, .int k g, .int k h] t)) w.heap.size k [a, b, c, d, e, f, g, h] :=
  ⟨t, by rw [heap_alloc_last]; rfl⟩
theorem c8_get (u : Nat → Int) (j : Nat) (hj : j < 8) : (c8 u).getD j 0 = u j := by
  obtain rfl | rfl | rfl | rfl | rfl | rfl | rfl | rfl : j = 0 ∨ j = 1 ∨ j = 2 ∨ j = 3 ∨ j = 4 ∨ j = 5 ∨ j = 6 ∨ j = 7 := by omega
  all_goals rfl
theorem c8_len (u : Nat → Int) : (c8 u).length = 8 := rfl
theorem c8_set (u v : Nat → Int) (k : Nat) (x : Int) (hk : k < 8) (h : ∀ j, j < 8 → v j = if j = k then x else u j) : (c8 u).set k x = c8 v := by
  refine eq_of_getD (by simp) (fun i hi => ?_)
  rw [List.length_set, c8_len] at hi
  rw [c8_get v i hi, h i hi]
  by_cases e : i = k
  · subst e
    rw [getD_set_self _ _ _ (by rw [c8_len]; exact hk), if_pos rfl]
  · rw [getD_set_ne _ _ _ _ (fun h => e h.symm), if_neg e, c8_get u i hi]
theorem Blk.f8O {w : World} {g : Nat} {k : IntKind} {a b c d e f g' h : Int} (B : Blk w g k [a, b, c, d, e, f, g', h]) :
    (w.cell? ⟨g, 0, none⟩ = some (.int k a) ∧ w.cell? ⟨g, 1, none⟩ = some (.int k b) ∧ w.cell? ⟨g, 2, none⟩ = some (.int k c) ∧ w.cell? ⟨g, 3, none⟩ = some (.int k d) ∧ w.cell? ⟨g, 4, none⟩ = some (.int k e) ∧ w.cell? ⟨g, 5, none⟩ = some (.int k f) ∧ w.cell? ⟨g, 6, none⟩ = some (.int k g') ∧ w.cell? ⟨g, 7, none⟩ = some (.int k h)) ∧
    (w.frozen? ⟨g, 0, none⟩ = false ∧ w.frozen? ⟨g, 1, none⟩ = false ∧ w.frozen? ⟨g, 2, none⟩ = false ∧ w.frozen? ⟨g, 3, none⟩ = false ∧ w.frozen? ⟨g, 4, none⟩ = false ∧ w.frozen? ⟨g, 5, none⟩ = false ∧ w.frozen? ⟨g, 6, none⟩ = false ∧ w.frozen? ⟨g, 7, none⟩ = false) :=
  ⟨⟨B.cell (i := 0) (by simp), B.cell (i := 1) (by simp), B.cell (i := 2) (by simp), B.cell (i := 3) (by simp), B.cell (i := 4) (by simp), B.cell (i := 5) (by simp), B.cell (i := 6) (by simp), B.cell (i := 7) (by simp)⟩, B.free 0, B.free 1, B.free 2, B.free 3, B.free 4, B.free 5, B.free 6, B.free 7⟩
theorem below_set8O {B : Nat} {w w' : World} (h : Below B w w') {g : Nat} (hg : B ≤ g) (a b c d e f g' i : Value) :
    Below B w ((((((((w'.setCell ⟨g, 0, none⟩ a).setCell ⟨g, 1, none⟩ b).setCell ⟨g, 2, none⟩ c).setCell ⟨g, 3, none⟩ d).setCell ⟨g, 4, none⟩ e).setCell ⟨g, 5, none⟩ f).setCell ⟨g, 6, none⟩ g').setCell ⟨g, 7, none⟩ i) :=
  (((((((h.setCell hg _).setCell hg _).setCell hg _).setCell hg _).setCell hg _).setCell hg _).setCell hg _).setCell hg _
theorem Blk.f2 {w : World} {g : Nat} {k : IntKind} {a b : Int} (h : Blk w g k [a, b]) : (w.cell? ⟨g, 0, none⟩ = some (.int k a) ∧ w.cell? ⟨g, 1, none⟩ = some (.int k b)) ∧ (w.frozen? ⟨g, 0, none⟩ = false ∧ w.frozen? ⟨g, 1, none⟩ = false) :=
  ⟨⟨h.cell (i := 0) (by simp), h.cell (i := 1) (by simp)⟩, h.free 0, h.free 1⟩
theorem upb' {w w' : World} (n : Below w.heap.size w w') {g : Nat} {k : IntKind} {ys : List Int} (h : Blk w g k ys) : Blk w' g k ys := h.up n
theorem bA {w W : World} (h : Below w.heap.size w W) (o : Obj) : Below w.heap.size w (W.alloc o) := h.alloc h.size _
set_option maxHeartbeats 4000000 in
theorem wideAdd_any (w : World) (h l n : Int) (hh : 0 ≤ h) (hl : 0 ≤ l ∧ l < 18446744073709551616) (hn : 0 ≤ n ∧ n < 18446744073709551616) (hs : h * 18446744073709551616 + l + n < 340282366920938463463374607431768211456) :
    Calls Tryz.prog 150 #[.agg #[.int .u64 h, .int .u64 l], .int .u64 n] w fun e w' =>
      e = .returned (.agg #[.int .u64 ((h * 18446744073709551616 + l + n) / 18446744073709551616), .int .u64 ((h * 18446744073709551616 + l + n) % 18446744073709551616)]) ∧ Below w.heap.size w w' := by
  have AD := add64_run l n hl.1 hn.1
  have K1 : Hid ((h * 18446744073709551616 + l + n) / 18446744073709551616 = h + (l + n) / 18446744073709551616) := by show _ = _; omega
  have K2 : Hid ((h * 18446744073709551616 + l + n) % 18446744073709551616 = (l + n) % 18446744073709551616) := by show _ = _; omega
  have b1 : 0 ≤ (l + n) / 18446744073709551616 := by omega
  have b3 : h + (l + n) / 18446744073709551616 < 18446744073709551616 := by omega
  generalize (l + n) % 18446744073709551616 = s at *
  generalize (l + n) / 18446744073709551616 = c at *
  clear hs
  go_enter Tryz.func150, Tryz.ntmps150
  go_wp2
  refine bodyPost_ret (v := ag2 (h + c) s) (by simp [ag2, results, Tryz.results150, go_sem]) rfl ⟨by rw [K1.out, K2.out]; rfl, ?_⟩
  exact ((Below.refl _ _).alloc (Nat.le_refl _) _).alloc (by simp) _
def InBox (wr : World) (h l : Int) (v : Value) (wc : World) : Prop := ∃ q, v = .pointer (some ⟨q, 0, none⟩) ∧ wr.heap.size ≤ q ∧ Blk wc q .u64 [h, l] ∧ Below wr.heap.size wr wc
theorem inBox1 {wr wm : World} (n : Below wr.heap.size wr wm) (h l : Int) : InBox wr h l (.pointer (some ⟨wm.heap.size, 0, none⟩)) (wm.alloc (.cells #[.int .u64 h, .int .u64 l] 162)) :=
  ⟨_, rfl, n.size, blk_box2O wm .u64 _ h l, bA n _⟩
theorem inBox2 {wr wm : World} (n : Below wr.heap.size wr wm) (h l : Int) {q : Nat} (B : Blk wm q .u64 [0, 0]) (hq : wr.heap.size ≤ q) : InBox wr h l (.pointer (some ⟨q, 0, none⟩)) ((wm.setCell ⟨q, 0, none⟩ (.int .u64 h)).setCell ⟨q, 1, none⟩ (.int .u64 l)) :=
  ⟨_, rfl, hq, (B.store 0 h).store 1 l, (n.setCell hq _).setCell hq _⟩
theorem at8_step (p : Nat) (n : Int) (s D : Nat → Int) (k : Nat) (hp : p ≤ 3) (hk : k < 4) :
    (c8 (at8 p n s D k)).set (p + k) ((ac n s (fun i => D (p + i)) k + n * s k + D (p + k)) % 18446744073709551616) = c8 (at8 p n s D (k + 1)) := by
  refine c8_set _ _ _ _ (by omega) (fun j hj => ?_)
  unfold at8
  by_cases e : j = p + k
  · subst e
    rw [if_pos (by omega), if_pos rfl, show p + k - p = k by omega]
  · rw [if_neg e]
    by_cases h : p ≤ j ∧ j < p + k
    · rw [if_pos (by omega), if_pos h]
    · rw [if_neg (by omega), if_neg h]
theorem at8_zero (p : Nat) (n : Int) (s D : Nat → Int) : c8 (at8 p n s D 0) = c8 D := by
  have : at8 p n s D 0 = D := by
    funext j
    unfold at8
    rw [if_neg (by omega)]
  rw [this]
theorem at8_at (p : Nat) (n : Int) (s D : Nat → Int) (k j : Nat) (h : p + k ≤ j) : at8 p n s D k j = D j := by
  unfold at8
  rw [if_neg (by omega)]
set_option maxHeartbeats 8000000 in
theorem addTimes_any (w : World) (D s : Nat → Int) (p : Nat) (n : Int) (hp : p ≤ 3) (hn : 0 ≤ n ∧ n < 18446744073709551616) (hs : W4 s) (hD : W8 D) (ho : D (p + 4) + ac n s (fun i => D (p + i)) 4 < 18446744073709551616) :
    Calls Tryz.prog 109 #[ag8O D, .int .i64 p, .int .u64 n, ag4 s] w fun r w' => r = .returned (ag8O (adT p n s D)) ∧ Below w.heap.size w w' := by
  have B0 := blk_box8 w .u64 85 (D 0) (D 1) (D 2) (D 3) (D 4) (D 5) (D 6) (D 7)
  have n0 : Below w.heap.size w (w.alloc (.cells #[.int .u64 (D 0), .int .u64 (D 1), .int .u64 (D 2), .int .u64 (D 3), .int .u64 (D 4), .int .u64 (D 5), .int .u64 (D 6), .int .u64 (D 7)] 85)) := (Below.refl _ _).alloc (Nat.le_refl _) _
  have s0 : (w.alloc (.cells #[.int .u64 (D 0), .int .u64 (D 1), .int .u64 (D 2), .int .u64 (D 3), .int .u64 (D 4), .int .u64 (D 5), .int .u64 (D 6), .int .u64 (D 7)] 85)).heap.size = w.heap.size + 1 := by simp
  simp only [ag8O, ag4]
  go_enter Tryz.func109, Tryz.ntmps109
  go_wp2
  generalize w.alloc (.cells #[.int .u64 (D 0), .int .u64 (D 1), .int .u64 (D 2), .int .u64 (D 3), .int .u64 (D 4), .int .u64 (D 5), .int .u64 (D 6), .int .u64 (D 7)] 85) = wa at *
  have n1 : Below wa.heap.size wa (wa.alloc (.cells #[.int .u64 (s 0), .int .u64 (s 1), .int .u64 (s 2), .int .u64 (s 3)] 44)) := (Below.refl _ _).alloc (Nat.le_refl _) _
  have s1 : (wa.alloc (.cells #[.int .u64 (s 0), .int .u64 (s 1), .int .u64 (s 2), .int .u64 (s 3)] 44)).heap.size = w.heap.size + 1 + 1 := by simp [s0]
  generalize wa.alloc (.cells #[.int .u64 (s 0), .int .u64 (s 1), .int .u64 (s 2), .int .u64 (s 3)] 44) = wb at *
  have B2 := blk_box8 wb .u64 85 0 0 0 0 0 0 0 0
  have n2 : Below wb.heap.size wb (wb.alloc (.cells #[.int .u64 0, .int .u64 0, .int .u64 0, .int .u64 0, .int .u64 0, .int .u64 0, .int .u64 0, .int .u64 0] 85)) := (Below.refl _ _).alloc (Nat.le_refl _) _
  have s2 : (wb.alloc (.cells #[.int .u64 0, .int .u64 0, .int .u64 0, .int .u64 0, .int .u64 0, .int .u64 0, .int .u64 0, .int .u64 0] 85)).heap.size = w.heap.size + 1 + 1 + 1 := by simp [s1]
  generalize wb.alloc (.cells #[.int .u64 0, .int .u64 0, .int .u64 0, .int .u64 0, .int .u64 0, .int .u64 0, .int .u64 0, .int .u64 0] 85) = wc at *
  have E0 := (B0.up n1).up n2
  rw [s1] at B2
  have N := nxt (nxt n0 n1) n2
  have hac := fun k (hk : k ≤ 4) => ac_bd (d := fun i => D (p + i)) hn hs k hk (fun j hj => hD (p + j) (by omega))
  clear B0 n0 n1 n2 s0 s1 s2
  go_loopw [9, 14] (fun c i wr => ∃ k : Nat, k ≤ 4 ∧ i = .int .i64 k ∧ c = .int .u64 (ac n s (fun i => D (p + i)) k) ∧ Blk wr w.heap.size .u64 (c8 (at8 p n s D k)) ∧ Blk wr (w.heap.size + 1 + 1) .u64 [0, 0, 0, 0, 0, 0, 0, 0] ∧ Below w.heap.size w wr) (fun _ i _ => 4 - (intOf i).toNat)
  case atStart => exact ⟨0, by omega, rfl, rfl, by rw [at8_zero]; exact E0, B2, N⟩
  case round =>
    clear E0 B2 N
    obtain ⟨k, hk, rfl, rfl, hB, hR, hN⟩ := hrel
    by_cases hlt : k < 4
    · have IX := idx4 s k hlt
      have sk := hs k hlt
      have dk := hD (p + k) (by omega)
      have ck := hac k hk
      have ml := mul_word hn sk
      have e1 : ac n s (fun i => D (p + i)) (k + 1) = (ac n s (fun i => D (p + i)) k + n * s k + D (p + k)) / 18446744073709551616 := rfl
      have hst := at8_step p n s D k hp hlt
      have cy0 : (c8 (at8 p n s D k)).getD (p + k) 0 = D (p + k) := by rw [c8_get _ _ (by omega), at8_at _ _ _ _ _ _ (Nat.le_refl _)]
      have yl : (c8 (at8 p n s D k)).length = 8 := c8_len _
      obtain ⟨h2, hh2⟩ : ∃ h2, h2 = ac n s (fun i => D (p + i)) (k + 1) := ⟨_, rfl⟩
      obtain ⟨l2, hl2⟩ : ∃ l2, l2 = (ac n s (fun i => D (p + i)) k + n * s k + D (p + k)) % 18446744073709551616 := ⟨_, rfl⟩
      have E1 : Hid (Value.int IntKind.u64 h2 = .int .u64 (ac n s (fun i => D (p + i)) (k + 1))) := by show _ = _; rw [hh2]
      rw [← hl2] at hst
      obtain ⟨ys, hys⟩ : ∃ ys, ys = c8 (at8 p n s D k) := ⟨_, rfl⟩
      rw [← hys] at hst cy0 hB yl
      have hst' := hide hst
      generalize ac n s (fun i => D (p + i)) k = c0 at *
      have AP0 := fun W => addProduct0 W c0 n (s k) ck hn sk
      have AA0 := fun W => wideAdd_any W ((c0 + n * s k) / 18446744073709551616) ((c0 + n * s k) % 18446744073709551616) (D (p + k)) (by omega) (by omega) dk (by omega)
      have x1 : ((c0 + n * s k) / 18446744073709551616 * 18446744073709551616 + (c0 + n * s k) % 18446744073709551616 + D (p + k)) = c0 + n * s k + D (p + k) := by omega
      simp only [x1] at AA0
      rw [← e1, ← hh2, ← hl2] at AA0
      have cy : ∀ W, Below wr.heap.size wr W → W.cell? ⟨w.heap.size, p + k, none⟩ = some (.int .u64 (D (p + k))) := fun W n => by rw [(hB.up n).cell (by omega), cy0]
      generalize (c0 + n * s k) / 18446744073709551616 = hi at *
      generalize (c0 + n * s k) % 18446744073709551616 = lo at *
      generalize s k = sv at *
      generalize D (p + k) = dv at *
      have CY := hide cy
      have AP : Hid (∀ W, Below wr.heap.size wr W → Calls Tryz.prog 117 #[.agg #[.int .u64 0, .int .u64 c0], .int .u64 n, .int .u64 sv] W fun r w' => r = .returned (.agg #[.int .u64 hi, .int .u64 lo]) ∧ Below wr.heap.size wr w' ∧ Below W.heap.size W w') := by
        intro W n
        refine (AP0 W).mono ?_
        rintro r w' ⟨rfl, n'⟩
        exact ⟨rfl, nxt n n', n'⟩
      have AA : Hid (∀ W, Below wr.heap.size wr W → Calls Tryz.prog 150 #[.agg #[.int .u64 hi, .int .u64 lo], .int .u64 dv] W fun r w' => r = .returned (.agg #[.int .u64 h2, .int .u64 l2]) ∧ Below wr.heap.size wr w' ∧ Below W.heap.size W w') := by
        intro W n
        refine (AA0 W).mono ?_
        rintro r w' ⟨rfl, n'⟩
        exact ⟨rfl, nxt n n', n'⟩
      have k2 : (k : Int) < 4 := by omega
      have kk : IntKind.i64.wrap ((p : Int) + (k : Int)) = (p : Int) + (k : Int) := by rw [IntKind.wrap_i64]; omega
      have kl : (p : Int) + (k : Int) < 8 := by omega
      have k0 : (0 : Int) ≤ (p : Int) + (k : Int) := by omega
      have kt : ((p : Int) + (k : Int)).toNat = p + k := by omega
      have nd : Below wr.heap.size wr wr.drew := (Below.refl _ _).drew
      clear AP0 AA0 e1 hst x1 hh2 hl2 ml cy cy0
      go_upto_region 5 with fail
      go_cut [12] from 15 to 37 (fun v wc => InBox wr h2 l2 v wc)
      case first =>
        go_region_held3 (fun W => W.cell? ⟨w.heap.size, p + k, none⟩ = some (.int .u64 dv))
          (first | exact (unhide CY) _ nd | exact (unhide CY) _ (bA nd _) | exact (unhide CY) _ ns | exact (unhide CY) _ (bA ns _) | exact (unhide CY) _ nm | exact (unhide CY) _ (bA nm _) | exact (unhide CY) _ (nm.setCell hq _) | exact (unhide CY) _ ((nm.setCell hq _).setCell hq _))
          (first
            | (go_at_call 117; refine ((unhide AP) _ (by first | exact nd | exact bA nd _)).mono ?_; rintro r ws ⟨rfl, ns, ns'⟩; (try (have Z1 : Blk ws wr.heap.size .u64 [0, 0] := upb' ns' (blk_box2O _ _ _ 0 0))))
            | (go_at_call 150; refine ((unhide AA) _ (by first | exact ns | exact bA ns _)).mono ?_; rintro r wm ⟨rfl, nm, nm'⟩; (try first | (have Z2 : Blk wm wr.heap.size .u64 [0, 0] := upb' nm' Z1; (have hq : wr.heap.size ≤ wr.heap.size := Nat.le_refl _); obtain ⟨⟨z0, z1⟩, ⟨f0, f1⟩⟩ := Z2.f2) | (have Z2 : Blk wm ws.heap.size .u64 [0, 0] := upb' nm' (blk_box2O _ _ _ 0 0); (have hq : wr.heap.size ≤ ws.heap.size := ns.size); obtain ⟨⟨z0, z1⟩, ⟨f0, f1⟩⟩ := Z2.f2))))
        all_goals
          go_wp2_with fail
          go_meet
          first
            | (with_reducible refine inBox1 nm h2 l2)
            | (with_reducible refine inBox2 nm h2 l2 Z2 hq)
      case rest =>
        obtain ⟨q, rfl, hq, Bq, nc⟩ := hcut
        have hBc := hB.up nc
        have hRc := hR.up nc
        have hNc := nxt hN nc
        have hlt' := hB.lt
        obtain ⟨⟨z0, z1⟩, _⟩ := Bq.f2
        have cy := (unhide CY) wc nc
        have fy := hBc.free (p + k)
        have S0 := hBc.store (p + k) l2
        rw [hst'.out] at S0
        have S1 := hRc.of_block (w' := wc.setCell ⟨w.heap.size, p + k, none⟩ (.int .u64 l2)) (heap_setCell_other _ ⟨w.heap.size, p + k, none⟩ _ _ (by show w.heap.size + 1 + 1 ≠ w.heap.size; omega))
        have S2 : Below w.heap.size w (wc.setCell ⟨w.heap.size, p + k, none⟩ (.int .u64 l2)) := hNc.setCell (Nat.le_refl _) _
        clear hBc hRc hNc hB hR hN Bq nc AP AA CY nd hst'
        go_wp2
        go_region
        go_wp2
        go_roundw
        case rel => exact ⟨k + 1, by omega, by go_num, E1.out, S0.drew, S1.drew, S2.drew⟩
        case measure => simp [intOf]; omega
    · obtain rfl : k = 4 := by omega
      have d4 := hD (p + 4) (by omega)
      have c4b := hac 4 (by omega)
      have cy : wr.cell? ⟨w.heap.size, p + 4, none⟩ = some (.int .u64 (D (p + 4))) := by rw [hB.cell (by rw [c8_len]; omega), c8_get _ _ (by omega), at8_at _ _ _ _ _ _ (Nat.le_refl _)]
      have fy := hB.free (p + 4)
      have S0 := hB.store (p + 4) (D (p + 4) + ac n s (fun i => D (p + i)) 4)
      rw [c8_set (at8 p n s D 4) (adT p n s D) (p + 4) _ (by omega) (fun j hj => by unfold adT; by_cases e : j = p + 4 <;> simp [e])] at S0
      have S1 := hR.of_block (w' := wr.setCell ⟨w.heap.size, p + 4, none⟩ (.int .u64 (D (p + 4) + ac n s (fun i => D (p + i)) 4))) (heap_setCell_other _ ⟨w.heap.size, p + 4, none⟩ _ _ (by show w.heap.size + 1 + 1 ≠ w.heap.size; omega))
      have S2 : Below w.heap.size w (wr.setCell ⟨w.heap.size, p + 4, none⟩ (.int .u64 (D (p + 4) + ac n s (fun i => D (p + i)) 4))) := hN.setCell (Nat.le_refl _) _
      have kk : IntKind.i64.wrap ((p : Int) + 4) = (p : Int) + 4 := by rw [IntKind.wrap_i64]; omega
      have kl : (p : Int) + 4 < 8 := by omega
      have k0 : (0 : Int) ≤ (p : Int) + 4 := by omega
      have kt : ((p : Int) + 4).toNat = p + 4 := by omega
      obtain ⟨f, hf⟩ : ∃ f, f = adT p n s D := ⟨_, rfl⟩
      have HF : Hid (f = adT p n s D) := hf
      rw [← hf] at S0
      clear hf
      generalize ac n s (fun i => D (p + i)) 4 = c at *
      generalize D (p + 4) = dv at *
      have ww : IntKind.u64.wrap (dv + c) = dv + c := by rw [IntKind.wrap_u64]; omega
      obtain ⟨⟨p0, p1, p2, p3, p4, p5, p6, p7⟩, _⟩ := S0.f8O
      obtain ⟨⟨r0, r1, r2, r3, r4, r5, r6, r7⟩, ⟨g0, g1, g2, g3, g4, g5, g6, g7⟩⟩ := S1.f8O
      clear hB hR hN S0 S1 hac
      go_wp2
      refine bodyPost_ret (v := ag8O f) (by simp [ag8O, results, Tryz.results109, go_sem, r0, r1, r2, r3, r4, r5, r6, r7]) rfl ⟨by rw [HF.out]; rfl, ?_⟩
      exact below_set8O S2 (by omega) _ _ _ _ _ _ _ _
end Go.Proofs.YthonlkghkdjagaaGreatDoor
namespace Go.Proofs.YthonlkghkdjagaaGreatDoor
set_option maxRecDepth 100000
open Go.RowKit
def At8 (f : Nat → Int) (ys : List Int) : Prop := ys.length = 8 ∧ ∀ j, j < 8 → ys.getD j 0 = f j
theorem At8.all {f : Nat → Int} {ys : List Int} (h : At8 f ys) : ys = c8 f := by
  refine eq_of_getD (by rw [h.1]; rfl) (fun i hi => ?_)
  rw [h.1] at hi
  rw [h.2 i hi, c8_get f i hi]
theorem At8.wv {a : Nat → Int} {k : Nat} {ys : List Int} (h : At8 (wv a k) ys) (v : Int) (hv : v = Go.Proofs.YthonlkghkdjagaaGreatDoor.wv a k (k / 8) + a k * 256 ^ (k % 8)) : At8 (Go.Proofs.YthonlkghkdjagaaGreatDoor.wv a (k + 1)) (ys.set (k / 8) v) := by
  refine ⟨by simpa using h.1, fun j hj => ?_⟩
  rw [Go.Proofs.YthonlkghkdjagaaGreatDoor.wv]
  by_cases e : k / 8 = j
  · subst e
    rw [getD_set_self _ _ _ (by rw [h.1]; exact hj), if_pos rfl, hv]
  · rw [getD_set_ne _ _ _ _ e, if_neg e, h.2 j hj]; omega
theorem At8.zero (a : Nat → Int) : At8 (Go.Proofs.YthonlkghkdjagaaGreatDoor.wv a 0) [0, 0, 0, 0, 0, 0, 0, 0] := by
  refine ⟨rfl, fun j hj => ?_⟩
  obtain rfl | rfl | rfl | rfl | rfl | rfl | rfl | rfl : j = 0 ∨ j = 1 ∨ j = 2 ∨ j = 3 ∨ j = 4 ∨ j = 5 ∨ j = 6 ∨ j = 7 := by omega
  all_goals rfl
set_option maxHeartbeats 4000000 in
set_option maxRecDepth 100000 in
theorem readDouble_any (w : World) (g : Nat) (a : Option Addr) (cap : Nat) (xs : List Int) (hr : Rd w g a .u8 xs) (hb : Byt xs) (hl : xs.length ≤ 64) (h0 : 0 < xs.length) :
    Calls Tryz.prog 107 #[.slice a xs.length cap] w fun e w' => e = .returned (ag8O (wv (fun j => xs.getD j 0) xs.length)) ∧ Below w.heap.size w w' := by
  obtain ⟨off, rfl, hc⟩ := hr h0
  have hg := hr.lt h0
  have hA : Bt (fun j => xs.getD j 0) := hb
  have B0 := (blk_box8 w .u64 85 0 0 0 0 0 0 0 0).up ((Below.refl _ _).alloc (Nat.le_refl _) (.cells #[.int .u64 0, .int .u64 0, .int .u64 0, .int .u64 0, .int .u64 0, .int .u64 0, .int .u64 0, .int .u64 0] 85))
  have B1 : Blk ((w.alloc (.cells #[.int .u64 0, .int .u64 0, .int .u64 0, .int .u64 0, .int .u64 0, .int .u64 0, .int .u64 0, .int .u64 0] 85)).alloc (.cells #[.int .u64 0, .int .u64 0, .int .u64 0, .int .u64 0, .int .u64 0, .int .u64 0, .int .u64 0, .int .u64 0] 85)) (w.heap.size + 1) .u64 [0, 0, 0, 0, 0, 0, 0, 0] := by
    have := blk_box8 (w.alloc (.cells #[.int .u64 0, .int .u64 0, .int .u64 0, .int .u64 0, .int .u64 0, .int .u64 0, .int .u64 0, .int .u64 0] 85)) .u64 85 0 0 0 0 0 0 0 0
    simpa using this
  have N0 : Below w.heap.size w ((w.alloc (.cells #[.int .u64 0, .int .u64 0, .int .u64 0, .int .u64 0, .int .u64 0, .int .u64 0, .int .u64 0, .int .u64 0] 85)).alloc (.cells #[.int .u64 0, .int .u64 0, .int .u64 0, .int .u64 0, .int .u64 0, .int .u64 0, .int .u64 0, .int .u64 0] 85)) :=
    ((Below.refl _ _).alloc (Nat.le_refl _) _).alloc (by simp) _
  go_enter Tryz.func107, Tryz.ntmps107
  go_wp2
  generalize ((w.alloc (.cells #[.int .u64 0, .int .u64 0, .int .u64 0, .int .u64 0, .int .u64 0, .int .u64 0, .int .u64 0, .int .u64 0] 85)).alloc (.cells #[.int .u64 0, .int .u64 0, .int .u64 0, .int .u64 0, .int .u64 0, .int .u64 0, .int .u64 0, .int .u64 0] 85)) = wa at *
  go_loopw [8] (fun i wr => ∃ (k : Nat) (ys : List Int), k ≤ xs.length ∧ i = .int .i64 k ∧ At8 (wv (fun j => xs.getD j 0) k) ys ∧ Blk wr w.heap.size .u64 [0, 0, 0, 0, 0, 0, 0, 0] ∧ Blk wr (w.heap.size + 1) .u64 ys ∧ Below w.heap.size w wr) (fun i _ => xs.length - (intOf i).toNat)
  case atStart => exact ⟨0, _, by omega, rfl, At8.zero _, B0, B1, N0⟩
  case round =>
    clear B0 B1 N0
    obtain ⟨k, ys, hk, rfl, hcp, hB0, hB, hN⟩ := hrel
    by_cases hlt : k < xs.length
    · have hsm := wv_cur hA k
      have hst : ∀ v, v = wv (fun j => xs.getD j 0) k (k / 8) + xs.getD k 0 * 256 ^ (k % 8) → At8 (wv (fun j => xs.getD j 0) (k + 1)) (ys.set (k / 8) v) := fun v hv => hcp.wv v hv
      obtain ⟨q, hq⟩ : ∃ q : Nat, k / 8 = q := ⟨_, rfl⟩
      rw [hq] at hsm hst
      have hq4 : q < 8 := by omega
      have hz := (wv_lt hA k q)
      have hcx : wr.cell? ⟨g, off + k, none⟩ = some (.int .u8 (xs.getD k 0)) := (hN.cell (p := ⟨g, off + k, none⟩) hg).trans (hc k hlt)
      have hcy : wr.cell? ⟨w.heap.size + 1, q, none⟩ = some (.int .u64 (wv (fun j => xs.getD j 0) k q)) := by rw [hB.cell (by rw [hcp.1]; exact hq4), hcp.2 q hq4]
      have hfy := hB.free q
      have hd := hb k
      have q1 : (k : Int) / 8 = (q : Int) := by omega
      have q2 : (q : Int) < 8 := by omega
      have k2 : (k : Int) < (xs.length : Int) := by omega
      have hSt := fun v => hB.store q v
      have hS0 := fun v => hB0.of_block (w' := wr.setCell ⟨w.heap.size + 1, q, none⟩ (.int .u64 v)) (heap_setCell_other wr ⟨w.heap.size + 1, q, none⟩ w.heap.size _ (by show w.heap.size ≠ w.heap.size + 1; omega))
      have hSn : ∀ v, Below w.heap.size w (wr.setCell ⟨w.heap.size + 1, q, none⟩ v) := fun v => hN.setCell (by show w.heap.size ≤ w.heap.size + 1; omega) v
      generalize xs.getD k 0 = x at *
      generalize wv (fun j => xs.getD j 0) k q = z at *
      clear hc hcp hB0 hB hN hb hr hA hg
      rcases (show k % 8 = 0 ∨ k % 8 = 1 ∨ k % 8 = 2 ∨ k % 8 = 3 ∨ k % 8 = 4 ∨ k % 8 = 5 ∨ k % 8 = 6 ∨ k % 8 = 7 by omega) with h4 | h4 | h4 | h4 | h4 | h4 | h4 | h4
      · have r1 : (k : Int) % 8 = 0 := by omega
        rw [h4] at hsm hst
        have e := or64 z x 0 1 (by decide) hz.1 (by simpa using hsm) hd.1 (by omega) (by decide)
        simp only [Int.natCast_one, Int.mul_one] at e
        have e' : bits BinOp.or IntKind.u64 z x = z + x := e
        have R := hst (bits BinOp.or IntKind.u64 z x) (by rw [e']; simp)
        have S := hSt (bits BinOp.or IntKind.u64 z x)
        have S0 := hS0 (bits BinOp.or IntKind.u64 z x)
        clear hst hSt hS0 e hsm e'
        go_wp2
        go_region
        go_wp2
        go_roundw
        case rel => exact ⟨k + 1, _, by omega, by go_num, R, S0.drew, S.drew, (hSn _).drew⟩
        case measure => simp [intOf]; omega
      · have r1 : (k : Int) % 8 = 1 := by omega
        rw [h4] at hsm hst
        have e := or64 z x 8 256 (by decide) hz.1 (by simpa using hsm) hd.1 (by omega) (by decide)
        have e' : bits BinOp.or IntKind.u64 z (x * 256) = z + x * 256 := e
        have R := hst (bits BinOp.or IntKind.u64 z (x * 256)) (by rw [e']; simp)
        have S := hSt (bits BinOp.or IntKind.u64 z (x * 256))
        have S0 := hS0 (bits BinOp.or IntKind.u64 z (x * 256))
        clear hst hSt hS0 e hsm e'
        go_wp2
        go_region
        go_wp2
        go_roundw
        case rel => exact ⟨k + 1, _, by omega, by go_num, R, S0.drew, S.drew, (hSn _).drew⟩
        case measure => simp [intOf]; omega
      · have r1 : (k : Int) % 8 = 2 := by omega
        rw [h4] at hsm hst
        have e := or64 z x 16 65536 (by decide) hz.1 (by simpa using hsm) hd.1 (by omega) (by decide)
        have e' : bits BinOp.or IntKind.u64 z (x * 65536) = z + x * 65536 := e
        have R := hst (bits BinOp.or IntKind.u64 z (x * 65536)) (by rw [e']; simp)
        have S := hSt (bits BinOp.or IntKind.u64 z (x * 65536))
        have S0 := hS0 (bits BinOp.or IntKind.u64 z (x * 65536))
        clear hst hSt hS0 e hsm e'
        go_wp2
        go_region
        go_wp2
        go_roundw
        case rel => exact ⟨k + 1, _, by omega, by go_num, R, S0.drew, S.drew, (hSn _).drew⟩
        case measure => simp [intOf]; omega
      · have r1 : (k : Int) % 8 = 3 := by omega
        rw [h4] at hsm hst
        have e := or64 z x 24 16777216 (by decide) hz.1 (by simpa using hsm) hd.1 (by omega) (by decide)
        have e' : bits BinOp.or IntKind.u64 z (x * 16777216) = z + x * 16777216 := e
        have R := hst (bits BinOp.or IntKind.u64 z (x * 16777216)) (by rw [e']; simp)
        have S := hSt (bits BinOp.or IntKind.u64 z (x * 16777216))
        have S0 := hS0 (bits BinOp.or IntKind.u64 z (x * 16777216))
        clear hst hSt hS0 e hsm e'
        go_wp2
        go_region
        go_wp2
        go_roundw
        case rel => exact ⟨k + 1, _, by omega, by go_num, R, S0.drew, S.drew, (hSn _).drew⟩
        case measure => simp [intOf]; omega
      · have r1 : (k : Int) % 8 = 4 := by omega
        rw [h4] at hsm hst
        have e := or64 z x 32 4294967296 (by decide) hz.1 (by simpa using hsm) hd.1 (by omega) (by decide)
        have e' : bits BinOp.or IntKind.u64 z (x * 4294967296) = z + x * 4294967296 := e
        have R := hst (bits BinOp.or IntKind.u64 z (x * 4294967296)) (by rw [e']; simp)
        have S := hSt (bits BinOp.or IntKind.u64 z (x * 4294967296))
        have S0 := hS0 (bits BinOp.or IntKind.u64 z (x * 4294967296))
        clear hst hSt hS0 e hsm e'
        go_wp2
        go_region
        go_wp2
        go_roundw
        case rel => exact ⟨k + 1, _, by omega, by go_num, R, S0.drew, S.drew, (hSn _).drew⟩
        case measure => simp [intOf]; omega
      · have r1 : (k : Int) % 8 = 5 := by omega
        rw [h4] at hsm hst
        have e := or64 z x 40 1099511627776 (by decide) hz.1 (by simpa using hsm) hd.1 (by omega) (by decide)
        have e' : bits BinOp.or IntKind.u64 z (x * 1099511627776) = z + x * 1099511627776 := e
        have R := hst (bits BinOp.or IntKind.u64 z (x * 1099511627776)) (by rw [e']; simp)
        have S := hSt (bits BinOp.or IntKind.u64 z (x * 1099511627776))
        have S0 := hS0 (bits BinOp.or IntKind.u64 z (x * 1099511627776))
        clear hst hSt hS0 e hsm e'
        go_wp2
        go_region
        go_wp2
        go_roundw
        case rel => exact ⟨k + 1, _, by omega, by go_num, R, S0.drew, S.drew, (hSn _).drew⟩
        case measure => simp [intOf]; omega
      · have r1 : (k : Int) % 8 = 6 := by omega
        rw [h4] at hsm hst
        have e := or64 z x 48 281474976710656 (by decide) hz.1 (by simpa using hsm) hd.1 (by omega) (by decide)
        have e' : bits BinOp.or IntKind.u64 z (x * 281474976710656) = z + x * 281474976710656 := e
        have R := hst (bits BinOp.or IntKind.u64 z (x * 281474976710656)) (by rw [e']; simp)
        have S := hSt (bits BinOp.or IntKind.u64 z (x * 281474976710656))
        have S0 := hS0 (bits BinOp.or IntKind.u64 z (x * 281474976710656))
        clear hst hSt hS0 e hsm e'
        go_wp2
        go_region
        go_wp2
        go_roundw
        case rel => exact ⟨k + 1, _, by omega, by go_num, R, S0.drew, S.drew, (hSn _).drew⟩
        case measure => simp [intOf]; omega
      · have r1 : (k : Int) % 8 = 7 := by omega
        rw [h4] at hsm hst
        have e := or64 z x 56 72057594037927936 (by decide) hz.1 (by simpa using hsm) hd.1 (by omega) (by decide)
        have e' : bits BinOp.or IntKind.u64 z (x * 72057594037927936) = z + x * 72057594037927936 := e
        have R := hst (bits BinOp.or IntKind.u64 z (x * 72057594037927936)) (by rw [e']; simp)
        have S := hSt (bits BinOp.or IntKind.u64 z (x * 72057594037927936))
        have S0 := hS0 (bits BinOp.or IntKind.u64 z (x * 72057594037927936))
        clear hst hSt hS0 e hsm e'
        go_wp2
        go_region
        go_wp2
        go_roundw
        case rel => exact ⟨k + 1, _, by omega, by go_num, R, S0.drew, S.drew, (hSn _).drew⟩
        case measure => simp [intOf]; omega
    · obtain rfl : k = xs.length := by omega
      have hY := hcp.all
      subst hY
      obtain ⟨f, hf⟩ : ∃ f, f = wv (fun j => xs.getD j 0) xs.length := ⟨_, rfl⟩
      have HF : Hid (f = wv (fun j => xs.getD j 0) xs.length) := hf
      rw [← hf] at hB
      obtain ⟨⟨p0, p1, p2, p3, p4, p5, p6, p7⟩, _⟩ := hB.f8O
      obtain ⟨⟨r0, r1, r2, r3, r4, r5, r6, r7⟩, ⟨g0, g1, g2, g3, g4, g5, g6, g7⟩⟩ := hB0.f8O
      clear hf hcp
      go_wp2
      refine bodyPost_ret (v := ag8O f) (by simp [ag8O, results, Tryz.results107, go_sem, r0, r1, r2, r3, r4, r5, r6, r7]) rfl ⟨by rw [HF.out], ?_⟩
      exact below_set8O hN (Nat.le_refl _) _ _ _ _ _ _ _ _
end Go.Proofs.YthonlkghkdjagaaGreatDoor
namespace Go.Proofs.YthonlkghkdjagaaGreatDoor
set_option maxRecDepth 100000
open Go.RowKit
theorem bval_lt32 {ys : List Int} (h : Byt ys) (hl : ys.length ≤ 32) : bval ys < 115792089237316195423570985008687907853269984665640564039457584007913129639936 := by
  have h1 := (lo_bd h 32).2
  rw [lo_all ys 32 hl] at h1
  have h2 : (256 : Int) ^ 32 = 115792089237316195423570985008687907853269984665640564039457584007913129639936 := by decide
  omega
theorem mul_lt64 {x y : Int} (hx : x < 115792089237316195423570985008687907853269984665640564039457584007913129639936) (hy : y < 115792089237316195423570985008687907853269984665640564039457584007913129639936) (x0 : 0 ≤ x) (y0 : 0 ≤ y) : x * y < 256 ^ 64 := by
  have h1 : x * y ≤ 115792089237316195423570985008687907853269984665640564039457584007913129639935 * 115792089237316195423570985008687907853269984665640564039457584007913129639935 := Int.mul_le_mul (by omega) (by omega) y0 (by decide)
  have h2 : (115792089237316195423570985008687907853269984665640564039457584007913129639935 : Int) * 115792089237316195423570985008687907853269984665640564039457584007913129639935 < 256 ^ 64 := by decide
  omega
end Go.Proofs.YthonlkghkdjagaaGreatDoor
namespace Go.Proofs.YthonlkghkdjagaaGreatDoor
set_option maxRecDepth 100000
open Go.RowKit
theorem qtxt : Txt ⟨#[50, 55, 55, 52, 50, 51, 49, 55, 55, 55, 55, 51, 55, 50, 51, 53, 51, 53, 51, 53, 56, 53, 49, 57, 51, 55, 55, 57, 48, 56, 56, 51, 54, 52, 56, 52, 57, 51]⟩ qdec := by
  refine ⟨by decide, fun k hk => ?_⟩
  have : ∀ k : Fin 38, ∃ b : UInt8, (⟨#[50, 55, 55, 52, 50, 51, 49, 55, 55, 55, 55, 51, 55, 50, 51, 53, 51, 53, 51, 53, 56, 53, 49, 57, 51, 55, 55, 57, 48, 56, 56, 51, 54, 52, 56, 52, 57, 51]⟩ : ByteArray)[k.1]? = some b ∧ (b.toNat : Int) = qdec.getD k.1 0 + 48 := by
    intro k
    refine ⟨UInt8.ofNat (qdec.getD k.1 0 + 48).toNat, ?_, ?_⟩
    · revert k; decide
    · revert k; decide
  exact this ⟨k, hk⟩
set_option maxHeartbeats 1000000 in
theorem l3Order_any (w : World) :
    Calls Tryz.prog 85 #[] w fun e w' => ∃ ys, Canon ys QQ ∧ NewRow w.heap.size w' e .u8 ys ∧ Below w.heap.size w w' := by
  have n0 : Below w.heap.size w (w.alloc (.cells #[.int .u8 1] 5)) := (Below.refl _ _).alloc (Nat.le_refl _) _
  have B0 := one_a w 1
  have D := fun W => l1Decimal_any W _ qtxt
  have b1 : Byt [1] := byt_one (by omega) (by omega)
  have e1 : Hid (bval [1] = 1) := by show _ = _; decide
  go_enter Tryz.func85, Tryz.ntmps85
  go_wp2_with fail
  generalize w.alloc (.cells #[.int .u8 1] 5) = wa at *
  refine (l1Shift252_any wa _ _ 1 [1] B0.own0.rd b1 (by simp) (by simp)).mono ?_
  rintro e w1 ⟨xs, C1, ⟨a1, c1, g1, rfl, o1, p1, q1, r1⟩, n1⟩
  have N1 := nxt n0 n1
  go_wp2_with fail
  refine (D w1).mono ?_
  rintro e w2 ⟨us, C2, ⟨a2, c2, g2, rfl, o2, p2, q2, r2⟩, n2⟩
  have N2 := nxt N1 n2
  rw [e1.out, Int.one_mul] at C1
  have L1 : xs.length ≤ 64 := C1.len (by decide)
  have L2 : us.length ≤ 64 := C2.len (by decide)
  go_wp2_with fail
  refine (l1Add_any w2 g1 g2 a1 a2 c1 c2 xs us (o1.up n2).rd o2.rd C1.1 C2.1 (by omega) (by omega)).mono ?_
  rintro e w3 ⟨ys, C3, ⟨a3, c3, g3, rfl, o3, p3, q3, r3⟩, n3⟩
  have N3 := nxt N2 n3
  have z := N2.size
  rw [C1.2.1, C2.2.1] at C3
  have C4 : Canon ys QQ := C3
  clear C1 C2 C3
  go_wp2
  go_ret
  exact ⟨ys, C4, ⟨a3, c3, g3, rfl, o3, p3, q3, by omega⟩, N3⟩
theorem canon_q {ys : List Int} (C : Canon ys QQ) : ys.length ≤ 32 := C.len (by decide)
theorem q_pos {ys : List Int} (C : Canon ys QQ) : 0 < bval ys := by rw [C.2.1]; decide
theorem tell_q {zs : List Int} (C : Byt zs) (v : Int) (h : bval zs = v) : fill (dig zs) 32 = fill (byt v) 32 :=
  fill_congr (fun i _ => by rw [dig_of C, h])
def ored (xs : List Int) : List Int := if 1 ≤ xs.length ∧ xs.length ≤ 64 then fill (byt (num xs % QQ)) 32 else []
set_option maxHeartbeats 2000000 in
theorem specOrderReduce_any (w : World) (g : Nat) (a : Option Addr) (c : Nat) (xs : List Int) (hr : Rd w g a .u8 xs) (hb : Byt xs) :
    Calls Tryz.prog 51 #[.slice a xs.length c] w fun e w' => NewRow w.heap.size w' e .u8 (ored xs) ∧ Below w.heap.size w w' := by
  by_cases h : 1 ≤ xs.length ∧ xs.length ≤ 64
  · have R1 := l2Num_any w g a c xs hr hb (by omega)
    have K : Hid (ored xs = fill (byt (num xs % QQ)) 32) := by show _ = _; rw [ored, if_pos h]
    have t1 : decide ((xs.length : Int) < 1) = false := by simp; omega
    have t2 : decide ((64 : Int) < (xs.length : Int)) = false := by simp; omega
    have l64 : xs.length ≤ 64 := h.2
    clear h
    go_enter Tryz.func51, Tryz.ntmps51
    go_wp2_with fail
    refine R1.mono ?_
    rintro e w1 ⟨ys, C, l1, ⟨a1, c1, g1, rfl, o1, p1, p2, p3⟩, n1⟩
    go_wp2_with fail
    refine (l3Order_any w1).mono ?_
    rintro e w2 ⟨qs, C2, ⟨a2, c2, g2, rfl, o2, q1, q2, q3⟩, n2⟩
    have L2 := canon_q C2
    have N2 := nxt n1 n2
    go_wp2_with fail
    refine (l1Mod_any w2 g1 g2 a1 a2 c1 c2 ys qs (o1.up n2).rd o2.rd C.1 C2.1 q1 q2 (by omega) (by omega) (q_pos C2)).mono ?_
    rintro e w3 ⟨⟨zs, a3, c3, g3, rfl, o3, r1, r2, r3, C3⟩, n3⟩
    have N3 := nxt N2 n3
    have V : Hid (fill (dig zs) 32 = ored xs) := by
      show _ = _
      rw [K.out]
      exact tell_q C3.1 _ (by rw [C3.2.1, C2.2.1, C.2.1])
    have L3 : zs.length ≤ 32 := C3.len (by
      rw [C2.2.1]
      exact Int.lt_trans (Int.emod_lt_of_pos _ (by decide)) (by decide))
    go_wp2_with fail
    refine (l1Little_any w3 g3 a3 c3 zs 32 o3.rd C3.1 (by omega) (by omega)).mono ?_
    rintro e w4 ⟨rfl, B4, n4⟩
    rw [V.out] at B4
    have N4 := nxt N3 n4
    have z := N3.size
    have lo : (ored xs).length = 32 := by rw [K.out, fill_len]
    have LO := hide lo
    clear lo C C2 C3
    go_wp2
    go_ret
    exact ⟨⟨_, 32, w3.heap.size, by rw [LO.out]; rfl, B4.own0, by simp, by rw [LO.out]; omega, z⟩, N4⟩
  · have K : Hid (ored xs = []) := by show _ = _; rw [ored, if_neg h]
    have hal : Below w.heap.size w (w.alloc (.cells #[] 5)) := (Below.refl _ _).alloc (Nat.le_refl _) _
    by_cases h1 : xs.length < 1
    · have t1 : decide ((xs.length : Int) < 1) = true := by simp; omega
      clear h h1
      go_enter Tryz.func51, Tryz.ntmps51
      go_wp2
      go_ret
      rw [K.out]
      exact ⟨newRow_lit _ _, hal⟩
    · have t1 : decide ((xs.length : Int) < 1) = false := by simp; omega
      have t2 : decide ((64 : Int) < (xs.length : Int)) = true := by simp; omega
      clear h h1
      go_enter Tryz.func51, Tryz.ntmps51
      go_wp2
      go_ret
      rw [K.out]
      exact ⟨newRow_lit _ _, hal⟩
end Go.Proofs.YthonlkghkdjagaaGreatDoor
namespace Go.Proofs.YthonlkghkdjagaaGreatDoor
set_option maxRecDepth 100000
open Go.RowKit
set_option maxHeartbeats 4000000 in
theorem scalarReduce_any (w : World) (s : Nat → Int) (hs : W4 s) (hQ : HasW w 0 qw 4) :
    Calls Tryz.prog 34 #[ag4 s] w fun r w' => r = .returned (ag4 (rdS s)) ∧ Below w.heap.size w w' := by
  have h3 := hs 3 (by omega)
  have n0 : Below w.heap.size w (w.alloc (.cells #[.int .u64 (s 0), .int .u64 (s 1), .int .u64 (s 2), .int .u64 (s 3)] 44)) := (Below.refl _ _).alloc (Nat.le_refl _) _
  have n1 : Below w.heap.size w ((w.alloc (.cells #[.int .u64 (s 0), .int .u64 (s 1), .int .u64 (s 2), .int .u64 (s 3)] 44)).alloc (.cells #[.int .u64 0, .int .u64 0, .int .u64 0, .int .u64 0] 44)) := n0.alloc (by simp) _
  have B1 : Blk ((w.alloc (.cells #[.int .u64 (s 0), .int .u64 (s 1), .int .u64 (s 2), .int .u64 (s 3)] 44)).alloc (.cells #[.int .u64 0, .int .u64 0, .int .u64 0, .int .u64 0] 44)) (w.heap.size + 1) .u64 [0, 0, 0, 0] := by
    have := blk_box4 (w.alloc (.cells #[.int .u64 (s 0), .int .u64 (s 1), .int .u64 (s 2), .int .u64 (s 3)] 44)) .u64 44 0 0 0 0
    simpa using this
  have LT := fun W (h : Below w.heap.size w W) => lessTimes_any W s qw (s 3 / 1152921504606846976) (by omega) hs qw_W4 (hQ.up h)
  have E : Hid (lsT (s 3 / 1152921504606846976) s qw = rdS s) := rfl
  obtain ⟨q0, q1, q2, q3⟩ := (hQ.up n1).f4
  obtain ⟨q, hq⟩ : ∃ q, q = qw := ⟨_, rfl⟩
  rw [← hq] at q0 q1 q2 q3 LT E
  clear hQ hq
  simp only [ag4] at LT ⊢
  go_enter Tryz.func34, Tryz.ntmps34
  go_wp2_with fail
  refine (LT _ n1).mono ?_
  rintro r w2 ⟨rfl, n2⟩
  have N2 := nxt n1 n2
  have B2 := B1.up n2
  generalize lsT (s 3 / 1152921504606846976) s q = f at *
  obtain ⟨⟨r0, r1, r2, r3⟩, ⟨g0, g1, g2, g3⟩⟩ := B2.f4
  clear B1 n0 n1 LT q0 q1 q2 q3
  go_wp2
  refine bodyPost_ret (v := ag4 f) (by simp [ag4, results, Tryz.results34, go_sem, r0, r1, r2, r3]) rfl ⟨by rw [E.out]; rfl, ?_⟩
  exact below_set4 N2 (by omega) _ _ _ _
end Go.Proofs.YthonlkghkdjagaaGreatDoor
namespace Go.Proofs.YthonlkghkdjagaaGreatDoor
set_option maxRecDepth 100000
open Go.RowKit
theorem gOg : Tryz.prog.globalNamed "loop.example/g00004/impl.orderOfGroup" = some 0 := by kernel_rfl
theorem tOg : (Tryz.prog.globals[0]?).map (·.type) = some 44 := by kernel_rfl
theorem gOs : Tryz.prog.globalNamed "loop.example/g00004/impl.orderSixteenfold" = some 4 := by kernel_rfl
theorem tOs : (Tryz.prog.globals[4]?).map (·.type) = some 44 := by kernel_rfl
theorem gOf : Tryz.prog.globalNamed "loop.example/g00004/impl.orderFolds" = some 3 := by kernel_rfl
theorem tOf : (Tryz.prog.globals[3]?).map (·.type) = some 144 := by kernel_rfl
theorem uSc : Tryz.prog.underlying 44 = some (.array 4 42) := by kernel_rfl
theorem uOf : Tryz.prog.underlying 144 = some (.array 4 44) := by kernel_rfl
theorem cSc : Tryz.prog.cellsOf 44 = 4 := by kernel_rfl
theorem cW : Tryz.prog.cellsOf 42 = 1 := by kernel_rfl
theorem four_of_reads {W : World} {n : String} {g : Nat} {x y z u : Int} (hn : Tryz.prog.globalNamed n = some g) (ht : (Tryz.prog.globals[g]?).map (·.type) = some 44)
    (h : Lib.VarReads Tryz.prog W n (.agg [.lit (.int .u64 x), .lit (.int .u64 y), .lit (.int .u64 z), .lit (.int .u64 u)])) (f : Nat → Int) (hf : f 0 = x ∧ f 1 = y ∧ f 2 = z ∧ f 3 = u) : HasW W g f 4 := by
  obtain ⟨g', t, cs, fuel, p, hg, ht', hv, hd⟩ := h
  obtain rfl := Option.some.inj (hn.symm.trans hg)
  obtain rfl := Option.some.inj (ht.symm.trans ht')
  have hcs := Lib.cells_of_tab (zs := [x, y, z, u]) uSc Tryz.underlying42 cW cSc hd
  obtain ⟨rfl, rfl, rfl, rfl⟩ := hf
  intro k hk
  rw [World.var?_cell hg hv k]
  obtain ⟨l⟩ := cs
  simp only at hcs
  subst hcs
  obtain rfl | rfl | rfl | rfl : k = 0 ∨ k = 1 ∨ k = 2 ∨ k = 3 := by omega
  all_goals rfl
theorem folds_of_reads {W : World} (h : Lib.VarReads Tryz.prog W "loop.example/g00004/impl.orderFolds" Rows.laid_loop_example_g00004_impl_orderFolds) : HasW W 3 (fun k => fw (k / 4) (k % 4)) 16 := by
  obtain ⟨g, t, cs, fuel, p, hg, ht, hv, hd⟩ := h
  obtain rfl := Option.some.inj (gOf.symm.trans hg)
  obtain rfl := Option.some.inj (tOf.symm.trans ht)
  have key : ∀ j, j < 4 → (cs.toList.drop (j * 4)).take 4 = [.int .u64 (fw j 0), .int .u64 (fw j 1), .int .u64 (fw j 2), .int .u64 (fw j 3)] := by
    intro j hj
    obtain ⟨f', d, q, h1, h2⟩ := Lib.array_elem uOf hd j hj
    rw [cSc] at h2
    obtain rfl | rfl | rfl | rfl : j = 0 ∨ j = 1 ∨ j = 2 ∨ j = 3 := by omega
    all_goals
      cases h1
      exact Lib.cells_of_tab (zs := [_, _, _, _]) uSc Tryz.underlying42 cW cSc h2
  intro i hi
  rw [World.var?_cell hg hv i]
  have k := key (i / 4) (by omega)
  have e : cs[i]? = ((cs.toList.drop (i / 4 * 4)).take 4)[i % 4]? := by
    rw [List.getElem?_take, if_pos (by omega), List.getElem?_drop, show i / 4 * 4 + i % 4 = i by omega]
    simp
  rw [e, k]
  show _ = some (Value.int .u64 (fw (i / 4) (i % 4)))
  rcases (show i % 4 = 0 ∨ i % 4 = 1 ∨ i % 4 = 2 ∨ i % 4 = 3 by omega) with r | r | r | r
  all_goals
    rw [r]
    rfl
theorem reads_ofq {l : List (String × DataW Unit)} {W : World} (h : laidMetH Tryz.prog l W) (hp : (l.all fun x => x.2.handleName?.isNone) = true) {n : String} {d : DataW Unit} (hm : (n, d) ∈ l) : Lib.VarReads Tryz.prog W n d := by
  rw [MakeChecks.laidMetH_plain _ _ _ hp] at h
  exact Lib.laidMet.reads h hm
theorem q_of_reads {W : World} (h : Lib.VarReads Tryz.prog W "loop.example/g00004/impl.orderOfGroup" Rows.laid_loop_example_g00004_impl_orderOfGroup) : HasW W 0 qw 4 := four_of_reads gOg tOg h qw ⟨rfl, rfl, rfl, rfl⟩
theorem s_of_reads {W : World} (h : Lib.VarReads Tryz.prog W "loop.example/g00004/impl.orderSixteenfold" Rows.laid_loop_example_g00004_impl_orderSixteenfold) : HasW W 4 q16 4 := four_of_reads gOs tOs h q16 ⟨rfl, rfl, rfl, rfl⟩
def HasO (W : World) : Prop := HasW W 0 qw 4 ∧ HasW W 4 q16 4 ∧ HasW W 3 (fun k => fw (k / 4) (k % 4)) 16
theorem HasO.up {W W' : World} (h : HasO W) (n : Below W.heap.size W W') : HasO W' := ⟨h.1.up n, h.2.1.up n, h.2.2.up n⟩
end Go.Proofs.YthonlkghkdjagaaGreatDoor
namespace Go.Proofs.YthonlkghkdjagaaGreatDoor
set_option maxRecDepth 100000
open Go.RowKit
def fdL : List Int := (List.range 16).map (fun k => fw (k / 4) (k % 4))
def fdA : Array Value := (fdL.map (Value.int .u64)).toArray
theorem u91 : Tryz.prog.underlying 144 = some (.array 4 44) := by kernel_rfl
theorem i91 : (Tryz.prog.info? 144).map (·.size) = some fdA.toList.length := by kernel_rfl
theorem fd_range {W : World} {g : Nat} (h : HasW W g (fun k => fw (k / 4) (k % 4)) 16) : W.rangeAt g 0 fdA.toList := by
  intro j v hv
  have hj : j < 16 := by
    have := (List.getElem?_eq_some_iff.1 hv).1
    simpa [fdA, fdL] using this
  have e : fdA.toList[j]? = some (Value.int .u64 (fw (j / 4) (j % 4))) := by
    simp [fdA, fdL, hj]
  rw [Nat.zero_add, h j hj, ← e]; exact hv
theorem fd_idx (k : Nat) (hk : k < 4) (W : World) : (Instr.index 144 (.agg fdA) (.int .i64 (k : Int))).run Tryz.prog W = .ok (.agg #[.int .u64 (fw k 0), .int .u64 (fw k 1), .int .u64 (fw k 2), .int .u64 (fw k 3)]) W := by
  obtain rfl | rfl | rfl | rfl : k = 0 ∨ k = 1 ∨ k = 2 ∨ k = 3 := by omega
  all_goals kernel_rfl
abbrev set8 (W : World) (q : Nat) (u : Nat → Int) : World :=
  (((((((W.setCell ⟨q, 0, none⟩ (.int .u64 (u 0))).setCell ⟨q, 1, none⟩ (.int .u64 (u 1))).setCell ⟨q, 2, none⟩ (.int .u64 (u 2))).setCell ⟨q, 3, none⟩ (.int .u64 (u 3))).setCell ⟨q, 4, none⟩ (.int .u64 (u 4))).setCell ⟨q, 5, none⟩ (.int .u64 (u 5))).setCell ⟨q, 6, none⟩ (.int .u64 (u 6))).setCell ⟨q, 7, none⟩ (.int .u64 (u 7))
theorem set8_same {W : World} {q : Nat} {a b c d e f g h : Int} (u : Nat → Int) (B : Blk W q .u64 [a, b, c, d, e, f, g, h]) : Blk (set8 W q u) q .u64 (c8 u) :=
  (((((((B.store 0 _).store 1 _).store 2 _).store 3 _).store 4 _).store 5 _).store 6 _).store 7 _
theorem blk_set {W : World} {g p i : Nat} {k : IntKind} {ys : List Int} {v : Value} (h : Blk W g k ys) (hne : g ≠ p) : Blk (W.setCell ⟨p, i, none⟩ v) g k ys := h.of_block (heap_setCell_other W ⟨p, i, none⟩ g v hne)
theorem set8_keep {W : World} {q g : Nat} {k : IntKind} {ys : List Int} {u : Nat → Int} (B : Blk W g k ys) (hne : g ≠ q) : Blk (set8 W q u) g k ys :=
  blk_set (blk_set (blk_set (blk_set (blk_set (blk_set (blk_set (blk_set B hne) hne) hne) hne) hne) hne) hne) hne
set_option maxHeartbeats 8000000 in
theorem doubleReduce_any (w : World) (D : Nat → Int) (hD : W8 D) (hO : HasO w) :
    Calls Tryz.prog 66 #[ag8O D] w fun r w' => r = .returned (ag4 (rdD D)) ∧ Below w.heap.size w w' := by
  obtain ⟨hov, hw8, _, _, _, _⟩ := fd_all hD
  have B0 := blk_box8 w .u64 85 (D 0) (D 1) (D 2) (D 3) (D 4) (D 5) (D 6) (D 7)
  have n0 : Below w.heap.size w (w.alloc (.cells #[.int .u64 (D 0), .int .u64 (D 1), .int .u64 (D 2), .int .u64 (D 3), .int .u64 (D 4), .int .u64 (D 5), .int .u64 (D 6), .int .u64 (D 7)] 85)) := (Below.refl _ _).alloc (Nat.le_refl _) _
  have s0 : (w.alloc (.cells #[.int .u64 (D 0), .int .u64 (D 1), .int .u64 (D 2), .int .u64 (D 3), .int .u64 (D 4), .int .u64 (D 5), .int .u64 (D 6), .int .u64 (D 7)] 85)).heap.size = w.heap.size + 1 := by simp
  simp only [ag8O]
  go_enter Tryz.func66, Tryz.ntmps66
  go_upto_region 1 with fail
  generalize w.alloc (.cells #[.int .u64 (D 0), .int .u64 (D 1), .int .u64 (D 2), .int .u64 (D 3), .int .u64 (D 4), .int .u64 (D 5), .int .u64 (D 6), .int .u64 (D 7)] 85) = wa at *
  have B1 := blk_box4 wa .u64 44 0 0 0 0
  have n1 : Below wa.heap.size wa (wa.alloc (.cells #[.int .u64 0, .int .u64 0, .int .u64 0, .int .u64 0] 44)) := (Below.refl _ _).alloc (Nat.le_refl _) _
  have s1 : (wa.alloc (.cells #[.int .u64 0, .int .u64 0, .int .u64 0, .int .u64 0] 44)).heap.size = w.heap.size + 1 + 1 := by simp [s0]
  generalize wa.alloc (.cells #[.int .u64 0, .int .u64 0, .int .u64 0, .int .u64 0] 44) = wb at *
  have B0' := (B0.up n1).f8O.1
  obtain ⟨p0, p1, p2, p3, _, _, _, _⟩ := B0'
  have B2 := blk_box8 wb .u64 85 (D 0) (D 1) (D 2) (D 3) 0 0 0 0
  have n2 : Below wb.heap.size wb (wb.alloc (.cells #[.int .u64 (D 0), .int .u64 (D 1), .int .u64 (D 2), .int .u64 (D 3), .int .u64 0, .int .u64 0, .int .u64 0, .int .u64 0] 85)) := (Below.refl _ _).alloc (Nat.le_refl _) _
  have hR := hide (fd_range (hO.2.2.up (nxt (nxt n0 n1) n2)))
  go_upto_region 2 with fail
  go_wp2_with (refine wpList_load_mid rfl 144 (Operand.global 3) rfl 3 0 rfl fdA.toList (.array 4 44) hR.out u91 rfl i91 ?_)
  clear hR
  generalize wb.alloc (.cells #[.int .u64 (D 0), .int .u64 (D 1), .int .u64 (D 2), .int .u64 (D 3), .int .u64 0, .int .u64 0, .int .u64 0, .int .u64 0] 85) = wc at *
  rw [s0] at B1
  rw [s1] at B2
  have E0 := (B0.up n1).up n2
  have E1 := B1.up n2
  have N := nxt (nxt n0 n1) n2
  have E2 : Blk wc (w.heap.size + 1 + 1) .u64 (c8 (fd D 0)) := B2
  clear B0 B1 B2 n0 n1 n2 s0 s1 p0 p1 p2 p3
  go_loopw [17] (fun i wr => ∃ k : Nat, k ≤ 4 ∧ i = .int .i64 k ∧ Blk wr w.heap.size .u64 (c8 D) ∧ Blk wr (w.heap.size + 1) .u64 [0, 0, 0, 0] ∧ Blk wr (w.heap.size + 1 + 1) .u64 (c8 (fd D k)) ∧ Below w.heap.size w wr) (fun i _ => 4 - (intOf i).toNat)
  case atStart => exact ⟨0, by omega, rfl, E0, E1, E2, N⟩
  case round =>
    clear E0 E1 E2 N
    obtain ⟨k, hk, rfl, hB, hR, hF, hN⟩ := hrel
    by_cases hlt : k < 4
    · have IX := fd_idx k hlt
      have dk := hD (4 + k) (by omega)
      have e1 : adT 0 (D (4 + k)) (fw k) (fd D k) = fd D (k + 1) := rfl
      have AT0 := fun W => addTimes_any W (fd D k) (fw k) 0 (D (4 + k)) (by omega) dk (fw_W4 k hlt) (hw8 k hk) (by simpa using hov k hlt)
      rw [e1] at AT0
      have cd0 : (c8 D).getD (4 + k) 0 = D (4 + k) := c8_get _ _ (by omega)
      have yl : (c8 D).length = 8 := rfl
      have T0 := blk_box4 wr .u64 44 (fw k 0) (fw k 1) (fw k 2) (fw k 3)
      have n0 : Below wr.heap.size wr (wr.alloc (.cells #[.int .u64 (fw k 0), .int .u64 (fw k 1), .int .u64 (fw k 2), .int .u64 (fw k 3)] 44)) := (Below.refl _ _).alloc (Nat.le_refl _) _
      have sn : (wr.alloc (.cells #[.int .u64 (fw k 0), .int .u64 (fw k 1), .int .u64 (fw k 2), .int .u64 (fw k 3)] 44)).heap.size = wr.heap.size + 1 := by simp
      have hB1 := hB.up n0
      have hR1 := hR.up n0
      have hF1 := hF.up n0
      have hN1 := nxt hN n0
      have ll := hF.lt
      clear hB hR hF hN
      generalize fw k = t at *
      obtain ⟨f, hf⟩ : ∃ f, f = fd D (k + 1) := ⟨_, rfl⟩
      have HF : Hid (f = fd D (k + 1)) := hf
      rw [← hf] at AT0
      clear hf e1
      generalize fd D k = F at *
      obtain ⟨yd, hyd⟩ : ∃ yd, yd = c8 D := ⟨_, rfl⟩
      have HYD : Hid (yd = c8 D) := hyd
      rw [← hyd] at hB1 cd0 yl
      generalize D (4 + k) = dv at *
      have k2 : (k : Int) < 4 := by omega
      go_upto_region 5 with fail
      generalize wr.alloc (.cells #[.int .u64 (t 0), .int .u64 (t 1), .int .u64 (t 2), .int .u64 (t 3)] 44) = wn at *
      obtain ⟨G, hG⟩ : ∃ G, G = wr.heap.size := ⟨_, rfl⟩
      rw [← hG] at T0 sn ll ⊢
      clear n0 hG hyd
      have kk : IntKind.i64.wrap (4 + (k : Int)) = 4 + (k : Int) := by rw [IntKind.wrap_i64]; omega
      have kl : (4 : Int) + (k : Int) < 8 := by omega
      have k0 : (0 : Int) ≤ 4 + (k : Int) := by omega
      have kt : ((4 : Int) + (k : Int)).toNat = 4 + k := by omega
      have SB : Hid (∀ W, Below wn.heap.size wn W → W.cell? ⟨w.heap.size, 4 + k, none⟩ = some (.int .u64 dv) ∧ W.cell? ⟨G, 0, none⟩ = some (.int .u64 (t 0)) ∧ W.cell? ⟨G, 1, none⟩ = some (.int .u64 (t 1)) ∧ W.cell? ⟨G, 2, none⟩ = some (.int .u64 (t 2)) ∧ W.cell? ⟨G, 3, none⟩ = some (.int .u64 (t 3))) := by
        intro W n
        obtain ⟨x0, x1, x2, x3⟩ := (T0.up n).f4.1
        exact ⟨by rw [(hB1.up n).cell (by omega), cd0], x0, x1, x2, x3⟩
      have SS : Hid (∀ W, Below wn.heap.size wn W → (fun W => W.cell? ⟨w.heap.size, 4 + k, none⟩ = some (.int .u64 dv) ∧ W.cell? ⟨G, 0, none⟩ = some (.int .u64 (t 0)) ∧ W.cell? ⟨G, 1, none⟩ = some (.int .u64 (t 1)) ∧ W.cell? ⟨G, 2, none⟩ = some (.int .u64 (t 2)) ∧ W.cell? ⟨G, 3, none⟩ = some (.int .u64 (t 3))) (set8 W (w.heap.size + 1 + 1) f)) := by
        intro W n
        obtain ⟨x0, x1, x2, x3⟩ := (set8_keep (q := w.heap.size + 1 + 1) (u := f) (T0.up n) (by omega)).f4.1
        exact ⟨by rw [(set8_keep (q := w.heap.size + 1 + 1) (u := f) (hB1.up n) (by omega)).cell (by omega), cd0], x0, x1, x2, x3⟩
      have AT : Hid (∀ W, Below wn.heap.size wn W → Calls Tryz.prog 109 #[.agg #[.int .u64 (F 0), .int .u64 (F 1), .int .u64 (F 2), .int .u64 (F 3), .int .u64 (F 4), .int .u64 (F 5), .int .u64 (F 6), .int .u64 (F 7)], .int .i64 0, .int .u64 dv, .agg #[.int .u64 (t 0), .int .u64 (t 1), .int .u64 (t 2), .int .u64 (t 3)]] W fun r w' => r = .returned (.agg #[.int .u64 (f 0), .int .u64 (f 1), .int .u64 (f 2), .int .u64 (f 3), .int .u64 (f 4), .int .u64 (f 5), .int .u64 (f 6), .int .u64 (f 7)]) ∧ Below wn.heap.size wn w') := by
        intro W n
        refine (AT0 W).mono ?_
        rintro r w' ⟨rfl, n'⟩
        exact ⟨rfl, nxt n n'⟩
      have FB : Hid (∀ W, Below wn.heap.size wn W → Blk W (w.heap.size + 1 + 1) .u64 [F 0, F 1, F 2, F 3, F 4, F 5, F 6, F 7]) := fun W n => hF1.up n
      have nd : Below wn.heap.size wn wn.drew := (Below.refl _ _).drew
      obtain ⟨⟨y0, y1, y2, y3, y4, y5, y6, y7⟩, _⟩ := ((unhide FB) wn (Below.refl _ _)).f8O
      clear AT0 IX T0
      obtain ⟨xd, x0, x1, x2, x3⟩ := (unhide SB) wn (Below.refl _ _)
      clear SB SS
      go_region_with
        (first
          | (go_at_call 109; refine ((unhide AT) _ nd).mono ?_; rintro r wm ⟨rfl, nm⟩; obtain ⟨⟨z0, z1, z2, z3, z4, z5, z6, z7⟩, ⟨g0, g1, g2, g3, g4, g5, g6, g7⟩⟩ := ((unhide FB) wm nm).f8O))
      all_goals
        have S0 := set8_keep (q := w.heap.size + 1 + 1) (u := f) (hB1.up nm) (by omega)
        have S1 := set8_keep (q := w.heap.size + 1 + 1) (u := f) (hR1.up nm) (by omega)
        have S2 := set8_same f ((unhide FB) wm nm)
        have S3 : Below w.heap.size w (set8 wm (w.heap.size + 1 + 1) f) := below_set8O (nxt hN1 nm) (by omega) _ _ _ _ _ _ _ _
        rw [HYD.out] at S0
        rw [HF.out] at S2
        have HS2 := hide S2
        clear AT FB nd hB1 hR1 hF1 hN1 y0 y1 y2 y3 y4 y5 y6 y7 z0 z1 z2 z3 z4 z5 z6 z7 g0 g1 g2 g3 g4 g5 g6 g7 S2 HYD cd0 yl xd x0 x1 x2 x3
        go_wp2
        go_roundw
        case rel => exact ⟨k + 1, by omega, by go_num, S0, S1, by rw [HF.out]; exact HS2.out, S3⟩
        case measure => simp [intOf]; omega
    · obtain rfl : k = 4 := by omega
      have w8 := hw8 4 (by omega)
      have LT0 := fun W (h : Below w.heap.size w W) => lessTimes_any W (fd D 4) q16 (fd D 4 4) (w8 4 (by omega)) (fun j hj => w8 j (by omega)) q16_W4 (hO.1.up h)
      have RD0 := fun W (h : Below w.heap.size w W) => scalarReduce_any W (lsT (fd D 4 4) (fd D 4) q16) (lsT_fd hD).1 (hO.1.up h)
      have HF : Hid (rdD D = rdS (lsT (fd D 4 4) (fd D 4) q16)) := rfl
      have T0 := blk_box4 wr .u64 44 (fd D 4 0) (fd D 4 1) (fd D 4 2) (fd D 4 3)
      have n0 : Below wr.heap.size wr (wr.alloc (.cells #[.int .u64 (fd D 4 0), .int .u64 (fd D 4 1), .int .u64 (fd D 4 2), .int .u64 (fd D 4 3)] 44)) := (Below.refl _ _).alloc (Nat.le_refl _) _
      have hN1 := nxt hN n0
      have hR1 := hR.up n0
      obtain ⟨⟨y0, y1, y2, y3, y4, _, _, _⟩, _⟩ := hF.f8O
      obtain ⟨⟨_, _, _, _, v4, _, _, _⟩, _⟩ := (hF.up n0).f8O
      obtain ⟨q0, q1, q2, q3⟩ := (hO.2.1.up hN1).f4
      generalize lsT (fd D 4 4) (fd D 4) q16 = l at *
      generalize fd D 4 = F at *
      obtain ⟨f, hf⟩ : ∃ f, f = rdS l := ⟨_, rfl⟩
      have HF2 : Hid (f = rdS l) := hf
      rw [← hf] at RD0
      obtain ⟨q, hq⟩ : ∃ q, q = q16 := ⟨_, rfl⟩
      rw [← hq] at LT0 q0 q1 q2 q3
      clear hf hq hB hF hN n0 hov hw8 w8 hO hR
      simp only [ag4] at LT0 RD0
      go_wp2_with fail
      generalize wr.alloc (.cells #[.int .u64 (F 0), .int .u64 (F 1), .int .u64 (F 2), .int .u64 (F 3)] 44) = wn at *
      refine (LT0 wn hN1).mono ?_
      rintro r w1 ⟨rfl, n1⟩
      have N1 := nxt hN1 n1
      go_wp2_with fail
      refine (RD0 w1 N1).mono ?_
      rintro r w2 ⟨rfl, n2⟩
      have N2 := nxt N1 n2
      have R2 := (hR1.up n1).up n2
      obtain ⟨⟨r0, r1, r2, r3⟩, ⟨g0, g1, g2, g3⟩⟩ := R2.f4
      clear LT0 RD0 N1 hN1 hR1 n1 n2 T0 y0 y1 y2 y3 y4 v4 q0 q1 q2 q3
      go_wp2
      refine bodyPost_ret (v := ag4 f) (by simp [ag4, results, Tryz.results66, go_sem, r0, r1, r2, r3]) rfl ⟨by rw [HF.out, HF2.out], ?_⟩
      exact below_set4 N2 (by omega) _ _ _ _
end Go.Proofs.YthonlkghkdjagaaGreatDoor
namespace Go.Proofs.YthonlkghkdjagaaGreatDoor
set_option maxRecDepth 100000
open Go.RowKit
set_option maxHeartbeats 8000000 in
theorem mulAdd_any (w : World) (s t u : Nat → Int) (hs : W4 s) (ht : W4 t) (hu : W4 u) :
    Calls Tryz.prog 65 #[ag4 s, ag4 t, ag4 u] w fun r w' => r = .returned (ag8O (ma s t u 4)) ∧ Below w.heap.size w w' := by
  obtain ⟨hov, hw8, _⟩ := ma_all hs ht hu
  have n0 : Below w.heap.size w (w.alloc (.cells #[.int .u64 (s 0), .int .u64 (s 1), .int .u64 (s 2), .int .u64 (s 3)] 44)) := (Below.refl _ _).alloc (Nat.le_refl _) _
  have B0 := blk_box4 w .u64 44 (s 0) (s 1) (s 2) (s 3)
  have s0 : (w.alloc (.cells #[.int .u64 (s 0), .int .u64 (s 1), .int .u64 (s 2), .int .u64 (s 3)] 44)).heap.size = w.heap.size + 1 := by simp
  simp only [ag4]
  go_enter Tryz.func65, Tryz.ntmps65
  go_upto_region 1 with fail
  generalize w.alloc (.cells #[.int .u64 (s 0), .int .u64 (s 1), .int .u64 (s 2), .int .u64 (s 3)] 44) = wa at *
  have B1 := blk_box4 wa .u64 44 (t 0) (t 1) (t 2) (t 3)
  have n1 : Below wa.heap.size wa (wa.alloc (.cells #[.int .u64 (t 0), .int .u64 (t 1), .int .u64 (t 2), .int .u64 (t 3)] 44)) := (Below.refl _ _).alloc (Nat.le_refl _) _
  have s1 : (wa.alloc (.cells #[.int .u64 (t 0), .int .u64 (t 1), .int .u64 (t 2), .int .u64 (t 3)] 44)).heap.size = w.heap.size + 1 + 1 := by simp [s0]
  generalize wa.alloc (.cells #[.int .u64 (t 0), .int .u64 (t 1), .int .u64 (t 2), .int .u64 (t 3)] 44) = wb at *
  have B2 := blk_box4 wb .u64 44 (u 0) (u 1) (u 2) (u 3)
  have n2 : Below wb.heap.size wb (wb.alloc (.cells #[.int .u64 (u 0), .int .u64 (u 1), .int .u64 (u 2), .int .u64 (u 3)] 44)) := (Below.refl _ _).alloc (Nat.le_refl _) _
  have s2 : (wb.alloc (.cells #[.int .u64 (u 0), .int .u64 (u 1), .int .u64 (u 2), .int .u64 (u 3)] 44)).heap.size = w.heap.size + 1 + 1 + 1 := by simp [s1]
  generalize wb.alloc (.cells #[.int .u64 (u 0), .int .u64 (u 1), .int .u64 (u 2), .int .u64 (u 3)] 44) = wc at *
  have B3 := blk_box8 wc .u64 85 0 0 0 0 0 0 0 0
  have n3 : Below wc.heap.size wc (wc.alloc (.cells #[.int .u64 0, .int .u64 0, .int .u64 0, .int .u64 0, .int .u64 0, .int .u64 0, .int .u64 0, .int .u64 0] 85)) := (Below.refl _ _).alloc (Nat.le_refl _) _
  have s3 : (wc.alloc (.cells #[.int .u64 0, .int .u64 0, .int .u64 0, .int .u64 0, .int .u64 0, .int .u64 0, .int .u64 0, .int .u64 0] 85)).heap.size = w.heap.size + 1 + 1 + 1 + 1 := by simp [s2]
  generalize wc.alloc (.cells #[.int .u64 0, .int .u64 0, .int .u64 0, .int .u64 0, .int .u64 0, .int .u64 0, .int .u64 0, .int .u64 0] 85) = wd at *
  rw [s0] at B1
  rw [s1] at B2
  rw [s2] at B3
  obtain ⟨⟨p0, p1, p2, p3⟩, _⟩ := (B2.up n3).f4
  have B4 := blk_box8 wd .u64 85 (u 0) (u 1) (u 2) (u 3) 0 0 0 0
  have n4 : Below wd.heap.size wd (wd.alloc (.cells #[.int .u64 (u 0), .int .u64 (u 1), .int .u64 (u 2), .int .u64 (u 3), .int .u64 0, .int .u64 0, .int .u64 0, .int .u64 0] 85)) := (Below.refl _ _).alloc (Nat.le_refl _) _
  rw [s3] at B4
  obtain ⟨⟨v0, v1, v2, v3⟩, _⟩ := ((((B0.up n1).up n2).up n3).up n4).f4
  have E1 := ((B1.up n2).up n3).up n4
  have E3 := B3.up n4
  have N := nxt (nxt (nxt (nxt n0 n1) n2) n3) n4
  go_wp2
  generalize wd.alloc (.cells #[.int .u64 (u 0), .int .u64 (u 1), .int .u64 (u 2), .int .u64 (u 3), .int .u64 0, .int .u64 0, .int .u64 0, .int .u64 0] 85) = we at *
  have E4 : Blk we (w.heap.size + 1 + 1 + 1 + 1) .u64 (c8 (ma s t u 0)) := B4
  clear B0 B1 B2 B3 B4 n0 n1 n2 n3 n4 s0 s1 s2 s3 p0 p1 p2 p3 v0 v1 v2 v3
  go_loopw [20] (fun i wr => ∃ k : Nat, k ≤ 4 ∧ i = .int .i64 k ∧ Blk wr (w.heap.size + 1) .u64 [t 0, t 1, t 2, t 3] ∧ Blk wr (w.heap.size + 1 + 1 + 1) .u64 [0, 0, 0, 0, 0, 0, 0, 0] ∧ Blk wr (w.heap.size + 1 + 1 + 1 + 1) .u64 (c8 (ma s t u k)) ∧ Below w.heap.size w wr) (fun i _ => 4 - (intOf i).toNat)
  case atStart => exact ⟨0, by omega, rfl, E1, E3, E4, N⟩
  case round =>
    clear E1 E3 E4 N
    obtain ⟨k, hk, rfl, hT, hR, hF, hN⟩ := hrel
    by_cases hlt : k < 4
    · have IX := idx4 s k hlt
      have e1 : adT k (s k) t (ma s t u k) = ma s t u (k + 1) := rfl
      have AT := fun W => addTimes_any W (ma s t u k) t k (s k) (by omega) (hs k hlt) ht (hw8 k hk) (hov k hlt)
      rw [e1] at AT
      have k2 : (k : Int) < 4 := by omega
      obtain ⟨f, hf⟩ : ∃ f, f = ma s t u (k + 1) := ⟨_, rfl⟩
      have HF : Hid (f = ma s t u (k + 1)) := hf
      rw [← hf] at AT
      clear hf e1
      generalize ma s t u k = F at *
      generalize s k = sv at *
      obtain ⟨⟨t0, t1, t2, t3⟩, _⟩ := hT.f4
      obtain ⟨⟨y0, y1, y2, y3, y4, y5, y6, y7⟩, _⟩ := hF.f8O
      simp only [ag8O, ag4] at AT
      go_wp2_with fail
      refine (AT _).mono ?_
      rintro r wm ⟨rfl, nm⟩
      have hFm := hF.up nm
      obtain ⟨⟨z0, z1, z2, z3, z4, z5, z6, z7⟩, ⟨g0, g1, g2, g3, g4, g5, g6, g7⟩⟩ := hFm.f8O
      have S0 := set8_keep (q := w.heap.size + 1 + 1 + 1 + 1) (u := f) (hT.up nm) (by omega)
      have S1 := set8_keep (q := w.heap.size + 1 + 1 + 1 + 1) (u := f) (hR.up nm) (by omega)
      have S2 := set8_same f hFm
      have S3 : Below w.heap.size w (set8 wm (w.heap.size + 1 + 1 + 1 + 1) f) := below_set8O (nxt hN nm) (by omega) _ _ _ _ _ _ _ _
      have HS2 : Hid (Blk (set8 wm (w.heap.size + 1 + 1 + 1 + 1) f) (w.heap.size + 1 + 1 + 1 + 1) .u64 (c8 (ma s t u (k + 1)))) := by rw [← HF.out]; exact S2
      clear AT hT hR hF hN hFm nm S2 t0 t1 t2 t3 y0 y1 y2 y3 y4 y5 y6 y7 hov hw8
      go_wp2
      go_roundw
      case rel => exact ⟨k + 1, by omega, by go_num, S0, S1, HS2.out, S3⟩
      case measure => simp [intOf]; omega
    · obtain rfl : k = 4 := by omega
      obtain ⟨f, hf⟩ : ∃ f, f = ma s t u 4 := ⟨_, rfl⟩
      have HF : Hid (f = ma s t u 4) := hf
      rw [← hf] at hF
      obtain ⟨⟨p0, p1, p2, p3, p4, p5, p6, p7⟩, _⟩ := hF.f8O
      obtain ⟨⟨r0, r1, r2, r3, r4, r5, r6, r7⟩, ⟨g0, g1, g2, g3, g4, g5, g6, g7⟩⟩ := hR.f8O
      clear hf hov hw8
      go_wp2
      refine bodyPost_ret (v := ag8O f) (by simp [ag8O, results, Tryz.results65, go_sem, r0, r1, r2, r3, r4, r5, r6, r7]) rfl ⟨by rw [HF.out], ?_⟩
      exact below_set8O hN (by omega) _ _ _ _ _ _ _ _
end Go.Proofs.YthonlkghkdjagaaGreatDoor
namespace Go.Proofs.YthonlkghkdjagaaGreatDoor
set_option maxRecDepth 100000
open Go Go.RowKit
def hsW (ys : List Int) : Nat → Int := rdD (wv (fun j => (hashL64 ys).getD j 0) 64)
theorem hsW_ok (ys : List Int) : W4 (hsW ys) ∧ wval (hsW ys) = num (hashL64 ys) % QQ := by
  have hW : W8 (wv (fun j => (hashL64 ys).getD j 0) 64) := fun j _ => wv_lt (hash64_byt ys) _ j
  have hv : dval (wv (fun j => (hashL64 ys).getD j 0) 64) = num (hashL64 ys) := by
    have e := hash64_len ys
    unfold num
    rw [e, wv_dval _ _ (by omega)]
  obtain ⟨r1, r2⟩ := rdD_ok hW
  exact ⟨r1, by rw [← hv]; exact r2⟩
def hsN (ys : List Int) : Nat := (num (hashL64 ys) % QQ).toNat
theorem hsN_val (ys : List Int) : wval (hsW ys) = (hsN ys : Int) := by
  rw [(hsW_ok ys).2]
  unfold hsN
  have := Int.emod_nonneg (num (hashL64 ys)) (show QQ ≠ 0 by decide)
  omega
set_option maxRecDepth 20000 in
set_option maxHeartbeats 8000000 in
theorem hashedScalar_any (w : World) (b n c : Nat) (ls : List Lst) (hn : ls.length = n) (n0 : 0 < n) (hm : n ≤ 1000) (hs : Lsts w b ls) (hl : ∀ l ∈ ls, Rd w l.g l.a .u8 l.xs ∧ Byt l.xs ∧ l.xs.length ≤ l.c) (hL : (cat ls).length ≤ 1099511627776) (hS : HasT w 5 stLh) (hT : HasT w 7 kL) (hO : HasO w) :
    Calls Tryz.prog 63 #[.slice (some ⟨b, 0, none⟩) n c] w fun r w' => r = .returned (ag4 (hsW (cat ls))) ∧ Below w.heap.size w w' := by
  have gb : b < w.heap.size := by
    have := hs 0 (ls[0]'(by omega)) (List.getElem?_eq_getElem _)
    exact block_lt_of_cell this
  have gl : 7 < w.heap.size := block_lt_of_cell (hT 0 (by decide))
  have m0 : Below w.heap.size w (w.alloc (.cells #[.int .u64 0, .int .u64 0, .int .u64 0, .int .u64 0] 44)) := (Below.refl _ _).alloc (Nat.le_refl _) _
  have B0 := blk_box4 w .u64 44 0 0 0 0
  have NH := hide (newHashing_64 _ (hS.up m0))
  have L1 := hide (hcl_len .u64 0 start64 (R := List.replicate 128 0) (by simp))
  have O1 := hcl_one .u64 0 start64 (List.replicate 128 0)
  have HO : Hid (∀ W q, W.rangeAt q 0 (hcl .u64 0 start64 (List.replicate 128 0)) → W.there q 0 137 → HD W q []) := fun W q h1 h2 => HV.start.at h1 h2
  obtain ⟨d, hd, hrow⟩ := rowH_64
  generalize hcl .u64 0 start64 (List.replicate 128 0) = vs at *
  have HL := hide hl
  have HLT := hide (fun l h (h0 : 0 < l.xs.length) => (hl l h).1.lt h0)
  have HN := hide hn
  clear hl hn
  go_enter Tryz.func63, Tryz.ntmps63
  go_wp2_with fail
  generalize w.alloc (.cells #[.int .u64 0, .int .u64 0, .int .u64 0, .int .u64 0] 44) = wa at *
  refine NH.out.mono ?_
  rintro r w1 ⟨rfl, n1⟩
  clear NH
  have M1 := nxt m0 n1
  have z1 : w.heap.size < w1.heap.size := by have := B0.lt; have := n1.size; omega
  have HZ := HB.zero64 w1
  have TH := HZ.there
  have na : Below w1.heap.size w1 (w1.alloc zH64) := (Below.refl _ _).alloc (Nat.le_refl _) _
  have sm := World.rangeAt_setCells_same (w1.alloc zH64) w1.heap.size 0 vs (by rw [L1.out]; exact TH)
  have th2 := World.there_setCells TH w1.heap.size 0 vs
  have O2 := only_setCells (w1.alloc zH64) w1.heap.size vs 0
  have H2 := HO.out _ _ sm th2
  have N2 : Below w.heap.size w ((w1.alloc zH64).setCells w1.heap.size 0 vs) := (nxt M1 na).trans (O2.below (by omega))
  have B2 := ((B0.up n1).up na).of_block (O2.block w.heap.size (by omega))
  go_wp2_with (refine wpList_store_mid rfl 133 (.tmp 3) (.tmp 4) rfl w1.heap.size 0 vs.toArray rfl rfl ?hth ?hin ?hon ?_)
  case hth => exact (show (w1.alloc zH64).there w1.heap.size 0 vs.length by rw [L1.out]; exact TH)
  case hin => show _ = some vs.length; rw [L1.out]; exact infoH_64
  case hon => exact O1
  have TK := takeAllD ((w1.alloc zH64).setCells w1.heap.size 0 vs) w1.heap.size [] H2 b n c ls HN.out hm (hs.up N2) (fun l h => ⟨(HL.out l h).1.up N2, (HL.out l h).2.1, (HL.out l h).2.2, fun h0 => by have := HLT.out l h h0; omega⟩) (by omega) (by simp; omega) (hT.up N2) (by omega)
  rw [List.nil_append] at TK
  have TKH := hide TK
  clear TK HZ TH sm th2 O2 H2 na HO
  change Calls _ _ _ ((w1.alloc zH64).setCells w1.heap.size 0 vs) _
  generalize hw2 : (w1.alloc zH64).setCells w1.heap.size 0 vs = w2 at *
  refine TKH.out.mono ?_
  rintro r w3 ⟨rfl, H3, B3⟩
  have N3 : Below w.heap.size w w3 := N2.trans (B3.below (by omega) N2.size)
  have C3 := B2.of_block (B3.block w.heap.size B2.lt (by omega))
  obtain ⟨v3, V3, RG, -⟩ := H3.val
  have L3 := hide V3.len
  have EN := hide (endV w3 v3 (cat ls) V3 hL (hT.up N3))
  have KL := hide (hash64_len (cat ls))
  have KB := hide (hash64_byt (cat ls))
  have KW : W8 (wv (fun j => (hashL64 (cat ls)).getD j 0) 64) := fun j _ => wv_lt (hash64_byt _) _ j
  have DR := hide (fun W (h : Below w.heap.size w W) => doubleReduce_any W _ KW (hO.up h))
  have EW := hide (show hsW (cat ls) = rdD (wv (fun j => (hashL64 (cat ls)).getD j 0) 64) from rfl)
  clear TKH H3 B3 hw2 N2 V3 KW B2
  generalize hashL64 (cat ls) = hh at *
  go_wp2_with (refine wpList_load_mid rfl 133 (.tmp 3) rfl w1.heap.size 0 rfl v3 d RG hd hrow (by rw [L3.out]; exact infoH_64) ?_)
  refine EN.out.mono ?_
  rintro r w4 ⟨⟨a4, c4, g4, rfl, o4, p4, q4, r4⟩, n4⟩
  have N4 := nxt N3 n4
  have C4 := C3.up n4
  have RD := hide (readDouble_any w4 g4 a4 c4 hh o4.rd KB.out (by rw [KL.out]; omega) (by rw [KL.out]; omega))
  rw [KL.out] at RD ⊢
  clear EN o4 p4 q4 r4 n4 N3 C3 RG L3
  go_wp2_with fail
  refine RD.out.mono ?_
  rintro r w5 ⟨rfl, n5⟩
  have N5 := nxt N4 n5
  have C5 := C4.up n5
  have DR5 := hide (DR.out w5 N5)
  clear RD DR n5 N4 C4
  go_wp2_with fail
  refine DR5.out.mono ?_
  rintro r w6 ⟨rfl, n6⟩
  have N6 := nxt N5 n6
  have C6 := C5.up n6
  generalize rdD (wv (fun j => hh.getD j 0) 64) = f at *
  simp only [ag4]
  obtain ⟨⟨r0, r1, r2, r3⟩, ⟨g0, g1, g2, g3⟩⟩ := C6.f4
  clear DR5 n6 N5 C5 C6
  go_wp2
  refine bodyPost_ret (v := ag4 f) (by simp [ag4, results, Tryz.results63, go_sem, r0, r1, r2, r3]) rfl ⟨by rw [EW.out], ?_⟩
  exact below_set4 N6 (by omega) _ _ _ _
end Go.Proofs.YthonlkghkdjagaaGreatDoor
namespace Go.Proofs.YthonlkghkdjagaaGreatDoor
set_option maxRecDepth 100000
open Go Go.RowKit
def RwC (w : World) (q : Nat) (cs : List Value) (t : TypeId) : Prop := w.heap[q]? = some (.cells cs.toArray t (0, 0))
theorem RwC.new (w : World) (cs : List Value) (t : TypeId) : RwC (w.alloc (.cells cs.toArray t)) w.heap.size cs t := heap_alloc_new w _
theorem RwC.lt {w : World} {q : Nat} {cs : List Value} {t : TypeId} (h : RwC w q cs t) : q < w.heap.size := (Array.getElem?_eq_some_iff.1 h).1
theorem RwC.up {w w' : World} {q : Nat} {cs : List Value} {t : TypeId} (h : RwC w q cs t) (n : Below w.heap.size w w') : RwC w' q cs t := (n.block q h.lt).trans h
theorem RwC.cell {w : World} {q : Nat} {cs : List Value} {t : TypeId} (h : RwC w q cs t) (i : Nat) : w.cell? ⟨q, i, none⟩ = cs[i]? := by
  rw [cell_of_row w q i _ _ (0, 0) h]
  simp
def sgR (M xs : List Int) : List Int := sgB (hsN (M ++ xs))
def sgnL (u : Int) (M P xs : List Int) : List Int := sgR M xs ++ fill (byt ((wval (hsW (sgR M xs ++ (P ++ xs))) * u + wval (hsW (M ++ xs))) % QQ)) 32
theorem sgR_len (M xs : List Int) : (sgR M xs).length = 32 := en_len _
theorem sgR_byt (M xs : List Int) : Byt (sgR M xs) := en_byt (pv_mulB _)
theorem cat2 (l m : Lst) : cat [l, m] = l.xs ++ m.xs := by simp [cat]
theorem cat3 (l m n : Lst) : cat [l, m, n] = l.xs ++ (m.xs ++ n.xs) := by simp [cat]
theorem lsts2 (w : World) (l m : Lst) (t : TypeId) : Lsts (w.alloc (.cells #[.slice l.a l.xs.length l.c, .slice m.a m.xs.length m.c] t)) w.heap.size [l, m] := fun j x hj => by
  rw [(RwC.new w [.slice l.a l.xs.length l.c, .slice m.a m.xs.length m.c] t).cell j]
  match j, hj with
  | 0, hj => simp at hj; subst hj; rfl
  | 1, hj => simp at hj; subst hj; rfl
  | j + 2, hj => simp at hj
theorem lsts3 (w : World) (l m n : Lst) (t : TypeId) : Lsts (w.alloc (.cells #[.slice l.a l.xs.length l.c, .slice m.a m.xs.length m.c, .slice n.a n.xs.length n.c] t)) w.heap.size [l, m, n] := fun j x hj => by
  rw [(RwC.new w [.slice l.a l.xs.length l.c, .slice m.a m.xs.length m.c, .slice n.a n.xs.length n.c] t).cell j]
  match j, hj with
  | 0, hj => simp at hj; subst hj; rfl
  | 1, hj => simp at hj; subst hj; rfl
  | 2, hj => simp at hj; subst hj; rfl
  | j + 3, hj => simp at hj
structure HasN (w : World) : Prop where
  S : HasS w
  A : HasT w 5 stLh
  B : HasT w 7 kL
  O : HasO w
theorem HasN.up {w w' : World} (h : HasN w) (n : Below w.heap.size w w') : HasN w' := ⟨h.S.up n, h.A.up n, h.B.up n, h.O.up n⟩
set_option maxHeartbeats 1000000 in
theorem sign_any (w : World) (U : Nat → Int) (hU : W4 U) (am ap ax : Option Addr) (cm cp cx gm gp gx : Nat) (M P xs : List Int)
    (hM : Rd w gm am .u8 M) (lM : M.length = 32) (bM : Byt M) (kM : 32 ≤ cm) (hP : Rd w gp ap .u8 P) (lP : P.length = 32) (bP : Byt P) (kP : 32 ≤ cp) (hx : Rd w gx ax .u8 xs) (bx : Byt xs) (kx : xs.length ≤ cx) (hl : xs.length ≤ 1048576) (H : HasN w) :
    Calls Tryz.prog 30 #[.agg (sgC U (.slice am 32 cm) (.slice ap 32 cp)).toArray, .slice ax xs.length cx] w fun r w' => NewRow w.heap.size w' r .u8 (sgnL (wval U) M P xs) ∧ Below w.heap.size w w' := by
  show Calls Tryz.prog 30 #[.agg #[.int .u64 (U 0), .int .u64 (U 1), .int .u64 (U 2), .int .u64 (U 3), .slice am 32 cm, .slice ap 32 cp], .slice ax xs.length cx] w _
  have R0 : RwC (w.alloc (.cells #[.int .u64 (U 0), .int .u64 (U 1), .int .u64 (U 2), .int .u64 (U 3), .slice am 32 cm, .slice ap 32 cp] 46)) w.heap.size (sgC U (.slice am 32 cm) (.slice ap 32 cp)) 46 := RwC.new w (sgC U (.slice am 32 cm) (.slice ap 32 cp)) _
  have m0 : Below w.heap.size w (w.alloc (.cells #[.int .u64 (U 0), .int .u64 (U 1), .int .u64 (U 2), .int .u64 (U 3), .slice am 32 cm, .slice ap 32 cp] 46)) := (Below.refl _ _).alloc (Nat.le_refl _) _
  have c4 : (w.alloc (.cells #[.int .u64 (U 0), .int .u64 (U 1), .int .u64 (U 2), .int .u64 (U 3), .slice am 32 cm, .slice ap 32 cp] 46)).cell? ⟨w.heap.size, 4, none⟩ = some (.slice am 32 cm) := R0.cell 4
  generalize hwa : w.alloc (.cells #[.int .u64 (U 0), .int .u64 (U 1), .int .u64 (U 2), .int .u64 (U 3), .slice am 32 cm, .slice ap 32 cp] 46) = wa at *
  have m1 : Below wa.heap.size wa (wa.alloc (.cells #[.slice am 32 cm, .slice ax xs.length cx] 22)) := (Below.refl _ _).alloc (Nat.le_refl _) _
  have N1 := nxt m0 m1
  have LS1 : Lsts (wa.alloc (.cells #[.slice am M.length cm, .slice ax xs.length cx] 22)) wa.heap.size [⟨gm, am, cm, M⟩, ⟨gx, ax, cx, xs⟩] := lsts2 wa ⟨gm, am, cm, M⟩ ⟨gx, ax, cx, xs⟩ 22
  rw [lM] at LS1
  have HS1 := hide (hashedScalar_any _ wa.heap.size 2 2 [⟨gm, am, cm, M⟩, ⟨gx, ax, cx, xs⟩] rfl (by decide) (by decide) LS1 (fun l h => by
    rcases List.mem_cons.1 h with rfl | h
    · exact ⟨hM.up N1, bM, by rw [lM]; exact kM⟩
    · rw [List.mem_singleton.1 h]
      exact ⟨hx.up N1, bx, kx⟩) (by rw [cat2, List.length_append]; show M.length + xs.length ≤ _; omega) (H.A.up N1) (H.B.up N1) (H.O.up N1))
  rw [cat2] at HS1
  change Hid (Calls _ _ _ _ fun r w' => r = .returned (ag4 (hsW (M ++ xs))) ∧ _) at HS1
  have hW := hide (hsW_ok (M ++ xs))
  have hV := hide (hsN_val (M ++ xs))
  have EQ := hide (show sgnL (wval U) M P xs = sgR M xs ++ fill (byt ((wval (hsW (sgR M xs ++ (P ++ xs))) * wval U + wval (hsW (M ++ xs))) % QQ)) 32 by rw [sgnL])
  have FE := hide (show sgB (hsN (M ++ xs)) = sgR M xs by rw [sgR])
  rw [EQ.out]
  have FL := hide (sgR_len M xs)
  have FB := hide (sgR_byt M xs)
  generalize hsW (M ++ xs) = r at *
  generalize hsN (M ++ xs) = v at *
  generalize sgR M xs = F at *
  clear LS1 lM bM kM EQ hM
  go_enter Tryz.func30, Tryz.ntmps30
  go_wp2_with fail
  clear hwa
  refine HS1.out.mono ?_
  rintro e w1 ⟨rfl, n1⟩
  have M1 := nxt N1 n1
  have S1 := (R0.up m1).up n1
  simp only [ag4]
  have RR : RwC (w1.alloc (.cells #[.int .u64 (r 0), .int .u64 (r 1), .int .u64 (r 2), .int .u64 (r 3)] 44)) w1.heap.size (cU r) 44 := RwC.new w1 (cU r) _
  have m2 : Below w1.heap.size w1 (w1.alloc (.cells #[.int .u64 (r 0), .int .u64 (r 1), .int .u64 (r 2), .int .u64 (r 3)] 44)) := (Below.refl _ _).alloc (Nat.le_refl _) _
  have M2 := nxt M1 m2
  have S2 := S1.up m2
  have BF := hide (baseForm_any _ r hW.out.1 v hV.out (H.S.up M2))
  rw [FE.out] at BF
  simp only [ag4] at BF
  have d0 : (w1.alloc (.cells #[.int .u64 (r 0), .int .u64 (r 1), .int .u64 (r 2), .int .u64 (r 3)] 44)).cell? ⟨w1.heap.size, 0, none⟩ = some (.int .u64 (r 0)) := RR.cell 0
  have d1 : (w1.alloc (.cells #[.int .u64 (r 0), .int .u64 (r 1), .int .u64 (r 2), .int .u64 (r 3)] 44)).cell? ⟨w1.heap.size, 1, none⟩ = some (.int .u64 (r 1)) := RR.cell 1
  have d2 : (w1.alloc (.cells #[.int .u64 (r 0), .int .u64 (r 1), .int .u64 (r 2), .int .u64 (r 3)] 44)).cell? ⟨w1.heap.size, 2, none⟩ = some (.int .u64 (r 2)) := RR.cell 2
  have d3 : (w1.alloc (.cells #[.int .u64 (r 0), .int .u64 (r 1), .int .u64 (r 2), .int .u64 (r 3)] 44)).cell? ⟨w1.heap.size, 3, none⟩ = some (.int .u64 (r 3)) := RR.cell 3
  clear HS1 R0 m0 m1 N1 n1 M1 S1 c4 FE
  go_wp2_with fail
  generalize w1.alloc (.cells #[.int .u64 (r 0), .int .u64 (r 1), .int .u64 (r 2), .int .u64 (r 3)] 44) = w2 at *
  refine BF.out.mono ?_
  rintro e w3 ⟨⟨a3, c3, g3, rfl, o3, p3, q3, r3⟩, n3⟩
  have P3 := hide p3
  clear p3
  have M3 := nxt M2 n3
  have S3 := S2.up n3
  have T3 := RR.up n3
  rw [FL.out] at q3 ⊢
  have m4 : Below w3.heap.size w3 (w3.alloc (.cells #[.slice a3 32 c3, .slice ap 32 cp, .slice ax xs.length cx] 22)) := (Below.refl _ _).alloc (Nat.le_refl _) _
  have M4 := nxt M3 m4
  have LS2 : Lsts (w3.alloc (.cells #[.slice a3 F.length c3, .slice ap P.length cp, .slice ax xs.length cx] 22)) w3.heap.size [⟨g3, a3, c3, F⟩, ⟨gp, ap, cp, P⟩, ⟨gx, ax, cx, xs⟩] := lsts3 w3 ⟨g3, a3, c3, F⟩ ⟨gp, ap, cp, P⟩ ⟨gx, ax, cx, xs⟩ 22
  rw [FL.out, lP] at LS2
  have HS2 := hide (hashedScalar_any _ w3.heap.size 3 3 [⟨g3, a3, c3, F⟩, ⟨gp, ap, cp, P⟩, ⟨gx, ax, cx, xs⟩] rfl (by decide) (by decide) LS2 (fun l h => by
    rcases List.mem_cons.1 h with rfl | h
    · exact ⟨(o3.up m4).rd, FB.out, by show F.length ≤ c3; rw [FL.out]; exact q3⟩
    · rcases List.mem_cons.1 h with rfl | h
      · exact ⟨hP.up M4, bP, by show P.length ≤ cp; rw [lP]; exact kP⟩
      · rw [List.mem_singleton.1 h]
        exact ⟨hx.up M4, bx, kx⟩) (by rw [cat3, List.length_append, List.length_append]; show F.length + (P.length + xs.length) ≤ _; rw [FL.out]; omega) (H.A.up M4) (H.B.up M4) (H.O.up M4))
  rw [cat3] at HS2
  change Hid (Calls _ _ _ _ fun r w' => r = .returned (ag4 (hsW (F ++ (P ++ xs)))) ∧ _) at HS2
  have kW := hide (hsW_ok (F ++ (P ++ xs)))
  generalize hk : hsW (F ++ (P ++ xs)) = k at *
  have HK := hide hk
  clear hk
  have c5 : w3.cell? ⟨w.heap.size, 5, none⟩ = some (.slice ap 32 cp) := S3.cell 5
  have O3 := o3.up m4
  have S4 := S3.up m4
  have T4 := T3.up m4
  clear BF n3 d0 d1 d2 d3 M2 S2 RR LS2 hP lP bP kP hx bx kx hl o3 T3 S3 m2
  go_wp2_with fail
  generalize w3.alloc (.cells #[.slice a3 32 c3, .slice ap 32 cp, .slice ax xs.length cx] 22) = w4 at *
  refine HS2.out.mono ?_
  rintro e w5 ⟨rfl, n5⟩
  have M5 := nxt M4 n5
  have S5 := S4.up n5
  have T5 := T4.up n5
  have O5 := O3.up n5
  simp only [ag4]
  have KK : RwC (w5.alloc (.cells #[.int .u64 (k 0), .int .u64 (k 1), .int .u64 (k 2), .int .u64 (k 3)] 44)) w5.heap.size (cU k) 44 := RwC.new w5 (cU k) _
  have m6 : Below w5.heap.size w5 (w5.alloc (.cells #[.int .u64 (k 0), .int .u64 (k 1), .int .u64 (k 2), .int .u64 (k 3)] 44)) := (Below.refl _ _).alloc (Nat.le_refl _) _
  have M6 := nxt M5 m6
  have S6 := S5.up m6
  have T6 := T5.up m6
  have O6 := O5.up m6
  obtain ⟨w6, hw6⟩ : ∃ W, W = w5.alloc (.cells #[.int .u64 (k 0), .int .u64 (k 1), .int .u64 (k 2), .int .u64 (k 3)] 44) := ⟨_, rfl⟩
  rw [← hw6] at KK M6 S6 T6 O6
  have k0 : w6.cell? ⟨w5.heap.size, 0, none⟩ = some (.int .u64 (k 0)) := KK.cell 0
  have k1 : w6.cell? ⟨w5.heap.size, 1, none⟩ = some (.int .u64 (k 1)) := KK.cell 1
  have k2 : w6.cell? ⟨w5.heap.size, 2, none⟩ = some (.int .u64 (k 2)) := KK.cell 2
  have k3 : w6.cell? ⟨w5.heap.size, 3, none⟩ = some (.int .u64 (k 3)) := KK.cell 3
  have s0 : w6.cell? ⟨w.heap.size, 0, none⟩ = some (.int .u64 (U 0)) := S6.cell 0
  have s1 : w6.cell? ⟨w.heap.size, 1, none⟩ = some (.int .u64 (U 1)) := S6.cell 1
  have s2 : w6.cell? ⟨w.heap.size, 2, none⟩ = some (.int .u64 (U 2)) := S6.cell 2
  have s3 : w6.cell? ⟨w.heap.size, 3, none⟩ = some (.int .u64 (U 3)) := S6.cell 3
  have t0 : w6.cell? ⟨w1.heap.size, 0, none⟩ = some (.int .u64 (r 0)) := T6.cell 0
  have t1 : w6.cell? ⟨w1.heap.size, 1, none⟩ = some (.int .u64 (r 1)) := T6.cell 1
  have t2 : w6.cell? ⟨w1.heap.size, 2, none⟩ = some (.int .u64 (r 2)) := T6.cell 2
  have t3 : w6.cell? ⟨w1.heap.size, 3, none⟩ = some (.int .u64 (r 3)) := T6.cell 3
  obtain ⟨-, m7, m8⟩ := ma_all kW.out.1 hU hW.out.1
  have MM := hide (m7 4 (by omega))
  have MA := hide (fun W => mulAdd_any W k U r kW.out.1 hU hW.out.1)
  obtain ⟨q1, q2⟩ := rdD_ok MM.out
  have DR := hide (fun W (n : Below w.heap.size w W) => doubleReduce_any W _ MM.out (H.O.up n))
  have SB := hide (fun W => scalarBytes_any W _ q1)
  rw [q2, m8] at SB
  clear HS2 n5 M4 S4 T4 O3 M5 S5 T5 O5 m4 m6 c5 M3 q2 q1 m7 m8 KK S6 T6 H
  generalize ma k U r 4 = D at *
  generalize rdD D = f at *
  simp only [ag4] at MA DR SB
  go_upto_region 4 with fail
  rw [← hw6]
  clear hw6
  go_wp2_with fail
  refine (MA.out w6).mono ?_
  rintro e w7 ⟨rfl, n7⟩
  have M7 := nxt M6 n7
  have O7 := O6.up n7
  have DR7 := hide (DR.out w7 M7)
  clear MA n7 M6 O6 DR k0 k1 k2 k3 s0 s1 s2 s3 t0 t1 t2 t3
  go_wp2_with fail
  refine DR7.out.mono ?_
  rintro e w8 ⟨rfl, n8⟩
  have M8 := nxt M7 n8
  have O8 := O7.up n8
  clear DR7 n8 M7 O7
  go_wp2_with fail
  refine (SB.out w8).mono ?_
  rintro e w9 ⟨⟨a9, c9, g9, rfl, o9, p9, q9, r9⟩, n9⟩
  have M9 := nxt M8 n9
  have O9 := O8.up n9
  have ZL := hide (show (fill (byt ((wval k * wval U + wval r) % QQ)) 32).length = 32 from fill_len _ _)
  generalize hz : fill (byt ((wval k * wval U + wval r) % QQ)) 32 = zs at *
  have HZ := hide hz
  clear hz
  rw [ZL.out] at q9 ⊢
  have mA : Below w9.heap.size w9 (w9.alloc (.cells #[.slice a3 32 c3, .slice a9 32 c9] 22)) := (Below.refl _ _).alloc (Nat.le_refl _) _
  have MB := nxt M9 mA
  have LS3 : Lsts (w9.alloc (.cells #[.slice a3 F.length c3, .slice a9 zs.length c9] 22)) w9.heap.size [⟨g3, a3, c3, F⟩, ⟨g9, a9, c9, zs⟩] := lsts2 w9 ⟨g3, a3, c3, F⟩ ⟨g9, a9, c9, zs⟩ 22
  rw [FL.out, ZL.out] at LS3
  have CC := hide (concat_any _ w9.heap.size 2 2 [⟨g3, a3, c3, F⟩, ⟨g9, a9, c9, zs⟩] rfl (by decide) LS3 (fun l h => by
    rcases List.mem_cons.1 h with rfl | h
    · exact ⟨(O9.up mA).rd, P3.out⟩
    · rw [List.mem_singleton.1 h]
      exact ⟨(o9.up mA).rd, p9⟩) (by rw [cat2, List.length_append]; show 0 < F.length + zs.length; rw [FL.out]; omega) (by rw [cat2, List.length_append]; show F.length + zs.length ≤ _; rw [FL.out, ZL.out]; omega))
  rw [cat2] at CC
  change Hid (Calls _ _ _ _ fun e w' => NewRow _ w' e .u8 (F ++ zs) ∧ _) at CC
  have zz := MB.size
  clear SB n9 M8 O8 M9 O9 o9 p9 q9 r9 mA LS3 P3
  go_wp2_with fail
  refine CC.out.mono ?_
  rintro e wC ⟨⟨aC, cC, gC, rfl, oC, pC, qC, rC⟩, nC⟩
  have NC := nxt MB nC
  clear CC nC
  go_wp2
  go_ret
  rw [HK.out, HZ.out]
  exact ⟨⟨aC, cC, gC, by rw [List.length_append]; rfl, oC, pC, qC, by omega⟩, NC⟩
end Go.Proofs.YthonlkghkdjagaaGreatDoor
namespace Go.Proofs.YthonlkghkdjagaaGreatDoor
set_option maxRecDepth 100000
open Go Go.RowKit
theorem times_is {ks xs ys : List Int} (hl : ks.length = 32) (bk : Byt ks) (hv : validP xs ys = true) {top : List Int} (ht : Canon top (lsum (fun j => ks.getD j 0) ks.length)) {p : W3} (hp : p = acc dE (num xs, num ys, 1) (bitOf top) (8 * top.length)) :
    fill (byt (p.1 * iv p.2.2 % PP)) 32 = skX ks xs ys ∧ fill (byt (p.2.1 * iv p.2.2 % PP)) 32 = skY ks xs ys := by
  have e : bval top = (scV ks : Int) := by
    rw [ht.2.1, hl]
    unfold scV
    have := lsum_nonneg (byt_bt bk) 32
    omega
  have k := times_plain (valid_pt hv).1 ht.1 e
  simp only at k
  rw [← hp] at k
  unfold skX skY
  rw [if_pos ⟨hl, hv⟩, if_pos ⟨hl, hv⟩, ← k]
  exact ⟨rfl, rfl⟩
end Go.Proofs.YthonlkghkdjagaaGreatDoor
