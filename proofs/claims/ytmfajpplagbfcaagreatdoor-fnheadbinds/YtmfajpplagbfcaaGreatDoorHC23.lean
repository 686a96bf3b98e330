import Derived.Test.YtmfajpplagbfcaaGreatDoorHC22
import Derived.Laws.CopyOwn
import Derived.Laws.Tables
import Derived.Test.YtmfajpplagbfcaaGreatDoorHC3
import Derived.Lib.ConvBytes
import Derived.Lib.AppendZeros
namespace Go.Proofs.YtmfajpplagbfcaaGreatDoor
set_option maxRecDepth 100000
open Go Go.RowKit
def HD (w : World) (q o : Nat) (ys : List Int) : Prop := ∃ R, HBo .u32 w q o ((ys.length : Nat) : Int) (whole32 start32 ys) R ∧ Byt R ∧ R.take (ys.length % 64) = left32 ys
theorem HD.lt {w : World} {q o : Nat} {ys : List Int} (h : HD w q o ys) : q < w.heap.size := by
  obtain ⟨R, h, _⟩ := h
  exact h.lt
theorem HD.up {w w' : World} {q o : Nat} {ys : List Int} (h : HD w q o ys) (n : Below w.heap.size w w') : HD w' q o ys := by
  obtain ⟨R, h, k⟩ := h
  exact ⟨R, h.up n, k⟩
theorem HD.bx {w w' : World} {q o p : Nat} {ys : List Int} (h : HD w q p ys) (b : Bx q o w w') (hp : p + 137 ≤ o ∨ o + 137 ≤ p) : HD w' q p ys := by
  obtain ⟨R, h, k⟩ := h
  exact ⟨R, h.bx b hp, k⟩
theorem HD.of_block {w w' : World} {q o : Nat} {ys : List Int} (h : HD w q o ys) (hb : w'.heap[q]? = w.heap[q]?) : HD w' q o ys := by
  obtain ⟨R, h, k⟩ := h
  exact ⟨R, h.of_block hb, k⟩
def HV (vs : List Value) (ys : List Int) : Prop := ∃ R, vs = hcl .u32 ((ys.length : Nat) : Int) (whole32 start32 ys) R ∧ R.length = 128 ∧ Byt R ∧ R.take (ys.length % 64) = left32 ys
theorem HV.len {vs : List Value} {ys : List Int} (h : HV vs ys) : vs.length = 137 := by
  obtain ⟨R, rfl, hl, _⟩ := h
  exact hcl_len _ _ _ hl
theorem HV.one {vs : List Value} {ys : List Int} (h : HV vs ys) : ∀ v ∈ vs, v.oneCell' = true := by
  obtain ⟨R, rfl, hl, _⟩ := h
  intro v hv
  have := hcl_one .u32 ((ys.length : Nat) : Int) (whole32 start32 ys) R
  rw [Array.all_eq_true_iff_forall_mem] at this
  exact this v (by simpa using hv)
theorem HD.val {w : World} {q o : Nat} {ys : List Int} (h : HD w q o ys) : ∃ vs, HV vs ys ∧ w.rangeAt q o vs ∧ w.there q o 137 := by
  obtain ⟨R, h, b, e⟩ := h
  exact ⟨_, ⟨R, rfl, h.len, b, e⟩, h.range, h.there⟩
theorem HV.at {w : World} {q o : Nat} {vs : List Value} {ys : List Int} (h : HV vs ys) (rg : w.rangeAt q o vs) (th : w.there q o 137) : HD w q o ys := by
  obtain ⟨R, rfl, hl, b, e⟩ := h
  exact ⟨R, HBo.of_range hl rg th, b, e⟩
theorem HV.start : HV (hcl .u32 0 start32 (List.replicate 128 0)) [] := ⟨List.replicate 128 0, by rw [whole_short32 start32 (by simp)]; rfl, by simp, byt_rep0 _, by rw [left_short32 (by simp)]; rfl⟩
theorem takeD (w : World) (q o : Nat) (ys : List Int) (h : HD w q o ys) (g : Nat) (a : Option Addr) (c : Nat) (xs : List Int) (hr : Rd w g a .u8 xs) (hx : Byt xs) (hc : xs.length ≤ c) (hg : 0 < xs.length → g ≠ q)
    (hL : ys.length + xs.length ≤ 1152921504606846976) (hT : HasT w 1 kL) (hq : 1 ≠ q) :
    Calls Tryz.prog 47 #[.pointer (some ⟨q, o, none⟩), .slice a xs.length c] w fun e w' => e = .returned (.tuple #[]) ∧ HD w' q o (ys ++ xs) ∧ Bx q o w w' := by
  obtain ⟨R, H, b, e⟩ := h
  refine (takeO_32 w q o ys.length (whole32 start32 ys) R H (whole_ok32 start_ok32 ys) b g a c xs hr hx hc hg hL hT hq).mono ?_
  rintro r w' ⟨rfl, R', H', b', e', B'⟩
  rw [e, whole_left32] at H'
  rw [e, left_left32] at e'
  exact ⟨rfl, ⟨R', by rw [List.length_append]; exact H', b', by rw [List.length_append]; exact e'⟩, B'⟩
theorem endV (w : World) (vs : List Value) (ys : List Int) (h : HV vs ys) (hn : ys.length ≤ 1099511627776) (hT : HasT w 1 kL) :
    Calls Tryz.prog 48 #[.agg vs.toArray] w fun e w' => NewRow w.heap.size w' e .u8 (hashL32 ys) ∧ Below w.heap.size w w' := by
  obtain ⟨R, rfl, hl, b, e⟩ := h
  rw [← hash_is32 e]
  exact end_32 w ys.length (whole32 start32 ys) R hl (whole_ok32 start_ok32 ys) b hn hT
theorem hash_byt32 (ys : List Int) : Byt (hashL32 ys) := tell_byt32 _
theorem hash_len32 (ys : List Int) : (hashL32 ys).length = 32 := tell_len32 _
structure Lst where
  g : Nat
  a : Option Addr
  c : Nat
  xs : List Int
def Lst.ok (w : World) (q : Nat) (l : Lst) : Prop := Rd w l.g l.a .u8 l.xs ∧ Byt l.xs ∧ l.xs.length ≤ l.c ∧ (0 < l.xs.length → l.g ≠ q)
def cat (ls : List Lst) : List Int := (ls.map Lst.xs).flatten
theorem cat_take (ls : List Lst) (j : Nat) (l : Lst) (h : ls[j]? = some l) : cat (ls.take (j + 1)) = cat (ls.take j) ++ l.xs := by
  unfold cat
  rw [List.take_add_one, h]
  simp
def Lsts (w : World) (b : Nat) (ls : List Lst) : Prop := ∀ j l, ls[j]? = some l → w.cell? ⟨b, j, none⟩ = some (.slice l.a l.xs.length l.c)
theorem Lst.ok.bt {w w' : World} {q : Nat} {l : Lst} (h : l.ok w q) (b : Bth q w w') : l.ok w' q := by
  obtain ⟨h1, h2, h3, h4⟩ := h
  refine ⟨?_, h2, h3, h4⟩
  by_cases h0 : 0 < l.xs.length
  · exact h1.bt b (h4 h0)
  · exact fun h1 => absurd h1 h0
theorem Lsts.bt {w w' : World} {q b : Nat} {ls : List Lst} (h : Lsts w b ls) (B : Bth q w w') (hb : b ≠ q) : Lsts w' b ls := fun j l hj => by
  have := h j l hj
  rw [World.cell?_of_block (a := ⟨b, j, none⟩) (B.block b (block_lt_of_cell this) hb)]
  exact this
set_option maxHeartbeats 2000000 in
theorem takeAllD (w : World) (q o : Nat) (ys : List Int) (h : HD w q o ys) (b n c : Nat) (ls : List Lst) (hn : ls.length = n) (hm : n ≤ 1000) (hs : Lsts w b ls) (hl : ∀ l ∈ ls, l.ok w q) (hb : b ≠ q)
    (hL : ys.length + (cat ls).length ≤ 1152921504606846976) (hT : HasT w 1 kL) (hq : 1 ≠ q) :
    Calls Tryz.prog 106 #[.pointer (some ⟨q, o, none⟩), .slice (some ⟨b, 0, none⟩) n c] w fun e w' => e = .returned (.tuple #[]) ∧ HD w' q o (ys ++ cat ls) ∧ Bx q o w w' := by
  have HN := hide hn
  clear hn
  have hp : ∀ j, (cat (ls.take j)).length ≤ (cat ls).length := fun j => by
    have : cat ls = cat (ls.take j) ++ cat (ls.drop j) := by
      unfold cat
      rw [← List.flatten_append, ← List.map_append, List.take_append_drop]
    rw [this, List.length_append]
    omega
  go_enter Tryz.func106, Tryz.ntmps106
  go_wp2_with fail
  go_loopw [5, 8] (fun _ i wr => ∃ (j : Nat), j ≤ n ∧ i = .int .i64 j ∧ HD wr q o (ys ++ cat (ls.take j)) ∧ Bx q o w wr) (fun _ i _ => n - (intOf i).toNat)
  case atStart => exact ⟨0, Nat.zero_le _, rfl, by simpa [cat] using h, Bx.refl _ _ _⟩
  case round =>
    obtain ⟨j, hj, rfl, hD, hB⟩ := hrel
    by_cases hlt : j < n
    · obtain ⟨l, hjl⟩ : ∃ l, ls[j]? = some l := ⟨ls[j]'(by rw [HN.out]; exact hlt), List.getElem?_eq_getElem _⟩
      have lm : l ∈ ls := List.mem_of_getElem? hjl
      have ok := (hl l lm).bt hB.bt
      have cc := (hs.bt hB.bt hb) j l hjl
      have ct := cat_take ls j l hjl
      have lb : (ys ++ cat (ls.take j)).length + l.xs.length ≤ 1152921504606846976 := by
        have := hp (j + 1)
        rw [ct, List.length_append] at this
        rw [List.length_append]
        omega
      have TD := hide (takeD wr q o _ hD l.g l.a l.c l.xs ok.1 ok.2.1 ok.2.2.1 ok.2.2.2 lb (hT.bt (by decide) hB.bt hq) hq)
      have CT := hide ct
      clear lb ct hD h hs hl ok lm
      generalize cat (ls.take j) = cj at *
      have jn : (j : Int) < (n : Int) := by omega
      go_wp2_with fail
      refine TD.out.mono ?_
      rintro e w1 ⟨rfl, D1, B1⟩
      rw [List.append_assoc, ← CT.out] at D1
      have BB := hB.trans B1
      clear TD
      go_wp2
      go_roundw
      case rel => exact ⟨j + 1, by omega, by go_num, D1, BB⟩
      case measure => simp [intOf]; omega
    · obtain rfl : j = n := by omega
      have e : ls.take j = ls := List.take_of_length_le (by rw [HN.out]; exact Nat.le_refl _)
      rw [e] at hD
      go_wp2
      exact bodyPost_end (v := .tuple #[]) (by simp [results, Tryz.results106, go_sem]) rfl ⟨rfl, hD, hB⟩
def mx (x m : Int) : Int := bits BinOp.xor IntKind.u8 x m
def to64 (xs : List Int) : List Int := xs.take 64 ++ (List.replicate 64 0).drop (xs.take 64).length
def maskL (xs : List Int) (m : Int) : List Int := (to64 xs).map (mx · m)
theorem to64_len (xs : List Int) : (to64 xs).length = 64 := by
  unfold to64
  rw [List.length_append, List.length_drop, List.length_replicate, List.length_take]
  omega
theorem to64_get (xs : List Int) {i : Nat} (h : i < 64) : (to64 xs).getD i 0 = xs.getD i 0 := by
  unfold to64
  by_cases hi : i < (xs.take 64).length
  · rw [List.getD_eq_getElem?_getD, List.getElem?_append, if_pos hi, List.getElem?_take, if_pos h, List.getD_eq_getElem?_getD]
  · have : xs.length ≤ i := by rw [List.length_take] at hi; omega
    rw [List.getD_eq_getElem?_getD, List.getElem?_append, if_neg hi, List.getElem?_drop, List.getElem?_replicate, List.getD_eq_getElem?_getD, List.getElem?_eq_none this]
    split <;> simp
theorem maskL_len (xs : List Int) (m : Int) : (maskL xs m).length = 64 := by unfold maskL; rw [List.length_map, to64_len]
theorem maskL_get (xs : List Int) (m : Int) {i : Nat} (h : i < 64) : (maskL xs m).getD i 0 = mx (xs.getD i 0) m := by
  rw [← to64_get xs h]
  unfold maskL
  have := to64_len xs
  simp [List.getD_eq_getElem?_getD, show i < (to64 xs).length by omega]
theorem mx_in {m : Int} (hm : m = 54 ∨ m = 92) {x : Int} (h : 0 ≤ x ∧ x < 256) : 0 ≤ mx x m ∧ mx x m < 256 := by
  have h1 : ∀ n : Fin 256, 0 ≤ mx (n.val : Int) 54 ∧ mx (n.val : Int) 54 < 256 := by decide +kernel
  have h2 : ∀ n : Fin 256, 0 ≤ mx (n.val : Int) 92 ∧ mx (n.val : Int) 92 < 256 := by decide +kernel
  obtain ⟨k, rfl⟩ := Int.eq_ofNat_of_zero_le h.1
  rcases hm with rfl | rfl
  · exact h1 ⟨k, by omega⟩
  · exact h2 ⟨k, by omega⟩
theorem maskL_byt {xs : List Int} (h : Byt xs) {m : Int} (hm : m = 54 ∨ m = 92) : Byt (maskL xs m) := by
  intro i
  by_cases c : i < 64
  · rw [maskL_get xs m c]
    exact mx_in hm (h i)
  · rw [List.getD_eq_getElem?_getD, List.getElem?_eq_none (by rw [maskL_len]; omega)]
    simp
end Go.Proofs.YtmfajpplagbfcaaGreatDoor
namespace Go.Proofs.YtmfajpplagbfcaaGreatDoor
set_option maxRecDepth 100000
open Go Go.RowKit
theorem copy_minK {P : Program} (w : World) (ty rt e : TypeId) (hu : P.underlying ty = some (.slice e)) (hsz : (P.info? e).map (·.size) = some 1) {g : Nat} {k : IntKind} {zs : List Int} (hB : Blk w g k zs)
    (gs : Nat) (sp : Option Addr) (ys : List Int) (hr : Rd w gs sp k ys) (dc sc : Nat) :
    ∃ w2, (Builtin.copy_ #[ty, ty] rt #[.slice (some ⟨g, 0, none⟩) zs.length dc, .slice sp ys.length sc]).run P w = .ok (goInt (ys.take zs.length).length) w2 ∧ Blk w2 g k (ys.take zs.length ++ zs.drop (ys.take zs.length).length) ∧ Only g w w2 := by
  by_cases h0 : 0 < ys.length
  · obtain ⟨off, rfl, hc⟩ := hr h0
    obtain ⟨t, hB⟩ := hB
    have hrun := run_copy_row (P := P) w ty ty rt e g 0 zs.length dc ⟨gs, off, none⟩ ys.length sc _ t ((ys.take zs.length).map (Value.int k)) hu hsz hB (by simp [Nat.min_comm])
      (fun j v hj => by
        have hjl : j < (ys.take zs.length).length := by
          have := (List.getElem?_eq_some_iff.1 hj).1
          simpa using this
        have hj1 : j < ys.length := by simp at hjl; omega
        have hj2 : j < zs.length := by simp at hjl; omega
        rw [add_mid, hc j hj1]
        simpa [hj1, hj2, List.getElem?_take] using hj) (by simp; omega) (oneCells _ _)
    rw [List.length_map] at hrun
    refine ⟨_, hrun, ⟨t, ?_⟩, ⟨rfl, rfl, rfl, by simp, fun i hi => setRow_other w g i _ hi⟩⟩
    rw [setRow_heap w g _ _ t _ hB]
    simp
  · obtain rfl : ys = [] := List.eq_nil_of_length_eq_zero (by omega)
    exact ⟨w, by simpa using run_copy_none (P := P) w ty ty rt e _ _ _ _ _ _ hu hsz (by simp), by simpa using hB, Only.refl _ _⟩
set_option maxHeartbeats 2000000 in
theorem maskedKey_any (w : World) (g : Nat) (a : Option Addr) (c : Nat) (xs : List Int) (ha : Rd w g a .u8 xs) (m : Int) (hx : Byt xs) (hm : m = 54 ∨ m = 92) :
    Calls Tryz.prog 105 #[.slice a xs.length c, .int .u8 m] w fun e w' => NewRow w.heap.size w' e .u8 (maskL xs m) ∧ Below w.heap.size w w' := by
  obtain ⟨i0, hi, hz0, hz1, hz2⟩ := info_parts Tryz.info5
  have hsz : (Tryz.prog.info? 5).map (·.size) = some 1 := by rw [hi]; simp [hz1]
  have ML := hide (maskL_len xs m)
  have TL := hide (to64_len xs)
  have m0 : 0 ≤ m ∧ m < 256 := by omega
  go_enter Tryz.func105, Tryz.ntmps105
  go_wp2_with (at_make; refine wpList_make_full _ rfl _ _ 22 rfl w.heap.size 5 i0 (.int .u8 0) 1 Tryz.underlying22 hi hz0 hz1 .i64 .i64 _ _ 64 rfl rfl rfl rfl (by rw [hz2]; omega) (by unfold maxLen; omega) (Nat.le_refl _) ?_; intro w1 hown hgrow)
  have hB := Blk.of_made hown
  have hN : Below w.heap.size w w1 := (Below.refl _ _).grown hgrow (Nat.le_refl _) (by simp)
  obtain ⟨w2, hrun, hB2, hO⟩ := copy_minK (P := Tryz.prog) w1 22 3 5 Tryz.underlying22 hsz hB g a xs (ha.up hN) 64 c
  rw [List.length_replicate] at hrun hB2
  have hN2 := hN.trans (hO.below (Nat.le_refl _))
  rw [hrun]
  clear hown hgrow hB hN hO hrun
  have B2 : Blk w2 w.heap.size .u8 (to64 xs) := hB2
  clear hB2
  go_wp2_with fail
  go_loopw [6, 13] (fun _ i wr => ∃ (n : Nat) (zs : List Int), n ≤ 64 ∧ i = .int .i64 n ∧ zs.length = 64 ∧ (∀ j, j < 64 → zs.getD j 0 = if j < n then mx (xs.getD j 0) m else xs.getD j 0) ∧ Blk wr w.heap.size .u8 zs ∧ Below w.heap.size w wr) (fun _ i _ => 64 - (intOf i).toNat)
  case atStart => exact ⟨0, _, Nat.zero_le _, rfl, TL.out, fun j hj => by rw [if_neg (by omega)]; exact to64_get xs hj, B2, hN2⟩
  case round =>
    obtain ⟨n, zs, hn, rfl, hz, hv, hB, hN⟩ := hrel
    clear B2 hN2
    by_cases hlt : n < 64
    · have v0 := hv n hlt
      rw [if_neg (by omega)] at v0
      have c0 := hB.cell (i := n) (by omega)
      rw [v0] at c0
      have f0 := hB.free n
      have x0 := hx n
      have S0 := hB.store n (mx (xs.getD n 0) m)
      have V' : ∀ j, j < 64 → (zs.set n (mx (xs.getD n 0) m)).getD j 0 = if j < n + 1 then mx (xs.getD j 0) m else xs.getD j 0 := by
        intro j hj
        by_cases e : n = j
        · subst e
          rw [getD_set_self _ _ _ (by omega), if_pos (by omega)]
        · rw [getD_set_ne _ _ _ _ e, hv j hj]
          by_cases c : j < n
          · rw [if_pos c, if_pos (by omega)]
          · rw [if_neg c, if_neg (by omega)]
      have VH := hide V'
      have LH : Hid ((zs.set n (mx (xs.getD n 0) m)).length = 64) := by show _ = _; rw [List.length_set]; exact hz
      have N' : Below w.heap.size w (wr.setCell ⟨w.heap.size, n, none⟩ (.int .u8 (mx (xs.getD n 0) m))) := hN.trans ((Only.setCell wr w.heap.size n _).below (Nat.le_refl _))
      have nn : (n : Int) < 64 := by omega
      unfold mx at S0 N' VH LH
      clear hv v0 V' hB hz hN
      generalize xs.getD n 0 = x at *
      go_wp2
      go_roundw
      case rel => exact ⟨n + 1, _, by omega, by go_num, LH.out, VH.out, S0, N'⟩
      case measure => simp [intOf]; omega
    · obtain rfl : n = 64 := by omega
      obtain rfl : zs = maskL xs m := eq_of_getD (by rw [hz, ML.out]) (fun i hi => by rw [hv i (by omega), if_pos (by omega), maskL_get xs m (by omega)])
      clear hv hz
      go_wp2
      go_ret
      exact ⟨⟨_, 64, w.heap.size, by rw [ML.out]; rfl, hB.own0, by simp, by rw [ML.out]; exact Nat.le_refl _, Nat.le_refl _⟩, hN⟩
theorem lsts_one (w : World) (t : TypeId) (l : Lst) : Lsts (w.alloc (.cells #[.slice l.a l.xs.length l.c] t)) w.heap.size [l] := by
  intro j x hj
  match j, hj with
  | 0, hj =>
    simp only [List.getElem?_cons_zero, Option.some.injEq] at hj
    subst hj
    simp [World.cell?_alloc_at]
theorem Lsts.up {w w' : World} {b : Nat} {ls : List Lst} (h : Lsts w b ls) (n : Below w.heap.size w w') : Lsts w' b ls := fun j l hj => by
  have := h j l hj
  rw [World.cell?_of_block (a := ⟨b, j, none⟩) (n.block b (block_lt_of_cell this))]
  exact this
theorem cat_one (l : Lst) : cat [l] = l.xs := by simp [cat]
set_option maxRecDepth 20000 in
set_option maxHeartbeats 8000000 in
theorem behindD (w : World) (b : Nat) (l : Lst) (hs : Lsts w b [l]) (hl : Rd w l.g l.a .u8 l.xs ∧ Byt l.xs ∧ l.xs.length ≤ l.c) (hn : l.xs.length ≤ 1099511627776) (hS : HasT w 0 stLh) (hT : HasT w 1 kL) :
    Calls Tryz.prog 104 #[.slice (some ⟨b, 0, none⟩) 1 1] w fun e w' => (∃ vs, e = .returned (.agg vs.toArray) ∧ HV vs l.xs) ∧ Below w.heap.size w w' := by
  have NH := hide (fun V (n : Below w.heap.size w V) => newHashing_32 V (hS.up n))
  have V0 := HV.start
  generalize hcl .u32 0 start32 (List.replicate 128 0) = vs at *
  have gl : 1 < w.heap.size := block_lt_of_cell (hT 0 (by decide))
  have bl : b < w.heap.size := block_lt_of_cell (hs 0 l rfl)
  have ll : 0 < l.xs.length → l.g < w.heap.size := fun h => hl.1.lt h
  obtain ⟨d, hd, hrow⟩ := rowH_32
  go_enter Tryz.func104, Tryz.ntmps104
  go_upto_region 1 with fail
  change Code.wp _ _ _ _ (w.alloc zH32)
  have n0 : Below w.heap.size w (w.alloc zH32) := (Below.refl _ _).alloc (Nat.le_refl _) _
  have TH0 := (HB.zero32 w).there
  have z0 : (w.alloc zH32).heap.size = w.heap.size + 1 := by simp
  generalize w.alloc zH32 = wa at *
  go_wp2_with fail
  refine (NH.out wa n0).mono ?_
  rintro r w1 ⟨rfl, n1⟩
  clear NH
  have z1 := n1.size
  have HZ := HB.zero32 w1
  have TH := HZ.there
  have na : Below w1.heap.size w1 (w1.alloc zH32) := (Below.refl _ _).alloc (Nat.le_refl _) _
  have L1 := hide V0.len
  have O1 : vs.toArray.all (·.oneCell') = true := all_oneCell_toArray V0.one
  have sm := World.rangeAt_setCells_same (w1.alloc zH32) w1.heap.size 0 vs (by rw [L1.out]; exact TH)
  have th2 := World.there_setCells TH w1.heap.size 0 vs
  have O2 := only_setCells (w1.alloc zH32) w1.heap.size vs 0
  have H2 := V0.at sm th2
  have n2 : Below wa.heap.size wa ((w1.alloc zH32).setCells w1.heap.size 0 vs) := (nxt n1 na).trans (O2.below (by omega))
  have N2 := nxt n0 n2
  have lq := hide (show w.heap.size + 1 ≤ w1.heap.size by omega)
  clear HZ sm th2 O2 na n1 z1
  go_upto_region 2 with (refine wpList_store_mid rfl 76 (.tmp 3) (.tmp 4) rfl w1.heap.size 0 vs.toArray rfl rfl ?hth ?hin ?hon ?_)
  case hth => exact (show (w1.alloc zH32).there w1.heap.size 0 vs.length by rw [L1.out]; exact TH)
  case hin => show _ = some vs.length; rw [L1.out]; exact infoH_32
  case hon => exact O1
  change Code.wp _ _ _ _ ((w1.alloc zH32).setCells w1.heap.size 0 vs)
  generalize (w1.alloc zH32).setCells w1.heap.size 0 vs = w2 at *
  have TA := takeAllD w2 w1.heap.size 0 [] H2 b 1 1 [l] rfl (by omega) (hs.up N2) (fun x hx => by
    rw [List.mem_singleton] at hx
    subst hx
    exact ⟨hl.1.up N2, hl.2.1, hl.2.2, fun h => by have := ll h; have := lq.out; omega⟩) (by have := lq.out; omega) (by rw [cat_one]; simp; omega) (hT.up N2) (by have := lq.out; omega)
  rw [cat_one, List.nil_append] at TA
  have TAH := hide TA
  have h2 := H2.lt
  have TH0' := there_upn (by omega) TH0 n2
  clear TA H2 TH n2 TH0 V0 O1
  go_wp2_with fail
  refine TAH.out.mono ?_
  rintro r w3 ⟨rfl, H3, B3⟩
  have N3 : Below w.heap.size w w3 := N2.trans (B3.bt.below (by have := lq.out; omega) N2.size)
  have hb3 := B3.bt.block w.heap.size (by have := lq.out; omega) (by have := lq.out; omega)
  have TH3 : w3.there w.heap.size 0 137 := fun j hj => by
    have := TH0' j hj
    exact ⟨by rw [World.cell?_of_block (a := ⟨w.heap.size, 0 + j, none⟩) hb3]; exact this.1, by rw [World.frozen?_of_block (a := ⟨w.heap.size, 0 + j, none⟩) hb3]; exact this.2⟩
  obtain ⟨v3, V3, RG, -⟩ := H3.val
  have L3 := hide V3.len
  have O3 : v3.toArray.all (·.oneCell') = true := all_oneCell_toArray V3.one
  have RR := World.rangeAt_setCells_same w3 w.heap.size 0 v3 (by rw [L3.out]; exact TH3)
  have N4 : Below w.heap.size w (w3.setCells w.heap.size 0 v3) := N3.trans ((only_setCells w3 w.heap.size v3 0).below (Nat.le_refl _))
  have VH := hide V3
  clear TAH H3 B3 hb3 TH0' N2 V3
  go_wp2_with (first
    | (refine wpList_load_mid rfl 76 (.tmp 3) rfl w1.heap.size 0 rfl v3 d RG hd hrow (by rw [L3.out]; exact infoH_32) ?_)
    | (refine wpList_store_mid rfl 76 (.tmp 2) (.tmp 7) rfl w.heap.size 0 v3.toArray rfl rfl ?hth ?hin ?hon ?_))
  case hth => show w3.there w.heap.size 0 v3.length; rw [L3.out]; exact TH3
  case hin => show _ = some v3.length; rw [L3.out]; exact infoH_32
  case hon => exact O3
  exact bodyPost_ret (v := .agg v3.toArray) (results_cell_m Tryz.results104 _ _ w.heap.size v3 d rfl RR hd hrow (by rw [L3.out]; exact infoH_32)) rfl ⟨⟨v3, rfl, VH.out⟩, N4⟩
theorem fold_set : ∀ (vs : List Value) (k off : Nat) (cells : List Value), off + k + vs.length ≤ cells.length → (vs.zipIdx k).foldl (fun (cs : Array Value) (p : Value × Nat) => cs.setIfInBounds (off + p.2) p.1) cells.toArray = (cells.take (off + k) ++ (vs ++ cells.drop (off + k + vs.length))).toArray
  | [], k, off, cells, h => by simp
  | v :: vs, k, off, cells, h => by
    rw [List.length_cons] at h
    rw [List.zipIdx_cons, List.foldl_cons]
    show List.foldl _ (cells.toArray.setIfInBounds (off + k) v) _ = _
    rw [List.setIfInBounds_toArray, fold_set vs (k + 1) off (cells.set (off + k) v) (by rw [List.length_set]; omega)]
    congr 1
    rw [List.length_cons, show off + (k + 1) = off + k + 1 by omega, List.take_set, List.drop_set_of_lt (by omega), show off + k + (vs.length + 1) = off + k + 1 + vs.length by omega]
    rw [show (List.take (off + k + 1) cells).set (off + k) v = cells.take (off + k) ++ [v] by
      rw [List.take_add_one, List.getElem?_eq_getElem (by omega)]
      simp only [Option.toList_some]
      rw [List.set_append_right _ _ (by rw [List.length_take]; omega), List.length_take, Nat.min_eq_left (by omega), Nat.sub_self]
      rfl]
    simp
theorem zeroK : ((Tryz.prog.info? 137).bind (·.zero)).map (·.cells.size) = some 274 := by kernel_rfl
theorem placesK : (match Tryz.prog.underlying 137 with | some (.struct fs) => fs.toList.mapM (fun f => (Tryz.prog.info? f.type).map fun i => (f.offset, i.size)) | _ => none) = some [(0, 137), (137, 137)] := by kernel_rfl
theorem builtK (v1 v2 : List Value) (h1 : v1.length = 137) (h2 : v2.length = 137) : Tryz.prog.built 137 [(0, .agg v1.toArray), (1, .agg v2.toArray)] = some (v1 ++ v2).toArray := by
  have hz := zeroK
  have hp := placesK
  unfold Program.built
  cases hit : Tryz.prog.info? 137 with
  | none => rw [hit] at hz; simp at hz
  | some it =>
    rw [hit] at hz
    cases hzz : it.zero with
    | none => simp [hzz] at hz
    | some z =>
      simp only [Option.bind_some, hzz, Option.map_some, Option.some.injEq] at hz
      cases hu : Tryz.prog.underlying 137 with
      | none => rw [hu] at hp; simp at hp
      | some dd =>
        rw [hu] at hp
        cases dd with
        | struct fs =>
          simp only at hp
          simp only [hzz, hp]
          obtain ⟨zl, hzl⟩ : ∃ l, z.cells = List.toArray l := ⟨z.cells.toList, by simp⟩
          have zn : zl.length = 274 := by rw [hzl] at hz; simpa using hz
          rw [hzl]
          have F1 := fold_set v1 0 0 zl (by omega)
          have F2 := fold_set v2 0 137 (v1 ++ zl.drop 137) (by rw [List.length_append, List.length_drop]; omega)
          simp only [Nat.add_zero, Nat.zero_add, List.take_zero, List.nil_append, h1] at F1
          have e2 : ((v1 ++ zl.drop 137).take 137 ++ (v2 ++ (v1 ++ zl.drop 137).drop (137 + 137))) = v1 ++ v2 := by
            rw [List.take_left' h1, List.drop_eq_nil_of_le (by rw [List.length_append, List.length_drop]; omega), List.append_nil]
          rw [h2, Nat.add_zero, e2] at F2
          simp only [Instr.fill, Value.cells, List.getElem?_toArray, List.getElem?_cons_zero, List.getElem?_cons_succ, List.size_toArray, h1, h2, zn]
          rw [if_neg (by simp)]
          simp only [← Array.foldl_toList, Array.toList_zipIdx, Nat.zero_add]
          rw [F1]
          rw [if_neg (by simp; omega)]
          rw [F2]
        | _ => simp at hp
theorem infoK : (Tryz.prog.info? 137).map (·.size) = some 274 := by kernel_rfl
theorem rowK : ∃ d, Tryz.prog.underlying 137 = some d ∧ d.isRow = true := by
  have h : (Tryz.prog.underlying 137).map (·.isRow) = some true := by kernel_rfl
  cases hq : Tryz.prog.underlying 137 with
  | none => rw [hq] at h; simp at h
  | some d => rw [hq] at h; exact ⟨d, rfl, by simpa using h⟩
abbrev zK : Obj := .cells (List.toArray (.int .i64 0 :: .int .u32 0 :: .int .u32 0 :: .int .u32 0 :: .int .u32 0 :: .int .u32 0 :: .int .u32 0 :: .int .u32 0 :: .int .u32 0 :: .int .u8 0 :: .int .u8 0 :: .int .u8 0 :: .int .u8 0 :: .int .u8 0 :: .int .u8 0 :: .int .u8 0 :: .int .u8 0 :: .int .u8 0 :: .int .u8 0 :: .int .u8 0 :: .int .u8 0 :: .int .u8 0 :: .int .u8 0 :: .int .u8 0 :: .int .u8 0 :: .int .u8 0 :: .int .u8 0 :: .int .u8 0 :: .int .u8 0 :: .int .u8 0 :: .int .u8 0 :: .int .u8 0 :: .int .u8 0 :: .int .u8 0 :: .int .u8 0 :: .int .u8 0 :: .int .u8 0 :: .int .u8 0 :: .int .u8 0 :: .int .u8 0 :: .int .u8 0 :: .int .u8 0 :: .int .u8 0 :: .int .u8 0 :: .int .u8 0 :: .int .u8 0 :: .int .u8 0 :: .int .u8 0 :: .int .u8 0 :: .int .u8 0 :: .int .u8 0 :: .int .u8 0 :: .int .u8 0 :: .int .u8 0 :: .int .u8 0 :: .int .u8 0 :: .int .u8 0 :: .int .u8 0 :: .int .u8 0 :: .int .u8 0 :: .int .u8 0 :: .int .u8 0 :: .int .u8 0 :: .int .u8 0 :: .int .u8 0 :: .int .u8 0 :: .int .u8 0 :: .int .u8 0 :: .int .u8 0 :: .int .u8 0 :: .int .u8 0 :: .int .u8 0 :: .int .u8 0 :: .int .u8 0 :: .int .u8 0 :: .int .u8 0 :: .int .u8 0 :: .int .u8 0 :: .int .u8 0 :: .int .u8 0 :: .int .u8 0 :: .int .u8 0 :: .int .u8 0 :: .int .u8 0 :: .int .u8 0 :: .int .u8 0 :: .int .u8 0 :: .int .u8 0 :: .int .u8 0 :: .int .u8 0 :: .int .u8 0 :: .int .u8 0 :: .int .u8 0 :: .int .u8 0 :: .int .u8 0 :: .int .u8 0 :: .int .u8 0 :: .int .u8 0 :: .int .u8 0 :: .int .u8 0 :: .int .u8 0 :: .int .u8 0 :: .int .u8 0 :: .int .u8 0 :: .int .u8 0 :: .int .u8 0 :: .int .u8 0 :: .int .u8 0 :: .int .u8 0 :: .int .u8 0 :: .int .u8 0 :: .int .u8 0 :: .int .u8 0 :: .int .u8 0 :: .int .u8 0 :: .int .u8 0 :: .int .u8 0 :: .int .u8 0 :: .int .u8 0 :: .int .u8 0 :: .int .u8 0 :: .int .u8 0 :: .int .u8 0 :: .int .u8 0 :: .int .u8 0 :: .int .u8 0 :: .int .u8 0 :: .int .u8 0 :: .int .u8 0 :: .int .u8 0 :: .int .u8 0 :: .int .u8 0 :: .int .u8 0 :: .int .u8 0 :: .int .u8 0 :: .int .u8 0 :: .int .u8 0 :: .int .i64 0 :: .int .u32 0 :: .int .u32 0 :: .int .u32 0 :: .int .u32 0 :: .int .u32 0 :: .int .u32 0 :: .int .u32 0 :: .int .u32 0 :: .int .u8 0 :: .int .u8 0 :: .int .u8 0 :: .int .u8 0 :: .int .u8 0 :: .int .u8 0 :: .int .u8 0 :: .int .u8 0 :: .int .u8 0 :: .int .u8 0 :: .int .u8 0 :: .int .u8 0 :: .int .u8 0 :: .int .u8 0 :: .int .u8 0 :: .int .u8 0 :: .int .u8 0 :: .int .u8 0 :: .int .u8 0 :: .int .u8 0 :: .int .u8 0 :: .int .u8 0 :: .int .u8 0 :: .int .u8 0 :: .int .u8 0 :: .int .u8 0 :: .int .u8 0 :: .int .u8 0 :: .int .u8 0 :: .int .u8 0 :: .int .u8 0 :: .int .u8 0 :: .int .u8 0 :: .int .u8 0 :: .int .u8 0 :: .int .u8 0 :: .int .u8 0 :: .int .u8 0 :: .int .u8 0 :: .int .u8 0 :: .int .u8 0 :: .int .u8 0 :: .int .u8 0 :: .int .u8 0 :: .int .u8 0 :: .int .u8 0 :: .int .u8 0 :: .int .u8 0 :: .int .u8 0 :: .int .u8 0 :: .int .u8 0 :: .int .u8 0 :: .int .u8 0 :: .int .u8 0 :: .int .u8 0 :: .int .u8 0 :: .int .u8 0 :: .int .u8 0 :: .int .u8 0 :: .int .u8 0 :: .int .u8 0 :: .int .u8 0 :: .int .u8 0 :: .int .u8 0 :: .int .u8 0 :: .int .u8 0 :: .int .u8 0 :: .int .u8 0 :: .int .u8 0 :: .int .u8 0 :: .int .u8 0 :: .int .u8 0 :: .int .u8 0 :: .int .u8 0 :: .int .u8 0 :: .int .u8 0 :: .int .u8 0 :: .int .u8 0 :: .int .u8 0 :: .int .u8 0 :: .int .u8 0 :: .int .u8 0 :: .int .u8 0 :: .int .u8 0 :: .int .u8 0 :: .int .u8 0 :: .int .u8 0 :: .int .u8 0 :: .int .u8 0 :: .int .u8 0 :: .int .u8 0 :: .int .u8 0 :: .int .u8 0 :: .int .u8 0 :: .int .u8 0 :: .int .u8 0 :: .int .u8 0 :: .int .u8 0 :: .int .u8 0 :: .int .u8 0 :: .int .u8 0 :: .int .u8 0 :: .int .u8 0 :: .int .u8 0 :: .int .u8 0 :: .int .u8 0 :: .int .u8 0 :: .int .u8 0 :: .int .u8 0 :: .int .u8 0 :: .int .u8 0 :: .int .u8 0 :: .int .u8 0 :: .int .u8 0 :: .int .u8 0 :: .int .u8 0 :: .int .u8 0 :: .int .u8 0 :: .int .u8 0 :: .int .u8 0 :: .int .u8 0 :: .int .u8 0 :: .int .u8 0 :: .int .u8 0 :: .int .u8 0 :: .int .u8 0 :: .int .u8 0 :: .int .u8 0 :: [])) 137
theorem there_alloc (w : World) (cs : List Value) (t : TypeId) : (w.alloc (.cells cs.toArray t)).there w.heap.size 0 cs.length := by
  have hh : (w.alloc (.cells cs.toArray t)).heap[w.heap.size]? = some (.cells cs.toArray t (0, 0)) := by
    show (w.heap.push _)[w.heap.size]? = _
    simp
  intro j hj
  refine ⟨?_, frozen_of_row _ _ _ _ _ hh⟩
  rw [Nat.zero_add, cell_of_row _ _ _ _ _ _ hh]
  simp [hj]
theorem range_alloc (w : World) (cs : List Value) (t : TypeId) : (w.alloc (.cells cs.toArray t)).rangeAt w.heap.size 0 cs := by
  have hh : (w.alloc (.cells cs.toArray t)).heap[w.heap.size]? = some (.cells cs.toArray t (0, 0)) := by
    show (w.heap.push _)[w.heap.size]? = _
    simp
  intro j v hv
  rw [Nat.zero_add, cell_of_row _ _ _ _ _ _ hh]
  simpa using hv
set_option maxRecDepth 20000 in
theorem thereK (w : World) : (w.alloc zK).there w.heap.size 0 274 := there_alloc w _ _
end Go.Proofs.YtmfajpplagbfcaaGreatDoor
namespace Go.Proofs.YtmfajpplagbfcaaGreatDoor
set_option maxRecDepth 100000
open Go Go.RowKit
def strL (s : ByteArray) : List Int := s.data.toList.map (fun b => (b.toNat : Int))
theorem strL_len (s : ByteArray) : (strL s).length = s.size := by unfold strL; rw [List.length_map]; rfl
theorem strL_byt (s : ByteArray) : Byt (strL s) := by
  intro j
  unfold strL
  by_cases h : j < s.data.toList.length
  · rw [List.getD_eq_getElem?_getD, List.getElem?_map, List.getElem?_eq_getElem h]
    simp only [Option.map_some, Option.getD_some]
    have := (s.data.toList[j]).toNat_lt
    omega
  · rw [List.getD_eq_getElem?_getD, List.getElem?_eq_none (by rw [List.length_map]; omega)]
    simp
theorem conv_bytes (w : World) (s : ByteArray) : ∃ (c : Nat) (w' : World), (convert 9 22 (.string s)).run Tryz.prog w = .ok (.slice (some ⟨w.heap.size, 0, none⟩) s.size c) w' ∧ Rd w' w.heap.size (some ⟨w.heap.size, 0, none⟩) .u8 (strL s) ∧ s.size ≤ c ∧ Below w.heap.size w w' ∧ w'.heap.size = w.heap.size + 1 := by
  refine ⟨_, _, Lib.run_convert_string_bytes w 9 22 5 s Tryz.underlying9 Tryz.underlying22 Tryz.underlying5, fun _ => ⟨0, rfl, fun i hi => ?_⟩, grownCap_ge w s.size 0 5, ⟨rfl, rfl, rfl, by rw [Lib.bytesWorld_size]; omega, fun b hb => Lib.bytesWorld_at_old w 5 s b hb⟩, Lib.bytesWorld_size w 5 s⟩
  rw [strL_len] at hi
  rw [Nat.zero_add, Lib.bytesWorld_cell w 5 s i hi]
  unfold strL
  have h : i < s.data.toList.length := hi
  rw [List.getD_eq_getElem?_getD, List.getD_eq_getElem?_getD, List.getElem?_map, List.getElem?_eq_getElem h]
  rfl
theorem wpList_conv_run {P : Program} (w : World) {ops : Array Oper} {rest : List Oper} {o : Oper} {a : Act} {Q : Exit → Act → World → Prop} (hgd : o.guard = none) (src dst : TypeId) (x : Operand) (ho : o.op = .convert src dst x) (v : Value) (hx : a.eval x = v)
    (v' : Value) (w' : World) (hr : (convert src dst v).run P w = .ok v' w') (h : wpList P ops Q rest (a.put o.dst v') w') : wpList P ops Q (o :: rest) a w :=
  wpList_plain hgd fun _ hK => by
    unfold Oper.wp execOp
    simp only [ho, hx]
    rw [Sem.run_bind, hr]
    exact hK _ _ h
set_option maxHeartbeats 1000000 in
theorem grow_any (w : World) (n : Nat) (h0 : 0 < n) (h1 : n ≤ 1048576) :
    Calls Tryz.prog 110 #[.slice none 0 0, .int .i64 (n : Int)] w fun e w' => ∃ v, e = .returned v ∧ RowB w' w.heap.size v [] ∧ Below w.heap.size w w' := by
  obtain ⟨i0, hi, hz0, hz1, hz2⟩ := info_parts Tryz.info5
  have hap := Lib.run_append_nil_zeros (P := Tryz.prog) w 22 3 22 5 i0 (.int .u8 0) .i64 .i64 Tryz.underlying22 Tryz.underlying3 hi hz0 n h0 (by omega) (by omega) (by rw [hz2]; omega)
  have ge := grownCap_ge w n 0 5
  have le : grownCap w n 0 5 ≤ maxLen := grownCap_le_maxLen w n 0 5 (by unfold maxLen; omega)
  have R : RowB (w.drew.alloc (.cells (Builtin.zeroCells (Value.int .u8 0).cells n ++ Builtin.zeroCells (Value.int .u8 0).cells (grownCap w n 0 5 - n)) 5)) w.heap.size (.slice (some ⟨w.heap.size, 0, none⟩) 0 (grownCap w n 0 5)) [] :=
    ⟨rfl, .inr ⟨w.heap.size, grownCap w n 0 5, _, rfl, Nat.le_refl _, _root_.Go.heap_alloc_new w.drew _, Nat.zero_le _, le, by rw [Array.size_append, size_zeroCells, size_zeroCells]; show n * 1 + (grownCap w n 0 5 - n) * 1 = _; omega, by simp⟩⟩
  have nb : Below w.heap.size w (w.drew.alloc (.cells (Builtin.zeroCells (Value.int .u8 0).cells n ++ Builtin.zeroCells (Value.int .u8 0).cells (grownCap w n 0 5 - n)) 5)) := ((Below.refl _ _).drew).alloc (Nat.le_refl _) _
  generalize w.drew.alloc (.cells (Builtin.zeroCells (Value.int .u8 0).cells n ++ Builtin.zeroCells (Value.int .u8 0).cells (grownCap w n 0 5 - n)) 5) = w' at *
  generalize grownCap w n 0 5 = cp at *
  have n0 : decide ((n : Int) < 0) = false := by simp
  have n1 : decide ((0 : Int) < (n : Int)) = true := by simp; omega
  have n2 : decide (0 < n) = true := by simpa using h0
  clear ge le
  go_enter Tryz.func110, Tryz.ntmps110
  go_wp2_with (at_builtin; refine Lib.wpList_append_run _ rfl _ _ 22 3 rfl _ _ rfl rfl _ _ hap ?_)
  go_ret
  exact ⟨_, rfl, R, nb⟩
theorem cat_len_le (ls : List Lst) (j : Nat) : (cat (ls.take j)).length ≤ (cat ls).length := by
  have : cat ls = cat (ls.take j) ++ cat (ls.drop j) := by
    unfold cat
    rw [← List.flatten_append, ← List.map_append, List.take_append_drop]
  rw [this, List.length_append]
  omega
set_option maxHeartbeats 4000000 in
theorem concat_any (w : World) (b n c : Nat) (ls : List Lst) (hn : ls.length = n) (hm : n ≤ 1000) (hs : Lsts w b ls) (hl : ∀ l ∈ ls, Rd w l.g l.a .u8 l.xs ∧ (l.a = none → l.c = 0)) (h0 : 0 < (cat ls).length) (h1 : (cat ls).length ≤ 1048576) :
    Calls Tryz.prog 108 #[.slice (some ⟨b, 0, none⟩) n c] w fun e w' => NewRow w.heap.size w' e .u8 (cat ls) ∧ Below w.heap.size w w' := by
  obtain ⟨i0, hi, hz0, hz1, hz2⟩ := info_parts Tryz.info5
  have HN := hide hn
  clear hn
  obtain ⟨rs, hrs⟩ : ∃ l, l = cat ls := ⟨_, rfl⟩
  have HR := hide hrs
  rw [← hrs] at h0 h1 ⊢
  clear hrs
  have GR := hide (grow_any w rs.length h0 h1)
  go_enter Tryz.func108, Tryz.ntmps108
  go_wp2
  go_loopw [3, 5, 11] (fun s _ i wr => ∃ (j : Nat), j ≤ n ∧ i = .int .i64 j ∧ s = .int .i64 ((cat (ls.take j)).length : Int) ∧ w = wr) (fun _ _ i _ => n - (intOf i).toNat)
  case atStart => exact ⟨0, Nat.zero_le _, rfl, rfl, rfl⟩
  case round =>
    obtain ⟨j, hj, rfl, rfl, rfl⟩ := hrel
    by_cases hlt : j < n
    · obtain ⟨l, hjl⟩ : ∃ l, ls[j]? = some l := ⟨ls[j]'(by rw [HN.out]; exact hlt), List.getElem?_eq_getElem _⟩
      have cc := hs j l hjl
      have ct := cat_take ls j l hjl
      have lb := cat_len_le ls (j + 1)
      rw [← HR.out, ct, List.length_append] at lb
      have CT : Hid ((cat (ls.take (j + 1))).length = (cat (ls.take j)).length + l.xs.length) := by show _ = _; rw [ct, List.length_append]
      clear ct
      generalize (cat (ls.take j)).length = cj at *
      have jn : (j : Int) < (n : Int) := by omega
      have c0 : decide ((cj : Int) + (l.xs.length : Int) < 0) = false := by simp; omega
      go_wp2
      go_roundw
      case rel => exact ⟨j + 1, by omega, by go_num, by rw [CT.out]; go_num, by trivial⟩
      case measure => simp [intOf]; omega
    · obtain rfl : j = n := by omega
      have e : ls.take j = ls := List.take_of_length_le (by rw [HN.out]; exact Nat.le_refl _)
      rw [e, ← HR.out]
      clear e
      go_wp2_with fail
      refine GR.out.mono ?_
      rintro r w1 ⟨v1, rfl, R1, n1⟩
      go_wp2
      go_loopw [6, 8, 27] (fun v _ i wq => ∃ (k : Nat), k ≤ j ∧ i = .int .i64 k ∧ RowB wq w.heap.size v (cat (ls.take k)) ∧ Below w.heap.size w wq) (fun _ _ i _ => j - (intOf i).toNat)
      case atStart => exact ⟨0, Nat.zero_le _, rfl, R1, n1⟩
      case round =>
        obtain ⟨k, hk, rfl, R, hN⟩ := hrel
        clear R1 n1 GR
        by_cases hlt2 : k < j
        · obtain ⟨l, hjl⟩ : ∃ l, ls[k]? = some l := ⟨ls[k]'(by rw [HN.out]; exact hlt2), List.getElem?_eq_getElem _⟩
          have lm : l ∈ ls := List.mem_of_getElem? hjl
          have cc := (hs.up hN) k l hjl
          have ct := cat_take ls k l hjl
          have lb := cat_len_le ls (k + 1)
          rw [← HR.out, ct, List.length_append] at lb
          obtain ⟨v', w2, hap, o2, n2⟩ := append_any (P := Tryz.prog) wr 22 i0 Tryz.underlying22 hi hz0 hz1 hz2 w.heap.size w.heap.size _ _ R l.g l.a l.c l.xs ((hl l lm).1.up hN) (hl l lm).2 (by omega) (Nat.le_refl _) hN.size
          rw [← ct] at o2
          have N2 := hN.trans n2
          have kj : (k : Int) < (j : Int) := by omega
          clear ct lb R n2
          go_wp2_with (at_builtin; refine Lib.wpList_append_run _ rfl _ _ 22 22 rfl _ _ rfl rfl _ _ hap ?_)
          clear hap
          go_roundw
          case rel => exact ⟨k + 1, by omega, by go_num, o2, N2⟩
          case measure => simp [intOf]; omega
        · obtain rfl : k = j := by omega
          have e : ls.take k = ls := List.take_of_length_le (by rw [HN.out]; exact Nat.le_refl _)
          rw [e, ← HR.out] at R
          obtain ⟨a4, c4, g4, rfl, o4, p4, q4, r4⟩ := R.own
          clear e R
          go_wp2
          go_ret
          exact ⟨⟨a4, c4, g4, rfl, o4, p4, q4, r4⟩, hN⟩
end Go.Proofs.YtmfajpplagbfcaaGreatDoor
namespace Go.Proofs.YtmfajpplagbfcaaGreatDoor
set_option maxRecDepth 100000
open Go Go.RowKit
def Ty5 (w : World) (g : Nat) : Prop := ∃ cur, w.heap[g]? = some (.cells cur 5 (0, 0))
theorem Ty5.of_made {w : World} {base g n : Nat} {xs : List Value} (h : w.ownsRow base 5 1 (.slice (some ⟨g, 0, none⟩) n n) n xs) : Ty5 w g := by
  rcases h.2 with ⟨h', _⟩ | ⟨g', cap', cur, h', _, hg, _⟩
  · simp at h'
  · simp only [Value.slice.injEq, Option.some.injEq, Addr.mk.injEq, and_true, true_and] at h'
    obtain ⟨rfl, rfl⟩ := h'
    exact ⟨cur, hg⟩
theorem Ty5.set {w : World} {g : Nat} (h : Ty5 w g) (i : Nat) (v : Value) : Ty5 (w.setCell ⟨g, i, none⟩ v) g := by
  obtain ⟨cur, h⟩ := h
  exact ⟨_, heap_setCell_same w g i _ 5 _ h⟩
end Go.Proofs.YtmfajpplagbfcaaGreatDoor
