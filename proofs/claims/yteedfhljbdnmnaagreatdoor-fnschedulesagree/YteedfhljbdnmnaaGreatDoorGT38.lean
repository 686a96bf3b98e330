import Derived.Test.YteedfhljbdnmnaaGreatDoorGT36
import Derived.Test.YteedfhljbdnmnaaGreatDoorGT37
import Derived.Lib.AppendZeros
import Derived.Laws.Strings
import Derived.Deep.WholeRow
import Derived.Test.YteedfhljbdnmnaaGreatDoorGT35
import Derived.Deep.RegionHeld3
import Derived.Test.YteedfhljbdnmnaaGreatDoorGT1
import Derived.Lib.AppendZerosOnto
import Derived.Test.YteedfhljbdnmnaaGreatDoorGT18
import Derived.Test.YteedfhljbdnmnaaGreatDoorGT19
import Derived.Deep.RegionWith
import Derived.Test.YteedfhljbdnmnaaGreatDoorGT11
import Derived.Test.YteedfhljbdnmnaaGreatDoorGT33
import Derived.Test.YteedfhljbdnmnaaGreatDoorGT28
import Derived.Test.YteedfhljbdnmnaaGreatDoorGT9
import Derived.Test.YteedfhljbdnmnaaGreatDoorGT29
import Derived.Deep.MidRow
import Derived.Test.YteedfhljbdnmnaaGreatDoorGT34
namespace Go.Proofs.YteedfhljbdnmnaaGreatDoor
set_option maxRecDepth 100000
open Go.RowKit
theorem append_none (w : World) (ad : Addr) (n c : Nat) (h : n ≤ c) : (Builtin.append_ #[22, 3] 22 #[.slice (some ad) n c, .int .i64 0]).run Tryz.prog w = .ok (.slice (some ad) n c) w := by
  obtain ⟨i0, hi, hz0, _, hz2⟩ := info_parts Tryz.info5
  have hw : IntKind.i64.wrap 0 = 0 := by decide
  simp [Builtin.append_, run_underlying Tryz.underlying22, run_underlying Tryz.underlying3, sizeOf, typeInfo, zeroValue, hi, hz0, hz2, asInt, asIntOf, hw, h, storeCells]
theorem str_data : ∀ (xs : List Int) (acc : ByteArray), (xs.foldl (fun r n => r.push (UInt8.ofNat n.toNat)) acc).data = acc.data ++ (xs.map (fun n => UInt8.ofNat n.toNat)).toArray
  | [], acc => by simp
  | x :: r, acc => by
    rw [List.foldl_cons, str_data r]
    simp [ByteArray.push]
theorem toList_inj {s t : ByteArray} (h : s.toList = t.toList) : s = t := by
  rw [ByteArray.toList_eq, ByteArray.toList_eq] at h
  have := Array.ext' h
  cases s; cases t; simp_all
theorem copy_min {P : Program} (w : World) (ty rt e : TypeId) (hu : P.underlying ty = some (.slice e)) (hsz : (P.info? e).map (·.size) = some 1) {g : Nat} {k : IntKind} {zs : List Int} (hB : Blk w g k zs)
    (gs : Nat) (sp : Option Addr) (ys : List Int) (hr : Rd w gs sp k ys) (dc sc : Nat) :
    ∃ w2, (Builtin.copy_ #[ty, ty] rt #[.slice (some ⟨g, 0, none⟩) zs.length dc, .slice sp ys.length sc]).run P w = .ok (goInt (ys.take zs.length).length) w2 ∧ Blk w2 g k (ys.take zs.length ++ zs.drop (ys.take zs.length).length) ∧ Only g w w2 := by
  by_cases h0 : 0 < ys.length
  · obtain ⟨off, rfl, hc⟩ := hr h0
    obtain ⟨t, hB⟩ := hB
    have hrun := run_copy_row (P := P) w ty ty rt e g 0 zs.length dc ⟨gs, off, none⟩ ys.length sc _ t ((ys.take zs.length).map (Value.int k)) hu hsz hB (by simp [Nat.min_comm])
      (fun j v hj => by
        have hjl : j < (ys.take zs.length).length := by
          have := (List.getElem?_eq_some_iff.1 hj).1
          simpa using this
        have hj1 : j < ys.length := by simp at hjl; omega
        have hj2 : j < zs.length := by simp at hjl; omega
        rw [add_mid, hc j hj1]
        simpa [hj1, hj2, List.getElem?_take] using hj) (by simp; omega) (oneCells _ _)
    rw [List.length_map] at hrun
    refine ⟨_, hrun, ⟨t, ?_⟩, ⟨rfl, rfl, rfl, by simp, fun i hi => setRow_other w g i _ hi⟩⟩
    rw [setRow_heap w g _ _ t _ hB]
    simp
  · obtain rfl : ys = [] := List.eq_nil_of_length_eq_zero (by omega)
    exact ⟨w, by simpa using run_copy_none (P := P) w ty ty rt e _ _ _ _ _ _ hu hsz (by simp), by simpa using hB, Only.refl _ _⟩
theorem str_inj {xs ys : List Int} (hx : Byt xs) (hy : Byt ys) (h : str xs = str ys) : xs = ys := by
  have h1 : (xs.map (fun n => UInt8.ofNat n.toNat)) = (ys.map (fun n => UInt8.ofNat n.toNat)) := by
    have := congrArg ByteArray.data h
    unfold str at this
    rw [str_data, str_data] at this
    simpa using this
  have hl : xs.length = ys.length := by have := congrArg List.length h1; simpa using this
  refine eq_of_getD hl (fun i hi => ?_)
  have h2 : (xs.map (fun n => UInt8.ofNat n.toNat))[i]? = (ys.map (fun n => UInt8.ofNat n.toNat))[i]? := by rw [h1]
  have a := hx i
  have b := hy i
  have hi' : i < ys.length := by omega
  simp [hi, hi'] at h2 a b ⊢
  have h3 := congrArg UInt8.toNat h2
  simp at h3
  omega
set_option maxHeartbeats 1000000 in
theorem l1Shift1_any (w : World) (g : Nat) (a : Option Addr) (c : Nat) (xs : List Int) (ha : Rd w g a .u8 xs) (hb : Byt xs) (hc : a = none → c = 0) (hl : xs.length ≤ 64) (h0 : 0 < xs.length) :
    Calls Tryz.prog 83 #[.slice a xs.length c, .int .i64 1] w fun e w' => ∃ ys, Canon ys (bval xs * 2) ∧ NewRow w.heap.size w' e .u8 ys ∧ Below w.heap.size w w' := by
  go_enter Tryz.func83, Tryz.ntmps83
  go_wp2_with fail
  refine (l1Copy_any w g a c xs ha hc (by omega)).mono ?_
  rintro e w1 ⟨⟨a1, c1, g1, rfl, o1, p1, q1, r1⟩, n1⟩
  obtain ⟨off, rfl, _⟩ := o1 h0
  have hap := append_none w1 ⟨g1, off, none⟩ xs.length c1 q1
  go_wp2_with (at_builtin; refine Lib.wpList_append_run _ rfl _ _ 22 3 rfl _ _ rfl rfl _ _ hap ?_)
  have n2 : Below w1.heap.size w1 (w1.alloc (.cells #[.int .u8 2] 5)) := (Below.refl _ _).alloc (Nat.le_refl _) _
  have B2 : Blk (w1.alloc (.cells #[.int .u8 2] 5)) w1.heap.size .u8 [2] := ⟨5, by rw [heap_alloc_last]; rfl⟩
  generalize w1.alloc (.cells #[.int .u8 2] 5) = w2 at *
  have hb2 : Byt [2] := fun i => by
    match i with
    | 0 => decide
    | i + 1 => simp
  refine (l1Mul_any w2 g1 _ _ _ c1 1 xs [2] (o1.up n2).rd B2.own0.rd hb hb2 (by omega) (by decide)).mono ?_
  rintro e w3 ⟨ys, C, ⟨a3, c3, g3, rfl, o3, p3, q3, r3⟩, n3⟩
  have N3 := nxt (nxt n1 n2) n3
  have z := (nxt n1 n2).size
  clear hap
  go_wp2
  go_ret
  exact ⟨ys, C, ⟨a3, c3, g3, rfl, o3, p3, q3, by omega⟩, N3⟩
def to32 (xs : List Int) : List Int := xs.take 32 ++ (List.replicate 32 0).drop (xs.take 32).length
theorem to32_len (xs : List Int) : (to32 xs).length = 32 := by
  unfold to32
  rw [List.length_append, List.length_drop, List.length_replicate, List.length_take]
  omega
theorem to32_byt {xs : List Int} (h : Byt xs) : Byt (to32 xs) := by
  intro i
  unfold to32
  by_cases hi : i < (xs.take 32).length
  · have h1 := h i
    have h2 : i < 32 := by simp at hi; omega
    have e : (xs.take 32 ++ (List.replicate 32 (0 : Int)).drop (xs.take 32).length).getD i 0 = xs.getD i 0 := by
      rw [List.getD_eq_getElem?_getD, List.getElem?_append, if_pos hi, List.getElem?_take, if_pos h2, List.getD_eq_getElem?_getD]
    rw [e]; exact h1
  · rw [List.getD_eq_getElem?_getD, List.getElem?_append, if_neg hi, List.getElem?_drop, List.getElem?_replicate]
    split <;> simp
set_option maxHeartbeats 1000000 in
theorem lw32_any (w : World) (g : Nat) (a : Option Addr) (c : Nat) (xs : List Int) (ha : Rd w g a .u8 xs) :
    Calls Tryz.prog 22 #[.slice a xs.length c] w fun e w' => e = .returned (.slice (some ⟨w.heap.size, 0, none⟩) 32 32) ∧ Blk w' w.heap.size .u8 (to32 xs) ∧ Below w.heap.size w w' := by
  obtain ⟨i0, hi, hz0, hz1, hz2⟩ := info_parts Tryz.info5
  have hsz : (Tryz.prog.info? 5).map (·.size) = some 1 := by rw [hi]; simp [hz1]
  go_enter Tryz.func22, Tryz.ntmps22
  go_wp2_with (at_make; refine wpList_make_full _ rfl _ _ 22 rfl w.heap.size 5 i0 (.int .u8 0) 1 Tryz.underlying22 hi hz0 hz1 .i64 .i64 _ _ 32 rfl rfl rfl rfl (by rw [hz2]; omega) (by unfold maxLen; omega) (Nat.le_refl _) ?_; intro w1 hown hgrow)
  have hB := Blk.of_made hown
  have hN : Below w.heap.size w w1 := (Below.refl _ _).grown hgrow (Nat.le_refl _) (by simp)
  obtain ⟨w2, hrun, hB2, hO⟩ := copy_min (P := Tryz.prog) w1 22 3 5 Tryz.underlying22 hsz hB g a xs (ha.up hN) 32 c
  rw [List.length_replicate] at hrun
  have hN2 := hN.trans (hO.below (Nat.le_refl _))
  rw [hrun]
  clear hown hgrow hB hN hO hrun
  go_wp2
  go_ret
  exact ⟨rfl, hB2, hN2⟩
end Go.Proofs.YteedfhljbdnmnaaGreatDoor
namespace Go.Proofs.YteedfhljbdnmnaaGreatDoor
set_option maxRecDepth 100000
open Go.RowKit
set_option maxHeartbeats 400000 in
theorem l1Same_same (w : World) (g g' : Nat) (a b : Option Addr) (ca cb : Nat) (xs : List Int) (ha : Rd w g a .u8 xs) (hb : Rd w g' b .u8 xs) :
    Calls Tryz.prog 144 #[.slice a xs.length ca, .slice b xs.length cb] w fun e w' => e = .returned (.bool true) ∧ w' = w := by
  have h1 := conv_run w g a ca xs ha
  have h2 := conv_run w g' b cb xs hb
  generalize str xs = s at *
  go_enter Tryz.func144, Tryz.ntmps144
  go_wp2
  go_ret
  exact ⟨by simp, rfl⟩
set_option maxHeartbeats 1000000 in
theorem l1Same_diff (w : World) (g g' : Nat) (a b : Option Addr) (ca cb : Nat) (xs ys : List Int) (ha : Rd w g a .u8 xs) (hb : Rd w g' b .u8 ys) (hx : Byt xs) (hy : Byt ys) (hne : xs ≠ ys) :
    Calls Tryz.prog 144 #[.slice a xs.length ca, .slice b ys.length cb] w fun e w' => e = .returned (.bool false) ∧ w' = w := by
  have h1 := conv_run w g a ca xs ha
  have h2 := conv_run w g' b cb ys hb
  have h3 : str xs ≠ str ys := fun h => hne (str_inj hx hy h)
  clear hne
  generalize str xs = s at *
  generalize str ys = t at *
  have H3 := hide h3
  clear h3
  go_enter Tryz.func144, Tryz.ntmps144
  go_wp2
  go_ret
  have e : (s.toList == t.toList) = false := by
    cases h : (s.toList == t.toList)
    · rfl
    · exact absurd (toList_inj (beq_iff_eq.1 h)) H3.out
  exact ⟨by rw [← e]; rfl, rfl⟩
theorem l1Same_any (w : World) (g g' : Nat) (a b : Option Addr) (ca cb : Nat) (xs ys : List Int) (ha : Rd w g a .u8 xs) (hb : Rd w g' b .u8 ys) (hx : Byt xs) (hy : Byt ys) :
    Calls Tryz.prog 144 #[.slice a xs.length ca, .slice b ys.length cb] w fun e w' => e = .returned (.bool (decide (xs = ys))) ∧ w' = w := by
  by_cases h : xs = ys
  · subst h
    simpa using l1Same_same w g g' a b ca cb xs ha hb
  · have := l1Same_diff w g g' a b ca cb xs ys ha hb hx hy h
    simpa [h] using this
theorem byt_inj {x y : Int} (hx : 0 ≤ x ∧ x < PP) (hy : 0 ≤ y ∧ y < PP) (h : fill (byt x) 32 = fill (byt y) 32) : x = y := by
  have hb : ∀ i, i < 32 → byt x i = byt y i := fun i hi => by
    rw [← fill_get (byt x) 32 i hi, h, fill_get _ _ _ hi]
  have key : ∀ n, n ≤ 32 → x % 256 ^ n = y % 256 ^ n := by
    intro n
    induction n with
    | zero => intro _; simp
    | succ n ih =>
      intro hn
      have h1 := ih (by omega)
      have h2 := hb n (by omega)
      unfold byt at h2
      have s : ∀ z : Int, z % 256 ^ (n + 1) = z % 256 ^ n + 256 ^ n * (z / 256 ^ n % 256) := fun z => by
        have hA : (0 : Int) ≤ 256 ^ n := Int.le_of_lt (p256_pos n)
        have e1 := Int.emod_def z (256 ^ n * 256)
        rw [← Int.ediv_ediv_of_nonneg hA] at e1
        have e2 := Int.emod_def z (256 ^ n)
        have e3 := Int.emod_def (z / 256 ^ n) 256
        rw [Int.pow_succ, e1, e2, e3]
        generalize z / 256 ^ n / 256 = u
        generalize z / 256 ^ n = v
        generalize (256 : Int) ^ n = p
        grind
      rw [s, s, h1, h2]
  have h32 := key 32 (by omega)
  have e : (256 : Int) ^ 32 = 115792089237316195423570985008687907853269984665640564039457584007913129639936 := by decide
  rw [e] at h32
  have hx' : 0 ≤ x ∧ x < 57896044618658097711785492504343953926634992332820282019728792003956564819949 := hx
  have hy' : 0 ≤ y ∧ y < 57896044618658097711785492504343953926634992332820282019728792003956564819949 := hy
  omega
end Go.Proofs.YteedfhljbdnmnaaGreatDoor
namespace Go.Proofs.YteedfhljbdnmnaaGreatDoor
set_option maxRecDepth 100000
open Go.RowKit
theorem rng16 {W : World} {g : Nat} {f : Nat → Int} (h : Blk W g .i64 (ls16 f)) : W.rangeAt g 0 (a16 f).toList := by
  intro j v hv
  have hj : j < 16 := by
    have := (List.getElem?_eq_some_iff.1 hv).1
    simpa [ls16] using this
  have e : (a16 f).toList[j]? = some (Value.int .i64 (f j)) := by
    simp [ls16, hj]
  rw [e] at hv
  cases hv
  rw [Nat.zero_add, h.cell (by rw [ls16_len]; exact hj), ls16_get _ hj]
theorem bytP (v : Int) : Byt (fill (byt (v % PP)) 32) := by
  intro i
  by_cases hi : i < 32
  · rw [fill_get _ _ _ hi]; unfold byt; omega
  · rw [List.getD_eq_getElem?_getD, List.getElem?_eq_none (by rw [fill_len]; omega)]; simp
set_option maxHeartbeats 4000000 in
theorem l2Same_any (w : World) (f h : Nat → Int) (hf : L16 f) (hh : L16 h) :
    Calls Tryz.prog 138 #[ag16 f, ag16 h] w fun r w' => r = .returned (.bool (decide (s16 f 16 % PP = s16 h 16 % PP))) ∧ Below w.heap.size w w' := by
  show Calls Tryz.prog 138 #[.agg (a16 f), .agg (a16 h)] w fun r w' => r = .returned (.bool (decide (s16 f 16 % PP = s16 h 16 % PP))) ∧ Below w.heap.size w w'
  have B0 : Blk (w.alloc (.cells (a16 f) 131)) w.heap.size .i64 (ls16 f) := blk16 w 131 f
  have n0 : Below w.heap.size w (w.alloc (.cells (a16 f) 131)) := (Below.refl _ _).alloc (Nat.le_refl _) _
  have s0 : (w.alloc (.cells (a16 f) 131)).heap.size = w.heap.size + 1 := by simp
  have B1 : ∀ w : World, Blk (w.alloc (.cells (a16 h) 131)) w.heap.size .i64 (ls16 h) := fun w => blk16 w 131 h
  have n1 : ∀ w : World, Below w.heap.size w (w.alloc (.cells (a16 h) 131)) := fun w => (Below.refl _ _).alloc (Nat.le_refl _) _
  have u50' := Go.Proofs.YteedfhljbdnmnaaGreatDoor.u50
  have iA : (Tryz.prog.info? 131).map (·.size) = some (a16 f).toList.length := by
    have : (a16 f).toList.length = 16 := by simp [ls16]
    rw [this]; exact i50
  have iB : (Tryz.prog.info? 131).map (·.size) = some (a16 h).toList.length := by
    have : (a16 h).toList.length = 16 := by simp [ls16]
    rw [this]; exact i50
  have BYA := fun W => l2Bytes_any W f hf
  have BYB := fun W => l2Bytes_any W h hh
  have YA := bytP (s16 f 16)
  have YB := bytP (s16 h 16)
  have EQ : Hid (decide (fill (byt (s16 f 16 % PP)) 32 = fill (byt (s16 h 16 % PP)) 32) = decide (s16 f 16 % PP = s16 h 16 % PP)) := by
    show _ = _
    by_cases e : s16 f 16 % PP = s16 h 16 % PP
    · rw [e]; simp
    · rw [decide_eq_false e, decide_eq_false]
      exact fun k => e (byt_inj ⟨Int.emod_nonneg _ (by decide), Int.emod_lt_of_pos _ (by decide)⟩ ⟨Int.emod_nonneg _ (by decide), Int.emod_lt_of_pos _ (by decide)⟩ k)
  obtain ⟨db, hdb⟩ : ∃ b, b = decide (s16 f 16 % PP = s16 h 16 % PP) := ⟨_, rfl⟩
  rw [← hdb] at EQ ⊢
  clear hdb
  generalize fill (byt (s16 f 16 % PP)) 32 = xs at *
  generalize fill (byt (s16 h 16 % PP)) 32 = ys at *
  have RB := fun (W : World) (b : Blk W (w.heap.size + 1) .i64 (ls16 h)) => rng16 b
  have RA := fun (W : World) (b : Blk W w.heap.size .i64 (ls16 f)) => rng16 b
  simp only [show ag16 f = .agg (a16 f) from rfl] at BYA
  simp only [show ag16 h = .agg (a16 h) from rfl] at BYB
  generalize a16 f = A at *
  generalize a16 h = B at *
  go_enter Tryz.func138, Tryz.ntmps138
  go_upto_region 1 with fail
  generalize w.alloc (.cells A 131) = wa at *
  have B1' := B1 wa
  have n1' := n1 wa
  rw [s0] at B1'
  generalize wa.alloc (.cells B 131) = wn at *
  have E0 := B0.up n1'
  have N := nxt n0 n1'
  clear B1 n1 B0 n0 n1' s0
  have CE : Hid (∀ W, Below wn.heap.size wn W → W.rangeAt w.heap.size 0 A.toList ∧ W.rangeAt (w.heap.size + 1) 0 B.toList) := fun W n => ⟨RA W (E0.up n), RB W (B1'.up n)⟩
  have CA : Hid (∀ W, Below wn.heap.size wn W → Calls Tryz.prog 117 #[.agg A] W fun r w' => ∃ a c g, r = .returned (.slice a xs.length c) ∧ Own w' g a .u8 xs ∧ Below wn.heap.size wn w' ∧ Below W.heap.size W w') := by
    intro W n
    refine (BYA W).mono ?_
    rintro r w' ⟨⟨a, c, g, he, o, _, _, _⟩, n'⟩
    exact ⟨a, c, g, he, o, nxt n n', n'⟩
  have CB : Hid (∀ W, Below wn.heap.size wn W → Calls Tryz.prog 117 #[.agg B] W fun r w' => ∃ a c g, r = .returned (.slice a ys.length c) ∧ Own w' g a .u8 ys ∧ Below wn.heap.size wn w' ∧ Below W.heap.size W w') := by
    intro W n
    refine (BYB W).mono ?_
    rintro r w' ⟨⟨a, c, g, he, o, _, _, _⟩, n'⟩
    exact ⟨a, c, g, he, o, nxt n n', n'⟩
  have CS : Hid (∀ W g g' a b ca cb, Below wn.heap.size wn W → Own W g a .u8 xs → Own W g' b .u8 ys → Calls Tryz.prog 144 #[.slice a xs.length ca, .slice b ys.length cb] W fun r w' => r = .returned (.bool db) ∧ Below wn.heap.size wn w') := by
    intro W g g' a b ca cb n o o'
    refine (l1Same_any W g g' a b ca cb xs ys o.rd o'.rd YA YB).mono ?_
    rintro r w' ⟨rfl, rfl⟩
    exact ⟨by rw [EQ.out], n⟩
  have nd : Below wn.heap.size wn wn.drew := (Below.refl _ _).drew
  clear BYA BYB RA RB E0 B1'
  refine wp_region_held_drew (S := fun W => W.rangeAt w.heap.size 0 A.toList ∧ W.rangeAt (w.heap.size + 1) 0 B.toList) (by kernel_rfl) ((unhide CE) _ nd) (fun hH => ?_)
  refine wpAnyH_take (i := 0) (v := .agg A.toList.toArray) rfl (by kernel_rfl) (by kernel_rfl) (by kernel_rfl) (fun _ _ _ h => h) (yieldsIf_load_mid (by rfl) 131 (.tmp 2) rfl w.heap.size 0 rfl A.toList (.array 16 2) (fun W h => h.1) u50' rfl iA) hH ?_
  simp only [Act.put, List.setIfInBounds_toArray]
  refine wpAnyH_take (i := 2) (v := .agg B.toList.toArray) rfl (by kernel_rfl) (by kernel_rfl) (by kernel_rfl) (fun _ _ _ h => h) (yieldsIf_load_mid (by rfl) 131 (.tmp 3) rfl (w.heap.size + 1) 0 rfl B.toList (.array 16 2) (fun W h => h.2) u50' rfl iB) hH ?_
  simp only [Act.put]
  refine wpAnyH_ready (rs := [1]) (by kernel_rfl) (by simp) ?_
  refine AllReadyH.cons rfl (fun K1 hK1 => ?_) AllReadyH.nil
  go_simp
  go_at_call 117
  refine ((unhide CA) _ nd).mono ?_
  rintro r wA ⟨aA, cA, gA, rfl, oA, nA, nA'⟩
  go_wp2_with fail
  refine hK1.out _ _ ((unhide CE) _ nA) (fun hH1 => ?_)
  clear hK1
  refine wpAnyH_ready (rs := [3]) (by kernel_rfl) (by simp) ?_
  refine AllReadyH.cons rfl (fun K2 hK2 => ?_) AllReadyH.nil
  go_simp
  go_at_call 117
  refine ((unhide CB) _ nA).mono ?_
  rintro r wB ⟨aB, cB, gB, rfl, oB, nB, nB'⟩
  go_wp2_with fail
  refine hK2.out _ _ ((unhide CE) _ nB) (fun hH2 => ?_)
  clear hK2
  refine wpAnyH_ready (rs := [4]) (by kernel_rfl) (by simp) ?_
  refine AllReadyH.cons rfl (fun K3 hK3 => ?_) AllReadyH.nil
  go_simp
  go_at_call 144
  refine ((unhide CS) _ gA gB aA aB cA cB nB (oA.up nB') oB).mono ?_
  rintro r wS ⟨rfl, nS⟩
  go_wp2_with fail
  refine hK3.out _ _ ((unhide CE) _ nS) (fun hH3 => ?_)
  clear hK3
  refine wpAnyH_ready (rs := [5]) (by kernel_rfl) (by simp) ?_
  refine AllReadyH.cons rfl (fun K4 hK4 => ?_) AllReadyH.nil
  go_simp
  refine hK4.out _ _ ((unhide CE) _ nS) (fun hH4 => ?_)
  clear hK4
  refine wpAnyH_done (by kernel_rfl) ?_ _
  have NS := nxt N nS
  clear CA CB CS CE hH hH1 hH2 hH3 hH4
  go_wp2
  go_ret
  exact ⟨rfl, NS⟩
end Go.Proofs.YteedfhljbdnmnaaGreatDoor
namespace Go.Proofs.YteedfhljbdnmnaaGreatDoor
set_option maxRecDepth 100000
open Go.RowKit
theorem zeroCells_one (v : Value) (m : Nat) : (Builtin.zeroCells #[v] m).toList = List.replicate m v := by
  apply List.ext_getElem
  · simp [Builtin.zeroCells]
  · intro i h1 h2
    simp [Builtin.zeroCells, Nat.mod_one]
theorem run_append_room_zeros {P : Program} (w : World) (t tn ty e : TypeId) (i : TypeInfo) (z : Value) (kq kn : IntKind) (ht : P.underlying t = some (.slice e)) (htn : P.underlying tn = some (.int kn)) (hi : P.info? e = some i) (hz : i.zero = some z)
    (g sLen sCap : Nat) (cur : Array Value) (hg : w.heap[g]? = some (.cells cur e (0, 0))) (m : Nat) (h0 : 0 < m) (hs : 0 < i.size) (h1 : ∀ u ∈ (Builtin.zeroCells z.cells m).toList, u.oneCell' = true)
    (h63 : (m : Int) ≤ 9223372036854775807) (h48 : m * i.bytes ≤ 281474976710656) (hroom : sLen + m ≤ sCap) (hfit : sLen * i.size + (Builtin.zeroCells z.cells m).toList.length ≤ cur.size) :
    (Builtin.append_ #[t, tn] ty #[.slice (some ⟨g, 0, none⟩) sLen sCap, .int kq m]).run P w =
      .ok (.slice (some ⟨g, 0, none⟩) (sLen + m) sCap) (w.setRow g (cur.toList.take (sLen * i.size) ++ (Builtin.zeroCells z.cells m).toList ++ cur.toList.drop (sLen * i.size + (Builtin.zeroCells z.cells m).toList.length)).toArray) := by
  have hst := run_storeCells_at P g (sLen * i.size) e (Builtin.zeroCells z.cells m).toList 0 cur w hg (by simpa using hfit) h1
  simp only [Nat.add_zero] at hst
  have hw : IntKind.i64.wrap (m : Int) = m := by rw [IntKind.wrap_i64]; omega
  have h48i : ¬ (281474976710656 < (m : Int) * (i.bytes : Int)) := by
    rw [← Int.natCast_mul]
    omega
  have hneg : ¬ ((m : Int) < 0) := by omega
  have hm : m ≠ 0 := by omega
  have hns : ¬ (m * i.size = 0) := Nat.mul_ne_zero hm (by omega)
  simp [Builtin.append_, run_underlying ht, run_underlying htn, sizeOf, typeInfo, zeroValue, hi, hz, asInt, asIntOf, hw, hneg, hns, h48i, hroom, Addr.add_lit, hst]
theorem append_zeros_own {P : Program} (w : World) (t tn ty e : TypeId) (i : TypeInfo) (kq kn : IntKind) (ht : P.underlying t = some (.slice e)) (htn : P.underlying tn = some (.int kn)) (hi : P.info? e = some i) (hz : i.zero = some (.int .u8 0)) (hsize : i.size = 1) (hby : i.bytes = 1)
    (base : Nat) (v : Value) (n : Nat) (xs : List Value) (hown : w.ownsRow base e 1 v n xs) (hv : v ≠ .slice none 0 0) (m : Nat) (h0 : 0 < m) (hsm : n + m ≤ 1048576) (hbase : base ≤ w.heap.size) :
    ∃ v' w', (Builtin.append_ #[t, tn] ty #[v, .int kq m]).run P w = .ok v' w' ∧ w'.ownsRow base e 1 v' (n + m) (xs ++ List.replicate m (.int .u8 0)) ∧ w.grownBy w' v.ownBlock ∧ v' ≠ .slice none 0 0 := by
  have hzc : (Value.int .u8 0).cells = #[.int .u8 0] := rfl
  have hzl := zeroCells_one (.int .u8 0) m
  have hlen : (xs ++ List.replicate m (Value.int .u8 0)).length = (n + m) * 1 := by rw [List.length_append, hown.1, List.length_replicate]; omega
  rcases hown.2 with ⟨rfl, rfl⟩ | ⟨g, cap, cur, rfl, hbg, hg, hnc, hcm, hcs, htake⟩
  · exact absurd rfl hv
  · by_cases hroom : n + m ≤ cap
    · have hr := run_append_room_zeros (P := P) w t tn ty e i (.int .u8 0) kq kn ht htn hi hz g n cap cur hg m h0 (by omega) (by rw [hzc, hzl]; intro u hu; rw [(List.mem_replicate.1 hu).2]; rfl) (by omega) (by rw [hby]; omega) hroom (by rw [hzc, hzl, hsize, List.length_replicate]; omega)
      rw [hzc, hzl, hsize, List.length_replicate] at hr
      refine ⟨_, _, hr, ⟨hlen, .inr ⟨g, cap, _, rfl, hbg, setRow_heap w g cur _ e _ hg, hroom, hcm, ?_, ?_⟩⟩, ⟨rfl, rfl, rfl, by simp, fun k _ hk => setRow_other w g k _ (fun e => hk (by simp [Value.ownBlock, e]))⟩, by simp⟩
      · simp only [List.size_toArray, List.length_append, List.length_take, List.length_drop, Array.length_toList, List.length_replicate]
        omega
      · rw [htake, ← hlen]
        exact List.take_left
    · have holds : ∀ j u, xs[j]? = some u → w.drew.cell? ((⟨g, 0, none⟩ : Addr).add j) = some u := hown.cells (g := g) rfl
      have hf := run_firstCells_some (P := P) w.drew i.size n ⟨g, 0, none⟩ n cap xs (by rw [hsize]; exact hown.1) holds
      have hr := Lib.run_append_grow_zeros (P := P) w t tn ty e i (.int .u8 0) kq kn ht htn hi hz (some ⟨g, 0, none⟩) n cap xs hf m h0 (by omega) (by omega) (by omega) (by rw [hby]; omega) (growslice_fits (by omega) (by rw [hby]; omega))
      have hge := grownCap_ge w (n + m) cap e
      have hcm' : grownCap w (n + m) cap e ≤ maxLen := grownCap_le_maxLen w (n + m) cap e (by unfold maxLen; omega)
      refine ⟨_, _, hr, ⟨hlen, .inr ⟨w.heap.size, _, _, rfl, hbase, _root_.Go.heap_alloc_new w.drew _, hge, hcm', ?_, ?_⟩⟩, ⟨rfl, rfl, rfl, by simp, fun k hk _ => _root_.Go.heap_alloc_old w.drew _ hk⟩, by simp⟩
      · have h1 := hown.1
        simp only [Array.size_append, List.size_toArray, size_zeroCells, hzc, h1]
        simp
        omega
      · simp only [Array.toList_append, List.append_assoc]
        rw [← List.append_assoc, ← hlen, hzc, hzl]
        exact List.take_left
end Go.Proofs.YteedfhljbdnmnaaGreatDoor
namespace Go.Proofs.YteedfhljbdnmnaaGreatDoor
set_option maxRecDepth 100000
abbrev QQ : Int := 7237005577332262213973186563042994240857116359379907606001950938285454250989
def W8 (D : Nat → Int) : Prop := ∀ j, j < 8 → 0 ≤ D j ∧ D j < 18446744073709551616
def ac (n : Int) (s d : Nat → Int) : Nat → Int
  | 0 => 0
  | k + 1 => (ac n s d k + n * s k + d k) / 18446744073709551616
theorem W4.bd {u : Nat → Int} (h : W4 u) : 0 ≤ wval u ∧ wval u < 115792089237316195423570985008687907853269984665640564039457584007913129639936 := by
  have h0 := h 0 (by omega); have h1 := h 1 (by omega); have h2 := h 2 (by omega); have h3 := h 3 (by omega)
  unfold wval
  omega
end Go.Proofs.YteedfhljbdnmnaaGreatDoor
namespace Go.Proofs.YteedfhljbdnmnaaGreatDoor
set_option maxRecDepth 100000
open Go.RowKit
set_option maxHeartbeats 400000 in
theorem l1Copy_own (w : World) (g : Nat) (ad : Addr) (cap : Nat) (xs : List Int) (hr : Rd w g (some ad) .u8 xs) (hn : xs.length ≤ 1048576) (h0 : 0 < xs.length) :
    Calls Tryz.prog 112 #[.slice (some ad) xs.length cap] w fun e w' => ∃ v, e = .returned v ∧ v ≠ .slice none 0 0 ∧ w'.ownsRow w.heap.size 5 1 v xs.length (xs.map (Value.int .u8)) ∧ Below w.heap.size w w' := by
  obtain ⟨i0, hi, hz0, hz1, hz2⟩ := info_parts Tryz.info5
  have hown : (w.alloc (.cells #[] 5)).ownsRow w.heap.size 5 1 (.slice (some ⟨w.heap.size, 0, none⟩) 0 0) 0 [] := World.ownsRow_lit w #[] 0 (Nat.le_refl _) (by unfold maxLen; omega) (by simp)
  have hal : Below w.heap.size w (w.alloc (.cells #[] 5)) := (Below.refl _ _).alloc (Nat.le_refl _) _
  have hcell : ∀ j u, (xs.map (Value.int .u8))[j]? = some u → (w.alloc (.cells #[] 5)).cell? (ad.add j) = some u := by
    intro j u hj
    have hjl : j < xs.length := by
      have := (List.getElem?_eq_some_iff.1 hj).1
      simpa using this
    obtain ⟨off, ha, hcc⟩ := (hr.up hal) (by omega)
    simp only [Option.some.injEq] at ha
    subst ha
    rw [Addr.add_mid, hcc j hjl]
    simpa [hjl] using hj
  have hone : ∀ u ∈ xs.map (Value.int .u8), u.oneCell' = true := oneCells _ _
  go_enter Tryz.func112, Tryz.ntmps112
  go_wp2_with (at_builtin; refine wpList_append_own _ rfl _ _ 22 rfl w.heap.size 5 i0 (.int .u8 0) 1 1 Tryz.underlying22 hi hz0 hz1 hz2 rfl (by decide) (.slice (some ⟨w.heap.size, 0, none⟩) 0 0) 0 [] rfl hown ad xs.length cap (xs.map (Value.int .u8)) rfl (by simp) hcell hone (by unfold maxLen; omega) (by omega) (by simp) ?_; intro v' w1 hown' hgrow hnil)
  simp only [Nat.zero_add, List.nil_append] at hown'
  have hB : Below w.heap.size w w1 := hal.grown hgrow (by simp) (by intro k hk; simp [Value.ownBlock] at hk; omega)
  have hv : v' ≠ .slice none 0 0 := fun h => by have := (hnil.1 h).1; simp at this
  clear hgrow hown hnil
  go_wp2
  go_ret
  exact ⟨_, rfl, hv, hown', hB⟩
theorem bval_zeros (xs : List Int) : ∀ m, bval (xs ++ List.replicate m 0) = bval xs * 256 ^ m
  | 0 => by simp
  | m + 1 => by
    rw [List.replicate_succ', ← List.append_assoc, bval_snoc, bval_zeros xs m, Int.pow_succ, Int.mul_assoc]
    omega
theorem byt_addz {xs : List Int} (h : Byt xs) (m : Nat) : Byt (xs ++ List.replicate m 0) := by
  intro i
  by_cases e : i < xs.length
  · have := h i
    simpa [List.getElem?_append, e] using this
  · rw [List.getD_eq_getElem?_getD, List.getElem?_append, if_neg e, List.getElem?_replicate]
    split <;> simp
set_option maxHeartbeats 1000000 in
theorem l1Shift252_any (w : World) (g : Nat) (ad : Addr) (c : Nat) (xs : List Int) (ha : Rd w g (some ad) .u8 xs) (hb : Byt xs) (hl : xs.length ≤ 64) (h0 : 0 < xs.length) :
    Calls Tryz.prog 83 #[.slice (some ad) xs.length c, .int .i64 252] w fun e w' => ∃ ys, Canon ys (bval xs * 7237005577332262213973186563042994240829374041602535252466099000494570602496) ∧ NewRow w.heap.size w' e .u8 ys ∧ Below w.heap.size w w' := by
  obtain ⟨i0, hi, hz0, hz1, hz2⟩ := info_parts Tryz.info5
  go_enter Tryz.func83, Tryz.ntmps83
  go_wp2_with fail
  refine (l1Copy_own w g ad c xs ha (by omega) h0).mono ?_
  rintro e w1 ⟨v, rfl, hv, o1, n1⟩
  obtain ⟨v', w2, hap, o2, hgr, hv'⟩ := append_zeros_own (P := Tryz.prog) w1 22 3 22 5 i0 .i64 .i64 Tryz.underlying22 Tryz.underlying3 hi hz0 hz1 hz2 w.heap.size v xs.length _ o1 hv 31 (by omega) (by omega) n1.size
  have n2 : Below w.heap.size w w2 := n1.grown hgr (n1.size) (fun i hi => (o1.lt i hi).1)
  have o2' : w2.ownsRow w.heap.size 5 1 v' (xs ++ List.replicate 31 0).length ((xs ++ List.replicate 31 0).map (Value.int .u8)) := by simpa using o2
  obtain ⟨a3, c3, g3, rfl, o3, p3, q3, r3⟩ := Own.of_ownsRow o2'
  have V := hide (bval_zeros xs 31)
  have Z := byt_addz hb 31
  have L : (xs ++ List.replicate 31 (0 : Int)).length ≤ 128 := by simp; omega
  generalize xs ++ List.replicate 31 (0 : Int) = zs at *
  clear o1 o2 o2' hgr hv hv'
  go_wp2_with (at_builtin; refine Lib.wpList_append_run _ rfl _ _ 22 3 rfl _ _ rfl rfl _ _ hap ?_)
  have n3 : Below w2.heap.size w2 (w2.alloc (.cells #[.int .u8 16] 5)) := (Below.refl _ _).alloc (Nat.le_refl _) _
  have B2 : Blk (w2.alloc (.cells #[.int .u8 16] 5)) w2.heap.size .u8 [16] := ⟨5, by rw [heap_alloc_last]; rfl⟩
  generalize w2.alloc (.cells #[.int .u8 16] 5) = w4 at *
  have hb2 : Byt [16] := fun i => by
    match i with
    | 0 => decide
    | i + 1 => simp
  refine (l1Mul_any w4 g3 _ _ _ c3 1 zs [16] (o3.up n3).rd B2.own0.rd Z hb2 (by omega) (by decide)).mono ?_
  rintro e w5 ⟨ys, C, ⟨a5, c5, g5, rfl, o5, p5, q5, r5⟩, n5⟩
  have N5 := nxt (nxt n2 n3) n5
  have z := (nxt n2 n3).size
  have C' : Canon ys (bval xs * 7237005577332262213973186563042994240829374041602535252466099000494570602496) := by
    rw [V.out] at C
    have e1 : bval [16] = 16 := by decide
    have e2 : (256 : Int) ^ 31 * 16 = 7237005577332262213973186563042994240829374041602535252466099000494570602496 := by decide
    rw [e1, Int.mul_assoc, e2] at C
    exact C
  clear hap C
  go_wp2
  go_ret
  exact ⟨ys, C', ⟨a5, c5, g5, rfl, o5, p5, q5, by omega⟩, N5⟩
def qdec : List Int := [2, 7, 7, 4, 2, 3, 1, 7, 7, 7, 7, 3, 7, 2, 3, 5, 3, 5, 3, 5, 8, 5, 1, 9, 3, 7, 7, 9, 0, 8, 8, 3, 6, 4, 8, 4, 9, 3]
def dec (ds : List Int) (k : Nat) : Int := (ds.take k).foldl (fun v d => v * 10 + d) 0
theorem byt_one {d : Int} (h0 : 0 ≤ d) (h1 : d < 256) : Byt [d] := fun i => by
  match i with
  | 0 => exact ⟨h0, h1⟩
  | i + 1 => simp
theorem upb {w w' : World} (n : Below w.heap.size w w') {g : Nat} {k : IntKind} {ys : List Int} (h : Blk w g k ys) : Blk w' g k ys := h.up n
theorem one_a (W : World) (d : Int) : Blk (W.alloc (.cells #[.int .u8 d] 5)) W.heap.size .u8 [d] := ⟨5, by rw [heap_alloc_last]; rfl⟩
theorem one_b (W : World) (d : Int) (o : Obj) : Blk ((W.alloc (.cells #[.int .u8 d] 5)).alloc o) W.heap.size .u8 [d] := (one_a W d).up ((Below.refl _ _).alloc (Nat.le_refl _) _)
theorem one_c (W : World) (d : Int) (o : Obj) : Blk ((W.alloc o).alloc (.cells #[.int .u8 d] 5)) (W.heap.size + 1) .u8 [d] := by
  have h := one_a (W.alloc o) d
  simpa using h
theorem dec_step (ds : List Int) (k : Nat) (h : k < ds.length) : dec ds (k + 1) = dec ds k * 10 + ds.getD k 0 := by
  unfold dec
  rw [List.take_succ_eq_append_getElem h, List.foldl_append]
  simp [h]
theorem qdec_dig : ∀ k, k < 38 → 0 ≤ qdec.getD k 0 ∧ qdec.getD k 0 ≤ 9 := by decide
theorem dec_bd : ∀ k, k ≤ 38 → 0 ≤ dec qdec k ∧ dec qdec k < 256 ^ 16 := by decide +kernel
theorem dec10_lt (k : Nat) (hk : k ≤ 38) : dec qdec k * 10 < 256 ^ 64 := by
  have h := dec_bd k hk
  have e : (256 : Int) ^ 16 * 10 < 256 ^ 64 := by decide
  omega
theorem qdec_all : dec qdec 38 = 27742317777372353535851937790883648493 := by decide +kernel
def Txt (t : ByteArray) (ds : List Int) : Prop := t.size = ds.length ∧ ∀ k, k < ds.length → ∃ b : UInt8, t[k]? = some b ∧ (b.toNat : Int) = ds.getD k 0 + 48
set_option maxHeartbeats 1000000 in
theorem l1Decimal_any (w : World) (t : ByteArray) (ht : Txt t qdec) :
    Calls Tryz.prog 136 #[.string t] w fun e w' => ∃ ys, Canon ys 27742317777372353535851937790883648493 ∧ NewRow w.heap.size w' e .u8 ys ∧ Below w.heap.size w w' := by
  have hs : t.size = 38 := ht.1
  have hal : Below w.heap.size w (w.alloc (.cells #[] 5)) := (Below.refl _ _).alloc (Nat.le_refl _) _
  go_enter Tryz.func136, Tryz.ntmps136
  go_wp2
  go_loopw [3, 4] (fun v i wr => ∃ (k : Nat) (a : Option Addr) (c g : Nat) (ys : List Int), k ≤ 38 ∧ i = .int .i64 k ∧ v = .slice a ys.length c ∧ Own wr g a .u8 ys ∧ Byt ys ∧ ys.length ≤ 64 ∧ bval ys = dec qdec k ∧ (a = none → c = 0) ∧ ys.length ≤ c ∧ Below w.heap.size w wr) (fun _ i _ => 38 - (intOf i).toNat)
  case atStart => exact ⟨0, _, _, w.heap.size, [], by omega, rfl, rfl, Own.nil _ _ _ _, byt_nil, by simp, rfl, by simp, by simp, hal⟩
  case round =>
    obtain ⟨k, a, c, g, ys, hk, rfl, rfl, o, yb, yl, yv, p, q, hN⟩ := hrel
    by_cases hlt : k < 38
    · have hd := qdec_dig k hlt
      obtain ⟨b, hx, hb⟩ := ht.2 k hlt
      have hst := dec_step qdec k hlt
      have k1 : (k : Int) < 38 := by omega
      have b10 := byt_one (d := 10) (by omega) (by omega)
      have bd := byt_one (d := qdec.getD k 0) (by omega) (by omega)
      have e10 : bval [10] = 10 := by decide
      have ed : bval [qdec.getD k 0] = qdec.getD k 0 := by simp [bval]
      generalize qdec.getD k 0 = d at *
      have MU : Hid (∀ W b, Below wr.heap.size wr W → Blk W b .u8 [10] → Calls Tryz.prog 113 #[.slice a ys.length c, .slice (some ⟨b, 0, none⟩) 1 1] W fun r w' => ∃ zs a' c' g', r = .returned (.slice a' zs.length c') ∧ Own w' g' a' .u8 zs ∧ Canon zs (dec qdec k * 10) ∧ W.heap.size ≤ g' ∧ Below W.heap.size W w') := by
        intro W b n B
        refine (l1Mul_any W g b a _ c 1 ys [10] (o.up n).rd B.own0.rd yb b10 (by omega) (by decide)).mono ?_
        rintro r w' ⟨zs, C, ⟨a', c', g', rfl, o', p', q', r'⟩, n'⟩
        rw [e10, yv] at C
        exact ⟨zs, a', c', g', rfl, o', C, r', n'⟩
      have AD : Hid (∀ W b zs a' c' g', Own W g' a' .u8 zs → Canon zs (dec qdec k * 10) → Blk W b .u8 [d] → Calls Tryz.prog 81 #[.slice a' zs.length c', .slice (some ⟨b, 0, none⟩) 1 1] W fun r w' => ∃ us a' c' g', r = .returned (.slice a' us.length c') ∧ Own w' g' a' .u8 us ∧ Canon us (dec qdec (k + 1)) ∧ (a' = none → c' = 0) ∧ us.length ≤ c' ∧ Below W.heap.size W w') := by
        intro W b zs a' c' g' o' C' B
        have l' : zs.length ≤ 64 := C'.len (dec10_lt k hk)
        refine (l1Add_any W g' b a' _ c' 1 zs [d] o'.rd B.own0.rd C'.1 bd (by omega) (by simp)).mono ?_
        rintro r w' ⟨us, C, ⟨a2, c2, g2, rfl, o2, p2, q2, r2⟩, n'⟩
        rw [ed, C'.2.1, ← hst] at C
        exact ⟨us, a2, c2, g2, rfl, o2, C, p2, q2, n'⟩
      have hx2 : t[k]'(by omega) = b := by
        have h := getElem?_pos t k (by omega)
        rw [hx] at h
        exact (Option.some.inj h).symm
      have hw : IntKind.u8.wrap (((t[k]'(by omega)).toNat : Int) - 48) = d := by rw [hx2, IntKind.wrap_u8]; omega
      have hwd : IntKind.u8.wrap d = d := by rw [IntKind.wrap_u8]; omega
      have nd : Below wr.heap.size wr wr.drew := (Below.refl _ _).drew
      have nm : ∀ W o, Below wr.heap.size wr W → Below wr.heap.size wr (W.alloc o) := fun W o n => n.alloc n.size _
      clear hst yv yb b10 bd e10 ed
      go_wp2
      go_region_with
        (first
          | (go_at_call 113; refine ((unhide MU) _ _ (by first | exact nm _ _ nd | exact nm _ _ (nm _ _ nd)) (by first | exact one_a _ _ | exact one_b _ _ _ | exact one_c _ _ _)).mono ?_; rintro r ws ⟨zs, a1, c1, g1, rfl, o1, C1, r1, n1⟩)
          | (go_at_call 81; refine ((unhide AD) _ _ zs a1 c1 g1 (by first | exact o1 | exact o1.up ((Below.refl _ _).alloc (Nat.le_refl _) _)) C1 (by first | exact one_a _ _ | exact upb n1 (one_a _ _) | exact upb n1 (one_b _ _ _) | exact upb n1 (one_c _ _ _))).mono ?_; rintro r wt ⟨us, a2, c2, g2, rfl, o2, C2, p2, q2, n2⟩))
      all_goals
        have N2 : Below w.heap.size w wt := by
          first
            | exact nxt (nxt hN (nxt (nm _ _ (nm _ _ nd)) n1)) n2
            | exact nxt (nxt (nxt hN (nxt (nm _ _ nd) n1)) ((Below.refl _ _).alloc (Nat.le_refl _) _)) n2
        have L2 : us.length ≤ 64 := C2.len (Int.lt_trans (dec_bd (k + 1) (by omega)).2 (by decide))
        clear MU AD n1 n2 hN o o1 C1 hx hx2 hw hwd nd nm
        go_wp2
        go_roundw
        case rel => exact ⟨k + 1, a2, c2, g2, us, by omega, by go_num, rfl, o2, C2.1, L2, C2.2.1, p2, q2, N2⟩
        case measure => simp [intOf]; omega
    · obtain rfl : k = 38 := by omega
      rw [qdec_all] at yv
      go_wp2_with fail
      refine (l1Trim_any wr g a c ys o.rd yb p q (by omega)).mono ?_
      rintro e w2 ⟨zs, C, l2, ⟨a2, c2, g2, rfl, o2, q1, q2, q3⟩, n2⟩
      rw [yv] at C
      have z := hN.size
      have N2 := nxt hN n2
      go_wp2
      go_ret
      exact ⟨zs, C, ⟨_, _, g2, rfl, o2, q1, q2, by omega⟩, N2⟩
end Go.Proofs.YteedfhljbdnmnaaGreatDoor
namespace Go.Proofs.YteedfhljbdnmnaaGreatDoor
set_option maxRecDepth 100000
def eRt : Nat := 7237005577332262213973186563042994240829374041602535252466099000494570602494
abbrev iM : Int := 19681161376707505956807079304988542015446066515923890162744021073123829784752
theorem iM_sq : iM * iM % PP = PP - 1 := by decide +kernel
theorem turn_sq (r : Int) : (r * iM % PP) * (r * iM % PP) % PP = (0 - r * r) % PP := by
  rw [← Int.mul_emod]
  have e : r * iM * (r * iM) = r * r * (iM * iM) := by grind
  rw [e]
  generalize r * r = s
  have h : iM * iM = PP * (iM * iM / PP) + (PP - 1) := by rw [← iM_sq]; exact (Int.mul_ediv_add_emod _ _).symm
  rw [h]
  generalize iM * iM / PP = q
  have e2 : s * (PP * q + (PP - 1)) = (0 - s) + PP * (s * q + s) := by grind
  rw [e2, Int.add_mul_emod_self_left]
def rtR (A : Int) : Int := A ^ eRt % PP
def r1I (A : Int) : Int := if rtR A * rtR A % PP = (0 - A) % PP then rtR A * iM % PP else rtR A
def r1S (A : Int) : Int := if rtR A * rtR A % PP = A then rtR A else rtR A * iM % PP
theorem rtR_zero : rtR 0 = 0 := by
  unfold rtR
  rw [Int.zero_pow (by decide)]
  rfl
theorem neg_modP (x s : Int) (h : x % PP = s) : (0 - x) % PP = (0 - s) % PP := by
  rw [← h, Int.zero_sub, Int.zero_sub]
  have := Int.mul_ediv_add_emod x PP
  have e : -x = -(x % PP) + PP * (-(x / PP)) := by
    generalize x / PP = q at *
    generalize x % PP = t at *
    subst this
    grind
  rw [e, Int.add_mul_emod_self_left]
theorem not1 {A s : Int} (h0 : 0 ≤ A) (h1 : A < PP) (hA : ¬ A = 0) (c : s = A) : ¬ s = (0 - A) % PP := by
  subst c
  have e : (0 - s) % PP = PP - s := by
    rw [show 0 - s = (PP - s) + PP * (-1) by generalize PP = P; omega, Int.add_mul_emod_self_left]
    exact Int.emod_eq_of_lt (by generalize PP = P at *; omega) (by generalize PP = P at *; omega)
  rw [e]
  intro h
  have h2 : s + s = PP := by generalize PP = P at *; omega
  have h3 : (s + s) % 2 = 0 := by omega
  rw [h2] at h3
  exact absurd h3 (by decide)
theorem not2 {A s : Int} (h1 : A < PP) (s0 : 0 ≤ s) (s1 : s < PP) (c : ¬ s = (0 - A) % PP) : ¬ (0 - s) % PP = A := by
  have h2 : A < 57896044618658097711785492504343953926634992332820282019728792003956564819949 := h1
  have h3 : s < 57896044618658097711785492504343953926634992332820282019728792003956564819949 := s1
  have h4 : ¬ s = (0 - A) % 57896044618658097711785492504343953926634992332820282019728792003956564819949 := c
  show ¬ (0 - s) % 57896044618658097711785492504343953926634992332820282019728792003956564819949 = A
  omega
theorem same_root {A : Int} (h0 : 0 ≤ A) (h1 : A < PP) : (r1I A * r1I A % PP = A ↔ r1S A * r1S A % PP = A) ∧ (r1S A * r1S A % PP = A → r1I A = r1S A) := by
  unfold r1I r1S
  have ht := turn_sq (rtR A)
  have hz : A = 0 → rtR A = 0 := fun h => by rw [h]; exact rtR_zero
  generalize rtR A = r at *
  obtain ⟨s, hs⟩ : ∃ s, r * r % PP = s := ⟨_, rfl⟩
  have hs0 : 0 ≤ s ∧ s < PP := by rw [← hs]; exact ⟨Int.emod_nonneg _ (by decide), Int.emod_lt_of_pos _ (by decide)⟩
  rw [neg_modP _ _ hs] at ht
  rw [hs]
  by_cases hA : A = 0
  · have hr := hz hA
    subst hr
    have e1 : (0 : Int) * iM % PP = 0 := by rw [Int.zero_mul]; rfl
    have e2 : (0 : Int) * 0 % PP = 0 := rfl
    have es : s = 0 := by rw [← hs]; rfl
    have ea : (0 - A) % PP = 0 := by rw [hA]; rfl
    rw [es, ea, hA, if_pos rfl, if_pos rfl, e1]
    exact ⟨Iff.rfl, fun _ => rfl⟩
  · by_cases c1 : s = A
    · rw [if_pos c1, if_neg (not1 h0 h1 hA c1), hs]
      exact ⟨Iff.rfl, fun _ => rfl⟩
    · rw [if_neg c1, ht]
      by_cases c2 : s = (0 - A) % PP
      · rw [if_pos c2, ht]
        exact ⟨Iff.rfl, fun _ => rfl⟩
      · rw [if_neg c2, hs]
        have n2 : ¬ ((0 - s) % PP = A) := not2 h1 hs0.1 hs0.2 c2
        exact ⟨⟨fun h => absurd h c1, fun h => absurd h n2⟩, fun h => absurd h n2⟩
theorem rtR_bd (A : Int) : 0 ≤ rtR A ∧ rtR A < PP := by
  unfold rtR
  generalize A ^ eRt = x
  exact ⟨Int.emod_nonneg _ (by decide), Int.emod_lt_of_pos _ (by decide)⟩
theorem r1S_bd (A : Int) : 0 ≤ r1S A ∧ r1S A < PP := by
  unfold r1S
  split
  · exact rtR_bd A
  · generalize rtR A * iM = x
    exact ⟨Int.emod_nonneg _ (by decide), Int.emod_lt_of_pos _ (by decide)⟩
def fin2 (r : Int) : Int := if r % 2 = 0 then r else (0 - r) % PP
end Go.Proofs.YteedfhljbdnmnaaGreatDoor
namespace Go.Proofs.YteedfhljbdnmnaaGreatDoor
set_option maxRecDepth 100000
open Go.RowKit
set_option maxHeartbeats 1000000 in
theorem l1Shift253_any (w : World) (g : Nat) (ad : Addr) (c : Nat) (xs : List Int) (ha : Rd w g (some ad) .u8 xs) (hb : Byt xs) (hl : xs.length ≤ 64) (h0 : 0 < xs.length) :
    Calls Tryz.prog 83 #[.slice (some ad) xs.length c, .int .i64 253] w fun e w' => ∃ ys, Canon ys (bval xs * 14474011154664524427946373126085988481658748083205070504932198000989141204992) ∧ NewRow w.heap.size w' e .u8 ys ∧ Below w.heap.size w w' := by
  obtain ⟨i0, hi, hz0, hz1, hz2⟩ := info_parts Tryz.info5
  go_enter Tryz.func83, Tryz.ntmps83
  go_wp2_with fail
  refine (l1Copy_own w g ad c xs ha (by omega) h0).mono ?_
  rintro e w1 ⟨v, rfl, hv, o1, n1⟩
  obtain ⟨v', w2, hap, o2, hgr, hv'⟩ := append_zeros_own (P := Tryz.prog) w1 22 3 22 5 i0 .i64 .i64 Tryz.underlying22 Tryz.underlying3 hi hz0 hz1 hz2 w.heap.size v xs.length _ o1 hv 31 (by omega) (by omega) n1.size
  have n2 : Below w.heap.size w w2 := n1.grown hgr (n1.size) (fun i hi => (o1.lt i hi).1)
  have o2' : w2.ownsRow w.heap.size 5 1 v' (xs ++ List.replicate 31 0).length ((xs ++ List.replicate 31 0).map (Value.int .u8)) := by simpa using o2
  obtain ⟨a3, c3, g3, rfl, o3, p3, q3, r3⟩ := Own.of_ownsRow o2'
  have V := hide (bval_zeros xs 31)
  have Z := byt_addz hb 31
  have L : (xs ++ List.replicate 31 (0 : Int)).length ≤ 128 := by simp; omega
  generalize xs ++ List.replicate 31 (0 : Int) = zs at *
  clear o1 o2 o2' hgr hv hv'
  go_wp2_with (at_builtin; refine Lib.wpList_append_run _ rfl _ _ 22 3 rfl _ _ rfl rfl _ _ hap ?_)
  have n3 : Below w2.heap.size w2 (w2.alloc (.cells #[.int .u8 32] 5)) := (Below.refl _ _).alloc (Nat.le_refl _) _
  have B2 : Blk (w2.alloc (.cells #[.int .u8 32] 5)) w2.heap.size .u8 [32] := ⟨5, by rw [heap_alloc_last]; rfl⟩
  generalize w2.alloc (.cells #[.int .u8 32] 5) = w4 at *
  have hb2 : Byt [32] := fun i => by
    match i with
    | 0 => decide
    | i + 1 => simp
  refine (l1Mul_any w4 g3 _ _ _ c3 1 zs [32] (o3.up n3).rd B2.own0.rd Z hb2 (by omega) (by decide)).mono ?_
  rintro e w5 ⟨ys, C, ⟨a5, c5, g5, rfl, o5, p5, q5, r5⟩, n5⟩
  have N5 := nxt (nxt n2 n3) n5
  have z := (nxt n2 n3).size
  have C' : Canon ys (bval xs * 14474011154664524427946373126085988481658748083205070504932198000989141204992) := by
    rw [V.out] at C
    have e1 : bval [32] = 32 := by decide
    have e2 : (256 : Int) ^ 31 * 32 = 14474011154664524427946373126085988481658748083205070504932198000989141204992 := by decide
    rw [e1, Int.mul_assoc, e2] at C
    exact C
  clear hap C
  go_wp2
  go_ret
  exact ⟨ys, C', ⟨a5, c5, g5, rfl, o5, p5, q5, by omega⟩, N5⟩
def R16 (W : World) (q : Nat) (t : Nat → Int) : Prop := W.rangeAt q 0 (a16 t).toList ∧ W.there q 0 16
theorem R16.lt {W : World} {q : Nat} {t : Nat → Int} (h : R16 W q t) : q < W.heap.size := by
  have h0 := (h.2 0 (by omega)).1
  rw [Option.isSome_iff_exists] at h0
  obtain ⟨v, hv⟩ := h0
  exact block_lt_of_cell hv
theorem R16.of_block {W W' : World} {q : Nat} {t : Nat → Int} (h : R16 W q t) (hb : W'.heap[q]? = W.heap[q]?) : R16 W' q t :=
  ⟨fun j v hv => (World.cell?_of_block (a := ⟨q, 0 + j, none⟩) hb).trans (h.1 j v hv), fun j hj => ⟨by rw [World.cell?_of_block (a := ⟨q, 0 + j, none⟩) hb]; exact (h.2 j hj).1, by rw [World.frozen?_of_block (a := ⟨q, 0 + j, none⟩) hb]; exact (h.2 j hj).2⟩⟩
theorem R16.up {W W' : World} {q : Nat} {t : Nat → Int} (h : R16 W q t) (n : Below W.heap.size W W') : R16 W' q t := h.of_block (n.block q h.lt)
theorem there16 {W : World} {q : Nat} {f : Nat → Int} (h : Blk W q .i64 (ls16 f)) : W.there q 0 16 := fun j hj =>
  ⟨by rw [Nat.zero_add, h.cell (by rw [ls16_len]; exact hj)]; rfl, h.free _⟩
theorem R16.ofBlk {W : World} {q : Nat} {f : Nat → Int} (h : Blk W q .i64 (ls16 f)) : R16 W q f := ⟨rng16 h, there16 h⟩
theorem below_setCells {B : Nat} {w : World} {b : Nat} (hb : B ≤ b) : ∀ (vs : List Value) (o : Nat) (w' : World), Below B w w' → Below B w (w'.setCells b o vs)
  | [], _, _, h => h
  | v :: vs, o, w', h => by
    rw [World.setCells]
    exact below_setCells hb vs (o + 1) _ (h.setCell hb v)
theorem setCells_other {b g : Nat} (hne : g ≠ b) : ∀ (vs : List Value) (o : Nat) (w : World), (w.setCells b o vs).heap[g]? = w.heap[g]?
  | [], _, _ => rfl
  | v :: vs, o, w => by
    rw [World.setCells, setCells_other hne vs (o + 1)]
    exact heap_setCell_other w ⟨b, o, none⟩ g v hne
theorem R16.set {W : World} {q : Nat} (t : Nat → Int) (h : W.there q 0 16) : R16 (W.setCells q 0 (a16 t).toList) q t :=
  ⟨World.rangeAt_setCells_same W q 0 _ (by have : (a16 t).toList.length = 16 := by simp [ls16]
                                           rw [this]; exact h), World.there_setCells h _ _ _⟩
theorem R16.keep {W : World} {q g : Nat} {t : Nat → Int} (h : R16 W g t) (vs : List Value) (hne : g ≠ q) : R16 (W.setCells q 0 vs) g t := h.of_block (setCells_other hne vs 0 W)
def eI : Nat := 14474011154664524427946373126085988481658748083205070504932198000989141204987
theorem pow_cast (e n i : Nat) (h : 2 ^ e % n = i) : (2 : Int) ^ e % (n : Int) = (i : Int) := by
  rw [← h, Int.natCast_emod, Int.natCast_pow]
  rfl
theorem eI_pm : pm 57896044618658097711785492504343953926634992332820282019728792003956564819949 256 2 eI = 19681161376707505956807079304988542015446066515923890162744021073123829784752 := by decide +kernel
theorem eI_lt : eI < 2 ^ 256 := by decide +kernel
theorem two_pow_i : (2 : Int) ^ eI % PP = iM :=
  pow_cast eI 57896044618658097711785492504343953926634992332820282019728792003956564819949 _ ((pm_eq _ 256 2 eI eI_lt).symm.trans eI_pm)
end Go.Proofs.YteedfhljbdnmnaaGreatDoor
namespace Go.Proofs.YteedfhljbdnmnaaGreatDoor
set_option maxRecDepth 100000
open Go Go.RowKit
section
variable {P : Program} {ops : Array Oper} {Q : Exit → Act → World → Prop} {md : Region.Mode} {F : Nat → Fact} {a0 : Act} {w0 : World}
def RW (p : List Int → Prop) : Fact := ⟨fun v w => ∃ (xs : List Int) (a : Option Addr) (c g : Nat), v = .slice a xs.length c ∧ Own w g a .u8 xs ∧ p xs, fun n h => by
  obtain ⟨xs, a, c, g, e, o, q⟩ := h
  exact ⟨xs, a, c, g, e, o.up n, q⟩⟩
def EL (A : Int) : Fact := ⟨fun v _ => ∃ t, v = ag16 t ∧ L16 t ∧ s16 t 16 % PP = A % PP, fun _ h => h⟩
def Elt (W : World) (q o : Nat) (A : Int) : Prop := ∃ t, W.rangeAt q o (a16 t).toList ∧ q < W.heap.size ∧ L16 t ∧ s16 t 16 % PP = A % PP
theorem Elt.up {W W' : World} {q o : Nat} {A : Int} (h : Elt W q o A) (n : Below W.heap.size W W') : Elt W' q o A := by
  obtain ⟨t, r, l, h⟩ := h
  exact ⟨t, fun j v hv => (World.cell?_of_block (a := ⟨q, o + j, none⟩) (n.block q l)).trans (r j v hv), Nat.lt_of_lt_of_le l n.size, h⟩
theorem Elt.ofR {W : World} {q : Nat} {t : Nat → Int} {A : Int} (h : R16 W q t) (L : L16 t) (V : s16 t 16 % PP = A % PP) : Elt W q 0 A := ⟨t, h.1, h.lt, L, V⟩
theorem step_call {i : Nat} {o : Oper} (hi : ops[i]? = some o) (n : FuncId) (args : Array Operand) (ts : Array TypeId) (hop : o.op = .call { callee := .value (.func n), args := args, argTypes := ts }) (he : enters P n = true)
    (G : ∀ a w, Based ops a0 a → Below w0.heap.size w0 w → Facts md ops F i a w → Calls P n (args.toList.map a.eval).toArray w fun e w' => ∃ v, e = .returned v ∧ Below w.heap.size w w' ∧ (F i).p v w') : StepOk P md ops Q F a0 w0 i := by
  intro o' ho' a w hb hw hf K hK
  obtain rfl := Option.some.inj (hi.symm.trans ho')
  have hr : (execOp a.eval o).run P w = .ok (.enter n (args.map a.eval)) w := by
    have h0 : (Deferred.ofValue (Value.func (Fn.func n) #[] #[]) (args.map a.eval)).run P w = .ok { target := .fn (.func n) #[], args := args.map a.eval } w := by simp [Deferred.ofValue]
    simp [execOp, hop, resolve, invoke, Act.eval, h0, run_enter he]
  have e : args.map a.eval = (args.toList.map a.eval).toArray := by cases args; simp
  unfold Oper.wp
  rw [hr, e, Oper.upon_enter]
  refine (G a w hb hw hf).mono ?_
  rintro e w' ⟨v, rfl, hn, hv⟩
  exact hK v w' hn hv
theorem step_el {i : Nat} {o : Oper} (hi : ops[i]? = some o) (ty : TypeId) (p : Nat) (hop : o.op = .load ty (.tmp p)) (hu : P.underlying ty = some (.array 16 2)) (hs : (P.info? ty).map (·.size) = some 16)
    (hp : apart ops p = true) (q off : Nat) (h0 : a0.tmps.getD p undef = .pointer (some ⟨q, off, none⟩)) (A : Int) (hE : Elt w0 q off A) (hF : F i = EL A) : StepOk P md ops Q F a0 w0 i := by
  refine step_load hi ty _ hop _ 16 hu rfl hs fun a w hb hw _ => ?_
  obtain ⟨t, r, _, L, V⟩ := hE.up hw
  exact ⟨q, off, _, (based_at hb p hp).trans h0, r, by simp [ls16], by rw [hF]; exact ⟨t, rfl, L, V⟩⟩
theorem step_elf {i : Nat} {o : Oper} (hi : ops[i]? = some o) (ty : TypeId) (p j : Nat) (hop : o.op = .load ty (.tmp p)) (hu : P.underlying ty = some (.array 16 2)) (hs : (P.info? ty).map (·.size) = some 16)
    (hj : waits md ops i j p = true) (q off : Nat) (hFj : F j = Fact.eq (.pointer (some ⟨q, off, none⟩))) (A : Int) (hE : Elt w0 q off A) (hF : F i = EL A) : StepOk P md ops Q F a0 w0 i := by
  refine step_load hi ty _ hop _ 16 hu rfl hs fun a w _ hw hf => ?_
  obtain ⟨t, r, _, L, V⟩ := hE.up hw
  have e := hf j p hj
  rw [hFj] at e
  exact ⟨q, off, _, e, r, by simp [ls16], by rw [hF]; exact ⟨t, rfl, L, V⟩⟩
theorem step_fld {i : Nat} {o : Oper} (hi : ops[i]? = some o) (ty : TypeId) (p f : Nat) (hop : o.op = .fieldAddr ty (.tmp p) f) (hp : apart ops p = true) (q off : Nat) (h0 : a0.tmps.getD p undef = .pointer (some ⟨q, 0, none⟩))
    (hr : ∀ w, (Instr.fieldAt ty (.pointer (some ⟨q, 0, none⟩)) f).run P w = .ok (.pointer (some ⟨q, off, none⟩)) w) (hF : F i = Fact.eq (.pointer (some ⟨q, off, none⟩))) : StepOk P md ops Q F a0 w0 i := by
  refine step_pure hi fun a w hb _ _ => ⟨_, ?_, by rw [hF]; exact rfl⟩
  have e := (based_at hb p hp).trans h0
  simp [execOp, hop, e, hr]
theorem step_two {i : Nat} {o : Oper} (hi : ops[i]? = some o) (n : FuncId) (p q : Nat) (ts : Array TypeId) (hop : o.op = .call { callee := .value (.func n), args := #[.tmp p, .tmp q], argTypes := ts }) (he : enters P n = true)
    (f : Int → Int → Int) (law : ∀ (w : World) (a b : Nat → Int), L16 a → L16 b → Calls P n #[ag16 a, ag16 b] w fun r w' => ∃ t, r = .returned (ag16 t) ∧ L16 t ∧ s16 t 16 % PP = f (s16 a 16) (s16 b 16) % PP ∧ Below w.heap.size w w')
    (hf : ∀ a b A B : Int, a % PP = A % PP → b % PP = B % PP → f a b % PP = f A B % PP)
    (j k : Nat) (A B : Int) (hj : waits md ops i j p = true) (hk : waits md ops i k q = true) (hFj : F j = EL A) (hFk : F k = EL B) (hFi : F i = EL (f A B)) : StepOk P md ops Q F a0 w0 i := by
  refine step_call hi n _ ts hop he fun a w _ _ hF => ?_
  have ea := hF j p hj
  have eb := hF k q hk
  rw [hFj] at ea
  rw [hFk] at eb
  obtain ⟨t, e1, L1, V1⟩ := ea
  obtain ⟨u, e2, L2, V2⟩ := eb
  show Calls P n #[a.tmps.getD p undef, a.tmps.getD q undef] w _
  rw [e1, e2]
  refine (law w t u L1 L2).mono ?_
  rintro r w' ⟨s, rfl, L, V, hn⟩
  exact ⟨_, rfl, hn, by rw [hFi]; exact ⟨s, rfl, L, by rw [V]; exact hf _ _ _ _ V1 V2⟩⟩
theorem step_one {i : Nat} {o : Oper} (hi : ops[i]? = some o) (n : FuncId) (p : Nat) (ts : Array TypeId) (hop : o.op = .call { callee := .value (.func n), args := #[.tmp p], argTypes := ts }) (he : enters P n = true)
    (f : Int → Int) (law : ∀ (w : World) (a : Nat → Int), L16 a → Calls P n #[ag16 a] w fun r w' => ∃ t, r = .returned (ag16 t) ∧ L16 t ∧ s16 t 16 % PP = f (s16 a 16) % PP ∧ Below w.heap.size w w')
    (hf : ∀ a A : Int, a % PP = A % PP → f a % PP = f A % PP)
    (j : Nat) (A : Int) (hj : waits md ops i j p = true) (hFj : F j = EL A) (hFi : F i = EL (f A)) : StepOk P md ops Q F a0 w0 i := by
  refine step_call hi n _ ts hop he fun a w _ _ hF => ?_
  have ea := hF j p hj
  rw [hFj] at ea
  obtain ⟨t, e1, L1, V1⟩ := ea
  show Calls P n #[a.tmps.getD p undef] w _
  rw [e1]
  refine (law w t L1).mono ?_
  rintro r w' ⟨s, rfl, L, V, hn⟩
  exact ⟨_, rfl, hn, by rw [hFi]; exact ⟨s, rfl, L, by rw [V]; exact hf _ _ V1⟩⟩
end
abbrev zObj : Obj := .cells #[.int .i64 0, .int .i64 0, .int .i64 0, .int .i64 0, .int .i64 0, .int .i64 0, .int .i64 0, .int .i64 0, .int .i64 0, .int .i64 0, .int .i64 0, .int .i64 0, .int .i64 0, .int .i64 0, .int .i64 0, .int .i64 0] 131
theorem blk_zObj (W : World) : Blk (W.alloc zObj) W.heap.size .i64 (ls16 (fun _ => 0)) := by
  have h := blk16 W 131 (fun _ => 0)
  exact h
theorem mod_mul {a b A B : Int} (h : a % PP = A % PP) (k : b % PP = B % PP) : a * b % PP = A * B % PP := by rw [Int.mul_emod, h, k, ← Int.mul_emod]
theorem mod_add {a b A B : Int} (h : a % PP = A % PP) (k : b % PP = B % PP) : (a + b) % PP = (A + B) % PP := by rw [Int.add_emod, h, k, ← Int.add_emod]
theorem mod_sub {a b A B : Int} (h : a % PP = A % PP) (k : b % PP = B % PP) : (a - b) % PP = (A - B) % PP := by rw [Int.sub_emod, h, k, ← Int.sub_emod]
theorem en_mul : enters Tryz.prog 118 = true := by kernel_rfl
theorem en_add : enters Tryz.prog 119 = true := by kernel_rfl
theorem en_sub : enters Tryz.prog 122 = true := by kernel_rfl
theorem en_small : enters Tryz.prog 120 = true := by kernel_rfl
section
variable {ops : Array Oper} {Q : Exit → Act → World → Prop} {md : Region.Mode} {F : Nat → Fact} {a0 : Act} {w0 : World} {i : Nat} {o : Oper} {ts : Array TypeId}
theorem step_mul (hi : ops[i]? = some o) (p q j k : Nat) (A B : Int) (hop : o.op = .call { callee := .value (.func 118), args := #[.tmp p, .tmp q], argTypes := ts })
    (hj : waits md ops i j p = true) (hk : waits md ops i k q = true) (hFj : F j = EL A) (hFk : F k = EL B) (hFi : F i = EL (A * B)) : StepOk Tryz.prog md ops Q F a0 w0 i :=
  step_two hi _ p q ts hop en_mul (fun a b => a * b) (fun w a b ha hb => l2Mul_any w a b ha hb) (fun _ _ _ _ h k => mod_mul h k) j k A B hj hk hFj hFk hFi
theorem step_add (hi : ops[i]? = some o) (p q j k : Nat) (A B : Int) (hop : o.op = .call { callee := .value (.func 119), args := #[.tmp p, .tmp q], argTypes := ts })
    (hj : waits md ops i j p = true) (hk : waits md ops i k q = true) (hFj : F j = EL A) (hFk : F k = EL B) (hFi : F i = EL (A + B)) : StepOk Tryz.prog md ops Q F a0 w0 i :=
  step_two hi _ p q ts hop en_add (fun a b => a + b) (fun w a b ha hb => l2Add_any w a b ha hb) (fun _ _ _ _ h k => mod_add h k) j k A B hj hk hFj hFk hFi
theorem step_sub (hi : ops[i]? = some o) (p q j k : Nat) (A B : Int) (hop : o.op = .call { callee := .value (.func 122), args := #[.tmp p, .tmp q], argTypes := ts })
    (hj : waits md ops i j p = true) (hk : waits md ops i k q = true) (hFj : F j = EL A) (hFk : F k = EL B) (hFi : F i = EL (A - B)) : StepOk Tryz.prog md ops Q F a0 w0 i :=
  step_two hi _ p q ts hop en_sub (fun a b => a - b) (fun w a b ha hb => l2Sub_any w a b ha hb) (fun _ _ _ _ h k => mod_sub h k) j k A B hj hk hFj hFk hFi
theorem step_small (hi : ops[i]? = some o) (n : Int) (hn : 0 ≤ n ∧ n < 1048576) (hop : o.op = .call { callee := .value (.func 120), args := #[.const (.int .i64 n)], argTypes := ts })
    (hFi : F i = EL n) : StepOk Tryz.prog md ops Q F a0 w0 i := by
  refine step_call hi _ _ ts hop en_small fun a w _ _ _ => ?_
  refine (l2SmallB_any w n hn).mono ?_
  rintro r w' ⟨s, rfl, L, V, hb⟩
  exact ⟨_, rfl, hb, by rw [hFi]; exact ⟨s, rfl, L, V⟩⟩
end
end Go.Proofs.YteedfhljbdnmnaaGreatDoor
namespace Go.Proofs.YteedfhljbdnmnaaGreatDoor
set_option maxRecDepth 100000
open Go Go.RowKit
def eIv : Nat := 57896044618658097711785492504343953926634992332820282019728792003956564819947
theorem en_prime : enters Tryz.prog 82 = true := by kernel_rfl
theorem en_l1Sub : enters Tryz.prog 80 = true := by kernel_rfl
theorem en_power : enters Tryz.prog 141 = true := by kernel_rfl
theorem pbytes_cn : Canon pbytes 57896044618658097711785492504343953926634992332820282019728792003956564819949 := ⟨pbytes_byt, pbytes_val, fun _ => by decide⟩
theorem canon_ge1 {xs : List Int} {v : Int} (h : Canon xs v) (hv : 0 < v) : 1 ≤ xs.length := by
  rcases Nat.eq_zero_or_pos xs.length with e | e
  · rw [List.length_eq_zero_iff] at e
    subst e
    have := h.2.1
    simp [bval] at this
    omega
  · omega
theorem canon_nat {ys : List Int} {n : Nat} (h : Canon ys (n : Int)) : (bval ys).toNat = n := by rw [h.2.1]; rfl
theorem pow_mod {x y : Int} (h : x % PP = y % PP) : ∀ e : Nat, x ^ e % PP = y ^ e % PP
  | 0 => by simp
  | e + 1 => by rw [Int.pow_succ, Int.pow_succ]; exact mod_mul (pow_mod h e) h
theorem results_cell_mid {P : Program} {fn : Func} {p : Tmp} {ty : TypeId} (h : fn.results = #[.cell p ty]) (tmps : Array Value) (w : World) (g : Nat) (cs : List Value) (d : TypeDesc)
    (hp : tmps.getD p undef = .pointer (some ⟨g, 0, none⟩)) (hc : w.rangeAt g 0 cs) (hu : P.underlying ty = some d) (hd : d.isRow = true) (hi : (P.info? ty).map (·.size) = some cs.length) :
    (results fn tmps).run P w = .ok (.agg cs.toArray) w := by
  have hp' : tmps[p]?.getD undef = .pointer (some ⟨g, 0, none⟩) := by simpa using hp
  simp [results, h, hp', asAddr, run_loadVar_mid w g 0 ty cs d hc hu hd hi]
def fIv (A : Int) : Nat → Fact := fun i => [EL A, RW (fun xs => Canon xs 57896044618658097711785492504343953926634992332820282019728792003956564819949), RW (fun xs => xs = [2]), RW (fun xs => Canon xs (eIv : Int)), EL (A ^ eIv)].getD i Fact.no
set_option maxHeartbeats 1000000 in
theorem l2Inv_any (w : World) (f : Nat → Int) (hf : L16 f) :
    Calls Tryz.prog 121 #[ag16 f] w fun r w' => ∃ t, r = .returned (ag16 t) ∧ L16 t ∧ s16 t 16 % PP = s16 f 16 ^ eIv % PP ∧ Below w.heap.size w w' := by
  show Calls Tryz.prog 121 #[.agg (a16 f)] w fun r w' => ∃ t, r = .returned (.agg (a16 t)) ∧ L16 t ∧ s16 t 16 % PP = s16 f 16 ^ eIv % PP ∧ Below w.heap.size w w'
  have B0 : Blk (w.alloc (.cells (a16 f) 131)) w.heap.size .i64 (ls16 f) := blk16 w 131 f
  have n0 : Below w.heap.size w (w.alloc (.cells (a16 f) 131)) := (Below.refl _ _).alloc (Nat.le_refl _) _
  have s0 : (w.alloc (.cells (a16 f) 131)).heap.size = w.heap.size + 1 := by simp
  obtain ⟨A, hA⟩ : ∃ A, A = a16 f := ⟨_, rfl⟩
  rw [← hA] at B0 n0 s0 ⊢
  clear hA
  go_enter Tryz.func121, Tryz.ntmps121
  go_upto_region 1 with fail
  generalize w.alloc (.cells A 131) = wa at *
  have B1 := blk_zObj wa
  have n1 : Below wa.heap.size wa (wa.alloc zObj) := (Below.refl _ _).alloc (Nat.le_refl _) _
  rw [s0] at B1
  generalize wa.alloc zObj = wr at *
  have RA : R16 wr w.heap.size f := R16.ofBlk (B0.up n1)
  have RB := R16.ofBlk B1
  have N := nxt n0 n1
  clear B0 B1 n0 n1 s0
  refine region_store 5 _ (fIv (s16 f 16)) (by kernel_rfl) (by kernel_rfl) rfl rfl ?_ ?_
  · intro i hi
    obtain rfl | rfl | rfl | rfl | rfl : i = 0 ∨ i = 1 ∨ i = 2 ∨ i = 3 ∨ i = 4 := by omega
    · exact step_el rfl 131 1 rfl Go.Proofs.YteedfhljbdnmnaaGreatDoor.u50 i50 (by kernel_rfl) w.heap.size 0 rfl (s16 f 16) (Elt.ofR RA hf rfl) rfl
    · refine step_call rfl _ _ _ rfl en_prime fun a W _ _ _ => (l2Prime_any W).mono ?_
      rintro r W' ⟨rfl, B, n⟩
      exact ⟨_, rfl, n, pbytes, _, _, _, rfl, B.own0, pbytes_cn⟩
    · refine step_grow rfl fun a W _ _ _ => ⟨.slice (some ⟨W.heap.size, 0, none⟩) 1 1, W.alloc (.cells #[.int .u8 2] 5), ?_, (Below.refl _ _).alloc (Nat.le_refl _) _, [2], _, _, W.heap.size, rfl, Blk.own0 ⟨5, by rw [heap_alloc_last]; rfl⟩, rfl⟩
      go_simp
    · refine step_call rfl _ _ _ rfl en_l1Sub fun a W _ _ hF => ?_
      obtain ⟨xs, b, c, g, e1, o1, C⟩ := hF 1 4 (by kernel_rfl)
      obtain ⟨ys, b', c', g', e2, o2, rfl⟩ := hF 2 5 (by kernel_rfl)
      show Calls Tryz.prog 80 #[a.tmps.getD 4 undef, a.tmps.getD 5 undef] W _
      rw [e1, e2]
      have L : xs.length ≤ 64 := C.len (by decide)
      have P1 : 1 ≤ xs.length := canon_ge1 C (by decide)
      have E2 : bval [2] = 2 := by decide
      refine (l1Sub_any W g g' b b' c c' xs [2] o1.rd o2.rd C.1 (byt_one (by omega) (by omega)) (by omega) (by simpa using P1) (by rw [C.2.1, E2]; decide)).mono ?_
      rintro r W' ⟨zs, D, ⟨a', c', g', rfl, o', _, _, _⟩, n'⟩
      rw [C.2.1, E2] at D
      exact ⟨_, rfl, n', zs, _, _, _, rfl, o', D⟩
    · refine step_call rfl _ _ _ rfl en_power fun a W _ _ hF => ?_
      obtain ⟨t, e1, L1, V1⟩ := hF 0 3 (by kernel_rfl)
      obtain ⟨ys, b', c', g', e2, o2, C⟩ := hF 3 6 (by kernel_rfl)
      show Calls Tryz.prog 141 #[a.tmps.getD 3 undef, a.tmps.getD 6 undef] W _
      rw [e1, e2]
      have L : ys.length ≤ 4096 := by
        have := C.len (n := 64) (by decide)
        omega
      refine (l2Power_any W t g' b' c' ys L1 o2.rd C.1 L).mono ?_
      rintro r W' ⟨u, rfl, LT, VT, n'⟩
      refine ⟨_, rfl, n', u, rfl, LT, ?_⟩
      rw [VT, canon_nat C]
      exact pow_mod V1 _
  · intro a W hb hw hF
    obtain ⟨t, e1, L1, V1⟩ := hF 4 7 (by kernel_rfl)
    have RB' := RB.up hw
    refine wp_store_mid 131 (.tmp 2) (.tmp 7) rfl (w.heap.size + 1) 0 (a16 t) (based_at hb 2 (by kernel_rfl)) e1 (by rw [a16_size]; exact RB'.2) (by rw [a16_size]; exact i50) (a16_one t) ?_
    obtain ⟨vs, hvs⟩ : ∃ vs : Nat → Value, ∀ d, a.tmps.getD d undef = vs d := ⟨_, fun _ => rfl⟩
    have RS := R16.set t RB'.2
    have NS : Below w.heap.size w (W.setCells (w.heap.size + 1) 0 (a16 t).toList) := below_setCells (by omega) _ _ _ (nxt N hw)
    generalize W.setCells (w.heap.size + 1) 0 (a16 t).toList = W' at *
    rw [puts_of (md := .any) (k := 5) (by kernel_rfl) rfl hb vs hvs]
    clear hb hF hvs e1 RB' hw
    simp only [puts]
    go_wp2
    exact bodyPost_ret (v := .agg (a16 t)) (results_cell_mid Tryz.results121 _ _ (w.heap.size + 1) (a16 t).toList (.array 16 2) rfl RS.1 Go.Proofs.YteedfhljbdnmnaaGreatDoor.u50 rfl (by rw [show (a16 t).toList.length = 16 by simp [ls16]]; exact i50)) rfl ⟨t, rfl, L1, V1, NS⟩
end Go.Proofs.YteedfhljbdnmnaaGreatDoor
