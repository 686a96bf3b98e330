import Derived.Test.YthapcapiiknjdaaDoorGB13
import Derived.Test.YthapcapiiknjdaaDoorGB14
import Derived.Deep.RegionHeld3
import Derived.Test.YthapcapiiknjdaaDoorGB1
import Derived.Lib.AppendZerosOnto

/-
  The model's l1Same.
-/
namespace Go.Proofs.YthapcapiiknjdaaDoor
set_option maxRecDepth 100000
open Go.RowKit

set_option maxHeartbeats 400000 in
theorem l1Same_same (w : World) (g g' : Nat) (a b : Option Addr) (ca cb : Nat) (xs : List Int) (ha : Rd w g a .u8 xs) (hb : Rd w g' b .u8 xs) :
    Calls Tryd.prog 95 #[.slice a xs.length ca, .slice b xs.length cb] w fun e w' => e = .returned (.bool true) ∧ w' = w := by
  have h1 := conv_run w g a ca xs ha
  have h2 := conv_run w g' b cb xs hb
  generalize str xs = s at *
  go_enter Tryd.func95, Tryd.ntmps95
  go_wp2
  go_ret
  exact ⟨by simp, rfl⟩
set_option maxHeartbeats 1000000 in
theorem l1Same_diff (w : World) (g g' : Nat) (a b : Option Addr) (ca cb : Nat) (xs ys : List Int) (ha : Rd w g a .u8 xs) (hb : Rd w g' b .u8 ys) (hx : Byt xs) (hy : Byt ys) (hne : xs ≠ ys) :
    Calls Tryd.prog 95 #[.slice a xs.length ca, .slice b ys.length cb] w fun e w' => e = .returned (.bool false) ∧ w' = w := by
  have h1 := conv_run w g a ca xs ha
  have h2 := conv_run w g' b cb ys hb
  have h3 : str xs ≠ str ys := fun h => hne (str_inj hx hy h)
  clear hne
  generalize str xs = s at *
  generalize str ys = t at *
  have H3 := hide h3
  clear h3
  go_enter Tryd.func95, Tryd.ntmps95
  go_wp2
  go_ret
  have e : (s.toList == t.toList) = false := by
    cases h : (s.toList == t.toList)
    · rfl
    · exact absurd (toList_inj (beq_iff_eq.1 h)) H3.out
  exact ⟨by rw [← e]; rfl, rfl⟩
theorem l1Same_any (w : World) (g g' : Nat) (a b : Option Addr) (ca cb : Nat) (xs ys : List Int) (ha : Rd w g a .u8 xs) (hb : Rd w g' b .u8 ys) (hx : Byt xs) (hy : Byt ys) :
    Calls Tryd.prog 95 #[.slice a xs.length ca, .slice b ys.length cb] w fun e w' => e = .returned (.bool (decide (xs = ys))) ∧ w' = w := by
  by_cases h : xs = ys
  · subst h
    simpa using l1Same_same w g g' a b ca cb xs ha hb
  · have := l1Same_diff w g g' a b ca cb xs ys ha hb hx hy h
    simpa [h] using this
theorem byt_inj {x y : Int} (hx : 0 ≤ x ∧ x < PP) (hy : 0 ≤ y ∧ y < PP) (h : fill (byt x) 32 = fill (byt y) 32) : x = y := by
  have hb : ∀ i, i < 32 → byt x i = byt y i := fun i hi => by
    rw [← fill_get (byt x) 32 i hi, h, fill_get _ _ _ hi]
  have key : ∀ n, n ≤ 32 → x % 256 ^ n = y % 256 ^ n := by
    intro n
    induction n with
    | zero => intro _; simp
    | succ n ih =>
      intro hn
      have h1 := ih (by omega)
      have h2 := hb n (by omega)
      unfold byt at h2
      have s : ∀ z : Int, z % 256 ^ (n + 1) = z % 256 ^ n + 256 ^ n * (z / 256 ^ n % 256) := fun z => by
        have hA : (0 : Int) ≤ 256 ^ n := Int.le_of_lt (p256_pos n)
        have e1 := Int.emod_def z (256 ^ n * 256)
        rw [← Int.ediv_ediv_of_nonneg hA] at e1
        have e2 := Int.emod_def z (256 ^ n)
        have e3 := Int.emod_def (z / 256 ^ n) 256
        rw [Int.pow_succ, e1, e2, e3]
        generalize z / 256 ^ n / 256 = u
        generalize z / 256 ^ n = v
        generalize (256 : Int) ^ n = p
        grind
      rw [s, s, h1, h2]
  have h32 := key 32 (by omega)
  have e : (256 : Int) ^ 32 = 115792089237316195423570985008687907853269984665640564039457584007913129639936 := by decide
  rw [e] at h32
  have hx' : 0 ≤ x ∧ x < 57896044618658097711785492504343953926634992332820282019728792003956564819949 := hx
  have hy' : 0 ≤ y ∧ y < 57896044618658097711785492504343953926634992332820282019728792003956564819949 := hy
  omega
end Go.Proofs.YthapcapiiknjdaaDoor

/-
  The model's l2Same.
-/
namespace Go.Proofs.YthapcapiiknjdaaDoor
set_option maxRecDepth 100000
open Go.RowKit

theorem rng16 {W : World} {g : Nat} {f : Nat → Int} (h : Blk W g .i64 (ls16 f)) : W.rangeAt g 0 (a16 f).toList := by
  intro j v hv
  have hj : j < 16 := by
    have := (List.getElem?_eq_some_iff.1 hv).1
    simpa [ls16] using this
  have e : (a16 f).toList[j]? = some (Value.int .i64 (f j)) := by
    simp [ls16, hj]
  rw [e] at hv
  cases hv
  rw [Nat.zero_add, h.cell (by rw [ls16_len]; exact hj), ls16_get _ hj]
theorem bytP (v : Int) : Byt (fill (byt (v % PP)) 32) := by
  intro i
  by_cases hi : i < 32
  · rw [fill_get _ _ _ hi]; unfold byt; omega
  · rw [List.getD_eq_getElem?_getD, List.getElem?_eq_none (by rw [fill_len]; omega)]; simp

set_option maxHeartbeats 4000000 in
theorem l2Same_any (w : World) (f h : Nat → Int) (hf : L16 f) (hh : L16 h) :
    Calls Tryd.prog 56 #[ag16 f, ag16 h] w fun r w' => r = .returned (.bool (decide (s16 f 16 % PP = s16 h 16 % PP))) ∧ Below w.heap.size w w' := by
  show Calls Tryd.prog 56 #[.agg (a16 f), .agg (a16 h)] w fun r w' => r = .returned (.bool (decide (s16 f 16 % PP = s16 h 16 % PP))) ∧ Below w.heap.size w w'
  have B0 : Blk (w.alloc (.cells (a16 f) 52)) w.heap.size .i64 (ls16 f) := blk16 w 52 f
  have n0 : Below w.heap.size w (w.alloc (.cells (a16 f) 52)) := (Below.refl _ _).alloc (Nat.le_refl _) _
  have s0 : (w.alloc (.cells (a16 f) 52)).heap.size = w.heap.size + 1 := by simp
  have B1 : ∀ w : World, Blk (w.alloc (.cells (a16 h) 52)) w.heap.size .i64 (ls16 h) := fun w => blk16 w 52 h
  have n1 : ∀ w : World, Below w.heap.size w (w.alloc (.cells (a16 h) 52)) := fun w => (Below.refl _ _).alloc (Nat.le_refl _) _
  have u50' := Go.Proofs.YthapcapiiknjdaaDoor.u50
  have iA : (Tryd.prog.info? 52).map (·.size) = some (a16 f).toList.length := by
    have : (a16 f).toList.length = 16 := by simp [ls16]
    rw [this]; exact i50
  have iB : (Tryd.prog.info? 52).map (·.size) = some (a16 h).toList.length := by
    have : (a16 h).toList.length = 16 := by simp [ls16]
    rw [this]; exact i50
  have BYA := fun W => l2Bytes_any W f hf
  have BYB := fun W => l2Bytes_any W h hh
  have YA := bytP (s16 f 16)
  have YB := bytP (s16 h 16)
  have EQ : Hid (decide (fill (byt (s16 f 16 % PP)) 32 = fill (byt (s16 h 16 % PP)) 32) = decide (s16 f 16 % PP = s16 h 16 % PP)) := by
    show _ = _
    by_cases e : s16 f 16 % PP = s16 h 16 % PP
    · rw [e]; simp
    · rw [decide_eq_false e, decide_eq_false]
      exact fun k => e (byt_inj ⟨Int.emod_nonneg _ (by decide), Int.emod_lt_of_pos _ (by decide)⟩ ⟨Int.emod_nonneg _ (by decide), Int.emod_lt_of_pos _ (by decide)⟩ k)
  obtain ⟨db, hdb⟩ : ∃ b, b = decide (s16 f 16 % PP = s16 h 16 % PP) := ⟨_, rfl⟩
  rw [← hdb] at EQ ⊢
  clear hdb
  generalize fill (byt (s16 f 16 % PP)) 32 = xs at *
  generalize fill (byt (s16 h 16 % PP)) 32 = ys at *
  have RB := fun (W : World) (b : Blk W (w.heap.size + 1) .i64 (ls16 h)) => rng16 b
  have RA := fun (W : World) (b : Blk W w.heap.size .i64 (ls16 f)) => rng16 b
  simp only [show ag16 f = .agg (a16 f) from rfl] at BYA
  simp only [show ag16 h = .agg (a16 h) from rfl] at BYB
  generalize a16 f = A at *
  generalize a16 h = B at *
  go_enter Tryd.func56, Tryd.ntmps56
  go_upto_region 1 with fail
  generalize w.alloc (.cells A 52) = wa at *
  have B1' := B1 wa
  have n1' := n1 wa
  rw [s0] at B1'
  generalize wa.alloc (.cells B 52) = wn at *
  have E0 := B0.up n1'
  have N := nxt n0 n1'
  clear B1 n1 B0 n0 n1' s0
  have CE : Hid (∀ W, Below wn.heap.size wn W → W.rangeAt w.heap.size 0 A.toList ∧ W.rangeAt (w.heap.size + 1) 0 B.toList) := fun W n => ⟨RA W (E0.up n), RB W (B1'.up n)⟩
  have CA : Hid (∀ W, Below wn.heap.size wn W → Calls Tryd.prog 49 #[.agg A] W fun r w' => ∃ a c g, r = .returned (.slice a xs.length c) ∧ Own w' g a .u8 xs ∧ Below wn.heap.size wn w' ∧ Below W.heap.size W w') := by
    intro W n
    refine (BYA W).mono ?_
    rintro r w' ⟨⟨a, c, g, he, o, _, _, _⟩, n'⟩
    exact ⟨a, c, g, he, o, nxt n n', n'⟩
  have CB : Hid (∀ W, Below wn.heap.size wn W → Calls Tryd.prog 49 #[.agg B] W fun r w' => ∃ a c g, r = .returned (.slice a ys.length c) ∧ Own w' g a .u8 ys ∧ Below wn.heap.size wn w' ∧ Below W.heap.size W w') := by
    intro W n
    refine (BYB W).mono ?_
    rintro r w' ⟨⟨a, c, g, he, o, _, _, _⟩, n'⟩
    exact ⟨a, c, g, he, o, nxt n n', n'⟩
  have CS : Hid (∀ W g g' a b ca cb, Below wn.heap.size wn W → Own W g a .u8 xs → Own W g' b .u8 ys → Calls Tryd.prog 95 #[.slice a xs.length ca, .slice b ys.length cb] W fun r w' => r = .returned (.bool db) ∧ Below wn.heap.size wn w') := by
    intro W g g' a b ca cb n o o'
    refine (l1Same_any W g g' a b ca cb xs ys o.rd o'.rd YA YB).mono ?_
    rintro r w' ⟨rfl, rfl⟩
    exact ⟨by rw [EQ.out], n⟩
  have nd : Below wn.heap.size wn wn.drew := (Below.refl _ _).drew
  clear BYA BYB RA RB E0 B1'
  refine wp_region_held_drew (S := fun W => W.rangeAt w.heap.size 0 A.toList ∧ W.rangeAt (w.heap.size + 1) 0 B.toList) (by kernel_rfl) ((unhide CE) _ nd) (fun hH => ?_)
  refine wpAnyH_take (i := 0) (v := .agg A.toList.toArray) rfl (by kernel_rfl) (by kernel_rfl) (by kernel_rfl) (fun _ _ _ h => h) (yieldsIf_load_mid (by rfl) 52 (.tmp 2) rfl w.heap.size 0 rfl A.toList (.array 16 2) (fun W h => h.1) u50' rfl iA) hH ?_
  simp only [Act.put, List.setIfInBounds_toArray]
  refine wpAnyH_take (i := 2) (v := .agg B.toList.toArray) rfl (by kernel_rfl) (by kernel_rfl) (by kernel_rfl) (fun _ _ _ h => h) (yieldsIf_load_mid (by rfl) 52 (.tmp 3) rfl (w.heap.size + 1) 0 rfl B.toList (.array 16 2) (fun W h => h.2) u50' rfl iB) hH ?_
  simp only [Act.put]
  refine wpAnyH_ready (rs := [1]) (by kernel_rfl) (by simp) ?_
  refine AllReadyH.cons rfl (fun K1 hK1 => ?_) AllReadyH.nil
  go_simp
  go_at_call 49
  refine ((unhide CA) _ nd).mono ?_
  rintro r wA ⟨aA, cA, gA, rfl, oA, nA, nA'⟩
  go_wp2_with fail
  refine hK1.out _ _ ((unhide CE) _ nA) (fun hH1 => ?_)
  clear hK1
  refine wpAnyH_ready (rs := [3]) (by kernel_rfl) (by simp) ?_
  refine AllReadyH.cons rfl (fun K2 hK2 => ?_) AllReadyH.nil
  go_simp
  go_at_call 49
  refine ((unhide CB) _ nA).mono ?_
  rintro r wB ⟨aB, cB, gB, rfl, oB, nB, nB'⟩
  go_wp2_with fail
  refine hK2.out _ _ ((unhide CE) _ nB) (fun hH2 => ?_)
  clear hK2
  refine wpAnyH_ready (rs := [4]) (by kernel_rfl) (by simp) ?_
  refine AllReadyH.cons rfl (fun K3 hK3 => ?_) AllReadyH.nil
  go_simp
  go_at_call 95
  refine ((unhide CS) _ gA gB aA aB cA cB nB (oA.up nB') oB).mono ?_
  rintro r wS ⟨rfl, nS⟩
  go_wp2_with fail
  refine hK3.out _ _ ((unhide CE) _ nS) (fun hH3 => ?_)
  clear hK3
  refine wpAnyH_ready (rs := [5]) (by kernel_rfl) (by simp) ?_
  refine AllReadyH.cons rfl (fun K4 hK4 => ?_) AllReadyH.nil
  go_simp
  refine hK4.out _ _ ((unhide CE) _ nS) (fun hH4 => ?_)
  clear hK4
  refine wpAnyH_done (by kernel_rfl) ?_ _
  have NS := nxt N nS
  clear CA CB CS CE hH hH1 hH2 hH3 hH4
  go_wp2
  go_ret
  exact ⟨rfl, NS⟩
end Go.Proofs.YthapcapiiknjdaaDoor

/-
  Zeros appended to an owned row of bytes ('append(s, make([]byte, m)...)'), in its room or in a new row. No program in sight.
-/
namespace Go.Proofs.YthapcapiiknjdaaDoor
set_option maxRecDepth 100000
open Go.RowKit

theorem zeroCells_one (v : Value) (m : Nat) : (Builtin.zeroCells #[v] m).toList = List.replicate m v := by
  apply List.ext_getElem
  · simp [Builtin.zeroCells]
  · intro i h1 h2
    simp [Builtin.zeroCells, Nat.mod_one]
theorem run_append_room_zeros {P : Program} (w : World) (t tn ty e : TypeId) (i : TypeInfo) (z : Value) (kq kn : IntKind) (ht : P.underlying t = some (.slice e)) (htn : P.underlying tn = some (.int kn)) (hi : P.info? e = some i) (hz : i.zero = some z)
    (g sLen sCap : Nat) (cur : Array Value) (hg : w.heap[g]? = some (.cells cur e (0, 0))) (m : Nat) (h0 : 0 < m) (hs : 0 < i.size) (h1 : ∀ u ∈ (Builtin.zeroCells z.cells m).toList, u.oneCell' = true)
    (h63 : (m : Int) ≤ 9223372036854775807) (h48 : m * i.bytes ≤ 281474976710656) (hroom : sLen + m ≤ sCap) (hfit : sLen * i.size + (Builtin.zeroCells z.cells m).toList.length ≤ cur.size) :
    (Builtin.append_ #[t, tn] ty #[.slice (some ⟨g, 0, none⟩) sLen sCap, .int kq m]).run P w =
      .ok (.slice (some ⟨g, 0, none⟩) (sLen + m) sCap) (w.setRow g (cur.toList.take (sLen * i.size) ++ (Builtin.zeroCells z.cells m).toList ++ cur.toList.drop (sLen * i.size + (Builtin.zeroCells z.cells m).toList.length)).toArray) := by
  have hst := run_storeCells_at P g (sLen * i.size) e (Builtin.zeroCells z.cells m).toList 0 cur w hg (by simpa using hfit) h1
  simp only [Nat.add_zero] at hst
  have hw : IntKind.i64.wrap (m : Int) = m := by rw [IntKind.wrap_i64]; omega
  have h48i : ¬ (281474976710656 < (m : Int) * (i.bytes : Int)) := by
    rw [← Int.natCast_mul]
    omega
  have hneg : ¬ ((m : Int) < 0) := by omega
  have hm : m ≠ 0 := by omega
  have hns : ¬ (m * i.size = 0) := Nat.mul_ne_zero hm (by omega)
  simp [Builtin.append_, run_underlying ht, run_underlying htn, sizeOf, typeInfo, zeroValue, hi, hz, asInt, asIntOf, hw, hneg, hns, h48i, hroom, Addr.add_lit, hst]
theorem append_zeros_own {P : Program} (w : World) (t tn ty e : TypeId) (i : TypeInfo) (kq kn : IntKind) (ht : P.underlying t = some (.slice e)) (htn : P.underlying tn = some (.int kn)) (hi : P.info? e = some i) (hz : i.zero = some (.int .u8 0)) (hsize : i.size = 1) (hby : i.bytes = 1)
    (base : Nat) (v : Value) (n : Nat) (xs : List Value) (hown : w.ownsRow base e 1 v n xs) (hv : v ≠ .slice none 0 0) (m : Nat) (h0 : 0 < m) (hsm : n + m ≤ 1048576) (hbase : base ≤ w.heap.size) :
    ∃ v' w', (Builtin.append_ #[t, tn] ty #[v, .int kq m]).run P w = .ok v' w' ∧ w'.ownsRow base e 1 v' (n + m) (xs ++ List.replicate m (.int .u8 0)) ∧ w.grownBy w' v.ownBlock ∧ v' ≠ .slice none 0 0 := by
  have hzc : (Value.int .u8 0).cells = #[.int .u8 0] := rfl
  have hzl := zeroCells_one (.int .u8 0) m
  have hlen : (xs ++ List.replicate m (Value.int .u8 0)).length = (n + m) * 1 := by rw [List.length_append, hown.1, List.length_replicate]; omega
  rcases hown.2 with ⟨rfl, rfl⟩ | ⟨g, cap, cur, rfl, hbg, hg, hnc, hcm, hcs, htake⟩
  · exact absurd rfl hv
  · by_cases hroom : n + m ≤ cap
    · have hr := run_append_room_zeros (P := P) w t tn ty e i (.int .u8 0) kq kn ht htn hi hz g n cap cur hg m h0 (by omega) (by rw [hzc, hzl]; intro u hu; rw [(List.mem_replicate.1 hu).2]; rfl) (by omega) (by rw [hby]; omega) hroom (by rw [hzc, hzl, hsize, List.length_replicate]; omega)
      rw [hzc, hzl, hsize, List.length_replicate] at hr
      refine ⟨_, _, hr, ⟨hlen, .inr ⟨g, cap, _, rfl, hbg, setRow_heap w g cur _ e _ hg, hroom, hcm, ?_, ?_⟩⟩, ⟨rfl, rfl, rfl, by simp, fun k _ hk => setRow_other w g k _ (fun e => hk (by simp [Value.ownBlock, e]))⟩, by simp⟩
      · simp only [List.size_toArray, List.length_append, List.length_take, List.length_drop, Array.length_toList, List.length_replicate]
        omega
      · rw [htake, ← hlen]
        exact List.take_left
    · have holds : ∀ j u, xs[j]? = some u → w.drew.cell? ((⟨g, 0, none⟩ : Addr).add j) = some u := hown.cells (g := g) rfl
      have hf := run_firstCells_some (P := P) w.drew i.size n ⟨g, 0, none⟩ n cap xs (by rw [hsize]; exact hown.1) holds
      have hr := Lib.run_append_grow_zeros (P := P) w t tn ty e i (.int .u8 0) kq kn ht htn hi hz (some ⟨g, 0, none⟩) n cap xs hf m h0 (by omega) (by omega) (by omega) (by rw [hby]; omega) (growslice_fits (by omega) (by rw [hby]; omega))
      have hge := grownCap_ge w (n + m) cap e
      have hcm' : grownCap w (n + m) cap e ≤ maxLen := grownCap_le_maxLen w (n + m) cap e (by unfold maxLen; omega)
      refine ⟨_, _, hr, ⟨hlen, .inr ⟨w.heap.size, _, _, rfl, hbase, _root_.Go.heap_alloc_new w.drew _, hge, hcm', ?_, ?_⟩⟩, ⟨rfl, rfl, rfl, by simp, fun k hk _ => _root_.Go.heap_alloc_old w.drew _ hk⟩, by simp⟩
      · have h1 := hown.1
        simp only [Array.size_append, List.size_toArray, size_zeroCells, hzc, h1]
        simp
        omega
      · simp only [Array.toList_append, List.append_assoc]
        rw [← List.append_assoc, ← hlen, hzc, hzl]
        exact List.take_left
end Go.Proofs.YthapcapiiknjdaaDoor
