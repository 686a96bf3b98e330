import Derived.Test.YtcaljanahpdidaaGreatGV22
import Derived.Test.YtcaljanahpdidaaGreatGV2
import Derived.Test.YtcaljanahpdidaaGreatGV3
namespace Go.Proofs.YtcaljanahpdidaaGreat
open Go Go.RowKit
theorem enc_is {m : Msg} (h : mfF m = 0) : encF m = [m.k] ++ (bigL ((bodF m).length : Int) 3 ++ bodF m) := by
  unfold encF enL
  rw [if_pos h, List.append_assoc]
theorem enc_len {m : Msg} (h : mfF m = 0) : (encF m).length = 4 + (bodF m).length := by
  rw [enc_is h]
  simp only [List.length_append, bigL_len, List.length_cons, List.length_nil]
  omega
theorem mf_kinds {m : Msg} (h : mfF m = 0) : m.k ∈ kinds := by
  rcases mf_kind h with k | k | k | k | k | k | k | k | k <;> rw [k] <;> decide
theorem dm_enc {m : Msg} (h : mfF m = 0) (Z : List Int) : dmP (encF m ++ Z) = 0 ∧ dmN (encF m ++ Z) = (bodF m).length ∧ dmM (encF m ++ Z) = m ∧ dmG (encF m ++ Z) = true := by
  have A : At (encF m ++ Z) 0 ([m.k] ++ (bigL ((bodF m).length : Int) 3 ++ bodF m)) := by
    rw [← enc_is h]
    exact ⟨[], Z, rfl, by simp⟩
  have bl := bod_le m h
  have ln : (encF m ++ Z).length = 4 + (bodF m).length + Z.length := by rw [List.length_append, enc_len h]
  have g0 : (encF m ++ Z).getD 0 0 = m.k := by
    have := A.fst.get (j := 0) (by simp)
    simpa using this
  have a1 := A.snd
  have b3 : beN (encF m ++ Z) 1 3 = ((bodF m).length : Int) := by
    have := a1.fst
    simp only [List.length_cons, List.length_nil, Nat.zero_add] at this
    exact this.be (by omega) (by simp; omega)
  have n3 : dmN (encF m ++ Z) = (bodF m).length := by unfold dmN; rw [b3]; simp
  have x : dmX (encF m ++ Z) = bodF m := by
    unfold dmX
    rw [n3, enc_is h]
    have e : ([m.k] ++ (bigL ((bodF m).length : Int) 3 ++ bodF m) ++ Z) = ([m.k] ++ bigL ((bodF m).length : Int) 3) ++ (bodF m ++ Z) := by simp [List.append_assoc]
    rw [e, List.drop_left' (by simp [bigL_len]), List.take_left']
    rfl
  have mm : dmM (encF m ++ Z) = m := by unfold dmM; rw [g0, x, rd_bod h]
  refine ⟨?_, n3, mm, ?_⟩
  · unfold dmP
    rw [if_neg (by omega), if_neg (by rw [g0]; exact fun c => c (mf_kinds h)), if_neg (by omega), if_neg (by rw [b3]; omega), if_neg (by rw [b3, ln]; omega)]
  · unfold dmG
    rw [mm, x]
    exact decide_eq_true ⟨h, rfl⟩
theorem dm_part {m : Msg} (h : mfF m = 0) {k : Nat} (hk : k < (encF m).length) : dmP ((encF m).take k) = 1 := by
  have ln : ((encF m).take k).length = k := by rw [List.length_take]; omega
  have bl := bod_le m h
  have el := enc_len h
  unfold dmP
  rw [ln]
  by_cases k0 : k = 0
  · rw [if_pos k0]
  rw [if_neg k0]
  have tk : ∀ j, j < k → ((encF m).take k).getD j 0 = (encF m).getD j 0 := fun j hj => by
    rw [List.getD_eq_getElem?_getD, List.getElem?_take, if_pos hj, ← List.getD_eq_getElem?_getD]
  have g0 : ((encF m).take k).getD 0 0 = m.k := by
    rw [tk 0 (by omega), enc_is h]
    rfl
  rw [if_neg (by rw [g0]; exact fun c => c (mf_kinds h))]
  by_cases k4 : k < 4
  · rw [if_pos k4]
  rw [if_neg k4]
  have A : At (encF m) 0 ([m.k] ++ (bigL ((bodF m).length : Int) 3 ++ bodF m)) := by
    rw [← enc_is h]
    exact At.self _
  have b3 : beN ((encF m).take k) 1 3 = ((bodF m).length : Int) := by
    have a1 := A.snd.fst
    simp only [List.length_cons, List.length_nil, Nat.zero_add] at a1
    have e : beN (encF m) 1 3 = ((bodF m).length : Int) := a1.be (by omega) (by simp; omega)
    rw [← e]
    show (((0 : Int) * 256 + ((encF m).take k).getD (1 + 0) 0) * 256 + ((encF m).take k).getD (1 + 1) 0) * 256 + ((encF m).take k).getD (1 + 2) 0 = (((0 : Int) * 256 + (encF m).getD (1 + 0) 0) * 256 + (encF m).getD (1 + 1) 0) * 256 + (encF m).getD (1 + 2) 0
    rw [tk (1 + 0) (by omega), tk (1 + 1) (by omega), tk (1 + 2) (by omega)]
  rw [b3, if_neg (by omega), if_pos (by omega)]
def flM (ms : List Msg) : List Int := (ms.map encF).flatten
theorem flM_snoc (ms : List Msg) (m : Msg) : flM (ms ++ [m]) = flM ms ++ encF m := by simp [flM]
theorem flM_drop (ms : List Msg) (Z : List Int) : (flM ms ++ Z).drop (flM ms).length = Z := List.drop_left' rfl
theorem cm_fl {L : List Msg} (hL : ∀ m ∈ L, mfF m = 0) {Z : List Int} (hb : Byt (flM L ++ Z)) : ∀ n, n ≤ L.length → CM (flM L ++ Z) (flM (L.take n)).length (L.take n) := by
  intro n
  induction n with
  | zero => intro _; exact CM.start _
  | succ n ih =>
    intro hn
    have C := ih (by omega)
    obtain ⟨m, hmm⟩ : ∃ m, m = L[n] := ⟨_, rfl⟩
    have et : L.take (n + 1) = L.take n ++ [m] := by rw [List.take_succ_eq_append_getElem (by omega), hmm]
    have eL : L = L.take n ++ (m :: L.drop (n + 1)) := by
      rw [hmm, ← List.drop_eq_getElem_cons (by omega), List.take_append_drop]
    have hm : mfF m = 0 := hL m (by rw [hmm]; exact List.getElem_mem _)
    rw [et]
    generalize L.take n = ms at *
    generalize L.drop (n + 1) = ns at *
    have dr : (flM L ++ Z).drop (flM ms).length = encF m ++ (flM ns ++ Z) := by
      have : flM L ++ Z = flM ms ++ (encF m ++ (flM ns ++ Z)) := by rw [eL]; simp [flM, List.append_assoc]
      rw [this, flM_drop]
    obtain ⟨p1, p2, p3, p4⟩ := dm_enc hm (flM ns ++ Z)
    have c0 : dmC (flM L ++ Z) ((flM ms).length : Int) = 0 := by
      unfold dmC
      have := C.le
      rw [if_neg (by omega), Int.toNat_natCast, dr, p1, if_neg (by simp), if_pos p4]
    obtain ⟨j, ej, _, Cj⟩ := C.next hb c0
    have er : dmR (flM L ++ Z) ((flM ms).length : Int) = m := by
      unfold dmR
      rw [if_pos c0, Int.toNat_natCast, dr, p3]
    have ee : dmE (flM L ++ Z) ((flM ms).length : Int) = (((flM (ms ++ [m])).length : Nat) : Int) := by
      unfold dmE
      rw [if_pos c0, Int.toNat_natCast, dr, p2, flM_snoc, List.length_append, enc_len hm]
      omega
    rw [er] at Cj
    rw [ej] at ee
    have : j = (flM (ms ++ [m])).length := by omega
    rw [← this]
    exact Cj
theorem cut_fl {L : List Msg} (hL : ∀ m ∈ L, mfF m = 0) {m : Msg} (hm : mfF m = 0) {k : Nat} (hk : k < (encF m).length) (hb : Byt (flM L ++ (encF m).take k)) :
    cmL (flM L ++ (encF m).take k) = L ∧ cmC (flM L ++ (encF m).take k) = 0 ∧ cmR (flM L ++ (encF m).take k) = (encF m).take k := by
  have C := cm_fl hL hb L.length (Nat.le_refl _)
  rw [List.take_length] at C
  have dr := flM_drop L ((encF m).take k)
  have c1 : dmC (flM L ++ (encF m).take k) ((flM L).length : Int) = 1 := by
    unfold dmC
    have := C.le
    have p := dm_part hm hk
    rw [if_neg (by omega), Int.toNat_natCast, dr, p, if_pos (by simp)]
  obtain ⟨s1, s2⟩ := C.stop (by rw [c1]; simp)
  refine ⟨s1.symm, ?_, ?_⟩
  · unfold cmC
    rw [← s2, c1]
    rfl
  · unfold cmR
    rw [← s2, c1, if_pos rfl, dr]
theorem cut_one {m : Msg} (hm : mfF m = 0) (hb : Byt (encF m)) : cmL (encF m) = [m] ∧ cmC (encF m) = 0 ∧ cmR (encF m) = [] := by
  have e : flM [m] ++ (encF m).take 0 = encF m := by simp [flM]
  have := cut_fl (L := [m]) (m := m) (k := 0) (by intro x hx; simp at hx; subst hx; exact hm) hm (by have := enc_len hm; omega) (by rw [e]; exact hb)
  rw [e] at this
  exact ⟨this.1, this.2.1, by rw [this.2.2]; simp⟩
end Go.Proofs.YtcaljanahpdidaaGreat
namespace Go.Proofs.YtcaljanahpdidaaGreat
open Go.RowKit
set_option maxHeartbeats 2000000 in
theorem lwAt_any (w : World) (g : Nat) (a : Option Addr) (c : Nat) (xs : List Int) (i n : Int) (hr : Rd w g a .u8 xs) (hb : Byt xs) (hl : xs.length ≤ 1048576) (i0 : 0 ≤ i) (i1 : i ≤ 1000) (n0 : 2 ≤ n) (n1 : n ≤ 1048576) :
    Calls Tryz.prog 4 #[.slice a xs.length c, .int .i64 i, .int .i64 n] w fun e w' => ∃ r : Nat, e = .returned (.int .i64 (r : Int)) ∧ (r : Int) < n ∧ ∃ m, w' = w.drewN m := by
  have tn : decide (n ≤ 1) = false := by simp; omega
  by_cases h0 : xs.length = 0
  · have hk : ((xs.length : Int) == 0) = true := by simp [h0]
    obtain ⟨r, hr'⟩ := Int.eq_ofNat_of_zero_le (Int.emod_nonneg (i * 7) (show n ≠ 0 by omega))
    have r1 := Int.emod_lt_of_pos (i * 7) (show 0 < n by omega)
    rw [hr'] at r1
    have HR := hide hr'
    clear h0 hr'
    go_enter Tryz.func4, Tryz.ntmps4
    go_wp2
    go_ret
    exact ⟨r, congrArg (fun v => Ending.returned (.int .i64 v)) HR.out, r1, 0, rfl⟩
  · have hk : ((xs.length : Int) == 0) = false := beq_eq_false_iff_ne.2 (by omega)
    obtain ⟨off, rfl, hc⟩ := hr (by omega)
    obtain ⟨j1, hi1⟩ := Int.eq_ofNat_of_zero_le (Int.emod_nonneg i (show (xs.length : Int) ≠ 0 by omega))
    have li1 : (j1 : Int) < (xs.length : Int) := by rw [← hi1]; exact Int.emod_lt_of_pos _ (by omega)
    obtain ⟨j2, hi2⟩ := Int.eq_ofNat_of_zero_le (Int.emod_nonneg (i + 1) (show (xs.length : Int) ≠ 0 by omega))
    have li2 : (j2 : Int) < (xs.length : Int) := by rw [← hi2]; exact Int.emod_lt_of_pos _ (by omega)
    obtain ⟨q, hq⟩ : ∃ q, i / (xs.length : Int) = q := ⟨_, rfl⟩
    have q0 : 0 ≤ q := by rw [← hq]; exact Int.ediv_nonneg i0 (by omega)
    have q1 : q ≤ 1000 := by rw [← hq]; exact Int.le_trans (Int.ediv_le_self _ i0) i1
    have x1 := hc j1 (by omega)
    have x2 := hc j2 (by omega)
    have b1 := hb j1
    have b2 := hb j2
    generalize xs.getD j1 0 = x at *
    generalize xs.getD j2 0 = y at *
    clear hc hr h0
    by_cases hn : n ≤ 200
    · have tn2 : decide (200 < n) = false := by simp; omega
      obtain ⟨r, hr'⟩ := Int.eq_ofNat_of_zero_le (Int.emod_nonneg (x + q) (show n ≠ 0 by omega))
      have r1 := Int.emod_lt_of_pos (x + q) (show 0 < n by omega)
      rw [hr'] at r1
      have HR := hide hr'
      clear x2 hi2 li2 b2 hr'
      go_enter Tryz.func4, Tryz.ntmps4
      go_wp2
      go_quiet (fail)
      go_wp2
      go_ret
      exact ⟨r, congrArg (fun v => Ending.returned (.int .i64 v)) HR.out, r1, _, rfl⟩
    · have tn2 : decide (200 < n) = true := by simp; omega
      obtain ⟨r, hr'⟩ := Int.eq_ofNat_of_zero_le (Int.emod_nonneg ((x + q) * 37 + y) (show n ≠ 0 by omega))
      have r1 := Int.emod_lt_of_pos ((x + q) * 37 + y) (show 0 < n by omega)
      rw [hr'] at r1
      have HR := hide hr'
      clear hr'
      go_enter Tryz.func4, Tryz.ntmps4
      go_wp2
      go_quiet (fail)
      go_wp2
      go_ret
      exact ⟨r, congrArg (fun v => Ending.returned (.int .i64 v)) HR.out, r1, _, rfl⟩
end Go.Proofs.YtcaljanahpdidaaGreat
namespace Go.Proofs.YtcaljanahpdidaaGreat
open Go Go.RowKit
theorem append_anyAt {P : Program} (w : World) (ty : TypeId) (i : TypeInfo) (ht : P.underlying 22 = some (.slice 5)) (hi : P.info? 5 = some i) (hz : i.zero = some (.int .u8 0)) (hsize : i.size = 1) (hby : i.bytes = 1)
    (base : Nat) (v : Value) (xs : List Int) (hown : RowB w base v xs) (g : Nat) (a : Option Addr) (c : Nat) (us : List Int) (hr : Rd w g a .u8 us) (hc : a = none → c = 0) (hl : xs.length + us.length ≤ 1099511627776) (hbase : base ≤ w.heap.size) :
    ∃ v' w', (Builtin.append_ #[22, 22] ty #[v, .slice a us.length c]).run P w = .ok v' w' ∧ RowB w' base v' (xs ++ us) ∧ w.grownBy w' v.ownBlock ∧ (v'.ownBlock = v.ownBlock ∨ v'.ownBlock = some w.heap.size) := by
  cases a with
  | none =>
    obtain rfl : us = [] := by
      by_cases h0 : 0 < us.length
      · obtain ⟨off, h, _⟩ := hr h0
        simp at h
      · exact List.eq_nil_of_length_eq_zero (by omega)
    obtain rfl := hc rfl
    exact ⟨v, w, run_append_owned_none (P := P) (w := w) base 22 ty 5 i 1 ht hi v _ _ hown, by simpa using hown, ⟨rfl, rfl, rfl, Nat.le_refl _, fun _ _ _ => rfl⟩, .inl rfl⟩
  | some ad =>
    have hcell : ∀ j u, (us.map (Value.int .u8))[j]? = some u → w.cell? (ad.add j) = some u := by
      intro j u hj
      have hjl : j < us.length := by
        have := (List.getElem?_eq_some_iff.1 hj).1
        simpa using this
      obtain ⟨off, ha, hcc⟩ := hr (by omega)
      simp only [Option.some.injEq] at ha
      subst ha
      rw [Addr.add_mid, hcc j hjl]
      simpa [hjl] using hj
    have hone : ∀ u ∈ us.map (Value.int .u8), u.oneCell' = true := by
      intro u hu
      obtain ⟨x, _, rfl⟩ := List.mem_map.1 hu
      rfl
    obtain ⟨v', w', h1, h2, h3, -, h5⟩ := run_append_own_at (P := P) w base 22 ty 5 i (.int .u8 0) 1 1 ht hi hz hsize hby rfl (by decide) v xs.length (xs.map (Value.int .u8)) hown ad us.length c (us.map (Value.int .u8)) (by simp) hcell hone (by unfold maxLen; omega) (by omega) hbase
    refine ⟨v', w', h1, ?_, h3, h5⟩
    show w'.ownsRow base 5 1 v' (xs ++ us).length ((xs ++ us).map (Value.int .u8))
    rw [List.length_append, List.map_append]
    exact h2
def upM (e : Int) : Msg := { msg0 with k := 24, ea := e }
theorem upM_ok {e : Int} (h : e = 0 ∨ e = 1) : mfF (upM e) = 0 := by rcases h with rfl | rfl <;> decide
theorem upM_has (w : World) (e : Int) : HasM w mq0 (upM e) := ⟨rd0 _ _ _ _, rd0 _ _ _ _, rdT0 _ _ _, rd0 _ _ _ _, rd0 _ _ _ _, rdL0 _ _ _ _, rd0 _ _ _ _, Nat.zero_le _⟩
theorem upM_is (e : Int) : IsM (upM e) := ⟨byt_nil, byt_nil, byt_nil, byt_nil, byt_nil, fun i hi => absurd hi (by simp [upM, msg0]), by simp [upM, msg0], by simp [upM, msg0], by simp [upM, msg0], by simp [upM, msg0], by simp [upM, msg0], by simp [upM, msg0], by simp [upM, msg0], fun i hi => absurd hi (by simp [upM, msg0]), by simp [upM, msg0], fun l hl => absurd hl (by simp [upM, msg0])⟩
theorem upM_z (e : Int) : HasZ mq0 (upM e) := ⟨fun _ => rfl, fun _ => rfl, fun _ => rfl, fun _ => rfl, fun _ => rfl, fun i hi => absurd hi (by simp [upM, msg0])⟩
theorem upM_us (e : Int) (S : Nat → Prop) : UsM mq0 (upM e) S := ⟨fun h => absurd h (by simp [upM, msg0]), fun h => absurd h (by simp [upM, msg0]), fun h => absurd h (by simp [upM, msg0]), fun h => absurd h (by simp [upM, msg0]), fun h => absurd h (by simp [upM, msg0]), fun h => absurd h (by simp [upM, msg0]), fun i hi => absurd hi (by simp [upM, msg0]), fun h => absurd h (by simp [upM, msg0])⟩
theorem own_ne {w : World} {B B' : Nat} {e e' : TypeId} {sz sz' n n' : Nat} {v v' : Value} {xs xs' : List Value} (h : w.ownsRow B e sz v n xs) (h' : w.ownsRow B' e' sz' v' n' xs') (ne : e ≠ e') : ∀ g, v.ownBlock = some g → v'.ownBlock ≠ some g := fun g e1 e2 => by
  rcases h.2 with ⟨rfl, _⟩ | ⟨q, cap, cur, rfl, _, hq, _⟩
  · simp [Value.ownBlock] at e1
  rcases h'.2 with ⟨rfl, _⟩ | ⟨q', cap', cur', rfl, _, hq', _⟩
  · simp [Value.ownBlock] at e2
  simp only [Value.ownBlock, Option.some.injEq] at e1 e2
  subst e1 e2
  rw [hq] at hq'
  exact ne (by injection hq' with hq'; injection hq')
theorem own_keep {w w' : World} {B : Nat} {e : TypeId} {sz n : Nat} {v : Value} {xs : List Value} (h : w.ownsRow B e sz v n xs) (k : ∀ g, g < w.heap.size → v.ownBlock = some g → w'.heap[g]? = w.heap[g]?) : w'.ownsRow B e sz v n xs := by
  refine ⟨h.1, ?_⟩
  rcases h.2 with h' | ⟨g, cap, cur, rfl, hb, hg, hk⟩
  · exact .inl h'
  · exact .inr ⟨g, cap, cur, rfl, hb, (k g (heap_lt hg) rfl).trans hg, hk⟩
structure Cst (w W : World) (N k : Nat) (va vw vl : Value) (L : List Msg) (es : List El) (Y : List Int) : Prop where
  n : Below w.heap.size w W
  a : RowB W w.heap.size va (flM L)
  r : WRow W w.heap.size vw va.ownBlock L es
  y : RowB W w.heap.size vl Y
  d : ∀ g, vl.ownBlock = some g → va.ownBlock ≠ some g
  f : ∀ m ∈ L, mfF m = 0
  c : L.length = if k < N then k else N - 1
  e : k = N → ∃ m, mfF m = 0 ∧ IsM m ∧ Y = encF m
  i : ∀ m ∈ L, IsM m
theorem Cst.last {w W W' : World} {N k : Nat} {va vw vl vb : Value} {L : List Msg} {es : List El} {Y : List Int} (h : Cst w W N k va vw vl L es Y) (n : Below W.heap.size W W') (m : Msg) (hm : mfF m = 0) (im : IsM m) (hb : RowB W' W.heap.size vb (encF m)) (hk : k + 1 = N) : Cst w W' N (k + 1) va vw vb L es (encF m) := by
  have wW := h.n.size
  refine ⟨nxt h.n n, own_keep h.a fun g hg _ => n.block g hg, h.r.up n, own_base hb wW, fun g e1 e2 => ?_, h.f, ?_, fun _ => ⟨m, hm, im, rfl⟩, h.i⟩
  · have l1 := (World.ownsRow.lt hb g e1).1
    have l2 := (World.ownsRow.lt h.a g e2).2
    omega
  · have := h.c
    rw [if_pos (by omega)] at this
    rw [if_neg (by omega)]
    omega
end Go.Proofs.YtcaljanahpdidaaGreat
namespace Go.Proofs.YtcaljanahpdidaaGreat
open Go Go.RowKit
theorem flM_le : ∀ L : List Msg, (flM L).length ≤ 10000 * L.length
  | [] => by simp [flM]
  | m :: L => by
    have a := flM_le L
    have b := enc_le m
    have e : (flM (m :: L)).length = (encF m).length + (flM L).length := by simp [flM]
    rw [e, List.length_cons]
    omega
theorem Cst.few {w W : World} {N k : Nat} {va vw vl : Value} {L : List Msg} {es : List El} {Y : List Int} (h : Cst w W N k va vw vl L es Y) (hk : k ≤ N) : L.length ≤ N := by
  have := h.c
  split at this <;> omega
theorem Cst.next {w V0 V6 : World} {N k : Nat} {va vw vl : Value} {L : List Msg} {es : List El} {Y : List Int} (h : Cst w V0 N k va vw vl L es Y) (n : Below V0.heap.size V0 V6) (p : MQ) (m : Msg) (hM : HasM V6 p m) (hI : IsM m) (hZ : HasZ p m) (mz : mfF m = 0) (US : UsM p m (fun g => V0.heap.size ≤ g ∧ g < V6.heap.size))
    (gb : Nat) (ab : Option Addr) (cb : Nat) (ob : Rd V6 gb ab .u8 (encF m)) (zb : ab = none → cb = 0) (q : Nat) (T : RwC V6 q (mgV p m).toList 28) (hq : V0.heap.size ≤ q) (hk : k + 1 < N) (hl : (flM L).length + (encF m).length ≤ 1099511627776) (hL : L.length ≤ 1000) (i0 : TypeInfo) (hi : Tryz.prog.info? 5 = some i0) (hz0 : i0.zero = some (.int .u8 0)) (hz1 : i0.size = 1) (hz2 : i0.bytes = 1) :
    ∃ va' V7, (Builtin.append_ #[22, 22] 22 #[va, .slice ab (encF m).length cb]).run Tryz.prog V6 = .ok va' V7 ∧ RwC V7 q (mgV p m).toList 28 ∧
      ∃ vw' V8, (Builtin.append_ #[23, 23] 23 #[vw, .slice (some ⟨V7.heap.size, 0, none⟩) 1 1]).run Tryz.prog (V7.alloc (.cells (mgV p m) 28)) = .ok vw' V8 ∧ Cst w V8 N (k + 1) va' vw' vl (L ++ [m]) (es ++ [⟨p, [], fun _ => 0⟩]) Y := by
  have w0 := h.n.size
  have s6 := n.size
  have a6 : RowB V6 w.heap.size va (flM L) := own_keep h.a fun g hg _ => n.block g hg
  have y6 : RowB V6 w.heap.size vl Y := own_keep h.y fun g hg _ => n.block g hg
  have r6 := h.r.up n
  have lA := World.ownsRow.lt h.a
  have lW := World.ownsRow.lt h.r.o
  have lY := World.ownsRow.lt h.y
  obtain ⟨va', V7, h1, R7, gr, own⟩ := append_anyAt (P := Tryz.prog) V6 22 i0 Tryz.underlying22 hi hz0 hz1 hz2 w.heap.size va (flM L) a6 gb ab cb (encF m) ob zb hl (by omega)
  have s7 := gr.size
  have keep6 : ∀ g, g < V6.heap.size → va.ownBlock ≠ some g → V7.heap[g]? = V6.heap[g]? := fun g hg ne => gr.block g hg (fun e => ne e.symm)
  have naV : ∀ g, V0.heap.size ≤ g → va.ownBlock ≠ some g := fun g hg e => by have := (lA g e).2; omega
  have T7 : RwC V7 q (mgV p m).toList 28 := (keep6 q T.lt (naV q hq)).trans T
  have hM7 := hM.ofU US fun g ⟨g1, g2⟩ => keep6 g g2 (naV g g1)
  have own' : ∀ g, va'.ownBlock = some g → va.ownBlock = some g ∨ g = V6.heap.size := fun g e => by
    rcases own with q | q
    · rw [q] at e; exact .inl e
    · rw [q] at e; exact .inr (Option.some.inj e).symm
  have r7 : WRow V7 w.heap.size vw va'.ownBlock L es := r6.keep (fun g hg ne => keep6 g hg ne) s7 (fun g e => own_ne r6.o a6 (by decide) g e) (by
    rcases own with q | q
    · exact .inl q
    · exact .inr fun g e => by rw [q] at e; have := Option.some.inj e; omega)
  have y7 : RowB V7 w.heap.size vl Y := own_keep y6 fun g hg e => keep6 g hg (h.d g e)
  obtain ⟨vw', V8, h2, r8, keep7, nB, GE⟩ := r7.app m ⟨p, [], fun _ => 0⟩ (by omega) hM7 hI hZ (US.mono fun g ⟨g1, g2⟩ => ⟨fun e => by have := (lW g e).2; omega, fun e => by
    rcases own' g e with q | q
    · exact naV g g1 q
    · omega, by omega⟩) hL
  have nV : Below w.heap.size w V7 := (h.n.trans (n.mono (by omega))).trans ((Below.refl w.heap.size V6).grown gr (by omega) (fun g e => (lA g e).1))
  refine ⟨va', V7, h1, T7, vw', V8, h2, ⟨nV.trans nB, ?_, r8, ?_, fun g e1 e2 => ?_, ?_, ?_, fun e => absurd e (by omega), ?_⟩⟩
  · have a8 := own_keep (w' := V8) R7 fun g hg e => keep7 g hg (own_ne R7 r7.o (by decide) g e)
    rw [flM_snoc]
    exact a8
  · exact own_keep y7 fun g hg e => keep7 g hg (own_ne y7 r7.o (by decide) g e)
  · rcases own' g e2 with q | q
    · exact h.d g e1 q
    · have := (lY g e1).2; omega
  · intro x hx
    rcases List.mem_append.1 hx with q | q
    · exact h.f x q
    · simp only [List.mem_cons, List.not_mem_nil, or_false] at q
      subst q
      exact mz
  · have := h.c
    rw [if_pos (by omega)] at this
    rw [if_pos hk, List.length_append, this]
    rfl
  · intro x hx
    rcases List.mem_append.1 hx with q | q
    · exact h.i x q
    · simp only [List.mem_cons, List.not_mem_nil, or_false] at q
      subst q
      exact hI
end Go.Proofs.YtcaljanahpdidaaGreat
namespace Go.Proofs.YtcaljanahpdidaaGreat
open Go Go.RowKit
theorem iMl : (Tryz.prog.info? 33).map (·.size) = some 3 := by kernel_rfl
theorem rowMl : ∃ d, Tryz.prog.underlying 33 = some d ∧ d.isRow = true := ⟨_, Tryz.underlying33, rfl⟩
theorem MRow.base {w : World} {B C : Nat} {v : Value} {ms : List Msg} {es : List El} (R : MRow w B v ms es) (hC : C ≤ B) : MRow w C v ms es :=
  ⟨⟨R.o.1, by
      rcases R.o.2 with h' | ⟨g, cap, cur, e1, hbg, h3⟩
      · exact .inl h'
      · exact .inr ⟨g, cap, cur, e1, by omega, h3⟩⟩, R.l, R.b, fun i hi => ⟨Nat.le_trans hC (R.h i hi).1, (R.h i hi).2⟩, R.d, R.t⟩
theorem MRow.up {w w' : World} {B : Nat} {v : Value} {ms : List Msg} {es : List El} (h : MRow w B v ms es) (n : Below w.heap.size w w') : MRow w' B v ms es := h.of n.size fun k hk _ => n.block k hk
theorem MRow.onl {w w' : World} {B q : Nat} {v : Value} {ms : List Msg} {es : List El} (h : MRow w B v ms es) (O : Only q w w') (hq : q < B) : MRow w' B v ms es := h.of (Nat.le_of_eq O.size.symm) fun k _ hk => O.block k (by omega)
theorem MRow.lim {w : World} {B : Nat} {v : Value} {ms : List Msg} {es : List El} (h : MRow w B v ms es) : ∀ g, v.ownBlock = some g → g < w.heap.size := fun g hg => (World.ownsRow.lt h.o g hg).2
def RstP (w : World) (v : Value) (ms : List Msg) (es : List El) (x : Value) (ys : List Int) : Prop := ∃ H, RowB w H x ys ∧ (∀ i, i < ms.length → (es.getD i el0).F 7 ≤ H) ∧ ∀ g, v.ownBlock = some g → g < H
def CcP (w : World) (xs : List Int) (e : Ending) (w' : World) : Prop := (∃ v es x, e = .returned (.agg #[.int .i64 (cmC xs), v, x]) ∧ MRow w' w.heap.size v (cmL xs) es ∧ RowB w' w.heap.size x (cmR xs) ∧ RstP w' v (cmL xs) es x (cmR xs)) ∧ Below w.heap.size w w'
theorem wpList_bsT {P : Program} (w : World) {ops : Array Oper} {rest : List Oper} {o : Oper} {a : Act} {Q : Exit → Act → World → Prop} (hgd : o.guard = none) (t : TypeId) (n : Nat) (fs : Array (Nat × Operand)) (ho : o.op = .buildSlice t n fs) (vs : Array (Nat × Value)) (hv : fs.map (fun x => (x.1, a.eval x.2)) = vs)
    (v' : Value) (w' : World) (hr : (Instr.buildSlice t n vs).run P w = .ok v' w') (h : wpList P ops Q rest (a.put o.dst v') w') : wpList P ops Q (o :: rest) a w :=
  wpList_plain hgd fun _ hK => by
    unfold Oper.wp execOp
    simp only [ho, hv]
    rw [Sem.run_bind, hr]
    exact hK _ _ h
set_option maxRecDepth 100000 in
set_option maxHeartbeats 8000000 in
theorem implCM_any (w : World) (g : Nat) (a : Option Addr) (c : Nat) (xs : List Int) (hr : Rd w g a .u8 xs) (hb : Byt xs) (hz : a = none → c = 0) (hc : xs.length ≤ c) (hx : xs.length ≤ 1048576) :
    Calls Tryz.prog 8 #[.slice a xs.length c] w fun e w' => CcP w xs e w' := by
  obtain ⟨d3, hd3, hrow3⟩ := rowMl
  obtain ⟨d13, hd13, hrow13⟩ := rowM
  have n0 : Below w.heap.size w (w.alloc (.cells #[.int .i64 0, .slice none 0 0, .slice none 0 0] 33)) := (Below.refl _ _).alloc (Nat.le_refl _) _
  have U0 : RwC (w.alloc (.cells #[.int .i64 0, .slice none 0 0, .slice none 0 0] 33)) w.heap.size [.int .i64 0, .slice none 0 0, .slice none 0 0] 33 := RwC.new w _ _
  have DC := hide (fun (W : World) (mq : Nat) (i : Nat) (hm : W.heap[mq]? = some (.map regE 9)) (n : Below w.heap.size w W) => decode_any W mq g a c xs (i : Int) hm (hr.up n) hb hz hc hx)
  have HR := hide hr
  have HB := hide hb
  have HZ := hide hz
  have CS := hide (CM.start xs)
  clear hr hb hz
  go_enter Tryz.func8, Tryz.ntmps8
  go_upto_region 1 with fail
  generalize w.alloc (.cells #[.int .i64 0, .slice none 0 0, .slice none 0 0] 33) = W at *
  go_wp2_with fail
  refine (messageKinds_any W).mono ?_
  rintro e W1 ⟨rfl, hm, n1⟩
  have U1 := U0.up n1
  have N1 := nxt n0 n1
  obtain ⟨mq, hmq⟩ : ∃ g, W.heap.size = g := ⟨_, rfl⟩
  rw [hmq] at hm ⊢
  have wm : w.heap.size < mq := by rw [← hmq]; exact U0.lt
  have n2 : Below W1.heap.size W1 (W1.alloc (.cells #[.int .i64 0, .slice none 0 0, .slice none 0 0] 33)) := (Below.refl _ _).alloc (Nat.le_refl _) _
  have T2 : RwC (W1.alloc (.cells #[.int .i64 0, .slice none 0 0, .slice none 0 0] 33)) W1.heap.size [.int .i64 0, .slice none 0 0, .slice none 0 0] 33 := RwC.new W1 _ _
  have ml : mq < W1.heap.size := (Array.getElem?_eq_some_iff.1 hm).1
  have M2 : (W1.alloc (.cells #[.int .i64 0, .slice none 0 0, .slice none 0 0] 33)).heap[mq]? = some (.map regE 9) := (n2.block mq ml).trans hm
  have U2 := U1.up n2
  have N2 := nxt N1 n2
  clear U0 U1 n0 n1 hmq hm N1
  go_upto_region 3 with fail
  generalize W1.alloc (.cells #[.int .i64 0, .slice none 0 0, .slice none 0 0] 33) = W2 at *
  obtain ⟨b4, hb4⟩ : ∃ g, W1.heap.size = g := ⟨_, rfl⟩
  rw [hb4] at T2 ml ⊢
  have l4 := T2.lt
  obtain ⟨B, hB⟩ : ∃ g, W2.heap.size = g := ⟨_, rfl⟩
  have sB : B ≤ W2.heap.size := by omega
  have b4B : b4 < B := by omega
  clear n2 hb4 l4 hB
  have R2 := hide (MRow.nil W2 B)
  have H2 := hide T2
  have HU := hide U2
  have HM := hide M2
  have HN := hide N2
  clear T2 U2 M2 N2
  go_wp2_with fail
  go_loopw [5] (fun j wr => ∃ (i : Nat) (v : Value) (ms : List Msg) (es : List El), j = .int .i64 (i : Int) ∧ Hid (CM xs i ms) ∧ Hid (RwC wr b4 [.int .i64 0, v, .slice none 0 0] 33) ∧ Hid (MRow wr B v ms es) ∧ Hid (RwC wr w.heap.size [.int .i64 0, .slice none 0 0, .slice none 0 0] 33) ∧ Hid (wr.heap[mq]? = some (.map regE 9)) ∧ Hid (Below w.heap.size w wr) ∧ B ≤ wr.heap.size) (fun j _ => xs.length + 4 - (intOf j).toNat)
  case atStart => exact ⟨0, _, [], [], rfl, CS, H2, R2, HU, HM, HN, sB⟩
  case round =>
    obtain ⟨i, v, ms, es, rfl, hC, hT, hR, hU, hM, hN, hS⟩ := hrel
    clear CS H2 R2 HU HM HN sB
    have iL := hC.out.le
    have nL := hC.out.n
    obtain ⟨cd, ecd⟩ : ∃ x, Hid (dmC xs (i : Int) = x) := ⟨_, rfl⟩
    obtain ⟨m, emm⟩ : ∃ x, Hid (dmR xs (i : Int) = x) := ⟨_, rfl⟩
    obtain ⟨nx, enx⟩ : ∃ x, Hid (dmE xs (i : Int) = x) := ⟨_, rfl⟩
    have D := hide (DC.out wr mq i hM.out hN.out)
    go_wp2_with fail
    refine D.out.mono ?_
    rintro e Y1 ⟨⟨p, bs, F, rfl, hF, hA⟩, n1⟩
    rw [ecd.out, emm.out, enx.out]
    rw [emm.out] at hA
    have hAt := hA.trim
    have hA0 : B ≤ min (F 0) Y1.heap.size ∧ wr.heap.size ≤ min (F 0) Y1.heap.size := by
      have := n1.size
      constructor <;> (refine Nat.le_min.2 ⟨?_, ?_⟩ <;> omega)
    have hA7 : min (F 7) Y1.heap.size ≤ Y1.heap.size := Nat.min_le_right _ _
    obtain ⟨G, hG⟩ : ∃ G, Hid ((fun k => min (F k) Y1.heap.size) = G) := ⟨_, rfl⟩
    have hA' : Hid (AnsC Y1 G p m bs) := by show AnsC _ _ _ _ _; rw [← hG.out]; exact hAt.c
    have g0 : B ≤ G 0 ∧ wr.heap.size ≤ G 0 := by rw [← hG.out]; exact hA0
    have g7 : G 7 ≤ Y1.heap.size := by rw [← hG.out]; exact hA7
    clear hA hAt hA0 hA7 hG hF D
    have T1 := hide (hT.out.up n1)
    have R1 := hide (hR.out.up n1)
    have U1 := hide (hU.out.up n1)
    have M1 : Hid (Y1.heap[mq]? = some (.map regE 9)) := (n1.block mq (Array.getElem?_eq_some_iff.1 hM.out).1).trans hM.out
    have N1 := hide (nxt hN.out n1)
    have s1 := n1.size
    have vlim := hide hR.out.lim
    have elim := hide hR.out.t
    clear hT hR hU hM hN n1
    have nA : Below Y1.heap.size Y1 (Y1.alloc (.cells #[.int .i64 0, .int .i64 0, .int .i64 0, .slice none 0 0, .slice none 0 0, .string ⟨#[]⟩, .slice none 0 0, .slice none 0 0, .int .i64 0, .int .i64 0, .slice none 0 0, .bool false, .slice none 0 0, .slice none 0 0, .int .i64 0] 57)) := (Below.refl _ _).alloc (Nat.le_refl _) _
    have ZA : RwC (Y1.alloc (.cells #[.int .i64 0, .int .i64 0, .int .i64 0, .slice none 0 0, .slice none 0 0, .string ⟨#[]⟩, .slice none 0 0, .slice none 0 0, .int .i64 0, .int .i64 0, .slice none 0 0, .bool false, .slice none 0 0, .slice none 0 0, .int .i64 0] 57)) Y1.heap.size [.int .i64 0, .int .i64 0, .int .i64 0, .slice none 0 0, .slice none 0 0, .string ⟨#[]⟩, .slice none 0 0, .slice none 0 0, .int .i64 0, .int .i64 0, .slice none 0 0, .bool false, .slice none 0 0, .slice none 0 0, .int .i64 0] 57 := RwC.new Y1 _ _
    have OQ := only_setG (Y1.alloc (.cells #[.int .i64 0, .int .i64 0, .int .i64 0, .slice none 0 0, .slice none 0 0, .string ⟨#[]⟩, .slice none 0 0, .slice none 0 0, .int .i64 0, .int .i64 0, .slice none 0 0, .bool false, .slice none 0 0, .slice none 0 0, .int .i64 0] 57)) Y1.heap.size [.int .i64 cd, .int .i64 m.k, .int .i64 m.v, .slice p.a2 m.r.length p.c2, .slice p.a3 m.s.length p.c3, .string ⟨⟨m.ho⟩⟩, .slice p.a5 m.pr.length p.c5, .slice p.a6 m.ti.length p.c6, .int .i64 m.ag, .int .i64 m.ea, .slice p.a9 m.bi.length p.c9, .bool m.rs, .slice p.a11 m.ce.length p.c11, .slice p.a12 m.pf.length p.c12, .int .i64 nx] 0
    have BX : RwC ((Y1.alloc (.cells #[.int .i64 0, .int .i64 0, .int .i64 0, .slice none 0 0, .slice none 0 0, .string ⟨#[]⟩, .slice none 0 0, .slice none 0 0, .int .i64 0, .int .i64 0, .slice none 0 0, .bool false, .slice none 0 0, .slice none 0 0, .int .i64 0] 57)).setCells Y1.heap.size 0 [.int .i64 cd, .int .i64 m.k, .int .i64 m.v, .slice p.a2 m.r.length p.c2, .slice p.a3 m.s.length p.c3, .string ⟨⟨m.ho⟩⟩, .slice p.a5 m.pr.length p.c5, .slice p.a6 m.ti.length p.c6, .int .i64 m.ag, .int .i64 m.ea, .slice p.a9 m.bi.length p.c9, .bool m.rs, .slice p.a11 m.ce.length p.c11, .slice p.a12 m.pf.length p.c12, .int .i64 nx]) Y1.heap.size [.int .i64 cd, .int .i64 m.k, .int .i64 m.v, .slice p.a2 m.r.length p.c2, .slice p.a3 m.s.length p.c3, .string ⟨⟨m.ho⟩⟩, .slice p.a5 m.pr.length p.c5, .slice p.a6 m.ti.length p.c6, .int .i64 m.ag, .int .i64 m.ea, .slice p.a9 m.bi.length p.c9, .bool m.rs, .slice p.a11 m.ce.length p.c11, .slice p.a12 m.pf.length p.c12, .int .i64 nx] 57 := ZA.put rfl
    have nS : Below Y1.heap.size Y1 ((Y1.alloc (.cells #[.int .i64 0, .int .i64 0, .int .i64 0, .slice none 0 0, .slice none 0 0, .string ⟨#[]⟩, .slice none 0 0, .slice none 0 0, .int .i64 0, .int .i64 0, .slice none 0 0, .bool false, .slice none 0 0, .slice none 0 0, .int .i64 0] 57)).setCells Y1.heap.size 0 [.int .i64 cd, .int .i64 m.k, .int .i64 m.v, .slice p.a2 m.r.length p.c2, .slice p.a3 m.s.length p.c3, .string ⟨⟨m.ho⟩⟩, .slice p.a5 m.pr.length p.c5, .slice p.a6 m.ti.length p.c6, .int .i64 m.ag, .int .i64 m.ea, .slice p.a9 m.bi.length p.c9, .bool m.rs, .slice p.a11 m.ce.length p.c11, .slice p.a12 m.pf.length p.c12, .int .i64 nx]) := nA.trans (OQ.below (Nat.le_refl _))
    have THR := ZA.thereG
    have ON : (#[.int .i64 cd, .int .i64 m.k, .int .i64 m.v, .slice p.a2 m.r.length p.c2, .slice p.a3 m.s.length p.c3, .string ⟨⟨m.ho⟩⟩, .slice p.a5 m.pr.length p.c5, .slice p.a6 m.ti.length p.c6, .int .i64 m.ag, .int .i64 m.ea, .slice p.a9 m.bi.length p.c9, .bool m.rs, .slice p.a11 m.ce.length p.c11, .slice p.a12 m.pf.length p.c12, .int .i64 nx] : Array Value).all (·.oneCell') = true := one15m cd p m nx
    clear nA ZA OQ
    unfold rsV
    go_upto_region 5 with (refine wpList_store_mid rfl 57 (.tmp 6) (.tmp 11) rfl Y1.heap.size 0 #[.int .i64 cd, .int .i64 m.k, .int .i64 m.v, .slice p.a2 m.r.length p.c2, .slice p.a3 m.s.length p.c3, .string ⟨⟨m.ho⟩⟩, .slice p.a5 m.pr.length p.c5, .slice p.a6 m.ti.length p.c6, .int .i64 m.ag, .int .i64 m.ea, .slice p.a9 m.bi.length p.c9, .bool m.rs, .slice p.a11 m.ce.length p.c11, .slice p.a12 m.pf.length p.c12, .int .i64 nx] rfl rfl THR iMR ON ?_)
    clear THR ON
    generalize (Y1.alloc (.cells #[.int .i64 0, .int .i64 0, .int .i64 0, .slice none 0 0, .slice none 0 0, .string ⟨#[]⟩, .slice none 0 0, .slice none 0 0, .int .i64 0, .int .i64 0, .slice none 0 0, .bool false, .slice none 0 0, .slice none 0 0, .int .i64 0] 57)).setCells Y1.heap.size 0 [.int .i64 cd, .int .i64 m.k, .int .i64 m.v, .slice p.a2 m.r.length p.c2, .slice p.a3 m.s.length p.c3, .string ⟨⟨m.ho⟩⟩, .slice p.a5 m.pr.length p.c5, .slice p.a6 m.ti.length p.c6, .int .i64 m.ag, .int .i64 m.ea, .slice p.a9 m.bi.length p.c9, .bool m.rs, .slice p.a11 m.ce.length p.c11, .slice p.a12 m.pf.length p.c12, .int .i64 nx] = Y2 at *
    have T2 := hide (T1.out.up nS)
    have R2 := hide (R1.out.up nS)
    have U2 := hide (U1.out.up nS)
    have M2 : Hid (Y2.heap[mq]? = some (.map regE 9)) := (nS.block mq (Array.getElem?_eq_some_iff.1 M1.out).1).trans M1.out
    have N2 := hide (nxt N1.out nS)
    have A2 := hide (hA'.out.up nS)
    have s2 := nS.size
    clear T1 R1 U1 M1 N1 hA' nS
    obtain ⟨b6, h6⟩ : ∃ g, Y1.heap.size = g := ⟨_, rfl⟩
    rw [h6] at BX ⊢
    have l6 := BX.lt
    have k0 : Y2.cell? ⟨b6, 0, none⟩ = some (.int .i64 cd) := BX.cell 0
    have k14 : Hid (Y2.cell? ⟨b6, 14, none⟩ = some (.int .i64 nx)) := BX.cell 14
    have RM := hide (BX.partD 1 [.int .i64 m.k, .int .i64 m.v, .slice p.a2 m.r.length p.c2, .slice p.a3 m.s.length p.c3, .string ⟨⟨m.ho⟩⟩, .slice p.a5 m.pr.length p.c5, .slice p.a6 m.ti.length p.c6, .int .i64 m.ag, .int .i64 m.ea, .slice p.a9 m.bi.length p.c9, .bool m.rs, .slice p.a11 m.ce.length p.c11, .slice p.a12 m.pf.length p.c12] rfl)
    have x6 : G 7 ≤ b6 ∧ b6 < Y2.heap.size ∧ wr.heap.size ≤ b6 := by omega
    clear BX h6 g7 s1 s2 l6
    have rng := dmC_rng xs (i : Int)
    rw [ecd.out] at rng
    by_cases c0 : cd = 0
    · obtain ⟨j, ej, hj4, hC'⟩ := hC.out.next HB.out (by rw [ecd.out]; exact c0)
      rw [emm.out] at hC'
      obtain rfl : nx = (j : Int) := by rw [← enx.out]; exact ej
      have CN := hide hC'
      subst c0
      obtain ⟨v', Y3, ap, R3, kp3, N3, -⟩ := R2.out.app m ⟨p, bs, G⟩ (by omega) A2.out g0.1 (by show G 7 ≤ _; omega) (fun k hk => Nat.le_trans (elim.out k hk) g0.2) (fun q hq => .inl (Nat.lt_of_lt_of_le (vlim.out q hq) g0.2)) (by omega)
      obtain ⟨va, vc, hv', -⟩ := R3.slice
      obtain ⟨nm, hnm⟩ : ∃ n, (ms ++ [m]).length = n := ⟨_, rfl⟩
      rw [hnm] at hv'
      subst hv'
      have T3 : RwC Y3 b4 [.int .i64 0, v, .slice none 0 0] 33 := (N3.block b4 b4B).trans T2.out
      have O3 := Only.setCell Y3 b4 1 (.slice va nm vc)
      have TF : Hid (RwC (Y3.setCell ⟨b4, 1, none⟩ (.slice va nm vc)) b4 [.int .i64 0, .slice va nm vc, .slice none 0 0] 33) := T3.set 1 _
      have RF := hide (R3.onl O3 b4B)
      have UF : Hid (RwC (Y3.setCell ⟨b4, 1, none⟩ (.slice va nm vc)) w.heap.size [.int .i64 0, .slice none 0 0, .slice none 0 0] 33) := (O3.block _ (by omega)).trans ((N3.block _ (by omega)).trans U2.out)
      have MF : Hid ((Y3.setCell ⟨b4, 1, none⟩ (.slice va nm vc)).heap[mq]? = some (.map regE 9)) := (O3.block _ (by omega)).trans ((N3.block _ (by omega)).trans M2.out)
      have NF : Hid (Below w.heap.size w (Y3.setCell ⟨b4, 1, none⟩ (.slice va nm vc))) := (N2.out.trans (N3.mono (by omega))).trans (O3.below (by omega))
      have SF : B ≤ (Y3.setCell ⟨b4, 1, none⟩ (.slice va nm vc)).heap.size := by rw [O3.size]; have := N3.size; omega
      have t1 : Y2.cell? ⟨b4, 1, none⟩ = some v := T2.out.cell 1
      have t3 : Y3.cell? ⟨b4, 1, none⟩ = some v := T3.cell 1
      have f3 := T3.free 1
      have K14 : Hid ((Y3.setCell ⟨b4, 1, none⟩ (.slice va nm vc)).cell? ⟨b6, 14, none⟩ = some (.int .i64 (j : Int))) := (World.cell?_of_block (a := ⟨b6, 14, none⟩) (O3.block b6 (by omega))).trans ((World.cell?_of_block (a := ⟨b6, 14, none⟩) (kp3 b6 (by omega) (fun e => by have := vlim.out b6 e; omega))).trans k14.out)
      have bs0 : (Instr.buildSlice 23 1 #[(0, .agg #[.int .i64 m.k, .int .i64 m.v, .slice p.a2 m.r.length p.c2, .slice p.a3 m.s.length p.c3, .string ⟨⟨m.ho⟩⟩, .slice p.a5 m.pr.length p.c5, .slice p.a6 m.ti.length p.c6, .int .i64 m.ag, .int .i64 m.ea, .slice p.a9 m.bi.length p.c9, .bool m.rs, .slice p.a11 m.ce.length p.c11, .slice p.a12 m.pf.length p.c12])]).run Tryz.prog Y2 = .ok (.slice (some ⟨Y2.heap.size, 0, none⟩) 1 1) (Y2.alloc (.cells #[.int .i64 m.k, .int .i64 m.v, .slice p.a2 m.r.length p.c2, .slice p.a3 m.s.length p.c3, .string ⟨⟨m.ho⟩⟩, .slice p.a5 m.pr.length p.c5, .slice p.a6 m.ti.length p.c6, .int .i64 m.ag, .int .i64 m.ea, .slice p.a9 m.bi.length p.c9, .bool m.rs, .slice p.a11 m.ce.length p.c11, .slice p.a12 m.pf.length p.c12] 28)) := by kernel_rfl
      have ap' : (Builtin.append_ #[23, 23] 23 #[v, .slice (some ⟨Y2.heap.size, 0, none⟩) 1 1]).run Tryz.prog (Y2.alloc (.cells #[.int .i64 m.k, .int .i64 m.v, .slice p.a2 m.r.length p.c2, .slice p.a3 m.s.length p.c3, .string ⟨⟨m.ho⟩⟩, .slice p.a5 m.pr.length p.c5, .slice p.a6 m.ti.length p.c6, .int .i64 m.ag, .int .i64 m.ea, .slice p.a9 m.bi.length p.c9, .bool m.rs, .slice p.a11 m.ce.length p.c11, .slice p.a12 m.pf.length p.c12] 28)) = .ok (.slice va nm vc) Y3 := ap
      have RM' := RM.out
      have xj : j ≤ xs.length := CN.out.le
      clear T2 R2 U2 M2 N2 A2 T3 O3 R3 kp3 N3 ap k14 RM hC hC' vlim elim hnm g0 x6 rng
      go_upto_region 10 with (first
        | (refine wpList_load_mid rfl 28 (.tmp 22) rfl b6 1 rfl [.int .i64 m.k, .int .i64 m.v, .slice p.a2 m.r.length p.c2, .slice p.a3 m.s.length p.c3, .string ⟨⟨m.ho⟩⟩, .slice p.a5 m.pr.length p.c5, .slice p.a6 m.ti.length p.c6, .int .i64 m.ag, .int .i64 m.ea, .slice p.a9 m.bi.length p.c9, .bool m.rs, .slice p.a11 m.ce.length p.c11, .slice p.a12 m.pf.length p.c12] d13 RM' hd13 hrow13 iM ?_)
        | (refine wpList_bsT _ rfl 23 1 #[(0, .tmp 23)] rfl #[(0, .agg #[.int .i64 m.k, .int .i64 m.v, .slice p.a2 m.r.length p.c2, .slice p.a3 m.s.length p.c3, .string ⟨⟨m.ho⟩⟩, .slice p.a5 m.pr.length p.c5, .slice p.a6 m.ti.length p.c6, .int .i64 m.ag, .int .i64 m.ea, .slice p.a9 m.bi.length p.c9, .bool m.rs, .slice p.a11 m.ce.length p.c11, .slice p.a12 m.pf.length p.c12])] rfl _ _ bs0 ?_)
        | (at_builtin; refine Lib.wpList_append_run _ rfl _ _ 23 23 rfl _ _ rfl rfl _ _ ap' ?_))
      generalize Y3.setCell ⟨b4, 1, none⟩ (.slice va nm vc) = Y4 at *
      have k14 := K14.out
      clear bs0 ap' RM' t1 t3 f3 k0 K14
      go_wp2
      go_roundw
      case rel => exact ⟨j, _, ms ++ [m], _, rfl, CN, TF, RF, UF, MF, NF, SF⟩
      case measure => simp [intOf]; omega
    · obtain ⟨e1, e2'⟩ := hC.out.stop (by rw [ecd.out]; exact c0)
      subst e1
      have e2 := hide e2'
      clear e2'
      have u0 : (cd == 0) = false := beq_eq_false_iff_ne.2 c0
      obtain ⟨va, vc, hv, -⟩ := R2.out.slice
      subst hv
      obtain ⟨nm, hnm⟩ : ∃ n, Hid ((cmL xs).length = n) := ⟨_, rfl⟩
      rw [hnm.out] at T2 R2 vlim
      have t0 : Y2.cell? ⟨b4, 0, none⟩ = some (.int .i64 0) := T2.out.cell 0
      have t1 : Y2.cell? ⟨b4, 1, none⟩ = some (.slice va nm vc) := T2.out.cell 1
      have t2 : Y2.cell? ⟨b4, 2, none⟩ = some (.slice none 0 0) := T2.out.cell 2
      by_cases c1 : cd = 1
      · have eC : Hid (cmC xs = 0) := by show _ = _; unfold cmC; rw [← e2.out, ecd.out, if_pos c1]
        obtain ⟨ys, ey⟩ : ∃ ys, xs.drop i = ys := ⟨_, rfl⟩
        have eR : Hid (cmR xs = ys) := by show _ = _; unfold cmR; rw [← e2.out, ecd.out, if_pos c1]; exact ey
        subst c1
        have ly : ys.length = xs.length - i := by rw [← ey, List.length_drop]
        have SLC := sl_low Y2 a xs.length c i ys.length iL hc ly
        have RY : Rd Y2 g (slA a i c) .u8 ys := by rw [← ey]; exact (HR.out.up N2.out).slD hc i
        have CL := hide (cloneB_any Y2 ⟨g, slA a i c, c - i, ys⟩ (lstR_of RY (fun h => slA_none HZ.out h) (by show ys.length ≤ _; omega)))
        clear ly ey RY u0
        generalize slA a i c = aR at *
        generalize c - i = cR at *
        clear k14 RM hC A2 M2 t0 t1 t2
        go_wp2_with (refine wpList_slT _ rfl 22 (.tmp 31) (some (.tmp 32)) none rfl (.slice a xs.length c) (some (.int .i64 (i : Int))) none rfl rfl rfl _ SLC ?_)
        refine CL.out.mono ?_
        rintro e Y3 ⟨⟨x, rfl, RX⟩, n3⟩
        obtain ⟨xa, xc, gx, rfl, -, -, -, -⟩ := RX.rd
        obtain ⟨ny, hny⟩ : ∃ n, Hid (ys.length = n) := ⟨_, rfl⟩
        have RX : RowB Y3 Y2.heap.size (.slice xa ys.length xc) ys := RX
        have T3 := T2.out.up n3
        have R3 := R2.out.up n3
        have U3 := U2.out.up n3
        have N3 := nxt N2.out n3
        have vl := R2.out.lim
        have el := R2.out.t
        have s2 : B ≤ Y2.heap.size := by omega
        rw [hny.out] at RX ⊢
        have O4 := Only.setCell Y3 b4 2 (.slice xa ny xc)
        have T4 : RwC (Y3.setCell ⟨b4, 2, none⟩ (.slice xa ny xc)) b4 [.int .i64 0, .slice va nm vc, .slice xa ny xc] 33 := T3.set 2 _
        have R4 := R3.onl O4 b4B
        have U4 : RwC (Y3.setCell ⟨b4, 2, none⟩ (.slice xa ny xc)) w.heap.size [.int .i64 0, .slice none 0 0, .slice none 0 0] 33 := (O4.block _ (by omega)).trans U3
        have N4 : Below w.heap.size w (Y3.setCell ⟨b4, 2, none⟩ (.slice xa ny xc)) := N3.trans (O4.below (by omega))
        have X4 : RowB (Y3.setCell ⟨b4, 2, none⟩ (.slice xa ny xc)) Y2.heap.size (.slice xa ny xc) ys := RX.only O4 (by omega)
        have q2 : Y3.cell? ⟨b4, 2, none⟩ = some (.slice none 0 0) := T3.cell 2
        have f2 := T3.free 2
        clear T2 R2 U2 N2 T3 R3 U3 N3 O4 RX n3 SLC CL k0
        go_upto_region 13 with fail
        clear q2 f2
        generalize Y3.setCell ⟨b4, 2, none⟩ (.slice xa ny xc) = Y4 at *
        have RG := T4.rangeG
        have THR := U4.thereG
        have OQ := only_setG Y4 w.heap.size [.int .i64 0, .slice va nm vc, .slice xa ny xc] 0
        have RR := World.rangeAt_setCells_same Y4 w.heap.size 0 [.int .i64 0, .slice va nm vc, .slice xa ny xc] THR
        have RES : Hid (CcP w xs (.returned (.agg #[.int .i64 0, .slice va nm vc, .slice xa ny xc])) (Y4.setCells w.heap.size 0 [.int .i64 0, .slice va nm vc, .slice xa ny xc])) := by
          show CcP _ _ _ _
          unfold CcP
          rw [eC.out, eR.out]
          have R5 := (R4.onl OQ (by omega)).base (show w.heap.size ≤ B by omega)
          have X5 := X4.only OQ (by omega)
          exact ⟨⟨.slice va nm vc, es, .slice xa ny xc, rfl, R5, X5.base (by omega), Y2.heap.size, X5, el, vl⟩, N4.trans (OQ.below (Nat.le_refl _))⟩
        have ON : (#[.int .i64 0, .slice va nm vc, .slice xa ny xc] : Array Value).all (·.oneCell') = true := one15 _ rfl
        clear OQ T4 U4 N4 R4 X4
        go_wp2_with (first
          | (refine wpList_load_mid rfl 33 (.tmp 4) rfl b4 0 rfl [.int .i64 0, .slice va nm vc, .slice xa ny xc] d3 RG hd3 hrow3 iMl ?_)
          | (refine wpList_store_mid rfl 33 (.tmp 2) (.tmp 36) rfl w.heap.size 0 #[.int .i64 0, .slice va nm vc, .slice xa ny xc] rfl rfl THR iMl ON ?_))
        exact bodyPost_ret (v := .agg #[.int .i64 0, .slice va nm vc, .slice xa ny xc]) (results_cellG Tryz.results8 _ _ w.heap.size _ d3 rfl RR hd3 hrow3 iMl) rfl RES.out
      · have u1 : (cd == 1) = false := beq_eq_false_iff_ne.2 c1
        have eC : Hid (cmC xs = cd) := by show _ = _; unfold cmC; rw [← e2.out, ecd.out, if_neg c1]
        have eR : Hid (cmR xs = []) := by show _ = _; unfold cmR; rw [← e2.out, ecd.out, if_neg c1]
        have O3 := Only.setCell Y2 b4 0 (.int .i64 cd)
        have T3 : RwC (Y2.setCell ⟨b4, 0, none⟩ (.int .i64 cd)) b4 [.int .i64 cd, .slice va nm vc, .slice none 0 0] 33 := T2.out.set 0 _
        have R3 := R2.out.onl O3 b4B
        have U3 : RwC (Y2.setCell ⟨b4, 0, none⟩ (.int .i64 cd)) w.heap.size [.int .i64 0, .slice none 0 0, .slice none 0 0] 33 := (O3.block _ (by omega)).trans U2.out
        have N3 : Below w.heap.size w (Y2.setCell ⟨b4, 0, none⟩ (.int .i64 cd)) := N2.out.trans (O3.below (by omega))
        have f0 := T2.out.free 0
        clear T2 R2 U2 M2 N2 A2 O3 k14 RM hC x6 g0 t1 t2
        go_upto_region 7 with fail
        clear t0 f0 k0
        generalize Y2.setCell ⟨b4, 0, none⟩ (.int .i64 cd) = Y3 at *
        have RG := T3.rangeG
        have THR := U3.thereG
        have OQ := only_setG Y3 w.heap.size [.int .i64 cd, .slice va nm vc, .slice none 0 0] 0
        have RR := World.rangeAt_setCells_same Y3 w.heap.size 0 [.int .i64 cd, .slice va nm vc, .slice none 0 0] THR
        have RES : Hid (CcP w xs (.returned (.agg #[.int .i64 cd, .slice va nm vc, .slice none 0 0])) (Y3.setCells w.heap.size 0 [.int .i64 cd, .slice va nm vc, .slice none 0 0])) := by
          show CcP _ _ _ _
          unfold CcP
          rw [eC.out, eR.out]
          have R4 := (R3.onl OQ (by omega)).base (show w.heap.size ≤ B by omega)
          exact ⟨⟨.slice va nm vc, es, .slice none 0 0, rfl, R4, RowB.nil _ _, Y3.heap.size, RowB.nil _ _, R3.t, R3.lim⟩, N3.trans (OQ.below (Nat.le_refl _))⟩
        have ON : (#[.int .i64 cd, .slice va nm vc, .slice none 0 0] : Array Value).all (·.oneCell') = true := one15 _ rfl
        clear OQ T3 U3 N3 R3
        go_wp2_with (first
          | (refine wpList_load_mid rfl 33 (.tmp 4) rfl b4 0 rfl [.int .i64 cd, .slice va nm vc, .slice none 0 0] d3 RG hd3 hrow3 iMl ?_)
          | (refine wpList_store_mid rfl 33 (.tmp 2) (.tmp 17) rfl w.heap.size 0 #[.int .i64 cd, .slice va nm vc, .slice none 0 0] rfl rfl THR iMl ON ?_))
        exact bodyPost_ret (v := .agg #[.int .i64 cd, .slice va nm vc, .slice none 0 0]) (results_cellG Tryz.results8 _ _ w.heap.size _ d3 rfl RR hd3 hrow3 iMl) rfl RES.out
end Go.Proofs.YtcaljanahpdidaaGreat
namespace Go.Proofs.YtcaljanahpdidaaGreat
open Go Go.RowKit
theorem HasM.noNew {W : World} {p : MQ} {m : Msg} (h : HasM W p m) {g : Nat} (hg : W.heap.size ≤ g) : NoM g p m :=
  ⟨fun h0 e => by have := h.r.lt h0; omega, fun h0 e => by have := h.s.lt h0; omega, fun h0 e => by have := h.pr.lt h0; omega, fun h0 e => by have := h.ti.lt h0; omega, fun h0 e => by have := h.bi.lt h0; omega, fun h0 e => by
    obtain ⟨off, ha, hc⟩ := h.ce.r h0
    have := block_lt_of_cell (hc 0 h0)
    have e' : p.g11 < W.heap.size := this
    omega, fun i hi h0 e => by have := (h.ce.b i hi).lt h0; omega, fun h0 e => by have := h.pf.lt h0; omega⟩
theorem HasM.ofN {W W' : World} {p : MQ} {m : Msg} {o : Option Nat} (h : HasM W p m) (hk : ∀ b, b < W.heap.size → o ≠ some b → W'.heap[b]? = W.heap[b]?) (hn : ∀ g, o = some g → NoM g p m) : HasM W' p m := by
  refine ⟨h.r.of_block' fun h0 => hk _ (h.r.lt h0) (fun e => (hn _ e).r h0 rfl), h.s.of_block' fun h0 => hk _ (h.s.lt h0) (fun e => (hn _ e).s h0 rfl), fun h0 => ?_, h.ti.of_block' fun h0 => hk _ (h.ti.lt h0) (fun e => (hn _ e).ti h0 rfl), h.bi.of_block' fun h0 => hk _ (h.bi.lt h0) (fun e => (hn _ e).bi h0 rfl), ⟨fun h0 => ?_, fun i hi => (h.ce.b i hi).of_block' fun h0 => hk _ ((h.ce.b i hi).lt h0) (fun e => (hn _ e).cl i hi h0 rfl)⟩, h.pf.of_block' fun h0 => hk _ (h.pf.lt h0) (fun e => (hn _ e).pf h0 rfl), h.prC⟩
  · obtain ⟨off, ha, hc⟩ := h.pr h0
    exact ⟨off, ha, fun i hi => (World.cell?_of_block (a := ⟨p.g5, off + i, none⟩) (hk _ (block_lt_of_cell (hc i hi)) (fun e => (hn _ e).pr h0 rfl))).trans (hc i hi)⟩
  · obtain ⟨off, ha, hc⟩ := h.ce.r h0
    exact ⟨off, ha, fun i hi => (World.cell?_of_block (a := ⟨p.g11, off + i, none⟩) (hk _ (block_lt_of_cell (hc i hi)) (fun e => (hn _ e).ce h0 rfl))).trans (hc i hi)⟩
structure SRow (w : World) (B : Nat) (v : Value) (ms : List Msg) (es : List El) : Prop where
  o : w.ownsRow B 28 13 v ms.length (mgCs ms es)
  l : es.length = ms.length
  b : ∀ i, i < ms.length → HasM w (es.getD i el0).p (ms.getD i msg0)
  n : ∀ i, i < ms.length → ∀ g, v.ownBlock = some g → NoM g (es.getD i el0).p (ms.getD i msg0)
  m : ∀ i, i < ms.length → ∀ g, g < B → NoM g (es.getD i el0).p (ms.getD i msg0)
theorem SRow.nil (w : World) (B : Nat) : SRow w B (.slice none 0 0) [] [] :=
  ⟨⟨rfl, .inl ⟨rfl, rfl⟩⟩, rfl, fun i h => absurd h (by simp), fun i h => absurd h (by simp), fun i h => absurd h (by simp)⟩
theorem SRow.up {w w' : World} {B : Nat} {v : Value} {ms : List Msg} {es : List El} (h : SRow w B v ms es) (n : Below w.heap.size w w') : SRow w' B v ms es := by
  refine ⟨⟨h.o.1, ?_⟩, h.l, fun i hi => (h.b i hi).up n, h.n, h.m⟩
  rcases h.o.2 with h' | ⟨g, cap, cur, rfl, hbg, hg, hnc, hcm, hcs, ht⟩
  · exact .inl h'
  · exact .inr ⟨g, cap, cur, rfl, hbg, by rw [n.block g ((Array.getElem?_eq_some_iff.1 hg).1)]; exact hg, hnc, hcm, hcs, ht⟩
theorem SRow.base {w : World} {B C : Nat} {v : Value} {ms : List Msg} {es : List El} (R : SRow w B v ms es) (hC : C ≤ B) : SRow w C v ms es :=
  ⟨⟨R.o.1, by
      rcases R.o.2 with h' | ⟨g, cap, cur, e1, hbg, h3⟩
      · exact .inl h'
      · exact .inr ⟨g, cap, cur, e1, by omega, h3⟩⟩, R.l, R.b, R.n, fun i hi g hg => R.m i hi g (Nat.lt_of_lt_of_le hg hC)⟩
theorem SRow.slice {w : World} {B : Nat} {v : Value} {ms : List Msg} {es : List El} (h : SRow w B v ms es) : ∃ a c, v = .slice a ms.length c ∧ (a = none → c = 0) := by
  rcases h.o.2 with ⟨h1, h'⟩ | ⟨g, cap, cur, rfl, hb, hg, hnc, hcm, hcs, ht⟩
  · exact ⟨none, 0, by rw [h1, h'], fun _ => rfl⟩
  · exact ⟨_, cap, rfl, fun e => by cases e⟩
theorem SRow.onl {w w' : World} {B q : Nat} {v : Value} {ms : List Msg} {es : List El} (h : SRow w B v ms es) (O : Only q w w') (hq : q < B) : SRow w' B v ms es := by
  refine ⟨⟨h.o.1, ?_⟩, h.l, fun i hi => (h.b i hi).ofN (o := some q) (fun b _ hb => O.block b (fun e => hb (by rw [e]))) (fun g hg => by cases hg; exact h.m i hi q hq), h.n, h.m⟩
  rcases h.o.2 with h' | ⟨g, cap, cur, rfl, hbg, hg, hnc, hcm, hcs, ht⟩
  · exact .inl h'
  · exact .inr ⟨g, cap, cur, rfl, hbg, by rw [O.block g (by omega)]; exact hg, hnc, hcm, hcs, ht⟩
theorem SRow.app {w : World} {B : Nat} {v : Value} {ms : List Msg} {es : List El} (h : SRow w B v ms es) (m : Msg) (e : El) (hB : B ≤ w.heap.size) (hA : HasM w e.p m) (hn : ∀ g, v.ownBlock = some g → NoM g e.p m) (hm : ∀ g, g < B → NoM g e.p m) (hl : ms.length ≤ 1048576) :
    ∃ v' w', (Builtin.append_ #[23, 23] 23 #[v, .slice (some ⟨w.heap.size, 0, none⟩) 1 1]).run Tryz.prog (w.alloc (.cells (mgV e.p m) 28)) = .ok v' w' ∧ SRow w' B v' (ms ++ [m]) (es ++ [e]) ∧ (∀ k, k < w.heap.size → v.ownBlock ≠ some k → w'.heap[k]? = w.heap[k]?) ∧ Below B w w' := by
  obtain ⟨i, hi, hz, hs, hby⟩ := info_parts mInfo
  have na : Below w.heap.size w (w.alloc (.cells (mgV e.p m) 28)) := (Below.refl _ _).alloc (Nat.le_refl _) _
  have h0 : (w.alloc (.cells (mgV e.p m) 28)).ownsRow B 28 13 v ms.length (mgCs ms es) := h.o.alloc _
  have hcell : ∀ j u, ((mgV e.p m).toList)[j]? = some u → (w.alloc (.cells (mgV e.p m) 28)).cell? ((⟨w.heap.size, 0, none⟩ : Addr).add j) = some u := by
    intro j u hj
    have e' : (w.alloc (.cells (mgV e.p m) 28)).heap[w.heap.size]? = some (.cells (mgV e.p m) 28) := heap_alloc_new w _
    rw [add_mid, Nat.zero_add, cell_of_row _ _ j _ _ (0, 0) e']
    simpa using hj
  obtain ⟨v', w', h1, h2, h3, h4, h5⟩ := run_append_own_at (P := Tryz.prog) (w.alloc (.cells (mgV e.p m) 28)) B 23 23 28 i (.agg zM.toArray) 13 224 mUnd hi hz hs hby rfl (by decide) v ms.length (mgCs ms es) h0 ⟨w.heap.size, 0, none⟩ 1 1 ((mgV e.p m).toList) (by rw [mgV_len]) hcell (fun u hu => by
    have := one13m e.p m
    rw [Array.all_eq_true_iff_forall_mem] at this
    exact this u (by simpa using hu)) (by unfold maxLen; omega) (by omega) (Nat.le_trans hB na.size)
  have z : (w.alloc (.cells (mgV e.p m) 28)).heap.size = w.heap.size + 1 := by simp
  have keep : ∀ k, k < w.heap.size → v.ownBlock ≠ some k → w'.heap[k]? = w.heap[k]? := fun k hk hne => (h3.block k (by omega) (fun e => hne e.symm)).trans (na.block k hk)
  have ob := h.o.lt
  have A1 : ∀ j, j < ms.length → (es ++ [e]).getD j el0 = es.getD j el0 := fun j hj => by
    have : j < es.length := by rw [h.l]; exact hj
    simp [List.getD, List.getElem?_append_left this]
  have A2 : ∀ j, j < ms.length → (ms ++ [m]).getD j msg0 = ms.getD j msg0 := fun j hj => by simp [List.getD, List.getElem?_append_left hj]
  have A3 : (es ++ [e]).getD ms.length el0 = e := by rw [← h.l]; simp
  have A4 : (ms ++ [m]).getD ms.length msg0 = m := by simp
  have GE : ∀ g, v'.ownBlock = some g → v.ownBlock = some g ∨ w.heap.size ≤ g := fun g hg => by
    rcases h5 with h5 | h5
    · rw [h5] at hg; exact .inl hg
    · rw [h5] at hg
      have := Option.some.inj hg
      exact .inr (by omega)
  have cut : ∀ j, j < (ms ++ [m]).length → j < ms.length ∨ j = ms.length := fun j hj => by
    rw [List.length_append] at hj
    simp at hj
    omega
  refine ⟨v', w', h1, ⟨?_, by simp [h.l], fun j hj => ?_, fun j hj g hg => ?_, fun j hj g hg => ?_⟩, keep, ((Below.refl B w).alloc hB _).grown h3 (by omega) (fun k hk => (ob k hk).1)⟩
  · show w'.ownsRow B 28 13 v' (ms ++ [m]).length (mgCs (ms ++ [m]) (es ++ [e]))
    rw [mgCs_snoc ms es m e h.l, List.length_append]
    exact h2
  · rcases cut j hj with hj' | rfl
    · rw [A1 j hj', A2 j hj']
      exact (h.b j hj').ofN (o := v.ownBlock) keep (h.n j hj')
    · rw [A3, A4]
      exact hA.ofN (o := v.ownBlock) keep hn
  · rcases cut j hj with hj' | rfl
    · rw [A1 j hj', A2 j hj']
      rcases GE g hg with q | q
      · exact h.n j hj' g q
      · exact (h.b j hj').noNew q
    · rw [A3, A4]
      rcases GE g hg with q | q
      · exact hn g q
      · exact hA.noNew q
  · rcases cut j hj with hj' | rfl
    · rw [A1 j hj', A2 j hj']
      exact h.m j hj' g hg
    · rw [A3, A4]
      exact hm g hg
end Go.Proofs.YtcaljanahpdidaaGreat
namespace Go.Proofs.YtcaljanahpdidaaGreat
open Go Go.RowKit
theorem SRow.lim {w : World} {B : Nat} {v : Value} {ms : List Msg} {es : List El} (h : SRow w B v ms es) : ∀ g, v.ownBlock = some g → g < w.heap.size := fun g hg => (World.ownsRow.lt h.o g hg).2
end Go.Proofs.YtcaljanahpdidaaGreat
