import Derived.Test.YtbhmhkimddjhaaaDoorGG35
import Derived.Test.YtbhmhkimddjhaaaDoorGG36
import Derived.Test.YtbhmhkimddjhaaaDoorGG38
/-
  Steps on lists of bytes; the field's sums and products as lists.
-/
namespace Go.Proofs.YtbhmhkimddjhaaaDoor
set_option maxRecDepth 100000
open Go Go.RowKit

theorem lsum_byt' (v : Int) (h0 : 0 ≤ v) : ∀ n, lsum (byt v) n = v % 256 ^ n
  | 0 => by simp [lsum]
  | n + 1 => by
    have ih := lsum_byt' v h0 n
    have hp := p256_pos n
    rw [lsum, ih, byt, Int.pow_succ]
    have e1 := Int.emod_add_mul_ediv v (256 ^ n)
    have e2 := Int.emod_add_mul_ediv v (256 ^ n * 256)
    rw [← Int.ediv_ediv_of_nonneg (Int.le_of_lt hp)] at e2
    have e3 := Int.emod_add_mul_ediv (v / 256 ^ n) 256
    generalize v / 256 ^ n = q at *
    generalize v % 256 ^ n = r at *
    generalize v % (256 ^ n * 256) = s at *
    generalize (256 : Int) ^ n = p at *
    generalize q / 256 = a at *
    generalize q % 256 = b at *
    subst e3
    have : (b + 256 * a) * p = b * p + 256 * a * p := Int.add_mul _ _ _
    have h1 : p * (b + 256 * a) = b * p + 256 * a * p := by rw [Int.mul_comm, this]
    have h2 : p * 256 * a = 256 * a * p := by rw [Int.mul_assoc, Int.mul_comm]
    omega
theorem num_mod (v : Int) : num (fill (byt (v % PP)) 32) = v % PP := by
  have h0 := Int.emod_nonneg v (show PP ≠ 0 by decide)
  have h1 := Int.emod_lt_of_pos v (show (0 : Int) < PP by decide)
  unfold num
  rw [fill_len, lsum_congr (b := byt (v % PP)) 32 (fun j hj => fill_get _ _ _ hj), lsum_byt' _ h0, Int.emod_eq_of_lt h0 (Int.lt_trans h1 (by decide))]
theorem fadd_is {X Y : List Int} (hx : X.length = 32) (hy : Y.length = 32) : fadd X Y = fill (byt ((num X + num Y) % PP)) 32 := by unfold fadd; rw [if_pos ⟨hx, hy⟩]
theorem fmul_is {X Y : List Int} (hx : X.length = 32) (hy : Y.length = 32) : fmul X Y = fill (byt ((num X * num Y) % PP)) 32 := by unfold fmul; rw [if_pos ⟨hx, hy⟩]
theorem fsub_is {X Y : List Int} (hx : X.length = 32) (hy : Y.length = 32) : fsub X Y = fill (byt ((num X - num Y) % PP)) 32 := by unfold fsub; rw [if_pos ⟨hx, hy⟩]
theorem fred_is {X : List Int} (hx : X.length = 32) : fred X = fill (byt (num X % PP)) 32 := by unfold fred; rw [if_pos (by omega)]
theorem fadd_32 {X Y : List Int} (hx : X.length = 32) (hy : Y.length = 32) : (fadd X Y).length = 32 := by rw [fadd_is hx hy, fill_len]
theorem fmul_32 {X Y : List Int} (hx : X.length = 32) (hy : Y.length = 32) : (fmul X Y).length = 32 := by rw [fmul_is hx hy, fill_len]
theorem fadd_num {X Y : List Int} (hx : X.length = 32) (hy : Y.length = 32) : num (fadd X Y) = (num X + num Y) % PP := by rw [fadd_is hx hy, num_mod]
theorem fmul_num {X Y : List Int} (hx : X.length = 32) (hy : Y.length = 32) : num (fmul X Y) = (num X * num Y) % PP := by rw [fmul_is hx hy, num_mod]
theorem fadd_bt (X Y : List Int) : Byt (fadd X Y) := by
  unfold fadd
  split
  · exact bytes_5 _ _
  · exact byt_nil
theorem fmul_bt (X Y : List Int) : Byt (fmul X Y) := by
  unfold fmul
  split
  · exact bytes_5 _ _
  · exact byt_nil
/-- What the law asks of three lists. -/
structure Ring (A B C : List Int) : Prop where
  lab : (fadd A B).length = 32
  lm : (fmul A B).length = 32
  ca : canN (fadd A B) = true
  cm : canN (fmul A B) = true
  xa : fadd B A = fadd A B
  xm : fmul B A = fmul A B
  ga : fadd A (fadd B C) = fadd (fadd A B) C
  gm : fmul A (fmul B C) = fmul (fmul A B) C
  ds : fadd (fmul A C) (fmul B C) = fmul (fadd A B) C
  su : fsub (fadd A B) B = fred A
theorem ring_of {A B C : List Int} (ha : A.length = 32) (hb : B.length = 32) (hc : C.length = 32) : Ring A B C := by
  have lab := fadd_32 ha hb
  have lm := fmul_32 ha hb
  have lt : ∀ v : Int, v % PP < PP := fun v => Int.emod_lt_of_pos v (by decide)
  refine ⟨lab, lm, ?_, ?_, ?_, ?_, ?_, ?_, ?_, ?_⟩
  · unfold canN; rw [fadd_num ha hb, decide_eq_true lab, decide_eq_true (lt _)]; rfl
  · unfold canN; rw [fmul_num ha hb, decide_eq_true lm, decide_eq_true (lt _)]; rfl
  · rw [fadd_is hb ha, fadd_is ha hb, Int.add_comm]
  · rw [fmul_is hb ha, fmul_is ha hb, Int.mul_comm]
  · rw [fadd_is ha (fadd_32 hb hc), fadd_is lab hc, fadd_num hb hc, fadd_num ha hb, Int.add_emod_emod, Int.emod_add_emod, Int.add_assoc]
  · rw [fmul_is ha (fmul_32 hb hc), fmul_is lm hc, fmul_num hb hc, fmul_num ha hb, Int.mul_emod (num A) (num B * num C % PP), Int.emod_emod_of_dvd _ (Int.dvd_refl _), ← Int.mul_emod, Int.mul_emod (num A * num B % PP), Int.emod_emod_of_dvd _ (Int.dvd_refl _), ← Int.mul_emod, Int.mul_assoc]
  · rw [fadd_is (fmul_32 ha hc) (fmul_32 hb hc), fmul_is lab hc, fmul_num ha hc, fmul_num hb hc, fadd_num ha hb, ← Int.add_emod, Int.mul_emod ((num A + num B) % PP), Int.emod_emod_of_dvd _ (Int.dvd_refl _), ← Int.mul_emod, Int.add_mul]
  · rw [fsub_is lab hb, fred_is ha, fadd_num ha hb, Int.sub_emod, Int.emod_emod_of_dvd _ (Int.dvd_refl _), ← Int.sub_emod, Int.add_sub_cancel]

/-- A list of bytes that may be read. -/
def RD (X : List Int) : Fact := ⟨fun v w => ∃ (a : Option Addr) (c g : Nat), v = .slice a X.length c ∧ Rd w g a .u8 X ∧ (a = none → c = 0), fun n h => by
  obtain ⟨a, c, g, e, r, q⟩ := h
  exact ⟨a, c, g, e, r.up n, q⟩⟩
theorem en_copy : enters Tryd.prog 25 = true := by kernel_rfl
theorem en_lwSame : enters Tryd.prog 30 = true := by kernel_rfl
theorem en_iAdd : enters Tryd.prog 42 = true := by kernel_rfl
theorem en_iMul : enters Tryd.prog 38 = true := by kernel_rfl
section
variable {ops : Array Oper} {Q : Exit → Act → World → Prop} {md : Region.Mode} {F : Nat → Fact} {a0 : Act} {w0 : World} {i : Nat} {o : Oper} {ts : Array TypeId}
theorem step_rd {P : Program} (hi : ops[i]? = some o) (p : Nat) (hop : o.op = .move (.tmp p)) (hp : apart ops p = true) {a : Option Addr} {X : List Int} {c g : Nat} (h0 : a0.tmps.getD p undef = .slice a X.length c) (hr : Rd w0 g a .u8 X) (hc : a = none → c = 0) (hF : F i = RD X) : StepOk P md ops Q F a0 w0 i := by
  refine step_pure hi fun b w hb hw _ => ⟨.slice a X.length c, ?_, by rw [hF]; exact ⟨a, c, g, rfl, hr.up hw, hc⟩⟩
  have e := (based_at hb p hp).trans h0
  simp [execOp, hop, e]
theorem step_copy (hi : ops[i]? = some o) (p j : Nat) {X : List Int} (hl : X.length ≤ 1048576) (hop : o.op = .call { callee := .value (.func 25), args := #[.tmp p], argTypes := ts })
    (hj : waits md ops i j p = true) (hFj : F j = RD X) (hFi : F i = RD X) : StepOk Tryd.prog md ops Q F a0 w0 i := by
  refine step_call hi _ _ ts hop en_copy fun a w _ _ hF => ?_
  have ea := hF j p hj
  rw [hFj] at ea
  obtain ⟨b, c, g, e1, r, q⟩ := ea
  show Calls Tryd.prog 25 #[a.tmps.getD p undef] w _
  rw [e1]
  refine (lwCopy_any w g b c X r q hl).mono ?_
  rintro r w' ⟨⟨a3, c3, g3, rfl, o3, p3, _, _⟩, n3⟩
  rw [hFi]
  exact ⟨_, rfl, n3, a3, c3, g3, rfl, o3.rd, p3⟩
theorem step_iadd (hi : ops[i]? = some o) (p q j k : Nat) {X Y R : List Int} (hx : Byt X) (hy : Byt Y) (hR : fadd X Y = R) (hop : o.op = .call { callee := .value (.func 42), args := #[.tmp p, .tmp q], argTypes := ts })
    (hj : waits md ops i j p = true) (hk : waits md ops i k q = true) (hFj : F j = RD X) (hFk : F k = RD Y) (hFi : F i = RD R) : StepOk Tryd.prog md ops Q F a0 w0 i := by
  refine step_call hi _ _ ts hop en_iAdd fun a w _ _ hF => ?_
  have ea := hF j p hj
  have eb := hF k q hk
  rw [hFj] at ea
  rw [hFk] at eb
  obtain ⟨b, c, g, e1, r, _⟩ := ea
  obtain ⟨b', c', g', e2, r', _⟩ := eb
  show Calls Tryd.prog 42 #[a.tmps.getD p undef, a.tmps.getD q undef] w _
  rw [e1, e2]
  refine (implFieldAdd_any w g g' b b' c c' X Y r r' hx hy).mono ?_
  rintro r w' ⟨⟨a3, c3, g3, rfl, o3, p3, _, _⟩, n3⟩
  rw [hR] at o3
  rw [hFi, hR]
  exact ⟨_, rfl, n3, a3, c3, g3, rfl, o3.rd, p3⟩
theorem step_imul (hi : ops[i]? = some o) (p q j k : Nat) {X Y R : List Int} (hx : Byt X) (hy : Byt Y) (hR : fmul X Y = R) (hop : o.op = .call { callee := .value (.func 38), args := #[.tmp p, .tmp q], argTypes := ts })
    (hj : waits md ops i j p = true) (hk : waits md ops i k q = true) (hFj : F j = RD X) (hFk : F k = RD Y) (hFi : F i = RD R) : StepOk Tryd.prog md ops Q F a0 w0 i := by
  refine step_call hi _ _ ts hop en_iMul fun a w _ _ hF => ?_
  have ea := hF j p hj
  have eb := hF k q hk
  rw [hFj] at ea
  rw [hFk] at eb
  obtain ⟨b, c, g, e1, r, _⟩ := ea
  obtain ⟨b', c', g', e2, r', _⟩ := eb
  show Calls Tryd.prog 38 #[a.tmps.getD p undef, a.tmps.getD q undef] w _
  rw [e1, e2]
  refine (implFieldMul_any w g g' b b' c c' X Y r r' hx hy).mono ?_
  rintro r w' ⟨⟨a3, c3, g3, rfl, o3, p3, _, _⟩, n3⟩
  rw [hR] at o3
  rw [hFi, hR]
  exact ⟨_, rfl, n3, a3, c3, g3, rfl, o3.rd, p3⟩
theorem step_lwSame (hi : ops[i]? = some o) (p q j k : Nat) {X : List Int} (hop : o.op = .call { callee := .value (.func 30), args := #[.tmp p, .tmp q], argTypes := ts })
    (hj : waits md ops i j p = true) (hk : waits md ops i k q = true) (hFj : F j = RD X) (hFk : F k = RD X) (hFi : F i = Fact.eq (.bool true)) : StepOk Tryd.prog md ops Q F a0 w0 i := by
  refine step_call hi _ _ ts hop en_lwSame fun a w _ _ hF => ?_
  have ea := hF j p hj
  have eb := hF k q hk
  rw [hFj] at ea
  rw [hFk] at eb
  obtain ⟨b, c, g, e1, r, _⟩ := ea
  obtain ⟨b', c', g', e2, r', _⟩ := eb
  show Calls Tryd.prog 30 #[a.tmps.getD p undef, a.tmps.getD q undef] w _
  rw [e1, e2]
  refine (lwSame_same w g g' b b' c c' X r r').mono ?_
  rintro r w' ⟨rfl, rfl⟩
  exact ⟨_, rfl, Below.refl _ _, by rw [hFi]; exact rfl⟩
theorem step_not {P : Program} (hi : ops[i]? = some o) (p j : Nat) {t : TypeId} (hop : o.op = .unOp .not t (.tmp p)) (hj : waits md ops i j p = true) (hFj : F j = Fact.eq (.bool true)) (hFi : F i = Fact.eq (.bool false)) : StepOk P md ops Q F a0 w0 i := by
  refine step_pure hi fun a w _ _ hf => ⟨.bool false, ?_, by rw [hFi]; exact rfl⟩
  have e := hf j p hj
  rw [hFj] at e
  have e' : a.eval (.tmp p) = .bool true := e
  simp only [execOp, hop, e']
  rfl
end
end Go.Proofs.YtbhmhkimddjhaaaDoor
/-
  FieldReduce, the program's.
-/
namespace Go.Proofs.YtbhmhkimddjhaaaDoor
set_option maxRecDepth 100000
open Go.RowKit

set_option maxHeartbeats 16000000 in
set_option maxRecDepth 100000 in
theorem implFieldReduce_any (w : World) (g : Nat) (a : Option Addr) (c : Nat) (xs : List Int) (hr : Rd w g a .u8 xs) (hb : Byt xs) :
    Calls Tryd.prog 45 #[.slice a xs.length c] w fun e w' => NewRow w.heap.size w' e .u8 (fred xs) ∧ Below w.heap.size w w' := by
  obtain ⟨i0, hi, hz0, hz1, hz2⟩ := info_parts Tryd.info5
  have hsz : (Tryd.prog.info? 5).map (·.size) = some 1 := by rw [hi]; simp [hz1]
  by_cases h1 : xs.length < 1
  · have t1 : decide ((xs.length : Int) < 1) = true := by simp; omega
    have K : Hid (fred xs = []) := by show _ = _; unfold fred; rw [if_neg (by omega)]
    clear h1
    go_enter Tryd.func45, Tryd.ntmps45
    go_wp2
    go_ret
    rw [K.out]
    exact ⟨newRow_nil _ _, Below.refl _ _⟩
  · by_cases h2 : 64 < xs.length
    · have t1 : decide ((xs.length : Int) < 1) = false := by simp; omega
      have t2 : decide ((64 : Int) < (xs.length : Int)) = true := by simp; omega
      have K : Hid (fred xs = []) := by show _ = _; unfold fred; rw [if_neg (by omega)]
      clear h1 h2
      go_enter Tryd.func45, Tryd.ntmps45
      go_wp2
      go_ret
      rw [K.out]
      exact ⟨newRow_nil _ _, Below.refl _ _⟩
    · have t1 : decide ((xs.length : Int) < 1) = false := by simp; omega
      have t2 : decide ((64 : Int) < (xs.length : Int)) = false := by simp; omega
      have hl1 : 1 ≤ xs.length := by omega
      have hl2 : xs.length ≤ 64 := by omega
      clear h1 h2
      go_enter Tryd.func45, Tryd.ntmps45
      go_wp2_with (at_make; refine wpList_make_full _ rfl _ _ 22 rfl w.heap.size 5 i0 (.int .u8 0) 1 Tryd.underlying22 hi hz0 hz1 .i64 .i64 _ _ 64 rfl rfl rfl rfl (by rw [hz2]; omega) (by unfold maxLen; omega) (Nat.le_refl _) ?_; intro w1 hown hgrow)
      have hB0 := Blk.of_made hown
      have hN0 : Below w.heap.size w w1 := (Below.refl _ _).grown hgrow (Nat.le_refl _) (by simp)
      clear hown hgrow
      obtain ⟨w2, hrun, hB2, hO⟩ := copy_blk (P := Tryd.prog) w1 22 3 5 Tryd.underlying22 hsz hB0 g a xs (hr.up hN0) (by simp; omega) 64 c
      rw [List.length_replicate] at hrun
      have hN2 := hN0.trans (hO.below (Nat.le_refl _))
      have hB3 : Blk w2 w.heap.size .u8 (padn xs) := hB2
      have hs2 : w.heap.size < w2.heap.size := hB3.lt
      rw [hrun]
      clear hB0 hN0 hO hB2 hrun hr
      obtain ⟨KP, hKP⟩ : ∃ KP : World → Prop, KP = fun W => Blk W w.heap.size .u8 (padn xs) ∧ Below w.heap.size w W ∧ w.heap.size < W.heap.size := ⟨_, rfl⟩
      have K2 : KP w2 := by rw [hKP]; exact ⟨hB3, hN2, hs2⟩
      have KK : Kept w.heap.size KP := by
        refine ⟨?_, ?_⟩
        · intro W W' h n
          rw [hKP] at h ⊢
          exact ⟨h.1.up n, nxt h.2.1 n, Nat.lt_of_lt_of_le h.2.2 n.size⟩
        · intro W p i v h hp
          rw [hKP] at h ⊢
          exact ⟨h.1.keep (by omega), h.2.1.setCell (Nat.le_of_lt hp) v, by simp [World.setCell]; exact h.2.2⟩
      have KU := hide KK.up
      have lt1 : ((padn xs).take 32).length = 32 := by rw [List.length_take, padn_len hl2]; rfl
      have lt2 : ((padn xs).drop 32).length = 32 := by rw [List.length_drop, padn_len hl2]
      have bt1 : Byt ((padn xs).take 32) := byt_take (padn_byt hb) 32
      have bt2 : Byt ((padn xs).drop 32) := byt_drop (padn_byt hb) 32
      have EL := elt_ok bt1 lt1
      have EH := elt_ok bt2 lt2
      have RL : Hid (∀ W, KP W → Calls Tryd.prog 74 #[.slice (some ⟨w.heap.size, 0, none⟩) 32 64] W fun e w' => e = .returned (ag5 (elt ((padn xs).take 32))) ∧ KP w' ∧ Below W.heap.size W w') := by
        intro W h
        have h' := h
        rw [hKP] at h'
        refine (readElement_any W w.heap.size _ 64 ((padn xs).take 32) ((h'.1.own 0 (by rw [lt1, padn_len hl2]; omega) (fun i hi => by rw [lt1] at hi; simp [hi])).rd) bt1 lt1).mono ?_
        rintro e w' ⟨rfl, n⟩
        exact ⟨rfl, KK.up _ _ h n, n⟩
      have RH : Hid (∀ W, KP W → Calls Tryd.prog 74 #[.slice (some ⟨w.heap.size, 32, none⟩) 32 32] W fun e w' => e = .returned (ag5 (elt ((padn xs).drop 32))) ∧ KP w' ∧ Below W.heap.size W w') := by
        intro W h
        have h' := h
        rw [hKP] at h'
        refine (readElement_any W w.heap.size _ 32 ((padn xs).drop 32) ((h'.1.own 32 (by rw [lt2, padn_len hl2]; omega) (fun i hi => by simp [List.getElem?_drop])).rd) bt2 lt2).mono ?_
        rintro e w' ⟨rfl, n⟩
        exact ⟨rfl, KK.up _ _ h n, n⟩
      have KZ : Hid (∀ W, KP W → KP (W.alloc (.cells #[.int .u64 0, .int .u64 0, .int .u64 0, .int .u64 0, .int .u64 0] 76))) := fun W h => (unhide KU) W _ h (bl1 W)
      have KD : KP w2.drew := (unhide KU) w2 _ K2 ((Below.refl _ _).drew)
      obtain ⟨el, hel⟩ : ∃ f, f = elt ((padn xs).take 32) := ⟨_, rfl⟩
      obtain ⟨eh, heh⟩ : ∃ f, f = elt ((padn xs).drop 32) := ⟨_, rfl⟩
      rw [← hel] at RL
      rw [← heh] at RH
      have HEL := hide hel
      have HEH := hide heh
      have HKP := hide hKP
      clear hel heh hKP hB3 hN2
      simp only [ag5] at RL RH
      go_upto_region 5 with fail
      go_cut [4, 5] (fun v v' wc => TwoEl KP el eh v v' wc)
      case first =>
        go_region_with (first
          | (go_at_call_of 74 (Value.slice (some ⟨w.heap.size, 0, none⟩) 32 64); refine ((unhide RL) _ ?_).mono ?_; (first | exact KD | exact (unhide KZ) _ KD | exact (unhide KZ) _ ((unhide KZ) _ KD)); rintro e wp ⟨rfl, Kp, np⟩;
              (have zp : w2.heap.size ≤ wp.heap.size := Nat.le_trans (by simp <;> omega) np.size);
              (try (have T1 : Blk wp w2.heap.size .u64 [0, 0, 0, 0, 0] := (zb1 w2.drew).up np; obtain ⟨⟨_, _, _, _, _⟩, ⟨_, _, _, _, _⟩⟩ := T1.f5; have := T1.lt));
              (try (have T1 : Blk wp w2.heap.size .u64 [0, 0, 0, 0, 0] := (zb2a w2.drew).up np; have T2 : Blk wp (w2.heap.size + 1) .u64 [0, 0, 0, 0, 0] := (zb2b w2.drew).up np; obtain ⟨⟨_, _, _, _, _⟩, ⟨_, _, _, _, _⟩⟩ := T1.f5; have := T1.lt; obtain ⟨⟨_, _, _, _, _⟩, ⟨_, _, _, _, _⟩⟩ := T2.f5; have := T2.lt)))
          | (go_at_call_of 74 (Value.slice (some ⟨w.heap.size, 32, none⟩) 32 32); refine ((unhide RH) _ ?_).mono ?_; (first | exact Kp | exact (unhide KZ) _ Kp | exact (unhide KZ) _ ((unhide KZ) _ Kp)); rintro e wq ⟨rfl, Kq, nq⟩;
              (have nq' : Below wp.heap.size wp wq := by first | exact nq | exact nxt (bl1 wp) nq | exact nxt (bl2 wp) nq);
              (try (have U1 := T1.up nq'; obtain ⟨⟨_, _, _, _, _⟩, ⟨_, _, _, _, _⟩⟩ := U1.f5; have := U1.lt));
              (try (have U2 := T2.up nq'; obtain ⟨⟨_, _, _, _, _⟩, ⟨_, _, _, _, _⟩⟩ := U2.f5; have := U2.lt));
              (try (have U3 : Blk wq wp.heap.size .u64 [0, 0, 0, 0, 0] := (zb1 wp).up nq; obtain ⟨⟨_, _, _, _, _⟩, ⟨_, _, _, _, _⟩⟩ := U3.f5; have := U3.lt));
              (try (have U3 : Blk wq wp.heap.size .u64 [0, 0, 0, 0, 0] := (zb2a wp).up nq; have U4 : Blk wq (wp.heap.size + 1) .u64 [0, 0, 0, 0, 0] := (zb2b wp).up nq; obtain ⟨⟨_, _, _, _, _⟩, ⟨_, _, _, _, _⟩⟩ := U3.f5; have := U3.lt; obtain ⟨⟨_, _, _, _, _⟩, ⟨_, _, _, _, _⟩⟩ := U4.f5; have := U4.lt))))
        all_goals
          have zq := nq'.size
          go_wp2_with fail
          go_meet
          first
            | (with_reducible refine fin1 KK Kq el eh)
            | (with_reducible refine fin1' KK Kq el eh)
            | (with_reducible refine fin2r KK Kq el eh U3 ?_; omega)
            | (with_reducible refine fin2r KK Kq el eh U1 ?_; omega)
            | (with_reducible refine fin2r' KK Kq el eh U3 ?_; omega)
            | (with_reducible refine fin2r' KK Kq el eh U1 ?_; omega)
            | (with_reducible refine fin3 KK Kq el eh U3 U4 ?_ ?_ ?_ <;> omega)
            | (with_reducible refine fin3 KK Kq el eh U4 U3 ?_ ?_ ?_ <;> omega)
            | (with_reducible refine fin3 KK Kq el eh U1 U2 ?_ ?_ ?_ <;> omega)
            | (with_reducible refine fin3 KK Kq el eh U2 U1 ?_ ?_ ?_ <;> omega)
            | (with_reducible refine fin3 KK Kq el eh U1 U3 ?_ ?_ ?_ <;> omega)
            | (with_reducible refine fin3 KK Kq el eh U3 U1 ?_ ?_ ?_ <;> omega)
      case rest =>
        obtain ⟨p, q, rfl, rfl, bp, bq, Kc⟩ := hcut
        have VAL : Hid (fred xs = fill (byt ((sv el 5 + sv eh 5 * 38) % PP)) 32) := by
          show _ = _
          unfold fred
          rw [if_pos ⟨hl1, hl2⟩, HEL.out, HEH.out, EL.2, EH.2, padn_num hl2]
          congr 2
          generalize num ((padn xs).take 32) = x
          generalize num ((padn xs).drop 32) = y
          show _ % 57896044618658097711785492504343953926634992332820282019728792003956564819949 = (x % 57896044618658097711785492504343953926634992332820282019728792003956564819949 + y % 57896044618658097711785492504343953926634992332820282019728792003956564819949 * 38) % 57896044618658097711785492504343953926634992332820282019728792003956564819949
          omega
        have LL : Lm el := by rw [HEL.out]; exact EL.1
        have LH : Lm eh := by rw [HEH.out]; exact EH.1
        have HM : Hid (∀ W, KP W → Calls Tryd.prog 78 #[.agg #[.int .u64 (eh 0), .int .u64 (eh 1), .int .u64 (eh 2), .int .u64 (eh 3), .int .u64 (eh 4)], .agg #[.int .u64 38, .int .u64 0, .int .u64 0, .int .u64 0, .int .u64 0]] W fun r w' => ∃ t, r = .returned (ag5 t) ∧ (Lm t ∧ sv t 5 = sv eh 5 * 38 % PP) ∧ KP w' ∧ Below W.heap.size W w') := by
          intro W h
          have hm := mulE_any W eh c38 LH c38_lm
          rw [c38_sv] at hm
          refine hm.mono ?_
          rintro r w' ⟨t, rfl, L, V, n⟩
          exact ⟨t, rfl, ⟨L, V⟩, KK.up _ _ h n, n⟩
        have HA : Hid (∀ W t, KP W → Lm t → Calls Tryd.prog 83 #[.agg #[.int .u64 (el 0), .int .u64 (el 1), .int .u64 (el 2), .int .u64 (el 3), .int .u64 (el 4)], ag5 t] W fun r w' => ∃ s, r = .returned (ag5 s) ∧ (Lm s ∧ sv s 5 = (sv el 5 + sv t 5) % PP) ∧ KP w' ∧ Below W.heap.size W w') := by
          intro W t h ht
          refine (addE_any W el t LL ht).mono ?_
          rintro r w' ⟨s, rfl, L, V, n⟩
          exact ⟨s, rfl, ⟨L, V⟩, KK.up _ _ h n, n⟩
        have HB : Hid (∀ W s, KP W → Lm s → Calls Tryd.prog 76 #[ag5 s] W fun r w' => NewRow w.heap.size w' r .u8 (fill (byt (sv s 5)) 32) ∧ KP w' ∧ Below W.heap.size W w') := by
          intro W s h hs
          refine (bytes_any W s hs).mono ?_
          rintro r w' ⟨⟨a4, c4, g4, rfl, o4, p4, q4, r4⟩, n⟩
          have h2 := h
          rw [HKP.out] at h2
          have := h2.2.2
          exact ⟨⟨a4, c4, g4, rfl, o4, p4, q4, by omega⟩, KK.up _ _ h n, n⟩
        have KDc : KP wc.drew := KK.up _ _ Kc ((Below.refl _ _).drew)
        obtain ⟨⟨_, _, _, _, _⟩, ⟨_, _, _, _, _⟩⟩ := bp.f5
        obtain ⟨⟨_, _, _, _, _⟩, ⟨_, _, _, _, _⟩⟩ := bq.f5
        have bpD := bp.drew
        clear RL RH KZ KD EL EH
        go_upto_region 6 with fail
        go_region_with (first
          | (go_at_call 78; refine ((unhide HM) _ ?_).mono ?_; exact KDc; rintro r wm ⟨t, rfl, LT, Km, nm⟩; (have bm : Blk wm p .u64 (l5 el) := bpD.up nm); obtain ⟨⟨_, _, _, _, _⟩, ⟨_, _, _, _, _⟩⟩ := bm.f5)
          | (go_at_call 83; refine ((unhide HA) _ _ ?_ ?_).mono ?_; exact Km; exact LT.1; rintro r ws ⟨s, rfl, LS, Ks, ns⟩)
          | (go_at_call 76; refine ((unhide HB) _ _ ?_ ?_).mono ?_; exact Ks; exact LS.1; rintro r wz ⟨⟨a4, c4, g4, rfl, o4, p4, q4, r4⟩, Kz, nz⟩))
        all_goals
          have V2 : Hid (fred xs = fill (byt (sv s 5)) 32) := by
            show _ = _
            rw [VAL.out, LS.2, LT.2]
            congr 2
            generalize sv el 5 = x
            generalize sv eh 5 = y
            show (x + y * 38) % 57896044618658097711785492504343953926634992332820282019728792003956564819949 = (x + y * 38 % 57896044618658097711785492504343953926634992332820282019728792003956564819949) % 57896044618658097711785492504343953926634992332820282019728792003956564819949
            omega
          rw [HKP.out] at Kz
          go_wp2
          go_ret
          refine ⟨?_, Kz.2.1⟩
          rw [V2.out]
          exact ⟨a4, c4, g4, rfl, o4, p4, q4, r4⟩
end Go.Proofs.YtbhmhkimddjhaaaDoor
