import Derived.Test.YtbhmhkimddjhaaaDoorGG50
import Derived.Test.YtbhmhkimddjhaaaDoorGG51
import Derived.Test.YtbhmhkimddjhaaaDoorGG53
import Derived.Test.YtbhmhkimddjhaaaDoorGG54
/-
  Steps on lists of bytes; the field's sums and products as lists.
-/
namespace Go.Proofs.YtbhmhkimddjhaaaDoor
set_option maxRecDepth 100000
open Go Go.RowKit

theorem lsum_byt' (v : Int) (h0 : 0 ≤ v) : ∀ n, lsum (byt v) n = v % 256 ^ n
  | 0 => by simp [lsum]
  | n + 1 => by
    have ih := lsum_byt' v h0 n
    have hp := p256_pos n
    rw [lsum, ih, byt, Int.pow_succ]
    have e1 := Int.emod_add_mul_ediv v (256 ^ n)
    have e2 := Int.emod_add_mul_ediv v (256 ^ n * 256)
    rw [← Int.ediv_ediv_of_nonneg (Int.le_of_lt hp)] at e2
    have e3 := Int.emod_add_mul_ediv (v / 256 ^ n) 256
    generalize v / 256 ^ n = q at *
    generalize v % 256 ^ n = r at *
    generalize v % (256 ^ n * 256) = s at *
    generalize (256 : Int) ^ n = p at *
    generalize q / 256 = a at *
    generalize q % 256 = b at *
    subst e3
    have : (b + 256 * a) * p = b * p + 256 * a * p := Int.add_mul _ _ _
    have h1 : p * (b + 256 * a) = b * p + 256 * a * p := by rw [Int.mul_comm, this]
    have h2 : p * 256 * a = 256 * a * p := by rw [Int.mul_assoc, Int.mul_comm]
    omega
theorem num_mod (v : Int) : num (fill (byt (v % PP)) 32) = v % PP := by
  have h0 := Int.emod_nonneg v (show PP ≠ 0 by decide)
  have h1 := Int.emod_lt_of_pos v (show (0 : Int) < PP by decide)
  unfold num
  rw [fill_len, lsum_congr (b := byt (v % PP)) 32 (fun j hj => fill_get _ _ _ hj), lsum_byt' _ h0, Int.emod_eq_of_lt h0 (Int.lt_trans h1 (by decide))]
theorem fadd_is {X Y : List Int} (hx : X.length = 32) (hy : Y.length = 32) : fadd X Y = fill (byt ((num X + num Y) % PP)) 32 := by unfold fadd; rw [if_pos ⟨hx, hy⟩]
theorem fmul_is {X Y : List Int} (hx : X.length = 32) (hy : Y.length = 32) : fmul X Y = fill (byt ((num X * num Y) % PP)) 32 := by unfold fmul; rw [if_pos ⟨hx, hy⟩]
theorem fsub_is {X Y : List Int} (hx : X.length = 32) (hy : Y.length = 32) : fsub X Y = fill (byt ((num X - num Y) % PP)) 32 := by unfold fsub; rw [if_pos ⟨hx, hy⟩]
theorem fred_is {X : List Int} (hx : X.length = 32) : fred X = fill (byt (num X % PP)) 32 := by unfold fred; rw [if_pos (by omega)]
theorem fadd_32 {X Y : List Int} (hx : X.length = 32) (hy : Y.length = 32) : (fadd X Y).length = 32 := by rw [fadd_is hx hy, fill_len]
theorem fmul_32 {X Y : List Int} (hx : X.length = 32) (hy : Y.length = 32) : (fmul X Y).length = 32 := by rw [fmul_is hx hy, fill_len]
theorem fadd_num {X Y : List Int} (hx : X.length = 32) (hy : Y.length = 32) : num (fadd X Y) = (num X + num Y) % PP := by rw [fadd_is hx hy, num_mod]
theorem fmul_num {X Y : List Int} (hx : X.length = 32) (hy : Y.length = 32) : num (fmul X Y) = (num X * num Y) % PP := by rw [fmul_is hx hy, num_mod]
theorem fadd_bt (X Y : List Int) : Byt (fadd X Y) := by
  unfold fadd
  split
  · exact bytes_5 _ _
  · exact byt_nil
theorem fmul_bt (X Y : List Int) : Byt (fmul X Y) := by
  unfold fmul
  split
  · exact bytes_5 _ _
  · exact byt_nil
/-- What the law asks of three lists. -/
structure Ring (A B C : List Int) : Prop where
  lab : (fadd A B).length = 32
  lm : (fmul A B).length = 32
  ca : canN (fadd A B) = true
  cm : canN (fmul A B) = true
  xa : fadd B A = fadd A B
  xm : fmul B A = fmul A B
  ga : fadd A (fadd B C) = fadd (fadd A B) C
  gm : fmul A (fmul B C) = fmul (fmul A B) C
  ds : fadd (fmul A C) (fmul B C) = fmul (fadd A B) C
  su : fsub (fadd A B) B = fred A
theorem ring_of {A B C : List Int} (ha : A.length = 32) (hb : B.length = 32) (hc : C.length = 32) : Ring A B C := by
  have lab := fadd_32 ha hb
  have lm := fmul_32 ha hb
  have lt : ∀ v : Int, v % PP < PP := fun v => Int.emod_lt_of_pos v (by decide)
  refine ⟨lab, lm, ?_, ?_, ?_, ?_, ?_, ?_, ?_, ?_⟩
  · unfold canN; rw [fadd_num ha hb, decide_eq_true lab, decide_eq_true (lt _)]; rfl
  · unfold canN; rw [fmul_num ha hb, decide_eq_true lm, decide_eq_true (lt _)]; rfl
  · rw [fadd_is hb ha, fadd_is ha hb, Int.add_comm]
  · rw [fmul_is hb ha, fmul_is ha hb, Int.mul_comm]
  · rw [fadd_is ha (fadd_32 hb hc), fadd_is lab hc, fadd_num hb hc, fadd_num ha hb, Int.add_emod_emod, Int.emod_add_emod, Int.add_assoc]
  · rw [fmul_is ha (fmul_32 hb hc), fmul_is lm hc, fmul_num hb hc, fmul_num ha hb, Int.mul_emod (num A) (num B * num C % PP), Int.emod_emod_of_dvd _ (Int.dvd_refl _), ← Int.mul_emod, Int.mul_emod (num A * num B % PP), Int.emod_emod_of_dvd _ (Int.dvd_refl _), ← Int.mul_emod, Int.mul_assoc]
  · rw [fadd_is (fmul_32 ha hc) (fmul_32 hb hc), fmul_is lab hc, fmul_num ha hc, fmul_num hb hc, fadd_num ha hb, ← Int.add_emod, Int.mul_emod ((num A + num B) % PP), Int.emod_emod_of_dvd _ (Int.dvd_refl _), ← Int.mul_emod, Int.add_mul]
  · rw [fsub_is lab hb, fred_is ha, fadd_num ha hb, Int.sub_emod, Int.emod_emod_of_dvd _ (Int.dvd_refl _), ← Int.sub_emod, Int.add_sub_cancel]

/-- A list of bytes that may be read. -/
def RD (X : List Int) : Fact := ⟨fun v w => ∃ (a : Option Addr) (c g : Nat), v = .slice a X.length c ∧ Rd w g a .u8 X ∧ (a = none → c = 0), fun n h => by
  obtain ⟨a, c, g, e, r, q⟩ := h
  exact ⟨a, c, g, e, r.up n, q⟩⟩
theorem en_copy : enters Tryd.prog 25 = true := by kernel_rfl
theorem en_lwSame : enters Tryd.prog 30 = true := by kernel_rfl
theorem en_iAdd : enters Tryd.prog 42 = true := by kernel_rfl
theorem en_iMul : enters Tryd.prog 38 = true := by kernel_rfl
section
variable {ops : Array Oper} {Q : Exit → Act → World → Prop} {md : Region.Mode} {F : Nat → Fact} {a0 : Act} {w0 : World} {i : Nat} {o : Oper} {ts : Array TypeId}
theorem step_rd {P : Program} (hi : ops[i]? = some o) (p : Nat) (hop : o.op = .move (.tmp p)) (hp : apart ops p = true) {a : Option Addr} {X : List Int} {c g : Nat} (h0 : a0.tmps.getD p undef = .slice a X.length c) (hr : Rd w0 g a .u8 X) (hc : a = none → c = 0) (hF : F i = RD X) : StepOk P md ops Q F a0 w0 i := by
  refine step_pure hi fun b w hb hw _ => ⟨.slice a X.length c, ?_, by rw [hF]; exact ⟨a, c, g, rfl, hr.up hw, hc⟩⟩
  have e := (based_at hb p hp).trans h0
  simp [execOp, hop, e]
theorem step_copy (hi : ops[i]? = some o) (p j : Nat) {X : List Int} (hl : X.length ≤ 1048576) (hop : o.op = .call { callee := .value (.func 25), args := #[.tmp p], argTypes := ts })
    (hj : waits md ops i j p = true) (hFj : F j = RD X) (hFi : F i = RD X) : StepOk Tryd.prog md ops Q F a0 w0 i := by
  refine step_call hi _ _ ts hop en_copy fun a w _ _ hF => ?_
  have ea := hF j p hj
  rw [hFj] at ea
  obtain ⟨b, c, g, e1, r, q⟩ := ea
  show Calls Tryd.prog 25 #[a.tmps.getD p undef] w _
  rw [e1]
  refine (lwCopy_any w g b c X r q hl).mono ?_
  rintro r w' ⟨⟨a3, c3, g3, rfl, o3, p3, _, _⟩, n3⟩
  rw [hFi]
  exact ⟨_, rfl, n3, a3, c3, g3, rfl, o3.rd, p3⟩
theorem step_iadd (hi : ops[i]? = some o) (p q j k : Nat) {X Y R : List Int} (hx : Byt X) (hy : Byt Y) (hR : fadd X Y = R) (hop : o.op = .call { callee := .value (.func 42), args := #[.tmp p, .tmp q], argTypes := ts })
    (hj : waits md ops i j p = true) (hk : waits md ops i k q = true) (hFj : F j = RD X) (hFk : F k = RD Y) (hFi : F i = RD R) : StepOk Tryd.prog md ops Q F a0 w0 i := by
  refine step_call hi _ _ ts hop en_iAdd fun a w _ _ hF => ?_
  have ea := hF j p hj
  have eb := hF k q hk
  rw [hFj] at ea
  rw [hFk] at eb
  obtain ⟨b, c, g, e1, r, _⟩ := ea
  obtain ⟨b', c', g', e2, r', _⟩ := eb
  show Calls Tryd.prog 42 #[a.tmps.getD p undef, a.tmps.getD q undef] w _
  rw [e1, e2]
  refine (implFieldAdd_any w g g' b b' c c' X Y r r' hx hy).mono ?_
  rintro r w' ⟨⟨a3, c3, g3, rfl, o3, p3, _, _⟩, n3⟩
  rw [hR] at o3
  rw [hFi, hR]
  exact ⟨_, rfl, n3, a3, c3, g3, rfl, o3.rd, p3⟩
theorem step_imul (hi : ops[i]? = some o) (p q j k : Nat) {X Y R : List Int} (hx : Byt X) (hy : Byt Y) (hR : fmul X Y = R) (hop : o.op = .call { callee := .value (.func 38), args := #[.tmp p, .tmp q], argTypes := ts })
    (hj : waits md ops i j p = true) (hk : waits md ops i k q = true) (hFj : F j = RD X) (hFk : F k = RD Y) (hFi : F i = RD R) : StepOk Tryd.prog md ops Q F a0 w0 i := by
  refine step_call hi _ _ ts hop en_iMul fun a w _ _ hF => ?_
  have ea := hF j p hj
  have eb := hF k q hk
  rw [hFj] at ea
  rw [hFk] at eb
  obtain ⟨b, c, g, e1, r, _⟩ := ea
  obtain ⟨b', c', g', e2, r', _⟩ := eb
  show Calls Tryd.prog 38 #[a.tmps.getD p undef, a.tmps.getD q undef] w _
  rw [e1, e2]
  refine (implFieldMul_any w g g' b b' c c' X Y r r' hx hy).mono ?_
  rintro r w' ⟨⟨a3, c3, g3, rfl, o3, p3, _, _⟩, n3⟩
  rw [hR] at o3
  rw [hFi, hR]
  exact ⟨_, rfl, n3, a3, c3, g3, rfl, o3.rd, p3⟩
theorem step_lwSame (hi : ops[i]? = some o) (p q j k : Nat) {X : List Int} (hop : o.op = .call { callee := .value (.func 30), args := #[.tmp p, .tmp q], argTypes := ts })
    (hj : waits md ops i j p = true) (hk : waits md ops i k q = true) (hFj : F j = RD X) (hFk : F k = RD X) (hFi : F i = Fact.eq (.bool true)) : StepOk Tryd.prog md ops Q F a0 w0 i := by
  refine step_call hi _ _ ts hop en_lwSame fun a w _ _ hF => ?_
  have ea := hF j p hj
  have eb := hF k q hk
  rw [hFj] at ea
  rw [hFk] at eb
  obtain ⟨b, c, g, e1, r, _⟩ := ea
  obtain ⟨b', c', g', e2, r', _⟩ := eb
  show Calls Tryd.prog 30 #[a.tmps.getD p undef, a.tmps.getD q undef] w _
  rw [e1, e2]
  refine (lwSame_same w g g' b b' c c' X r r').mono ?_
  rintro r w' ⟨rfl, rfl⟩
  exact ⟨_, rfl, Below.refl _ _, by rw [hFi]; exact rfl⟩
theorem step_not {P : Program} (hi : ops[i]? = some o) (p j : Nat) {t : TypeId} (hop : o.op = .unOp .not t (.tmp p)) (hj : waits md ops i j p = true) (hFj : F j = Fact.eq (.bool true)) (hFi : F i = Fact.eq (.bool false)) : StepOk P md ops Q F a0 w0 i := by
  refine step_pure hi fun a w _ _ hf => ⟨.bool false, ?_, by rw [hFi]; exact rfl⟩
  have e := hf j p hj
  rw [hFj] at e
  have e' : a.eval (.tmp p) = .bool true := e
  simp only [execOp, hop, e']
  rfl
end
end Go.Proofs.YtbhmhkimddjhaaaDoor
