import Derived.Test.YtkglcainhkbgbaaGreatDoorSG40
import Derived.Test.YtkglcainhkbgbaaGreatDoorSG38
import Derived.Test.YtkglcainhkbgbaaGreatDoorSG35
import Derived.Test.YtkglcainhkbgbaaGreatDoorSG30
import Derived.Deep.DeepCutAuto
import Derived.Test.YtkglcainhkbgbaaGreatDoorSG24
import Derived.Test.YtkglcainhkbgbaaGreatDoorSG39
import Derived.Deep.RegionHeld3
namespace Go.Proofs.YtkglcainhkbgbaaGreatDoor
set_option maxRecDepth 100000
theorem prmq_2551 : Prm 2551 := prime_by_trial (k := 49) (by decide) (by decide) (by decide)
theorem prmq_1224481 : Prm 1224481 := cert_one (f := 21) (h := 921659) (by decide +kernel) (by decide +kernel) prmq_2551 (by decide +kernel) (by decide +kernel) (by decide +kernel) (by decide +kernel) (by decide +kernel)
theorem prmq_3797 : Prm 3797 := prime_by_trial (k := 60) (by decide) (by decide) (by decide)
theorem prmq_531581 : Prm 531581 := cert_one (f := 20) (h := 32301) (by decide +kernel) (by decide +kernel) prmq_3797 (by decide +kernel) (by decide +kernel) (by decide +kernel) (by decide +kernel) (by decide +kernel)
theorem prmq_125755973217n16 : Prm 1257559732178653 := cert_two (f := 51) (h := 1252739704402215) (i := 1139842034583224) (by decide +kernel) (by decide +kernel) prmq_1224481 prmq_531581 (by decide +kernel) (by decide +kernel) (by decide +kernel) (by decide +kernel) (by decide +kernel) (by decide +kernel) (by decide +kernel) (by decide +kernel) (by decide +kernel)
theorem prmq_443415561566n19 : Prm 4434155615661930479 := cert_one (f := 62) (h := 415787812636281767) (by decide +kernel) (by decide +kernel) prmq_125755973217n16 (by decide +kernel) (by decide +kernel) (by decide +kernel) (by decide +kernel) (by decide +kernel)
theorem prmq_172054593956n27 : Prm 172054593956031949258510691 := cert_one (f := 88) (h := 81982237619807054769897707) (by decide +kernel) (by decide +kernel) prmq_443415561566n19 (by decide +kernel) (by decide +kernel) (by decide +kernel) (by decide +kernel) (by decide +kernel)
theorem prmq_197573303058n41 : Prm 19757330305831588566944191468367130476339 := cert_one (f := 134) (h := 9148758478138211201771971577098600188172) (by decide +kernel) (by decide +kernel) prmq_172054593956n27 (by decide +kernel) (by decide +kernel) (by decide +kernel) (by decide +kernel) (by decide +kernel)
theorem prmq_276602624281n42 : Prm 276602624281642239937218680557139826668747 := cert_one (f := 138) (h := 16384) (by decide +kernel) (by decide +kernel) prmq_197573303058n41 (by decide +kernel) (by decide +kernel) (by decide +kernel) (by decide +kernel) (by decide +kernel)
theorem prmq_723700557733n76 : Prm 7237005577332262213973186563042994240857116359379907606001950938285454250989 := cert_one (f := 253) (h := 2975531125133123119648879457563281269120703404158613135195788908093573672641) (by decide +kernel) (by decide +kernel) prmq_276602624281n42 (by decide +kernel) (by decide +kernel) (by decide +kernel) (by decide +kernel) (by decide +kernel)
abbrev Q25519 : Nat := 7237005577332262213973186563042994240857116359379907606001950938285454250989
theorem prm_Q : Prm Q25519 := prmq_723700557733n76
def nY (a b c d : Nat) : Nat := (c + P25519 - d) * (a + b) % P25519
def nZ (a b c d : Nat) : Nat := (c + d) * (a + P25519 - b) % P25519
def nsU (a b c d : Nat) : Nat := (nY a b c d + nZ a b c d) * (nY a b c d + nZ a b c d) % P25519
def nsV (x a b c d : Nat) : Nat := x * ((nY a b c d + P25519 - nZ a b c d) * (nY a b c d + P25519 - nZ a b c d)) % P25519
def nS (a b : Nat) : Nat := (a + b) * (a + b) % P25519
def nT (a b : Nat) : Nat := (a + P25519 - b) * (a + P25519 - b) % P25519
def ndU (a b : Nat) : Nat := nS a b * nT a b % P25519
def nW (a b : Nat) : Nat := (nS a b + P25519 - nT a b) % P25519
def ndV (a b : Nat) : Nat := nW a b * (nS a b + nW a b * 121665) % P25519
def nlad (x K : Nat) : Nat → Nat → Nat → Nat → Nat → Nat
  | 0, _, b, _, _ => b
  | j + 1, a, b, c, d => if K / 2 ^ j % 2 = 1 then nlad x K j (nsU a b c d) (nsV x a b c d) (ndU c d) (ndV c d) else nlad x K j (ndU a b) (ndV a b) (nsU a b c d) (nsV x a b c d)
structure Cg (n : Nat) (i : Int) : Prop where
  c : PP ∣ (n : Int) - i
  l : n < P25519
theorem cg_mod {n : Nat} {i : Int} (h : PP ∣ (n : Int) - i) : Cg (n % P25519) i := by
  refine ⟨?_, Nat.mod_lt _ (by decide)⟩
  have e : ((n % P25519 : Nat) : Int) = (n : Int) % PP := by rw [Int.natCast_emod]; rfl
  rw [e]
  have k : PP ∣ (n : Int) % PP - n := dvd_cong (Int.emod_emod_of_dvd _ (Int.dvd_refl _))
  exact dv2 k h (c1 := 1) (c2 := 1) (by grind)
section
variable {a b c d : Nat} {A B C D : Int}
theorem cg_sub (ha : Cg a A) (hb : Cg b B) : PP ∣ ((a + P25519 - b : Nat) : Int) - (A - B) := by
  have l := hb.l
  have e : ((a + P25519 - b : Nat) : Int) = (a : Int) + PP - b := by
    rw [PP_nat]
    generalize P25519 = q at *
    omega
  rw [e]
  exact dv3 ha.c hb.c (Int.dvd_refl PP) (c1 := 1) (c2 := -1) (c3 := 1) (by grind)
theorem cg_add (ha : Cg a A) (hb : Cg b B) : PP ∣ ((a + b : Nat) : Int) - (A + B) := by
  rw [Int.natCast_add]
  exact dv2 ha.c hb.c (c1 := 1) (c2 := 1) (by grind)
theorem cg_mul {m n : Nat} {M N : Int} (hm : PP ∣ (m : Int) - M) (hn : PP ∣ (n : Int) - N) : PP ∣ ((m * n : Nat) : Int) - M * N := by
  rw [Int.natCast_mul]
  exact dv2 hm hn (c1 := n) (c2 := M) (by grind)
theorem cg_Y (ha : Cg a A) (hb : Cg b B) (hc : Cg c C) (hd : Cg d D) : Cg (nY a b c d) (sY A B C D) := cg_mod (cg_mul (cg_sub hc hd) (cg_add ha hb))
theorem cg_Z (ha : Cg a A) (hb : Cg b B) (hc : Cg c C) (hd : Cg d D) : Cg (nZ a b c d) (sZ A B C D) := cg_mod (cg_mul (cg_add hc hd) (cg_sub ha hb))
theorem cg_sU (ha : Cg a A) (hb : Cg b B) (hc : Cg c C) (hd : Cg d D) : Cg (nsU a b c d) (sU A B C D) :=
  cg_mod (cg_mul (cg_add (cg_Y ha hb hc hd) (cg_Z ha hb hc hd)) (cg_add (cg_Y ha hb hc hd) (cg_Z ha hb hc hd)))
theorem cg_sV {x : Nat} {X : Int} (hx : Cg x X) (ha : Cg a A) (hb : Cg b B) (hc : Cg c C) (hd : Cg d D) : Cg (nsV x a b c d) (sV X A B C D) :=
  cg_mod (cg_mul hx.c (cg_mul (cg_sub (cg_Y ha hb hc hd) (cg_Z ha hb hc hd)) (cg_sub (cg_Y ha hb hc hd) (cg_Z ha hb hc hd))))
theorem cg_S (ha : Cg a A) (hb : Cg b B) : Cg (nS a b) ((A + B) * (A + B)) := cg_mod (cg_mul (cg_add ha hb) (cg_add ha hb))
theorem cg_T (ha : Cg a A) (hb : Cg b B) : Cg (nT a b) ((A - B) * (A - B)) := cg_mod (cg_mul (cg_sub ha hb) (cg_sub ha hb))
theorem cg_dU (ha : Cg a A) (hb : Cg b B) : Cg (ndU a b) (dU A B) := cg_mod (cg_mul (cg_S ha hb).c (cg_T ha hb).c)
theorem cg_W (ha : Cg a A) (hb : Cg b B) : Cg (nW a b) (dW A B) := cg_mod (cg_sub (cg_S ha hb) (cg_T ha hb))
theorem cg_dV (ha : Cg a A) (hb : Cg b B) : Cg (ndV a b) (dV A B) := by
  have k : PP ∣ ((nW a b * 121665 : Nat) : Int) - dW A B * 121665 := cg_mul (n := 121665) (N := 121665) (cg_W ha hb).c ⟨0, by simp⟩
  have s : PP ∣ ((nS a b + nW a b * 121665 : Nat) : Int) - ((A + B) * (A + B) + dW A B * 121665) := by
    rw [Int.natCast_add]
    exact dv2 (cg_S ha hb).c k (c1 := 1) (c2 := 1) (by grind)
  exact cg_mod (cg_mul (cg_W ha hb).c s)
end
def lrest (x : Int) (K : Nat) : Nat → Two4 → Two4
  | 0, s => s
  | j + 1, s => lrest x K j (lrnd x (kbit (K : Int) j) s)
theorem lrest_is (x : Int) (K m : Nat) : ∀ n, n ≤ m → lrest x K m ⟨1, 0, x, 1⟩ = lrest x K (m - n) (lrnds x (fun i => kbit (K : Int) (m - 1 - i)) n)
  | 0, _ => rfl
  | n + 1, h => by
    rw [lrest_is x K m n (by omega), show m - n = (m - (n + 1)) + 1 by omega]
    show lrest x K (m - (n + 1)) (lrnd x (kbit (K : Int) (m - (n + 1))) _) = lrest x K (m - (n + 1)) (lrnd x (kbit (K : Int) (m - 1 - n)) _)
    rw [show m - 1 - n = m - (n + 1) by omega]
theorem kbit_n (K j : Nat) : kbit (K : Int) j = decide (K / 2 ^ j % 2 = 1) := by
  unfold kbit
  have c : (K : Int) / 2 ^ j % 2 = ((K / 2 ^ j % 2 : Nat) : Int) := by simp
  rw [c]
  rcases (show K / 2 ^ j % 2 = 0 ∨ K / 2 ^ j % 2 = 1 by omega) with z | z <;> rw [z] <;> rfl
theorem nlad_ok {x : Nat} {X : Int} (hx : Cg x X) (K : Nat) : ∀ (j a b c d : Nat) (s : Two4), Cg a s.a → Cg b s.b → Cg c s.c → Cg d s.d → Cg (nlad x K j a b c d) (lrest X K j s).b
  | 0, a, b, c, d, s, ha, hb, hc, hd => hb
  | j + 1, a, b, c, d, s, ha, hb, hc, hd => by
    show Cg (if K / 2 ^ j % 2 = 1 then _ else _) (lrest X K j (lrnd X (kbit (K : Int) j) s)).b
    rw [kbit_n]
    by_cases h : K / 2 ^ j % 2 = 1
    · rw [if_pos h, decide_eq_true h]
      exact nlad_ok hx K j _ _ _ _ (lrnd X true s) (cg_sU ha hb hc hd) (cg_sV hx ha hb hc hd) (cg_dU hc hd) (cg_dV hc hd)
    · rw [if_neg h, decide_eq_false h]
      exact nlad_ok hx K j _ _ _ _ (lrnd X false s) (cg_dU ha hb) (cg_dV ha hb) (cg_sU ha hb hc hd) (cg_sV hx ha hb hc hd)
theorem nlad_Q : nlad 9 Q25519 256 1 0 9 1 = 0 := by decide +kernel
theorem cg_small {n : Nat} (h : n < P25519) : Cg n (n : Int) := ⟨⟨0, by simp⟩, h⟩
theorem nine_Q : PP ∣ (lrnds 9 (fun i => kbit (Q25519 : Int) (255 - i)) 256).b := by
  have h := nlad_ok (x := 9) (X := 9) (cg_small (by decide)) Q25519 256 1 0 9 1 ⟨1, 0, 9, 1⟩ (cg_small (by decide)) (cg_small (by decide)) (cg_small (by decide)) (cg_small (by decide))
  rw [nlad_Q, lrest_is 9 Q25519 256 256 (Nat.le_refl _), Nat.sub_self] at h
  have k := h.c
  exact dv2 k k (c1 := -1) (c2 := 0) (by show _ = _; grind [lrest])
section
variable {a d b s x : Int} {p : Int × Int}
theorem order_kill (H : Crv PP a d einv) (hp : OnP PP a d p) {q M : Nat} (hq : Prm q) (h1 : Pe PP (emul a d einv q p) (0, 1)) (h2 : Pe PP (emul a d einv M p) (0, 1)) (hM : ¬ q ∣ M) : Pe PP p (0, 1) := by
  have f := hq.fermat hM
  have q2 := hq.1
  obtain ⟨e, he⟩ : ∃ e, q - 1 = e + 1 := ⟨q - 2, by omega⟩
  rw [he] at f
  obtain ⟨c, hc⟩ : ∃ c, M ^ (e + 1) = q * c + 1 := ⟨M ^ (e + 1) / q, by have := Nat.div_add_mod (M ^ (e + 1)) q; omega⟩
  have z1 : Pe PP (emul a d einv (M * M ^ e) p) (0, 1) := (emul_mul H hp M (M ^ e)).trans ((emul_cg H (emul_on H hp M) h2 _).trans (emul_zero' H _))
  rw [Nat.mul_comm, ← Nat.pow_succ, hc] at z1
  have z2 : Pe PP (emul a d einv (q * c) p) (0, 1) := (emul_mul H hp q c).trans ((emul_cg H (emul_on H hp q) h1 _).trans (emul_zero' H _))
  have z3 : Pe PP (emul a d einv (q * c + 1) p) (eadd a d einv (0, 1) p) := eadd_cg H (emul_on H hp (q * c)) hp z2 (Pe.refl p)
  have z4 := (eadd_comm H (p := (0, 1)) zero_on hp).trans (eadd_zero H hp)
  exact (z3.trans z4).symm.trans z1
theorem is_zero (M : Mon PP a d b s 121665) {A : Int × Int} (hA : OnP PP a d A) (hy : PP ∣ 1 - A.2) : Pe PP A (0, 1) := by
  have h1 : PP ∣ 1 - A.2 ^ 2 := dv2 hy hy (c1 := 1 + A.2) (c2 := 0) (by grind)
  have ho : PP ∣ a * A.1 ^ 2 + A.2 ^ 2 - 1 - d * A.1 ^ 2 * A.2 ^ 2 := hA
  have h2 : PP ∣ (A.1 * A.1) * (a - d) := dv2 ho h1 (c1 := 1) (c2 := 1 - d * A.1 ^ 2) (by grind)
  have hx : PP ∣ A.1 := (pri_PP.mul (cancel pri_PP M.ad h2)).elim id id
  exact ⟨dv2 hx hx (c1 := 1) (c2 := 0) (by grind), dv2 hy hy (c1 := -1) (c2 := 0) (by grind)⟩
theorem nine_order (H : Crv PP a d einv) (M : Mon PP a d b s 121665) (hp : OnP PP a d p) (hr : Rep PP s (9, 1) p.2) : Pe PP (emul a d einv Q25519 p) (0, 1) := by
  have U := (up_all H M hp hr (by decide) (fun i => kbit (Q25519 : Int) (255 - i)) 256).l
  have e := bnum_k Q25519 256 256 (Nat.le_refl _)
  have e' : bnum (fun i => kbit (Q25519 : Int) (255 - i)) 256 = Q25519 := by
    refine e.trans ?_
    rw [Nat.sub_self, Nat.pow_zero, Nat.div_one, Nat.mod_eq_of_lt (by decide)]
  rw [e'] at U
  have hb := nine_Q
  generalize (lrnds 9 (fun i => kbit (Q25519 : Int) (255 - i)) 256).a = u at *
  generalize (lrnds 9 (fun i => kbit (Q25519 : Int) (255 - i)) 256).b = v at *
  have nu : ¬ PP ∣ u := fun k => U.2 ⟨k, hb⟩
  have h1 : PP ∣ u * (1 - (emul a d einv Q25519 p).2) - s * v * (1 + (emul a d einv Q25519 p).2) := U.1
  refine is_zero M (emul_on H hp _) ?_
  generalize (emul a d einv Q25519 p).2 = y at *
  exact cancel pri_PP nu (dv2 h1 hb (c1 := 1) (c2 := s * (1 + y)) (by grind))
theorem Clp.free {K : Nat} (h : Clp K) : ¬ Q25519 ∣ K := fun k => by
  have h1 := h.lo
  have h2 := h.hi
  have h3 := h.ev
  have e : Q25519 ∣ 8 * (K / 8) := by rw [show 8 * (K / 8) = K by omega]; exact k
  rcases prm_Q.mul e with q | q
  · exact absurd (Nat.le_of_dvd (by decide) q) (by decide)
  · have h4 : 7237005577332262213973186563042994240857116359379907606001950938285454250989 ≤ K / 8 := Nat.le_of_dvd (by omega) q
    omega
end
end Go.Proofs.YtkglcainhkbgbaaGreatDoor
namespace Go.Proofs.YtkglcainhkbgbaaGreatDoor
set_option maxRecDepth 100000
open Go Go.RowKit
def wA (pZ qZ : Int) : Int := pZ * qZ
def wF (pX pY qX qY d : Int) : Int := d * ((pX * qX) * (pY * qY))
def wL (pX pY pZ qX qY qZ d : Int) : Int := wA pZ qZ * wA pZ qZ - wF pX pY qX qY d
def wX (pX pY pZ qX qY qZ d : Int) : Int := wA pZ qZ * wL pX pY pZ qX qY qZ d * ((pX + pY) * (qX + qY) - pX * qX - pY * qY)
end Go.Proofs.YtkglcainhkbgbaaGreatDoor
namespace Go.Proofs.YtkglcainhkbgbaaGreatDoor
set_option maxRecDepth 100000
open Go Go.RowKit
def dE : Int := (0 - 121665) * iv 121666
def RN (w0 : World) (p : List Int → Prop) : Fact := ⟨fun v w => ∃ (xs : List Int) (a : Option Addr) (c g : Nat), v = .slice a xs.length c ∧ Own w g a .u8 xs ∧ w0.heap.size ≤ g ∧ p xs ∧ (a = none → c = 0) ∧ xs.length ≤ c, fun n h => by
  obtain ⟨xs, a, c, g, e, o, q⟩ := h
  exact ⟨xs, a, c, g, e, o.up n, q⟩⟩
section
variable {ops : Array Oper} {Q : Exit → Act → World → Prop} {md : Region.Mode} {F : Nat → Fact} {a0 : Act} {w0 : World} {i : Nat} {o : Oper} {ts : Array TypeId}
end
section
variable {ops : Array Oper} {Q : Exit → Act → World → Prop} {a0 : Act} {w : World} {id : Nat} {draw : Bool}
end
end Go.Proofs.YtkglcainhkbgbaaGreatDoor
namespace Go.Proofs.YtkglcainhkbgbaaGreatDoor
set_option maxRecDepth 100000
open Go Go.RowKit
end Go.Proofs.YtkglcainhkbgbaaGreatDoor
namespace Go.Proofs.YtkglcainhkbgbaaGreatDoor
set_option maxRecDepth 100000
open Go Go.RowKit
def rootB (A : Int) : Bool := decide (r1S (A % PP) * r1S (A % PP) % PP = A % PP)
def rootV (A : Int) : Int := if rootB A = true then fin2 (r1S (A % PP)) else 0
theorem Elt.cg {W : World} {q o : Nat} {A B : Int} (h : Elt W q o A) (e : A % PP = B % PP) : Elt W q o B := by
  obtain ⟨t, r, l, L, V⟩ := h
  exact ⟨t, r, l, L, V.trans e⟩
section
variable {ops : Array Oper} {Q : Exit → Act → World → Prop} {md : Region.Mode} {F : Nat → Fact} {a0 : Act} {w0 : World} {i : Nat} {o : Oper} {ts : Array TypeId}
theorem step_notb {P : Program} (hi : ops[i]? = some o) (p j : Nat) {b : Bool} {t : TypeId} (hop : o.op = .unOp .not t (.tmp p)) (hj : waits md ops i j p = true) (hFj : F j = Fact.eq (.bool b)) (hFi : F i = Fact.eq (.bool (!b))) : StepOk P md ops Q F a0 w0 i := by
  refine step_pure hi fun a w _ _ hf => ⟨.bool (!b), ?_, by rw [hFi]; exact rfl⟩
  have e := hf j p hj
  rw [hFj] at e
  have e' : a.eval (.tmp p) = .bool b := e
  simp only [execOp, hop, e']
  rfl
end
section
variable {ops : Array Oper} {Q : Exit → Act → World → Prop} {a0 : Act} {w : World} {id : Nat} {draw : Bool}
end
end Go.Proofs.YtkglcainhkbgbaaGreatDoor
namespace Go.Proofs.YtkglcainhkbgbaaGreatDoor
set_option maxRecDepth 100000
open Go Go.RowKit
def OfOk (W : World) (a : Option Addr) (xs : List Int) : Prop := ∃ g, Rd W g a .u8 xs ∧ Byt xs ∧ xs.length = 32
theorem of_ok {W : World} {g : Nat} {a : Option Addr} {xs : List Int} (h : Rd W g a .u8 xs) (b : Byt xs) (l : xs.length = 32) : OfOk W a xs := ⟨g, h, b, l⟩
section
variable {ops : Array Oper} {Q : Exit → Act → World → Prop} {md : Region.Mode} {F : Nat → Fact} {a0 : Act} {w0 : World} {i : Nat} {o : Oper} {ts : Array TypeId}
theorem step_move {P : Program} (hi : ops[i]? = some o) (p j : Nat) (hop : o.op = .move (.tmp p) ∨ o.op = .assign (.tmp p)) (hj : waits md ops i j p = true) (hF : F i = F j) : StepOk P md ops Q F a0 w0 i := by
  refine step_pure hi fun a w _ _ hf => ⟨a.eval (.tmp p), ?_, by rw [hF]; exact hf j p hj⟩
  rcases hop with h | h <;> simp [execOp, h]
end
theorem can_len {xs : List Int} (h : canN xs = true) : xs.length = 32 := by
  unfold canN at h
  simp at h
  exact h.1
def validN (x y : Int) : Bool := decide ((y * y - x * x) % PP = (1 + dE * (x * x * (y * y))) % PP)
def validP (xs ys : List Int) : Bool := canN xs && canN ys && validN (num xs) (num ys)
end Go.Proofs.YtkglcainhkbgbaaGreatDoor
namespace Go.Proofs.YtkglcainhkbgbaaGreatDoor
set_option maxRecDepth 100000
open Go Go.RowKit
end Go.Proofs.YtkglcainhkbgbaaGreatDoor
namespace Go.Proofs.YtkglcainhkbgbaaGreatDoor
set_option maxRecDepth 100000
open Go Go.RowKit
abbrev W3 : Type := Int × Int × Int
theorem Elt.lt {W : World} {q o : Nat} {A : Int} (h : Elt W q o A) : q < W.heap.size := by
  obtain ⟨_, _, l, _⟩ := h
  exact l
section
variable {ops : Array Oper} {Q : Exit → Act → World → Prop} {md : Region.Mode} {F : Nat → Fact} {a0 : Act} {w0 : World} {i : Nat} {o : Oper} {ts : Array TypeId}
end
end Go.Proofs.YtkglcainhkbgbaaGreatDoor
namespace Go.Proofs.YtkglcainhkbgbaaGreatDoor
set_option maxRecDepth 100000
structure Pj (t : W3) (q : Int × Int) : Prop where
  z : ¬ PP ∣ t.2.2
  x : PP ∣ t.1 - q.1 * t.2.2
  y : PP ∣ t.2.1 - q.2 * t.2.2
theorem Pj.cg {t : W3} {q q' : Int × Int} (h : Pj t q) (e : Pe PP q q') : Pj t q' :=
  ⟨h.z, dv2 h.x e.1 (c1 := 1) (c2 := t.2.2) (by grind), dv2 h.y e.2 (c1 := 1) (c2 := t.2.2) (by grind)⟩
theorem Pj.one (q : Int × Int) : Pj (q.1, q.2, 1) q := ⟨pri_PP.one, ⟨0, by simp⟩, ⟨0, by simp⟩⟩
theorem dE_is : PP ∣ dE - d0 := by
  have h : PP ∣ einv 121666 * 121666 - 1 := einv_ok 121666 (by decide)
  have k : PP ∣ 121666 * d0 + 121665 := by decide +kernel
  have n : ¬ PP ∣ 121666 := by decide
  have e : dE = (0 - 121665) * einv 121666 := rfl
  rw [e]
  generalize einv 121666 = f at *
  exact cancel pri_PP n (dv2 h k (c1 := -121665) (c2 := -1) (by grind))
section
variable {X Y Z X' Y' Z' D A B C A' B' C' E : Int}
end
section
variable {x y x' y' Z Z' d : Int}
end
theorem pj_plain {t : W3} {q : Int × Int} (h : Pj t q) : t.1 * iv t.2.2 % PP = q.1 % PP ∧ t.2.1 * iv t.2.2 % PP = q.2 % PP := by
  have hi := einv_ok _ h.z
  have e : iv t.2.2 = einv t.2.2 := rfl
  have hx := h.x
  have hy := h.y
  rw [e]
  generalize einv t.2.2 = f at *
  generalize t.2.2 = Z at *
  exact ⟨cong_dvd (dv2 hx hi (c1 := f) (c2 := q.1) (by grind)), cong_dvd (dv2 hy hi (c1 := f) (c2 := q.2) (by grind))⟩
theorem on_valid {x y : Int} (h : OnP PP (-1) d0 (x, y)) : validN x y = true := by
  have e : PP ∣ (-1) * x ^ 2 + y ^ 2 - 1 - d0 * x ^ 2 * y ^ 2 := h
  have k := dE_is
  refine decide_eq_true (cong_dvd ?_)
  generalize dE = D at *
  generalize d0 = d at *
  exact dv2 e k (c1 := 1) (c2 := -(x ^ 2 * y ^ 2)) (by grind)
end Go.Proofs.YtkglcainhkbgbaaGreatDoor
namespace Go.Proofs.YtkglcainhkbgbaaGreatDoor
set_option maxRecDepth 100000
structure Ex (X Y Z T : Int) (q : Int × Int) : Prop where
  z : ¬ PP ∣ Z
  x : PP ∣ X - q.1 * Z
  y : PP ∣ Y - q.2 * Z
  t : PP ∣ T - q.1 * q.2 * Z
theorem Ex.cg {X Y Z T : Int} {q q' : Int × Int} (h : Ex X Y Z T q) (e : Pe PP q q') : Ex X Y Z T q' := by
  obtain ⟨e1, e2⟩ := e
  obtain ⟨hz, hx, hy, ht⟩ := h
  exact ⟨hz, dv2 hx e1 (c1 := 1) (c2 := Z) (by grind), dv2 hy e2 (c1 := 1) (c2 := Z) (by grind), dv3 ht e1 e2 (c1 := 1) (c2 := q.2 * Z) (c3 := q'.1 * Z) (by grind)⟩
theorem ex_ratios {a b c d : Int} {r : Int × Int} (nb : ¬ PP ∣ b) (nd : ¬ PP ∣ d) (h1 : PP ∣ a - r.1 * b) (h2 : PP ∣ c - r.2 * d) : Ex (a * d) (c * b) (b * d) (a * c) r :=
  ⟨nz_mul pri_PP nb nd, dv2 h1 h2 (c1 := d) (c2 := 0) (by grind), dv2 h1 h2 (c1 := 0) (c2 := b) (by grind), dv2 h1 h2 (c1 := c) (c2 := r.1 * b) (by grind)⟩
theorem Ex.pj {X Y Z T : Int} {q : Int × Int} (h : Ex X Y Z T q) : Pj (X, Y, Z) q := ⟨h.z, h.x, h.y⟩
theorem ex_one (q : Int × Int) : Ex q.1 q.2 1 (q.1 * q.2) q := ⟨pri_PP.one, ⟨0, by simp⟩, ⟨0, by simp⟩, ⟨0, by simp⟩⟩
def xaS (X Y X' Y' : Int) : Int := (Y + X) * (Y' + X') - (Y - X) * (Y' - X')
def yaS (X Y X' Y' : Int) : Int := (Y + X) * (Y' + X') + (Y - X) * (Y' - X')
def xbS (Z T Z' T' D : Int) : Int := (Z * Z' + Z * Z') + (T * T' * D + T * T' * D)
def ybS (Z T Z' T' D : Int) : Int := (Z * Z' + Z * Z') - (T * T' * D + T * T' * D)
theorem ex_sum {X Y Z T X' Y' Z' T' D : Int} {p q : Int × Int} (hD : PP ∣ D - d0) (hp : OnP PP (-1) d0 p) (hq : OnP PP (-1) d0 q) (ht : Ex X Y Z T p) (hu : Ex X' Y' Z' T' q) :
    Ex (xaS X Y X' Y' * ybS Z T Z' T' D) (yaS X Y X' Y' * xbS Z T Z' T' D) (xbS Z T Z' T' D * ybS Z T Z' T' D) (xaS X Y X' Y' * yaS X Y X' Y') (eadd (-1) d0 einv p q) := by
  have sm := eadd_sm crv1 hp hq
  have c1 := crv1.cpl.p hp hq
  have c2 := crv1.cpl.q hp hq
  generalize eadd (-1) d0 einv p q = r at *
  obtain ⟨x, y⟩ := p
  obtain ⟨x', y'⟩ := q
  obtain ⟨hz, hx, hy, hT⟩ := ht
  obtain ⟨hz', hx', hy', hT'⟩ := hu
  simp only at hz hx hy hT hz' hx' hy' hT' c1 c2
  have s1 := sm.x
  have s2 := sm.y
  simp only at s1 s2
  clear sm hp hq
  have n2 : ¬ PP ∣ 2 * (Z * Z') := nz_mul pri_PP pri_PP.two (nz_mul pri_PP hz hz')
  have kT : PP ∣ T * T' * D - Z * Z' * (d0 * x * x' * y * y') := dv3 hT hT' hD (c1 := T' * D) (c2 := x * y * Z * D) (c3 := x * y * Z * (x' * y' * Z')) (by grind)
  have k1 : PP ∣ X * Y' - Z * Z' * (x * y') := dv2 hx hy' (c1 := Y') (c2 := x * Z) (by grind)
  have k2 : PP ∣ Y * X' - Z * Z' * (y * x') := dv2 hy hx' (c1 := X') (c2 := y * Z) (by grind)
  have k3 : PP ∣ Y * Y' - Z * Z' * (y * y') := dv2 hy hy' (c1 := Y') (c2 := y * Z) (by grind)
  have k4 : PP ∣ X * X' - Z * Z' * (x * x') := dv2 hx hx' (c1 := X') (c2 := x * Z) (by grind)
  clear hx hy hT hx' hy' hT' hD
  have j1 : PP ∣ X * Y' + Y * X' - Z * Z' * (x * y' + y * x') := dv2 k1 k2 (c1 := 1) (c2 := 1) (by grind)
  have j2 : PP ∣ Y * Y' + X * X' - Z * Z' * (y * y' + x * x') := dv2 k3 k4 (c1 := 1) (c2 := 1) (by grind)
  clear k1 k2 k3 k4
  have e1 : xbS Z T Z' T' D = 2 * (Z * Z') + 2 * (T * T' * D) := by unfold xbS; grind
  have e2 : ybS Z T Z' T' D = 2 * (Z * Z') - 2 * (T * T' * D) := by unfold ybS; grind
  have e3 : xaS X Y X' Y' = 2 * (X * Y' + Y * X') := by unfold xaS; grind
  have e4 : yaS X Y X' Y' = 2 * (Y * Y' + X * X') := by unfold yaS; grind
  have s2' : PP ∣ r.2 * (1 - d0 * x * x' * y * y') - (y * y' + x * x') := dv2 s2 s2 (c1 := 1) (c2 := 0) (by grind)
  have s1' : PP ∣ r.1 * (1 + d0 * x * x' * y * y') - (x * y' + y * x') := dv2 s1 s1 (c1 := 1) (c2 := 0) (by grind)
  clear s1 s2
  rw [e1, e2, e3, e4]
  clear e1 e2 e3 e4
  generalize T * T' * D = TT at *
  generalize d0 * x * x' * y * y' = U at *
  generalize X * Y' + Y * X' = A at *
  generalize Y * Y' + X * X' = B at *
  generalize x * y' + y * x' = s at *
  generalize y * y' + x * x' = v at *
  generalize Z * Z' = V at *
  clear hz hz'
  refine ex_ratios (fun k => ?_) (fun k => ?_) ?_ ?_
  · have : PP ∣ 2 * V * (1 + U) := dv2 k kT (c1 := 1) (c2 := -2) (by grind)
    exact nz_mul pri_PP n2 c1 this
  · have : PP ∣ 2 * V * (1 - U) := dv2 k kT (c1 := 1) (c2 := 2) (by grind)
    exact nz_mul pri_PP n2 c2 this
  · exact dv3 j1 kT s1' (c1 := 2) (c2 := -2 * r.1) (c3 := -2 * V) (by grind)
  · exact dv3 j2 kT s2' (c1 := 2) (c2 := 2 * r.2) (c3 := -2 * V) (by grind)
def xaD (X Y : Int) : Int := (X + Y) * (X + Y) - (Y * Y + X * X)
def xbD (X Y : Int) : Int := Y * Y - X * X
def yaD (X Y : Int) : Int := Y * Y + X * X
def ybD (X Y Z : Int) : Int := (Z * Z + Z * Z) - (Y * Y - X * X)
theorem ex_double {X Y Z T : Int} {p : Int × Int} (hp : OnP PP (-1) d0 p) (ht : Ex X Y Z T p) :
    Ex (xaD X Y * ybD X Y Z) (yaD X Y * xbD X Y) (xbD X Y * ybD X Y Z) (xaD X Y * yaD X Y) (eadd (-1) d0 einv p p) := by
  have sm := eadd_sm crv1 hp hp
  have c1 := crv1.cpl.p hp hp
  have c2 := crv1.cpl.q hp hp
  have on : PP ∣ (-1) * p.1 ^ 2 + p.2 ^ 2 - 1 - d0 * p.1 ^ 2 * p.2 ^ 2 := hp
  generalize eadd (-1) d0 einv p p = r at *
  obtain ⟨x, y⟩ := p
  obtain ⟨hz, hx, hy, hT⟩ := ht
  simp only at hz hx hy hT c1 c2 on
  have s1 := sm.x
  have s2 := sm.y
  simp only at s1 s2
  clear sm hp hT
  have n1 : ¬ PP ∣ Z * Z := nz_mul pri_PP hz hz
  have k1 : PP ∣ X * X - Z * Z * (x * x) := dv2 hx hx (c1 := X + x * Z) (c2 := 0) (by grind)
  have k2 : PP ∣ Y * Y - Z * Z * (y * y) := dv2 hy hy (c1 := Y + y * Z) (c2 := 0) (by grind)
  have k3 : PP ∣ X * Y - Z * Z * (x * y) := dv2 hx hy (c1 := Y) (c2 := x * Z) (by grind)
  clear hx hy hz
  have o : PP ∣ y * y - x * x - 1 - d0 * x * x * y * y := dv2 on on (c1 := 1) (c2 := 0) (by grind)
  have s2' : PP ∣ r.2 * (1 - d0 * x * x * y * y) - (y * y + x * x) := dv2 s2 s2 (c1 := 1) (c2 := 0) (by grind)
  have s1' : PP ∣ r.1 * (1 + d0 * x * x * y * y) - 2 * (x * y) := dv2 s1 s1 (c1 := 1) (c2 := 0) (by grind)
  clear on s1 s2
  have e3 : xaD X Y = 2 * (X * Y) := by unfold xaD; grind
  unfold xbD yaD ybD
  rw [e3]
  clear e3
  generalize d0 * x * x * y * y = U at *
  generalize X * Y = A at *
  generalize x * y = a at *
  generalize X * X = B at *
  generalize Y * Y = C at *
  generalize Z * Z = V at *
  generalize x * x = b at *
  generalize y * y = c at *
  have m1 : PP ∣ C - B - V * (1 + U) := dv3 k1 k2 o (c1 := -1) (c2 := 1) (c3 := V) (by grind)
  have m2 : PP ∣ V + V - (C - B) - V * (1 - U) := dv2 m1 m1 (c1 := -1) (c2 := 0) (by grind)
  have m3 : PP ∣ C + B - V * (c + b) := dv2 k1 k2 (c1 := 1) (c2 := 1) (by grind)
  refine ex_ratios (fun k => ?_) (fun k => ?_) ?_ ?_
  · exact nz_mul pri_PP n1 c1 (dv2 k m1 (c1 := 1) (c2 := -1) (by grind))
  · exact nz_mul pri_PP n1 c2 (dv2 k m2 (c1 := 1) (c2 := -1) (by grind))
  · exact dv3 k3 m1 s1' (c1 := 2) (c2 := -r.1) (c3 := -V) (by grind)
  · exact dv3 m3 m2 s2' (c1 := 1) (c2 := -r.2) (c3 := -V) (by grind)
end Go.Proofs.YtkglcainhkbgbaaGreatDoor
namespace Go.Proofs.YtkglcainhkbgbaaGreatDoor
set_option maxRecDepth 100000
def dgt (v i : Nat) : Nat := v / 16 ^ (63 - i) % 16
def hdd (v i : Nat) : Nat := v / 16 ^ (64 - i)
theorem hdd_zero {v : Nat} (h : v < 2 ^ 256) : hdd v 0 = 0 := by
  unfold hdd
  refine Nat.div_eq_of_lt ?_
  rw [show (16 : Nat) ^ (64 - 0) = 2 ^ 256 by decide +kernel]
  exact h
theorem hdd_all (v : Nat) : hdd v 64 = v := by simp [hdd]
theorem hdd_next (v : Nat) {i : Nat} (h : i < 64) : hdd v (i + 1) = 16 * hdd v i + dgt v i := by
  unfold hdd dgt
  rw [show 64 - (i + 1) = 63 - i by omega, show 64 - i = (63 - i) + 1 by omega, Nat.pow_succ, ← Nat.div_div_eq_div_mul]
  omega
end Go.Proofs.YtkglcainhkbgbaaGreatDoor
namespace Go.Proofs.YtkglcainhkbgbaaGreatDoor
set_option maxRecDepth 100000
open Go Go.RowKit
def clN : List (Nat → Int) → List Value
  | [] => []
  | e :: es => cl5 e ++ clN es
def agN (es : List (Nat → Int)) : Value := .agg (clN es).toArray
def IsN : List (Nat → Int) → List Int → Prop
  | [], [] => True
  | e :: es, A :: As => Is5 e A ∧ IsN es As
  | _, _ => False
def EN (As : List Int) : Fact := ⟨fun v _ => ∃ es, v = agN es ∧ IsN es As, fun _ h => h⟩
def RowN (W : World) (q o : Nat) (As : List Int) : Prop := ∃ es, W.rangeAt q o (clN es) ∧ q < W.heap.size ∧ IsN es As
theorem clN_len : ∀ {es : List (Nat → Int)} {As : List Int}, IsN es As → (clN es).length = 5 * As.length
  | [], [], _ => rfl
  | e :: es, A :: As, h => by
    have := clN_len h.2
    simp only [clN, List.length_append, List.length_cons, this]
    simp [cl5]
    omega
  | [], _ :: _, h => h.elim
  | _ :: _, [], h => h.elim
theorem clN_one : ∀ (es : List (Nat → Int)), (clN es).toArray.all (·.oneCell') = true := by
  intro es
  refine all_oneCell_toArray fun v hv => ?_
  induction es with
  | nil => cases hv
  | cons e es ih =>
    rcases List.mem_append.1 hv with h | h
    · exact Array.all_eq_true_iff_forall_mem.1 (cl5_one e) v (by simpa using h)
    · exact ih h
theorem RowN.up {W W' : World} {q o : Nat} {As : List Int} (h : RowN W q o As) (n : Below W.heap.size W W') : RowN W' q o As := by
  obtain ⟨t, r, l, h⟩ := h
  exact ⟨t, fun j v hv => (World.cell?_of_block (a := ⟨q, o + j, none⟩) (n.block q l)).trans (r j v hv), Nat.lt_of_lt_of_le l n.size, h⟩
theorem RowN.but {W W' : World} {g o q : Nat} {As : List Int} (h : RowN W g o As) (k : ButQ q W W') (hne : g ≠ q) : RowN W' g o As := by
  obtain ⟨t, r, l, h⟩ := h
  exact ⟨t, fun j v hv => (World.cell?_of_block (a := ⟨g, o + j, none⟩) (k.1 g hne l)).trans (r j v hv), Nat.lt_of_lt_of_le l k.2, h⟩
theorem RowN.lt {W : World} {q o : Nat} {As : List Int} (h : RowN W q o As) : q < W.heap.size := by
  obtain ⟨_, _, l, _⟩ := h
  exact l
theorem RowN.at0 {W : World} {q o : Nat} {A : Int} {As : List Int} (h : RowN W q o (A :: As)) : Em5 W q o A := by
  obtain ⟨es, r, l, h⟩ := h
  cases es with
  | nil => exact h.elim
  | cons e es =>
    refine ⟨e, fun j v hv => r j v ?_, l, h.1⟩
    show (cl5 e ++ clN es)[j]? = some v
    rw [List.getElem?_append_left (List.getElem?_eq_some_iff.1 hv).1]
    exact hv
theorem RowN.tail {W : World} {q o : Nat} {A : Int} {As : List Int} (h : RowN W q o (A :: As)) : RowN W q (o + 5) As := by
  obtain ⟨es, r, l, h⟩ := h
  cases es with
  | nil => exact h.elim
  | cons e es =>
    refine ⟨es, fun j v hv => ?_, l, h.2⟩
    have q := r (5 + j) v (by
      show (cl5 e ++ clN es)[5 + j]? = some v
      rw [List.getElem?_append_right (by show 5 ≤ _; omega)]
      show (clN es)[5 + j - 5]? = some v
      rw [show 5 + j - 5 = j by omega]
      exact hv)
    rw [show o + 5 + j = o + (5 + j) by omega]
    exact q
theorem RowN.init {W : World} {q o : Nat} {A B C : Int} {As : List Int} (h : RowN W q o (A :: B :: C :: As)) : RowN W q o [A, B, C] := by
  obtain ⟨es, r, l, h⟩ := h
  match es, h with
  | e :: f :: g :: es, h =>
    refine ⟨[e, f, g], fun j v hv => r j v ?_, l, h.1, h.2.1, h.2.2.1, trivial⟩
    have hj : j < 15 := (List.getElem?_eq_some_iff.1 hv).1
    show (cl5 e ++ (cl5 f ++ (cl5 g ++ clN es)))[j]? = some v
    have e1 : cl5 e ++ (cl5 f ++ (cl5 g ++ clN es)) = clN [e, f, g] ++ clN es := by simp [clN]
    rw [e1, List.getElem?_append_left (by show j < 15; exact hj)]
    exact hv
  | [], h => exact h.elim
  | [_], h => exact h.2.elim
  | [_, _], h => exact h.2.2.elim
theorem rowN_new (W : World) (t : TypeId) {es : List (Nat → Int)} {As : List Int} (h : IsN es As) : RowN (W.alloc (.cells (clN es).toArray t)) W.heap.size 0 As := by
  have e : (W.alloc (.cells (clN es).toArray t)).heap[W.heap.size]? = some (.cells (clN es).toArray t) := heap_alloc_last _ _
  refine ⟨es, fun j v hv => ?_, by simp, h⟩
  unfold World.cell?
  simp only
  rw [e]
  simpa using hv
theorem set_rowN {W : World} {q : Nat} {es : List (Nat → Int)} {As : List Int} (th : W.there q 0 (5 * As.length)) (ha : 0 < As.length) (h : IsN es As) : RowN (W.setCells q 0 (clN es)) q 0 As :=
  ⟨es, World.rangeAt_setCells_same W q 0 _ (by rw [clN_len h]; exact th), by rw [heap_size_setCells]; exact there_lt (by omega) th, h⟩
theorem IsN.cg : ∀ {es : List (Nat → Int)} {As Bs : List Int}, IsN es As → As.map (· % PP) = Bs.map (· % PP) → IsN es Bs
  | [], [], [], _, _ => trivial
  | e :: es, A :: As, B :: Bs, h, k => by
    simp only [List.map_cons, List.cons.injEq] at k
    exact ⟨⟨h.1.1, h.1.2.trans k.1⟩, IsN.cg h.2 k.2⟩
  | [], [], _ :: _, _, k => by simp at k
  | _ :: _, _ :: _, [], _, k => by simp at k
  | [], _ :: _, _, h, _ => h.elim
  | _ :: _, [], _, h, _ => h.elim
theorem isN3 {es : List (Nat → Int)} {A B C : Int} (h : IsN es [A, B, C]) : ∃ x y z, es = [x, y, z] ∧ Is5 x A ∧ Is5 y B ∧ Is5 z C := by
  match es, h with
  | [x, y, z], h => exact ⟨x, y, z, rfl, h.1, h.2.1, h.2.2.1⟩
  | [], h => exact h.elim
  | [_], h => exact h.2.elim
  | [_, _], h => exact h.2.2.elim
  | _ :: _ :: _ :: _ :: _, h => exact h.2.2.2.elim
theorem isN2 {es : List (Nat → Int)} {A B : Int} (h : IsN es [A, B]) : ∃ x y, es = [x, y] ∧ Is5 x A ∧ Is5 y B := by
  match es, h with
  | [x, y], h => exact ⟨x, y, rfl, h.1, h.2.1⟩
  | [], h => exact h.elim
  | [_], h => exact h.2.elim
  | _ :: _ :: _ :: _, h => exact h.2.2.elim
theorem isN4 {es : List (Nat → Int)} {A B C D : Int} (h : IsN es [A, B, C, D]) : ∃ x y z t, es = [x, y, z, t] ∧ Is5 x A ∧ Is5 y B ∧ Is5 z C ∧ Is5 t D := by
  match es, h with
  | [x, y, z, t], h => exact ⟨x, y, z, t, rfl, h.1, h.2.1, h.2.2.1, h.2.2.2.1⟩
  | [], h => exact h.elim
  | [_], h => exact h.2.elim
  | [_, _], h => exact h.2.2.elim
  | [_, _, _], h => exact h.2.2.2.elim
  | _ :: _ :: _ :: _ :: _ :: _, h => exact h.2.2.2.2.elim
theorem buA (e f : Nat → Int) (w : World) : (Instr.build 82 #[(0, ag5 e), (1, ag5 f)]).run Tryz.prog w = .ok (agN [e, f]) w := by kernel_rfl
theorem buRN (e f : Nat → Int) (w : World) : (Instr.build 171 #[(0, ag5 e), (1, ag5 f)]).run Tryz.prog w = .ok (agN [e, f]) w := by kernel_rfl
theorem buPr (e f g : Nat → Int) (w : World) : (Instr.build 144 #[(0, ag5 e), (1, ag5 f), (2, ag5 g)]).run Tryz.prog w = .ok (agN [e, f, g]) w := by kernel_rfl
theorem buXt (e f g t : Nat → Int) (w : World) : (Instr.build 146 #[(0, agN [e, f, g]), (1, ag5 t)]).run Tryz.prog w = .ok (agN [e, f, g, t]) w := by kernel_rfl
theorem fxA (q : Nat) (w : World) : (Instr.fieldAt 82 (.pointer (some ⟨q, 0, none⟩)) 0).run Tryz.prog w = .ok (.pointer (some ⟨q, 0, none⟩)) w := by kernel_rfl
theorem fyA (q : Nat) (w : World) : (Instr.fieldAt 82 (.pointer (some ⟨q, 0, none⟩)) 1).run Tryz.prog w = .ok (.pointer (some ⟨q, 5, none⟩)) w := by kernel_rfl
theorem fxJ (q : Nat) (w : World) : (Instr.fieldAt 144 (.pointer (some ⟨q, 0, none⟩)) 0).run Tryz.prog w = .ok (.pointer (some ⟨q, 0, none⟩)) w := by kernel_rfl
theorem fyJ (q : Nat) (w : World) : (Instr.fieldAt 144 (.pointer (some ⟨q, 0, none⟩)) 1).run Tryz.prog w = .ok (.pointer (some ⟨q, 5, none⟩)) w := by kernel_rfl
theorem fzJ (q : Nat) (w : World) : (Instr.fieldAt 144 (.pointer (some ⟨q, 0, none⟩)) 2).run Tryz.prog w = .ok (.pointer (some ⟨q, 10, none⟩)) w := by kernel_rfl
theorem fpX (q : Nat) (w : World) : (Instr.fieldAt 146 (.pointer (some ⟨q, 0, none⟩)) 0).run Tryz.prog w = .ok (.pointer (some ⟨q, 0, none⟩)) w := by kernel_rfl
theorem ftX (q : Nat) (w : World) : (Instr.fieldAt 146 (.pointer (some ⟨q, 0, none⟩)) 1).run Tryz.prog w = .ok (.pointer (some ⟨q, 15, none⟩)) w := by kernel_rfl
theorem iA : (Tryz.prog.info? 82).map (·.size) = some 10 := by kernel_rfl
theorem iJ : (Tryz.prog.info? 144).map (·.size) = some 15 := by kernel_rfl
theorem iX : (Tryz.prog.info? 146).map (·.size) = some 20 := by kernel_rfl
theorem uA : ∃ fs, Tryz.prog.underlying 82 = some (.struct fs) := ⟨_, Tryz.underlying82⟩
theorem uJ : ∃ fs, Tryz.prog.underlying 144 = some (.struct fs) := ⟨_, Tryz.underlying144⟩
theorem uX : ∃ fs, Tryz.prog.underlying 146 = some (.struct fs) := ⟨_, Tryz.underlying146⟩
section
variable {ops : Array Oper} {Q : Exit → Act → World → Prop} {md : Region.Mode} {F : Nat → Fact} {a0 : Act} {w0 : World} {i : Nat} {o : Oper} {ts : Array TypeId}
theorem step_en (ty : TypeId) (d : TypeDesc) (n : Nat) (hu : Tryz.prog.underlying ty = some d) (hd : d.isRow = true) (hs : (Tryz.prog.info? ty).map (·.size) = some n) (hi : ops[i]? = some o) (p : Nat) (hop : o.op = .load ty (.tmp p)) (hp : apart ops p = true) (q off : Nat) (h0 : a0.tmps.getD p undef = .pointer (some ⟨q, off, none⟩)) (As : List Int) (hn : 5 * As.length = n) (hE : RowN w0 q off As) (hF : F i = EN As) : StepOk Tryz.prog md ops Q F a0 w0 i := by
  refine step_load hi _ _ hop d n hu hd hs fun a w hb hw _ => ?_
  obtain ⟨t, r, _, h⟩ := hE.up hw
  exact ⟨q, off, _, (based_at hb p hp).trans h0, r, (clN_len h).trans hn, by rw [hF]; exact ⟨t, rfl, h⟩⟩
theorem step_enf (ty : TypeId) (d : TypeDesc) (n : Nat) (hu : Tryz.prog.underlying ty = some d) (hd : d.isRow = true) (hs : (Tryz.prog.info? ty).map (·.size) = some n) (hi : ops[i]? = some o) (p j : Nat) (hop : o.op = .load ty (.tmp p)) (hj : waits md ops i j p = true) (q off : Nat) (hFj : F j = Fact.eq (.pointer (some ⟨q, off, none⟩))) (As : List Int) (hn : 5 * As.length = n) (hE : RowN w0 q off As) (hF : F i = EN As) : StepOk Tryz.prog md ops Q F a0 w0 i := by
  refine step_load hi _ _ hop d n hu hd hs fun a w _ hw hf => ?_
  obtain ⟨t, r, _, h⟩ := hE.up hw
  have e := hf j p hj
  rw [hFj] at e
  exact ⟨q, off, _, e, r, (clN_len h).trans hn, by rw [hF]; exact ⟨t, rfl, h⟩⟩
theorem step_bA (hi : ops[i]? = some o) (p q j k : Nat) (A B : Int) (hop : o.op = .build 82 #[(0, .tmp p), (1, .tmp q)])
    (hj : waits md ops i j p = true) (hk : waits md ops i k q = true) (hFj : F j = EM A) (hFk : F k = EM B) (hFi : F i = EN [A, B]) : StepOk Tryz.prog md ops Q F a0 w0 i := by
  refine step_pure hi fun a w _ _ hf => ?_
  have h1 := hf j p hj
  have h2 := hf k q hk
  rw [hFj] at h1
  rw [hFk] at h2
  obtain ⟨x, e1, X⟩ := h1
  obtain ⟨y, e2, Y⟩ := h2
  refine ⟨agN [x, y], ?_, by rw [hFi]; exact ⟨[x, y], rfl, X, Y, trivial⟩⟩
  have g1 : a.eval (.tmp p) = ag5 x := e1
  have g2 : a.eval (.tmp q) = ag5 y := e2
  have g : (#[(0, Operand.tmp p), (1, Operand.tmp q)].map fun (n, x) => (n, a.eval x)) = #[(0, ag5 x), (1, ag5 y)] := by simp [g1, g2]
  simp only [execOp, hop, g]
  rw [Sem.run_bind, buA]
  rfl
theorem step_bR (hi : ops[i]? = some o) (p q j k : Nat) (A B : Int) (hop : o.op = .build 171 #[(0, .tmp p), (1, .tmp q)])
    (hj : waits md ops i j p = true) (hk : waits md ops i k q = true) (hFj : F j = EM A) (hFk : F k = EM B) (hFi : F i = EN [A, B]) : StepOk Tryz.prog md ops Q F a0 w0 i := by
  refine step_pure hi fun a w _ _ hf => ?_
  have h1 := hf j p hj
  have h2 := hf k q hk
  rw [hFj] at h1
  rw [hFk] at h2
  obtain ⟨x, e1, X⟩ := h1
  obtain ⟨y, e2, Y⟩ := h2
  refine ⟨agN [x, y], ?_, by rw [hFi]; exact ⟨[x, y], rfl, X, Y, trivial⟩⟩
  have g1 : a.eval (.tmp p) = ag5 x := e1
  have g2 : a.eval (.tmp q) = ag5 y := e2
  have g : (#[(0, Operand.tmp p), (1, Operand.tmp q)].map fun (n, x) => (n, a.eval x)) = #[(0, ag5 x), (1, ag5 y)] := by simp [g1, g2]
  simp only [execOp, hop, g]
  rw [Sem.run_bind, buRN]
  rfl
theorem step_bP (hi : ops[i]? = some o) (p q r j k l : Nat) (A B C : Int) (hop : o.op = .build 144 #[(0, .tmp p), (1, .tmp q), (2, .tmp r)])
    (hj : waits md ops i j p = true) (hk : waits md ops i k q = true) (hl : waits md ops i l r = true) (hFj : F j = EM A) (hFk : F k = EM B) (hFl : F l = EM C) (hFi : F i = EN [A, B, C]) : StepOk Tryz.prog md ops Q F a0 w0 i := by
  refine step_pure hi fun a w _ _ hf => ?_
  have h1 := hf j p hj
  have h2 := hf k q hk
  have h3 := hf l r hl
  rw [hFj] at h1
  rw [hFk] at h2
  rw [hFl] at h3
  obtain ⟨x, e1, X⟩ := h1
  obtain ⟨y, e2, Y⟩ := h2
  obtain ⟨z, e3, Z⟩ := h3
  refine ⟨agN [x, y, z], ?_, by rw [hFi]; exact ⟨[x, y, z], rfl, X, Y, Z, trivial⟩⟩
  have g1 : a.eval (.tmp p) = ag5 x := e1
  have g2 : a.eval (.tmp q) = ag5 y := e2
  have g3 : a.eval (.tmp r) = ag5 z := e3
  have g : (#[(0, Operand.tmp p), (1, Operand.tmp q), (2, Operand.tmp r)].map fun (n, x) => (n, a.eval x)) = #[(0, ag5 x), (1, ag5 y), (2, ag5 z)] := by simp [g1, g2, g3]
  simp only [execOp, hop, g]
  rw [Sem.run_bind, buPr]
  rfl
theorem step_bX (hi : ops[i]? = some o) (p q j k : Nat) (A B C T : Int) (hop : o.op = .build 146 #[(0, .tmp p), (1, .tmp q)])
    (hj : waits md ops i j p = true) (hk : waits md ops i k q = true) (hFj : F j = EN [A, B, C]) (hFk : F k = EM T) (hFi : F i = EN [A, B, C, T]) : StepOk Tryz.prog md ops Q F a0 w0 i := by
  refine step_pure hi fun a w _ _ hf => ?_
  have h1 := hf j p hj
  have h2 := hf k q hk
  rw [hFj] at h1
  rw [hFk] at h2
  obtain ⟨xs, e1, X⟩ := h1
  obtain ⟨t, e2, Y⟩ := h2
  obtain ⟨x, y, z, rfl, hx, hy, hz⟩ := isN3 X
  refine ⟨agN [x, y, z, t], ?_, by rw [hFi]; exact ⟨[x, y, z, t], rfl, hx, hy, hz, Y, trivial⟩⟩
  have g1 : a.eval (.tmp p) = agN [x, y, z] := e1
  have g2 : a.eval (.tmp q) = ag5 t := e2
  have g : (#[(0, Operand.tmp p), (1, Operand.tmp q)].map fun (n, x) => (n, a.eval x)) = #[(0, agN [x, y, z]), (1, ag5 t)] := by simp [g1, g2]
  simp only [execOp, hop, g]
  rw [Sem.run_bind, buXt]
  rfl
theorem step_oneN (hi : ops[i]? = some o) (n : FuncId) (p : Nat) (hop : o.op = .call { callee := .value (.func n), args := #[.tmp p], argTypes := ts }) (he : enters Tryz.prog n = true)
    (j : Nat) (As Bs : List Int) (law : ∀ (w : World) (es : List (Nat → Int)), Below w0.heap.size w0 w → IsN es As → Calls Tryz.prog n #[agN es] w fun r w' => ∃ t, r = .returned (agN t) ∧ IsN t Bs ∧ Below w.heap.size w w')
    (hj : waits md ops i j p = true) (hFj : F j = EN As) (hFi : F i = EN Bs) : StepOk Tryz.prog md ops Q F a0 w0 i := by
  refine step_call hi n _ ts hop he fun a w _ hw hF => ?_
  have ea := hF j p hj
  rw [hFj] at ea
  obtain ⟨t, e1, L1⟩ := ea
  show Calls Tryz.prog n #[a.tmps.getD p undef] w _
  rw [e1]
  refine (law w t hw L1).mono ?_
  rintro r w' ⟨s, rfl, L, hn⟩
  rw [hFi]
  exact ⟨_, rfl, hn, s, rfl, L⟩
theorem step_twoN (hi : ops[i]? = some o) (n : FuncId) (p q : Nat) (hop : o.op = .call { callee := .value (.func n), args := #[.tmp p, .tmp q], argTypes := ts }) (he : enters Tryz.prog n = true)
    (j k : Nat) (As Bs Cs : List Int) (law : ∀ (w : World) (es fs : List (Nat → Int)), Below w0.heap.size w0 w → IsN es As → IsN fs Bs → Calls Tryz.prog n #[agN es, agN fs] w fun r w' => ∃ t, r = .returned (agN t) ∧ IsN t Cs ∧ Below w.heap.size w w')
    (hj : waits md ops i j p = true) (hk : waits md ops i k q = true) (hFj : F j = EN As) (hFk : F k = EN Bs) (hFi : F i = EN Cs) : StepOk Tryz.prog md ops Q F a0 w0 i := by
  refine step_call hi n _ ts hop he fun a w _ hw hF => ?_
  have ea := hF j p hj
  have eb := hF k q hk
  rw [hFj] at ea
  rw [hFk] at eb
  obtain ⟨t, e1, L1⟩ := ea
  obtain ⟨u, e2, L2⟩ := eb
  show Calls Tryz.prog n #[a.tmps.getD p undef, a.tmps.getD q undef] w _
  rw [e1, e2]
  refine (law w t u hw L1 L2).mono ?_
  rintro r w' ⟨s, rfl, L, hn⟩
  rw [hFi]
  exact ⟨_, rfl, hn, s, rfl, L⟩
end
section
variable {ops : Array Oper} {Q : Exit → Act → World → Prop} {a0 : Act} {w : World} {id : Nat} {draw : Bool}
theorem region_putN (ty : TypeId) (k jV pD pV : Nat) (o : Oper) (F : Nat → Fact) (As : List Int) (q : Nat) (hT : textOk .any ops a0.tmps.size k = true) (hk : ops[k]? = some o) (hd : o.dst = none) (hop : o.op = .store ty (.tmp pD) (.tmp pV)) (hs : (Tryz.prog.info? ty).map (·.size) = some (5 * As.length)) (ha : 0 < As.length)
    (hp : apart ops pD = true) (h0 : a0.tmps.getD pD undef = .pointer (some ⟨q, 0, none⟩)) (ht : w.there q 0 (5 * As.length)) (wV : writes ops jV pV = true) (FV : F jV = EN As) (steps : ∀ i, i < k → StepOk Tryz.prog .any ops Q F a0 w i)
    (fin : ∀ (vs : Nat → Value) (W W' : World), Below w.heap.size w W → ButQ q w W' → RowN W' q 0 As → (∀ (w1 : World) (B : Nat), Below B w1 W → B ≤ q → Below B w1 W') → W'.there q 0 (5 * As.length) → Q .normal (puts vs a0 ops.toList) W') :
    (Code.region id ops draw).wp Tryz.prog Q a0 w := by
  refine region_store k o F (by kernel_rfl) hT hk hd steps fun a W hb hw hF => ?_
  have h2 := hF jV pV wV
  rw [FV] at h2
  obtain ⟨es, ev, V⟩ := h2
  have th := there_up (by omega) ht hw
  refine wp_store_mid ty (.tmp pD) (.tmp pV) hop q 0 (clN es).toArray ((based_at hb pD hp).trans h0) ev (by show W.there q 0 (clN es).length; rw [clN_len V]; exact th) (by show _ = some (clN es).length; rw [clN_len V]; exact hs) (clN_one es) ?_
  obtain ⟨vs, hvs⟩ : ∃ vs : Nat → Value, ∀ d, a.tmps.getD d undef = vs d := ⟨_, fun _ => rfl⟩
  rw [hd]
  show Q .normal a _
  rw [puts_of hT rfl hb vs hvs]
  exact fin vs W _ hw (but_set hw _) (set_rowN th ha V) (fun w1 B n hB => below_setCells hB _ _ _ n) (World.there_setCells th _ _ _)
end
end Go.Proofs.YtkglcainhkbgbaaGreatDoor
namespace Go.Proofs.YtkglcainhkbgbaaGreatDoor
set_option maxRecDepth 100000
open Go Go.RowKit
def mlP (n : Nat) (p : Int × Int) : Int × Int := emul (-1) d0 einv n p
def Ext (es : List (Nat → Int)) (q : Int × Int) : Prop := ∃ X Y Z T, IsN es [X, Y, Z, T] ∧ Ex X Y Z T q
theorem IsN.len : ∀ {es : List (Nat → Int)} {As : List Int}, IsN es As → es.length = As.length
  | [], [], _ => rfl
  | _ :: _, _ :: _, h => by simp [IsN.len h.2]
  | [], _ :: _, h => h.elim
  | _ :: _, [], h => h.elim
theorem Ext.len {es : List (Nat → Int)} {q : Int × Int} (h : Ext es q) : es.length = 4 := by
  obtain ⟨X, Y, Z, T, h, _⟩ := h
  exact h.len
theorem Ext.cg {es : List (Nat → Int)} {q q' : Int × Int} (h : Ext es q) (e : Pe PP q q') : Ext es q' := by
  obtain ⟨X, Y, Z, T, h, k⟩ := h
  exact ⟨X, Y, Z, T, h, k.cg e⟩
theorem mlP_on {p : Int × Int} (hp : OnP PP (-1) d0 p) (n : Nat) : OnP PP (-1) d0 (mlP n p) := emul_on crv1 hp n
theorem mlP_add {p : Int × Int} (hp : OnP PP (-1) d0 p) (m n : Nat) : Pe PP (eadd (-1) d0 einv (mlP m p) (mlP n p)) (mlP (m + n) p) := (emul_add crv1 hp m n).symm
theorem mlP_one {p : Int × Int} (hp : OnP PP (-1) d0 p) : Pe PP (mlP 1 p) p := by
  have z : OnP PP (-1) d0 (0, 1) := emul_on crv1 hp 0
  show Pe PP (eadd (-1) d0 einv (0, 1) p) p
  exact (eadd_comm crv1 z hp).trans (eadd_zero crv1 hp)
theorem clN_app : ∀ (a b : List (Nat → Int)), clN (a ++ b) = clN a ++ clN b
  | [], _ => rfl
  | e :: a, b => by
    show cl5 e ++ clN (a ++ b) = (cl5 e ++ clN a) ++ clN b
    rw [clN_app a b, List.append_assoc]
theorem clN_size : ∀ (a : List (Nat → Int)), (clN a).length = 5 * a.length
  | [] => rfl
  | e :: a => by
    show (cl5 e ++ clN a).length = _
    rw [List.length_append, clN_size a]
    simp [cl5]
    omega
def prt (es : List (Nat → Int)) (i : Nat) : List (Nat → Int) := (es.drop (4 * i)).take 4
def putP (es fs : List (Nat → Int)) (i : Nat) : List (Nat → Int) := es.take (4 * i) ++ (fs ++ es.drop (4 * i + 4))
theorem prt_split {es : List (Nat → Int)} {i : Nat} : es = es.take (4 * i) ++ (prt es i ++ es.drop (4 * i + 4)) := by
  unfold prt
  rw [← List.drop_drop, List.take_append_drop, List.take_append_drop]
theorem prt_len {es : List (Nat → Int)} (h : es.length = 64) {i : Nat} (hi : i < 16) : (prt es i).length = 4 := by
  unfold prt
  rw [List.length_take, List.length_drop]
  omega
theorem putP_len {es fs : List (Nat → Int)} (h : es.length = 64) (hf : fs.length = 4) {i : Nat} (hi : i < 16) : (putP es fs i).length = 64 := by
  unfold putP
  rw [List.length_append, List.length_append, List.length_take, List.length_drop]
  omega
theorem prt_put {es fs : List (Nat → Int)} (h : es.length = 64) (hf : fs.length = 4) {i : Nat} (hi : i < 16) : prt (putP es fs i) i = fs := by
  unfold prt putP
  have e : (es.take (4 * i)).length = 4 * i := by rw [List.length_take]; omega
  rw [List.drop_append_of_le_length (by omega), List.drop_eq_nil_of_le (by omega), List.nil_append, List.take_append_of_le_length (by omega), List.take_of_length_le (by omega)]
theorem prt_put_ne {es fs : List (Nat → Int)} (h : es.length = 64) {i j : Nat} (hi : i < 16) (hj : j < i) : prt (putP es fs i) j = prt es j := by
  unfold prt putP
  have e : (es.take (4 * i)).length = 4 * i := by rw [List.length_take]; omega
  rw [List.drop_append_of_le_length (by omega), List.take_append_of_le_length (by rw [List.length_drop]; omega), List.drop_take, List.take_take, Nat.min_eq_left (by omega)]
def MulL (es : List (Nat → Int)) (k : Nat) (p : Int × Int) : Prop := es.length = 64 ∧ ∀ i, i < k → Ext (prt es i) (mlP i p)
theorem MulL.put {es fs : List (Nat → Int)} {k : Nat} {p : Int × Int} (h : MulL es k p) (hk : k < 16) (hf : Ext fs (mlP k p)) : MulL (putP es fs k) (k + 1) p := by
  refine ⟨putP_len h.1 hf.len hk, fun i hi => ?_⟩
  by_cases e : i = k
  · subst e
    rw [prt_put h.1 hf.len hk]
    exact hf
  · rw [prt_put_ne h.1 hk (by omega)]
    exact h.2 i (by omega)
theorem range_of_app {W : World} {q o : Nat} {a b : List Value} (h : W.rangeAt q o (a ++ b)) : W.rangeAt q o a ∧ W.rangeAt q (o + a.length) b := by
  refine ⟨fun j v hv => h j v ?_, fun j v hv => ?_⟩
  · rw [List.getElem?_append_left (List.getElem?_eq_some_iff.1 hv).1]
    exact hv
  · have := h (a.length + j) v (by rw [List.getElem?_append_right (by omega), Nat.add_sub_cancel_left]; exact hv)
    rwa [← Nat.add_assoc] at this
theorem range_app {W : World} {q o : Nat} {a b : List Value} (h : W.rangeAt q o a) (k : W.rangeAt q (o + a.length) b) : W.rangeAt q o (a ++ b) := by
  intro j v hv
  by_cases c : j < a.length
  · rw [List.getElem?_append_left c] at hv
    exact h j v hv
  · rw [List.getElem?_append_right (by omega)] at hv
    have := k _ v hv
    rwa [show o + a.length + (j - a.length) = o + j by omega] at this
theorem row_part {W : World} {q : Nat} {es : List (Nat → Int)} (h : W.rangeAt q 0 (clN es)) (hl : es.length = 64) {i : Nat} (hi : i < 16) : W.rangeAt q (20 * i) (clN (prt es i)) := by
  have e := prt_split (es := es) (i := i)
  rw [e, clN_app, clN_app] at h
  have h1 := (range_of_app h).2
  have h2 := (range_of_app h1).1
  rw [clN_size, List.length_take, Nat.min_eq_left (by omega)] at h2
  rwa [show 0 + 5 * (4 * i) = 20 * i by omega] at h2
theorem row_put {W : World} {q : Nat} {es fs : List (Nat → Int)} (th : W.there q 0 320) (h : W.rangeAt q 0 (clN es)) (hl : es.length = 64) (hf : fs.length = 4) {i : Nat} (hi : i < 16) : (W.setCells q (20 * i) (clN fs)).rangeAt q 0 (clN (putP es fs i)) := by
  have e := prt_split (es := es) (i := i)
  rw [e, clN_app, clN_app] at h
  have h1 := (range_of_app h).2
  have h0 := (range_of_app h).1
  have h2 := (range_of_app h1).2
  have lt : (clN (es.take (4 * i))).length = 20 * i := by rw [clN_size, List.length_take, Nat.min_eq_left (by omega)]; omega
  have lp : (clN (prt es i)).length = 20 := by rw [clN_size, prt_len hl hi]
  have lf : (clN fs).length = 20 := by rw [clN_size, hf]
  unfold putP
  rw [clN_app, clN_app]
  refine range_app ?_ (range_app ?_ ?_)
  · exact World.rangeAt_setCells_apart h0 q (20 * i) (clN fs) (.inr (.inl (by omega)))
  · rw [lt, Nat.zero_add]
    refine World.rangeAt_setCells_same W q (20 * i) _ fun j hj => ?_
    have := th (20 * i + j) (by omega)
    rwa [Nat.zero_add] at this
  · rw [lt] at h2 ⊢
    rw [lp] at h2
    rw [lf]
    exact World.rangeAt_setCells_apart h2 q (20 * i) (clN fs) (.inr (.inr (by omega)))
def zl5 : Nat → Int := fun _ => 0
theorem dgt_words {W : Nat → Int} (hW : W4 W) {v : Nat} (hv : wval W = (v : Int)) {pl : Nat} (h : pl < 64) : W (pl / 16) / 2 ^ (4 * (pl % 16)) % 16 = ((v / 16 ^ pl % 16 : Nat) : Int) := by
  have key : ∃ (m t : Nat), W (pl / 16) = (m : Int) ∧ v / 2 ^ (64 * (pl / 16)) = m + 2 ^ 64 * t := by
    obtain ⟨n0, h0⟩ := Int.eq_ofNat_of_zero_le (hW 0 (by omega)).1
    obtain ⟨n1, h1⟩ := Int.eq_ofNat_of_zero_le (hW 1 (by omega)).1
    obtain ⟨n2, h2⟩ := Int.eq_ofNat_of_zero_le (hW 2 (by omega)).1
    obtain ⟨n3, h3⟩ := Int.eq_ofNat_of_zero_le (hW 3 (by omega)).1
    have b0 := (hW 0 (by omega)).2
    have b1 := (hW 1 (by omega)).2
    have b2 := (hW 2 (by omega)).2
    have b3 := (hW 3 (by omega)).2
    unfold wval at hv
    rw [h0, h1, h2, h3] at hv
    rw [h0] at b0
    rw [h1] at b1
    rw [h2] at b2
    rw [h3] at b3
    obtain e | e | e | e : pl / 16 = 0 ∨ pl / 16 = 1 ∨ pl / 16 = 2 ∨ pl / 16 = 3 := by omega
    · exact ⟨n0, n1 + n2 * 18446744073709551616 + n3 * 340282366920938463463374607431768211456, by rw [e]; exact h0, by rw [e]; simp only [Nat.mul_zero, Nat.pow_zero, Nat.div_one, Nat.reducePow]; omega⟩
    · exact ⟨n1, n2 + n3 * 18446744073709551616, by rw [e]; exact h1, by rw [e]; simp only [Nat.mul_one, Nat.reducePow]; omega⟩
    · exact ⟨n2, n3, by rw [e]; exact h2, by rw [e]; simp only [Nat.reduceMul, Nat.reducePow]; omega⟩
    · exact ⟨n3, 0, by rw [e]; exact h3, by rw [e]; simp only [Nat.reduceMul, Nat.reducePow]; omega⟩
  obtain ⟨m, t, e1, e2⟩ := key
  have e3 : (16 : Nat) ^ pl = 2 ^ (64 * (pl / 16)) * 2 ^ (4 * (pl % 16)) := by
    rw [show (16 : Nat) = 2 ^ 4 from rfl, ← Nat.pow_mul, ← Nat.pow_add]
    congr 1
    omega
  rw [e1, e3, ← Nat.div_div_eq_div_mul, e2]
  have r16 : pl % 16 < 16 := by omega
  generalize pl % 16 = r at *
  have e4 : (2 : Nat) ^ 64 * t = 2 ^ (4 * r) * (16 * (2 ^ (60 - 4 * r) * t)) := by
    have e5 : (2 : Nat) ^ 64 = 2 ^ (4 * r) * (16 * 2 ^ (60 - 4 * r)) := by
      rw [show (16 : Nat) = 2 ^ 4 from rfl, ← Nat.pow_add, ← Nat.pow_add]
      congr 1
      omega
    rw [e5]
    simp only [Nat.mul_assoc]
  rw [e4, Nat.add_mul_div_left _ _ (Nat.two_pow_pos _), Nat.add_mul_mod_self_left]
  rw [Int.natCast_emod, Int.natCast_ediv, Int.natCast_pow]
  rfl
theorem mrg_ok (b : Bool) (x y : Int) (hx : 0 ≤ x ∧ x < 18446744073709551616) (hy : 0 ≤ y ∧ y < 18446744073709551616) (h0 : b = true → x = 0) :
    bits BinOp.or IntKind.u64 x (bits BinOp.and IntKind.u64 y (mask b)) = if b = true then y else x := by
  obtain ⟨m, rfl⟩ := Int.eq_ofNat_of_zero_le hx.1
  obtain ⟨n, rfl⟩ := Int.eq_ofNat_of_zero_le hy.1
  have hm : m < 18446744073709551616 := by omega
  have hn : n < 18446744073709551616 := by omega
  cases b
  · have e : bits BinOp.and IntKind.u64 (n : Int) (mask false) = ((0 : Nat) : Int) := by
      unfold mask
      rw [if_neg (by simp), show (0 : Int) = ((0 : Nat) : Int) from rfl, bits_and_u64_nat _ 0 hn (by omega), Nat.and_zero]
    rw [e, bits_or_u64_nat m 0 hm (by omega), Nat.or_zero]
    simp
  · have e : bits BinOp.and IntKind.u64 (n : Int) (mask true) = ((n : Nat) : Int) := by
      unfold mask
      rw [if_pos rfl, show (18446744073709551615 : Int) = ((18446744073709551615 : Nat) : Int) from rfl, bits_and_u64_nat _ _ hn (by omega)]
      congr 1
      rw [show (18446744073709551615 : Nat) = 2 ^ 64 - 1 from rfl, Nat.and_two_pow_sub_one_eq_mod, Nat.mod_eq_of_lt hn]
    have z : m = 0 := by have := h0 rfl; omega
    subst z
    rw [e, bits_or_u64_nat 0 n (by omega) hn, Nat.zero_or]
    simp
theorem xor_zero {i d : Nat} (h : i ^^^ d = 0) : i = d := by
  have : i ^^^ d ^^^ d = 0 ^^^ d := by rw [h]
  rwa [Nat.xor_assoc, Nat.xor_self, Nat.xor_zero, Nat.zero_xor] at this
theorem msk_ok (i d : Nat) (hi : i < 16) (hd : d < 16) : ∃ x : Nat, bits BinOp.xor IntKind.u64 (i : Int) (d : Int) = (x : Int) ∧ x < 16 ∧ (x = 0 ↔ i = d) := by
  refine ⟨i ^^^ d, bits_xor_u64_nat i d (by omega) (by omega), Nat.xor_lt_two_pow (n := 4) hi hd, ⟨xor_zero, fun h => ?_⟩⟩
  subst h
  exact Nat.xor_self i
end Go.Proofs.YtkglcainhkbgbaaGreatDoor
namespace Go.Proofs.YtkglcainhkbgbaaGreatDoor
set_option maxRecDepth 100000
open Go Go.RowKit
structure Mg (w wr : World) (q o : Nat) (y : Nat → Int) : Prop where
  at5 : ∀ j, j < 5 → wr.cell? ⟨q, o + j, none⟩ = some (.int .u64 (y j))
  off : ∀ j, j < o ∨ o + 5 ≤ j → wr.cell? ⟨q, j, none⟩ = w.cell? ⟨q, j, none⟩
  fr : ∀ j, wr.frozen? ⟨q, j, none⟩ = w.frozen? ⟨q, j, none⟩
  only : Only q w wr
theorem Mg.refl {w : World} {q o : Nat} {y : Nat → Int} (h : ∀ j, j < 5 → w.cell? ⟨q, o + j, none⟩ = some (.int .u64 (y j))) : Mg w w q o y := ⟨h, fun _ _ => rfl, fun _ => rfl, Only.refl _ _⟩
theorem Mg.store {w wr : World} {q o : Nat} {y : Nat → Int} (h : Mg w wr q o y) (k : Nat) (hk : k < 5) (z : Int) (n : Nat) : Mg w ((wr.drewN n).setCell ⟨q, o + k, none⟩ (.int .u64 z)) q o (fun j => if j = k then z else y j) := by
  have h' : ∀ a, (wr.drewN n).cell? a = wr.cell? a := fun _ => rfl
  refine ⟨fun j hj => ?_, fun j hj => ?_, fun j => ?_, h.only.trans ((Only.drewN wr q n).trans (Only.setCell _ _ _ _))⟩
  · by_cases e : j = k
    · subst e
      rw [World.cell?_setCell_same _ _ _ ((h' _).trans (h.at5 j hj)), if_pos rfl]
    · have hne : (⟨q, o + k, none⟩ : Addr) ≠ ⟨q, o + j, none⟩ := fun h => e (by simp only [Addr.mk.injEq, true_and, and_true] at h; omega)
      rw [World.cell?_setCell_other (h := hne), h', if_neg e]
      exact h.at5 j hj
  · have hne : (⟨q, o + k, none⟩ : Addr) ≠ ⟨q, j, none⟩ := fun h => (by simp only [Addr.mk.injEq, true_and, and_true] at h; omega)
    rw [World.cell?_setCell_other (h := hne), h']
    exact h.off j hj
  · rw [World.frozen?_setCell]
    exact h.fr j
theorem Mg.cg {w wr : World} {q o : Nat} {y z : Nat → Int} (h : Mg w wr q o y) (e : ∀ j, j < 5 → y j = z j) : Mg w wr q o z := ⟨fun j hj => by rw [← e j hj]; exact h.at5 j hj, h.off, h.fr, h.only⟩
def mgd (b : Bool) (x e : Nat → Int) (j : Nat) : Int := if b = true then e j else x j
def mgk (b : Bool) (k : Nat) (x e : Nat → Int) (j : Nat) : Int := if j < k then mgd b x e j else x j
set_option maxHeartbeats 4000000 in
theorem merge_any (w : World) (q o : Nat) (b : Bool) (x e : Nat → Int) (hx : ∀ j, j < 5 → w.cell? ⟨q, o + j, none⟩ = some (.int .u64 (x j))) (hf : ∀ j, w.frozen? ⟨q, j, none⟩ = false) (bx : ∀ j, j < 5 → 0 ≤ x j ∧ x j < 18446744073709551616) (be : ∀ j, j < 5 → 0 ≤ e j ∧ e j < 18446744073709551616) (h0 : b = true → ∀ j, j < 5 → x j = 0) :
    Calls Tryz.prog 106 #[.pointer (some ⟨q, o, none⟩), ag5 e, .int .u64 (mask b)] w fun r w' => r = .returned (.tuple #[]) ∧ ∃ w1, Below w.heap.size w w1 ∧ Mg w1 w' q o (mgd b x e) := by
  have lq : q < w.heap.size := block_lt_of_cell (hx 0 (by omega))
  have n0 : Below w.heap.size w (w.alloc (.cells (cl5 e).toArray 80)) := (Below.refl _ _).alloc (Nat.le_refl _) _
  have M0 : Mg (w.alloc (.cells (cl5 e).toArray 80)) (w.alloc (.cells (cl5 e).toArray 80)) q o x := Mg.refl fun j hj => (World.cell?_of_block (a := ⟨q, o + j, none⟩) (n0.block q lq)).trans (hx j hj)
  have F0 : ∀ j, (w.alloc (.cells (cl5 e).toArray 80)).frozen? ⟨q, j, none⟩ = false := fun j => (World.frozen?_of_block (a := ⟨q, j, none⟩) (n0.block q lq)).trans (hf j)
  have E0 : ∀ j, j < 5 → (w.alloc (.cells (cl5 e).toArray 80)).cell? ⟨w.heap.size, j, none⟩ = some (.int .u64 (e j)) := by
    have e1 : (w.alloc (.cells (cl5 e).toArray 80)).heap[w.heap.size]? = some (.cells (cl5 e).toArray 80) := heap_alloc_last _ _
    intro j hj
    unfold World.cell?
    simp only
    rw [e1]
    obtain rfl | rfl | rfl | rfl | rfl : j = 0 ∨ j = 1 ∨ j = 2 ∨ j = 3 ∨ j = 4 := by omega
    all_goals rfl
  show Calls Tryz.prog 106 #[.pointer (some ⟨q, o, none⟩), .agg (cl5 e).toArray, .int .u64 (mask b)] w _
  generalize hw1 : w.alloc (.cells (cl5 e).toArray 80) = w1 at *
  have hw1' := hide hw1
  obtain ⟨V, hV⟩ : ∃ V, V = (cl5 e).toArray := ⟨_, rfl⟩
  rw [← hV] at hw1 ⊢
  clear hV
  go_enter Tryz.func106, Tryz.ntmps106
  go_upto_region 1 with fail
  clear hw1 hx hf
  go_wp2
  go_loopw [7] (fun i wr => ∃ k : Nat, k ≤ 5 ∧ i = .int .i64 k ∧ Mg w1 wr q o (mgk b k x e)) (fun i _ => 5 - (intOf i).toNat)
  case atStart => exact ⟨0, by omega, rfl, M0.cg fun j _ => by simp [mgk]⟩
  case round =>
    obtain ⟨k, hk, rfl, M⟩ := hrel
    by_cases hlt : k < 5
    · have k5 : (k : Int) < 5 := by omega
      have c1 := M.at5 k hlt
      unfold mgk at c1
      rw [if_neg (by omega)] at c1
      have f1 := (M.fr (o + k)).trans (F0 (o + k))
      have c2 := (World.cell?_of_block (a := ⟨w.heap.size, k, none⟩) (M.only.block w.heap.size (by omega))).trans (E0 k hlt)
      have X := mrg_ok b (x k) (e k) (bx k hlt) (be k hlt) (fun h => h0 h k hlt)
      obtain ⟨z, hz⟩ : ∃ z, z = if b = true then e k else x k := ⟨_, rfl⟩
      rw [← hz] at X
      have PK : Hid (∀ n, Mg w1 ((wr.drewN n).setCell ⟨q, o + k, none⟩ (.int .u64 z)) q o (mgk b (k + 1) x e)) := by
        intro n
        refine (M.store k hlt z n).cg fun j hj => ?_
        unfold mgk mgd
        by_cases c : j = k
        · subst c
          have c3 : j < j + 1 := by omega
          rw [if_pos rfl, if_pos c3]
          exact hz
        · rw [if_neg c]
          by_cases c2 : j < k
          · have c3 : j < k + 1 := by omega
            rw [if_pos c2, if_pos c3]
          · have c3 : ¬ j < k + 1 := by omega
            rw [if_neg c2, if_neg c3]
      clear M hz bx be h0 F0 E0 M0
      generalize x k = xk at *
      generalize e k = ek at *
      generalize mask b = m at *
      go_wp2
      go_region
      go_wp2
      exact ⟨⟨k + 1, by omega, by go_num, PK.out _⟩, by simp [intOf]; omega⟩
    · obtain rfl : k = 5 := by omega
      go_wp2
      go_end0
      refine ⟨rfl, w1, n0, M.cg fun j hj => ?_⟩
      unfold mgk
      rw [if_pos hj]
theorem and15_64 (x : Int) (h0 : 0 ≤ x) (h1 : x < 18446744073709551616) : bits BinOp.and IntKind.u64 x 15 = x % 16 := bits_mask .u64 64 (by decide) wraps_u64 4 (by decide) x h0 h1
set_option maxHeartbeats 4000000 in
theorem digit_any (w : World) (W : Nat → Int) (hW : W4 W) (n : Nat) (hn : n < 64) :
    Calls Tryz.prog 83 #[ag4 W, .int .i64 n] w fun r w' => r = .returned (.int .u64 (W (n / 16) / 2 ^ (4 * (n % 16)) % 16)) ∧ Below w.heap.size w w' := by
  have B0 := blk_box4 w .u64 41 (W 0) (W 1) (W 2) (W 3)
  have n0 : Below w.heap.size w (w.alloc (.cells #[.int .u64 (W 0), .int .u64 (W 1), .int .u64 (W 2), .int .u64 (W 3)] 41)) := (Below.refl _ _).alloc (Nat.le_refl _) _
  obtain ⟨j, hj⟩ : ∃ j : Nat, n / 16 = j := ⟨_, rfl⟩
  obtain ⟨m, hm⟩ : ∃ m : Nat, n % 16 = m := ⟨_, rfl⟩
  have j4 : j < 4 := by omega
  have m16 : m < 16 := by omega
  have p1 : (n : Int) / 16 = (j : Int) := by omega
  have p2 : (n : Int) % 16 = (m : Int) := by omega
  obtain ⟨s, hs⟩ : ∃ s : Nat, 4 * m = s := ⟨_, rfl⟩
  have p3 : 4 * (m : Int) = (s : Int) := by omega
  have s64 : s < 64 := by omega
  rw [hj, hm, hs]
  have cj := B0.cell (i := j) (by simpa using j4)
  have gj : [W 0, W 1, W 2, W 3].getD j 0 = W j := by
    obtain rfl | rfl | rfl | rfl : j = 0 ∨ j = 1 ∨ j = 2 ∨ j = 3 := by omega
    all_goals rfl
  rw [gj] at cj
  have wb := hW j j4
  have pm : (0 : Int) < 2 ^ s := Int.pow_pos (by decide)
  have v0 : 0 ≤ W j / 2 ^ s := Int.ediv_nonneg wb.1 (Int.le_of_lt pm)
  have v1 : W j / 2 ^ s < 18446744073709551616 := Int.lt_of_le_of_lt (Int.ediv_le_self _ wb.1) wb.2
  have e1 := and15_64 _ v0 v1
  clear hj hm gj hs
  simp only [ag4]
  go_enter Tryz.func83, Tryz.ntmps83
  go_wp2_with fail
  generalize w.alloc (.cells #[.int .u64 (W 0), .int .u64 (W 1), .int .u64 (W 2), .int .u64 (W 3)] 41) = wa at *
  clear B0 hW
  generalize W j = z at *
  go_wp2
  go_ret
  exact ⟨rfl, n0⟩
end Go.Proofs.YtkglcainhkbgbaaGreatDoor
