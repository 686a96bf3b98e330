import Derived.Test.YtbhmhkimddjhaaaDoorGG29
import Derived.Test.YtbhmhkimddjhaaaDoorGG31
import Derived.Test.YtbhmhkimddjhaaaDoorGG19
/-
  The model's l5Small.
-/
namespace Go.Proofs.YtbhmhkimddjhaaaDoor
set_option maxRecDepth 100000
open Go Go.RowKit

def rootB (A : Int) : Bool := decide (r1S (A % PP) * r1S (A % PP) % PP = A % PP)
def rootV (A : Int) : Int := if rootB A = true then fin2 (r1S (A % PP)) else 0
theorem rootS_is {A a : Int} (h : a % PP = A % PP) {r : Ending} (hr : RootS (a % PP) r) : ∃ t, r = .returned (.tuple #[.bool (rootB A), ag16 t]) ∧ L16 t ∧ s16 t 16 % PP = rootV A % PP := by
  rw [h] at hr
  rcases hr with ⟨g, t, rfl, L, V⟩ | ⟨g, t, rfl, L, V⟩
  · have e : rootB A = true := decide_eq_true g
    refine ⟨t, by rw [e], L, ?_⟩
    have V' := congrArg (· % PP) V
    simp only [Int.emod_emod_of_dvd _ (Int.dvd_refl _)] at V'
    rw [V', rootV, if_pos e]
  · have e : rootB A = false := decide_eq_false g
    refine ⟨t, by rw [e], L, ?_⟩
    rw [V, rootV, if_neg (by rw [e]; simp)]
    rfl
/-- A root, as it is answered. -/
def RT (A : Int) : Fact := ⟨fun v _ => ∃ t, v = .tuple #[.bool (rootB A), ag16 t] ∧ L16 t ∧ s16 t 16 % PP = rootV A % PP, fun _ h => h⟩
theorem en_root : enters Tryd.prog 70 = true := by kernel_rfl
section
variable {ops : Array Oper} {Q : Exit → Act → World → Prop} {md : Region.Mode} {F : Nat → Fact} {a0 : Act} {w0 : World} {i : Nat} {o : Oper} {ts : Array TypeId}
theorem step_root (hi : ops[i]? = some o) (p j : Nat) (A : Int) (hop : o.op = .call { callee := .value (.func 70), args := #[.tmp p], argTypes := ts })
    (hj : waits md ops i j p = true) (hFj : F j = EL A) (hFi : F i = RT A) : StepOk Tryd.prog md ops Q F a0 w0 i := by
  refine step_call hi _ _ ts hop en_root fun a w _ _ hF => ?_
  have ea := hF j p hj
  rw [hFj] at ea
  obtain ⟨t, e1, L1, V1⟩ := ea
  show Calls Tryd.prog 70 #[a.tmps.getD p undef] w _
  rw [e1]
  refine (l2Root_any w t L1).mono ?_
  rintro r w' ⟨hr, hn⟩
  obtain ⟨u, rfl, L, V⟩ := rootS_is V1 hr
  rw [hFi]
  exact ⟨_, rfl, hn, u, rfl, L, V⟩
theorem step_ext0 {P : Program} (hi : ops[i]? = some o) (p j : Nat) (A : Int) (hop : o.op = .extract (.tmp p) 0) (hj : waits md ops i j p = true) (hFj : F j = RT A) (hFi : F i = Fact.eq (.bool (rootB A))) : StepOk P md ops Q F a0 w0 i := by
  refine step_pure hi fun a w _ _ hf => ⟨.bool (rootB A), ?_, by rw [hFi]; exact rfl⟩
  have e := hf j p hj
  rw [hFj] at e
  obtain ⟨t, e, _⟩ := e
  have e' : a.eval (.tmp p) = .tuple #[.bool (rootB A), ag16 t] := e
  simp only [execOp, hop, e']
  rfl
theorem step_ext1 {P : Program} (hi : ops[i]? = some o) (p j : Nat) (A : Int) (hop : o.op = .extract (.tmp p) 1) (hj : waits md ops i j p = true) (hFj : F j = RT A) (hFi : F i = EL (rootV A)) : StepOk P md ops Q F a0 w0 i := by
  refine step_pure hi fun a w _ _ hf => ?_
  have e := hf j p hj
  rw [hFj] at e
  obtain ⟨t, e, L, V⟩ := e
  have e' : a.eval (.tmp p) = .tuple #[.bool (rootB A), ag16 t] := e
  refine ⟨ag16 t, ?_, by rw [hFi]; exact ⟨t, rfl, L, V⟩⟩
  simp only [execOp, hop, e']
  rfl
end
section
variable {ops : Array Oper} {Q : Exit → Act → World → Prop} {a0 : Act} {w : World} {id : Nat} {draw : Bool}
theorem region_new16F (k jA jV pA pV : Nat) (o : Oper) (F : Nat → Fact) (A : Int) (hT : textOk .any ops a0.tmps.size k = true) (hk : ops[k]? = some o) (hd : o.dst = none) (hop : o.op = .store 70 (.tmp pA) (.tmp pV))
    (wA : writes ops jA pA = true) (wV : writes ops jV pV = true) (FA : F jA = NB w 16) (FV : F jV = EL A) (steps : ∀ i, i < k → StepOk Tryd.prog .any ops Q F a0 w i)
    (fin : ∀ (vs : Nat → Value) (q : Nat) (W : World), vs pA = .pointer (some ⟨q, 0, none⟩) → w.heap.size ≤ q → Below w.heap.size w W → Elt W q 0 A → W.there q 0 16 → (∀ i d, writes ops i d = true → ∃ Wp, (F i).p (vs d) Wp) → Q .normal (puts vs a0 ops.toList) W) :
    (Code.region id ops draw).wp Tryd.prog Q a0 w := by
  refine region_store k o F (by kernel_rfl) hT hk hd steps fun a W hb hw hF => ?_
  have h1 := hF jA pA wA
  have h2 := hF jV pV wV
  rw [FA] at h1
  rw [FV] at h2
  obtain ⟨_, q, eq, th, hq⟩ := h1
  obtain ⟨t, ev, L, V⟩ := h2
  refine wp_store_mid 70 (.tmp pA) (.tmp pV) hop q 0 (a16 t) eq ev (by rw [a16_size]; exact th) (by rw [a16_size]; exact i50) (a16_one t) ?_
  obtain ⟨vs, hvs⟩ : ∃ vs : Nat → Value, ∀ d, a.tmps.getD d undef = vs d := ⟨_, fun _ => rfl⟩
  rw [hd]
  show Q .normal a _
  rw [puts_of hT rfl hb vs hvs]
  exact fin vs q _ ((hvs pA).symm.trans eq) hq (below_setCells hq _ _ _ hw) (set_elt th L V) (World.there_setCells th _ _ _) (fun i d h => ⟨W, by rw [← hvs]; exact hF i d h⟩)
theorem region_put16F (k jV pD pV : Nat) (o : Oper) (F : Nat → Fact) (A : Int) (q : Nat) (hT : textOk .any ops a0.tmps.size k = true) (hk : ops[k]? = some o) (hd : o.dst = none) (hop : o.op = .store 70 (.tmp pD) (.tmp pV))
    (hp : apart ops pD = true) (h0 : a0.tmps.getD pD undef = .pointer (some ⟨q, 0, none⟩)) (ht : w.there q 0 16) (wV : writes ops jV pV = true) (FV : F jV = EL A) (steps : ∀ i, i < k → StepOk Tryd.prog .any ops Q F a0 w i)
    (fin : ∀ (vs : Nat → Value) (W W' : World), Below w.heap.size w W → ButQ q w W' → Elt W' q 0 A → W'.there q 0 16 → (∀ (w1 : World) (B : Nat), Below B w1 W → B ≤ q → Below B w1 W') → (∀ i d, writes ops i d = true → ∃ Wp, (F i).p (vs d) Wp) → Q .normal (puts vs a0 ops.toList) W') :
    (Code.region id ops draw).wp Tryd.prog Q a0 w := by
  refine region_store k o F (by kernel_rfl) hT hk hd steps fun a W hb hw hF => ?_
  have h2 := hF jV pV wV
  rw [FV] at h2
  obtain ⟨t, ev, L, V⟩ := h2
  have th := there_up (by omega) ht hw
  refine wp_store_mid 70 (.tmp pD) (.tmp pV) hop q 0 (a16 t) ((based_at hb pD hp).trans h0) ev (by rw [a16_size]; exact th) (by rw [a16_size]; exact i50) (a16_one t) ?_
  obtain ⟨vs, hvs⟩ : ∃ vs : Nat → Value, ∀ d, a.tmps.getD d undef = vs d := ⟨_, fun _ => rfl⟩
  rw [hd]
  show Q .normal a _
  rw [puts_of hT rfl hb vs hvs]
  exact fin vs W _ hw (but_set hw _) (set_elt th L V) (World.there_setCells th _ _ _) (fun w1 B n hB => below_setCells hB _ _ _ n) (fun i d h => ⟨W, by rw [← hvs]; exact hF i d h⟩)
end
end Go.Proofs.YtbhmhkimddjhaaaDoor
