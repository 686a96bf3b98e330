import Derived.Test.YtblkjpmkikhpbaaDoorGL31

/-
  Two rows of sixteen limbs side by side: the model's pairs of the ladder.
-/
namespace Go.Proofs.YtblkjpmkikhpbaaDoor
set_option maxRecDepth 100000
open Go Go.RowKit

def c32 (a b : Nat → Int) : List Value := (a16 a).toList ++ (a16 b).toList
def ag32 (a b : Nat → Int) : Value := .agg (c32 a b).toArray
theorem c32_len (a b : Nat → Int) : (c32 a b).length = 32 := by
  unfold c32
  rw [List.length_append, a16_len, a16_len]
theorem c32_one (a b : Nat → Int) : (c32 a b).toArray.all (·.oneCell') = true := by
  refine all_oneCell_toArray fun v hv => ?_
  have h : ∀ t, ∀ v ∈ (a16 t).toList, v.oneCell' = true := fun t v hv => Array.all_eq_true_iff_forall_mem.1 (a16_one t) v (by simpa using hv)
  rcases List.mem_append.1 hv with h1 | h1
  · exact h a v h1
  · exact h b v h1
theorem bu32 (a b : Nat → Int) (w : World) : (Instr.build 40 #[(0, ag16 a), (1, ag16 b)]).run Tryd.prog w = .ok (ag32 a b) w := by kernel_rfl
theorem u32p : ∃ fs, Tryd.prog.underlying 40 = some (.struct fs) := ⟨_, Tryd.underlying40⟩
theorem i32p : (Tryd.prog.info? 40).map (·.size) = some 32 := by kernel_rfl
theorem fx32 (q : Nat) (w : World) : (Instr.fieldAt 40 (.pointer (some ⟨q, 0, none⟩)) 0).run Tryd.prog w = .ok (.pointer (some ⟨q, 0, none⟩)) w := by kernel_rfl
theorem fy32 (q : Nat) (w : World) : (Instr.fieldAt 40 (.pointer (some ⟨q, 0, none⟩)) 1).run Tryd.prog w = .ok (.pointer (some ⟨q, 16, none⟩)) w := by kernel_rfl

def Is16 (t : Nat → Int) (A : Int) : Prop := L16 t ∧ s16 t 16 % PP = A % PP
/-- Two elements as one value. -/
def EP (A B : Int) : Fact := ⟨fun v _ => ∃ a b, v = ag32 a b ∧ Is16 a A ∧ Is16 b B, fun _ h => h⟩
/-- The same in memory. -/
def Elt2 (W : World) (q : Nat) (A B : Int) : Prop := ∃ a b, W.rangeAt q 0 (c32 a b) ∧ q < W.heap.size ∧ Is16 a A ∧ Is16 b B
theorem Elt2.lt {W : World} {q : Nat} {A B : Int} (h : Elt2 W q A B) : q < W.heap.size := by
  obtain ⟨_, _, _, l, _⟩ := h
  exact l
theorem Elt2.x {W : World} {q : Nat} {A B : Int} (h : Elt2 W q A B) : Elt W q 0 A := by
  obtain ⟨a, b, r, l, ha, _⟩ := h
  refine ⟨a, fun j v hv => r j v ?_, l, ha⟩
  have hj : j < 16 := by have := (List.getElem?_eq_some_iff.1 hv).1; rw [a16_len] at this; exact this
  unfold c32
  rw [List.getElem?_append_left (by rw [a16_len]; exact hj)]
  exact hv
theorem Elt2.y {W : World} {q : Nat} {A B : Int} (h : Elt2 W q A B) : Elt W q 16 B := by
  obtain ⟨a, b, r, l, _, hb⟩ := h
  refine ⟨b, fun j v hv => ?_, l, hb⟩
  have hj : j < 16 := by have := (List.getElem?_eq_some_iff.1 hv).1; rw [a16_len] at this; exact this
  have q := r (16 + j) v (by
    unfold c32
    rw [List.getElem?_append_right (by rw [a16_len]; omega), a16_len, show 16 + j - 16 = j by omega]
    exact hv)
  simpa using q
theorem Elt2.up {W W' : World} {q : Nat} {A B : Int} (h : Elt2 W q A B) (n : Below W.heap.size W W') : Elt2 W' q A B := by
  obtain ⟨a, b, r, l, h⟩ := h
  exact ⟨a, b, fun j v hv => (World.cell?_of_block (a := ⟨q, 0 + j, none⟩) (n.block q l)).trans (r j v hv), Nat.lt_of_lt_of_le l n.size, h⟩
theorem Elt2.but {W W' : World} {g q : Nat} {A B : Int} (h : Elt2 W g A B) (k : ButQ q W W') (hne : g ≠ q) : Elt2 W' g A B := by
  obtain ⟨a, b, r, l, h⟩ := h
  exact ⟨a, b, fun j v hv => (World.cell?_of_block (a := ⟨g, 0 + j, none⟩) (k.1 g hne l)).trans (r j v hv), Nat.lt_of_lt_of_le l k.2, h⟩
theorem set_elt2 {W : World} {q : Nat} {a b : Nat → Int} {A B : Int} (th : W.there q 0 32) (ha : Is16 a A) (hb : Is16 b B) : Elt2 (W.setCells q 0 (c32 a b)) q A B :=
  ⟨a, b, World.rangeAt_setCells_same W q 0 _ (by rw [c32_len]; exact th), by rw [heap_size_setCells]; exact there_lt (by omega) th, ha, hb⟩
theorem elt2_new (W : World) (t : TypeId) {a b : Nat → Int} {A B : Int} (ha : Is16 a A) (hb : Is16 b B) :
    Elt2 (W.alloc (.cells (c32 a b).toArray t)) W.heap.size A B := by
  have e : (W.alloc (.cells (c32 a b).toArray t)).heap[W.heap.size]? = some (.cells (c32 a b).toArray t) := heap_alloc_last _ _
  refine ⟨a, b, fun j v hv => ?_, by simp, ha, hb⟩
  unfold World.cell?
  simp only
  rw [e]
  simpa using hv

section
variable {ops : Array Oper} {Q : Exit → Act → World → Prop} {a0 : Act} {w : World} {id : Nat} {draw : Bool}
theorem region_new32 (k jA jV pA pV : Nat) (o : Oper) (F : Nat → Fact) (A B : Int) (hT : textOk .any ops a0.tmps.size k = true) (hk : ops[k]? = some o) (hd : o.dst = none) (hop : o.op = .store 40 (.tmp pA) (.tmp pV))
    (wA : writes ops jA pA = true) (wV : writes ops jV pV = true) (FA : F jA = NB w 32) (FV : F jV = EP A B) (steps : ∀ i, i < k → StepOk Tryd.prog .any ops Q F a0 w i)
    (fin : ∀ (vs : Nat → Value) (q : Nat) (W : World), vs pA = .pointer (some ⟨q, 0, none⟩) → w.heap.size ≤ q → Below w.heap.size w W → Elt2 W q A B → W.there q 0 32 → Q .normal (puts vs a0 ops.toList) W) :
    (Code.region id ops draw).wp Tryd.prog Q a0 w := by
  refine region_store k o F (by kernel_rfl) hT hk hd steps fun a W hb hw hF => ?_
  have h1 := hF jA pA wA
  have h2 := hF jV pV wV
  rw [FA] at h1
  rw [FV] at h2
  obtain ⟨_, q, eq, th, hq⟩ := h1
  obtain ⟨x, y, ev, hx, hy⟩ := h2
  refine wp_store_mid 40 (.tmp pA) (.tmp pV) hop q 0 (c32 x y).toArray eq ev (by rw [List.size_toArray, c32_len]; exact th) (by rw [List.size_toArray, c32_len]; exact i32p) (c32_one x y) ?_
  obtain ⟨vs, hvs⟩ : ∃ vs : Nat → Value, ∀ d, a.tmps.getD d undef = vs d := ⟨_, fun _ => rfl⟩
  rw [hd]
  show Q .normal a _
  rw [puts_of hT rfl hb vs hvs]
  exact fin vs q _ ((hvs pA).symm.trans eq) hq (below_setCells hq _ _ _ hw) (set_elt2 th hx hy) (World.there_setCells th _ _ _)
theorem region_put32 (k jV pD pV : Nat) (o : Oper) (F : Nat → Fact) (A B : Int) (q : Nat) (hT : textOk .any ops a0.tmps.size k = true) (hk : ops[k]? = some o) (hd : o.dst = none) (hop : o.op = .store 40 (.tmp pD) (.tmp pV))
    (hp : apart ops pD = true) (h0 : a0.tmps.getD pD undef = .pointer (some ⟨q, 0, none⟩)) (ht : w.there q 0 32) (wV : writes ops jV pV = true) (FV : F jV = EP A B) (steps : ∀ i, i < k → StepOk Tryd.prog .any ops Q F a0 w i)
    (fin : ∀ (vs : Nat → Value) (W W' : World), Below w.heap.size w W → ButQ q w W' → Elt2 W' q A B → W'.there q 0 32 → (∀ (w1 : World) (B : Nat), Below B w1 W → B ≤ q → Below B w1 W') → Q .normal (puts vs a0 ops.toList) W') :
    (Code.region id ops draw).wp Tryd.prog Q a0 w := by
  refine region_store k o F (by kernel_rfl) hT hk hd steps fun a W hb hw hF => ?_
  have h2 := hF jV pV wV
  rw [FV] at h2
  obtain ⟨x, y, ev, hx, hy⟩ := h2
  have th := there_up (by omega) ht hw
  refine wp_store_mid 40 (.tmp pD) (.tmp pV) hop q 0 (c32 x y).toArray ((based_at hb pD hp).trans h0) ev (by rw [List.size_toArray, c32_len]; exact th) (by rw [List.size_toArray, c32_len]; exact i32p) (c32_one x y) ?_
  obtain ⟨vs, hvs⟩ : ∃ vs : Nat → Value, ∀ d, a.tmps.getD d undef = vs d := ⟨_, fun _ => rfl⟩
  rw [hd]
  show Q .normal a _
  rw [puts_of hT rfl hb vs hvs]
  exact fin vs W _ hw (but_set hw _) (set_elt2 th hx hy) (World.there_setCells th _ _ _) (fun w1 B n hB => below_setCells hB _ _ _ n)
end

section
variable {ops : Array Oper} {Q : Exit → Act → World → Prop} {md : Region.Mode} {F : Nat → Fact} {a0 : Act} {w0 : World} {i : Nat} {o : Oper} {ts : Array TypeId}
abbrev zObj32 : Obj := .cells (List.replicate 32 (Value.int .i64 0)).toArray 40
theorem step_new32 (hi : ops[i]? = some o) (hop : o.op = .alloc 40) (hF : F i = NB w0 32) : StepOk Tryd.prog md ops Q F a0 w0 i := by
  refine step_grow hi fun a w _ hw _ => ⟨.pointer (some ⟨w.heap.size, 0, none⟩), w.alloc zObj32, ?_, (Below.refl _ _).alloc (Nat.le_refl _) _, ?_⟩
  · simp only [execOp, hop]
    kernel_rfl
  · rw [hF]
    exact ⟨by omega, _, rfl, there_new w _ _, hw.size⟩
theorem step_b32 (hi : ops[i]? = some o) (p q j k : Nat) (A B : Int) (hop : o.op = .build 40 #[(0, .tmp p), (1, .tmp q)])
    (hj : waits md ops i j p = true) (hk : waits md ops i k q = true) (hFj : F j = EL A) (hFk : F k = EL B) (hFi : F i = EP A B) : StepOk Tryd.prog md ops Q F a0 w0 i := by
  refine step_pure hi fun a w _ _ hf => ?_
  have h1 := hf j p hj
  have h2 := hf k q hk
  rw [hFj] at h1
  rw [hFk] at h2
  obtain ⟨x, e1, X⟩ := h1
  obtain ⟨y, e2, Y⟩ := h2
  refine ⟨ag32 x y, ?_, by rw [hFi]; exact ⟨x, y, rfl, X, Y⟩⟩
  have g1 : a.eval (.tmp p) = ag16 x := e1
  have g2 : a.eval (.tmp q) = ag16 y := e2
  have g : (#[(0, Operand.tmp p), (1, Operand.tmp q)].map fun (n, x) => (n, a.eval x)) = #[(0, ag16 x), (1, ag16 y)] := by simp [g1, g2]
  simp only [execOp, hop, g]
  rw [Sem.run_bind, bu32]
  rfl
theorem step_e2 (hi : ops[i]? = some o) (p : Nat) (hop : o.op = .load 40 (.tmp p)) (hp : apart ops p = true) (q : Nat) (h0 : a0.tmps.getD p undef = .pointer (some ⟨q, 0, none⟩)) {A B : Int} (hE : Elt2 w0 q A B) (hF : F i = EP A B) : StepOk Tryd.prog md ops Q F a0 w0 i := by
  obtain ⟨fs, hfs⟩ := u32p
  refine step_load hi _ _ hop _ 32 hfs rfl i32p fun a w hb hw _ => ?_
  obtain ⟨x, y, r, _, hx, hy⟩ := hE.up hw
  exact ⟨q, 0, _, (based_at hb p hp).trans h0, r, c32_len x y, by rw [hF]; exact ⟨x, y, rfl, hx, hy⟩⟩
end
end Go.Proofs.YtblkjpmkikhpbaaDoor
