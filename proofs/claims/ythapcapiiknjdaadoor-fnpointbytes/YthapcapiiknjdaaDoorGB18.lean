import Derived.Test.YthapcapiiknjdaaDoorGB17

/-
  Three rows of sixteen limbs side by side: the model's wide points. Regions that leave sixteen or forty-eight limbs in memory.
-/
namespace Go.Proofs.YthapcapiiknjdaaDoor
set_option maxRecDepth 100000
open Go Go.RowKit

def c48 (a b c : Nat → Int) : List Value := (a16 a).toList ++ ((a16 b).toList ++ (a16 c).toList)
def ag48 (a b c : Nat → Int) : Value := .agg (c48 a b c).toArray
theorem a16_len (t : Nat → Int) : (a16 t).toList.length = 16 := by simp [ls16]
theorem c48_len (a b c : Nat → Int) : (c48 a b c).length = 48 := by
  unfold c48
  rw [List.length_append, List.length_append, a16_len, a16_len, a16_len]
theorem c48_one (a b c : Nat → Int) : (c48 a b c).toArray.all (·.oneCell') = true := by
  refine all_oneCell_toArray fun v hv => ?_
  have h : ∀ t, ∀ v ∈ (a16 t).toList, v.oneCell' = true := fun t v hv => Array.all_eq_true_iff_forall_mem.1 (a16_one t) v (by simpa using hv)
  rcases List.mem_append.1 hv with h1 | h1
  · exact h a v h1
  · rcases List.mem_append.1 h1 with h2 | h2
    · exact h b v h2
    · exact h c v h2
theorem bu48 (a b c : Nat → Int) (w : World) : (Instr.build 83 #[(0, ag16 a), (1, ag16 b), (2, ag16 c)]).run Tryd.prog w = .ok (ag48 a b c) w := by kernel_rfl
theorem u144 : ∃ fs, Tryd.prog.underlying 83 = some (.struct fs) := ⟨_, Tryd.underlying83⟩
theorem i144 : (Tryd.prog.info? 83).map (·.size) = some 48 := by kernel_rfl
theorem fx48 (q : Nat) (w : World) : (Instr.fieldAt 83 (.pointer (some ⟨q, 0, none⟩)) 0).run Tryd.prog w = .ok (.pointer (some ⟨q, 0, none⟩)) w := by kernel_rfl
theorem fy48 (q : Nat) (w : World) : (Instr.fieldAt 83 (.pointer (some ⟨q, 0, none⟩)) 1).run Tryd.prog w = .ok (.pointer (some ⟨q, 16, none⟩)) w := by kernel_rfl
theorem fz48 (q : Nat) (w : World) : (Instr.fieldAt 83 (.pointer (some ⟨q, 0, none⟩)) 2).run Tryd.prog w = .ok (.pointer (some ⟨q, 32, none⟩)) w := by kernel_rfl

/-- Three elements as one value. -/
def E3 (A B C : Int) : Fact := ⟨fun v _ => ∃ a b c, v = ag48 a b c ∧ (L16 a ∧ s16 a 16 % PP = A % PP) ∧ (L16 b ∧ s16 b 16 % PP = B % PP) ∧ L16 c ∧ s16 c 16 % PP = C % PP, fun _ h => h⟩
/-- The same in memory. -/
def Elt3 (W : World) (q : Nat) (A B C : Int) : Prop := ∃ a b c, W.rangeAt q 0 (c48 a b c) ∧ q < W.heap.size ∧ (L16 a ∧ s16 a 16 % PP = A % PP) ∧ (L16 b ∧ s16 b 16 % PP = B % PP) ∧ L16 c ∧ s16 c 16 % PP = C % PP
theorem Elt3.x {W : World} {q : Nat} {A B C : Int} (h : Elt3 W q A B C) : Elt W q 0 A := by
  obtain ⟨a, b, c, r, l, ha, _, _⟩ := h
  refine ⟨a, fun j v hv => r j v ?_, l, ha⟩
  have hj : j < 16 := by have := (List.getElem?_eq_some_iff.1 hv).1; rw [a16_len] at this; exact this
  unfold c48
  rw [List.getElem?_append_left (by rw [a16_len]; exact hj)]
  exact hv
theorem Elt3.y {W : World} {q : Nat} {A B C : Int} (h : Elt3 W q A B C) : Elt W q 16 B := by
  obtain ⟨a, b, c, r, l, _, hb, _⟩ := h
  refine ⟨b, fun j v hv => ?_, l, hb⟩
  have hj : j < 16 := by have := (List.getElem?_eq_some_iff.1 hv).1; rw [a16_len] at this; exact this
  have q := r (16 + j) v (by
    unfold c48
    rw [List.getElem?_append_right (by rw [a16_len]; omega), a16_len, List.getElem?_append_left (by rw [a16_len]; omega), show 16 + j - 16 = j by omega]
    exact hv)
  simpa using q
theorem Elt3.z {W : World} {q : Nat} {A B C : Int} (h : Elt3 W q A B C) : Elt W q 32 C := by
  obtain ⟨a, b, c, r, l, _, _, hc⟩ := h
  refine ⟨c, fun j v hv => ?_, l, hc⟩
  have hj : j < 16 := by have := (List.getElem?_eq_some_iff.1 hv).1; rw [a16_len] at this; exact this
  have q := r (32 + j) v (by
    unfold c48
    rw [List.getElem?_append_right (by rw [a16_len]; omega), a16_len, List.getElem?_append_right (by rw [a16_len]; omega), a16_len, show 32 + j - 16 - 16 = j by omega]
    exact hv)
  simpa using q
theorem Elt3.up {W W' : World} {q : Nat} {A B C : Int} (h : Elt3 W q A B C) (n : Below W.heap.size W W') : Elt3 W' q A B C := by
  obtain ⟨a, b, c, r, l, h⟩ := h
  exact ⟨a, b, c, fun j v hv => (World.cell?_of_block (a := ⟨q, 0 + j, none⟩) (n.block q l)).trans (r j v hv), Nat.lt_of_lt_of_le l n.size, h⟩
/-- Room for n cells, that may be written. -/
theorem there_up {W W' : World} {q n : Nat} (hn : 0 < n) (h : W.there q 0 n) (k : Below W.heap.size W W') : W'.there q 0 n := by
  have h0 := (h 0 hn).1
  rw [Option.isSome_iff_exists] at h0
  obtain ⟨v, hv⟩ := h0
  have hb := k.block q (block_lt_of_cell hv)
  exact fun j hj => ⟨by rw [World.cell?_of_block (a := ⟨q, 0 + j, none⟩) hb]; exact (h j hj).1, by rw [World.frozen?_of_block (a := ⟨q, 0 + j, none⟩) hb]; exact (h j hj).2⟩
theorem there_lt {W : World} {q n : Nat} (hn : 0 < n) (h : W.there q 0 n) : q < W.heap.size := by
  have h0 := (h 0 hn).1
  rw [Option.isSome_iff_exists] at h0
  obtain ⟨v, hv⟩ := h0
  exact block_lt_of_cell hv
theorem there_new (W : World) (cs : List Value) (t : TypeId) : (W.alloc (.cells cs.toArray t)).there W.heap.size 0 cs.length := fun j hj => by
  have e : (W.alloc (.cells cs.toArray t)).heap[W.heap.size]? = some (.cells cs.toArray t) := heap_alloc_last _ _
  constructor
  · unfold World.cell?
    simp only
    rw [e]
    simp [hj]
  · unfold World.frozen?
    simp only
    rw [e]
    simp
/-- A block of n cells made in the region. -/
def NB (w0 : World) (n : Nat) : Fact := ⟨fun v w => 0 < n ∧ ∃ q, v = .pointer (some ⟨q, 0, none⟩) ∧ w.there q 0 n ∧ w0.heap.size ≤ q, fun k h => by
  obtain ⟨hn, q, e, t, l⟩ := h
  exact ⟨hn, q, e, there_up hn t k, l⟩⟩

theorem heap_size_setCells (b : Nat) : ∀ (vs : List Value) (o : Nat) (w : World), (w.setCells b o vs).heap.size = w.heap.size
  | [], _, _ => rfl
  | v :: vs, o, w => by
    rw [World.setCells, heap_size_setCells b vs (o + 1)]
    simp [World.setCell]
theorem set_elt {W : World} {q : Nat} {t : Nat → Int} {A : Int} (th : W.there q 0 16) (L : L16 t) (V : s16 t 16 % PP = A % PP) : Elt (W.setCells q 0 (a16 t).toList) q 0 A :=
  ⟨t, World.rangeAt_setCells_same W q 0 _ (by rw [a16_len]; exact th), by rw [heap_size_setCells]; exact there_lt (by omega) th, L, V⟩
theorem set_elt3 {W : World} {q : Nat} {a b c : Nat → Int} {A B C : Int} (th : W.there q 0 48) (ha : L16 a ∧ s16 a 16 % PP = A % PP) (hb : L16 b ∧ s16 b 16 % PP = B % PP) (hc : L16 c ∧ s16 c 16 % PP = C % PP) : Elt3 (W.setCells q 0 (c48 a b c)) q A B C :=
  ⟨a, b, c, World.rangeAt_setCells_same W q 0 _ (by rw [c48_len]; exact th), by rw [heap_size_setCells]; exact there_lt (by omega) th, ha, hb, hc⟩
/-- All blocks but q are as they were. -/
def ButQ (q : Nat) (W W' : World) : Prop := (∀ g, g ≠ q → g < W.heap.size → W'.heap[g]? = W.heap[g]?) ∧ W.heap.size ≤ W'.heap.size
theorem Elt.but {W W' : World} {g o q : Nat} {A : Int} (h : Elt W g o A) (k : ButQ q W W') (hne : g ≠ q) : Elt W' g o A := by
  obtain ⟨t, r, l, h⟩ := h
  exact ⟨t, fun j v hv => (World.cell?_of_block (a := ⟨g, o + j, none⟩) (k.1 g hne l)).trans (r j v hv), Nat.lt_of_lt_of_le l k.2, h⟩
theorem Elt3.but {W W' : World} {g q : Nat} {A B C : Int} (h : Elt3 W g A B C) (k : ButQ q W W') (hne : g ≠ q) : Elt3 W' g A B C := by
  obtain ⟨a, b, c, r, l, h⟩ := h
  exact ⟨a, b, c, fun j v hv => (World.cell?_of_block (a := ⟨g, 0 + j, none⟩) (k.1 g hne l)).trans (r j v hv), Nat.lt_of_lt_of_le l k.2, h⟩
theorem there_but {W W' : World} {g q n : Nat} (hn : 0 < n) (h : W.there g 0 n) (k : ButQ q W W') (hne : g ≠ q) : W'.there g 0 n := by
  have hb := k.1 g hne (there_lt hn h)
  exact fun j hj => ⟨by rw [World.cell?_of_block (a := ⟨g, 0 + j, none⟩) hb]; exact (h j hj).1, by rw [World.frozen?_of_block (a := ⟨g, 0 + j, none⟩) hb]; exact (h j hj).2⟩
theorem but_set {W W' : World} {q : Nat} (n : Below W.heap.size W W') (vs : List Value)   : ButQ q W (W'.setCells q 0 vs) :=
  ⟨fun g hg hl => (setCells_other hg vs 0 W').trans (n.block g hl), by rw [heap_size_setCells]; exact n.size⟩

section
variable {ops : Array Oper} {Q : Exit → Act → World → Prop} {a0 : Act} {w : World} {id : Nat} {draw : Bool}
/-- A region that makes a row of sixteen limbs and lays an element into it. -/
theorem region_new16 (k jA jV pA pV : Nat) (o : Oper) (F : Nat → Fact) (A : Int) (hT : textOk .any ops a0.tmps.size k = true) (hk : ops[k]? = some o) (hd : o.dst = none) (hop : o.op = .store 52 (.tmp pA) (.tmp pV))
    (wA : writes ops jA pA = true) (wV : writes ops jV pV = true) (FA : F jA = NB w 16) (FV : F jV = EL A) (steps : ∀ i, i < k → StepOk Tryd.prog .any ops Q F a0 w i)
    (fin : ∀ (vs : Nat → Value) (q : Nat) (W : World), vs pA = .pointer (some ⟨q, 0, none⟩) → w.heap.size ≤ q → Below w.heap.size w W → Elt W q 0 A → W.there q 0 16 → Q .normal (puts vs a0 ops.toList) W) :
    (Code.region id ops draw).wp Tryd.prog Q a0 w := by
  refine region_store k o F (by kernel_rfl) hT hk hd steps fun a W hb hw hF => ?_
  have h1 := hF jA pA wA
  have h2 := hF jV pV wV
  rw [FA] at h1
  rw [FV] at h2
  obtain ⟨_, q, eq, th, hq⟩ := h1
  obtain ⟨t, ev, L, V⟩ := h2
  refine wp_store_mid 52 (.tmp pA) (.tmp pV) hop q 0 (a16 t) eq ev (by rw [a16_size]; exact th) (by rw [a16_size]; exact i50) (a16_one t) ?_
  obtain ⟨vs, hvs⟩ : ∃ vs : Nat → Value, ∀ d, a.tmps.getD d undef = vs d := ⟨_, fun _ => rfl⟩
  rw [hd]
  show Q .normal a _
  rw [puts_of hT rfl hb vs hvs]
  exact fin vs q _ ((hvs pA).symm.trans eq) hq (below_setCells hq _ _ _ hw) (set_elt th L V) (World.there_setCells th _ _ _)
/-- A region that makes room for forty-eight and lays three elements there. -/
theorem region_new48 (k jA jV pA pV : Nat) (o : Oper) (F : Nat → Fact) (A B C : Int) (hT : textOk .any ops a0.tmps.size k = true) (hk : ops[k]? = some o) (hd : o.dst = none) (hop : o.op = .store 83 (.tmp pA) (.tmp pV))
    (wA : writes ops jA pA = true) (wV : writes ops jV pV = true) (FA : F jA = NB w 48) (FV : F jV = E3 A B C) (steps : ∀ i, i < k → StepOk Tryd.prog .any ops Q F a0 w i)
    (fin : ∀ (vs : Nat → Value) (q : Nat) (W : World), vs pA = .pointer (some ⟨q, 0, none⟩) → w.heap.size ≤ q → Below w.heap.size w W → Elt3 W q A B C → W.there q 0 48 → Q .normal (puts vs a0 ops.toList) W) :
    (Code.region id ops draw).wp Tryd.prog Q a0 w := by
  refine region_store k o F (by kernel_rfl) hT hk hd steps fun a W hb hw hF => ?_
  have h1 := hF jA pA wA
  have h2 := hF jV pV wV
  rw [FA] at h1
  rw [FV] at h2
  obtain ⟨_, q, eq, th, hq⟩ := h1
  obtain ⟨x, y, z, ev, hx, hy, hz⟩ := h2
  refine wp_store_mid 83 (.tmp pA) (.tmp pV) hop q 0 (c48 x y z).toArray eq ev (by rw [List.size_toArray, c48_len]; exact th) (by rw [List.size_toArray, c48_len]; exact i144) (c48_one x y z) ?_
  obtain ⟨vs, hvs⟩ : ∃ vs : Nat → Value, ∀ d, a.tmps.getD d undef = vs d := ⟨_, fun _ => rfl⟩
  rw [hd]
  show Q .normal a _
  rw [puts_of hT rfl hb vs hvs]
  exact fin vs q _ ((hvs pA).symm.trans eq) hq (below_setCells hq _ _ _ hw) (set_elt3 th hx hy hz) (World.there_setCells th _ _ _)
/-- A region that lays an element into a row that was there. -/
theorem region_put16 (k jV pD pV : Nat) (o : Oper) (F : Nat → Fact) (A : Int) (q : Nat) (hT : textOk .any ops a0.tmps.size k = true) (hk : ops[k]? = some o) (hd : o.dst = none) (hop : o.op = .store 52 (.tmp pD) (.tmp pV))
    (hp : apart ops pD = true) (h0 : a0.tmps.getD pD undef = .pointer (some ⟨q, 0, none⟩)) (ht : w.there q 0 16) (wV : writes ops jV pV = true) (FV : F jV = EL A) (steps : ∀ i, i < k → StepOk Tryd.prog .any ops Q F a0 w i)
    (fin : ∀ (vs : Nat → Value) (W W' : World), Below w.heap.size w W → ButQ q w W' → Elt W' q 0 A → W'.there q 0 16 → (∀ (w1 : World) (B : Nat), Below B w1 W → B ≤ q → Below B w1 W') → Q .normal (puts vs a0 ops.toList) W') :
    (Code.region id ops draw).wp Tryd.prog Q a0 w := by
  refine region_store k o F (by kernel_rfl) hT hk hd steps fun a W hb hw hF => ?_
  have h2 := hF jV pV wV
  rw [FV] at h2
  obtain ⟨t, ev, L, V⟩ := h2
  have th := there_up (by omega) ht hw
  refine wp_store_mid 52 (.tmp pD) (.tmp pV) hop q 0 (a16 t) ((based_at hb pD hp).trans h0) ev (by rw [a16_size]; exact th) (by rw [a16_size]; exact i50) (a16_one t) ?_
  obtain ⟨vs, hvs⟩ : ∃ vs : Nat → Value, ∀ d, a.tmps.getD d undef = vs d := ⟨_, fun _ => rfl⟩
  rw [hd]
  show Q .normal a _
  rw [puts_of hT rfl hb vs hvs]
  exact fin vs W _ hw (but_set hw _) (set_elt th L V) (World.there_setCells th _ _ _) (fun w1 B n hB => below_setCells hB _ _ _ n)
/-- The same for three. -/
theorem region_put48 (k jV pD pV : Nat) (o : Oper) (F : Nat → Fact) (A B C : Int) (q : Nat) (hT : textOk .any ops a0.tmps.size k = true) (hk : ops[k]? = some o) (hd : o.dst = none) (hop : o.op = .store 83 (.tmp pD) (.tmp pV))
    (hp : apart ops pD = true) (h0 : a0.tmps.getD pD undef = .pointer (some ⟨q, 0, none⟩)) (ht : w.there q 0 48) (wV : writes ops jV pV = true) (FV : F jV = E3 A B C) (steps : ∀ i, i < k → StepOk Tryd.prog .any ops Q F a0 w i)
    (fin : ∀ (vs : Nat → Value) (W W' : World), Below w.heap.size w W → ButQ q w W' → Elt3 W' q A B C → W'.there q 0 48 → (∀ (w1 : World) (B : Nat), Below B w1 W → B ≤ q → Below B w1 W') → Q .normal (puts vs a0 ops.toList) W') :
    (Code.region id ops draw).wp Tryd.prog Q a0 w := by
  refine region_store k o F (by kernel_rfl) hT hk hd steps fun a W hb hw hF => ?_
  have h2 := hF jV pV wV
  rw [FV] at h2
  obtain ⟨x, y, z, ev, hx, hy, hz⟩ := h2
  have th := there_up (by omega) ht hw
  refine wp_store_mid 83 (.tmp pD) (.tmp pV) hop q 0 (c48 x y z).toArray ((based_at hb pD hp).trans h0) ev (by rw [List.size_toArray, c48_len]; exact th) (by rw [List.size_toArray, c48_len]; exact i144) (c48_one x y z) ?_
  obtain ⟨vs, hvs⟩ : ∃ vs : Nat → Value, ∀ d, a.tmps.getD d undef = vs d := ⟨_, fun _ => rfl⟩
  rw [hd]
  show Q .normal a _
  rw [puts_of hT rfl hb vs hvs]
  exact fin vs W _ hw (but_set hw _) (set_elt3 th hx hy hz) (World.there_setCells th _ _ _) (fun w1 B n hB => below_setCells hB _ _ _ n)
end

section
variable {ops : Array Oper} {Q : Exit → Act → World → Prop} {md : Region.Mode} {F : Nat → Fact} {a0 : Act} {w0 : World} {i : Nat} {o : Oper} {ts : Array TypeId}
/-- Sixteen zeros are made. -/
theorem step_new16 (hi : ops[i]? = some o) (hop : o.op = .alloc 52) (hF : F i = NB w0 16) : StepOk Tryd.prog md ops Q F a0 w0 i := by
  refine step_grow hi fun a w _ hw _ => ⟨.pointer (some ⟨w.heap.size, 0, none⟩), w.alloc zObj, ?_, (Below.refl _ _).alloc (Nat.le_refl _) _, ?_⟩
  · simp only [execOp, hop]
    kernel_rfl
  · rw [hF]
    exact ⟨by omega, _, rfl, there_new w _ _, hw.size⟩
abbrev zObj48 : Obj := .cells (List.replicate 48 (Value.int .i64 0)).toArray 83
theorem step_new48 (hi : ops[i]? = some o) (hop : o.op = .alloc 83) (hF : F i = NB w0 48) : StepOk Tryd.prog md ops Q F a0 w0 i := by
  refine step_grow hi fun a w _ hw _ => ⟨.pointer (some ⟨w.heap.size, 0, none⟩), w.alloc zObj48, ?_, (Below.refl _ _).alloc (Nat.le_refl _) _, ?_⟩
  · simp only [execOp, hop]
    kernel_rfl
  · rw [hF]
    exact ⟨by omega, _, rfl, there_new w _ _, hw.size⟩
/-- Three elements are put into one value. -/
theorem step_b48 (hi : ops[i]? = some o) (p q r j k l : Nat) (A B C : Int) (hop : o.op = .build 83 #[(0, .tmp p), (1, .tmp q), (2, .tmp r)])
    (hj : waits md ops i j p = true) (hk : waits md ops i k q = true) (hl : waits md ops i l r = true) (hFj : F j = EL A) (hFk : F k = EL B) (hFl : F l = EL C) (hFi : F i = E3 A B C) : StepOk Tryd.prog md ops Q F a0 w0 i := by
  refine step_pure hi fun a w _ _ hf => ?_
  have h1 := hf j p hj
  have h2 := hf k q hk
  have h3 := hf l r hl
  rw [hFj] at h1
  rw [hFk] at h2
  rw [hFl] at h3
  obtain ⟨x, e1, X⟩ := h1
  obtain ⟨y, e2, Y⟩ := h2
  obtain ⟨z, e3, Z⟩ := h3
  refine ⟨ag48 x y z, ?_, by rw [hFi]; exact ⟨x, y, z, rfl, X, Y, Z⟩⟩
  have g1 : a.eval (.tmp p) = ag16 x := e1
  have g2 : a.eval (.tmp q) = ag16 y := e2
  have g3 : a.eval (.tmp r) = ag16 z := e3
  have g : (#[(0, Operand.tmp p), (1, Operand.tmp q), (2, Operand.tmp r)].map fun (n, x) => (n, a.eval x)) = #[(0, ag16 x), (1, ag16 y), (2, ag16 z)] := by simp [g1, g2, g3]
  simp only [execOp, hop, g]
  rw [Sem.run_bind, bu48]
  rfl
/-- The inverse. -/
def iv (A : Int) : Int := A ^ eIv
theorem en_inv : enters Tryd.prog 62 = true := by kernel_rfl
theorem step_inv (hi : ops[i]? = some o) (p j : Nat) (A : Int) (hop : o.op = .call { callee := .value (.func 62), args := #[.tmp p], argTypes := ts })
    (hj : waits md ops i j p = true) (hFj : F j = EL A) (hFi : F i = EL (iv A)) : StepOk Tryd.prog md ops Q F a0 w0 i :=
  step_one hi _ p ts hop en_inv iv (fun w a ha => l2Inv_any w a ha) (fun _ _ h => pow_mod h _) j A hj hFj hFi
end
end Go.Proofs.YthapcapiiknjdaaDoor
