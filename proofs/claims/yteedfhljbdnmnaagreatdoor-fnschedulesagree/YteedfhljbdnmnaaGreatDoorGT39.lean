import Derived.Test.YteedfhljbdnmnaaGreatDoorGT38
import Derived.Test.YteedfhljbdnmnaaGreatDoorGT22
import Derived.Lib.Mul64
import Derived.Laws.Bits64b
import Derived.Laws.Externs
import Derived.Test.YteedfhljbdnmnaaGreatDoorGT25
import Derived.Deep.RegionWith
import Derived.Deep.RegionHeld3
import Derived.Deep.MidRow
import Derived.Deep.DeepCutAuto
namespace Go.Proofs.YteedfhljbdnmnaaGreatDoor
set_option maxRecDepth 100000
open Go Go.RowKit
def c48 (a b c : Nat → Int) : List Value := (a16 a).toList ++ ((a16 b).toList ++ (a16 c).toList)
def ag48 (a b c : Nat → Int) : Value := .agg (c48 a b c).toArray
theorem a16_len (t : Nat → Int) : (a16 t).toList.length = 16 := by simp [ls16]
theorem c48_len (a b c : Nat → Int) : (c48 a b c).length = 48 := by
  unfold c48
  rw [List.length_append, List.length_append, a16_len, a16_len, a16_len]
theorem c48_one (a b c : Nat → Int) : (c48 a b c).toArray.all (·.oneCell') = true := by
  refine all_oneCell_toArray fun v hv => ?_
  have h : ∀ t, ∀ v ∈ (a16 t).toList, v.oneCell' = true := fun t v hv => Array.all_eq_true_iff_forall_mem.1 (a16_one t) v (by simpa using hv)
  rcases List.mem_append.1 hv with h1 | h1
  · exact h a v h1
  · rcases List.mem_append.1 h1 with h2 | h2
    · exact h b v h2
    · exact h c v h2
theorem bu48 (a b c : Nat → Int) (w : World) : (Instr.build 143 #[(0, ag16 a), (1, ag16 b), (2, ag16 c)]).run Tryz.prog w = .ok (ag48 a b c) w := by kernel_rfl
theorem u144 : ∃ fs, Tryz.prog.underlying 143 = some (.struct fs) := ⟨_, Tryz.underlying143⟩
theorem i144 : (Tryz.prog.info? 143).map (·.size) = some 48 := by kernel_rfl
theorem fx48 (q : Nat) (w : World) : (Instr.fieldAt 143 (.pointer (some ⟨q, 0, none⟩)) 0).run Tryz.prog w = .ok (.pointer (some ⟨q, 0, none⟩)) w := by kernel_rfl
theorem fy48 (q : Nat) (w : World) : (Instr.fieldAt 143 (.pointer (some ⟨q, 0, none⟩)) 1).run Tryz.prog w = .ok (.pointer (some ⟨q, 16, none⟩)) w := by kernel_rfl
theorem fz48 (q : Nat) (w : World) : (Instr.fieldAt 143 (.pointer (some ⟨q, 0, none⟩)) 2).run Tryz.prog w = .ok (.pointer (some ⟨q, 32, none⟩)) w := by kernel_rfl
def E3 (A B C : Int) : Fact := ⟨fun v _ => ∃ a b c, v = ag48 a b c ∧ (L16 a ∧ s16 a 16 % PP = A % PP) ∧ (L16 b ∧ s16 b 16 % PP = B % PP) ∧ L16 c ∧ s16 c 16 % PP = C % PP, fun _ h => h⟩
def Elt3 (W : World) (q : Nat) (A B C : Int) : Prop := ∃ a b c, W.rangeAt q 0 (c48 a b c) ∧ q < W.heap.size ∧ (L16 a ∧ s16 a 16 % PP = A % PP) ∧ (L16 b ∧ s16 b 16 % PP = B % PP) ∧ L16 c ∧ s16 c 16 % PP = C % PP
theorem Elt3.x {W : World} {q : Nat} {A B C : Int} (h : Elt3 W q A B C) : Elt W q 0 A := by
  obtain ⟨a, b, c, r, l, ha, _, _⟩ := h
  refine ⟨a, fun j v hv => r j v ?_, l, ha⟩
  have hj : j < 16 := by have := (List.getElem?_eq_some_iff.1 hv).1; rw [a16_len] at this; exact this
  unfold c48
  rw [List.getElem?_append_left (by rw [a16_len]; exact hj)]
  exact hv
theorem Elt3.y {W : World} {q : Nat} {A B C : Int} (h : Elt3 W q A B C) : Elt W q 16 B := by
  obtain ⟨a, b, c, r, l, _, hb, _⟩ := h
  refine ⟨b, fun j v hv => ?_, l, hb⟩
  have hj : j < 16 := by have := (List.getElem?_eq_some_iff.1 hv).1; rw [a16_len] at this; exact this
  have q := r (16 + j) v (by
    unfold c48
    rw [List.getElem?_append_right (by rw [a16_len]; omega), a16_len, List.getElem?_append_left (by rw [a16_len]; omega), show 16 + j - 16 = j by omega]
    exact hv)
  simpa using q
theorem Elt3.z {W : World} {q : Nat} {A B C : Int} (h : Elt3 W q A B C) : Elt W q 32 C := by
  obtain ⟨a, b, c, r, l, _, _, hc⟩ := h
  refine ⟨c, fun j v hv => ?_, l, hc⟩
  have hj : j < 16 := by have := (List.getElem?_eq_some_iff.1 hv).1; rw [a16_len] at this; exact this
  have q := r (32 + j) v (by
    unfold c48
    rw [List.getElem?_append_right (by rw [a16_len]; omega), a16_len, List.getElem?_append_right (by rw [a16_len]; omega), a16_len, show 32 + j - 16 - 16 = j by omega]
    exact hv)
  simpa using q
theorem Elt3.up {W W' : World} {q : Nat} {A B C : Int} (h : Elt3 W q A B C) (n : Below W.heap.size W W') : Elt3 W' q A B C := by
  obtain ⟨a, b, c, r, l, h⟩ := h
  exact ⟨a, b, c, fun j v hv => (World.cell?_of_block (a := ⟨q, 0 + j, none⟩) (n.block q l)).trans (r j v hv), Nat.lt_of_lt_of_le l n.size, h⟩
theorem there_up {W W' : World} {q n : Nat} (hn : 0 < n) (h : W.there q 0 n) (k : Below W.heap.size W W') : W'.there q 0 n := by
  have h0 := (h 0 hn).1
  rw [Option.isSome_iff_exists] at h0
  obtain ⟨v, hv⟩ := h0
  have hb := k.block q (block_lt_of_cell hv)
  exact fun j hj => ⟨by rw [World.cell?_of_block (a := ⟨q, 0 + j, none⟩) hb]; exact (h j hj).1, by rw [World.frozen?_of_block (a := ⟨q, 0 + j, none⟩) hb]; exact (h j hj).2⟩
theorem there_lt {W : World} {q n : Nat} (hn : 0 < n) (h : W.there q 0 n) : q < W.heap.size := by
  have h0 := (h 0 hn).1
  rw [Option.isSome_iff_exists] at h0
  obtain ⟨v, hv⟩ := h0
  exact block_lt_of_cell hv
theorem there_new (W : World) (cs : List Value) (t : TypeId) : (W.alloc (.cells cs.toArray t)).there W.heap.size 0 cs.length := fun j hj => by
  have e : (W.alloc (.cells cs.toArray t)).heap[W.heap.size]? = some (.cells cs.toArray t) := heap_alloc_last _ _
  constructor
  · unfold World.cell?
    simp only
    rw [e]
    simp [hj]
  · unfold World.frozen?
    simp only
    rw [e]
    simp
def NB (w0 : World) (n : Nat) : Fact := ⟨fun v w => 0 < n ∧ ∃ q, v = .pointer (some ⟨q, 0, none⟩) ∧ w.there q 0 n ∧ w0.heap.size ≤ q, fun k h => by
  obtain ⟨hn, q, e, t, l⟩ := h
  exact ⟨hn, q, e, there_up hn t k, l⟩⟩
theorem heap_size_setCells (b : Nat) : ∀ (vs : List Value) (o : Nat) (w : World), (w.setCells b o vs).heap.size = w.heap.size
  | [], _, _ => rfl
  | v :: vs, o, w => by
    rw [World.setCells, heap_size_setCells b vs (o + 1)]
    simp [World.setCell]
theorem set_elt {W : World} {q : Nat} {t : Nat → Int} {A : Int} (th : W.there q 0 16) (L : L16 t) (V : s16 t 16 % PP = A % PP) : Elt (W.setCells q 0 (a16 t).toList) q 0 A :=
  ⟨t, World.rangeAt_setCells_same W q 0 _ (by rw [a16_len]; exact th), by rw [heap_size_setCells]; exact there_lt (by omega) th, L, V⟩
theorem set_elt3 {W : World} {q : Nat} {a b c : Nat → Int} {A B C : Int} (th : W.there q 0 48) (ha : L16 a ∧ s16 a 16 % PP = A % PP) (hb : L16 b ∧ s16 b 16 % PP = B % PP) (hc : L16 c ∧ s16 c 16 % PP = C % PP) : Elt3 (W.setCells q 0 (c48 a b c)) q A B C :=
  ⟨a, b, c, World.rangeAt_setCells_same W q 0 _ (by rw [c48_len]; exact th), by rw [heap_size_setCells]; exact there_lt (by omega) th, ha, hb, hc⟩
def ButQ (q : Nat) (W W' : World) : Prop := (∀ g, g ≠ q → g < W.heap.size → W'.heap[g]? = W.heap[g]?) ∧ W.heap.size ≤ W'.heap.size
theorem Elt.but {W W' : World} {g o q : Nat} {A : Int} (h : Elt W g o A) (k : ButQ q W W') (hne : g ≠ q) : Elt W' g o A := by
  obtain ⟨t, r, l, h⟩ := h
  exact ⟨t, fun j v hv => (World.cell?_of_block (a := ⟨g, o + j, none⟩) (k.1 g hne l)).trans (r j v hv), Nat.lt_of_lt_of_le l k.2, h⟩
theorem Elt3.but {W W' : World} {g q : Nat} {A B C : Int} (h : Elt3 W g A B C) (k : ButQ q W W') (hne : g ≠ q) : Elt3 W' g A B C := by
  obtain ⟨a, b, c, r, l, h⟩ := h
  exact ⟨a, b, c, fun j v hv => (World.cell?_of_block (a := ⟨g, 0 + j, none⟩) (k.1 g hne l)).trans (r j v hv), Nat.lt_of_lt_of_le l k.2, h⟩
theorem there_but {W W' : World} {g q n : Nat} (hn : 0 < n) (h : W.there g 0 n) (k : ButQ q W W') (hne : g ≠ q) : W'.there g 0 n := by
  have hb := k.1 g hne (there_lt hn h)
  exact fun j hj => ⟨by rw [World.cell?_of_block (a := ⟨g, 0 + j, none⟩) hb]; exact (h j hj).1, by rw [World.frozen?_of_block (a := ⟨g, 0 + j, none⟩) hb]; exact (h j hj).2⟩
theorem but_set {W W' : World} {q : Nat} (n : Below W.heap.size W W') (vs : List Value)   : ButQ q W (W'.setCells q 0 vs) :=
  ⟨fun g hg hl => (setCells_other hg vs 0 W').trans (n.block g hl), by rw [heap_size_setCells]; exact n.size⟩
section
variable {ops : Array Oper} {Q : Exit → Act → World → Prop} {a0 : Act} {w : World} {id : Nat} {draw : Bool}
theorem region_new16 (k jA jV pA pV : Nat) (o : Oper) (F : Nat → Fact) (A : Int) (hT : textOk .any ops a0.tmps.size k = true) (hk : ops[k]? = some o) (hd : o.dst = none) (hop : o.op = .store 131 (.tmp pA) (.tmp pV))
    (wA : writes ops jA pA = true) (wV : writes ops jV pV = true) (FA : F jA = NB w 16) (FV : F jV = EL A) (steps : ∀ i, i < k → StepOk Tryz.prog .any ops Q F a0 w i)
    (fin : ∀ (vs : Nat → Value) (q : Nat) (W : World), vs pA = .pointer (some ⟨q, 0, none⟩) → w.heap.size ≤ q → Below w.heap.size w W → Elt W q 0 A → W.there q 0 16 → Q .normal (puts vs a0 ops.toList) W) :
    (Code.region id ops draw).wp Tryz.prog Q a0 w := by
  refine region_store k o F (by kernel_rfl) hT hk hd steps fun a W hb hw hF => ?_
  have h1 := hF jA pA wA
  have h2 := hF jV pV wV
  rw [FA] at h1
  rw [FV] at h2
  obtain ⟨_, q, eq, th, hq⟩ := h1
  obtain ⟨t, ev, L, V⟩ := h2
  refine wp_store_mid 131 (.tmp pA) (.tmp pV) hop q 0 (a16 t) eq ev (by rw [a16_size]; exact th) (by rw [a16_size]; exact i50) (a16_one t) ?_
  obtain ⟨vs, hvs⟩ : ∃ vs : Nat → Value, ∀ d, a.tmps.getD d undef = vs d := ⟨_, fun _ => rfl⟩
  rw [hd]
  show Q .normal a _
  rw [puts_of hT rfl hb vs hvs]
  exact fin vs q _ ((hvs pA).symm.trans eq) hq (below_setCells hq _ _ _ hw) (set_elt th L V) (World.there_setCells th _ _ _)
theorem region_new48 (k jA jV pA pV : Nat) (o : Oper) (F : Nat → Fact) (A B C : Int) (hT : textOk .any ops a0.tmps.size k = true) (hk : ops[k]? = some o) (hd : o.dst = none) (hop : o.op = .store 143 (.tmp pA) (.tmp pV))
    (wA : writes ops jA pA = true) (wV : writes ops jV pV = true) (FA : F jA = NB w 48) (FV : F jV = E3 A B C) (steps : ∀ i, i < k → StepOk Tryz.prog .any ops Q F a0 w i)
    (fin : ∀ (vs : Nat → Value) (q : Nat) (W : World), vs pA = .pointer (some ⟨q, 0, none⟩) → w.heap.size ≤ q → Below w.heap.size w W → Elt3 W q A B C → W.there q 0 48 → Q .normal (puts vs a0 ops.toList) W) :
    (Code.region id ops draw).wp Tryz.prog Q a0 w := by
  refine region_store k o F (by kernel_rfl) hT hk hd steps fun a W hb hw hF => ?_
  have h1 := hF jA pA wA
  have h2 := hF jV pV wV
  rw [FA] at h1
  rw [FV] at h2
  obtain ⟨_, q, eq, th, hq⟩ := h1
  obtain ⟨x, y, z, ev, hx, hy, hz⟩ := h2
  refine wp_store_mid 143 (.tmp pA) (.tmp pV) hop q 0 (c48 x y z).toArray eq ev (by rw [List.size_toArray, c48_len]; exact th) (by rw [List.size_toArray, c48_len]; exact i144) (c48_one x y z) ?_
  obtain ⟨vs, hvs⟩ : ∃ vs : Nat → Value, ∀ d, a.tmps.getD d undef = vs d := ⟨_, fun _ => rfl⟩
  rw [hd]
  show Q .normal a _
  rw [puts_of hT rfl hb vs hvs]
  exact fin vs q _ ((hvs pA).symm.trans eq) hq (below_setCells hq _ _ _ hw) (set_elt3 th hx hy hz) (World.there_setCells th _ _ _)
theorem region_put16 (k jV pD pV : Nat) (o : Oper) (F : Nat → Fact) (A : Int) (q : Nat) (hT : textOk .any ops a0.tmps.size k = true) (hk : ops[k]? = some o) (hd : o.dst = none) (hop : o.op = .store 131 (.tmp pD) (.tmp pV))
    (hp : apart ops pD = true) (h0 : a0.tmps.getD pD undef = .pointer (some ⟨q, 0, none⟩)) (ht : w.there q 0 16) (wV : writes ops jV pV = true) (FV : F jV = EL A) (steps : ∀ i, i < k → StepOk Tryz.prog .any ops Q F a0 w i)
    (fin : ∀ (vs : Nat → Value) (W W' : World), Below w.heap.size w W → ButQ q w W' → Elt W' q 0 A → W'.there q 0 16 → (∀ (w1 : World) (B : Nat), Below B w1 W → B ≤ q → Below B w1 W') → Q .normal (puts vs a0 ops.toList) W') :
    (Code.region id ops draw).wp Tryz.prog Q a0 w := by
  refine region_store k o F (by kernel_rfl) hT hk hd steps fun a W hb hw hF => ?_
  have h2 := hF jV pV wV
  rw [FV] at h2
  obtain ⟨t, ev, L, V⟩ := h2
  have th := there_up (by omega) ht hw
  refine wp_store_mid 131 (.tmp pD) (.tmp pV) hop q 0 (a16 t) ((based_at hb pD hp).trans h0) ev (by rw [a16_size]; exact th) (by rw [a16_size]; exact i50) (a16_one t) ?_
  obtain ⟨vs, hvs⟩ : ∃ vs : Nat → Value, ∀ d, a.tmps.getD d undef = vs d := ⟨_, fun _ => rfl⟩
  rw [hd]
  show Q .normal a _
  rw [puts_of hT rfl hb vs hvs]
  exact fin vs W _ hw (but_set hw _) (set_elt th L V) (World.there_setCells th _ _ _) (fun w1 B n hB => below_setCells hB _ _ _ n)
theorem region_put48 (k jV pD pV : Nat) (o : Oper) (F : Nat → Fact) (A B C : Int) (q : Nat) (hT : textOk .any ops a0.tmps.size k = true) (hk : ops[k]? = some o) (hd : o.dst = none) (hop : o.op = .store 143 (.tmp pD) (.tmp pV))
    (hp : apart ops pD = true) (h0 : a0.tmps.getD pD undef = .pointer (some ⟨q, 0, none⟩)) (ht : w.there q 0 48) (wV : writes ops jV pV = true) (FV : F jV = E3 A B C) (steps : ∀ i, i < k → StepOk Tryz.prog .any ops Q F a0 w i)
    (fin : ∀ (vs : Nat → Value) (W W' : World), Below w.heap.size w W → ButQ q w W' → Elt3 W' q A B C → W'.there q 0 48 → (∀ (w1 : World) (B : Nat), Below B w1 W → B ≤ q → Below B w1 W') → Q .normal (puts vs a0 ops.toList) W') :
    (Code.region id ops draw).wp Tryz.prog Q a0 w := by
  refine region_store k o F (by kernel_rfl) hT hk hd steps fun a W hb hw hF => ?_
  have h2 := hF jV pV wV
  rw [FV] at h2
  obtain ⟨x, y, z, ev, hx, hy, hz⟩ := h2
  have th := there_up (by omega) ht hw
  refine wp_store_mid 143 (.tmp pD) (.tmp pV) hop q 0 (c48 x y z).toArray ((based_at hb pD hp).trans h0) ev (by rw [List.size_toArray, c48_len]; exact th) (by rw [List.size_toArray, c48_len]; exact i144) (c48_one x y z) ?_
  obtain ⟨vs, hvs⟩ : ∃ vs : Nat → Value, ∀ d, a.tmps.getD d undef = vs d := ⟨_, fun _ => rfl⟩
  rw [hd]
  show Q .normal a _
  rw [puts_of hT rfl hb vs hvs]
  exact fin vs W _ hw (but_set hw _) (set_elt3 th hx hy hz) (World.there_setCells th _ _ _) (fun w1 B n hB => below_setCells hB _ _ _ n)
end
section
variable {ops : Array Oper} {Q : Exit → Act → World → Prop} {md : Region.Mode} {F : Nat → Fact} {a0 : Act} {w0 : World} {i : Nat} {o : Oper} {ts : Array TypeId}
theorem step_new16 (hi : ops[i]? = some o) (hop : o.op = .alloc 131) (hF : F i = NB w0 16) : StepOk Tryz.prog md ops Q F a0 w0 i := by
  refine step_grow hi fun a w _ hw _ => ⟨.pointer (some ⟨w.heap.size, 0, none⟩), w.alloc zObj, ?_, (Below.refl _ _).alloc (Nat.le_refl _) _, ?_⟩
  · simp only [execOp, hop]
    kernel_rfl
  · rw [hF]
    exact ⟨by omega, _, rfl, there_new w _ _, hw.size⟩
abbrev zObj48 : Obj := .cells (List.replicate 48 (Value.int .i64 0)).toArray 143
theorem step_new48 (hi : ops[i]? = some o) (hop : o.op = .alloc 143) (hF : F i = NB w0 48) : StepOk Tryz.prog md ops Q F a0 w0 i := by
  refine step_grow hi fun a w _ hw _ => ⟨.pointer (some ⟨w.heap.size, 0, none⟩), w.alloc zObj48, ?_, (Below.refl _ _).alloc (Nat.le_refl _) _, ?_⟩
  · simp only [execOp, hop]
    kernel_rfl
  · rw [hF]
    exact ⟨by omega, _, rfl, there_new w _ _, hw.size⟩
theorem step_b48 (hi : ops[i]? = some o) (p q r j k l : Nat) (A B C : Int) (hop : o.op = .build 143 #[(0, .tmp p), (1, .tmp q), (2, .tmp r)])
    (hj : waits md ops i j p = true) (hk : waits md ops i k q = true) (hl : waits md ops i l r = true) (hFj : F j = EL A) (hFk : F k = EL B) (hFl : F l = EL C) (hFi : F i = E3 A B C) : StepOk Tryz.prog md ops Q F a0 w0 i := by
  refine step_pure hi fun a w _ _ hf => ?_
  have h1 := hf j p hj
  have h2 := hf k q hk
  have h3 := hf l r hl
  rw [hFj] at h1
  rw [hFk] at h2
  rw [hFl] at h3
  obtain ⟨x, e1, X⟩ := h1
  obtain ⟨y, e2, Y⟩ := h2
  obtain ⟨z, e3, Z⟩ := h3
  refine ⟨ag48 x y z, ?_, by rw [hFi]; exact ⟨x, y, z, rfl, X, Y, Z⟩⟩
  have g1 : a.eval (.tmp p) = ag16 x := e1
  have g2 : a.eval (.tmp q) = ag16 y := e2
  have g3 : a.eval (.tmp r) = ag16 z := e3
  have g : (#[(0, Operand.tmp p), (1, Operand.tmp q), (2, Operand.tmp r)].map fun (n, x) => (n, a.eval x)) = #[(0, ag16 x), (1, ag16 y), (2, ag16 z)] := by simp [g1, g2, g3]
  simp only [execOp, hop, g]
  rw [Sem.run_bind, bu48]
  rfl
def iv (A : Int) : Int := A ^ eIv
theorem en_inv : enters Tryz.prog 121 = true := by kernel_rfl
theorem step_inv (hi : ops[i]? = some o) (p j : Nat) (A : Int) (hop : o.op = .call { callee := .value (.func 121), args := #[.tmp p], argTypes := ts })
    (hj : waits md ops i j p = true) (hFj : F j = EL A) (hFi : F i = EL (iv A)) : StepOk Tryz.prog md ops Q F a0 w0 i :=
  step_one hi _ p ts hop en_inv iv (fun w a ha => l2Inv_any w a ha) (fun _ _ h => pow_mod h _) j A hj hFj hFi
end
end Go.Proofs.YteedfhljbdnmnaaGreatDoor
namespace Go.Proofs.YteedfhljbdnmnaaGreatDoor
set_option maxRecDepth 100000
open Go.RowKit
theorem maskN (a : Nat) (ha : a < 18446744073709551616) : bits .and .u64 (a : Int) 4294967295 = ((a % 4294967296 : Nat) : Int) := by
  have h := bits_and_u64_nat a 4294967295 ha (by omega)
  have e : a &&& 4294967295 = a % 4294967296 := Nat.and_two_pow_sub_one_eq_mod a 32
  rw [e] at h
  exact h
theorem divN (a : Nat) : (a : Int) / 4294967296 = ((a / 4294967296 : Nat) : Int) := by omega
theorem mulN (a b : Nat) : (a : Int) * (b : Int) = ((a * b : Nat) : Int) := (Int.natCast_mul a b).symm
theorem addN (a b : Nat) : (a : Int) + (b : Int) = ((a + b : Nat) : Int) := (Int.natCast_add a b).symm
theorem wrapN (a : Nat) (ha : a < 18446744073709551616) : IntKind.u64.wrap (a : Int) = (a : Int) := by rw [IntKind.wrap_u64]; omega
theorem wrapM (a : Nat) : IntKind.u64.wrap (a : Int) = ((a % 18446744073709551616 : Nat) : Int) := by rw [IntKind.wrap_u64]; omega
set_option maxHeartbeats 1000000 in
theorem mul64_nat (x y : Nat) (hx : x < 18446744073709551616) (hy : y < 18446744073709551616) (w : World) :
    Calls Tryz.prog 128 #[.int .u64 x, .int .u64 y] w fun e w' => e = .returned (.tuple #[.int .u64 ((x * y / 18446744073709551616 : Nat) : Int), .int .u64 ((x * y % 18446744073709551616 : Nat) : Int)]) ∧ w' = w := by
  obtain ⟨bd, bt, bw, hhi⟩ := Lib.mul64_hi x y hx hy
  have ba := Lib.half_mul_le (a := x / 4294967296) (b := y / 4294967296) (by omega) (by omega)
  have bb := Lib.half_mul_le (a := x / 4294967296) (b := y % 4294967296) (by omega) (by omega)
  have bc := Lib.half_mul_le (a := x % 4294967296) (b := y / 4294967296) (by omega) (by omega)
  have ba' : x / 4294967296 * (y / 4294967296) < 18446744073709551616 := by omega
  have bb' : x / 4294967296 * (y % 4294967296) < 18446744073709551616 := by omega
  have bc' : x % 4294967296 * (y / 4294967296) < 18446744073709551616 := by omega
  have bh1 : x / 4294967296 * (y / 4294967296) + (x / 4294967296 * (y % 4294967296) + x % 4294967296 * (y % 4294967296) / 4294967296) / 4294967296 < 18446744073709551616 := by omega
  have bh : x / 4294967296 * (y / 4294967296) + (x / 4294967296 * (y % 4294967296) + x % 4294967296 * (y % 4294967296) / 4294967296) / 4294967296 + ((x / 4294967296 * (y % 4294967296) + x % 4294967296 * (y % 4294967296) / 4294967296) % 4294967296 + x % 4294967296 * (y / 4294967296)) / 4294967296 < 18446744073709551616 := by omega
  go_enter Tryz.func128, Tryz.ntmps128
  go_wp2
  simp only [maskN x hx, maskN y hy, divN, mulN, addN, wrapN _ bd, wrapN _ bb', wrapN _ bt, maskN _ bt, wrapN _ bc', wrapN _ bw, wrapN _ ba', wrapN _ bh1, wrapN _ bh, wrapM (x * y)]
  rw [hhi]
  go_ret2
  exact ⟨rfl, rfl⟩
theorem mul64_any (x y : Int) (hx : 0 ≤ x ∧ x < 18446744073709551616) (hy : 0 ≤ y ∧ y < 18446744073709551616) (w : World) :
    Calls Tryz.prog 128 #[.int .u64 x, .int .u64 y] w fun e w' => e = .returned (.tuple #[.int .u64 (x * y / 18446744073709551616), .int .u64 (x * y % 18446744073709551616)]) ∧ w' = w := by
  obtain ⟨m, rfl⟩ := Int.eq_ofNat_of_zero_le hx.1
  obtain ⟨n, rfl⟩ := Int.eq_ofNat_of_zero_le hy.1
  have h := mul64_nat m n (by omega) (by omega) w
  have e1 : ((m * n / 18446744073709551616 : Nat) : Int) = (m : Int) * (n : Int) / 18446744073709551616 := by rw [Int.natCast_ediv, Int.natCast_mul]; rfl
  have e2 : ((m * n % 18446744073709551616 : Nat) : Int) = (m : Int) * (n : Int) % 18446744073709551616 := by rw [Int.natCast_emod, Int.natCast_mul]; rfl
  rw [e1, e2] at h
  exact h
theorem add64_run (x y : Int) (hx : 0 ≤ x) (hy : 0 ≤ y) (w : World) :
    (callFunc 129 #[.int .u64 x, .int .u64 y, .int .u64 0]).run Tryz.prog w =
      .ok (.value (.tuple #[.int .u64 ((x + y) % 18446744073709551616), .int .u64 ((x + y) / 18446744073709551616)])) w := by
  rw [run_callFunc_extern Tryz.func129 (by kernel_rfl) (by kernel_rfl) (by kernel_rfl) (e := add64Entry) (by kernel_rfl), run_add64 x y 0 hx hy (by omega) (by omega)]
  simp only [Result.andThen, Int.add_zero]
def ag2 (h l : Int) : Value := .agg #[.int .u64 h, .int .u64 l]
set_option maxHeartbeats 4000000 in
theorem addProduct_any (w : World) (h l a b : Int) (hh : 0 ≤ h ∧ h < 18446744073709551616) (hl : 0 ≤ l ∧ l < 18446744073709551616) (ha : 0 ≤ a ∧ a < 18446744073709551616) (hb : 0 ≤ b ∧ b < 18446744073709551616)
    (hs : h * 18446744073709551616 + l + a * b < 340282366920938463463374607431768211456) :
    Calls Tryz.prog 93 #[ag2 h l, .int .u64 a, .int .u64 b] w fun e w' =>
      e = .returned (ag2 ((h * 18446744073709551616 + l + a * b) / 18446744073709551616) ((h * 18446744073709551616 + l + a * b) % 18446744073709551616)) ∧ Below w.heap.size w w' := by
  have m0 : 0 ≤ a * b := Int.mul_nonneg ha.1 hb.1
  have M := mul64_any a b ha hb
  generalize a * b = p at *
  have AD := add64_run l (p % 18446744073709551616) hl.1 (by omega)
  simp only [ag2]
  go_enter Tryz.func93, Tryz.ntmps93
  go_wp2_with fail
  refine (M _).mono ?_
  rintro e w1 ⟨rfl, rfl⟩
  have K1 : Hid ((h * 18446744073709551616 + l + p) / 18446744073709551616 = h + p / 18446744073709551616 + (l + p % 18446744073709551616) / 18446744073709551616) := by show _ = _; omega
  have K2 : Hid ((h * 18446744073709551616 + l + p) % 18446744073709551616 = (l + p % 18446744073709551616) % 18446744073709551616) := by show _ = _; omega
  have b1 : 0 ≤ p / 18446744073709551616 := by omega
  have b2 : 0 ≤ (l + p % 18446744073709551616) / 18446744073709551616 := by omega
  have b3 : h + p / 18446744073709551616 + (l + p % 18446744073709551616) / 18446744073709551616 < 18446744073709551616 := by omega
  generalize (l + p % 18446744073709551616) % 18446744073709551616 = s at *
  generalize (l + p % 18446744073709551616) / 18446744073709551616 = c at *
  generalize p / 18446744073709551616 = p1 at *
  generalize p % 18446744073709551616 = p0 at *
  clear M hs m0
  go_wp2
  refine bodyPost_ret (v := ag2 (h + p1 + c) s) (by simp [ag2, results, Tryz.results93, go_sem]) rfl ⟨by rw [K1.out, K2.out]; rfl, ?_⟩
  exact ((Below.refl _ _).alloc (Nat.le_refl _) _).alloc (by simp) _
end Go.Proofs.YteedfhljbdnmnaaGreatDoor
namespace Go.Proofs.YteedfhljbdnmnaaGreatDoor
set_option maxRecDepth 100000
open Go.RowKit
theorem or64c (z x : Int) (i m : Nat) (hm : m = 2 ^ i) (z0 : 0 ≤ z) (z1 : z < (m : Int)) (x0 : 0 ≤ x) (x1 : x * (m : Int) < 18446744073709551616) (m1 : m ≤ 18446744073709551616) :
    bits BinOp.or IntKind.u64 (x * (m : Int)) z = z + x * (m : Int) := by
  rw [← or64 z x i m hm z0 z1 x0 x1 m1]
  obtain ⟨a, rfl⟩ := Int.eq_ofNat_of_zero_le z0
  obtain ⟨b, rfl⟩ := Int.eq_ofNat_of_zero_le x0
  have e : (b : Int) * (m : Int) = ((b * m : Nat) : Int) := by simp
  rw [e] at x1 ⊢
  rw [bits_or_u64_nat a (b * m) (by omega) (by omega), bits_or_u64_nat (b * m) a (by omega) (by omega), Nat.or_comm]
theorem blk_box2 (w : World) (k : IntKind) (t : TypeId) (a b : Int) : Blk (w.alloc (.cells #[.int k a, .int k b] t)) w.heap.size k [a, b] :=
  ⟨t, by rw [heap_alloc_last]; rfl⟩
theorem blk_box9 (w : World) (k : IntKind) (t : TypeId) (a b c d e f g h i : Int) : Blk (w.alloc (.cells #[.int k a, .int k b, .int k c, .int k d, .int k e, .int k f, .int k g, .int k h, .int k i] t)) w.heap.size k [a, b, c, d, e, f, g, h, i] :=
  ⟨t, by rw [heap_alloc_last]; rfl⟩
structure MulS (w : World) (N : Nat) (e f : Nat → Int) (wr : World) : Prop where
  E : Blk wr N .u64 [e 0, e 1, e 2, e 3, e 4]
  R : Blk wr (N + 1 + 1) .u64 [0, 0, 0, 0, 0]
  F : Blk wr (N + 1 + 1 + 1) .u64 (fill (rnd f) 9)
  B : Below N w wr
theorem MulS.up {w wr wq : World} {N : Nat} {e f : Nat → Int} (h : MulS w N e f wr) (n : Below wr.heap.size wr wq) (hN : N ≤ wr.heap.size) : MulS w N e f wq :=
  ⟨h.E.up n, h.R.up n, h.F.up n, h.B.trans (n.mono hN)⟩
theorem MulS.set {w wr : World} {N g i : Nat} {e f : Nat → Int} (h : MulS w N e f wr) (hg : N + 1 + 1 + 1 < g) (v : Value) : MulS w N e f (wr.setCell ⟨g, i, none⟩ v) :=
  ⟨h.E.keep (by omega), h.R.keep (by omega), h.F.keep (by omega), h.B.setCell (by show N ≤ g; omega) v⟩
theorem MulS.drew {w wr : World} {N : Nat} {e f : Nat → Int} (h : MulS w N e f wr) : MulS w N e f wr.drew := ⟨h.E.drew, h.R.drew, h.F.drew, h.B.drew⟩
set_option maxHeartbeats 8000000 in
set_option maxRecDepth 100000 in
theorem mul_any (w : World) (e f : Nat → Int) (he : Lm e) (hf : Lm f) :
    Calls Tryz.prog 54 #[ag5 e, ag5 f] w fun r w' => r = .returned (ag5 (stl (st1 (cols e f)))) ∧ Below w.heap.size w w' := by
  have f0 := hf 0 (by omega); have f1 := hf 1 (by omega); have f2 := hf 2 (by omega); have f3 := hf 3 (by omega); have f4 := hf 4 (by omega)
  have B0 := blk_box w .u64 42 (e 0) (e 1) (e 2) (e 3) (e 4)
  have n0 : Below w.heap.size w (w.alloc (.cells #[.int .u64 (e 0), .int .u64 (e 1), .int .u64 (e 2), .int .u64 (e 3), .int .u64 (e 4)] 42)) := (Below.refl _ _).alloc (Nat.le_refl _) _
  have s0 : (w.alloc (.cells #[.int .u64 (e 0), .int .u64 (e 1), .int .u64 (e 2), .int .u64 (e 3), .int .u64 (e 4)] 42)).heap.size = w.heap.size + 1 := by simp
  simp only [ag5]
  go_enter Tryz.func54, Tryz.ntmps54
  go_wp2
  generalize w.alloc (.cells #[.int .u64 (e 0), .int .u64 (e 1), .int .u64 (e 2), .int .u64 (e 3), .int .u64 (e 4)] 42) = wa at *
  have B1 := blk_box wa .u64 42 (f 0) (f 1) (f 2) (f 3) (f 4)
  have n1 : Below wa.heap.size wa (wa.alloc (.cells #[.int .u64 (f 0), .int .u64 (f 1), .int .u64 (f 2), .int .u64 (f 3), .int .u64 (f 4)] 42)) := (Below.refl _ _).alloc (Nat.le_refl _) _
  have s1 : (wa.alloc (.cells #[.int .u64 (f 0), .int .u64 (f 1), .int .u64 (f 2), .int .u64 (f 3), .int .u64 (f 4)] 42)).heap.size = w.heap.size + 1 + 1 := by simp [s0]
  generalize wa.alloc (.cells #[.int .u64 (f 0), .int .u64 (f 1), .int .u64 (f 2), .int .u64 (f 3), .int .u64 (f 4)] 42) = wb at *
  have B2 := blk_box wb .u64 42 0 0 0 0 0
  have n2 : Below wb.heap.size wb (wb.alloc (.cells #[.int .u64 0, .int .u64 0, .int .u64 0, .int .u64 0, .int .u64 0] 42)) := (Below.refl _ _).alloc (Nat.le_refl _) _
  have s2 : (wb.alloc (.cells #[.int .u64 0, .int .u64 0, .int .u64 0, .int .u64 0, .int .u64 0] 42)).heap.size = w.heap.size + 1 + 1 + 1 := by simp [s1]
  generalize wb.alloc (.cells #[.int .u64 0, .int .u64 0, .int .u64 0, .int .u64 0, .int .u64 0] 42) = wc at *
  have B3 := blk_box9 wc .u64 111 (19 * f 1) (19 * f 2) (19 * f 3) (19 * f 4) (f 0) (f 1) (f 2) (f 3) (f 4)
  have n3 : Below wc.heap.size wc (wc.alloc (.cells #[.int .u64 (19 * f 1), .int .u64 (19 * f 2), .int .u64 (19 * f 3), .int .u64 (19 * f 4), .int .u64 (f 0), .int .u64 (f 1), .int .u64 (f 2), .int .u64 (f 3), .int .u64 (f 4)] 111)) := (Below.refl _ _).alloc (Nat.le_refl _) _
  have s3 : (wc.alloc (.cells #[.int .u64 (19 * f 1), .int .u64 (19 * f 2), .int .u64 (19 * f 3), .int .u64 (19 * f 4), .int .u64 (f 0), .int .u64 (f 1), .int .u64 (f 2), .int .u64 (f 3), .int .u64 (f 4)] 111)).heap.size = w.heap.size + 1 + 1 + 1 + 1 := by simp [s2]
  generalize wc.alloc (.cells #[.int .u64 (19 * f 1), .int .u64 (19 * f 2), .int .u64 (19 * f 3), .int .u64 (19 * f 4), .int .u64 (f 0), .int .u64 (f 1), .int .u64 (f 2), .int .u64 (f 3), .int .u64 (f 4)] 111) = wd at *
  have B4 := blk_box wd .u64 112 0 0 0 0 0
  have n4 : Below wd.heap.size wd (wd.alloc (.cells #[.int .u64 0, .int .u64 0, .int .u64 0, .int .u64 0, .int .u64 0] 112)) := (Below.refl _ _).alloc (Nat.le_refl _) _
  have s4 : (wd.alloc (.cells #[.int .u64 0, .int .u64 0, .int .u64 0, .int .u64 0, .int .u64 0] 112)).heap.size = w.heap.size + 1 + 1 + 1 + 1 + 1 := by simp [s3]
  generalize wd.alloc (.cells #[.int .u64 0, .int .u64 0, .int .u64 0, .int .u64 0, .int .u64 0] 112) = wx at *
  rw [s1] at B2
  rw [s2] at B3
  rw [s3] at B4
  have M0 : MulS w w.heap.size e f wx := ⟨(((B0.up n1).up n2).up n3).up n4, (B2.up n3).up n4, B3.up n4, nxt (nxt (nxt (nxt n0 n1) n2) n3) n4⟩
  clear B0 B1 B2 B3 n0 n1 n2 n3 n4 s0 s1 s2 s3
  have cb := fun k => cols_cr he hf k
  go_loopw [7, 34] (fun q i wr => ∃ (k : Nat) (ys : List Int), k ≤ 5 ∧ i = .int .i64 k ∧ q = .int .u64 (cr 0 (cols e f) k) ∧ Upd (lf 0 (cols e f)) (fun _ => 0) ys k ∧ MulS w w.heap.size e f wr ∧ Blk wr (w.heap.size + 1 + 1 + 1 + 1) .u64 ys ∧ w.heap.size + 1 + 1 + 1 + 1 < wr.heap.size) (fun _ i _ => 5 - (intOf i).toNat)
  case atStart => exact ⟨0, _, by omega, rfl, rfl, Upd.zero _ (fun _ => 0), M0, B4, by omega⟩
  case round =>
    clear M0 B4 s4
    obtain ⟨k, ys, hk, rfl, rfl, hU, hM, hB, hz⟩ := hrel
    by_cases hlt : k < 5
    · have ck := cb k
      have k2 : decide ((k : Int) < 5) = true := by simp; omega
      have U5 := hide hU
      have colb := fun j hj => col_bd he hf k hlt j hj
      have T0 := blk_box2 wr .u64 114 0 (cr 0 (cols e f) k)
      have nw : Below wr.heap.size wr (wr.alloc (.cells #[.int .u64 0, .int .u64 (cr 0 (cols e f) k)] 114)) := (Below.refl _ _).alloc (Nat.le_refl _) _
      have hw : wr.heap.size < (wr.alloc (.cells #[.int .u64 0, .int .u64 (cr 0 (cols e f) k)] 114)).heap.size := by simp
      have hM1 := hM.up nw (by omega)
      have hB1 := hB.up nw
      clear hU hM hB
      go_wp2
      generalize wr.alloc (.cells #[.int .u64 0, .int .u64 (cr 0 (cols e f) k)] 114) = wn at *
      obtain ⟨G, hG⟩ : ∃ G, G = wr.heap.size := ⟨_, rfl⟩
      have hGz : w.heap.size + 1 + 1 + 1 + 1 < G := by omega
      rw [← hG] at T0 hw ⊢
      clear hG nw hz
      obtain ⟨C, hC⟩ : ∃ C, C = cr 0 (cols e f) k := ⟨_, rfl⟩
      have hC' := hide hC
      rw [← hC] at T0 ck ⊢
      clear hC
      go_loopw [39] (fun i wq => ∃ (j : Nat), j ≤ 5 ∧ i = .int .i64 j ∧ MulS w w.heap.size e f wq ∧ Blk wq (w.heap.size + 1 + 1 + 1 + 1) .u64 ys ∧ Blk wq G .u64 [(C + col e f k j) / 18446744073709551616, (C + col e f k j) % 18446744073709551616] ∧ G < wq.heap.size) (fun i _ => 5 - (intOf i).toNat)
      case atStart =>
        refine ⟨0, by omega, rfl, hM1, hB1, ?_, hw⟩
        have e0 : (C + col e f k 0) / 18446744073709551616 = 0 := by simp only [col]; omega
        have e1 : (C + col e f k 0) % 18446744073709551616 = C := by simp only [col]; omega
        rw [e0, e1]
        exact T0
      case round =>
        clear hM1 hB1 T0 hw wn
        obtain ⟨j, hj, rfl, hM, hB, hT, hz⟩ := hrel
        by_cases hjt : j < 5
        · have ce := hM.E.at5 hjt
          have eb := he j hjt
          have rb := rnd_bd hf (4 + k - j) (by omega)
          have cf : wr.cell? ⟨w.heap.size + 1 + 1 + 1, 4 + k - j, none⟩ = some (.int .u64 (rnd f (4 + k - j))) := by rw [hM.F.cell (by rw [fill_len]; omega), fill_get _ _ _ (by omega)]
          have cj := colb j (by omega)
          have cj' := colb (j + 1) (by omega)
          have cs : col e f k (j + 1) = col e f k j + e j * rnd f (4 + k - j) := rfl
          obtain ⟨⟨t0, t1⟩, g0, g1⟩ : (wr.cell? ⟨G, 0, none⟩ = some (.int .u64 ((C + col e f k j) / 18446744073709551616)) ∧ wr.cell? ⟨G, 1, none⟩ = some (.int .u64 ((C + col e f k j) % 18446744073709551616))) ∧ wr.frozen? ⟨G, 0, none⟩ = false ∧ wr.frozen? ⟨G, 1, none⟩ = false :=
            ⟨⟨hT.cell (i := 0) (by simp), hT.cell (i := 1) (by simp)⟩, hT.free 0, hT.free 1⟩
          have AP : ∀ W, (∃ n, W = wr.drewN n) → Calls Tryz.prog 93 #[.agg #[.int .u64 ((C + col e f k j) / 18446744073709551616), .int .u64 ((C + col e f k j) % 18446744073709551616)], .int .u64 (e j), .int .u64 (rnd f (4 + k - j))] W fun r w' =>
              r = .returned (.agg #[.int .u64 ((C + col e f k (j + 1)) / 18446744073709551616), .int .u64 ((C + col e f k (j + 1)) % 18446744073709551616)]) ∧ Below wr.heap.size wr w' := by
            rintro W ⟨n, rfl⟩
            have e1 : (C + col e f k j) / 18446744073709551616 * 18446744073709551616 + (C + col e f k j) % 18446744073709551616 + e j * rnd f (4 + k - j) = C + col e f k (j + 1) := by rw [cs]; omega
            have h := addProduct_any (wr.drewN n) ((C + col e f k j) / 18446744073709551616) ((C + col e f k j) % 18446744073709551616) (e j) (rnd f (4 + k - j)) ⟨by omega, by omega⟩ ⟨by omega, by omega⟩ ⟨by omega, by omega⟩ ⟨by omega, by omega⟩ (by rw [e1]; omega)
            rw [e1] at h
            refine h.mono ?_
            rintro r w' ⟨rfl, n'⟩
            exact ⟨rfl, (below_drewN (Below.refl wr.heap.size wr) n).trans n'⟩
          have FIN : ∀ w', Below wr.heap.size wr w' → MulS w w.heap.size e f ((w'.setCell ⟨G, 0, none⟩ (.int .u64 ((C + col e f k (j + 1)) / 18446744073709551616))).setCell ⟨G, 1, none⟩ (.int .u64 ((C + col e f k (j + 1)) % 18446744073709551616))) ∧ Blk ((w'.setCell ⟨G, 0, none⟩ (.int .u64 ((C + col e f k (j + 1)) / 18446744073709551616))).setCell ⟨G, 1, none⟩ (.int .u64 ((C + col e f k (j + 1)) % 18446744073709551616))) (w.heap.size + 1 + 1 + 1 + 1) .u64 ys ∧
              Blk ((w'.setCell ⟨G, 0, none⟩ (.int .u64 ((C + col e f k (j + 1)) / 18446744073709551616))).setCell ⟨G, 1, none⟩ (.int .u64 ((C + col e f k (j + 1)) % 18446744073709551616))) G .u64 [(C + col e f k (j + 1)) / 18446744073709551616, (C + col e f k (j + 1)) % 18446744073709551616] ∧ G < ((w'.setCell ⟨G, 0, none⟩ (.int .u64 ((C + col e f k (j + 1)) / 18446744073709551616))).setCell ⟨G, 1, none⟩ (.int .u64 ((C + col e f k (j + 1)) % 18446744073709551616))).heap.size := by
            intro w' n'
            have hq := hM.B.size
            refine ⟨((hM.up n' (by omega)).set (by omega) _).set (by omega) _, ((hB.up n').keep (by omega)).keep (by omega), ((hT.up n').store 0 _).store 1 _, ?_⟩
            have := n'.size
            simp [World.setCell]
            omega
          have KC : ∀ w', Below wr.heap.size wr w' → (w'.cell? ⟨G, 0, none⟩ = some (.int .u64 ((C + col e f k j) / 18446744073709551616)) ∧ w'.cell? ⟨G, 1, none⟩ = some (.int .u64 ((C + col e f k j) % 18446744073709551616))) ∧ w'.frozen? ⟨G, 0, none⟩ = false ∧ w'.frozen? ⟨G, 1, none⟩ = false := fun w' n' =>
            ⟨⟨(hT.up n').cell (i := 0) (by simp), (hT.up n').cell (i := 1) (by simp)⟩, (hT.up n').free 0, (hT.up n').free 1⟩
          have AP' := hide AP
          have FIN' := hide FIN
          have KC' := hide KC
          obtain ⟨p, hp⟩ : ∃ p : Nat, 4 + k - j = p := ⟨_, rfl⟩
          rw [hp] at cf AP'
          have i1 : (4 : Int) + (k : Int) - (j : Int) = (p : Int) := by omega
          have i2 : IntKind.i64.wrap ((4 : Int) + (k : Int)) = 4 + (k : Int) := by rw [IntKind.wrap_i64]; omega
          have i3 : IntKind.i64.wrap (p : Int) = (p : Int) := by rw [IntKind.wrap_i64]; omega
          have i4 : (p : Int) < 9 := by omega
          have i5 : (j : Int) < 5 := by omega
          generalize rnd f p = y at *
          generalize e j = x at *
          generalize (C + col e f k j) / 18446744073709551616 = th at *
          generalize (C + col e f k j) % 18446744073709551616 = tl at *
          obtain ⟨uh, hu1⟩ : ∃ u, (C + col e f k (j + 1)) / 18446744073709551616 = u := ⟨_, rfl⟩
          obtain ⟨ul, hu2⟩ : ∃ u, (C + col e f k (j + 1)) % 18446744073709551616 = u := ⟨_, rfl⟩
          have hU1 := hide hu1
          have hU2 := hide hu2
          rw [hu1, hu2] at AP' FIN'
          clear hu1 hu2
          clear hT hB hM AP FIN KC colb cj cj' cs rb hp f0 f1 f2 f3 f4 cb ck U5
          go_wp2
          go_region_with (go_at_call 93; refine ((unhide AP') _ ?_).mono ?_; exact ⟨1, rfl⟩; rintro r w' ⟨rfl, n'⟩; obtain ⟨⟨t0', t1'⟩, g0', g1'⟩ := (unhide KC') w' n')
          all_goals
            have F := hide ((unhide FIN') w' n')
            generalize (w'.setCell ⟨G, 0, none⟩ (.int .u64 uh)).setCell ⟨G, 1, none⟩ (.int .u64 ul) = wz at *
            clear i1 i2 i3 t0 t1 t0' t1' g0 g1 g0' g1'
            go_wp2
            go_roundw
            case rel =>
              obtain ⟨F1, F2, F3, F4⟩ := F.out
              exact ⟨j + 1, by omega, by go_num, F1, F2, by rw [hU1.out, hU2.out]; exact F3, F4⟩
            case measure => simp [intOf]; omega
        · obtain rfl : j = 5 := by omega
          have c5 := colb 5 (by omega)
          have hU := U5.out
          have R := hU.step hlt
          have E1 : lf 0 (cols e f) k = (C + col e f k 5) % 2251799813685248 := by
            unfold lf
            rw [hC'.out, show cols e f k = col e f k 5 by simp [cols, hlt]]
          have E2 : cr 0 (cols e f) (k + 1) = (C + col e f k 5) / 2251799813685248 := by
            rw [cr, hC'.out, show cols e f k = col e f k 5 by simp [cols, hlt]]
          have hcy := hB.cell (i := k) (by rw [hU.1]; exact hlt)
          have hfy := hB.free k
          have t0 : wr.cell? ⟨G, 0, none⟩ = some (.int .u64 ((C + col e f k 5) / 18446744073709551616)) := hT.cell (i := 0) (by simp)
          have t1 : wr.cell? ⟨G, 1, none⟩ = some (.int .u64 ((C + col e f k 5) % 18446744073709551616)) := hT.cell (i := 1) (by simp)
          have v1 : (C + col e f k 5) % 18446744073709551616 % 2251799813685248 = (C + col e f k 5) % 2251799813685248 := by omega
          have v2 : (C + col e f k 5) % 18446744073709551616 / 2251799813685248 + (C + col e f k 5) / 18446744073709551616 * 8192 = (C + col e f k 5) / 2251799813685248 := by omega
          have b1 : 0 ≤ (C + col e f k 5) / 18446744073709551616 ∧ (C + col e f k 5) / 18446744073709551616 < 2251799813685248 := ⟨by omega, by omega⟩
          have b2 : 0 ≤ (C + col e f k 5) % 18446744073709551616 ∧ (C + col e f k 5) % 18446744073709551616 < 18446744073709551616 := ⟨by omega, by omega⟩
          rw [E1, ← v1] at R
          rw [← v2] at E2
          have E2' := hide E2
          generalize (C + col e f k 5) / 18446744073709551616 = th at *
          generalize (C + col e f k 5) % 18446744073709551616 = tl at *
          have m1 := mask51 tl b2.1 b2.2
          have o1 : bits BinOp.or IntKind.u64 (th * 8192) (tl / 2251799813685248) = tl / 2251799813685248 + th * 8192 := or64c (tl / 2251799813685248) th 13 8192 (by decide) (by omega) (by omega) (by omega) (by omega) (by decide)
          have S := hB.store k (tl % 2251799813685248)
          have SM := hM.set (g := w.heap.size + 1 + 1 + 1 + 1) (i := k) (by omega) (.int .u64 (tl % 2251799813685248))
          have SG : w.heap.size + 1 + 1 + 1 + 1 < (wr.setCell ⟨w.heap.size + 1 + 1 + 1 + 1, k, none⟩ (.int .u64 (tl % 2251799813685248))).heap.size := by simp [World.setCell]; omega
          have GN : G ≠ w.heap.size + 1 + 1 + 1 + 1 := by omega
          have R' := hide R
          clear hU hB hM hT U5 E1 E2 v1 v2 colb c5 ck cb hC' R f0 f1 f2 f3 f4
          go_wp2
          go_roundw
          case rel => exact ⟨k + 1, _, by omega, by go_num, by rw [E2'.out], R'.out, SM, S, SG⟩
          case measure => simp [intOf]; omega
    · obtain rfl : k = 5 := by omega
      have hy := hU.all
      subst hy
      have A := mul_ok he hf
      have l0 := lf_bd 0 (cols e f) 0
      have c5 := cb 5
      obtain ⟨⟨q0, q1, q2, q3, q4⟩, z0, _⟩ := hB.f5
      have SM := hM.set (g := w.heap.size + 1 + 1 + 1 + 1) (i := 0) (by omega) (.int .u64 (lf 0 (cols e f) 0 + 19 * cr 0 (cols e f) 5))
      clear hU hB hM cb f0 f1 f2 f3 f4
      go_wp2_with fail
      generalize wr.setCell ⟨w.heap.size + 1 + 1 + 1 + 1, 0, none⟩ (.int .u64 (lf 0 (cols e f) 0 + 19 * cr 0 (cols e f) 5)) = wy at *
      refine (settle_any wy (st1 (cols e f)) A.1).mono ?_
      rintro r w1 ⟨rfl, n1⟩
      obtain ⟨⟨p0, p1, p2, p3, p4⟩, ⟨g0, g1, g2, g3, g4⟩⟩ := (SM.R.up n1).f5
      have N1 := nxt SM.B n1
      obtain ⟨t, ht⟩ : ∃ t, t = stl (st1 (cols e f)) := ⟨_, rfl⟩
      have hT : Hid (t = stl (st1 (cols e f))) := ht
      rw [← ht]
      clear SM A n1 q0 q1 q2 q3 q4 ht
      simp only [ag5]
      go_wp2
      exact bodyPost_ret (v := ag5 t) (by simp [ag5, results, Tryz.results54, go_sem, p0, p1, p2, p3, p4]) rfl ⟨by rw [hT.out]; rfl, below_set5 N1 (by omega) _ _ _ _ _⟩
end Go.Proofs.YteedfhljbdnmnaaGreatDoor
namespace Go.Proofs.YteedfhljbdnmnaaGreatDoor
set_option maxRecDepth 100000
open Go.RowKit
theorem mulE_any (w : World) (e f : Nat → Int) (he : Lm e) (hf : Lm f) :
    Calls Tryz.prog 54 #[ag5 e, ag5 f] w fun r w' => ∃ t, r = .returned (ag5 t) ∧ Lm t ∧ sv t 5 = (sv e 5 * sv f 5) % PP ∧ Below w.heap.size w w' := by
  refine (mul_any w e f he hf).mono ?_
  rintro r w' ⟨rfl, n⟩
  obtain ⟨_, h2, h3⟩ := mul_ok he hf
  exact ⟨_, rfl, h3, h2, n⟩
end Go.Proofs.YteedfhljbdnmnaaGreatDoor
namespace Go.Proofs.YteedfhljbdnmnaaGreatDoor
set_option maxRecDepth 100000
open Go.RowKit
def Elm (e : Nat → Int) : Prop := Lm e ∧ sv e 5 < PP
theorem Elm.nonneg {e : Nat → Int} (h : Elm e) : 0 ≤ sv e 5 := h.1.bd.1
theorem Elm.of {e : Nat → Int} {v : Int} (h : Lm e) (hv : sv e 5 = v % PP) : Elm e := ⟨h, by rw [hv]; exact Int.emod_lt_of_pos _ (by decide)⟩
theorem Elm.mod {e : Nat → Int} (h : Elm e) : sv e 5 % PP = sv e 5 := Int.emod_eq_of_lt h.nonneg h.2
theorem sq_pow (x : Int) (k : Nat) : (x ^ 2 ^ k % PP) * (x ^ 2 ^ k % PP) % PP = x ^ 2 ^ (k + 1) % PP := by
  rw [← Int.mul_emod, ← Int.pow_add, Nat.pow_succ, Nat.mul_comm, Nat.two_mul]
set_option maxHeartbeats 2000000 in
theorem square_any (w : World) (e : Nat → Int) (he : Lm e) :
    Calls Tryz.prog 92 #[ag5 e] w fun r w' => ∃ t, r = .returned (ag5 t) ∧ Lm t ∧ sv t 5 = (sv e 5 * sv e 5) % PP ∧ Below w.heap.size w w' := by
  have B0 := blk_box w .u64 42 (e 0) (e 1) (e 2) (e 3) (e 4)
  have n0 : Below w.heap.size w (w.alloc (.cells #[.int .u64 (e 0), .int .u64 (e 1), .int .u64 (e 2), .int .u64 (e 3), .int .u64 (e 4)] 42)) := (Below.refl _ _).alloc (Nat.le_refl _) _
  have s0 : (w.alloc (.cells #[.int .u64 (e 0), .int .u64 (e 1), .int .u64 (e 2), .int .u64 (e 3), .int .u64 (e 4)] 42)).heap.size = w.heap.size + 1 := by simp
  have M := fun w => mulE_any w e e he he
  simp only [ag5] at M ⊢
  go_enter Tryz.func92, Tryz.ntmps92
  go_wp2_with fail
  generalize w.alloc (.cells #[.int .u64 (e 0), .int .u64 (e 1), .int .u64 (e 2), .int .u64 (e 3), .int .u64 (e 4)] 42) = wa at *
  have B1 := blk_box wa .u64 42 0 0 0 0 0
  have n1 : Below wa.heap.size wa (wa.alloc (.cells #[.int .u64 0, .int .u64 0, .int .u64 0, .int .u64 0, .int .u64 0] 42)) := (Below.refl _ _).alloc (Nat.le_refl _) _
  rw [s0] at B1
  generalize wa.alloc (.cells #[.int .u64 0, .int .u64 0, .int .u64 0, .int .u64 0, .int .u64 0] 42) = wb at *
  have N1 := nxt n0 n1
  refine (M wb).mono ?_
  rintro r w1 ⟨t, rfl, L, V, n2⟩
  obtain ⟨⟨p0, p1, p2, p3, p4⟩, ⟨g0, g1, g2, g3, g4⟩⟩ := (B1.up n2).f5
  have N2 := nxt N1 n2
  have V' := hide V
  clear M B0 B1 n0 n1 n2 N1 V s0
  go_wp2
  exact bodyPost_ret (v := ag5 t) (by simp [ag5, results, Tryz.results92, go_sem, p0, p1, p2, p3, p4]) rfl ⟨t, rfl, L, V'.out, below_set5 N2 (by omega) _ _ _ _ _⟩
set_option maxHeartbeats 2000000 in
theorem squareTimes_any (w : World) (e : Nat → Int) (he : Elm e) (n : Nat) (hn : n ≤ 1000) :
    Calls Tryz.prog 130 #[ag5 e, .int .i64 n] w fun r w' => ∃ t, r = .returned (ag5 t) ∧ Lm t ∧ sv t 5 = sv e 5 ^ 2 ^ n % PP ∧ Below w.heap.size w w' := by
  have B0 := blk_box w .u64 42 (e 0) (e 1) (e 2) (e 3) (e 4)
  have n0 : Below w.heap.size w (w.alloc (.cells #[.int .u64 (e 0), .int .u64 (e 1), .int .u64 (e 2), .int .u64 (e 3), .int .u64 (e 4)] 42)) := (Below.refl _ _).alloc (Nat.le_refl _) _
  have s0 : (w.alloc (.cells #[.int .u64 (e 0), .int .u64 (e 1), .int .u64 (e 2), .int .u64 (e 3), .int .u64 (e 4)] 42)).heap.size = w.heap.size + 1 := by simp
  simp only [ag5]
  go_enter Tryz.func130, Tryz.ntmps130
  go_wp2
  generalize w.alloc (.cells #[.int .u64 (e 0), .int .u64 (e 1), .int .u64 (e 2), .int .u64 (e 3), .int .u64 (e 4)] 42) = wa at *
  have B1 := blk_box wa .u64 42 0 0 0 0 0
  have n1 : Below wa.heap.size wa (wa.alloc (.cells #[.int .u64 0, .int .u64 0, .int .u64 0, .int .u64 0, .int .u64 0] 42)) := (Below.refl _ _).alloc (Nat.le_refl _) _
  rw [s0] at B1
  have s1 : (wa.alloc (.cells #[.int .u64 0, .int .u64 0, .int .u64 0, .int .u64 0, .int .u64 0] 42)).heap.size = w.heap.size + 2 := by simp [s0]
  generalize wa.alloc (.cells #[.int .u64 0, .int .u64 0, .int .u64 0, .int .u64 0, .int .u64 0] 42) = wb at *
  have E0 := B0.up n1
  have N1 := nxt n0 n1
  go_loopw [6] (fun i wr => ∃ (k : Nat) (t : Nat → Int), k ≤ n ∧ i = .int .i64 k ∧ (Lm t ∧ sv t 5 = sv e 5 ^ 2 ^ k % PP) ∧ Blk wr w.heap.size .u64 [t 0, t 1, t 2, t 3, t 4] ∧ Blk wr (w.heap.size + 1) .u64 [0, 0, 0, 0, 0] ∧ w.heap.size + 1 < wr.heap.size ∧ Below w.heap.size w wr) (fun i _ => n - (intOf i).toNat)
  case atStart => exact ⟨0, e, by omega, rfl, ⟨he.1, by rw [Nat.pow_zero, Int.pow_one, he.mod]⟩, E0, B1, by omega, N1⟩
  case round =>
    clear E0 B1 B0 n0 n1 s0 s1 N1
    obtain ⟨k, t, hk, rfl, ht, hB, hR, hz, hN⟩ := hrel
    obtain ⟨⟨q0, q1, q2, q3, q4⟩, ⟨z0, z1, z2, z3, z4⟩⟩ := hB.f5
    by_cases hlt : k < n
    · have M := square_any wr t ht.1
      simp only [ag5] at M
      have k2 : (k : Int) < (n : Int) := by omega
      have Ht := hide ht
      clear ht
      go_wp2_with fail
      refine M.mono ?_
      rintro r w1 ⟨u, rfl, L, V, n2⟩
      have hB2 := hB.up n2
      obtain ⟨⟨x0, x1, x2, x3, x4⟩, ⟨y0, y1, y2, y3, y4⟩⟩ := hB2.f5
      have S : Blk (((((w1.setCell ⟨w.heap.size, 0, none⟩ (.int .u64 (u 0))).setCell ⟨w.heap.size, 1, none⟩ (.int .u64 (u 1))).setCell ⟨w.heap.size, 2, none⟩ (.int .u64 (u 2))).setCell ⟨w.heap.size, 3, none⟩ (.int .u64 (u 3))).setCell ⟨w.heap.size, 4, none⟩ (.int .u64 (u 4))) w.heap.size .u64 [u 0, u 1, u 2, u 3, u 4] := ((((hB2.store 0 _).store 1 _).store 2 _).store 3 _).store 4 _
      have hne : w.heap.size + 1 ≠ w.heap.size := by omega
      have SR : Blk (((((w1.setCell ⟨w.heap.size, 0, none⟩ (.int .u64 (u 0))).setCell ⟨w.heap.size, 1, none⟩ (.int .u64 (u 1))).setCell ⟨w.heap.size, 2, none⟩ (.int .u64 (u 2))).setCell ⟨w.heap.size, 3, none⟩ (.int .u64 (u 3))).setCell ⟨w.heap.size, 4, none⟩ (.int .u64 (u 4))) (w.heap.size + 1) .u64 [0, 0, 0, 0, 0] := (((((hR.up n2).keep hne).keep hne).keep hne).keep hne).keep hne
      have SN := below_set5 (nxt hN n2) (Nat.le_refl w.heap.size) (.int .u64 (u 0)) (.int .u64 (u 1)) (.int .u64 (u 2)) (.int .u64 (u 3)) (.int .u64 (u 4))
      have SZ : w.heap.size + 1 < (((((w1.setCell ⟨w.heap.size, 0, none⟩ (.int .u64 (u 0))).setCell ⟨w.heap.size, 1, none⟩ (.int .u64 (u 1))).setCell ⟨w.heap.size, 2, none⟩ (.int .u64 (u 2))).setCell ⟨w.heap.size, 3, none⟩ (.int .u64 (u 3))).setCell ⟨w.heap.size, 4, none⟩ (.int .u64 (u 4))).heap.size := by
        have := n2.size
        simp [World.setCell]; omega
      have V' : Hid (sv u 5 = sv e 5 ^ 2 ^ (k + 1) % PP) := by show _ = _; rw [V, Ht.out.2, sq_pow]
      clear M hB hR hN n2 hB2 V hne q0 q1 q2 q3 q4 z0 z1 z2 z3 z4
      go_wp2
      go_roundw
      case rel => exact ⟨k + 1, u, by omega, by go_num, ⟨L, V'.out⟩, S, SR, SZ, SN⟩
      case measure => simp [intOf]; omega
    · obtain rfl : k = n := by omega
      obtain ⟨⟨p0, p1, p2, p3, p4⟩, ⟨g0, g1, g2, g3, g4⟩⟩ := hR.f5
      have Ht := hide ht
      clear ht hB hR
      go_wp2
      exact bodyPost_ret (v := ag5 t) (by simp [ag5, results, Tryz.results130, go_sem, p0, p1, p2, p3, p4]) rfl ⟨t, rfl, Ht.out.1, Ht.out.2, below_set5 hN (by omega) _ _ _ _ _⟩
end Go.Proofs.YteedfhljbdnmnaaGreatDoor
namespace Go.Proofs.YteedfhljbdnmnaaGreatDoor
set_option maxRecDepth 100000
open Go.RowKit
def stL : List Int := [1, 1, 0, 2, 2, 1, 3, 0, 2, 4, 1, 3, 5, 5, 5, 6, 10, 6, 7, 20, 7, 8, 10, 6, 9, 50, 9, 10, 100, 10, 11, 50, 9]
def HasSt (w : World) (g : Nat) : Prop := ∀ i, i < 33 → w.cell? ⟨g, i, none⟩ = some (.int .i64 (stL.getD i 0))
theorem HasSt.lt {w : World} {g : Nat} (h : HasSt w g) : g < w.heap.size := block_lt_of_cell (h 0 (by omega))
theorem HasSt.up {w w' : World} {g : Nat} (h : HasSt w g) (n : Below w.heap.size w w') : HasSt w' g := fun i hi => (World.cell?_of_block (a := ⟨g, i, none⟩) (n.block g h.lt)).trans (h i hi)
def stA : Array Value := (stL.map (Value.int .i64)).toArray
theorem u86 : Tryz.prog.underlying 149 = some (.array 11 118) := by kernel_rfl
theorem i86 : (Tryz.prog.info? 149).map (·.size) = some stA.toList.length := by kernel_rfl
theorem HasSt.range {W : World} {g : Nat} (h : HasSt W g) : W.rangeAt g 0 stA.toList := by
  intro j v hv
  have hj : j < 33 := by
    have := (List.getElem?_eq_some_iff.1 hv).1
    simpa [stA, stL] using this
  have e : stA.toList[j]? = some (Value.int .i64 (stL.getD j 0)) := by
    have hl : j < stL.length := hj
    simp [stA, hl]
  rw [Nat.zero_add, h j hj, ← e]; exact hv
def pw0 (e : Nat → Int) : List Int := [1, 0, 0, 0, 0, e 0, e 1, e 2, e 3, e 4] ++ List.replicate 55 0
theorem z85 : Tryz.zeroCells148 = ((List.replicate 65 0).map (Value.int .u64)).toArray := by kernel_rfl
theorem i85 : (Tryz.prog.info? 148).map (·.size) = some 65 := by kernel_rfl
theorem blk_box3 (w : World) (k : IntKind) (t : TypeId) (a b c : Int) : Blk (w.alloc (.cells #[.int k a, .int k b, .int k c] t)) w.heap.size k [a, b, c] :=
  ⟨t, by rw [heap_alloc_last]; rfl⟩
theorem pw0_laid (w : World) (e : Nat → Int) : (storeCells ⟨w.heap.size, 0, none⟩ ((((((((((Tryz.zeroCells148.toList.set 0 (Value.int IntKind.u64 1)).set 1 (Value.int IntKind.u64 0)).set 2 (Value.int IntKind.u64 0)).set 3 (Value.int IntKind.u64 0)).set 4 (Value.int IntKind.u64 0)).set 5 (Value.int IntKind.u64 (e 0))).set 6 (Value.int IntKind.u64 (e 1))).set 7 (Value.int IntKind.u64 (e 2))).set 8 (Value.int IntKind.u64 (e 3))).set 9 (Value.int IntKind.u64 (e 4))) 0).run Tryz.prog (w.alloc (.cells Tryz.zeroCells148 148)) =
    .ok () (w.alloc (.cells ((pw0 e).map (Value.int .u64)).toArray 148)) := by
  have h := run_storeCells_new (P := Tryz.prog) w 148 Tryz.zeroCells148 ((pw0 e).map (Value.int .u64)).toArray (by rw [i85]; rfl) (by rw [z85]; rfl) (by simp [pw0, Value.oneCell'])
  rw [← h]
  congr 2
def exL : List Nat := [0, 1, 2, 9, 11, 31, 1023, 1048575, 1099511627775, 1125899906842623, 1267650600228229401496703205375, 1606938044258990275541962092341162602522202993782792835301375, 1809251394333065553493296640760748560207343510400633813116524750123642650623]
def PwTo (e : Nat → Int) (ys : List Int) (m : Nat) : Prop := ys.length = 65 ∧ ∀ j, j < m → ∃ t, (Lm t ∧ sv t 5 = sv e 5 ^ exL.getD j 0 % PP) ∧ ∀ i, i < 5 → ys.getD (5 * j + i) 0 = t i
theorem PwTo.zero {e : Nat → Int} (he : Elm e) : PwTo e (pw0 e) (0 + 2) := by
  refine ⟨rfl, fun j hj => ?_⟩
  obtain rfl | rfl : j = 0 ∨ j = 1 := by omega
  · refine ⟨fun i => if i = 0 then 1 else 0, ⟨fun i _ => by dsimp only; split <;> omega, ?_⟩, fun i hi => ?_⟩
    · show _ = sv e 5 ^ 0 % PP
      rw [Int.pow_zero]
      decide
    · obtain rfl | rfl | rfl | rfl | rfl : i = 0 ∨ i = 1 ∨ i = 2 ∨ i = 3 ∨ i = 4 := by omega
      all_goals rfl
  · refine ⟨e, ⟨he.1, ?_⟩, fun i hi => ?_⟩
    · show _ = sv e 5 ^ 1 % PP
      rw [Int.pow_one, he.mod]
    · obtain rfl | rfl | rfl | rfl | rfl : i = 0 ∨ i = 1 ∨ i = 2 ∨ i = 3 ∨ i = 4 := by omega
      all_goals rfl
theorem st_tab : ∀ k, k < 11 → ∃ a b c : Nat, a < k + 2 ∧ b ≤ 100 ∧ c < k + 2 ∧ exL.getD (k + 2) 0 = exL.getD a 0 * 2 ^ b + exL.getD c 0 ∧
    ∀ W, (Instr.index 149 (.agg stA) (.int .i64 (k : Int))).run Tryz.prog W = .ok (.agg #[.int .i64 (a : Int), .int .i64 (b : Int), .int .i64 (c : Int)]) W := by
  intro k hk
  obtain rfl | rfl | rfl | rfl | rfl | rfl | rfl | rfl | rfl | rfl | rfl : k = 0 ∨ k = 1 ∨ k = 2 ∨ k = 3 ∨ k = 4 ∨ k = 5 ∨ k = 6 ∨ k = 7 ∨ k = 8 ∨ k = 9 ∨ k = 10 := by omega
  · exact ⟨1, 1, 0, by decide, by decide, by decide, by decide +kernel, fun W => by kernel_rfl⟩
  · exact ⟨2, 2, 1, by decide, by decide, by decide, by decide +kernel, fun W => by kernel_rfl⟩
  · exact ⟨3, 0, 2, by decide, by decide, by decide, by decide +kernel, fun W => by kernel_rfl⟩
  · exact ⟨4, 1, 3, by decide, by decide, by decide, by decide +kernel, fun W => by kernel_rfl⟩
  · exact ⟨5, 5, 5, by decide, by decide, by decide, by decide +kernel, fun W => by kernel_rfl⟩
  · exact ⟨6, 10, 6, by decide, by decide, by decide, by decide +kernel, fun W => by kernel_rfl⟩
  · exact ⟨7, 20, 7, by decide, by decide, by decide, by decide +kernel, fun W => by kernel_rfl⟩
  · exact ⟨8, 10, 6, by decide, by decide, by decide, by decide +kernel, fun W => by kernel_rfl⟩
  · exact ⟨9, 50, 9, by decide, by decide, by decide, by decide +kernel, fun W => by kernel_rfl⟩
  · exact ⟨10, 100, 10, by decide, by decide, by decide, by decide +kernel, fun W => by kernel_rfl⟩
  · exact ⟨11, 50, 9, by decide, by decide, by decide, by decide +kernel, fun W => by kernel_rfl⟩
theorem Blk.mid5 {w : World} {g : Nat} {k : IntKind} {ys : List Int} (h : Blk w g k ys) (o : Nat) (ho : o + 5 ≤ ys.length) :
    (w.cell? ⟨g, o, none⟩ = some (.int k (ys.getD o 0)) ∧ w.cell? ⟨g, o + 1, none⟩ = some (.int k (ys.getD (o + 1) 0)) ∧ w.cell? ⟨g, o + 2, none⟩ = some (.int k (ys.getD (o + 2) 0)) ∧ w.cell? ⟨g, o + 3, none⟩ = some (.int k (ys.getD (o + 3) 0)) ∧ w.cell? ⟨g, o + 4, none⟩ = some (.int k (ys.getD (o + 4) 0))) ∧
    (w.frozen? ⟨g, o, none⟩ = false ∧ w.frozen? ⟨g, o + 1, none⟩ = false ∧ w.frozen? ⟨g, o + 2, none⟩ = false ∧ w.frozen? ⟨g, o + 3, none⟩ = false ∧ w.frozen? ⟨g, o + 4, none⟩ = false) :=
  ⟨⟨h.cell (by omega), h.cell (by omega), h.cell (by omega), h.cell (by omega), h.cell (by omega)⟩, h.free _, h.free _, h.free _, h.free _, h.free _⟩
theorem Blk.at5o {w : World} {g : Nat} {ys : List Int} {t : Nat → Int} {a : Nat} (h : Blk w g .u64 ys) (ha : a * 5 + 5 ≤ ys.length) (hy : ∀ i, i < 5 → ys.getD (5 * a + i) 0 = t i) :
    w.cell? ⟨g, a * 5, none⟩ = some (.int .u64 (t 0)) ∧ w.cell? ⟨g, a * 5 + 1, none⟩ = some (.int .u64 (t 1)) ∧ w.cell? ⟨g, a * 5 + 2, none⟩ = some (.int .u64 (t 2)) ∧ w.cell? ⟨g, a * 5 + 3, none⟩ = some (.int .u64 (t 3)) ∧ w.cell? ⟨g, a * 5 + 4, none⟩ = some (.int .u64 (t 4)) := by
  obtain ⟨h0, h1, h2, h3, h4⟩ := (h.mid5 (a * 5) ha).1
  rw [Nat.mul_comm a 5] at *
  rw [h0, h1, h2, h3, h4, ← hy 0 (by omega), ← hy 1 (by omega), ← hy 2 (by omega), ← hy 3 (by omega), ← hy 4 (by omega)]
  exact ⟨rfl, rfl, rfl, rfl, rfl⟩
def sety (ys : List Int) (o : Nat) (u : Nat → Int) : List Int := ((((ys.set o (u 0)).set (o + 1) (u 1)).set (o + 2) (u 2)).set (o + 3) (u 3)).set (o + 4) (u 4)
theorem sety_other (ys : List Int) (o : Nat) (u : Nat → Int) (j : Nat) (h : j < o ∨ o + 5 ≤ j) : (sety ys o u).getD j 0 = ys.getD j 0 := by
  unfold sety
  rw [getD_set_ne _ _ _ _ (by omega), getD_set_ne _ _ _ _ (by omega), getD_set_ne _ _ _ _ (by omega), getD_set_ne _ _ _ _ (by omega), getD_set_ne _ _ _ _ (by omega)]
theorem sety_same (ys : List Int) (o : Nat) (u : Nat → Int) (ho : o + 5 ≤ ys.length) : ∀ i, i < 5 → (sety ys o u).getD (o + i) 0 = u i := by
  intro i hi
  unfold sety
  obtain rfl | rfl | rfl | rfl | rfl : i = 0 ∨ i = 1 ∨ i = 2 ∨ i = 3 ∨ i = 4 := by omega
  · rw [getD_set_ne _ _ _ _ (by omega), getD_set_ne _ _ _ _ (by omega), getD_set_ne _ _ _ _ (by omega), getD_set_ne _ _ _ _ (by omega), Nat.add_zero, getD_set_self _ _ _ (by omega)]
  · rw [getD_set_ne _ _ _ _ (by omega), getD_set_ne _ _ _ _ (by omega), getD_set_ne _ _ _ _ (by omega), getD_set_self _ _ _ (by simp; omega)]
  · rw [getD_set_ne _ _ _ _ (by omega), getD_set_ne _ _ _ _ (by omega), getD_set_self _ _ _ (by simp; omega)]
  · rw [getD_set_ne _ _ _ _ (by omega), getD_set_self _ _ _ (by simp; omega)]
  · rw [getD_set_self _ _ _ (by simp; omega)]
theorem emod_pow (x P : Int) : ∀ n : Nat, (x % P) ^ n % P = x ^ n % P
  | 0 => by rw [Int.pow_zero, Int.pow_zero]
  | n + 1 => by rw [Int.pow_succ, Int.pow_succ, Int.mul_emod, emod_pow x P n, Int.emod_emod, ← Int.mul_emod]
theorem pow_step {x : Int} {ea eb ec : Nat} {p q t : Int} (h : q = p ^ 2 ^ eb % PP) (hp : p = x ^ ea % PP) (ht : t = x ^ ec % PP) : q * t % PP = x ^ (ea * 2 ^ eb + ec) % PP := by
  rw [h, ht, hp, emod_pow, ← Int.mul_emod, ← Int.pow_mul, ← Int.pow_add]
theorem PwTo.set {e : Nat → Int} {ys : List Int} {k a b c : Nat} {ta tc u : Nat → Int} {q : Int} (h : PwTo e ys (k + 2)) (_ : a < k + 2) (_ : b ≤ 100) (_ : c < k + 2) (hx : exL.getD (k + 2) 0 = exL.getD a 0 * 2 ^ b + exL.getD c 0)
    (Va : sv ta 5 = sv e 5 ^ exL.getD a 0 % PP) (Vc : sv tc 5 = sv e 5 ^ exL.getD c 0 % PP) (hq : q = sv ta 5 ^ 2 ^ b % PP) (hu : Lm u ∧ sv u 5 = q * sv tc 5 % PP) (hk : k < 11) : PwTo e (sety ys ((k + 2) * 5) u) (k + 1 + 2) := by
  refine ⟨by simp [sety, h.1], fun j hj => ?_⟩
  by_cases ej : j < k + 2
  · obtain ⟨t, ht, hy⟩ := h.2 j ej
    exact ⟨t, ht, fun i hi => by rw [sety_other _ _ _ _ (by omega)]; exact hy i hi⟩
  · obtain rfl : j = k + 2 := by omega
    refine ⟨u, ⟨hu.1, ?_⟩, fun i hi => ?_⟩
    · rw [hu.2, pow_step hq Va Vc, hx]
    · rw [Nat.mul_comm 5]; exact sety_same ys _ u (by rw [h.1]; omega) i hi
set_option maxHeartbeats 8000000 in
theorem chain_any (w : World) (e : Nat → Int) (he : Elm e) (a b c : Nat) (ha : a < 13) (hb : b ≤ 100) (hc : c < 13) (hS : HasSt w 4) :
    Calls Tryz.prog 95 #[ag5 e, .agg #[.int .i64 (a : Int), .int .i64 (b : Int), .int .i64 (c : Int)]] w fun r w' => ∃ t, r = .returned (ag5 t) ∧ Lm t ∧ sv t 5 = sv e 5 ^ (exL.getD a 0 * 2 ^ b + exL.getD c 0) % PP ∧ Below w.heap.size w w' := by
  obtain ⟨l0, h0⟩ : ∃ l : Int, l = (a : Int) := ⟨_, rfl⟩
  obtain ⟨l1, h1⟩ : ∃ l : Int, l = (b : Int) := ⟨_, rfl⟩
  obtain ⟨l2, h2⟩ : ∃ l : Int, l = (c : Int) := ⟨_, rfl⟩
  have H0 := hide h0
  have H1 := hide h1
  have H2 := hide h2
  have HA := hide ha
  have HB := hide hb
  have HC := hide hc
  rw [← h0, ← h1, ← h2]
  clear h0 h1 h2 ha hb hc
  have B0 := blk_box w .u64 42 (e 0) (e 1) (e 2) (e 3) (e 4)
  have n0 : Below w.heap.size w (w.alloc (.cells #[.int .u64 (e 0), .int .u64 (e 1), .int .u64 (e 2), .int .u64 (e 3), .int .u64 (e 4)] 42)) := (Below.refl _ _).alloc (Nat.le_refl _) _
  have s0 : (w.alloc (.cells #[.int .u64 (e 0), .int .u64 (e 1), .int .u64 (e 2), .int .u64 (e 3), .int .u64 (e 4)] 42)).heap.size = w.heap.size + 1 := by simp
  simp only [ag5]
  go_enter Tryz.func95, Tryz.ntmps95
  go_wp2
  generalize w.alloc (.cells #[.int .u64 (e 0), .int .u64 (e 1), .int .u64 (e 2), .int .u64 (e 3), .int .u64 (e 4)] 42) = wa at *
  have B1 := blk_box3 wa .i64 118 l0 l1 l2
  have n1 : Below wa.heap.size wa (wa.alloc (.cells #[.int .i64 l0, .int .i64 l1, .int .i64 l2] 118)) := (Below.refl _ _).alloc (Nat.le_refl _) _
  have s1 : (wa.alloc (.cells #[.int .i64 l0, .int .i64 l1, .int .i64 l2] 118)).heap.size = w.heap.size + 1 + 1 := by simp [s0]
  generalize wa.alloc (.cells #[.int .i64 l0, .int .i64 l1, .int .i64 l2] 118) = wb at *
  have B2 := blk_box wb .u64 42 0 0 0 0 0
  have n2 : Below wb.heap.size wb (wb.alloc (.cells #[.int .u64 0, .int .u64 0, .int .u64 0, .int .u64 0, .int .u64 0] 42)) := (Below.refl _ _).alloc (Nat.le_refl _) _
  have s2 : (wb.alloc (.cells #[.int .u64 0, .int .u64 0, .int .u64 0, .int .u64 0, .int .u64 0] 42)).heap.size = w.heap.size + 1 + 1 + 1 := by simp [s1]
  generalize wb.alloc (.cells #[.int .u64 0, .int .u64 0, .int .u64 0, .int .u64 0, .int .u64 0] 42) = wc at *
  have LS := pw0_laid wc e
  rw [s2] at LS
  rw [LS]
  have B3 : Blk (wc.alloc (.cells ((pw0 e).map (Value.int .u64)).toArray 148)) (w.heap.size + 1 + 1 + 1) .u64 (pw0 e) := ⟨148, by rw [← s2, heap_alloc_last]⟩
  have n3 : Below wc.heap.size wc (wc.alloc (.cells ((pw0 e).map (Value.int .u64)).toArray 148)) := (Below.refl _ _).alloc (Nat.le_refl _) _
  have s3 : (wc.alloc (.cells ((pw0 e).map (Value.int .u64)).toArray 148)).heap.size = w.heap.size + 1 + 1 + 1 + 1 := by simp [s2]
  generalize wc.alloc (.cells ((pw0 e).map (Value.int .u64)).toArray 148) = wd at *
  have E0 := ((B0.up n1).up n2).up n3
  have N := nxt (nxt (nxt n0 n1) n2) n3
  have hSd := hS.up N
  rw [s0] at B1
  rw [s1] at B2
  have E1 := (B1.up n2).up n3
  have E2 := B2.up n3
  clear B0 B1 B2 n0 n1 n2 n3 s0 s1 s2 LS hS
  obtain ⟨⟨p0, p1, p2, p3, p4⟩, _⟩ := E0.f5
  have hR := hide hSd.range
  clear hSd
  go_upto_region 2 with fail
  go_wp2_with (refine wpList_load_mid rfl 149 (Operand.global 4) rfl 4 0 rfl stA.toList (.array 11 118) hR.out u86 rfl i86 ?_)
  clear hR
  go_loopw [12] (fun i wr => ∃ (k : Nat) (ys : List Int), k ≤ 11 ∧ i = .int .i64 k ∧ PwTo e ys (k + 2) ∧ Blk wr (w.heap.size + 1 + 1 + 1) .u64 ys ∧ Blk wr (w.heap.size + 1) .i64 [l0, l1, l2] ∧ Blk wr (w.heap.size + 1 + 1) .u64 [0, 0, 0, 0, 0] ∧ Below w.heap.size w wr) (fun i _ => 11 - (intOf i).toNat)
  case atStart => exact ⟨0, _, by omega, rfl, PwTo.zero he, B3, E1, E2, N⟩
  case round =>
    clear B3 E0 E1 E2 N s3 p0 p1 p2 p3 p4
    obtain ⟨k, ys, hk, rfl, hP, hB, hL, hR, hN⟩ := hrel
    have hsz := hB.lt
    by_cases hlt : k < 11
    · have k2 : (k : Int) < 11 := by omega
      obtain ⟨a, b, c, ha, hb, hc, hx, hI⟩ := st_tab k hlt
      obtain ⟨ta, ⟨La, Va⟩, Ya⟩ := hP.2 a (by omega)
      obtain ⟨tc, ⟨Lc, Vc⟩, Yc⟩ := hP.2 c (by omega)
      have T0 := blk_box3 wr .i64 118 (a : Int) (b : Int) (c : Int)
      have n0 : Below wr.heap.size wr (wr.alloc (.cells #[.int .i64 (a : Int), .int .i64 (b : Int), .int .i64 (c : Int)] 118)) := (Below.refl _ _).alloc (Nat.le_refl _) _
      have hB1 := hB.up n0
      have hL1 := hL.up n0
      have hR1 := hR.up n0
      have hN1 := nxt hN n0
      have zn : (wr.alloc (.cells #[.int .i64 (a : Int), .int .i64 (b : Int), .int .i64 (c : Int)] 118)).heap.size = wr.heap.size + 1 := by simp
      clear hB hL hR hN
      go_upto_region 5 with fail
      generalize wr.alloc (.cells #[.int .i64 (a : Int), .int .i64 (b : Int), .int .i64 (c : Int)] 118) = wn at *
      obtain ⟨G, hG⟩ : ∃ G, G = wr.heap.size := ⟨_, rfl⟩
      rw [← hG] at T0 zn hsz ⊢
      clear n0 hG wr
      have hyl := hP.1
      have a1 : (a : Int) < 13 := by omega
      have c1 : (c : Int) < 13 := by omega
      have kk : IntKind.i64.wrap ((2 : Int) + (k : Int)) = 2 + (k : Int) := by rw [IntKind.wrap_i64]; omega
      have k0 : (0 : Int) ≤ 2 + (k : Int) := by omega
      have kl : (2 : Int) + (k : Int) < 13 := by omega
      have kt : ((2 : Int) + (k : Int)).toNat = k + 2 := by omega
      have FB : Hid (∀ W, Below wn.heap.size wn W → Blk W G .i64 [(a : Int), (b : Int), (c : Int)] ∧ Blk W (w.heap.size + 1 + 1 + 1) .u64 ys) := fun W n => ⟨T0.up n, hB1.up n⟩
      have SQ : Hid (∀ W, Below wn.heap.size wn W → Calls Tryz.prog 130 #[.agg #[.int .u64 (ta 0), .int .u64 (ta 1), .int .u64 (ta 2), .int .u64 (ta 3), .int .u64 (ta 4)], .int .i64 (b : Int)] W fun r w' => ∃ t, r = .returned (ag5 t) ∧ (Lm t ∧ sv t 5 = sv ta 5 ^ 2 ^ b % PP) ∧ Below wn.heap.size wn w') := by
        intro W n
        refine (squareTimes_any W ta (Elm.of La Va) b (by omega)).mono ?_
        rintro r w' ⟨t, rfl, L, V, n'⟩
        exact ⟨t, rfl, ⟨L, V⟩, nxt n n'⟩
      have MU : Hid (∀ W t, Below wn.heap.size wn W → Lm t → Calls Tryz.prog 54 #[ag5 t, .agg #[.int .u64 (tc 0), .int .u64 (tc 1), .int .u64 (tc 2), .int .u64 (tc 3), .int .u64 (tc 4)]] W fun r w' => ∃ u, r = .returned (.agg #[.int .u64 (u 0), .int .u64 (u 1), .int .u64 (u 2), .int .u64 (u 3), .int .u64 (u 4)]) ∧ (Lm u ∧ sv u 5 = sv t 5 * sv tc 5 % PP) ∧ Below wn.heap.size wn w') := by
        intro W t n ht
        refine (mulE_any W t tc ht Lc).mono ?_
        rintro r w' ⟨u, rfl, L, V, n'⟩
        exact ⟨u, rfl, ⟨L, V⟩, nxt n n'⟩
      have SB : Hid (∀ W, Below wn.heap.size wn W → W.cell? ⟨G, 0, none⟩ = some (.int .i64 (a : Int)) ∧ W.cell? ⟨G, 1, none⟩ = some (.int .i64 (b : Int)) ∧ W.cell? ⟨G, 2, none⟩ = some (.int .i64 (c : Int)) ∧ W.cell? ⟨w.heap.size + 1 + 1 + 1, a * 5, none⟩ = some (.int .u64 (ta 0)) ∧ W.cell? ⟨w.heap.size + 1 + 1 + 1, a * 5 + 1, none⟩ = some (.int .u64 (ta 1)) ∧ W.cell? ⟨w.heap.size + 1 + 1 + 1, a * 5 + 2, none⟩ = some (.int .u64 (ta 2)) ∧ W.cell? ⟨w.heap.size + 1 + 1 + 1, a * 5 + 3, none⟩ = some (.int .u64 (ta 3)) ∧ W.cell? ⟨w.heap.size + 1 + 1 + 1, a * 5 + 4, none⟩ = some (.int .u64 (ta 4)) ∧ W.cell? ⟨w.heap.size + 1 + 1 + 1, c * 5, none⟩ = some (.int .u64 (tc 0)) ∧ W.cell? ⟨w.heap.size + 1 + 1 + 1, c * 5 + 1, none⟩ = some (.int .u64 (tc 1)) ∧ W.cell? ⟨w.heap.size + 1 + 1 + 1, c * 5 + 2, none⟩ = some (.int .u64 (tc 2)) ∧ W.cell? ⟨w.heap.size + 1 + 1 + 1, c * 5 + 3, none⟩ = some (.int .u64 (tc 3)) ∧ W.cell? ⟨w.heap.size + 1 + 1 + 1, c * 5 + 4, none⟩ = some (.int .u64 (tc 4))) := by
        intro W n
        obtain ⟨x0, x1, x2, x3, x4⟩ := (hB1.up n).at5o (by omega) Ya
        obtain ⟨y0, y1, y2, y3, y4⟩ := (hB1.up n).at5o (by omega) Yc
        exact ⟨(T0.up n).cell (i := 0) (by simp), (T0.up n).cell (i := 1) (by simp), (T0.up n).cell (i := 2) (by simp), x0, x1, x2, x3, x4, y0, y1, y2, y3, y4⟩
      have SC : Hid (∀ W (u : Nat → Int), Below wn.heap.size wn W → Blk (((((W.setCell ⟨w.heap.size + 1 + 1 + 1, (k + 2) * 5, none⟩ (.int .u64 (u 0))).setCell ⟨w.heap.size + 1 + 1 + 1, (k + 2) * 5 + 1, none⟩ (.int .u64 (u 1))).setCell ⟨w.heap.size + 1 + 1 + 1, (k + 2) * 5 + 2, none⟩ (.int .u64 (u 2))).setCell ⟨w.heap.size + 1 + 1 + 1, (k + 2) * 5 + 3, none⟩ (.int .u64 (u 3))).setCell ⟨w.heap.size + 1 + 1 + 1, (k + 2) * 5 + 4, none⟩ (.int .u64 (u 4))) (w.heap.size + 1 + 1 + 1) .u64 (sety ys ((k + 2) * 5) u) ∧ Below wn.heap.size wn W) := by
        intro W u n
        exact ⟨(((((hB1.up n).store _ _).store _ _).store _ _).store _ _).store _ _, n⟩
      have SS : Hid (∀ W (u : Nat → Int), Below wn.heap.size wn W → (fun W => W.cell? ⟨G, 0, none⟩ = some (.int .i64 (a : Int)) ∧ W.cell? ⟨G, 1, none⟩ = some (.int .i64 (b : Int)) ∧ W.cell? ⟨G, 2, none⟩ = some (.int .i64 (c : Int)) ∧ W.cell? ⟨w.heap.size + 1 + 1 + 1, a * 5, none⟩ = some (.int .u64 (ta 0)) ∧ W.cell? ⟨w.heap.size + 1 + 1 + 1, a * 5 + 1, none⟩ = some (.int .u64 (ta 1)) ∧ W.cell? ⟨w.heap.size + 1 + 1 + 1, a * 5 + 2, none⟩ = some (.int .u64 (ta 2)) ∧ W.cell? ⟨w.heap.size + 1 + 1 + 1, a * 5 + 3, none⟩ = some (.int .u64 (ta 3)) ∧ W.cell? ⟨w.heap.size + 1 + 1 + 1, a * 5 + 4, none⟩ = some (.int .u64 (ta 4)) ∧ W.cell? ⟨w.heap.size + 1 + 1 + 1, c * 5, none⟩ = some (.int .u64 (tc 0)) ∧ W.cell? ⟨w.heap.size + 1 + 1 + 1, c * 5 + 1, none⟩ = some (.int .u64 (tc 1)) ∧ W.cell? ⟨w.heap.size + 1 + 1 + 1, c * 5 + 2, none⟩ = some (.int .u64 (tc 2)) ∧ W.cell? ⟨w.heap.size + 1 + 1 + 1, c * 5 + 3, none⟩ = some (.int .u64 (tc 3)) ∧ W.cell? ⟨w.heap.size + 1 + 1 + 1, c * 5 + 4, none⟩ = some (.int .u64 (tc 4))) (((((W.setCell ⟨w.heap.size + 1 + 1 + 1, (k + 2) * 5, none⟩ (.int .u64 (u 0))).setCell ⟨w.heap.size + 1 + 1 + 1, (k + 2) * 5 + 1, none⟩ (.int .u64 (u 1))).setCell ⟨w.heap.size + 1 + 1 + 1, (k + 2) * 5 + 2, none⟩ (.int .u64 (u 2))).setCell ⟨w.heap.size + 1 + 1 + 1, (k + 2) * 5 + 3, none⟩ (.int .u64 (u 3))).setCell ⟨w.heap.size + 1 + 1 + 1, (k + 2) * 5 + 4, none⟩ (.int .u64 (u 4)))) := by
        intro W u n
        obtain ⟨B, _⟩ := (unhide SC) W u n
        have hl : (sety ys ((k + 2) * 5) u).length = 65 := by simp [sety, hyl]
        obtain ⟨x0, x1, x2, x3, x4⟩ := B.at5o (a := a) (t := ta) (by omega) (fun i hi => by rw [sety_other _ _ _ _ (by omega)]; exact Ya i hi)
        obtain ⟨y0, y1, y2, y3, y4⟩ := B.at5o (a := c) (t := tc) (by omega) (fun i hi => by rw [sety_other _ _ _ _ (by omega)]; exact Yc i hi)
        have T1 := T0.up n
        have hne : G ≠ w.heap.size + 1 + 1 + 1 := by omega
        have T2 := ((((T1.keep (k := (k + 2) * 5) (v := .int .u64 (u 0)) hne).keep (k := (k + 2) * 5 + 1) (v := .int .u64 (u 1)) hne).keep (k := (k + 2) * 5 + 2) (v := .int .u64 (u 2)) hne).keep (k := (k + 2) * 5 + 3) (v := .int .u64 (u 3)) hne).keep (k := (k + 2) * 5 + 4) (v := .int .u64 (u 4)) hne
        exact ⟨T2.cell (i := 0) (by simp), T2.cell (i := 1) (by simp), T2.cell (i := 2) (by simp), x0, x1, x2, x3, x4, y0, y1, y2, y3, y4⟩
      have PWn : Hid (∀ (q : Int) (u : Nat → Int), q = sv ta 5 ^ 2 ^ b % PP → Lm u ∧ sv u 5 = q * sv tc 5 % PP → PwTo e (sety ys ((k + 2) * 5) u) (k + 1 + 2)) := fun q u h1 h2 => hP.set ha hb hc hx Va Vc h1 h2 hlt
      have nd : Below wn.heap.size wn wn.drew := (Below.refl _ _).drew
      have HYL := hide hyl
      clear Ya Yc hI hyl hx Va Vc
      go_region_held3 (fun W => W.cell? ⟨G, 0, none⟩ = some (.int .i64 (a : Int)) ∧ W.cell? ⟨G, 1, none⟩ = some (.int .i64 (b : Int)) ∧ W.cell? ⟨G, 2, none⟩ = some (.int .i64 (c : Int)) ∧ W.cell? ⟨w.heap.size + 1 + 1 + 1, a * 5, none⟩ = some (.int .u64 (ta 0)) ∧ W.cell? ⟨w.heap.size + 1 + 1 + 1, a * 5 + 1, none⟩ = some (.int .u64 (ta 1)) ∧ W.cell? ⟨w.heap.size + 1 + 1 + 1, a * 5 + 2, none⟩ = some (.int .u64 (ta 2)) ∧ W.cell? ⟨w.heap.size + 1 + 1 + 1, a * 5 + 3, none⟩ = some (.int .u64 (ta 3)) ∧ W.cell? ⟨w.heap.size + 1 + 1 + 1, a * 5 + 4, none⟩ = some (.int .u64 (ta 4)) ∧ W.cell? ⟨w.heap.size + 1 + 1 + 1, c * 5, none⟩ = some (.int .u64 (tc 0)) ∧ W.cell? ⟨w.heap.size + 1 + 1 + 1, c * 5 + 1, none⟩ = some (.int .u64 (tc 1)) ∧ W.cell? ⟨w.heap.size + 1 + 1 + 1, c * 5 + 2, none⟩ = some (.int .u64 (tc 2)) ∧ W.cell? ⟨w.heap.size + 1 + 1 + 1, c * 5 + 3, none⟩ = some (.int .u64 (tc 3)) ∧ W.cell? ⟨w.heap.size + 1 + 1 + 1, c * 5 + 4, none⟩ = some (.int .u64 (tc 4))) (first | exact (unhide SB) _ nd | exact (unhide SB) _ ns | exact (unhide SB) _ nm | exact (unhide SS) _ _ nm)
        (first
          | (go_at_call 130; refine ((unhide SQ) _ nd).mono ?_; rintro r ws ⟨t, rfl, LT, ns⟩)
          | (go_at_call 54; refine ((unhide MU) _ _ ns LT.1).mono ?_; rintro r wm ⟨u, rfl, LU, nm⟩; obtain ⟨Tm, Bm⟩ := (unhide FB) wm nm; obtain ⟨⟨_, _, _, _, _⟩, ⟨_, _, _, _, _⟩⟩ := Bm.mid5 ((k + 2) * 5) (by have := HYL.out; omega)))
      all_goals
        have F1 := ((unhide SC) wm u nm).1
        have F2 : Blk (((((wm.setCell ⟨w.heap.size + 1 + 1 + 1, (k + 2) * 5, none⟩ (.int .u64 (u 0))).setCell ⟨w.heap.size + 1 + 1 + 1, (k + 2) * 5 + 1, none⟩ (.int .u64 (u 1))).setCell ⟨w.heap.size + 1 + 1 + 1, (k + 2) * 5 + 2, none⟩ (.int .u64 (u 2))).setCell ⟨w.heap.size + 1 + 1 + 1, (k + 2) * 5 + 3, none⟩ (.int .u64 (u 3))).setCell ⟨w.heap.size + 1 + 1 + 1, (k + 2) * 5 + 4, none⟩ (.int .u64 (u 4))) (w.heap.size + 1) .i64 [l0, l1, l2] := (((((hL1.up nm).keep (by omega)).keep (by omega)).keep (by omega)).keep (by omega)).keep (by omega)
        have F3 : Blk (((((wm.setCell ⟨w.heap.size + 1 + 1 + 1, (k + 2) * 5, none⟩ (.int .u64 (u 0))).setCell ⟨w.heap.size + 1 + 1 + 1, (k + 2) * 5 + 1, none⟩ (.int .u64 (u 1))).setCell ⟨w.heap.size + 1 + 1 + 1, (k + 2) * 5 + 2, none⟩ (.int .u64 (u 2))).setCell ⟨w.heap.size + 1 + 1 + 1, (k + 2) * 5 + 3, none⟩ (.int .u64 (u 3))).setCell ⟨w.heap.size + 1 + 1 + 1, (k + 2) * 5 + 4, none⟩ (.int .u64 (u 4))) (w.heap.size + 1 + 1) .u64 [0, 0, 0, 0, 0] := (((((hR1.up nm).keep (by omega)).keep (by omega)).keep (by omega)).keep (by omega)).keep (by omega)
        have hsz' : w.heap.size ≤ w.heap.size + 1 + 1 + 1 := by omega
        have F4 : Below w.heap.size w (((((wm.setCell ⟨w.heap.size + 1 + 1 + 1, (k + 2) * 5, none⟩ (.int .u64 (u 0))).setCell ⟨w.heap.size + 1 + 1 + 1, (k + 2) * 5 + 1, none⟩ (.int .u64 (u 1))).setCell ⟨w.heap.size + 1 + 1 + 1, (k + 2) * 5 + 2, none⟩ (.int .u64 (u 2))).setCell ⟨w.heap.size + 1 + 1 + 1, (k + 2) * 5 + 3, none⟩ (.int .u64 (u 3))).setCell ⟨w.heap.size + 1 + 1 + 1, (k + 2) * 5 + 4, none⟩ (.int .u64 (u 4))) := (((((nxt hN1 nm).setCell hsz' _).setCell hsz' _).setCell hsz' _).setCell hsz' _).setCell hsz' _
        have F5 := hide ((unhide PWn) _ _ LT.2 LU)
        generalize ((((wm.setCell ⟨w.heap.size + 1 + 1 + 1, (k + 2) * 5, none⟩ (.int .u64 (u 0))).setCell ⟨w.heap.size + 1 + 1 + 1, (k + 2) * 5 + 1, none⟩ (.int .u64 (u 1))).setCell ⟨w.heap.size + 1 + 1 + 1, (k + 2) * 5 + 2, none⟩ (.int .u64 (u 2))).setCell ⟨w.heap.size + 1 + 1 + 1, (k + 2) * 5 + 3, none⟩ (.int .u64 (u 3))).setCell ⟨w.heap.size + 1 + 1 + 1, (k + 2) * 5 + 4, none⟩ (.int .u64 (u 4)) = wz at *
        clear SB SC SS SQ MU FB PWn hB1 hL1 hR1 hN1 T0 LT LU Tm Bm nm ns nd kk k0 kl kt a1 c1 La Lc hP
        go_wp2
        go_roundw
        case rel => exact ⟨k + 1, _, by omega, by go_num, F5.out, F1, F2, F3, F4⟩
        case measure => simp [intOf]; omega
    · obtain rfl : k = 11 := by omega
      rw [H0.out, H1.out, H2.out] at hL
      have ha := HA.out
      have hb := HB.out
      have hc := HC.out
      obtain ⟨ta, ⟨La, Va⟩, Ya⟩ := hP.2 a ha
      obtain ⟨tc, ⟨Lc, Vc⟩, Yc⟩ := hP.2 c hc
      have hyl := hP.1
      have a1 : (a : Int) < 13 := by omega
      have c1 : (c : Int) < 13 := by omega
      have SQ : Hid (∀ W, Below wr.heap.size wr W → Calls Tryz.prog 130 #[.agg #[.int .u64 (ta 0), .int .u64 (ta 1), .int .u64 (ta 2), .int .u64 (ta 3), .int .u64 (ta 4)], .int .i64 (b : Int)] W fun r w' => ∃ t, r = .returned (ag5 t) ∧ (Lm t ∧ sv t 5 = sv ta 5 ^ 2 ^ b % PP) ∧ Below wr.heap.size wr w') := by
        intro W n
        refine (squareTimes_any W ta (Elm.of La Va) b (by omega)).mono ?_
        rintro r w' ⟨t, rfl, L, V, n'⟩
        exact ⟨t, rfl, ⟨L, V⟩, nxt n n'⟩
      have MU : Hid (∀ W t, Below wr.heap.size wr W → Lm t → Calls Tryz.prog 54 #[ag5 t, .agg #[.int .u64 (tc 0), .int .u64 (tc 1), .int .u64 (tc 2), .int .u64 (tc 3), .int .u64 (tc 4)]] W fun r w' => ∃ u, r = .returned (.agg #[.int .u64 (u 0), .int .u64 (u 1), .int .u64 (u 2), .int .u64 (u 3), .int .u64 (u 4)]) ∧ (Lm u ∧ sv u 5 = sv t 5 * sv tc 5 % PP) ∧ Below wr.heap.size wr w') := by
        intro W t n ht
        refine (mulE_any W t tc ht Lc).mono ?_
        rintro r w' ⟨u, rfl, L, V, n'⟩
        exact ⟨u, rfl, ⟨L, V⟩, nxt n n'⟩
      have SB : Hid (∀ W, Below wr.heap.size wr W → W.cell? ⟨w.heap.size + 1, 0, none⟩ = some (.int .i64 (a : Int)) ∧ W.cell? ⟨w.heap.size + 1, 1, none⟩ = some (.int .i64 (b : Int)) ∧ W.cell? ⟨w.heap.size + 1, 2, none⟩ = some (.int .i64 (c : Int)) ∧ W.cell? ⟨w.heap.size + 1 + 1 + 1, a * 5, none⟩ = some (.int .u64 (ta 0)) ∧ W.cell? ⟨w.heap.size + 1 + 1 + 1, a * 5 + 1, none⟩ = some (.int .u64 (ta 1)) ∧ W.cell? ⟨w.heap.size + 1 + 1 + 1, a * 5 + 2, none⟩ = some (.int .u64 (ta 2)) ∧ W.cell? ⟨w.heap.size + 1 + 1 + 1, a * 5 + 3, none⟩ = some (.int .u64 (ta 3)) ∧ W.cell? ⟨w.heap.size + 1 + 1 + 1, a * 5 + 4, none⟩ = some (.int .u64 (ta 4)) ∧ W.cell? ⟨w.heap.size + 1 + 1 + 1, c * 5, none⟩ = some (.int .u64 (tc 0)) ∧ W.cell? ⟨w.heap.size + 1 + 1 + 1, c * 5 + 1, none⟩ = some (.int .u64 (tc 1)) ∧ W.cell? ⟨w.heap.size + 1 + 1 + 1, c * 5 + 2, none⟩ = some (.int .u64 (tc 2)) ∧ W.cell? ⟨w.heap.size + 1 + 1 + 1, c * 5 + 3, none⟩ = some (.int .u64 (tc 3)) ∧ W.cell? ⟨w.heap.size + 1 + 1 + 1, c * 5 + 4, none⟩ = some (.int .u64 (tc 4))) := by
        intro W n
        obtain ⟨x0, x1, x2, x3, x4⟩ := (hB.up n).at5o (by omega) Ya
        obtain ⟨y0, y1, y2, y3, y4⟩ := (hB.up n).at5o (by omega) Yc
        exact ⟨(hL.up n).cell (i := 0) (by simp), (hL.up n).cell (i := 1) (by simp), (hL.up n).cell (i := 2) (by simp), x0, x1, x2, x3, x4, y0, y1, y2, y3, y4⟩
      have SS : Hid (∀ W (u : Nat → Int), Below wr.heap.size wr W → (fun W => W.cell? ⟨w.heap.size + 1, 0, none⟩ = some (.int .i64 (a : Int)) ∧ W.cell? ⟨w.heap.size + 1, 1, none⟩ = some (.int .i64 (b : Int)) ∧ W.cell? ⟨w.heap.size + 1, 2, none⟩ = some (.int .i64 (c : Int)) ∧ W.cell? ⟨w.heap.size + 1 + 1 + 1, a * 5, none⟩ = some (.int .u64 (ta 0)) ∧ W.cell? ⟨w.heap.size + 1 + 1 + 1, a * 5 + 1, none⟩ = some (.int .u64 (ta 1)) ∧ W.cell? ⟨w.heap.size + 1 + 1 + 1, a * 5 + 2, none⟩ = some (.int .u64 (ta 2)) ∧ W.cell? ⟨w.heap.size + 1 + 1 + 1, a * 5 + 3, none⟩ = some (.int .u64 (ta 3)) ∧ W.cell? ⟨w.heap.size + 1 + 1 + 1, a * 5 + 4, none⟩ = some (.int .u64 (ta 4)) ∧ W.cell? ⟨w.heap.size + 1 + 1 + 1, c * 5, none⟩ = some (.int .u64 (tc 0)) ∧ W.cell? ⟨w.heap.size + 1 + 1 + 1, c * 5 + 1, none⟩ = some (.int .u64 (tc 1)) ∧ W.cell? ⟨w.heap.size + 1 + 1 + 1, c * 5 + 2, none⟩ = some (.int .u64 (tc 2)) ∧ W.cell? ⟨w.heap.size + 1 + 1 + 1, c * 5 + 3, none⟩ = some (.int .u64 (tc 3)) ∧ W.cell? ⟨w.heap.size + 1 + 1 + 1, c * 5 + 4, none⟩ = some (.int .u64 (tc 4))) (((((W.setCell ⟨w.heap.size + 1 + 1, 0, none⟩ (.int .u64 (u 0))).setCell ⟨w.heap.size + 1 + 1, 1, none⟩ (.int .u64 (u 1))).setCell ⟨w.heap.size + 1 + 1, 2, none⟩ (.int .u64 (u 2))).setCell ⟨w.heap.size + 1 + 1, 3, none⟩ (.int .u64 (u 3))).setCell ⟨w.heap.size + 1 + 1, 4, none⟩ (.int .u64 (u 4)))) := by
        intro W u n
        have n1 : w.heap.size + 1 + 1 + 1 ≠ w.heap.size + 1 + 1 := by omega
        have n2 : w.heap.size + 1 ≠ w.heap.size + 1 + 1 := by omega
        have B := (((((hB.up n).keep (k := 0) (v := .int .u64 (u 0)) n1).keep (k := 1) (v := .int .u64 (u 1)) n1).keep (k := 2) (v := .int .u64 (u 2)) n1).keep (k := 3) (v := .int .u64 (u 3)) n1).keep (k := 4) (v := .int .u64 (u 4)) n1
        have T2 := (((((hL.up n).keep (k := 0) (v := .int .u64 (u 0)) n2).keep (k := 1) (v := .int .u64 (u 1)) n2).keep (k := 2) (v := .int .u64 (u 2)) n2).keep (k := 3) (v := .int .u64 (u 3)) n2).keep (k := 4) (v := .int .u64 (u 4)) n2
        obtain ⟨x0, x1, x2, x3, x4⟩ := B.at5o (by omega) Ya
        obtain ⟨y0, y1, y2, y3, y4⟩ := B.at5o (by omega) Yc
        exact ⟨T2.cell (i := 0) (by simp), T2.cell (i := 1) (by simp), T2.cell (i := 2) (by simp), x0, x1, x2, x3, x4, y0, y1, y2, y3, y4⟩
      have RB : Hid (∀ W, Below wr.heap.size wr W → Blk W (w.heap.size + 1 + 1) .u64 [0, 0, 0, 0, 0]) := fun W n => hR.up n
      have PW : Hid (∀ (q : Int) (u : Nat → Int), q = sv ta 5 ^ 2 ^ b % PP → sv u 5 = q * sv tc 5 % PP → sv u 5 = sv e 5 ^ (exL.getD a 0 * 2 ^ b + exL.getD c 0) % PP) := fun q u h1 h2 => by rw [h2, pow_step h1 Va Vc]
      have nd : Below wr.heap.size wr wr.drew := (Below.refl _ _).drew
      clear Ya Yc Va Vc hP hyl ha hb hc
      go_upto_region 7 with fail
      go_region_held3 (fun W => W.cell? ⟨w.heap.size + 1, 0, none⟩ = some (.int .i64 (a : Int)) ∧ W.cell? ⟨w.heap.size + 1, 1, none⟩ = some (.int .i64 (b : Int)) ∧ W.cell? ⟨w.heap.size + 1, 2, none⟩ = some (.int .i64 (c : Int)) ∧ W.cell? ⟨w.heap.size + 1 + 1 + 1, a * 5, none⟩ = some (.int .u64 (ta 0)) ∧ W.cell? ⟨w.heap.size + 1 + 1 + 1, a * 5 + 1, none⟩ = some (.int .u64 (ta 1)) ∧ W.cell? ⟨w.heap.size + 1 + 1 + 1, a * 5 + 2, none⟩ = some (.int .u64 (ta 2)) ∧ W.cell? ⟨w.heap.size + 1 + 1 + 1, a * 5 + 3, none⟩ = some (.int .u64 (ta 3)) ∧ W.cell? ⟨w.heap.size + 1 + 1 + 1, a * 5 + 4, none⟩ = some (.int .u64 (ta 4)) ∧ W.cell? ⟨w.heap.size + 1 + 1 + 1, c * 5, none⟩ = some (.int .u64 (tc 0)) ∧ W.cell? ⟨w.heap.size + 1 + 1 + 1, c * 5 + 1, none⟩ = some (.int .u64 (tc 1)) ∧ W.cell? ⟨w.heap.size + 1 + 1 + 1, c * 5 + 2, none⟩ = some (.int .u64 (tc 2)) ∧ W.cell? ⟨w.heap.size + 1 + 1 + 1, c * 5 + 3, none⟩ = some (.int .u64 (tc 3)) ∧ W.cell? ⟨w.heap.size + 1 + 1 + 1, c * 5 + 4, none⟩ = some (.int .u64 (tc 4))) (first | exact (unhide SB) _ nd | exact (unhide SB) _ ns | exact (unhide SB) _ nm | exact (unhide SS) _ _ nm)
        (first
          | (go_at_call 130; refine ((unhide SQ) _ nd).mono ?_; rintro r ws ⟨t, rfl, LT, ns⟩)
          | (go_at_call 54; refine ((unhide MU) _ _ ns LT.1).mono ?_; rintro r wm ⟨u, rfl, LU, nm⟩; (have Rm := (unhide RB) wm nm); obtain ⟨⟨p0, p1, p2, p3, p4⟩, ⟨_, _, _, _, _⟩⟩ := Rm.f5))
      all_goals
        have N2 := nxt hN nm
        have F5 := hide ((unhide PW) _ _ LT.2 LU.2)
        go_wp2
        exact bodyPost_ret (v := ag5 u) (by simp [ag5, results, Tryz.results95, go_sem, p0, p1, p2, p3, p4]) rfl ⟨u, rfl, LU.1, F5.out, below_set5 N2 (by omega) _ _ _ _ _⟩
end Go.Proofs.YteedfhljbdnmnaaGreatDoor
namespace Go.Proofs.YteedfhljbdnmnaaGreatDoor
set_option maxRecDepth 100000
open Go.RowKit
def Has3 (w : World) (g : Nat) (a b c : Int) : Prop := w.cell? ⟨g, 0, none⟩ = some (.int .i64 a) ∧ w.cell? ⟨g, 1, none⟩ = some (.int .i64 b) ∧ w.cell? ⟨g, 2, none⟩ = some (.int .i64 c)
theorem Has3.lt {w : World} {g : Nat} {a b c : Int} (h : Has3 w g a b c) : g < w.heap.size := block_lt_of_cell h.1
theorem Has3.up {w w' : World} {g : Nat} {a b c : Int} (h : Has3 w g a b c) (n : Below w.heap.size w w') : Has3 w' g a b c :=
  ⟨(World.cell?_of_block (a := ⟨g, 0, none⟩) (n.block g h.lt)).trans h.1, (World.cell?_of_block (a := ⟨g, 1, none⟩) (n.block g h.lt)).trans h.2.1, (World.cell?_of_block (a := ⟨g, 2, none⟩) (n.block g h.lt)).trans h.2.2⟩
def eInv : Nat := 57896044618658097711785492504343953926634992332820282019728792003956564819947
theorem eInv_ok : exL.getD 12 0 * 2 ^ 5 + exL.getD 4 0 = eInv := by decide +kernel
theorem eInv_P : eInv + 1 = P25519 - 1 := by decide +kernel
set_option maxHeartbeats 4000000 in
theorem invert_any (w : World) (e : Nat → Int) (he : Elm e) (hS : HasSt w 4) (hI : Has3 w 1 12 5 4) :
    Calls Tryz.prog 55 #[ag5 e] w fun r w' => ∃ t, r = .returned (ag5 t) ∧ Lm t ∧ sv t 5 = sv e 5 ^ eInv % PP ∧ Below w.heap.size w w' := by
  have B0 := blk_box w .u64 42 (e 0) (e 1) (e 2) (e 3) (e 4)
  have n0 : Below w.heap.size w (w.alloc (.cells #[.int .u64 (e 0), .int .u64 (e 1), .int .u64 (e 2), .int .u64 (e 3), .int .u64 (e 4)] 42)) := (Below.refl _ _).alloc (Nat.le_refl _) _
  have s0 : (w.alloc (.cells #[.int .u64 (e 0), .int .u64 (e 1), .int .u64 (e 2), .int .u64 (e 3), .int .u64 (e 4)] 42)).heap.size = w.heap.size + 1 := by simp
  have M : ∀ w, HasSt w 4 → Calls Tryz.prog 95 #[.agg #[.int .u64 (e 0), .int .u64 (e 1), .int .u64 (e 2), .int .u64 (e 3), .int .u64 (e 4)], .agg #[.int .i64 12, .int .i64 5, .int .i64 4]] w fun r w' => ∃ t, r = .returned (.agg #[.int .u64 (t 0), .int .u64 (t 1), .int .u64 (t 2), .int .u64 (t 3), .int .u64 (t 4)]) ∧ Lm t ∧ sv t 5 = sv e 5 ^ (exL.getD 12 0 * 2 ^ 5 + exL.getD 4 0) % PP ∧ Below w.heap.size w w' := fun w h => chain_any w e he 12 5 4 (by omega) (by omega) (by omega) h
  simp only [ag5]
  go_enter Tryz.func55, Tryz.ntmps55
  go_upto_region 1 with fail
  generalize w.alloc (.cells #[.int .u64 (e 0), .int .u64 (e 1), .int .u64 (e 2), .int .u64 (e 3), .int .u64 (e 4)] 42) = wa at *
  have B1 := blk_box wa .u64 42 0 0 0 0 0
  have n1 : Below wa.heap.size wa (wa.alloc (.cells #[.int .u64 0, .int .u64 0, .int .u64 0, .int .u64 0, .int .u64 0] 42)) := (Below.refl _ _).alloc (Nat.le_refl _) _
  rw [s0] at B1
  generalize wa.alloc (.cells #[.int .u64 0, .int .u64 0, .int .u64 0, .int .u64 0, .int .u64 0] 42) = wb at *
  have N1 := nxt n0 n1
  obtain ⟨⟨q0, q1, q2, q3, q4⟩, _⟩ := (B0.up n1).f5
  obtain ⟨i0, i1, i2⟩ := hI.up N1
  go_wp2_with fail
  refine (M wb (hS.up N1)).mono ?_
  rintro r w1 ⟨t, rfl, L, V, n2⟩
  obtain ⟨⟨p0, p1, p2, p3, p4⟩, ⟨g0, g1, g2, g3, g4⟩⟩ := (B1.up n2).f5
  have N2 := nxt N1 n2
  rw [eInv_ok] at V
  have V' := hide V
  clear M B0 B1 n0 n1 n2 N1 V s0 hS hI i0 i1 i2 q0 q1 q2 q3 q4
  go_wp2
  exact bodyPost_ret (v := ag5 t) (by simp [ag5, results, Tryz.results55, go_sem, p0, p1, p2, p3, p4]) rfl ⟨t, rfl, L, V'.out, below_set5 N2 (by omega) _ _ _ _ _⟩
end Go.Proofs.YteedfhljbdnmnaaGreatDoor
namespace Go.Proofs.YteedfhljbdnmnaaGreatDoor
set_option maxRecDepth 100000
open Go.RowKit
def twP (j : Nat) : Int := if j = 0 then 4503599627370458 else 4503599627370494
def subU (e f : Nat → Int) (j : Nat) : Int := if j < 5 then e j + twP j - f j else 0
theorem sub_ok {e f : Nat → Int} (he : Lm e) (hf : Lm f) : (∀ j, 0 ≤ subU e f j ∧ subU e f j < 9223372036854775808) ∧ sv (stl (subU e f)) 5 = (sv e 5 - sv f 5) % PP ∧ Lm (stl (subU e f)) := by
  have b : ∀ j, 0 ≤ subU e f j ∧ subU e f j < 9223372036854775808 := fun j => by
    unfold subU twP
    split
    · have := he j (by omega); have := hf j (by omega)
      split <;> omega
    · omega
  obtain ⟨h1, h2⟩ := stl_ok b
  refine ⟨b, ?_, h1⟩
  rw [h2]
  have e1 : sv (subU e f) 5 = sv e 5 - sv f 5 + 57896044618658097711785492504343953926634992332820282019728792003956564819949 * 2 := by
    simp [sv, subU, twP]
    omega
  rw [e1]
  exact Int.add_mul_emod_self_left _ _ _
def HasTw (w : World) (g : Nat) : Prop := ∀ k, k < 5 → w.cell? ⟨g, k, none⟩ = some (.int .u64 (twP k))
theorem HasTw.of_block {w w' : World} {g : Nat} (h : HasTw w g) (hb : w'.heap[g]? = w.heap[g]?) : HasTw w' g := fun k hk => (World.cell?_of_block (a := ⟨g, k, none⟩) hb).trans (h k hk)
theorem HasTw.lt {w : World} {g : Nat} (h : HasTw w g) : g < w.heap.size := block_lt_of_cell (h 0 (by omega))
theorem HasTw.up {w w' : World} {g : Nat} (h : HasTw w g) (n : Below w.heap.size w w') : HasTw w' g := h.of_block (n.block g h.lt)
set_option maxHeartbeats 4000000 in
theorem sub_any (w : World) (e f : Nat → Int) (he : Lm e) (hf : Lm f) (hT : HasTw w 3) :
    Calls Tryz.prog 91 #[ag5 e, ag5 f] w fun r w' => r = .returned (ag5 (stl (subU e f))) ∧ Below w.heap.size w w' := by
  have tl := hT.lt
  have B0 := blk_box w .u64 42 (e 0) (e 1) (e 2) (e 3) (e 4)
  have n0 : Below w.heap.size w (w.alloc (.cells #[.int .u64 (e 0), .int .u64 (e 1), .int .u64 (e 2), .int .u64 (e 3), .int .u64 (e 4)] 42)) := (Below.refl _ _).alloc (Nat.le_refl _) _
  have s0 : (w.alloc (.cells #[.int .u64 (e 0), .int .u64 (e 1), .int .u64 (e 2), .int .u64 (e 3), .int .u64 (e 4)] 42)).heap.size = w.heap.size + 1 := by simp
  simp only [ag5]
  go_enter Tryz.func91, Tryz.ntmps91
  go_wp2
  generalize w.alloc (.cells #[.int .u64 (e 0), .int .u64 (e 1), .int .u64 (e 2), .int .u64 (e 3), .int .u64 (e 4)] 42) = wa at *
  have B1 := blk_box wa .u64 42 (f 0) (f 1) (f 2) (f 3) (f 4)
  have n1 : Below wa.heap.size wa (wa.alloc (.cells #[.int .u64 (f 0), .int .u64 (f 1), .int .u64 (f 2), .int .u64 (f 3), .int .u64 (f 4)] 42)) := (Below.refl _ _).alloc (Nat.le_refl _) _
  have s1 : (wa.alloc (.cells #[.int .u64 (f 0), .int .u64 (f 1), .int .u64 (f 2), .int .u64 (f 3), .int .u64 (f 4)] 42)).heap.size = w.heap.size + 1 + 1 := by simp [s0]
  generalize wa.alloc (.cells #[.int .u64 (f 0), .int .u64 (f 1), .int .u64 (f 2), .int .u64 (f 3), .int .u64 (f 4)] 42) = wb at *
  have B2 := blk_box wb .u64 42 0 0 0 0 0
  have n2 : Below wb.heap.size wb (wb.alloc (.cells #[.int .u64 0, .int .u64 0, .int .u64 0, .int .u64 0, .int .u64 0] 42)) := (Below.refl _ _).alloc (Nat.le_refl _) _
  have s2 : (wb.alloc (.cells #[.int .u64 0, .int .u64 0, .int .u64 0, .int .u64 0, .int .u64 0] 42)).heap.size = w.heap.size + 1 + 1 + 1 := by simp [s1]
  generalize wb.alloc (.cells #[.int .u64 0, .int .u64 0, .int .u64 0, .int .u64 0, .int .u64 0] 42) = wc at *
  have B3 := blk_box wc .u64 112 0 0 0 0 0
  have n3 : Below wc.heap.size wc (wc.alloc (.cells #[.int .u64 0, .int .u64 0, .int .u64 0, .int .u64 0, .int .u64 0] 112)) := (Below.refl _ _).alloc (Nat.le_refl _) _
  generalize wc.alloc (.cells #[.int .u64 0, .int .u64 0, .int .u64 0, .int .u64 0, .int .u64 0] 112) = wd at *
  have E0 := ((B0.up n1).up n2).up n3
  have E1 := (B1.up n2).up n3
  have E2 := B2.up n3
  have N := nxt (nxt (nxt n0 n1) n2) n3
  have T0 := hT.up N
  rw [s0] at E1
  rw [s1] at E2
  rw [s2] at B3
  clear B0 B1 B2 n0 n1 n2 n3 s0 s1 s2 hT
  go_loopw [7] (fun i wr => ∃ (k : Nat) (ys : List Int), k ≤ 5 ∧ i = .int .i64 k ∧ Upd (subU e f) (fun _ => 0) ys k ∧ Blk wr w.heap.size .u64 [e 0, e 1, e 2, e 3, e 4] ∧ Blk wr (w.heap.size + 1) .u64 [f 0, f 1, f 2, f 3, f 4] ∧ Blk wr (w.heap.size + 1 + 1) .u64 [0, 0, 0, 0, 0] ∧ Blk wr (w.heap.size + 1 + 1 + 1) .u64 ys ∧ HasTw wr 3 ∧ Below w.heap.size w wr) (fun i _ => 5 - (intOf i).toNat)
  case atStart => exact ⟨0, _, by omega, rfl, Upd.zero _ (fun _ => 0), E0, E1, E2, B3, T0, N⟩
  case round =>
    clear E0 E1 E2 B3 N T0
    obtain ⟨k, ys, hk, rfl, hU, hE, hF, hR, hB, hT, hN⟩ := hrel
    by_cases hlt : k < 5
    · have R := hU.step hlt
      have ce := hE.at5 hlt
      have cf := hF.at5 hlt
      have ct := hT k hlt
      have hcy := hB.cell (i := k) (by rw [hU.1]; exact hlt)
      have hfy := hB.free k
      have eb := he k hlt
      have fb := hf k hlt
      have tb : 4503599627370458 ≤ twP k ∧ twP k ≤ 4503599627370494 := by unfold twP; split <;> omega
      have k2 : (k : Int) < 5 := by omega
      have E : subU e f k = e k + twP k - f k := by unfold subU; rw [if_pos hlt]
      have S := hB.store k (e k + twP k - f k)
      have SE := hide (hE.keep (g' := w.heap.size + 1 + 1 + 1) (k := k) (v := .int .u64 (e k + twP k - f k)) (by omega))
      have SF := hide (hF.keep (g' := w.heap.size + 1 + 1 + 1) (k := k) (v := .int .u64 (e k + twP k - f k)) (by omega))
      have SR := hR.keep (g' := w.heap.size + 1 + 1 + 1) (k := k) (v := .int .u64 (e k + twP k - f k)) (by omega)
      have ST := hide (hT.of_block (w' := wr.setCell ⟨w.heap.size + 1 + 1 + 1, k, none⟩ (.int .u64 (e k + twP k - f k))) (heap_setCell_other wr ⟨w.heap.size + 1 + 1 + 1, k, none⟩ 3 _ (by show 3 ≠ w.heap.size + 1 + 1 + 1; omega)))
      have Sn : Below w.heap.size w (wr.setCell ⟨w.heap.size + 1 + 1 + 1, k, none⟩ (.int .u64 (e k + twP k - f k))) := hN.setCell (by show w.heap.size ≤ w.heap.size + 1 + 1 + 1; omega) _
      rw [E] at R
      have x1 : IntKind.u64.wrap (e k + twP k) = e k + twP k := by rw [IntKind.wrap_u64]; omega
      have x2 : IntKind.u64.wrap (e k + twP k - f k) = e k + twP k - f k := by rw [IntKind.wrap_u64]; omega
      clear hU hE hF hR hB hN he hf E hT
      generalize e k = x at *
      generalize f k = y at *
      generalize twP k = t at *
      go_wp2
      go_region
      go_wp2
      go_roundw
      case rel => exact ⟨k + 1, _, by omega, by go_num, R, SE.out.drew, SF.out.drew, SR.drew, S.drew, ST.out, Sn.drew⟩
      case measure => simp [intOf]; omega
    · obtain rfl : k = 5 := by omega
      have hy := hU.all
      subst hy
      have A := sub_ok he hf
      obtain ⟨⟨q0, q1, q2, q3, q4⟩, _⟩ := hB.f5
      go_wp2_with fail
      refine (settle_any wr (subU e f) A.1).mono ?_
      rintro r w1 ⟨rfl, n1⟩
      obtain ⟨⟨p0, p1, p2, p3, p4⟩, ⟨g0, g1, g2, g3, g4⟩⟩ := (hR.up n1).f5
      have N1 := nxt hN n1
      obtain ⟨t, ht⟩ : ∃ t, t = stl (subU e f) := ⟨_, rfl⟩
      have hT' : Hid (t = stl (subU e f)) := ht
      rw [← ht]
      clear hU hE hF hR hB hN A n1 q0 q1 q2 q3 q4 ht hT
      simp only [ag5]
      go_wp2
      exact bodyPost_ret (v := ag5 t) (by simp [ag5, results, Tryz.results91, go_sem, p0, p1, p2, p3, p4]) rfl ⟨by rw [hT'.out]; rfl, below_set5 N1 (by omega) _ _ _ _ _⟩
theorem subE_any (w : World) (e f : Nat → Int) (he : Lm e) (hf : Lm f) (hT : HasTw w 3) :
    Calls Tryz.prog 91 #[ag5 e, ag5 f] w fun r w' => ∃ t, r = .returned (ag5 t) ∧ Lm t ∧ sv t 5 = (sv e 5 - sv f 5) % PP ∧ Below w.heap.size w w' := by
  refine (sub_any w e f he hf hT).mono ?_
  rintro r w' ⟨rfl, n⟩
  obtain ⟨_, h2, h3⟩ := sub_ok he hf
  exact ⟨_, rfl, h3, h2, n⟩
end Go.Proofs.YteedfhljbdnmnaaGreatDoor
