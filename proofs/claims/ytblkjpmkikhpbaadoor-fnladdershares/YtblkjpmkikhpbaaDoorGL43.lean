import Derived.Test.YtblkjpmkikhpbaaDoorGL41
import Derived.Test.YtblkjpmkikhpbaaDoorGL24
import Derived.Test.YtblkjpmkikhpbaaDoorGL22

/-
  The model's points: facts of two lists of bytes; l5D, PointZero.
-/
namespace Go.Proofs.YtblkjpmkikhpbaaDoor
set_option maxRecDepth 100000
open Go Go.RowKit

/-- - 121665 / 121666. -/
def dE : Int := (0 - 121665) * iv 121666
theorem zl_len : (List.replicate 16 (Value.int .i64 0)).length = 16 := rfl
theorem there_z (W : World) : (W.alloc zObj).there W.heap.size 0 16 := there_new W _ _

/-- A new list of bytes of which p holds. -/
def RN (w0 : World) (p : List Int → Prop) : Fact := ⟨fun v w => ∃ (xs : List Int) (a : Option Addr) (c g : Nat), v = .slice a xs.length c ∧ Own w g a .u8 xs ∧ w0.heap.size ≤ g ∧ p xs ∧ (a = none → c = 0) ∧ xs.length ≤ c, fun n h => by
  obtain ⟨xs, a, c, g, e, o, q⟩ := h
  exact ⟨xs, a, c, g, e, o.up n, q⟩⟩
/-- A new point: two lists of bytes of which p holds. -/
def PT (w0 : World) (p : List Int → List Int → Prop) : Fact := ⟨fun v w => ∃ (xs ys : List Int) (a a' : Option Addr) (c c' g g' : Nat), v = .agg #[.slice a xs.length c, .slice a' ys.length c'] ∧ Own w g a .u8 xs ∧ Own w g' a' .u8 ys ∧ w0.heap.size ≤ g ∧ w0.heap.size ≤ g' ∧ p xs ys, fun n h => by
  obtain ⟨xs, ys, a, a', c, c', g, g', e, o, o', q⟩ := h
  exact ⟨xs, ys, a, a', c, c', g, g', e, o.up n, o'.up n, q⟩⟩
theorem buP (w : World) (a a' : Option Addr) (m m' c c' : Nat) : (Instr.build 84 #[(0, .slice a m c), (1, .slice a' m' c')]).run Tryd.prog w = .ok (.agg #[.slice a m c, .slice a' m' c']) w := by kernel_rfl
theorem iP : (Tryd.prog.info? 84).map (·.size) = some 2 := by kernel_rfl
theorem uP : ∃ fs, Tryd.prog.underlying 84 = some (.struct fs) := ⟨_, Tryd.underlying84⟩
theorem en_bytes : enters Tryd.prog 32 = true := by kernel_rfl
theorem en_d : enters Tryd.prog 86 = true := by kernel_rfl
theorem en_of : enters Tryd.prog 27 = true := by kernel_rfl
section
variable {ops : Array Oper} {Q : Exit → Act → World → Prop} {md : Region.Mode} {F : Nat → Fact} {a0 : Act} {w0 : World} {i : Nat} {o : Oper} {ts : Array TypeId}
theorem step_bytes (hi : ops[i]? = some o) (p j : Nat) (A : Int) (hop : o.op = .call { callee := .value (.func 32), args := #[.tmp p], argTypes := ts })
    (hj : waits md ops i j p = true) (hFj : F j = EL A) (hFi : F i = RN w0 (fun xs => xs = fill (byt (A % PP)) 32)) : StepOk Tryd.prog md ops Q F a0 w0 i := by
  refine step_call hi _ _ ts hop en_bytes fun a w _ hw hF => ?_
  have ea := hF j p hj
  rw [hFj] at ea
  obtain ⟨t, e1, L1, V1⟩ := ea
  show Calls Tryd.prog 32 #[a.tmps.getD p undef] w _
  rw [e1]
  refine (l2Bytes_any w t L1).mono ?_
  rintro r w' ⟨⟨b, c, g, rfl, ow, k1, k2, hg⟩, hn⟩
  rw [hFi]
  exact ⟨_, rfl, hn, _, b, c, g, rfl, ow, Nat.le_trans hw.size hg, by rw [V1], k1, k2⟩
theorem step_bp (hi : ops[i]? = some o) (p q j k : Nat) (f g : List Int → Prop) (hop : o.op = .build 84 #[(0, .tmp p), (1, .tmp q)])
    (hj : waits md ops i j p = true) (hk : waits md ops i k q = true) (hFj : F j = RN w0 f) (hFk : F k = RN w0 g) (hFi : F i = PT w0 (fun xs ys => f xs ∧ g ys)) : StepOk Tryd.prog md ops Q F a0 w0 i := by
  refine step_pure hi fun a w _ _ hf => ?_
  have h1 := hf j p hj
  have h2 := hf k q hk
  rw [hFj] at h1
  rw [hFk] at h2
  obtain ⟨xs, b, c, h, e1, o1, l1, p1, _, _⟩ := h1
  obtain ⟨ys, b', c', h', e2, o2, l2, p2, _, _⟩ := h2
  refine ⟨.agg #[.slice b xs.length c, .slice b' ys.length c'], ?_, by rw [hFi]; exact ⟨xs, ys, b, b', c, c', h, h', rfl, o1, o2, l1, l2, p1, p2⟩⟩
  have g1 : a.eval (.tmp p) = .slice b xs.length c := e1
  have g2 : a.eval (.tmp q) = .slice b' ys.length c' := e2
  have gg : (#[(0, Operand.tmp p), (1, Operand.tmp q)].map fun (n, x) => (n, a.eval x)) = #[(0, Value.slice b xs.length c), (1, .slice b' ys.length c')] := by simp [g1, g2]
  simp only [execOp, hop, gg]
  rw [Sem.run_bind, buP]
  rfl
end
section
variable {ops : Array Oper} {Q : Exit → Act → World → Prop} {a0 : Act} {w : World} {id : Nat} {draw : Bool}
/-- A region that lays a point into a block that was there. -/
theorem region_putP (k jV pD pV : Nat) (o : Oper) (F : Nat → Fact) (p : List Int → List Int → Prop) (q : Nat) (hT : textOk .any ops a0.tmps.size k = true) (hk : ops[k]? = some o) (hd : o.dst = none) (hop : o.op = .store 84 (.tmp pD) (.tmp pV))
    (hp : apart ops pD = true) (h0 : a0.tmps.getD pD undef = .pointer (some ⟨q, 0, none⟩)) (ht : w.there q 0 2)
    (wV : writes ops jV pV = true) (FV : F jV = PT w p) (steps : ∀ i, i < k → StepOk Tryd.prog .any ops Q F a0 w i)
    (fin : ∀ (vs : Nat → Value) (W W' : World) (xs ys : List Int) (a a' : Option Addr) (c c' g g' : Nat), Below w.heap.size w W → ButQ q w W' → W'.rangeAt q 0 [.slice a xs.length c, .slice a' ys.length c'] → Own W' g a .u8 xs → Own W' g' a' .u8 ys → w.heap.size ≤ g → w.heap.size ≤ g' → p xs ys → (∀ (w1 : World) (B : Nat), Below B w1 W → B ≤ q → Below B w1 W') → Q .normal (puts vs a0 ops.toList) W') :
    (Code.region id ops draw).wp Tryd.prog Q a0 w := by
  refine region_store k o F (by kernel_rfl) hT hk hd steps fun a W hb hw hF => ?_
  have h2 := hF jV pV wV
  rw [FV] at h2
  obtain ⟨xs, ys, b, b', c, c', g, g', ev, o1, o2, l1, l2, hpp⟩ := h2
  have th := there_up (by omega) ht hw
  refine wp_store_mid 84 (.tmp pD) (.tmp pV) hop q 0 #[.slice b xs.length c, .slice b' ys.length c'] ((based_at hb pD hp).trans h0) ev th iP (by simp [Value.oneCell']) ?_
  obtain ⟨vs, hvs⟩ : ∃ vs : Nat → Value, ∀ d, a.tmps.getD d undef = vs d := ⟨_, fun _ => rfl⟩
  rw [hd]
  show Q .normal a _
  rw [puts_of hT rfl hb vs hvs]
  have lq := there_lt (by omega) ht
  refine fin vs W _ xs ys b b' c c' g g' hw (but_set hw _) (World.rangeAt_setCells_same W q 0 _ th) ?_ ?_ l1 l2 hpp (fun w1 B n hB => below_setCells hB _ _ _ n)
  · exact fun h0 => o1.of_block (setCells_other (by omega) _ 0 W) h0
  · exact fun h0 => o2.of_block (setCells_other (by omega) _ 0 W) h0
end

set_option maxHeartbeats 1000000 in
theorem l5D_any (w : World) : Calls Tryd.prog 86 #[] w fun r w' => ∃ t, r = .returned (ag16 t) ∧ L16 t ∧ s16 t 16 % PP = dE % PP ∧ Below w.heap.size w w' := by
  go_enter Tryd.func86, Tryd.ntmps86
  go_upto_region 1 with fail
  change Code.wp _ _ _ _ (w.alloc zObj)
  have TR := there_z w
  have N : Below w.heap.size w (w.alloc zObj) := (Below.refl _ _).alloc (Nat.le_refl _) _
  generalize w.alloc zObj = wr at *
  refine region_put16 6 5 0 6 _ (fun i => [EL 0, EL 121665, EL ((0) - (121665)), EL 121666, EL (iv (121666)), EL (((0) - (121665)) * (iv (121666)))].getD i Fact.no) (((0) - (121665)) * (iv (121666))) _ (by kernel_rfl) rfl rfl rfl (by kernel_rfl) rfl TR (by kernel_rfl) rfl ?_ ?_
  · intro i hi
    obtain rfl | rfl | rfl | rfl | rfl | rfl : i = 0 ∨ i = 1 ∨ i = 2 ∨ i = 3 ∨ i = 4 ∨ i = 5 := by omega
    · exact step_small rfl 0 (by omega) rfl rfl
    · exact step_small rfl 121665 (by omega) rfl rfl
    · exact step_sub rfl 1 2 0 1 _ _ rfl (by kernel_rfl) (by kernel_rfl) rfl rfl rfl
    · exact step_small rfl 121666 (by omega) rfl rfl
    · exact step_inv rfl 4 3 _ rfl (by kernel_rfl) rfl rfl
    · exact step_mul rfl 3 5 2 4 _ _ rfl (by kernel_rfl) (by kernel_rfl) rfl rfl rfl
  intro vs W W' n bq E T nb
  have NS := nb w w.heap.size (nxt N n) (Nat.le_refl _)
  simp only [puts, Act.put, List.setIfInBounds_toArray, List.set_cons_succ, List.set_cons_zero]
  obtain ⟨t, rg, _, L, V⟩ := E
  clear N n bq nb T TR
  go_wp2
  exact bodyPost_ret (v := .agg (a16 t)) (results_cell_mid Tryd.results86 _ _ w.heap.size (a16 t).toList (.array 16 2) rfl rg Go.Proofs.YtblkjpmkikhpbaaDoor.u50 rfl (by rw [a16_len]; exact i50)) rfl ⟨t, rfl, L, V, NS⟩
theorem step_d {ops : Array Oper} {Q : Exit → Act → World → Prop} {md : Region.Mode} {F : Nat → Fact} {a0 : Act} {w0 : World} {i : Nat} {o : Oper} {ts : Array TypeId} (hi : ops[i]? = some o) (hop : o.op = .call { callee := .value (.func 86), args := #[], argTypes := ts })
    (hFi : F i = EL dE) : StepOk Tryd.prog md ops Q F a0 w0 i := by
  refine step_call hi _ _ ts hop en_d fun a w _ _ _ => ?_
  refine (l5D_any w).mono ?_
  rintro r w' ⟨s, rfl, L, V, hb⟩
  exact ⟨_, rfl, hb, by rw [hFi]; exact ⟨s, rfl, L, V⟩⟩
end Go.Proofs.YtblkjpmkikhpbaaDoor

/-
  The model's PointZero and l5Plain.
-/
namespace Go.Proofs.YtblkjpmkikhpbaaDoor
set_option maxRecDepth 100000
open Go Go.RowKit

abbrev pObj : Obj := .cells [Value.slice none 0 0, .slice none 0 0].toArray 84
theorem there_p (W : World) : (W.alloc pObj).there W.heap.size 0 2 := there_new W _ _
/-- What a call that makes a point answers. -/
def NewPt (B : Nat) (w' : World) (e : Ending) (xs ys : List Int) : Prop :=
  ∃ (a a' : Option Addr) (c c' g g' : Nat), e = .returned (.agg #[.slice a xs.length c, .slice a' ys.length c']) ∧ Own w' g a .u8 xs ∧ Own w' g' a' .u8 ys ∧ B ≤ g ∧ B ≤ g'

set_option maxHeartbeats 1000000 in
theorem pointZero_any (w : World) : Calls Tryd.prog 88 #[] w fun r w' => NewPt w.heap.size w' r (fill (byt (0 % PP)) 32) (fill (byt (1 % PP)) 32) ∧ Below w.heap.size w w' := by
  go_enter Tryd.func88, Tryd.ntmps88
  go_upto_region 1 with fail
  change Code.wp _ _ _ _ (w.alloc pObj)
  have TR := there_p w
  have N : Below w.heap.size w (w.alloc pObj) := (Below.refl _ _).alloc (Nat.le_refl _) _
  generalize w.alloc pObj = wr at *
  refine region_putP 5 4 0 5 _ (fun i => [EL 0, RN wr (fun xs => xs = fill (byt ((0) % PP)) 32), EL 1, RN wr (fun xs => xs = fill (byt ((1) % PP)) 32), PT wr (fun xs ys => xs = fill (byt ((0) % PP)) 32 ∧ ys = fill (byt ((1) % PP)) 32)].getD i Fact.no) (fun xs ys => xs = fill (byt ((0) % PP)) 32 ∧ ys = fill (byt ((1) % PP)) 32) _ (by kernel_rfl) rfl rfl rfl (by kernel_rfl) rfl TR (by kernel_rfl) rfl ?_ ?_
  · intro i hi
    obtain rfl | rfl | rfl | rfl | rfl : i = 0 ∨ i = 1 ∨ i = 2 ∨ i = 3 ∨ i = 4 := by omega
    · exact step_small rfl 0 (by omega) rfl rfl
    · exact step_bytes rfl 1 0 _ rfl (by kernel_rfl) rfl rfl
    · exact step_small rfl 1 (by omega) rfl rfl
    · exact step_bytes rfl 3 2 _ rfl (by kernel_rfl) rfl rfl
    · exact step_bp rfl 2 4 1 3 _ _ rfl (by kernel_rfl) (by kernel_rfl) rfl rfl rfl
  rintro vs W W' xs ys a a' c c' g g' n bq rg o1 o2 l1 l2 ⟨rfl, rfl⟩ nb
  have NS := nb w w.heap.size (nxt N n) (Nat.le_refl _)
  simp only [puts, Act.put, List.setIfInBounds_toArray, List.set_cons_succ, List.set_cons_zero]
  have z1 := N.size
  clear N n bq nb TR
  go_wp2
  obtain ⟨fs, hfs⟩ := uP
  exact bodyPost_ret (v := .agg #[_, _]) (results_cell_mid Tryd.results88 _ _ w.heap.size _ _ rfl rg hfs rfl iP) rfl ⟨⟨a, a', c, c', g, g', rfl, o1, o2, by omega, by omega⟩, NS⟩

set_option maxHeartbeats 2000000 in
theorem l5Plain_any (w : World) (x y z : Nat → Int) (pX pY pZ : Int) (hx : L16 x ∧ s16 x 16 % PP = pX % PP) (hy : L16 y ∧ s16 y 16 % PP = pY % PP) (hz : L16 z ∧ s16 z 16 % PP = pZ % PP) :
    Calls Tryd.prog 89 #[ag48 x y z] w fun r w' => NewPt w.heap.size w' r (fill (byt (pX * iv pZ % PP)) 32) (fill (byt (pY * iv pZ % PP)) 32) ∧ Below w.heap.size w w' := by
  show Calls Tryd.prog 89 #[.agg (c48 x y z).toArray] w _
  have H1 := elt3_new w 103 hx hy hz
  have m1 : Below w.heap.size w (w.alloc (.cells (c48 x y z).toArray 103)) := (Below.refl _ _).alloc (Nat.le_refl _) _
  have s1 : (w.alloc (.cells (c48 x y z).toArray 103)).heap.size = w.heap.size + 1 := by simp
  obtain ⟨V1, hV1⟩ : ∃ V, V = (c48 x y z).toArray := ⟨_, rfl⟩
  rw [← hV1] at H1 m1 s1 ⊢
  clear hV1 hx hy hz
  go_enter Tryd.func89, Tryd.ntmps89
  go_upto_region 1 with fail
  generalize w.alloc (.cells V1 103) = wa at *
  change Code.wp _ _ _ _ (wa.alloc pObj)
  have TR := there_p wa
  have m2 : Below wa.heap.size wa (wa.alloc pObj) := (Below.refl _ _).alloc (Nat.le_refl _) _
  rw [s1] at TR
  have HP := H1.up m2
  have N := nxt m1 m2
  clear H1 m1 m2 s1
  generalize wa.alloc pObj = wr at *
  refine region_new16 4 3 2 3 6 _ (fun i => [Fact.eq (.pointer (some ⟨w.heap.size, 32, none⟩)), EL (pZ), EL (iv (pZ)), NB wr 16].getD i Fact.no) (iv (pZ)) (by kernel_rfl) rfl rfl rfl (by kernel_rfl) (by kernel_rfl) rfl rfl ?_ ?_
  · intro i hi
    obtain rfl | rfl | rfl | rfl : i = 0 ∨ i = 1 ∨ i = 2 ∨ i = 3 := by omega
    · exact step_fld rfl 103 1 2 rfl (by kernel_rfl) _ _ rfl (fz48 _) rfl
    · exact step_elf rfl 36 4 0 rfl Go.Proofs.YtblkjpmkikhpbaaDoor.u50 i50 (by kernel_rfl) _ _ rfl _ HP.z rfl
    · exact step_inv rfl 5 1 _ rfl (by kernel_rfl) rfl rfl
    · exact step_new16 rfl rfl rfl
  intro vs1 q3 W1 v3 h3 n1 E3' T1
  replace HP := HP.up n1
  replace N := nxt N n1
  replace TR := there_up (by omega) TR n1
  clear n1 T1
  simp only [puts, v3, Act.put, List.setIfInBounds_toArray, List.set_cons_succ, List.set_cons_zero]
  clear v3
  go_upto_region 2 with fail
  refine region_putP 11 10 2 17 _ (fun i => [Fact.eq (.pointer (some ⟨w.heap.size, 0, none⟩)), EL (pX), EL (iv (pZ)), EL ((pX) * (iv (pZ))), RN W1 (fun xs => xs = fill (byt (((pX) * (iv (pZ))) % PP)) 32), Fact.eq (.pointer (some ⟨w.heap.size, 16, none⟩)), EL (pY), EL (iv (pZ)), EL ((pY) * (iv (pZ))), RN W1 (fun xs => xs = fill (byt (((pY) * (iv (pZ))) % PP)) 32), PT W1 (fun xs ys => xs = fill (byt (((pX) * (iv (pZ))) % PP)) 32 ∧ ys = fill (byt (((pY) * (iv (pZ))) % PP)) 32)].getD i Fact.no) (fun xs ys => xs = fill (byt (((pX) * (iv (pZ))) % PP)) 32 ∧ ys = fill (byt (((pY) * (iv (pZ))) % PP)) 32) _ (by kernel_rfl) rfl rfl rfl (by kernel_rfl) rfl TR (by kernel_rfl) rfl ?_ ?_
  · intro i hi
    obtain rfl | rfl | rfl | rfl | rfl | rfl | rfl | rfl | rfl | rfl | rfl : i = 0 ∨ i = 1 ∨ i = 2 ∨ i = 3 ∨ i = 4 ∨ i = 5 ∨ i = 6 ∨ i = 7 ∨ i = 8 ∨ i = 9 ∨ i = 10 := by omega
    · exact step_fld rfl 103 1 0 rfl (by kernel_rfl) _ _ rfl (fx48 _) rfl
    · exact step_elf rfl 36 7 0 rfl Go.Proofs.YtblkjpmkikhpbaaDoor.u50 i50 (by kernel_rfl) _ _ rfl _ HP.x rfl
    · exact step_el rfl 36 3 rfl Go.Proofs.YtblkjpmkikhpbaaDoor.u50 i50 (by kernel_rfl) _ _ rfl _ E3' rfl
    · exact step_mul rfl 8 9 1 2 _ _ rfl (by kernel_rfl) (by kernel_rfl) rfl rfl rfl
    · exact step_bytes rfl 10 3 _ rfl (by kernel_rfl) rfl rfl
    · exact step_fld rfl 103 1 1 rfl (by kernel_rfl) _ _ rfl (fy48 _) rfl
    · exact step_elf rfl 36 12 5 rfl Go.Proofs.YtblkjpmkikhpbaaDoor.u50 i50 (by kernel_rfl) _ _ rfl _ HP.y rfl
    · exact step_el rfl 36 3 rfl Go.Proofs.YtblkjpmkikhpbaaDoor.u50 i50 (by kernel_rfl) _ _ rfl _ E3' rfl
    · exact step_mul rfl 13 14 6 7 _ _ rfl (by kernel_rfl) (by kernel_rfl) rfl rfl rfl
    · exact step_bytes rfl 15 8 _ rfl (by kernel_rfl) rfl rfl
    · exact step_bp rfl 11 16 4 9 _ _ rfl (by kernel_rfl) (by kernel_rfl) rfl rfl rfl
  rintro vs W W' xs ys a a' c c' g g' n bq rg o1 o2 l1 l2 ⟨rfl, rfl⟩ nb
  have NS := nb w w.heap.size (nxt N n) (by omega)
  simp only [puts, Act.put, List.setIfInBounds_toArray, List.set_cons_succ, List.set_cons_zero]
  have z1 := N.size
  clear N n bq nb TR HP E3'
  go_wp2
  obtain ⟨fs, hfs⟩ := uP
  exact bodyPost_ret (v := .agg #[_, _]) (results_cell_mid Tryd.results89 _ _ (w.heap.size + 1) _ _ rfl rg hfs rfl iP) rfl ⟨⟨a, a', c, c', g, g', rfl, o1, o2, by omega, by omega⟩, NS⟩
end Go.Proofs.YtblkjpmkikhpbaaDoor
