import Derived.Test.YthonlkghkdjagaaGreatDoorGX44
import Derived.BigFrame
import Derived.Test.YthonlkghkdjagaaGreatDoorGX43
import Derived.Test.YthonlkghkdjagaaGreatDoorGX40
import Derived.Test.YthonlkghkdjagaaGreatDoorRows
import Derived.Test.YthonlkghkdjagaaGreatDoorGX39
import Derived.Lib.LaidTab
import Derived.Lib.LaidU8
import Derived.LaidMore
namespace Go.Proofs.YthonlkghkdjagaaGreatDoor
set_option maxRecDepth 100000
open Go Go.RowKit
theorem wpList_load_want {P : Program} {ops : Array Oper} {rest : List Oper} {op : Oper} {a : Act} {w : World} {Q : Exit → Act → World → Prop} (hw : Region.wanted op (yielded ops a.tmps) = true) (ty : TypeId) (x : Operand) (ho : op.op = .load ty x)
    (b o : Nat) (hx : a.eval x = .pointer (some ⟨b, o, none⟩)) (cs : List Value) (d : TypeDesc) (hc : w.rangeAt b o cs)
    (hu : P.underlying ty = some d) (hd : d.isRow = true) (hi : (P.info? ty).map (·.size) = some cs.length)
    (h : wpList P ops Q rest (a.put op.dst (.agg cs.toArray)) w) : wpList P ops Q (op :: rest) a w :=
  BigFrame.wpList_want hw fun _ hK => wp_load_mid ty x ho b o hx cs d hc hu hd hi (hK _ _ h)
def liB (A : Int) (odd : Bool) : Bool := rootB (liftZ A) && !(odd && decide (rootV (liftZ A) % PP = 0))
def liX (A : Int) (odd : Bool) : List Int := if liB A odd = true then fill (byt ((if odd = true then 0 - rootV (liftZ A) else rootV (liftZ A)) % PP)) 32 else []
def liY (A : Int) (odd : Bool) : List Int := if liB A odd = true then fill (byt (A % PP)) 32 else []
def NewLi (B : Nat) (w' : World) (e : Ending) (b : Bool) (xs ys : List Int) : Prop :=
  ∃ (a a' : Option Addr) (c c' g g' : Nat), e = .returned (.tuple #[.bool b, .agg #[.slice a xs.length c, .slice a' ys.length c']]) ∧ Own w' g a .u8 xs ∧ Own w' g' a' .u8 ys ∧ B ≤ g ∧ B ≤ g'
theorem newLi_nil {B : Nat} {w : World} : NewLi B w (.returned (.tuple #[.bool false, .agg #[.slice none 0 0, .slice none 0 0]])) false [] [] := ⟨none, none, 0, 0, B, B, rfl, Own.nil _ _ _ _, Own.nil _ _ _ _, Nat.le_refl _, Nat.le_refl _⟩
section
variable {ops : Array Oper} {Q : Exit → Act → World → Prop} {md : Region.Mode} {F : Nat → Fact} {a0 : Act} {w0 : World} {i : Nat} {o : Oper}
theorem step_konst {P : Program} (hi : ops[i]? = some o) {v : Value} (hop : o.op = .assign (.const v)) (hF : F i = Fact.eq v) : StepOk P md ops Q F a0 w0 i :=
  step_pure hi fun a w _ _ _ => ⟨v, by simp [execOp, hop, Act.eval], by rw [hF]; exact rfl⟩
end
section
variable {ops : Array Oper} {Q : Exit → Act → World → Prop} {a0 : Act} {w : World} {id : Nat} {draw : Bool}
theorem region_putPF (k jV pD pV : Nat) (o : Oper) (F : Nat → Fact) (p : List Int → List Int → Prop) (q : Nat) (hT : textOk .any ops a0.tmps.size k = true) (hk : ops[k]? = some o) (hd : o.dst = none) (hop : o.op = .store 62 (.tmp pD) (.tmp pV))
    (hp : apart ops pD = true) (h0 : a0.tmps.getD pD undef = .pointer (some ⟨q, 0, none⟩)) (ht : w.there q 0 2)
    (wV : writes ops jV pV = true) (FV : F jV = PT w p) (steps : ∀ i, i < k → StepOk Tryz.prog .any ops Q F a0 w i)
    (fin : ∀ (vs : Nat → Value) (W W' : World) (xs ys : List Int) (a a' : Option Addr) (c c' g g' : Nat), Below w.heap.size w W → ButQ q w W' → W'.rangeAt q 0 [.slice a xs.length c, .slice a' ys.length c'] → Own W' g a .u8 xs → Own W' g' a' .u8 ys → w.heap.size ≤ g → w.heap.size ≤ g' → p xs ys → (∀ (w1 : World) (B : Nat), Below B w1 W → B ≤ q → Below B w1 W') → (∀ i d, writes ops i d = true → ∃ Wp, (F i).p (vs d) Wp) → Q .normal (puts vs a0 ops.toList) W') :
    (Code.region id ops draw).wp Tryz.prog Q a0 w := by
  refine region_store k o F (by kernel_rfl) hT hk hd steps fun a W hb hw hF => ?_
  have h2 := hF jV pV wV
  rw [FV] at h2
  obtain ⟨xs, ys, b, b', c, c', g, g', ev, o1, o2, l1, l2, hpp⟩ := h2
  have th := there_up (by omega) ht hw
  refine wp_store_mid 62 (.tmp pD) (.tmp pV) hop q 0 #[.slice b xs.length c, .slice b' ys.length c'] ((based_at hb pD hp).trans h0) ev th iP (by simp [Value.oneCell']) ?_
  obtain ⟨vs, hvs⟩ : ∃ vs : Nat → Value, ∀ d, a.tmps.getD d undef = vs d := ⟨_, fun _ => rfl⟩
  rw [hd]
  show Q .normal a _
  rw [puts_of hT rfl hb vs hvs]
  have lq := there_lt (by omega) ht
  refine fin vs W _ xs ys b b' c c' g g' hw (but_set hw _) (World.rangeAt_setCells_same W q 0 _ th) ?_ ?_ l1 l2 hpp (fun w1 B n hB => below_setCells hB _ _ _ n) (fun i d h => ⟨W, by rw [← hvs]; exact hF i d h⟩)
  · exact fun h0 => o1.of_block (setCells_other (by omega) _ 0 W) h0
  · exact fun h0 => o2.of_block (setCells_other (by omega) _ 0 W) h0
end
set_option maxHeartbeats 2000000 in
theorem l5Lift_any (w : World) (f : Nat → Int) (A : Int) (hf : L16 f ∧ s16 f 16 % PP = A % PP) (odd : Bool) :
    Calls Tryz.prog 87 #[ag16 f, .bool odd] w fun r w' => NewLi w.heap.size w' r (liB A odd) (liX A odd) (liY A odd) ∧ Below w.heap.size w w' := by
  show Calls Tryz.prog 87 #[.agg (a16 f), .bool odd] w _
  have H1 := elt_new5 w 69 hf
  have m1 : Below w.heap.size w (w.alloc (.cells (a16 f) 69)) := (Below.refl _ _).alloc (Nat.le_refl _) _
  have s1 : (w.alloc (.cells (a16 f) 69)).heap.size = w.heap.size + 1 := by simp
  obtain ⟨V1, hV1⟩ : ∃ V, V = a16 f := ⟨_, rfl⟩
  rw [← hV1] at H1 m1 s1 ⊢
  clear hV1 hf
  go_enter Tryz.func87, Tryz.ntmps87
  go_upto_region 1 with fail
  generalize w.alloc (.cells V1 69) = wa at *
  change Code.wp _ _ _ _ (wa.alloc pObj)
  have TR := there_p wa
  have TZ : Two (wa.alloc pObj) wa.heap.size (.slice none 0 0) (.slice none 0 0) := Two.new wa (.slice none 0 0) (.slice none 0 0) 62
  have m2 : Below wa.heap.size wa (wa.alloc pObj) := (Below.refl _ _).alloc (Nat.le_refl _) _
  rw [s1] at TR TZ
  have E2' := H1.up m2
  have N := nxt m1 m2
  clear H1 m1 m2 s1
  generalize wa.alloc pObj = wr at *
  refine region_new16 4 3 2 6 11 _ (fun i => [EL (A), EL (A), EL ((A) * (A)), NB wr 16].getD i Fact.no) ((A) * (A)) (by kernel_rfl) rfl rfl rfl (by kernel_rfl) (by kernel_rfl) rfl rfl ?_ ?_
  · intro i hi
    obtain rfl | rfl | rfl | rfl : i = 0 ∨ i = 1 ∨ i = 2 ∨ i = 3 := by omega
    · exact step_el rfl 69 2 rfl Go.Proofs.YthonlkghkdjagaaGreatDoor.u50 i50 (by kernel_rfl) _ _ rfl _ E2' rfl
    · exact step_el rfl 69 2 rfl Go.Proofs.YthonlkghkdjagaaGreatDoor.u50 i50 (by kernel_rfl) _ _ rfl _ E2' rfl
    · exact step_mul rfl 9 10 0 1 _ _ rfl (by kernel_rfl) (by kernel_rfl) rfl rfl rfl
    · exact step_new16 rfl rfl rfl
  intro vs1 q6 W1 v6 l6 n E6 T6
  have y6 := there_lt (by omega) T6
  replace E2' := E2'.up n
  replace TR := there_up (by omega) TR n
  replace TZ := TZ.up n
  replace N := nxt N n
  clear n T6
  simp only [puts, v6, Act.put, List.setIfInBounds_toArray, List.set_cons_succ, List.set_cons_zero]
  clear v6
  go_upto_region 2 with fail
  refine region_new16F 16 14 13 8 25 _ (fun i => [EL ((A) * (A)), EL 1, EL (((A) * (A)) - (1)), EL dE, EL ((A) * (A)), EL ((dE) * ((A) * (A))), EL 1, EL (((dE) * ((A) * (A))) + (1)), EL (iv (((dE) * ((A) * (A))) + (1))), EL ((((A) * (A)) - (1)) * (iv (((dE) * ((A) * (A))) + (1)))), RT ((((A) * (A)) - (1)) * (iv (((dE) * ((A) * (A))) + (1)))), RT ((((A) * (A)) - (1)) * (iv (((dE) * ((A) * (A))) + (1)))), Fact.eq (.bool (rootB ((((A) * (A)) - (1)) * (iv (((dE) * ((A) * (A))) + (1)))))), EL (rootV ((((A) * (A)) - (1)) * (iv (((dE) * ((A) * (A))) + (1))))), NB W1 16, Fact.eq (.bool (rootB ((((A) * (A)) - (1)) * (iv (((dE) * ((A) * (A))) + (1))))))].getD i Fact.no) (rootV ((((A) * (A)) - (1)) * (iv (((dE) * ((A) * (A))) + (1))))) (by kernel_rfl) rfl rfl rfl (by kernel_rfl) (by kernel_rfl) rfl rfl ?_ ?_
  · intro i hi
    obtain rfl | rfl | rfl | rfl | rfl | rfl | rfl | rfl | rfl | rfl | rfl | rfl | rfl | rfl | rfl | rfl : i = 0 ∨ i = 1 ∨ i = 2 ∨ i = 3 ∨ i = 4 ∨ i = 5 ∨ i = 6 ∨ i = 7 ∨ i = 8 ∨ i = 9 ∨ i = 10 ∨ i = 11 ∨ i = 12 ∨ i = 13 ∨ i = 14 ∨ i = 15 := by omega
    · exact step_el rfl 69 6 rfl Go.Proofs.YthonlkghkdjagaaGreatDoor.u50 i50 (by kernel_rfl) _ _ rfl _ E6 rfl
    · exact step_small rfl 1 (by omega) rfl rfl
    · exact step_sub rfl 13 14 0 1 _ _ rfl (by kernel_rfl) (by kernel_rfl) rfl rfl rfl
    · exact step_d rfl rfl rfl
    · exact step_el rfl 69 6 rfl Go.Proofs.YthonlkghkdjagaaGreatDoor.u50 i50 (by kernel_rfl) _ _ rfl _ E6 rfl
    · exact step_mul rfl 16 17 3 4 _ _ rfl (by kernel_rfl) (by kernel_rfl) rfl rfl rfl
    · exact step_small rfl 1 (by omega) rfl rfl
    · exact step_add rfl 18 19 5 6 _ _ rfl (by kernel_rfl) (by kernel_rfl) rfl rfl rfl
    · exact step_inv rfl 20 7 _ rfl (by kernel_rfl) rfl rfl
    · exact step_mul rfl 15 21 2 8 _ _ rfl (by kernel_rfl) (by kernel_rfl) rfl rfl rfl
    · exact step_root rfl 22 9 _ rfl (by kernel_rfl) rfl rfl
    · exact step_move rfl 23 10 (by exact Or.inl rfl) (by kernel_rfl) rfl
    · exact step_ext0 rfl 12 11 _ rfl (by kernel_rfl) rfl rfl
    · exact step_ext1 rfl 12 11 _ rfl (by kernel_rfl) rfl rfl
    · exact step_new16 rfl rfl rfl
    · exact step_move rfl 24 12 (by exact Or.inr rfl) (by kernel_rfl) rfl
  intro vs2 q8 W2 v8 l8 n E8 T8 hF
  have v7' := hF 15 7 (by kernel_rfl)
  have zr := there_lt (by omega) TR
  replace E2' := E2'.up n
  replace TR := there_up (by omega) TR n
  replace TZ := TZ.up n
  replace N := nxt N n
  obtain ⟨_, v7⟩ := v7'
  clear n hF
  obtain ⟨Z, hZ⟩ : ∃ Z, Z = liftZ A := ⟨_, rfl⟩
  change vs2 7 = .bool (rootB (liftZ A)) at v7
  replace E8 : Elt W2 q8 0 (rootV (liftZ A)) := E8
  rw [← hZ] at v7 E8
  have KB : Hid (liB A odd = (rootB Z && !(odd && decide (rootV Z % PP = 0)))) := by show _ = _; rw [hZ]; rfl
  have KX0 : Hid (liX A odd = if liB A odd = true then fill (byt ((if odd = true then 0 - rootV Z else rootV Z) % PP)) 32 else []) := by show _ = _; rw [hZ]; rfl
  have KY0 : Hid (liY A odd = if liB A odd = true then fill (byt (A % PP)) 32 else []) := by show _ = _; rfl
  clear hZ
  obtain ⟨V, hV⟩ : ∃ V, V = rootV Z := ⟨_, rfl⟩
  rw [← hV] at E8 KB KX0
  obtain ⟨rb, hrb⟩ : ∃ b, b = rootB Z := ⟨_, rfl⟩
  rw [← hrb] at v7 KB
  clear hV hrb
  simp only [puts, v8, v7, Act.put, List.setIfInBounds_toArray, List.set_cons_succ, List.set_cons_zero]
  clear v8 v7
  have gq : w.heap.size + 1 < q8 := by omega
  clear l6 y6 l8 E6 zr
  cases rb with
  | false =>
    have KK : Hid (liB A odd = false) := by show _ = _; rw [KB.out]; rfl
    have KX : Hid (liX A odd = []) := by show _ = _; rw [KX0.out, if_neg (by rw [KK.out]; simp)]
    have KY : Hid (liY A odd = []) := by show _ = _; rw [KY0.out, if_neg (by rw [KK.out]; simp)]
    obtain ⟨y0, y1, f0, f1⟩ := TZ
    clear KB KX0 KY0 E2' E8 T8 TR
    go_wp2
    refine bodyPost_ret (v := .tuple #[.bool false, .agg #[.slice none 0 0, .slice none 0 0]]) (by simp [results, Tryz.results87, go_sem, y0, y1]) rfl ⟨by rw [KK.out, KX.out, KY.out]; exact newLi_nil, ?_⟩
    exact (N.setCell (by show w.heap.size ≤ w.heap.size + 1; omega) _).setCell (by show w.heap.size ≤ w.heap.size + 1; omega) _
  | true =>
    cases odd with
    | false =>
      have KK : Hid (liB A false = true) := by show _ = _; rw [KB.out]; rfl
      have KX : Hid (liX A false = fill (byt ((V) % PP)) 32) := by show _ = _; rw [KX0.out, if_pos KK.out]; rfl
      have KY : Hid (liY A false = fill (byt ((A) % PP)) 32) := by show _ = _; rw [KY0.out, if_pos KK.out]
      clear KB KX0 KY0 TZ
      go_upto_region 7 with fail
      refine region_putPF 6 4 5 44 _ (fun i => [EL (V), RN W2 (fun xs => xs = fill (byt ((V) % PP)) 32), EL (A), RN W2 (fun xs => xs = fill (byt ((A) % PP)) 32), PT W2 (fun xs ys => xs = fill (byt ((V) % PP)) 32 ∧ ys = fill (byt ((A) % PP)) 32), Fact.eq (.bool true)].getD i Fact.no) (fun xs ys => xs = fill (byt ((V) % PP)) 32 ∧ ys = fill (byt ((A) % PP)) 32) _ (by kernel_rfl) rfl rfl rfl (by kernel_rfl) rfl TR (by kernel_rfl) rfl ?_ ?_
      · intro i hi
        obtain rfl | rfl | rfl | rfl | rfl | rfl : i = 0 ∨ i = 1 ∨ i = 2 ∨ i = 3 ∨ i = 4 ∨ i = 5 := by omega
        · exact step_el rfl 69 8 rfl Go.Proofs.YthonlkghkdjagaaGreatDoor.u50 i50 (by kernel_rfl) _ _ rfl _ E8 rfl
        · exact step_bytes rfl 40 0 _ rfl (by kernel_rfl) rfl rfl
        · exact step_el rfl 69 2 rfl Go.Proofs.YthonlkghkdjagaaGreatDoor.u50 i50 (by kernel_rfl) _ _ rfl _ E2' rfl
        · exact step_bytes rfl 42 2 _ rfl (by kernel_rfl) rfl rfl
        · exact step_bp rfl 41 43 1 3 _ _ rfl (by kernel_rfl) (by kernel_rfl) rfl rfl rfl
        · exact step_konst rfl rfl rfl
      rintro vt Wa Wb ps qs b1 b2 d1 d2 h1 h2 n bq rg o1 o2 l1 l2 ⟨rfl, rfl⟩ nb hF
      obtain ⟨_, v4⟩ := hF 5 4 (by kernel_rfl)
      clear hF
      change vt 4 = .bool true at v4
      have NS := nb w w.heap.size (nxt N n) (by omega)
      simp only [puts, v4, Act.put, List.setIfInBounds_toArray, List.set_cons_succ, List.set_cons_zero]
      clear v4
      have z1 := N.size
      clear N n bq nb TR E2' E8
      rw [show fill (byt ((V) % PP)) 32 = liX A false from KX.out.symm] at o1 rg
      rw [show fill (byt ((A) % PP)) 32 = liY A false from KY.out.symm] at o2 rg
      clear KX KY
      go_wp2
      have k0 := rg 0 _ rfl
      have k1 := rg 1 _ rfl
      simp only [Nat.zero_add] at k0 k1
      refine bodyPost_ret (v := .tuple #[.bool true, .agg #[.slice b1 (liX A false).length d1, .slice b2 (liY A false).length d2]]) (by simp [results, Tryz.results87, go_sem, k0, k1]) rfl ⟨?_, NS⟩
      rw [KK.out]
      exact ⟨b1, b2, d1, d2, h1, h2, rfl, o1, o2, by omega, by omega⟩
    | true =>
      obtain ⟨t8, rg8, _, L8, V8⟩ := id E8
      have IZ := hide (fun W => l2IsZero_any W t8 L8)
      simp only [show ∀ f, ag16 f = .agg (a16 f) from fun _ => rfl] at IZ
      have LD := hide rg8
      rw [V8] at IZ
      clear L8 V8 rg8
      by_cases hz : V % PP = 0
      · have KK : Hid (liB A true = false) := by show _ = _; rw [KB.out, decide_eq_true hz]; rfl
        have KX : Hid (liX A true = []) := by show _ = _; rw [KX0.out, if_neg (by rw [KK.out]; simp)]
        have KY : Hid (liY A true = []) := by show _ = _; rw [KY0.out, if_neg (by rw [KK.out]; simp)]
        simp only [decide_eq_true hz] at IZ
        clear KB KX0 KY0 E2' E8 T8 TR hz
        go_wp2_with (refine wpList_load_want rfl 69 (.tmp 8) rfl q8 0 rfl (a16 t8).toList (.array 16 2) LD.out Go.Proofs.YthonlkghkdjagaaGreatDoor.u50 rfl (by rw [a16_len]; exact i50) ?_)
        refine (IZ.out W2).mono ?_
        rintro r W3' ⟨rfl, n⟩
        replace N := nxt N n
        obtain ⟨y0, y1, f0, f1⟩ := TZ.up n
        clear IZ LD n TZ
        go_wp2
        refine bodyPost_ret (v := .tuple #[.bool false, .agg #[.slice none 0 0, .slice none 0 0]]) (by simp [results, Tryz.results87, go_sem, y0, y1]) rfl ⟨by rw [KK.out, KX.out, KY.out]; exact newLi_nil, ?_⟩
        exact (N.setCell (by show w.heap.size ≤ w.heap.size + 1; omega) _).setCell (by show w.heap.size ≤ w.heap.size + 1; omega) _
      · have KK : Hid (liB A true = true) := by show _ = _; rw [KB.out, decide_eq_false hz]; rfl
        have KX : Hid (liX A true = fill (byt (((0) - (V)) % PP)) 32) := by show _ = _; rw [KX0.out, if_pos KK.out]; rfl
        have KY : Hid (liY A true = fill (byt ((A) % PP)) 32) := by show _ = _; rw [KY0.out, if_pos KK.out]
        simp only [decide_eq_false hz] at IZ
        clear KB KX0 KY0 TZ hz
        go_wp2_with (refine wpList_load_want rfl 69 (.tmp 8) rfl q8 0 rfl (a16 t8).toList (.array 16 2) LD.out Go.Proofs.YthonlkghkdjagaaGreatDoor.u50 rfl (by rw [a16_len]; exact i50) ?_)
        refine (IZ.out W2).mono ?_
        rintro r W5 ⟨rfl, n⟩
        replace E2' := E2'.up n
        replace E8 := E8.up n
        replace TR := there_up (by omega) TR n
        replace T8 := there_up (by omega) T8 n
        replace N := nxt N n
        clear IZ LD n
        go_upto_region 6 with fail
        refine region_put16 3 2 8 39 _ (fun i => [EL 0, EL (V), EL ((0) - (V))].getD i Fact.no) ((0) - (V)) _ (by kernel_rfl) rfl rfl rfl (by kernel_rfl) rfl T8 (by kernel_rfl) rfl ?_ ?_
        · intro i hi
          obtain rfl | rfl | rfl : i = 0 ∨ i = 1 ∨ i = 2 := by omega
          · exact step_small rfl 0 (by omega) rfl rfl
          · exact step_el rfl 69 8 rfl Go.Proofs.YthonlkghkdjagaaGreatDoor.u50 i50 (by kernel_rfl) _ _ rfl _ E8 rfl
          · exact step_sub rfl 37 38 0 1 _ _ rfl (by kernel_rfl) (by kernel_rfl) rfl rfl rfl
        intro vs6 Wc W6 n b E8n T8n nb
        replace E2' := E2'.but b (by omega)
        replace TR := there_but (by omega) TR b (by omega)
        replace N := nb w w.heap.size (nxt N n) (by omega)
        clear n b nb T8n T8 E8
        simp only [puts, Act.put, List.setIfInBounds_toArray, List.set_cons_succ, List.set_cons_zero]
        go_upto_region 7 with fail
        refine region_putPF 6 4 5 44 _ (fun i => [EL ((0) - (V)), RN W6 (fun xs => xs = fill (byt (((0) - (V)) % PP)) 32), EL (A), RN W6 (fun xs => xs = fill (byt ((A) % PP)) 32), PT W6 (fun xs ys => xs = fill (byt (((0) - (V)) % PP)) 32 ∧ ys = fill (byt ((A) % PP)) 32), Fact.eq (.bool true)].getD i Fact.no) (fun xs ys => xs = fill (byt (((0) - (V)) % PP)) 32 ∧ ys = fill (byt ((A) % PP)) 32) _ (by kernel_rfl) rfl rfl rfl (by kernel_rfl) rfl TR (by kernel_rfl) rfl ?_ ?_
        · intro i hi
          obtain rfl | rfl | rfl | rfl | rfl | rfl : i = 0 ∨ i = 1 ∨ i = 2 ∨ i = 3 ∨ i = 4 ∨ i = 5 := by omega
          · exact step_el rfl 69 8 rfl Go.Proofs.YthonlkghkdjagaaGreatDoor.u50 i50 (by kernel_rfl) _ _ rfl _ E8n rfl
          · exact step_bytes rfl 40 0 _ rfl (by kernel_rfl) rfl rfl
          · exact step_el rfl 69 2 rfl Go.Proofs.YthonlkghkdjagaaGreatDoor.u50 i50 (by kernel_rfl) _ _ rfl _ E2' rfl
          · exact step_bytes rfl 42 2 _ rfl (by kernel_rfl) rfl rfl
          · exact step_bp rfl 41 43 1 3 _ _ rfl (by kernel_rfl) (by kernel_rfl) rfl rfl rfl
          · exact step_konst rfl rfl rfl
        rintro vt Wa Wb ps qs b1 b2 d1 d2 h1 h2 n bq rg o1 o2 l1 l2 ⟨rfl, rfl⟩ nb hF
        obtain ⟨_, v4⟩ := hF 5 4 (by kernel_rfl)
        clear hF
        change vt 4 = .bool true at v4
        have NS := nb w w.heap.size (nxt N n) (by omega)
        simp only [puts, v4, Act.put, List.setIfInBounds_toArray, List.set_cons_succ, List.set_cons_zero]
        clear v4
        have z1 := N.size
        clear N n bq nb TR E2' E8n
        rw [show fill (byt (((0) - (V)) % PP)) 32 = liX A true from KX.out.symm] at o1 rg
        rw [show fill (byt ((A) % PP)) 32 = liY A true from KY.out.symm] at o2 rg
        clear KX KY
        go_wp2
        have k0 := rg 0 _ rfl
        have k1 := rg 1 _ rfl
        simp only [Nat.zero_add] at k0 k1
        refine bodyPost_ret (v := .tuple #[.bool true, .agg #[.slice b1 (liX A true).length d1, .slice b2 (liY A true).length d2]]) (by simp [results, Tryz.results87, go_sem, k0, k1]) rfl ⟨?_, NS⟩
        rw [KK.out]
        exact ⟨b1, b2, d1, d2, h1, h2, rfl, o1, o2, by omega, by omega⟩
end Go.Proofs.YthonlkghkdjagaaGreatDoor
namespace Go.Proofs.YthonlkghkdjagaaGreatDoor
set_option maxRecDepth 100000
open Go Go.RowKit
set_option maxHeartbeats 2000000 in
theorem specBase_any (w : World) : Calls Tryz.prog 53 #[] w fun r w' => NewPt w.heap.size w' r (liX (4 * iv 5) false) (liY (4 * iv 5) false) ∧ Below w.heap.size w w' := by
  have TZ : Two (w.alloc pObj) w.heap.size (.slice none 0 0) (.slice none 0 0) := Two.new w (.slice none 0 0) (.slice none 0 0) 62
  have N : Below w.heap.size w (w.alloc pObj) := (Below.refl _ _).alloc (Nat.le_refl _) _
  go_enter Tryz.func53, Tryz.ntmps53
  go_upto_region 1 with fail
  change Code.wp _ _ _ _ (w.alloc pObj)
  generalize w.alloc pObj = wr at *
  go_wp2_with fail
  refine (l2SmallB_any wr 4 (by omega)).mono ?_
  rintro r w1 ⟨t4, rfl, L4, V4, n⟩
  replace TZ := TZ.up n
  replace N := nxt N n
  clear n
  go_wp2_with fail
  refine (l2SmallB_any w1 5 (by omega)).mono ?_
  rintro r w2 ⟨t5, rfl, L5, V5, n⟩
  replace TZ := TZ.up n
  replace N := nxt N n
  clear n
  go_wp2_with fail
  refine (l2Inv_any w2 t5 L5).mono ?_
  rintro r w3 ⟨t6, rfl, L6, V6, n⟩
  replace TZ := TZ.up n
  replace N := nxt N n
  clear n
  go_wp2_with fail
  refine (l2Mul_any w3 t4 t6 L4 L6).mono ?_
  rintro r w4 ⟨t7, rfl, L7, V7, n⟩
  replace TZ := TZ.up n
  replace N := nxt N n
  clear n
  have V : s16 t7 16 % PP = 4 * iv 5 % PP := by
    rw [V7]
    exact mod_mul V4 (V6.trans (pow_mod V5 _))
  have z4 := TZ.lt
  have LF := hide (l5Lift_any w4 t7 (4 * iv 5) ⟨L7, V⟩ false)
  clear V4 V5 V6 V7 V L4 L5 L6 L7
  obtain ⟨X, hX⟩ : ∃ X, X = liX (4 * iv 5) false := ⟨_, rfl⟩
  obtain ⟨Y, hY⟩ : ∃ Y, Y = liY (4 * iv 5) false := ⟨_, rfl⟩
  rw [← hX, ← hY] at LF
  have KX := hide hX
  have KY := hide hY
  clear hX hY
  generalize liB (4 * iv 5) false = bb at *
  go_wp2_with fail
  refine LF.out.mono ?_
  rintro r w5 ⟨⟨a1, a2, c1, c2, g1, g2, rfl, o1, o2, l1, l2⟩, n⟩
  replace TZ := TZ.up n
  have z := N.size
  have zz := TZ.lt
  replace N := nxt N n
  clear n LF
  have TN := Two.new w5 (.slice a1 X.length c1) (.slice a2 Y.length c2) 62
  have m : Below w5.heap.size w5 (w5.alloc (.cells #[.slice a1 X.length c1, .slice a2 Y.length c2] 62)) := (Below.refl _ _).alloc (Nat.le_refl _) _
  go_upto_region 2 with fail
  generalize w5.alloc (.cells #[.slice a1 X.length c1, .slice a2 Y.length c2] 62) = w6 at *
  obtain ⟨p0, p1, _, _⟩ := TN
  obtain ⟨y0, y1, f0, f1⟩ := TZ.up m
  replace N := nxt N m
  replace o1 := o1.up m
  replace o2 := o2.up m
  have O := (Only.setCell w6 w.heap.size 0 (.slice a1 X.length c1)).trans (Only.setCell _ w.heap.size 1 (.slice a2 Y.length c2))
  have o1' := o1.only O (fun _ => by omega)
  have o2' := o2.only O (fun _ => by omega)
  have N' := N.trans (O.below (Nat.le_refl _))
  clear TZ m o1 o2 O N
  go_wp2
  refine bodyPost_ret (v := .agg #[.slice a1 X.length c1, .slice a2 Y.length c2]) (by simp [results, Tryz.results53, go_sem, y0, y1]) rfl ⟨?_, N'⟩
  rw [← KX.out, ← KY.out]
  exact ⟨a1, a2, c1, c2, g1, g2, rfl, o1', o2', by omega, by omega⟩
end Go.Proofs.YthonlkghkdjagaaGreatDoor
namespace Go.Proofs.YthonlkghkdjagaaGreatDoor
set_option maxRecDepth 100000
open Go Go.RowKit
section
variable {ops : Array Oper} {Q : Exit → Act → World → Prop} {md : Region.Mode} {F : Nat → Fact} {a0 : Act} {w0 : World} {i : Nat} {o : Oper} {ts : Array TypeId}
theorem step_at31 (hi : ops[i]? = some o) (p j : Nat) {g off c : Nat} (hop : o.op = .indexAddr 22 (.tmp p) (.const (.int .i64 31))) (hj : waits md ops i j p = true) (hFj : F j = Fact.eq (.slice (some ⟨g, off, none⟩) 32 c)) (hF : F i = Fact.eq (.pointer (some ⟨g, off + 31, none⟩))) : StepOk Tryz.prog md ops Q F a0 w0 i := by
  refine step_pure hi fun a w hb hw hf => ⟨.pointer (some ⟨g, off + 31, none⟩), ?_, by rw [hF]; exact rfl⟩
  have e := hf j p hj
  rw [hFj] at e
  have e' : a.eval (.tmp p) = .slice (some ⟨g, off, none⟩) 32 c := e
  have e2 : a.eval (.const (.int .i64 31)) = .int .i64 31 := rfl
  simp only [execOp, hop, e', e2]
  go_simp
theorem step_ld8 (hi : ops[i]? = some o) (p j : Nat) {q off : Nat} {v : Value} (hop : o.op = .load 5 (.tmp p)) (hj : waits md ops i j p = true) (hFj : F j = Fact.eq (.pointer (some ⟨q, off, none⟩))) (hc : w0.cell? ⟨q, off, none⟩ = some v) (hF : F i = Fact.eq v) : StepOk Tryz.prog md ops Q F a0 w0 i := by
  refine step_pure hi fun a w _ hw hf => ⟨v, ?_, by rw [hF]; exact rfl⟩
  have e := hf j p hj
  rw [hFj] at e
  have e' : a.eval (.tmp p) = .pointer (some ⟨q, off, none⟩) := e
  have c' : w.cell? ⟨q, off, none⟩ = some v := (hw.cell (block_lt_of_cell hc)).trans hc
  simp only [execOp, hop, e']
  go_simp
end
section
variable {ops : Array Oper} {Q : Exit → Act → World → Prop} {a0 : Act} {w : World} {id : Nat} {draw : Bool}
end
structure Tri (w : World) (p : Nat) (x y z : Value) : Prop where
  c0 : w.cell? ⟨p, 0, none⟩ = some x
  c1 : w.cell? ⟨p, 1, none⟩ = some y
  c2 : w.cell? ⟨p, 2, none⟩ = some z
  f0 : w.frozen? ⟨p, 0, none⟩ = false
  f1 : w.frozen? ⟨p, 1, none⟩ = false
  f2 : w.frozen? ⟨p, 2, none⟩ = false
theorem Tri.lt {w : World} {p : Nat} {x y z : Value} (h : Tri w p x y z) : p < w.heap.size := block_lt_of_cell h.c0
theorem Tri.up {w w' : World} {p : Nat} {x y z : Value} (h : Tri w p x y z) (n : Below w.heap.size w w') : Tri w' p x y z := by
  have hb := n.block p h.lt
  exact ⟨(World.cell?_of_block (a := ⟨p, 0, none⟩) hb).trans h.c0, (World.cell?_of_block (a := ⟨p, 1, none⟩) hb).trans h.c1, (World.cell?_of_block (a := ⟨p, 2, none⟩) hb).trans h.c2, (World.frozen?_of_block (a := ⟨p, 0, none⟩) hb).trans h.f0, (World.frozen?_of_block (a := ⟨p, 1, none⟩) hb).trans h.f1, (World.frozen?_of_block (a := ⟨p, 2, none⟩) hb).trans h.f2⟩
theorem Tri.new (w : World) (x y z : Value) (t : TypeId) : Tri (w.alloc (.cells #[x, y, z] t)) w.heap.size x y z := by
  have e : (w.alloc (.cells #[x, y, z] t)).heap[w.heap.size]? = some (.cells #[x, y, z] t) := heap_alloc_last _ _
  refine ⟨?_, ?_, ?_, ?_, ?_, ?_⟩
  all_goals first
    | (unfold World.cell?; simp only; rw [e]; rfl)
    | (unfold World.frozen?; simp only; rw [e]; simp)
end Go.Proofs.YthonlkghkdjagaaGreatDoor
namespace Go.Proofs.YthonlkghkdjagaaGreatDoor
set_option maxRecDepth 100000
open Go Go.RowKit
end Go.Proofs.YthonlkghkdjagaaGreatDoor
namespace Go.Proofs.YthonlkghkdjagaaGreatDoor
set_option maxRecDepth 100000
open Go Go.RowKit
theorem Two.put0 {w : World} {p : Nat} {x y : Value} (h : Two w p x y) (u : Value) : Two (w.setCell ⟨p, 0, none⟩ u) p u y :=
  ⟨World.cell?_setCell_same _ _ _ h.c0, by rw [World.cell?_setCell_other (h := by simp)]; exact h.c1, by rw [World.frozen?_setCell]; exact h.f0, by rw [World.frozen?_setCell]; exact h.f1⟩
theorem Two.put1 {w : World} {p : Nat} {x y : Value} (h : Two w p x y) (u : Value) : Two (w.setCell ⟨p, 1, none⟩ u) p x u :=
  ⟨by rw [World.cell?_setCell_other (h := by simp)]; exact h.c0, World.cell?_setCell_same _ _ _ h.c1, by rw [World.frozen?_setCell]; exact h.f0, by rw [World.frozen?_setCell]; exact h.f1⟩
theorem Two.put {w : World} {p : Nat} {x y : Value} (h : Two w p x y) (u v : Value) : Two ((w.setCell ⟨p, 0, none⟩ u).setCell ⟨p, 1, none⟩ v) p u v := (h.put0 u).put1 v
end Go.Proofs.YthonlkghkdjagaaGreatDoor
namespace Go.Proofs.YthonlkghkdjagaaGreatDoor
set_option maxRecDepth 100000
open Go Go.RowKit
end Go.Proofs.YthonlkghkdjagaaGreatDoor
namespace Go.Proofs.YthonlkghkdjagaaGreatDoor
set_option maxRecDepth 100000
open Go Go.RowKit
structure Pv (p : Int × Int) : Prop where
  on : OnP PP (-1) d0 p
  cn : Cn p
def lx (p : Int × Int) : List Int := fill (byt p.1) 32
def ly (p : Int × Int) : List Int := fill (byt p.2) 32
theorem lx_byt (p : Int × Int) : Byt (lx p) := bytes_5 _ _
theorem ly_byt (p : Int × Int) : Byt (ly p) := bytes_5 _ _
theorem lx_len (p : Int × Int) : (lx p).length = 32 := fill_len _ _
theorem ly_len (p : Int × Int) : (ly p).length = 32 := fill_len _ _
theorem num_fill {v : Int} (h0 : 0 ≤ v) (h1 : v < PP) : num (fill (byt v) 32) = v := by
  have e := num_modS v
  rwa [Int.emod_eq_of_lt h0 h1] at e
theorem lx_num {p : Int × Int} (h : Pv p) : num (lx p) = p.1 := num_fill h.cn.x.1 h.cn.x.2
theorem ly_num {p : Int × Int} (h : Pv p) : num (ly p) = p.2 := num_fill h.cn.y.1 h.cn.y.2
theorem can_fill {v : Int} (h0 : 0 ≤ v) (h1 : v < PP) : canN (fill (byt v) 32) = true := by
  unfold canN
  rw [num_fill h0 h1, fill_len, decide_eq_true h1]
  rfl
theorem lv_valid {p : Int × Int} (h : Pv p) : validP (lx p) (ly p) = true := by
  unfold validP
  rw [lx_num h, ly_num h, show canN (lx p) = true from can_fill h.cn.x.1 h.cn.x.2, show canN (ly p) = true from can_fill h.cn.y.1 h.cn.y.2, on_valid h.on]
  rfl
theorem Pv.add {p q : Int × Int} (hp : Pv p) (hq : Pv q) : Pv (pAdd p q) := ⟨pAdd_on hp.on hq.on, pAdd_cn _ _⟩
theorem pv_base : Pv (bX, bY) := ⟨base_on, base_cn⟩
end Go.Proofs.YthonlkghkdjagaaGreatDoor
namespace Go.Proofs.YthonlkghkdjagaaGreatDoor
set_option maxRecDepth 100000
open Go Go.RowKit
def scV (ks : List Int) : Nat := (lsum (fun j => ks.getD j 0) 32).toNat
def skX (ks xs ys : List Int) : List Int := if ks.length = 32 ∧ validP xs ys = true then lx (pMul (scV ks) (num xs, num ys)) else []
def skY (ks xs ys : List Int) : List Int := if ks.length = 32 ∧ validP xs ys = true then ly (pMul (scV ks) (num xs, num ys)) else []
theorem byt_bt {ks : List Int} (h : Byt ks) : Bt (fun j => ks.getD j 0) := fun j => h j
theorem valid_pt {xs ys : List Int} (h : validP xs ys = true) : OnP PP (-1) d0 (num xs, num ys) ∧ rpX xs ys = num xs ∧ rpY xs ys = num ys := by
  unfold validP at h
  have hc : rpC xs ys = true := by
    unfold rpC
    revert h
    cases canN xs <;> cases canN ys <;> simp
  have hv : validN (num xs) (num ys) = true := by
    revert h
    cases canN xs <;> cases canN ys <;> simp
  refine ⟨valid_on hv, ?_, ?_⟩
  · unfold rpX
    rw [if_pos hc]
  · unfold rpY
    rw [if_pos hc]
section
variable {ops : Array Oper} {Q : Exit → Act → World → Prop} {md : Region.Mode} {F : Nat → Fact} {a0 : Act} {w0 w : World} {i id : Nat} {o : Oper} {ts : Array TypeId} {draw : Bool}
theorem step_scl {D : Int} (hD : PP ∣ D - d0) (TT : HasTw w0 9) (CC : Em5 w0 8 0 D) (ZP : RowN w0 6 0 [0, 1]) (SS : HasSt w0 13) (II : Has3 w0 10 12 5 4) (X Y : Int) (hp : OnP PP (-1) d0 (X, Y)) {U : Nat → Int} (hU : W4 U) {v : Nat} (hv : wval U = (v : Int)) (hi : ops[i]? = some o) (p q j k : Nat) (hop : o.op = .call { callee := .value (.func 103), args := #[.tmp p, .tmp q], argTypes := ts }) (hj : waits md ops i j p = true) (hk : waits md ops i k q = true) (hFj : F j = Fact.eq (ag4 U)) (hFk : F k = EN [X, Y]) (hFi : F i = EN [(mlP v (X, Y)).1, (mlP v (X, Y)).2]) : StepOk Tryz.prog md ops Q F a0 w0 i := by
  refine step_call hi _ _ ts hop (by kernel_rfl) fun A w _ hw hF => ?_
  have ea := hF j p hj
  have eb := hF k q hk
  rw [hFj] at ea
  rw [hFk] at eb
  have e1 : A.tmps.getD p undef = ag4 U := ea
  obtain ⟨t, e2, L2⟩ := eb
  show Calls Tryz.prog _ #[A.tmps.getD p undef, A.tmps.getD q undef] w _
  rw [e1, e2]
  refine (scale_any w U hU v hv t X Y D L2 hp hD (TT.up hw) (CC.up hw) (ZP.up hw) (SS.up hw) (II.up hw)).mono ?_
  rintro e w' ⟨⟨s, X', Y', rfl, L, h1, h2⟩, hn⟩
  rw [hFi]
  exact ⟨_, rfl, hn, s, rfl, L.cg (by simp only [List.map_cons, List.map_nil, h1, h2])⟩
end
end Go.Proofs.YthonlkghkdjagaaGreatDoor
namespace Go.Proofs.YthonlkghkdjagaaGreatDoor
set_option maxRecDepth 100000
open Go Go.RowKit
def fmC (W : Nat → Int) (b : Bool) : List Value := [.int .u64 (W 0), .int .u64 (W 1), .int .u64 (W 2), .int .u64 (W 3), .bool b]
def FmV (W : Nat → Int) (b : Bool) : Value := .agg (fmC W b).toArray
def FM (v : Int) (b : Bool) : Fact := ⟨fun x _ => ∃ W, x = FmV W b ∧ W4 W ∧ wval W = v, fun _ h => h⟩
def WF (v : Int) : Fact := ⟨fun x _ => ∃ W, x = ag4 W ∧ W4 W ∧ wval W = v, fun _ h => h⟩
theorem buFm (W : Nat → Int) (b : Bool) (w : World) : (Instr.build 137 #[(0, ag4 W), (1, .bool b)]).run Tryz.prog w = .ok (FmV W b) w := by kernel_rfl
theorem iF : (Tryz.prog.info? 137).map (·.size) = some 5 := by kernel_rfl
theorem uF : ∃ fs, Tryz.prog.underlying 137 = some (.struct fs) := ⟨_, Tryz.underlying137⟩
theorem fmC_one (W : Nat → Int) (b : Bool) : (fmC W b).toArray.all (·.oneCell') = true := by simp [fmC, Value.oneCell']
section
variable {ops : Array Oper} {Q : Exit → Act → World → Prop} {md : Region.Mode} {F : Nat → Fact} {a0 : Act} {w0 : World} {i : Nat} {o : Oper} {ts : Array TypeId}
theorem step_words (hi : ops[i]? = some o) (p j : Nat) (A : Int) (hop : o.op = .call { callee := .value (.func 148), args := #[.tmp p], argTypes := ts })
    (hj : waits md ops i j p = true) (hFj : F j = EM A) (hFi : F i = WF (A % PP)) : StepOk Tryz.prog md ops Q F a0 w0 i := by
  refine step_call hi _ _ ts hop (by kernel_rfl) fun a w _ hw hF => ?_
  have ea := hF j p hj
  rw [hFj] at ea
  obtain ⟨t, e1, L1, V1⟩ := ea
  show Calls Tryz.prog 148 #[a.tmps.getD p undef] w _
  rw [e1]
  refine (words_any w t L1).mono ?_
  rintro r w' ⟨rfl, hn⟩
  rw [hFi]
  have k := lw_ok L1
  exact ⟨_, rfl, hn, lw t, rfl, k.2, k.1.trans V1⟩
theorem step_even (hi : ops[i]? = some o) (p j : Nat) (A : Int) (hop : o.op = .call { callee := .value (.func 149), args := #[.tmp p], argTypes := ts })
    (hj : waits md ops i j p = true) (hFj : F j = EM A) (hFi : F i = Fact.eq (.bool (decide (A % PP % 2 = 0)))) : StepOk Tryz.prog md ops Q F a0 w0 i := by
  refine step_call hi _ _ ts hop (by kernel_rfl) fun a w _ hw hF => ?_
  have ea := hF j p hj
  rw [hFj] at ea
  obtain ⟨t, e1, L1, V1⟩ := ea
  show Calls Tryz.prog 149 #[a.tmps.getD p undef] w _
  rw [e1]
  refine (isEven_any w t L1).mono ?_
  rintro r w' ⟨rfl, hn⟩
  rw [hFi, V1]
  exact ⟨_, rfl, hn, rfl⟩
theorem step_bF (hi : ops[i]? = some o) (p q j k : Nat) (v : Int) (b : Bool) (hop : o.op = .build 137 #[(0, .tmp p), (1, .tmp q)])
    (hj : waits md ops i j p = true) (hk : waits md ops i k q = true) (hFj : F j = WF v) (hFk : F k = Fact.eq (.bool b)) (hFi : F i = FM v b) : StepOk Tryz.prog md ops Q F a0 w0 i := by
  refine step_pure hi fun a w _ _ hf => ?_
  have h1 := hf j p hj
  have h2 := hf k q hk
  rw [hFj] at h1
  rw [hFk] at h2
  obtain ⟨W, e1, X⟩ := h1
  refine ⟨FmV W b, ?_, by rw [hFi]; exact ⟨W, rfl, X⟩⟩
  have g1 : a.eval (.tmp p) = ag4 W := e1
  have g2 : a.eval (.tmp q) = .bool b := h2
  have g : (#[(0, Operand.tmp p), (1, Operand.tmp q)].map fun (n, x) => (n, a.eval x)) = #[(0, ag4 W), (1, .bool b)] := by simp [g1, g2]
  simp only [execOp, hop, g]
  rw [Sem.run_bind, buFm]
  rfl
end
section
variable {ops : Array Oper} {Q : Exit → Act → World → Prop} {a0 : Act} {w : World} {id : Nat} {draw : Bool}
theorem region_putF (k jV pD pV : Nat) (o : Oper) (F : Nat → Fact) (v : Int) (b : Bool) (q : Nat) (hT : textOk .any ops a0.tmps.size k = true) (hk : ops[k]? = some o) (hd : o.dst = none) (hop : o.op = .store 137 (.tmp pD) (.tmp pV))
    (hp : apart ops pD = true) (h0 : a0.tmps.getD pD undef = .pointer (some ⟨q, 0, none⟩)) (ht : w.there q 0 5) (wV : writes ops jV pV = true) (FV : F jV = FM v b) (steps : ∀ i, i < k → StepOk Tryz.prog .any ops Q F a0 w i)
    (fin : ∀ (vs : Nat → Value) (W W' : World) (u : Nat → Int), Below w.heap.size w W → W'.rangeAt q 0 (fmC u b) → W4 u → wval u = v → (∀ (w1 : World) (B : Nat), Below B w1 W → B ≤ q → Below B w1 W') → Q .normal (puts vs a0 ops.toList) W') :
    (Code.region id ops draw).wp Tryz.prog Q a0 w := by
  refine region_store k o F (by kernel_rfl) hT hk hd steps fun a W hb hw hF => ?_
  have h2 := hF jV pV wV
  rw [FV] at h2
  obtain ⟨u, ev, hu, hv⟩ := h2
  have th := there_up (by omega) ht hw
  refine wp_store_mid 137 (.tmp pD) (.tmp pV) hop q 0 (fmC u b).toArray ((based_at hb pD hp).trans h0) ev th iF (fmC_one u b) ?_
  obtain ⟨vs, hvs⟩ : ∃ vs : Nat → Value, ∀ d, a.tmps.getD d undef = vs d := ⟨_, fun _ => rfl⟩
  rw [hd]
  show Q .normal a _
  rw [puts_of hT rfl hb vs hvs]
  exact fin vs W _ u hw (World.rangeAt_setCells_same W q 0 _ th) hu hv (fun w1 B n hB => below_setCells hB _ _ _ n)
end
abbrev zF : Obj := .cells #[.int .u64 0, .int .u64 0, .int .u64 0, .int .u64 0, .bool false] 137
set_option maxHeartbeats 2000000 in
theorem form_any (w : World) (es : List (Nat → Int)) (X Y : Int) (hes : IsN es [X, Y]) :
    Calls Tryz.prog 104 #[agN es] w fun r w' => ∃ u, r = .returned (FmV u (!decide (X % PP % 2 = 0))) ∧ W4 u ∧ wval u = Y % PP ∧ Below w.heap.size w w' := by
  show Calls Tryz.prog 104 #[.agg (clN es).toArray] w _
  have H0 := rowN_new w 103 hes
  have m0 : Below w.heap.size w (w.alloc (.cells (clN es).toArray 103)) := (Below.refl _ _).alloc (Nat.le_refl _) _
  have s0 : (w.alloc (.cells (clN es).toArray 103)).heap.size = w.heap.size + 1 := by simp
  obtain ⟨V0, hV0⟩ : ∃ V, V = (clN es).toArray := ⟨_, rfl⟩
  rw [← hV0] at H0 m0 s0 ⊢
  clear hV0 hes
  go_enter Tryz.func104, Tryz.ntmps104
  go_upto_region 1 with fail
  generalize w.alloc (.cells V0 103) = wa0 at *
  have TR : (wa0.alloc zF).there wa0.heap.size 0 5 := there_new wa0 _ _
  have mz : Below wa0.heap.size wa0 (wa0.alloc zF) := (Below.refl _ _).alloc (Nat.le_refl _) _
  rw [s0] at TR
  have P0 := H0.up mz
  have N := nxt m0 mz
  clear H0 m0 s0 mz
  obtain ⟨wr, hwr⟩ : ∃ W, W = wa0.alloc zF := ⟨_, rfl⟩
  rw [← hwr] at TR N P0
  change Code.wp _ _ _ _ (wa0.alloc zF)
  rw [← hwr]
  clear hwr
  refine region_putF 8 7 2 10 _ (fun i => [Fact.eq (.pointer (some ⟨w.heap.size, 5, none⟩)), EM (Y), WF (Y % PP), Fact.eq (.pointer (some ⟨w.heap.size, 0, none⟩)), EM (X), Fact.eq (.bool (decide (X % PP % 2 = 0))), Fact.eq (.bool (!(decide (X % PP % 2 = 0)))), FM (Y % PP) (!decide (X % PP % 2 = 0))].getD i Fact.no) (Y % PP) (!decide (X % PP % 2 = 0)) _ (by kernel_rfl) rfl rfl rfl (by kernel_rfl) rfl TR (by kernel_rfl) rfl ?_ ?_
  · intro i hi
    obtain rfl | rfl | rfl | rfl | rfl | rfl | rfl | rfl : i = 0 ∨ i = 1 ∨ i = 2 ∨ i = 3 ∨ i = 4 ∨ i = 5 ∨ i = 6 ∨ i = 7 := by omega
    · exact step_fld rfl 103 1 1 rfl (by kernel_rfl) _ _ rfl (fyA _) rfl
    · exact step_e5f rfl 3 0 rfl (by kernel_rfl) _ _ rfl _ P0.tail.at0 rfl
    · exact step_words rfl 4 1 _ rfl (by kernel_rfl) rfl rfl
    · exact step_fld rfl 103 1 0 rfl (by kernel_rfl) _ _ rfl (fxA _) rfl
    · exact step_e5f rfl 6 3 rfl (by kernel_rfl) _ _ rfl _ P0.at0 rfl
    · exact step_even rfl 7 4 _ rfl (by kernel_rfl) rfl rfl
    · exact step_notb rfl 8 5 rfl (by kernel_rfl) rfl rfl
    · exact step_bF rfl 5 9 2 6 _ _ rfl (by kernel_rfl) (by kernel_rfl) rfl rfl rfl
  intro vs W W' u n rg hu hv nb
  have z := N.size
  have NS := nb w w.heap.size (nxt N n) (by omega)
  simp only [puts, Act.put, List.setIfInBounds_toArray, List.set_cons_succ, List.set_cons_zero]
  clear n nb N TR P0
  obtain ⟨fs, hfs⟩ := uF
  go_wp2
  exact bodyPost_ret (v := FmV u (!decide (X % PP % 2 = 0))) (results_cell_mid Tryz.results104 _ _ (w.heap.size + 1) (fmC u _) _ rfl rg hfs rfl iF) rfl ⟨u, rfl, hu, hv, NS⟩
theorem or63 (x : Int) (h0 : 0 ≤ x) (h1 : x < 9223372036854775808) : bits BinOp.or IntKind.u64 x 9223372036854775808 = x + 9223372036854775808 := by
  have h := or64 x 1 63 9223372036854775808 (by decide) h0 h1 (by omega) (by omega) (by omega)
  simpa [Int.add_comm] using h
def mkW (u : Nat → Int) (b : Bool) (j : Nat) : Int := if j = 3 ∧ b = true then u 3 + 9223372036854775808 else u j
set_option maxHeartbeats 4000000 in
theorem formBytes_any (w : World) (u : Nat → Int) (b : Bool) (hu : W4 u) (h3 : u 3 < 9223372036854775808) :
    Calls Tryz.prog 105 #[FmV u b] w fun r w' => NewRow w.heap.size w' r .u8 (fill (byt (wval (mkW u b))) 32) ∧ Below w.heap.size w w' := by
  have b3 := hu 3 (by omega)
  have e3 := or63 (u 3) b3.1 h3
  have hM : W4 (mkW u b) := fun j hj => by
    have := hu j hj
    unfold mkW
    split
    · rename_i c
      obtain ⟨rfl, _⟩ := c
      omega
    · exact this
  have WB := hide (fun w => wordsBytes_any w (mkW u b) hM)
  show Calls Tryz.prog 105 #[.agg #[.int .u64 (u 0), .int .u64 (u 1), .int .u64 (u 2), .int .u64 (u 3), .bool b]] w _
  have al1 : Below w.heap.size w (w.alloc (.cells #[.int .u64 (u 0), .int .u64 (u 1), .int .u64 (u 2), .int .u64 (u 3), .bool b] 137)) := (Below.refl _ _).alloc (Nat.le_refl _) _
  cases b
  all_goals
    go_enter Tryz.func105, Tryz.ntmps105
    go_wp2_with fail
    refine (WB.out _).mono ?_
    rintro r w3 ⟨rfl, B3, n3⟩
    have N3 := nxt (al1.alloc (by simp) _) n3
    rw [show ∀ a b : Obj, ((w.alloc a).alloc b).heap.size = w.heap.size + 1 + 1 from fun a b => by simp] at B3
    have z := B3.lt
    clear WB n3 hM
    go_wp2
    go_ret
    have l32 : ∀ f : Nat → Int, (fill f 32).length = 32 := fun f => fill_len f 32
    exact ⟨⟨_, 32, _, by rw [l32]; rfl, B3.own0, (fun h => by cases h), by rw [l32]; omega, by omega⟩, N3⟩
end Go.Proofs.YthonlkghkdjagaaGreatDoor
namespace Go.Proofs.YthonlkghkdjagaaGreatDoor
set_option maxRecDepth 100000
open Go Go.RowKit
theorem wval_top {u : Nat → Int} (h : W4 u) (hv : wval u < 57896044618658097711785492504343953926634992332820282019728792003956564819968) : u 3 < 9223372036854775808 := by
  have h0 := h 0 (by omega); have h1 := h 1 (by omega); have h2 := h 2 (by omega); have h3 := h 3 (by omega)
  unfold wval at hv
  omega
theorem wval_mk {u : Nat → Int} (b : Bool) : wval (mkW u b) = wval u + if b = true then 57896044618658097711785492504343953926634992332820282019728792003956564819968 else 0 := by
  unfold wval mkW
  cases b <;> simp <;> omega
theorem PP_lt : PP < 57896044618658097711785492504343953926634992332820282019728792003956564819968 := by decide
section
variable {ops : Array Oper} {Q : Exit → Act → World → Prop} {md : Region.Mode} {F : Nat → Fact} {a0 : Act} {w0 : World} {i : Nat} {o : Oper} {ts : Array TypeId}
theorem step_form (hi : ops[i]? = some o) (p j : Nat) (X Y : Int) (hop : o.op = .call { callee := .value (.func 104), args := #[.tmp p], argTypes := ts })
    (hj : waits md ops i j p = true) (hFj : F j = EN [X, Y]) (hFi : F i = FM (Y % PP) (!decide (X % PP % 2 = 0))) : StepOk Tryz.prog md ops Q F a0 w0 i := by
  refine step_call hi _ _ ts hop (by kernel_rfl) fun a w _ hw hF => ?_
  have ea := hF j p hj
  rw [hFj] at ea
  obtain ⟨t, e1, L1⟩ := ea
  show Calls Tryz.prog 104 #[a.tmps.getD p undef] w _
  rw [e1]
  refine (form_any w t X Y L1).mono ?_
  rintro r w' ⟨u, rfl, h1, h2, hn⟩
  rw [hFi]
  exact ⟨_, rfl, hn, u, rfl, h1, h2⟩
theorem step_fby (hi : ops[i]? = some o) (p j : Nat) (Y : Int) (b : Bool) (hop : o.op = .call { callee := .value (.func 105), args := #[.tmp p], argTypes := ts })
    (hj : waits md ops i j p = true) (hFj : F j = FM (Y % PP) b) (hFi : F i = RN w0 (fun u9 => u9 = fill (byt (Y % PP + if b = true then 57896044618658097711785492504343953926634992332820282019728792003956564819968 else 0)) 32)) : StepOk Tryz.prog md ops Q F a0 w0 i := by
  refine step_call hi _ _ ts hop (by kernel_rfl) fun a w _ hw hF => ?_
  have ea := hF j p hj
  rw [hFj] at ea
  obtain ⟨u, e1, h1, h2⟩ := ea
  show Calls Tryz.prog 105 #[a.tmps.getD p undef] w _
  rw [e1]
  have hlt : wval u < 57896044618658097711785492504343953926634992332820282019728792003956564819968 := by
    rw [h2]
    exact Int.lt_trans (Int.emod_lt_of_pos _ (by decide)) PP_lt
  refine (formBytes_any w u b h1 (wval_top h1 hlt)).mono ?_
  rintro r w' ⟨⟨a', c, g, rfl, ow, k1, k2, hg⟩, hn⟩
  rw [wval_mk, h2] at ow k2 ⊢
  rw [hFi]
  have z := hw.size
  exact ⟨_, rfl, hn, _, a', c, g, rfl, ow, by omega, rfl, k1, k2⟩
end
def enA (D : Int) (xs ys : List Int) : List Int := if rpB D xs ys = true then fill (byt (rpY xs ys % PP + if (!decide (rpX xs ys % PP % 2 = 0)) = true then 57896044618658097711785492504343953926634992332820282019728792003956564819968 else 0)) 32 else []
end Go.Proofs.YthonlkghkdjagaaGreatDoor
namespace Go.Proofs.YthonlkghkdjagaaGreatDoor
set_option maxRecDepth 100000
open Go.RowKit
theorem gTw : Tryz.prog.globalNamed "loop.example/g00004/impl.twiceP" = some 9 := by kernel_rfl
theorem tTw : (Tryz.prog.globals[9]?).map (·.type) = some 223 := by kernel_rfl
theorem uTw : Tryz.prog.underlying 223 = some (.array 5 42) := by kernel_rfl
theorem cTw : Tryz.prog.cellsOf 223 = 5 := by kernel_rfl
theorem cU64 : Tryz.prog.cellsOf 42 = 1 := by kernel_rfl
theorem tw_of_reads {W : World} (h : Lib.VarReads Tryz.prog W "loop.example/g00004/impl.twiceP" Rows.laid_loop_example_g00004_impl_twiceP) : HasTw W 9 := by
  obtain ⟨g, t, cs, fuel, p, hg, ht, hv, hd⟩ := h
  obtain rfl := Option.some.inj (gTw.symm.trans hg)
  obtain rfl := Option.some.inj (tTw.symm.trans ht)
  have hcs := Lib.cells_of_tab (zs := [4503599627370458, 4503599627370494, 4503599627370494, 4503599627370494, 4503599627370494]) uTw Tryz.underlying42 cU64 cTw hd
  intro k hk
  rw [World.var?_cell hg hv k]
  obtain ⟨l⟩ := cs
  simp only at hcs
  subst hcs
  obtain rfl | rfl | rfl | rfl | rfl : k = 0 ∨ k = 1 ∨ k = 2 ∨ k = 3 ∨ k = 4 := by omega
  all_goals rfl
theorem reads_of {l : List (String × DataW Unit)} {W : World} (h : laidMetH Tryz.prog l W) (hp : (l.all fun x => x.2.handleName?.isNone) = true) {n : String} {d : DataW Unit} (hm : (n, d) ∈ l) : Lib.VarReads Tryz.prog W n d := by
  rw [MakeChecks.laidMetH_plain _ _ _ hp] at h
  exact Lib.laidMet.reads h hm
end Go.Proofs.YthonlkghkdjagaaGreatDoor
namespace Go.Proofs.YthonlkghkdjagaaGreatDoor
set_option maxRecDepth 100000
open Go.RowKit
theorem gSt : Tryz.prog.globalNamed "loop.example/g00004/impl.chainSteps" = some 13 := by kernel_rfl
theorem tSt : (Tryz.prog.globals[13]?).map (·.type) = some 230 := by kernel_rfl
theorem gIn : Tryz.prog.globalNamed "loop.example/g00004/impl.inverseStep" = some 10 := by kernel_rfl
theorem tIn : (Tryz.prog.globals[10]?).map (·.type) = some 228 := by kernel_rfl
theorem cStep : Tryz.prog.cellsOf 228 = 3 := by kernel_rfl
theorem cInt : Tryz.prog.cellsOf 3 = 1 := by kernel_rfl
theorem step_cells {W : World} {base : Nat} {sp : Nat → Bool} {held : Bool} {fuel : Nat} {cs : List Value} {x y z : Int} {p : List MemPlace}
    (h : DataW.trod (fun _ => ()) Tryz.prog W base sp held fuel 228 cs = some (.agg [.lit (.int .i64 x), .lit (.int .i64 y), .lit (.int .i64 z)], p)) : cs = [.int .i64 x, .int .i64 y, .int .i64 z] := by
  have := Lib.ints_of_struct (k := .i64) (zs := [x, y, z]) Tryz.underlying228 (fun i f hf => by
    match i, hf with
    | 0, hf => cases hf; exact ⟨Tryz.underlying3, rfl, cInt⟩
    | 1, hf => cases hf; exact ⟨Tryz.underlying3, rfl, cInt⟩
    | 2, hf => cases hf; exact ⟨Tryz.underlying3, rfl, cInt⟩
    | i + 3, hf => simp at hf) (by rw [cStep]; rfl) h
  simpa using this
theorem three_of_reads {W : World} {n : String} {g : Nat} {x y z : Int} (hn : Tryz.prog.globalNamed n = some g) (ht : (Tryz.prog.globals[g]?).map (·.type) = some 228)
    (h : Lib.VarReads Tryz.prog W n (.agg [.lit (.int .i64 x), .lit (.int .i64 y), .lit (.int .i64 z)])) : Has3 W g x y z := by
  obtain ⟨g', t, cs, fuel, p, hg, ht', hv, hd⟩ := h
  obtain rfl := Option.some.inj (hn.symm.trans hg)
  obtain rfl := Option.some.inj (ht.symm.trans ht')
  have hcs := step_cells hd
  obtain ⟨l⟩ := cs
  simp only at hcs
  subst hcs
  exact ⟨by rw [World.var?_cell hg hv 0]; rfl, by rw [World.var?_cell hg hv 1]; rfl, by rw [World.var?_cell hg hv 2]; rfl⟩
theorem st_of_reads {W : World} (h : Lib.VarReads Tryz.prog W "loop.example/g00004/impl.chainSteps" Rows.laid_loop_example_g00004_impl_chainSteps) : HasSt W 13 := by
  obtain ⟨g, t, cs, fuel, p, hg, ht, hv, hd⟩ := h
  obtain rfl := Option.some.inj (gSt.symm.trans hg)
  obtain rfl := Option.some.inj (tSt.symm.trans ht)
  have key : ∀ j, j < 11 → (cs.toList.drop (j * 3)).take 3 = [.int .i64 (stL.getD (3 * j) 0), .int .i64 (stL.getD (3 * j + 1) 0), .int .i64 (stL.getD (3 * j + 2) 0)] := by
    intro j hj
    obtain ⟨f', d, q, h1, h2⟩ := Lib.array_elem u86 hd j hj
    rw [cStep] at h2
    obtain rfl | rfl | rfl | rfl | rfl | rfl | rfl | rfl | rfl | rfl | rfl : j = 0 ∨ j = 1 ∨ j = 2 ∨ j = 3 ∨ j = 4 ∨ j = 5 ∨ j = 6 ∨ j = 7 ∨ j = 8 ∨ j = 9 ∨ j = 10 := by omega
    all_goals
      cases h1
      exact step_cells h2
  intro i hi
  rw [World.var?_cell hg hv i]
  have k := key (i / 3) (by omega)
  have e : cs[i]? = ((cs.toList.drop (i / 3 * 3)).take 3)[i % 3]? := by
    rw [List.getElem?_take, if_pos (by omega), List.getElem?_drop, show i / 3 * 3 + i % 3 = i by omega]
    simp
  rw [e, k]
  rcases (show i % 3 = 0 ∨ i % 3 = 1 ∨ i % 3 = 2 by omega) with r | r | r
  all_goals
    rw [r]
    simp only [List.getElem?_cons_zero, List.getElem?_cons_succ]
    congr 3
    omega
end Go.Proofs.YthonlkghkdjagaaGreatDoor
namespace Go.Proofs.YthonlkghkdjagaaGreatDoor
set_option maxRecDepth 100000
open Go.RowKit
theorem gCf : Tryz.prog.globalNamed "loop.example/g00004/impl.curveFactor" = some 8 := by kernel_rfl
theorem tCf : (Tryz.prog.globals[8]?).map (·.type) = some 101 := by kernel_rfl
theorem uEl : Tryz.prog.underlying 101 = some (.array 5 42) := by kernel_rfl
theorem cEl : Tryz.prog.cellsOf 101 = 5 := by kernel_rfl
theorem cf_of_reads {W : World} (h : Lib.VarReads Tryz.prog W "loop.example/g00004/impl.curveFactor" Rows.laid_loop_example_g00004_impl_curveFactor) : Em5 W 8 0 dGo := by
  obtain ⟨g, t, cs, fuel, p, hg, ht, hv, hd⟩ := h
  obtain rfl := Option.some.inj (gCf.symm.trans hg)
  obtain rfl := Option.some.inj (tCf.symm.trans ht)
  have hcs := Lib.cells_of_tab (zs := [929955233495203, 466365720129213, 1662059464998953, 2033849074728123, 1442794654840575]) uEl Tryz.underlying42 cU64 cEl hd
  obtain ⟨l⟩ := cs
  simp only at hcs
  subst hcs
  have key : ∀ j v, (cl5 dL)[j]? = some v → W.cell? ⟨8, 0 + j, none⟩ = some v := fun j v hv' => by
    rw [Nat.zero_add, World.var?_cell hg hv j, List.getElem?_toArray]
    exact hv'
  exact ⟨dL, key, block_lt_of_cell (by simpa using key 0 _ rfl), dL_is⟩
theorem gZp : Tryz.prog.globalNamed "loop.example/g00004/impl.zeroPoint" = some 6 := by kernel_rfl
theorem tZp : (Tryz.prog.globals[6]?).map (·.type) = some 103 := by kernel_rfl
theorem gBp : Tryz.prog.globalNamed "loop.example/g00004/impl.basePoint" = some 2 := by kernel_rfl
theorem tBp : (Tryz.prog.globals[2]?).map (·.type) = some 103 := by kernel_rfl
theorem cAf : Tryz.prog.cellsOf 103 = 10 := by kernel_rfl
theorem row_of_reads {W : World} {n : String} {g : Nat} (e f : Nat → Int) (X Y : Int) (hn : Tryz.prog.globalNamed n = some g) (ht : (Tryz.prog.globals[g]?).map (·.type) = some 103)
    (h : Lib.VarReads Tryz.prog W n (.agg [.agg [.lit (.int .u64 (e 0)), .lit (.int .u64 (e 1)), .lit (.int .u64 (e 2)), .lit (.int .u64 (e 3)), .lit (.int .u64 (e 4))], .agg [.lit (.int .u64 (f 0)), .lit (.int .u64 (f 1)), .lit (.int .u64 (f 2)), .lit (.int .u64 (f 3)), .lit (.int .u64 (f 4))]]))
    (hx : Is5 e X) (hy : Is5 f Y) : RowN W g 0 [X, Y] := by
  obtain ⟨g', t, cs, fuel, p, hg, ht', hv, hd⟩ := h
  obtain rfl := Option.some.inj (hn.symm.trans hg)
  obtain rfl := Option.some.inj (ht.symm.trans ht')
  obtain ⟨y0, y1, m, hx', hl, h0, h1⟩ := ChangeShapes.trod_struct2 Tryz.underlying103 hd
  obtain ⟨d0, p0⟩ := y0
  obtain ⟨d1, p1⟩ := y1
  simp only [Prod.mk.injEq, DataW.agg.injEq, List.cons.injEq, and_true] at hx'
  obtain ⟨⟨rfl, rfl⟩, _⟩ := hx'
  have k0 := Lib.cells_of_tab (zs := [e 0, e 1, e 2, e 3, e 4]) uEl Tryz.underlying42 cU64 cEl h0
  have k1 := Lib.cells_of_tab (zs := [f 0, f 1, f 2, f 3, f 4]) uEl Tryz.underlying42 cU64 cEl h1
  rw [cAf] at hl
  obtain ⟨l⟩ := cs
  simp only at hl k0 k1
  rw [cEl] at k0 k1
  have e1 : l = clN [e, f] := by
    have s : l = (l.drop 0).take 5 ++ (l.drop 5).take 5 := by
      rw [List.drop_zero, List.take_of_length_le (l := l.drop 5) (by rw [List.length_drop]; omega), List.take_append_drop]
    rw [s]
    have k0' : (l.drop 0).take 5 = cl5 e := k0
    have k1' : (l.drop 5).take 5 = cl5 f := k1
    rw [k0', k1']
    simp [clN]
  subst e1
  have key : ∀ j v, (clN [e, f])[j]? = some v → W.cell? ⟨g, 0 + j, none⟩ = some v := fun j v hv' => by
    rw [Nat.zero_add, World.var?_cell hg hv j]
    simpa using hv'
  exact ⟨[e, f], key, block_lt_of_cell (by simpa using key 0 _ rfl), hx, hy, trivial⟩
theorem zp_of_reads {W : World} (h : Lib.VarReads Tryz.prog W "loop.example/g00004/impl.zeroPoint" Rows.laid_loop_example_g00004_impl_zeroPoint) : RowN W 6 0 [0, 1] :=
  row_of_reads (sm5 0) (sm5 1) 0 1 gZp tZp h (sm5_ok (by omega) (by omega)) (sm5_ok (by omega) (by omega))
end Go.Proofs.YthonlkghkdjagaaGreatDoor
namespace Go.Proofs.YthonlkghkdjagaaGreatDoor
set_option maxRecDepth 100000
open Go Go.RowKit
section
variable {ops : Array Oper} {Q : Exit → Act → World → Prop} {md : Region.Mode} {F : Nat → Fact} {a0 : Act} {w0 : World} {i : Nat} {o : Oper} {ts : Array TypeId}
end
end Go.Proofs.YthonlkghkdjagaaGreatDoor
namespace Go.Proofs.YthonlkghkdjagaaGreatDoor
set_option maxRecDepth 100000
open Go Go.RowKit
end Go.Proofs.YthonlkghkdjagaaGreatDoor
namespace Go.Proofs.YthonlkghkdjagaaGreatDoor
set_option maxRecDepth 100000
open Go Go.RowKit
def esA (xs ys : List Int) : List Int := if validP xs ys = true then ys.set 31 (ys.getD 31 0 + 128 * (xs.getD 0 0 % 2)) else []
section
variable {ops : Array Oper} {Q : Exit → Act → World → Prop} {md : Region.Mode} {F : Nat → Fact} {a0 : Act} {w0 : World} {i : Nat} {o : Oper}
theorem step_at0 (hi : ops[i]? = some o) (p j : Nat) {g off c : Nat} (hop : o.op = .indexAddr 22 (.tmp p) (.const (.int .i64 0))) (hj : waits md ops i j p = true) (hFj : F j = Fact.eq (.slice (some ⟨g, off, none⟩) 32 c)) (hF : F i = Fact.eq (.pointer (some ⟨g, off, none⟩))) : StepOk Tryz.prog md ops Q F a0 w0 i := by
  refine step_pure hi fun a w hb hw hf => ⟨.pointer (some ⟨g, off, none⟩), ?_, by rw [hF]; exact rfl⟩
  have e := hf j p hj
  rw [hFj] at e
  have e' : a.eval (.tmp p) = .slice (some ⟨g, off, none⟩) 32 c := e
  have e2 : a.eval (.const (.int .i64 0)) = .int .i64 0 := rfl
  simp only [execOp, hop, e', e2]
  go_simp
theorem step_rem2 (hi : ops[i]? = some o) (p j : Nat) {v : Int} (h0 : 0 ≤ v ∧ v < 256) (hop : o.op = .binOp .rem 5 (.tmp p) (.const (.int .u8 2)) 5) (hj : waits md ops i j p = true) (hFj : F j = Fact.eq (.int .u8 v)) (hF : F i = Fact.eq (.int .u8 (v % 2))) : StepOk Tryz.prog md ops Q F a0 w0 i := by
  have et : v.tmod 2 = v % 2 := Int.tmod_eq_emod_of_nonneg h0.1
  refine step_pure hi fun a w _ hw hf => ⟨.int .u8 (v % 2), ?_, by rw [hF]; exact rfl⟩
  have e := hf j p hj
  rw [hFj] at e
  have e' : a.eval (.tmp p) = .int .u8 v := e
  have e2 : a.eval (.const (.int .u8 2)) = .int .u8 2 := rfl
  simp only [execOp, hop, e', e2]
  go_simp
theorem step_m128 (hi : ops[i]? = some o) (p j : Nat) {v : Int} (h0 : 0 ≤ v ∧ v < 2) (hop : o.op = .binOp .mul 5 (.const (.int .u8 128)) (.tmp p) 5) (hj : waits md ops i j p = true) (hFj : F j = Fact.eq (.int .u8 v)) (hF : F i = Fact.eq (.int .u8 (128 * v))) : StepOk Tryz.prog md ops Q F a0 w0 i := by
  have ew : IntKind.u8.wrap (128 * v) = 128 * v := by rw [IntKind.wrap_u8]; omega
  refine step_pure hi fun a w _ hw hf => ⟨.int .u8 (128 * v), ?_, by rw [hF]; exact rfl⟩
  have e := hf j p hj
  rw [hFj] at e
  have e' : a.eval (.tmp p) = .int .u8 v := e
  have e2 : a.eval (.const (.int .u8 128)) = .int .u8 128 := rfl
  simp only [execOp, hop, e', e2]
  go_simp
theorem step_add8 (hi : ops[i]? = some o) (p q j k : Nat) {u v : Int} (h0 : 0 ≤ u + v ∧ u + v < 256) (hop : o.op = .binOp .add 5 (.tmp p) (.tmp q) 5) (hj : waits md ops i j p = true) (hk : waits md ops i k q = true) (hFj : F j = Fact.eq (.int .u8 u)) (hFk : F k = Fact.eq (.int .u8 v)) (hF : F i = Fact.eq (.int .u8 (u + v))) : StepOk Tryz.prog md ops Q F a0 w0 i := by
  have ew : IntKind.u8.wrap (u + v) = u + v := by rw [IntKind.wrap_u8]; omega
  refine step_pure hi fun a w _ hw hf => ⟨.int .u8 (u + v), ?_, by rw [hF]; exact rfl⟩
  have e := hf j p hj
  have e3 := hf k q hk
  rw [hFj] at e
  rw [hFk] at e3
  have e' : a.eval (.tmp p) = .int .u8 u := e
  have e2 : a.eval (.tmp q) = .int .u8 v := e3
  simp only [execOp, hop, e', e2]
  go_simp
end
theorem own_set {w : World} {h off : Nat} {xs : List Int} (o : Own w h (some ⟨h, off, none⟩) .u8 xs) (h0 : 0 < xs.length) (i : Nat) (hi : i < xs.length) (v : Int) : Own (w.setCell ⟨h, off + i, none⟩ (.int .u8 v)) h (some ⟨h, off, none⟩) .u8 (xs.set i v) := by
  obtain ⟨off', e, hc⟩ := o h0
  cases e
  intro _
  refine ⟨off, rfl, fun j hj => ?_⟩
  rw [List.length_set] at hj
  obtain ⟨c, f⟩ := hc j hj
  refine ⟨?_, by rw [World.frozen?_setCell]; exact f⟩
  by_cases e : j = i
  · subst e
    rw [World.cell?_setCell_same _ _ _ c]
    simp [List.getD_eq_getElem?_getD, hj]
  · rw [World.cell?_setCell_other (h := by simp; try omega), c]
    simp [List.getD_eq_getElem?_getD, Ne.symm e]
theorem region_st8 {ops : Array Oper} {Q : Exit → Act → World → Prop} {a0 : Act} {w : World} {id : Nat} {draw : Bool} (k jA jV pA pV : Nat) (o : Oper) (F : Nat → Fact) {q off : Nat} {v u : Int} (hT : textOk .any ops a0.tmps.size k = true) (hk : ops[k]? = some o) (hd : o.dst = none) (hop : o.op = .store 5 (.tmp pA) (.tmp pV))
    (wA : writes ops jA pA = true) (wV : writes ops jV pV = true) (FA : F jA = Fact.eq (.pointer (some ⟨q, off, none⟩))) (FV : F jV = Fact.eq (.int .u8 v)) (hc : w.cell? ⟨q, off, none⟩ = some (.int .u8 u)) (hf : w.frozen? ⟨q, off, none⟩ = false) (steps : ∀ i, i < k → StepOk Tryz.prog .any ops Q F a0 w i)
    (fin : ∀ (vs : Nat → Value) (W : World), Below w.heap.size w W → Q .normal (puts vs a0 ops.toList) (W.setCell ⟨q, off, none⟩ (.int .u8 v))) :
    (Code.region id ops draw).wp Tryz.prog Q a0 w := by
  refine region_store k o F (by kernel_rfl) hT hk hd steps fun a W hb hw hF => ?_
  have h1 := hF jA pA wA
  have h2 := hF jV pV wV
  rw [FA] at h1
  rw [FV] at h2
  have e1 : a.eval (.tmp pA) = .pointer (some ⟨q, off, none⟩) := h1
  have e2 : a.eval (.tmp pV) = .int .u8 v := h2
  have lq := block_lt_of_cell hc
  have c' : W.cell? ⟨q, off, none⟩ = some (.int .u8 u) := (hw.cell lq).trans hc
  have f' : W.frozen? ⟨q, off, none⟩ = false := (hw.frozen lq).trans hf
  have hr : (execOp a.eval o).run Tryz.prog W = .ok .skip (W.setCell ⟨q, off, none⟩ (.int .u8 v)) := by
    simp only [execOp, hop, e1, e2]
    go_simp
  obtain ⟨vs, hvs⟩ : ∃ vs : Nat → Value, ∀ d, a.tmps.getD d undef = vs d := ⟨_, fun _ => rfl⟩
  unfold Oper.wp
  rw [hr, Oper.upon_skip, hd]
  show Q .normal a _
  rw [puts_of hT rfl hb vs hvs]
  exact fin vs W hw
set_option maxHeartbeats 4000000 in
theorem specEncode_any (w : World) (g g' : Nat) (a a' : Option Addr) (c c' : Nat) (xs ys : List Int) (hx : Rd w g a .u8 xs) (hy : Rd w g' a' .u8 ys) (bx : Byt xs) (by' : Byt ys) (y31 : validP xs ys = true → ys.getD 31 0 < 128) :
    Calls Tryz.prog 47 #[.agg #[.slice a xs.length c, .slice a' ys.length c']] w fun r w' => NewRow w.heap.size w' r .u8 (esA xs ys) ∧ Below w.heap.size w w' := by
  have PV := fun W h h' => pointValid_any W g g' a a' c c' xs ys h h' bx by'
  have hx0 := hx
  have hy0 := hy
  have bx0 := bx
  have by0 := by'
  have T := two_cells w (.slice a xs.length c) (.slice a' ys.length c') 62
  have m1 : Below w.heap.size w (w.alloc (.cells #[.slice a xs.length c, .slice a' ys.length c'] 62)) := (Below.refl _ _).alloc (Nat.le_refl _) _
  have s1 : (w.alloc (.cells #[.slice a xs.length c, .slice a' ys.length c'] 62)).heap.size = w.heap.size + 1 := by simp
  have RX : RdOk w a xs := ⟨g, hx, bx⟩
  have RY : RdOk w a' ys := ⟨g', hy, by'⟩
  obtain ⟨CX, CY⟩ := T
  clear hx hy bx by' RX RY
  go_enter Tryz.func47, Tryz.ntmps47
  go_upto_region 1 with fail
  generalize w.alloc (.cells #[.slice a xs.length c, .slice a' ys.length c'] 62) = wa at *
  have N := m1
  clear m1 s1
  cases hv : validP xs ys with
  | false =>
    have e1 : esA xs ys = [] := by unfold esA; rw [hv]; rfl
    simp only [hv] at PV
    go_wp2_with fail
    refine (PV wa (hx0.up N) (hy0.up N)).mono ?_
    rintro e w1 ⟨rfl, n1⟩
    replace N := nxt N n1
    clear PV n1 CX CY hv y31
    go_wp2
    go_ret
    have z := N.size
    exact ⟨by rw [e1]; exact ⟨_, 0, w1.heap.size, rfl, fun h => absurd h (by simp), fun _ => rfl, Nat.le_refl _, by omega⟩, N.alloc N.size _⟩
  | true =>
    have e1 := hide (show esA xs ys = ys.set 31 (ys.getD 31 0 + 128 * (xs.getD 0 0 % 2)) by unfold esA; rw [if_pos hv])
    have LL := hide (valid_len hv)
    have q31 := y31 hv
    simp only [hv] at PV
    go_wp2_with fail
    refine (PV wa (hx0.up N) (hy0.up N)).mono ?_
    rintro e w1 ⟨rfl, n1⟩
    replace N := nxt N n1
    replace CX := (n1.cell (block_lt_of_cell CX)).trans CX
    replace CY := (n1.cell (block_lt_of_cell CY)).trans CY
    have hs : Hid (a' = none → c' = 0) := fun e => by
      obtain ⟨_, e', _⟩ := hy0 (by have := LL.out.2; omega)
      rw [e] at e'
      cases e'
    have CP := hide (fun W (n : Below w.heap.size w W) => l1Copy_any W g' a' c' ys (hy0.up n) hs.out (by have := LL.out.2; omega))
    clear PV n1 hv
    go_wp2_with fail
    refine (CP.out w1 N).mono ?_
    rintro r w2 ⟨⟨b, d, h, rfl, o2, k1, k2, hh⟩, n2⟩
    have N2 := nxt N n2
    replace CX := (n2.cell (block_lt_of_cell CX)).trans CX
    have RX := hx0.up N2
    obtain ⟨off, rfl, hc⟩ := o2 (by have := LL.out.2; omega)
    obtain ⟨ox, rfl, hcx⟩ := RX (by have := LL.out.1; omega)
    have q0 := (hc 31 (by have := LL.out.2; omega)).1
    have f0 := (hc 31 (by have := LL.out.2; omega)).2
    have p0 := hcx 0 (by have := LL.out.1; omega)
    rw [Nat.add_zero] at p0
    have ly : (31 : Int) < (ys.length : Int) := by have := LL.out.2; omega
    have lx : (0 : Int) < (xs.length : Int) := by have := LL.out.1; omega
    have v0 := bx0 0
    have v1 := by0 31
    obtain ⟨y, hy⟩ : ∃ y, y = ys.getD 31 0 := ⟨_, rfl⟩
    obtain ⟨x, hx⟩ : ∃ x, x = xs.getD 0 0 := ⟨_, rfl⟩
    rw [← hy] at q0 v1 q31
    rw [← hx] at p0 v0
    have hY := hide hy
    have hX := hide hx
    have zN := N.size
    clear hy hx CY n2 CP N
    have l1 := LL.out.1
    have l2 := LL.out.2
    go_upto_region 4 with fail
    rw [l1] at CX
    clear l1 l2
    refine region_st8 12 11 10 22 21 _ (fun i => [Fact.eq (.slice (some ⟨h, off, none⟩) 32 d), Fact.eq (.slice (some ⟨h, off, none⟩) 32 d), Fact.eq (.pointer (some ⟨h, off + 31, none⟩)), Fact.eq (.int .u8 y), Fact.eq (.pointer (some ⟨w.heap.size, 0, none⟩)), Fact.eq (.slice (some ⟨g, ox, none⟩) 32 c), Fact.eq (.pointer (some ⟨g, ox, none⟩)), Fact.eq (.int .u8 x), Fact.eq (.int .u8 (x % 2)), Fact.eq (.int .u8 (128 * (x % 2))), Fact.eq (.int .u8 (y + 128 * (x % 2))), Fact.eq (.pointer (some ⟨h, off + 31, none⟩))].getD i Fact.no) (by kernel_rfl) rfl rfl rfl (by kernel_rfl) (by kernel_rfl) rfl rfl q0 f0 ?_ ?_
    · intro i hi
      obtain rfl | rfl | rfl | rfl | rfl | rfl | rfl | rfl | rfl | rfl | rfl | rfl : i = 0 ∨ i = 1 ∨ i = 2 ∨ i = 3 ∨ i = 4 ∨ i = 5 ∨ i = 6 ∨ i = 7 ∨ i = 8 ∨ i = 9 ∨ i = 10 ∨ i = 11 := by omega
      · exact step_mv rfl 3 rfl (by kernel_rfl) rfl rfl
      · exact step_mv rfl 3 rfl (by kernel_rfl) rfl rfl
      · exact step_at31 rfl 12 1 rfl (by kernel_rfl) rfl rfl
      · exact step_ld8 rfl 13 2 rfl (by kernel_rfl) rfl q0 rfl
      · exact step_fld rfl 62 1 0 rfl (by kernel_rfl) _ _ rfl (fxP _) rfl
      · exact step_lds rfl 15 4 rfl (by kernel_rfl) _ _ rfl _ _ _ CX rfl
      · exact step_at0 rfl 16 5 rfl (by kernel_rfl) rfl rfl
      · exact step_ld8 rfl 17 6 rfl (by kernel_rfl) rfl p0 rfl
      · exact step_rem2 rfl 18 7 v0 rfl (by kernel_rfl) rfl rfl
      · exact step_m128 rfl 19 8 (by omega) rfl (by kernel_rfl) rfl rfl
      · exact step_add8 rfl 14 20 3 9 (by omega) rfl (by kernel_rfl) (by kernel_rfl) rfl rfl rfl
      · exact step_at31 rfl 11 0 rfl (by kernel_rfl) rfl rfl
    intro vs W n
    have NW := nxt N2 n
    have ow := (o2.up n)
    have lh := o2.rd.lt (by have := LL.out.2; omega)
    have z1 := N2.size
    have o3 := own_set ow (by have := LL.out.2; omega) 31 (by have := LL.out.2; omega) (y + 128 * (x % 2))
    have NF : Below w.heap.size w (W.setCell ⟨h, off + 31, none⟩ (.int .u8 (y + 128 * (x % 2)))) := NW.setCell (by show w.heap.size ≤ h; omega) _
    simp only [puts, Act.put, List.setIfInBounds_toArray, List.set_cons_succ, List.set_cons_zero]
    clear n NW ow q0 f0 p0 CX hc hcx RX o2 ly lx
    have LS := hide (show (ys.set 31 (y + 128 * (x % 2))).length = 32 by rw [List.length_set]; exact LL.out.2)
    go_wp2
    go_ret
    exact ⟨by rw [e1.out, ← hY.out, ← hX.out]; exact ⟨_, d, h, by rw [LS.out]; rfl, o3, (fun e => by cases e), (by rw [LS.out]; have := LL.out.2; omega), (by omega)⟩, NF⟩
end Go.Proofs.YthonlkghkdjagaaGreatDoor
namespace Go.Proofs.YthonlkghkdjagaaGreatDoor
set_option maxRecDepth 100000
open Go Go.RowKit
theorem lsum_set {xs : List Int} {v : Int} : ∀ n, n ≤ 31 → lsum (fun j => (xs.set 31 v).getD j 0) n = lsum (fun j => xs.getD j 0) n
  | 0, _ => rfl
  | n + 1, h => by
    rw [lsum, lsum, lsum_set n (by omega)]
    congr 2
    simp [List.getD_eq_getElem?_getD, show ¬ (31 = n) by omega]
theorem num_set {xs : List Int} {v : Int} (hl : xs.length = 32) : num (xs.set 31 v) = num xs + (v - xs.getD 31 0) * 256 ^ 31 := by
  unfold num
  rw [List.length_set, hl]
  show lsum (fun j => (xs.set 31 v).getD j 0) 31 + (xs.set 31 v).getD 31 0 * 256 ^ 31 = lsum (fun j => xs.getD j 0) 31 + xs.getD 31 0 * 256 ^ 31 + (v - xs.getD 31 0) * 256 ^ 31
  rw [lsum_set 31 (by omega), Int.sub_mul]
  have e : (xs.set 31 v).getD 31 0 = v := by simp [List.getD_eq_getElem?_getD, hl]
  rw [e]
  omega
theorem can_top {ys : List Int} (hb : Byt ys) (h : canN ys = true) : ys.getD 31 0 < 128 := by
  have l := can_len h
  have k := can_lt h
  have b := lsum_nonneg (fun j => hb j) 31
  unfold num at k
  rw [l, lsum] at k
  have v := hb 31
  have p : PP < 128 * 256 ^ 31 := by decide
  rcases (show ys.getD 31 0 < 128 ∨ 128 ≤ ys.getD 31 0 by omega) with c | c
  · exact c
  · exfalso
    have : 128 * 256 ^ 31 ≤ ys.getD 31 0 * 256 ^ 31 := Int.mul_le_mul_of_nonneg_right c (by decide)
    have e1 : lsum (fun j => ys.getD j 0) 31 + ys.getD 31 0 * 256 ^ 31 < PP := k
    generalize (256 : Int) ^ 31 = q at *
    generalize PP = P at *
    omega
theorem num_odd {xs : List Int} (hl : xs.length = 32) : num xs % 2 = xs.getD 0 0 % 2 := by
  unfold num
  rw [hl]
  have key : ∀ n, lsum (fun j => xs.getD j 0) (n + 1) % 2 = xs.getD 0 0 % 2 := by
    intro n
    induction n with
    | zero => simp [lsum]
    | succ n ih =>
      rw [lsum, Int.pow_succ, ← Int.mul_assoc]
      omega
  exact key 31
theorem fill_byt {zs : List Int} (hb : Byt zs) (l : zs.length = 32) : fill (byt (num zs)) 32 = zs := by
  have h0 := num_ge hb
  have k : ∀ j, j < 32 → (fill (byt (num zs)) 32).getD j 0 = zs.getD j 0 := by
    refine lsum_inj (fun j => bytes_L _ _ j) (fun j => hb j) 32 ?_
    have e2 : num zs = lsum (fun j => zs.getD j 0) 32 := by unfold num; rw [l]
    rw [lsum_congr (b := byt (num zs)) 32 (fun j hj => fill_get _ _ _ hj), lsum_bytS _ h0, ← e2]
    refine Int.emod_eq_of_lt h0 ?_
    have bd : ∀ m, lsum (fun j => zs.getD j 0) m < 256 ^ m := by
      intro m
      induction m with
      | zero => simp [lsum]
      | succ m ih =>
        have hm := hb m
        have hp := p256_pos m
        rw [lsum, Int.pow_succ]
        have e1 : zs.getD m 0 * 256 ^ m ≤ 255 * 256 ^ m := Int.mul_le_mul_of_nonneg_right (by omega) (Int.le_of_lt hp)
        omega
    rw [e2]
    exact bd 32
  apply List.ext_getElem
  · rw [fill_len, l]
  · intro i h1 h2
    have := k i (by rw [fill_len] at h1; exact h1)
    simpa [List.getD_eq_getElem?_getD, h1, h2] using this
theorem enA_eq {xs ys : List Int} (hx : Byt xs) (hy : Byt ys) : enA dGo xs ys = esA xs ys := by
  unfold enA esA
  rw [rp_valid]
  by_cases h : validP xs ys = true
  · rw [if_pos h, if_pos h, rpX_of h, rpY_of h]
    have lx := can_len (valid_x1 h)
    have ly := can_len (valid_y1 h)
    rw [Int.emod_eq_of_lt (num_ge hx) (can_lt (valid_x1 h)), Int.emod_eq_of_lt (num_ge hy) (can_lt (valid_y1 h)), num_odd lx]
    have v0 := hx 0
    have t := can_top hy (valid_y1 h)
    have v31 := hy 31
    have e : num (ys.set 31 (ys.getD 31 0 + 128 * (xs.getD 0 0 % 2))) = num ys + if (!decide (xs.getD 0 0 % 2 = 0)) = true then 57896044618658097711785492504343953926634992332820282019728792003956564819968 else 0 := by
      rw [num_set ly]
      rcases (show xs.getD 0 0 % 2 = 0 ∨ xs.getD 0 0 % 2 = 1 by omega) with c | c
      · rw [c]
        simp
      · rw [c]
        simp
        omega
    rw [← e]
    refine fill_byt (fun i => ?_) (by rw [List.length_set]; exact ly)
    by_cases c : i = 31
    · subst c
      simp only [List.getD_eq_getElem?_getD, List.getElem?_set, ly]
      simp
      have t' : ys[31]?.getD (0 : Int) < 128 := by simpa [List.getD_eq_getElem?_getD] using t
      have v31' : 0 ≤ ys[31]?.getD (0 : Int) := by simpa [List.getD_eq_getElem?_getD] using v31.1
      omega
    · have := hy i
      simpa [List.getD_eq_getElem?_getD, List.getElem?_set, Ne.symm c] using this
  · rw [if_neg h, if_neg h]
end Go.Proofs.YthonlkghkdjagaaGreatDoor
namespace Go.Proofs.YthonlkghkdjagaaGreatDoor
set_option maxRecDepth 100000
open Go Go.RowKit
end Go.Proofs.YthonlkghkdjagaaGreatDoor
namespace Go.Proofs.YthonlkghkdjagaaGreatDoor
set_option maxRecDepth 100000
open Go Go.RowKit
def bxL : Nat → Int
  | 0 => 1738742601995546
  | 1 => 1146398526822698
  | 2 => 2070867633025821
  | 3 => 562264141797630
  | 4 => 587772402128613
  | _ => 0
def byL : Nat → Int
  | 0 => 1801439850948184
  | 1 => 1351079888211148
  | 2 => 450359962737049
  | 3 => 900719925474099
  | 4 => 1801439850948198
  | _ => 0
theorem bxL_is : Is5 bxL bX := ⟨by unfold Lm; decide, by decide +kernel⟩
theorem byL_is : Is5 byL bY := ⟨by unfold Lm; decide, by decide +kernel⟩
theorem bp_of_reads {W : World} (h : Lib.VarReads Tryz.prog W "loop.example/g00004/impl.basePoint" Rows.laid_loop_example_g00004_impl_basePoint) : RowN W 2 0 [bX, bY] := row_of_reads bxL byL bX bY gBp tBp h bxL_is byL_is
theorem ba_ok : liB (4 * iv 5) false = true := by
  unfold liB
  rw [base_lift.1]
  simp
theorem ba_eq1 : fill (byt (bX % PP)) 32 = liX (4 * iv 5) false := by
  unfold liX
  rw [if_pos ba_ok, base_lift.2]
  simp
theorem ba_eq2 : fill (byt (bY % PP)) 32 = liY (4 * iv 5) false := by
  unfold liY
  rw [if_pos ba_ok, base_mod, ← base_mod, Int.emod_emod_of_dvd _ (Int.dvd_refl _)]
end Go.Proofs.YthonlkghkdjagaaGreatDoor
namespace Go.Proofs.YthonlkghkdjagaaGreatDoor
set_option maxRecDepth 100000
open Go Go.RowKit
def en (p : Int × Int) : List Int := (ly p).set 31 ((ly p).getD 31 0 + 128 * (p.1 % 2))
theorem lx_low (p : Int × Int) : (lx p).getD 0 0 % 2 = p.1 % 2 := by
  unfold lx
  rw [fill_get _ _ _ (by omega)]
  unfold byt
  simp only [Int.pow_zero, Int.ediv_one]
  omega
theorem ly_top {p : Int × Int} (h : Pv p) : 0 ≤ (ly p).getD 31 0 ∧ (ly p).getD 31 0 < 128 := by
  unfold ly
  rw [fill_get _ _ _ (by omega)]
  unfold byt
  have h0 := h.cn.y.1
  have h1 : p.2 < 57896044618658097711785492504343953926634992332820282019728792003956564819968 := Int.lt_trans h.cn.y.2 (by decide)
  have e : (256 : Int) ^ 31 = 452312848583266388373324160190187140051835877600158453279131187530910662656 := by decide
  rw [e]
  generalize p.2 = y at *
  omega
theorem es_en {p : Int × Int} (h : Pv p) : esA (lx p) (ly p) = en p := by
  unfold esA en
  rw [if_pos (lv_valid h), lx_low]
theorem en_len (p : Int × Int) : (en p).length = 32 := by
  unfold en
  rw [List.length_set, ly_len]
theorem en_31 (p : Int × Int) : (en p).getD 31 0 = (ly p).getD 31 0 + 128 * (p.1 % 2) := by
  unfold en
  generalize (ly p).getD 31 0 + 128 * (p.1 % 2) = v
  rw [List.getD_eq_getElem?_getD, List.getElem?_set_self (by rw [ly_len]; omega)]
  rfl
theorem en_byt {p : Int × Int} (h : Pv p) : Byt (en p) := fun j => by
  by_cases c : j = 31
  · subst c
    have t := ly_top h
    rw [en_31]
    omega
  · unfold en
    rw [List.getD_eq_getElem?_getD, List.getElem?_set_ne (by omega), ← List.getD_eq_getElem?_getD]
    exact ly_byt p j
end Go.Proofs.YthonlkghkdjagaaGreatDoor
