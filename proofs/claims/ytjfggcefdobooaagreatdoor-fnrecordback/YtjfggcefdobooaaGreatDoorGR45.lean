import Derived.Test.YtjfggcefdobooaaGreatDoorGR31
import Derived.Test.YtjfggcefdobooaaGreatDoorGR42
import Derived.Test.YtjfggcefdobooaaGreatDoorGR44
import Derived.WalkKit
import Derived.LaidEql
import Derived.Stop.Asserts
import Derived.RowKitTokens
namespace Go.Proofs.YtjfggcefdobooaaGreatDoor
set_option maxRecDepth 100000
open Go Go.RowKit
section
variable {P : Program} {ops : Array Oper} {Q : Exit → Act → World → Prop} {a0 : Act}
theorem region_run {id : Nat} {w : World} {draw : Bool} (k : Nat) (o : Oper) (F : Nat → Fact) (hm : P.follows .mixedOrders = true) (hT : textOk .any ops a0.tmps.size k = true) (hk : ops[k]? = some o) (dd : Nat) (hdd : o.dst = some dd) (steps : ∀ i, i < k → StepOk P .any ops Q F a0 w i)
    (fin : ∀ a w', Based ops a0 a → Below w.heap.size w w' → (∀ i o d, i < k → ops[i]? = some o → o.dst = some d → (F i).p (a.tmps.getD d undef) w') →
      ∃ v w'', (execOp a.eval o).run P w' = .ok (.value v) w'' ∧ Q .normal (a.put (some dd) v) w'') : (Code.region id ops draw).wp P Q a0 w := by
  refine region_facts k F hm hT steps fun a w' hb hw hf => ?_
  rw [hk]
  show o.wp P a w' (fun a' w'' => Q .normal a' w'') Q
  obtain ⟨v, w'', hr, hq⟩ := fin a w' hb hw hf
  unfold Oper.wp
  rw [hr]
  rw [← hdd] at hq
  exact hq
theorem region_copy {id : Nat} {w : World} {draw : Bool} (k : Nat) (o : Oper) (F : Nat → Fact) (hm : P.follows .mixedOrders = true) (hT : textOk .any ops a0.tmps.size k = true) (hk : ops[k]? = some o) (dd : Nat) (hdd : o.dst = some dd) (steps : ∀ i, i < k → StepOk P .any ops Q F a0 w i)
    (s x : Operand) (t tn ty : TypeId) (hop : o.op = .call { callee := .builtin .copy, args := #[s, x], argTypes := #[t, tn] }) (hty : o.type = ty)
    (fin : ∀ a w', Based ops a0 a → Below w.heap.size w w' → (∀ i o d, i < k → ops[i]? = some o → o.dst = some d → (F i).p (a.tmps.getD d undef) w') →
      ∃ v w'', (Builtin.copy_ #[t, tn] ty #[a.eval s, a.eval x]).run P w' = .ok v w'' ∧ Q .normal (a.put (some dd) v) w'') : (Code.region id ops draw).wp P Q a0 w := by
  refine region_run k o F hm hT hk dd hdd steps fun a w' hb hw hf => ?_
  obtain ⟨v, w'', hr, hq⟩ := fin a w' hb hw hf
  refine ⟨v, w'', ?_, hq⟩
  unfold execOp
  simp only [hop, hty, resolve, invoke, builtin, Sem.run_bind, Sem.run_pure, Result.andThen_ok, List.map_toArray, List.map_cons, List.map_nil, hr]
end
end Go.Proofs.YtjfggcefdobooaaGreatDoor
namespace Go.Proofs.YtjfggcefdobooaaGreatDoor
set_option maxRecDepth 100000
open Go Go.RowKit
def opT (sd : List Int) : List Int := sd.take (sd.length - 16)
def opS (sd : List Int) : List Int := sd.drop (sd.length - 16)
def opB (key non ex sd : List Int) : Bool := fitK key non && (decide (16 ≤ sd.length) && decide (ssB (nsW key non) ex (opT sd) = opS sd))
def opL (key non ex sd : List Int) : List Int := if opB key non ex sd = true then xt key non (opT sd) else []
theorem opL_len (key non ex sd : List Int) : (opL key non ex sd).length ≤ sd.length := by
  unfold opL
  split
  · rw [xt_len, opT, List.length_take]; omega
  · simp
def NewO (B : Nat) (w' : World) (e : Ending) (b : Bool) (ys : List Int) : Prop :=
  ∃ (a : Option Addr) (c g : Nat), e = .returned (.agg #[.bool b, .slice a ys.length c]) ∧ Own w' g a .u8 ys ∧ (a = none → c = 0) ∧ ys.length ≤ c ∧ B ≤ g
theorem newO_bad (w : World) (B : Nat) : NewO B w (.returned (.agg #[.bool false, .slice none 0 0])) false [] := ⟨none, 0, B, rfl, Own.nil _ _ _ _, fun _ => rfl, Nat.le_refl _, Nat.le_refl _⟩
set_option maxRecDepth 100000 in
theorem ne16 (xs ys : List Int) (hx : xs.length = 16) (hy : ys.length = 16) (x y : Nat) (w : World) : (do eqGuard .neq 98 (.tmp x) (.tmp y) (ag .u8 xs) (ag .u8 ys); binOp .neq 98 (ag .u8 xs) (ag .u8 ys) : Sem Value).run Tryz.prog w = .ok (.bool (!decide (xs = ys))) w := by
  have h : (eqGuard .neq 98 (.tmp x) (.tmp y) (ag .u8 xs) (ag .u8 ys)).run Tryz.prog w = .ok () w := by kernel_rfl
  have h2 : (binOp .neq 98 (ag .u8 xs) (ag .u8 ys)).run Tryz.prog w = .ok (.bool (!decide (xs = ys))) w := by
    have k := eq16 w xs ys hx hy
    show (do pure (.bool (!(← Op.equal 98 (ag .u8 xs) (ag .u8 ys)))) : Sem Value).run Tryz.prog w = _
    rw [Sem.run_bind]
    have k' : (Op.equal 98 (ag .u8 xs) (ag .u8 ys)).run Tryz.prog w = _ := k
    rw [k']
    rfl
  rw [Sem.run_bind, h]
  exact h2
theorem Rd.drop {w : World} {g : Nat} {a : Option Addr} {k : IntKind} {xs : List Int} (h : Rd w g a k xs) (n : Nat) (hn : n < xs.length) : ∃ o, a = some ⟨g, o, none⟩ ∧ Rd w g (some ⟨g, o + n, none⟩) k (xs.drop n) := by
  obtain ⟨o, rfl, hc⟩ := h (by omega)
  refine ⟨o, rfl, fun _ => ⟨o + n, rfl, fun i hi => ?_⟩⟩
  rw [List.length_drop] at hi
  rw [Nat.add_assoc, hc (n + i) (by omega), List.getD_eq_getElem?_getD, List.getD_eq_getElem?_getD, List.getElem?_drop]
theorem Rd.take {w : World} {g : Nat} {a : Option Addr} {k : IntKind} {xs : List Int} (h : Rd w g a k xs) (n : Nat) : Rd w g a k (xs.take n) := fun h0 => by
  rw [List.length_take] at h0
  obtain ⟨o, e, hc⟩ := h (by omega)
  refine ⟨o, e, fun i hi => ?_⟩
  rw [List.length_take] at hi
  rw [hc i (by omega), List.getD_eq_getElem?_getD, List.getD_eq_getElem?_getD, List.getElem?_take, if_pos (by omega)]
theorem blk_two {w : World} {g : Nat} {t : TypeId} {b : Bool} {v : Value} (h : w.heap[g]? = some (.cells #[.bool b, v] t (0, 0))) : w.cell? ⟨g, 0, none⟩ = some (.bool b) ∧ w.cell? ⟨g, 1, none⟩ = some v ∧ w.frozen? ⟨g, 0, none⟩ = false ∧ w.frozen? ⟨g, 1, none⟩ = false :=
  ⟨by rw [cell_of_row w g 0 _ t (0, 0) h]; rfl, by rw [cell_of_row w g 1 _ t (0, 0) h]; rfl, frozen_of_row w g 0 _ t h, frozen_of_row w g 1 _ t h⟩
set_option maxRecDepth 100000 in
set_option maxHeartbeats 16000000 in
theorem implOpen_any (w : World) (g : Nat) (a : Option Addr) (c : Nat) (key : List Int) (hr : Rd w g a .u8 key) (hb : Byt key) (hc : key.length ≤ c) (g' : Nat) (a' : Option Addr) (c' : Nat) (non : List Int) (hr' : Rd w g' a' .u8 non) (hb' : Byt non) (hc' : non.length ≤ c')
    (ge : Nat) (ae : Option Addr) (ce : Nat) (ex : List Int) (he : Rd w ge ae .u8 ex) (eb : Byt ex) (en : ae = none → ce = 0)
    (g2 : Nat) (a2 : Option Addr) (c2 : Nat) (sd : List Int) (hr2 : Rd w g2 a2 .u8 sd) (db : Byt sd) (dc : sd.length ≤ c2) (hs : ex.length + sd.length ≤ 4000000) :
    Calls Tryz.prog 65 #[.slice a key.length c, .slice a' non.length c', .slice ae ex.length ce, .slice a2 sd.length c2] w fun e w' => NewO w.heap.size w' e (opB key non ex sd) (opL key non ex sd) ∧ Below w.heap.size w w' := by
  have n0 : Below w.heap.size w (w.alloc (.cells #[.bool false, .slice none 0 0] 117)) := (Below.refl _ _).alloc (Nat.le_refl _) _
  have H0 : (w.alloc (.cells #[.bool false, .slice none 0 0] 117)).heap[w.heap.size]? = some (.cells #[.bool false, .slice none 0 0] 117 (0, 0)) := heap_alloc_last w _
  have z0 : (w.alloc (.cells #[.bool false, .slice none 0 0] 117)).heap.size = w.heap.size + 1 := by simp
  have IK := fun W => hide (isKey_any W a a' key.length non.length c c')
  by_cases h1 : (decide (key.length = 32) && decide (non.length = 12)) = true
  · simp only [h1] at IK
    have hk : fitK key non = true := h1
    by_cases h16 : 16 ≤ sd.length
    · have OB : Hid (opB key non ex sd = decide (ssB (nsW key non) ex (opT sd) = opS sd)) := by show _ = _; unfold opB; rw [hk, decide_eq_true h16]; rfl
      have OLt : Hid (opL key non ex sd = if decide (ssB (nsW key non) ex (opT sd) = opS sd) = true then xt key non (opT sd) else []) := by show _ = _; unfold opL; rw [OB.out]
      rw [OLt.out, OB.out]
      simp only [Bool.and_eq_true, decide_eq_true_eq] at h1
      obtain ⟨od, ea2, RS⟩ := hr2.drop (sd.length - 16) (by omega)
      have TL : Hid ((opT sd).length = sd.length - 16) := by show _ = _; unfold opT; rw [List.length_take]; omega
      have SL : Hid ((opS sd).length = 16) := by show _ = _; unfold opS; rw [List.length_drop]; omega
      have RT : Rd w g2 a2 .u8 (opT sd) := hr2.take _
      have RS : Rd w g2 (some ⟨g2, od + (sd.length - 16), none⟩) .u8 (opS sd) := RS
      have TB : Byt (opT sd) := byt_take db _
      have a2n : a2 = none → c2 = 0 := fun h => by rw [h] at ea2; cases ea2
      have HC := fun W => hide (hasC_any W 1 (by omega) (by omega) a2 (sd.length - 16) c2)
      simp only [hasC_short (sd.length - 16) (by omega)] at HC
      have NW := fun W (n : Below w.heap.size w W) => hide (newWords_any W g a c key (hr.up n) hb h1.1 hc g' a' c' non (hr'.up n) hb' h1.2 hc')
      have LY := fun W (n : Below w.heap.size w W) => hide (layOverR_any W _ (nsW_ws hb hb') (nsW_len key non) 1 (by omega) g2 a2 c2 (opT sd) (RT.up n) (by rw [TL.out]; omega) (by rw [TL.out]; omega))
      have XT : Hid (xt key non (opT sd) = xoG (nsW key non) 1 (opT sd) (((opT sd).length + 63) / 64)) := rfl
      simp only [← XT.out] at LY
      have SS := fun W (n : Below w.heap.size w W) => hide (sealSum_any W _ (nsW_ws hb hb') (nsW_len key non) ge ae ce ex (he.up n) eb en g2 a2 c2 (opT sd) (RT.up n) TB a2n (by rw [TL.out]; omega))
      have ML := hide (ssB_len (nsW key non) ex (opT sd))
      simp only [TL.out] at LY SS
      have NE := fun W x y => hide (ne16 (ssB (nsW key non) ex (opT sd)) (opS sd) ML.out SL.out x y W)
      have W16 : Hid (((nsW key non).map (Value.int .u32)).length = 16) := by show _ = _; rw [List.length_map]; exact nsW_len key non
      have OW := one_ints .u32 (nsW key non)
      have VW : Hid (ag .u32 (nsW key non) = Value.agg ((nsW key non).map (Value.int .u32)).toArray) := rfl
      simp only [VW.out] at LY SS NW
      generalize xt key non (opT sd) = T at *
      generalize ssB (nsW key non) ex (opT sd) = M at *
      generalize opS sd = S at *
      obtain ⟨ob, hob⟩ : ∃ b, b = decide (M = S) := ⟨_, rfl⟩
      rw [← hob]
      obtain ⟨ol, hol⟩ : ∃ l, l = if ob = true then T else [] := ⟨_, rfl⟩
      rw [← hol]
      have HOB := hide hob
      have HOL := hide hol
      clear hob hol
      obtain ⟨nw, hnw⟩ : ∃ l, l = nsW key non := ⟨_, rfl⟩
      rw [← hnw] at W16 OW
      simp only [← hnw] at LY SS NW
      have n16 : (16 : Int) ≤ (sd.length : Int) := by omega
      have m16 : (sd.length : Int) - 16 = ((sd.length - 16 : Nat) : Int) := by omega
      have mle : ((sd.length - 16 : Nat) : Int) ≤ (sd.length : Int) := by omega
      have mc : ((sd.length - 16 : Nat) : Int) ≤ (c2 : Int) := by omega
      have m0 : (0 : Int) ≤ ((sd.length - 16 : Nat) : Int) := by omega
      have dif : sd.length - (sd.length - 16) = 16 := by omega
      have ne : ¬ (c2 = sd.length - 16) := by omega
      have nlt : ¬ (sd.length : Int) < 16 := by omega
      have big : (sd.length : Int) ≤ 4000000 := by omega
      subst ea2
      clear hnw VW h1 hk OB OLt XT TB RT hr2 db dc hs a2n
      generalize hm : sd.length - 16 = m at *
      generalize hsl : sd.length = n at *
      have HM := hide hm
      clear hm hsl
      go_enter Tryz.func65, Tryz.ntmps65
      go_upto_region 1 with fail
      generalize w.alloc (.cells #[.bool false, .slice none 0 0] 117) = w1 at *
      go_wp2_with fail
      refine (IK w1).out.mono ?_
      rintro e w2 ⟨rfl, h⟩
      have h := h.symm
      subst h
      go_wp2_with fail
      refine (HC w1).out.mono ?_
      rintro e w2 ⟨rfl, h⟩
      have h := h.symm
      subst h
      clear IK HC
      have B3 := blk_y16 w1 98
      have n3 : Below w1.heap.size w1 (w1.alloc (.cells #[.int .u8 0, .int .u8 0, .int .u8 0, .int .u8 0, .int .u8 0, .int .u8 0, .int .u8 0, .int .u8 0, .int .u8 0, .int .u8 0, .int .u8 0, .int .u8 0, .int .u8 0, .int .u8 0, .int .u8 0, .int .u8 0] 98)) := (Below.refl _ _).alloc (Nat.le_refl _) _
      have z3 : (w1.alloc (.cells #[.int .u8 0, .int .u8 0, .int .u8 0, .int .u8 0, .int .u8 0, .int .u8 0, .int .u8 0, .int .u8 0, .int .u8 0, .int .u8 0, .int .u8 0, .int .u8 0, .int .u8 0, .int .u8 0, .int .u8 0, .int .u8 0] 98)).heap.size = w.heap.size + 1 + 1 := by simp [z0]
      go_upto_region 7 with fail
      generalize w1.alloc (.cells #[.int .u8 0, .int .u8 0, .int .u8 0, .int .u8 0, .int .u8 0, .int .u8 0, .int .u8 0, .int .u8 0, .int .u8 0, .int .u8 0, .int .u8 0, .int .u8 0, .int .u8 0, .int .u8 0, .int .u8 0, .int .u8 0] 98) = w3 at *
      rw [z0] at B3
      try rw [z0]
      have H3 := (n3.block w.heap.size (by omega)).trans H0
      have N3 := nxt n0 n3
      have RS3 := RS.up N3
      clear n0 n3 H0
      refine region_copy 5 _ (fun i => [Fact.eq (.slice (some ⟨w.heap.size + 1, 0, none⟩) 16 16), Fact.eq (.slice (some ⟨g2, od, none⟩) n c2), Fact.eq (.slice (some ⟨g2, od, none⟩) m c2), Fact.eq (.int .i64 (m : Int)), Fact.eq (.slice (some ⟨g2, od + m, none⟩) 16 (c2 - m))].getD i Fact.no) (by kernel_rfl) (by kernel_rfl) rfl 36 rfl ?_ (.tmp 31) (.tmp 35) 22 22 3 rfl rfl ?_
      · intro i hi
        obtain rfl | rfl | rfl | rfl | rfl : i = 0 ∨ i = 1 ∨ i = 2 ∨ i = 3 ∨ i = 4 := by omega
        · refine step_pure rfl fun f u hb hw hf => ?_
          have e10 : f.tmps[10]?.getD undef = .pointer (some ⟨w.heap.size + 1, 0, none⟩) := gdv (hb.2.2 10 (by kernel_rfl))
          exact ⟨.slice (some ⟨w.heap.size + 1, 0, none⟩) 16 16, by simp [go_sem, e10], rfl⟩
        · refine step_pure rfl fun f u hb hw hf => ?_
          have e3 : f.tmps[3]?.getD undef = .slice (some ⟨g2, od, none⟩) n c2 := gdv (hb.2.2 3 (by kernel_rfl))
          exact ⟨.slice (some ⟨g2, od, none⟩) n c2, by simp [go_sem, e3], rfl⟩
        · refine step_pure rfl fun f u hb hw hf => ?_
          have e9 : f.tmps[9]?.getD undef = .slice (some ⟨g2, od, none⟩) m c2 := gdv (hb.2.2 9 (by kernel_rfl))
          exact ⟨.slice (some ⟨g2, od, none⟩) m c2, by simp [go_sem, e9], rfl⟩
        · refine step_pure rfl fun f u hb hw hf => ?_
          have e33 : f.tmps[33]?.getD undef = .slice (some ⟨g2, od, none⟩) m c2 := gdv (hf 2 33 (by kernel_rfl))
          exact ⟨.int .i64 (m : Int), by simp [go_sem, e33], rfl⟩
        · refine step_pure rfl fun f u hb hw hf => ?_
          have e32 : f.tmps[32]?.getD undef = .slice (some ⟨g2, od, none⟩) n c2 := gdv (hf 1 32 (by kernel_rfl))
          have e34 : f.tmps[34]?.getD undef = .int .i64 (m : Int) := gdv (hf 3 34 (by kernel_rfl))
          exact ⟨.slice (some ⟨g2, od + m, none⟩) 16 (c2 - m), by simp [go_sem, e32, e34, mle, dif, ne], rfl⟩
      intro A w4 hb4 n4 hF
      have e31 : A.eval (.tmp 31) = .slice (some ⟨w.heap.size + 1, 0, none⟩) 16 16 := hF 0 _ 31 (by omega) rfl rfl
      have e35 : A.eval (.tmp 35) = .slice (some ⟨g2, od + m, none⟩) 16 (c2 - m) := hF 4 _ 35 (by omega) rfl rfl
      obtain ⟨w5, hcp, B5', O5⟩ := copy_blk (P := Tryz.prog) w4 22 3 5 Tryz.underlying22 rowB8 (B3.up n4) g2 (some ⟨g2, od + m, none⟩) S (RS3.up n4) (by rw [SL.out, List.length_replicate]; omega) 16 (c2 - m)
      rw [List.length_replicate, SL.out] at hcp
      have ES : S ++ (List.replicate 16 (0 : Int)).drop S.length = S := by rw [SL.out]; simp
      rw [SL.out] at B5'
      rw [SL.out] at ES
      rw [ES] at B5'
      refine ⟨_, w5, by rw [e31, e35]; exact hcp, ?_⟩
      obtain ⟨vs4, hvs⟩ : ∃ vs4 : Nat → Value, ∀ d, A.tmps.getD d undef = vs4 d := ⟨_, fun _ => rfl⟩
      rw [puts_of (md := .any) (k := 5) (by kernel_rfl) rfl hb4 vs4 hvs]
      have H5 := (O5.block w.heap.size (by omega)).trans ((n4.block w.heap.size (by omega)).trans H3)
      have N5 : Below w.heap.size w w5 := (nxt N3 n4).trans (O5.below (by omega))
      have z5 : w.heap.size + 1 + 1 ≤ w5.heap.size := by have := O5.size; have := n4.size; omega
      clear hb4 hF hvs e31 e35 hcp O5 n4 N3 H3 RS3 B3 ES z3
      simp only [puts, Act.put, List.setIfInBounds_toArray, List.set_cons_succ, List.set_cons_zero]
      go_wp2_with fail
      refine (NW w5 N5).out.mono ?_
      rintro e w6 ⟨rfl, n6⟩
      have n7 : Below w6.heap.size w6 (w6.alloc (.cells #[.int .u32 0, .int .u32 0, .int .u32 0, .int .u32 0, .int .u32 0, .int .u32 0, .int .u32 0, .int .u32 0, .int .u32 0, .int .u32 0, .int .u32 0, .int .u32 0, .int .u32 0, .int .u32 0, .int .u32 0, .int .u32 0] 95)) := (Below.refl _ _).alloc (Nat.le_refl _) _
      obtain ⟨t7, H7⟩ := blk_z16 w6 95
      have SR := blk_setRow (zs := nw) ⟨t7, H7⟩
      have OR := only_setRow (w6.alloc (.cells #[.int .u32 0, .int .u32 0, .int .u32 0, .int .u32 0, .int .u32 0, .int .u32 0, .int .u32 0, .int .u32 0, .int .u32 0, .int .u32 0, .int .u32 0, .int .u32 0, .int .u32 0, .int .u32 0, .int .u32 0, .int .u32 0] 95)) w6.heap.size (nw.map (Value.int .u32)).toArray
      obtain ⟨vw, hvw⟩ : ∃ v, v = nw.map (Value.int .u32) := ⟨_, rfl⟩
      have RGf : ∀ W q, Blk W q .u32 nw → W.rangeAt q 0 vw := fun W q h => by rw [hvw]; exact (Seg.blk h).range
      rw [← hvw] at W16 OW SR OR ⊢
      simp only [← hvw] at LY SS
      clear hvw NW
      have s6 := n6.size
      have U7 : ∀ b, b < w5.heap.size → ((w6.alloc (.cells #[.int .u32 0, .int .u32 0, .int .u32 0, .int .u32 0, .int .u32 0, .int .u32 0, .int .u32 0, .int .u32 0, .int .u32 0, .int .u32 0, .int .u32 0, .int .u32 0, .int .u32 0, .int .u32 0, .int .u32 0, .int .u32 0] 95)).setRow w6.heap.size vw.toArray).heap[b]? = w5.heap[b]? := fun b hb => (OR.block b (by omega)).trans ((n7.block b (by omega)).trans (n6.block b hb))
      have N7 : Below w.heap.size w ((w6.alloc (.cells #[.int .u32 0, .int .u32 0, .int .u32 0, .int .u32 0, .int .u32 0, .int .u32 0, .int .u32 0, .int .u32 0, .int .u32 0, .int .u32 0, .int .u32 0, .int .u32 0, .int .u32 0, .int .u32 0, .int .u32 0, .int .u32 0] 95)).setRow w6.heap.size vw.toArray) := (N5.trans (n6.mono N5.size)).trans ((n7.mono (by have := N5.size; omega)).trans (OR.below (B := w.heap.size) (by have := N5.size; omega)))
      go_upto_region 9 with (refine wpList_store_row rfl 95 (.tmp 11) (.tmp 39) rfl w6.heap.size vw.toArray rfl rfl t7 _ H7 (by rw [List.size_toArray, W16.out]; exact infoS) (by rw [List.size_toArray, List.size_toArray, W16.out]; rfl) OW ?_)
      have H8 := (U7 w.heap.size (by omega)).trans H5
      have B8 := B5'.of_block (U7 (w.heap.size + 1) (by omega))
      generalize (w6.alloc (.cells #[.int .u32 0, .int .u32 0, .int .u32 0, .int .u32 0, .int .u32 0, .int .u32 0, .int .u32 0, .int .u32 0, .int .u32 0, .int .u32 0, .int .u32 0, .int .u32 0, .int .u32 0, .int .u32 0, .int .u32 0, .int .u32 0] 95)).setRow w6.heap.size vw.toArray = w7 at *
      generalize w6.heap.size = q at *
      clear n7 OR H7 OW U7 H5 B5' n6 N5
      refine region_end 6 (fun i => [Fact.eq (.agg vw.toArray), Fact.eq (.slice ae ex.length ce), Fact.eq (.slice (some ⟨g2, od, none⟩) m c2), Fact.eq (ag .u8 M), Fact.eq (ag .u8 S), Fact.eq (.bool (!decide (M = S)))].getD i Fact.no) (by kernel_rfl) (by kernel_rfl) rfl ?_ ?_
      · intro i hi
        obtain rfl | rfl | rfl | rfl | rfl | rfl : i = 0 ∨ i = 1 ∨ i = 2 ∨ i = 3 ∨ i = 4 ∨ i = 5 := by omega
        · refine step_load rfl 95 (.tmp 11) rfl (.array 16 93) 16 undS rfl infoS fun f u hb hw hf => ?_
          exact ⟨q, 0, vw, hb.2.2 11 (by kernel_rfl), RGf u q (SR.up hw), W16.out, rfl⟩
        · refine step_pure rfl fun f u hb hw hf => ?_
          have e2 : f.tmps[2]?.getD undef = .slice ae ex.length ce := gdv (hb.2.2 2 (by kernel_rfl))
          exact ⟨.slice ae ex.length ce, by simp [go_sem, e2], rfl⟩
        · refine step_pure rfl fun f u hb hw hf => ?_
          have e9 : f.tmps[9]?.getD undef = .slice (some ⟨g2, od, none⟩) m c2 := gdv (hb.2.2 9 (by kernel_rfl))
          exact ⟨.slice (some ⟨g2, od, none⟩) m c2, by simp [go_sem, e9], rfl⟩
        · refine step_callv rfl 60 _ _ rfl (by kernel_rfl) fun f u hb hw hf => ?_
          have e40 : f.tmps.getD 40 undef = .agg vw.toArray := hf 0 40 (by kernel_rfl)
          have e41 : f.tmps.getD 41 undef = .slice ae ex.length ce := hf 1 41 (by kernel_rfl)
          have e42 : f.tmps.getD 42 undef = .slice (some ⟨g2, od, none⟩) m c2 := hf 2 42 (by kernel_rfl)
          show Calls Tryz.prog 60 #[f.tmps.getD 40 undef, f.tmps.getD 41 undef, f.tmps.getD 42 undef] u _
          rw [e40, e41, e42]
          exact (SS u (nxt N7 hw)).out.mono (by rintro e w' ⟨rfl, n⟩; exact ⟨_, rfl, n, rfl⟩)
        · refine step_load rfl 98 (.tmp 10) rfl (.array 16 5) 16 undP16 rfl infoP16 fun f u hb hw hf => ?_
          exact ⟨w.heap.size + 1, 0, S.map (Value.int .u8), hb.2.2 10 (by kernel_rfl), (Seg.blk (B8.up hw)).range, by rw [List.length_map]; exact SL.out, rfl⟩
        · refine step_pure rfl fun f u hb hw hf => ⟨.bool (!decide (M = S)), ?_, rfl⟩
          have e43 : f.eval (.tmp 43) = ag .u8 M := hf 3 43 (by kernel_rfl)
          have e44 : f.eval (.tmp 44) = ag .u8 S := hf 4 44 (by kernel_rfl)
          have k := (NE u 43 44).out
          show (execOp f.eval { dst := some 45, op := .binOp .neq 98 (.tmp 43) (.tmp 44) 98, type := _, pos := _, after := _, guard := _ }).run Tryz.prog u = _
          simp only [execOp, e43, e44]
          rw [Sem.run_bind, k]
          rfl
      intro A w8 hb8 n8 hF
      have e45 := hF 5 45 (by kernel_rfl)
      obtain ⟨vs8, hvs⟩ : ∃ vs8 : Nat → Value, ∀ d, A.tmps.getD d undef = vs8 d := ⟨_, fun _ => rfl⟩
      have v45 : vs8 45 = .bool (!decide (M = S)) := (hvs 45).symm.trans e45
      rw [puts_of (md := .any) (n := 51) (k := 6) (by kernel_rfl) rfl hb8 vs8 hvs]
      have H9 := (n8.block w.heap.size (by have := N7.size; have := H8; exact (Array.getElem?_eq_some_iff.1 H8).1)).trans H8
      have N8 := nxt N7 n8
      have SR8 := SR.up n8
      obtain ⟨c80, c81, f80, f81⟩ := blk_two H9
      clear hb8 hF hvs e45 SS NE B8 SR
      simp only [puts, v45, Act.put, List.setIfInBounds_toArray, List.set_cons_succ, List.set_cons_zero]
      by_cases hMS : M = S
      · have d1 : decide (M = S) = true := decide_eq_true hMS
        have EB : Hid (ob = true) := HOB.out.trans d1
        have EL : Hid (ol = T) := by show _ = _; rw [HOL.out, EB.out, if_pos rfl]
        rw [d1]
        clear HOB HOL
        have RG := RGf w8 q SR8
        clear hMS d1 ML
        go_wp2_with (refine wpList_load_mid rfl 95 (.tmp 11) rfl q 0 rfl vw (.array 16 93) RG undS rfl (by rw [W16.out]; exact infoS) ?_)
        refine (LY w8 N8).out.mono ?_
        rintro e w9 ⟨⟨v9, rfl, R9⟩, n9⟩
        obtain ⟨a9, c9, g9, rfl, o9, p9, q9, r9⟩ := R9.own
        have l8 := (Array.getElem?_eq_some_iff.1 H9).1
        have H10 := (n9.block w.heap.size l8).trans H9
        obtain ⟨c90, c91, f90, f91⟩ := blk_two H10
        have N9 := nxt N8 n9
        have O1 := (Only.setCell w9 w.heap.size 0 (.bool true)).trans (Only.setCell _ w.heap.size 1 (.slice a9 T.length c9))
        have o10 := o9.only O1 (fun _ => by omega)
        have N10 := N9.trans (O1.below (Nat.le_refl _))
        clear LY RGf SR8 RG n9 c80 c81 f80 f81 H10 R9 o9 O1
        go_wp2
        exact bodyPost_ret (v := .agg #[.bool true, .slice a9 T.length c9]) (by simp [results, Tryz.results65, go_sem, c90, c91]) rfl ⟨by rw [EB.out, EL.out]; exact ⟨a9, c9, g9, rfl, o10, p9, q9, by omega⟩, N10⟩
      · have d1 : decide (M = S) = false := decide_eq_false hMS
        have EB : Hid (ob = false) := HOB.out.trans d1
        have EL : Hid (ol = []) := by show _ = _; rw [HOL.out, EB.out, if_neg (by decide)]
        rw [d1]
        clear HOB HOL
        have O1 := (Only.setCell w8 w.heap.size 0 (.bool false)).trans (Only.setCell _ w.heap.size 1 (.slice none 0 0))
        have N10 := N8.trans (O1.below (Nat.le_refl _))
        clear hMS d1 ML LY RGf SR8 O1
        go_wp2
        exact bodyPost_ret (v := .agg #[.bool false, .slice none 0 0]) (by simp [results, Tryz.results65, go_sem, c80, c81]) rfl ⟨by rw [EB.out, EL.out]; exact newO_bad _ _, N10⟩
    · have OB : Hid (opB key non ex sd = false) := by show _ = _; unfold opB; rw [decide_eq_false h16]; simp
      have OLt : Hid (opL key non ex sd = []) := by show _ = _; unfold opL; rw [if_neg (by rw [OB.out]; decide)]
      rw [OLt.out, OB.out]
      have lt : (sd.length : Int) < 16 := by omega
      clear OB OLt
      go_enter Tryz.func65, Tryz.ntmps65
      go_upto_region 1 with fail
      generalize w.alloc (.cells #[.bool false, .slice none 0 0] 117) = w1 at *
      go_wp2_with fail
      refine (IK w1).out.mono ?_
      rintro e w2 ⟨rfl, h⟩
      have h := h.symm
      subst h
      obtain ⟨c10, c11, f10, f11⟩ := blk_two H0
      have O1 := (Only.setCell w1 w.heap.size 0 (.bool false)).trans (Only.setCell _ w.heap.size 1 (.slice none 0 0))
      have N10 := n0.trans (O1.below (Nat.le_refl _))
      clear IK O1
      go_wp2
      exact bodyPost_ret (v := .agg #[.bool false, .slice none 0 0]) (by simp [results, Tryz.results65, go_sem, c10, c11]) rfl ⟨newO_bad _ _, N10⟩
  · have h1' : (decide (key.length = 32) && decide (non.length = 12)) = false := by simpa using h1
    simp only [h1'] at IK
    have OB : Hid (opB key non ex sd = false) := by show _ = _; unfold opB fitK; rw [h1']; rfl
    have OLt : Hid (opL key non ex sd = []) := by show _ = _; unfold opL; rw [if_neg (by rw [OB.out]; decide)]
    rw [OLt.out, OB.out]
    clear OB OLt h1 h1'
    go_enter Tryz.func65, Tryz.ntmps65
    go_upto_region 1 with fail
    generalize w.alloc (.cells #[.bool false, .slice none 0 0] 117) = w1 at *
    go_wp2_with fail
    refine (IK w1).out.mono ?_
    rintro e w2 ⟨rfl, h⟩
    have h := h.symm
    subst h
    obtain ⟨c10, c11, f10, f11⟩ := blk_two H0
    have O1 := (Only.setCell w1 w.heap.size 0 (.bool false)).trans (Only.setCell _ w.heap.size 1 (.slice none 0 0))
    have N10 := n0.trans (O1.below (Nat.le_refl _))
    clear IK O1
    go_wp2
    exact bodyPost_ret (v := .agg #[.bool false, .slice none 0 0]) (by simp [results, Tryz.results65, go_sem, c10, c11]) rfl ⟨newO_bad _ _, N10⟩
end Go.Proofs.YtjfggcefdobooaaGreatDoor
namespace Go.Proofs.YtjfggcefdobooaaGreatDoor
set_option maxRecDepth 100000
open Go Go.RowKit
theorem iOr : (Tryz.prog.info? 117).map (·.size) = some 2 := by kernel_rfl
theorem oneOr (b : Bool) (a : Option Addr) (n c : Nat) : ([.bool b, .slice a n c] : List Value).toArray.all (·.oneCell') = true := all_oneCell_toArray fun v hv => by
  simp only [List.mem_cons, List.not_mem_nil, or_false] at hv
  rcases hv with rfl | rfl
  all_goals rfl
def Opf (b : Nat) (t : Bool) (L : List Int) : Fact := ⟨fun v w => ∃ (a : Option Addr) (c g : Nat), v = .agg #[.bool t, .slice a L.length c] ∧ Own w g a .u8 L ∧ L.length ≤ c ∧ b ≤ g, fun n h => by
  obtain ⟨a, c, g, e, o, k, l⟩ := h
  exact ⟨a, c, g, e, o.up n, k, l⟩⟩
theorem step_newOr {ops : Array Oper} {Q : Exit → Act → World → Prop} {md : Region.Mode} {F : Nat → Fact} {a0 : Act} {w0 : World} {i : Nat} {o : Oper} (hi : ops[i]? = some o) (hop : o.op = .alloc 117) (hF : F i = NBt w0.heap.size 117 [.bool false, .slice none 0 0]) : StepOk Tryz.prog md ops Q F a0 w0 i := by
  refine step_grow hi fun a w _ hw _ => ⟨.pointer (some ⟨w.heap.size, 0, none⟩), w.alloc (.cells #[.bool false, .slice none 0 0] 117), ?_, (Below.refl _ _).alloc (Nat.le_refl _) _, ?_⟩
  · simp only [execOp, hop]
    kernel_rfl
  · rw [hF]
    exact ⟨_, rfl, hw.size, RwC.new w _ _⟩
theorem own_ne {w : World} {g q : Nat} {a : Option Addr} {xs : List Int} {b : Bool} {t : TypeId} (h : Own w g a .u8 xs) (hq : RwC w q [.bool b, .slice none 0 0] t) : 0 < xs.length → g ≠ q := fun h0 e => by
  subst e
  obtain ⟨off, ha, hc⟩ := h h0
  have h1 := (hc 0 h0).1
  rw [Nat.add_zero, hq.cell off] at h1
  match off, h1 with
  | 0, h1 => simp at h1
  | 1, h1 => simp at h1
  | n + 2, h1 => simp at h1
set_option maxHeartbeats 4000000 in
theorem open_any (w : World) (n : Int) (gk : Nat) (ak : Option Addr) (ck : Nat) (K : List Int) (hk : Rd w gk ak .u8 K) (bk : Byt K) (kk : K.length ≤ ck) (gn : Nat) (an : Option Addr) (cn : Nat) (M : List Int) (hm : Rd w gn an .u8 M) (bm : Byt M) (km : M.length ≤ cn)
    (gx : Nat) (ax : Option Addr) (cx : Nat) (xs : List Int) (hx : Rd w gx ax .u8 xs) (bx : Byt xs) (kx : xs.length ≤ cx) (lx : xs.length ≤ 1048576) (a4 : Addr) (h4 : Sen w 6 a4) :
    Calls Tryz.prog 53 #[.agg #[.int .i64 23, .int .i64 n, .slice ak K.length ck, .slice an M.length cn], .slice ax xs.length cx] w fun e w' => Below w.heap.size w w' ∧
      ((opB K M (hdL 23 n) xs = true ∧ ∃ a c g, e = .returned (.tuple #[.slice a (opL K M (hdL 23 n) xs).length c, .nilIface]) ∧ Own w' g a .u8 (opL K M (hdL 23 n) xs) ∧ (opL K M (hdL 23 n) xs).length ≤ c ∧ w.heap.size ≤ g)
       ∨ (opB K M (hdL 23 n) xs = false ∧ e = .returned (.tuple #[.slice none 0 0, erV a4]))) := by
  have N : Below w.heap.size w (w.alloc (.cells #[.int .i64 23, .int .i64 n, .slice ak K.length ck, .slice an M.length cn] 57)) := (Below.refl _ _).alloc (Nat.le_refl _) _
  have B0 : RwC (w.alloc (.cells #[.int .i64 23, .int .i64 n, .slice ak K.length ck, .slice an M.length cn] 57)) w.heap.size [.int .i64 23, .int .i64 n, .slice ak K.length ck, .slice an M.length cn] 57 := RwC.new w _ _
  have HB := fun W => hide (headBytes_any W 23 n)
  have hdb : Byt (hdL 23 n) := byt_apd (bigL_byt _ _) (bigL_byt _ _)
  have hdl := hdL_len 23 n
  generalize hdL 23 n = H at *
  have OP := hide fun W (m : Below w.heap.size w W) ge ae ce (he : Rd W ge ae .u8 H) (en : ae = none → ce = 0) => implOpen_any W gk ak ck K (hk.up m) bk kk gn an cn M (hm.up m) bm km ge ae ce H he hdb en gx ax cx xs (hx.up m) bx kx (by omega)
  generalize opL K M H xs = L at *
  generalize opB K M H xs = t at *
  have HDL := hide hdl
  clear hk hm hx bk bm bx kk km kx lx hdl hdb
  go_enter Tryz.func53, Tryz.ntmps53
  go_upto_region 1 with fail
  generalize w.alloc (.cells #[.int .i64 23, .int .i64 n, .slice ak K.length ck, .slice an M.length cn] 57) = wa at *
  refine region_newT 10 9 8 6 15 _ (fun i => [Fact.eq (.pointer (some ⟨w.heap.size, 2, none⟩)), Fact.eq (.slice ak K.length ck), Fact.eq (.pointer (some ⟨w.heap.size, 3, none⟩)), Fact.eq (.slice an M.length cn), Fact.eq (.pointer (some ⟨w.heap.size, 0, none⟩)), Fact.eq (.agg #[.int .i64 23, .int .i64 n]), Rbg wa.heap.size H, Fact.eq (.slice ax xs.length cx), Opf wa.heap.size t L, NBt wa.heap.size 117 [.bool false, .slice none 0 0]].getD i Fact.no) 117 [.bool false, .slice none 0 0] (Opf wa.heap.size t L) (by kernel_rfl) (by kernel_rfl) rfl rfl rfl iOr (by kernel_rfl) rfl (by kernel_rfl) rfl ?_ ?_ ?_
  · rintro v W ⟨a, c, g, rfl, -⟩
    exact ⟨[.bool t, .slice a L.length c], rfl, rfl, oneOr _ _ _ _⟩
  · intro i hi
    obtain rfl | rfl | rfl | rfl | rfl | rfl | rfl | rfl | rfl | rfl : i = 0 ∨ i = 1 ∨ i = 2 ∨ i = 3 ∨ i = 4 ∨ i = 5 ∨ i = 6 ∨ i = 7 ∨ i = 8 ∨ i = 9 := by omega
    · refine step_pure rfl fun A ww hb hw hf => ?_
      have e0 : A.tmps[2]?.getD undef = .pointer (some ⟨w.heap.size, 0, none⟩) := gdv (hb.2.2 2 (by kernel_rfl))
      exact ⟨.pointer (some ⟨w.heap.size, 2, none⟩), by simp [go_sem, e0], rfl⟩
    · refine step_pure rfl fun A ww hb hw hf => ?_
      have e0 : A.tmps[7]?.getD undef = .pointer (some ⟨w.heap.size, 2, none⟩) := gdv (hf 0 7 (by kernel_rfl))
      have hc : ww.cell? ⟨w.heap.size, 2, none⟩ = some (.slice ak K.length ck) := (B0.up hw).cell 2
      exact ⟨_, by simp [go_sem, e0, hc], rfl⟩
    · refine step_pure rfl fun A ww hb hw hf => ?_
      have e0 : A.tmps[2]?.getD undef = .pointer (some ⟨w.heap.size, 0, none⟩) := gdv (hb.2.2 2 (by kernel_rfl))
      exact ⟨.pointer (some ⟨w.heap.size, 3, none⟩), by simp [go_sem, e0], rfl⟩
    · refine step_pure rfl fun A ww hb hw hf => ?_
      have e0 : A.tmps[9]?.getD undef = .pointer (some ⟨w.heap.size, 3, none⟩) := gdv (hf 2 9 (by kernel_rfl))
      have hc : ww.cell? ⟨w.heap.size, 3, none⟩ = some (.slice an M.length cn) := (B0.up hw).cell 3
      exact ⟨_, by simp [go_sem, e0, hc], rfl⟩
    · refine step_pure rfl fun A ww hb hw hf => ?_
      have e0 : A.tmps[2]?.getD undef = .pointer (some ⟨w.heap.size, 0, none⟩) := gdv (hb.2.2 2 (by kernel_rfl))
      exact ⟨.pointer (some ⟨w.heap.size, 0, none⟩), by simp [go_sem, e0], rfl⟩
    · refine step_pure rfl fun A ww hb hw hf => ?_
      have e0 : A.tmps[11]?.getD undef = .pointer (some ⟨w.heap.size, 0, none⟩) := gdv (hf 4 11 (by kernel_rfl))
      have hc0 : ww.cell? ⟨w.heap.size, 0, none⟩ = some (.int .i64 23) := (B0.up hw).cell 0
      have hc1 : ww.cell? ⟨w.heap.size, 1, none⟩ = some (.int .i64 n) := (B0.up hw).cell 1
      exact ⟨.agg #[.int .i64 23, .int .i64 n], by simp [go_sem, e0, hc0, hc1], rfl⟩
    · refine step_callv rfl 30 _ _ rfl (by kernel_rfl) fun A ww hb hw hf => ?_
      have e6 : A.tmps.getD 12 undef = .agg #[.int .i64 23, .int .i64 n] := hf 5 12 (by kernel_rfl)
      show Calls Tryz.prog 30 #[A.tmps.getD 12 undef] ww _
      rw [e6]
      refine (HB ww).out.mono ?_
      rintro r w' ⟨x, rfl, R, n⟩
      exact ⟨x, rfl, n, R.base hw.size⟩
    · refine step_pure rfl fun A ww hb hw hf => ?_
      have e0 : A.tmps[1]?.getD undef = .slice ax xs.length cx := gdv (hb.2.2 1 (by kernel_rfl))
      exact ⟨_, by simp [go_sem, e0], rfl⟩
    · refine step_callv rfl 65 _ _ rfl (by kernel_rfl) fun A ww hb hw hf => ?_
      have e8 : A.tmps.getD 8 undef = .slice ak K.length ck := hf 1 8 (by kernel_rfl)
      have e10 : A.tmps.getD 10 undef = .slice an M.length cn := hf 3 10 (by kernel_rfl)
      have e14 : A.tmps.getD 14 undef = .slice ax xs.length cx := hf 7 14 (by kernel_rfl)
      have r13 : RowB ww wa.heap.size (A.tmps.getD 13 undef) H := hf 6 13 (by kernel_rfl)
      obtain ⟨a7, c7, g7, e13, D7, z7, -, -⟩ := r13.rd
      show Calls Tryz.prog 65 #[A.tmps.getD 8 undef, A.tmps.getD 10 undef, A.tmps.getD 13 undef, A.tmps.getD 14 undef] ww _
      rw [e8, e10, e13, e14]
      refine (OP.out ww (nxt N hw) g7 a7 c7 D7 z7).mono ?_
      rintro r w' ⟨⟨a, c, g, rfl, o1, o2, o3, o4⟩, n⟩
      exact ⟨_, rfl, n, a, c, g, rfl, o1, o3, Nat.le_trans hw.size o4⟩
    · exact step_newOr rfl rfl rfl
  · intro vs W W5 q cs vq hq hw rq hG OQ rc hW
    obtain ⟨a, c, g, ec, o1, o2, o3⟩ := hG
    simp only [Value.agg.injEq, Array.mk.injEq] at ec
    subst ec
    have O5 := o1.only OQ (own_ne o1 rq)
    have N5 := nxt N hW
    have s4 := (h4.up N5).c
    unfold erV at s4
    simp only [puts, vq, Act.put, List.setIfInBounds_toArray, List.set_cons_succ, List.set_cons_zero]
    have qc0 := rc.c0
    have qc1 := rc.c1
    generalize vs 7 = y7 at *
    generalize vs 8 = y8 at *
    generalize vs 9 = y9 at *
    generalize vs 10 = y10 at *
    generalize vs 11 = y11 at *
    generalize vs 12 = y12 at *
    generalize vs 13 = y13 at *
    generalize vs 14 = y14 at *
    generalize vs 15 = y15 at *
    have wl := B0.lt
    clear OQ rq hw B0 OP HB vq rc o1 hW
    cases t with
    | true =>
      go_wp2
      go_ret2
      exact ⟨N5, a, c, rfl, g, O5, o2, by omega⟩
    | false =>
      go_wp2
      go_region
      all_goals
        go_wp2
        go_ret2
        exact ⟨N5.drew, rfl⟩
end Go.Proofs.YtjfggcefdobooaaGreatDoor
namespace Go.Proofs.YtjfggcefdobooaaGreatDoor
set_option maxRecDepth 100000
open Go Go.RowKit
theorem opL_bytN {K M H xs : List Int} (h : Byt xs) : Byt (opL K M H xs) := by
  unfold opL
  split
  · exact xt_byt _ _ (byt_take h _)
  · intro i; simp
def upL (K V : List Int) (q : Int) (xs : List Int) : List Int := opL K (rnA V q) (hdL 23 (xs.length : Int)) xs
def upE (a1 a2 a3 a4 a5 a6 a7 : Addr) (K V : List Int) (q : Int) (xs : List Int) : Option Addr :=
  if K.length = 32 ∧ (rnA V q).length = 12 then (if 17 ≤ (xs.length : Int) ∧ (xs.length : Int) ≤ 2321 then (if opB K (rnA V q) (hdL 23 (xs.length : Int)) xs = true then riE a1 a5 a6 a7 (upL K V q xs) else some a4) else some a2) else some a3
set_option maxHeartbeats 8000000 in
theorem openRecord_any (w : World) (gk : Nat) (ak : Option Addr) (ck : Nat) (K : List Int) (hk : Rd w gk ak .u8 K) (bk : Byt K) (kk : K.length ≤ ck) (gi : Nat) (ai : Option Addr) (ci : Nat) (V : List Int) (hi : Rd w gi ai .u8 V) (bi : Byt V) (zi : ai = none → ci = 0) (q : Int)
    (gx : Nat) (ax : Option Addr) (cx : Nat) (xs : List Int) (hx : Rd w gx ax .u8 xs) (bx : Byt xs) (kx : xs.length ≤ cx) (lx : xs.length ≤ 1048576) (a1 a2 a3 a4 a5 a6 a7 : Addr)
    (h1 : Sen w 1 a1) (h2 : Sen w 5 a2) (h3 : Sen w 4 a3) (h4 : Sen w 6 a4) (h5 : Sen w 7 a5) (h6 : Sen w 2 a6) (h7 : Sen w 3 a7) :
    Calls Tryz.prog 35 #[.agg #[.slice ak K.length ck, .slice ai V.length ci], .int .i64 q, .slice ax xs.length cx] w fun e w' => Below w.heap.size w w' ∧
      ((upE a1 a2 a3 a4 a5 a6 a7 K V q xs = none ∧ ∃ ad cd, e = .returned (.tuple #[.agg #[.int .i64 (inK (upL K V q xs)), .slice ad (inD (upL K V q xs)).length cd], .nilIface]) ∧ RowB w' w.heap.size (.slice ad (inD (upL K V q xs)).length cd) (inD (upL K V q xs)))
       ∨ (∃ x, upE a1 a2 a3 a4 a5 a6 a7 K V q xs = some x ∧ e = .returned (.tuple #[.agg #[.int .i64 0, .slice none 0 0], erV x]))) := by
  obtain ⟨d1, hd1, hrow1⟩ := rowIp
  have NS := hide fun W (m : Below w.heap.size w W) => newSealed_any W ak K.length ck gi ai ci V (hi.up m) zi q (xs.length : Int) a2 a3 (h2.up m) (h3.up m)
  have OP := hide fun W (m : Below w.heap.size w W) gn an cn (hm : Rd W gn an .u8 (rnA V q)) (km : (rnA V q).length ≤ cn) => open_any W (xs.length : Int) gk ak ck K (hk.up m) bk kk gn an cn (rnA V q) hm (rnA_byt bi q) km gx ax cx xs (hx.up m) bx kx lx a4 (h4.up m)
  have UB : Byt (upL K V q xs) := opL_bytN bx
  have UL : (upL K V q xs).length ≤ 1048576 := Nat.le_trans (opL_len _ _ _ _) lx
  have RI := hide fun W (m : Below w.heap.size w W) g a c (h : Rd W g a .u8 (upL K V q xs)) (k : (upL K V q xs).length ≤ c) => readInside_any W g a c (upL K V q xs) h UB k UL a1 a5 a6 a7 (h1.up m) (h5.up m) (h6.up m) (h7.up m)
  have eU : Hid (upE a1 a2 a3 a4 a5 a6 a7 K V q xs = if K.length = 32 ∧ (rnA V q).length = 12 then (if 17 ≤ (xs.length : Int) ∧ (xs.length : Int) ≤ 2321 then (if opB K (rnA V q) (hdL 23 (xs.length : Int)) xs = true then riE a1 a5 a6 a7 (upL K V q xs) else some a4) else some a2) else some a3) := rfl
  have eL : Hid (opL K (rnA V q) (hdL 23 (xs.length : Int)) xs = upL K V q xs) := rfl
  simp only [eL.out] at OP
  generalize upE a1 a2 a3 a4 a5 a6 a7 K V q xs = U at *
  generalize riE a1 a5 a6 a7 (upL K V q xs) = E at *
  generalize inK (upL K V q xs) = IK at *
  generalize inD (upL K V q xs) = ID at *
  generalize upL K V q xs = L at *
  generalize opB K (rnA V q) (hdL 23 (xs.length : Int)) xs = t at *
  have n1 : Below w.heap.size w (w.alloc (.cells #[.slice ak K.length ck, .slice ai V.length ci] 24)) := (Below.refl _ _).alloc (Nat.le_refl _) _
  have B0 : RwC (w.alloc (.cells #[.slice ak K.length ck, .slice ai V.length ci] 24)) w.heap.size [.slice ak K.length ck, .slice ai V.length ci] 24 := RwC.new w _ _
  have z1 : (w.alloc (.cells #[.slice ak K.length ck, .slice ai V.length ci] 24)).heap.size = w.heap.size + 1 := by simp
  clear hk bk kk hi bi zi hx bx kx lx h1 h2 h3 h4 h5 h6 h7 UB UL eL
  go_enter Tryz.func35, Tryz.ntmps35
  go_upto_region 1 with fail
  generalize w.alloc (.cells #[.slice ak K.length ck, .slice ai V.length ci] 24) = wa at *
  have n2 : Below wa.heap.size wa (wa.alloc (.cells #[.int .i64 0, .slice none 0 0] 49)) := (Below.refl _ _).alloc (Nat.le_refl _) _
  have Z0 : RwC (wa.alloc (.cells #[.int .i64 0, .slice none 0 0] 49)) wa.heap.size [.int .i64 0, .slice none 0 0] 49 := RwC.new wa _ _
  replace B0 := B0.up n2
  have N := nxt n1 n2
  generalize wa.alloc (.cells #[.int .i64 0, .slice none 0 0] 49) = wb at *
  rw [z1] at Z0
  clear n1 n2 z1
  have lZ := Z0.lt
  have b0 := B0.c0
  have b1 := B0.c1
  go_wp2_with fail
  refine (NS.out wb N).mono ?_
  rintro e w1 ⟨m1, hc⟩
  have z1 := m1.size
  replace N := nxt N m1
  replace Z0 := Z0.up m1
  clear b0 b1 B0 NS m1
  rcases hc with ⟨g1, g2, g3, g4, an, cn, rfl, R1⟩ | ⟨hb, rfl⟩ | ⟨hg, hb, rfl⟩
  · obtain ⟨an', cn', gn, ev, D4, z4, k4, -⟩ := R1.rd
    simp only [Value.slice.injEq] at ev
    obtain ⟨rfl, -, rfl⟩ := ev
    have eU2 : Hid (U = if t = true then E else some a4) := by show _ = _; rw [eU.out, if_pos ⟨g1, g2⟩, if_pos ⟨g3, g4⟩]
    clear g1 g2 g3 g4 eU R1
    have n4 : Below w1.heap.size w1 (w1.alloc (.cells #[.int .i64 23, .int .i64 (xs.length : Int), .slice ak K.length ck, .slice an (rnA V q).length cn] 57)) := (Below.refl _ _).alloc (Nat.le_refl _) _
    have S0 : RwC (w1.alloc (.cells #[.int .i64 23, .int .i64 (xs.length : Int), .slice ak K.length ck, .slice an (rnA V q).length cn] 57)) w1.heap.size [.int .i64 23, .int .i64 (xs.length : Int), .slice ak K.length ck, .slice an (rnA V q).length cn] 57 := RwC.new w1 _ _
    replace N := nxt N n4
    replace Z0 := Z0.up n4
    have OP4 := hide (OP.out _ N gn an cn (D4.up n4) k4)
    have hn := nil_neq
    have s0 := S0.c0
    have s1 := S0.c1
    have s2 := S0.c2
    have s3 : (w1.alloc (.cells #[.int .i64 23, .int .i64 (xs.length : Int), .slice ak K.length ck, .slice an (rnA V q).length cn] 57)).cell? ⟨w1.heap.size, 3, none⟩ = some (.slice an (rnA V q).length cn) := S0.cell 3
    clear D4 OP n4
    go_wp2_with fail
    generalize w1.alloc (.cells #[.int .i64 23, .int .i64 (xs.length : Int), .slice ak K.length ck, .slice an (rnA V q).length cn] 57) = w2 at *
    refine OP4.out.mono ?_
    rintro e w3 ⟨m3, hc⟩
    replace N := nxt N m3
    replace Z0 := Z0.up m3
    clear s0 s1 s2 s3 S0 OP4 m3
    rcases hc with ⟨ht, a, c, g, rfl, o1, o2, o3⟩ | ⟨ht, rfl⟩
    · have eU3 : Hid (U = E) := by show _ = _; rw [eU2.out, if_pos ht]
      have RI5 := hide (RI.out w3 N g a c o1.rd o2)
      clear eU2 ht o1 RI
      go_wp2_with fail
      refine RI5.out.mono ?_
      rintro e w4 ⟨m4, hc⟩
      have N4 := nxt N m4
      have Z4 := Z0.up m4
      have zz := Z0.lt
      clear RI5 N Z0 m4
      rcases hc with ⟨hE, ad, cd, rfl, R4⟩ | ⟨x, hE, rfl⟩
      · have eU4 : Hid (U = none) := by show _ = _; rw [eU3.out, hE]
        clear eU3 hE
        have ZF : RwC ((w4.setCell ⟨w.heap.size + 1, 0, none⟩ (.int .i64 IK)).setCell ⟨w.heap.size + 1, 1, none⟩ (.slice ad ID.length cd)) (w.heap.size + 1) [.int .i64 IK, .slice ad ID.length cd] 49 := (Z4.set 0 _).set 1 _
        have OF : Only (w.heap.size + 1) w4 ((w4.setCell ⟨w.heap.size + 1, 0, none⟩ (.int .i64 IK)).setCell ⟨w.heap.size + 1, 1, none⟩ (.slice ad ID.length cd)) := (Only.setCell _ (w.heap.size + 1) 0 _).trans (Only.setCell _ (w.heap.size + 1) 1 _)
        have RR := ZF.rangeG
        have NF := N4.trans (OF.below (B := w.heap.size) (by omega))
        have x0 := Z4.c0
        have x1 := Z4.c1
        have f0 := Z4.free 0
        have f1 := Z4.free 1
        have R5 := R4.only OF (by omega)
        clear OF ZF R4
        go_wp2
        exact bodyPost_ret (v := .tuple #[.agg #[.int .i64 IK, .slice ad ID.length cd], .nilIface]) (results_twoN Tryz.results35 _ _ (w.heap.size + 1) [.int .i64 IK, .slice ad ID.length cd] d1 .nilIface rfl rfl RR hd1 hrow1 iIp) rfl ⟨NF, .inl ⟨eU4.out, ad, cd, rfl, R5.base (by omega)⟩⟩
      · have eU4 : Hid (U = some x) := by show _ = _; rw [eU3.out, hE]
        clear eU3 hE
        have ZF : RwC ((w4.setCell ⟨w.heap.size + 1, 0, none⟩ (.int .i64 0)).setCell ⟨w.heap.size + 1, 1, none⟩ (.slice none 0 0)) (w.heap.size + 1) [.int .i64 0, .slice none 0 0] 49 := (Z4.set 0 _).set 1 _
        have OF : Only (w.heap.size + 1) w4 ((w4.setCell ⟨w.heap.size + 1, 0, none⟩ (.int .i64 0)).setCell ⟨w.heap.size + 1, 1, none⟩ (.slice none 0 0)) := (Only.setCell _ (w.heap.size + 1) 0 _).trans (Only.setCell _ (w.heap.size + 1) 1 _)
        have RR := ZF.rangeG
        have NF := N4.trans (OF.below (B := w.heap.size) (by omega))
        have x0 := Z4.c0
        have x1 := Z4.c1
        have f0 := Z4.free 0
        have f1 := Z4.free 1
        have he := er_neq x
        clear OF ZF
        unfold erV
        go_wp2
        exact bodyPost_ret (v := .tuple #[.agg #[.int .i64 0, .slice none 0 0], erV x]) (results_twoN Tryz.results35 _ _ (w.heap.size + 1) [.int .i64 0, .slice none 0 0] d1 (erV x) rfl rfl RR hd1 hrow1 iIp) rfl ⟨NF, .inr ⟨x, eU4.out, rfl⟩⟩
    · have eU3 : Hid (U = some a4) := by show _ = _; rw [eU2.out, if_neg (by rw [ht]; simp)]
      clear eU2 ht RI
      have ZF : RwC ((w3.setCell ⟨w.heap.size + 1, 0, none⟩ (.int .i64 0)).setCell ⟨w.heap.size + 1, 1, none⟩ (.slice none 0 0)) (w.heap.size + 1) [.int .i64 0, .slice none 0 0] 49 := (Z0.set 0 _).set 1 _
      have OF : Only (w.heap.size + 1) w3 ((w3.setCell ⟨w.heap.size + 1, 0, none⟩ (.int .i64 0)).setCell ⟨w.heap.size + 1, 1, none⟩ (.slice none 0 0)) := (Only.setCell _ (w.heap.size + 1) 0 _).trans (Only.setCell _ (w.heap.size + 1) 1 _)
      have RR := ZF.rangeG
      have NF := N.trans (OF.below (B := w.heap.size) (by omega))
      have x0 := Z0.c0
      have x1 := Z0.c1
      have f0 := Z0.free 0
      have f1 := Z0.free 1
      have he := er_neq a4
      clear OF ZF
      unfold erV
      go_wp2
      exact bodyPost_ret (v := .tuple #[.agg #[.int .i64 0, .slice none 0 0], erV a4]) (results_twoN Tryz.results35 _ _ (w.heap.size + 1) [.int .i64 0, .slice none 0 0] d1 (erV a4) rfl rfl RR hd1 hrow1 iIp) rfl ⟨NF, .inr ⟨a4, eU3.out, rfl⟩⟩
  · have eU3 : Hid (U = some a3) := by show _ = _; rw [eU.out, if_neg hb]
    clear eU hb RI OP
    have n4 : Below w1.heap.size w1 (w1.alloc (.cells #[.int .i64 0, .int .i64 0, .slice none 0 0, .slice none 0 0] 57)) := (Below.refl _ _).alloc (Nat.le_refl _) _
    replace N := nxt N n4
    replace Z0 := Z0.up n4
    clear n4
    have he := er_neq a3
    unfold erV
    go_upto_region 3 with fail
    generalize w1.alloc (.cells #[.int .i64 0, .int .i64 0, .slice none 0 0, .slice none 0 0] 57) = w2 at *
    have ZF : RwC ((w2.setCell ⟨w.heap.size + 1, 0, none⟩ (.int .i64 0)).setCell ⟨w.heap.size + 1, 1, none⟩ (.slice none 0 0)) (w.heap.size + 1) [.int .i64 0, .slice none 0 0] 49 := (Z0.set 0 _).set 1 _
    have OF : Only (w.heap.size + 1) w2 ((w2.setCell ⟨w.heap.size + 1, 0, none⟩ (.int .i64 0)).setCell ⟨w.heap.size + 1, 1, none⟩ (.slice none 0 0)) := (Only.setCell _ (w.heap.size + 1) 0 _).trans (Only.setCell _ (w.heap.size + 1) 1 _)
    have RR := ZF.rangeG
    have NF := N.trans (OF.below (B := w.heap.size) (by omega))
    have x0 := Z0.c0
    have x1 := Z0.c1
    have f0 := Z0.free 0
    have f1 := Z0.free 1
    clear OF ZF
    go_wp2
    exact bodyPost_ret (v := .tuple #[.agg #[.int .i64 0, .slice none 0 0], erV a3]) (results_twoN Tryz.results35 _ _ (w.heap.size + 1) [.int .i64 0, .slice none 0 0] d1 (erV a3) rfl rfl RR hd1 hrow1 iIp) rfl ⟨NF, .inr ⟨a3, eU3.out, rfl⟩⟩
  · have eU3 : Hid (U = some a2) := by show _ = _; rw [eU.out, if_pos hg, if_neg hb]
    clear eU hb hg RI OP
    have n4 : Below w1.heap.size w1 (w1.alloc (.cells #[.int .i64 0, .int .i64 0, .slice none 0 0, .slice none 0 0] 57)) := (Below.refl _ _).alloc (Nat.le_refl _) _
    replace N := nxt N n4
    replace Z0 := Z0.up n4
    clear n4
    have he := er_neq a2
    unfold erV
    go_upto_region 3 with fail
    generalize w1.alloc (.cells #[.int .i64 0, .int .i64 0, .slice none 0 0, .slice none 0 0] 57) = w2 at *
    have ZF : RwC ((w2.setCell ⟨w.heap.size + 1, 0, none⟩ (.int .i64 0)).setCell ⟨w.heap.size + 1, 1, none⟩ (.slice none 0 0)) (w.heap.size + 1) [.int .i64 0, .slice none 0 0] 49 := (Z0.set 0 _).set 1 _
    have OF : Only (w.heap.size + 1) w2 ((w2.setCell ⟨w.heap.size + 1, 0, none⟩ (.int .i64 0)).setCell ⟨w.heap.size + 1, 1, none⟩ (.slice none 0 0)) := (Only.setCell _ (w.heap.size + 1) 0 _).trans (Only.setCell _ (w.heap.size + 1) 1 _)
    have RR := ZF.rangeG
    have NF := N.trans (OF.below (B := w.heap.size) (by omega))
    have x0 := Z0.c0
    have x1 := Z0.c1
    have f0 := Z0.free 0
    have f1 := Z0.free 1
    clear OF ZF
    go_wp2
    exact bodyPost_ret (v := .tuple #[.agg #[.int .i64 0, .slice none 0 0], erV a2]) (results_twoN Tryz.results35 _ _ (w.heap.size + 1) [.int .i64 0, .slice none 0 0] d1 (erV a2) rfl rfl RR hd1 hrow1 iIp) rfl ⟨NF, .inr ⟨a2, eU3.out, rfl⟩⟩
end Go.Proofs.YtjfggcefdobooaaGreatDoor
namespace Go.Proofs.YtjfggcefdobooaaGreatDoor
set_option maxRecDepth 100000
open Go Go.RowKit Go.Extern.Stop Go.Stop Go.Extern
theorem er_typeOf (v : Value) (w : World) : (Extern.ReflectliteType.typeOf #[.iface 175 v]).run Tryz.prog w = .ok (.iface 107 (.agg #[.pointer (some ⟨10, 175, none⟩)])) w := by kernel_rfl
theorem er_comparable (w : World) : (callFunc 135 #[.agg #[.pointer (some ⟨10, 175, none⟩)]]).run Tryz.prog w = .ok (.value (.bool true)) w := by
  rw [@run_callFunc_extern Tryz.prog 135 _ (Extern.ReflectliteType.method fun t => do Extern.Rtype.noPackHeld "Comparable" t; pure (.bool (← typeInfo t).comparable)) Tryz.func135 (by kernel_rfl) (by kernel_rfl) (by kernel_rfl) (by kernel_rfl)]
  kernel_rfl
theorem er_method (v : Value) (w : World) : (Go.method 312 107 v "Comparable").run Tryz.prog w = .ok (135, v) w := by kernel_rfl
theorem er_comp : (Tryz.prog.info? 175).map (·.comparable) = some true := by kernel_rfl
theorem er_size : (Tryz.prog.info? 200).map (·.size) = some 1 := by kernel_rfl
theorem er_noIs (v : Value) (xT : TypeId) (w : World) : (Instr.typeAssert (.iface 175 v) xT 109 true).run Tryz.prog w = .ok (.tuple #[.nilIface, .bool false]) w := run_typeAssert_lacksB Tryz.underlying109 (by kernel_rfl) (by kernel_rfl) v xT w
theorem er_noUnwrap (v : Value) (xT : TypeId) (w : World) : (Instr.typeAssert (.iface 175 v) xT 112 true).run Tryz.prog w = .ok (.tuple #[.nilIface, .bool false]) w := run_typeAssert_lacksB Tryz.underlying112 (by kernel_rfl) (by kernel_rfl) v xT w
theorem er_noUnwraps (v : Value) (xT : TypeId) (w : World) : (Instr.typeAssert (.iface 175 v) xT 113 true).run Tryz.prog w = .ok (.tuple #[.nilIface, .bool false]) w := run_typeAssert_lacksB Tryz.underlying113 (by kernel_rfl) (by kernel_rfl) v xT w
theorem is_same (a : Addr) (w : World) : Calls Tryz.prog 32 #[erV a, erV a] w fun e w' => e = .returned (.bool true) ∧ w' = w := by
  unfold erV
  obtain ⟨i, hi, hcmp⟩ := Option.map_eq_some_iff.1 er_comp
  obtain ⟨j, hj, hjs⟩ := Option.map_eq_some_iff.1 er_size
  have h8 := @run_callFunc_extern Tryz.prog 51 _ Extern.ReflectliteType.typeOf Tryz.func51 (by kernel_rfl) (by kernel_rfl) (by kernel_rfl) (by kernel_rfl)
  have tT := er_typeOf
  have cT := er_comparable
  have mR := er_method
  have heq := run_eql_iface_ptr_same (P := Tryz.prog) w a Tryz.underlying51 Tryz.underlying175 hi hcmp hj
  go_enter Tryz.func32, Tryz.ntmps32
  go_wp2
  refine wp_loop_rounds 1 ?_
  rw [rounds_succ]
  go_wp2
  go_ret
  exact ⟨rfl, rfl⟩
theorem is_nil (b : Addr) (w : World) : Calls Tryz.prog 32 #[.nilIface, erV b] w fun e w' => e = .returned (.bool false) ∧ w' = w := by
  unfold erV
  have hn := run_eql_iface_nil_left (P := Tryz.prog) w 175 (.pointer (some b)) Tryz.underlying51
  go_enter Tryz.func32, Tryz.ntmps32
  go_wp2
  go_ret
  exact ⟨rfl, rfl⟩
theorem is_other (a b : Addr) (w : World) (hne : a ≠ b) (ha : ∃ ca ta, w.heap[a.block]? = some (.cells ca ta (0, 0))) (hb : ∃ cb tb, w.heap[b.block]? = some (.cells cb tb (0, 0))) : Calls Tryz.prog 32 #[erV a, erV b] w fun e w' => e = .returned (.bool false) ∧ w' = w := by
  unfold erV
  obtain ⟨ca, ta, ha⟩ := ha
  obtain ⟨cb, tb, hb⟩ := hb
  obtain ⟨i, hi, hcmp⟩ := Option.map_eq_some_iff.1 er_comp
  obtain ⟨j, hj, hjs⟩ := Option.map_eq_some_iff.1 er_size
  have h8 := @run_callFunc_extern Tryz.prog 51 _ Extern.ReflectliteType.typeOf Tryz.func51 (by kernel_rfl) (by kernel_rfl) (by kernel_rfl) (by kernel_rfl)
  have tT := er_typeOf
  have cT := er_comparable
  have mR := er_method
  have nE := er_noIs
  have uE := er_noUnwrap
  have vE := er_noUnwraps
  have heq := run_eql_iface_ptr_other (P := Tryz.prog) w Tryz.underlying51 Tryz.underlying175 hi hcmp hj (by rw [hjs]; decide) hne ha hb
  go_enter Tryz.func32, Tryz.ntmps32
  go_wp2
  refine wp_loop_rounds 1 ?_
  rw [rounds_succ]
  go_wp2
  go_ret
  exact ⟨rfl, rfl⟩
theorem isErr_any (x : Option Addr) (b : Addr) (w : World) (hx : ∀ a, x = some a → ∃ ca ta, w.heap[a.block]? = some (.cells ca ta (0, 0))) (hb : ∃ cb tb, w.heap[b.block]? = some (.cells cb tb (0, 0))) :
    Calls Tryz.prog 32 #[x.elim .nilIface erV, erV b] w fun e w' => e = .returned (.bool (decide (x = some b))) ∧ w' = w := by
  cases x with
  | none => exact (is_nil b w).mono (by rintro e w' ⟨rfl, rfl⟩; exact ⟨by simp, rfl⟩)
  | some a =>
    by_cases h : a = b
    · subst h
      exact (is_same a w).mono (by rintro e w' ⟨rfl, rfl⟩; exact ⟨by simp, rfl⟩)
    · exact (is_other a b w h (hx a rfl) hb).mono (by rintro e w' ⟨rfl, rfl⟩; exact ⟨by simp [h], rfl⟩)
end Go.Proofs.YtjfggcefdobooaaGreatDoor
namespace Go.Proofs.YtjfggcefdobooaaGreatDoor
set_option maxRecDepth 100000
open Go Go.RowKit
def ocN (a1 a2 a3 a4 a5 a6 a7 : Addr) (x : Option Addr) : Int :=
  if x = some a3 then 1 else if x = some a2 then 1 else if x = some a4 then 2 else if x = some a5 then 3 else if x = some a1 then 4 else if x = some a6 then 5 else if x = some a7 then 6 else 0
set_option maxHeartbeats 4000000 in
theorem openCode_any (w : World) (x : Option Addr) (a1 a2 a3 a4 a5 a6 a7 : Addr) (hx : ∀ a, x = some a → ∃ ca ta, w.heap[a.block]? = some (.cells ca ta (0, 0)))
    (h1 : Sen w 1 a1) (h2 : Sen w 5 a2) (h3 : Sen w 4 a3) (h4 : Sen w 6 a4) (h5 : Sen w 7 a5) (h6 : Sen w 2 a6) (h7 : Sen w 3 a7) :
    Calls Tryz.prog 36 #[x.elim .nilIface erV] w fun e w' => e = .returned (.int .i64 (ocN a1 a2 a3 a4 a5 a6 a7 x)) ∧ w' = w := by
  have I0 := hide (isErr_any x a3 w hx h3.b)
  have c0 := h3.c
  have I1 := hide (isErr_any x a2 w hx h2.b)
  have c1 := h2.c
  have I2 := hide (isErr_any x a4 w hx h4.b)
  have c2 := h4.c
  have I3 := hide (isErr_any x a5 w hx h5.b)
  have c3 := h5.c
  have I4 := hide (isErr_any x a1 w hx h1.b)
  have c4 := h1.c
  have I5 := hide (isErr_any x a6 w hx h6.b)
  have c5 := h6.c
  have I6 := hide (isErr_any x a7 w hx h7.b)
  have c6 := h7.c
  have HH : True := trivial
  obtain ⟨v, hv⟩ : ∃ v, v = x.elim .nilIface erV := ⟨_, rfl⟩
  rw [← hv] at I0 I1 I2 I3 I4 I5 I6 ⊢
  clear h1 h2 h3 h4 h5 h6 h7
  unfold erV at c0 c1 c2 c3 c4 c5 c6 I0 I1 I2 I3 I4 I5 I6
  by_cases q0 : x = some a3
  · rw [decide_eq_true q0] at I0
    have e : Hid (ocN a1 a2 a3 a4 a5 a6 a7 x = 1) := by show _ = _; unfold ocN; rw [if_pos q0]
    generalize ocN a1 a2 a3 a4 a5 a6 a7 x = o at *
    clear q0 hx HH hv
    go_enter Tryz.func36, Tryz.ntmps36
    go_wp2_with fail
    refine I0.out.mono ?_
    rintro e w' ⟨rfl, hw⟩
    have hw := hw.symm
    subst hw
    go_wp2
    go_ret
    exact ⟨by rw [e.out]; rfl, rfl⟩
  rw [decide_eq_false q0] at I0
  by_cases q1 : x = some a2
  · rw [decide_eq_true q1] at I1
    have e : Hid (ocN a1 a2 a3 a4 a5 a6 a7 x = 1) := by show _ = _; unfold ocN; rw [if_neg q0]; rw [if_pos q1]
    generalize ocN a1 a2 a3 a4 a5 a6 a7 x = o at *
    clear q0 q1 hx HH hv
    go_enter Tryz.func36, Tryz.ntmps36
    go_wp2_with fail
    refine I0.out.mono ?_
    rintro e w' ⟨rfl, hw⟩
    have hw := hw.symm
    subst hw
    go_wp2_with fail
    refine I1.out.mono ?_
    rintro e w' ⟨rfl, hw⟩
    have hw := hw.symm
    subst hw
    go_wp2
    go_ret
    exact ⟨by rw [e.out]; rfl, rfl⟩
  rw [decide_eq_false q1] at I1
  by_cases q2 : x = some a4
  · rw [decide_eq_true q2] at I2
    have e : Hid (ocN a1 a2 a3 a4 a5 a6 a7 x = 2) := by show _ = _; unfold ocN; rw [if_neg q0]; rw [if_neg q1]; rw [if_pos q2]
    generalize ocN a1 a2 a3 a4 a5 a6 a7 x = o at *
    clear q0 q1 q2 hx HH hv
    go_enter Tryz.func36, Tryz.ntmps36
    go_wp2_with fail
    refine I0.out.mono ?_
    rintro e w' ⟨rfl, hw⟩
    have hw := hw.symm
    subst hw
    go_wp2_with fail
    refine I1.out.mono ?_
    rintro e w' ⟨rfl, hw⟩
    have hw := hw.symm
    subst hw
    go_wp2_with fail
    refine I2.out.mono ?_
    rintro e w' ⟨rfl, hw⟩
    have hw := hw.symm
    subst hw
    go_wp2
    go_ret
    exact ⟨by rw [e.out]; rfl, rfl⟩
  rw [decide_eq_false q2] at I2
  by_cases q3 : x = some a5
  · rw [decide_eq_true q3] at I3
    have e : Hid (ocN a1 a2 a3 a4 a5 a6 a7 x = 3) := by show _ = _; unfold ocN; rw [if_neg q0]; rw [if_neg q1]; rw [if_neg q2]; rw [if_pos q3]
    generalize ocN a1 a2 a3 a4 a5 a6 a7 x = o at *
    clear q0 q1 q2 q3 hx HH hv
    go_enter Tryz.func36, Tryz.ntmps36
    go_wp2_with fail
    refine I0.out.mono ?_
    rintro e w' ⟨rfl, hw⟩
    have hw := hw.symm
    subst hw
    go_wp2_with fail
    refine I1.out.mono ?_
    rintro e w' ⟨rfl, hw⟩
    have hw := hw.symm
    subst hw
    go_wp2_with fail
    refine I2.out.mono ?_
    rintro e w' ⟨rfl, hw⟩
    have hw := hw.symm
    subst hw
    go_wp2_with fail
    refine I3.out.mono ?_
    rintro e w' ⟨rfl, hw⟩
    have hw := hw.symm
    subst hw
    go_wp2
    go_ret
    exact ⟨by rw [e.out]; rfl, rfl⟩
  rw [decide_eq_false q3] at I3
  by_cases q4 : x = some a1
  · rw [decide_eq_true q4] at I4
    have e : Hid (ocN a1 a2 a3 a4 a5 a6 a7 x = 4) := by show _ = _; unfold ocN; rw [if_neg q0]; rw [if_neg q1]; rw [if_neg q2]; rw [if_neg q3]; rw [if_pos q4]
    generalize ocN a1 a2 a3 a4 a5 a6 a7 x = o at *
    clear q0 q1 q2 q3 q4 hx HH hv
    go_enter Tryz.func36, Tryz.ntmps36
    go_wp2_with fail
    refine I0.out.mono ?_
    rintro e w' ⟨rfl, hw⟩
    have hw := hw.symm
    subst hw
    go_wp2_with fail
    refine I1.out.mono ?_
    rintro e w' ⟨rfl, hw⟩
    have hw := hw.symm
    subst hw
    go_wp2_with fail
    refine I2.out.mono ?_
    rintro e w' ⟨rfl, hw⟩
    have hw := hw.symm
    subst hw
    go_wp2_with fail
    refine I3.out.mono ?_
    rintro e w' ⟨rfl, hw⟩
    have hw := hw.symm
    subst hw
    go_wp2_with fail
    refine I4.out.mono ?_
    rintro e w' ⟨rfl, hw⟩
    have hw := hw.symm
    subst hw
    go_wp2
    go_ret
    exact ⟨by rw [e.out]; rfl, rfl⟩
  rw [decide_eq_false q4] at I4
  by_cases q5 : x = some a6
  · rw [decide_eq_true q5] at I5
    have e : Hid (ocN a1 a2 a3 a4 a5 a6 a7 x = 5) := by show _ = _; unfold ocN; rw [if_neg q0]; rw [if_neg q1]; rw [if_neg q2]; rw [if_neg q3]; rw [if_neg q4]; rw [if_pos q5]
    generalize ocN a1 a2 a3 a4 a5 a6 a7 x = o at *
    clear q0 q1 q2 q3 q4 q5 hx HH hv
    go_enter Tryz.func36, Tryz.ntmps36
    go_wp2_with fail
    refine I0.out.mono ?_
    rintro e w' ⟨rfl, hw⟩
    have hw := hw.symm
    subst hw
    go_wp2_with fail
    refine I1.out.mono ?_
    rintro e w' ⟨rfl, hw⟩
    have hw := hw.symm
    subst hw
    go_wp2_with fail
    refine I2.out.mono ?_
    rintro e w' ⟨rfl, hw⟩
    have hw := hw.symm
    subst hw
    go_wp2_with fail
    refine I3.out.mono ?_
    rintro e w' ⟨rfl, hw⟩
    have hw := hw.symm
    subst hw
    go_wp2_with fail
    refine I4.out.mono ?_
    rintro e w' ⟨rfl, hw⟩
    have hw := hw.symm
    subst hw
    go_wp2_with fail
    refine I5.out.mono ?_
    rintro e w' ⟨rfl, hw⟩
    have hw := hw.symm
    subst hw
    go_wp2
    go_ret
    exact ⟨by rw [e.out]; rfl, rfl⟩
  rw [decide_eq_false q5] at I5
  by_cases q6 : x = some a7
  · rw [decide_eq_true q6] at I6
    have e : Hid (ocN a1 a2 a3 a4 a5 a6 a7 x = 6) := by show _ = _; unfold ocN; rw [if_neg q0]; rw [if_neg q1]; rw [if_neg q2]; rw [if_neg q3]; rw [if_neg q4]; rw [if_neg q5]; rw [if_pos q6]
    generalize ocN a1 a2 a3 a4 a5 a6 a7 x = o at *
    clear q0 q1 q2 q3 q4 q5 q6 hx HH hv
    go_enter Tryz.func36, Tryz.ntmps36
    go_wp2_with fail
    refine I0.out.mono ?_
    rintro e w' ⟨rfl, hw⟩
    have hw := hw.symm
    subst hw
    go_wp2_with fail
    refine I1.out.mono ?_
    rintro e w' ⟨rfl, hw⟩
    have hw := hw.symm
    subst hw
    go_wp2_with fail
    refine I2.out.mono ?_
    rintro e w' ⟨rfl, hw⟩
    have hw := hw.symm
    subst hw
    go_wp2_with fail
    refine I3.out.mono ?_
    rintro e w' ⟨rfl, hw⟩
    have hw := hw.symm
    subst hw
    go_wp2_with fail
    refine I4.out.mono ?_
    rintro e w' ⟨rfl, hw⟩
    have hw := hw.symm
    subst hw
    go_wp2_with fail
    refine I5.out.mono ?_
    rintro e w' ⟨rfl, hw⟩
    have hw := hw.symm
    subst hw
    go_wp2_with fail
    refine I6.out.mono ?_
    rintro e w' ⟨rfl, hw⟩
    have hw := hw.symm
    subst hw
    go_wp2
    go_ret
    exact ⟨by rw [e.out]; rfl, rfl⟩
  rw [decide_eq_false q6] at I6
  have e : Hid (ocN a1 a2 a3 a4 a5 a6 a7 x = 0) := by show _ = _; unfold ocN; rw [if_neg q0]; rw [if_neg q1]; rw [if_neg q2]; rw [if_neg q3]; rw [if_neg q4]; rw [if_neg q5]; rw [if_neg q6]
  generalize ocN a1 a2 a3 a4 a5 a6 a7 x = o at *
  clear q0 q1 q2 q3 q4 q5 q6 hx HH hv
  go_enter Tryz.func36, Tryz.ntmps36
  go_wp2_with fail
  refine I0.out.mono ?_
  rintro e w' ⟨rfl, hw⟩
  have hw := hw.symm
  subst hw
  go_wp2_with fail
  refine I1.out.mono ?_
  rintro e w' ⟨rfl, hw⟩
  have hw := hw.symm
  subst hw
  go_wp2_with fail
  refine I2.out.mono ?_
  rintro e w' ⟨rfl, hw⟩
  have hw := hw.symm
  subst hw
  go_wp2_with fail
  refine I3.out.mono ?_
  rintro e w' ⟨rfl, hw⟩
  have hw := hw.symm
  subst hw
  go_wp2_with fail
  refine I4.out.mono ?_
  rintro e w' ⟨rfl, hw⟩
  have hw := hw.symm
  subst hw
  go_wp2_with fail
  refine I5.out.mono ?_
  rintro e w' ⟨rfl, hw⟩
  have hw := hw.symm
  subst hw
  go_wp2_with fail
  refine I6.out.mono ?_
  rintro e w' ⟨rfl, hw⟩
  have hw := hw.symm
  subst hw
  go_wp2
  go_ret
  exact ⟨by rw [e.out]; rfl, rfl⟩
end Go.Proofs.YtjfggcefdobooaaGreatDoor
namespace Go.Proofs.YtjfggcefdobooaaGreatDoor
set_option maxRecDepth 100000
open Go Go.RowKit
def riN (xs : List Int) : Int := if tz xs xs.length = 0 then 3 else if isK (inK xs) = true then (if 2048 < (inD xs).length then 5 else if (inD xs).length = 0 ∧ inK xs ≠ 23 then 6 else 0) else 4
def upN (K V : List Int) (q : Int) (xs : List Int) : Int :=
  if K.length = 32 ∧ (rnA V q).length = 12 then (if 17 ≤ (xs.length : Int) ∧ (xs.length : Int) ≤ 2321 then (if opB K (rnA V q) (hdL 23 (xs.length : Int)) xs = true then riN (upL K V q xs) else 2) else 1) else 1
def upK (K V : List Int) (q : Int) (xs : List Int) : Int := if upN K V q xs = 0 then inK (upL K V q xs) else 0
def upD (K V : List Int) (q : Int) (xs : List Int) : List Int := if upN K V q xs = 0 then inD (upL K V q xs) else []
def Dst (a1 a2 a3 a4 a5 a6 a7 : Addr) : Prop := (a1 ≠ a2 ∧ a1 ≠ a3 ∧ a1 ≠ a4 ∧ a1 ≠ a5 ∧ a1 ≠ a6 ∧ a1 ≠ a7) ∧ (a2 ≠ a3 ∧ a2 ≠ a4 ∧ a2 ≠ a5 ∧ a2 ≠ a6 ∧ a2 ≠ a7) ∧ (a3 ≠ a4 ∧ a3 ≠ a5 ∧ a3 ≠ a6 ∧ a3 ≠ a7) ∧ (a4 ≠ a5 ∧ a4 ≠ a6 ∧ a4 ≠ a7) ∧ (a5 ≠ a6 ∧ a5 ≠ a7) ∧ a6 ≠ a7
theorem code_gen {a1 a2 a3 a4 a5 a6 a7 : Addr} (h : Dst a1 a2 a3 a4 a5 a6 a7) (p1 p2 p3 p4 p5 p6 : Prop) [Decidable p1] [Decidable p2] [Decidable p3] [Decidable p4] [Decidable p5] [Decidable p6] (t : Bool) :
    ocN a1 a2 a3 a4 a5 a6 a7 (if p1 then (if p2 then (if t = true then (if p3 then some a5 else if p4 then (if p5 then some a6 else if p6 then some a7 else none) else some a1) else some a4) else some a2) else some a3) = (if p1 then (if p2 then (if t = true then (if p3 then (3 : Int) else if p4 then (if p5 then 5 else if p6 then 6 else 0) else 4) else 2) else 1) else 1) ∧ ((if p1 then (if p2 then (if t = true then (if p3 then some a5 else if p4 then (if p5 then some a6 else if p6 then some a7 else none) else some a1) else some a4) else some a2) else some a3) = none ↔ (if p1 then (if p2 then (if t = true then (if p3 then (3 : Int) else if p4 then (if p5 then 5 else if p6 then 6 else 0) else 4) else 2) else 1) else 1) = 0) := by
  obtain ⟨⟨h12, h13, h14, h15, h16, h17⟩, ⟨h23, h24, h25, h26, h27⟩, ⟨h34, h35, h36, h37⟩, ⟨h45, h46, h47⟩, ⟨h56, h57⟩, h67⟩ := h
  have E3 : ocN a1 a2 a3 a4 a5 a6 a7 (some a3) = 1 := by unfold ocN; rw [if_pos rfl]
  have E2 : ocN a1 a2 a3 a4 a5 a6 a7 (some a2) = 1 := by unfold ocN; rw [if_neg (fun e => h23 (Option.some.inj e))]; rw [if_pos rfl]
  have E4 : ocN a1 a2 a3 a4 a5 a6 a7 (some a4) = 2 := by unfold ocN; rw [if_neg (fun e => (Ne.symm h34) (Option.some.inj e))]; rw [if_neg (fun e => (Ne.symm h24) (Option.some.inj e))]; rw [if_pos rfl]
  have E5 : ocN a1 a2 a3 a4 a5 a6 a7 (some a5) = 3 := by unfold ocN; rw [if_neg (fun e => (Ne.symm h35) (Option.some.inj e))]; rw [if_neg (fun e => (Ne.symm h25) (Option.some.inj e))]; rw [if_neg (fun e => (Ne.symm h45) (Option.some.inj e))]; rw [if_pos rfl]
  have E1 : ocN a1 a2 a3 a4 a5 a6 a7 (some a1) = 4 := by unfold ocN; rw [if_neg (fun e => h13 (Option.some.inj e))]; rw [if_neg (fun e => h12 (Option.some.inj e))]; rw [if_neg (fun e => h14 (Option.some.inj e))]; rw [if_neg (fun e => h15 (Option.some.inj e))]; rw [if_pos rfl]
  have E6 : ocN a1 a2 a3 a4 a5 a6 a7 (some a6) = 5 := by unfold ocN; rw [if_neg (fun e => (Ne.symm h36) (Option.some.inj e))]; rw [if_neg (fun e => (Ne.symm h26) (Option.some.inj e))]; rw [if_neg (fun e => (Ne.symm h46) (Option.some.inj e))]; rw [if_neg (fun e => (Ne.symm h56) (Option.some.inj e))]; rw [if_neg (fun e => (Ne.symm h16) (Option.some.inj e))]; rw [if_pos rfl]
  have E7 : ocN a1 a2 a3 a4 a5 a6 a7 (some a7) = 6 := by unfold ocN; rw [if_neg (fun e => (Ne.symm h37) (Option.some.inj e))]; rw [if_neg (fun e => (Ne.symm h27) (Option.some.inj e))]; rw [if_neg (fun e => (Ne.symm h47) (Option.some.inj e))]; rw [if_neg (fun e => (Ne.symm h57) (Option.some.inj e))]; rw [if_neg (fun e => (Ne.symm h17) (Option.some.inj e))]; rw [if_neg (fun e => (Ne.symm h67) (Option.some.inj e))]; rw [if_pos rfl]
  have E0 : ocN a1 a2 a3 a4 a5 a6 a7 none = 0 := by unfold ocN; simp
  by_cases q1 : p1
  · by_cases q2 : p2
    · cases t
      · simp [q1, q2, E4]
      · by_cases q3 : p3
        · simp [q1, q2, q3, E5]
        · by_cases q4 : p4
          · by_cases q5 : p5
            · simp [q1, q2, q3, q4, q5, E6]
            · by_cases q6 : p6
              · simp [q1, q2, q3, q4, q5, q6, E7]
              · simp [q1, q2, q3, q4, q5, q6, E0]
          · simp [q1, q2, q3, q4, E1]
    · simp [q1, q2, E2]
  · simp [q1, E3]
theorem code_of {a1 a2 a3 a4 a5 a6 a7 : Addr} (h : Dst a1 a2 a3 a4 a5 a6 a7) (K V : List Int) (q : Int) (xs : List Int) :
    ocN a1 a2 a3 a4 a5 a6 a7 (upE a1 a2 a3 a4 a5 a6 a7 K V q xs) = upN K V q xs ∧ (upE a1 a2 a3 a4 a5 a6 a7 K V q xs = none ↔ upN K V q xs = 0) := by
  unfold upE upN riE riN
  exact code_gen h _ _ _ _ _ _ _
theorem iOd : (Tryz.prog.info? 37).map (·.size) = some 3 := by kernel_rfl
theorem rowOd : ∃ d, Tryz.prog.underlying 37 = some d ∧ d.isRow = true := ⟨_, Tryz.underlying37, rfl⟩
theorem oneOd (c k : Int) (a : Option Addr) (n m : Nat) : ([.int .i64 c, .int .i64 k, .slice a n m] : List Value).toArray.all (·.oneCell') = true := all_oneCell_toArray fun v hv => by
  simp only [List.mem_cons, List.not_mem_nil, or_false] at hv
  rcases hv with rfl | rfl | rfl
  all_goals rfl
set_option maxHeartbeats 8000000 in
theorem implUnprotect_any (w : World) (gk : Nat) (ak : Option Addr) (ck : Nat) (K : List Int) (hk : Rd w gk ak .u8 K) (bk : Byt K) (kk : K.length ≤ ck) (gi : Nat) (ai : Option Addr) (ci : Nat) (V : List Int) (hi : Rd w gi ai .u8 V) (bi : Byt V) (zi : ai = none → ci = 0) (q : Int)
    (gx : Nat) (ax : Option Addr) (cx : Nat) (xs : List Int) (hx : Rd w gx ax .u8 xs) (bx : Byt xs) (kx : xs.length ≤ cx) (lx : xs.length ≤ 1048576) (a1 a2 a3 a4 a5 a6 a7 : Addr)
    (h1 : Sen w 1 a1) (h2 : Sen w 5 a2) (h3 : Sen w 4 a3) (h4 : Sen w 6 a4) (h5 : Sen w 7 a5) (h6 : Sen w 2 a6) (h7 : Sen w 3 a7) (hD : Dst a1 a2 a3 a4 a5 a6 a7) :
    Calls Tryz.prog 10 #[.agg #[.slice ak K.length ck, .slice ai V.length ci], .int .i64 q, .slice ax xs.length cx] w fun e w' => (∃ a c g, e = .returned (.agg #[.int .i64 (upN K V q xs), .int .i64 (upK K V q xs), .slice a (upD K V q xs).length c]) ∧ Own w' g a .u8 (upD K V q xs) ∧ (a = none → c = 0) ∧ (upD K V q xs).length ≤ c ∧ w.heap.size ≤ g) ∧ Below w.heap.size w w' := by
  obtain ⟨d1, hd1, hrow1⟩ := rowOd
  have OR := hide fun W (m : Below w.heap.size w W) => openRecord_any W gk ak ck K (hk.up m) bk kk gi ai ci V (hi.up m) bi zi q gx ax cx xs (hx.up m) bx kx lx a1 a2 a3 a4 a5 a6 a7 (h1.up m) (h2.up m) (h3.up m) (h4.up m) (h5.up m) (h6.up m) (h7.up m)
  obtain ⟨E1, E2⟩ := code_of hD K V q xs
  have hb : ∀ a, upE a1 a2 a3 a4 a5 a6 a7 K V q xs = some a → ∃ ca ta, w.heap[a.block]? = some (.cells ca ta (0, 0)) := by
    intro a
    unfold upE riE
    intro h
    split at h
    · split at h
      · split at h
        · split at h
          · cases h; exact h5.b
          · split at h
            · split at h
              · cases h; exact h6.b
              · split at h
                · cases h; exact h7.b
                · cases h
            · cases h; exact h1.b
        · cases h; exact h4.b
      · cases h; exact h2.b
    · cases h; exact h3.b
  have OC := hide fun W (m : Below w.heap.size w W) => openCode_any W (upE a1 a2 a3 a4 a5 a6 a7 K V q xs) a1 a2 a3 a4 a5 a6 a7 (fun a e => by
    obtain ⟨ca, ta, hh⟩ := hb a e
    exact ⟨ca, ta, (m.block a.block (Array.getElem?_eq_some_iff.1 hh).1).trans hh⟩) (h1.up m) (h2.up m) (h3.up m) (h4.up m) (h5.up m) (h6.up m) (h7.up m)
  rw [E1] at OC
  have eK : Hid (upK K V q xs = if upN K V q xs = 0 then inK (upL K V q xs) else 0) := rfl
  have eD : Hid (upD K V q xs = if upN K V q xs = 0 then inD (upL K V q xs) else []) := rfl
  clear hk bk kk hi bi zi hx bx kx lx h1 h2 h3 h4 h5 h6 h7 hD E1 hb
  generalize upK K V q xs = KD at *
  generalize upD K V q xs = DD at *
  generalize inK (upL K V q xs) = IK at *
  generalize inD (upL K V q xs) = ID at *
  generalize upN K V q xs = CD at *
  generalize upE a1 a2 a3 a4 a5 a6 a7 K V q xs = U at *
  have n1 : Below w.heap.size w (w.alloc (.cells #[.slice ak K.length ck, .slice ai V.length ci] 24)) := (Below.refl _ _).alloc (Nat.le_refl _) _
  have B0 : RwC (w.alloc (.cells #[.slice ak K.length ck, .slice ai V.length ci] 24)) w.heap.size [.slice ak K.length ck, .slice ai V.length ci] 24 := RwC.new w _ _
  have z1 : (w.alloc (.cells #[.slice ak K.length ck, .slice ai V.length ci] 24)).heap.size = w.heap.size + 1 := by simp
  go_enter Tryz.func10, Tryz.ntmps10
  go_upto_region 1 with fail
  generalize w.alloc (.cells #[.slice ak K.length ck, .slice ai V.length ci] 24) = wa at *
  have n2 : Below wa.heap.size wa (wa.alloc (.cells #[.int .i64 0, .int .i64 0, .slice none 0 0] 37)) := (Below.refl _ _).alloc (Nat.le_refl _) _
  have Z0 : RwC (wa.alloc (.cells #[.int .i64 0, .int .i64 0, .slice none 0 0] 37)) wa.heap.size [.int .i64 0, .int .i64 0, .slice none 0 0] 37 := RwC.new wa _ _
  replace B0 := B0.up n2
  have N := nxt n1 n2
  generalize wa.alloc (.cells #[.int .i64 0, .int .i64 0, .slice none 0 0] 37) = wb at *
  rw [z1] at Z0
  clear n1 n2 z1
  have lZ := Z0.lt
  have b0 := B0.c0
  have b1 := B0.c1
  go_wp2_with fail
  refine (OR.out wb N).mono ?_
  rintro e w1 ⟨m1, hc⟩
  have zm := m1.size
  replace N := nxt N m1
  replace Z0 := Z0.up m1
  have key : ∃ ad cd, e = .returned (.tuple #[.agg #[.int .i64 KD, .slice ad DD.length cd], U.elim .nilIface erV]) ∧ RowB w1 wb.heap.size (.slice ad DD.length cd) DD := by
    rcases hc with ⟨hU, ad, cd, rfl, R⟩ | ⟨x, hU, rfl⟩
    · have h0 := E2.1 hU
      rw [eK.out, eD.out, if_pos h0, if_pos h0, hU]
      exact ⟨ad, cd, rfl, R⟩
    · have h0 : ¬ CD = 0 := fun h => by have := E2.2 h; rw [hU] at this; cases this
      rw [eK.out, eD.out, if_neg h0, if_neg h0, hU]
      exact ⟨none, 0, rfl, RowB.nilN _ _⟩
  obtain ⟨ad, cd, rfl, R1⟩ := key
  clear hc b0 b1 B0 OR m1 eK eD E2
  have n3 : Below w1.heap.size w1 (w1.alloc (.cells #[.int .i64 KD, .slice ad DD.length cd] 49)) := (Below.refl _ _).alloc (Nat.le_refl _) _
  have P0 : RwC (w1.alloc (.cells #[.int .i64 KD, .slice ad DD.length cd] 49)) w1.heap.size [.int .i64 KD, .slice ad DD.length cd] 49 := RwC.new w1 _ _
  replace Z0 := Z0.up n3
  replace R1 := R1.up n3
  have N3 := nxt N n3
  clear n3 N
  obtain ⟨v, hv⟩ : ∃ v, v = U.elim .nilIface erV := ⟨_, rfl⟩
  rw [← hv] at OC ⊢
  clear hv
  go_upto_region 2 with fail
  generalize w1.alloc (.cells #[.int .i64 KD, .slice ad DD.length cd] 49) = w2 at *
  refine region_putT 7 6 6 22 _ (fun i => [Fact.eq v, Fact.eq (.int .i64 CD), Fact.eq (.pointer (some ⟨w1.heap.size, 0, none⟩)), Fact.eq (.int .i64 KD), Fact.eq (.pointer (some ⟨w1.heap.size, 1, none⟩)), Fact.eq (.slice ad DD.length cd), Fact.eq (.agg #[.int .i64 CD, .int .i64 KD, .slice ad DD.length cd])].getD i Fact.no) 37 [.int .i64 0, .int .i64 0, .slice none 0 0] (w.heap.size + 1) (Fact.eq (.agg #[.int .i64 CD, .int .i64 KD, .slice ad DD.length cd])) (by kernel_rfl) (by kernel_rfl) rfl rfl rfl iOd (fun a hb => hb.2.2 6 (by kernel_rfl)) Z0 (by kernel_rfl) rfl ?_ ?_ ?_
  · rintro v W hv
    exact ⟨[.int .i64 CD, .int .i64 KD, .slice ad DD.length cd], hv, rfl, oneOd _ _ _ _ _⟩
  · intro i hi
    obtain rfl | rfl | rfl | rfl | rfl | rfl | rfl : i = 0 ∨ i = 1 ∨ i = 2 ∨ i = 3 ∨ i = 4 ∨ i = 5 ∨ i = 6 := by omega
    · refine step_pure rfl fun A ww hb hw hf => ?_
      have e0 : A.tmps[8]?.getD undef = v := gdv (hb.2.2 8 (by kernel_rfl))
      exact ⟨v, by simp [go_sem, e0], rfl⟩
    · refine step_callv rfl 36 _ _ rfl (by kernel_rfl) fun A ww hb hw hf => ?_
      have e6 : A.tmps.getD 16 undef = v := hf 0 16 (by kernel_rfl)
      show Calls Tryz.prog 36 #[A.tmps.getD 16 undef] ww _
      rw [e6]
      refine (OC.out ww (nxt N3 hw)).mono ?_
      rintro r w' ⟨rfl, h⟩
      exact ⟨_, rfl, by rw [h]; exact Below.refl _ _, rfl⟩
    · refine step_pure rfl fun A ww hb hw hf => ?_
      have e0 : A.tmps[7]?.getD undef = .pointer (some ⟨w1.heap.size, 0, none⟩) := gdv (hb.2.2 7 (by kernel_rfl))
      exact ⟨.pointer (some ⟨w1.heap.size, 0, none⟩), by simp [go_sem, e0], rfl⟩
    · refine step_pure rfl fun A ww hb hw hf => ?_
      have e0 : A.tmps[18]?.getD undef = .pointer (some ⟨w1.heap.size, 0, none⟩) := gdv (hf 2 18 (by kernel_rfl))
      have hc := (P0.up hw).c0
      exact ⟨_, by simp [go_sem, e0, hc], rfl⟩
    · refine step_pure rfl fun A ww hb hw hf => ?_
      have e0 : A.tmps[7]?.getD undef = .pointer (some ⟨w1.heap.size, 0, none⟩) := gdv (hb.2.2 7 (by kernel_rfl))
      exact ⟨.pointer (some ⟨w1.heap.size, 1, none⟩), by simp [go_sem, e0], rfl⟩
    · refine step_pure rfl fun A ww hb hw hf => ?_
      have e0 : A.tmps[20]?.getD undef = .pointer (some ⟨w1.heap.size, 1, none⟩) := gdv (hf 4 20 (by kernel_rfl))
      have hc := (P0.up hw).c1
      exact ⟨_, by simp [go_sem, e0, hc], rfl⟩
    · refine step_pure rfl fun A ww hb hw hf => ?_
      have e0 : A.tmps[17]?.getD undef = .int .i64 CD := gdv (hf 1 17 (by kernel_rfl))
      have e1 : A.tmps[19]?.getD undef = .int .i64 KD := gdv (hf 3 19 (by kernel_rfl))
      have e2 : A.tmps[21]?.getD undef = .slice ad DD.length cd := gdv (hf 5 21 (by kernel_rfl))
      exact ⟨.agg #[.int .i64 CD, .int .i64 KD, .slice ad DD.length cd], by simp [go_sem, e0, e1, e2], rfl⟩
  · intro vs W W5 cs hw rq hG OQ rc
    have hG' : Value.agg cs.toArray = .agg #[.int .i64 CD, .int .i64 KD, .slice ad DD.length cd] := hG
    simp only [Value.agg.injEq] at hG'
    have ec : cs = [.int .i64 CD, .int .i64 KD, .slice ad DD.length cd] := by
      have := congrArg Array.toList hG'
      simpa using this
    subst ec
    have R5 := (R1.up hw).only OQ (by omega)
    have N5 := (nxt N3 hw).trans (OQ.below (B := w.heap.size) (by omega))
    have RR := rc.rangeG
    obtain ⟨a8, c8, g8, e8, o8, p8, q8, r8⟩ := R5.own
    simp only [Value.slice.injEq] at e8
    obtain ⟨rfl, -, rfl⟩ := e8
    simp only [puts, Act.put, List.setIfInBounds_toArray, List.set_cons_succ, List.set_cons_zero]
    clear OQ rq rc hG hG' R1 R5 hw
    go_wp2
    exact bodyPost_ret (v := .agg #[.int .i64 CD, .int .i64 KD, .slice ad DD.length cd]) (results_cellG Tryz.results10 _ _ (w.heap.size + 1) _ d1 rfl RR hd1 hrow1 iOd) rfl ⟨⟨ad, cd, g8, rfl, o8, p8, q8, by omega⟩, N5⟩
end Go.Proofs.YtjfggcefdobooaaGreatDoor
