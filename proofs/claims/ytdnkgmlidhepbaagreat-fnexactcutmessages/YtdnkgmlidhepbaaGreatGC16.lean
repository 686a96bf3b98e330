import Derived.Test.YtdnkgmlidhepbaaGreatGC15
import Derived.Test.YtdnkgmlidhepbaaGreatGC11
import Derived.Deep.Cut
import Derived.Test.YtdnkgmlidhepbaaGreatGC14
namespace Go.Proofs.YtdnkgmlidhepbaaGreat
open Go Go.RowKit
theorem region_putK {P : Program} {ops : Array Oper} {Q : Exit → Act → World → Prop} {a0 : Act} {id : Nat} {draw : Bool} {w : World} (k jV pD pV : Nat) (o : Oper) (F : Nat → Fact) (q : Nat) (ty : TypeId) (cells : List Value) (hm : P.follows .mixedOrders = true) (hT : textOk .any ops a0.tmps.size k = true) (hk : ops[k]? = some o) (hd : o.dst = none)
    (hop : o.op = .store ty (.tmp pD) (.tmp pV)) (hp : apart ops pD = true) (h0 : a0.tmps.getD pD undef = .pointer (some ⟨q, 0, none⟩)) (wV : writes ops jV pV = true) (FV : F jV = Fact.eq (.agg cells.toArray)) (hth : ∀ W, Below w.heap.size w W → W.there q 0 cells.length) (hi : (P.info? ty).map (·.size) = some cells.length) (h1 : cells.toArray.all (·.oneCell') = true) (steps : ∀ i, i < k → StepOk P .any ops Q F a0 w i)
    (fin : ∀ (vs : Nat → Value) (W : World), Below w.heap.size w W → Q .normal (puts vs a0 ops.toList) (W.setCells q 0 cells)) : (Code.region id ops draw).wp P Q a0 w := by
  refine region_store k o F hm hT hk hd steps fun a W hb hw hF => ?_
  have e2 := hF jV pV wV
  rw [FV] at e2
  refine wp_store_mid ty (.tmp pD) (.tmp pV) hop q 0 cells.toArray ((based_at hb pD hp).trans h0) e2 (by rw [List.size_toArray]; exact hth W hw) (by rw [List.size_toArray]; exact hi) h1 ?_
  obtain ⟨vs, hvs⟩ : ∃ vs : Nat → Value, ∀ d, a.tmps.getD d undef = vs d := ⟨_, fun _ => rfl⟩
  rw [hd]
  show Q .normal a _
  rw [puts_of hT rfl hb vs hvs]
  exact fin vs W hw
theorem RwC.there {w : World} {q : Nat} {cs : List Value} {t : TypeId} (h : RwC w q cs t) : w.there q 0 cs.length := fun j hj => by
  rw [Nat.zero_add, h.cell j, h.free j]
  exact ⟨by simp [hj], rfl⟩
theorem only_setM (w : World) (q : Nat) : ∀ (vs : List Value) (o : Nat), Only q w (w.setCells q o vs)
  | [], _ => Only.refl _ _
  | v :: vs, o => (Only.setCell w q o v).trans (only_setM _ q vs (o + 1))
section
variable (w : World) (q : Nat) (t : TypeId) (v ag ea : Int) (a2 a3 a5 a6 a9 : Option Addr) (n2 n3 n5 n6 n9 c2 c3 c5 c6 c9 : Nat) (ho : ByteArray)
theorem bu13 : (Instr.build 26 #[(0, Value.int .i64 1), (1, Value.int .i64 v), (2, Value.slice a2 n2 c2), (3, Value.slice a3 n3 c3), (4, Value.string ho), (5, Value.slice a5 n5 c5), (6, Value.slice a6 n6 c6), (7, Value.int .i64 ag), (8, Value.int .i64 ea), (9, Value.slice a9 n9 c9)]).run Tryz.prog w = .ok (.agg #[Value.int .i64 1, Value.int .i64 v, Value.slice a2 n2 c2, Value.slice a3 n3 c3, Value.string ho, Value.slice a5 n5 c5, Value.slice a6 n6 c6, Value.int .i64 ag, Value.int .i64 ea, Value.slice a9 n9 c9, Value.bool false, Value.slice none 0 0, Value.slice none 0 0]) w := by kernel_rfl
theorem ex_bu {a : Act} {o : Oper} (hop : o.op = .build 26 #[(0, Operand.const (Value.int .i64 1)), (1, Operand.tmp 20), (2, Operand.tmp 25), (3, Operand.tmp 30), (4, Operand.tmp 34), (5, Operand.tmp 38), (6, Operand.tmp 42), (7, Operand.tmp 46), (8, Operand.tmp 50), (9, Operand.tmp 54)]) (x20 : a.eval (.tmp 20) = Value.int .i64 v) (x25 : a.eval (.tmp 25) = Value.slice a2 n2 c2) (x30 : a.eval (.tmp 30) = Value.slice a3 n3 c3) (x34 : a.eval (.tmp 34) = Value.string ho) (x38 : a.eval (.tmp 38) = Value.slice a5 n5 c5) (x42 : a.eval (.tmp 42) = Value.slice a6 n6 c6) (x46 : a.eval (.tmp 46) = Value.int .i64 ag) (x50 : a.eval (.tmp 50) = Value.int .i64 ea) (x54 : a.eval (.tmp 54) = Value.slice a9 n9 c9) : (execOp a.eval o).run Tryz.prog w = .ok (.value (.agg #[Value.int .i64 1, Value.int .i64 v, Value.slice a2 n2 c2, Value.slice a3 n3 c3, Value.string ho, Value.slice a5 n5 c5, Value.slice a6 n6 c6, Value.int .i64 ag, Value.int .i64 ea, Value.slice a9 n9 c9, Value.bool false, Value.slice none 0 0, Value.slice none 0 0])) w := by
  have xc : a.eval (.const (.int .i64 1)) = Value.int .i64 1 := rfl
  have gg : (#[(0, Operand.const (Value.int .i64 1)), (1, Operand.tmp 20), (2, Operand.tmp 25), (3, Operand.tmp 30), (4, Operand.tmp 34), (5, Operand.tmp 38), (6, Operand.tmp 42), (7, Operand.tmp 46), (8, Operand.tmp 50), (9, Operand.tmp 54)].map fun (n, x) => (n, a.eval x)) = #[(0, Value.int .i64 1), (1, Value.int .i64 v), (2, Value.slice a2 n2 c2), (3, Value.slice a3 n3 c3), (4, Value.string ho), (5, Value.slice a5 n5 c5), (6, Value.slice a6 n6 c6), (7, Value.int .i64 ag), (8, Value.int .i64 ea), (9, Value.slice a9 n9 c9)] := by simp [x20, x25, x30, x34, x38, x42, x46, x50, x54, xc]
  simp only [execOp, hop, gg]
  rw [Sem.run_bind, bu13]
  rfl
theorem one13 : ([Value.int .i64 1, Value.int .i64 v, Value.slice a2 n2 c2, Value.slice a3 n3 c3, Value.string ho, Value.slice a5 n5 c5, Value.slice a6 n6 c6, Value.int .i64 ag, Value.int .i64 ea, Value.slice a9 n9 c9, Value.bool false, Value.slice none 0 0, Value.slice none 0 0] : List Value).toArray.all (·.oneCell') = true := all_oneCell_toArray fun v hv => by
  simp only [List.mem_cons, List.not_mem_nil, or_false] at hv
  rcases hv with rfl | rfl | rfl | rfl | rfl | rfl | rfl | rfl | rfl | rfl | rfl | rfl | rfl
  all_goals rfl
set_option maxRecDepth 20000 in
set_option maxHeartbeats 4000000 in
theorem plainHello_any (h : RwC w q [Value.int .i64 v, Value.slice a2 n2 c2, Value.slice a3 n3 c3, Value.string ho, Value.slice a5 n5 c5, Value.slice a6 n6 c6, Value.int .i64 ag, Value.int .i64 ea, Value.slice a9 n9 c9] t) :
    Calls Tryz.prog 55 #[.iface 70 (.pointer (some ⟨q, 0, none⟩))] w fun e w' => e = .returned (.agg #[Value.int .i64 1, Value.int .i64 v, Value.slice a2 n2 c2, Value.slice a3 n3 c3, Value.string ho, Value.slice a5 n5 c5, Value.slice a6 n6 c6, Value.int .i64 ag, Value.int .i64 ea, Value.slice a9 n9 c9, Value.bool false, Value.slice none 0 0, Value.slice none 0 0]) ∧ Below w.heap.size w w' := by
  have lt := h.lt
  have A_hello : ∀ (x : Value) (W : World), (Instr.typeAssert (.iface 70 x) 69 70 true).run Tryz.prog W = .ok (.tuple #[x, .bool true]) W := fun _ _ => by kernel_rfl
  have RN := RwC.new w (#[Value.int .i64 0, Value.int .i64 0, Value.slice none 0 0, Value.slice none 0 0, Value.string ⟨#[]⟩, Value.slice none 0 0, Value.slice none 0 0, Value.int .i64 0, Value.int .i64 0, Value.slice none 0 0, Value.bool false, Value.slice none 0 0, Value.slice none 0 0] : Array Value).toList 26
  have n0 : Below w.heap.size w (w.alloc (.cells #[Value.int .i64 0, Value.int .i64 0, Value.slice none 0 0, Value.slice none 0 0, Value.string ⟨#[]⟩, Value.slice none 0 0, Value.slice none 0 0, Value.int .i64 0, Value.int .i64 0, Value.slice none 0 0, Value.bool false, Value.slice none 0 0, Value.slice none 0 0] 26)) := (Below.refl _ _).alloc (Nat.le_refl _) _
  obtain ⟨d13, hd13, hrow13⟩ := rowM
  replace h := h.up n0
  have RN : RwC (w.alloc (.cells #[Value.int .i64 0, Value.int .i64 0, Value.slice none 0 0, Value.slice none 0 0, Value.string ⟨#[]⟩, Value.slice none 0 0, Value.slice none 0 0, Value.int .i64 0, Value.int .i64 0, Value.slice none 0 0, Value.bool false, Value.slice none 0 0, Value.slice none 0 0] 26)) w.heap.size (#[Value.int .i64 0, Value.int .i64 0, Value.slice none 0 0, Value.slice none 0 0, Value.string ⟨#[]⟩, Value.slice none 0 0, Value.slice none 0 0, Value.int .i64 0, Value.int .i64 0, Value.slice none 0 0, Value.bool false, Value.slice none 0 0, Value.slice none 0 0] : Array Value).toList 26 := RN
  go_enter Tryz.func55, Tryz.ntmps55
  go_upto_region 4 with fail
  generalize w.alloc (.cells #[Value.int .i64 0, Value.int .i64 0, Value.slice none 0 0, Value.slice none 0 0, Value.string ⟨#[]⟩, Value.slice none 0 0, Value.slice none 0 0, Value.int .i64 0, Value.int .i64 0, Value.slice none 0 0, Value.bool false, Value.slice none 0 0, Value.slice none 0 0] 26) = wb at *
  refine region_putK 40 39 2 55 _ (fun i => [Fact.eq (.pointer (some ⟨q, 0, none⟩)), Fact.eq (.pointer (some ⟨q, 0, none⟩)), Fact.eq (.pointer (some ⟨q, 0, none⟩)), Fact.eq (.pointer (some ⟨q, 0, none⟩)), Fact.eq (Value.int .i64 v), Fact.eq (.pointer (some ⟨q, 0, none⟩)), Fact.eq (.pointer (some ⟨q, 0, none⟩)), Fact.eq (.pointer (some ⟨q, 0, none⟩)), Fact.eq (.pointer (some ⟨q, 1, none⟩)), Fact.eq (Value.slice a2 n2 c2), Fact.eq (.pointer (some ⟨q, 0, none⟩)), Fact.eq (.pointer (some ⟨q, 0, none⟩)), Fact.eq (.pointer (some ⟨q, 0, none⟩)), Fact.eq (.pointer (some ⟨q, 2, none⟩)), Fact.eq (Value.slice a3 n3 c3), Fact.eq (.pointer (some ⟨q, 0, none⟩)), Fact.eq (.pointer (some ⟨q, 0, none⟩)), Fact.eq (.pointer (some ⟨q, 3, none⟩)), Fact.eq (Value.string ho), Fact.eq (.pointer (some ⟨q, 0, none⟩)), Fact.eq (.pointer (some ⟨q, 0, none⟩)), Fact.eq (.pointer (some ⟨q, 4, none⟩)), Fact.eq (Value.slice a5 n5 c5), Fact.eq (.pointer (some ⟨q, 0, none⟩)), Fact.eq (.pointer (some ⟨q, 0, none⟩)), Fact.eq (.pointer (some ⟨q, 5, none⟩)), Fact.eq (Value.slice a6 n6 c6), Fact.eq (.pointer (some ⟨q, 0, none⟩)), Fact.eq (.pointer (some ⟨q, 0, none⟩)), Fact.eq (.pointer (some ⟨q, 6, none⟩)), Fact.eq (Value.int .i64 ag), Fact.eq (.pointer (some ⟨q, 0, none⟩)), Fact.eq (.pointer (some ⟨q, 0, none⟩)), Fact.eq (.pointer (some ⟨q, 7, none⟩)), Fact.eq (Value.int .i64 ea), Fact.eq (.pointer (some ⟨q, 0, none⟩)), Fact.eq (.pointer (some ⟨q, 0, none⟩)), Fact.eq (.pointer (some ⟨q, 8, none⟩)), Fact.eq (Value.slice a9 n9 c9), Fact.eq (.agg #[Value.int .i64 1, Value.int .i64 v, Value.slice a2 n2 c2, Value.slice a3 n3 c3, Value.string ho, Value.slice a5 n5 c5, Value.slice a6 n6 c6, Value.int .i64 ag, Value.int .i64 ea, Value.slice a9 n9 c9, Value.bool false, Value.slice none 0 0, Value.slice none 0 0])].getD i Fact.no) w.heap.size 26 [Value.int .i64 1, Value.int .i64 v, Value.slice a2 n2 c2, Value.slice a3 n3 c3, Value.string ho, Value.slice a5 n5 c5, Value.slice a6 n6 c6, Value.int .i64 ag, Value.int .i64 ea, Value.slice a9 n9 c9, Value.bool false, Value.slice none 0 0, Value.slice none 0 0] (by kernel_rfl) (by kernel_rfl) rfl rfl rfl (by kernel_rfl) rfl (by kernel_rfl) rfl (fun W n => (RN.up n).there) iM (one13 _ _ _ _ _ _ _ _ _ _ _ _ _ _ _ _ _ _ _) ?_ ?_
  · intro i hi
    obtain rfl | rfl | rfl | rfl | rfl | rfl | rfl | rfl | rfl | rfl | rfl | rfl | rfl | rfl | rfl | rfl | rfl | rfl | rfl | rfl | rfl | rfl | rfl | rfl | rfl | rfl | rfl | rfl | rfl | rfl | rfl | rfl | rfl | rfl | rfl | rfl | rfl | rfl | rfl | rfl : i = 0 ∨ i = 1 ∨ i = 2 ∨ i = 3 ∨ i = 4 ∨ i = 5 ∨ i = 6 ∨ i = 7 ∨ i = 8 ∨ i = 9 ∨ i = 10 ∨ i = 11 ∨ i = 12 ∨ i = 13 ∨ i = 14 ∨ i = 15 ∨ i = 16 ∨ i = 17 ∨ i = 18 ∨ i = 19 ∨ i = 20 ∨ i = 21 ∨ i = 22 ∨ i = 23 ∨ i = 24 ∨ i = 25 ∨ i = 26 ∨ i = 27 ∨ i = 28 ∨ i = 29 ∨ i = 30 ∨ i = 31 ∨ i = 32 ∨ i = 33 ∨ i = 34 ∨ i = 35 ∨ i = 36 ∨ i = 37 ∨ i = 38 ∨ i = 39 := by omega
    · refine step_pure rfl fun A ww hb hw hf => ?_
      have e3 : A.tmps[3]?.getD undef = .pointer (some ⟨q, 0, none⟩) := gdv (hb.2.2 3 (by kernel_rfl))
      exact ⟨.pointer (some ⟨q, 0, none⟩), by simp [go_sem, e3], rfl⟩
    · refine step_pure rfl fun A ww hb hw hf => ?_
      have e16 : A.tmps[16]?.getD undef = .pointer (some ⟨q, 0, none⟩) := gdv (hf 0 16 (by kernel_rfl))
      exact ⟨.pointer (some ⟨q, 0, none⟩), by simp [go_sem, e16], rfl⟩
    · refine step_pure rfl fun A ww hb hw hf => ?_
      have e17 : A.tmps[17]?.getD undef = .pointer (some ⟨q, 0, none⟩) := gdv (hf 1 17 (by kernel_rfl))
      exact ⟨.pointer (some ⟨q, 0, none⟩), by simp [go_sem, e17], rfl⟩
    · refine step_pure rfl fun A ww hb hw hf => ?_
      have e18 : A.tmps[18]?.getD undef = .pointer (some ⟨q, 0, none⟩) := gdv (hf 2 18 (by kernel_rfl))
      exact ⟨.pointer (some ⟨q, 0, none⟩), by simp [go_sem, e18], rfl⟩
    · refine step_pure rfl fun A ww hb hw hf => ?_
      have e19 : A.tmps[19]?.getD undef = .pointer (some ⟨q, 0, none⟩) := gdv (hf 3 19 (by kernel_rfl))
      have hc : ww.cell? ⟨q, 0, none⟩ = some (Value.int .i64 v) := (h.up hw).cell 0
      exact ⟨Value.int .i64 v, by simp [go_sem, e19, hc], rfl⟩
    · refine step_pure rfl fun A ww hb hw hf => ?_
      have e3 : A.tmps[3]?.getD undef = .pointer (some ⟨q, 0, none⟩) := gdv (hb.2.2 3 (by kernel_rfl))
      exact ⟨.pointer (some ⟨q, 0, none⟩), by simp [go_sem, e3], rfl⟩
    · refine step_pure rfl fun A ww hb hw hf => ?_
      have e21 : A.tmps[21]?.getD undef = .pointer (some ⟨q, 0, none⟩) := gdv (hf 5 21 (by kernel_rfl))
      exact ⟨.pointer (some ⟨q, 0, none⟩), by simp [go_sem, e21], rfl⟩
    · refine step_pure rfl fun A ww hb hw hf => ?_
      have e22 : A.tmps[22]?.getD undef = .pointer (some ⟨q, 0, none⟩) := gdv (hf 6 22 (by kernel_rfl))
      exact ⟨.pointer (some ⟨q, 0, none⟩), by simp [go_sem, e22], rfl⟩
    · refine step_pure rfl fun A ww hb hw hf => ?_
      have e23 : A.tmps[23]?.getD undef = .pointer (some ⟨q, 0, none⟩) := gdv (hf 7 23 (by kernel_rfl))
      exact ⟨.pointer (some ⟨q, 1, none⟩), by simp [go_sem, e23], rfl⟩
    · refine step_pure rfl fun A ww hb hw hf => ?_
      have e24 : A.tmps[24]?.getD undef = .pointer (some ⟨q, 1, none⟩) := gdv (hf 8 24 (by kernel_rfl))
      have hc : ww.cell? ⟨q, 1, none⟩ = some (Value.slice a2 n2 c2) := (h.up hw).cell 1
      exact ⟨Value.slice a2 n2 c2, by simp [go_sem, e24, hc], rfl⟩
    · refine step_pure rfl fun A ww hb hw hf => ?_
      have e3 : A.tmps[3]?.getD undef = .pointer (some ⟨q, 0, none⟩) := gdv (hb.2.2 3 (by kernel_rfl))
      exact ⟨.pointer (some ⟨q, 0, none⟩), by simp [go_sem, e3], rfl⟩
    · refine step_pure rfl fun A ww hb hw hf => ?_
      have e26 : A.tmps[26]?.getD undef = .pointer (some ⟨q, 0, none⟩) := gdv (hf 10 26 (by kernel_rfl))
      exact ⟨.pointer (some ⟨q, 0, none⟩), by simp [go_sem, e26], rfl⟩
    · refine step_pure rfl fun A ww hb hw hf => ?_
      have e27 : A.tmps[27]?.getD undef = .pointer (some ⟨q, 0, none⟩) := gdv (hf 11 27 (by kernel_rfl))
      exact ⟨.pointer (some ⟨q, 0, none⟩), by simp [go_sem, e27], rfl⟩
    · refine step_pure rfl fun A ww hb hw hf => ?_
      have e28 : A.tmps[28]?.getD undef = .pointer (some ⟨q, 0, none⟩) := gdv (hf 12 28 (by kernel_rfl))
      exact ⟨.pointer (some ⟨q, 2, none⟩), by simp [go_sem, e28], rfl⟩
    · refine step_pure rfl fun A ww hb hw hf => ?_
      have e29 : A.tmps[29]?.getD undef = .pointer (some ⟨q, 2, none⟩) := gdv (hf 13 29 (by kernel_rfl))
      have hc : ww.cell? ⟨q, 2, none⟩ = some (Value.slice a3 n3 c3) := (h.up hw).cell 2
      exact ⟨Value.slice a3 n3 c3, by simp [go_sem, e29, hc], rfl⟩
    · refine step_pure rfl fun A ww hb hw hf => ?_
      have e3 : A.tmps[3]?.getD undef = .pointer (some ⟨q, 0, none⟩) := gdv (hb.2.2 3 (by kernel_rfl))
      exact ⟨.pointer (some ⟨q, 0, none⟩), by simp [go_sem, e3], rfl⟩
    · refine step_pure rfl fun A ww hb hw hf => ?_
      have e31 : A.tmps[31]?.getD undef = .pointer (some ⟨q, 0, none⟩) := gdv (hf 15 31 (by kernel_rfl))
      exact ⟨.pointer (some ⟨q, 0, none⟩), by simp [go_sem, e31], rfl⟩
    · refine step_pure rfl fun A ww hb hw hf => ?_
      have e32 : A.tmps[32]?.getD undef = .pointer (some ⟨q, 0, none⟩) := gdv (hf 16 32 (by kernel_rfl))
      exact ⟨.pointer (some ⟨q, 3, none⟩), by simp [go_sem, e32], rfl⟩
    · refine step_pure rfl fun A ww hb hw hf => ?_
      have e33 : A.tmps[33]?.getD undef = .pointer (some ⟨q, 3, none⟩) := gdv (hf 17 33 (by kernel_rfl))
      have hc : ww.cell? ⟨q, 3, none⟩ = some (Value.string ho) := (h.up hw).cell 3
      exact ⟨Value.string ho, by simp [go_sem, e33, hc], rfl⟩
    · refine step_pure rfl fun A ww hb hw hf => ?_
      have e3 : A.tmps[3]?.getD undef = .pointer (some ⟨q, 0, none⟩) := gdv (hb.2.2 3 (by kernel_rfl))
      exact ⟨.pointer (some ⟨q, 0, none⟩), by simp [go_sem, e3], rfl⟩
    · refine step_pure rfl fun A ww hb hw hf => ?_
      have e35 : A.tmps[35]?.getD undef = .pointer (some ⟨q, 0, none⟩) := gdv (hf 19 35 (by kernel_rfl))
      exact ⟨.pointer (some ⟨q, 0, none⟩), by simp [go_sem, e35], rfl⟩
    · refine step_pure rfl fun A ww hb hw hf => ?_
      have e36 : A.tmps[36]?.getD undef = .pointer (some ⟨q, 0, none⟩) := gdv (hf 20 36 (by kernel_rfl))
      exact ⟨.pointer (some ⟨q, 4, none⟩), by simp [go_sem, e36], rfl⟩
    · refine step_pure rfl fun A ww hb hw hf => ?_
      have e37 : A.tmps[37]?.getD undef = .pointer (some ⟨q, 4, none⟩) := gdv (hf 21 37 (by kernel_rfl))
      have hc : ww.cell? ⟨q, 4, none⟩ = some (Value.slice a5 n5 c5) := (h.up hw).cell 4
      exact ⟨Value.slice a5 n5 c5, by simp [go_sem, e37, hc], rfl⟩
    · refine step_pure rfl fun A ww hb hw hf => ?_
      have e3 : A.tmps[3]?.getD undef = .pointer (some ⟨q, 0, none⟩) := gdv (hb.2.2 3 (by kernel_rfl))
      exact ⟨.pointer (some ⟨q, 0, none⟩), by simp [go_sem, e3], rfl⟩
    · refine step_pure rfl fun A ww hb hw hf => ?_
      have e39 : A.tmps[39]?.getD undef = .pointer (some ⟨q, 0, none⟩) := gdv (hf 23 39 (by kernel_rfl))
      exact ⟨.pointer (some ⟨q, 0, none⟩), by simp [go_sem, e39], rfl⟩
    · refine step_pure rfl fun A ww hb hw hf => ?_
      have e40 : A.tmps[40]?.getD undef = .pointer (some ⟨q, 0, none⟩) := gdv (hf 24 40 (by kernel_rfl))
      exact ⟨.pointer (some ⟨q, 5, none⟩), by simp [go_sem, e40], rfl⟩
    · refine step_pure rfl fun A ww hb hw hf => ?_
      have e41 : A.tmps[41]?.getD undef = .pointer (some ⟨q, 5, none⟩) := gdv (hf 25 41 (by kernel_rfl))
      have hc : ww.cell? ⟨q, 5, none⟩ = some (Value.slice a6 n6 c6) := (h.up hw).cell 5
      exact ⟨Value.slice a6 n6 c6, by simp [go_sem, e41, hc], rfl⟩
    · refine step_pure rfl fun A ww hb hw hf => ?_
      have e3 : A.tmps[3]?.getD undef = .pointer (some ⟨q, 0, none⟩) := gdv (hb.2.2 3 (by kernel_rfl))
      exact ⟨.pointer (some ⟨q, 0, none⟩), by simp [go_sem, e3], rfl⟩
    · refine step_pure rfl fun A ww hb hw hf => ?_
      have e43 : A.tmps[43]?.getD undef = .pointer (some ⟨q, 0, none⟩) := gdv (hf 27 43 (by kernel_rfl))
      exact ⟨.pointer (some ⟨q, 0, none⟩), by simp [go_sem, e43], rfl⟩
    · refine step_pure rfl fun A ww hb hw hf => ?_
      have e44 : A.tmps[44]?.getD undef = .pointer (some ⟨q, 0, none⟩) := gdv (hf 28 44 (by kernel_rfl))
      exact ⟨.pointer (some ⟨q, 6, none⟩), by simp [go_sem, e44], rfl⟩
    · refine step_pure rfl fun A ww hb hw hf => ?_
      have e45 : A.tmps[45]?.getD undef = .pointer (some ⟨q, 6, none⟩) := gdv (hf 29 45 (by kernel_rfl))
      have hc : ww.cell? ⟨q, 6, none⟩ = some (Value.int .i64 ag) := (h.up hw).cell 6
      exact ⟨Value.int .i64 ag, by simp [go_sem, e45, hc], rfl⟩
    · refine step_pure rfl fun A ww hb hw hf => ?_
      have e3 : A.tmps[3]?.getD undef = .pointer (some ⟨q, 0, none⟩) := gdv (hb.2.2 3 (by kernel_rfl))
      exact ⟨.pointer (some ⟨q, 0, none⟩), by simp [go_sem, e3], rfl⟩
    · refine step_pure rfl fun A ww hb hw hf => ?_
      have e47 : A.tmps[47]?.getD undef = .pointer (some ⟨q, 0, none⟩) := gdv (hf 31 47 (by kernel_rfl))
      exact ⟨.pointer (some ⟨q, 0, none⟩), by simp [go_sem, e47], rfl⟩
    · refine step_pure rfl fun A ww hb hw hf => ?_
      have e48 : A.tmps[48]?.getD undef = .pointer (some ⟨q, 0, none⟩) := gdv (hf 32 48 (by kernel_rfl))
      exact ⟨.pointer (some ⟨q, 7, none⟩), by simp [go_sem, e48], rfl⟩
    · refine step_pure rfl fun A ww hb hw hf => ?_
      have e49 : A.tmps[49]?.getD undef = .pointer (some ⟨q, 7, none⟩) := gdv (hf 33 49 (by kernel_rfl))
      have hc : ww.cell? ⟨q, 7, none⟩ = some (Value.int .i64 ea) := (h.up hw).cell 7
      exact ⟨Value.int .i64 ea, by simp [go_sem, e49, hc], rfl⟩
    · refine step_pure rfl fun A ww hb hw hf => ?_
      have e3 : A.tmps[3]?.getD undef = .pointer (some ⟨q, 0, none⟩) := gdv (hb.2.2 3 (by kernel_rfl))
      exact ⟨.pointer (some ⟨q, 0, none⟩), by simp [go_sem, e3], rfl⟩
    · refine step_pure rfl fun A ww hb hw hf => ?_
      have e51 : A.tmps[51]?.getD undef = .pointer (some ⟨q, 0, none⟩) := gdv (hf 35 51 (by kernel_rfl))
      exact ⟨.pointer (some ⟨q, 0, none⟩), by simp [go_sem, e51], rfl⟩
    · refine step_pure rfl fun A ww hb hw hf => ?_
      have e52 : A.tmps[52]?.getD undef = .pointer (some ⟨q, 0, none⟩) := gdv (hf 36 52 (by kernel_rfl))
      exact ⟨.pointer (some ⟨q, 8, none⟩), by simp [go_sem, e52], rfl⟩
    · refine step_pure rfl fun A ww hb hw hf => ?_
      have e53 : A.tmps[53]?.getD undef = .pointer (some ⟨q, 8, none⟩) := gdv (hf 37 53 (by kernel_rfl))
      have hc : ww.cell? ⟨q, 8, none⟩ = some (Value.slice a9 n9 c9) := (h.up hw).cell 8
      exact ⟨Value.slice a9 n9 c9, by simp [go_sem, e53, hc], rfl⟩
    · refine step_pure rfl fun A ww hb hw hf => ?_
      have x20 : A.eval (.tmp 20) = Value.int .i64 v := hf 4 20 (by kernel_rfl)
      have x25 : A.eval (.tmp 25) = Value.slice a2 n2 c2 := hf 9 25 (by kernel_rfl)
      have x30 : A.eval (.tmp 30) = Value.slice a3 n3 c3 := hf 14 30 (by kernel_rfl)
      have x34 : A.eval (.tmp 34) = Value.string ho := hf 18 34 (by kernel_rfl)
      have x38 : A.eval (.tmp 38) = Value.slice a5 n5 c5 := hf 22 38 (by kernel_rfl)
      have x42 : A.eval (.tmp 42) = Value.slice a6 n6 c6 := hf 26 42 (by kernel_rfl)
      have x46 : A.eval (.tmp 46) = Value.int .i64 ag := hf 30 46 (by kernel_rfl)
      have x50 : A.eval (.tmp 50) = Value.int .i64 ea := hf 34 50 (by kernel_rfl)
      have x54 : A.eval (.tmp 54) = Value.slice a9 n9 c9 := hf 38 54 (by kernel_rfl)
      exact ⟨.agg #[Value.int .i64 1, Value.int .i64 v, Value.slice a2 n2 c2, Value.slice a3 n3 c3, Value.string ho, Value.slice a5 n5 c5, Value.slice a6 n6 c6, Value.int .i64 ag, Value.int .i64 ea, Value.slice a9 n9 c9, Value.bool false, Value.slice none 0 0, Value.slice none 0 0], ex_bu ww v ag ea a2 a3 a5 a6 a9 n2 n3 n5 n6 n9 c2 c3 c5 c6 c9 ho rfl x20 x25 x30 x34 x38 x42 x46 x50 x54, rfl⟩
  intro vs W hw
  have th := (RN.up hw).there
  have RR := World.rangeAt_setCells_same W w.heap.size 0 [Value.int .i64 1, Value.int .i64 v, Value.slice a2 n2 c2, Value.slice a3 n3 c3, Value.string ho, Value.slice a5 n5 c5, Value.slice a6 n6 c6, Value.int .i64 ag, Value.int .i64 ea, Value.slice a9 n9 c9, Value.bool false, Value.slice none 0 0, Value.slice none 0 0] th
  have OQ := only_setM W w.heap.size [Value.int .i64 1, Value.int .i64 v, Value.slice a2 n2 c2, Value.slice a3 n3 c3, Value.string ho, Value.slice a5 n5 c5, Value.slice a6 n6 c6, Value.int .i64 ag, Value.int .i64 ea, Value.slice a9 n9 c9, Value.bool false, Value.slice none 0 0, Value.slice none 0 0] 0
  have N2 : Below w.heap.size w (W.setCells w.heap.size 0 [Value.int .i64 1, Value.int .i64 v, Value.slice a2 n2 c2, Value.slice a3 n3 c3, Value.string ho, Value.slice a5 n5 c5, Value.slice a6 n6 c6, Value.int .i64 ag, Value.int .i64 ea, Value.slice a9 n9 c9, Value.bool false, Value.slice none 0 0, Value.slice none 0 0]) := (nxt n0 hw).trans (OQ.below (Nat.le_refl _))
  generalize W.setCells w.heap.size 0 [Value.int .i64 1, Value.int .i64 v, Value.slice a2 n2 c2, Value.slice a3 n3 c3, Value.string ho, Value.slice a5 n5 c5, Value.slice a6 n6 c6, Value.int .i64 ag, Value.int .i64 ea, Value.slice a9 n9 c9, Value.bool false, Value.slice none 0 0, Value.slice none 0 0] = W2 at *
  simp only [puts, Act.put, List.setIfInBounds_toArray, List.set_cons_succ, List.set_cons_zero]
  clear OQ th RN h
  go_wp2
  exact bodyPost_ret (v := .agg #[Value.int .i64 1, Value.int .i64 v, Value.slice a2 n2 c2, Value.slice a3 n3 c3, Value.string ho, Value.slice a5 n5 c5, Value.slice a6 n6 c6, Value.int .i64 ag, Value.int .i64 ea, Value.slice a9 n9 c9, Value.bool false, Value.slice none 0 0, Value.slice none 0 0]) (results_cellM Tryz.results55 _ _ w.heap.size [Value.int .i64 1, Value.int .i64 v, Value.slice a2 n2 c2, Value.slice a3 n3 c3, Value.string ho, Value.slice a5 n5 c5, Value.slice a6 n6 c6, Value.int .i64 ag, Value.int .i64 ea, Value.slice a9 n9 c9, Value.bool false, Value.slice none 0 0, Value.slice none 0 0] d13 rfl RR hd13 hrow13 iM) rfl ⟨rfl, N2⟩
end
def helloM (m : Msg) : Msg := { msg0 with k := 1, v := m.v, r := m.r, s := m.s, ho := m.ho, pr := m.pr, ti := m.ti, ag := m.ag, ea := m.ea, bi := m.bi }
end Go.Proofs.YtdnkgmlidhepbaaGreat
namespace Go.Proofs.YtdnkgmlidhepbaaGreat
open Go Go.RowKit
def kfF (m : Msg) : Option (Msg × Int) := if m.k = 1 then some (helloM m, heF m.v m.r.length m.s.length m.ho m.pr m.ti.length m.bi.length m.ag m.ea) else if m.k = 2 then some (answerM m, fpF m.v m.r.length m.s.length) else if m.k = 4 then some (ticketM m, tiF m.ag m.ea m.r.length m.ti.length) else if m.k = 5 then some (endM m, 0) else if m.k = 8 then some (extrasM m, exF m.pr m.ea) else if m.k = 11 then some (certsM m, ceF m.ce) else if m.k = 15 then some (proofM m, pfF 64 m.pf.length) else if m.k = 20 then some (finishedM m, pfF 32 m.pf.length) else if m.k = 24 then some (updateM m, upF m.ea) else none
def mfF (m : Msg) : Int :=
  match kfF m with
  | none => 1
  | some (m', f) => if sameM m' m = true then f else 2
end Go.Proofs.YtdnkgmlidhepbaaGreat
namespace Go.Proofs.YtdnkgmlidhepbaaGreat
open Go Go.RowKit
theorem row_slice {w : World} {b : Nat} {v : Value} {xs : List Int} (R : RowB w b v xs) : ∃ (a : Option Addr) (c g : Nat), v = .slice a xs.length c ∧ Rd w g a .u8 xs ∧ (a = none → c = 0) := by
  obtain ⟨a, c, g, e, r, z, -, -⟩ := R.rd
  exact ⟨a, c, g, e, r, z⟩
theorem Gr.row {w W : World} {cs : List Value} {v : Value} {xs : List Int} (h : Gr w cs W v xs) {b : Nat} {u : Value} {us : List Int} (R : RowB W b u us) (hl : xs.length + us.length ≤ 1099511627776) :
    ∃ v' w', (Builtin.append_ #[22, 22] 22 #[v, u]).run Tryz.prog W = .ok v' w' ∧ Gr w cs w' v' (xs ++ us) := by
  obtain ⟨a, c, g, e, r, z⟩ := row_slice R
  obtain ⟨v', w', h1, h2, -⟩ := h.app g a c us r z hl
  rw [e]
  exact ⟨v', w', h1, h2⟩
set_option maxRecDepth 100000 in
set_option maxHeartbeats 4000000 in
theorem sbTicket_any (w : World) (x1 x3 x4 x5 x9 x10 x11 x12 : Value) (ag ea : Int) (a0 : 0 ≤ ag) (a1 : ag < 9223372036854775808) (e0 : 0 ≤ ea) (e1 : ea < 9223372036854775808) (l2 l6 : Lst) (H2 : LstR w l2) (H6 : LstR w l6) :
    Calls Tryz.prog 42 #[.agg #[.int .i64 4, x1, .slice l2.a l2.xs.length l2.c, x3, x4, x5, .slice l6.a l6.xs.length l6.c, .int .i64 ag, .int .i64 ea, x9, x10, x11, x12]] w (BodP w (tkL ag ea l2.xs l6.xs)) := by
  have G0 := Gr.start w #[.int .i64 4, x1, .slice l2.a l2.xs.length l2.c, x3, x4, x5, .slice l6.a l6.xs.length l6.c, .int .i64 ag, .int .i64 ea, x9, x10, x11, x12].toList
  have m2 := H2.m
  have m6 := H6.m
  obtain ⟨OUT, hO'⟩ : ∃ l : List Int, l = tkL ag ea l2.xs l6.xs := ⟨_, rfl⟩
  rw [← hO']
  have hO := hide hO'
  clear hO'
  have k0 := G0.c.cell 0
  have z1 : (w.alloc (.cells #[.int .i64 4, x1, .slice l2.a l2.xs.length l2.c, x3, x4, x5, .slice l6.a l6.xs.length l6.c, .int .i64 ag, .int .i64 ea, x9, x10, x11, x12] 26)).heap.size = w.heap.size + 1 := by simp
  go_enter Tryz.func42, Tryz.ntmps42
  go_upto_region 19 with fail
  clear k0 z1
  obtain ⟨vR, hvR⟩ : ∃ x, x = Value.slice (some ⟨w.heap.size + 1, 0, none⟩) 0 0 := ⟨_, rfl⟩
  rw [← hvR] at G0 ⊢
  clear hvR
  generalize (w.alloc (.cells #[.int .i64 4, x1, .slice l2.a l2.xs.length l2.c, x3, x4, x5, .slice l6.a l6.xs.length l6.c, .int .i64 ag, .int .i64 ea, x9, x10, x11, x12] 26)).alloc (.cells #[] 5) = W2 at *
  have c7 := G0.c.cell 7
  have L1 := hide (l1BigB_any W2 ag 4 a0 a1 (by decide))
  go_wp2_with fail
  refine L1.out.mono ?_
  rintro e W3 ⟨rfl, R3, n3⟩
  obtain ⟨v4, W4, hap, G1⟩ := (G0.up n3).row R3 (by rw [bigL_len]; simp)
  rw [List.nil_append] at G1
  have c8 := G1.c.cell 8
  have L2 := hide (l1BigB_any W4 ea 4 e0 e1 (by decide))
  clear G0 R3 n3 L1 c7
  go_wp2_with (at_builtin; refine Lib.wpList_append_run _ rfl _ _ 22 22 rfl _ _ rfl rfl _ _ hap ?_)
  clear hap
  refine L2.out.mono ?_
  rintro e W5 ⟨rfl, R5, n5⟩
  obtain ⟨v6, W6, hap, G2⟩ := (G1.up n5).row R5 (by rw [bigL_len, bigL_len]; simp)
  clear G1 R5 n5 L2 c8
  go_upto_region 21 with (at_builtin; refine Lib.wpList_append_run _ rfl _ _ 22 22 rfl _ _ rfl rfl _ _ hap ?_)
  clear hap
  obtain ⟨BB, hBB⟩ : ∃ l, l = bigL ag 4 ++ bigL ea 4 := ⟨_, rfl⟩
  have lB : Hid (BB.length = 8) := by show _ = _; rw [hBB, List.length_append, bigL_len, bigL_len]
  rw [← hBB] at G2
  have hO2 : Hid (OUT = (BB ++ l2.xs) ++ loL l6.xs) := by show _ = _; rw [hO.out, hBB]; rfl
  clear hBB hO
  have nd : Below W6.heap.size W6 W6.drew := (Below.refl _ _).drew
  have G3 := G2.up nd
  have A95 := hide (G3.app l2.g l2.a l2.c l2.xs (G3.list H2).r H2.z (by rw [lB.out]; omega))
  have A98 : Hid (∀ v' W zs, Gr w #[.int .i64 4, x1, .slice l2.a l2.xs.length l2.c, x3, x4, x5, .slice l6.a l6.xs.length l6.c, .int .i64 ag, .int .i64 ea, x9, x10, x11, x12].toList W v' zs → Calls Tryz.prog 66 #[.slice l6.a l6.xs.length l6.c] W (BodP W (loL l6.xs))) := fun v' W zs h => l13Long_any W l6 (h.list H6)
  have A99 : Hid (∀ v' W u b, Gr w #[.int .i64 4, x1, .slice l2.a l2.xs.length l2.c, x3, x4, x5, .slice l6.a l6.xs.length l6.c, .int .i64 ag, .int .i64 ea, x9, x10, x11, x12].toList W v' (BB ++ l2.xs) → RowB W b u (loL l6.xs) → ∃ v'' w', (Builtin.append_ #[22, 22] 22 #[v', u]).run Tryz.prog W = .ok v'' w' ∧ Gr w #[.int .i64 4, x1, .slice l2.a l2.xs.length l2.c, x3, x4, x5, .slice l6.a l6.xs.length l6.c, .int .i64 ag, .int .i64 ea, x9, x10, x11, x12].toList w' v'' ((BB ++ l2.xs) ++ loL l6.xs)) := fun v' W u b h R => h.row R (by rw [List.length_append, lB.out, loL_len]; omega)
  have CY : Hid (∀ W v' zs, Gr w #[.int .i64 4, x1, .slice l2.a l2.xs.length l2.c, x3, x4, x5, .slice l6.a l6.xs.length l6.c, .int .i64 ag, .int .i64 ea, x9, x10, x11, x12].toList W v' zs → (W.cell? ⟨w.heap.size, 2, none⟩ = some (.slice l2.a l2.xs.length l2.c) ∧ W.cell? ⟨w.heap.size, 6, none⟩ = some (.slice l6.a l6.xs.length l6.c))) := fun W v' zs h => ⟨h.c.cell 2, h.c.cell 6⟩
  go_region_held3 (fun W => W.cell? ⟨w.heap.size, 2, none⟩ = some (.slice l2.a l2.xs.length l2.c) ∧ W.cell? ⟨w.heap.size, 6, none⟩ = some (.slice l6.a l6.xs.length l6.c))
    (first | exact (unhide CY) _ _ _ G3 | exact (unhide CY) _ _ _ G4 | exact (unhide CY) _ _ _ G5 | exact (unhide CY) _ _ _ G6)
    (first
      | (refine step_append_exM rfl (.tmp 92) (.tmp 94) 22 22 rfl v6 (.slice l2.a l2.xs.length l2.c) rfl rfl _ A95.out ?_; rintro v95 w95 ⟨G4, -⟩; (have B98 := hide ((unhide A98) v95 w95 _ G4)))
      | (go_at_call 66; refine B98.out.mono ?_; rintro rr w98 ⟨⟨v98, rfl, R98⟩, n98⟩; (have G5 := G4.up n98); (have B99 := hide ((unhide A99) v95 w98 v98 _ G5 R98)))
      | (refine step_append_exM rfl (.tmp 95) (.tmp 98) 22 22 rfl v95 v98 rfl rfl _ B99.out ?_; rintro v99 w99 G6)
      | fail)
  have FIN : Hid (BodP w OUT (.returned v99) w99) := by show BodP _ _ _ _; rw [hO2.out]; exact G6.body
  clear A95 A98 A99 B98 B99 CY G2 G3 G4 G5 G6 nd R98 n98
  go_wp2
  go_ret
  exact FIN.out
set_option maxRecDepth 100000 in
set_option maxHeartbeats 4000000 in
theorem sbExtras_any (w : World) (x1 x2 x3 x4 x6 x7 x9 x10 x11 x12 : Value) (g : Nat) (a : Option Addr) (c : Nat) (ls : List (List UInt8)) (H : TxsR w g a ls) (hs : ∀ l ∈ ls, l.length ≤ 255) (ea : Int) (e0 : 0 ≤ ea) (e1 : ea ≤ 255) :
    Calls Tryz.prog 42 #[.agg #[.int .i64 8, x1, x2, x3, x4, .slice a ls.length c, x6, x7, .int .i64 ea, x9, x10, x11, x12]] w (BodP w (lsL ls ++ bigL ea 1)) := by
  obtain ⟨i0, hi, hz0, hz1, hz2⟩ := info_parts Tryz.info5
  have G0 := Gr.start w #[.int .i64 8, x1, x2, x3, x4, .slice a ls.length c, x6, x7, .int .i64 ea, x9, x10, x11, x12].toList
  obtain ⟨OUT, hO'⟩ : ∃ l : List Int, l = lsL ls ++ bigL ea 1 := ⟨_, rfl⟩
  rw [← hO']
  have hO : Hid (OUT = lsL ls ++ [ea]) := by show _ = _; rw [hO', big1 ea e0 e1]
  clear hO'
  have LL : Hid ((lsL ls).length ≤ 8388617) := lsL_len ls H.n H.z
  have k0 := G0.c.cell 0
  have z1 : (w.alloc (.cells #[.int .i64 8, x1, x2, x3, x4, .slice a ls.length c, x6, x7, .int .i64 ea, x9, x10, x11, x12] 26)).heap.size = w.heap.size + 1 := by simp
  have w8 : IntKind.u8.wrap ea = ea := by simp [IntKind.wrap, IntKind.signed, IntKind.bits]; omega
  go_enter Tryz.func42, Tryz.ntmps42
  go_upto_region 23 with fail
  clear k0 z1
  obtain ⟨vR, hvR⟩ : ∃ x, x = Value.slice (some ⟨w.heap.size + 1, 0, none⟩) 0 0 := ⟨_, rfl⟩
  rw [← hvR] at G0 ⊢
  clear hvR
  generalize (w.alloc (.cells #[.int .i64 8, x1, x2, x3, x4, .slice a ls.length c, x6, x7, .int .i64 ea, x9, x10, x11, x12] 26)).alloc (.cells #[] 5) = W2 at *
  have nd : Below W2.heap.size W2 W2.drew := (Below.refl _ _).drew
  have zz := G0.n.size
  have bA : ∀ {W : World}, Below W2.heap.size W2 W → ∀ o, Below W2.heap.size W2 (W.alloc o) := fun n o => n.alloc n.size o
  have CL : Hid (∀ W, Below W2.heap.size W2 W → Calls Tryz.prog 65 #[.slice a ls.length c] W fun e w' => ∃ v, e = .returned v ∧ RowB w' W2.heap.size v (lsL ls) ∧ Below W2.heap.size W2 w' ∧ Below W.heap.size W w') := fun W m => (l13List_any W g a c ls (H.up (nxt G0.n m)) hs).mono (by rintro e w' ⟨⟨v, rfl, R⟩, n⟩; exact ⟨v, rfl, R.base m.size, nxt m n, n⟩)
  have AP : Hid (∀ W v q, Below W2.heap.size W2 W → RowB W W2.heap.size v (lsL ls) → Rd W q (some ⟨q, 0, none⟩) .u8 [ea] → ∃ v' w', (Builtin.append_ #[22, 22] 22 #[v, .slice (some ⟨q, 0, none⟩) 1 1]).run Tryz.prog W = .ok v' w' ∧ (RowB w' W2.heap.size v' (lsL ls ++ [ea]) ∧ Below W2.heap.size W2 w')) := fun W v q m R r => by
    obtain ⟨v', w', h1, h2, h3⟩ := append_any (P := Tryz.prog) W 22 i0 Tryz.underlying22 hi hz0 hz1 hz2 W2.heap.size W2.heap.size v (lsL ls) R q (some ⟨q, 0, none⟩) 1 [ea] r (fun h => nomatch h) (by have := LL.out; simp; omega) (Nat.le_refl _) m.size
    exact ⟨v', w', h1, h2, m.trans h3⟩
  have CY : Hid (∀ W, Below W2.heap.size W2 W → (W.cell? ⟨w.heap.size, 5, none⟩ = some (.slice a ls.length c) ∧ W.cell? ⟨w.heap.size, 8, none⟩ = some (.int .i64 ea))) := fun W m => ⟨(G0.c.up m).cell 5, (G0.c.up m).cell 8⟩
  have C0 := hide ((unhide CL) W2.drew nd)
  have C1 := hide ((unhide CL) (W2.drew.alloc (.cells #[.int .u8 ea] 5)) (bA nd _))
  have rE : Rd (W2.drew.alloc (.cells #[.int .u8 ea] 5)) W2.heap.size (some ⟨W2.heap.size, 0, none⟩) .u8 [ea] := (blk_lit1 W2.drew .u8 5 ea).own0.rd
  go_region_held3 (fun W => W.cell? ⟨w.heap.size, 5, none⟩ = some (.slice a ls.length c) ∧ W.cell? ⟨w.heap.size, 8, none⟩ = some (.int .i64 ea))
    (first | exact (unhide CY) _ nd | exact (unhide CY) _ (bA nd _) | exact (unhide CY) _ n104 | exact (unhide CY) _ (bA n104 _) | exact (unhide CY) _ n109)
    (first
      | (go_at_call 65; refine C0.out.mono ?_; rintro rr w104 ⟨v104, rfl, R104, n104, m104⟩; (have B109a := hide ((unhide AP) (w104.alloc (.cells #[.int .u8 ea] 5)) v104 w104.heap.size (bA n104 _) (R104.up ((Below.refl _ _).alloc (Nat.le_refl _) _)) (blk_lit1 w104 .u8 5 ea).own0.rd)))
      | (go_at_call 65; refine C1.out.mono ?_; rintro rr w104 ⟨v104, rfl, R104, n104, m104⟩; (have B109b := hide ((unhide AP) w104 v104 W2.heap.size n104 R104 (rE.up m104))))
      | (refine step_append_exM rfl (.tmp 104) (.tmp 108) 22 22 rfl v104 (.slice (some ⟨w104.heap.size, 0, none⟩) 1 1) rfl rfl _ B109a.out ?_; rintro v109 w109 ⟨R109, n109⟩)
      | (refine step_append_exM rfl (.tmp 104) (.tmp 108) 22 22 rfl v104 (.slice (some ⟨W2.heap.size, 0, none⟩) 1 1) rfl rfl _ B109b.out ?_; rintro v109 w109 ⟨R109, n109⟩)
      | fail)
  all_goals
    have FIN : Hid (BodP w OUT (.returned v109) w109) := ⟨⟨v109, rfl, by rw [hO.out]; exact R109.base zz⟩, nxt G0.n n109⟩
    clear C0 C1 CL AP CY R104 m104 n104 R109 n109 G0 nd bA rE
    go_wp2
    go_ret
    exact FIN.out
end Go.Proofs.YtdnkgmlidhepbaaGreat
