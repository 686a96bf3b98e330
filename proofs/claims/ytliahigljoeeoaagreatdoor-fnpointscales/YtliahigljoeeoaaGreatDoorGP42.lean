import Derived.Test.YtliahigljoeeoaaGreatDoorGP41
import Derived.Test.YtliahigljoeeoaaGreatDoorHelp
import Derived.Test.YtliahigljoeeoaaGreatDoorNum
import Derived.Laws.AppendOwnNone
import Derived.Deep.MidRow
import Derived.Test.YtliahigljoeeoaaGreatDoorNum2
import Derived.Test.YtliahigljoeeoaaGreatDoorSpecA
import Derived.Test.YtliahigljoeeoaaGreatDoorGP40
import Derived.Test.YtliahigljoeeoaaGreatDoorLCan

/-
  The program's sums of points: fromRatios, add, double, and from one form of a point to another.
-/
namespace Go.Proofs.YtliahigljoeeoaaGreatDoor
set_option maxRecDepth 100000
open Go Go.RowKit

abbrev zX : Obj := .cells #[.int .u64 0, .int .u64 0, .int .u64 0, .int .u64 0, .int .u64 0, .int .u64 0, .int .u64 0, .int .u64 0, .int .u64 0, .int .u64 0, .int .u64 0, .int .u64 0, .int .u64 0, .int .u64 0, .int .u64 0, .int .u64 0, .int .u64 0, .int .u64 0, .int .u64 0, .int .u64 0] 141
abbrev zA : Obj := .cells #[.int .u64 0, .int .u64 0, .int .u64 0, .int .u64 0, .int .u64 0, .int .u64 0, .int .u64 0, .int .u64 0, .int .u64 0, .int .u64 0] 74
set_option maxHeartbeats 4000000 in
theorem fromRatios_any (w : World) (es fs : List (Nat → Int)) (A B C E : Int) (hes : IsN es [A, B]) (hfs : IsN fs [C, E]) :
    Calls Tryz.prog 171 #[agN es, agN fs] w fun r w' => ∃ ts, r = .returned (agN ts) ∧ IsN ts [A * E, C * B, B * E, A * C] ∧ Below w.heap.size w w' := by
  show Calls Tryz.prog 171 #[.agg (clN es).toArray, .agg (clN fs).toArray] w _
  have H0 := rowN_new w 205 hes
  have m0 : Below w.heap.size w (w.alloc (.cells (clN es).toArray 205)) := (Below.refl _ _).alloc (Nat.le_refl _) _
  have s0 : (w.alloc (.cells (clN es).toArray 205)).heap.size = w.heap.size + 1 := by simp
  have H1 := fun W => rowN_new W 205 hfs
  obtain ⟨V0, hV0⟩ : ∃ V, V = (clN es).toArray := ⟨_, rfl⟩
  obtain ⟨V1, hV1⟩ : ∃ V, V = (clN fs).toArray := ⟨_, rfl⟩
  rw [← hV0] at H0 m0 s0 ⊢
  simp only [← hV1] at H1 ⊢
  clear hV0 hV1 hes hfs
  go_enter Tryz.func171, Tryz.ntmps171
  go_upto_region 1 with fail
  generalize w.alloc (.cells V0 205) = wa0 at *
  have H1' := H1 wa0
  have m1 : Below wa0.heap.size wa0 (wa0.alloc (.cells V1 205)) := (Below.refl _ _).alloc (Nat.le_refl _) _
  have s1 : (wa0.alloc (.cells V1 205)).heap.size = wa0.heap.size + 1 := by simp
  rw [s0] at H1' s1
  generalize wa0.alloc (.cells V1 205) = wa1 at *
  have TR : (wa1.alloc zX).there wa1.heap.size 0 20 := there_new wa1 _ _
  have mz : Below wa1.heap.size wa1 (wa1.alloc zX) := (Below.refl _ _).alloc (Nat.le_refl _) _
  rw [s1] at TR
  have P0 := (H0.up m1).up mz
  have P1 := H1'.up mz
  have N := nxt (nxt m0 m1) mz
  clear H0 H1 H1' m0 s0 m1 s1 mz
  obtain ⟨wr, hwr⟩ : ∃ W, W = wa1.alloc zX := ⟨_, rfl⟩
  rw [← hwr] at TR N P0 P1
  change Code.wp _ _ _ _ (wa1.alloc zX)
  rw [← hwr]
  clear hwr
  refine region_putN 141 22 21 4 26 _ (fun i => [Fact.eq (.pointer (some ⟨w.heap.size, 0, none⟩)), EM (A), Fact.eq (.pointer (some ⟨w.heap.size + 1, 5, none⟩)), EM (E), EM ((A) * (E)), Fact.eq (.pointer (some ⟨w.heap.size + 1, 0, none⟩)), EM (C), Fact.eq (.pointer (some ⟨w.heap.size, 5, none⟩)), EM (B), EM ((C) * (B)), Fact.eq (.pointer (some ⟨w.heap.size, 5, none⟩)), EM (B), Fact.eq (.pointer (some ⟨w.heap.size + 1, 5, none⟩)), EM (E), EM ((B) * (E)), EN [(A) * (E), (C) * (B), (B) * (E)], Fact.eq (.pointer (some ⟨w.heap.size, 0, none⟩)), EM (A), Fact.eq (.pointer (some ⟨w.heap.size + 1, 0, none⟩)), EM (C), EM ((A) * (C)), EN [(A) * (E), (C) * (B), (B) * (E), (A) * (C)]].getD i Fact.no) [(A) * (E), (C) * (B), (B) * (E), (A) * (C)] _ (by kernel_rfl) rfl rfl rfl iX (Nat.zero_lt_succ _) (by kernel_rfl) rfl TR (by kernel_rfl) rfl ?_ ?_
  · intro i hi
    obtain rfl | rfl | rfl | rfl | rfl | rfl | rfl | rfl | rfl | rfl | rfl | rfl | rfl | rfl | rfl | rfl | rfl | rfl | rfl | rfl | rfl | rfl : i = 0 ∨ i = 1 ∨ i = 2 ∨ i = 3 ∨ i = 4 ∨ i = 5 ∨ i = 6 ∨ i = 7 ∨ i = 8 ∨ i = 9 ∨ i = 10 ∨ i = 11 ∨ i = 12 ∨ i = 13 ∨ i = 14 ∨ i = 15 ∨ i = 16 ∨ i = 17 ∨ i = 18 ∨ i = 19 ∨ i = 20 ∨ i = 21 := by omega
    · exact step_fld rfl 205 2 0 rfl (by kernel_rfl) _ _ rfl (fx10 _) rfl
    · exact step_e5f rfl 5 0 rfl (by kernel_rfl) _ _ rfl _ P0.at0 rfl
    · exact step_fld rfl 205 3 1 rfl (by kernel_rfl) _ _ rfl (fy10 _) rfl
    · exact step_e5f rfl 7 2 rfl (by kernel_rfl) _ _ rfl _ P1.tail.at0 rfl
    · exact step_mul5 rfl 6 8 1 3 _ _ rfl (by kernel_rfl) (by kernel_rfl) rfl rfl rfl
    · exact step_fld rfl 205 3 0 rfl (by kernel_rfl) _ _ rfl (fx10 _) rfl
    · exact step_e5f rfl 10 5 rfl (by kernel_rfl) _ _ rfl _ P1.at0 rfl
    · exact step_fld rfl 205 2 1 rfl (by kernel_rfl) _ _ rfl (fy10 _) rfl
    · exact step_e5f rfl 12 7 rfl (by kernel_rfl) _ _ rfl _ P0.tail.at0 rfl
    · exact step_mul5 rfl 11 13 6 8 _ _ rfl (by kernel_rfl) (by kernel_rfl) rfl rfl rfl
    · exact step_fld rfl 205 2 1 rfl (by kernel_rfl) _ _ rfl (fy10 _) rfl
    · exact step_e5f rfl 15 10 rfl (by kernel_rfl) _ _ rfl _ P0.tail.at0 rfl
    · exact step_fld rfl 205 3 1 rfl (by kernel_rfl) _ _ rfl (fy10 _) rfl
    · exact step_e5f rfl 17 12 rfl (by kernel_rfl) _ _ rfl _ P1.tail.at0 rfl
    · exact step_mul5 rfl 16 18 11 13 _ _ rfl (by kernel_rfl) (by kernel_rfl) rfl rfl rfl
    · exact step_bP rfl 9 14 19 4 9 14 _ _ _ rfl (by kernel_rfl) (by kernel_rfl) (by kernel_rfl) rfl rfl rfl rfl
    · exact step_fld rfl 205 2 0 rfl (by kernel_rfl) _ _ rfl (fx10 _) rfl
    · exact step_e5f rfl 21 16 rfl (by kernel_rfl) _ _ rfl _ P0.at0 rfl
    · exact step_fld rfl 205 3 0 rfl (by kernel_rfl) _ _ rfl (fx10 _) rfl
    · exact step_e5f rfl 23 18 rfl (by kernel_rfl) _ _ rfl _ P1.at0 rfl
    · exact step_mul5 rfl 22 24 17 19 _ _ rfl (by kernel_rfl) (by kernel_rfl) rfl rfl rfl
    · exact step_bX rfl 20 25 15 20 _ _ _ _ rfl (by kernel_rfl) (by kernel_rfl) rfl rfl rfl
  intro vsL Wa Wb na bq RL nb TL
  have NS := nb w w.heap.size (nxt N na) (by omega)
  simp only [puts, Act.put, List.setIfInBounds_toArray, List.set_cons_succ, List.set_cons_zero]
  clear bq nb na N TR TL P0 P1
  go_wp2
  obtain ⟨ts, rg, _, ht⟩ := RL
  have lz := clN_len ht
  obtain ⟨fs, hfs⟩ := uX
  exact bodyPost_ret (v := agN ts) (results_cell_mid Tryz.results171 _ _ (w.heap.size + 1 + 1) (clN ts) _ rfl rg hfs rfl (by rw [lz]; exact iX)) rfl ⟨ts, rfl, ht, NS⟩
section
variable {ops : Array Oper} {Q : Exit → Act → World → Prop} {md : Region.Mode} {F : Nat → Fact} {a0 : Act} {w0 : World} {i : Nat} {o : Oper} {ts : Array TypeId}
theorem step_fr (hi : ops[i]? = some o) (p q j k : Nat) (A B C E : Int) (hop : o.op = .call { callee := .value (.func 171), args := #[.tmp p, .tmp q], argTypes := ts })
    (hj : waits md ops i j p = true) (hk : waits md ops i k q = true) (hFj : F j = EN [A, B]) (hFk : F k = EN [C, E]) (hFi : F i = EN [A * E, C * B, B * E, A * C]) : StepOk Tryz.prog md ops Q F a0 w0 i :=
  step_twoN hi _ p q hop (by kernel_rfl) j k _ _ _ (fun w es fs _ he hf => fromRatios_any w es fs A B C E he hf) hj hk hFj hFk hFi
end
def xaR (X Y X' Y' : Int) : Int := (Y + X) * (Y' + X') - (Y - X) * (Y' - X')
def yaR (X Y X' Y' : Int) : Int := (Y + X) * (Y' + X') + (Y - X) * (Y' - X')
def xbR (Z T Z' T' D : Int) : Int := (Z * Z' + Z * Z') + (T * T' * D + T * T' * D)
def ybR (Z T Z' T' D : Int) : Int := (Z * Z' + Z * Z') - (T * T' * D + T * T' * D)
set_option maxHeartbeats 4000000 in
theorem extAdd_any (w : World) (D : Int) (es fs : List (Nat → Int)) (T T' X X' Y Y' Z Z' : Int) (hes : IsN es [X, Y, Z, T]) (hfs : IsN fs [X', Y', Z', T']) (TT : HasTw w 8) (CC : Em5 w 6 0 D) :
    Calls Tryz.prog 115 #[agN es, agN fs] w fun r w' => ∃ ts, r = .returned (agN ts) ∧ IsN ts [xaR X Y X' Y' * ybR Z T Z' T' D, yaR X Y X' Y' * xbR Z T Z' T' D, xbR Z T Z' T' D * ybR Z T Z' T' D, xaR X Y X' Y' * yaR X Y X' Y'] ∧ Below w.heap.size w w' := by
  show Calls Tryz.prog 115 #[.agg (clN es).toArray, .agg (clN fs).toArray] w _
  have H0 := rowN_new w 141 hes
  have m0 : Below w.heap.size w (w.alloc (.cells (clN es).toArray 141)) := (Below.refl _ _).alloc (Nat.le_refl _) _
  have s0 : (w.alloc (.cells (clN es).toArray 141)).heap.size = w.heap.size + 1 := by simp
  have H1 := fun W => rowN_new W 141 hfs
  obtain ⟨V0, hV0⟩ : ∃ V, V = (clN es).toArray := ⟨_, rfl⟩
  obtain ⟨V1, hV1⟩ : ∃ V, V = (clN fs).toArray := ⟨_, rfl⟩
  rw [← hV0] at H0 m0 s0 ⊢
  simp only [← hV1] at H1 ⊢
  clear hV0 hV1 hes hfs
  go_enter Tryz.func115, Tryz.ntmps115
  go_upto_region 1 with fail
  generalize w.alloc (.cells V0 141) = wa0 at *
  have H1' := H1 wa0
  have m1 : Below wa0.heap.size wa0 (wa0.alloc (.cells V1 141)) := (Below.refl _ _).alloc (Nat.le_refl _) _
  have s1 : (wa0.alloc (.cells V1 141)).heap.size = wa0.heap.size + 1 := by simp
  rw [s0] at H1' s1
  generalize wa0.alloc (.cells V1 141) = wa1 at *
  have TR : (wa1.alloc zX).there wa1.heap.size 0 20 := there_new wa1 _ _
  have mz : Below wa1.heap.size wa1 (wa1.alloc zX) := (Below.refl _ _).alloc (Nat.le_refl _) _
  rw [s1] at TR
  have P0 := (H0.up m1).up mz
  have P1 := H1'.up mz
  have N := nxt (nxt m0 m1) mz
  clear H0 H1 H1' m0 s0 m1 s1 mz
  obtain ⟨wr, hwr⟩ : ∃ W, W = wa1.alloc zX := ⟨_, rfl⟩
  rw [← hwr] at TR N P0 P1
  change Code.wp _ _ _ _ (wa1.alloc zX)
  rw [← hwr]
  clear hwr
  replace TT := TT.up N
  replace CC := CC.up N
  refine region_new5 16 15 14 5 25 _ (fun i => [Fact.eq (.pointer (some ⟨w.heap.size, 0, none⟩)), Fact.eq (.pointer (some ⟨w.heap.size, 5, none⟩)), EM (Y), Fact.eq (.pointer (some ⟨w.heap.size, 0, none⟩)), Fact.eq (.pointer (some ⟨w.heap.size, 0, none⟩)), EM (X), EM ((Y) - (X)), Fact.eq (.pointer (some ⟨w.heap.size + 1, 0, none⟩)), Fact.eq (.pointer (some ⟨w.heap.size + 1, 5, none⟩)), EM (Y'), Fact.eq (.pointer (some ⟨w.heap.size + 1, 0, none⟩)), Fact.eq (.pointer (some ⟨w.heap.size + 1, 0, none⟩)), EM (X'), EM ((Y') - (X')), EM (((Y) - (X)) * ((Y') - (X'))), NB wr 5].getD i Fact.no) (((Y) - (X)) * ((Y') - (X'))) (by kernel_rfl) rfl rfl rfl (by kernel_rfl) (by kernel_rfl) rfl rfl ?_ ?_
  · intro i hi
    obtain rfl | rfl | rfl | rfl | rfl | rfl | rfl | rfl | rfl | rfl | rfl | rfl | rfl | rfl | rfl | rfl : i = 0 ∨ i = 1 ∨ i = 2 ∨ i = 3 ∨ i = 4 ∨ i = 5 ∨ i = 6 ∨ i = 7 ∨ i = 8 ∨ i = 9 ∨ i = 10 ∨ i = 11 ∨ i = 12 ∨ i = 13 ∨ i = 14 ∨ i = 15 := by omega
    · exact step_fld rfl 141 2 0 rfl (by kernel_rfl) _ _ rfl (fpX _) rfl
    · exact step_fldf rfl 139 11 1 0 rfl (by kernel_rfl) _ _ rfl (fyJ _) rfl
    · exact step_e5f rfl 12 1 rfl (by kernel_rfl) _ _ rfl _ P0.tail.at0 rfl
    · exact step_fld rfl 141 2 0 rfl (by kernel_rfl) _ _ rfl (fpX _) rfl
    · exact step_fldf rfl 139 14 0 3 rfl (by kernel_rfl) _ _ rfl (fxJ _) rfl
    · exact step_e5f rfl 15 4 rfl (by kernel_rfl) _ _ rfl _ P0.at0 rfl
    · exact step_sub5 TT rfl 13 16 2 5 _ _ rfl (by kernel_rfl) (by kernel_rfl) rfl rfl rfl
    · exact step_fld rfl 141 3 0 rfl (by kernel_rfl) _ _ rfl (fpX _) rfl
    · exact step_fldf rfl 139 18 1 7 rfl (by kernel_rfl) _ _ rfl (fyJ _) rfl
    · exact step_e5f rfl 19 8 rfl (by kernel_rfl) _ _ rfl _ P1.tail.at0 rfl
    · exact step_fld rfl 141 3 0 rfl (by kernel_rfl) _ _ rfl (fpX _) rfl
    · exact step_fldf rfl 139 21 0 10 rfl (by kernel_rfl) _ _ rfl (fxJ _) rfl
    · exact step_e5f rfl 22 11 rfl (by kernel_rfl) _ _ rfl _ P1.at0 rfl
    · exact step_sub5 TT rfl 20 23 9 12 _ _ rfl (by kernel_rfl) (by kernel_rfl) rfl rfl rfl
    · exact step_mul5 rfl 17 24 6 13 _ _ rfl (by kernel_rfl) (by kernel_rfl) rfl rfl rfl
    · exact step_new5 rfl rfl rfl
  intro vs1 q5 W1 v5 l5 n E5
  replace P0 := P0.up n
  replace P1 := P1.up n
  replace TT := TT.up n
  replace CC := CC.up n
  replace TR := there_up (by omega) TR n
  replace N := nxt N n
  clear n
  obtain ⟨x5, g5⟩ : ∃ e : Int, e = ((Y) - (X)) * ((Y') - (X')) := ⟨_, rfl⟩
  rw [← g5] at E5
  simp only [puts, v5, Act.put, List.setIfInBounds_toArray, List.set_cons_succ, List.set_cons_zero]
  clear v5
  go_upto_region 2 with fail
  refine region_new5 16 15 14 6 40 _ (fun i => [Fact.eq (.pointer (some ⟨w.heap.size, 0, none⟩)), Fact.eq (.pointer (some ⟨w.heap.size, 5, none⟩)), EM (Y), Fact.eq (.pointer (some ⟨w.heap.size, 0, none⟩)), Fact.eq (.pointer (some ⟨w.heap.size, 0, none⟩)), EM (X), EM ((Y) + (X)), Fact.eq (.pointer (some ⟨w.heap.size + 1, 0, none⟩)), Fact.eq (.pointer (some ⟨w.heap.size + 1, 5, none⟩)), EM (Y'), Fact.eq (.pointer (some ⟨w.heap.size + 1, 0, none⟩)), Fact.eq (.pointer (some ⟨w.heap.size + 1, 0, none⟩)), EM (X'), EM ((Y') + (X')), EM (((Y) + (X)) * ((Y') + (X'))), NB W1 5].getD i Fact.no) (((Y) + (X)) * ((Y') + (X'))) (by kernel_rfl) rfl rfl rfl (by kernel_rfl) (by kernel_rfl) rfl rfl ?_ ?_
  · intro i hi
    obtain rfl | rfl | rfl | rfl | rfl | rfl | rfl | rfl | rfl | rfl | rfl | rfl | rfl | rfl | rfl | rfl : i = 0 ∨ i = 1 ∨ i = 2 ∨ i = 3 ∨ i = 4 ∨ i = 5 ∨ i = 6 ∨ i = 7 ∨ i = 8 ∨ i = 9 ∨ i = 10 ∨ i = 11 ∨ i = 12 ∨ i = 13 ∨ i = 14 ∨ i = 15 := by omega
    · exact step_fld rfl 141 2 0 rfl (by kernel_rfl) _ _ rfl (fpX _) rfl
    · exact step_fldf rfl 139 26 1 0 rfl (by kernel_rfl) _ _ rfl (fyJ _) rfl
    · exact step_e5f rfl 27 1 rfl (by kernel_rfl) _ _ rfl _ P0.tail.at0 rfl
    · exact step_fld rfl 141 2 0 rfl (by kernel_rfl) _ _ rfl (fpX _) rfl
    · exact step_fldf rfl 139 29 0 3 rfl (by kernel_rfl) _ _ rfl (fxJ _) rfl
    · exact step_e5f rfl 30 4 rfl (by kernel_rfl) _ _ rfl _ P0.at0 rfl
    · exact step_add5 rfl 28 31 2 5 _ _ rfl (by kernel_rfl) (by kernel_rfl) rfl rfl rfl
    · exact step_fld rfl 141 3 0 rfl (by kernel_rfl) _ _ rfl (fpX _) rfl
    · exact step_fldf rfl 139 33 1 7 rfl (by kernel_rfl) _ _ rfl (fyJ _) rfl
    · exact step_e5f rfl 34 8 rfl (by kernel_rfl) _ _ rfl _ P1.tail.at0 rfl
    · exact step_fld rfl 141 3 0 rfl (by kernel_rfl) _ _ rfl (fpX _) rfl
    · exact step_fldf rfl 139 36 0 10 rfl (by kernel_rfl) _ _ rfl (fxJ _) rfl
    · exact step_e5f rfl 37 11 rfl (by kernel_rfl) _ _ rfl _ P1.at0 rfl
    · exact step_add5 rfl 35 38 9 12 _ _ rfl (by kernel_rfl) (by kernel_rfl) rfl rfl rfl
    · exact step_mul5 rfl 32 39 6 13 _ _ rfl (by kernel_rfl) (by kernel_rfl) rfl rfl rfl
    · exact step_new5 rfl rfl rfl
  intro vs2 q6 W2 v6 l6 n E6
  replace P0 := P0.up n
  replace P1 := P1.up n
  replace TT := TT.up n
  replace CC := CC.up n
  replace E5 := E5.up n
  replace TR := there_up (by omega) TR n
  replace N := nxt N n
  clear n
  obtain ⟨x6, g6⟩ : ∃ e : Int, e = ((Y) + (X)) * ((Y') + (X')) := ⟨_, rfl⟩
  rw [← g6] at E6
  simp only [puts, v6, Act.put, List.setIfInBounds_toArray, List.set_cons_succ, List.set_cons_zero]
  clear v6
  go_upto_region 3 with fail
  refine region_new2 16 14 6 7 47 15 13 8 54 _ _ (fun i => [Fact.eq (.pointer (some ⟨w.heap.size, 15, none⟩)), EM (T), Fact.eq (.pointer (some ⟨w.heap.size + 1, 15, none⟩)), EM (T'), EM ((T) * (T')), EM (D), EM (((T) * (T')) * (D)), Fact.eq (.pointer (some ⟨w.heap.size, 0, none⟩)), Fact.eq (.pointer (some ⟨w.heap.size, 10, none⟩)), EM (Z), Fact.eq (.pointer (some ⟨w.heap.size + 1, 0, none⟩)), Fact.eq (.pointer (some ⟨w.heap.size + 1, 10, none⟩)), EM (Z'), EM ((Z) * (Z')), NB W2 5, NB W2 5].getD i Fact.no) (((T) * (T')) * (D)) ((Z) * (Z')) (by kernel_rfl) rfl rfl rfl rfl rfl rfl rfl rfl rfl (by kernel_rfl) (by kernel_rfl) (by kernel_rfl) (by kernel_rfl) rfl rfl rfl rfl (by decide) (fresh_new5 rfl rfl rfl) (fresh_new5 rfl rfl rfl) ?_ ?_
  · intro i hi
    obtain rfl | rfl | rfl | rfl | rfl | rfl | rfl | rfl | rfl | rfl | rfl | rfl | rfl | rfl | rfl | rfl : i = 0 ∨ i = 1 ∨ i = 2 ∨ i = 3 ∨ i = 4 ∨ i = 5 ∨ i = 6 ∨ i = 7 ∨ i = 8 ∨ i = 9 ∨ i = 10 ∨ i = 11 ∨ i = 12 ∨ i = 13 ∨ i = 14 ∨ i = 15 := by omega
    · exact step_fld rfl 141 2 1 rfl (by kernel_rfl) _ _ rfl (ftX _) rfl
    · exact step_e5f rfl 41 0 rfl (by kernel_rfl) _ _ rfl _ P0.tail.tail.tail.at0 rfl
    · exact step_fld rfl 141 3 1 rfl (by kernel_rfl) _ _ rfl (ftX _) rfl
    · exact step_e5f rfl 43 2 rfl (by kernel_rfl) _ _ rfl _ P1.tail.tail.tail.at0 rfl
    · exact step_mul5 rfl 42 44 1 3 _ _ rfl (by kernel_rfl) (by kernel_rfl) rfl rfl rfl
    · exact step_gl5 rfl 6 rfl _ CC rfl
    · exact step_mul5 rfl 45 46 4 5 _ _ rfl (by kernel_rfl) (by kernel_rfl) rfl rfl rfl
    · exact step_fld rfl 141 2 0 rfl (by kernel_rfl) _ _ rfl (fpX _) rfl
    · exact step_fldf rfl 139 48 2 7 rfl (by kernel_rfl) _ _ rfl (fzJ _) rfl
    · exact step_e5f rfl 49 8 rfl (by kernel_rfl) _ _ rfl _ P0.tail.tail.at0 rfl
    · exact step_fld rfl 141 3 0 rfl (by kernel_rfl) _ _ rfl (fpX _) rfl
    · exact step_fldf rfl 139 51 2 10 rfl (by kernel_rfl) _ _ rfl (fzJ _) rfl
    · exact step_e5f rfl 52 11 rfl (by kernel_rfl) _ _ rfl _ P1.tail.tail.at0 rfl
    · exact step_mul5 rfl 50 53 9 12 _ _ rfl (by kernel_rfl) (by kernel_rfl) rfl rfl rfl
    · exact step_new5 rfl rfl rfl
    · exact step_new5 rfl rfl rfl
  intro vs3 q7 q8 W3 v7 v8 l7 l8 n55 n E7 E8
  clear n55
  replace P0 := P0.up n
  replace P1 := P1.up n
  replace TT := TT.up n
  replace CC := CC.up n
  replace E5 := E5.up n
  replace E6 := E6.up n
  replace TR := there_up (by omega) TR n
  replace N := nxt N n
  clear n
  obtain ⟨x7, g7⟩ : ∃ e : Int, e = ((T) * (T')) * (D) := ⟨_, rfl⟩
  rw [← g7] at E7
  obtain ⟨x8, g8⟩ : ∃ e : Int, e = (Z) * (Z') := ⟨_, rfl⟩
  rw [← g8] at E8
  simp only [puts, v7, v8, Act.put, List.setIfInBounds_toArray, List.set_cons_succ, List.set_cons_zero]
  clear v7 v8
  go_upto_region 4 with fail
  refine region_new2 8 6 2 9 57 7 5 10 60 _ _ (fun i => [EM (x7), EM (x7), EM ((x7) + (x7)), EM (x8), EM (x8), EM ((x8) + (x8)), NB W3 5, NB W3 5].getD i Fact.no) ((x7) + (x7)) ((x8) + (x8)) (by kernel_rfl) rfl rfl rfl rfl rfl rfl rfl rfl rfl (by kernel_rfl) (by kernel_rfl) (by kernel_rfl) (by kernel_rfl) rfl rfl rfl rfl (by decide) (fresh_new5 rfl rfl rfl) (fresh_new5 rfl rfl rfl) ?_ ?_
  · intro i hi
    obtain rfl | rfl | rfl | rfl | rfl | rfl | rfl | rfl : i = 0 ∨ i = 1 ∨ i = 2 ∨ i = 3 ∨ i = 4 ∨ i = 5 ∨ i = 6 ∨ i = 7 := by omega
    · exact step_e5 rfl 7 rfl (by kernel_rfl) _ _ rfl _ E7 rfl
    · exact step_e5 rfl 7 rfl (by kernel_rfl) _ _ rfl _ E7 rfl
    · exact step_add5 rfl 55 56 0 1 _ _ rfl (by kernel_rfl) (by kernel_rfl) rfl rfl rfl
    · exact step_e5 rfl 8 rfl (by kernel_rfl) _ _ rfl _ E8 rfl
    · exact step_e5 rfl 8 rfl (by kernel_rfl) _ _ rfl _ E8 rfl
    · exact step_add5 rfl 58 59 3 4 _ _ rfl (by kernel_rfl) (by kernel_rfl) rfl rfl rfl
    · exact step_new5 rfl rfl rfl
    · exact step_new5 rfl rfl rfl
  intro vs4 q9 q10 W4 v9 v10 l9 l10 n55 n E9 E10
  clear n55
  replace P0 := P0.up n
  replace P1 := P1.up n
  replace TT := TT.up n
  replace CC := CC.up n
  replace E5 := E5.up n
  replace E6 := E6.up n
  replace E7 := E7.up n
  replace E8 := E8.up n
  replace TR := there_up (by omega) TR n
  replace N := nxt N n
  clear n
  obtain ⟨x9, g9⟩ : ∃ e : Int, e = (x7) + (x7) := ⟨_, rfl⟩
  rw [← g9] at E9
  obtain ⟨x10, g10⟩ : ∃ e : Int, e = (x8) + (x8) := ⟨_, rfl⟩
  rw [← g10] at E10
  simp only [puts, v9, v10, Act.put, List.setIfInBounds_toArray, List.set_cons_succ, List.set_cons_zero]
  clear v9 v10
  go_upto_region 5 with fail
  refine region_putN 141 15 14 4 75 _ (fun i => [EM (x6), EM (x5), EM ((x6) - (x5)), EM (x10), EM (x9), EM ((x10) + (x9)), EN [(x6) - (x5), (x10) + (x9)], EM (x6), EM (x5), EM ((x6) + (x5)), EM (x10), EM (x9), EM ((x10) - (x9)), EN [(x6) + (x5), (x10) - (x9)], EN [((x6) - (x5)) * ((x10) - (x9)), ((x6) + (x5)) * ((x10) + (x9)), ((x10) + (x9)) * ((x10) - (x9)), ((x6) - (x5)) * ((x6) + (x5))]].getD i Fact.no) [((x6) - (x5)) * ((x10) - (x9)), ((x6) + (x5)) * ((x10) + (x9)), ((x10) + (x9)) * ((x10) - (x9)), ((x6) - (x5)) * ((x6) + (x5))] _ (by kernel_rfl) rfl rfl rfl iX (Nat.zero_lt_succ _) (by kernel_rfl) rfl TR (by kernel_rfl) rfl ?_ ?_
  · intro i hi
    obtain rfl | rfl | rfl | rfl | rfl | rfl | rfl | rfl | rfl | rfl | rfl | rfl | rfl | rfl | rfl : i = 0 ∨ i = 1 ∨ i = 2 ∨ i = 3 ∨ i = 4 ∨ i = 5 ∨ i = 6 ∨ i = 7 ∨ i = 8 ∨ i = 9 ∨ i = 10 ∨ i = 11 ∨ i = 12 ∨ i = 13 ∨ i = 14 := by omega
    · exact step_e5 rfl 6 rfl (by kernel_rfl) _ _ rfl _ E6 rfl
    · exact step_e5 rfl 5 rfl (by kernel_rfl) _ _ rfl _ E5 rfl
    · exact step_sub5 TT rfl 61 62 0 1 _ _ rfl (by kernel_rfl) (by kernel_rfl) rfl rfl rfl
    · exact step_e5 rfl 10 rfl (by kernel_rfl) _ _ rfl _ E10 rfl
    · exact step_e5 rfl 9 rfl (by kernel_rfl) _ _ rfl _ E9 rfl
    · exact step_add5 rfl 64 65 3 4 _ _ rfl (by kernel_rfl) (by kernel_rfl) rfl rfl rfl
    · exact step_bR rfl 63 66 2 5 _ _ rfl (by kernel_rfl) (by kernel_rfl) rfl rfl rfl
    · exact step_e5 rfl 6 rfl (by kernel_rfl) _ _ rfl _ E6 rfl
    · exact step_e5 rfl 5 rfl (by kernel_rfl) _ _ rfl _ E5 rfl
    · exact step_add5 rfl 68 69 7 8 _ _ rfl (by kernel_rfl) (by kernel_rfl) rfl rfl rfl
    · exact step_e5 rfl 10 rfl (by kernel_rfl) _ _ rfl _ E10 rfl
    · exact step_e5 rfl 9 rfl (by kernel_rfl) _ _ rfl _ E9 rfl
    · exact step_sub5 TT rfl 71 72 10 11 _ _ rfl (by kernel_rfl) (by kernel_rfl) rfl rfl rfl
    · exact step_bR rfl 70 73 9 12 _ _ rfl (by kernel_rfl) (by kernel_rfl) rfl rfl rfl
    · exact step_fr rfl 67 74 6 13 _ _ _ _ rfl (by kernel_rfl) (by kernel_rfl) rfl rfl rfl
  intro vsL Wa Wb na bq RL nb TL
  have NS := nb w w.heap.size (nxt N na) (by omega)
  simp only [puts, Act.put, List.setIfInBounds_toArray, List.set_cons_succ, List.set_cons_zero]
  clear bq nb na N TR TL P0 P1 TT CC E5 E6 E7 E8 E9 E10
  go_wp2
  subst g5 g6 g7 g8 g9 g10
  obtain ⟨ts, rg, _, ht⟩ := RL
  have lz := clN_len ht
  obtain ⟨fs, hfs⟩ := uX
  exact bodyPost_ret (v := agN ts) (results_cell_mid Tryz.results115 _ _ (w.heap.size + 1 + 1) (clN ts) _ rfl rg hfs rfl (by rw [lz]; exact iX)) rfl ⟨ts, rfl, ht, NS⟩
set_option maxHeartbeats 4000000 in
theorem double_any (w : World) (es fs : List (Nat → Int)) (T' X X' Y Y' Z Z' : Int) (hes : IsN es [X, Y, Z]) (hfs : IsN fs [X', Y', Z', T']) (TT : HasTw w 8) :
    Calls Tryz.prog 118 #[agN es, agN fs] w fun r w' => ∃ ts, r = .returned (agN ts) ∧ IsN ts [((X + Y) * (X + Y) - (Y * Y + X * X)) * ((Z * Z + Z * Z) - (Y * Y - X * X)), (Y * Y + X * X) * (Y * Y - X * X), (Y * Y - X * X) * ((Z * Z + Z * Z) - (Y * Y - X * X)), ((X + Y) * (X + Y) - (Y * Y + X * X)) * (Y * Y + X * X)] ∧ Below w.heap.size w w' := by
  show Calls Tryz.prog 118 #[.agg (clN es).toArray, .agg (clN fs).toArray] w _
  have H0 := rowN_new w 139 hes
  have m0 : Below w.heap.size w (w.alloc (.cells (clN es).toArray 139)) := (Below.refl _ _).alloc (Nat.le_refl _) _
  have s0 : (w.alloc (.cells (clN es).toArray 139)).heap.size = w.heap.size + 1 := by simp
  have H1 := fun W => rowN_new W 141 hfs
  obtain ⟨V0, hV0⟩ : ∃ V, V = (clN es).toArray := ⟨_, rfl⟩
  obtain ⟨V1, hV1⟩ : ∃ V, V = (clN fs).toArray := ⟨_, rfl⟩
  rw [← hV0] at H0 m0 s0 ⊢
  simp only [← hV1] at H1 ⊢
  clear hV0 hV1 hes hfs
  go_enter Tryz.func118, Tryz.ntmps118
  go_upto_region 1 with fail
  generalize w.alloc (.cells V0 139) = wa0 at *
  have H1' := H1 wa0
  have m1 : Below wa0.heap.size wa0 (wa0.alloc (.cells V1 141)) := (Below.refl _ _).alloc (Nat.le_refl _) _
  have s1 : (wa0.alloc (.cells V1 141)).heap.size = wa0.heap.size + 1 := by simp
  rw [s0] at H1' s1
  generalize wa0.alloc (.cells V1 141) = wa1 at *
  have TR : (wa1.alloc zX).there wa1.heap.size 0 20 := there_new wa1 _ _
  have mz : Below wa1.heap.size wa1 (wa1.alloc zX) := (Below.refl _ _).alloc (Nat.le_refl _) _
  rw [s1] at TR
  have P0 := (H0.up m1).up mz
  have P1 := H1'.up mz
  have N := nxt (nxt m0 m1) mz
  clear H0 H1 H1' m0 s0 m1 s1 mz
  obtain ⟨wr, hwr⟩ : ∃ W, W = wa1.alloc zX := ⟨_, rfl⟩
  rw [← hwr] at TR N P0 P1
  change Code.wp _ _ _ _ (wa1.alloc zX)
  rw [← hwr]
  clear hwr
  replace TT := TT.up N
  refine region_new3 12 9 2 5 12 10 5 6 15 11 8 7 18 _ _ _ (fun i => [Fact.eq (.pointer (some ⟨w.heap.size, 0, none⟩)), EM (X), EM ((X) * (X)), Fact.eq (.pointer (some ⟨w.heap.size, 5, none⟩)), EM (Y), EM ((Y) * (Y)), Fact.eq (.pointer (some ⟨w.heap.size, 10, none⟩)), EM (Z), EM ((Z) * (Z)), NB wr 5, NB wr 5, NB wr 5].getD i Fact.no) ((X) * (X)) ((Y) * (Y)) ((Z) * (Z)) (by kernel_rfl) rfl rfl rfl rfl rfl rfl rfl rfl rfl rfl rfl rfl rfl (by kernel_rfl) (by kernel_rfl) (by kernel_rfl) (by kernel_rfl) (by kernel_rfl) (by kernel_rfl) rfl rfl rfl rfl rfl rfl (by decide) (by decide) (by decide) (fresh_new5 rfl rfl rfl) (fresh_new5 rfl rfl rfl) (fresh_new5 rfl rfl rfl) ?_ ?_
  · intro i hi
    obtain rfl | rfl | rfl | rfl | rfl | rfl | rfl | rfl | rfl | rfl | rfl | rfl : i = 0 ∨ i = 1 ∨ i = 2 ∨ i = 3 ∨ i = 4 ∨ i = 5 ∨ i = 6 ∨ i = 7 ∨ i = 8 ∨ i = 9 ∨ i = 10 ∨ i = 11 := by omega
    · exact step_fld rfl 139 2 0 rfl (by kernel_rfl) _ _ rfl (fxJ _) rfl
    · exact step_e5f rfl 10 0 rfl (by kernel_rfl) _ _ rfl _ P0.at0 rfl
    · exact step_sq5 rfl 11 1 _ rfl (by kernel_rfl) rfl rfl
    · exact step_fld rfl 139 2 1 rfl (by kernel_rfl) _ _ rfl (fyJ _) rfl
    · exact step_e5f rfl 13 3 rfl (by kernel_rfl) _ _ rfl _ P0.tail.at0 rfl
    · exact step_sq5 rfl 14 4 _ rfl (by kernel_rfl) rfl rfl
    · exact step_fld rfl 139 2 2 rfl (by kernel_rfl) _ _ rfl (fzJ _) rfl
    · exact step_e5f rfl 16 6 rfl (by kernel_rfl) _ _ rfl _ P0.tail.tail.at0 rfl
    · exact step_sq5 rfl 17 7 _ rfl (by kernel_rfl) rfl rfl
    · exact step_new5 rfl rfl rfl
    · exact step_new5 rfl rfl rfl
    · exact step_new5 rfl rfl rfl
  intro vs1 q5 q6 q7 W1 v5 v6 v7 l5 l6 l7 n E5 E6 E7
  replace P0 := P0.up n
  replace P1 := P1.up n
  replace TT := TT.up n
  replace TR := there_up (by omega) TR n
  replace N := nxt N n
  clear n
  obtain ⟨x5, g5⟩ : ∃ e : Int, e = (X) * (X) := ⟨_, rfl⟩
  rw [← g5] at E5
  obtain ⟨x6, g6⟩ : ∃ e : Int, e = (Y) * (Y) := ⟨_, rfl⟩
  rw [← g6] at E6
  obtain ⟨x7, g7⟩ : ∃ e : Int, e = (Z) * (Z) := ⟨_, rfl⟩
  rw [← g7] at E7
  simp only [puts, v5, v6, v7, Act.put, List.setIfInBounds_toArray, List.set_cons_succ, List.set_cons_zero]
  clear v5 v6 v7
  go_upto_region 2 with fail
  refine region_new2 8 6 2 8 21 7 5 9 24 _ _ (fun i => [EM (x6), EM (x5), EM ((x6) - (x5)), EM (x6), EM (x5), EM ((x6) + (x5)), NB W1 5, NB W1 5].getD i Fact.no) ((x6) - (x5)) ((x6) + (x5)) (by kernel_rfl) rfl rfl rfl rfl rfl rfl rfl rfl rfl (by kernel_rfl) (by kernel_rfl) (by kernel_rfl) (by kernel_rfl) rfl rfl rfl rfl (by decide) (fresh_new5 rfl rfl rfl) (fresh_new5 rfl rfl rfl) ?_ ?_
  · intro i hi
    obtain rfl | rfl | rfl | rfl | rfl | rfl | rfl | rfl : i = 0 ∨ i = 1 ∨ i = 2 ∨ i = 3 ∨ i = 4 ∨ i = 5 ∨ i = 6 ∨ i = 7 := by omega
    · exact step_e5 rfl 6 rfl (by kernel_rfl) _ _ rfl _ E6 rfl
    · exact step_e5 rfl 5 rfl (by kernel_rfl) _ _ rfl _ E5 rfl
    · exact step_sub5 TT rfl 19 20 0 1 _ _ rfl (by kernel_rfl) (by kernel_rfl) rfl rfl rfl
    · exact step_e5 rfl 6 rfl (by kernel_rfl) _ _ rfl _ E6 rfl
    · exact step_e5 rfl 5 rfl (by kernel_rfl) _ _ rfl _ E5 rfl
    · exact step_add5 rfl 22 23 3 4 _ _ rfl (by kernel_rfl) (by kernel_rfl) rfl rfl rfl
    · exact step_new5 rfl rfl rfl
    · exact step_new5 rfl rfl rfl
  intro vs2 q8 q9 W2 v8 v9 l8 l9 n55 n E8 E9
  clear n55
  replace P0 := P0.up n
  replace P1 := P1.up n
  replace TT := TT.up n
  replace E5 := E5.up n
  replace E6 := E6.up n
  replace E7 := E7.up n
  replace TR := there_up (by omega) TR n
  replace N := nxt N n
  clear n
  obtain ⟨x8, g8⟩ : ∃ e : Int, e = (x6) - (x5) := ⟨_, rfl⟩
  rw [← g8] at E8
  obtain ⟨x9, g9⟩ : ∃ e : Int, e = (x6) + (x5) := ⟨_, rfl⟩
  rw [← g9] at E9
  simp only [puts, v8, v9, Act.put, List.setIfInBounds_toArray, List.set_cons_succ, List.set_cons_zero]
  clear v8 v9
  go_upto_region 3 with fail
  refine region_putN 141 18 17 4 42 _ (fun i => [Fact.eq (.pointer (some ⟨w.heap.size, 0, none⟩)), EM (X), Fact.eq (.pointer (some ⟨w.heap.size, 5, none⟩)), EM (Y), EM ((X) + (Y)), EM (((X) + (Y)) * ((X) + (Y))), EM (x9), EM ((((X) + (Y)) * ((X) + (Y))) - (x9)), EM (x8), EN [(((X) + (Y)) * ((X) + (Y))) - (x9), x8], EM (x9), EM (x7), EM (x7), EM ((x7) + (x7)), EM (x8), EM (((x7) + (x7)) - (x8)), EN [x9, ((x7) + (x7)) - (x8)], EN [((((X) + (Y)) * ((X) + (Y))) - (x9)) * (((x7) + (x7)) - (x8)), (x9) * (x8), (x8) * (((x7) + (x7)) - (x8)), ((((X) + (Y)) * ((X) + (Y))) - (x9)) * (x9)]].getD i Fact.no) [((((X) + (Y)) * ((X) + (Y))) - (x9)) * (((x7) + (x7)) - (x8)), (x9) * (x8), (x8) * (((x7) + (x7)) - (x8)), ((((X) + (Y)) * ((X) + (Y))) - (x9)) * (x9)] _ (by kernel_rfl) rfl rfl rfl iX (Nat.zero_lt_succ _) (by kernel_rfl) rfl TR (by kernel_rfl) rfl ?_ ?_
  · intro i hi
    obtain rfl | rfl | rfl | rfl | rfl | rfl | rfl | rfl | rfl | rfl | rfl | rfl | rfl | rfl | rfl | rfl | rfl | rfl : i = 0 ∨ i = 1 ∨ i = 2 ∨ i = 3 ∨ i = 4 ∨ i = 5 ∨ i = 6 ∨ i = 7 ∨ i = 8 ∨ i = 9 ∨ i = 10 ∨ i = 11 ∨ i = 12 ∨ i = 13 ∨ i = 14 ∨ i = 15 ∨ i = 16 ∨ i = 17 := by omega
    · exact step_fld rfl 139 2 0 rfl (by kernel_rfl) _ _ rfl (fxJ _) rfl
    · exact step_e5f rfl 25 0 rfl (by kernel_rfl) _ _ rfl _ P0.at0 rfl
    · exact step_fld rfl 139 2 1 rfl (by kernel_rfl) _ _ rfl (fyJ _) rfl
    · exact step_e5f rfl 27 2 rfl (by kernel_rfl) _ _ rfl _ P0.tail.at0 rfl
    · exact step_add5 rfl 26 28 1 3 _ _ rfl (by kernel_rfl) (by kernel_rfl) rfl rfl rfl
    · exact step_sq5 rfl 29 4 _ rfl (by kernel_rfl) rfl rfl
    · exact step_e5 rfl 9 rfl (by kernel_rfl) _ _ rfl _ E9 rfl
    · exact step_sub5 TT rfl 30 31 5 6 _ _ rfl (by kernel_rfl) (by kernel_rfl) rfl rfl rfl
    · exact step_e5 rfl 8 rfl (by kernel_rfl) _ _ rfl _ E8 rfl
    · exact step_bR rfl 32 33 7 8 _ _ rfl (by kernel_rfl) (by kernel_rfl) rfl rfl rfl
    · exact step_e5 rfl 9 rfl (by kernel_rfl) _ _ rfl _ E9 rfl
    · exact step_e5 rfl 7 rfl (by kernel_rfl) _ _ rfl _ E7 rfl
    · exact step_e5 rfl 7 rfl (by kernel_rfl) _ _ rfl _ E7 rfl
    · exact step_add5 rfl 36 37 11 12 _ _ rfl (by kernel_rfl) (by kernel_rfl) rfl rfl rfl
    · exact step_e5 rfl 8 rfl (by kernel_rfl) _ _ rfl _ E8 rfl
    · exact step_sub5 TT rfl 38 39 13 14 _ _ rfl (by kernel_rfl) (by kernel_rfl) rfl rfl rfl
    · exact step_bR rfl 35 40 10 15 _ _ rfl (by kernel_rfl) (by kernel_rfl) rfl rfl rfl
    · exact step_fr rfl 34 41 9 16 _ _ _ _ rfl (by kernel_rfl) (by kernel_rfl) rfl rfl rfl
  intro vsL Wa Wb na bq RL nb TL
  have NS := nb w w.heap.size (nxt N na) (by omega)
  simp only [puts, Act.put, List.setIfInBounds_toArray, List.set_cons_succ, List.set_cons_zero]
  clear bq nb na N TR TL P0 P1 TT E5 E6 E7 E8 E9
  go_wp2
  subst g5 g6 g7 g8 g9
  obtain ⟨ts, rg, _, ht⟩ := RL
  have lz := clN_len ht
  obtain ⟨fs, hfs⟩ := uX
  exact bodyPost_ret (v := agN ts) (results_cell_mid Tryz.results118 _ _ (w.heap.size + 1 + 1) (clN ts) _ rfl rg hfs rfl (by rw [lz]; exact iX)) rfl ⟨ts, rfl, ht, NS⟩
set_option maxHeartbeats 4000000 in
theorem toAffine_any (w : World) (es : List (Nat → Int)) (X Y Z : Int) (hes : IsN es [X, Y, Z]) (SS : HasSt w 11) (II : Has3 w 9 12 5 4) :
    Calls Tryz.prog 116 #[agN es] w fun r w' => ∃ ts, r = .returned (agN ts) ∧ IsN ts [X * Z ^ eInv, Y * Z ^ eInv] ∧ Below w.heap.size w w' := by
  show Calls Tryz.prog 116 #[.agg (clN es).toArray] w _
  have H0 := rowN_new w 139 hes
  have m0 : Below w.heap.size w (w.alloc (.cells (clN es).toArray 139)) := (Below.refl _ _).alloc (Nat.le_refl _) _
  have s0 : (w.alloc (.cells (clN es).toArray 139)).heap.size = w.heap.size + 1 := by simp
  obtain ⟨V0, hV0⟩ : ∃ V, V = (clN es).toArray := ⟨_, rfl⟩
  rw [← hV0] at H0 m0 s0 ⊢
  clear hV0 hes
  go_enter Tryz.func116, Tryz.ntmps116
  go_upto_region 1 with fail
  generalize w.alloc (.cells V0 139) = wa0 at *
  have TR : (wa0.alloc zA).there wa0.heap.size 0 10 := there_new wa0 _ _
  have mz : Below wa0.heap.size wa0 (wa0.alloc zA) := (Below.refl _ _).alloc (Nat.le_refl _) _
  rw [s0] at TR
  have P0 := H0.up mz
  have N := nxt m0 mz
  clear H0 m0 s0 mz
  obtain ⟨wr, hwr⟩ : ∃ W, W = wa0.alloc zA := ⟨_, rfl⟩
  rw [← hwr] at TR N P0
  change Code.wp _ _ _ _ (wa0.alloc zA)
  rw [← hwr]
  clear hwr
  replace SS := SS.up N
  replace II := II.up N
  refine region_new5 4 3 2 3 6 _ (fun i => [Fact.eq (.pointer (some ⟨w.heap.size, 10, none⟩)), EM (Z), EM ((Z) ^ eInv), NB wr 5].getD i Fact.no) ((Z) ^ eInv) (by kernel_rfl) rfl rfl rfl (by kernel_rfl) (by kernel_rfl) rfl rfl ?_ ?_
  · intro i hi
    obtain rfl | rfl | rfl | rfl : i = 0 ∨ i = 1 ∨ i = 2 ∨ i = 3 := by omega
    · exact step_fld rfl 139 1 2 rfl (by kernel_rfl) _ _ rfl (fzJ _) rfl
    · exact step_e5f rfl 4 0 rfl (by kernel_rfl) _ _ rfl _ P0.tail.tail.at0 rfl
    · exact step_inv5 SS II rfl 5 1 _ rfl (by kernel_rfl) rfl rfl
    · exact step_new5 rfl rfl rfl
  intro vs1 q3 W1 v3 l3 n E3
  replace P0 := P0.up n
  replace SS := SS.up n
  replace II := II.up n
  replace TR := there_up (by omega) TR n
  replace N := nxt N n
  clear n
  obtain ⟨x3, g3⟩ : ∃ e : Int, e = (Z) ^ eInv := ⟨_, rfl⟩
  rw [← g3] at E3
  simp only [puts, v3, Act.put, List.setIfInBounds_toArray, List.set_cons_succ, List.set_cons_zero]
  clear v3
  go_upto_region 2 with fail
  refine region_putN 74 9 8 2 15 _ (fun i => [Fact.eq (.pointer (some ⟨w.heap.size, 0, none⟩)), EM (X), EM (x3), EM ((X) * (x3)), Fact.eq (.pointer (some ⟨w.heap.size, 5, none⟩)), EM (Y), EM (x3), EM ((Y) * (x3)), EN [(X) * (x3), (Y) * (x3)]].getD i Fact.no) [(X) * (x3), (Y) * (x3)] _ (by kernel_rfl) rfl rfl rfl iA (Nat.zero_lt_succ _) (by kernel_rfl) rfl TR (by kernel_rfl) rfl ?_ ?_
  · intro i hi
    obtain rfl | rfl | rfl | rfl | rfl | rfl | rfl | rfl | rfl : i = 0 ∨ i = 1 ∨ i = 2 ∨ i = 3 ∨ i = 4 ∨ i = 5 ∨ i = 6 ∨ i = 7 ∨ i = 8 := by omega
    · exact step_fld rfl 139 1 0 rfl (by kernel_rfl) _ _ rfl (fxJ _) rfl
    · exact step_e5f rfl 7 0 rfl (by kernel_rfl) _ _ rfl _ P0.at0 rfl
    · exact step_e5 rfl 3 rfl (by kernel_rfl) _ _ rfl _ E3 rfl
    · exact step_mul5 rfl 8 9 1 2 _ _ rfl (by kernel_rfl) (by kernel_rfl) rfl rfl rfl
    · exact step_fld rfl 139 1 1 rfl (by kernel_rfl) _ _ rfl (fyJ _) rfl
    · exact step_e5f rfl 11 4 rfl (by kernel_rfl) _ _ rfl _ P0.tail.at0 rfl
    · exact step_e5 rfl 3 rfl (by kernel_rfl) _ _ rfl _ E3 rfl
    · exact step_mul5 rfl 12 13 5 6 _ _ rfl (by kernel_rfl) (by kernel_rfl) rfl rfl rfl
    · exact step_bA rfl 10 14 3 7 _ _ rfl (by kernel_rfl) (by kernel_rfl) rfl rfl rfl
  intro vsL Wa Wb na bq RL nb TL
  have NS := nb w w.heap.size (nxt N na) (by omega)
  simp only [puts, Act.put, List.setIfInBounds_toArray, List.set_cons_succ, List.set_cons_zero]
  clear bq nb na N TR TL P0 SS II E3
  go_wp2
  subst g3
  obtain ⟨ts, rg, _, ht⟩ := RL
  have lz := clN_len ht
  obtain ⟨fs, hfs⟩ := uA
  exact bodyPost_ret (v := agN ts) (results_cell_mid Tryz.results116 _ _ (w.heap.size + 1) (clN ts) _ rfl rg hfs rfl (by rw [lz]; exact iA)) rfl ⟨ts, rfl, ht, NS⟩
set_option maxHeartbeats 4000000 in
theorem toExt_any (w : World) (es : List (Nat → Int)) (X Y : Int) (hes : IsN es [X, Y]) :
    Calls Tryz.prog 114 #[agN es] w fun r w' => ∃ ts, r = .returned (agN ts) ∧ IsN ts [X, Y, 1, X * Y] ∧ Below w.heap.size w w' := by
  show Calls Tryz.prog 114 #[.agg (clN es).toArray] w _
  have H0 := rowN_new w 74 hes
  have m0 : Below w.heap.size w (w.alloc (.cells (clN es).toArray 74)) := (Below.refl _ _).alloc (Nat.le_refl _) _
  have s0 : (w.alloc (.cells (clN es).toArray 74)).heap.size = w.heap.size + 1 := by simp
  obtain ⟨V0, hV0⟩ : ∃ V, V = (clN es).toArray := ⟨_, rfl⟩
  rw [← hV0] at H0 m0 s0 ⊢
  clear hV0 hes
  go_enter Tryz.func114, Tryz.ntmps114
  go_upto_region 1 with fail
  generalize w.alloc (.cells V0 74) = wa0 at *
  have TR : (wa0.alloc zX).there wa0.heap.size 0 20 := there_new wa0 _ _
  have mz : Below wa0.heap.size wa0 (wa0.alloc zX) := (Below.refl _ _).alloc (Nat.le_refl _) _
  rw [s0] at TR
  have P0 := H0.up mz
  have N := nxt m0 mz
  clear H0 m0 s0 mz
  obtain ⟨wr, hwr⟩ : ∃ W, W = wa0.alloc zX := ⟨_, rfl⟩
  rw [← hwr] at TR N P0
  change Code.wp _ _ _ _ (wa0.alloc zX)
  rw [← hwr]
  clear hwr
  refine region_putN 141 12 11 2 14 _ (fun i => [Fact.eq (.pointer (some ⟨w.heap.size, 0, none⟩)), EM (X), Fact.eq (.pointer (some ⟨w.heap.size, 5, none⟩)), EM (Y), EM (1), EN [X, Y, 1], Fact.eq (.pointer (some ⟨w.heap.size, 0, none⟩)), EM (X), Fact.eq (.pointer (some ⟨w.heap.size, 5, none⟩)), EM (Y), EM ((X) * (Y)), EN [X, Y, 1, (X) * (Y)]].getD i Fact.no) [X, Y, 1, (X) * (Y)] _ (by kernel_rfl) rfl rfl rfl iX (Nat.zero_lt_succ _) (by kernel_rfl) rfl TR (by kernel_rfl) rfl ?_ ?_
  · intro i hi
    obtain rfl | rfl | rfl | rfl | rfl | rfl | rfl | rfl | rfl | rfl | rfl | rfl : i = 0 ∨ i = 1 ∨ i = 2 ∨ i = 3 ∨ i = 4 ∨ i = 5 ∨ i = 6 ∨ i = 7 ∨ i = 8 ∨ i = 9 ∨ i = 10 ∨ i = 11 := by omega
    · exact step_fld rfl 74 1 0 rfl (by kernel_rfl) _ _ rfl (fxA _) rfl
    · exact step_e5f rfl 3 0 rfl (by kernel_rfl) _ _ rfl _ P0.at0 rfl
    · exact step_fld rfl 74 1 1 rfl (by kernel_rfl) _ _ rfl (fyA _) rfl
    · exact step_e5f rfl 5 2 rfl (by kernel_rfl) _ _ rfl _ P0.tail.at0 rfl
    · exact step_b5 rfl 1 (by omega) rfl rfl
    · exact step_bP rfl 4 6 7 1 3 4 _ _ _ rfl (by kernel_rfl) (by kernel_rfl) (by kernel_rfl) rfl rfl rfl rfl
    · exact step_fld rfl 74 1 0 rfl (by kernel_rfl) _ _ rfl (fxA _) rfl
    · exact step_e5f rfl 9 6 rfl (by kernel_rfl) _ _ rfl _ P0.at0 rfl
    · exact step_fld rfl 74 1 1 rfl (by kernel_rfl) _ _ rfl (fyA _) rfl
    · exact step_e5f rfl 11 8 rfl (by kernel_rfl) _ _ rfl _ P0.tail.at0 rfl
    · exact step_mul5 rfl 10 12 7 9 _ _ rfl (by kernel_rfl) (by kernel_rfl) rfl rfl rfl
    · exact step_bX rfl 8 13 5 10 _ _ _ _ rfl (by kernel_rfl) (by kernel_rfl) rfl rfl rfl
  intro vsL Wa Wb na bq RL nb TL
  have NS := nb w w.heap.size (nxt N na) (by omega)
  simp only [puts, Act.put, List.setIfInBounds_toArray, List.set_cons_succ, List.set_cons_zero]
  clear bq nb na N TR TL P0
  go_wp2
  obtain ⟨ts, rg, _, ht⟩ := RL
  have lz := clN_len ht
  obtain ⟨fs, hfs⟩ := uX
  exact bodyPost_ret (v := agN ts) (results_cell_mid Tryz.results114 _ _ (w.heap.size + 1) (clN ts) _ rfl rg hfs rfl (by rw [lz]; exact iX)) rfl ⟨ts, rfl, ht, NS⟩
end Go.Proofs.YtliahigljoeeoaaGreatDoor

/-
  Bytes without zeros ahead: the model's and the program's.
-/
namespace Go.Proofs.YtliahigljoeeoaaGreatDoor
set_option maxRecDepth 100000
open Go.RowKit



set_option maxHeartbeats 1000000 in
theorem withoutZeros_any (w : World) (g : Nat) (a : Option Addr) (cap : Nat) (xs : List Int) (hr : Rd w g a .u8 xs) (hb : Byt xs) (hcap : xs.length ≤ cap) (hn : xs.length ≤ 1048576) :
    Calls Tryz.prog 48 #[.slice a xs.length cap] w fun e w' => ∃ ys, Canon ys (bval xs) ∧ ys.length ≤ xs.length ∧ e = .returned (.slice (some ⟨w.heap.size, 0, none⟩) ys.length ys.length) ∧ Blk w' w.heap.size .u8 ys ∧ Below w.heap.size w w' := by
  obtain ⟨i0, hi, hz0, hz1, hz2⟩ := info_parts Tryz.info5
  have hsz : (Tryz.prog.info? 5).map (·.size) = some 1 := by rw [hi]; simp [hz1]
  go_enter Tryz.func48, Tryz.ntmps48
  go_wp2
  go_loop [3] (fun i => ∃ k : Nat, k ≤ xs.length ∧ i = .int .i64 k ∧ ZeroTo xs k) (fun i => xs.length - (intOf i).toNat)
  case atStart => exact ⟨0, Nat.zero_le _, rfl, fun j hj => absurd hj (by omega)⟩
  case round =>
    obtain ⟨k, hk, rfl, hz⟩ := hrel
    by_cases hlt : k < xs.length
    · obtain ⟨off, rfl, hcc⟩ := hr (by omega)
      have hcx := hcc k hlt
      have R := hz.step
      obtain ⟨x, hx⟩ : ∃ x, x = xs.getD k 0 := ⟨_, rfl⟩
      rw [← hx] at hcx R
      have Hx : Hid (x = xs.getD k 0) := hx
      clear hx
      by_cases h0 : x = 0
      · have R' := R h0
        subst h0
        clear R hcc Hx hz
        go_wp2
        go_round
        case rel => exact ⟨k + 1, by omega, by go_num, R'⟩
        case measure => simp [intOf]; omega
      · have h1 : (x == 0) = false := by simp [h0]
        have C := hz.canon hb (fun _ => by rw [← Hx.out]; exact h0)
        have hr' : Rd w g (some ⟨g, off + k, none⟩) .u8 (xs.drop k) := by
          intro _
          refine ⟨off + k, rfl, fun i hi => ?_⟩
          rw [List.length_drop] at hi
          rw [Nat.add_assoc, hcc (k + i) (by omega)]
          simp [List.getElem?_drop]
        have hlen : (xs.drop k).length = xs.length - k := List.length_drop
        obtain ⟨ys, hys⟩ : ∃ ys, ys = xs.drop k := ⟨_, rfl⟩
        rw [← hys] at C hr' hlen
        have HL : Hid (ys.length = xs.length - k) := hlen
        have hl1 : (xs.length : Int) - (k : Int) = ((ys.length : Nat) : Int) := by omega
        have hl2 : xs.length - k = ys.length := hlen.symm
        have hl3 : ys.length ≤ xs.length := by omega
        clear R hcc Hx hz hys hlen
        go_wp2_with (at_make; refine wpList_make_full _ rfl _ _ 22 rfl w.heap.size 5 i0 (.int .u8 0) 1 Tryz.underlying22 hi hz0 hz1 .i64 .i64 _ _ ys.length rfl rfl rfl rfl (by rw [hz2]; omega) (by unfold maxLen; omega) (Nat.le_refl _) ?_; intro w1 hown hgrow)
        have hB := Blk.of_made hown
        have hN : Below w.heap.size w w1 := (Below.refl _ _).grown hgrow (Nat.le_refl _) (by simp)
        obtain ⟨w2, hrun, hB2, hO⟩ := copy_blk (P := Tryz.prog) w1 22 3 5 Tryz.underlying22 hsz hB g _ ys (hr'.up hN) (by simp) ys.length (cap - k)
        rw [List.length_replicate] at hrun
        have hN2 := hN.trans (hO.below (Nat.le_refl _))
        rw [hrun]
        clear hown hgrow hB hN hO
        go_wp2
        go_ret
        exact ⟨ys, C, hl3, rfl, by simpa using hB2, hN2⟩
    · obtain rfl : k = xs.length := by omega
      have C := hz.canon hb (fun h => absurd h (by omega))
      rw [List.drop_length] at C
      go_wp2_with (at_make; refine wpList_make_full _ rfl _ _ 22 rfl w.heap.size 5 i0 (.int .u8 0) 1 Tryz.underlying22 hi hz0 hz1 .i64 .i64 _ _ 0 rfl rfl (by omega) (by omega) (by omega) (by omega) (Nat.le_refl _) ?_; intro w1 hown hgrow)
      all_goals
        have hB := Blk.of_made hown
        have hN : Below w.heap.size w w1 := (Below.refl _ _).grown hgrow (Nat.le_refl _) (by simp)
        rw [run_copy_none (P := Tryz.prog) w1 22 22 3 5 _ _ _ _ _ _ Tryz.underlying22 hsz (by simp)]
        clear hown hgrow
        go_wp2
        go_ret
        exact ⟨[], C, Nat.zero_le _, rfl, hB, hN⟩
end Go.Proofs.YtliahigljoeeoaaGreatDoor

/-
  Results that are told as a struct: good, and a value.
-/
namespace Go.Proofs.YtliahigljoeeoaaGreatDoor
set_option maxRecDepth 100000
open Go.RowKit

/-- What is answered for a number: its one form, if it has at most 128 bytes. -/
def ResOf (v : Int) (b : Bool) (ys : List Int) : Prop := ∃ c, Canon c v ∧ ((c.length ≤ 128 ∧ b = true ∧ ys = c) ∨ (128 < c.length ∧ b = false ∧ ys = []))
/-- .. where A holds; else nothing. -/
def NumOf (A : Prop) (v : Int) (b : Bool) (ys : List Int) : Prop := (A ∧ ResOf v b ys) ∨ (¬ A ∧ b = false ∧ ys = [])
theorem ResOf.uniq {v : Int} {b d : Bool} {ys zs : List Int} (h : ResOf v b ys) (k : ResOf v d zs) : b = d ∧ ys = zs := by
  obtain ⟨c, hc, h⟩ := h
  obtain ⟨c', hc', k⟩ := k
  obtain rfl := hc.uniq hc'
  rcases h with ⟨h1, rfl, rfl⟩ | ⟨h1, rfl, rfl⟩
  · rcases k with ⟨k1, rfl, rfl⟩ | ⟨k1, rfl, rfl⟩
    · exact ⟨rfl, rfl⟩
    · omega
  · rcases k with ⟨k1, rfl, rfl⟩ | ⟨k1, rfl, rfl⟩
    · omega
    · exact ⟨rfl, rfl⟩
theorem NumOf.uniq {A : Prop} {v : Int} {b d : Bool} {ys zs : List Int} (h : NumOf A v b ys) (k : NumOf A v d zs) : b = d ∧ ys = zs := by
  rcases h with ⟨h1, h2⟩ | ⟨h1, rfl, rfl⟩
  · rcases k with ⟨k1, k2⟩ | ⟨k1, rfl, rfl⟩
    · exact h2.uniq k2
    · exact absurd h1 k1
  · rcases k with ⟨k1, k2⟩ | ⟨k1, rfl, rfl⟩
    · exact absurd k1 h1
    · exact ⟨rfl, rfl⟩
theorem NumOf.len {A : Prop} {v : Int} {b : Bool} {ys : List Int} (h : NumOf A v b ys) : ys.length ≤ 128 := by
  rcases h with ⟨_, c, _, ⟨h1, _, rfl⟩ | ⟨_, _, rfl⟩⟩ | ⟨_, _, rfl⟩
  · exact h1
  · simp
  · simp

/-- A struct of a truth and a slice that the call made is handed back. -/
def NewRes (B : Nat) (w' : World) (e : Ending) (b : Bool) (ys : List Int) : Prop :=
  ∃ (a : Option Addr) (c g : Nat), e = .returned (.agg #[.bool b, .slice a ys.length c]) ∧ Own w' g a .u8 ys ∧ (a = none → c = 0) ∧ ys.length ≤ c ∧ B ≤ g
theorem NewRes.none {B : Nat} {w : World} (h : B ≤ w.heap.size) : NewRes B w (.returned (.agg #[.bool false, .slice none 0 0])) false [] :=
  ⟨_, 0, w.heap.size, rfl, Own.nil _ _ _ _, by simp, Nat.zero_le _, h⟩

end Go.Proofs.YtliahigljoeeoaaGreatDoor

/-
  spec.NumAdd.
-/
namespace Go.Proofs.YtliahigljoeeoaaGreatDoor
set_option maxRecDepth 100000
open Go.RowKit

/-- A cell of a new block of two, behind calls that keep what was there. -/
theorem two_kept {w w1 : World} {x y : Value} {t : TypeId} (n : Below (w.alloc (.cells #[x, y] t)).heap.size (w.alloc (.cells #[x, y] t)) w1) :
    w1.cell? ⟨w.heap.size, 0, none⟩ = some x ∧ w1.cell? ⟨w.heap.size, 1, none⟩ = some y ∧ w1.frozen? ⟨w.heap.size, 0, none⟩ = false ∧ w1.frozen? ⟨w.heap.size, 1, none⟩ = false ∧ w.heap.size < w1.heap.size := by
  have hs : w.heap.size < (w.alloc (.cells #[x, y] t)).heap.size := by simp
  refine ⟨?_, ?_, ?_, ?_, by have := n.size; omega⟩
  · rw [n.cell (p := ⟨w.heap.size, 0, none⟩) hs]; simp [World.cell?_alloc_at]
  · rw [n.cell (p := ⟨w.heap.size, 1, none⟩) hs]; simp [World.cell?_alloc_at]
  · rw [n.frozen (p := ⟨w.heap.size, 0, none⟩) hs]; simp [World.frozen?_alloc_at]
  · rw [n.frozen (p := ⟨w.heap.size, 1, none⟩) hs]; simp [World.frozen?_alloc_at]

/-- A block of two cells, known and free. -/
structure Two (w : World) (p : Nat) (x y : Value) : Prop where
  c0 : w.cell? ⟨p, 0, none⟩ = some x
  c1 : w.cell? ⟨p, 1, none⟩ = some y
  f0 : w.frozen? ⟨p, 0, none⟩ = false
  f1 : w.frozen? ⟨p, 1, none⟩ = false
theorem Two.lt {w : World} {p : Nat} {x y : Value} (h : Two w p x y) : p < w.heap.size := block_lt_of_cell h.c0
theorem Two.of_block {w w' : World} {p : Nat} {x y : Value} (h : Two w p x y) (hb : w'.heap[p]? = w.heap[p]?) : Two w' p x y :=
  ⟨(World.cell?_of_block (a := ⟨p, 0, none⟩) hb).trans h.c0, (World.cell?_of_block (a := ⟨p, 1, none⟩) hb).trans h.c1, (World.frozen?_of_block (a := ⟨p, 0, none⟩) hb).trans h.f0, (World.frozen?_of_block (a := ⟨p, 1, none⟩) hb).trans h.f1⟩
theorem Two.up {w w' : World} {p : Nat} {x y : Value} (h : Two w p x y) (n : Below w.heap.size w w') : Two w' p x y := h.of_block (n.block p h.lt)
theorem Two.only {w w' : World} {p g : Nat} {x y : Value} (h : Two w p x y) (n : Only g w w') (hne : p ≠ g) : Two w' p x y := h.of_block (n.block p hne)
theorem Two.new (w : World) (x y : Value) (t : TypeId) : Two (w.alloc (.cells #[x, y] t)) w.heap.size x y := by
  obtain ⟨k1, k2, k3, k4, _⟩ := two_kept (Below.refl (w.alloc (.cells #[x, y] t)).heap.size (w.alloc (.cells #[x, y] t)))
  exact ⟨k1, k2, k3, k4⟩

/-- The result is laid into its cell: all else stands. -/
theorem two_laid {w w2 : World} {g : Nat} {a : Option Addr} {zs : List Int} {u v : Value} (n : Below w.heap.size w w2) (o : Own w2 g a .u8 zs) (hg : w.heap.size < g) :
    Own ((w2.setCell ⟨w.heap.size, 0, none⟩ u).setCell ⟨w.heap.size, 1, none⟩ v) g a .u8 zs ∧ Below w.heap.size w ((w2.setCell ⟨w.heap.size, 0, none⟩ u).setCell ⟨w.heap.size, 1, none⟩ v) := by
  have h1 := Only.setCell w2 w.heap.size 0 u
  have h2 := Only.setCell (w2.setCell ⟨w.heap.size, 0, none⟩ u) w.heap.size 1 v
  have h3 := h1.trans h2
  exact ⟨o.only h3 (fun _ => by omega), n.trans (h3.below (Nat.le_refl _))⟩

end Go.Proofs.YtliahigljoeeoaaGreatDoor

/-
  The laws' helpers on points: two slices.
-/
namespace Go.Proofs.YtliahigljoeeoaaGreatDoor
set_option maxRecDepth 100000
open Go.RowKit

/-- Of what was there nothing but the blocks g and h has turned. -/
structure ButP (g h : Nat) (w w' : World) : Prop where
  os : w'.os = w.os
  tape : w'.tape = w.tape
  output : w'.output = w.output
  size : w.heap.size ≤ w'.heap.size
  block : ∀ k, k < w.heap.size → k ≠ g → k ≠ h → w'.heap[k]? = w.heap[k]?
theorem ButP.of {g h : Nat} {a b c d : World} (n : Below a.heap.size a b) (k : Only g b c) (l : Only h c d) : ButP g h a d :=
  ⟨(l.os.trans k.os).trans n.os, (l.tape.trans k.tape).trans n.tape, (l.output.trans k.output).trans n.output, by rw [l.size, k.size]; exact n.size, fun i hi h1 h2 => ((l.block i h2).trans (k.block i h1)).trans (n.block i hi)⟩
theorem ButP.below {g h B : Nat} {w w' : World} (n : ButP g h w w') (hB : B ≤ g) (hC : B ≤ h) (hs : B ≤ w.heap.size) : Below B w w' := ⟨n.os, n.tape, n.output, n.size, fun k hk => n.block k (by omega) (by omega) (by omega)⟩
theorem ButP.up {g h : Nat} {a b c : World} (n : ButP g h a b) (k : Below b.heap.size b c) : ButP g h a c :=
  ⟨k.os.trans n.os, k.tape.trans n.tape, k.output.trans n.output, Nat.le_trans n.size k.size, fun i hi h1 h2 => (k.block i (Nat.lt_of_lt_of_le hi n.size)).trans (n.block i hi h1 h2)⟩
theorem ButP.from {g h : Nat} {a b c : World} (k : Below a.heap.size a b) (n : ButP g h b c) : ButP g h a c :=
  ⟨n.os.trans k.os, n.tape.trans k.tape, n.output.trans k.output, Nat.le_trans k.size n.size, fun i hi h1 h2 => (n.block i (Nat.lt_of_lt_of_le hi k.size) h1 h2).trans (k.block i hi)⟩
/-- Two rows of bytes. -/
structure PrP (w : World) (g : Nat) (a : Option Addr) (xs : List Int) (g' : Nat) (a' : Option Addr) (ys : List Int) : Prop where
  l : Own w g a .u8 xs
  r : Own w g' a' .u8 ys
theorem PrP.up {w w' : World} {g g' : Nat} {a a' : Option Addr} {xs ys : List Int} (h : PrP w g a xs g' a' ys) (n : Below w.heap.size w w') : PrP w' g a xs g' a' ys := ⟨h.l.up n, h.r.up n⟩
theorem PrP.only {w w' : World} {g g' k : Nat} {a a' : Option Addr} {xs ys : List Int} (h : PrP w g a xs g' a' ys) (n : Only k w w') (h1 : 0 < xs.length → g ≠ k) (h2 : 0 < ys.length → g' ≠ k) : PrP w' g a xs g' a' ys := ⟨h.l.only n h1, h.r.only n h2⟩
/-- A new point whose two lists lie apart. -/
def NewP2 (B : Nat) (w' : World) (e : Ending) (xs ys : List Int) : Prop :=
  ∃ (a : Option Addr) (c g : Nat) (a' : Option Addr) (c' g' : Nat), e = .returned (.agg #[.slice a xs.length c, .slice a' ys.length c']) ∧ Own w' g a .u8 xs ∧ Own w' g' a' .u8 ys ∧ B ≤ g ∧ B ≤ g' ∧ (0 < xs.length → 0 < ys.length → g ≠ g')
theorem NewP2.nil {B : Nat} {w : World} : NewP2 B w (.returned (.agg #[.slice none 0 0, .slice none 0 0])) [] [] := ⟨none, 0, B, none, 0, B, rfl, Own.nil _ _ _ _, Own.nil _ _ _ _, Nat.le_refl _, Nat.le_refl _, fun h => absurd h (by simp)⟩
/-- A row that is not read may be said to lie anywhere. -/
theorem NewP2.at {B B' : Nat} {w : World} {e : Ending} {ys ss : List Int} (h : NewP2 B w e ys ss) (h1 : B' < B) (h2 : B' < w.heap.size) :
    ∃ (a : Option Addr) (c g : Nat) (a' : Option Addr) (c' g' : Nat), e = .returned (.agg #[.slice a ys.length c, .slice a' ss.length c']) ∧ PrP w g a ys g' a' ss ∧ B' ≤ g ∧ g < w.heap.size ∧ B' ≤ g' ∧ g' < w.heap.size ∧ (0 < ys.length → B ≤ g ∧ g ≠ g') ∧ (0 < ss.length → B ≤ g' ∧ g ≠ g') := by
  obtain ⟨a, c, g, a', c', g', he, o, o', hg, hg', hne⟩ := h
  by_cases h0 : 0 < ys.length
  · by_cases k0 : 0 < ss.length
    · exact ⟨a, c, g, a', c', g', he, ⟨o, o'⟩, by omega, o.rd.lt h0, by omega, o'.rd.lt k0, fun _ => ⟨hg, hne h0 k0⟩, fun _ => ⟨hg', hne h0 k0⟩⟩
    · obtain rfl : ss = [] := List.eq_nil_of_length_eq_zero (by omega)
      exact ⟨a, c, g, a', c', B', he, ⟨o, Own.nil _ _ _ _⟩, by omega, o.rd.lt h0, Nat.le_refl _, h2, fun _ => ⟨hg, by omega⟩, fun h => absurd h (by simp)⟩
  · obtain rfl : ys = [] := List.eq_nil_of_length_eq_zero (by omega)
    by_cases k0 : 0 < ss.length
    · exact ⟨a, c, B', a', c', g', he, ⟨Own.nil _ _ _ _, o'⟩, Nat.le_refl _, h2, by omega, o'.rd.lt k0, fun h => absurd h (by simp), fun _ => ⟨hg', by omega⟩⟩
    · obtain rfl : ss = [] := List.eq_nil_of_length_eq_zero (by omega)
      exact ⟨a, c, B', a', c', B', he, ⟨Own.nil _ _ _ _, Own.nil _ _ _ _⟩, Nat.le_refl _, h2, Nat.le_refl _, h2, fun h => absurd h (by simp), fun h => absurd h (by simp)⟩

theorem Two.set0 {w : World} {p : Nat} {x y : Value} (h : Two w p x y) (u : Value) : Two (w.setCell ⟨p, 0, none⟩ u) p u y :=
  ⟨World.cell?_setCell_same _ _ _ h.c0, by rw [World.cell?_setCell_other (h := by simp)]; exact h.c1, by rw [World.frozen?_setCell]; exact h.f0, by rw [World.frozen?_setCell]; exact h.f1⟩
theorem Two.set1 {w : World} {p : Nat} {x y : Value} (h : Two w p x y) (u : Value) : Two (w.setCell ⟨p, 1, none⟩ u) p x u :=
  ⟨by rw [World.cell?_setCell_other (h := by simp)]; exact h.c0, World.cell?_setCell_same _ _ _ h.c1, by rw [World.frozen?_setCell]; exact h.f0, by rw [World.frozen?_setCell]; exact h.f1⟩
end Go.Proofs.YtliahigljoeeoaaGreatDoor

/-
  The program's points of two coordinates: the opposite, the ladder's coordinate, their bytes.
-/
namespace Go.Proofs.YtliahigljoeeoaaGreatDoor
set_option maxRecDepth 100000
open Go Go.RowKit

theorem en_eb : enters Tryz.prog 117 = true := by kernel_rfl
/-- A new point of these two lists, which lie apart. -/
def PD (w0 : World) (xs ys : List Int) : Fact := ⟨fun v w => ∃ (a a' : Option Addr) (c c' g g' : Nat), v = .agg #[.slice a xs.length c, .slice a' ys.length c'] ∧ Own w g a .u8 xs ∧ Own w g' a' .u8 ys ∧ w0.heap.size ≤ g ∧ w0.heap.size ≤ g' ∧ (0 < xs.length → 0 < ys.length → g ≠ g'), fun n h => by
  obtain ⟨a, a', c, c', g, g', e, o, o', q⟩ := h
  exact ⟨a, a', c, c', g, g', e, o.up n, o'.up n, q⟩⟩
section
variable {ops : Array Oper} {Q : Exit → Act → World → Prop} {md : Region.Mode} {F : Nat → Fact} {a0 : Act} {w0 : World} {i : Nat} {o : Oper} {ts : Array TypeId}
theorem fresh_call {P : Program} (hi : ops[i]? = some o) (n : FuncId) (args : Array Operand) (ts : Array TypeId) (hop : o.op = .call { callee := .value (.func n), args := args, argTypes := ts }) (he : enters P n = true)
    (G : ∀ a w, Based ops a0 a → Below w0.heap.size w0 w → Facts md ops F i a w → Calls P n (args.toList.map a.eval).toArray w fun e w' => ∃ v, e = .returned v ∧ Below w.heap.size w w' ∧ (F i).p v w' ∧ ∃ b, blkOf v = some b ∧ w.heap.size ≤ b ∧ b < w'.heap.size) : FreshG P md ops Q F a0 w0 i := by
  intro o' ho' a w hb hw hf K hK
  obtain rfl := Option.some.inj (hi.symm.trans ho')
  have hr : (execOp a.eval o).run P w = .ok (.enter n (args.map a.eval)) w := by
    have h0 : (Deferred.ofValue (Value.func (Fn.func n) #[] #[]) (args.map a.eval)).run P w = .ok { target := .fn (.func n) #[], args := args.map a.eval } w := by simp [Deferred.ofValue]
    simp [execOp, hop, resolve, invoke, Act.eval, h0, run_enter he]
  have e : args.map a.eval = (args.toList.map a.eval).toArray := by cases args; simp
  unfold Oper.wp
  rw [hr, e, Oper.upon_enter]
  refine (G a w hb hw hf).mono ?_
  rintro e w' ⟨v, rfl, hn, hv, hfr⟩
  exact hK v w' hn hv hfr
theorem fresh_eb (hi : ops[i]? = some o) (p j : Nat) (A : Int) (hop : o.op = .call { callee := .value (.func 117), args := #[.tmp p], argTypes := ts })
    (hj : waits md ops i j p = true) (hFj : F j = EM A) (hFi : F i = RN w0 (fun xs => xs = fill (byt (A % PP)) 32)) : FreshG Tryz.prog md ops Q F a0 w0 i := by
  refine fresh_call hi _ _ ts hop en_eb fun a w _ hw hF => ?_
  have ea := hF j p hj
  rw [hFj] at ea
  obtain ⟨t, e1, L1, V1⟩ := ea
  show Calls Tryz.prog 117 #[a.tmps.getD p undef] w _
  rw [e1]
  refine (bytes_any w t L1).mono ?_
  rintro r w' ⟨⟨b, c, g, rfl, ow, k1, k2, hg⟩, hn⟩
  rw [V1] at ow k2 ⊢
  have l32 : (fill (byt (A % PP)) 32).length = 32 := fill_len _ _
  obtain ⟨off, rfl, _⟩ := ow (by rw [l32]; omega)
  rw [hFi]
  refine ⟨_, rfl, hn, ⟨_, _, c, g, rfl, ow, Nat.le_trans hw.size hg, rfl, k1, k2⟩, g, rfl, hg, ow.rd.lt (by rw [l32]; omega)⟩
theorem step_eb (hi : ops[i]? = some o) (p j : Nat) (A : Int) (hop : o.op = .call { callee := .value (.func 117), args := #[.tmp p], argTypes := ts })
    (hj : waits md ops i j p = true) (hFj : F j = EM A) (hFi : F i = RN w0 (fun xs => xs = fill (byt (A % PP)) 32)) : StepOk Tryz.prog md ops Q F a0 w0 i := (fresh_eb hi p j A hop hj hFj hFi).step
end
section
variable {ops : Array Oper} {Q : Exit → Act → World → Prop} {a0 : Act} {w : World} {id : Nat} {draw : Bool}
theorem wp_value {P : Program} {o : Oper} {a : Act} {W : World} {K : Act → World → Prop} {v : Value} (hr : (execOp a.eval o).run P W = .ok (.value v) W) (hK : K (a.put o.dst v) W) : o.wp P a W K Q := by
  unfold Oper.wp
  rw [hr]
  exact hK
/-- Two new lists are made a point, which is laid into a block that was there. -/
theorem region_pt (k j l p q d pD : Nat) (o1 o2 : Oper) (F : Nat → Fact) (xs ys : List Int) (qb : Nat) (hT : textTail .any draw ops a0.tmps.size k = true) (hdrop : ops.toList.drop k = [o1, o2]) (hk1 : ops[k]? = some o1) (hd1 : o1.dst = some d) (hd2 : o2.dst = none)
    (hop1 : o1.op = .build 37 #[(0, .tmp p), (1, .tmp q)]) (hop2 : o2.op = .store 37 (.tmp pD) (.tmp d)) (hz : decide (d < a0.tmps.size) = true)
    (hp : apart ops pD = true) (hpd : pD ≠ d) (h0 : a0.tmps.getD pD undef = .pointer (some ⟨qb, 0, none⟩)) (ht : w.there qb 0 2) (qj : decide (j < k) = true) (ql : decide (l < k) = true) (wj : writes ops j p = true) (wl : writes ops l q = true) (hjl : j ≠ l)
    (Fj : F j = RN w (fun zs => zs = xs)) (Fl : F l = RN w (fun zs => zs = ys)) (lx : 0 < xs.length) (ly : 0 < ys.length) (fj : FreshG Tryz.prog .any ops Q F a0 w j) (fl : FreshG Tryz.prog .any ops Q F a0 w l) (steps : ∀ i, i < k → StepOk Tryz.prog .any ops Q F a0 w i)
    (fin : ∀ (vs : Nat → Value) (W W' : World) (a a' : Option Addr) (c c' g g' : Nat), Below w.heap.size w W → W'.rangeAt qb 0 [.slice a xs.length c, .slice a' ys.length c'] → Own W' g a .u8 xs → Own W' g' a' .u8 ys → w.heap.size ≤ g → w.heap.size ≤ g' → g ≠ g' → (∀ (w1 : World) (B : Nat), Below B w1 W → B ≤ qb → Below B w1 W') → Q .normal (puts vs a0 ops.toList) W') :
    (Code.region id ops draw).wp Tryz.prog Q a0 w := by
  refine region_tail k F (by kernel_rfl) hT steps [(j, p), (l, q)] (fun p hp => ?_) (fun p hp p' hp' hn => ?_) fun a W hb hw hF hS => ?_
  · simp only [List.mem_cons, List.not_mem_nil, or_false] at hp
    rcases hp with rfl | rfl
    · exact ⟨of_decide_eq_true qj, wj, fj⟩
    · exact ⟨of_decide_eq_true ql, wl, fl⟩
  · simp only [List.mem_cons, List.not_mem_nil, or_false] at hp hp'
    rcases hp with rfl | rfl <;> rcases hp' with rfl | rfl
    · exact absurd rfl hn
    · exact hjl
    · exact hjl.symm
    · exact absurd rfl hn
  have h1 := hF j p qj wj
  have h2 := hF l q ql wl
  rw [Fj] at h1
  rw [Fl] at h2
  obtain ⟨zs, b, c, g, e1, w1, l1, hz1, _, _⟩ := h1
  obtain ⟨us, b', c', g', e2, w2, l2, hz2, _, _⟩ := h2
  replace hz1 : zs = xs := hz1
  replace hz2 : us = ys := hz2
  rw [hz1] at e1 w1
  rw [hz2] at e2 w2
  have hne := hS (j, p) (by simp) (l, q) (by simp) (fun e => hjl (Prod.mk.inj e).1)
  simp only at hne
  rw [e1, e2] at hne
  have hgg : g ≠ g' := by
    obtain ⟨_, rfl, _⟩ := w1 lx
    obtain ⟨_, rfl, _⟩ := w2 ly
    exact fun e => hne (by rw [e]; rfl)
  rw [hdrop]
  show o1.wp _ a W (fun a' w' => o2.wp _ a' w' (fun a'' w'' => Q .normal a'' w'') Q) Q
  have g1 : a.eval (.tmp p) = .slice b xs.length c := e1
  have g2 : a.eval (.tmp q) = .slice b' ys.length c' := e2
  have gg : (#[(0, Operand.tmp p), (1, Operand.tmp q)].map fun (n, x) => (n, a.eval x)) = #[(0, Value.slice b xs.length c), (1, .slice b' ys.length c')] := by simp [g1, g2]
  have hr : (execOp a.eval o1).run Tryz.prog W = .ok (.value (.agg #[.slice b xs.length c, .slice b' ys.length c'])) W := by
    simp only [execOp, hop1, gg]
    rw [Sem.run_bind, buP]
    rfl
  refine wp_value hr ?_
  rw [hd1]
  show o2.wp _ (a.put (some d) _) W _ _
  have th := there_up (by omega) ht hw
  have hb2 : Based ops a0 (a.put (some d) (.agg #[.slice b xs.length c, .slice b' ys.length c'])) := by rw [← hd1]; exact hb.put hk1 _
  refine wp_store_mid 37 (.tmp pD) (.tmp d) hop2 qb 0 #[.slice b xs.length c, .slice b' ys.length c'] ?_ ?_ th iP (by simp [Value.oneCell']) ?_
  · show (a.put _ _).tmps.getD pD undef = _
    rw [put_off (by simpa using Ne.symm hpd)]
    exact (based_at hb pD hp).trans h0
  · show (a.put _ _).tmps.getD d undef = _
    exact put_at (by rw [hb.2.1]; exact of_decide_eq_true hz)
  rw [hd2]
  obtain ⟨vs, hvs⟩ : ∃ vs : Nat → Value, ∀ e, (a.put (some d) (.agg #[.slice b xs.length c, .slice b' ys.length c'])).tmps.getD e undef = vs e := ⟨_, fun _ => rfl⟩
  show Q .normal (a.put (some d) _) _
  rw [puts_tail hT rfl hb2 vs hvs]
  have lq := there_lt (by omega) ht
  refine fin vs W _ b b' c c' g g' hw (World.rangeAt_setCells_same W qb 0 _ th) ?_ ?_ l1 l2 hgg (fun w1 B n hB => below_setCells hB _ _ _ n)
  · exact fun h0 => w1.of_block (setCells_other (by omega) _ 0 W) h0
  · exact fun h0 => w2.of_block (setCells_other (by omega) _ 0 W) h0
/-- A point of two lists that lie apart is laid into a block that was there. -/
theorem region_putD (k jV pD pV : Nat) (o : Oper) (F : Nat → Fact) (xs ys : List Int) (q : Nat) (hT : textOk .any ops a0.tmps.size k = true) (hk : ops[k]? = some o) (hd : o.dst = none) (hop : o.op = .store 37 (.tmp pD) (.tmp pV))
    (hp : apart ops pD = true) (h0 : a0.tmps.getD pD undef = .pointer (some ⟨q, 0, none⟩)) (ht : w.there q 0 2)
    (wV : writes ops jV pV = true) (FV : F jV = PD w xs ys) (steps : ∀ i, i < k → StepOk Tryz.prog .any ops Q F a0 w i)
    (fin : ∀ (vs : Nat → Value) (W W' : World) (a a' : Option Addr) (c c' g g' : Nat), Below w.heap.size w W → W'.rangeAt q 0 [.slice a xs.length c, .slice a' ys.length c'] → Own W' g a .u8 xs → Own W' g' a' .u8 ys → w.heap.size ≤ g → w.heap.size ≤ g' → (0 < xs.length → 0 < ys.length → g ≠ g') → (∀ (w1 : World) (B : Nat), Below B w1 W → B ≤ q → Below B w1 W') → Q .normal (puts vs a0 ops.toList) W') :
    (Code.region id ops draw).wp Tryz.prog Q a0 w := by
  refine region_store k o F (by kernel_rfl) hT hk hd steps fun a W hb hw hF => ?_
  have h2 := hF jV pV wV
  rw [FV] at h2
  obtain ⟨b, b', c, c', g, g', ev, o1, o2, l1, l2, hpp⟩ := h2
  have th := there_up (by omega) ht hw
  refine wp_store_mid 37 (.tmp pD) (.tmp pV) hop q 0 #[.slice b xs.length c, .slice b' ys.length c'] ((based_at hb pD hp).trans h0) ev th iP (by simp [Value.oneCell']) ?_
  obtain ⟨vs, hvs⟩ : ∃ vs : Nat → Value, ∀ d, a.tmps.getD d undef = vs d := ⟨_, fun _ => rfl⟩
  rw [hd]
  show Q .normal a _
  rw [puts_of hT rfl hb vs hvs]
  have lq := there_lt (by omega) ht
  refine fin vs W _ b b' c c' g g' hw (World.rangeAt_setCells_same W q 0 _ th) ?_ ?_ l1 l2 hpp (fun w1 B n hB => below_setCells hB _ _ _ n)
  · exact fun h0 => o1.of_block (setCells_other (by omega) _ 0 W) h0
  · exact fun h0 => o2.of_block (setCells_other (by omega) _ 0 W) h0
end
set_option maxHeartbeats 2000000 in
theorem point_any (w : World) (es : List (Nat → Int)) (X Y : Int) (hes : IsN es [X, Y]) :
    Calls Tryz.prog 60 #[agN es] w fun r w' => NewP2 w.heap.size w' r (fill (byt (X % PP)) 32) (fill (byt (Y % PP)) 32) ∧ Below w.heap.size w w' := by
  show Calls Tryz.prog 60 #[.agg (clN es).toArray] w _
  have H0 := rowN_new w 74 hes
  have m0 : Below w.heap.size w (w.alloc (.cells (clN es).toArray 74)) := (Below.refl _ _).alloc (Nat.le_refl _) _
  have s0 : (w.alloc (.cells (clN es).toArray 74)).heap.size = w.heap.size + 1 := by simp
  obtain ⟨V0, hV0⟩ : ∃ V, V = (clN es).toArray := ⟨_, rfl⟩
  rw [← hV0] at H0 m0 s0 ⊢
  clear hV0 hes
  go_enter Tryz.func60, Tryz.ntmps60
  go_upto_region 1 with fail
  generalize w.alloc (.cells V0 74) = wa0 at *
  have TR : (wa0.alloc pObj).there wa0.heap.size 0 2 := there_new wa0 _ _
  have mz : Below wa0.heap.size wa0 (wa0.alloc pObj) := (Below.refl _ _).alloc (Nat.le_refl _) _
  rw [s0] at TR
  have P0 := H0.up mz
  have N := nxt m0 mz
  clear H0 m0 s0 mz
  obtain ⟨wr, hwr⟩ : ∃ W, W = wa0.alloc pObj := ⟨_, rfl⟩
  rw [← hwr] at TR N P0
  change Code.wp _ _ _ _ (wa0.alloc pObj)
  rw [← hwr]
  clear hwr
  have l1 : 0 < (fill (byt (X % PP)) 32).length := by rw [fill_len]; omega
  have l2 : 0 < (fill (byt (Y % PP)) 32).length := by rw [fill_len]; omega
  refine region_pt 6 2 5 5 8 9 2 _ _ (fun i => [Fact.eq (.pointer (some ⟨w.heap.size, 0, none⟩)), EM (X), RN wr (fun xs => xs = fill (byt ((X) % PP)) 32), Fact.eq (.pointer (some ⟨w.heap.size, 5, none⟩)), EM (Y), RN wr (fun xs => xs = fill (byt ((Y) % PP)) 32)].getD i Fact.no) (fill (byt (X % PP)) 32) (fill (byt (Y % PP)) 32) _ (by kernel_rfl) rfl rfl rfl rfl rfl rfl (by kernel_rfl) (by kernel_rfl) (by decide) rfl TR rfl rfl (by kernel_rfl) (by kernel_rfl) (by decide) rfl rfl l1 l2 (fresh_eb rfl 4 1 _ rfl (by kernel_rfl) rfl rfl) (fresh_eb rfl 7 4 _ rfl (by kernel_rfl) rfl rfl) ?_ ?_
  · intro i hi
    obtain rfl | rfl | rfl | rfl | rfl | rfl : i = 0 ∨ i = 1 ∨ i = 2 ∨ i = 3 ∨ i = 4 ∨ i = 5 := by omega
    · exact step_fld rfl 74 1 0 rfl (by kernel_rfl) _ _ rfl (fxA _) rfl
    · exact step_e5f rfl 3 0 rfl (by kernel_rfl) _ _ rfl _ P0.at0 rfl
    · exact step_eb rfl 4 1 _ rfl (by kernel_rfl) rfl rfl
    · exact step_fld rfl 74 1 1 rfl (by kernel_rfl) _ _ rfl (fyA _) rfl
    · exact step_e5f rfl 6 3 rfl (by kernel_rfl) _ _ rfl _ P0.tail.at0 rfl
    · exact step_eb rfl 7 4 _ rfl (by kernel_rfl) rfl rfl
  intro vs W W' b b' c c' g g' n rg o1 o2 k1 k2 hne nb
  have z := N.size
  have NS := nb w w.heap.size (nxt N n) (by omega)
  simp only [puts, Act.put, List.setIfInBounds_toArray, List.set_cons_succ, List.set_cons_zero]
  clear n nb N TR P0
  obtain ⟨fs, hfs⟩ := uP
  go_wp2
  exact bodyPost_ret (v := .agg #[.slice b (fill (byt (X % PP)) 32).length c, .slice b' (fill (byt (Y % PP)) 32).length c']) (results_cell_mid Tryz.results60 _ _ (w.heap.size + 1) [.slice b (fill (byt (X % PP)) 32).length c, .slice b' (fill (byt (Y % PP)) 32).length c'] _ rfl rg hfs rfl iP) rfl ⟨⟨b, c, g, b', c', g', rfl, o1, o2, by omega, by omega, fun _ _ => hne⟩, NS⟩
end Go.Proofs.YtliahigljoeeoaaGreatDoor

/-
  The program's isOnCurve and readPoint.
-/
namespace Go.Proofs.YtliahigljoeeoaaGreatDoor
set_option maxRecDepth 100000
open Go Go.RowKit

theorem results_cell_slot {P : Program} {fn : Func} {p s : Tmp} {ty : TypeId} {v : Value} (h : fn.results = #[.cell p ty, .tmp s]) (tmps : Array Value) (w : World) (g : Nat) (cs : List Value) (d : TypeDesc)
    (hp : tmps.getD p undef = .pointer (some ⟨g, 0, none⟩)) (hs : tmps.getD s undef = v) (hc : w.rangeAt g 0 cs) (hu : P.underlying ty = some d) (hd : d.isRow = true) (hi : (P.info? ty).map (·.size) = some cs.length) :
    (results fn tmps).run P w = .ok (.tuple #[.agg cs.toArray, v]) w := by
  have hp' : tmps[p]?.getD undef = .pointer (some ⟨g, 0, none⟩) := by simpa using hp
  have hs' : tmps[s]?.getD undef = v := by simpa using hs
  simp [results, h, hp', hs', asAddr, run_loadVar_mid w g 0 ty cs d hc hu hd hi]
/-- The curve's equation, by the program's factor D. -/
def onB (D x y : Int) : Bool := decide ((y * y - x * x) % PP = (1 + D * (x * x) * (y * y)) % PP)
set_option maxHeartbeats 2000000 in
theorem isOn_any (w : World) (es : List (Nat → Int)) (D X Y : Int) (hes : IsN es [X, Y]) (TT : HasTw w 8) (CC : Em5 w 6 0 D) :
    Calls Tryz.prog 113 #[agN es] w fun r w' => r = .returned (.bool (onB D X Y)) ∧ Below w.heap.size w w' := by
  show Calls Tryz.prog 113 #[.agg (clN es).toArray] w _
  have P0 := rowN_new w 74 hes
  have N : Below w.heap.size w (w.alloc (.cells (clN es).toArray 74)) := (Below.refl _ _).alloc (Nat.le_refl _) _
  obtain ⟨V0, hV0⟩ : ∃ V, V = (clN es).toArray := ⟨_, rfl⟩
  rw [← hV0] at P0 N ⊢
  clear hV0 hes
  replace TT := TT.up N
  replace CC := CC.up N
  go_enter Tryz.func113, Tryz.ntmps113
  go_upto_region 1 with fail
  generalize w.alloc (.cells V0 74) = wr at *
  refine region_new2 8 6 2 3 7 7 5 4 10 _ _ (fun i => [Fact.eq (.pointer (some ⟨w.heap.size, 0, none⟩)), EM (X), EM ((X) * (X)), Fact.eq (.pointer (some ⟨w.heap.size, 5, none⟩)), EM (Y), EM ((Y) * (Y)), NB wr 5, NB wr 5].getD i Fact.no) ((X) * (X)) ((Y) * (Y)) (by kernel_rfl) rfl rfl rfl rfl rfl rfl rfl rfl rfl (by kernel_rfl) (by kernel_rfl) (by kernel_rfl) (by kernel_rfl) rfl rfl rfl rfl (by decide) (fresh_new5 rfl rfl rfl) (fresh_new5 rfl rfl rfl) ?_ ?_
  · intro i hi
    obtain rfl | rfl | rfl | rfl | rfl | rfl | rfl | rfl : i = 0 ∨ i = 1 ∨ i = 2 ∨ i = 3 ∨ i = 4 ∨ i = 5 ∨ i = 6 ∨ i = 7 := by omega
    · exact step_fld rfl 74 1 0 rfl (by kernel_rfl) _ _ rfl (fxA _) rfl
    · exact step_e5f rfl 5 0 rfl (by kernel_rfl) _ _ rfl _ P0.at0 rfl
    · exact step_sq5 rfl 6 1 _ rfl (by kernel_rfl) rfl rfl
    · exact step_fld rfl 74 1 1 rfl (by kernel_rfl) _ _ rfl (fyA _) rfl
    · exact step_e5f rfl 8 3 rfl (by kernel_rfl) _ _ rfl _ P0.tail.at0 rfl
    · exact step_sq5 rfl 9 4 _ rfl (by kernel_rfl) rfl rfl
    · exact step_new5 rfl rfl rfl
    · exact step_new5 rfl rfl rfl
  intro vs1 q3 q4 W1 v3 v4 l3 l4 n55 n E3 E4
  replace TT := TT.up n
  replace CC := CC.up n
  replace N := nxt N n
  clear n n55 P0
  simp only [puts, v3, v4, Act.put, List.setIfInBounds_toArray, List.set_cons_succ, List.set_cons_zero]
  clear v3 v4
  go_upto_region 2 with fail
  refine region_end 12 (fun i => [EM ((Y) * (Y)), EM ((X) * (X)), EM (((Y) * (Y)) - ((X) * (X))), EM (1), EM (D), EM ((X) * (X)), EM ((D) * ((X) * (X))), EM ((Y) * (Y)), EM (((D) * ((X) * (X))) * ((Y) * (Y))), EM ((1) + (((D) * ((X) * (X))) * ((Y) * (Y)))), Fact.eq (.bool (decide ((((Y) * (Y)) - ((X) * (X))) % PP = ((1) + (((D) * ((X) * (X))) * ((Y) * (Y)))) % PP))), Fact.eq (.bool (decide ((((Y) * (Y)) - ((X) * (X))) % PP = ((1) + (((D) * ((X) * (X))) * ((Y) * (Y)))) % PP)))].getD i Fact.no) (by kernel_rfl) (by kernel_rfl) rfl ?_ ?_
  · intro i hi
    obtain rfl | rfl | rfl | rfl | rfl | rfl | rfl | rfl | rfl | rfl | rfl | rfl : i = 0 ∨ i = 1 ∨ i = 2 ∨ i = 3 ∨ i = 4 ∨ i = 5 ∨ i = 6 ∨ i = 7 ∨ i = 8 ∨ i = 9 ∨ i = 10 ∨ i = 11 := by omega
    · exact step_e5 rfl 4 rfl (by kernel_rfl) _ _ rfl _ E4 rfl
    · exact step_e5 rfl 3 rfl (by kernel_rfl) _ _ rfl _ E3 rfl
    · exact step_sub5 TT rfl 11 12 0 1 _ _ rfl (by kernel_rfl) (by kernel_rfl) rfl rfl rfl
    · exact step_b5 rfl 1 (by omega) rfl rfl
    · exact step_gl5 rfl 6 rfl _ CC rfl
    · exact step_e5 rfl 3 rfl (by kernel_rfl) _ _ rfl _ E3 rfl
    · exact step_mul5 rfl 15 16 4 5 _ _ rfl (by kernel_rfl) (by kernel_rfl) rfl rfl rfl
    · exact step_e5 rfl 4 rfl (by kernel_rfl) _ _ rfl _ E4 rfl
    · exact step_mul5 rfl 17 18 6 7 _ _ rfl (by kernel_rfl) (by kernel_rfl) rfl rfl rfl
    · exact step_add5 rfl 14 19 3 8 _ _ rfl (by kernel_rfl) (by kernel_rfl) rfl rfl rfl
    · exact step_eq5 rfl 13 20 2 9 _ _ rfl (by kernel_rfl) (by kernel_rfl) rfl rfl rfl
    · exact step_move rfl 21 10 (by exact Or.inr rfl) (by kernel_rfl) rfl
  intro A W hb hw hF
  have e2 := hF 11 2 (by kernel_rfl)
  obtain ⟨vs, hvs⟩ : ∃ vs : Nat → Value, ∀ d, A.tmps.getD d undef = vs d := ⟨_, fun _ => rfl⟩
  rw [hvs] at e2
  rw [puts_of (md := .any) (k := 12) (by kernel_rfl) rfl hb vs hvs]
  have N9 := nxt N hw
  clear hb hF hvs hw
  have e3 : vs 2 = .bool (onB D X Y) := e2
  clear e2
  simp only [puts, e3, Act.put, List.setIfInBounds_toArray, List.set_cons_succ, List.set_cons_zero]
  go_wp2
  go_ret
  exact ⟨rfl, N9⟩
section
variable {ops : Array Oper} {Q : Exit → Act → World → Prop} {md : Region.Mode} {F : Nat → Fact} {a0 : Act} {w0 : World} {i : Nat} {o : Oper} {ts : Array TypeId}
theorem step_re (hi : ops[i]? = some o) (p j : Nat) {a : Option Addr} {c : Nat} {xs : List Int} (hop : o.op = .call { callee := .value (.func 112), args := #[.tmp p], argTypes := ts })
    (hj : waits md ops i j p = true) (hO : OfOk w0 a xs) (hFj : F j = Fact.eq (.slice a xs.length c)) (hFi : F i = EM (num xs)) : StepOk Tryz.prog md ops Q F a0 w0 i := by
  obtain ⟨g, hr, hb, hl⟩ := hO
  refine step_call hi _ _ ts hop (by kernel_rfl) fun A w _ hw hF => ?_
  have ea := hF j p hj
  rw [hFj] at ea
  show Calls Tryz.prog 112 #[A.tmps.getD p undef] w _
  have e1 : A.tmps.getD p undef = .slice a 32 c := by rw [← hl]; exact ea
  rw [e1]
  refine (readElement_any w g a c xs (hr.up hw) hb hl).mono ?_
  rintro r w' ⟨rfl, n⟩
  rw [hFi]
  exact ⟨_, rfl, n, elt xs, rfl, elt_ok hb hl⟩
theorem step_ion (TT : HasTw w0 8) {D : Int} (CC : Em5 w0 6 0 D) (hi : ops[i]? = some o) (p j : Nat) (A B : Int) (hop : o.op = .call { callee := .value (.func 113), args := #[.tmp p], argTypes := ts })
    (hj : waits md ops i j p = true) (hFj : F j = EN [A, B]) (hFi : F i = Fact.eq (.bool (onB D A B))) : StepOk Tryz.prog md ops Q F a0 w0 i := by
  refine step_call hi _ _ ts hop (by kernel_rfl) fun a w _ hw hF => ?_
  have ea := hF j p hj
  rw [hFj] at ea
  obtain ⟨t, e1, L1⟩ := ea
  show Calls Tryz.prog 113 #[a.tmps.getD p undef] w _
  rw [e1]
  refine (isOn_any w t D A B L1 (TT.up hw) (CC.up hw)).mono ?_
  rintro r w' ⟨rfl, hn⟩
  rw [hFi]
  exact ⟨_, rfl, hn, rfl⟩
end
/-- What readPoint reads: the coordinates, or zeros. -/
def rpC (xs ys : List Int) : Bool := canN xs && canN ys
def rpX (xs ys : List Int) : Int := if rpC xs ys = true then num xs else 0
def rpY (xs ys : List Int) : Int := if rpC xs ys = true then num ys else 0
def rpB (D : Int) (xs ys : List Int) : Bool := rpC xs ys && onB D (num xs) (num ys)
set_option maxHeartbeats 4000000 in
theorem readPoint_any (w : World) (g g' : Nat) (a a' : Option Addr) (c c' : Nat) (xs ys : List Int) (hx : Rd w g a .u8 xs) (hy : Rd w g' a' .u8 ys) (bx : Byt xs) (by' : Byt ys) (D : Int) (TT : HasTw w 8) (CC : Em5 w 6 0 D) :
    Calls Tryz.prog 58 #[.agg #[.slice a xs.length c, .slice a' ys.length c']] w fun r w' => ∃ es, r = .returned (.tuple #[agN es, .bool (rpB D xs ys)]) ∧ IsN es [rpX xs ys, rpY xs ys] ∧ Below w.heap.size w w' := by
  have T := two_cells w (.slice a xs.length c) (.slice a' ys.length c') 37
  have m1 : Below w.heap.size w (w.alloc (.cells #[.slice a xs.length c, .slice a' ys.length c'] 37)) := (Below.refl _ _).alloc (Nat.le_refl _) _
  have s1 : (w.alloc (.cells #[.slice a xs.length c, .slice a' ys.length c'] 37)).heap.size = w.heap.size + 1 := by simp
  have CN := fun W h => implFieldCanonical_any W g a c xs h bx
  have CM := fun W h => implFieldCanonical_any W g' a' c' ys h by'
  obtain ⟨CX, CY⟩ := T
  go_enter Tryz.func58, Tryz.ntmps58
  go_upto_region 1 with fail
  generalize w.alloc (.cells #[.slice a xs.length c, .slice a' ys.length c'] 37) = wa at *
  have TR : (wa.alloc zA).there wa.heap.size 0 10 := there_new wa _ _
  have RZ : RowN (wa.alloc zA) wa.heap.size 0 [0, 0] := rowN_new wa 74 (es := [sm5 0, sm5 0]) ⟨sm5_ok (by omega) (by omega), sm5_ok (by omega) (by omega), trivial⟩
  have mz : Below wa.heap.size wa (wa.alloc zA) := (Below.refl _ _).alloc (Nat.le_refl _) _
  rw [s1] at TR RZ
  have N := nxt m1 mz
  replace CX := (mz.cell (block_lt_of_cell CX)).trans CX
  replace CY := (mz.cell (block_lt_of_cell CY)).trans CY
  obtain ⟨wr, hwr⟩ : ∃ W, W = wa.alloc zA := ⟨_, rfl⟩
  rw [← hwr] at TR RZ N CX CY
  change Code.wp _ _ _ _ (wa.alloc zA)
  rw [← hwr]
  clear hwr m1 mz s1
  have RX := hx.up N
  have RY := hy.up N
  clear hx hy
  replace TT := TT.up N
  replace CC := CC.up N
  have bad : rpC xs ys = false → rpB D xs ys = false ∧ rpX xs ys = 0 ∧ rpY xs ys = 0 := fun h => by
    unfold rpB rpX rpY
    rw [h]
    simp
  have BAD := hide bad
  clear bad
  cases hk : canN xs with
  | false =>
    obtain ⟨b1, b2, b3⟩ := BAD.out (by unfold rpC; rw [hk]; rfl)
    simp only [hk] at CN
    go_wp2_with fail
    refine (CN wr RX).mono ?_
    rintro e w1 ⟨rfl, n1⟩
    replace N := nxt N n1
    replace RZ := RZ.up n1
    replace TR := there_up (by omega) TR n1
    clear CN CM n1 CX CY RX RY TT CC
    go_upto_region 2 with fail
    refine region_putN_asgc 74 1 0 2 15 3 _ _ (fun i => [EN [0, 0]].getD i Fact.no) [0, 0] (.bool false) _ (by kernel_rfl) rfl rfl rfl rfl rfl rfl iA (Nat.zero_lt_succ _) (by kernel_rfl) rfl TR rfl (by kernel_rfl) rfl (by kernel_rfl) ?_ ?_
    · intro i hi
      obtain rfl : i = 0 := by omega
      exact step_b0A rfl rfl rfl
    intro vs4 Wa Wb vb na bq RL nb
    have NS := nb w w.heap.size (nxt N na) (by omega)
    simp only [puts, vb, Act.put, List.setIfInBounds_toArray, List.set_cons_succ, List.set_cons_zero]
    clear vb bq nb na N TR RZ
    go_wp2
    obtain ⟨es, rg, _, ht⟩ := RL
    have lz := clN_len ht
    obtain ⟨fs, hfs⟩ := uA
    exact bodyPost_ret (v := .tuple #[agN es, .bool false]) (results_cell_slot Tryz.results58 _ _ (w.heap.size + 1) (clN es) _ rfl rfl rg hfs rfl (by rw [lz]; exact iA)) rfl ⟨es, by rw [b1], by rw [b2, b3]; exact ht, NS⟩
  | true =>
    simp only [hk] at CN
    go_wp2_with fail
    refine (CN wr RX).mono ?_
    rintro e w1 ⟨rfl, n1⟩
    replace N := nxt N n1
    replace RZ := RZ.up n1
    replace TR := there_up (by omega) TR n1
    replace RX := RX.up n1
    replace RY := RY.up n1
    replace CX := (n1.cell (block_lt_of_cell CX)).trans CX
    replace CY := (n1.cell (block_lt_of_cell CY)).trans CY
    replace TT := TT.up n1
    replace CC := CC.up n1
    clear CN n1
    cases hl : canN ys with
    | false =>
      obtain ⟨b1, b2, b3⟩ := BAD.out (by unfold rpC; rw [hk, hl]; rfl)
      simp only [hl] at CM
      go_wp2_with fail
      refine (CM w1 RY).mono ?_
      rintro e w2 ⟨rfl, n1⟩
      replace N := nxt N n1
      replace RZ := RZ.up n1
      replace TR := there_up (by omega) TR n1
      clear CM n1 CX CY RX RY TT CC
      go_upto_region 2 with fail
      refine region_putN_asgc 74 1 0 2 15 3 _ _ (fun i => [EN [0, 0]].getD i Fact.no) [0, 0] (.bool false) _ (by kernel_rfl) rfl rfl rfl rfl rfl rfl iA (Nat.zero_lt_succ _) (by kernel_rfl) rfl TR rfl (by kernel_rfl) rfl (by kernel_rfl) ?_ ?_
      · intro i hi
        obtain rfl : i = 0 := by omega
        exact step_b0A rfl rfl rfl
      intro vs4 Wa Wb vb na bq RL nb
      have NS := nb w w.heap.size (nxt N na) (by omega)
      simp only [puts, vb, Act.put, List.setIfInBounds_toArray, List.set_cons_succ, List.set_cons_zero]
      clear vb bq nb na N TR RZ
      go_wp2
      obtain ⟨es, rg, _, ht⟩ := RL
      have lz := clN_len ht
      obtain ⟨fs, hfs⟩ := uA
      exact bodyPost_ret (v := .tuple #[agN es, .bool false]) (results_cell_slot Tryz.results58 _ _ (w.heap.size + 1) (clN es) _ rfl rfl rg hfs rfl (by rw [lz]; exact iA)) rfl ⟨es, by rw [b1], by rw [b2, b3]; exact ht, NS⟩
    | true =>
      have RC : rpC xs ys = true := by unfold rpC; rw [hk, hl]; rfl
      have b1 : rpB D xs ys = onB D (num xs) (num ys) := by unfold rpB; rw [RC]; rfl
      have b2 : rpX xs ys = num xs := by unfold rpX; rw [if_pos RC]
      have b3 : rpY xs ys = num ys := by unfold rpY; rw [if_pos RC]
      replace b1 := hide b1
      replace b2 := hide b2
      replace b3 := hide b3
      have OX := hide (fun W (n : Below w1.heap.size w1 W) => of_ok (RX.up n) bx (can_len hk))
      have OY := hide (fun W (n : Below w1.heap.size w1 W) => of_ok (RY.up n) by' (can_len hl))
      simp only [hl] at CM
      clear hk hl RC BAD
      go_wp2_with fail
      refine (CM w1 RY).mono ?_
      rintro e w2 ⟨rfl, n1⟩
      replace N := nxt N n1
      replace TR := there_up (by omega) TR n1
      replace OX := hide (OX.out w2 n1)
      replace OY := hide (OY.out w2 n1)
      replace CX := (n1.cell (block_lt_of_cell CX)).trans CX
      replace CY := (n1.cell (block_lt_of_cell CY)).trans CY
      replace TT := TT.up n1
      replace CC := CC.up n1
      clear CM n1 RX RY RZ
      go_upto_region 3 with fail
      refine region_newN 74 8 7 6 4 22 _ (fun i => [Fact.eq (.pointer (some ⟨w.heap.size, 0, none⟩)), Fact.eq (.slice a xs.length c), EM (num xs), Fact.eq (.pointer (some ⟨w.heap.size, 1, none⟩)), Fact.eq (.slice a' ys.length c'), EM (num ys), EN [num xs, num ys], NB w2 10].getD i Fact.no) [num xs, num ys] (by kernel_rfl) rfl rfl rfl iA (Nat.zero_lt_succ _) (by kernel_rfl) (by kernel_rfl) rfl rfl ?_ ?_
      · intro i hi
        obtain rfl | rfl | rfl | rfl | rfl | rfl | rfl | rfl : i = 0 ∨ i = 1 ∨ i = 2 ∨ i = 3 ∨ i = 4 ∨ i = 5 ∨ i = 6 ∨ i = 7 := by omega
        · exact step_fld rfl 37 1 0 rfl (by kernel_rfl) _ _ rfl (fxP _) rfl
        · exact step_lds rfl 16 0 rfl (by kernel_rfl) _ _ rfl _ _ _ CX rfl
        · exact step_re rfl 17 1 rfl (by kernel_rfl) OX.out rfl rfl
        · exact step_fld rfl 37 1 1 rfl (by kernel_rfl) _ _ rfl (fyP _) rfl
        · exact step_lds rfl 19 3 rfl (by kernel_rfl) _ _ rfl _ _ _ CY rfl
        · exact step_re rfl 20 4 rfl (by kernel_rfl) OY.out rfl rfl
        · exact step_bA rfl 18 21 2 5 _ _ rfl (by kernel_rfl) (by kernel_rfl) rfl rfl rfl
        · exact step_newA rfl rfl rfl
      intro vs3 q4 W3 v4 l4 n E4 T4
      replace TT := TT.up n
      replace CC := CC.up n
      replace N := nxt N n
      replace TR := there_up (by omega) TR n
      clear n T4 CX CY OX OY
      simp only [puts, v4, Act.put, List.setIfInBounds_toArray, List.set_cons_succ, List.set_cons_zero]
      clear v4
      go_upto_region 4 with fail
      refine region_putN_asg 74 3 0 2 23 2 25 3 _ _ (fun i => [EN [num xs, num ys], EN [num xs, num ys], Fact.eq (.bool (onB D (num xs) (num ys)))].getD i Fact.no) [num xs, num ys] (.bool (onB D (num xs) (num ys))) _ (by kernel_rfl) rfl rfl rfl rfl rfl rfl iA (Nat.zero_lt_succ _) (by kernel_rfl) rfl TR rfl rfl (by kernel_rfl) (by kernel_rfl) rfl rfl (by kernel_rfl) ?_ ?_
      · intro i hi
        obtain rfl | rfl | rfl : i = 0 ∨ i = 1 ∨ i = 2 := by omega
        · exact step_lA rfl 4 rfl (by kernel_rfl) _ rfl _ _  E4 rfl
        · exact step_lA rfl 4 rfl (by kernel_rfl) _ rfl _ _  E4 rfl
        · exact step_ion TT CC rfl 24 1 _ _ rfl (by kernel_rfl) rfl rfl
      intro vs4 Wa Wb vb na bq RL nb
      have NS := nb w w.heap.size (nxt N na) (by omega)
      simp only [puts, vb, Act.put, List.setIfInBounds_toArray, List.set_cons_succ, List.set_cons_zero]
      clear vb bq nb na N TR E4 TT CC
      go_wp2
      obtain ⟨es, rg, _, ht⟩ := RL
      have lz := clN_len ht
      obtain ⟨fs, hfs⟩ := uA
      exact bodyPost_ret (v := .tuple #[agN es, .bool (onB D (num xs) (num ys))]) (results_cell_slot Tryz.results58 _ _ (w.heap.size + 1) (clN es) _ rfl rfl rg hfs rfl (by rw [lz]; exact iA)) rfl ⟨es, by rw [b1.out], by rw [b2.out, b3.out]; exact ht, NS⟩
end Go.Proofs.YtliahigljoeeoaaGreatDoor

/-
  Steps: the program's calls on points.
-/
namespace Go.Proofs.YtliahigljoeeoaaGreatDoor
set_option maxRecDepth 100000
open Go Go.RowKit

theorem field_X (x y z t : Nat → Int) (w : World) : (Instr.field 141 (agN [x, y, z, t]) 0).run Tryz.prog w = .ok (agN [x, y, z]) w := by kernel_rfl
/-- A list of bytes that may be read. -/
def RdOk (W : World) (a : Option Addr) (xs : List Int) : Prop := ∃ g, Rd W g a .u8 xs ∧ Byt xs
theorem RdOk.up {W W' : World} {a : Option Addr} {xs : List Int} (h : RdOk W a xs) (n : Below W.heap.size W W') : RdOk W' a xs := by
  obtain ⟨g, r, b⟩ := h
  exact ⟨g, r.up n, b⟩
theorem Two.there {w : World} {p : Nat} {x y : Value} (h : Two w p x y) : w.there p 0 2 := fun j hj => by
  obtain rfl | rfl : j = 0 ∨ j = 1 := by omega
  · exact ⟨by rw [show (⟨p, 0 + 0, none⟩ : Addr) = ⟨p, 0, none⟩ from rfl, h.c0]; rfl, h.f0⟩
  · exact ⟨by rw [show (⟨p, 0 + 1, none⟩ : Addr) = ⟨p, 1, none⟩ from rfl, h.c1]; rfl, h.f1⟩
section
variable {ops : Array Oper} {Q : Exit → Act → World → Prop} {md : Region.Mode} {F : Nat → Fact} {a0 : Act} {w0 : World} {i : Nat} {o : Oper} {ts : Array TypeId}
theorem step_ext (hi : ops[i]? = some o) (p j : Nat) (A B : Int) (hop : o.op = .call { callee := .value (.func 114), args := #[.tmp p], argTypes := ts })
    (hj : waits md ops i j p = true) (hFj : F j = EN [A, B]) (hFi : F i = EN [A, B, 1, A * B]) : StepOk Tryz.prog md ops Q F a0 w0 i :=
  step_oneN hi _ p hop (by kernel_rfl) j _ _ (fun w es _ he => toExt_any w es A B he) hj hFj hFi
theorem step_xadd (TT : HasTw w0 8) {D : Int} (CC : Em5 w0 6 0 D) (hi : ops[i]? = some o) (p q j k : Nat) (X Y Z T X' Y' Z' T' : Int) (hop : o.op = .call { callee := .value (.func 115), args := #[.tmp p, .tmp q], argTypes := ts })
    (hj : waits md ops i j p = true) (hk : waits md ops i k q = true) (hFj : F j = EN [X, Y, Z, T]) (hFk : F k = EN [X', Y', Z', T'])
    (hFi : F i = EN [xaR X Y X' Y' * ybR Z T Z' T' D, yaR X Y X' Y' * xbR Z T Z' T' D, xbR Z T Z' T' D * ybR Z T Z' T' D, xaR X Y X' Y' * yaR X Y X' Y']) : StepOk Tryz.prog md ops Q F a0 w0 i :=
  step_twoN hi _ p q hop (by kernel_rfl) j k _ _ _ (fun w es fs hw he hf => extAdd_any w D es fs T T' X X' Y Y' Z Z' he hf (TT.up hw) (CC.up hw)) hj hk hFj hFk hFi
theorem step_fldX (hi : ops[i]? = some o) (p j : Nat) (A B C T : Int) (hop : o.op = .field 141 (.tmp p) 0)
    (hj : waits md ops i j p = true) (hFj : F j = EN [A, B, C, T]) (hFi : F i = EN [A, B, C]) : StepOk Tryz.prog md ops Q F a0 w0 i := by
  refine step_pure hi fun a w _ _ hf => ?_
  have h1 := hf j p hj
  rw [hFj] at h1
  obtain ⟨es, e1, X⟩ := h1
  obtain ⟨x, y, z, t, rfl, hx, hy, hz, ht⟩ := isN4 X
  refine ⟨agN [x, y, z], ?_, by rw [hFi]; exact ⟨_, rfl, hx, hy, hz, trivial⟩⟩
  have g1 : a.eval (.tmp p) = agN [x, y, z, t] := e1
  simp only [execOp, hop, g1]
  rw [Sem.run_bind, field_X]
  rfl
theorem step_aff (SS : HasSt w0 11) (II : Has3 w0 9 12 5 4) (hi : ops[i]? = some o) (p j : Nat) (X Y Z : Int) (hop : o.op = .call { callee := .value (.func 116), args := #[.tmp p], argTypes := ts })
    (hj : waits md ops i j p = true) (hFj : F j = EN [X, Y, Z]) (hFi : F i = EN [X * Z ^ eInv, Y * Z ^ eInv]) : StepOk Tryz.prog md ops Q F a0 w0 i :=
  step_oneN hi _ p hop (by kernel_rfl) j _ _ (fun w es hw he => toAffine_any w es X Y Z he (SS.up hw) (II.up hw)) hj hFj hFi
theorem step_pt (hi : ops[i]? = some o) (p j : Nat) (X Y : Int) (hop : o.op = .call { callee := .value (.func 60), args := #[.tmp p], argTypes := ts })
    (hj : waits md ops i j p = true) (hFj : F j = EN [X, Y]) (hFi : F i = PD w0 (fill (byt (X % PP)) 32) (fill (byt (Y % PP)) 32)) : StepOk Tryz.prog md ops Q F a0 w0 i := by
  refine step_call hi _ _ ts hop (by kernel_rfl) fun a w _ hw hF => ?_
  have ea := hF j p hj
  rw [hFj] at ea
  obtain ⟨t, e1, L1⟩ := ea
  show Calls Tryz.prog 60 #[a.tmps.getD p undef] w _
  rw [e1]
  refine (point_any w t X Y L1).mono ?_
  rintro r w' ⟨⟨b, c, g, b', c', g', rfl, o1, o2, k1, k2, hne⟩, hn⟩
  rw [hFi]
  have z := hw.size
  exact ⟨_, rfl, hn, b, b', c, c', g, g', rfl, o1, o2, by omega, by omega, hne⟩
/-- A struct of two cells is read. -/
theorem step_lP (hi : ops[i]? = some o) (p : Nat) (hop : o.op = .load 37 (.tmp p)) (hp : apart ops p = true) (q : Nat) (h0 : a0.tmps.getD p undef = .pointer (some ⟨q, 0, none⟩)) (u v : Value) (c0 : w0.cell? ⟨q, 0, none⟩ = some u) (c1 : w0.cell? ⟨q, 1, none⟩ = some v) (hF : F i = Fact.eq (.agg #[u, v])) : StepOk Tryz.prog md ops Q F a0 w0 i := by
  obtain ⟨fs, hu⟩ := uP
  refine step_load hi _ _ hop _ 2 hu rfl iP fun a w hb hw _ => ?_
  refine ⟨q, 0, [u, v], (based_at hb p hp).trans h0, fun j x hx => ?_, rfl, by rw [hF]; exact rfl⟩
  have d0 := (hw.cell (block_lt_of_cell c0)).trans c0
  have d1 := (hw.cell (block_lt_of_cell c1)).trans c1
  have hj : j < 2 := (List.getElem?_eq_some_iff.1 hx).1
  obtain rfl | rfl : j = 0 ∨ j = 1 := by omega
  · cases hx
    exact d0
  · cases hx
    exact d1
theorem step_rp (TT : HasTw w0 8) {D : Int} (CC : Em5 w0 6 0 D) (hi : ops[i]? = some o) (p j : Nat) {a a' : Option Addr} {c c' : Nat} {xs ys : List Int} (hop : o.op = .call { callee := .value (.func 58), args := #[.tmp p], argTypes := ts })
    (hj : waits md ops i j p = true) (hX : RdOk w0 a xs) (hY : RdOk w0 a' ys) (hFj : F j = Fact.eq (.agg #[.slice a xs.length c, .slice a' ys.length c'])) (hFi : F i = TB [rpX xs ys, rpY xs ys] (rpB D xs ys)) : StepOk Tryz.prog md ops Q F a0 w0 i := by
  refine step_call hi _ _ ts hop (by kernel_rfl) fun A w _ hw hF => ?_
  have ea := hF j p hj
  rw [hFj] at ea
  show Calls Tryz.prog 58 #[A.tmps.getD p undef] w _
  rw [show A.tmps.getD p undef = _ from ea]
  obtain ⟨g, r1, b1⟩ := hX
  obtain ⟨g', r2, b2⟩ := hY
  refine (readPoint_any w g g' a a' c c' xs ys (r1.up hw) (r2.up hw) b1 b2 D (TT.up hw) (CC.up hw)).mono ?_
  rintro r w' ⟨es, rfl, L, hn⟩
  rw [hFi]
  exact ⟨_, rfl, hn, es, rfl, L⟩
end
end Go.Proofs.YtliahigljoeeoaaGreatDoor

/-
  Regions that hold rows of elements of any kind: what is loaded, made, stored.
-/
namespace Go.Proofs.YtliahigljoeeoaaGreatDoor
set_option maxRecDepth 100000
open Go Go.RowKit

/-- A row of elements of which this is known. -/
def AG (R : List (Nat → Int) → Prop) : Fact := ⟨fun v _ => ∃ es, v = agN es ∧ R es, fun _ h => h⟩
/-- The same in memory. -/
def RowG (W : World) (q o : Nat) (R : List (Nat → Int) → Prop) : Prop := ∃ es, W.rangeAt q o (clN es) ∧ q < W.heap.size ∧ R es
theorem RowG.up {W W' : World} {q o : Nat} {R : List (Nat → Int) → Prop} (h : RowG W q o R) (n : Below W.heap.size W W') : RowG W' q o R := by
  obtain ⟨t, r, l, h⟩ := h
  exact ⟨t, fun j v hv => (World.cell?_of_block (a := ⟨q, o + j, none⟩) (n.block q l)).trans (r j v hv), Nat.lt_of_lt_of_le l n.size, h⟩
theorem RowG.but {W W' : World} {g o q : Nat} {R : List (Nat → Int) → Prop} (h : RowG W g o R) (k : ButQ q W W') (hne : g ≠ q) : RowG W' g o R := by
  obtain ⟨t, r, l, h⟩ := h
  exact ⟨t, fun j v hv => (World.cell?_of_block (a := ⟨g, o + j, none⟩) (k.1 g hne l)).trans (r j v hv), Nat.lt_of_lt_of_le l k.2, h⟩
theorem there_upo {W W' : World} {q o n : Nat} (hn : 0 < n) (h : W.there q o n) (k : Below W.heap.size W W') : W'.there q o n := by
  have l : q < W.heap.size := by
    have := (h 0 hn).1
    cases hc : W.cell? ⟨q, o + 0, none⟩ with
    | none => rw [hc] at this; simp at this
    | some v => exact block_lt_of_cell hc
  intro j hj
  have e := k.block q l
  rw [World.cell?_of_block (a := ⟨q, o + j, none⟩) e, World.frozen?_of_block (a := ⟨q, o + j, none⟩) e]
  exact h j hj
theorem but_setO {W W' : World} {q : Nat} (n : Below W.heap.size W W') (o : Nat) (vs : List Value) : ButQ q W (W'.setCells q o vs) :=
  ⟨fun g hg hl => (setCells_other hg vs o W').trans (n.block g hl), by rw [heap_size_setCells]; exact n.size⟩
section
variable {ops : Array Oper} {Q : Exit → Act → World → Prop} {md : Region.Mode} {F : Nat → Fact} {a0 : Act} {w0 w : World} {i id : Nat} {o : Oper} {ts : Array TypeId} {draw : Bool}
/-- A row is loaded, at a known place. -/
theorem step_lG (ty : TypeId) (d : TypeDesc) (m : Nat) (R : List (Nat → Int) → Prop) (hR : ∀ es, R es → es.length = m) (hu : Tryz.prog.underlying ty = some d) (hd : d.isRow = true) (hs : (Tryz.prog.info? ty).map (·.size) = some (5 * m)) (hi : ops[i]? = some o) (p : Nat) (hop : o.op = .load ty (.tmp p)) (hp : apart ops p = true) (q off : Nat) (h0 : a0.tmps.getD p undef = .pointer (some ⟨q, off, none⟩)) (hE : RowG w0 q off R) (hF : F i = AG R) : StepOk Tryz.prog md ops Q F a0 w0 i := by
  refine step_load hi _ _ hop d _ hu hd hs fun a w hb hw _ => ?_
  obtain ⟨t, r, _, h⟩ := hE.up hw
  exact ⟨q, off, _, (based_at hb p hp).trans h0, r, by rw [clN_size, hR _ h], by rw [hF]; exact ⟨t, rfl, h⟩⟩
theorem step_lGf (ty : TypeId) (d : TypeDesc) (m : Nat) (R : List (Nat → Int) → Prop) (hR : ∀ es, R es → es.length = m) (hu : Tryz.prog.underlying ty = some d) (hd : d.isRow = true) (hs : (Tryz.prog.info? ty).map (·.size) = some (5 * m)) (hi : ops[i]? = some o) (p j : Nat) (hop : o.op = .load ty (.tmp p)) (hj : waits md ops i j p = true) (q off : Nat) (hFj : F j = Fact.eq (.pointer (some ⟨q, off, none⟩))) (hE : RowG w0 q off R) (hF : F i = AG R) : StepOk Tryz.prog md ops Q F a0 w0 i := by
  refine step_load hi _ _ hop d _ hu hd hs fun a w hb hw hf => ?_
  obtain ⟨t, r, _, h⟩ := hE.up hw
  have e := hf j p hj
  rw [hFj] at e
  exact ⟨q, off, _, e, r, by rw [clN_size, hR _ h], by rw [hF]; exact ⟨t, rfl, h⟩⟩
theorem step_nil0 {P : Program} (hi : ops[i]? = some o) (p : Nat) (hop : o.op = .nilCheck (.tmp p)) (hp : apart ops p = true) {q off : Nat} (h0 : a0.tmps.getD p undef = .pointer (some ⟨q, off, none⟩)) (hF : F i = Fact.eq (.pointer (some ⟨q, off, none⟩))) : StepOk P md ops Q F a0 w0 i := by
  refine step_pure hi fun a w hb _ _ => ⟨.pointer (some ⟨q, off, none⟩), ?_, by rw [hF]; exact rfl⟩
  have e := (based_at hb p hp).trans h0
  simp [execOp, hop, e]
theorem step_asgf {P : Program} (hi : ops[i]? = some o) (p j : Nat) (hop : o.op = .assign (.tmp p)) (hj : waits md ops i j p = true) {v : Value} (hFj : F j = Fact.eq v) (hF : F i = Fact.eq v) : StepOk P md ops Q F a0 w0 i := by
  refine step_pure hi fun a w _ _ hf => ⟨v, ?_, by rw [hF]; exact rfl⟩
  have e := hf j p hj
  rw [hFj] at e
  have e' : a.eval (.tmp p) = v := e
  simp [execOp, hop, e']
/-- The address of place n of sixteen points. -/
theorem run_idx16 (w : World) (q n : Nat) (hn : n < 16) : (Instr.indexAt 148 (.pointer (some ⟨q, 0, none⟩)) (.int .i64 (n : Int))).run Tryz.prog w = .ok (.pointer (some ⟨q, 20 * n, none⟩)) w := by
  have h1 : (0 : Int) ≤ (n : Int) ∧ (n : Int) < 16 := by omega
  simp [go_sem, h1, Nat.mul_comm]
/-- A row of elements is laid into a new block; what else is known of the slots. -/
theorem region_newG (ty : TypeId) (k jA jV pA pV m : Nat) (o1 : Oper) (F : Nat → Fact) (R : List (Nat → Int) → Prop) (hR : ∀ es, R es → es.length = m) (hT : textTail .any draw ops a0.tmps.size k = true) (hdrop : ops.toList.drop k = [o1]) (hd1 : o1.dst = none)
    (hop1 : o1.op = .store ty (.tmp pA) (.tmp pV)) (hs : (Tryz.prog.info? ty).map (·.size) = some (5 * m))
    (qA : decide (jA < k) = true) (qV : decide (jV < k) = true) (wA : writes ops jA pA = true) (wV : writes ops jV pV = true) (FA : F jA = NB w (5 * m)) (FV : F jV = AG R) (steps : ∀ i, i < k → StepOk Tryz.prog .any ops Q F a0 w i)
    (fin : ∀ (vs : Nat → Value) (q : Nat) (W W' : World), vs pA = .pointer (some ⟨q, 0, none⟩) → (∀ i d, decide (i < k) = true → writes ops i d = true → (F i).p (vs d) W) → w.heap.size ≤ q → Below w.heap.size w W' → RowG W' q 0 R → W'.there q 0 (5 * m) → Q .normal (puts vs a0 ops.toList) W') :
    (Code.region id ops draw).wp Tryz.prog Q a0 w := by
  refine region_tail k F (by kernel_rfl) hT steps [] (fun p hp => by cases hp) (fun p hp => by cases hp) fun a W hb hw hF _ => ?_
  have h1 := hF jA pA qA wA
  have h2 := hF jV pV qV wV
  rw [FA] at h1
  rw [FV] at h2
  obtain ⟨_, q, eq, th, hq⟩ := h1
  obtain ⟨es, ev, V⟩ := h2
  have le : (clN es).length = 5 * m := by rw [clN_size, hR _ V]
  rw [hdrop]
  show o1.wp _ a W (fun a' w' => Q .normal a' w') Q
  refine wp_store_mid ty (.tmp pA) (.tmp pV) hop1 q 0 (clN es).toArray eq ev (by show W.there q 0 (clN es).length; rw [le]; exact th) (by show _ = some (clN es).length; rw [le]; exact hs) (clN_one es) ?_
  rw [hd1]
  obtain ⟨vs, hvs⟩ : ∃ vs : Nat → Value, ∀ d, a.tmps.getD d undef = vs d := ⟨_, fun _ => rfl⟩
  show Q .normal a _
  rw [puts_tail hT rfl hb vs hvs]
  refine fin vs q W _ ((hvs pA).symm.trans eq) (fun i d hi hd => by rw [← hvs]; exact hF i d hi hd) hq (below_setCells hq _ _ _ hw) ⟨es, World.rangeAt_setCells_same W q 0 _ (by rw [le]; exact th), by rw [heap_size_setCells]; exact there_lt (by omega) th, V⟩ (World.there_setCells th _ _ _)
/-- A row of elements is laid into a block that was there. -/
theorem region_putG (ty : TypeId) (k jV pD pV m q off : Nat) (o1 : Oper) (F : Nat → Fact) (R : List (Nat → Int) → Prop) (hR : ∀ es, R es → es.length = m) (hm : 0 < m) (hT : textTail .any draw ops a0.tmps.size k = true) (hdrop : ops.toList.drop k = [o1]) (hd1 : o1.dst = none)
    (hop1 : o1.op = .store ty (.tmp pD) (.tmp pV)) (hs : (Tryz.prog.info? ty).map (·.size) = some (5 * m)) (ht : w.there q off (5 * m))
    (hP : ∀ (a : Act) (W : World), Based ops a0 a → (∀ i d, decide (i < k) = true → writes ops i d = true → (F i).p (a.tmps.getD d undef) W) → a.eval (.tmp pD) = .pointer (some ⟨q, off, none⟩))
    (qV : decide (jV < k) = true) (wV : writes ops jV pV = true) (FV : F jV = AG R) (steps : ∀ i, i < k → StepOk Tryz.prog .any ops Q F a0 w i)
    (fin : ∀ (vs : Nat → Value) (W : World) (es : List (Nat → Int)), R es → Below w.heap.size w W → Q .normal (puts vs a0 ops.toList) (W.setCells q off (clN es))) :
    (Code.region id ops draw).wp Tryz.prog Q a0 w := by
  refine region_tail k F (by kernel_rfl) hT steps [] (fun p hp => by cases hp) (fun p hp => by cases hp) fun a W hb hw hF _ => ?_
  have h2 := hF jV pV qV wV
  rw [FV] at h2
  obtain ⟨es, ev, V⟩ := h2
  have le : (clN es).length = 5 * m := by rw [clN_size, hR _ V]
  rw [hdrop]
  show o1.wp _ a W (fun a' w' => Q .normal a' w') Q
  refine wp_store_mid ty (.tmp pD) (.tmp pV) hop1 q off (clN es).toArray (hP a W hb hF) ev (by show W.there q off (clN es).length; rw [le]; exact there_upo (by omega) ht hw) (by show _ = some (clN es).length; rw [le]; exact hs) (clN_one es) ?_
  rw [hd1]
  obtain ⟨vs, hvs⟩ : ∃ vs : Nat → Value, ∀ d, a.tmps.getD d undef = vs d := ⟨_, fun _ => rfl⟩
  show Q .normal a _
  rw [puts_tail hT rfl hb vs hvs]
  exact fin vs W es V hw
end
/-- One merge into twenty words. -/
def m20 (b : Bool) (k : Nat) (y E : Nat → Int) (j : Nat) : Int := if b = true ∧ 5 * k ≤ j ∧ j < 5 * k + 5 then E j else y j
theorem merge20 (w : World) (q k : Nat) (b : Bool) (y E : Nat → Int) (hk : k < 4) (hy : ∀ j, j < 20 → w.cell? ⟨q, j, none⟩ = some (.int .u64 (y j))) (hf : ∀ j, w.frozen? ⟨q, j, none⟩ = false) (bx : ∀ j, j < 20 → 0 ≤ y j ∧ y j < 18446744073709551616) (be : ∀ j, j < 20 → 0 ≤ E j ∧ E j < 18446744073709551616) (h0 : b = true → ∀ j, 5 * k ≤ j → y j = 0) :
    Calls Tryz.prog 173 #[.pointer (some ⟨q, 5 * k, none⟩), ag5 (fun j => E (5 * k + j)), .int .u64 (mask b)] w fun r w' => r = .returned (.tuple #[]) ∧ (∀ j, j < 20 → w'.cell? ⟨q, j, none⟩ = some (.int .u64 (m20 b k y E j))) ∧ (∀ j, w'.frozen? ⟨q, j, none⟩ = false) ∧ ButQ q w w' ∧ ∀ w1 B, Below B w1 w → B ≤ q → Below B w1 w' := by
  have lq : q < w.heap.size := block_lt_of_cell (hy 0 (by omega))
  refine (merge_any w q (5 * k) b (fun j => y (5 * k + j)) (fun j => E (5 * k + j)) (fun j hj => hy _ (by omega)) hf (fun j hj => bx _ (by omega)) (fun j hj => be _ (by omega)) (fun hb j _ => h0 hb _ (by omega))).mono ?_
  rintro r w' ⟨rfl, w1, n1, M⟩
  refine ⟨rfl, fun j hj => ?_, fun j => ?_, ⟨fun g hg hl => (M.only.block g hg).trans (n1.block g hl), by rw [M.only.size]; exact n1.size⟩, fun w2 B hB hq => ?_⟩
  · unfold m20
    by_cases c : 5 * k ≤ j ∧ j < 5 * k + 5
    · have e := M.at5 (j - 5 * k) (by omega)
      rw [show 5 * k + (j - 5 * k) = j by omega] at e
      rw [e]
      unfold mgd
      simp only
      rw [show 5 * k + (j - 5 * k) = j by omega]
      by_cases hb : b = true
      · rw [if_pos hb, if_pos ⟨hb, c⟩]
      · rw [if_neg hb, if_neg (fun h => hb h.1)]
    · rw [if_neg (fun h => c h.2), M.off j (by omega)]
      exact (World.cell?_of_block (a := ⟨q, j, none⟩) (n1.block q lq)).trans (hy j hj)
  · rw [M.fr j]
    exact (World.frozen?_of_block (a := ⟨q, j, none⟩) (n1.block q lq)).trans (hf j)
  · exact (hB.trans (n1.mono (by omega))).trans (M.only.below hq)
end Go.Proofs.YtliahigljoeeoaaGreatDoor

/-
  The program's at: the multiple of a digit.
-/
namespace Go.Proofs.YtliahigljoeeoaaGreatDoor
set_option maxRecDepth 100000
open Go Go.RowKit

/-- The words of a row of elements. -/
def flat (es : List (Nat → Int)) (j : Nat) : Int := (es.getD (j / 5) zl5) (j % 5)
theorem clN_flat : ∀ (es : List (Nat → Int)) (j : Nat), j < 5 * es.length → (clN es)[j]? = some (.int .u64 (flat es j))
  | [], j, h => by simp at h
  | e :: es, j, h => by
    show (cl5 e ++ clN es)[j]? = _
    have h : j < 5 * es.length + 5 := by simpa [Nat.mul_add] using h
    by_cases c : j < 5
    · rw [List.getElem?_append_left (by simpa [cl5] using c)]
      obtain rfl | rfl | rfl | rfl | rfl : j = 0 ∨ j = 1 ∨ j = 2 ∨ j = 3 ∨ j = 4 := by omega
      all_goals rfl
    · rw [List.getElem?_append_right (by simp [cl5]; omega)]
      have e1 : (cl5 e).length = 5 := rfl
      rw [e1, clN_flat es (j - 5) (by omega)]
      unfold flat
      rw [show j / 5 = (j - 5) / 5 + 1 by omega, show (j - 5) % 5 = j % 5 by omega]
      rfl
theorem row_flat {W : World} {q o : Nat} {es : List (Nat → Int)} (h : W.rangeAt q o (clN es)) {n : Nat} (hl : es.length = n) (j : Nat) (hj : j < 5 * n) : W.cell? ⟨q, o + j, none⟩ = some (.int .u64 (flat es j)) := h j _ (clN_flat es j (by omega))
theorem flat_row {W : World} {q : Nat} {es : List (Nat → Int)} {n : Nat} (hl : es.length = n) (h : ∀ j, j < 5 * n → W.cell? ⟨q, j, none⟩ = some (.int .u64 (flat es j))) : W.rangeAt q 0 (clN es) := by
  intro j v hv
  have hj : j < 5 * n := by
    have := (List.getElem?_eq_some_iff.1 hv).1
    rw [clN_size] at this
    omega
  rw [clN_flat es j (by omega)] at hv
  rw [Nat.zero_add, h j hj, hv]
theorem flat_bd : ∀ {es : List (Nat → Int)} {As : List Int}, IsN es As → ∀ j, j < 5 * es.length → 0 ≤ flat es j ∧ flat es j < 18446744073709551616
  | [], _, _, j, h => by simp at h
  | e :: es, A :: As, k, j, h => by
    have h : j < 5 * es.length + 5 := by simpa [Nat.mul_add] using h
    by_cases c : j < 5
    · have e0 : flat (e :: es) j = e j := by
        unfold flat
        rw [show j / 5 = 0 by omega, show j % 5 = j by omega]
        rfl
      have := k.1.1 j c
      rw [e0]
      omega
    · have e0 : flat (e :: es) j = flat es (j - 5) := by
        unfold flat
        rw [show j / 5 = (j - 5) / 5 + 1 by omega, show (j - 5) % 5 = j % 5 by omega]
        rfl
      rw [e0]
      exact flat_bd k.2 (j - 5) (by omega)
  | _ :: _, [], k, _, _ => k.elim
theorem Ext.bd {es : List (Nat → Int)} {q : Int × Int} (h : Ext es q) (j : Nat) (hj : j < 20) : 0 ≤ flat es j ∧ flat es j < 18446744073709551616 := by
  have l := h.len
  obtain ⟨X, Y, Z, T, h, _⟩ := h
  exact flat_bd h j (by omega)
/-- What at has found behind k rounds. -/
def atY (es : List (Nat → Int)) (d k j : Nat) : Int := if d < k then flat (prt es d) j else 0
theorem atY_step (es : List (Nat → Int)) (d k : Nat) (b : Bool) (hb : b = decide (k = d)) : m20 b 3 (m20 b 2 (m20 b 1 (m20 b 0 (atY es d k) (flat (prt es k))) (flat (prt es k))) (flat (prt es k))) (flat (prt es k)) = fun j => if j < 20 then atY es d (k + 1) j else atY es d k j := by
  funext j
  unfold m20 atY
  by_cases c : k = d
  · subst c
    have hb : b = true := by simpa using hb
    subst hb
    simp only [true_and]
    repeat' split
    all_goals first | rfl | (exfalso; omega)
  · have hb : b = false := by simpa [c] using hb
    subst hb
    simp only [Bool.false_eq_true, false_and, if_false]
    repeat' split
    all_goals first | rfl | (exfalso; omega)
end Go.Proofs.YtliahigljoeeoaaGreatDoor
