import Derived.Test.YthapcapiiknjdaaDoorGP29

/-
  The program's sums of points: fromRatios, add, double, and from one form of a point to another.
-/
namespace Go.Proofs.YthapcapiiknjdaaDoor
set_option maxRecDepth 100000
open Go Go.RowKit

abbrev zX : Obj := .cells #[.int .u64 0, .int .u64 0, .int .u64 0, .int .u64 0, .int .u64 0, .int .u64 0, .int .u64 0, .int .u64 0, .int .u64 0, .int .u64 0, .int .u64 0, .int .u64 0, .int .u64 0, .int .u64 0, .int .u64 0, .int .u64 0, .int .u64 0, .int .u64 0, .int .u64 0, .int .u64 0] 77
abbrev zA : Obj := .cells #[.int .u64 0, .int .u64 0, .int .u64 0, .int .u64 0, .int .u64 0, .int .u64 0, .int .u64 0, .int .u64 0, .int .u64 0, .int .u64 0] 58
set_option maxHeartbeats 4000000 in
theorem fromRatios_any (w : World) (es fs : List (Nat → Int)) (A B C E : Int) (hes : IsN es [A, B]) (hfs : IsN fs [C, E]) :
    Calls Tryd.prog 109 #[agN es, agN fs] w fun r w' => ∃ ts, r = .returned (agN ts) ∧ IsN ts [A * E, C * B, B * E, A * C] ∧ Below w.heap.size w w' := by
  show Calls Tryd.prog 109 #[.agg (clN es).toArray, .agg (clN fs).toArray] w _
  have H0 := rowN_new w 112 hes
  have m0 : Below w.heap.size w (w.alloc (.cells (clN es).toArray 112)) := (Below.refl _ _).alloc (Nat.le_refl _) _
  have s0 : (w.alloc (.cells (clN es).toArray 112)).heap.size = w.heap.size + 1 := by simp
  have H1 := fun W => rowN_new W 112 hfs
  obtain ⟨V0, hV0⟩ : ∃ V, V = (clN es).toArray := ⟨_, rfl⟩
  obtain ⟨V1, hV1⟩ : ∃ V, V = (clN fs).toArray := ⟨_, rfl⟩
  rw [← hV0] at H0 m0 s0 ⊢
  simp only [← hV1] at H1 ⊢
  clear hV0 hV1 hes hfs
  go_enter Tryd.func109, Tryd.ntmps109
  go_upto_region 1 with fail
  generalize w.alloc (.cells V0 112) = wa0 at *
  have H1' := H1 wa0
  have m1 : Below wa0.heap.size wa0 (wa0.alloc (.cells V1 112)) := (Below.refl _ _).alloc (Nat.le_refl _) _
  have s1 : (wa0.alloc (.cells V1 112)).heap.size = wa0.heap.size + 1 := by simp
  rw [s0] at H1' s1
  generalize wa0.alloc (.cells V1 112) = wa1 at *
  have TR : (wa1.alloc zX).there wa1.heap.size 0 20 := there_new wa1 _ _
  have mz : Below wa1.heap.size wa1 (wa1.alloc zX) := (Below.refl _ _).alloc (Nat.le_refl _) _
  rw [s1] at TR
  have P0 := (H0.up m1).up mz
  have P1 := H1'.up mz
  have N := nxt (nxt m0 m1) mz
  clear H0 H1 H1' m0 s0 m1 s1 mz
  obtain ⟨wr, hwr⟩ : ∃ W, W = wa1.alloc zX := ⟨_, rfl⟩
  rw [← hwr] at TR N P0 P1
  change Code.wp _ _ _ _ (wa1.alloc zX)
  rw [← hwr]
  clear hwr
  refine region_putN 77 22 21 4 26 _ (fun i => [Fact.eq (.pointer (some ⟨w.heap.size, 0, none⟩)), EM (A), Fact.eq (.pointer (some ⟨w.heap.size + 1, 5, none⟩)), EM (E), EM ((A) * (E)), Fact.eq (.pointer (some ⟨w.heap.size + 1, 0, none⟩)), EM (C), Fact.eq (.pointer (some ⟨w.heap.size, 5, none⟩)), EM (B), EM ((C) * (B)), Fact.eq (.pointer (some ⟨w.heap.size, 5, none⟩)), EM (B), Fact.eq (.pointer (some ⟨w.heap.size + 1, 5, none⟩)), EM (E), EM ((B) * (E)), EN [(A) * (E), (C) * (B), (B) * (E)], Fact.eq (.pointer (some ⟨w.heap.size, 0, none⟩)), EM (A), Fact.eq (.pointer (some ⟨w.heap.size + 1, 0, none⟩)), EM (C), EM ((A) * (C)), EN [(A) * (E), (C) * (B), (B) * (E), (A) * (C)]].getD i Fact.no) [(A) * (E), (C) * (B), (B) * (E), (A) * (C)] _ (by kernel_rfl) rfl rfl rfl iX (Nat.zero_lt_succ _) (by kernel_rfl) rfl TR (by kernel_rfl) rfl ?_ ?_
  · intro i hi
    obtain rfl | rfl | rfl | rfl | rfl | rfl | rfl | rfl | rfl | rfl | rfl | rfl | rfl | rfl | rfl | rfl | rfl | rfl | rfl | rfl | rfl | rfl : i = 0 ∨ i = 1 ∨ i = 2 ∨ i = 3 ∨ i = 4 ∨ i = 5 ∨ i = 6 ∨ i = 7 ∨ i = 8 ∨ i = 9 ∨ i = 10 ∨ i = 11 ∨ i = 12 ∨ i = 13 ∨ i = 14 ∨ i = 15 ∨ i = 16 ∨ i = 17 ∨ i = 18 ∨ i = 19 ∨ i = 20 ∨ i = 21 := by omega
    · exact step_fld rfl 112 2 0 rfl (by kernel_rfl) _ _ rfl (fx10 _) rfl
    · exact step_e5f rfl 5 0 rfl (by kernel_rfl) _ _ rfl _ P0.at0 rfl
    · exact step_fld rfl 112 3 1 rfl (by kernel_rfl) _ _ rfl (fy10 _) rfl
    · exact step_e5f rfl 7 2 rfl (by kernel_rfl) _ _ rfl _ P1.tail.at0 rfl
    · exact step_mul5 rfl 6 8 1 3 _ _ rfl (by kernel_rfl) (by kernel_rfl) rfl rfl rfl
    · exact step_fld rfl 112 3 0 rfl (by kernel_rfl) _ _ rfl (fx10 _) rfl
    · exact step_e5f rfl 10 5 rfl (by kernel_rfl) _ _ rfl _ P1.at0 rfl
    · exact step_fld rfl 112 2 1 rfl (by kernel_rfl) _ _ rfl (fy10 _) rfl
    · exact step_e5f rfl 12 7 rfl (by kernel_rfl) _ _ rfl _ P0.tail.at0 rfl
    · exact step_mul5 rfl 11 13 6 8 _ _ rfl (by kernel_rfl) (by kernel_rfl) rfl rfl rfl
    · exact step_fld rfl 112 2 1 rfl (by kernel_rfl) _ _ rfl (fy10 _) rfl
    · exact step_e5f rfl 15 10 rfl (by kernel_rfl) _ _ rfl _ P0.tail.at0 rfl
    · exact step_fld rfl 112 3 1 rfl (by kernel_rfl) _ _ rfl (fy10 _) rfl
    · exact step_e5f rfl 17 12 rfl (by kernel_rfl) _ _ rfl _ P1.tail.at0 rfl
    · exact step_mul5 rfl 16 18 11 13 _ _ rfl (by kernel_rfl) (by kernel_rfl) rfl rfl rfl
    · exact step_bP rfl 9 14 19 4 9 14 _ _ _ rfl (by kernel_rfl) (by kernel_rfl) (by kernel_rfl) rfl rfl rfl rfl
    · exact step_fld rfl 112 2 0 rfl (by kernel_rfl) _ _ rfl (fx10 _) rfl
    · exact step_e5f rfl 21 16 rfl (by kernel_rfl) _ _ rfl _ P0.at0 rfl
    · exact step_fld rfl 112 3 0 rfl (by kernel_rfl) _ _ rfl (fx10 _) rfl
    · exact step_e5f rfl 23 18 rfl (by kernel_rfl) _ _ rfl _ P1.at0 rfl
    · exact step_mul5 rfl 22 24 17 19 _ _ rfl (by kernel_rfl) (by kernel_rfl) rfl rfl rfl
    · exact step_bX rfl 20 25 15 20 _ _ _ _ rfl (by kernel_rfl) (by kernel_rfl) rfl rfl rfl
  intro vsL Wa Wb na bq RL nb TL
  have NS := nb w w.heap.size (nxt N na) (by omega)
  simp only [puts, Act.put, List.setIfInBounds_toArray, List.set_cons_succ, List.set_cons_zero]
  clear bq nb na N TR TL P0 P1
  go_wp2
  obtain ⟨ts, rg, _, ht⟩ := RL
  have lz := clN_len ht
  obtain ⟨fs, hfs⟩ := uX
  exact bodyPost_ret (v := agN ts) (results_cell_mid Tryd.results109 _ _ (w.heap.size + 1 + 1) (clN ts) _ rfl rg hfs rfl (by rw [lz]; exact iX)) rfl ⟨ts, rfl, ht, NS⟩
section
variable {ops : Array Oper} {Q : Exit → Act → World → Prop} {md : Region.Mode} {F : Nat → Fact} {a0 : Act} {w0 : World} {i : Nat} {o : Oper} {ts : Array TypeId}
theorem step_fr (hi : ops[i]? = some o) (p q j k : Nat) (A B C E : Int) (hop : o.op = .call { callee := .value (.func 109), args := #[.tmp p, .tmp q], argTypes := ts })
    (hj : waits md ops i j p = true) (hk : waits md ops i k q = true) (hFj : F j = EN [A, B]) (hFk : F k = EN [C, E]) (hFi : F i = EN [A * E, C * B, B * E, A * C]) : StepOk Tryd.prog md ops Q F a0 w0 i :=
  step_twoN hi _ p q hop (by kernel_rfl) j k _ _ _ (fun w es fs _ he hf => fromRatios_any w es fs A B C E he hf) hj hk hFj hFk hFi
end
def xaR (X Y X' Y' : Int) : Int := (Y + X) * (Y' + X') - (Y - X) * (Y' - X')
def yaR (X Y X' Y' : Int) : Int := (Y + X) * (Y' + X') + (Y - X) * (Y' - X')
def xbR (Z T Z' T' D : Int) : Int := (Z * Z' + Z * Z') + (T * T' * D + T * T' * D)
def ybR (Z T Z' T' D : Int) : Int := (Z * Z' + Z * Z') - (T * T' * D + T * T' * D)
set_option maxHeartbeats 4000000 in
theorem extAdd_any (w : World) (D : Int) (es fs : List (Nat → Int)) (T T' X X' Y Y' Z Z' : Int) (hes : IsN es [X, Y, Z, T]) (hfs : IsN fs [X', Y', Z', T']) (TT : HasTw w 3) (CC : Em5 w 2 0 D) :
    Calls Tryd.prog 69 #[agN es, agN fs] w fun r w' => ∃ ts, r = .returned (agN ts) ∧ IsN ts [xaR X Y X' Y' * ybR Z T Z' T' D, yaR X Y X' Y' * xbR Z T Z' T' D, xbR Z T Z' T' D * ybR Z T Z' T' D, xaR X Y X' Y' * yaR X Y X' Y'] ∧ Below w.heap.size w w' := by
  show Calls Tryd.prog 69 #[.agg (clN es).toArray, .agg (clN fs).toArray] w _
  have H0 := rowN_new w 77 hes
  have m0 : Below w.heap.size w (w.alloc (.cells (clN es).toArray 77)) := (Below.refl _ _).alloc (Nat.le_refl _) _
  have s0 : (w.alloc (.cells (clN es).toArray 77)).heap.size = w.heap.size + 1 := by simp
  have H1 := fun W => rowN_new W 77 hfs
  obtain ⟨V0, hV0⟩ : ∃ V, V = (clN es).toArray := ⟨_, rfl⟩
  obtain ⟨V1, hV1⟩ : ∃ V, V = (clN fs).toArray := ⟨_, rfl⟩
  rw [← hV0] at H0 m0 s0 ⊢
  simp only [← hV1] at H1 ⊢
  clear hV0 hV1 hes hfs
  go_enter Tryd.func69, Tryd.ntmps69
  go_upto_region 1 with fail
  generalize w.alloc (.cells V0 77) = wa0 at *
  have H1' := H1 wa0
  have m1 : Below wa0.heap.size wa0 (wa0.alloc (.cells V1 77)) := (Below.refl _ _).alloc (Nat.le_refl _) _
  have s1 : (wa0.alloc (.cells V1 77)).heap.size = wa0.heap.size + 1 := by simp
  rw [s0] at H1' s1
  generalize wa0.alloc (.cells V1 77) = wa1 at *
  have TR : (wa1.alloc zX).there wa1.heap.size 0 20 := there_new wa1 _ _
  have mz : Below wa1.heap.size wa1 (wa1.alloc zX) := (Below.refl _ _).alloc (Nat.le_refl _) _
  rw [s1] at TR
  have P0 := (H0.up m1).up mz
  have P1 := H1'.up mz
  have N := nxt (nxt m0 m1) mz
  clear H0 H1 H1' m0 s0 m1 s1 mz
  obtain ⟨wr, hwr⟩ : ∃ W, W = wa1.alloc zX := ⟨_, rfl⟩
  rw [← hwr] at TR N P0 P1
  change Code.wp _ _ _ _ (wa1.alloc zX)
  rw [← hwr]
  clear hwr
  replace TT := TT.up N
  replace CC := CC.up N
  refine region_new5 16 15 14 5 25 _ (fun i => [Fact.eq (.pointer (some ⟨w.heap.size, 0, none⟩)), Fact.eq (.pointer (some ⟨w.heap.size, 5, none⟩)), EM (Y), Fact.eq (.pointer (some ⟨w.heap.size, 0, none⟩)), Fact.eq (.pointer (some ⟨w.heap.size, 0, none⟩)), EM (X), EM ((Y) - (X)), Fact.eq (.pointer (some ⟨w.heap.size + 1, 0, none⟩)), Fact.eq (.pointer (some ⟨w.heap.size + 1, 5, none⟩)), EM (Y'), Fact.eq (.pointer (some ⟨w.heap.size + 1, 0, none⟩)), Fact.eq (.pointer (some ⟨w.heap.size + 1, 0, none⟩)), EM (X'), EM ((Y') - (X')), EM (((Y) - (X)) * ((Y') - (X'))), NB wr 5].getD i Fact.no) (((Y) - (X)) * ((Y') - (X'))) (by kernel_rfl) rfl rfl rfl (by kernel_rfl) (by kernel_rfl) rfl rfl ?_ ?_
  · intro i hi
    obtain rfl | rfl | rfl | rfl | rfl | rfl | rfl | rfl | rfl | rfl | rfl | rfl | rfl | rfl | rfl | rfl : i = 0 ∨ i = 1 ∨ i = 2 ∨ i = 3 ∨ i = 4 ∨ i = 5 ∨ i = 6 ∨ i = 7 ∨ i = 8 ∨ i = 9 ∨ i = 10 ∨ i = 11 ∨ i = 12 ∨ i = 13 ∨ i = 14 ∨ i = 15 := by omega
    · exact step_fld rfl 77 2 0 rfl (by kernel_rfl) _ _ rfl (fpX _) rfl
    · exact step_fldf rfl 75 11 1 0 rfl (by kernel_rfl) _ _ rfl (fyJ _) rfl
    · exact step_e5f rfl 12 1 rfl (by kernel_rfl) _ _ rfl _ P0.tail.at0 rfl
    · exact step_fld rfl 77 2 0 rfl (by kernel_rfl) _ _ rfl (fpX _) rfl
    · exact step_fldf rfl 75 14 0 3 rfl (by kernel_rfl) _ _ rfl (fxJ _) rfl
    · exact step_e5f rfl 15 4 rfl (by kernel_rfl) _ _ rfl _ P0.at0 rfl
    · exact step_sub5 TT rfl 13 16 2 5 _ _ rfl (by kernel_rfl) (by kernel_rfl) rfl rfl rfl
    · exact step_fld rfl 77 3 0 rfl (by kernel_rfl) _ _ rfl (fpX _) rfl
    · exact step_fldf rfl 75 18 1 7 rfl (by kernel_rfl) _ _ rfl (fyJ _) rfl
    · exact step_e5f rfl 19 8 rfl (by kernel_rfl) _ _ rfl _ P1.tail.at0 rfl
    · exact step_fld rfl 77 3 0 rfl (by kernel_rfl) _ _ rfl (fpX _) rfl
    · exact step_fldf rfl 75 21 0 10 rfl (by kernel_rfl) _ _ rfl (fxJ _) rfl
    · exact step_e5f rfl 22 11 rfl (by kernel_rfl) _ _ rfl _ P1.at0 rfl
    · exact step_sub5 TT rfl 20 23 9 12 _ _ rfl (by kernel_rfl) (by kernel_rfl) rfl rfl rfl
    · exact step_mul5 rfl 17 24 6 13 _ _ rfl (by kernel_rfl) (by kernel_rfl) rfl rfl rfl
    · exact step_new5 rfl rfl rfl
  intro vs1 q5 W1 v5 l5 n E5
  replace P0 := P0.up n
  replace P1 := P1.up n
  replace TT := TT.up n
  replace CC := CC.up n
  replace TR := there_up (by omega) TR n
  replace N := nxt N n
  clear n
  obtain ⟨x5, g5⟩ : ∃ e : Int, e = ((Y) - (X)) * ((Y') - (X')) := ⟨_, rfl⟩
  rw [← g5] at E5
  simp only [puts, v5, Act.put, List.setIfInBounds_toArray, List.set_cons_succ, List.set_cons_zero]
  clear v5
  go_upto_region 2 with fail
  refine region_new5 16 15 14 6 40 _ (fun i => [Fact.eq (.pointer (some ⟨w.heap.size, 0, none⟩)), Fact.eq (.pointer (some ⟨w.heap.size, 5, none⟩)), EM (Y), Fact.eq (.pointer (some ⟨w.heap.size, 0, none⟩)), Fact.eq (.pointer (some ⟨w.heap.size, 0, none⟩)), EM (X), EM ((Y) + (X)), Fact.eq (.pointer (some ⟨w.heap.size + 1, 0, none⟩)), Fact.eq (.pointer (some ⟨w.heap.size + 1, 5, none⟩)), EM (Y'), Fact.eq (.pointer (some ⟨w.heap.size + 1, 0, none⟩)), Fact.eq (.pointer (some ⟨w.heap.size + 1, 0, none⟩)), EM (X'), EM ((Y') + (X')), EM (((Y) + (X)) * ((Y') + (X'))), NB W1 5].getD i Fact.no) (((Y) + (X)) * ((Y') + (X'))) (by kernel_rfl) rfl rfl rfl (by kernel_rfl) (by kernel_rfl) rfl rfl ?_ ?_
  · intro i hi
    obtain rfl | rfl | rfl | rfl | rfl | rfl | rfl | rfl | rfl | rfl | rfl | rfl | rfl | rfl | rfl | rfl : i = 0 ∨ i = 1 ∨ i = 2 ∨ i = 3 ∨ i = 4 ∨ i = 5 ∨ i = 6 ∨ i = 7 ∨ i = 8 ∨ i = 9 ∨ i = 10 ∨ i = 11 ∨ i = 12 ∨ i = 13 ∨ i = 14 ∨ i = 15 := by omega
    · exact step_fld rfl 77 2 0 rfl (by kernel_rfl) _ _ rfl (fpX _) rfl
    · exact step_fldf rfl 75 26 1 0 rfl (by kernel_rfl) _ _ rfl (fyJ _) rfl
    · exact step_e5f rfl 27 1 rfl (by kernel_rfl) _ _ rfl _ P0.tail.at0 rfl
    · exact step_fld rfl 77 2 0 rfl (by kernel_rfl) _ _ rfl (fpX _) rfl
    · exact step_fldf rfl 75 29 0 3 rfl (by kernel_rfl) _ _ rfl (fxJ _) rfl
    · exact step_e5f rfl 30 4 rfl (by kernel_rfl) _ _ rfl _ P0.at0 rfl
    · exact step_add5 rfl 28 31 2 5 _ _ rfl (by kernel_rfl) (by kernel_rfl) rfl rfl rfl
    · exact step_fld rfl 77 3 0 rfl (by kernel_rfl) _ _ rfl (fpX _) rfl
    · exact step_fldf rfl 75 33 1 7 rfl (by kernel_rfl) _ _ rfl (fyJ _) rfl
    · exact step_e5f rfl 34 8 rfl (by kernel_rfl) _ _ rfl _ P1.tail.at0 rfl
    · exact step_fld rfl 77 3 0 rfl (by kernel_rfl) _ _ rfl (fpX _) rfl
    · exact step_fldf rfl 75 36 0 10 rfl (by kernel_rfl) _ _ rfl (fxJ _) rfl
    · exact step_e5f rfl 37 11 rfl (by kernel_rfl) _ _ rfl _ P1.at0 rfl
    · exact step_add5 rfl 35 38 9 12 _ _ rfl (by kernel_rfl) (by kernel_rfl) rfl rfl rfl
    · exact step_mul5 rfl 32 39 6 13 _ _ rfl (by kernel_rfl) (by kernel_rfl) rfl rfl rfl
    · exact step_new5 rfl rfl rfl
  intro vs2 q6 W2 v6 l6 n E6
  replace P0 := P0.up n
  replace P1 := P1.up n
  replace TT := TT.up n
  replace CC := CC.up n
  replace E5 := E5.up n
  replace TR := there_up (by omega) TR n
  replace N := nxt N n
  clear n
  obtain ⟨x6, g6⟩ : ∃ e : Int, e = ((Y) + (X)) * ((Y') + (X')) := ⟨_, rfl⟩
  rw [← g6] at E6
  simp only [puts, v6, Act.put, List.setIfInBounds_toArray, List.set_cons_succ, List.set_cons_zero]
  clear v6
  go_upto_region 3 with fail
  refine region_new2 16 14 6 7 47 15 13 8 54 _ _ (fun i => [Fact.eq (.pointer (some ⟨w.heap.size, 15, none⟩)), EM (T), Fact.eq (.pointer (some ⟨w.heap.size + 1, 15, none⟩)), EM (T'), EM ((T) * (T')), EM (D), EM (((T) * (T')) * (D)), Fact.eq (.pointer (some ⟨w.heap.size, 0, none⟩)), Fact.eq (.pointer (some ⟨w.heap.size, 10, none⟩)), EM (Z), Fact.eq (.pointer (some ⟨w.heap.size + 1, 0, none⟩)), Fact.eq (.pointer (some ⟨w.heap.size + 1, 10, none⟩)), EM (Z'), EM ((Z) * (Z')), NB W2 5, NB W2 5].getD i Fact.no) (((T) * (T')) * (D)) ((Z) * (Z')) (by kernel_rfl) rfl rfl rfl rfl rfl rfl rfl rfl rfl (by kernel_rfl) (by kernel_rfl) (by kernel_rfl) (by kernel_rfl) rfl rfl rfl rfl (by decide) (fresh_new5 rfl rfl rfl) (fresh_new5 rfl rfl rfl) ?_ ?_
  · intro i hi
    obtain rfl | rfl | rfl | rfl | rfl | rfl | rfl | rfl | rfl | rfl | rfl | rfl | rfl | rfl | rfl | rfl : i = 0 ∨ i = 1 ∨ i = 2 ∨ i = 3 ∨ i = 4 ∨ i = 5 ∨ i = 6 ∨ i = 7 ∨ i = 8 ∨ i = 9 ∨ i = 10 ∨ i = 11 ∨ i = 12 ∨ i = 13 ∨ i = 14 ∨ i = 15 := by omega
    · exact step_fld rfl 77 2 1 rfl (by kernel_rfl) _ _ rfl (ftX _) rfl
    · exact step_e5f rfl 41 0 rfl (by kernel_rfl) _ _ rfl _ P0.tail.tail.tail.at0 rfl
    · exact step_fld rfl 77 3 1 rfl (by kernel_rfl) _ _ rfl (ftX _) rfl
    · exact step_e5f rfl 43 2 rfl (by kernel_rfl) _ _ rfl _ P1.tail.tail.tail.at0 rfl
    · exact step_mul5 rfl 42 44 1 3 _ _ rfl (by kernel_rfl) (by kernel_rfl) rfl rfl rfl
    · exact step_gl5 rfl 2 rfl _ CC rfl
    · exact step_mul5 rfl 45 46 4 5 _ _ rfl (by kernel_rfl) (by kernel_rfl) rfl rfl rfl
    · exact step_fld rfl 77 2 0 rfl (by kernel_rfl) _ _ rfl (fpX _) rfl
    · exact step_fldf rfl 75 48 2 7 rfl (by kernel_rfl) _ _ rfl (fzJ _) rfl
    · exact step_e5f rfl 49 8 rfl (by kernel_rfl) _ _ rfl _ P0.tail.tail.at0 rfl
    · exact step_fld rfl 77 3 0 rfl (by kernel_rfl) _ _ rfl (fpX _) rfl
    · exact step_fldf rfl 75 51 2 10 rfl (by kernel_rfl) _ _ rfl (fzJ _) rfl
    · exact step_e5f rfl 52 11 rfl (by kernel_rfl) _ _ rfl _ P1.tail.tail.at0 rfl
    · exact step_mul5 rfl 50 53 9 12 _ _ rfl (by kernel_rfl) (by kernel_rfl) rfl rfl rfl
    · exact step_new5 rfl rfl rfl
    · exact step_new5 rfl rfl rfl
  intro vs3 q7 q8 W3 v7 v8 l7 l8 n55 n E7 E8
  clear n55
  replace P0 := P0.up n
  replace P1 := P1.up n
  replace TT := TT.up n
  replace CC := CC.up n
  replace E5 := E5.up n
  replace E6 := E6.up n
  replace TR := there_up (by omega) TR n
  replace N := nxt N n
  clear n
  obtain ⟨x7, g7⟩ : ∃ e : Int, e = ((T) * (T')) * (D) := ⟨_, rfl⟩
  rw [← g7] at E7
  obtain ⟨x8, g8⟩ : ∃ e : Int, e = (Z) * (Z') := ⟨_, rfl⟩
  rw [← g8] at E8
  simp only [puts, v7, v8, Act.put, List.setIfInBounds_toArray, List.set_cons_succ, List.set_cons_zero]
  clear v7 v8
  go_upto_region 4 with fail
  refine region_new2 8 6 2 9 57 7 5 10 60 _ _ (fun i => [EM (x7), EM (x7), EM ((x7) + (x7)), EM (x8), EM (x8), EM ((x8) + (x8)), NB W3 5, NB W3 5].getD i Fact.no) ((x7) + (x7)) ((x8) + (x8)) (by kernel_rfl) rfl rfl rfl rfl rfl rfl rfl rfl rfl (by kernel_rfl) (by kernel_rfl) (by kernel_rfl) (by kernel_rfl) rfl rfl rfl rfl (by decide) (fresh_new5 rfl rfl rfl) (fresh_new5 rfl rfl rfl) ?_ ?_
  · intro i hi
    obtain rfl | rfl | rfl | rfl | rfl | rfl | rfl | rfl : i = 0 ∨ i = 1 ∨ i = 2 ∨ i = 3 ∨ i = 4 ∨ i = 5 ∨ i = 6 ∨ i = 7 := by omega
    · exact step_e5 rfl 7 rfl (by kernel_rfl) _ _ rfl _ E7 rfl
    · exact step_e5 rfl 7 rfl (by kernel_rfl) _ _ rfl _ E7 rfl
    · exact step_add5 rfl 55 56 0 1 _ _ rfl (by kernel_rfl) (by kernel_rfl) rfl rfl rfl
    · exact step_e5 rfl 8 rfl (by kernel_rfl) _ _ rfl _ E8 rfl
    · exact step_e5 rfl 8 rfl (by kernel_rfl) _ _ rfl _ E8 rfl
    · exact step_add5 rfl 58 59 3 4 _ _ rfl (by kernel_rfl) (by kernel_rfl) rfl rfl rfl
    · exact step_new5 rfl rfl rfl
    · exact step_new5 rfl rfl rfl
  intro vs4 q9 q10 W4 v9 v10 l9 l10 n55 n E9 E10
  clear n55
  replace P0 := P0.up n
  replace P1 := P1.up n
  replace TT := TT.up n
  replace CC := CC.up n
  replace E5 := E5.up n
  replace E6 := E6.up n
  replace E7 := E7.up n
  replace E8 := E8.up n
  replace TR := there_up (by omega) TR n
  replace N := nxt N n
  clear n
  obtain ⟨x9, g9⟩ : ∃ e : Int, e = (x7) + (x7) := ⟨_, rfl⟩
  rw [← g9] at E9
  obtain ⟨x10, g10⟩ : ∃ e : Int, e = (x8) + (x8) := ⟨_, rfl⟩
  rw [← g10] at E10
  simp only [puts, v9, v10, Act.put, List.setIfInBounds_toArray, List.set_cons_succ, List.set_cons_zero]
  clear v9 v10
  go_upto_region 5 with fail
  refine region_putN 77 15 14 4 75 _ (fun i => [EM (x6), EM (x5), EM ((x6) - (x5)), EM (x10), EM (x9), EM ((x10) + (x9)), EN [(x6) - (x5), (x10) + (x9)], EM (x6), EM (x5), EM ((x6) + (x5)), EM (x10), EM (x9), EM ((x10) - (x9)), EN [(x6) + (x5), (x10) - (x9)], EN [((x6) - (x5)) * ((x10) - (x9)), ((x6) + (x5)) * ((x10) + (x9)), ((x10) + (x9)) * ((x10) - (x9)), ((x6) - (x5)) * ((x6) + (x5))]].getD i Fact.no) [((x6) - (x5)) * ((x10) - (x9)), ((x6) + (x5)) * ((x10) + (x9)), ((x10) + (x9)) * ((x10) - (x9)), ((x6) - (x5)) * ((x6) + (x5))] _ (by kernel_rfl) rfl rfl rfl iX (Nat.zero_lt_succ _) (by kernel_rfl) rfl TR (by kernel_rfl) rfl ?_ ?_
  · intro i hi
    obtain rfl | rfl | rfl | rfl | rfl | rfl | rfl | rfl | rfl | rfl | rfl | rfl | rfl | rfl | rfl : i = 0 ∨ i = 1 ∨ i = 2 ∨ i = 3 ∨ i = 4 ∨ i = 5 ∨ i = 6 ∨ i = 7 ∨ i = 8 ∨ i = 9 ∨ i = 10 ∨ i = 11 ∨ i = 12 ∨ i = 13 ∨ i = 14 := by omega
    · exact step_e5 rfl 6 rfl (by kernel_rfl) _ _ rfl _ E6 rfl
    · exact step_e5 rfl 5 rfl (by kernel_rfl) _ _ rfl _ E5 rfl
    · exact step_sub5 TT rfl 61 62 0 1 _ _ rfl (by kernel_rfl) (by kernel_rfl) rfl rfl rfl
    · exact step_e5 rfl 10 rfl (by kernel_rfl) _ _ rfl _ E10 rfl
    · exact step_e5 rfl 9 rfl (by kernel_rfl) _ _ rfl _ E9 rfl
    · exact step_add5 rfl 64 65 3 4 _ _ rfl (by kernel_rfl) (by kernel_rfl) rfl rfl rfl
    · exact step_bR rfl 63 66 2 5 _ _ rfl (by kernel_rfl) (by kernel_rfl) rfl rfl rfl
    · exact step_e5 rfl 6 rfl (by kernel_rfl) _ _ rfl _ E6 rfl
    · exact step_e5 rfl 5 rfl (by kernel_rfl) _ _ rfl _ E5 rfl
    · exact step_add5 rfl 68 69 7 8 _ _ rfl (by kernel_rfl) (by kernel_rfl) rfl rfl rfl
    · exact step_e5 rfl 10 rfl (by kernel_rfl) _ _ rfl _ E10 rfl
    · exact step_e5 rfl 9 rfl (by kernel_rfl) _ _ rfl _ E9 rfl
    · exact step_sub5 TT rfl 71 72 10 11 _ _ rfl (by kernel_rfl) (by kernel_rfl) rfl rfl rfl
    · exact step_bR rfl 70 73 9 12 _ _ rfl (by kernel_rfl) (by kernel_rfl) rfl rfl rfl
    · exact step_fr rfl 67 74 6 13 _ _ _ _ rfl (by kernel_rfl) (by kernel_rfl) rfl rfl rfl
  intro vsL Wa Wb na bq RL nb TL
  have NS := nb w w.heap.size (nxt N na) (by omega)
  simp only [puts, Act.put, List.setIfInBounds_toArray, List.set_cons_succ, List.set_cons_zero]
  clear bq nb na N TR TL P0 P1 TT CC E5 E6 E7 E8 E9 E10
  go_wp2
  subst g5 g6 g7 g8 g9 g10
  obtain ⟨ts, rg, _, ht⟩ := RL
  have lz := clN_len ht
  obtain ⟨fs, hfs⟩ := uX
  exact bodyPost_ret (v := agN ts) (results_cell_mid Tryd.results69 _ _ (w.heap.size + 1 + 1) (clN ts) _ rfl rg hfs rfl (by rw [lz]; exact iX)) rfl ⟨ts, rfl, ht, NS⟩
set_option maxHeartbeats 4000000 in
theorem double_any (w : World) (es fs : List (Nat → Int)) (T' X X' Y Y' Z Z' : Int) (hes : IsN es [X, Y, Z]) (hfs : IsN fs [X', Y', Z', T']) (TT : HasTw w 3) :
    Calls Tryd.prog 114 #[agN es, agN fs] w fun r w' => ∃ ts, r = .returned (agN ts) ∧ IsN ts [((X + Y) * (X + Y) - (Y * Y + X * X)) * ((Z * Z + Z * Z) - (Y * Y - X * X)), (Y * Y + X * X) * (Y * Y - X * X), (Y * Y - X * X) * ((Z * Z + Z * Z) - (Y * Y - X * X)), ((X + Y) * (X + Y) - (Y * Y + X * X)) * (Y * Y + X * X)] ∧ Below w.heap.size w w' := by
  show Calls Tryd.prog 114 #[.agg (clN es).toArray, .agg (clN fs).toArray] w _
  have H0 := rowN_new w 75 hes
  have m0 : Below w.heap.size w (w.alloc (.cells (clN es).toArray 75)) := (Below.refl _ _).alloc (Nat.le_refl _) _
  have s0 : (w.alloc (.cells (clN es).toArray 75)).heap.size = w.heap.size + 1 := by simp
  have H1 := fun W => rowN_new W 77 hfs
  obtain ⟨V0, hV0⟩ : ∃ V, V = (clN es).toArray := ⟨_, rfl⟩
  obtain ⟨V1, hV1⟩ : ∃ V, V = (clN fs).toArray := ⟨_, rfl⟩
  rw [← hV0] at H0 m0 s0 ⊢
  simp only [← hV1] at H1 ⊢
  clear hV0 hV1 hes hfs
  go_enter Tryd.func114, Tryd.ntmps114
  go_upto_region 1 with fail
  generalize w.alloc (.cells V0 75) = wa0 at *
  have H1' := H1 wa0
  have m1 : Below wa0.heap.size wa0 (wa0.alloc (.cells V1 77)) := (Below.refl _ _).alloc (Nat.le_refl _) _
  have s1 : (wa0.alloc (.cells V1 77)).heap.size = wa0.heap.size + 1 := by simp
  rw [s0] at H1' s1
  generalize wa0.alloc (.cells V1 77) = wa1 at *
  have TR : (wa1.alloc zX).there wa1.heap.size 0 20 := there_new wa1 _ _
  have mz : Below wa1.heap.size wa1 (wa1.alloc zX) := (Below.refl _ _).alloc (Nat.le_refl _) _
  rw [s1] at TR
  have P0 := (H0.up m1).up mz
  have P1 := H1'.up mz
  have N := nxt (nxt m0 m1) mz
  clear H0 H1 H1' m0 s0 m1 s1 mz
  obtain ⟨wr, hwr⟩ : ∃ W, W = wa1.alloc zX := ⟨_, rfl⟩
  rw [← hwr] at TR N P0 P1
  change Code.wp _ _ _ _ (wa1.alloc zX)
  rw [← hwr]
  clear hwr
  replace TT := TT.up N
  refine region_new3 12 9 2 5 12 10 5 6 15 11 8 7 18 _ _ _ (fun i => [Fact.eq (.pointer (some ⟨w.heap.size, 0, none⟩)), EM (X), EM ((X) * (X)), Fact.eq (.pointer (some ⟨w.heap.size, 5, none⟩)), EM (Y), EM ((Y) * (Y)), Fact.eq (.pointer (some ⟨w.heap.size, 10, none⟩)), EM (Z), EM ((Z) * (Z)), NB wr 5, NB wr 5, NB wr 5].getD i Fact.no) ((X) * (X)) ((Y) * (Y)) ((Z) * (Z)) (by kernel_rfl) rfl rfl rfl rfl rfl rfl rfl rfl rfl rfl rfl rfl rfl (by kernel_rfl) (by kernel_rfl) (by kernel_rfl) (by kernel_rfl) (by kernel_rfl) (by kernel_rfl) rfl rfl rfl rfl rfl rfl (by decide) (by decide) (by decide) (fresh_new5 rfl rfl rfl) (fresh_new5 rfl rfl rfl) (fresh_new5 rfl rfl rfl) ?_ ?_
  · intro i hi
    obtain rfl | rfl | rfl | rfl | rfl | rfl | rfl | rfl | rfl | rfl | rfl | rfl : i = 0 ∨ i = 1 ∨ i = 2 ∨ i = 3 ∨ i = 4 ∨ i = 5 ∨ i = 6 ∨ i = 7 ∨ i = 8 ∨ i = 9 ∨ i = 10 ∨ i = 11 := by omega
    · exact step_fld rfl 75 2 0 rfl (by kernel_rfl) _ _ rfl (fxJ _) rfl
    · exact step_e5f rfl 10 0 rfl (by kernel_rfl) _ _ rfl _ P0.at0 rfl
    · exact step_sq5 rfl 11 1 _ rfl (by kernel_rfl) rfl rfl
    · exact step_fld rfl 75 2 1 rfl (by kernel_rfl) _ _ rfl (fyJ _) rfl
    · exact step_e5f rfl 13 3 rfl (by kernel_rfl) _ _ rfl _ P0.tail.at0 rfl
    · exact step_sq5 rfl 14 4 _ rfl (by kernel_rfl) rfl rfl
    · exact step_fld rfl 75 2 2 rfl (by kernel_rfl) _ _ rfl (fzJ _) rfl
    · exact step_e5f rfl 16 6 rfl (by kernel_rfl) _ _ rfl _ P0.tail.tail.at0 rfl
    · exact step_sq5 rfl 17 7 _ rfl (by kernel_rfl) rfl rfl
    · exact step_new5 rfl rfl rfl
    · exact step_new5 rfl rfl rfl
    · exact step_new5 rfl rfl rfl
  intro vs1 q5 q6 q7 W1 v5 v6 v7 l5 l6 l7 n E5 E6 E7
  replace P0 := P0.up n
  replace P1 := P1.up n
  replace TT := TT.up n
  replace TR := there_up (by omega) TR n
  replace N := nxt N n
  clear n
  obtain ⟨x5, g5⟩ : ∃ e : Int, e = (X) * (X) := ⟨_, rfl⟩
  rw [← g5] at E5
  obtain ⟨x6, g6⟩ : ∃ e : Int, e = (Y) * (Y) := ⟨_, rfl⟩
  rw [← g6] at E6
  obtain ⟨x7, g7⟩ : ∃ e : Int, e = (Z) * (Z) := ⟨_, rfl⟩
  rw [← g7] at E7
  simp only [puts, v5, v6, v7, Act.put, List.setIfInBounds_toArray, List.set_cons_succ, List.set_cons_zero]
  clear v5 v6 v7
  go_upto_region 2 with fail
  refine region_new2 8 6 2 8 21 7 5 9 24 _ _ (fun i => [EM (x6), EM (x5), EM ((x6) - (x5)), EM (x6), EM (x5), EM ((x6) + (x5)), NB W1 5, NB W1 5].getD i Fact.no) ((x6) - (x5)) ((x6) + (x5)) (by kernel_rfl) rfl rfl rfl rfl rfl rfl rfl rfl rfl (by kernel_rfl) (by kernel_rfl) (by kernel_rfl) (by kernel_rfl) rfl rfl rfl rfl (by decide) (fresh_new5 rfl rfl rfl) (fresh_new5 rfl rfl rfl) ?_ ?_
  · intro i hi
    obtain rfl | rfl | rfl | rfl | rfl | rfl | rfl | rfl : i = 0 ∨ i = 1 ∨ i = 2 ∨ i = 3 ∨ i = 4 ∨ i = 5 ∨ i = 6 ∨ i = 7 := by omega
    · exact step_e5 rfl 6 rfl (by kernel_rfl) _ _ rfl _ E6 rfl
    · exact step_e5 rfl 5 rfl (by kernel_rfl) _ _ rfl _ E5 rfl
    · exact step_sub5 TT rfl 19 20 0 1 _ _ rfl (by kernel_rfl) (by kernel_rfl) rfl rfl rfl
    · exact step_e5 rfl 6 rfl (by kernel_rfl) _ _ rfl _ E6 rfl
    · exact step_e5 rfl 5 rfl (by kernel_rfl) _ _ rfl _ E5 rfl
    · exact step_add5 rfl 22 23 3 4 _ _ rfl (by kernel_rfl) (by kernel_rfl) rfl rfl rfl
    · exact step_new5 rfl rfl rfl
    · exact step_new5 rfl rfl rfl
  intro vs2 q8 q9 W2 v8 v9 l8 l9 n55 n E8 E9
  clear n55
  replace P0 := P0.up n
  replace P1 := P1.up n
  replace TT := TT.up n
  replace E5 := E5.up n
  replace E6 := E6.up n
  replace E7 := E7.up n
  replace TR := there_up (by omega) TR n
  replace N := nxt N n
  clear n
  obtain ⟨x8, g8⟩ : ∃ e : Int, e = (x6) - (x5) := ⟨_, rfl⟩
  rw [← g8] at E8
  obtain ⟨x9, g9⟩ : ∃ e : Int, e = (x6) + (x5) := ⟨_, rfl⟩
  rw [← g9] at E9
  simp only [puts, v8, v9, Act.put, List.setIfInBounds_toArray, List.set_cons_succ, List.set_cons_zero]
  clear v8 v9
  go_upto_region 3 with fail
  refine region_putN 77 18 17 4 42 _ (fun i => [Fact.eq (.pointer (some ⟨w.heap.size, 0, none⟩)), EM (X), Fact.eq (.pointer (some ⟨w.heap.size, 5, none⟩)), EM (Y), EM ((X) + (Y)), EM (((X) + (Y)) * ((X) + (Y))), EM (x9), EM ((((X) + (Y)) * ((X) + (Y))) - (x9)), EM (x8), EN [(((X) + (Y)) * ((X) + (Y))) - (x9), x8], EM (x9), EM (x7), EM (x7), EM ((x7) + (x7)), EM (x8), EM (((x7) + (x7)) - (x8)), EN [x9, ((x7) + (x7)) - (x8)], EN [((((X) + (Y)) * ((X) + (Y))) - (x9)) * (((x7) + (x7)) - (x8)), (x9) * (x8), (x8) * (((x7) + (x7)) - (x8)), ((((X) + (Y)) * ((X) + (Y))) - (x9)) * (x9)]].getD i Fact.no) [((((X) + (Y)) * ((X) + (Y))) - (x9)) * (((x7) + (x7)) - (x8)), (x9) * (x8), (x8) * (((x7) + (x7)) - (x8)), ((((X) + (Y)) * ((X) + (Y))) - (x9)) * (x9)] _ (by kernel_rfl) rfl rfl rfl iX (Nat.zero_lt_succ _) (by kernel_rfl) rfl TR (by kernel_rfl) rfl ?_ ?_
  · intro i hi
    obtain rfl | rfl | rfl | rfl | rfl | rfl | rfl | rfl | rfl | rfl | rfl | rfl | rfl | rfl | rfl | rfl | rfl | rfl : i = 0 ∨ i = 1 ∨ i = 2 ∨ i = 3 ∨ i = 4 ∨ i = 5 ∨ i = 6 ∨ i = 7 ∨ i = 8 ∨ i = 9 ∨ i = 10 ∨ i = 11 ∨ i = 12 ∨ i = 13 ∨ i = 14 ∨ i = 15 ∨ i = 16 ∨ i = 17 := by omega
    · exact step_fld rfl 75 2 0 rfl (by kernel_rfl) _ _ rfl (fxJ _) rfl
    · exact step_e5f rfl 25 0 rfl (by kernel_rfl) _ _ rfl _ P0.at0 rfl
    · exact step_fld rfl 75 2 1 rfl (by kernel_rfl) _ _ rfl (fyJ _) rfl
    · exact step_e5f rfl 27 2 rfl (by kernel_rfl) _ _ rfl _ P0.tail.at0 rfl
    · exact step_add5 rfl 26 28 1 3 _ _ rfl (by kernel_rfl) (by kernel_rfl) rfl rfl rfl
    · exact step_sq5 rfl 29 4 _ rfl (by kernel_rfl) rfl rfl
    · exact step_e5 rfl 9 rfl (by kernel_rfl) _ _ rfl _ E9 rfl
    · exact step_sub5 TT rfl 30 31 5 6 _ _ rfl (by kernel_rfl) (by kernel_rfl) rfl rfl rfl
    · exact step_e5 rfl 8 rfl (by kernel_rfl) _ _ rfl _ E8 rfl
    · exact step_bR rfl 32 33 7 8 _ _ rfl (by kernel_rfl) (by kernel_rfl) rfl rfl rfl
    · exact step_e5 rfl 9 rfl (by kernel_rfl) _ _ rfl _ E9 rfl
    · exact step_e5 rfl 7 rfl (by kernel_rfl) _ _ rfl _ E7 rfl
    · exact step_e5 rfl 7 rfl (by kernel_rfl) _ _ rfl _ E7 rfl
    · exact step_add5 rfl 36 37 11 12 _ _ rfl (by kernel_rfl) (by kernel_rfl) rfl rfl rfl
    · exact step_e5 rfl 8 rfl (by kernel_rfl) _ _ rfl _ E8 rfl
    · exact step_sub5 TT rfl 38 39 13 14 _ _ rfl (by kernel_rfl) (by kernel_rfl) rfl rfl rfl
    · exact step_bR rfl 35 40 10 15 _ _ rfl (by kernel_rfl) (by kernel_rfl) rfl rfl rfl
    · exact step_fr rfl 34 41 9 16 _ _ _ _ rfl (by kernel_rfl) (by kernel_rfl) rfl rfl rfl
  intro vsL Wa Wb na bq RL nb TL
  have NS := nb w w.heap.size (nxt N na) (by omega)
  simp only [puts, Act.put, List.setIfInBounds_toArray, List.set_cons_succ, List.set_cons_zero]
  clear bq nb na N TR TL P0 P1 TT E5 E6 E7 E8 E9
  go_wp2
  subst g5 g6 g7 g8 g9
  obtain ⟨ts, rg, _, ht⟩ := RL
  have lz := clN_len ht
  obtain ⟨fs, hfs⟩ := uX
  exact bodyPost_ret (v := agN ts) (results_cell_mid Tryd.results114 _ _ (w.heap.size + 1 + 1) (clN ts) _ rfl rg hfs rfl (by rw [lz]; exact iX)) rfl ⟨ts, rfl, ht, NS⟩
set_option maxHeartbeats 4000000 in
theorem toAffine_any (w : World) (es : List (Nat → Int)) (X Y Z : Int) (hes : IsN es [X, Y, Z]) (SS : HasSt w 7) (II : Has3 w 4 12 5 4) :
    Calls Tryd.prog 70 #[agN es] w fun r w' => ∃ ts, r = .returned (agN ts) ∧ IsN ts [X * Z ^ eInv, Y * Z ^ eInv] ∧ Below w.heap.size w w' := by
  show Calls Tryd.prog 70 #[.agg (clN es).toArray] w _
  have H0 := rowN_new w 75 hes
  have m0 : Below w.heap.size w (w.alloc (.cells (clN es).toArray 75)) := (Below.refl _ _).alloc (Nat.le_refl _) _
  have s0 : (w.alloc (.cells (clN es).toArray 75)).heap.size = w.heap.size + 1 := by simp
  obtain ⟨V0, hV0⟩ : ∃ V, V = (clN es).toArray := ⟨_, rfl⟩
  rw [← hV0] at H0 m0 s0 ⊢
  clear hV0 hes
  go_enter Tryd.func70, Tryd.ntmps70
  go_upto_region 1 with fail
  generalize w.alloc (.cells V0 75) = wa0 at *
  have TR : (wa0.alloc zA).there wa0.heap.size 0 10 := there_new wa0 _ _
  have mz : Below wa0.heap.size wa0 (wa0.alloc zA) := (Below.refl _ _).alloc (Nat.le_refl _) _
  rw [s0] at TR
  have P0 := H0.up mz
  have N := nxt m0 mz
  clear H0 m0 s0 mz
  obtain ⟨wr, hwr⟩ : ∃ W, W = wa0.alloc zA := ⟨_, rfl⟩
  rw [← hwr] at TR N P0
  change Code.wp _ _ _ _ (wa0.alloc zA)
  rw [← hwr]
  clear hwr
  replace SS := SS.up N
  replace II := II.up N
  refine region_new5 4 3 2 3 6 _ (fun i => [Fact.eq (.pointer (some ⟨w.heap.size, 10, none⟩)), EM (Z), EM ((Z) ^ eInv), NB wr 5].getD i Fact.no) ((Z) ^ eInv) (by kernel_rfl) rfl rfl rfl (by kernel_rfl) (by kernel_rfl) rfl rfl ?_ ?_
  · intro i hi
    obtain rfl | rfl | rfl | rfl : i = 0 ∨ i = 1 ∨ i = 2 ∨ i = 3 := by omega
    · exact step_fld rfl 75 1 2 rfl (by kernel_rfl) _ _ rfl (fzJ _) rfl
    · exact step_e5f rfl 4 0 rfl (by kernel_rfl) _ _ rfl _ P0.tail.tail.at0 rfl
    · exact step_inv5 SS II rfl 5 1 _ rfl (by kernel_rfl) rfl rfl
    · exact step_new5 rfl rfl rfl
  intro vs1 q3 W1 v3 l3 n E3
  replace P0 := P0.up n
  replace SS := SS.up n
  replace II := II.up n
  replace TR := there_up (by omega) TR n
  replace N := nxt N n
  clear n
  obtain ⟨x3, g3⟩ : ∃ e : Int, e = (Z) ^ eInv := ⟨_, rfl⟩
  rw [← g3] at E3
  simp only [puts, v3, Act.put, List.setIfInBounds_toArray, List.set_cons_succ, List.set_cons_zero]
  clear v3
  go_upto_region 2 with fail
  refine region_putN 58 9 8 2 15 _ (fun i => [Fact.eq (.pointer (some ⟨w.heap.size, 0, none⟩)), EM (X), EM (x3), EM ((X) * (x3)), Fact.eq (.pointer (some ⟨w.heap.size, 5, none⟩)), EM (Y), EM (x3), EM ((Y) * (x3)), EN [(X) * (x3), (Y) * (x3)]].getD i Fact.no) [(X) * (x3), (Y) * (x3)] _ (by kernel_rfl) rfl rfl rfl iA (Nat.zero_lt_succ _) (by kernel_rfl) rfl TR (by kernel_rfl) rfl ?_ ?_
  · intro i hi
    obtain rfl | rfl | rfl | rfl | rfl | rfl | rfl | rfl | rfl : i = 0 ∨ i = 1 ∨ i = 2 ∨ i = 3 ∨ i = 4 ∨ i = 5 ∨ i = 6 ∨ i = 7 ∨ i = 8 := by omega
    · exact step_fld rfl 75 1 0 rfl (by kernel_rfl) _ _ rfl (fxJ _) rfl
    · exact step_e5f rfl 7 0 rfl (by kernel_rfl) _ _ rfl _ P0.at0 rfl
    · exact step_e5 rfl 3 rfl (by kernel_rfl) _ _ rfl _ E3 rfl
    · exact step_mul5 rfl 8 9 1 2 _ _ rfl (by kernel_rfl) (by kernel_rfl) rfl rfl rfl
    · exact step_fld rfl 75 1 1 rfl (by kernel_rfl) _ _ rfl (fyJ _) rfl
    · exact step_e5f rfl 11 4 rfl (by kernel_rfl) _ _ rfl _ P0.tail.at0 rfl
    · exact step_e5 rfl 3 rfl (by kernel_rfl) _ _ rfl _ E3 rfl
    · exact step_mul5 rfl 12 13 5 6 _ _ rfl (by kernel_rfl) (by kernel_rfl) rfl rfl rfl
    · exact step_bA rfl 10 14 3 7 _ _ rfl (by kernel_rfl) (by kernel_rfl) rfl rfl rfl
  intro vsL Wa Wb na bq RL nb TL
  have NS := nb w w.heap.size (nxt N na) (by omega)
  simp only [puts, Act.put, List.setIfInBounds_toArray, List.set_cons_succ, List.set_cons_zero]
  clear bq nb na N TR TL P0 SS II E3
  go_wp2
  subst g3
  obtain ⟨ts, rg, _, ht⟩ := RL
  have lz := clN_len ht
  obtain ⟨fs, hfs⟩ := uA
  exact bodyPost_ret (v := agN ts) (results_cell_mid Tryd.results70 _ _ (w.heap.size + 1) (clN ts) _ rfl rg hfs rfl (by rw [lz]; exact iA)) rfl ⟨ts, rfl, ht, NS⟩
set_option maxHeartbeats 4000000 in
theorem toExt_any (w : World) (es : List (Nat → Int)) (X Y : Int) (hes : IsN es [X, Y]) :
    Calls Tryd.prog 68 #[agN es] w fun r w' => ∃ ts, r = .returned (agN ts) ∧ IsN ts [X, Y, 1, X * Y] ∧ Below w.heap.size w w' := by
  show Calls Tryd.prog 68 #[.agg (clN es).toArray] w _
  have H0 := rowN_new w 58 hes
  have m0 : Below w.heap.size w (w.alloc (.cells (clN es).toArray 58)) := (Below.refl _ _).alloc (Nat.le_refl _) _
  have s0 : (w.alloc (.cells (clN es).toArray 58)).heap.size = w.heap.size + 1 := by simp
  obtain ⟨V0, hV0⟩ : ∃ V, V = (clN es).toArray := ⟨_, rfl⟩
  rw [← hV0] at H0 m0 s0 ⊢
  clear hV0 hes
  go_enter Tryd.func68, Tryd.ntmps68
  go_upto_region 1 with fail
  generalize w.alloc (.cells V0 58) = wa0 at *
  have TR : (wa0.alloc zX).there wa0.heap.size 0 20 := there_new wa0 _ _
  have mz : Below wa0.heap.size wa0 (wa0.alloc zX) := (Below.refl _ _).alloc (Nat.le_refl _) _
  rw [s0] at TR
  have P0 := H0.up mz
  have N := nxt m0 mz
  clear H0 m0 s0 mz
  obtain ⟨wr, hwr⟩ : ∃ W, W = wa0.alloc zX := ⟨_, rfl⟩
  rw [← hwr] at TR N P0
  change Code.wp _ _ _ _ (wa0.alloc zX)
  rw [← hwr]
  clear hwr
  refine region_putN 77 12 11 2 14 _ (fun i => [Fact.eq (.pointer (some ⟨w.heap.size, 0, none⟩)), EM (X), Fact.eq (.pointer (some ⟨w.heap.size, 5, none⟩)), EM (Y), EM (1), EN [X, Y, 1], Fact.eq (.pointer (some ⟨w.heap.size, 0, none⟩)), EM (X), Fact.eq (.pointer (some ⟨w.heap.size, 5, none⟩)), EM (Y), EM ((X) * (Y)), EN [X, Y, 1, (X) * (Y)]].getD i Fact.no) [X, Y, 1, (X) * (Y)] _ (by kernel_rfl) rfl rfl rfl iX (Nat.zero_lt_succ _) (by kernel_rfl) rfl TR (by kernel_rfl) rfl ?_ ?_
  · intro i hi
    obtain rfl | rfl | rfl | rfl | rfl | rfl | rfl | rfl | rfl | rfl | rfl | rfl : i = 0 ∨ i = 1 ∨ i = 2 ∨ i = 3 ∨ i = 4 ∨ i = 5 ∨ i = 6 ∨ i = 7 ∨ i = 8 ∨ i = 9 ∨ i = 10 ∨ i = 11 := by omega
    · exact step_fld rfl 58 1 0 rfl (by kernel_rfl) _ _ rfl (fxA _) rfl
    · exact step_e5f rfl 3 0 rfl (by kernel_rfl) _ _ rfl _ P0.at0 rfl
    · exact step_fld rfl 58 1 1 rfl (by kernel_rfl) _ _ rfl (fyA _) rfl
    · exact step_e5f rfl 5 2 rfl (by kernel_rfl) _ _ rfl _ P0.tail.at0 rfl
    · exact step_b5 rfl 1 (by omega) rfl rfl
    · exact step_bP rfl 4 6 7 1 3 4 _ _ _ rfl (by kernel_rfl) (by kernel_rfl) (by kernel_rfl) rfl rfl rfl rfl
    · exact step_fld rfl 58 1 0 rfl (by kernel_rfl) _ _ rfl (fxA _) rfl
    · exact step_e5f rfl 9 6 rfl (by kernel_rfl) _ _ rfl _ P0.at0 rfl
    · exact step_fld rfl 58 1 1 rfl (by kernel_rfl) _ _ rfl (fyA _) rfl
    · exact step_e5f rfl 11 8 rfl (by kernel_rfl) _ _ rfl _ P0.tail.at0 rfl
    · exact step_mul5 rfl 10 12 7 9 _ _ rfl (by kernel_rfl) (by kernel_rfl) rfl rfl rfl
    · exact step_bX rfl 8 13 5 10 _ _ _ _ rfl (by kernel_rfl) (by kernel_rfl) rfl rfl rfl
  intro vsL Wa Wb na bq RL nb TL
  have NS := nb w w.heap.size (nxt N na) (by omega)
  simp only [puts, Act.put, List.setIfInBounds_toArray, List.set_cons_succ, List.set_cons_zero]
  clear bq nb na N TR TL P0
  go_wp2
  obtain ⟨ts, rg, _, ht⟩ := RL
  have lz := clN_len ht
  obtain ⟨fs, hfs⟩ := uX
  exact bodyPost_ret (v := agN ts) (results_cell_mid Tryd.results68 _ _ (w.heap.size + 1) (clN ts) _ rfl rg hfs rfl (by rw [lz]; exact iX)) rfl ⟨ts, rfl, ht, NS⟩
end Go.Proofs.YthapcapiiknjdaaDoor
