import Derived.Test.YthonlkghkdjagaaGreatDoorGX42
import Derived.Test.YthonlkghkdjagaaGreatDoorGX5
import Derived.Test.YthonlkghkdjagaaGreatDoorGX6
import Derived.Laws.AppendOwnNone
import Derived.Deep.MidRow
import Derived.Test.YthonlkghkdjagaaGreatDoorGX10
import Derived.Test.YthonlkghkdjagaaGreatDoorGX11
import Derived.Test.YthonlkghkdjagaaGreatDoorGX41
import Derived.Test.YthonlkghkdjagaaGreatDoorGX24
namespace Go.Proofs.YthonlkghkdjagaaGreatDoor
set_option maxRecDepth 100000
open Go Go.RowKit
abbrev zX : Obj := .cells #[.int .u64 0, .int .u64 0, .int .u64 0, .int .u64 0, .int .u64 0, .int .u64 0, .int .u64 0, .int .u64 0, .int .u64 0, .int .u64 0, .int .u64 0, .int .u64 0, .int .u64 0, .int .u64 0, .int .u64 0, .int .u64 0, .int .u64 0, .int .u64 0, .int .u64 0, .int .u64 0] 190
abbrev zA : Obj := .cells #[.int .u64 0, .int .u64 0, .int .u64 0, .int .u64 0, .int .u64 0, .int .u64 0, .int .u64 0, .int .u64 0, .int .u64 0, .int .u64 0] 103
set_option maxHeartbeats 4000000 in
theorem fromRatios_any (w : World) (es fs : List (Nat → Int)) (A B C E : Int) (hes : IsN es [A, B]) (hfs : IsN fs [C, E]) :
    Calls Tryz.prog 168 #[agN es, agN fs] w fun r w' => ∃ ts, r = .returned (agN ts) ∧ IsN ts [A * E, C * B, B * E, A * C] ∧ Below w.heap.size w w' := by
  show Calls Tryz.prog 168 #[.agg (clN es).toArray, .agg (clN fs).toArray] w _
  have H0 := rowN_new w 215 hes
  have m0 : Below w.heap.size w (w.alloc (.cells (clN es).toArray 215)) := (Below.refl _ _).alloc (Nat.le_refl _) _
  have s0 : (w.alloc (.cells (clN es).toArray 215)).heap.size = w.heap.size + 1 := by simp
  have H1 := fun W => rowN_new W 215 hfs
  obtain ⟨V0, hV0⟩ : ∃ V, V = (clN es).toArray := ⟨_, rfl⟩
  obtain ⟨V1, hV1⟩ : ∃ V, V = (clN fs).toArray := ⟨_, rfl⟩
  rw [← hV0] at H0 m0 s0 ⊢
  simp only [← hV1] at H1 ⊢
  clear hV0 hV1 hes hfs
  go_enter Tryz.func168, Tryz.ntmps168
  go_upto_region 1 with fail
  generalize w.alloc (.cells V0 215) = wa0 at *
  have H1' := H1 wa0
  have m1 : Below wa0.heap.size wa0 (wa0.alloc (.cells V1 215)) := (Below.refl _ _).alloc (Nat.le_refl _) _
  have s1 : (wa0.alloc (.cells V1 215)).heap.size = wa0.heap.size + 1 := by simp
  rw [s0] at H1' s1
  generalize wa0.alloc (.cells V1 215) = wa1 at *
  have TR : (wa1.alloc zX).there wa1.heap.size 0 20 := there_new wa1 _ _
  have mz : Below wa1.heap.size wa1 (wa1.alloc zX) := (Below.refl _ _).alloc (Nat.le_refl _) _
  rw [s1] at TR
  have P0 := (H0.up m1).up mz
  have P1 := H1'.up mz
  have N := nxt (nxt m0 m1) mz
  clear H0 H1 H1' m0 s0 m1 s1 mz
  obtain ⟨wr, hwr⟩ : ∃ W, W = wa1.alloc zX := ⟨_, rfl⟩
  rw [← hwr] at TR N P0 P1
  change Code.wp _ _ _ _ (wa1.alloc zX)
  rw [← hwr]
  clear hwr
  refine region_putN 190 22 21 4 26 _ (fun i => [Fact.eq (.pointer (some ⟨w.heap.size, 0, none⟩)), EM (A), Fact.eq (.pointer (some ⟨w.heap.size + 1, 5, none⟩)), EM (E), EM ((A) * (E)), Fact.eq (.pointer (some ⟨w.heap.size + 1, 0, none⟩)), EM (C), Fact.eq (.pointer (some ⟨w.heap.size, 5, none⟩)), EM (B), EM ((C) * (B)), Fact.eq (.pointer (some ⟨w.heap.size, 5, none⟩)), EM (B), Fact.eq (.pointer (some ⟨w.heap.size + 1, 5, none⟩)), EM (E), EM ((B) * (E)), EN [(A) * (E), (C) * (B), (B) * (E)], Fact.eq (.pointer (some ⟨w.heap.size, 0, none⟩)), EM (A), Fact.eq (.pointer (some ⟨w.heap.size + 1, 0, none⟩)), EM (C), EM ((A) * (C)), EN [(A) * (E), (C) * (B), (B) * (E), (A) * (C)]].getD i Fact.no) [(A) * (E), (C) * (B), (B) * (E), (A) * (C)] _ (by kernel_rfl) rfl rfl rfl iX (Nat.zero_lt_succ _) (by kernel_rfl) rfl TR (by kernel_rfl) rfl ?_ ?_
  · intro i hi
    obtain rfl | rfl | rfl | rfl | rfl | rfl | rfl | rfl | rfl | rfl | rfl | rfl | rfl | rfl | rfl | rfl | rfl | rfl | rfl | rfl | rfl | rfl : i = 0 ∨ i = 1 ∨ i = 2 ∨ i = 3 ∨ i = 4 ∨ i = 5 ∨ i = 6 ∨ i = 7 ∨ i = 8 ∨ i = 9 ∨ i = 10 ∨ i = 11 ∨ i = 12 ∨ i = 13 ∨ i = 14 ∨ i = 15 ∨ i = 16 ∨ i = 17 ∨ i = 18 ∨ i = 19 ∨ i = 20 ∨ i = 21 := by omega
    · exact step_fld rfl 215 2 0 rfl (by kernel_rfl) _ _ rfl (fx10 _) rfl
    · exact step_e5f rfl 5 0 rfl (by kernel_rfl) _ _ rfl _ P0.at0 rfl
    · exact step_fld rfl 215 3 1 rfl (by kernel_rfl) _ _ rfl (fy10 _) rfl
    · exact step_e5f rfl 7 2 rfl (by kernel_rfl) _ _ rfl _ P1.tail.at0 rfl
    · exact step_mul5 rfl 6 8 1 3 _ _ rfl (by kernel_rfl) (by kernel_rfl) rfl rfl rfl
    · exact step_fld rfl 215 3 0 rfl (by kernel_rfl) _ _ rfl (fx10 _) rfl
    · exact step_e5f rfl 10 5 rfl (by kernel_rfl) _ _ rfl _ P1.at0 rfl
    · exact step_fld rfl 215 2 1 rfl (by kernel_rfl) _ _ rfl (fy10 _) rfl
    · exact step_e5f rfl 12 7 rfl (by kernel_rfl) _ _ rfl _ P0.tail.at0 rfl
    · exact step_mul5 rfl 11 13 6 8 _ _ rfl (by kernel_rfl) (by kernel_rfl) rfl rfl rfl
    · exact step_fld rfl 215 2 1 rfl (by kernel_rfl) _ _ rfl (fy10 _) rfl
    · exact step_e5f rfl 15 10 rfl (by kernel_rfl) _ _ rfl _ P0.tail.at0 rfl
    · exact step_fld rfl 215 3 1 rfl (by kernel_rfl) _ _ rfl (fy10 _) rfl
    · exact step_e5f rfl 17 12 rfl (by kernel_rfl) _ _ rfl _ P1.tail.at0 rfl
    · exact step_mul5 rfl 16 18 11 13 _ _ rfl (by kernel_rfl) (by kernel_rfl) rfl rfl rfl
    · exact step_bP rfl 9 14 19 4 9 14 _ _ _ rfl (by kernel_rfl) (by kernel_rfl) (by kernel_rfl) rfl rfl rfl rfl
    · exact step_fld rfl 215 2 0 rfl (by kernel_rfl) _ _ rfl (fx10 _) rfl
    · exact step_e5f rfl 21 16 rfl (by kernel_rfl) _ _ rfl _ P0.at0 rfl
    · exact step_fld rfl 215 3 0 rfl (by kernel_rfl) _ _ rfl (fx10 _) rfl
    · exact step_e5f rfl 23 18 rfl (by kernel_rfl) _ _ rfl _ P1.at0 rfl
    · exact step_mul5 rfl 22 24 17 19 _ _ rfl (by kernel_rfl) (by kernel_rfl) rfl rfl rfl
    · exact step_bX rfl 20 25 15 20 _ _ _ _ rfl (by kernel_rfl) (by kernel_rfl) rfl rfl rfl
  intro vsL Wa Wb na bq RL nb TL
  have NS := nb w w.heap.size (nxt N na) (by omega)
  simp only [puts, Act.put, List.setIfInBounds_toArray, List.set_cons_succ, List.set_cons_zero]
  clear bq nb na N TR TL P0 P1
  go_wp2
  obtain ⟨ts, rg, _, ht⟩ := RL
  have lz := clN_len ht
  obtain ⟨fs, hfs⟩ := uX
  exact bodyPost_ret (v := agN ts) (results_cell_mid Tryz.results168 _ _ (w.heap.size + 1 + 1) (clN ts) _ rfl rg hfs rfl (by rw [lz]; exact iX)) rfl ⟨ts, rfl, ht, NS⟩
section
variable {ops : Array Oper} {Q : Exit → Act → World → Prop} {md : Region.Mode} {F : Nat → Fact} {a0 : Act} {w0 : World} {i : Nat} {o : Oper} {ts : Array TypeId}
theorem step_fr (hi : ops[i]? = some o) (p q j k : Nat) (A B C E : Int) (hop : o.op = .call { callee := .value (.func 168), args := #[.tmp p, .tmp q], argTypes := ts })
    (hj : waits md ops i j p = true) (hk : waits md ops i k q = true) (hFj : F j = EN [A, B]) (hFk : F k = EN [C, E]) (hFi : F i = EN [A * E, C * B, B * E, A * C]) : StepOk Tryz.prog md ops Q F a0 w0 i :=
  step_twoN hi _ p q hop (by kernel_rfl) j k _ _ _ (fun w es fs _ he hf => fromRatios_any w es fs A B C E he hf) hj hk hFj hFk hFi
end
def xaR (X Y X' Y' : Int) : Int := (Y + X) * (Y' + X') - (Y - X) * (Y' - X')
def yaR (X Y X' Y' : Int) : Int := (Y + X) * (Y' + X') + (Y - X) * (Y' - X')
def xbR (Z T Z' T' D : Int) : Int := (Z * Z' + Z * Z') + (T * T' * D + T * T' * D)
def ybR (Z T Z' T' D : Int) : Int := (Z * Z' + Z * Z') - (T * T' * D + T * T' * D)
set_option maxHeartbeats 4000000 in
theorem extAdd_any (w : World) (D : Int) (es fs : List (Nat → Int)) (T T' X X' Y Y' Z Z' : Int) (hes : IsN es [X, Y, Z, T]) (hfs : IsN fs [X', Y', Z', T']) (TT : HasTw w 9) (CC : Em5 w 8 0 D) :
    Calls Tryz.prog 142 #[agN es, agN fs] w fun r w' => ∃ ts, r = .returned (agN ts) ∧ IsN ts [xaR X Y X' Y' * ybR Z T Z' T' D, yaR X Y X' Y' * xbR Z T Z' T' D, xbR Z T Z' T' D * ybR Z T Z' T' D, xaR X Y X' Y' * yaR X Y X' Y'] ∧ Below w.heap.size w w' := by
  show Calls Tryz.prog 142 #[.agg (clN es).toArray, .agg (clN fs).toArray] w _
  have H0 := rowN_new w 190 hes
  have m0 : Below w.heap.size w (w.alloc (.cells (clN es).toArray 190)) := (Below.refl _ _).alloc (Nat.le_refl _) _
  have s0 : (w.alloc (.cells (clN es).toArray 190)).heap.size = w.heap.size + 1 := by simp
  have H1 := fun W => rowN_new W 190 hfs
  obtain ⟨V0, hV0⟩ : ∃ V, V = (clN es).toArray := ⟨_, rfl⟩
  obtain ⟨V1, hV1⟩ : ∃ V, V = (clN fs).toArray := ⟨_, rfl⟩
  rw [← hV0] at H0 m0 s0 ⊢
  simp only [← hV1] at H1 ⊢
  clear hV0 hV1 hes hfs
  go_enter Tryz.func142, Tryz.ntmps142
  go_upto_region 1 with fail
  generalize w.alloc (.cells V0 190) = wa0 at *
  have H1' := H1 wa0
  have m1 : Below wa0.heap.size wa0 (wa0.alloc (.cells V1 190)) := (Below.refl _ _).alloc (Nat.le_refl _) _
  have s1 : (wa0.alloc (.cells V1 190)).heap.size = wa0.heap.size + 1 := by simp
  rw [s0] at H1' s1
  generalize wa0.alloc (.cells V1 190) = wa1 at *
  have TR : (wa1.alloc zX).there wa1.heap.size 0 20 := there_new wa1 _ _
  have mz : Below wa1.heap.size wa1 (wa1.alloc zX) := (Below.refl _ _).alloc (Nat.le_refl _) _
  rw [s1] at TR
  have P0 := (H0.up m1).up mz
  have P1 := H1'.up mz
  have N := nxt (nxt m0 m1) mz
  clear H0 H1 H1' m0 s0 m1 s1 mz
  obtain ⟨wr, hwr⟩ : ∃ W, W = wa1.alloc zX := ⟨_, rfl⟩
  rw [← hwr] at TR N P0 P1
  change Code.wp _ _ _ _ (wa1.alloc zX)
  rw [← hwr]
  clear hwr
  replace TT := TT.up N
  replace CC := CC.up N
  refine region_new5 16 15 14 5 25 _ (fun i => [Fact.eq (.pointer (some ⟨w.heap.size, 0, none⟩)), Fact.eq (.pointer (some ⟨w.heap.size, 5, none⟩)), EM (Y), Fact.eq (.pointer (some ⟨w.heap.size, 0, none⟩)), Fact.eq (.pointer (some ⟨w.heap.size, 0, none⟩)), EM (X), EM ((Y) - (X)), Fact.eq (.pointer (some ⟨w.heap.size + 1, 0, none⟩)), Fact.eq (.pointer (some ⟨w.heap.size + 1, 5, none⟩)), EM (Y'), Fact.eq (.pointer (some ⟨w.heap.size + 1, 0, none⟩)), Fact.eq (.pointer (some ⟨w.heap.size + 1, 0, none⟩)), EM (X'), EM ((Y') - (X')), EM (((Y) - (X)) * ((Y') - (X'))), NB wr 5].getD i Fact.no) (((Y) - (X)) * ((Y') - (X'))) (by kernel_rfl) rfl rfl rfl (by kernel_rfl) (by kernel_rfl) rfl rfl ?_ ?_
  · intro i hi
    obtain rfl | rfl | rfl | rfl | rfl | rfl | rfl | rfl | rfl | rfl | rfl | rfl | rfl | rfl | rfl | rfl : i = 0 ∨ i = 1 ∨ i = 2 ∨ i = 3 ∨ i = 4 ∨ i = 5 ∨ i = 6 ∨ i = 7 ∨ i = 8 ∨ i = 9 ∨ i = 10 ∨ i = 11 ∨ i = 12 ∨ i = 13 ∨ i = 14 ∨ i = 15 := by omega
    · exact step_fld rfl 190 2 0 rfl (by kernel_rfl) _ _ rfl (fpX _) rfl
    · exact step_fldf rfl 188 11 1 0 rfl (by kernel_rfl) _ _ rfl (fyJ _) rfl
    · exact step_e5f rfl 12 1 rfl (by kernel_rfl) _ _ rfl _ P0.tail.at0 rfl
    · exact step_fld rfl 190 2 0 rfl (by kernel_rfl) _ _ rfl (fpX _) rfl
    · exact step_fldf rfl 188 14 0 3 rfl (by kernel_rfl) _ _ rfl (fxJ _) rfl
    · exact step_e5f rfl 15 4 rfl (by kernel_rfl) _ _ rfl _ P0.at0 rfl
    · exact step_sub5 TT rfl 13 16 2 5 _ _ rfl (by kernel_rfl) (by kernel_rfl) rfl rfl rfl
    · exact step_fld rfl 190 3 0 rfl (by kernel_rfl) _ _ rfl (fpX _) rfl
    · exact step_fldf rfl 188 18 1 7 rfl (by kernel_rfl) _ _ rfl (fyJ _) rfl
    · exact step_e5f rfl 19 8 rfl (by kernel_rfl) _ _ rfl _ P1.tail.at0 rfl
    · exact step_fld rfl 190 3 0 rfl (by kernel_rfl) _ _ rfl (fpX _) rfl
    · exact step_fldf rfl 188 21 0 10 rfl (by kernel_rfl) _ _ rfl (fxJ _) rfl
    · exact step_e5f rfl 22 11 rfl (by kernel_rfl) _ _ rfl _ P1.at0 rfl
    · exact step_sub5 TT rfl 20 23 9 12 _ _ rfl (by kernel_rfl) (by kernel_rfl) rfl rfl rfl
    · exact step_mul5 rfl 17 24 6 13 _ _ rfl (by kernel_rfl) (by kernel_rfl) rfl rfl rfl
    · exact step_new5 rfl rfl rfl
  intro vs1 q5 W1 v5 l5 n E5
  replace P0 := P0.up n
  replace P1 := P1.up n
  replace TT := TT.up n
  replace CC := CC.up n
  replace TR := there_up (by omega) TR n
  replace N := nxt N n
  clear n
  obtain ⟨x5, g5⟩ : ∃ e : Int, e = ((Y) - (X)) * ((Y') - (X')) := ⟨_, rfl⟩
  rw [← g5] at E5
  simp only [puts, v5, Act.put, List.setIfInBounds_toArray, List.set_cons_succ, List.set_cons_zero]
  clear v5
  go_upto_region 2 with fail
  refine region_new5 16 15 14 6 40 _ (fun i => [Fact.eq (.pointer (some ⟨w.heap.size, 0, none⟩)), Fact.eq (.pointer (some ⟨w.heap.size, 5, none⟩)), EM (Y), Fact.eq (.pointer (some ⟨w.heap.size, 0, none⟩)), Fact.eq (.pointer (some ⟨w.heap.size, 0, none⟩)), EM (X), EM ((Y) + (X)), Fact.eq (.pointer (some ⟨w.heap.size + 1, 0, none⟩)), Fact.eq (.pointer (some ⟨w.heap.size + 1, 5, none⟩)), EM (Y'), Fact.eq (.pointer (some ⟨w.heap.size + 1, 0, none⟩)), Fact.eq (.pointer (some ⟨w.heap.size + 1, 0, none⟩)), EM (X'), EM ((Y') + (X')), EM (((Y) + (X)) * ((Y') + (X'))), NB W1 5].getD i Fact.no) (((Y) + (X)) * ((Y') + (X'))) (by kernel_rfl) rfl rfl rfl (by kernel_rfl) (by kernel_rfl) rfl rfl ?_ ?_
  · intro i hi
    obtain rfl | rfl | rfl | rfl | rfl | rfl | rfl | rfl | rfl | rfl | rfl | rfl | rfl | rfl | rfl | rfl : i = 0 ∨ i = 1 ∨ i = 2 ∨ i = 3 ∨ i = 4 ∨ i = 5 ∨ i = 6 ∨ i = 7 ∨ i = 8 ∨ i = 9 ∨ i = 10 ∨ i = 11 ∨ i = 12 ∨ i = 13 ∨ i = 14 ∨ i = 15 := by omega
    · exact step_fld rfl 190 2 0 rfl (by kernel_rfl) _ _ rfl (fpX _) rfl
    · exact step_fldf rfl 188 26 1 0 rfl (by kernel_rfl) _ _ rfl (fyJ _) rfl
    · exact step_e5f rfl 27 1 rfl (by kernel_rfl) _ _ rfl _ P0.tail.at0 rfl
    · exact step_fld rfl 190 2 0 rfl (by kernel_rfl) _ _ rfl (fpX _) rfl
    · exact step_fldf rfl 188 29 0 3 rfl (by kernel_rfl) _ _ rfl (fxJ _) rfl
    · exact step_e5f rfl 30 4 rfl (by kernel_rfl) _ _ rfl _ P0.at0 rfl
    · exact step_add5 rfl 28 31 2 5 _ _ rfl (by kernel_rfl) (by kernel_rfl) rfl rfl rfl
    · exact step_fld rfl 190 3 0 rfl (by kernel_rfl) _ _ rfl (fpX _) rfl
    · exact step_fldf rfl 188 33 1 7 rfl (by kernel_rfl) _ _ rfl (fyJ _) rfl
    · exact step_e5f rfl 34 8 rfl (by kernel_rfl) _ _ rfl _ P1.tail.at0 rfl
    · exact step_fld rfl 190 3 0 rfl (by kernel_rfl) _ _ rfl (fpX _) rfl
    · exact step_fldf rfl 188 36 0 10 rfl (by kernel_rfl) _ _ rfl (fxJ _) rfl
    · exact step_e5f rfl 37 11 rfl (by kernel_rfl) _ _ rfl _ P1.at0 rfl
    · exact step_add5 rfl 35 38 9 12 _ _ rfl (by kernel_rfl) (by kernel_rfl) rfl rfl rfl
    · exact step_mul5 rfl 32 39 6 13 _ _ rfl (by kernel_rfl) (by kernel_rfl) rfl rfl rfl
    · exact step_new5 rfl rfl rfl
  intro vs2 q6 W2 v6 l6 n E6
  replace P0 := P0.up n
  replace P1 := P1.up n
  replace TT := TT.up n
  replace CC := CC.up n
  replace E5 := E5.up n
  replace TR := there_up (by omega) TR n
  replace N := nxt N n
  clear n
  obtain ⟨x6, g6⟩ : ∃ e : Int, e = ((Y) + (X)) * ((Y') + (X')) := ⟨_, rfl⟩
  rw [← g6] at E6
  simp only [puts, v6, Act.put, List.setIfInBounds_toArray, List.set_cons_succ, List.set_cons_zero]
  clear v6
  go_upto_region 3 with fail
  refine region_new2 16 14 6 7 47 15 13 8 54 _ _ (fun i => [Fact.eq (.pointer (some ⟨w.heap.size, 15, none⟩)), EM (T), Fact.eq (.pointer (some ⟨w.heap.size + 1, 15, none⟩)), EM (T'), EM ((T) * (T')), EM (D), EM (((T) * (T')) * (D)), Fact.eq (.pointer (some ⟨w.heap.size, 0, none⟩)), Fact.eq (.pointer (some ⟨w.heap.size, 10, none⟩)), EM (Z), Fact.eq (.pointer (some ⟨w.heap.size + 1, 0, none⟩)), Fact.eq (.pointer (some ⟨w.heap.size + 1, 10, none⟩)), EM (Z'), EM ((Z) * (Z')), NB W2 5, NB W2 5].getD i Fact.no) (((T) * (T')) * (D)) ((Z) * (Z')) (by kernel_rfl) rfl rfl rfl rfl rfl rfl rfl rfl rfl (by kernel_rfl) (by kernel_rfl) (by kernel_rfl) (by kernel_rfl) rfl rfl rfl rfl (by decide) (fresh_new5 rfl rfl rfl) (fresh_new5 rfl rfl rfl) ?_ ?_
  · intro i hi
    obtain rfl | rfl | rfl | rfl | rfl | rfl | rfl | rfl | rfl | rfl | rfl | rfl | rfl | rfl | rfl | rfl : i = 0 ∨ i = 1 ∨ i = 2 ∨ i = 3 ∨ i = 4 ∨ i = 5 ∨ i = 6 ∨ i = 7 ∨ i = 8 ∨ i = 9 ∨ i = 10 ∨ i = 11 ∨ i = 12 ∨ i = 13 ∨ i = 14 ∨ i = 15 := by omega
    · exact step_fld rfl 190 2 1 rfl (by kernel_rfl) _ _ rfl (ftX _) rfl
    · exact step_e5f rfl 41 0 rfl (by kernel_rfl) _ _ rfl _ P0.tail.tail.tail.at0 rfl
    · exact step_fld rfl 190 3 1 rfl (by kernel_rfl) _ _ rfl (ftX _) rfl
    · exact step_e5f rfl 43 2 rfl (by kernel_rfl) _ _ rfl _ P1.tail.tail.tail.at0 rfl
    · exact step_mul5 rfl 42 44 1 3 _ _ rfl (by kernel_rfl) (by kernel_rfl) rfl rfl rfl
    · exact step_gl5 rfl 8 rfl _ CC rfl
    · exact step_mul5 rfl 45 46 4 5 _ _ rfl (by kernel_rfl) (by kernel_rfl) rfl rfl rfl
    · exact step_fld rfl 190 2 0 rfl (by kernel_rfl) _ _ rfl (fpX _) rfl
    · exact step_fldf rfl 188 48 2 7 rfl (by kernel_rfl) _ _ rfl (fzJ _) rfl
    · exact step_e5f rfl 49 8 rfl (by kernel_rfl) _ _ rfl _ P0.tail.tail.at0 rfl
    · exact step_fld rfl 190 3 0 rfl (by kernel_rfl) _ _ rfl (fpX _) rfl
    · exact step_fldf rfl 188 51 2 10 rfl (by kernel_rfl) _ _ rfl (fzJ _) rfl
    · exact step_e5f rfl 52 11 rfl (by kernel_rfl) _ _ rfl _ P1.tail.tail.at0 rfl
    · exact step_mul5 rfl 50 53 9 12 _ _ rfl (by kernel_rfl) (by kernel_rfl) rfl rfl rfl
    · exact step_new5 rfl rfl rfl
    · exact step_new5 rfl rfl rfl
  intro vs3 q7 q8 W3 v7 v8 l7 l8 n55 n E7 E8
  clear n55
  replace P0 := P0.up n
  replace P1 := P1.up n
  replace TT := TT.up n
  replace CC := CC.up n
  replace E5 := E5.up n
  replace E6 := E6.up n
  replace TR := there_up (by omega) TR n
  replace N := nxt N n
  clear n
  obtain ⟨x7, g7⟩ : ∃ e : Int, e = ((T) * (T')) * (D) := ⟨_, rfl⟩
  rw [← g7] at E7
  obtain ⟨x8, g8⟩ : ∃ e : Int, e = (Z) * (Z') := ⟨_, rfl⟩
  rw [← g8] at E8
  simp only [puts, v7, v8, Act.put, List.setIfInBounds_toArray, List.set_cons_succ, List.set_cons_zero]
  clear v7 v8
  go_upto_region 4 with fail
  refine region_new2 8 6 2 9 57 7 5 10 60 _ _ (fun i => [EM (x7), EM (x7), EM ((x7) + (x7)), EM (x8), EM (x8), EM ((x8) + (x8)), NB W3 5, NB W3 5].getD i Fact.no) ((x7) + (x7)) ((x8) + (x8)) (by kernel_rfl) rfl rfl rfl rfl rfl rfl rfl rfl rfl (by kernel_rfl) (by kernel_rfl) (by kernel_rfl) (by kernel_rfl) rfl rfl rfl rfl (by decide) (fresh_new5 rfl rfl rfl) (fresh_new5 rfl rfl rfl) ?_ ?_
  · intro i hi
    obtain rfl | rfl | rfl | rfl | rfl | rfl | rfl | rfl : i = 0 ∨ i = 1 ∨ i = 2 ∨ i = 3 ∨ i = 4 ∨ i = 5 ∨ i = 6 ∨ i = 7 := by omega
    · exact step_e5 rfl 7 rfl (by kernel_rfl) _ _ rfl _ E7 rfl
    · exact step_e5 rfl 7 rfl (by kernel_rfl) _ _ rfl _ E7 rfl
    · exact step_add5 rfl 55 56 0 1 _ _ rfl (by kernel_rfl) (by kernel_rfl) rfl rfl rfl
    · exact step_e5 rfl 8 rfl (by kernel_rfl) _ _ rfl _ E8 rfl
    · exact step_e5 rfl 8 rfl (by kernel_rfl) _ _ rfl _ E8 rfl
    · exact step_add5 rfl 58 59 3 4 _ _ rfl (by kernel_rfl) (by kernel_rfl) rfl rfl rfl
    · exact step_new5 rfl rfl rfl
    · exact step_new5 rfl rfl rfl
  intro vs4 q9 q10 W4 v9 v10 l9 l10 n55 n E9 E10
  clear n55
  replace P0 := P0.up n
  replace P1 := P1.up n
  replace TT := TT.up n
  replace CC := CC.up n
  replace E5 := E5.up n
  replace E6 := E6.up n
  replace E7 := E7.up n
  replace E8 := E8.up n
  replace TR := there_up (by omega) TR n
  replace N := nxt N n
  clear n
  obtain ⟨x9, g9⟩ : ∃ e : Int, e = (x7) + (x7) := ⟨_, rfl⟩
  rw [← g9] at E9
  obtain ⟨x10, g10⟩ : ∃ e : Int, e = (x8) + (x8) := ⟨_, rfl⟩
  rw [← g10] at E10
  simp only [puts, v9, v10, Act.put, List.setIfInBounds_toArray, List.set_cons_succ, List.set_cons_zero]
  clear v9 v10
  go_upto_region 5 with fail
  refine region_putN 190 15 14 4 75 _ (fun i => [EM (x6), EM (x5), EM ((x6) - (x5)), EM (x10), EM (x9), EM ((x10) + (x9)), EN [(x6) - (x5), (x10) + (x9)], EM (x6), EM (x5), EM ((x6) + (x5)), EM (x10), EM (x9), EM ((x10) - (x9)), EN [(x6) + (x5), (x10) - (x9)], EN [((x6) - (x5)) * ((x10) - (x9)), ((x6) + (x5)) * ((x10) + (x9)), ((x10) + (x9)) * ((x10) - (x9)), ((x6) - (x5)) * ((x6) + (x5))]].getD i Fact.no) [((x6) - (x5)) * ((x10) - (x9)), ((x6) + (x5)) * ((x10) + (x9)), ((x10) + (x9)) * ((x10) - (x9)), ((x6) - (x5)) * ((x6) + (x5))] _ (by kernel_rfl) rfl rfl rfl iX (Nat.zero_lt_succ _) (by kernel_rfl) rfl TR (by kernel_rfl) rfl ?_ ?_
  · intro i hi
    obtain rfl | rfl | rfl | rfl | rfl | rfl | rfl | rfl | rfl | rfl | rfl | rfl | rfl | rfl | rfl : i = 0 ∨ i = 1 ∨ i = 2 ∨ i = 3 ∨ i = 4 ∨ i = 5 ∨ i = 6 ∨ i = 7 ∨ i = 8 ∨ i = 9 ∨ i = 10 ∨ i = 11 ∨ i = 12 ∨ i = 13 ∨ i = 14 := by omega
    · exact step_e5 rfl 6 rfl (by kernel_rfl) _ _ rfl _ E6 rfl
    · exact step_e5 rfl 5 rfl (by kernel_rfl) _ _ rfl _ E5 rfl
    · exact step_sub5 TT rfl 61 62 0 1 _ _ rfl (by kernel_rfl) (by kernel_rfl) rfl rfl rfl
    · exact step_e5 rfl 10 rfl (by kernel_rfl) _ _ rfl _ E10 rfl
    · exact step_e5 rfl 9 rfl (by kernel_rfl) _ _ rfl _ E9 rfl
    · exact step_add5 rfl 64 65 3 4 _ _ rfl (by kernel_rfl) (by kernel_rfl) rfl rfl rfl
    · exact step_bR rfl 63 66 2 5 _ _ rfl (by kernel_rfl) (by kernel_rfl) rfl rfl rfl
    · exact step_e5 rfl 6 rfl (by kernel_rfl) _ _ rfl _ E6 rfl
    · exact step_e5 rfl 5 rfl (by kernel_rfl) _ _ rfl _ E5 rfl
    · exact step_add5 rfl 68 69 7 8 _ _ rfl (by kernel_rfl) (by kernel_rfl) rfl rfl rfl
    · exact step_e5 rfl 10 rfl (by kernel_rfl) _ _ rfl _ E10 rfl
    · exact step_e5 rfl 9 rfl (by kernel_rfl) _ _ rfl _ E9 rfl
    · exact step_sub5 TT rfl 71 72 10 11 _ _ rfl (by kernel_rfl) (by kernel_rfl) rfl rfl rfl
    · exact step_bR rfl 70 73 9 12 _ _ rfl (by kernel_rfl) (by kernel_rfl) rfl rfl rfl
    · exact step_fr rfl 67 74 6 13 _ _ _ _ rfl (by kernel_rfl) (by kernel_rfl) rfl rfl rfl
  intro vsL Wa Wb na bq RL nb TL
  have NS := nb w w.heap.size (nxt N na) (by omega)
  simp only [puts, Act.put, List.setIfInBounds_toArray, List.set_cons_succ, List.set_cons_zero]
  clear bq nb na N TR TL P0 P1 TT CC E5 E6 E7 E8 E9 E10
  go_wp2
  subst g5 g6 g7 g8 g9 g10
  obtain ⟨ts, rg, _, ht⟩ := RL
  have lz := clN_len ht
  obtain ⟨fs, hfs⟩ := uX
  exact bodyPost_ret (v := agN ts) (results_cell_mid Tryz.results142 _ _ (w.heap.size + 1 + 1) (clN ts) _ rfl rg hfs rfl (by rw [lz]; exact iX)) rfl ⟨ts, rfl, ht, NS⟩
set_option maxHeartbeats 4000000 in
theorem double_any (w : World) (es fs : List (Nat → Int)) (T' X X' Y Y' Z Z' : Int) (hes : IsN es [X, Y, Z]) (hfs : IsN fs [X', Y', Z', T']) (TT : HasTw w 9) :
    Calls Tryz.prog 141 #[agN es, agN fs] w fun r w' => ∃ ts, r = .returned (agN ts) ∧ IsN ts [((X + Y) * (X + Y) - (Y * Y + X * X)) * ((Z * Z + Z * Z) - (Y * Y - X * X)), (Y * Y + X * X) * (Y * Y - X * X), (Y * Y - X * X) * ((Z * Z + Z * Z) - (Y * Y - X * X)), ((X + Y) * (X + Y) - (Y * Y + X * X)) * (Y * Y + X * X)] ∧ Below w.heap.size w w' := by
  show Calls Tryz.prog 141 #[.agg (clN es).toArray, .agg (clN fs).toArray] w _
  have H0 := rowN_new w 188 hes
  have m0 : Below w.heap.size w (w.alloc (.cells (clN es).toArray 188)) := (Below.refl _ _).alloc (Nat.le_refl _) _
  have s0 : (w.alloc (.cells (clN es).toArray 188)).heap.size = w.heap.size + 1 := by simp
  have H1 := fun W => rowN_new W 190 hfs
  obtain ⟨V0, hV0⟩ : ∃ V, V = (clN es).toArray := ⟨_, rfl⟩
  obtain ⟨V1, hV1⟩ : ∃ V, V = (clN fs).toArray := ⟨_, rfl⟩
  rw [← hV0] at H0 m0 s0 ⊢
  simp only [← hV1] at H1 ⊢
  clear hV0 hV1 hes hfs
  go_enter Tryz.func141, Tryz.ntmps141
  go_upto_region 1 with fail
  generalize w.alloc (.cells V0 188) = wa0 at *
  have H1' := H1 wa0
  have m1 : Below wa0.heap.size wa0 (wa0.alloc (.cells V1 190)) := (Below.refl _ _).alloc (Nat.le_refl _) _
  have s1 : (wa0.alloc (.cells V1 190)).heap.size = wa0.heap.size + 1 := by simp
  rw [s0] at H1' s1
  generalize wa0.alloc (.cells V1 190) = wa1 at *
  have TR : (wa1.alloc zX).there wa1.heap.size 0 20 := there_new wa1 _ _
  have mz : Below wa1.heap.size wa1 (wa1.alloc zX) := (Below.refl _ _).alloc (Nat.le_refl _) _
  rw [s1] at TR
  have P0 := (H0.up m1).up mz
  have P1 := H1'.up mz
  have N := nxt (nxt m0 m1) mz
  clear H0 H1 H1' m0 s0 m1 s1 mz
  obtain ⟨wr, hwr⟩ : ∃ W, W = wa1.alloc zX := ⟨_, rfl⟩
  rw [← hwr] at TR N P0 P1
  change Code.wp _ _ _ _ (wa1.alloc zX)
  rw [← hwr]
  clear hwr
  replace TT := TT.up N
  refine region_new3 12 9 2 5 12 10 5 6 15 11 8 7 18 _ _ _ (fun i => [Fact.eq (.pointer (some ⟨w.heap.size, 0, none⟩)), EM (X), EM ((X) * (X)), Fact.eq (.pointer (some ⟨w.heap.size, 5, none⟩)), EM (Y), EM ((Y) * (Y)), Fact.eq (.pointer (some ⟨w.heap.size, 10, none⟩)), EM (Z), EM ((Z) * (Z)), NB wr 5, NB wr 5, NB wr 5].getD i Fact.no) ((X) * (X)) ((Y) * (Y)) ((Z) * (Z)) (by kernel_rfl) rfl rfl rfl rfl rfl rfl rfl rfl rfl rfl rfl rfl rfl (by kernel_rfl) (by kernel_rfl) (by kernel_rfl) (by kernel_rfl) (by kernel_rfl) (by kernel_rfl) rfl rfl rfl rfl rfl rfl (by decide) (by decide) (by decide) (fresh_new5 rfl rfl rfl) (fresh_new5 rfl rfl rfl) (fresh_new5 rfl rfl rfl) ?_ ?_
  · intro i hi
    obtain rfl | rfl | rfl | rfl | rfl | rfl | rfl | rfl | rfl | rfl | rfl | rfl : i = 0 ∨ i = 1 ∨ i = 2 ∨ i = 3 ∨ i = 4 ∨ i = 5 ∨ i = 6 ∨ i = 7 ∨ i = 8 ∨ i = 9 ∨ i = 10 ∨ i = 11 := by omega
    · exact step_fld rfl 188 2 0 rfl (by kernel_rfl) _ _ rfl (fxJ _) rfl
    · exact step_e5f rfl 10 0 rfl (by kernel_rfl) _ _ rfl _ P0.at0 rfl
    · exact step_sq5 rfl 11 1 _ rfl (by kernel_rfl) rfl rfl
    · exact step_fld rfl 188 2 1 rfl (by kernel_rfl) _ _ rfl (fyJ _) rfl
    · exact step_e5f rfl 13 3 rfl (by kernel_rfl) _ _ rfl _ P0.tail.at0 rfl
    · exact step_sq5 rfl 14 4 _ rfl (by kernel_rfl) rfl rfl
    · exact step_fld rfl 188 2 2 rfl (by kernel_rfl) _ _ rfl (fzJ _) rfl
    · exact step_e5f rfl 16 6 rfl (by kernel_rfl) _ _ rfl _ P0.tail.tail.at0 rfl
    · exact step_sq5 rfl 17 7 _ rfl (by kernel_rfl) rfl rfl
    · exact step_new5 rfl rfl rfl
    · exact step_new5 rfl rfl rfl
    · exact step_new5 rfl rfl rfl
  intro vs1 q5 q6 q7 W1 v5 v6 v7 l5 l6 l7 n E5 E6 E7
  replace P0 := P0.up n
  replace P1 := P1.up n
  replace TT := TT.up n
  replace TR := there_up (by omega) TR n
  replace N := nxt N n
  clear n
  obtain ⟨x5, g5⟩ : ∃ e : Int, e = (X) * (X) := ⟨_, rfl⟩
  rw [← g5] at E5
  obtain ⟨x6, g6⟩ : ∃ e : Int, e = (Y) * (Y) := ⟨_, rfl⟩
  rw [← g6] at E6
  obtain ⟨x7, g7⟩ : ∃ e : Int, e = (Z) * (Z) := ⟨_, rfl⟩
  rw [← g7] at E7
  simp only [puts, v5, v6, v7, Act.put, List.setIfInBounds_toArray, List.set_cons_succ, List.set_cons_zero]
  clear v5 v6 v7
  go_upto_region 2 with fail
  refine region_new2 8 6 2 8 21 7 5 9 24 _ _ (fun i => [EM (x6), EM (x5), EM ((x6) - (x5)), EM (x6), EM (x5), EM ((x6) + (x5)), NB W1 5, NB W1 5].getD i Fact.no) ((x6) - (x5)) ((x6) + (x5)) (by kernel_rfl) rfl rfl rfl rfl rfl rfl rfl rfl rfl (by kernel_rfl) (by kernel_rfl) (by kernel_rfl) (by kernel_rfl) rfl rfl rfl rfl (by decide) (fresh_new5 rfl rfl rfl) (fresh_new5 rfl rfl rfl) ?_ ?_
  · intro i hi
    obtain rfl | rfl | rfl | rfl | rfl | rfl | rfl | rfl : i = 0 ∨ i = 1 ∨ i = 2 ∨ i = 3 ∨ i = 4 ∨ i = 5 ∨ i = 6 ∨ i = 7 := by omega
    · exact step_e5 rfl 6 rfl (by kernel_rfl) _ _ rfl _ E6 rfl
    · exact step_e5 rfl 5 rfl (by kernel_rfl) _ _ rfl _ E5 rfl
    · exact step_sub5 TT rfl 19 20 0 1 _ _ rfl (by kernel_rfl) (by kernel_rfl) rfl rfl rfl
    · exact step_e5 rfl 6 rfl (by kernel_rfl) _ _ rfl _ E6 rfl
    · exact step_e5 rfl 5 rfl (by kernel_rfl) _ _ rfl _ E5 rfl
    · exact step_add5 rfl 22 23 3 4 _ _ rfl (by kernel_rfl) (by kernel_rfl) rfl rfl rfl
    · exact step_new5 rfl rfl rfl
    · exact step_new5 rfl rfl rfl
  intro vs2 q8 q9 W2 v8 v9 l8 l9 n55 n E8 E9
  clear n55
  replace P0 := P0.up n
  replace P1 := P1.up n
  replace TT := TT.up n
  replace E5 := E5.up n
  replace E6 := E6.up n
  replace E7 := E7.up n
  replace TR := there_up (by omega) TR n
  replace N := nxt N n
  clear n
  obtain ⟨x8, g8⟩ : ∃ e : Int, e = (x6) - (x5) := ⟨_, rfl⟩
  rw [← g8] at E8
  obtain ⟨x9, g9⟩ : ∃ e : Int, e = (x6) + (x5) := ⟨_, rfl⟩
  rw [← g9] at E9
  simp only [puts, v8, v9, Act.put, List.setIfInBounds_toArray, List.set_cons_succ, List.set_cons_zero]
  clear v8 v9
  go_upto_region 3 with fail
  refine region_putN 190 18 17 4 42 _ (fun i => [Fact.eq (.pointer (some ⟨w.heap.size, 0, none⟩)), EM (X), Fact.eq (.pointer (some ⟨w.heap.size, 5, none⟩)), EM (Y), EM ((X) + (Y)), EM (((X) + (Y)) * ((X) + (Y))), EM (x9), EM ((((X) + (Y)) * ((X) + (Y))) - (x9)), EM (x8), EN [(((X) + (Y)) * ((X) + (Y))) - (x9), x8], EM (x9), EM (x7), EM (x7), EM ((x7) + (x7)), EM (x8), EM (((x7) + (x7)) - (x8)), EN [x9, ((x7) + (x7)) - (x8)], EN [((((X) + (Y)) * ((X) + (Y))) - (x9)) * (((x7) + (x7)) - (x8)), (x9) * (x8), (x8) * (((x7) + (x7)) - (x8)), ((((X) + (Y)) * ((X) + (Y))) - (x9)) * (x9)]].getD i Fact.no) [((((X) + (Y)) * ((X) + (Y))) - (x9)) * (((x7) + (x7)) - (x8)), (x9) * (x8), (x8) * (((x7) + (x7)) - (x8)), ((((X) + (Y)) * ((X) + (Y))) - (x9)) * (x9)] _ (by kernel_rfl) rfl rfl rfl iX (Nat.zero_lt_succ _) (by kernel_rfl) rfl TR (by kernel_rfl) rfl ?_ ?_
  · intro i hi
    obtain rfl | rfl | rfl | rfl | rfl | rfl | rfl | rfl | rfl | rfl | rfl | rfl | rfl | rfl | rfl | rfl | rfl | rfl : i = 0 ∨ i = 1 ∨ i = 2 ∨ i = 3 ∨ i = 4 ∨ i = 5 ∨ i = 6 ∨ i = 7 ∨ i = 8 ∨ i = 9 ∨ i = 10 ∨ i = 11 ∨ i = 12 ∨ i = 13 ∨ i = 14 ∨ i = 15 ∨ i = 16 ∨ i = 17 := by omega
    · exact step_fld rfl 188 2 0 rfl (by kernel_rfl) _ _ rfl (fxJ _) rfl
    · exact step_e5f rfl 25 0 rfl (by kernel_rfl) _ _ rfl _ P0.at0 rfl
    · exact step_fld rfl 188 2 1 rfl (by kernel_rfl) _ _ rfl (fyJ _) rfl
    · exact step_e5f rfl 27 2 rfl (by kernel_rfl) _ _ rfl _ P0.tail.at0 rfl
    · exact step_add5 rfl 26 28 1 3 _ _ rfl (by kernel_rfl) (by kernel_rfl) rfl rfl rfl
    · exact step_sq5 rfl 29 4 _ rfl (by kernel_rfl) rfl rfl
    · exact step_e5 rfl 9 rfl (by kernel_rfl) _ _ rfl _ E9 rfl
    · exact step_sub5 TT rfl 30 31 5 6 _ _ rfl (by kernel_rfl) (by kernel_rfl) rfl rfl rfl
    · exact step_e5 rfl 8 rfl (by kernel_rfl) _ _ rfl _ E8 rfl
    · exact step_bR rfl 32 33 7 8 _ _ rfl (by kernel_rfl) (by kernel_rfl) rfl rfl rfl
    · exact step_e5 rfl 9 rfl (by kernel_rfl) _ _ rfl _ E9 rfl
    · exact step_e5 rfl 7 rfl (by kernel_rfl) _ _ rfl _ E7 rfl
    · exact step_e5 rfl 7 rfl (by kernel_rfl) _ _ rfl _ E7 rfl
    · exact step_add5 rfl 36 37 11 12 _ _ rfl (by kernel_rfl) (by kernel_rfl) rfl rfl rfl
    · exact step_e5 rfl 8 rfl (by kernel_rfl) _ _ rfl _ E8 rfl
    · exact step_sub5 TT rfl 38 39 13 14 _ _ rfl (by kernel_rfl) (by kernel_rfl) rfl rfl rfl
    · exact step_bR rfl 35 40 10 15 _ _ rfl (by kernel_rfl) (by kernel_rfl) rfl rfl rfl
    · exact step_fr rfl 34 41 9 16 _ _ _ _ rfl (by kernel_rfl) (by kernel_rfl) rfl rfl rfl
  intro vsL Wa Wb na bq RL nb TL
  have NS := nb w w.heap.size (nxt N na) (by omega)
  simp only [puts, Act.put, List.setIfInBounds_toArray, List.set_cons_succ, List.set_cons_zero]
  clear bq nb na N TR TL P0 P1 TT E5 E6 E7 E8 E9
  go_wp2
  subst g5 g6 g7 g8 g9
  obtain ⟨ts, rg, _, ht⟩ := RL
  have lz := clN_len ht
  obtain ⟨fs, hfs⟩ := uX
  exact bodyPost_ret (v := agN ts) (results_cell_mid Tryz.results141 _ _ (w.heap.size + 1 + 1) (clN ts) _ rfl rg hfs rfl (by rw [lz]; exact iX)) rfl ⟨ts, rfl, ht, NS⟩
set_option maxHeartbeats 4000000 in
theorem toAffine_any (w : World) (es : List (Nat → Int)) (X Y Z : Int) (hes : IsN es [X, Y, Z]) (SS : HasSt w 13) (II : Has3 w 10 12 5 4) :
    Calls Tryz.prog 147 #[agN es] w fun r w' => ∃ ts, r = .returned (agN ts) ∧ IsN ts [X * Z ^ eInv, Y * Z ^ eInv] ∧ Below w.heap.size w w' := by
  show Calls Tryz.prog 147 #[.agg (clN es).toArray] w _
  have H0 := rowN_new w 188 hes
  have m0 : Below w.heap.size w (w.alloc (.cells (clN es).toArray 188)) := (Below.refl _ _).alloc (Nat.le_refl _) _
  have s0 : (w.alloc (.cells (clN es).toArray 188)).heap.size = w.heap.size + 1 := by simp
  obtain ⟨V0, hV0⟩ : ∃ V, V = (clN es).toArray := ⟨_, rfl⟩
  rw [← hV0] at H0 m0 s0 ⊢
  clear hV0 hes
  go_enter Tryz.func147, Tryz.ntmps147
  go_upto_region 1 with fail
  generalize w.alloc (.cells V0 188) = wa0 at *
  have TR : (wa0.alloc zA).there wa0.heap.size 0 10 := there_new wa0 _ _
  have mz : Below wa0.heap.size wa0 (wa0.alloc zA) := (Below.refl _ _).alloc (Nat.le_refl _) _
  rw [s0] at TR
  have P0 := H0.up mz
  have N := nxt m0 mz
  clear H0 m0 s0 mz
  obtain ⟨wr, hwr⟩ : ∃ W, W = wa0.alloc zA := ⟨_, rfl⟩
  rw [← hwr] at TR N P0
  change Code.wp _ _ _ _ (wa0.alloc zA)
  rw [← hwr]
  clear hwr
  replace SS := SS.up N
  replace II := II.up N
  refine region_new5 4 3 2 3 6 _ (fun i => [Fact.eq (.pointer (some ⟨w.heap.size, 10, none⟩)), EM (Z), EM ((Z) ^ eInv), NB wr 5].getD i Fact.no) ((Z) ^ eInv) (by kernel_rfl) rfl rfl rfl (by kernel_rfl) (by kernel_rfl) rfl rfl ?_ ?_
  · intro i hi
    obtain rfl | rfl | rfl | rfl : i = 0 ∨ i = 1 ∨ i = 2 ∨ i = 3 := by omega
    · exact step_fld rfl 188 1 2 rfl (by kernel_rfl) _ _ rfl (fzJ _) rfl
    · exact step_e5f rfl 4 0 rfl (by kernel_rfl) _ _ rfl _ P0.tail.tail.at0 rfl
    · exact step_inv5 SS II rfl 5 1 _ rfl (by kernel_rfl) rfl rfl
    · exact step_new5 rfl rfl rfl
  intro vs1 q3 W1 v3 l3 n E3
  replace P0 := P0.up n
  replace SS := SS.up n
  replace II := II.up n
  replace TR := there_up (by omega) TR n
  replace N := nxt N n
  clear n
  obtain ⟨x3, g3⟩ : ∃ e : Int, e = (Z) ^ eInv := ⟨_, rfl⟩
  rw [← g3] at E3
  simp only [puts, v3, Act.put, List.setIfInBounds_toArray, List.set_cons_succ, List.set_cons_zero]
  clear v3
  go_upto_region 2 with fail
  refine region_putN 103 9 8 2 15 _ (fun i => [Fact.eq (.pointer (some ⟨w.heap.size, 0, none⟩)), EM (X), EM (x3), EM ((X) * (x3)), Fact.eq (.pointer (some ⟨w.heap.size, 5, none⟩)), EM (Y), EM (x3), EM ((Y) * (x3)), EN [(X) * (x3), (Y) * (x3)]].getD i Fact.no) [(X) * (x3), (Y) * (x3)] _ (by kernel_rfl) rfl rfl rfl iA (Nat.zero_lt_succ _) (by kernel_rfl) rfl TR (by kernel_rfl) rfl ?_ ?_
  · intro i hi
    obtain rfl | rfl | rfl | rfl | rfl | rfl | rfl | rfl | rfl : i = 0 ∨ i = 1 ∨ i = 2 ∨ i = 3 ∨ i = 4 ∨ i = 5 ∨ i = 6 ∨ i = 7 ∨ i = 8 := by omega
    · exact step_fld rfl 188 1 0 rfl (by kernel_rfl) _ _ rfl (fxJ _) rfl
    · exact step_e5f rfl 7 0 rfl (by kernel_rfl) _ _ rfl _ P0.at0 rfl
    · exact step_e5 rfl 3 rfl (by kernel_rfl) _ _ rfl _ E3 rfl
    · exact step_mul5 rfl 8 9 1 2 _ _ rfl (by kernel_rfl) (by kernel_rfl) rfl rfl rfl
    · exact step_fld rfl 188 1 1 rfl (by kernel_rfl) _ _ rfl (fyJ _) rfl
    · exact step_e5f rfl 11 4 rfl (by kernel_rfl) _ _ rfl _ P0.tail.at0 rfl
    · exact step_e5 rfl 3 rfl (by kernel_rfl) _ _ rfl _ E3 rfl
    · exact step_mul5 rfl 12 13 5 6 _ _ rfl (by kernel_rfl) (by kernel_rfl) rfl rfl rfl
    · exact step_bA rfl 10 14 3 7 _ _ rfl (by kernel_rfl) (by kernel_rfl) rfl rfl rfl
  intro vsL Wa Wb na bq RL nb TL
  have NS := nb w w.heap.size (nxt N na) (by omega)
  simp only [puts, Act.put, List.setIfInBounds_toArray, List.set_cons_succ, List.set_cons_zero]
  clear bq nb na N TR TL P0 SS II E3
  go_wp2
  subst g3
  obtain ⟨ts, rg, _, ht⟩ := RL
  have lz := clN_len ht
  obtain ⟨fs, hfs⟩ := uA
  exact bodyPost_ret (v := agN ts) (results_cell_mid Tryz.results147 _ _ (w.heap.size + 1) (clN ts) _ rfl rg hfs rfl (by rw [lz]; exact iA)) rfl ⟨ts, rfl, ht, NS⟩
set_option maxHeartbeats 4000000 in
theorem toExt_any (w : World) (es : List (Nat → Int)) (X Y : Int) (hes : IsN es [X, Y]) :
    Calls Tryz.prog 144 #[agN es] w fun r w' => ∃ ts, r = .returned (agN ts) ∧ IsN ts [X, Y, 1, X * Y] ∧ Below w.heap.size w w' := by
  show Calls Tryz.prog 144 #[.agg (clN es).toArray] w _
  have H0 := rowN_new w 103 hes
  have m0 : Below w.heap.size w (w.alloc (.cells (clN es).toArray 103)) := (Below.refl _ _).alloc (Nat.le_refl _) _
  have s0 : (w.alloc (.cells (clN es).toArray 103)).heap.size = w.heap.size + 1 := by simp
  obtain ⟨V0, hV0⟩ : ∃ V, V = (clN es).toArray := ⟨_, rfl⟩
  rw [← hV0] at H0 m0 s0 ⊢
  clear hV0 hes
  go_enter Tryz.func144, Tryz.ntmps144
  go_upto_region 1 with fail
  generalize w.alloc (.cells V0 103) = wa0 at *
  have TR : (wa0.alloc zX).there wa0.heap.size 0 20 := there_new wa0 _ _
  have mz : Below wa0.heap.size wa0 (wa0.alloc zX) := (Below.refl _ _).alloc (Nat.le_refl _) _
  rw [s0] at TR
  have P0 := H0.up mz
  have N := nxt m0 mz
  clear H0 m0 s0 mz
  obtain ⟨wr, hwr⟩ : ∃ W, W = wa0.alloc zX := ⟨_, rfl⟩
  rw [← hwr] at TR N P0
  change Code.wp _ _ _ _ (wa0.alloc zX)
  rw [← hwr]
  clear hwr
  refine region_putN 190 12 11 2 14 _ (fun i => [Fact.eq (.pointer (some ⟨w.heap.size, 0, none⟩)), EM (X), Fact.eq (.pointer (some ⟨w.heap.size, 5, none⟩)), EM (Y), EM (1), EN [X, Y, 1], Fact.eq (.pointer (some ⟨w.heap.size, 0, none⟩)), EM (X), Fact.eq (.pointer (some ⟨w.heap.size, 5, none⟩)), EM (Y), EM ((X) * (Y)), EN [X, Y, 1, (X) * (Y)]].getD i Fact.no) [X, Y, 1, (X) * (Y)] _ (by kernel_rfl) rfl rfl rfl iX (Nat.zero_lt_succ _) (by kernel_rfl) rfl TR (by kernel_rfl) rfl ?_ ?_
  · intro i hi
    obtain rfl | rfl | rfl | rfl | rfl | rfl | rfl | rfl | rfl | rfl | rfl | rfl : i = 0 ∨ i = 1 ∨ i = 2 ∨ i = 3 ∨ i = 4 ∨ i = 5 ∨ i = 6 ∨ i = 7 ∨ i = 8 ∨ i = 9 ∨ i = 10 ∨ i = 11 := by omega
    · exact step_fld rfl 103 1 0 rfl (by kernel_rfl) _ _ rfl (fxA _) rfl
    · exact step_e5f rfl 3 0 rfl (by kernel_rfl) _ _ rfl _ P0.at0 rfl
    · exact step_fld rfl 103 1 1 rfl (by kernel_rfl) _ _ rfl (fyA _) rfl
    · exact step_e5f rfl 5 2 rfl (by kernel_rfl) _ _ rfl _ P0.tail.at0 rfl
    · exact step_b5 rfl 1 (by omega) rfl rfl
    · exact step_bP rfl 4 6 7 1 3 4 _ _ _ rfl (by kernel_rfl) (by kernel_rfl) (by kernel_rfl) rfl rfl rfl rfl
    · exact step_fld rfl 103 1 0 rfl (by kernel_rfl) _ _ rfl (fxA _) rfl
    · exact step_e5f rfl 9 6 rfl (by kernel_rfl) _ _ rfl _ P0.at0 rfl
    · exact step_fld rfl 103 1 1 rfl (by kernel_rfl) _ _ rfl (fyA _) rfl
    · exact step_e5f rfl 11 8 rfl (by kernel_rfl) _ _ rfl _ P0.tail.at0 rfl
    · exact step_mul5 rfl 10 12 7 9 _ _ rfl (by kernel_rfl) (by kernel_rfl) rfl rfl rfl
    · exact step_bX rfl 8 13 5 10 _ _ _ _ rfl (by kernel_rfl) (by kernel_rfl) rfl rfl rfl
  intro vsL Wa Wb na bq RL nb TL
  have NS := nb w w.heap.size (nxt N na) (by omega)
  simp only [puts, Act.put, List.setIfInBounds_toArray, List.set_cons_succ, List.set_cons_zero]
  clear bq nb na N TR TL P0
  go_wp2
  obtain ⟨ts, rg, _, ht⟩ := RL
  have lz := clN_len ht
  obtain ⟨fs, hfs⟩ := uX
  exact bodyPost_ret (v := agN ts) (results_cell_mid Tryz.results144 _ _ (w.heap.size + 1) (clN ts) _ rfl rg hfs rfl (by rw [lz]; exact iX)) rfl ⟨ts, rfl, ht, NS⟩
end Go.Proofs.YthonlkghkdjagaaGreatDoor
namespace Go.Proofs.YthonlkghkdjagaaGreatDoor
set_option maxRecDepth 100000
open Go.RowKit
end Go.Proofs.YthonlkghkdjagaaGreatDoor
namespace Go.Proofs.YthonlkghkdjagaaGreatDoor
set_option maxRecDepth 100000
open Go.RowKit
def ResOf (v : Int) (b : Bool) (ys : List Int) : Prop := ∃ c, Canon c v ∧ ((c.length ≤ 128 ∧ b = true ∧ ys = c) ∨ (128 < c.length ∧ b = false ∧ ys = []))
def NumOf (A : Prop) (v : Int) (b : Bool) (ys : List Int) : Prop := (A ∧ ResOf v b ys) ∨ (¬ A ∧ b = false ∧ ys = [])
theorem ResOf.uniq {v : Int} {b d : Bool} {ys zs : List Int} (h : ResOf v b ys) (k : ResOf v d zs) : b = d ∧ ys = zs := by
  obtain ⟨c, hc, h⟩ := h
  obtain ⟨c', hc', k⟩ := k
  obtain rfl := hc.uniq hc'
  rcases h with ⟨h1, rfl, rfl⟩ | ⟨h1, rfl, rfl⟩
  · rcases k with ⟨k1, rfl, rfl⟩ | ⟨k1, rfl, rfl⟩
    · exact ⟨rfl, rfl⟩
    · omega
  · rcases k with ⟨k1, rfl, rfl⟩ | ⟨k1, rfl, rfl⟩
    · omega
    · exact ⟨rfl, rfl⟩
theorem NumOf.uniq {A : Prop} {v : Int} {b d : Bool} {ys zs : List Int} (h : NumOf A v b ys) (k : NumOf A v d zs) : b = d ∧ ys = zs := by
  rcases h with ⟨h1, h2⟩ | ⟨h1, rfl, rfl⟩
  · rcases k with ⟨k1, k2⟩ | ⟨k1, rfl, rfl⟩
    · exact h2.uniq k2
    · exact absurd h1 k1
  · rcases k with ⟨k1, k2⟩ | ⟨k1, rfl, rfl⟩
    · exact absurd k1 h1
    · exact ⟨rfl, rfl⟩
theorem NumOf.len {A : Prop} {v : Int} {b : Bool} {ys : List Int} (h : NumOf A v b ys) : ys.length ≤ 128 := by
  rcases h with ⟨_, c, _, ⟨h1, _, rfl⟩ | ⟨_, _, rfl⟩⟩ | ⟨_, _, rfl⟩
  · exact h1
  · simp
  · simp
def NewRes (B : Nat) (w' : World) (e : Ending) (b : Bool) (ys : List Int) : Prop :=
  ∃ (a : Option Addr) (c g : Nat), e = .returned (.agg #[.bool b, .slice a ys.length c]) ∧ Own w' g a .u8 ys ∧ (a = none → c = 0) ∧ ys.length ≤ c ∧ B ≤ g
theorem NewRes.none {B : Nat} {w : World} (h : B ≤ w.heap.size) : NewRes B w (.returned (.agg #[.bool false, .slice none 0 0])) false [] :=
  ⟨_, 0, w.heap.size, rfl, Own.nil _ _ _ _, by simp, Nat.zero_le _, h⟩
end Go.Proofs.YthonlkghkdjagaaGreatDoor
namespace Go.Proofs.YthonlkghkdjagaaGreatDoor
set_option maxRecDepth 100000
open Go.RowKit
theorem two_kept {w w1 : World} {x y : Value} {t : TypeId} (n : Below (w.alloc (.cells #[x, y] t)).heap.size (w.alloc (.cells #[x, y] t)) w1) :
    w1.cell? ⟨w.heap.size, 0, none⟩ = some x ∧ w1.cell? ⟨w.heap.size, 1, none⟩ = some y ∧ w1.frozen? ⟨w.heap.size, 0, none⟩ = false ∧ w1.frozen? ⟨w.heap.size, 1, none⟩ = false ∧ w.heap.size < w1.heap.size := by
  have hs : w.heap.size < (w.alloc (.cells #[x, y] t)).heap.size := by simp
  refine ⟨?_, ?_, ?_, ?_, by have := n.size; omega⟩
  · rw [n.cell (p := ⟨w.heap.size, 0, none⟩) hs]; simp [World.cell?_alloc_at]
  · rw [n.cell (p := ⟨w.heap.size, 1, none⟩) hs]; simp [World.cell?_alloc_at]
  · rw [n.frozen (p := ⟨w.heap.size, 0, none⟩) hs]; simp [World.frozen?_alloc_at]
  · rw [n.frozen (p := ⟨w.heap.size, 1, none⟩) hs]; simp [World.frozen?_alloc_at]
structure Two (w : World) (p : Nat) (x y : Value) : Prop where
  c0 : w.cell? ⟨p, 0, none⟩ = some x
  c1 : w.cell? ⟨p, 1, none⟩ = some y
  f0 : w.frozen? ⟨p, 0, none⟩ = false
  f1 : w.frozen? ⟨p, 1, none⟩ = false
theorem Two.lt {w : World} {p : Nat} {x y : Value} (h : Two w p x y) : p < w.heap.size := block_lt_of_cell h.c0
theorem Two.of_block {w w' : World} {p : Nat} {x y : Value} (h : Two w p x y) (hb : w'.heap[p]? = w.heap[p]?) : Two w' p x y :=
  ⟨(World.cell?_of_block (a := ⟨p, 0, none⟩) hb).trans h.c0, (World.cell?_of_block (a := ⟨p, 1, none⟩) hb).trans h.c1, (World.frozen?_of_block (a := ⟨p, 0, none⟩) hb).trans h.f0, (World.frozen?_of_block (a := ⟨p, 1, none⟩) hb).trans h.f1⟩
theorem Two.up {w w' : World} {p : Nat} {x y : Value} (h : Two w p x y) (n : Below w.heap.size w w') : Two w' p x y := h.of_block (n.block p h.lt)
theorem Two.only {w w' : World} {p g : Nat} {x y : Value} (h : Two w p x y) (n : Only g w w') (hne : p ≠ g) : Two w' p x y := h.of_block (n.block p hne)
theorem Two.new (w : World) (x y : Value) (t : TypeId) : Two (w.alloc (.cells #[x, y] t)) w.heap.size x y := by
  obtain ⟨k1, k2, k3, k4, _⟩ := two_kept (Below.refl (w.alloc (.cells #[x, y] t)).heap.size (w.alloc (.cells #[x, y] t)))
  exact ⟨k1, k2, k3, k4⟩
end Go.Proofs.YthonlkghkdjagaaGreatDoor
namespace Go.Proofs.YthonlkghkdjagaaGreatDoor
set_option maxRecDepth 100000
open Go.RowKit
structure ButP (g h : Nat) (w w' : World) : Prop where
  os : w'.os = w.os
  tape : w'.tape = w.tape
  output : w'.output = w.output
  size : w.heap.size ≤ w'.heap.size
  block : ∀ k, k < w.heap.size → k ≠ g → k ≠ h → w'.heap[k]? = w.heap[k]?
theorem ButP.of {g h : Nat} {a b c d : World} (n : Below a.heap.size a b) (k : Only g b c) (l : Only h c d) : ButP g h a d :=
  ⟨(l.os.trans k.os).trans n.os, (l.tape.trans k.tape).trans n.tape, (l.output.trans k.output).trans n.output, by rw [l.size, k.size]; exact n.size, fun i hi h1 h2 => ((l.block i h2).trans (k.block i h1)).trans (n.block i hi)⟩
theorem ButP.below {g h B : Nat} {w w' : World} (n : ButP g h w w') (hB : B ≤ g) (hC : B ≤ h) (hs : B ≤ w.heap.size) : Below B w w' := ⟨n.os, n.tape, n.output, n.size, fun k hk => n.block k (by omega) (by omega) (by omega)⟩
theorem ButP.up {g h : Nat} {a b c : World} (n : ButP g h a b) (k : Below b.heap.size b c) : ButP g h a c :=
  ⟨k.os.trans n.os, k.tape.trans n.tape, k.output.trans n.output, Nat.le_trans n.size k.size, fun i hi h1 h2 => (k.block i (Nat.lt_of_lt_of_le hi n.size)).trans (n.block i hi h1 h2)⟩
theorem ButP.from {g h : Nat} {a b c : World} (k : Below a.heap.size a b) (n : ButP g h b c) : ButP g h a c :=
  ⟨n.os.trans k.os, n.tape.trans k.tape, n.output.trans k.output, Nat.le_trans k.size n.size, fun i hi h1 h2 => (n.block i (Nat.lt_of_lt_of_le hi k.size) h1 h2).trans (k.block i hi)⟩
structure PrP (w : World) (g : Nat) (a : Option Addr) (xs : List Int) (g' : Nat) (a' : Option Addr) (ys : List Int) : Prop where
  l : Own w g a .u8 xs
  r : Own w g' a' .u8 ys
theorem PrP.up {w w' : World} {g g' : Nat} {a a' : Option Addr} {xs ys : List Int} (h : PrP w g a xs g' a' ys) (n : Below w.heap.size w w') : PrP w' g a xs g' a' ys := ⟨h.l.up n, h.r.up n⟩
theorem PrP.only {w w' : World} {g g' k : Nat} {a a' : Option Addr} {xs ys : List Int} (h : PrP w g a xs g' a' ys) (n : Only k w w') (h1 : 0 < xs.length → g ≠ k) (h2 : 0 < ys.length → g' ≠ k) : PrP w' g a xs g' a' ys := ⟨h.l.only n h1, h.r.only n h2⟩
def NewP2 (B : Nat) (w' : World) (e : Ending) (xs ys : List Int) : Prop :=
  ∃ (a : Option Addr) (c g : Nat) (a' : Option Addr) (c' g' : Nat), e = .returned (.agg #[.slice a xs.length c, .slice a' ys.length c']) ∧ Own w' g a .u8 xs ∧ Own w' g' a' .u8 ys ∧ B ≤ g ∧ B ≤ g' ∧ (0 < xs.length → 0 < ys.length → g ≠ g')
theorem NewP2.nil {B : Nat} {w : World} : NewP2 B w (.returned (.agg #[.slice none 0 0, .slice none 0 0])) [] [] := ⟨none, 0, B, none, 0, B, rfl, Own.nil _ _ _ _, Own.nil _ _ _ _, Nat.le_refl _, Nat.le_refl _, fun h => absurd h (by simp)⟩
theorem NewP2.at {B B' : Nat} {w : World} {e : Ending} {ys ss : List Int} (h : NewP2 B w e ys ss) (h1 : B' < B) (h2 : B' < w.heap.size) :
    ∃ (a : Option Addr) (c g : Nat) (a' : Option Addr) (c' g' : Nat), e = .returned (.agg #[.slice a ys.length c, .slice a' ss.length c']) ∧ PrP w g a ys g' a' ss ∧ B' ≤ g ∧ g < w.heap.size ∧ B' ≤ g' ∧ g' < w.heap.size ∧ (0 < ys.length → B ≤ g ∧ g ≠ g') ∧ (0 < ss.length → B ≤ g' ∧ g ≠ g') := by
  obtain ⟨a, c, g, a', c', g', he, o, o', hg, hg', hne⟩ := h
  by_cases h0 : 0 < ys.length
  · by_cases k0 : 0 < ss.length
    · exact ⟨a, c, g, a', c', g', he, ⟨o, o'⟩, by omega, o.rd.lt h0, by omega, o'.rd.lt k0, fun _ => ⟨hg, hne h0 k0⟩, fun _ => ⟨hg', hne h0 k0⟩⟩
    · obtain rfl : ss = [] := List.eq_nil_of_length_eq_zero (by omega)
      exact ⟨a, c, g, a', c', B', he, ⟨o, Own.nil _ _ _ _⟩, by omega, o.rd.lt h0, Nat.le_refl _, h2, fun _ => ⟨hg, by omega⟩, fun h => absurd h (by simp)⟩
  · obtain rfl : ys = [] := List.eq_nil_of_length_eq_zero (by omega)
    by_cases k0 : 0 < ss.length
    · exact ⟨a, c, B', a', c', g', he, ⟨Own.nil _ _ _ _, o'⟩, Nat.le_refl _, h2, by omega, o'.rd.lt k0, fun h => absurd h (by simp), fun _ => ⟨hg', by omega⟩⟩
    · obtain rfl : ss = [] := List.eq_nil_of_length_eq_zero (by omega)
      exact ⟨a, c, B', a', c', B', he, ⟨Own.nil _ _ _ _, Own.nil _ _ _ _⟩, Nat.le_refl _, h2, Nat.le_refl _, h2, fun h => absurd h (by simp), fun h => absurd h (by simp)⟩
end Go.Proofs.YthonlkghkdjagaaGreatDoor
namespace Go.Proofs.YthonlkghkdjagaaGreatDoor
set_option maxRecDepth 100000
open Go Go.RowKit
def PD (w0 : World) (xs ys : List Int) : Fact := ⟨fun v w => ∃ (a a' : Option Addr) (c c' g g' : Nat), v = .agg #[.slice a xs.length c, .slice a' ys.length c'] ∧ Own w g a .u8 xs ∧ Own w g' a' .u8 ys ∧ w0.heap.size ≤ g ∧ w0.heap.size ≤ g' ∧ (0 < xs.length → 0 < ys.length → g ≠ g'), fun n h => by
  obtain ⟨a, a', c, c', g, g', e, o, o', q⟩ := h
  exact ⟨a, a', c, c', g, g', e, o.up n, o'.up n, q⟩⟩
section
variable {ops : Array Oper} {Q : Exit → Act → World → Prop} {md : Region.Mode} {F : Nat → Fact} {a0 : Act} {w0 : World} {i : Nat} {o : Oper} {ts : Array TypeId}
end
section
variable {ops : Array Oper} {Q : Exit → Act → World → Prop} {a0 : Act} {w : World} {id : Nat} {draw : Bool}
end
end Go.Proofs.YthonlkghkdjagaaGreatDoor
namespace Go.Proofs.YthonlkghkdjagaaGreatDoor
set_option maxRecDepth 100000
open Go Go.RowKit
def onB (D x y : Int) : Bool := decide ((y * y - x * x) % PP = (1 + D * (x * x) * (y * y)) % PP)
section
variable {ops : Array Oper} {Q : Exit → Act → World → Prop} {md : Region.Mode} {F : Nat → Fact} {a0 : Act} {w0 : World} {i : Nat} {o : Oper} {ts : Array TypeId}
end
def rpC (xs ys : List Int) : Bool := canN xs && canN ys
def rpX (xs ys : List Int) : Int := if rpC xs ys = true then num xs else 0
def rpY (xs ys : List Int) : Int := if rpC xs ys = true then num ys else 0
def rpB (D : Int) (xs ys : List Int) : Bool := rpC xs ys && onB D (num xs) (num ys)
end Go.Proofs.YthonlkghkdjagaaGreatDoor
namespace Go.Proofs.YthonlkghkdjagaaGreatDoor
set_option maxRecDepth 100000
open Go Go.RowKit
def RdOk (W : World) (a : Option Addr) (xs : List Int) : Prop := ∃ g, Rd W g a .u8 xs ∧ Byt xs
theorem RdOk.up {W W' : World} {a : Option Addr} {xs : List Int} (h : RdOk W a xs) (n : Below W.heap.size W W') : RdOk W' a xs := by
  obtain ⟨g, r, b⟩ := h
  exact ⟨g, r.up n, b⟩
theorem Two.there {w : World} {p : Nat} {x y : Value} (h : Two w p x y) : w.there p 0 2 := fun j hj => by
  obtain rfl | rfl : j = 0 ∨ j = 1 := by omega
  · exact ⟨by rw [show (⟨p, 0 + 0, none⟩ : Addr) = ⟨p, 0, none⟩ from rfl, h.c0]; rfl, h.f0⟩
  · exact ⟨by rw [show (⟨p, 0 + 1, none⟩ : Addr) = ⟨p, 1, none⟩ from rfl, h.c1]; rfl, h.f1⟩
section
variable {ops : Array Oper} {Q : Exit → Act → World → Prop} {md : Region.Mode} {F : Nat → Fact} {a0 : Act} {w0 : World} {i : Nat} {o : Oper} {ts : Array TypeId}
theorem step_aff (SS : HasSt w0 13) (II : Has3 w0 10 12 5 4) (hi : ops[i]? = some o) (p j : Nat) (X Y Z : Int) (hop : o.op = .call { callee := .value (.func 147), args := #[.tmp p], argTypes := ts })
    (hj : waits md ops i j p = true) (hFj : F j = EN [X, Y, Z]) (hFi : F i = EN [X * Z ^ eInv, Y * Z ^ eInv]) : StepOk Tryz.prog md ops Q F a0 w0 i :=
  step_oneN hi _ p hop (by kernel_rfl) j _ _ (fun w es hw he => toAffine_any w es X Y Z he (SS.up hw) (II.up hw)) hj hFj hFi
end
end Go.Proofs.YthonlkghkdjagaaGreatDoor
namespace Go.Proofs.YthonlkghkdjagaaGreatDoor
set_option maxRecDepth 100000
open Go Go.RowKit
def AG (R : List (Nat → Int) → Prop) : Fact := ⟨fun v _ => ∃ es, v = agN es ∧ R es, fun _ h => h⟩
def RowG (W : World) (q o : Nat) (R : List (Nat → Int) → Prop) : Prop := ∃ es, W.rangeAt q o (clN es) ∧ q < W.heap.size ∧ R es
theorem RowG.up {W W' : World} {q o : Nat} {R : List (Nat → Int) → Prop} (h : RowG W q o R) (n : Below W.heap.size W W') : RowG W' q o R := by
  obtain ⟨t, r, l, h⟩ := h
  exact ⟨t, fun j v hv => (World.cell?_of_block (a := ⟨q, o + j, none⟩) (n.block q l)).trans (r j v hv), Nat.lt_of_lt_of_le l n.size, h⟩
theorem RowG.but {W W' : World} {g o q : Nat} {R : List (Nat → Int) → Prop} (h : RowG W g o R) (k : ButQ q W W') (hne : g ≠ q) : RowG W' g o R := by
  obtain ⟨t, r, l, h⟩ := h
  exact ⟨t, fun j v hv => (World.cell?_of_block (a := ⟨g, o + j, none⟩) (k.1 g hne l)).trans (r j v hv), Nat.lt_of_lt_of_le l k.2, h⟩
theorem there_upo {W W' : World} {q o n : Nat} (hn : 0 < n) (h : W.there q o n) (k : Below W.heap.size W W') : W'.there q o n := by
  have l : q < W.heap.size := by
    have := (h 0 hn).1
    cases hc : W.cell? ⟨q, o + 0, none⟩ with
    | none => rw [hc] at this; simp at this
    | some v => exact block_lt_of_cell hc
  intro j hj
  have e := k.block q l
  rw [World.cell?_of_block (a := ⟨q, o + j, none⟩) e, World.frozen?_of_block (a := ⟨q, o + j, none⟩) e]
  exact h j hj
theorem but_setO {W W' : World} {q : Nat} (n : Below W.heap.size W W') (o : Nat) (vs : List Value) : ButQ q W (W'.setCells q o vs) :=
  ⟨fun g hg hl => (setCells_other hg vs o W').trans (n.block g hl), by rw [heap_size_setCells]; exact n.size⟩
section
variable {ops : Array Oper} {Q : Exit → Act → World → Prop} {md : Region.Mode} {F : Nat → Fact} {a0 : Act} {w0 w : World} {i id : Nat} {o : Oper} {ts : Array TypeId} {draw : Bool}
theorem step_lG (ty : TypeId) (d : TypeDesc) (m : Nat) (R : List (Nat → Int) → Prop) (hR : ∀ es, R es → es.length = m) (hu : Tryz.prog.underlying ty = some d) (hd : d.isRow = true) (hs : (Tryz.prog.info? ty).map (·.size) = some (5 * m)) (hi : ops[i]? = some o) (p : Nat) (hop : o.op = .load ty (.tmp p)) (hp : apart ops p = true) (q off : Nat) (h0 : a0.tmps.getD p undef = .pointer (some ⟨q, off, none⟩)) (hE : RowG w0 q off R) (hF : F i = AG R) : StepOk Tryz.prog md ops Q F a0 w0 i := by
  refine step_load hi _ _ hop d _ hu hd hs fun a w hb hw _ => ?_
  obtain ⟨t, r, _, h⟩ := hE.up hw
  exact ⟨q, off, _, (based_at hb p hp).trans h0, r, by rw [clN_size, hR _ h], by rw [hF]; exact ⟨t, rfl, h⟩⟩
theorem step_lGf (ty : TypeId) (d : TypeDesc) (m : Nat) (R : List (Nat → Int) → Prop) (hR : ∀ es, R es → es.length = m) (hu : Tryz.prog.underlying ty = some d) (hd : d.isRow = true) (hs : (Tryz.prog.info? ty).map (·.size) = some (5 * m)) (hi : ops[i]? = some o) (p j : Nat) (hop : o.op = .load ty (.tmp p)) (hj : waits md ops i j p = true) (q off : Nat) (hFj : F j = Fact.eq (.pointer (some ⟨q, off, none⟩))) (hE : RowG w0 q off R) (hF : F i = AG R) : StepOk Tryz.prog md ops Q F a0 w0 i := by
  refine step_load hi _ _ hop d _ hu hd hs fun a w hb hw hf => ?_
  obtain ⟨t, r, _, h⟩ := hE.up hw
  have e := hf j p hj
  rw [hFj] at e
  exact ⟨q, off, _, e, r, by rw [clN_size, hR _ h], by rw [hF]; exact ⟨t, rfl, h⟩⟩
theorem step_nil0 {P : Program} (hi : ops[i]? = some o) (p : Nat) (hop : o.op = .nilCheck (.tmp p)) (hp : apart ops p = true) {q off : Nat} (h0 : a0.tmps.getD p undef = .pointer (some ⟨q, off, none⟩)) (hF : F i = Fact.eq (.pointer (some ⟨q, off, none⟩))) : StepOk P md ops Q F a0 w0 i := by
  refine step_pure hi fun a w hb _ _ => ⟨.pointer (some ⟨q, off, none⟩), ?_, by rw [hF]; exact rfl⟩
  have e := (based_at hb p hp).trans h0
  simp [execOp, hop, e]
theorem step_asgf {P : Program} (hi : ops[i]? = some o) (p j : Nat) (hop : o.op = .assign (.tmp p)) (hj : waits md ops i j p = true) {v : Value} (hFj : F j = Fact.eq v) (hF : F i = Fact.eq v) : StepOk P md ops Q F a0 w0 i := by
  refine step_pure hi fun a w _ _ hf => ⟨v, ?_, by rw [hF]; exact rfl⟩
  have e := hf j p hj
  rw [hFj] at e
  have e' : a.eval (.tmp p) = v := e
  simp [execOp, hop, e']
theorem run_idx16 (w : World) (q n : Nat) (hn : n < 16) : (Instr.indexAt 193 (.pointer (some ⟨q, 0, none⟩)) (.int .i64 (n : Int))).run Tryz.prog w = .ok (.pointer (some ⟨q, 20 * n, none⟩)) w := by
  have h1 : (0 : Int) ≤ (n : Int) ∧ (n : Int) < 16 := by omega
  simp [go_sem, h1, Nat.mul_comm]
theorem region_newG (ty : TypeId) (k jA jV pA pV m : Nat) (o1 : Oper) (F : Nat → Fact) (R : List (Nat → Int) → Prop) (hR : ∀ es, R es → es.length = m) (hT : textTail .any draw ops a0.tmps.size k = true) (hdrop : ops.toList.drop k = [o1]) (hd1 : o1.dst = none)
    (hop1 : o1.op = .store ty (.tmp pA) (.tmp pV)) (hs : (Tryz.prog.info? ty).map (·.size) = some (5 * m))
    (qA : decide (jA < k) = true) (qV : decide (jV < k) = true) (wA : writes ops jA pA = true) (wV : writes ops jV pV = true) (FA : F jA = NB w (5 * m)) (FV : F jV = AG R) (steps : ∀ i, i < k → StepOk Tryz.prog .any ops Q F a0 w i)
    (fin : ∀ (vs : Nat → Value) (q : Nat) (W W' : World), vs pA = .pointer (some ⟨q, 0, none⟩) → (∀ i d, decide (i < k) = true → writes ops i d = true → (F i).p (vs d) W) → w.heap.size ≤ q → Below w.heap.size w W' → RowG W' q 0 R → W'.there q 0 (5 * m) → Q .normal (puts vs a0 ops.toList) W') :
    (Code.region id ops draw).wp Tryz.prog Q a0 w := by
  refine region_tail k F (by kernel_rfl) hT steps [] (fun p hp => by cases hp) (fun p hp => by cases hp) fun a W hb hw hF _ => ?_
  have h1 := hF jA pA qA wA
  have h2 := hF jV pV qV wV
  rw [FA] at h1
  rw [FV] at h2
  obtain ⟨_, q, eq, th, hq⟩ := h1
  obtain ⟨es, ev, V⟩ := h2
  have le : (clN es).length = 5 * m := by rw [clN_size, hR _ V]
  rw [hdrop]
  show o1.wp _ a W (fun a' w' => Q .normal a' w') Q
  refine wp_store_mid ty (.tmp pA) (.tmp pV) hop1 q 0 (clN es).toArray eq ev (by show W.there q 0 (clN es).length; rw [le]; exact th) (by show _ = some (clN es).length; rw [le]; exact hs) (clN_one es) ?_
  rw [hd1]
  obtain ⟨vs, hvs⟩ : ∃ vs : Nat → Value, ∀ d, a.tmps.getD d undef = vs d := ⟨_, fun _ => rfl⟩
  show Q .normal a _
  rw [puts_tail hT rfl hb vs hvs]
  refine fin vs q W _ ((hvs pA).symm.trans eq) (fun i d hi hd => by rw [← hvs]; exact hF i d hi hd) hq (below_setCells hq _ _ _ hw) ⟨es, World.rangeAt_setCells_same W q 0 _ (by rw [le]; exact th), by rw [heap_size_setCells]; exact there_lt (by omega) th, V⟩ (World.there_setCells th _ _ _)
theorem region_putG (ty : TypeId) (k jV pD pV m q off : Nat) (o1 : Oper) (F : Nat → Fact) (R : List (Nat → Int) → Prop) (hR : ∀ es, R es → es.length = m) (hm : 0 < m) (hT : textTail .any draw ops a0.tmps.size k = true) (hdrop : ops.toList.drop k = [o1]) (hd1 : o1.dst = none)
    (hop1 : o1.op = .store ty (.tmp pD) (.tmp pV)) (hs : (Tryz.prog.info? ty).map (·.size) = some (5 * m)) (ht : w.there q off (5 * m))
    (hP : ∀ (a : Act) (W : World), Based ops a0 a → (∀ i d, decide (i < k) = true → writes ops i d = true → (F i).p (a.tmps.getD d undef) W) → a.eval (.tmp pD) = .pointer (some ⟨q, off, none⟩))
    (qV : decide (jV < k) = true) (wV : writes ops jV pV = true) (FV : F jV = AG R) (steps : ∀ i, i < k → StepOk Tryz.prog .any ops Q F a0 w i)
    (fin : ∀ (vs : Nat → Value) (W : World) (es : List (Nat → Int)), R es → Below w.heap.size w W → Q .normal (puts vs a0 ops.toList) (W.setCells q off (clN es))) :
    (Code.region id ops draw).wp Tryz.prog Q a0 w := by
  refine region_tail k F (by kernel_rfl) hT steps [] (fun p hp => by cases hp) (fun p hp => by cases hp) fun a W hb hw hF _ => ?_
  have h2 := hF jV pV qV wV
  rw [FV] at h2
  obtain ⟨es, ev, V⟩ := h2
  have le : (clN es).length = 5 * m := by rw [clN_size, hR _ V]
  rw [hdrop]
  show o1.wp _ a W (fun a' w' => Q .normal a' w') Q
  refine wp_store_mid ty (.tmp pD) (.tmp pV) hop1 q off (clN es).toArray (hP a W hb hF) ev (by show W.there q off (clN es).length; rw [le]; exact there_upo (by omega) ht hw) (by show _ = some (clN es).length; rw [le]; exact hs) (clN_one es) ?_
  rw [hd1]
  obtain ⟨vs, hvs⟩ : ∃ vs : Nat → Value, ∀ d, a.tmps.getD d undef = vs d := ⟨_, fun _ => rfl⟩
  show Q .normal a _
  rw [puts_tail hT rfl hb vs hvs]
  exact fin vs W es V hw
end
def m20 (b : Bool) (k : Nat) (y E : Nat → Int) (j : Nat) : Int := if b = true ∧ 5 * k ≤ j ∧ j < 5 * k + 5 then E j else y j
theorem merge20 (w : World) (q k : Nat) (b : Bool) (y E : Nat → Int) (hk : k < 4) (hy : ∀ j, j < 20 → w.cell? ⟨q, j, none⟩ = some (.int .u64 (y j))) (hf : ∀ j, w.frozen? ⟨q, j, none⟩ = false) (bx : ∀ j, j < 20 → 0 ≤ y j ∧ y j < 18446744073709551616) (be : ∀ j, j < 20 → 0 ≤ E j ∧ E j < 18446744073709551616) (h0 : b = true → ∀ j, 5 * k ≤ j → y j = 0) :
    Calls Tryz.prog 170 #[.pointer (some ⟨q, 5 * k, none⟩), ag5 (fun j => E (5 * k + j)), .int .u64 (mask b)] w fun r w' => r = .returned (.tuple #[]) ∧ (∀ j, j < 20 → w'.cell? ⟨q, j, none⟩ = some (.int .u64 (m20 b k y E j))) ∧ (∀ j, w'.frozen? ⟨q, j, none⟩ = false) ∧ ButQ q w w' ∧ ∀ w1 B, Below B w1 w → B ≤ q → Below B w1 w' := by
  have lq : q < w.heap.size := block_lt_of_cell (hy 0 (by omega))
  refine (merge_any w q (5 * k) b (fun j => y (5 * k + j)) (fun j => E (5 * k + j)) (fun j hj => hy _ (by omega)) hf (fun j hj => bx _ (by omega)) (fun j hj => be _ (by omega)) (fun hb j _ => h0 hb _ (by omega))).mono ?_
  rintro r w' ⟨rfl, w1, n1, M⟩
  refine ⟨rfl, fun j hj => ?_, fun j => ?_, ⟨fun g hg hl => (M.only.block g hg).trans (n1.block g hl), by rw [M.only.size]; exact n1.size⟩, fun w2 B hB hq => ?_⟩
  · unfold m20
    by_cases c : 5 * k ≤ j ∧ j < 5 * k + 5
    · have e := M.at5 (j - 5 * k) (by omega)
      rw [show 5 * k + (j - 5 * k) = j by omega] at e
      rw [e]
      unfold mgd
      simp only
      rw [show 5 * k + (j - 5 * k) = j by omega]
      by_cases hb : b = true
      · rw [if_pos hb, if_pos ⟨hb, c⟩]
      · rw [if_neg hb, if_neg (fun h => hb h.1)]
    · rw [if_neg (fun h => c h.2), M.off j (by omega)]
      exact (World.cell?_of_block (a := ⟨q, j, none⟩) (n1.block q lq)).trans (hy j hj)
  · rw [M.fr j]
    exact (World.frozen?_of_block (a := ⟨q, j, none⟩) (n1.block q lq)).trans (hf j)
  · exact (hB.trans (n1.mono (by omega))).trans (M.only.below hq)
end Go.Proofs.YthonlkghkdjagaaGreatDoor
namespace Go.Proofs.YthonlkghkdjagaaGreatDoor
set_option maxRecDepth 100000
open Go Go.RowKit
def flat (es : List (Nat → Int)) (j : Nat) : Int := (es.getD (j / 5) zl5) (j % 5)
theorem clN_flat : ∀ (es : List (Nat → Int)) (j : Nat), j < 5 * es.length → (clN es)[j]? = some (.int .u64 (flat es j))
  | [], j, h => by simp at h
  | e :: es, j, h => by
    show (cl5 e ++ clN es)[j]? = _
    have h : j < 5 * es.length + 5 := by simpa [Nat.mul_add] using h
    by_cases c : j < 5
    · rw [List.getElem?_append_left (by simpa [cl5] using c)]
      obtain rfl | rfl | rfl | rfl | rfl : j = 0 ∨ j = 1 ∨ j = 2 ∨ j = 3 ∨ j = 4 := by omega
      all_goals rfl
    · rw [List.getElem?_append_right (by simp [cl5]; omega)]
      have e1 : (cl5 e).length = 5 := rfl
      rw [e1, clN_flat es (j - 5) (by omega)]
      unfold flat
      rw [show j / 5 = (j - 5) / 5 + 1 by omega, show (j - 5) % 5 = j % 5 by omega]
      rfl
theorem row_flat {W : World} {q o : Nat} {es : List (Nat → Int)} (h : W.rangeAt q o (clN es)) {n : Nat} (hl : es.length = n) (j : Nat) (hj : j < 5 * n) : W.cell? ⟨q, o + j, none⟩ = some (.int .u64 (flat es j)) := h j _ (clN_flat es j (by omega))
theorem flat_row {W : World} {q : Nat} {es : List (Nat → Int)} {n : Nat} (hl : es.length = n) (h : ∀ j, j < 5 * n → W.cell? ⟨q, j, none⟩ = some (.int .u64 (flat es j))) : W.rangeAt q 0 (clN es) := by
  intro j v hv
  have hj : j < 5 * n := by
    have := (List.getElem?_eq_some_iff.1 hv).1
    rw [clN_size] at this
    omega
  rw [clN_flat es j (by omega)] at hv
  rw [Nat.zero_add, h j hj, hv]
theorem flat_bd : ∀ {es : List (Nat → Int)} {As : List Int}, IsN es As → ∀ j, j < 5 * es.length → 0 ≤ flat es j ∧ flat es j < 18446744073709551616
  | [], _, _, j, h => by simp at h
  | e :: es, A :: As, k, j, h => by
    have h : j < 5 * es.length + 5 := by simpa [Nat.mul_add] using h
    by_cases c : j < 5
    · have e0 : flat (e :: es) j = e j := by
        unfold flat
        rw [show j / 5 = 0 by omega, show j % 5 = j by omega]
        rfl
      have := k.1.1 j c
      rw [e0]
      omega
    · have e0 : flat (e :: es) j = flat es (j - 5) := by
        unfold flat
        rw [show j / 5 = (j - 5) / 5 + 1 by omega, show (j - 5) % 5 = j % 5 by omega]
        rfl
      rw [e0]
      exact flat_bd k.2 (j - 5) (by omega)
  | _ :: _, [], k, _, _ => k.elim
theorem Ext.bd {es : List (Nat → Int)} {q : Int × Int} (h : Ext es q) (j : Nat) (hj : j < 20) : 0 ≤ flat es j ∧ flat es j < 18446744073709551616 := by
  have l := h.len
  obtain ⟨X, Y, Z, T, h, _⟩ := h
  exact flat_bd h j (by omega)
def atY (es : List (Nat → Int)) (d k j : Nat) : Int := if d < k then flat (prt es d) j else 0
theorem atY_step (es : List (Nat → Int)) (d k : Nat) (b : Bool) (hb : b = decide (k = d)) : m20 b 3 (m20 b 2 (m20 b 1 (m20 b 0 (atY es d k) (flat (prt es k))) (flat (prt es k))) (flat (prt es k))) (flat (prt es k)) = fun j => if j < 20 then atY es d (k + 1) j else atY es d k j := by
  funext j
  unfold m20 atY
  by_cases c : k = d
  · subst c
    have hb : b = true := by simpa using hb
    subst hb
    simp only [true_and]
    repeat' split
    all_goals first | rfl | (exfalso; omega)
  · have hb : b = false := by simpa [c] using hb
    subst hb
    simp only [Bool.false_eq_true, false_and, if_false]
    repeat' split
    all_goals first | rfl | (exfalso; omega)
end Go.Proofs.YthonlkghkdjagaaGreatDoor
namespace Go.Proofs.YthonlkghkdjagaaGreatDoor
set_option maxRecDepth 100000
open Go Go.RowKit
structure AtI (w wr : World) (q4 q5 d k : Nat) (es : List (Nat → Int)) : Prop where
  n : Below w.heap.size w wr
  tr : wr.there q4 0 20
  y : ∀ j, j < 20 → wr.cell? ⟨q5, j, none⟩ = some (.int .u64 (atY es d k j))
  fr : ∀ j, wr.frozen? ⟨q5, j, none⟩ = false
theorem msk_is {k d x : Nat} (x16 : x < 16) (x0 : x = 0 ↔ k = d) : IntKind.u64.wrap (-(IntKind.u64.wrap ((x : Int) - 1) / 9223372036854775808)) = mask (decide (k = d)) := by
  by_cases h : k = d
  · have e := x0.2 h
    subst e
    rw [decide_eq_true h, IntKind.wrap_u64, IntKind.wrap_u64]
    decide
  · have e : x ≠ 0 := fun h' => h (x0.1 h')
    rw [decide_eq_false h, IntKind.wrap_u64, IntKind.wrap_u64]
    have e1 : ((x : Int) - 1) % 18446744073709551616 = (x : Int) - 1 := by omega
    have e2 : ((x : Int) - 1) / 9223372036854775808 = 0 := by omega
    rw [e1, e2]
    decide
set_option maxHeartbeats 4000000 in
theorem at_any (w : World) (p d : Nat) (es : List (Nat → Int)) (P0 : Int × Int) (hM : MulL es 16 P0) (hr : w.rangeAt p 0 (clN es)) (lp : p < w.heap.size) (hd : d < 16) :
    Calls Tryz.prog 145 #[.pointer (some ⟨p, 0, none⟩), .int .u64 (d : Int)] w fun r w' => ∃ ts, r = .returned (agN ts) ∧ Ext ts (mlP d P0) ∧ Below w.heap.size w w' := by
  have m1 : Below w.heap.size w (w.alloc zX) := (Below.refl _ _).alloc (Nat.le_refl _) _
  have s1 : (w.alloc zX).heap.size = w.heap.size + 1 := by simp
  have T1 : (w.alloc zX).there w.heap.size 0 20 := there_new w _ _
  have m2 : Below (w.alloc zX).heap.size (w.alloc zX) ((w.alloc zX).alloc zX) := (Below.refl _ _).alloc (Nat.le_refl _) _
  have T2 := there_up (by omega) T1 m2
  have F2 : ((w.alloc zX).alloc zX).there (w.heap.size + 1) 0 20 := by
    have := there_new (w.alloc zX) [.int .u64 0, .int .u64 0, .int .u64 0, .int .u64 0, .int .u64 0, .int .u64 0, .int .u64 0, .int .u64 0, .int .u64 0, .int .u64 0, .int .u64 0, .int .u64 0, .int .u64 0, .int .u64 0, .int .u64 0, .int .u64 0, .int .u64 0, .int .u64 0, .int .u64 0, .int .u64 0] 190
    rw [s1] at this
    exact this
  have hb2 : ((w.alloc zX).alloc zX).heap[w.heap.size + 1]? = some zX := by
    have := heap_alloc_last (w.alloc zX) zX
    rwa [s1] at this
  have Y2 : ∀ j, j < 20 → ((w.alloc zX).alloc zX).cell? ⟨w.heap.size + 1, j, none⟩ = some (.int .u64 0) := by
    intro j hj
    have z : clN [zl5, zl5, zl5, zl5] = [.int .u64 0, .int .u64 0, .int .u64 0, .int .u64 0, .int .u64 0, .int .u64 0, .int .u64 0, .int .u64 0, .int .u64 0, .int .u64 0, .int .u64 0, .int .u64 0, .int .u64 0, .int .u64 0, .int .u64 0, .int .u64 0, .int .u64 0, .int .u64 0, .int .u64 0, .int .u64 0] := rfl
    have := clN_flat [zl5, zl5, zl5, zl5] j (by simpa using hj)
    have e : flat [zl5, zl5, zl5, zl5] j = 0 := by
      unfold flat
      obtain h | h | h | h : j / 5 = 0 ∨ j / 5 = 1 ∨ j / 5 = 2 ∨ j / 5 = 3 := by omega
      all_goals rw [h]; rfl
    rw [e, z] at this
    unfold World.cell?
    simp only
    rw [hb2]
    simpa using this
  have F2' : ∀ j, ((w.alloc zX).alloc zX).frozen? ⟨w.heap.size + 1, j, none⟩ = false := by
    intro j
    unfold World.frozen?
    simp only
    rw [hb2]
    rfl
  have N2 := nxt m1 m2
  have I0 : AtI w ((w.alloc zX).alloc zX) w.heap.size (w.heap.size + 1) d 0 es := ⟨N2, T2, fun j hj => by rw [Y2 j hj]; unfold atY; rw [if_neg (by omega)], F2'⟩
  clear Y2 F2 F2' hb2 T1 T2 m1 m2 s1 N2
  have hr' := hide hr
  clear hr
  go_enter Tryz.func145, Tryz.ntmps145
  go_upto_region 2 with fail
  obtain ⟨wq, hwq⟩ : ∃ W, W = (w.alloc zX).alloc zX := ⟨_, rfl⟩
  rw [← hwq] at I0
  change Code.wp _ _ _ _ ((w.alloc zX).alloc zX)
  rw [← hwq]
  clear hwq
  go_wp2
  go_loopw [11] (fun i wr => ∃ k : Nat, k ≤ 16 ∧ i = .int .i64 k ∧ AtI w wr w.heap.size (w.heap.size + 1) d k es) (fun i _ => 16 - (intOf i).toNat)
  case atStart => exact ⟨0, by omega, rfl, I0⟩
  case round =>
    clear I0
    obtain ⟨k, hk, rfl, I⟩ := hrel
    have l4 : w.heap.size < wr.heap.size := there_lt (by omega) I.tr
    have l5 : w.heap.size + 1 < wr.heap.size := block_lt_of_cell (I.y 0 (by omega))
    by_cases hlt : k < 16
    · have k5 : (k : Int) < 16 := by omega
      have MR : RowG wr p (20 * k) (fun t => t = prt es k) := by
        have h : RowG w p (20 * k) (fun t => t = prt es k) := ⟨prt es k, row_part hr'.out hM.1 hlt, lp, rfl⟩
        obtain ⟨t, r, l, h⟩ := h
        exact ⟨t, fun j v hv => (World.cell?_of_block (a := ⟨p, 20 * k + j, none⟩) (I.n.block p l)).trans (r j v hv), by omega, h⟩
      go_upto_region 4 with fail
      refine region_newG 190 6 4 3 7 16 4 _ (fun i => [Fact.eq (.int .i64 k), Fact.eq (.pointer (some ⟨p, 0, none⟩)), Fact.eq (.pointer (some ⟨p, 20 * k, none⟩)), AG (fun t => t = prt es k), NB wr 20, Fact.eq (.int .i64 k)].getD i Fact.no) (fun t => t = prt es k) (fun t ht => by rw [ht]; exact prt_len hM.1 hlt) (by kernel_rfl) rfl rfl rfl iX (by decide) (by decide) (by kernel_rfl) (by kernel_rfl) rfl rfl ?_ ?_
      · intro i hi
        obtain rfl | rfl | rfl | rfl | rfl | rfl : i = 0 ∨ i = 1 ∨ i = 2 ∨ i = 3 ∨ i = 4 ∨ i = 5 := by omega
        · exact step_mv rfl 11 rfl (by kernel_rfl) rfl rfl
        · exact step_nil0 rfl 9 rfl (by kernel_rfl) rfl rfl
        · refine step_pure rfl fun a W hb _ hf => ⟨.pointer (some ⟨p, 20 * k, none⟩), ?_, rfl⟩
          have e1 := hf 1 14 (by kernel_rfl)
          have e2 := (based_at hb 11 (by kernel_rfl))
          have g1 : a.eval (.tmp 14) = .pointer (some ⟨p, 0, none⟩) := e1
          have g2 : a.eval (.tmp 11) = .int .i64 (k : Int) := e2
          simp [execOp, g1, g2, run_idx16 W p k hlt]
        · exact step_lGf 190 _ 4 _ (fun t ht => by rw [ht]; exact prt_len hM.1 hlt) Tryz.underlying190 rfl iX rfl 15 2 rfl (by kernel_rfl) _ _ rfl MR rfl
        · exact step_newX rfl rfl rfl
        · exact step_asgf rfl 13 0 rfl (by kernel_rfl) rfl rfl
      intro vs q W W' hq hF hql nW RG TG
      have h6 : vs 6 = .int .i64 k := hF 5 6 (by decide) (by kernel_rfl)
      clear hF MR
      obtain ⟨t, rt, lt, rfl⟩ := RG
      obtain ⟨x, hx, x16, x0⟩ := msk_ok k d hlt hd
      simp only [puts, hq, h6, Act.put, List.setIfInBounds_toArray, List.set_cons_succ, List.set_cons_zero]
      have MK := msk_is x16 x0
      have el : (prt es k).length = 4 := prt_len hM.1 hlt
      have bE := (hM.2 k hlt).bd
      have yE : ∀ j, j < 20 → 0 ≤ atY es d k j ∧ atY es d k j < 18446744073709551616 := by
        intro j hj
        unfold atY
        split
        · exact (hM.2 d hd).bd j hj
        · omega
      obtain ⟨b, hb⟩ : ∃ b, b = decide (k = d) := ⟨_, rfl⟩
      have zE : b = true → ∀ j, atY es d k j = 0 := by
        intro h j
        rw [h] at hb
        have : k = d := by simpa using hb.symm
        unfold atY
        rw [if_neg (by omega)]
      have ST := hide (atY_step es d k b hb)
      have y0 : ∀ j, j < 20 → W'.cell? ⟨w.heap.size + 1, j, none⟩ = some (.int .u64 (atY es d k j)) := fun j hj => (World.cell?_of_block (a := ⟨w.heap.size + 1, j, none⟩) (nW.block _ l5)).trans (I.y j hj)
      have f0 : ∀ j, W'.frozen? ⟨w.heap.size + 1, j, none⟩ = false := fun j => (World.frozen?_of_block (a := ⟨w.heap.size + 1, j, none⟩) (nW.block _ l5)).trans (I.fr j)
      have tr0 := there_up (by omega) I.tr nW
      have N0 := I.n.trans (nW.mono (by omega))
      have hne : q ≠ w.heap.size + 1 := by omega
      generalize hY : atY es d k = Y at *
      have rc : ∀ (W : World), W.rangeAt q 0 (clN (prt es k)) → ∀ j, j < 20 → W.cell? ⟨q, j, none⟩ = some (.int .u64 (flat (prt es k) j)) := fun W h j hj => by
        have := row_flat h el j (by omega)
        rwa [Nat.zero_add] at this
      have rcH := hide rc
      clear rc
      have rq := hide rt
      clear rt
      generalize hE : flat (prt es k) = E at *
      have HE := hide hE
      clear hE
      rw [← hb] at MK
      clear hb I nW
      go_upto_region 6 with fail
      clear MK hx x0
      have HYY := hide hY
      clear hY
      have q0 := rcH.out W' rq.out
      have c0 := q0 0 (by omega)
      have c1 := q0 1 (by omega)
      have c2 := q0 2 (by omega)
      have c3 := q0 3 (by omega)
      have c4 := q0 4 (by omega)
      have MG := merge20 W' (w.heap.size + 1) 0 b (Y) E (by omega) y0 f0 yE bE (fun h j hj => zE h j)
      simp only [ag5, Nat.mul_zero, Nat.zero_add] at MG
      have MG' := hide MG
      clear MG y0 f0 q0
      go_wp2_with fail
      refine MG'.out.mono ?_
      rintro r V1 ⟨rfl, y1, f1, B1, n1⟩
      clear MG' c0 c1 c2 c3 c4
      have y0 := y1
      have f0 := f1
      have rq := hide (show (V1).rangeAt q 0 (clN (prt es k)) from fun j v hv => (World.cell?_of_block (a := ⟨q, 0 + j, none⟩) (B1.1 q hne lt)).trans (rq.out j v hv))
      replace lt := Nat.lt_of_lt_of_le lt B1.2
      have tr0 := there_but (by omega) tr0 B1 (by omega)
      have N0 := n1 w w.heap.size N0 (by omega)
      have yE : ∀ j, j < 20 → 0 ≤ m20 b 0 (Y) E j ∧ m20 b 0 (Y) E j < 18446744073709551616 := by
        intro j hj
        unfold m20
        split
        · exact bE j hj
        · exact yE j hj
      clear y1 f1 B1 n1
      have z1 : b = true → ∀ j, 5 * 1 ≤ j → m20 b 0 (Y) E j = 0 := by
        intro h j hj
        unfold m20
        rw [if_neg (by omega)]
        exact zE h j
      have q1 := rcH.out V1 rq.out
      have c0 := q1 5 (by omega)
      have c1 := q1 6 (by omega)
      have c2 := q1 7 (by omega)
      have c3 := q1 8 (by omega)
      have c4 := q1 9 (by omega)
      have MG := merge20 V1 (w.heap.size + 1) 1 b (m20 b 0 (Y) E) E (by omega) y0 f0 yE bE (fun h j hj => z1 h j hj)
      simp only [ag5, Nat.reduceMul, Nat.reduceAdd, Nat.add_zero] at MG
      have MG' := hide MG
      clear MG y0 f0 q1
      go_wp2_with fail
      refine MG'.out.mono ?_
      rintro r V2 ⟨rfl, y1, f1, B1, n1⟩
      clear MG' c0 c1 c2 c3 c4
      have y0 := y1
      have f0 := f1
      have rq := hide (show (V2).rangeAt q 0 (clN (prt es k)) from fun j v hv => (World.cell?_of_block (a := ⟨q, 0 + j, none⟩) (B1.1 q hne lt)).trans (rq.out j v hv))
      replace lt := Nat.lt_of_lt_of_le lt B1.2
      have tr0 := there_but (by omega) tr0 B1 (by omega)
      have N0 := n1 w w.heap.size N0 (by omega)
      have yE : ∀ j, j < 20 → 0 ≤ m20 b 1 (m20 b 0 (Y) E) E j ∧ m20 b 1 (m20 b 0 (Y) E) E j < 18446744073709551616 := by
        intro j hj
        unfold m20
        split
        · exact bE j hj
        · exact yE j hj
      clear y1 f1 B1 n1
      have z2 : b = true → ∀ j, 5 * 2 ≤ j → m20 b 1 (m20 b 0 (Y) E) E j = 0 := by
        intro h j hj
        unfold m20
        rw [if_neg (by omega)]
        exact z1 h j (by omega)
      have q2 := rcH.out V2 rq.out
      have c0 := q2 10 (by omega)
      have c1 := q2 11 (by omega)
      have c2 := q2 12 (by omega)
      have c3 := q2 13 (by omega)
      have c4 := q2 14 (by omega)
      have MG := merge20 V2 (w.heap.size + 1) 2 b (m20 b 1 (m20 b 0 (Y) E) E) E (by omega) y0 f0 yE bE (fun h j hj => z2 h j hj)
      simp only [ag5, Nat.reduceMul, Nat.reduceAdd, Nat.add_zero] at MG
      have MG' := hide MG
      clear MG y0 f0 q2
      go_wp2_with fail
      refine MG'.out.mono ?_
      rintro r V3 ⟨rfl, y1, f1, B1, n1⟩
      clear MG' c0 c1 c2 c3 c4
      have y0 := y1
      have f0 := f1
      have rq := hide (show (V3).rangeAt q 0 (clN (prt es k)) from fun j v hv => (World.cell?_of_block (a := ⟨q, 0 + j, none⟩) (B1.1 q hne lt)).trans (rq.out j v hv))
      replace lt := Nat.lt_of_lt_of_le lt B1.2
      have tr0 := there_but (by omega) tr0 B1 (by omega)
      have N0 := n1 w w.heap.size N0 (by omega)
      have yE : ∀ j, j < 20 → 0 ≤ m20 b 2 (m20 b 1 (m20 b 0 (Y) E) E) E j ∧ m20 b 2 (m20 b 1 (m20 b 0 (Y) E) E) E j < 18446744073709551616 := by
        intro j hj
        unfold m20
        split
        · exact bE j hj
        · exact yE j hj
      clear y1 f1 B1 n1
      have z3 : b = true → ∀ j, 5 * 3 ≤ j → m20 b 2 (m20 b 1 (m20 b 0 (Y) E) E) E j = 0 := by
        intro h j hj
        unfold m20
        rw [if_neg (by omega)]
        exact z2 h j (by omega)
      have q3 := rcH.out V3 rq.out
      have c0 := q3 15 (by omega)
      have c1 := q3 16 (by omega)
      have c2 := q3 17 (by omega)
      have c3 := q3 18 (by omega)
      have c4 := q3 19 (by omega)
      have MG := merge20 V3 (w.heap.size + 1) 3 b (m20 b 2 (m20 b 1 (m20 b 0 (Y) E) E) E) E (by omega) y0 f0 yE bE (fun h j hj => z3 h j hj)
      simp only [ag5, Nat.reduceMul, Nat.reduceAdd, Nat.add_zero] at MG
      have MG' := hide MG
      clear MG y0 f0 q3
      go_wp2_with fail
      refine MG'.out.mono ?_
      rintro r V4 ⟨rfl, y1, f1, B1, n1⟩
      clear MG' c0 c1 c2 c3 c4
      have y0 := y1
      have f0 := f1
      have rq := hide (show (V4).rangeAt q 0 (clN (prt es k)) from fun j v hv => (World.cell?_of_block (a := ⟨q, 0 + j, none⟩) (B1.1 q hne lt)).trans (rq.out j v hv))
      replace lt := Nat.lt_of_lt_of_le lt B1.2
      have tr0 := there_but (by omega) tr0 B1 (by omega)
      have N0 := n1 w w.heap.size N0 (by omega)
      have yE : ∀ j, j < 20 → 0 ≤ m20 b 3 (m20 b 2 (m20 b 1 (m20 b 0 (Y) E) E) E) E j ∧ m20 b 3 (m20 b 2 (m20 b 1 (m20 b 0 (Y) E) E) E) E j < 18446744073709551616 := by
        intro j hj
        unfold m20
        split
        · exact bE j hj
        · exact yE j hj
      clear y1 f1 B1 n1
      have z4 : b = true → ∀ j, 5 * 4 ≤ j → m20 b 3 (m20 b 2 (m20 b 1 (m20 b 0 (Y) E) E) E) E j = 0 := by
        intro h j hj
        unfold m20
        rw [if_neg (by omega)]
        exact z3 h j (by omega)
      have HH := hide (show AtI w V4 w.heap.size (w.heap.size + 1) d (k + 1) es from by
        refine ⟨N0, tr0, fun j hj => ?_, f0⟩
        rw [y0 j hj]
        have e := congrFun ST.out j
        simp only [if_pos hj] at e
        rw [e])
      clear y0 f0 yE z1 z2 z3 z4 zE bE ST tr0 N0 rq rcH
      go_wp2
      go_roundw
      case rel => exact ⟨k + 1, by omega, by go_num, HH.out⟩
      case measure => simp [intOf]; omega
    · obtain rfl : k = 16 := by omega
      have el : (prt es d).length = 4 := prt_len hM.1 hd
      have RG : RowG wr (w.heap.size + 1) 0 (fun t => t = prt es d) := ⟨prt es d, flat_row el (fun j hj => by
        rw [I.y j hj]
        unfold atY
        rw [if_pos hd]), l5, rfl⟩
      go_upto_region 11 with fail
      refine region_putG 190 1 0 4 51 4 w.heap.size 0 _ (fun i => [AG (fun t => t = prt es d)].getD i Fact.no) (fun t => t = prt es d) (fun t ht => by rw [ht]; exact el) (by omega) (by kernel_rfl) rfl rfl rfl iX I.tr (fun a W hb _ => based_at hb 4 (by kernel_rfl)) (by decide) (by kernel_rfl) rfl ?_ ?_
      · intro i hi
        obtain rfl : i = 0 := by omega
        exact step_lG 190 _ 4 _ (fun t ht => by rw [ht]; exact el) Tryz.underlying190 rfl iX rfl 5 rfl (by kernel_rfl) _ _ rfl RG rfl
      intro vs W t ht nW
      subst ht
      have th := there_up (by omega) I.tr nW
      have lz : (clN (prt es d)).length = 20 := by rw [clN_size, el]
      have rg : (W.setCells w.heap.size 0 (clN (prt es d))).rangeAt w.heap.size 0 (clN (prt es d)) := World.rangeAt_setCells_same W _ 0 _ (by rw [lz]; exact th)
      have NS : Below w.heap.size w (W.setCells w.heap.size 0 (clN (prt es d))) := below_setCells (Nat.le_refl _) _ _ _ (I.n.trans (nW.mono (by omega)))
      have EX := hM.2 d hd
      generalize W.setCells w.heap.size 0 (clN (prt es d)) = W2 at *
      simp only [puts, Act.put, List.setIfInBounds_toArray, List.set_cons_succ, List.set_cons_zero]
      clear RG I th
      go_wp2
      obtain ⟨fs, hfs⟩ := uX
      exact bodyPost_ret (v := agN (prt es d)) (results_cell_mid Tryz.results145 _ _ w.heap.size (clN (prt es d)) _ rfl rg hfs rfl (by rw [lz]; exact iX)) rfl ⟨prt es d, rfl, EX, NS⟩
end Go.Proofs.YthonlkghkdjagaaGreatDoor
