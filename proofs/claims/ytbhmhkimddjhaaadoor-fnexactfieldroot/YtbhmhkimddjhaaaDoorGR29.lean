import Derived.Test.YtbhmhkimddjhaaaDoorGR28
import Derived.Test.YtbhmhkimddjhaaaDoorGR22
/-
  The model's l2Inv.
-/
namespace Go.Proofs.YtbhmhkimddjhaaaDoor
set_option maxRecDepth 100000
open Go Go.RowKit

/-- P - 2. -/
def eIv : Nat := 57896044618658097711785492504343953926634992332820282019728792003956564819947
theorem en_prime : enters Tryd.prog 112 = true := by kernel_rfl
theorem en_l1Sub : enters Tryd.prog 97 = true := by kernel_rfl
theorem en_power : enters Tryd.prog 106 = true := by kernel_rfl

theorem pbytes_cn : Canon pbytes 57896044618658097711785492504343953926634992332820282019728792003956564819949 := ⟨pbytes_byt, pbytes_val, fun _ => by decide⟩
theorem canon_ge1 {xs : List Int} {v : Int} (h : Canon xs v) (hv : 0 < v) : 1 ≤ xs.length := by
  rcases Nat.eq_zero_or_pos xs.length with e | e
  · rw [List.length_eq_zero_iff] at e
    subst e
    have := h.2.1
    simp [bval] at this
    omega
  · omega
theorem canon_nat {ys : List Int} {n : Nat} (h : Canon ys (n : Int)) : (bval ys).toNat = n := by rw [h.2.1]; rfl
theorem pow_mod {x y : Int} (h : x % PP = y % PP) : ∀ e : Nat, x ^ e % PP = y ^ e % PP
  | 0 => by simp
  | e + 1 => by rw [Int.pow_succ, Int.pow_succ]; exact mod_mul (pow_mod h e) h
/-- The sixteen limbs that a function has left in its result's block. -/
theorem results_cell_mid {P : Program} {fn : Func} {p : Tmp} {ty : TypeId} (h : fn.results = #[.cell p ty]) (tmps : Array Value) (w : World) (g : Nat) (cs : List Value) (d : TypeDesc)
    (hp : tmps.getD p undef = .pointer (some ⟨g, 0, none⟩)) (hc : w.rangeAt g 0 cs) (hu : P.underlying ty = some d) (hd : d.isRow = true) (hi : (P.info? ty).map (·.size) = some cs.length) :
    (results fn tmps).run P w = .ok (.agg cs.toArray) w := by
  have hp' : tmps[p]?.getD undef = .pointer (some ⟨g, 0, none⟩) := by simpa using hp
  simp [results, h, hp', asAddr, run_loadVar_mid w g 0 ty cs d hc hu hd hi]

def fIv (A : Int) : Nat → Fact := fun i => [EL A, RW (fun xs => Canon xs 57896044618658097711785492504343953926634992332820282019728792003956564819949), RW (fun xs => xs = [2]), RW (fun xs => Canon xs (eIv : Int)), EL (A ^ eIv)].getD i Fact.no

set_option maxHeartbeats 1000000 in
theorem l2Inv_any (w : World) (f : Nat → Int) (hf : L16 f) :
    Calls Tryd.prog 143 #[ag16 f] w fun r w' => ∃ t, r = .returned (ag16 t) ∧ L16 t ∧ s16 t 16 % PP = s16 f 16 ^ eIv % PP ∧ Below w.heap.size w w' := by
  show Calls Tryd.prog 143 #[.agg (a16 f)] w fun r w' => ∃ t, r = .returned (.agg (a16 t)) ∧ L16 t ∧ s16 t 16 % PP = s16 f 16 ^ eIv % PP ∧ Below w.heap.size w w'
  have B0 : Blk (w.alloc (.cells (a16 f) 70)) w.heap.size .i64 (ls16 f) := blk16 w 70 f
  have n0 : Below w.heap.size w (w.alloc (.cells (a16 f) 70)) := (Below.refl _ _).alloc (Nat.le_refl _) _
  have s0 : (w.alloc (.cells (a16 f) 70)).heap.size = w.heap.size + 1 := by simp
  obtain ⟨A, hA⟩ : ∃ A, A = a16 f := ⟨_, rfl⟩
  rw [← hA] at B0 n0 s0 ⊢
  clear hA
  go_enter Tryd.func143, Tryd.ntmps143
  go_upto_region 1 with fail
  generalize w.alloc (.cells A 70) = wa at *
  have B1 := blk_zObj wa
  have n1 : Below wa.heap.size wa (wa.alloc zObj) := (Below.refl _ _).alloc (Nat.le_refl _) _
  rw [s0] at B1
  generalize wa.alloc zObj = wr at *
  have RA : R16 wr w.heap.size f := R16.ofBlk (B0.up n1)
  have RB := R16.ofBlk B1
  have N := nxt n0 n1
  clear B0 B1 n0 n1 s0
  refine region_store 5 _ (fIv (s16 f 16)) (by kernel_rfl) (by kernel_rfl) rfl rfl ?_ ?_
  · intro i hi
    obtain rfl | rfl | rfl | rfl | rfl : i = 0 ∨ i = 1 ∨ i = 2 ∨ i = 3 ∨ i = 4 := by omega
    · exact step_el rfl 70 1 rfl Go.Proofs.YtbhmhkimddjhaaaDoor.u50 i50 (by kernel_rfl) w.heap.size 0 rfl (s16 f 16) (Elt.ofR RA hf rfl) rfl
    · refine step_call rfl _ _ _ rfl en_prime fun a W _ _ _ => (l2Prime_any W).mono ?_
      rintro r W' ⟨rfl, B, n⟩
      exact ⟨_, rfl, n, pbytes, _, _, _, rfl, B.own0, pbytes_cn⟩
    · refine step_grow rfl fun a W _ _ _ => ⟨.slice (some ⟨W.heap.size, 0, none⟩) 1 1, W.alloc (.cells #[.int .u8 2] 5), ?_, (Below.refl _ _).alloc (Nat.le_refl _) _, [2], _, _, W.heap.size, rfl, Blk.own0 ⟨5, by rw [heap_alloc_last]; rfl⟩, rfl⟩
      go_simp
    · refine step_call rfl _ _ _ rfl en_l1Sub fun a W _ _ hF => ?_
      obtain ⟨xs, b, c, g, e1, o1, C⟩ := hF 1 4 (by kernel_rfl)
      obtain ⟨ys, b', c', g', e2, o2, rfl⟩ := hF 2 5 (by kernel_rfl)
      show Calls Tryd.prog 97 #[a.tmps.getD 4 undef, a.tmps.getD 5 undef] W _
      rw [e1, e2]
      have L : xs.length ≤ 64 := C.len (by decide)
      have P1 : 1 ≤ xs.length := canon_ge1 C (by decide)
      have E2 : bval [2] = 2 := by decide
      refine (l1Sub_any W g g' b b' c c' xs [2] o1.rd o2.rd C.1 (byt_one (by omega) (by omega)) (by omega) (by simpa using P1) (by rw [C.2.1, E2]; decide)).mono ?_
      rintro r W' ⟨zs, D, ⟨a', c', g', rfl, o', _, _, _⟩, n'⟩
      rw [C.2.1, E2] at D
      exact ⟨_, rfl, n', zs, _, _, _, rfl, o', D⟩
    · refine step_call rfl _ _ _ rfl en_power fun a W _ _ hF => ?_
      obtain ⟨t, e1, L1, V1⟩ := hF 0 3 (by kernel_rfl)
      obtain ⟨ys, b', c', g', e2, o2, C⟩ := hF 3 6 (by kernel_rfl)
      show Calls Tryd.prog 106 #[a.tmps.getD 3 undef, a.tmps.getD 6 undef] W _
      rw [e1, e2]
      have L : ys.length ≤ 4096 := by
        have := C.len (n := 64) (by decide)
        omega
      refine (l2Power_any W t g' b' c' ys L1 o2.rd C.1 L).mono ?_
      rintro r W' ⟨u, rfl, LT, VT, n'⟩
      refine ⟨_, rfl, n', u, rfl, LT, ?_⟩
      rw [VT, canon_nat C]
      exact pow_mod V1 _
  · intro a W hb hw hF
    obtain ⟨t, e1, L1, V1⟩ := hF 4 7 (by kernel_rfl)
    have RB' := RB.up hw
    refine wp_store_mid 70 (.tmp 2) (.tmp 7) rfl (w.heap.size + 1) 0 (a16 t) (based_at hb 2 (by kernel_rfl)) e1 (by rw [a16_size]; exact RB'.2) (by rw [a16_size]; exact i50) (a16_one t) ?_
    obtain ⟨vs, hvs⟩ : ∃ vs : Nat → Value, ∀ d, a.tmps.getD d undef = vs d := ⟨_, fun _ => rfl⟩
    have RS := R16.set t RB'.2
    have NS : Below w.heap.size w (W.setCells (w.heap.size + 1) 0 (a16 t).toList) := below_setCells (by omega) _ _ _ (nxt N hw)
    generalize W.setCells (w.heap.size + 1) 0 (a16 t).toList = W' at *
    rw [puts_of (md := .any) (k := 5) (by kernel_rfl) rfl hb vs hvs]
    clear hb hF hvs e1 RB' hw
    simp only [puts]
    go_wp2
    exact bodyPost_ret (v := .agg (a16 t)) (results_cell_mid Tryd.results143 _ _ (w.heap.size + 1) (a16 t).toList (.array 16 2) rfl RS.1 Go.Proofs.YtbhmhkimddjhaaaDoor.u50 rfl (by rw [show (a16 t).toList.length = 16 by simp [ls16]]; exact i50)) rfl ⟨t, rfl, L1, V1, NS⟩
end Go.Proofs.YtbhmhkimddjhaaaDoor
