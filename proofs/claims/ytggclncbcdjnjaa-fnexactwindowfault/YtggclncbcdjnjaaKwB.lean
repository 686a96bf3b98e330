
/-
  Windows: the model's fault.
-/
import Derived.Test.YtggclncbcdjnjaaKwA
import Derived.Test.YtggclncbcdjnjaaSm8
import Derived.Deep.QuietTactic
import Derived.BigQuiet
namespace Go.Proofs.Ytggclncbcdjnjaa
open Go Go.RowKit

/-- The id at a place has its length, and none ahead of it is the same. -/
def IdAt (ms : List Mrk) (i : Nat) : Prop := (ms.getD i mrk0).id.length = 32 ∧ ∀ j, j < i → (ms.getD i mrk0).id ≠ (ms.getD j mrk0).id
def IdOk (ms : List Mrk) : Prop := ∀ i, i < ms.length → IdAt ms i
def idkD (ms : List Mrk) : Decidable (IdOk ms) := by unfold IdOk IdAt; infer_instance
/-- What is wrong with a window. -/
def wfV (wd : Int) (ms : List Mrk) : Int := if wdO wd = false then 1 else if 64 < ms.length then 2 else @ite _ (¬ IdOk ms) (@instDecidableNot _ (idkD ms)) 3 (if utA ms = true then 4 else 0)
theorem wfV1 {wd : Int} {ms : List Mrk} (h : wdO wd = false) : wfV wd ms = 1 := by unfold wfV; rw [if_pos h]
theorem wfV2 {wd : Int} {ms : List Mrk} (h : wdO wd ≠ false) (l : 64 < ms.length) : wfV wd ms = 2 := by unfold wfV; rw [if_neg h, if_pos l]
theorem wfV3 {wd : Int} {ms : List Mrk} (h : wdO wd ≠ false) (l : ¬ 64 < ms.length) (i : ¬ IdOk ms) : wfV wd ms = 3 := by unfold wfV; rw [if_neg h, if_neg l, if_pos i]
theorem wfV4 {wd : Int} {ms : List Mrk} (h : wdO wd ≠ false) (l : ¬ 64 < ms.length) (i : IdOk ms) (u : utA ms = true) : wfV wd ms = 4 := by unfold wfV; rw [if_neg h, if_neg l, if_neg (fun x => x i), if_pos u]
theorem wfV0 {wd : Int} {ms : List Mrk} (h : wdO wd ≠ false) (l : ¬ 64 < ms.length) (i : IdOk ms) (u : utA ms = false) : wfV wd ms = 0 := by unfold wfV; rw [if_neg h, if_neg l, if_neg (fun x => x i), if_neg (by rw [u]; decide)]
set_option maxRecDepth 100000 in
set_option maxHeartbeats 8000000 in
theorem specWf_any (w : World) (wd : Int) (g : Nat) (a : Option Addr) (c : Nat) (ms : List Mrk) (ps : List Plm) (hr : RdK w g a ms ps) (hb : ∀ i, i < ms.length → Byt (ms.getD i mrk0).id) :
    Calls Try.prog 5 #[.agg #[.int .i64 wd, .slice a ms.length c]] w fun e w' => e = .returned (.int .i64 (wfV wd ms)) ∧ Below w.heap.size w w' := by
  have n1 : Below w.heap.size w (w.alloc (.cells #[.int .i64 wd, .slice a ms.length c] 29)) := (Below.refl _ _).alloc (Nat.le_refl _) _
  by_cases h0 : wdO wd = false
  · have hv := hide (wfV1 (ms := ms) h0)
    have N1 := hide n1
    unfold wdO at h0
    by_cases hl : wd < 0
    · clear h0 hr hb n1
      go_enter Try.func5, Try.ntmps5
      go_wp2
      go_ret
      exact ⟨by rw [hv.out]; rfl, N1.out⟩
    · have hg : 86400 < wd := by
        have : ¬ (0 ≤ wd ∧ wd ≤ 86400) := by simpa using h0
        omega
      clear h0 hr hb n1
      go_enter Try.func5, Try.ntmps5
      go_wp2
      go_ret
      exact ⟨by rw [hv.out]; rfl, N1.out⟩
  have hw0 : 0 ≤ wd ∧ wd ≤ 86400 := by
    unfold wdO at h0
    simpa using h0
  by_cases h1 : 64 < ms.length
  · have hv := hide (wfV2 h0 h1)
    have N1 := hide n1
    have t1 : (64 : Int) < (ms.length : Int) := by omega
    clear h0 hr hb n1 h1
    go_enter Try.func5, Try.ntmps5
    go_wp2
    go_ret
    exact ⟨by rw [hv.out]; rfl, N1.out⟩
  have P0 : RwC (w.alloc (.cells #[.int .i64 wd, .slice a ms.length c] 29)) w.heap.size [.int .i64 wd, .slice a ms.length c] 29 := RwC.new w _ _
  have c1 : (w.alloc (.cells #[.int .i64 wd, .slice a ms.length c] 29)).cell? ⟨w.heap.size, 1, none⟩ = some (.slice a ms.length c) := P0.cell 1
  have hr1 := hr.up n1
  have V3 := hide (fun i => wfV3 h0 h1 i)
  have V4 := hide (fun i u => wfV4 h0 h1 i u)
  have V0 := hide (fun i u => wfV0 h0 h1 i u)
  generalize wfV wd ms = R at *
  have N1 := hide n1
  have HB := hide hb
  have t1 : ¬ (64 : Int) < (ms.length : Int) := by omega
  clear P0 hr n1 hb h0
  go_enter Try.func5, Try.ntmps5
  go_upto_region 3 with fail
  generalize w.alloc (.cells #[.int .i64 wd, .slice a ms.length c] 29) = wa at *
  go_wp2
  go_loopw [3, 4] (fun i _ wr => ∃ (k n : Nat), k ≤ ms.length ∧ i = .int .i64 k ∧ wr = wa.drewN n ∧ ∀ i, i < k → IdAt ms i) (fun i _ _ => ms.length - (intOf i).toNat)
  case atStart => exact ⟨0, 0, Nat.zero_le _, rfl, rfl, fun i hi => absurd hi (by omega)⟩
  case round =>
    obtain ⟨k, n, hk, rfl, rfl, hall⟩ := hrel
    by_cases hlt : k < ms.length
    · obtain ⟨off, rfl, hc⟩ := hr1.r (by omega)
      have t0 : (k : Int) < (ms.length : Int) := by omega
      have d1 := (hc k hlt).1
      by_cases h32 : (ms.getD k mrk0).id.length = 32
      rotate_left
      · have hv : Hid (R = 3) := by
          refine V3.out fun hI => h32 (hI k hlt).1
        have t2 : (((ms.getD k mrk0).id.length : Int) == 32) = false := beq_eq_false_iff_ne.2 (by omega)
        generalize (ms.getD k mrk0).id.length = m at *
        generalize (ps.getD k plm0).a = pa at *
        generalize (ps.getD k plm0).c = pc at *
        have NB := hide (below_drewN N1.out n)
        clear hc hall V3 V4 V0 hr1 h32 HB N1
        go_wp2
        go_ret
        exact ⟨by rw [hv.out]; rfl, NB.out⟩
      have HC := hide hc
      have HALL := hide hall
      have HR := hide hr1
      have t2 : (((ms.getD k mrk0).id.length : Int) == 32) = true := by rw [h32]; rfl
      have H32 := hide h32
      obtain ⟨m, hm⟩ : ∃ m, m = (ms.getD k mrk0).id.length := ⟨_, rfl⟩
      obtain ⟨pa, hpa⟩ : ∃ m, m = (ps.getD k plm0).a := ⟨_, rfl⟩
      obtain ⟨pc, hpc⟩ : ∃ m, m = (ps.getD k plm0).c := ⟨_, rfl⟩
      rw [← hm] at t2 d1
      rw [← hpa, ← hpc] at d1
      have HM := hide (And.intro hm (And.intro hpa hpc))
      clear hc hall hr1 h32 hm hpa hpc
      go_wp2
      go_loopw [4] (fun i wr => ∃ (j n : Nat), j ≤ k ∧ i = .int .i64 j ∧ wr = wa.drewN n ∧ ∀ i, i < j → (ms.getD k mrk0).id ≠ (ms.getD i mrk0).id) (fun i _ => k - (intOf i).toNat)
      case atStart => exact ⟨0, n, Nat.zero_le _, rfl, rfl, fun i hi => absurd hi (by omega)⟩
      case round =>
        obtain ⟨j, n', hj, rfl, rfl, hnj⟩ := hrel
        by_cases hjk : j < k
        · have t3 : (j : Int) < (k : Int) := by omega
          have t4 : (j : Int) < (ms.length : Int) := by omega
          have d2 := (HC.out j (by omega)).1
          have SM : Hid (∀ n, Calls Try.prog 10 #[.slice pa m pc, .slice (ps.getD j plm0).a (ms.getD j mrk0).id.length (ps.getD j plm0).c] (wa.drewN n) fun e w' => e = .returned (.bool (decide ((ms.getD k mrk0).id = (ms.getD j mrk0).id))) ∧ w' = wa.drewN n) := fun n => by
            rw [HM.out.1, HM.out.2.1, HM.out.2.2]
            exact l1Same_any (wa.drewN n) _ _ _ _ _ _ _ _ ((HR.out.b k hlt).up (below_drewN (Below.refl _ _) n)) ((HR.out.b j (by omega)).up (below_drewN (Below.refl _ _) n)) (HB.out k hlt) (HB.out j (by omega))
          have HNJ := hide hnj
          have YES : Hid (decide ((ms.getD k mrk0).id = (ms.getD j mrk0).id) = true → R = 3) := fun h => V3.out fun hI => (hI k hlt).2 j hjk (of_decide_eq_true h)
          have NO : Hid (decide ((ms.getD k mrk0).id = (ms.getD j mrk0).id) = false → ∀ i, i < j + 1 → (ms.getD k mrk0).id ≠ (ms.getD i mrk0).id) := fun h i hi => by
            by_cases e : i = j
            · subst e
              exact of_decide_eq_false h
            · exact HNJ.out i (by omega)
          have HV := hide (rfl : decide ((ms.getD k mrk0).id = (ms.getD j mrk0).id) = decide ((ms.getD k mrk0).id = (ms.getD j mrk0).id))
          clear HV hnj HNJ
          generalize decide ((ms.getD k mrk0).id = (ms.getD j mrk0).id) = v at *
          generalize (ms.getD j mrk0).id.length = m2 at *
          generalize (ps.getD j plm0).a = qa at *
          generalize (ps.getD j plm0).c = qc at *
          cases v with
          | true =>
            have hv := hide (YES.out rfl)
            clear YES NO
            go_wp2
            go_quiet ((go_at_call 10; refine ((unhide SM) _).mono ?_; rintro e w' ⟨rfl, rfl⟩; exact ⟨rfl, _, rfl⟩))
            go_wp2
            go_ret
            exact ⟨by rw [hv.out]; rfl, below_drewN (below_drewN N1.out _) _⟩
          | false =>
            have hn := hide (NO.out rfl)
            clear YES NO
            go_wp2
            go_quiet ((go_at_call 10; refine ((unhide SM) _).mono ?_; rintro e w' ⟨rfl, rfl⟩; exact ⟨rfl, _, rfl⟩))
            go_wp2
            go_roundw
            case rel => exact ⟨j + 1, _, by omega, by go_num, rfl, hn.out⟩
            case measure => simp [intOf]; omega
        · obtain rfl : j = k := by omega
          have NX : Hid (∀ i, i < j + 1 → IdAt ms i) := fun i hi => by
            by_cases e : i = j
            · subst e
              exact ⟨H32.out, hnj⟩
            · exact HALL.out i (by omega)
          clear hnj
          go_wp2
          go_roundw
          case rel => exact ⟨j + 1, _, by omega, by go_num, rfl, NX.out⟩
          case measure => simp [intOf]; omega
    · obtain rfl : k = ms.length := by omega
      have OK : IdOk ms := hall
      have W4 := hide (fun u => V4.out OK u)
      have W0 := hide (fun u => V0.out OK u)
      have HR := hide hr1
      clear hall V3 V4 V0 hr1 OK
      go_wp2
      go_loopw [5] (fun i wr => ∃ (k n : Nat), k ≤ ms.length ∧ i = .int .i64 k ∧ wr = wa.drewN n ∧ ∀ i, i < k → utO (ms.getD i mrk0).un = false) (fun i _ => ms.length - (intOf i).toNat)
      case atStart => exact ⟨0, n, Nat.zero_le _, rfl, rfl, fun i hi => absurd hi (by omega)⟩
      case round =>
        obtain ⟨k, n', hk, rfl, rfl, hall⟩ := hrel
        by_cases hlt : k < ms.length
        · obtain ⟨off, rfl, hc⟩ := HR.out.r (by omega)
          have t0 : (k : Int) < (ms.length : Int) := by omega
          have d1 := (hc k hlt).2
          have YES : Hid (utO (ms.getD k mrk0).un = true → R = 4) := fun h => W4.out (utA_yes hlt h)
          have NO : Hid (utO (ms.getD k mrk0).un = false → ∀ i, i < k + 1 → utO (ms.getD i mrk0).un = false) := fun h i hi => by
            by_cases e : i = k
            · subst e
              exact h
            · exact hall i (by omega)
          clear hc hall
          generalize (ms.getD k mrk0).un = u at *
          by_cases u0 : u < 0
          · have hv := hide (YES.out (by unfold utO; simp [u0]))
            have NB := hide (below_drewN N1.out n')
            clear YES NO
            go_wp2
            go_ret
            exact ⟨by rw [hv.out]; rfl, NB.out⟩
          · by_cases u1 : 253402473599 < u
            · have hv := hide (YES.out (by unfold utO; simp [u1]))
              have NB := hide (below_drewN N1.out n')
              clear YES NO
              go_wp2
              go_ret
              exact ⟨by rw [hv.out]; rfl, NB.out⟩
            · have hn := hide (NO.out (by unfold utO; simp; omega))
              clear YES NO
              go_wp2
              go_roundw
              case rel => exact ⟨k + 1, _, by omega, by go_num, rfl, hn.out⟩
              case measure => simp [intOf]; omega
        · obtain rfl : k = ms.length := by omega
          have hv := hide (W0.out (utA_no hall))
          have NB := hide (below_drewN N1.out n')
          clear hall W0 W4
          go_wp2
          go_ret
          exact ⟨by rw [hv.out]; rfl, NB.out⟩
end Go.Proofs.Ytggclncbcdjnjaa
