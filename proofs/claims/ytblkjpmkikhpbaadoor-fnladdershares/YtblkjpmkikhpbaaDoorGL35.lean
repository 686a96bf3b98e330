import Derived.Test.YtblkjpmkikhpbaaDoorGL34
import Derived.Deep.DeepCutAuto
import Derived.Test.YtblkjpmkikhpbaaDoorGL11
import Derived.Test.YtblkjpmkikhpbaaDoorGL28

/-
  The program's ladder, whole.
-/
namespace Go.Proofs.YtblkjpmkikhpbaaDoor
set_option maxRecDepth 100000
open Go Go.RowKit

theorem But2.em {q1 q2 g o : Nat} {W W' : World} {A : Int} (h : But2 q1 q2 W W') (e : Em5 W g o A) (h1 : g ≠ q1) (h2 : g ≠ q2) : Em5 W' g o A := by
  obtain ⟨t, r, l, k⟩ := e
  exact ⟨t, fun j v hv => (World.cell?_of_block (a := ⟨g, o + j, none⟩) (h.1 g h1 h2 l)).trans (r j v hv), Nat.lt_of_lt_of_le l h.2.1, k⟩
theorem But2.blk {q1 q2 g : Nat} {W W' : World} {k : IntKind} {ys : List Int} (h : But2 q1 q2 W W') (e : Blk W g k ys) (h1 : g ≠ q1) (h2 : g ≠ q2) : Blk W' g k ys := e.of_block (h.1 g h1 h2 e.lt)
theorem But2.there {q1 q2 g n : Nat} {W W' : World} (h : But2 q1 q2 W W') (hn : 0 < n) (e : W.there g 0 n) (h1 : g ≠ q1) (h2 : g ≠ q2) : W'.there g 0 n := by
  have hb := h.1 g h1 h2 (there_lt hn e)
  exact fun j hj => ⟨by rw [World.cell?_of_block (a := ⟨g, 0 + j, none⟩) hb]; exact (e j hj).1, by rw [World.frozen?_of_block (a := ⟨g, 0 + j, none⟩) hb]; exact (e j hj).2⟩
/-- Ten words of a new block are a pair. -/
theorem rat_new (W : World) (t : TypeId) {a b : Nat → Int} {A B : Int} (ha : Is5 a A) (hb : Is5 b B) : Rat (W.alloc (.cells #[.int .u64 (a 0), .int .u64 (a 1), .int .u64 (a 2), .int .u64 (a 3), .int .u64 (a 4), .int .u64 (b 0), .int .u64 (b 1), .int .u64 (b 2), .int .u64 (b 3), .int .u64 (b 4)] t)) W.heap.size A B := by
  refine ⟨a, b, fun j v hv => ?_, there_new W (cl10 a b) t, ha, hb⟩
  have e : (W.alloc (.cells (cl10 a b).toArray t)).heap[W.heap.size]? = some (.cells (cl10 a b).toArray t) := heap_alloc_last _ _
  show (W.alloc (.cells (cl10 a b).toArray t)).cell? ⟨W.heap.size, 0 + j, none⟩ = some v
  unfold World.cell?
  simp only
  rw [e]
  simpa using hv
/-- Two new pairs: (1 : 0) and (X : 1). -/
def TwoNew (wr : World) (X : Int) (v5 v6 : Value) (wc : World) : Prop := ∃ q1 q2, v5 = .pointer (some ⟨q1, 0, none⟩) ∧ v6 = .pointer (some ⟨q2, 0, none⟩) ∧ wr.heap.size ≤ q1 ∧ wr.heap.size ≤ q2 ∧ q1 ≠ q2 ∧ Rat wc q1 1 0 ∧ Rat wc q2 X 1 ∧ Below wr.heap.size wr wc
abbrev objOne : Obj := .cells #[.int .u64 1, .int .u64 0, .int .u64 0, .int .u64 0, .int .u64 0, .int .u64 0, .int .u64 0, .int .u64 0, .int .u64 0, .int .u64 0] 66
abbrev objX (e : Nat → Int) : Obj := .cells #[.int .u64 (e 0), .int .u64 (e 1), .int .u64 (e 2), .int .u64 (e 3), .int .u64 (e 4), .int .u64 1, .int .u64 0, .int .u64 0, .int .u64 0, .int .u64 0] 66
theorem rat_one (W : World) : Rat (W.alloc objOne) W.heap.size 1 0 := rat_new W 66 (a := sm5 1) (b := sm5 0) (sm5_ok (by omega) (by omega)) (sm5_ok (by omega) (by omega))
theorem rat_x (W : World) {e : Nat → Int} {X : Int} (he : Is5 e X) : Rat (W.alloc (objX e)) W.heap.size X 1 := rat_new W 66 (a := e) (b := sm5 1) he (sm5_ok (by omega) (by omega))
theorem two_new1 (wr : World) {e : Nat → Int} {X : Int} (he : Is5 e X) : TwoNew wr X (.pointer (some ⟨wr.heap.size, 0, none⟩)) (.pointer (some ⟨wr.heap.size + 1, 0, none⟩)) ((wr.alloc objOne).alloc (objX e)).drew := by
  have s : (wr.alloc objOne).heap.size = wr.heap.size + 1 := by simp
  have m1 : Below wr.heap.size wr (wr.alloc objOne) := (Below.refl _ _).alloc (Nat.le_refl _) _
  have m2 : Below (wr.alloc objOne).heap.size (wr.alloc objOne) ((wr.alloc objOne).alloc (objX e)) := (Below.refl _ _).alloc (Nat.le_refl _) _
  have r1 := (rat_one wr).up m2
  have r2 := rat_x (wr.alloc objOne) he
  rw [s] at r2
  exact ⟨_, _, rfl, rfl, Nat.le_refl _, by omega, by omega, r1.up (Below.refl _ _).drew, r2.up (Below.refl _ _).drew, (nxt m1 m2).drew⟩
theorem two_new2 (wr : World) {e : Nat → Int} {X : Int} (he : Is5 e X) : TwoNew wr X (.pointer (some ⟨wr.heap.size + 1, 0, none⟩)) (.pointer (some ⟨wr.heap.size, 0, none⟩)) ((wr.alloc (objX e)).alloc objOne).drew := by
  have s : (wr.alloc (objX e)).heap.size = wr.heap.size + 1 := by simp
  have m1 : Below wr.heap.size wr (wr.alloc (objX e)) := (Below.refl _ _).alloc (Nat.le_refl _) _
  have m2 : Below (wr.alloc (objX e)).heap.size (wr.alloc (objX e)) ((wr.alloc (objX e)).alloc objOne) := (Below.refl _ _).alloc (Nat.le_refl _) _
  have r1 := (rat_x wr he).up m2
  have r2 := rat_one (wr.alloc (objX e))
  rw [s] at r2
  exact ⟨_, _, rfl, rfl, by omega, Nat.le_refl _, by omega, r2.up (Below.refl _ _).drew, r1.up (Below.refl _ _).drew, (nxt m1 m2).drew⟩
/-- What the ladder answers. -/
def ladE (x : Int) (bit : Nat → Bool) (n : Nat) : Int := (lrnds x bit n).a * (lrnds x bit n).b ^ eInv

set_option maxHeartbeats 4000000 in
theorem ladder_any (w : World) (W : Nat → Int) (hW : W4 W) (x : Nat → Int) (X : Int) (hx : Is5 x X) (hT : HasTw w 1) (hS : HasSt w 2) (hI : Has3 w 0 12 5 4) :
    Calls Tryd.prog 38 #[ag4 W, ag5 x] w fun r w' => ∃ t, r = .returned (ag5 t) ∧ Is5 t (ladE X (fun i => wbit W (254 - i)) 255) ∧ Below w.heap.size w w' := by
  have B0 := blk_box4 w .u64 51 (W 0) (W 1) (W 2) (W 3)
  have m1 : Below w.heap.size w (w.alloc (.cells #[.int .u64 (W 0), .int .u64 (W 1), .int .u64 (W 2), .int .u64 (W 3)] 51)) := (Below.refl _ _).alloc (Nat.le_refl _) _
  have s1 : (w.alloc (.cells #[.int .u64 (W 0), .int .u64 (W 1), .int .u64 (W 2), .int .u64 (W 3)] 51)).heap.size = w.heap.size + 1 := by simp
  have BI := hide (fun w n hn => bit_any w W hW n hn)
  simp only [ag5, ag4] at BI ⊢
  go_enter Tryd.func38, Tryd.ntmps38
  go_upto_region 1 with fail
  generalize w.alloc (.cells #[.int .u64 (W 0), .int .u64 (W 1), .int .u64 (W 2), .int .u64 (W 3)] 51) = wa at *
  have EX := em5_new wa 49 hx
  have m2 : Below wa.heap.size wa (wa.alloc (.cells #[.int .u64 (x 0), .int .u64 (x 1), .int .u64 (x 2), .int .u64 (x 3), .int .u64 (x 4)] 49)) := (Below.refl _ _).alloc (Nat.le_refl _) _
  have s2 : (wa.alloc (.cells #[.int .u64 (x 0), .int .u64 (x 1), .int .u64 (x 2), .int .u64 (x 3), .int .u64 (x 4)] 49)).heap.size = w.heap.size + 1 + 1 := by simp [s1]
  rw [s1] at EX
  generalize wa.alloc (.cells #[.int .u64 (x 0), .int .u64 (x 1), .int .u64 (x 2), .int .u64 (x 3), .int .u64 (x 4)] 49) = wb at *
  have TR : (wb.alloc (.cells #[.int .u64 0, .int .u64 0, .int .u64 0, .int .u64 0, .int .u64 0] 49)).there wb.heap.size 0 5 := there_new wb _ _
  have m3 : Below wb.heap.size wb (wb.alloc (.cells #[.int .u64 0, .int .u64 0, .int .u64 0, .int .u64 0, .int .u64 0] 49)) := (Below.refl _ _).alloc (Nat.le_refl _) _
  rw [s2] at TR
  have SC := (B0.up m2).up m3
  replace EX := EX.up m3
  have N := nxt (nxt m1 m2) m3
  obtain ⟨wr, hwr⟩ : ∃ W, W = wb.alloc (.cells #[.int .u64 0, .int .u64 0, .int .u64 0, .int .u64 0, .int .u64 0] 49) := ⟨_, rfl⟩
  rw [← hwr] at TR EX N SC
  change Code.wp _ _ _ _ (wb.alloc (.cells #[.int .u64 0, .int .u64 0, .int .u64 0, .int .u64 0, .int .u64 0] 49))
  rw [← hwr]
  have lr : w.heap.size + 1 + 1 < wr.heap.size := there_lt (by omega) TR
  clear hwr m1 m2 m3 s1 s2 B0 hx
  obtain ⟨e, re, le, he⟩ := id EX
  have CY : Hid (∀ W, Below wr.heap.size wr W → W.cell? ⟨w.heap.size + 1, 0, none⟩ = some (.int .u64 (e 0)) ∧ W.cell? ⟨w.heap.size + 1, 1, none⟩ = some (.int .u64 (e 1)) ∧ W.cell? ⟨w.heap.size + 1, 2, none⟩ = some (.int .u64 (e 2)) ∧ W.cell? ⟨w.heap.size + 1, 3, none⟩ = some (.int .u64 (e 3)) ∧ W.cell? ⟨w.heap.size + 1, 4, none⟩ = some (.int .u64 (e 4))) := by
    intro W n
    have r := fun j v hv => (n.cell (p := ⟨w.heap.size + 1, 0 + j, none⟩) le).trans (re j v hv)
    refine ⟨?_, ?_, ?_, ?_, ?_⟩
    · simpa using r 0 _ rfl
    · simpa using r 1 _ rfl
    · simpa using r 2 _ rfl
    · simpa using r 3 _ rfl
    · simpa using r 4 _ rfl
  clear re
  go_cut [5, 6] from 9 to 13 (fun v5 v6 wc => TwoNew wr X v5 v6 wc)
  case first =>
    go_region_held3 (fun W => W.cell? ⟨w.heap.size + 1, 0, none⟩ = some (.int .u64 (e 0)) ∧ W.cell? ⟨w.heap.size + 1, 1, none⟩ = some (.int .u64 (e 1)) ∧ W.cell? ⟨w.heap.size + 1, 2, none⟩ = some (.int .u64 (e 2)) ∧ W.cell? ⟨w.heap.size + 1, 3, none⟩ = some (.int .u64 (e 3)) ∧ W.cell? ⟨w.heap.size + 1, 4, none⟩ = some (.int .u64 (e 4)))
      (first | exact (unhide CY) _ (Below.refl _ _).drew | exact (unhide CY) _ ((Below.refl _ _).alloc (Nat.le_refl _) _).drew | exact (unhide CY) _ (((Below.refl _ _).alloc (Nat.le_refl _) _).alloc (by simp) _).drew)
      (fail)
    all_goals
      go_wp2_with fail
      go_meet
      first
        | exact two_new1 wr he
        | exact two_new2 wr he
  case rest =>
  obtain ⟨q1, q2, rfl, rfl, l5, l6, hne, RA, RB, n⟩ := hcut
  clear CY le he
  replace EX := EX.up n
  replace SC := SC.up n
  replace TR := there_up (by omega) TR n
  replace N := nxt N n
  have g1 : w.heap.size + 1 + 1 < q1 := by omega
  have g2 : w.heap.size + 1 + 1 < q2 := by omega
  clear n l5 l6 lr
  go_wp2
  go_loopw [14] (fun i wr => ∃ k : Nat, k ≤ 255 ∧ i = .int .i64 k ∧ Rat wr q1 (lrnds X (fun i => wbit W (254 - i)) k).a (lrnds X (fun i => wbit W (254 - i)) k).b ∧ Rat wr q2 (lrnds X (fun i => wbit W (254 - i)) k).c (lrnds X (fun i => wbit W (254 - i)) k).d ∧ Em5 wr (w.heap.size + 1) 0 X ∧ Blk wr w.heap.size .u64 [W 0, W 1, W 2, W 3] ∧ wr.there (w.heap.size + 1 + 1) 0 5 ∧ Below w.heap.size w wr) (fun i _ => 255 - (intOf i).toNat)
  case atStart => exact ⟨0, by omega, rfl, RA, RB, EX, SC, TR, N⟩
  case round =>
    clear RA RB EX SC TR N
    obtain ⟨k, hk, rfl, RA, RB, EX, SC, TR, N⟩ := hrel
    by_cases hlt : k < 255
    · have k5 : (k : Int) < 255 := by omega
      have k6 : (254 : Int) - (k : Int) = ((254 - k : Nat) : Int) := by omega
      have ST := hide (show lrnds X (fun i => wbit W (254 - i)) (k + 1) = lrnd X (wbit W (254 - k)) (lrnds X (fun i => wbit W (254 - i)) k) from rfl)
      obtain ⟨s, hs⟩ : ∃ s, s = lrnds X (fun i => wbit W (254 - i)) k := ⟨_, rfl⟩
      rw [← hs] at RA RB ST
      clear hs
      obtain ⟨⟨c0, c1, c2, c3⟩, _⟩ := SC.f4
      have BI' := BI.out wr (254 - k) (by omega)
      obtain ⟨nk, hnk⟩ : ∃ nk, nk = 254 - k := ⟨_, rfl⟩
      rw [← hnk] at k6 BI' ST
      have BT := hide BI'
      clear hnk BI' BI
      obtain ⟨bt, hbt⟩ : ∃ b, b = wbit W nk := ⟨_, rfl⟩
      rw [← hbt] at BT ST
      clear hbt
      go_wp2_with fail
      refine BT.out.mono ?_
      rintro r W2 ⟨rfl, n⟩
      clear BT c0 c1 c2 c3
      replace RA := RA.up n
      replace RB := RB.up n
      replace EX := EX.up n
      replace SC := SC.up n
      replace TR := there_up (by omega) TR n
      replace N := nxt N n
      clear n
      go_wp2_with fail
      refine (exchange_any W2 q1 q2 bt _ _ _ _ hne RA RB).mono ?_
      rintro r W3 ⟨rfl, RA', RB', b⟩
      clear RA RB
      replace EX := b.em EX (by omega) (by omega)
      replace SC := b.blk SC (by omega) (by omega)
      replace TR := b.there (by omega) TR (by omega) (by omega)
      replace N := b.2.2 _ _ N (by omega) (by omega) N.size
      clear b
      obtain ⟨e, re, le, he⟩ := id EX
      have c0 := re 0 _ rfl
      have c1 := re 1 _ rfl
      have c2 := re 2 _ rfl
      have c3 := re 3 _ rfl
      have c4 := re 4 _ rfl
      simp only [Nat.zero_add] at c0 c1 c2 c3 c4
      have CL := hide (climb_any W3 q1 q2 _ _ _ _ X e hne he RA' RB' (hT.up N))
      simp only [ag5] at CL
      clear re le he RA' RB'
      go_wp2_with fail
      refine CL.out.mono ?_
      rintro r W4 ⟨rfl, RA, RB, b⟩
      clear CL c0 c1 c2 c3 c4
      replace EX := b.em EX (by omega) (by omega)
      replace SC := b.blk SC (by omega) (by omega)
      replace TR := b.there (by omega) TR (by omega) (by omega)
      replace N := b.2.2 _ _ N (by omega) (by omega) N.size
      clear b
      go_wp2_with fail
      refine (exchange_any W4 q1 q2 bt _ _ _ _ hne RA RB).mono ?_
      rintro r W5 ⟨rfl, RA', RB', b⟩
      clear RA RB
      replace EX := b.em EX (by omega) (by omega)
      replace SC := b.blk SC (by omega) (by omega)
      replace TR := b.there (by omega) TR (by omega) (by omega)
      replace N := b.2.2 _ _ N (by omega) (by omega) N.size
      clear b
      have PK : Hid (Rat W5 q1 (lrnd X bt s).a (lrnd X bt s).b ∧ Rat W5 q2 (lrnd X bt s).c (lrnd X bt s).d) := by
        cases bt
        · exact ⟨RA', RB'⟩
        · refine ⟨?_, RB'⟩
          have r1 : Rat W5 q1 (sU s.c s.d s.a s.b) (sV X s.c s.d s.a s.b) := RA'
          rw [sU_flip, sV_flip] at r1
          exact r1
      clear RA' RB'
      go_wp2
      go_roundw
      case rel => exact ⟨k + 1, by omega, by go_num, by rw [ST.out]; exact PK.out.1, by rw [ST.out]; exact PK.out.2, EX, SC, TR, N⟩
      case measure => simp [intOf]; omega
    · obtain rfl : k = 255 := by omega
      have EE := hide (show ladE X (fun i => wbit W (254 - i)) 255 = (lrnds X (fun i => wbit W (254 - i)) 255).a * (lrnds X (fun i => wbit W (254 - i)) 255).b ^ eInv from rfl)
      obtain ⟨s, hs⟩ : ∃ s, s = lrnds X (fun i => wbit W (254 - i)) 255 := ⟨_, rfl⟩
      rw [← hs] at RA RB EE
      clear hs
      have SS := hS.up N
      have II := hI.up N
      go_upto_region 10 with fail
      refine region_put5 6 5 4 33 _ (fun i => [Fact.eq (.pointer (some ⟨q1, 0, none⟩)), EM (s.a), Fact.eq (.pointer (some ⟨q1, 5, none⟩)), EM (s.b), EM ((s.b) ^ eInv), EM ((s.a) * ((s.b) ^ eInv))].getD i Fact.no) ((s.a) * ((s.b) ^ eInv)) _ (by kernel_rfl) rfl rfl rfl (by kernel_rfl) rfl TR (by kernel_rfl) rfl ?_ ?_
      · intro i hi
        obtain rfl | rfl | rfl | rfl | rfl | rfl : i = 0 ∨ i = 1 ∨ i = 2 ∨ i = 3 ∨ i = 4 ∨ i = 5 := by omega
        · exact step_fld rfl 66 5 0 rfl (by kernel_rfl) _ _ rfl (fx10 _) rfl
        · exact step_e5f rfl 28 0 rfl (by kernel_rfl) _ _ rfl _ RA.x rfl
        · exact step_fld rfl 66 5 1 rfl (by kernel_rfl) _ _ rfl (fy10 _) rfl
        · exact step_e5f rfl 30 2 rfl (by kernel_rfl) _ _ rfl _ RA.y rfl
        · exact step_inv5 SS II rfl 31 3 _ rfl (by kernel_rfl) rfl rfl
        · exact step_mul5 rfl 29 32 1 4 _ _ rfl (by kernel_rfl) (by kernel_rfl) rfl rfl rfl
      intro vs10 Wb w10 n b E4 nb
      have NS := nb w w.heap.size (nxt N n) (by omega)
      clear n b nb RA RB EX SC TR N SS II
      simp only [puts, Act.put, List.setIfInBounds_toArray, List.set_cons_succ, List.set_cons_zero]
      obtain ⟨t, rg, _, ht⟩ := E4
      go_wp2
      exact bodyPost_ret (v := ag5 t) (results_cell_mid Tryd.results38 _ _ (w.heap.size + 1 + 1) (cl5 t) _ rfl rg u5 rfl i5) rfl ⟨t, rfl, by rw [EE.out]; exact ht, NS⟩
end Go.Proofs.YtblkjpmkikhpbaaDoor

/-
  The program's words of the order: a package's words in memory, scalars to and from bytes.
-/
namespace Go.Proofs.YtblkjpmkikhpbaaDoor
set_option maxRecDepth 100000
open Go.RowKit

/-- Block g holds n words f. -/
def HasW (w : World) (g : Nat) (f : Nat → Int) (n : Nat) : Prop := ∀ k, k < n → w.cell? ⟨g, k, none⟩ = some (.int .u64 (f k))
theorem HasW.of_block {w w' : World} {g n : Nat} {f : Nat → Int} (h : HasW w g f n) (hb : w'.heap[g]? = w.heap[g]?) : HasW w' g f n := fun k hk => (World.cell?_of_block (a := ⟨g, k, none⟩) hb).trans (h k hk)
theorem HasW.lt {w : World} {g n : Nat} {f : Nat → Int} (h : HasW w g f n) (hn : 0 < n) : g < w.heap.size := block_lt_of_cell (h 0 hn)
theorem HasW.up {w w' : World} {g n : Nat} {f : Nat → Int} (h : HasW w g f n) (b : Below w.heap.size w w') : HasW w' g f n := by
  by_cases hn : 0 < n
  · exact h.of_block (b.block g (h.lt hn))
  · exact fun k hk => absurd hk (by omega)
theorem HasW.f4 {w : World} {g : Nat} {f : Nat → Int} (h : HasW w g f 4) : w.cell? ⟨g, 0, none⟩ = some (.int .u64 (f 0)) ∧ w.cell? ⟨g, 1, none⟩ = some (.int .u64 (f 1)) ∧ w.cell? ⟨g, 2, none⟩ = some (.int .u64 (f 2)) ∧ w.cell? ⟨g, 3, none⟩ = some (.int .u64 (f 3)) :=
  ⟨h 0 (by omega), h 1 (by omega), h 2 (by omega), h 3 (by omega)⟩

end Go.Proofs.YtblkjpmkikhpbaaDoor
