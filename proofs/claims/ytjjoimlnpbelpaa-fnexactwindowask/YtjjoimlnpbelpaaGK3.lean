import Derived.Test.YtjjoimlnpbelpaaGK2
import Derived.Deep.DeepCutAuto
import Derived.Deep.MidRow

/-
  The laws' helpers on marks: counted, copied, held against each other; one mark.
-/
namespace Go.Proofs.Ytjjoimlnpbelpaa
open Go Go.RowKit

/-- A mark: its id and its end. -/
structure Mrk where
  id : List Int
  un : Int
def mrk0 : Mrk := ⟨[], 0⟩
/-- Where a list lies. -/
structure Plm where
  a : Option Addr
  c : Nat
  q : Nat
def plm0 : Plm := ⟨none, 0, 0⟩
/-- A row of marks that may be read. -/
structure RdK (w : World) (g : Nat) (a : Option Addr) (ms : List Mrk) (ps : List Plm) : Prop where
  r : 0 < ms.length → ∃ off, a = some ⟨g, off, none⟩ ∧ ∀ i, i < ms.length → w.cell? ⟨g, off + i * 2, none⟩ = some (.slice (ps.getD i plm0).a (ms.getD i mrk0).id.length (ps.getD i plm0).c) ∧ w.cell? ⟨g, off + i * 2 + 1, none⟩ = some (.int .i64 (ms.getD i mrk0).un)
  b : ∀ i, i < ms.length → Rd w (ps.getD i plm0).q (ps.getD i plm0).a .u8 (ms.getD i mrk0).id
theorem RdK.up {w w' : World} {g : Nat} {a : Option Addr} {ms : List Mrk} {ps : List Plm} (h : RdK w g a ms ps) (n : Below w.heap.size w w') : RdK w' g a ms ps :=
  ⟨fun h0 => by
    obtain ⟨off, e, hc⟩ := h.r h0
    exact ⟨off, e, fun i hi => ⟨(n.cell (block_lt_of_cell (hc i hi).1)).trans (hc i hi).1, (n.cell (block_lt_of_cell (hc i hi).2)).trans (hc i hi).2⟩⟩,
   fun i hi => (h.b i hi).up n⟩
/-- What is left of a number behind a count, or -1. -/
def LftK (L : Int) (n : Int) (r : Int) : Prop := (L < n ∧ r = -1) ∨ (n ≤ L ∧ r = L - n)
theorem szByteK_r (w : World) (a : Option Addr) (c n : Nat) (L : Int) (hn : n < 9223372036854775808) (h0 : 0 ≤ L) (h1 : L ≤ 1048576) :
    Calls Try.prog 42 #[.slice a n c, .int .i64 L] w fun e w' => (∃ r, e = .returned (.int .i64 r) ∧ LftK L n r) ∧ w' = w := by
  have S := szByteR w a n c L hn (by omega) (by omega)
  by_cases h : L < (n : Int)
  · rw [if_pos h] at S
    refine S.mono ?_
    rintro e w' ⟨rfl, rfl⟩
    exact ⟨⟨_, rfl, .inl ⟨h, rfl⟩⟩, rfl⟩
  · rw [if_neg h] at S
    refine S.mono ?_
    rintro e w' ⟨rfl, rfl⟩
    exact ⟨⟨_, rfl, .inr ⟨by omega, rfl⟩⟩, rfl⟩
set_option maxHeartbeats 1000000 in
theorem szMark_r (w : World) (a : Option Addr) (c n : Nat) (un : Int) (L : Int) (hn : n < 9223372036854775808) (h0 : 0 ≤ L) (h1 : L ≤ 1048576) :
    Calls Try.prog 30 #[.agg #[.slice a n c, .int .i64 un], .int .i64 L] w fun e w' => (∃ r, e = .returned (.int .i64 r) ∧ LftK L n r) ∧ Below w.heap.size w w' := by
  have n1 : Hid (Below w.heap.size w (w.alloc (.cells #[.slice a n c, .int .i64 un] 63))) := (Below.refl _ _).alloc (Nat.le_refl _) _
  have SZ := hide (szByteK_r (w.alloc (.cells #[.slice a n c, .int .i64 un] 63)) a c n L hn h0 h1)
  go_enter Try.func30, Try.ntmps30
  go_wp2_with fail
  refine SZ.out.mono ?_
  rintro e w1 ⟨⟨r, rfl, hr⟩, hw⟩
  subst hw
  rcases hr with ⟨h2, rfl⟩ | ⟨h2, rfl⟩
  · have H := hide h2
    clear h2
    go_wp2
    go_ret
    exact ⟨⟨_, rfl, .inl ⟨H.out, rfl⟩⟩, n1.out⟩
  · have t1 : decide (L - (n : Int) < 0) = false := decide_eq_false (by omega)
    have H := hide h2
    clear h2
    go_wp2
    go_ret
    exact ⟨⟨_, rfl, .inr ⟨H.out, rfl⟩⟩, n1.out⟩
theorem iMk : (Try.prog.info? 46).map (·.size) = some 2 := by kernel_rfl
theorem rowMk : ∃ d, Try.prog.underlying 46 = some d ∧ d.isRow = true := ⟨_, Try.underlying46, rfl⟩
theorem oneMk (a : Option Addr) (n c : Nat) (un : Int) : ([.slice a n c, .int .i64 un] : List Value).toArray.all (·.oneCell') = true := all_oneCell_toArray fun v hv => by
  simp only [List.mem_cons, List.not_mem_nil, or_false] at hv
  rcases hv with rfl | rfl
  all_goals rfl
set_option maxHeartbeats 8000000 in
theorem toMark_any (w : World) (un : Int) (gxs : Nat) (a : Option Addr) (c : Nat) (xs : List Int) (hrxs : Rd w gxs a .u8 xs) (hnxs : xs.length ≤ 1048576) :
    Calls Try.prog 31 #[.agg #[.slice a xs.length c, .int .i64 un]] w fun e w' => ∃ pxs, e = .returned (.agg #[.slice (some ⟨pxs, 0, none⟩) xs.length xs.length, .int .i64 un]) ∧ Blk w' pxs .u8 xs ∧ w.heap.size ≤ pxs ∧ Below w.heap.size w w' := by
  have T0 := TMs.new w 63 46 [.slice a xs.length c, .int .i64 un] [.slice none 0 0, .int .i64 0]
  obtain ⟨d1, hd1, hrow1⟩ := rowMk
  go_enter Try.func31, Try.ntmps31
  go_upto_region 2 with fail
  have T0 : TMs w (((w.alloc (.cells #[.slice a xs.length c, .int .i64 un] 63)).alloc (.cells #[.slice none 0 0, .int .i64 0] 46)).alloc (.cells #[.slice none 0 0, .int .i64 0] 46)) 63 46 [.slice a xs.length c, .int .i64 un] [.slice none 0 0, .int .i64 0] [.slice none 0 0, .int .i64 0] := T0
  generalize ((w.alloc (.cells #[.slice a xs.length c, .int .i64 un] 63)).alloc (.cells #[.slice none 0 0, .int .i64 0] 46)).alloc (.cells #[.slice none 0 0, .int .i64 0] 46) = X0 at *
  have qS : X0.cell? ⟨w.heap.size, 0, none⟩ = some (.slice a xs.length c) := T0.S.cell 0
  have TB := hide (toByteS_any X0 gxs a c xs (hrxs.up T0.N) hnxs)
  go_wp2_with fail
  refine TB.out.mono ?_
  rintro e V0 ⟨rfl, Bxs, m⟩
  have ltxs := T0.T.lt
  have T2 := T0.up m
  have lvxs := Bxs.lt
  clear TB qS T0 m
  obtain ⟨Gxs, hG⟩ : ∃ G, X0.heap.size = G := ⟨_, rfl⟩
  rw [hG] at Bxs ltxs lvxs ⊢
  clear hG
  have qT : V0.cell? ⟨w.heap.size + 1 + 1, 0, none⟩ = some (.slice none 0 0) := T2.T.cell 0
  have qF := T2.T.free 0
  have T3 : TMs w (V0.setCell ⟨w.heap.size + 1 + 1, 0, none⟩ (.slice (some ⟨Gxs, 0, none⟩) xs.length xs.length)) 63 46 [.slice a xs.length c, .int .i64 un] [.slice none 0 0, .int .i64 0] [.slice (some ⟨Gxs, 0, none⟩) xs.length xs.length, .int .i64 0] := T2.set 0 _
  have Cxs : Blk (V0.setCell ⟨w.heap.size + 1 + 1, 0, none⟩ (.slice (some ⟨Gxs, 0, none⟩) xs.length xs.length)) Gxs .u8 xs := Bxs.of_block ((Only.setCell V0 (w.heap.size + 1 + 1) 0 _).block Gxs (by omega))
  go_upto_region 3 with fail
  clear T2 qT qF Bxs
  generalize V0.setCell ⟨w.heap.size + 1 + 1, 0, none⟩ (.slice (some ⟨Gxs, 0, none⟩) xs.length xs.length) = X1 at *
  have T0 := T3
  have Bxs := Cxs
  clear T3 Cxs
  have q0 : X1.cell? ⟨w.heap.size, 1, none⟩ = some (.int .i64 un) := T0.S.cell 1
  have q1 : X1.cell? ⟨w.heap.size + 1 + 1, 1, none⟩ = some (.int .i64 0) := T0.T.cell 1
  have q2 := T0.T.free 1
  have T6 : TMs w (X1.setCell ⟨w.heap.size + 1 + 1, 1, none⟩ (.int .i64 un)) 63 46 [.slice a xs.length c, .int .i64 un] [.slice none 0 0, .int .i64 0] [.slice (some ⟨Gxs, 0, none⟩) xs.length xs.length, .int .i64 un] := T0.set 1 _
  have Cxs : Blk (X1.setCell ⟨w.heap.size + 1 + 1, 1, none⟩ (.int .i64 un)) Gxs .u8 xs := Bxs.of_block ((Only.setCell X1 (w.heap.size + 1 + 1) 1 _).block Gxs (by omega))
  go_upto_region 4 with fail
  clear q0 q1 q2 T0 Bxs
  generalize X1.setCell ⟨w.heap.size + 1 + 1, 1, none⟩ (.int .i64 un) = X2 at *
  have T0 := T6
  have Bxs := Cxs
  clear T6 Cxs
  have RG := T0.T.rangeG
  have TH := T0.U.thereG
  have RR := World.rangeAt_setCells_same X2 (w.heap.size + 1) 0 [.slice (some ⟨Gxs, 0, none⟩) xs.length xs.length, .int .i64 un] TH
  have OQ := only_setG X2 (w.heap.size + 1) [.slice (some ⟨Gxs, 0, none⟩) xs.length xs.length, .int .i64 un] 0
  have N8 : Hid (Below w.heap.size w (X2.setCells (w.heap.size + 1) 0 [.slice (some ⟨Gxs, 0, none⟩) xs.length xs.length, .int .i64 un])) := T0.N.trans (OQ.below (by omega))
  have Dxs := hide (Bxs.of_block (OQ.block Gxs (by omega)))
  have ON := oneMk (some ⟨Gxs, 0, none⟩) xs.length xs.length un
  clear OQ T0 Bxs
  go_wp2_with (first
    | (refine wpList_load_mid rfl 46 (.tmp 3) rfl (w.heap.size + 1 + 1) 0 rfl [.slice (some ⟨Gxs, 0, none⟩) xs.length xs.length, .int .i64 un] d1 RG hd1 hrow1 iMk ?_)
    | (refine wpList_store_mid rfl 46 (.tmp 2) (.tmp 11) rfl (w.heap.size + 1) 0 #[.slice (some ⟨Gxs, 0, none⟩) xs.length xs.length, .int .i64 un] rfl rfl ?hth ?hin ?hon ?_))
  case hth => exact TH
  case hin => exact iMk
  case hon => exact ON
  exact bodyPost_ret (v := .agg #[.slice (some ⟨Gxs, 0, none⟩) xs.length xs.length, .int .i64 un]) (results_cellG Try.results31 _ _ (w.heap.size + 1) _ d1 rfl RR hd1 hrow1 iMk) rfl ⟨Gxs, rfl, Dxs.out, by omega, N8.out⟩
set_option maxHeartbeats 2000000 in
theorem eqMark_same (w : World) (un : Int) (gxs gxs2 : Nat) (a a2 : Option Addr) (c c2 : Nat) (xs : List Int) (h1xs : Rd w gxs a .u8 xs) (h2xs : Rd w gxs2 a2 .u8 xs) (hnxs : xs.length ≤ 1048576) :
    Calls Try.prog 40 #[.agg #[.slice a xs.length c, .int .i64 un], .agg #[.slice a2 xs.length c2, .int .i64 un]] w fun e w' => e = .returned (.bool true) ∧ Below w.heap.size w w' := by
  have n1 : Below w.heap.size w (w.alloc (.cells #[.slice a xs.length c, .int .i64 un] 46)) := (Below.refl _ _).alloc (Nat.le_refl _) _
  have n2 : Below (w.alloc (.cells #[.slice a xs.length c, .int .i64 un] 46)).heap.size (w.alloc (.cells #[.slice a xs.length c, .int .i64 un] 46)) ((w.alloc (.cells #[.slice a xs.length c, .int .i64 un] 46)).alloc (.cells #[.slice a2 xs.length c2, .int .i64 un] 46)) := (Below.refl _ _).alloc (Nat.le_refl _) _
  have P0 : RwC (w.alloc (.cells #[.slice a xs.length c, .int .i64 un] 46)) w.heap.size [.slice a xs.length c, .int .i64 un] 46 := RwC.new w _ _
  have P1 : RwC ((w.alloc (.cells #[.slice a xs.length c, .int .i64 un] 46)).alloc (.cells #[.slice a2 xs.length c2, .int .i64 un] 46)) (w.heap.size + 1) [.slice a2 xs.length c2, .int .i64 un] 46 := by have := RwC.new (w.alloc (.cells #[.slice a xs.length c, .int .i64 un] 46)) [.slice a2 xs.length c2, .int .i64 un] 46; simpa using this
  have N := nxt n1 n2
  replace P0 := P0.up n2
  have Exs := hide (fun W (n : Below w.heap.size w W) => eqByteS_same W gxs gxs2 a a2 c c2 xs (h1xs.up n) (h2xs.up n) hnxs)
  clear n1 n2 h1xs h2xs
  go_enter Try.func40, Try.ntmps40
  have p0 : ((w.alloc (.cells #[.slice a xs.length c, .int .i64 un] 46)).alloc (.cells #[.slice a2 xs.length c2, .int .i64 un] 46)).cell? ⟨w.heap.size, 0, none⟩ = some (.slice a xs.length c) := P0.cell 0
  have r0 : ((w.alloc (.cells #[.slice a xs.length c, .int .i64 un] 46)).alloc (.cells #[.slice a2 xs.length c2, .int .i64 un] 46)).cell? ⟨w.heap.size + 1, 0, none⟩ = some (.slice a2 xs.length c2) := P1.cell 0
  have p1 : ((w.alloc (.cells #[.slice a xs.length c, .int .i64 un] 46)).alloc (.cells #[.slice a2 xs.length c2, .int .i64 un] 46)).cell? ⟨w.heap.size, 1, none⟩ = some (.int .i64 un) := P0.cell 1
  have r1 : ((w.alloc (.cells #[.slice a xs.length c, .int .i64 un] 46)).alloc (.cells #[.slice a2 xs.length c2, .int .i64 un] 46)).cell? ⟨w.heap.size + 1, 1, none⟩ = some (.int .i64 un) := P1.cell 1
  go_wp2_with fail
  generalize (w.alloc (.cells #[.slice a xs.length c, .int .i64 un] 46)).alloc (.cells #[.slice a2 xs.length c2, .int .i64 un] 46) = wa at *
  refine (Exs.out _ N).mono ?_
  rintro e w1 ⟨rfl, m⟩
  replace N := nxt N m
  replace P0 := P0.up m
  replace P1 := P1.up m
  clear m p0 r0 p1 r1
  have p0 : (w1).cell? ⟨w.heap.size, 0, none⟩ = some (.slice a xs.length c) := P0.cell 0
  have r0 : (w1).cell? ⟨w.heap.size + 1, 0, none⟩ = some (.slice a2 xs.length c2) := P1.cell 0
  have p1 : (w1).cell? ⟨w.heap.size, 1, none⟩ = some (.int .i64 un) := P0.cell 1
  have r1 : (w1).cell? ⟨w.heap.size + 1, 1, none⟩ = some (.int .i64 un) := P1.cell 1
  go_wp2
  go_ret
  exact ⟨rfl, N⟩
end Go.Proofs.Ytjjoimlnpbelpaa
