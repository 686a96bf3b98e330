import Derived.Test.YtdbgdiahddpgkaaGreatGE4
import Derived.Laws.BytesString
import Derived.Deep.MidRow
import Derived.BigRegion
import Derived.Deep.RegionWith

/-
  What is drawn: the source, its answers, bytes; the laws' own small helpers (Dr without the field's texts).
-/
namespace Go.Proofs.YtdbgdiahddpgkaaGreat
open Go.RowKit

/-- Of what was there nothing but block g has turned. -/
structure But (g : Nat) (w w' : World) : Prop where
  os : w'.os = w.os
  tape : w'.tape = w.tape
  output : w'.output = w.output
  size : w.heap.size ≤ w'.heap.size
  block : ∀ k, k < w.heap.size → k ≠ g → w'.heap[k]? = w.heap[k]?

theorem But.of {g : Nat} {a b c : World} (h : Below a.heap.size a b) (k : Only g b c) : But g a c :=
  ⟨k.os.trans h.os, k.tape.trans h.tape, k.output.trans h.output, by rw [k.size]; exact h.size, fun i hi hne => (k.block i hne).trans (h.block i hi)⟩

theorem But.below {g B : Nat} {w w' : World} (h : But g w w') (hB : B ≤ g) (hs : B ≤ w.heap.size) : Below B w w' := ⟨h.os, h.tape, h.output, h.size, fun k hk => h.block k (by omega) (by omega)⟩

theorem Own.but {w w' : World} {g g' : Nat} {a : Option Addr} {k : IntKind} {xs : List Int} (h : Own w g a k xs) (ho : But g' w w') (hne : 0 < xs.length → g ≠ g') : Own w' g a k xs := by
  by_cases h0 : 0 < xs.length
  · exact h.of_block (ho.block g (h.rd.lt h0) (hne h0))
  · exact fun h1 => absurd h1 h0

/-- The text of bytes. -/
def str (xs : List Int) : ByteArray := xs.foldl (fun r n => r.push (UInt8.ofNat n.toNat)) ByteArray.empty

theorem conv_run (w : World) (g : Nat) (a : Option Addr) (c : Nat) (xs : List Int) (hr : Rd w g a .u8 xs) : (convert 22 9 (.slice a xs.length c)).run Tryz.prog w = .ok (.string (str xs)) w := by
  rw [run_convert_bytes_string w 22 9 5 a xs.length c Tryz.underlying22 Tryz.underlying5 Tryz.underlying9]
  cases a with
  | none =>
    obtain rfl : xs = [] := by
      by_cases h0 : 0 < xs.length
      · obtain ⟨off, h, _⟩ := hr h0
        simp at h
      · exact List.eq_nil_of_length_eq_zero (by omega)
    simp [Conv.bytesToString, str]
  | some ad =>
    have hl := run_loadCells_list (P := Tryz.prog) w ad (xs.map (Value.int .u8)) (fun j v hj => by
      have hjl : j < xs.length := by
        have := (List.getElem?_eq_some_iff.1 hj).1
        simpa using this
      obtain ⟨off, ha, hcc⟩ := hr (by omega)
      simp only [Option.some.injEq] at ha
      subst ha
      rw [add_mid, hcc j hjl]
      simpa [hjl] using hj)
    rw [List.length_map] at hl
    exact run_bytesToString w ad xs.length c xs hl

/-- The source of what is drawn: its code, and how often it was asked. -/
structure Src (w : World) (s : Nat) (a : Option Addr) (n c : Nat) (at_ : Int) : Prop where
  code : w.cell? ⟨s, 0, none⟩ = some (.slice a n c)
  at_ : w.cell? ⟨s, 1, none⟩ = some (.int .i64 at_)
  free : w.frozen? ⟨s, 1, none⟩ = false

theorem Src.lt {w : World} {s : Nat} {a : Option Addr} {n c : Nat} {t : Int} (h : Src w s a n c t) : s < w.heap.size := block_lt_of_cell h.code

theorem Src.of_block {w w' : World} {s : Nat} {a : Option Addr} {n c : Nat} {t : Int} (h : Src w s a n c t) (hb : w'.heap[s]? = w.heap[s]?) : Src w' s a n c t :=
  ⟨(World.cell?_of_block (a := ⟨s, 0, none⟩) hb).trans h.code, (World.cell?_of_block (a := ⟨s, 1, none⟩) hb).trans h.at_, (World.frozen?_of_block (a := ⟨s, 1, none⟩) hb).trans h.free⟩

theorem Src.up {w w' : World} {s : Nat} {a : Option Addr} {n c : Nat} {t : Int} (h : Src w s a n c t) (hb : Below w.heap.size w w') : Src w' s a n c t := h.of_block (hb.block s h.lt)

theorem Src.step {w : World} {s : Nat} {a : Option Addr} {n c : Nat} {t : Int} (h : Src w s a n c t) (u : Int) (m : Nat) : Src ((w.setCell ⟨s, 1, none⟩ (.int .i64 u)).drewN m) s a n c u := by
  refine ⟨?_, ?_, ?_⟩
  · rw [World.cell?_drewN, World.cell?_setCell_other (h := by simp)]; exact h.code
  · rw [World.cell?_drewN, World.cell?_setCell_same _ _ _ h.at_]
  · rw [World.frozen?_drewN, World.frozen?_setCell]; exact h.free

theorem Only.step (w : World) (s : Nat) (u : Value) (m : Nat) : Only s w ((w.setCell ⟨s, 1, none⟩ u).drewN m) := (Only.setCell w s 1 u).trans (Only.drewN _ _ _)

theorem But.refl (g : Nat) (w : World) : But g w w := ⟨rfl, rfl, rfl, Nat.le_refl _, fun _ _ _ => rfl⟩

theorem But.only {g : Nat} {a b c : World} (h : But g a b) (k : Only g b c) : But g a c :=
  ⟨k.os.trans h.os, k.tape.trans h.tape, k.output.trans h.output, by rw [k.size]; exact h.size, fun i hi hne => (k.block i hne).trans (h.block i hi hne)⟩

theorem But.grown {g : Nat} {a b c : World} {row : Option Nat} (h : But g a b) (k : b.grownBy c row) (hr : ∀ i, row = some i → a.heap.size ≤ i) : But g a c :=
  ⟨k.os.trans h.os, k.tape.trans h.tape, k.output.trans h.output, Nat.le_trans h.size k.size, fun i hi hne => (k.block i (Nat.lt_of_lt_of_le hi h.size) (fun e => by have := hr i e.symm; omega)).trans (h.block i hi hne)⟩

theorem But.trans {g : Nat} {a b c : World} (h : But g a b) (k : But g b c) : But g a c :=
  ⟨k.os.trans h.os, k.tape.trans h.tape, k.output.trans h.output, Nat.le_trans h.size k.size, fun i hi hne => (k.block i (Nat.lt_of_lt_of_le hi h.size) hne).trans (h.block i hi hne)⟩

theorem But.ofBelow {g : Nat} {a b : World} (h : Below a.heap.size a b) : But g a b := ⟨h.os, h.tape, h.output, h.size, fun i hi _ => h.block i hi⟩

theorem But.ofOnly {g : Nat} {a b : World} (h : Only g a b) : But g a b := (But.refl g a).only h

theorem Rd.but {w w' : World} {g g' : Nat} {a : Option Addr} {k : IntKind} {xs : List Int} (h : Rd w g a k xs) (ho : But g' w w') (hne : 0 < xs.length → g ≠ g') : Rd w' g a k xs := by
  by_cases h0 : 0 < xs.length
  · exact h.of_block (ho.block g (h.lt h0) (hne h0))
  · exact fun h1 => absurd h1 h0

theorem Only.grown {g : Nat} {a b : World} (h : Only g a b) : a.grownBy b (some g) := ⟨h.os, h.tape, h.output, Nat.le_of_eq h.size.symm, fun k _ hne => h.block k (fun e => hne (by rw [e]))⟩

theorem byt_snoc {ys : List Int} (h : Byt ys) (x : Int) (h0 : 0 ≤ x) (h1 : x < 256) : Byt (ys ++ [x]) := by
  intro i
  by_cases hi : i < ys.length
  · have := h i
    simpa [List.getElem?_append, hi] using this
  · by_cases e : i = ys.length
    · subst e; simp; exact ⟨h0, h1⟩
    · rw [List.getD_eq_getElem?_getD, List.getElem?_eq_none (by simp; omega)]
      decide

theorem But.setCell {g b off : Nat} {a w : World} {u : Value} (h : But g a w) (hb : a.heap.size ≤ b) : But g a (w.setCell ⟨b, off, none⟩ u) :=
  ⟨h.os, h.tape, h.output, by simpa [World.setCell] using h.size, fun k hk hne => (heap_setCell_other w ⟨b, off, none⟩ k u (by show k ≠ b; omega)).trans (h.block k hk hne)⟩

/-- A row that the call made: where it lies, and that it may be read again. -/
def Row (w : World) (g : Nat) (a : Option Addr) (c : Nat) (xs : List Int) : Prop := Own w g a .u8 xs ∧ (a = none → c = 0) ∧ xs.length ≤ c

end Go.Proofs.YtdbgdiahddpgkaaGreat

/-
  Texts held against each other: cut out of DrS and Sa16.
-/
namespace Go.Proofs.YtdbgdiahddpgkaaGreat
open Go.RowKit

theorem str_data : ∀ (xs : List Int) (acc : ByteArray), (xs.foldl (fun r n => r.push (UInt8.ofNat n.toNat)) acc).data = acc.data ++ (xs.map (fun n => UInt8.ofNat n.toNat)).toArray
  | [], acc => by simp
  | x :: r, acc => by
    rw [List.foldl_cons, str_data r]
    simp [ByteArray.push]

theorem toList_inj {s t : ByteArray} (h : s.toList = t.toList) : s = t := by
  rw [ByteArray.toList_eq, ByteArray.toList_eq] at h
  have := Array.ext' h
  cases s; cases t; simp_all

theorem str_inj {xs ys : List Int} (hx : Byt xs) (hy : Byt ys) (h : str xs = str ys) : xs = ys := by
  have h1 : (xs.map (fun n => UInt8.ofNat n.toNat)) = (ys.map (fun n => UInt8.ofNat n.toNat)) := by
    have := congrArg ByteArray.data h
    unfold str at this
    rw [str_data, str_data] at this
    simpa using this
  have hl : xs.length = ys.length := by have := congrArg List.length h1; simpa using this
  refine eq_of_getD hl (fun i hi => ?_)
  have h2 : (xs.map (fun n => UInt8.ofNat n.toNat))[i]? = (ys.map (fun n => UInt8.ofNat n.toNat))[i]? := by rw [h1]
  have a := hx i
  have b := hy i
  have hi' : i < ys.length := by omega
  simp [hi, hi'] at h2 a b ⊢
  have h3 := congrArg UInt8.toNat h2
  simp at h3
  omega

end Go.Proofs.YtdbgdiahddpgkaaGreat

/-
  bytes.Equal.
-/
namespace Go.Proofs.YtdbgdiahddpgkaaGreat
open Go Go.RowKit

set_option maxRecDepth 100000 in
theorem bytesEqual_any (w : World) (g g' : Nat) (a b : Option Addr) (ca cb : Nat) (xs ys : List Int) (ha : Rd w g a .u8 xs) (hb : Rd w g' b .u8 ys) (hx : Byt xs) (hy : Byt ys) :
    Calls Tryz.prog 58 #[.slice a xs.length ca, .slice b ys.length cb] w fun e w' => e = .returned (.bool (decide (xs = ys))) ∧ w' = w := by
  have h1 := conv_run w g a ca xs ha
  have h2 := conv_run w g' b cb ys hb
  by_cases e : xs = ys
  · subst e
    generalize str xs = s at *
    go_enter Tryz.func58, Tryz.ntmps58
    go_wp2
    go_ret
    exact ⟨by simp, rfl⟩
  · have D := hide (show decide (xs = ys) = false by simpa using e)
    have h3 : str xs ≠ str ys := fun h => e (str_inj hx hy h)
    generalize str xs = s at *
    generalize str ys = t at *
    have H3 := hide h3
    clear h3 e
    go_enter Tryz.func58, Tryz.ntmps58
    go_wp2
    go_ret
    have e : (s.toList == t.toList) = false := by
      cases h : (s.toList == t.toList)
      · rfl
      · exact absurd (toList_inj (beq_iff_eq.1 h)) H3.out
    exact ⟨by rw [D.out, ← e]; rfl, rfl⟩
end Go.Proofs.YtdbgdiahddpgkaaGreat

/-
  Messages: lists and texts held against each other by the program.
-/
namespace Go.Proofs.YtdbgdiahddpgkaaGreat
open Go Go.RowKit

set_option maxHeartbeats 1000000 in
theorem equalTexts_any (w : World) (g g' : Nat) (a b : Option Addr) (ca cb : Nat) (ls ms : List (List UInt8)) (ha : RdT w g a ls) (hb : RdT w g' b ms) (hn : ls.length ≤ 1048576) (_hm : ms.length ≤ 1048576) :
    Calls Tryz.prog 59 #[.slice a ls.length ca, .slice b ms.length cb] w fun e w' => e = .returned (.bool (decide (ls = ms))) ∧ Below w.heap.size w w' := by
  by_cases hl : ls.length = ms.length
  · have d0 : ((ls.length : Int) != (ms.length : Int)) = false := by simp [hl]
    have E := hide (show ∀ k, k < ls.length → ls.getD k [] ≠ ms.getD k [] → decide (ls = ms) = false from fun k _ hne => decide_eq_false fun h => hne (by rw [h]))
    have HL := hide hl
    rw [← hl]
    have HB : Hid (0 < ls.length → ∃ off, b = some ⟨g', off, none⟩ ∧ ∀ i, i < ls.length → w.cell? ⟨g', off + i, none⟩ = some (tx (ms.getD i []))) := fun h => by
      obtain ⟨o, e, hc⟩ := hb (by omega)
      exact ⟨o, e, fun i hi => hc i (by omega)⟩
    clear hl hb
    go_enter Tryz.func59, Tryz.ntmps59
    go_wp2
    go_loopw [13] (fun i wr => ∃ (k n : Nat), k ≤ ls.length ∧ i = .int .i64 k ∧ wr = w.drewN n ∧ ∀ j, j < k → ls.getD j [] = ms.getD j []) (fun i _ => ls.length - (intOf i).toNat)
    case atStart => exact ⟨0, 0, Nat.zero_le _, rfl, rfl, fun j hj => absurd hj (by omega)⟩
    case round =>
      obtain ⟨k, n, hk, rfl, rfl, hall⟩ := hrel
      by_cases hlt : k < ls.length
      · obtain ⟨off, rfl, hc⟩ := ha (by omega)
        obtain ⟨off', rfl, hc'⟩ := HB.out (by omega)
        have h1 := hc k hlt
        have h2 := hc' k hlt
        have hlt' : (k : Int) < (ls.length : Int) := by omega
        have EK := hide (E.out k hlt)
        have HALL := hide hall
        clear hc hc' E hall HB
        generalize hx : ls.getD k [] = x at *
        generalize hy : ms.getD k [] = y at *
        have HX := hide hx
        have HY := hide hy
        clear hx hy
        unfold tx at h1 h2
        by_cases hxy : x = y
        · subst hxy
          have e1 : (x != x) = false := by simp
          have e2 : (x == x) = true := by simp
          have NXT : Hid (∀ j, j < k + 1 → ls.getD j [] = ms.getD j []) := fun j hj => by
            by_cases h : j = k
            · subst h
              rw [HX.out, HY.out]
            · exact HALL.out j (by omega)
          clear HALL EK
          go_wp2
          go_region
          go_wp2
          go_roundw
          case rel => exact ⟨k + 1, _, by omega, by go_num, rfl, NXT.out⟩
          case measure => simp [intOf]; omega
        · have e1 : (x != y) = true := by simpa using hxy
          have e2 : (x == y) = false := by simpa using hxy
          have F := hide (EK.out hxy)
          clear HALL EK
          go_wp2
          go_region
          go_wp2
          go_ret
          exact ⟨by rw [F.out]; rfl, below_drewN (Below.refl _ _) _⟩
      · obtain rfl : k = ls.length := by omega
        have T : Hid (decide (ls = ms) = true) := decide_eq_true (List.ext_getElem HL.out fun i h1 h2 => by
          have := hall i h1
          rw [List.getD_eq_getElem?_getD, List.getD_eq_getElem?_getD, List.getElem?_eq_getElem h1, List.getElem?_eq_getElem h2] at this
          exact this)
        clear hall E HB ha
        go_wp2
        go_ret
        exact ⟨by rw [T.out]; rfl, below_drewN (Below.refl _ _) _⟩
  · have d0 : ((ls.length : Int) != (ms.length : Int)) = true := by simp; omega
    have D := hide (show decide (ls = ms) = false from decide_eq_false fun h => hl (by rw [h]))
    clear ha hb hl
    go_enter Tryz.func59, Tryz.ntmps59
    go_wp2
    go_ret
    exact ⟨by rw [D.out]; rfl, Below.refl _ _⟩
end Go.Proofs.YtdbgdiahddpgkaaGreat

/-
  Messages: rows of lists (Certs), held against each other and looked through.
-/
namespace Go.Proofs.YtdbgdiahddpgkaaGreat
open Go Go.RowKit

/-- Where a list lies. -/
structure Plb where
  a : Option Addr
  c : Nat
  q : Nat
def plb0 : Plb := ⟨none, 0, 0⟩
/-- A row of lists that may be read. -/
structure RdL (w : World) (g : Nat) (a : Option Addr) (bs : List (List Int)) (ps : List Plb) : Prop where
  r : 0 < bs.length → ∃ off, a = some ⟨g, off, none⟩ ∧ ∀ i, i < bs.length → w.cell? ⟨g, off + i, none⟩ = some (.slice (ps.getD i plb0).a (bs.getD i []).length (ps.getD i plb0).c)
  b : ∀ i, i < bs.length → Rd w (ps.getD i plb0).q (ps.getD i plb0).a .u8 (bs.getD i [])
theorem RdL.up {w w' : World} {g : Nat} {a : Option Addr} {bs : List (List Int)} {ps : List Plb} (h : RdL w g a bs ps) (n : Below w.heap.size w w') : RdL w' g a bs ps :=
  ⟨fun h0 => by
    obtain ⟨o, e, hc⟩ := h.r h0
    refine ⟨o, e, fun i hi => ?_⟩
    have := hc i hi
    rw [World.cell?_of_block (a := ⟨g, o + i, none⟩) (n.block g (block_lt_of_cell this))]
    exact this, fun i hi => (h.b i hi).up n⟩
theorem blobEq_any (w : World) (g g' : Nat) (a b : Option Addr) (ca cb : Nat) (xs ys : List Int) (ha : Rd w g a .u8 xs) (hb : Rd w g' b .u8 ys) (hx : Byt xs) (hy : Byt ys) :
    Calls Tryz.prog 57 #[.agg #[.slice a xs.length ca], .agg #[.slice b ys.length cb]] w fun e w' => e = .returned (.bool (decide (xs = ys))) ∧ Below w.heap.size w w' := by
  have n1 : Below w.heap.size w (w.alloc (.cells #[.slice a xs.length ca] 54)) := (Below.refl _ _).alloc (Nat.le_refl _) _
  have n2 : Below w.heap.size w ((w.alloc (.cells #[.slice a xs.length ca] 54)).alloc (.cells #[.slice b ys.length cb] 54)) := n1.alloc n1.size _
  have BE := hide (bytesEqual_any _ g g' a b ca cb xs ys (ha.up n2) (hb.up n2) hx hy)
  have N2 := hide n2
  clear ha hb hx hy n1 n2
  generalize decide (xs = ys) = d at *
  go_enter Tryz.func57, Tryz.ntmps57
  go_wp2_with fail
  refine BE.out.mono ?_
  rintro e w1 ⟨rfl, rfl⟩
  go_wp2
  go_ret
  exact ⟨rfl, N2.out⟩
/-- A Certificate of another size. -/
def ctO (n : Nat) : Bool := decide (n = 0) || decide (2000 < n)
theorem certOut_any (w : World) (a : Option Addr) (c n : Nat) (hn : n ≤ 1048576) :
    Calls Tryz.prog 118 #[.agg #[.slice a n c]] w fun e w' => e = .returned (.bool (ctO n)) ∧ Below w.heap.size w w' := by
  have n1 : Hid (Below w.heap.size w (w.alloc (.cells #[.slice a n c] 54))) := (Below.refl _ _).alloc (Nat.le_refl _) _
  have E := hide (show ctO n = (decide (n = 0) || decide (2000 < n)) from rfl)
  generalize ctO n = f at *
  by_cases k0 : n = 0
  · subst k0
    obtain rfl : f = true := E.out
    go_enter Tryz.func118, Tryz.ntmps118
    go_wp2
    go_ret
    exact ⟨rfl, n1.out⟩
  · have e0 : ((n : Int) == 0) = false := by simp; omega
    by_cases k1 : 2000 < n
    · have EF : f = true := by rw [E.out]; simp [k1]
      subst EF
      have d1 : decide ((2000 : Int) < (n : Int)) = true := by simp; omega
      go_enter Tryz.func118, Tryz.ntmps118
      go_wp2
      go_ret
      exact ⟨rfl, n1.out⟩
    · have EF : f = false := by rw [E.out]; simp [k0, k1]
      subst EF
      have d1 : decide ((2000 : Int) < (n : Int)) = false := by simp; omega
      go_enter Tryz.func118, Tryz.ntmps118
      go_wp2
      go_ret
      exact ⟨rfl, n1.out⟩
end Go.Proofs.YtdbgdiahddpgkaaGreat

/-
  Messages: Certs looked through, and held against others; the fault of Certificates.
-/
namespace Go.Proofs.YtdbgdiahddpgkaaGreat
open Go Go.RowKit

def ctA (bs : List (List Int)) : Bool := bs.any fun b => ctO b.length
theorem ctA_yes {bs : List (List Int)} {k : Nat} (hk : k < bs.length) (h : ctO (bs.getD k []).length = true) : ctA bs = true := by
  unfold ctA
  rw [List.any_eq_true]
  refine ⟨bs.getD k [], ?_, h⟩
  rw [List.getD_eq_getElem?_getD, List.getElem?_eq_getElem hk]
  exact List.getElem_mem hk
theorem ctA_no {bs : List (List Int)} (h : ∀ j, j < bs.length → ctO (bs.getD j []).length = false) : ctA bs = false := by
  unfold ctA
  rw [List.any_eq_false]
  intro b hb
  obtain ⟨i, hi, e⟩ := List.getElem_of_mem hb
  have := h i hi
  rw [List.getD_eq_getElem?_getD, List.getElem?_eq_getElem hi] at this
  simpa [← e] using this
set_option maxHeartbeats 1000000 in
theorem certIndex_any (w : World) (g : Nat) (a : Option Addr) (c : Nat) (bs : List (List Int)) (ps : List Plb) (hr : RdL w g a bs ps) (hn : bs.length ≤ 1048576) (hz : ∀ i, i < bs.length → (bs.getD i []).length ≤ 1048576) :
    Calls Tryz.prog 120 #[.slice a bs.length c, .func (Fn.func 118) #[] #[]] w fun e w' => ∃ r : Int, e = .returned (.int .i64 r) ∧ decide (0 ≤ r) = ctA bs ∧ Below w.heap.size w w' := by
  go_enter Tryz.func120, Tryz.ntmps120
  go_wp2
  go_loopw [8] (fun i wr => ∃ (k : Nat), k ≤ bs.length ∧ i = .int .i64 k ∧ Below w.heap.size w wr ∧ ∀ j, j < k → ctO (bs.getD j []).length = false) (fun i _ => bs.length - (intOf i).toNat)
  case atStart => exact ⟨0, Nat.zero_le _, rfl, Below.refl _ _, fun j hj => absurd hj (by omega)⟩
  case round =>
    obtain ⟨k, hk, rfl, N, hall⟩ := hrel
    by_cases hlt : k < bs.length
    · obtain ⟨off, rfl, hc⟩ := (hr.up N).r (by omega)
      have t0 : (k : Int) < (bs.length : Int) := by omega
      have c1 := hc k hlt
      have CO := hide (certOut_any wr (ps.getD k plb0).a (ps.getD k plb0).c (bs.getD k []).length (hz k hlt))
      have YES := hide (fun h => ctA_yes hlt h)
      have HALL := hide hall
      have HN := hide N
      clear hc hall N
      generalize (ps.getD k plb0).a = pa at *
      generalize (ps.getD k plb0).c = pc at *
      generalize hx : (bs.getD k []).length = x at *
      have HX := hide hx
      clear hx
      generalize hv : ctO x = v at *
      have HV := hide hv
      clear hv
      go_wp2_with fail
      refine CO.out.mono ?_
      rintro e w1 ⟨rfl, n1⟩
      have N1 := hide (nxt HN.out n1)
      clear CO n1 HN
      cases v with
      | true =>
        have Y := hide (YES.out (by first | rfl | exact HV.out))
        clear YES HALL
        go_wp2
        go_ret
        exact ⟨_, rfl, by rw [Y.out]; simp, N1.out⟩
      | false =>
        have NXT : Hid (∀ j, j < k + 1 → ctO (bs.getD j []).length = false) := fun j hj => by
          by_cases h : j = k
          · subst h
            rw [HX.out]
            exact HV.out
          · exact HALL.out j (by omega)
        clear YES HALL
        go_wp2
        go_roundw
        case rel => exact ⟨k + 1, by omega, by go_num, N1.out, NXT.out⟩
        case measure => simp [intOf]; omega
    · obtain rfl : k = bs.length := by omega
      have NO := hide (ctA_no hall)
      have HN := hide N
      clear hall hr N
      go_wp2
      go_ret
      exact ⟨-1, rfl, by rw [NO.out]; rfl, HN.out⟩
theorem certContains_any (w : World) (g : Nat) (a : Option Addr) (c : Nat) (bs : List (List Int)) (ps : List Plb) (hr : RdL w g a bs ps) (hn : bs.length ≤ 1048576) (hz : ∀ i, i < bs.length → (bs.getD i []).length ≤ 1048576) :
    Calls Tryz.prog 119 #[.slice a bs.length c, .func (Fn.func 118) #[] #[]] w fun e w' => e = .returned (.bool (ctA bs)) ∧ Below w.heap.size w w' := by
  have IX := hide (certIndex_any w g a c bs ps hr hn hz)
  clear hr hz
  generalize ctA bs = v at *
  go_enter Tryz.func119, Tryz.ntmps119
  go_wp2_with fail
  refine IX.out.mono ?_
  rintro e w1 ⟨r, rfl, hr, n1⟩
  have HR := hide hr
  have N1 := hide n1
  clear hr n1 IX
  go_wp2
  go_ret
  exact ⟨by rw [← HR.out]; rfl, N1.out⟩
def ceF (bs : List (List Int)) : Int := if bs.length = 0 then 8 else if 4 < bs.length then 8 else if ctA bs = true then 8 else 0
set_option maxHeartbeats 1000000 in
theorem certsFault_any (w : World) (q g : Nat) (a : Option Addr) (c : Nat) (bs : List (List Int)) (ps : List Plb) (hr : RdL w g a bs ps) (hn : bs.length ≤ 1048576) (hz : ∀ i, i < bs.length → (bs.getD i []).length ≤ 1048576) (h0 : w.cell? ⟨q, 0, none⟩ = some (.slice a bs.length c)) :
    Calls Tryz.prog 115 #[.pointer (some ⟨q, 0, none⟩)] w fun x w' => x = .returned (.int .i64 (ceF bs)) ∧ Below w.heap.size w w' := by
  have E := hide (show ceF bs = if bs.length = 0 then 8 else if 4 < bs.length then 8 else if ctA bs = true then 8 else 0 from rfl)
  have CC := hide (certContains_any w g a c bs ps hr hn hz)
  clear hr hz
  generalize ceF bs = f at *
  generalize ctA bs = v at *
  by_cases k0 : bs.length = 0
  · have EF : f = 8 := by rw [E.out, if_pos k0]
    subst EF
    have e0 : ((bs.length : Int) == 0) = true := by simp [k0]
    clear E CC k0
    go_enter Tryz.func115, Tryz.ntmps115
    go_wp2
    go_ret
    exact ⟨rfl, Below.refl _ _⟩
  · have e0 : ((bs.length : Int) == 0) = false := by rw [beq_eq_false_iff_ne]; omega
    by_cases k1 : 4 < bs.length
    · have EF : f = 8 := by rw [E.out, if_neg k0, if_pos k1]
      subst EF
      have d1 : decide ((4 : Int) < (bs.length : Int)) = true := by simp; omega
      clear E CC
      go_enter Tryz.func115, Tryz.ntmps115
      go_wp2
      go_ret
      exact ⟨rfl, Below.refl _ _⟩
    · have EF := hide (show f = if v = true then 8 else 0 by rw [E.out, if_neg k0, if_neg k1])
      have d1 : decide ((4 : Int) < (bs.length : Int)) = false := by simp; omega
      clear E
      go_enter Tryz.func115, Tryz.ntmps115
      go_wp2_with fail
      refine CC.out.mono ?_
      rintro e w1 ⟨rfl, n1⟩
      cases v with
      | false =>
        go_wp2
        go_ret
        exact ⟨by rw [EF.out]; rfl, n1⟩
      | true =>
        go_wp2
        go_ret
        exact ⟨by rw [EF.out]; rfl, n1⟩
end Go.Proofs.YtdbgdiahddpgkaaGreat

/-
  Messages: what the kinds take over.
-/
namespace Go.Proofs.YtdbgdiahddpgkaaGreat
open Go Go.RowKit

/-- All blocks but q are as they were. -/
structure Oth (q : Nat) (w w' : World) : Prop where
  os : w'.os = w.os
  tape : w'.tape = w.tape
  output : w'.output = w.output
  size : w.heap.size ≤ w'.heap.size
  block : ∀ k, k < w.heap.size → k ≠ q → w'.heap[k]? = w.heap[k]?
theorem Oth.refl (q : Nat) (w : World) : Oth q w w := ⟨rfl, rfl, rfl, Nat.le_refl _, fun _ _ _ => rfl⟩
theorem Oth.trans {q : Nat} {a b c : World} (h : Oth q a b) (k : Oth q b c) : Oth q a c :=
  ⟨k.os.trans h.os, k.tape.trans h.tape, k.output.trans h.output, Nat.le_trans h.size k.size, fun i hi hn => (k.block i (Nat.lt_of_lt_of_le hi h.size) hn).trans (h.block i hi hn)⟩
theorem Oth.of {q : Nat} {w w' : World} (h : Below w.heap.size w w') : Oth q w w' := ⟨h.os, h.tape, h.output, h.size, fun k hk _ => h.block k hk⟩
theorem Oth.alloc {q : Nat} {a w : World} (h : Oth q a w) (o : Obj) : Oth q a (w.alloc o) := h.trans (Oth.of ((Below.refl _ _).alloc (Nat.le_refl _) o))
theorem Oth.drew {q : Nat} {a w : World} (h : Oth q a w) : Oth q a w.drew := ⟨h.os, h.tape, h.output, h.size, h.block⟩
theorem Oth.drews {q : Nat} {a w : World} (h : Oth q a w) (n : Nat) : Oth q a (w.drewN n) := ⟨h.os, h.tape, h.output, h.size, h.block⟩
theorem Oth.setCell {q : Nat} {a w : World} (h : Oth q a w) (i : Nat) (v : Value) : Oth q a (w.setCell ⟨q, i, none⟩ v) :=
  h.trans ⟨rfl, rfl, rfl, by simp [World.setCell], fun k _ hk => Below.heap_setCell _ _ _ _ hk⟩
theorem Oth.below {q B : Nat} {w w' : World} (h : Oth q w w') (hq : B ≤ q) (hB : B ≤ w.heap.size) : Below B w w' := ⟨h.os, h.tape, h.output, h.size, fun k hk => h.block k (by omega) (by omega)⟩
theorem RwC.oth {w w' : World} {q r : Nat} {cs : List Value} {t : TypeId} (h : RwC w q cs t) (n : Oth r w w') (hne : q ≠ r) : RwC w' q cs t := (n.block q h.lt hne).trans h

section
variable (w : World) (q : Nat) (t : TypeId) (us : List Value) (u0 u1 u2 u3 u4 u5 u6 u7 u8 : Value) (k v ag ea : Int) (a2 a3 a5 a6 a9 a11 a12 : Option Addr) (n2 n3 n5 n6 n9 n11 n12 c2 c3 c5 c6 c9 c11 c12 : Nat) (ho : ByteArray) (rs : Bool)
set_option maxHeartbeats 400000 in
theorem firstTake_any (h : RwC w q (u0 :: u1 :: u2 :: us) t) :
    Calls Tryz.prog 91 #[.pointer (some ⟨q, 0, none⟩), .agg #[Value.int .i64 k, Value.int .i64 v, Value.slice a2 n2 c2, Value.slice a3 n3 c3, Value.string ho, Value.slice a5 n5 c5, Value.slice a6 n6 c6, Value.int .i64 ag, Value.int .i64 ea, Value.slice a9 n9 c9, Value.bool rs, Value.slice a11 n11 c11, Value.slice a12 n12 c12]] w fun e w' => e = .returned (.tuple #[]) ∧ Oth q w w' ∧ RwC w' q (Value.int .i64 v :: Value.slice a2 n2 c2 :: Value.slice a3 n3 c3 :: us) t := by
  have lt := h.lt
  have nq : w.heap.size ≠ q := by omega
  have qn : q ≠ w.heap.size := by omega
  have h0 : w.cell? ⟨q, 0, none⟩ = some u0 := h.cell 0
  have f0 := h.free 0
  have h1 : w.cell? ⟨q, 1, none⟩ = some u1 := h.cell 1
  have f1 := h.free 1
  have h2 : w.cell? ⟨q, 2, none⟩ = some u2 := h.cell 2
  have f2 := h.free 2
  have H := hide h
  clear h
  go_enter Tryz.func91, Tryz.ntmps91
  go_wp2
  go_region
  go_end0
  refine ⟨rfl, ?_, ?_⟩
  · repeat (with_reducible first | exact Oth.refl _ _ | apply Oth.drew | apply Oth.drews | apply Oth.alloc | apply Oth.setCell)
  · repeat (with_reducible first | apply RwC.drew1 | apply RwC.drews | apply RwC.push)
    exact (((H.out.set 0 _).set 1 _).set 2 _)
set_option maxHeartbeats 400000 in
theorem ticketTake_any (h : RwC w q ([u0, u1, u2, u3]) t) :
    Calls Tryz.prog 105 #[.pointer (some ⟨q, 0, none⟩), .agg #[Value.int .i64 k, Value.int .i64 v, Value.slice a2 n2 c2, Value.slice a3 n3 c3, Value.string ho, Value.slice a5 n5 c5, Value.slice a6 n6 c6, Value.int .i64 ag, Value.int .i64 ea, Value.slice a9 n9 c9, Value.bool rs, Value.slice a11 n11 c11, Value.slice a12 n12 c12]] w fun e w' => e = .returned (.tuple #[]) ∧ Oth q w w' ∧ RwC w' q ([Value.int .i64 ag, Value.int .i64 ea, Value.slice a2 n2 c2, Value.slice a6 n6 c6]) t := by
  have lt := h.lt
  have nq : w.heap.size ≠ q := by omega
  have qn : q ≠ w.heap.size := by omega
  have h0 : w.cell? ⟨q, 0, none⟩ = some u0 := h.cell 0
  have f0 := h.free 0
  have h1 : w.cell? ⟨q, 1, none⟩ = some u1 := h.cell 1
  have f1 := h.free 1
  have h2 : w.cell? ⟨q, 2, none⟩ = some u2 := h.cell 2
  have f2 := h.free 2
  have h3 : w.cell? ⟨q, 3, none⟩ = some u3 := h.cell 3
  have f3 := h.free 3
  have H := hide h
  clear h
  go_enter Tryz.func105, Tryz.ntmps105
  go_wp2
  go_region
  go_end0
  refine ⟨rfl, ?_, ?_⟩
  · repeat (with_reducible first | exact Oth.refl _ _ | apply Oth.drew | apply Oth.drews | apply Oth.alloc | apply Oth.setCell)
  · repeat (with_reducible first | apply RwC.drew1 | apply RwC.drews | apply RwC.push)
    exact ((((H.out.set 0 _).set 1 _).set 2 _).set 3 _)
set_option maxHeartbeats 400000 in
theorem extrasTake_any (h : RwC w q ([u0, u1]) t) :
    Calls Tryz.prog 113 #[.pointer (some ⟨q, 0, none⟩), .agg #[Value.int .i64 k, Value.int .i64 v, Value.slice a2 n2 c2, Value.slice a3 n3 c3, Value.string ho, Value.slice a5 n5 c5, Value.slice a6 n6 c6, Value.int .i64 ag, Value.int .i64 ea, Value.slice a9 n9 c9, Value.bool rs, Value.slice a11 n11 c11, Value.slice a12 n12 c12]] w fun e w' => e = .returned (.tuple #[]) ∧ Oth q w w' ∧ RwC w' q ([Value.slice a5 n5 c5, Value.int .i64 ea]) t := by
  have lt := h.lt
  have nq : w.heap.size ≠ q := by omega
  have qn : q ≠ w.heap.size := by omega
  have h0 : w.cell? ⟨q, 0, none⟩ = some u0 := h.cell 0
  have f0 := h.free 0
  have h1 : w.cell? ⟨q, 1, none⟩ = some u1 := h.cell 1
  have f1 := h.free 1
  have H := hide h
  clear h
  go_enter Tryz.func113, Tryz.ntmps113
  go_wp2
  go_region
  go_end0
  refine ⟨rfl, ?_, ?_⟩
  · repeat (with_reducible first | exact Oth.refl _ _ | apply Oth.drew | apply Oth.drews | apply Oth.alloc | apply Oth.setCell)
  · repeat (with_reducible first | apply RwC.drew1 | apply RwC.drews | apply RwC.push)
    exact ((H.out.set 0 _).set 1 _)
set_option maxHeartbeats 400000 in
theorem certsTake_any (h : RwC w q ([u0]) t) :
    Calls Tryz.prog 117 #[.pointer (some ⟨q, 0, none⟩), .agg #[Value.int .i64 k, Value.int .i64 v, Value.slice a2 n2 c2, Value.slice a3 n3 c3, Value.string ho, Value.slice a5 n5 c5, Value.slice a6 n6 c6, Value.int .i64 ag, Value.int .i64 ea, Value.slice a9 n9 c9, Value.bool rs, Value.slice a11 n11 c11, Value.slice a12 n12 c12]] w fun e w' => e = .returned (.tuple #[]) ∧ Oth q w w' ∧ RwC w' q ([Value.slice a11 n11 c11]) t := by
  have lt := h.lt
  have nq : w.heap.size ≠ q := by omega
  have qn : q ≠ w.heap.size := by omega
  have h0 : w.cell? ⟨q, 0, none⟩ = some u0 := h.cell 0
  have f0 := h.free 0
  have H := hide h
  clear h
  go_enter Tryz.func117, Tryz.ntmps117
  go_wp2
  go_end0
  refine ⟨rfl, ?_, ?_⟩
  · repeat (with_reducible first | exact Oth.refl _ _ | apply Oth.drew | apply Oth.drews | apply Oth.alloc | apply Oth.setCell)
  · repeat (with_reducible first | apply RwC.drew1 | apply RwC.drews | apply RwC.push)
    exact (H.out.set 0 _)
set_option maxHeartbeats 400000 in
theorem proofTake_any (h : RwC w q ([u0]) t) :
    Calls Tryz.prog 124 #[.pointer (some ⟨q, 0, none⟩), .agg #[Value.int .i64 k, Value.int .i64 v, Value.slice a2 n2 c2, Value.slice a3 n3 c3, Value.string ho, Value.slice a5 n5 c5, Value.slice a6 n6 c6, Value.int .i64 ag, Value.int .i64 ea, Value.slice a9 n9 c9, Value.bool rs, Value.slice a11 n11 c11, Value.slice a12 n12 c12]] w fun e w' => e = .returned (.tuple #[]) ∧ Oth q w w' ∧ RwC w' q ([Value.slice a12 n12 c12]) t := by
  have lt := h.lt
  have nq : w.heap.size ≠ q := by omega
  have qn : q ≠ w.heap.size := by omega
  have h0 : w.cell? ⟨q, 0, none⟩ = some u0 := h.cell 0
  have f0 := h.free 0
  have H := hide h
  clear h
  go_enter Tryz.func124, Tryz.ntmps124
  go_wp2
  go_end0
  refine ⟨rfl, ?_, ?_⟩
  · repeat (with_reducible first | exact Oth.refl _ _ | apply Oth.drew | apply Oth.drews | apply Oth.alloc | apply Oth.setCell)
  · repeat (with_reducible first | apply RwC.drew1 | apply RwC.drews | apply RwC.push)
    exact (H.out.set 0 _)
set_option maxHeartbeats 400000 in
theorem finishedTake_any (h : RwC w q ([u0]) t) :
    Calls Tryz.prog 129 #[.pointer (some ⟨q, 0, none⟩), .agg #[Value.int .i64 k, Value.int .i64 v, Value.slice a2 n2 c2, Value.slice a3 n3 c3, Value.string ho, Value.slice a5 n5 c5, Value.slice a6 n6 c6, Value.int .i64 ag, Value.int .i64 ea, Value.slice a9 n9 c9, Value.bool rs, Value.slice a11 n11 c11, Value.slice a12 n12 c12]] w fun e w' => e = .returned (.tuple #[]) ∧ Oth q w w' ∧ RwC w' q ([Value.slice a12 n12 c12]) t := by
  have lt := h.lt
  have nq : w.heap.size ≠ q := by omega
  have qn : q ≠ w.heap.size := by omega
  have h0 : w.cell? ⟨q, 0, none⟩ = some u0 := h.cell 0
  have f0 := h.free 0
  have H := hide h
  clear h
  go_enter Tryz.func129, Tryz.ntmps129
  go_wp2
  go_end0
  refine ⟨rfl, ?_, ?_⟩
  · repeat (with_reducible first | exact Oth.refl _ _ | apply Oth.drew | apply Oth.drews | apply Oth.alloc | apply Oth.setCell)
  · repeat (with_reducible first | apply RwC.drew1 | apply RwC.drews | apply RwC.push)
    exact (H.out.set 0 _)
set_option maxHeartbeats 400000 in
theorem updateTake_any (h : RwC w q ([u0]) t) :
    Calls Tryz.prog 133 #[.pointer (some ⟨q, 0, none⟩), .agg #[Value.int .i64 k, Value.int .i64 v, Value.slice a2 n2 c2, Value.slice a3 n3 c3, Value.string ho, Value.slice a5 n5 c5, Value.slice a6 n6 c6, Value.int .i64 ag, Value.int .i64 ea, Value.slice a9 n9 c9, Value.bool rs, Value.slice a11 n11 c11, Value.slice a12 n12 c12]] w fun e w' => e = .returned (.tuple #[]) ∧ Oth q w w' ∧ RwC w' q ([Value.int .i64 ea]) t := by
  have lt := h.lt
  have nq : w.heap.size ≠ q := by omega
  have qn : q ≠ w.heap.size := by omega
  have h0 : w.cell? ⟨q, 0, none⟩ = some u0 := h.cell 0
  have f0 := h.free 0
  have H := hide h
  clear h
  go_enter Tryz.func133, Tryz.ntmps133
  go_wp2
  go_end0
  refine ⟨rfl, ?_, ?_⟩
  · repeat (with_reducible first | exact Oth.refl _ _ | apply Oth.drew | apply Oth.drews | apply Oth.alloc | apply Oth.setCell)
  · repeat (with_reducible first | apply RwC.drew1 | apply RwC.drews | apply RwC.push)
    exact (H.out.set 0 _)
theorem endTake_any (x : Value) :
    Calls Tryz.prog 109 #[x, .agg #[Value.int .i64 k, Value.int .i64 v, Value.slice a2 n2 c2, Value.slice a3 n3 c3, Value.string ho, Value.slice a5 n5 c5, Value.slice a6 n6 c6, Value.int .i64 ag, Value.int .i64 ea, Value.slice a9 n9 c9, Value.bool rs, Value.slice a11 n11 c11, Value.slice a12 n12 c12]] w fun e w' => e = .returned (.tuple #[]) ∧ Below w.heap.size w w' := by
  go_enter Tryz.func109, Tryz.ntmps109
  go_wp2
  go_end0
  exact ⟨rfl, (Below.refl _ _).alloc (Nat.le_refl _) _⟩
end
end Go.Proofs.YtdbgdiahddpgkaaGreat

/-
  Messages: what Hello and Answer take over.
-/
namespace Go.Proofs.YtdbgdiahddpgkaaGreat
open Go Go.RowKit

section
variable (w : World) (q : Nat) (t : TypeId) (us : List Value) (u0 u1 u2 u3 u4 u5 u6 u7 u8 : Value) (k v ag ea : Int) (a2 a3 a5 a6 a9 a11 a12 : Option Addr) (n2 n3 n5 n6 n9 n11 n12 c2 c3 c5 c6 c9 c11 c12 : Nat) (ho : ByteArray) (rs : Bool)
set_option maxHeartbeats 1000000 in
theorem answerTake_any (h : RwC w q ([u0, u1, u2, u3]) t) :
    Calls Tryz.prog 101 #[.pointer (some ⟨q, 0, none⟩), .agg #[Value.int .i64 k, Value.int .i64 v, Value.slice a2 n2 c2, Value.slice a3 n3 c3, Value.string ho, Value.slice a5 n5 c5, Value.slice a6 n6 c6, Value.int .i64 ag, Value.int .i64 ea, Value.slice a9 n9 c9, Value.bool rs, Value.slice a11 n11 c11, Value.slice a12 n12 c12]] w fun e w' => e = .returned (.tuple #[]) ∧ Oth q w w' ∧ RwC w' q ([Value.int .i64 v, Value.slice a2 n2 c2, Value.slice a3 n3 c3, Value.bool rs]) t := by
  have lt := h.lt
  have nq : w.heap.size ≠ q := by omega
  have qn : q ≠ w.heap.size := by omega
  have HC := hide (fun W (H : RwC W q ([u0, u1, u2, u3]) t) => firstTake_any W q t [u3] u0 u1 u2 k v ag ea a2 a3 a5 a6 a9 a11 a12 n2 n3 n5 n6 n9 n11 n12 c2 c3 c5 c6 c9 c11 c12 ho rs H)
  have n1 := hide (show RwC (w.alloc (.cells #[Value.int .i64 k, Value.int .i64 v, Value.slice a2 n2 c2, Value.slice a3 n3 c3, Value.string ho, Value.slice a5 n5 c5, Value.slice a6 n6 c6, Value.int .i64 ag, Value.int .i64 ea, Value.slice a9 n9 c9, Value.bool rs, Value.slice a11 n11 c11, Value.slice a12 n12 c12] 31)) w.heap.size _ _ from RwC.new w _ 31)
  have H := hide h
  clear h
  go_enter Tryz.func101, Tryz.ntmps101
  go_wp2
  go_region_with (go_at_call 91; refine ((unhide HC) _ ?_).mono ?_; exact (H.out.push _); rintro e w2 ⟨rfl, K, R⟩)
  have B := hide ((n1.out.drew1).oth K nq)
  have b10 : w2.cell? ⟨w.heap.size, 10, none⟩ = some (Value.bool rs) := B.out.cell 10
  have h3 : w2.cell? ⟨q, 3, none⟩ = some u3 := R.cell 3
  have f3 := R.free 3
  have R2 := hide R
  have K2 := hide K
  clear R K
  go_wp2
  go_end0
  refine ⟨rfl, ?_, ?_⟩
  · repeat (with_reducible first | apply Oth.drew | apply Oth.drews | apply Oth.setCell)
    exact ((Oth.refl q w).alloc _).drew.trans K2.out
  · repeat (with_reducible first | apply RwC.drew1 | apply RwC.drews)
    exact (R2.out.set 3 _)
set_option maxHeartbeats 1000000 in
theorem helloTake_any (h : RwC w q ([u0, u1, u2, u3, u4, u5, u6, u7, u8]) t) :
    Calls Tryz.prog 80 #[.pointer (some ⟨q, 0, none⟩), .agg #[Value.int .i64 k, Value.int .i64 v, Value.slice a2 n2 c2, Value.slice a3 n3 c3, Value.string ho, Value.slice a5 n5 c5, Value.slice a6 n6 c6, Value.int .i64 ag, Value.int .i64 ea, Value.slice a9 n9 c9, Value.bool rs, Value.slice a11 n11 c11, Value.slice a12 n12 c12]] w fun e w' => e = .returned (.tuple #[]) ∧ Oth q w w' ∧ RwC w' q ([Value.int .i64 v, Value.slice a2 n2 c2, Value.slice a3 n3 c3, Value.string ho, Value.slice a5 n5 c5, Value.slice a6 n6 c6, Value.int .i64 ag, Value.int .i64 ea, Value.slice a9 n9 c9]) t := by
  have lt := h.lt
  have nq : w.heap.size ≠ q := by omega
  have qn : q ≠ w.heap.size := by omega
  have HC := hide (fun W (H : RwC W q ([u0, u1, u2, u3, u4, u5, u6, u7, u8]) t) => firstTake_any W q t [u3, u4, u5, u6, u7, u8] u0 u1 u2 k v ag ea a2 a3 a5 a6 a9 a11 a12 n2 n3 n5 n6 n9 n11 n12 c2 c3 c5 c6 c9 c11 c12 ho rs H)
  have n1 := hide (show RwC (w.alloc (.cells #[Value.int .i64 k, Value.int .i64 v, Value.slice a2 n2 c2, Value.slice a3 n3 c3, Value.string ho, Value.slice a5 n5 c5, Value.slice a6 n6 c6, Value.int .i64 ag, Value.int .i64 ea, Value.slice a9 n9 c9, Value.bool rs, Value.slice a11 n11 c11, Value.slice a12 n12 c12] 31)) w.heap.size _ _ from RwC.new w _ 31)
  have H := hide h
  clear h
  go_enter Tryz.func80, Tryz.ntmps80
  go_wp2
  go_region_with (go_at_call 91; refine ((unhide HC) _ ?_).mono ?_; exact (H.out.push _); rintro e w2 ⟨rfl, K, R⟩)
  have B := hide ((n1.out.drew1).oth K nq)
  have b4 : w2.cell? ⟨w.heap.size, 4, none⟩ = some (Value.string ho) := B.out.cell 4
  have b5 : w2.cell? ⟨w.heap.size, 5, none⟩ = some (Value.slice a5 n5 c5) := B.out.cell 5
  have b6 : w2.cell? ⟨w.heap.size, 6, none⟩ = some (Value.slice a6 n6 c6) := B.out.cell 6
  have b7 : w2.cell? ⟨w.heap.size, 7, none⟩ = some (Value.int .i64 ag) := B.out.cell 7
  have b8 : w2.cell? ⟨w.heap.size, 8, none⟩ = some (Value.int .i64 ea) := B.out.cell 8
  have b9 : w2.cell? ⟨w.heap.size, 9, none⟩ = some (Value.slice a9 n9 c9) := B.out.cell 9
  have h3 : w2.cell? ⟨q, 3, none⟩ = some u3 := R.cell 3
  have f3 := R.free 3
  have h4 : w2.cell? ⟨q, 4, none⟩ = some u4 := R.cell 4
  have f4 := R.free 4
  have h5 : w2.cell? ⟨q, 5, none⟩ = some u5 := R.cell 5
  have f5 := R.free 5
  have h6 : w2.cell? ⟨q, 6, none⟩ = some u6 := R.cell 6
  have f6 := R.free 6
  have h7 : w2.cell? ⟨q, 7, none⟩ = some u7 := R.cell 7
  have f7 := R.free 7
  have h8 : w2.cell? ⟨q, 8, none⟩ = some u8 := R.cell 8
  have f8 := R.free 8
  have R2 := hide R
  have K2 := hide K
  clear R K
  go_wp2
  go_region
  go_wp2
  go_region
  go_end0
  refine ⟨rfl, ?_, ?_⟩
  · repeat (with_reducible first | apply Oth.drew | apply Oth.drews | apply Oth.setCell)
    exact ((Oth.refl q w).alloc _).drew.trans K2.out
  · repeat (with_reducible first | apply RwC.drew1 | apply RwC.drews)
    exact ((((((R2.out.set 3 _).set 4 _).set 5 _).set 6 _).set 7 _).set 8 _)
end
end Go.Proofs.YtdbgdiahddpgkaaGreat
