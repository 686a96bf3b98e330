import Derived.Test.YtflecleofaeiiaaGreatGD4
import Derived.BigRegion
import Derived.Deep.RegionWith

/-
  Texts held against each other: cut out of DrS and Sa16.
-/
namespace Go.Proofs.YtflecleofaeiiaaGreat
open Go.RowKit

theorem str_data : ∀ (xs : List Int) (acc : ByteArray), (xs.foldl (fun r n => r.push (UInt8.ofNat n.toNat)) acc).data = acc.data ++ (xs.map (fun n => UInt8.ofNat n.toNat)).toArray
  | [], acc => by simp
  | x :: r, acc => by
    rw [List.foldl_cons, str_data r]
    simp [ByteArray.push]

theorem toList_inj {s t : ByteArray} (h : s.toList = t.toList) : s = t := by
  rw [ByteArray.toList_eq, ByteArray.toList_eq] at h
  have := Array.ext' h
  cases s; cases t; simp_all

theorem str_inj {xs ys : List Int} (hx : Byt xs) (hy : Byt ys) (h : str xs = str ys) : xs = ys := by
  have h1 : (xs.map (fun n => UInt8.ofNat n.toNat)) = (ys.map (fun n => UInt8.ofNat n.toNat)) := by
    have := congrArg ByteArray.data h
    unfold str at this
    rw [str_data, str_data] at this
    simpa using this
  have hl : xs.length = ys.length := by have := congrArg List.length h1; simpa using this
  refine eq_of_getD hl (fun i hi => ?_)
  have h2 : (xs.map (fun n => UInt8.ofNat n.toNat))[i]? = (ys.map (fun n => UInt8.ofNat n.toNat))[i]? := by rw [h1]
  have a := hx i
  have b := hy i
  have hi' : i < ys.length := by omega
  simp [hi, hi'] at h2 a b ⊢
  have h3 := congrArg UInt8.toNat h2
  simp at h3
  omega

set_option maxHeartbeats 400000 in
theorem l1Same_same (w : World) (g g' : Nat) (a b : Option Addr) (ca cb : Nat) (xs : List Int) (ha : Rd w g a .u8 xs) (hb : Rd w g' b .u8 xs) :
    Calls Tryz.prog 21 #[.slice a xs.length ca, .slice b xs.length cb] w fun e w' => e = .returned (.bool true) ∧ w' = w := by
  have h1 := conv_run w g a ca xs ha
  have h2 := conv_run w g' b cb xs hb
  generalize str xs = s at *
  go_enter Tryz.func21, Tryz.ntmps21
  go_wp2
  go_ret
  exact ⟨by simp, rfl⟩

set_option maxHeartbeats 1000000 in
theorem l1Same_diff (w : World) (g g' : Nat) (a b : Option Addr) (ca cb : Nat) (xs ys : List Int) (ha : Rd w g a .u8 xs) (hb : Rd w g' b .u8 ys) (hx : Byt xs) (hy : Byt ys) (hne : xs ≠ ys) :
    Calls Tryz.prog 21 #[.slice a xs.length ca, .slice b ys.length cb] w fun e w' => e = .returned (.bool false) ∧ w' = w := by
  have h1 := conv_run w g a ca xs ha
  have h2 := conv_run w g' b cb ys hb
  have h3 : str xs ≠ str ys := fun h => hne (str_inj hx hy h)
  clear hne
  generalize str xs = s at *
  generalize str ys = t at *
  have H3 := hide h3
  clear h3
  go_enter Tryz.func21, Tryz.ntmps21
  go_wp2
  go_ret
  have e : (s.toList == t.toList) = false := by
    cases h : (s.toList == t.toList)
    · rfl
    · exact absurd (toList_inj (beq_iff_eq.1 h)) H3.out
  exact ⟨by rw [← e]; rfl, rfl⟩

theorem l1Same_any (w : World) (g g' : Nat) (a b : Option Addr) (ca cb : Nat) (xs ys : List Int) (ha : Rd w g a .u8 xs) (hb : Rd w g' b .u8 ys) (hx : Byt xs) (hy : Byt ys) :
    Calls Tryz.prog 21 #[.slice a xs.length ca, .slice b ys.length cb] w fun e w' => e = .returned (.bool (decide (xs = ys))) ∧ w' = w := by
  by_cases h : xs = ys
  · subst h
    simpa using l1Same_same w g g' a b ca cb xs ha hb
  · have := l1Same_diff w g g' a b ca cb xs ys ha hb hx hy h
    simpa [h] using this

end Go.Proofs.YtflecleofaeiiaaGreat

/-
  bytes.Equal.
-/
namespace Go.Proofs.YtflecleofaeiiaaGreat
open Go Go.RowKit

set_option maxRecDepth 100000 in
theorem bytesEqual_any (w : World) (g g' : Nat) (a b : Option Addr) (ca cb : Nat) (xs ys : List Int) (ha : Rd w g a .u8 xs) (hb : Rd w g' b .u8 ys) (hx : Byt xs) (hy : Byt ys) :
    Calls Tryz.prog 69 #[.slice a xs.length ca, .slice b ys.length cb] w fun e w' => e = .returned (.bool (decide (xs = ys))) ∧ w' = w := by
  have h1 := conv_run w g a ca xs ha
  have h2 := conv_run w g' b cb ys hb
  by_cases e : xs = ys
  · subst e
    generalize str xs = s at *
    go_enter Tryz.func69, Tryz.ntmps69
    go_wp2
    go_ret
    exact ⟨by simp, rfl⟩
  · have D := hide (show decide (xs = ys) = false by simpa using e)
    have h3 : str xs ≠ str ys := fun h => e (str_inj hx hy h)
    generalize str xs = s at *
    generalize str ys = t at *
    have H3 := hide h3
    clear h3 e
    go_enter Tryz.func69, Tryz.ntmps69
    go_wp2
    go_ret
    have e : (s.toList == t.toList) = false := by
      cases h : (s.toList == t.toList)
      · rfl
      · exact absurd (toList_inj (beq_iff_eq.1 h)) H3.out
    exact ⟨by rw [D.out, ← e]; rfl, rfl⟩
end Go.Proofs.YtflecleofaeiiaaGreat

/-
  Messages: lists and texts held against each other by the program.
-/
namespace Go.Proofs.YtflecleofaeiiaaGreat
open Go Go.RowKit

end Go.Proofs.YtflecleofaeiiaaGreat

/-
  Messages: rows of lists (Certs), held against each other and looked through.
-/
namespace Go.Proofs.YtflecleofaeiiaaGreat
open Go Go.RowKit

/-- Where a list lies. -/
structure Plb where
  a : Option Addr
  c : Nat
  q : Nat
def plb0 : Plb := ⟨none, 0, 0⟩
/-- A row of lists that may be read. -/
structure RdL (w : World) (g : Nat) (a : Option Addr) (bs : List (List Int)) (ps : List Plb) : Prop where
  r : 0 < bs.length → ∃ off, a = some ⟨g, off, none⟩ ∧ ∀ i, i < bs.length → w.cell? ⟨g, off + i, none⟩ = some (.slice (ps.getD i plb0).a (bs.getD i []).length (ps.getD i plb0).c)
  b : ∀ i, i < bs.length → Rd w (ps.getD i plb0).q (ps.getD i plb0).a .u8 (bs.getD i [])
theorem RdL.up {w w' : World} {g : Nat} {a : Option Addr} {bs : List (List Int)} {ps : List Plb} (h : RdL w g a bs ps) (n : Below w.heap.size w w') : RdL w' g a bs ps :=
  ⟨fun h0 => by
    obtain ⟨o, e, hc⟩ := h.r h0
    refine ⟨o, e, fun i hi => ?_⟩
    have := hc i hi
    rw [World.cell?_of_block (a := ⟨g, o + i, none⟩) (n.block g (block_lt_of_cell this))]
    exact this, fun i hi => (h.b i hi).up n⟩
/-- A Certificate of another size. -/
def ctO (n : Nat) : Bool := decide (n = 0) || decide (2000 < n)
theorem certOut_any (w : World) (a : Option Addr) (c n : Nat) (hn : n ≤ 1048576) :
    Calls Tryz.prog 133 #[.agg #[.slice a n c]] w fun e w' => e = .returned (.bool (ctO n)) ∧ Below w.heap.size w w' := by
  have n1 : Hid (Below w.heap.size w (w.alloc (.cells #[.slice a n c] 63))) := (Below.refl _ _).alloc (Nat.le_refl _) _
  have E := hide (show ctO n = (decide (n = 0) || decide (2000 < n)) from rfl)
  generalize ctO n = f at *
  by_cases k0 : n = 0
  · subst k0
    obtain rfl : f = true := E.out
    go_enter Tryz.func133, Tryz.ntmps133
    go_wp2
    go_ret
    exact ⟨rfl, n1.out⟩
  · have e0 : ((n : Int) == 0) = false := by simp; omega
    by_cases k1 : 2000 < n
    · have EF : f = true := by rw [E.out]; simp [k1]
      subst EF
      have d1 : decide ((2000 : Int) < (n : Int)) = true := by simp; omega
      go_enter Tryz.func133, Tryz.ntmps133
      go_wp2
      go_ret
      exact ⟨rfl, n1.out⟩
    · have EF : f = false := by rw [E.out]; simp [k0, k1]
      subst EF
      have d1 : decide ((2000 : Int) < (n : Int)) = false := by simp; omega
      go_enter Tryz.func133, Tryz.ntmps133
      go_wp2
      go_ret
      exact ⟨rfl, n1.out⟩
end Go.Proofs.YtflecleofaeiiaaGreat

/-
  Messages: Certs looked through, and held against others; the fault of Certificates.
-/
namespace Go.Proofs.YtflecleofaeiiaaGreat
open Go Go.RowKit

def ctA (bs : List (List Int)) : Bool := bs.any fun b => ctO b.length
theorem ctA_yes {bs : List (List Int)} {k : Nat} (hk : k < bs.length) (h : ctO (bs.getD k []).length = true) : ctA bs = true := by
  unfold ctA
  rw [List.any_eq_true]
  refine ⟨bs.getD k [], ?_, h⟩
  rw [List.getD_eq_getElem?_getD, List.getElem?_eq_getElem hk]
  exact List.getElem_mem hk
theorem ctA_no {bs : List (List Int)} (h : ∀ j, j < bs.length → ctO (bs.getD j []).length = false) : ctA bs = false := by
  unfold ctA
  rw [List.any_eq_false]
  intro b hb
  obtain ⟨i, hi, e⟩ := List.getElem_of_mem hb
  have := h i hi
  rw [List.getD_eq_getElem?_getD, List.getElem?_eq_getElem hi] at this
  simpa [← e] using this
set_option maxHeartbeats 1000000 in
theorem certIndex_any (w : World) (g : Nat) (a : Option Addr) (c : Nat) (bs : List (List Int)) (ps : List Plb) (hr : RdL w g a bs ps) (hn : bs.length ≤ 1048576) (hz : ∀ i, i < bs.length → (bs.getD i []).length ≤ 1048576) :
    Calls Tryz.prog 135 #[.slice a bs.length c, .func (Fn.func 133) #[] #[]] w fun e w' => ∃ r : Int, e = .returned (.int .i64 r) ∧ decide (0 ≤ r) = ctA bs ∧ Below w.heap.size w w' := by
  go_enter Tryz.func135, Tryz.ntmps135
  go_wp2
  go_loopw [8] (fun i wr => ∃ (k : Nat), k ≤ bs.length ∧ i = .int .i64 k ∧ Below w.heap.size w wr ∧ ∀ j, j < k → ctO (bs.getD j []).length = false) (fun i _ => bs.length - (intOf i).toNat)
  case atStart => exact ⟨0, Nat.zero_le _, rfl, Below.refl _ _, fun j hj => absurd hj (by omega)⟩
  case round =>
    obtain ⟨k, hk, rfl, N, hall⟩ := hrel
    by_cases hlt : k < bs.length
    · obtain ⟨off, rfl, hc⟩ := (hr.up N).r (by omega)
      have t0 : (k : Int) < (bs.length : Int) := by omega
      have c1 := hc k hlt
      have CO := hide (certOut_any wr (ps.getD k plb0).a (ps.getD k plb0).c (bs.getD k []).length (hz k hlt))
      have YES := hide (fun h => ctA_yes hlt h)
      have HALL := hide hall
      have HN := hide N
      clear hc hall N
      generalize (ps.getD k plb0).a = pa at *
      generalize (ps.getD k plb0).c = pc at *
      generalize hx : (bs.getD k []).length = x at *
      have HX := hide hx
      clear hx
      generalize hv : ctO x = v at *
      have HV := hide hv
      clear hv
      go_wp2_with fail
      refine CO.out.mono ?_
      rintro e w1 ⟨rfl, n1⟩
      have N1 := hide (nxt HN.out n1)
      clear CO n1 HN
      cases v with
      | true =>
        have Y := hide (YES.out (by first | rfl | exact HV.out))
        clear YES HALL
        go_wp2
        go_ret
        exact ⟨_, rfl, by rw [Y.out]; simp, N1.out⟩
      | false =>
        have NXT : Hid (∀ j, j < k + 1 → ctO (bs.getD j []).length = false) := fun j hj => by
          by_cases h : j = k
          · subst h
            rw [HX.out]
            exact HV.out
          · exact HALL.out j (by omega)
        clear YES HALL
        go_wp2
        go_roundw
        case rel => exact ⟨k + 1, by omega, by go_num, N1.out, NXT.out⟩
        case measure => simp [intOf]; omega
    · obtain rfl : k = bs.length := by omega
      have NO := hide (ctA_no hall)
      have HN := hide N
      clear hall hr N
      go_wp2
      go_ret
      exact ⟨-1, rfl, by rw [NO.out]; rfl, HN.out⟩
theorem certContains_any (w : World) (g : Nat) (a : Option Addr) (c : Nat) (bs : List (List Int)) (ps : List Plb) (hr : RdL w g a bs ps) (hn : bs.length ≤ 1048576) (hz : ∀ i, i < bs.length → (bs.getD i []).length ≤ 1048576) :
    Calls Tryz.prog 134 #[.slice a bs.length c, .func (Fn.func 133) #[] #[]] w fun e w' => e = .returned (.bool (ctA bs)) ∧ Below w.heap.size w w' := by
  have IX := hide (certIndex_any w g a c bs ps hr hn hz)
  clear hr hz
  generalize ctA bs = v at *
  go_enter Tryz.func134, Tryz.ntmps134
  go_wp2_with fail
  refine IX.out.mono ?_
  rintro e w1 ⟨r, rfl, hr, n1⟩
  have HR := hide hr
  have N1 := hide n1
  clear hr n1 IX
  go_wp2
  go_ret
  exact ⟨by rw [← HR.out]; rfl, N1.out⟩
def ceF (bs : List (List Int)) : Int := if bs.length = 0 then 8 else if 4 < bs.length then 8 else if ctA bs = true then 8 else 0
set_option maxHeartbeats 1000000 in
theorem certsFault_any (w : World) (q g : Nat) (a : Option Addr) (c : Nat) (bs : List (List Int)) (ps : List Plb) (hr : RdL w g a bs ps) (hn : bs.length ≤ 1048576) (hz : ∀ i, i < bs.length → (bs.getD i []).length ≤ 1048576) (h0 : w.cell? ⟨q, 0, none⟩ = some (.slice a bs.length c)) :
    Calls Tryz.prog 130 #[.pointer (some ⟨q, 0, none⟩)] w fun x w' => x = .returned (.int .i64 (ceF bs)) ∧ Below w.heap.size w w' := by
  have E := hide (show ceF bs = if bs.length = 0 then 8 else if 4 < bs.length then 8 else if ctA bs = true then 8 else 0 from rfl)
  have CC := hide (certContains_any w g a c bs ps hr hn hz)
  clear hr hz
  generalize ceF bs = f at *
  generalize ctA bs = v at *
  by_cases k0 : bs.length = 0
  · have EF : f = 8 := by rw [E.out, if_pos k0]
    subst EF
    have e0 : ((bs.length : Int) == 0) = true := by simp [k0]
    clear E CC k0
    go_enter Tryz.func130, Tryz.ntmps130
    go_wp2
    go_ret
    exact ⟨rfl, Below.refl _ _⟩
  · have e0 : ((bs.length : Int) == 0) = false := by rw [beq_eq_false_iff_ne]; omega
    by_cases k1 : 4 < bs.length
    · have EF : f = 8 := by rw [E.out, if_neg k0, if_pos k1]
      subst EF
      have d1 : decide ((4 : Int) < (bs.length : Int)) = true := by simp; omega
      clear E CC
      go_enter Tryz.func130, Tryz.ntmps130
      go_wp2
      go_ret
      exact ⟨rfl, Below.refl _ _⟩
    · have EF := hide (show f = if v = true then 8 else 0 by rw [E.out, if_neg k0, if_neg k1])
      have d1 : decide ((4 : Int) < (bs.length : Int)) = false := by simp; omega
      clear E
      go_enter Tryz.func130, Tryz.ntmps130
      go_wp2_with fail
      refine CC.out.mono ?_
      rintro e w1 ⟨rfl, n1⟩
      cases v with
      | false =>
        go_wp2
        go_ret
        exact ⟨by rw [EF.out]; rfl, n1⟩
      | true =>
        go_wp2
        go_ret
        exact ⟨by rw [EF.out]; rfl, n1⟩
end Go.Proofs.YtflecleofaeiiaaGreat

/-
  Messages: Certs held against others.
-/
namespace Go.Proofs.YtflecleofaeiiaaGreat
open Go Go.RowKit

end Go.Proofs.YtflecleofaeiiaaGreat

/-
  Messages: two of them that differ in a number, in Host or in Resumed.
-/
namespace Go.Proofs.YtflecleofaeiiaaGreat
open Go Go.RowKit

section
variable (w : World) (k k' v v' ag ag' ea ea' : Int) (ho ho' : Array UInt8) (rs rs' : Bool) (a2 a2' a3 a3' a5 a5' a6 a6' a9 a9' a11 a11' a12 a12' : Option Addr) (n2 n2' c2 c2' n3 n3' c3 c3' n5 n5' c5 c5' n6 n6' c6 c6' n9 n9' c9 c9' n11 n11' c11 c11' n12 n12' c12 c12' : Nat)
end
end Go.Proofs.YtflecleofaeiiaaGreat

/-
  Messages: two of them that differ in a number, in Host or in Resumed.
-/
namespace Go.Proofs.YtflecleofaeiiaaGreat
open Go Go.RowKit

section
variable (w : World) (k k' v v' ag ag' ea ea' : Int) (ho ho' : Array UInt8) (rs rs' : Bool) (a2 a2' a3 a3' a5 a5' a6 a6' a9 a9' a11 a11' a12 a12' : Option Addr) (n2 n2' c2 c2' n3 n3' c3 c3' n5 n5' c5 c5' n6 n6' c6 c6' n9 n9' c9 c9' n11 n11' c11 c11' n12 n12' c12 c12' : Nat)
end
end Go.Proofs.YtflecleofaeiiaaGreat

/-
  Messages: two of them that differ in a number, in Host or in Resumed.
-/
namespace Go.Proofs.YtflecleofaeiiaaGreat
open Go Go.RowKit

section
variable (w : World) (k k' v v' ag ag' ea ea' : Int) (ho ho' : Array UInt8) (rs rs' : Bool) (a2 a2' a3 a3' a5 a5' a6 a6' a9 a9' a11 a11' a12 a12' : Option Addr) (n2 n2' c2 c2' n3 n3' c3 c3' n5 n5' c5 c5' n6 n6' c6 c6' n9 n9' c9 c9' n11 n11' c11 c11' n12 n12' c12 c12' : Nat)
end
end Go.Proofs.YtflecleofaeiiaaGreat

/-
  Messages: two of them held against each other, by their lists.
-/
namespace Go.Proofs.YtflecleofaeiiaaGreat
open Go Go.RowKit

end Go.Proofs.YtflecleofaeiiaaGreat

/-
  Messages: what they are, where they lie, and two of them held against each other.
-/
namespace Go.Proofs.YtflecleofaeiiaaGreat
open Go Go.RowKit

/-- A message. -/
structure Msg where
  k : Int
  v : Int
  r : List Int
  s : List Int
  ho : List UInt8
  pr : List (List UInt8)
  ti : List Int
  ag : Int
  ea : Int
  bi : List Int
  rs : Bool
  ce : List (List Int)
  pf : List Int
/-- Where it lies. -/
structure MQ where
  a2 : Option Addr
  c2 : Nat
  g2 : Nat
  a3 : Option Addr
  c3 : Nat
  g3 : Nat
  a5 : Option Addr
  c5 : Nat
  g5 : Nat
  a6 : Option Addr
  c6 : Nat
  g6 : Nat
  a9 : Option Addr
  c9 : Nat
  g9 : Nat
  a11 : Option Addr
  c11 : Nat
  g11 : Nat
  a12 : Option Addr
  c12 : Nat
  g12 : Nat
  ps : List Plb
def mgV (p : MQ) (m : Msg) : Array Value := #[.int .i64 m.k, .int .i64 m.v, .slice p.a2 m.r.length p.c2, .slice p.a3 m.s.length p.c3, .string ⟨⟨m.ho⟩⟩, .slice p.a5 m.pr.length p.c5, .slice p.a6 m.ti.length p.c6, .int .i64 m.ag, .int .i64 m.ea, .slice p.a9 m.bi.length p.c9, .bool m.rs, .slice p.a11 m.ce.length p.c11, .slice p.a12 m.pf.length p.c12]
structure HasM (w : World) (p : MQ) (m : Msg) : Prop where
  r : Rd w p.g2 p.a2 .u8 m.r
  s : Rd w p.g3 p.a3 .u8 m.s
  pr : RdT w p.g5 p.a5 m.pr
  ti : Rd w p.g6 p.a6 .u8 m.ti
  bi : Rd w p.g9 p.a9 .u8 m.bi
  ce : RdL w p.g11 p.a11 m.ce p.ps
  pf : Rd w p.g12 p.a12 .u8 m.pf
  prC : m.pr.length ≤ p.c5
theorem HasM.up {w w' : World} {p : MQ} {m : Msg} (h : HasM w p m) (n : Below w.heap.size w w') : HasM w' p m := ⟨h.r.up n, h.s.up n, h.pr.up n, h.ti.up n, h.bi.up n, h.ce.up n, h.pf.up n, h.prC⟩
/-- A message of a size that a law draws. -/
structure IsM (m : Msg) : Prop where
  rB : Byt m.r
  sB : Byt m.s
  tiB : Byt m.ti
  biB : Byt m.bi
  pfB : Byt m.pf
  ceB : ∀ i, i < m.ce.length → Byt (m.ce.getD i [])
  rL : m.r.length ≤ 1048576
  sL : m.s.length ≤ 1048576
  prL : m.pr.length ≤ 1048576
  tiL : m.ti.length ≤ 1048576
  biL : m.bi.length ≤ 1048576
  ceL : m.ce.length ≤ 1048576
  pfL : m.pf.length ≤ 1048576
  ceZ : ∀ i, i < m.ce.length → (m.ce.getD i []).length ≤ 1048576
  hoL : m.ho.length ≤ 1048576
  prZ : ∀ l ∈ m.pr, l.length ≤ 1048576
/-- All fields are the same, asked in the program's order. -/
def sameM (m m' : Msg) : Bool := decide (m.k = m'.k) && (decide (m.v = m'.v) && (decide (m.ho = m'.ho) && (decide (m.ag = m'.ag) && (decide (m.ea = m'.ea) && (decide (m.rs = m'.rs) && (decide (m.r = m'.r) && (decide (m.s = m'.s) && (decide (m.ti = m'.ti) && (decide (m.bi = m'.bi) && (decide (m.pf = m'.pf) && (decide (m.pr = m'.pr) && (decide (m.ce = m'.ce)))))))))))))
end Go.Proofs.YtflecleofaeiiaaGreat

/-
  Messages: what the kinds take over.
-/
namespace Go.Proofs.YtflecleofaeiiaaGreat
open Go Go.RowKit

/-- All blocks but q are as they were. -/
structure Oth (q : Nat) (w w' : World) : Prop where
  os : w'.os = w.os
  tape : w'.tape = w.tape
  output : w'.output = w.output
  size : w.heap.size ≤ w'.heap.size
  block : ∀ k, k < w.heap.size → k ≠ q → w'.heap[k]? = w.heap[k]?
theorem Oth.refl (q : Nat) (w : World) : Oth q w w := ⟨rfl, rfl, rfl, Nat.le_refl _, fun _ _ _ => rfl⟩
theorem Oth.trans {q : Nat} {a b c : World} (h : Oth q a b) (k : Oth q b c) : Oth q a c :=
  ⟨k.os.trans h.os, k.tape.trans h.tape, k.output.trans h.output, Nat.le_trans h.size k.size, fun i hi hn => (k.block i (Nat.lt_of_lt_of_le hi h.size) hn).trans (h.block i hi hn)⟩
theorem Oth.of {q : Nat} {w w' : World} (h : Below w.heap.size w w') : Oth q w w' := ⟨h.os, h.tape, h.output, h.size, fun k hk _ => h.block k hk⟩
theorem Oth.alloc {q : Nat} {a w : World} (h : Oth q a w) (o : Obj) : Oth q a (w.alloc o) := h.trans (Oth.of ((Below.refl _ _).alloc (Nat.le_refl _) o))
theorem Oth.drew {q : Nat} {a w : World} (h : Oth q a w) : Oth q a w.drew := ⟨h.os, h.tape, h.output, h.size, h.block⟩
theorem Oth.drews {q : Nat} {a w : World} (h : Oth q a w) (n : Nat) : Oth q a (w.drewN n) := ⟨h.os, h.tape, h.output, h.size, h.block⟩
theorem Oth.setCell {q : Nat} {a w : World} (h : Oth q a w) (i : Nat) (v : Value) : Oth q a (w.setCell ⟨q, i, none⟩ v) :=
  h.trans ⟨rfl, rfl, rfl, by simp [World.setCell], fun k _ hk => Below.heap_setCell _ _ _ _ hk⟩
theorem Oth.below {q B : Nat} {w w' : World} (h : Oth q w w') (hq : B ≤ q) (hB : B ≤ w.heap.size) : Below B w w' := ⟨h.os, h.tape, h.output, h.size, fun k hk => h.block k (by omega) (by omega)⟩
theorem RwC.oth {w w' : World} {q r : Nat} {cs : List Value} {t : TypeId} (h : RwC w q cs t) (n : Oth r w w') (hne : q ≠ r) : RwC w' q cs t := (n.block q h.lt hne).trans h

section
variable (w : World) (q : Nat) (t : TypeId) (us : List Value) (u0 u1 u2 u3 u4 u5 u6 u7 u8 : Value) (k v ag ea : Int) (a2 a3 a5 a6 a9 a11 a12 : Option Addr) (n2 n3 n5 n6 n9 n11 n12 c2 c3 c5 c6 c9 c11 c12 : Nat) (ho : ByteArray) (rs : Bool)
end
end Go.Proofs.YtflecleofaeiiaaGreat

/-
  Messages: what Hello and Answer take over.
-/
namespace Go.Proofs.YtflecleofaeiiaaGreat
open Go Go.RowKit

section
variable (w : World) (q : Nat) (t : TypeId) (us : List Value) (u0 u1 u2 u3 u4 u5 u6 u7 u8 : Value) (k v ag ea : Int) (a2 a3 a5 a6 a9 a11 a12 : Option Addr) (n2 n3 n5 n6 n9 n11 n12 c2 c3 c5 c6 c9 c11 c12 : Nat) (ho : ByteArray) (rs : Bool)
end
end Go.Proofs.YtflecleofaeiiaaGreat
