
/-
  The law of WindowFault (written by gens/kwe.py).
-/
import Derived.Test.YtggclncbcdjnjaaKwD
import Derived.Test.YtggclncbcdjnjaaKmF
import Derived.Test.YtggclncbcdjnjaaKmH
namespace Go.Proofs.Ytggclncbcdjnjaa
open Go Go.RowKit

set_option maxHeartbeats 2000000 in
theorem implWf_any (w : World) (wd : Int) (g : Nat) (a : Option Addr) (c : Nat) (ms : List Mrk) (ps : List Plm) (hr : RdK w g a ms ps) (hb : ∀ i, i < ms.length → Byt (ms.getD i mrk0).id) :
    Calls Try.prog 7 #[.agg #[.int .i64 wd, .slice a ms.length c]] w fun e w' => e = .returned (.int .i64 (wfV wd ms)) ∧ Below w.heap.size w w' := by
  have n1 : Below w.heap.size w (w.alloc (.cells #[.int .i64 wd, .slice a ms.length c] 29)) := (Below.refl _ _).alloc (Nat.le_refl _) _
  have BO := hide (bookOf_any _ wd g a c ms ps (hr.up n1) hb)
  have N1 := hide n1
  clear n1 hr hb
  generalize wfV wd ms = R at *
  go_enter Try.func7, Try.ntmps7
  go_wp2_with fail
  refine BO.out.mono ?_
  rintro e w1 ⟨⟨v, rfl⟩, n2⟩
  have N2 := hide (nxt N1.out n2)
  clear BO N1 n2
  go_wp2
  go_ret
  exact ⟨rfl, N2.out⟩
/-- A window as data, and where it lies. -/
structure WD where
  wd : Int
  ms : List Mrk
structure WA where
  a : Option Addr
  c : Nat
  g : Nat
  pl : List Plm
structure HasW (w : World) (p : WA) (d : WD) : Prop where
  r : RdK w p.g p.a d.ms p.pl
theorem HasW.up {w w' : World} {p : WA} {d : WD} (h : HasW w p d) (n : Below w.heap.size w w') : HasW w' p d := ⟨h.r.up n⟩
structure OkW (d : WD) : Prop where
  ms : d.ms.length ≤ 1048576
  mz : ∀ i, i < d.ms.length → (d.ms.getD i mrk0).id.length ≤ 1048576
structure BgW (d : WD) : Prop where
  ms : d.ms.length ≤ 9223372036854775807
  mz : ∀ i, i < d.ms.length → (d.ms.getD i mrk0).id.length < 9223372036854775808
  by' : ∀ i, i < d.ms.length → Byt (d.ms.getD i mrk0).id
def winV (p : WA) (d : WD) : Array Value := #[.int .i64 d.wd, .slice p.a d.ms.length p.c]
theorem winV_one (p : WA) (d : WD) : (winV p d).all (·.oneCell') = true := oneWd d.wd p.a d.ms.length p.c
theorem szW (w : World) (p : WA) (d : WD) (h : HasW w p d) (g : BgW d) :
    Calls Try.prog 4 #[.agg (winV p d), .int .i64 1048576] w fun e w' => (∃ r, e = .returned (.int .i64 r) ∧ (0 ≤ r → OkW d)) ∧ Below w.heap.size w w' := by
  refine (show Calls _ _ _ _ _ from szWindow_r w d.wd p.g p.a p.c d.ms p.pl h.r g.ms g.mz 1048576 (by decide) (by decide)).mono ?_
  rintro e w' ⟨⟨r, rfl, hr⟩, n⟩
  refine ⟨⟨r, rfl, fun h0 => ?_⟩, n⟩
  rcases hr with ⟨_, rfl⟩ | ⟨h1, _⟩
  · omega
  · exact ⟨by omega, fun i hi => by have := sumK_get hi; omega⟩
theorem toW (w : World) (p : WA) (d : WD) (h : HasW w p d) (k : OkW d) :
    Calls Try.prog 6 #[.agg (winV p d)] w fun e w' => (∃ q, e = .returned (.agg (winV q d)) ∧ HasW w' q d) ∧ Below w.heap.size w w' := by
  refine (show Calls _ _ _ _ _ from toWindow_any w d.wd p.g p.a p.c d.ms p.pl h.r k.ms k.mz).mono ?_
  rintro e w' ⟨q, qs, rfl, hq, n⟩
  exact ⟨⟨⟨some ⟨q, 0, none⟩, d.ms.length, q, qs⟩, rfl, ⟨hq.rd⟩⟩, n⟩
theorem eqW (w : World) (p q : WA) (d : WD) (h : HasW w p d) (h' : HasW w q d) (k : OkW d) :
    Calls Try.prog 8 #[.agg (winV p d), .agg (winV q d)] w fun e w' => e = .returned (.bool true) ∧ Below w.heap.size w w' := eqWindow_same w d.wd p.g q.g p.a q.a p.c q.c d.ms p.pl q.pl h.r h'.r k.ms k.mz
theorem spW (w : World) (p : WA) (d : WD) (h : HasW w p d) (b : ∀ i, i < d.ms.length → Byt (d.ms.getD i mrk0).id) :
    Calls Try.prog 5 #[.agg (winV p d)] w fun e w' => e = .returned (.int .i64 (wfV d.wd d.ms)) ∧ Below w.heap.size w w' := specWf_any w d.wd p.g p.a p.c d.ms p.pl h.r b
theorem imW (w : World) (p : WA) (d : WD) (h : HasW w p d) (b : ∀ i, i < d.ms.length → Byt (d.ms.getD i mrk0).id) :
    Calls Try.prog 7 #[.agg (winV p d)] w fun e w' => e = .returned (.int .i64 (wfV d.wd d.ms)) ∧ Below w.heap.size w w' := implWf_any w d.wd p.g p.a p.c d.ms p.pl h.r b
theorem rangeW {w w' : World} {b : Nat} {cs : List Value} (h : w.rangeAt b 0 cs) (n : Below w.heap.size w w') : w'.rangeAt b 0 cs := rangeK h n
/-- A window that may be read. -/
def FWn (m : WD) : Fact := ⟨fun v w => ∃ q, v = .agg (winV q m) ∧ HasW w q m, fun n h => by
  obtain ⟨q, e, h⟩ := h
  exact ⟨q, e, h.up n⟩⟩
section
variable {ops : Array Oper} {Q : Exit → Act → World → Prop} {md : Region.Mode} {F : Nat → Fact} {a0 : Act} {w0 : World} {i : Nat} {o : Oper} {ts : Array TypeId}
theorem step_lW (ty : TypeId) (hu : ∃ d, Try.prog.underlying ty = some d ∧ d.isRow = true) (hs : (Try.prog.info? ty).map (·.size) = some 2) (hi : ops[i]? = some o) (p : Nat) (hop : o.op = .load ty (.tmp p)) (hp : apart ops p = true) (b : Nat) (h0 : a0.tmps.getD p undef = .pointer (some ⟨b, 0, none⟩)) {q : WA} {m : WD} (T : w0.rangeAt b 0 (winV q m).toList) (hF : F i = Fact.eq (.agg (winV q m))) : StepOk Try.prog md ops Q F a0 w0 i := by
  obtain ⟨d, hu, hr⟩ := hu
  refine step_load hi _ _ hop _ 2 hu hr hs fun a w hb hw _ => ?_
  exact ⟨b, 0, (winV q m).toList, (based_at hb p hp).trans h0, rangeW T hw, rfl, by rw [hF]; exact rfl⟩
theorem step_toW (hi : ops[i]? = some o) (p j : Nat) {q : WA} {m : WD} (hop : o.op = .call { callee := .value (.func 6), args := #[.tmp p], argTypes := ts })
    (hj : waits md ops i j p = true) (hC : HasW w0 q m) (im : OkW m) (hFj : F j = Fact.eq (.agg (winV q m))) (hFi : F i = FWn m) : StepOk Try.prog md ops Q F a0 w0 i := by
  refine step_callv hi _ _ ts hop (by kernel_rfl) fun A w _ hw hF => ?_
  have ea := hF j p hj
  rw [hFj] at ea
  show Calls Try.prog 6 #[A.tmps.getD p undef] w _
  rw [show A.tmps.getD p undef = _ from ea]
  refine (toW w q m (hC.up hw) im).mono ?_
  rintro r w' ⟨⟨z, rfl, hz⟩, hn⟩
  rw [hFi]
  exact ⟨_, rfl, hn, z, rfl, hz⟩
theorem step_eqW (hi : ops[i]? = some o) (p q j k : Nat) {z : WA} {m : WD} (hop : o.op = .call { callee := .value (.func 8), args := #[.tmp p, .tmp q], argTypes := ts })
    (hj : waits md ops i j p = true) (hk : waits md ops i k q = true) (hC : HasW w0 z m) (im : OkW m) (hFj : F j = Fact.eq (.agg (winV z m))) (hFk : F k = FWn m) (hFi : F i = Fact.eq (.bool true)) : StepOk Try.prog md ops Q F a0 w0 i := by
  refine step_callv hi _ _ ts hop (by kernel_rfl) fun A w _ hw hF => ?_
  have ea := hF j p hj
  rw [hFj] at ea
  have eb := hF k q hk
  rw [hFk] at eb
  obtain ⟨y, eb, hy⟩ := eb
  show Calls Try.prog 8 #[A.tmps.getD p undef, A.tmps.getD q undef] w _
  rw [show A.tmps.getD p undef = _ from ea, show A.tmps.getD q undef = _ from eb]
  refine (eqW w z y m (hC.up hw) hy im).mono ?_
  rintro r w' ⟨rfl, hn⟩
  rw [hFi]
  exact ⟨_, rfl, hn, rfl⟩
theorem step_notW {P : Program} (hi : ops[i]? = some o) (p j : Nat) {b : Bool} {t : TypeId} (hop : o.op = .unOp .not t (.tmp p)) (hj : waits md ops i j p = true) (hFj : F j = Fact.eq (.bool b)) (hFi : F i = Fact.eq (.bool (!b))) : StepOk P md ops Q F a0 w0 i := by
  refine step_pure hi fun a w _ _ hf => ⟨.bool (!b), ?_, by rw [hFi]; exact rfl⟩
  have e := hf j p hj
  rw [hFj] at e
  have e' : a.eval (.tmp p) = .bool b := e
  simp only [execOp, hop, e']
  rfl
end
set_option maxRecDepth 100000 in
set_option maxHeartbeats 8000000 in
theorem win_core (w : World) (p : WA) (m : WD) (hC : HasW w p m) (bg : BgW m) :
    Calls Try.prog 3 #[.agg (winV p m)] w fun e w' => e = .returned (.bool true) ∧ Below w.heap.size w w' := by
  have n1 : Below w.heap.size w (w.alloc (.cells (winV p m) 24)) := (Below.refl _ _).alloc (Nat.le_refl _) _
  have T0 : RwC (w.alloc (.cells (winV p m) 24)) w.heap.size (winV p m).toList 24 := RwC.new w (winV p m).toList 24
  have SZ := hide (szW (w.alloc (.cells (winV p m) 24)) p m (hC.up n1) bg)
  have HC := hide (fun W (h : Below w.heap.size w W) => hC.up h)
  have N1 := hide n1
  have TT := hide T0
  have BB := hide bg.by'
  clear n1 T0 hC bg
  go_enter Try.func3, Try.ntmps3
  obtain ⟨dL, hdL, hrL⟩ := rowLWd
  obtain ⟨dC, hdC, hrC⟩ := rowWd
  go_upto_region 2 with fail
  generalize w.alloc (.cells (winV p m) 24) = W1 at *
  have RG := TT.out.rangeG
  clear TT
  go_wp2_with (first | (refine wpList_load_mid rfl 24 (.tmp 1) rfl w.heap.size 0 rfl (winV p m).toList dL RG hdL hrL iLWd ?_) | fail)
  refine SZ.out.mono ?_
  rintro e w2 ⟨⟨x, rfl, hx⟩, n2⟩
  have N2 := hide (nxt N1.out n2)
  have RG2 := rangeW RG n2
  clear n2 RG SZ N1
  by_cases hl : x < 0
  · have t1 : decide (x < 0) = true := decide_eq_true hl
    clear hl hx HC RG2
    go_wp2
    go_ret
    exact ⟨rfl, N2.out⟩
  have t1 : decide (x < 0) = false := decide_eq_false hl
  have im := hide (hx (by omega))
  clear hl hx
  have TO := hide (fun W (h : Below w.heap.size w W) => toW W p m (HC.out W h) im.out)
  have SP := hide (fun W q (h : HasW W q m) => spW W q m h BB.out)
  have IM := hide (fun W q (h : HasW W q m) => imW W q m h BB.out)
  generalize wfV m.wd m.ms = z at *
  have zz : (z == z) = true := by simp
  have zn : (z != z) = false := by simp
  go_wp2_with (first | (refine wpList_load_mid rfl 24 (.tmp 1) rfl w.heap.size 0 rfl (winV p m).toList dL RG2 hdL hrL iLWd ?_) | fail)
  refine (TO.out w2 N2.out).mono ?_
  rintro e w3 ⟨⟨q, rfl, nc⟩, n3⟩
  have N3 := hide (nxt N2.out n3)
  have RG3 := rangeW RG2 n3
  clear n3 RG2 N2
  go_wp2_with fail
  refine (SP.out w3 q nc).mono ?_
  rintro e w4 ⟨rfl, n4⟩
  have N4 := hide (nxt N3.out n4)
  have RG4 := rangeW RG3 n4
  clear n4 RG3 N3 nc
  go_wp2_with (first | (refine wpList_load_mid rfl 24 (.tmp 1) rfl w.heap.size 0 rfl (winV p m).toList dL RG4 hdL hrL iLWd ?_) | fail)
  refine (TO.out w4 N4.out).mono ?_
  rintro e w5 ⟨⟨q', rfl, nc⟩, n5⟩
  have N5 := hide (nxt N4.out n5)
  have RG5 := rangeW RG4 n5
  clear n5 RG4 N4
  have a5 : Below w5.heap.size w5 (w5.alloc (.cells #[.int .i64 0, .slice none 0 0] 29)) := (Below.refl _ _).alloc (Nat.le_refl _) _
  have TH0 : RwC (w5.alloc (.cells #[.int .i64 0, .slice none 0 0] 29)) w5.heap.size (#[.int .i64 0, .slice none 0 0] : Array Value).toList 29 := RwC.new w5 (#[.int .i64 0, .slice none 0 0] : Array Value).toList 29
  have TH : (w5.alloc (.cells #[.int .i64 0, .slice none 0 0] 29)).there w5.heap.size 0 (winV q' m).size := TH0.thereG
  have RX := World.rangeAt_setCells_same (w5.alloc (.cells #[.int .i64 0, .slice none 0 0] 29)) w5.heap.size 0 (winV q' m).toList TH
  have OX := only_setG (w5.alloc (.cells #[.int .i64 0, .slice none 0 0] 29)) w5.heap.size (winV q' m).toList 0
  have b5 : Below w5.heap.size w5 ((w5.alloc (.cells #[.int .i64 0, .slice none 0 0] 29)).setCells w5.heap.size 0 (winV q' m).toList) := a5.trans (OX.below (Nat.le_refl _))
  have N6 := hide (nxt N5.out b5)
  have RG6 := rangeW RG5 b5
  have HQ := hide (nc.up b5)
  clear a5 OX b5 RG5 N5 nc TH0
  have ON := winV_one q' m
  go_upto_region 7 with (first | (refine wpList_store_mid rfl 29 (.tmp 5) (.tmp 16) rfl w5.heap.size 0 (winV q' m) rfl rfl TH iWd ON ?_) | fail)
  generalize (w5.alloc (.cells #[.int .i64 0, .slice none 0 0] 29)).setCells w5.heap.size 0 (winV q' m).toList = w6 at *
  clear TH ON
  generalize w5.heap.size = b5 at *
  clear w5
  go_wp2_with (first | (refine wpList_load_mid rfl 29 (.tmp 5) rfl b5 0 rfl (winV q' m).toList dC RX hdC hrC iWd ?_) | fail)
  refine (IM.out w6 q' HQ.out).mono ?_
  rintro e w7 ⟨rfl, n7⟩
  have N7 := hide (nxt N6.out n7)
  have RG7 := hide (rangeW RG6 n7)
  have RX7 := hide (rangeW RX n7)
  have HQ7 := hide (HQ.out.up n7)
  clear n7 RG6 RX HQ N6
  go_upto_region 10 with fail
  refine region_end 5 (fun i => [Fact.eq (.agg (winV q' m)), Fact.eq (.agg (winV p m)), FWn m, Fact.eq (.bool true), Fact.eq (.bool (!true))].getD i Fact.no) (by kernel_rfl) (by kernel_rfl) rfl ?_ ?_
  · intro i hi
    obtain rfl | rfl | rfl | rfl | rfl : i = 0 ∨ i = 1 ∨ i = 2 ∨ i = 3 ∨ i = 4 := by omega
    · exact step_lW _ rowWd iWd rfl 5 rfl (by kernel_rfl) b5 rfl RX7.out rfl
    · exact step_lW _ rowLWd iLWd rfl 1 rfl (by kernel_rfl) w.heap.size rfl RG7.out rfl
    · exact step_toW rfl 23 1 rfl (by kernel_rfl) (HC.out w7 N7.out) im.out rfl rfl
    · exact step_eqW rfl 22 24 0 2 rfl (by kernel_rfl) (by kernel_rfl) HQ7.out im.out rfl rfl rfl
    · exact step_notW rfl 25 3 rfl (by kernel_rfl) rfl rfl
  intro A W hb hw hF
  have e2 := hF 4 26 (by kernel_rfl)
  obtain ⟨vs, hvs⟩ : ∃ vs : Nat → Value, ∀ d, A.tmps.getD d undef = vs d := ⟨_, fun _ => rfl⟩
  rw [hvs] at e2
  rw [puts_of (md := .any) (k := 5) (by kernel_rfl) rfl hb vs hvs]
  clear hb hF hvs
  have e3 : vs 26 = .bool false := e2
  clear e2
  simp only [puts, e3, Act.put, List.setIfInBounds_toArray, List.set_cons_succ, List.set_cons_zero]
  clear e3
  have N8 := hide (nxt N7.out hw)
  clear hw N7 RG7 RX7 HQ7
  go_wp2
  go_ret
  exact ⟨rfl, N8.out⟩
end Go.Proofs.Ytggclncbcdjnjaa
