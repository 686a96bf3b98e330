
/-
  The law of FormatReport (written by gens/fqcore.py).
-/
import Derived.Test.YtpbniihhpfbamaaDoorFqRp
import Derived.Test.YtpbniihhpfbamaaDoorFqOp
namespace Go.Proofs.YtpbniihhpfbamaaDoor
set_option maxRecDepth 100000
open Go Go.RowKit

theorem szW (w : World) (p : WA) (d : WD) (h : HasR w p d) (g : BgR d) :
    Calls Tryd.prog 4 #[.agg (wrV p d), .int .i64 1048576] w fun e w' => (∃ r, e = .returned (.int .i64 r) ∧ (0 ≤ r → wrT d ≤ 1048576)) ∧ Below w.heap.size w w' := by
  refine (show Calls _ _ _ _ _ from szWorldReport_r w p d h g 1048576 (by decide) (by decide)).mono ?_
  rintro e w' ⟨⟨r, rfl, hr⟩, n⟩
  refine ⟨⟨r, rfl, fun h0 => ?_⟩, n⟩
  rcases hr with ⟨_, rfl⟩ | ⟨h1, _⟩
  · omega
  · exact h1
theorem toW (w : World) (p : WA) (d : WD) (h : HasR w p d) (k : OkR d) :
    Calls Tryd.prog 6 #[.agg (wrV p d)] w fun e w' => (∃ q, e = .returned (.agg (wrV q d)) ∧ HasR w' q d) ∧ Below w.heap.size w w' := by
  refine (show Calls _ _ _ _ _ from toWorldReport_any w p d h k).mono ?_
  rintro e w' ⟨q, rfl, hq, n⟩
  exact ⟨⟨q, rfl, hq⟩, n⟩
theorem eqW (w : World) (p q : WA) (d : WD) (h : HasR w p d) (h' : HasR w q d) (k : OkR d) :
    Calls Tryd.prog 8 #[.agg (wrV p d), .agg (wrV q d)] w fun e w' => e = .returned (.bool true) ∧ Below w.heap.size w w' := eqWorldReport_same w p q d h h' k
/-- A report that may be read. -/
def FWr (m : WD) : Fact := ⟨fun v w => ∃ q, v = .agg (wrV q m) ∧ HasR w q m, fun n h => by
  obtain ⟨q, e, h⟩ := h
  exact ⟨q, e, h.up n⟩⟩
section
variable {ops : Array Oper} {Q : Exit → Act → World → Prop} {md : Region.Mode} {F : Nat → Fact} {a0 : Act} {w0 : World} {i : Nat} {o : Oper} {ts : Array TypeId}
theorem step_lW (ty : TypeId) (hu : ∃ d, Tryd.prog.underlying ty = some d ∧ d.isRow = true) (hs : (Tryd.prog.info? ty).map (·.size) = some 12) (hi : ops[i]? = some o) (p : Nat) (hop : o.op = .load ty (.tmp p)) (hp : apart ops p = true) (b : Nat) (h0 : a0.tmps.getD p undef = .pointer (some ⟨b, 0, none⟩)) {q : WA} {m : WD} (T : w0.rangeAt b 0 (wrV q m).toList) (hF : F i = Fact.eq (.agg (wrV q m))) : StepOk Tryd.prog md ops Q F a0 w0 i := by
  obtain ⟨d, hu, hr⟩ := hu
  refine step_load hi _ _ hop _ 12 hu hr hs fun a w hb hw _ => ?_
  exact ⟨b, 0, (wrV q m).toList, (based_at hb p hp).trans h0, rangeQ T hw, rfl, by rw [hF]; exact rfl⟩
theorem step_toW (hi : ops[i]? = some o) (p j : Nat) {q : WA} {m : WD} (hop : o.op = .call { callee := .value (.func 6), args := #[.tmp p], argTypes := ts })
    (hj : waits md ops i j p = true) (hC : HasR w0 q m) (im : OkR m) (hFj : F j = Fact.eq (.agg (wrV q m))) (hFi : F i = FWr m) : StepOk Tryd.prog md ops Q F a0 w0 i := by
  refine step_callv hi _ _ ts hop (by kernel_rfl) fun A w _ hw hF => ?_
  have ea := hF j p hj
  rw [hFj] at ea
  show Calls Tryd.prog 6 #[A.tmps.getD p undef] w _
  rw [show A.tmps.getD p undef = _ from ea]
  refine (toW w q m (hC.up hw) im).mono ?_
  rintro r w' ⟨⟨z, rfl, hz⟩, hn⟩
  rw [hFi]
  exact ⟨_, rfl, hn, z, rfl, hz⟩
theorem step_eqW (hi : ops[i]? = some o) (p q j k : Nat) {z : WA} {m : WD} (hop : o.op = .call { callee := .value (.func 8), args := #[.tmp p, .tmp q], argTypes := ts })
    (hj : waits md ops i j p = true) (hk : waits md ops i k q = true) (hC : HasR w0 z m) (im : OkR m) (hFj : F j = Fact.eq (.agg (wrV z m))) (hFk : F k = FWr m) (hFi : F i = Fact.eq (.bool true)) : StepOk Tryd.prog md ops Q F a0 w0 i := by
  refine step_callv hi _ _ ts hop (by kernel_rfl) fun A w _ hw hF => ?_
  have ea := hF j p hj
  rw [hFj] at ea
  have eb := hF k q hk
  rw [hFk] at eb
  obtain ⟨y, eb, hy⟩ := eb
  show Calls Tryd.prog 8 #[A.tmps.getD p undef, A.tmps.getD q undef] w _
  rw [show A.tmps.getD p undef = _ from ea, show A.tmps.getD q undef = _ from eb]
  refine (eqW w z y m (hC.up hw) hy im).mono ?_
  rintro r w' ⟨rfl, hn⟩
  rw [hFi]
  exact ⟨_, rfl, hn, rfl⟩
theorem step_notW {P : Program} (hi : ops[i]? = some o) (p j : Nat) {b : Bool} {t : TypeId} (hop : o.op = .unOp .not t (.tmp p)) (hj : waits md ops i j p = true) (hFj : F j = Fact.eq (.bool b)) (hFi : F i = Fact.eq (.bool (!b))) : StepOk P md ops Q F a0 w0 i := by
  refine step_pure hi fun a w _ _ hf => ⟨.bool (!b), ?_, by rw [hFi]; exact rfl⟩
  have e := hf j p hj
  rw [hFj] at e
  have e' : a.eval (.tmp p) = .bool b := e
  simp only [execOp, hop, e']
  rfl
end
set_option maxRecDepth 100000 in
set_option maxHeartbeats 8000000 in
theorem fmt_core (w : World) (p : WA) (m : WD) (hC : HasR w p m) (bg : BgR m) (x : XtR m) (hW : HasW w) :
    Calls Tryd.prog 3 #[.agg (wrV p m)] w fun e w' => e = .returned (.bool true) ∧ Below w.heap.size w w' := by
  have n1 : Below w.heap.size w (w.alloc (.cells (wrV p m) 30)) := (Below.refl _ _).alloc (Nat.le_refl _) _
  have T0 : RwC (w.alloc (.cells (wrV p m) 30)) w.heap.size (wrV p m).toList 30 := RwC.new w (wrV p m).toList 30
  have SZ := hide (szW (w.alloc (.cells (wrV p m) 30)) p m (hC.up n1) bg)
  have HC := hide (fun W (h : Below w.heap.size w W) => hC.up h)
  have HW := hide (fun W (h : Below w.heap.size w W) => hW.up h)
  have XX := hide x
  have N1 := hide n1
  have TT := hide T0
  clear n1 T0 hC bg hW x
  go_enter Tryd.func3, Tryd.ntmps3
  obtain ⟨dL, hdL, hrL⟩ := rowLWr
  obtain ⟨dC, hdC, hrC⟩ := rowWr
  go_upto_region 2 with fail
  generalize w.alloc (.cells (wrV p m) 30) = W1 at *
  have RG := TT.out.rangeG
  clear TT
  go_wp2_with (first | (refine wpList_load_mid rfl 30 (.tmp 1) rfl w.heap.size 0 rfl (wrV p m).toList dL RG hdL hrL iLWr ?_) | fail)
  refine SZ.out.mono ?_
  rintro e w2 ⟨⟨y, rfl, hx⟩, n2⟩
  have N2 := hide (nxt N1.out n2)
  have RG2 := rangeQ RG n2
  clear n2 RG SZ N1
  by_cases hl : y < 0
  · have t1 : decide (y < 0) = true := decide_eq_true hl
    clear hl hx HC RG2 HW XX
    go_wp2
    go_ret
    exact ⟨rfl, N2.out⟩
  have t1 : decide (y < 0) = false := decide_eq_false hl
  have LW := hide (lnWd_of (hx (by omega)) XX.out)
  have im := hide (okR_of (hx (by omega)))
  clear hl hx
  have TO := hide (fun W (h : Below w.heap.size w W) => toW W p m (HC.out W h) im.out)
  have SP : Hid (∀ W q, HasR W q m → Calls Tryd.prog 5 #[.agg (wrV q m)] W fun e w' => e = .returned (.string ⟨⟨rpT m⟩⟩) ∧ Below W.heap.size W w') := fun W q h => specFormat_all W q m h LW.out
  have IM : Hid (∀ W q, Below w.heap.size w W → HasR W q m → Calls Tryd.prog 7 #[.agg (wrV q m)] W fun e w' => e = .returned (.string ⟨⟨rpT m⟩⟩) ∧ Below W.heap.size W w') := fun W q n h => implFormat_any W (HW.out W n) q m h LW.out
  generalize (⟨⟨rpT m⟩⟩ : ByteArray) = z at *
  have zz : decide (z.data.toList = z.data.toList) = true := by simp
  go_wp2_with (first | (refine wpList_load_mid rfl 30 (.tmp 1) rfl w.heap.size 0 rfl (wrV p m).toList dL RG2 hdL hrL iLWr ?_) | fail)
  refine (TO.out w2 N2.out).mono ?_
  rintro e w3 ⟨⟨q, rfl, nc⟩, n3⟩
  have N3 := hide (nxt N2.out n3)
  have RG3 := rangeQ RG2 n3
  clear n3 RG2 N2
  go_wp2_with fail
  refine (SP.out w3 q nc).mono ?_
  rintro e w4 ⟨rfl, n4⟩
  have N4 := hide (nxt N3.out n4)
  have RG4 := rangeQ RG3 n4
  clear n4 RG3 N3 nc
  go_wp2_with (first | (refine wpList_load_mid rfl 30 (.tmp 1) rfl w.heap.size 0 rfl (wrV p m).toList dL RG4 hdL hrL iLWr ?_) | fail)
  refine (TO.out w4 N4.out).mono ?_
  rintro e w5 ⟨⟨q', rfl, nc⟩, n5⟩
  have N5 := hide (nxt N4.out n5)
  have RG5 := rangeQ RG4 n5
  clear n5 RG4 N4
  have a5 : Below w5.heap.size w5 (w5.alloc (.cells #[.int .i64 0, .slice none 0 0, .slice none 0 0, .slice none 0 0, .slice none 0 0, .int .i64 0, .int .i64 0, .string ⟨#[]⟩, .string ⟨#[]⟩, .int .i64 0, .int .i64 0, .slice none 0 0] 39)) := (Below.refl _ _).alloc (Nat.le_refl _) _
  have TH0 : RwC (w5.alloc (.cells #[.int .i64 0, .slice none 0 0, .slice none 0 0, .slice none 0 0, .slice none 0 0, .int .i64 0, .int .i64 0, .string ⟨#[]⟩, .string ⟨#[]⟩, .int .i64 0, .int .i64 0, .slice none 0 0] 39)) w5.heap.size (#[.int .i64 0, .slice none 0 0, .slice none 0 0, .slice none 0 0, .slice none 0 0, .int .i64 0, .int .i64 0, .string ⟨#[]⟩, .string ⟨#[]⟩, .int .i64 0, .int .i64 0, .slice none 0 0] : Array Value).toList 39 := RwC.new w5 (#[.int .i64 0, .slice none 0 0, .slice none 0 0, .slice none 0 0, .slice none 0 0, .int .i64 0, .int .i64 0, .string ⟨#[]⟩, .string ⟨#[]⟩, .int .i64 0, .int .i64 0, .slice none 0 0] : Array Value).toList 39
  have TH : (w5.alloc (.cells #[.int .i64 0, .slice none 0 0, .slice none 0 0, .slice none 0 0, .slice none 0 0, .int .i64 0, .int .i64 0, .string ⟨#[]⟩, .string ⟨#[]⟩, .int .i64 0, .int .i64 0, .slice none 0 0] 39)).there w5.heap.size 0 (wrV q' m).size := TH0.thereG
  have RX := World.rangeAt_setCells_same (w5.alloc (.cells #[.int .i64 0, .slice none 0 0, .slice none 0 0, .slice none 0 0, .slice none 0 0, .int .i64 0, .int .i64 0, .string ⟨#[]⟩, .string ⟨#[]⟩, .int .i64 0, .int .i64 0, .slice none 0 0] 39)) w5.heap.size 0 (wrV q' m).toList TH
  have OX := only_setG (w5.alloc (.cells #[.int .i64 0, .slice none 0 0, .slice none 0 0, .slice none 0 0, .slice none 0 0, .int .i64 0, .int .i64 0, .string ⟨#[]⟩, .string ⟨#[]⟩, .int .i64 0, .int .i64 0, .slice none 0 0] 39)) w5.heap.size (wrV q' m).toList 0
  have b5 : Below w5.heap.size w5 ((w5.alloc (.cells #[.int .i64 0, .slice none 0 0, .slice none 0 0, .slice none 0 0, .slice none 0 0, .int .i64 0, .int .i64 0, .string ⟨#[]⟩, .string ⟨#[]⟩, .int .i64 0, .int .i64 0, .slice none 0 0] 39)).setCells w5.heap.size 0 (wrV q' m).toList) := a5.trans (OX.below (Nat.le_refl _))
  have N6 := hide (nxt N5.out b5)
  have RG6 := rangeQ RG5 b5
  have HQ := hide (nc.up b5)
  clear a5 OX b5 RG5 N5 nc TH0
  have ON := oneWr q' m
  go_upto_region 7 with (first | (refine wpList_store_mid rfl 39 (.tmp 5) (.tmp 16) rfl w5.heap.size 0 (wrV q' m) rfl rfl TH iWr ON ?_) | fail)
  generalize (w5.alloc (.cells #[.int .i64 0, .slice none 0 0, .slice none 0 0, .slice none 0 0, .slice none 0 0, .int .i64 0, .int .i64 0, .string ⟨#[]⟩, .string ⟨#[]⟩, .int .i64 0, .int .i64 0, .slice none 0 0] 39)).setCells w5.heap.size 0 (wrV q' m).toList = w6 at *
  clear TH ON
  generalize w5.heap.size = b5 at *
  clear w5
  go_wp2_with (first | (refine wpList_load_mid rfl 39 (.tmp 5) rfl b5 0 rfl (wrV q' m).toList dC RX hdC hrC iWr ?_) | fail)
  refine (IM.out w6 q' N6.out HQ.out).mono ?_
  rintro e w7 ⟨rfl, n7⟩
  have N7 := hide (nxt N6.out n7)
  have RG7 := hide (rangeQ RG6 n7)
  have RX7 := hide (rangeQ RX n7)
  have HQ7 := hide (HQ.out.up n7)
  clear n7 RG6 RX HQ N6
  go_upto_region 10 with fail
  refine region_end 5 (fun i => [Fact.eq (.agg (wrV q' m)), Fact.eq (.agg (wrV p m)), FWr m, Fact.eq (.bool true), Fact.eq (.bool (!true))].getD i Fact.no) (by kernel_rfl) (by kernel_rfl) rfl ?_ ?_
  · intro i hi
    obtain rfl | rfl | rfl | rfl | rfl : i = 0 ∨ i = 1 ∨ i = 2 ∨ i = 3 ∨ i = 4 := by omega
    · exact step_lW _ rowWr iWr rfl 5 rfl (by kernel_rfl) b5 rfl RX7.out rfl
    · exact step_lW _ rowLWr iLWr rfl 1 rfl (by kernel_rfl) w.heap.size rfl RG7.out rfl
    · exact step_toW rfl 23 1 rfl (by kernel_rfl) (HC.out w7 N7.out) im.out rfl rfl
    · exact step_eqW rfl 22 24 0 2 rfl (by kernel_rfl) (by kernel_rfl) HQ7.out im.out rfl rfl rfl
    · exact step_notW rfl 25 3 rfl (by kernel_rfl) rfl rfl
  intro A W hb hw hF
  have e2 := hF 4 26 (by kernel_rfl)
  obtain ⟨vs, hvs⟩ : ∃ vs : Nat → Value, ∀ d, A.tmps.getD d undef = vs d := ⟨_, fun _ => rfl⟩
  rw [hvs] at e2
  rw [puts_of (md := .any) (k := 5) (by kernel_rfl) rfl hb vs hvs]
  clear hb hF hvs
  have e3 : vs 26 = .bool false := e2
  clear e2
  simp only [puts, e3, Act.put, List.setIfInBounds_toArray, List.set_cons_succ, List.set_cons_zero]
  clear e3
  have N8 := hide (nxt N7.out hw)
  clear hw N7 RG7 RX7 HQ7
  go_wp2
  go_ret
  exact ⟨rfl, N8.out⟩
end Go.Proofs.YtpbniihhpfbamaaDoor
