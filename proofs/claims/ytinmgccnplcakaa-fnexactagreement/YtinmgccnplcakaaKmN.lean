
/-
  The law of Agreement (written by gens/kmn.py).
-/
import Derived.Test.YtinmgccnplcakaaKmF
import Derived.Test.YtinmgccnplcakaaKmG
import Derived.Test.YtinmgccnplcakaaKmJ
import Derived.Test.YtinmgccnplcakaaKmM
namespace Go.Proofs.Ytinmgccnplcakaa
open Go Go.RowKit

/-- The cells of a channel's report. -/
def crV (p : CA) (d : CD) : Array Value := #[.int .i64 d.fa, .slice p.a1 d.an.length p.c1, .int .i64 d.cl.fa, .slice p.cl.a1 d.cl.an.length p.cl.c1, .slice p.cl.a2 d.cl.se.length p.cl.c2, .slice p.cl.a3 d.cl.re.length p.cl.c3, .int .i64 d.cl.er, .int .i64 d.cl.ph, .int .i64 d.cl.al, .int .i64 d.cl.pa, .int .i64 d.cl.no, .bool d.cl.rs, .bool d.cl.et, .string d.cl.pr, .slice p.cl.a12 d.cl.ex.length p.cl.c12, .slice p.cl.a13 d.cl.tr.length p.cl.c13, .slice p.cl.a14 d.cl.tk.length p.cl.c14, .slice p.cl.a15 d.cl.pk.length p.cl.c15, .slice p.cl.a16 d.cl.rn.length p.cl.c16, .int .i64 d.cl.gt, .int .i64 d.cl.li, .string d.cl.ho, .string d.cl.sp, .int .i64 d.cl.ea, .int .i64 d.cl.wd, .slice p.cl.a23 d.cl.ms.length p.cl.c23, .int .i64 d.sv.fa, .slice p.sv.a1 d.sv.an.length p.sv.c1, .slice p.sv.a2 d.sv.se.length p.sv.c2, .slice p.sv.a3 d.sv.re.length p.sv.c3, .int .i64 d.sv.er, .int .i64 d.sv.ph, .int .i64 d.sv.al, .int .i64 d.sv.pa, .int .i64 d.sv.no, .bool d.sv.rs, .bool d.sv.et, .string d.sv.pr, .slice p.sv.a12 d.sv.ex.length p.sv.c12, .slice p.sv.a13 d.sv.tr.length p.sv.c13, .slice p.sv.a14 d.sv.tk.length p.sv.c14, .slice p.sv.a15 d.sv.pk.length p.sv.c15, .slice p.sv.a16 d.sv.rn.length p.sv.c16, .int .i64 d.sv.gt, .int .i64 d.sv.li, .string d.sv.ho, .string d.sv.sp, .int .i64 d.sv.ea, .int .i64 d.sv.wd, .slice p.sv.a23 d.sv.ms.length p.sv.c23, .slice p.a50 d.ts.length p.c50, .slice p.a51 d.tc.length p.c51]
theorem crV_one (p : CA) (d : CD) : (crV p d).all (·.oneCell') = true := oneCr p d
theorem HasC.zero {b : Nat} {W : World} {p : CA} {d : CD} (h : HasC b W p d) : HasC 0 W p d := ⟨h.an, Nat.zero_le _, h.cl.mono (Nat.zero_le _), h.sv.mono (Nat.zero_le _), h.ts, Nat.zero_le _, h.tc, Nat.zero_le _⟩
theorem szC (w : World) (p : CA) (d : CD) (h : HasC 0 w p d) (g : BgC d) :
    Calls Try.prog 4 #[.agg (crV p d), .int .i64 1048576] w fun e w' => (∃ r, e = .returned (.int .i64 r) ∧ (0 ≤ r → OkC d)) ∧ Below w.heap.size w w' := by
  refine (show Calls _ _ _ _ _ from szChannelReport_r w p d h g 1048576 (by decide) (by decide)).mono ?_
  rintro e w' ⟨⟨r, rfl, hr⟩, n⟩
  refine ⟨⟨r, rfl, fun h0 => okC_of ?_⟩, n⟩
  rcases hr with ⟨_, rfl⟩ | ⟨h1, _⟩
  · omega
  · exact h1
theorem toC (w : World) (p : CA) (d : CD) (h : HasC 0 w p d) (k : OkC d) :
    Calls Try.prog 6 #[.agg (crV p d)] w fun e w' => (∃ q, e = .returned (.agg (crV q d)) ∧ HasC 0 w' q d) ∧ Below w.heap.size w w' := by
  refine (show Calls _ _ _ _ _ from toChannelReport_any w p d h k).mono ?_
  rintro e w' ⟨q, rfl, hq, n⟩
  exact ⟨⟨q, rfl, hq.zero⟩, n⟩
theorem eqC (w : World) (p q : CA) (d : CD) (h : HasC 0 w p d) (h' : HasC 0 w q d) (k : OkC d) :
    Calls Try.prog 8 #[.agg (crV p d), .agg (crV q d)] w fun e w' => e = .returned (.bool true) ∧ Below w.heap.size w w' := eqChannelReport_same w p q d 0 0 h h' k
theorem spC (w : World) (p : CA) (d : CD) (h : HasC 0 w p d) (t : BtE d.cl) (t' : BtE d.sv) :
    Calls Try.prog 5 #[.agg (crV p d)] w fun e w' => e = .returned (.int .i64 (agV d.cl d.sv)) ∧ Below w.heap.size w w' := specAgr_any w p d 0 h t t'
theorem imC (w : World) (p : CA) (d : CD) (h : HasC 0 w p d) (t : BtE d.cl) (t' : BtE d.sv) :
    Calls Try.prog 7 #[.agg (crV p d)] w fun e w' => e = .returned (.int .i64 (agV d.cl d.sv)) ∧ Below w.heap.size w w' := implAgr_any w p d 0 h t t'
theorem rangeC {w w' : World} {b : Nat} {cs : List Value} (h : w.rangeAt b 0 cs) (n : Below w.heap.size w w') : w'.rangeAt b 0 cs := rangeQ h n
/-- A report that may be read. -/
def FCr (m : CD) : Fact := ⟨fun v w => ∃ q, v = .agg (crV q m) ∧ HasC 0 w q m, fun n h => by
  obtain ⟨q, e, h⟩ := h
  exact ⟨q, e, h.up n⟩⟩
section
variable {ops : Array Oper} {Q : Exit → Act → World → Prop} {md : Region.Mode} {F : Nat → Fact} {a0 : Act} {w0 : World} {i : Nat} {o : Oper} {ts : Array TypeId}
theorem step_lC (ty : TypeId) (hu : ∃ d, Try.prog.underlying ty = some d ∧ d.isRow = true) (hs : (Try.prog.info? ty).map (·.size) = some 52) (hi : ops[i]? = some o) (p : Nat) (hop : o.op = .load ty (.tmp p)) (hp : apart ops p = true) (b : Nat) (h0 : a0.tmps.getD p undef = .pointer (some ⟨b, 0, none⟩)) {q : CA} {m : CD} (T : w0.rangeAt b 0 (crV q m).toList) (hF : F i = Fact.eq (.agg (crV q m))) : StepOk Try.prog md ops Q F a0 w0 i := by
  obtain ⟨d, hu, hr⟩ := hu
  refine step_load hi _ _ hop _ 52 hu hr hs fun a w hb hw _ => ?_
  exact ⟨b, 0, (crV q m).toList, (based_at hb p hp).trans h0, rangeC T hw, rfl, by rw [hF]; exact rfl⟩
theorem step_toC (hi : ops[i]? = some o) (p j : Nat) {q : CA} {m : CD} (hop : o.op = .call { callee := .value (.func 6), args := #[.tmp p], argTypes := ts })
    (hj : waits md ops i j p = true) (hC : HasC 0 w0 q m) (im : OkC m) (hFj : F j = Fact.eq (.agg (crV q m))) (hFi : F i = FCr m) : StepOk Try.prog md ops Q F a0 w0 i := by
  refine step_callv hi _ _ ts hop (by kernel_rfl) fun A w _ hw hF => ?_
  have ea := hF j p hj
  rw [hFj] at ea
  show Calls Try.prog 6 #[A.tmps.getD p undef] w _
  rw [show A.tmps.getD p undef = _ from ea]
  refine (toC w q m (hC.up hw) im).mono ?_
  rintro r w' ⟨⟨z, rfl, hz⟩, hn⟩
  rw [hFi]
  exact ⟨_, rfl, hn, z, rfl, hz⟩
theorem step_eqC (hi : ops[i]? = some o) (p q j k : Nat) {z : CA} {m : CD} (hop : o.op = .call { callee := .value (.func 8), args := #[.tmp p, .tmp q], argTypes := ts })
    (hj : waits md ops i j p = true) (hk : waits md ops i k q = true) (hC : HasC 0 w0 z m) (im : OkC m) (hFj : F j = Fact.eq (.agg (crV z m))) (hFk : F k = FCr m) (hFi : F i = Fact.eq (.bool true)) : StepOk Try.prog md ops Q F a0 w0 i := by
  refine step_callv hi _ _ ts hop (by kernel_rfl) fun A w _ hw hF => ?_
  have ea := hF j p hj
  rw [hFj] at ea
  have eb := hF k q hk
  rw [hFk] at eb
  obtain ⟨y, eb, hy⟩ := eb
  show Calls Try.prog 8 #[A.tmps.getD p undef, A.tmps.getD q undef] w _
  rw [show A.tmps.getD p undef = _ from ea, show A.tmps.getD q undef = _ from eb]
  refine (eqC w z y m (hC.up hw) hy im).mono ?_
  rintro r w' ⟨rfl, hn⟩
  rw [hFi]
  exact ⟨_, rfl, hn, rfl⟩
theorem step_notC {P : Program} (hi : ops[i]? = some o) (p j : Nat) {b : Bool} {t : TypeId} (hop : o.op = .unOp .not t (.tmp p)) (hj : waits md ops i j p = true) (hFj : F j = Fact.eq (.bool b)) (hFi : F i = Fact.eq (.bool (!b))) : StepOk P md ops Q F a0 w0 i := by
  refine step_pure hi fun a w _ _ hf => ⟨.bool (!b), ?_, by rw [hFi]; exact rfl⟩
  have e := hf j p hj
  rw [hFj] at e
  have e' : a.eval (.tmp p) = .bool b := e
  simp only [execOp, hop, e']
  rfl
end
set_option maxRecDepth 100000 in
set_option maxHeartbeats 8000000 in
theorem agr_core (w : World) (p : CA) (m : CD) (hC : HasC 0 w p m) (bg : BgC m) (t : BtE m.cl) (t' : BtE m.sv) :
    Calls Try.prog 3 #[.agg (crV p m)] w fun e w' => e = .returned (.bool true) ∧ Below w.heap.size w w' := by
  have n1 : Below w.heap.size w (w.alloc (.cells (crV p m) 32)) := (Below.refl _ _).alloc (Nat.le_refl _) _
  have T0 : RwC (w.alloc (.cells (crV p m) 32)) w.heap.size (crV p m).toList 32 := RwC.new w (crV p m).toList 32
  have SZ := hide (szC (w.alloc (.cells (crV p m) 32)) p m (hC.up n1) bg)
  have HC := hide (fun W (h : Below w.heap.size w W) => hC.up h)
  have N1 := hide n1
  have TT := hide T0
  clear n1 T0 hC bg
  go_enter Try.func3, Try.ntmps3
  obtain ⟨dL, hdL, hrL⟩ := rowLCr
  obtain ⟨dC, hdC, hrC⟩ := rowCr
  go_upto_region 2 with fail
  generalize w.alloc (.cells (crV p m) 32) = W1 at *
  have RG := TT.out.rangeG
  clear TT
  go_wp2_with (first | (refine wpList_load_mid rfl 32 (.tmp 1) rfl w.heap.size 0 rfl (crV p m).toList dL RG hdL hrL iLCr ?_) | fail)
  refine SZ.out.mono ?_
  rintro e w2 ⟨⟨x, rfl, hx⟩, n2⟩
  have N2 := hide (nxt N1.out n2)
  have RG2 := rangeC RG n2
  clear n2 RG SZ N1
  by_cases hl : x < 0
  · have t1 : decide (x < 0) = true := decide_eq_true hl
    clear hl hx HC RG2
    go_wp2
    go_ret
    exact ⟨rfl, N2.out⟩
  have t1 : decide (x < 0) = false := decide_eq_false hl
  have im := hide (hx (by omega))
  clear hl hx
  have TO := hide (fun W (h : Below w.heap.size w W) => toC W p m (HC.out W h) im.out)
  have SP := hide (fun W q (h : HasC 0 W q m) => spC W q m h t t')
  have IM := hide (fun W q (h : HasC 0 W q m) => imC W q m h t t')
  generalize agV m.cl m.sv = z at *
  have zz : (z == z) = true := by simp
  have zn : (z != z) = false := by simp
  go_wp2_with (first | (refine wpList_load_mid rfl 32 (.tmp 1) rfl w.heap.size 0 rfl (crV p m).toList dL RG2 hdL hrL iLCr ?_) | fail)
  refine (TO.out w2 N2.out).mono ?_
  rintro e w3 ⟨⟨q, rfl, nc⟩, n3⟩
  have N3 := hide (nxt N2.out n3)
  have RG3 := rangeC RG2 n3
  clear n3 RG2 N2
  go_wp2_with fail
  refine (SP.out w3 q nc).mono ?_
  rintro e w4 ⟨rfl, n4⟩
  have N4 := hide (nxt N3.out n4)
  have RG4 := rangeC RG3 n4
  clear n4 RG3 N3 nc
  go_wp2_with (first | (refine wpList_load_mid rfl 32 (.tmp 1) rfl w.heap.size 0 rfl (crV p m).toList dL RG4 hdL hrL iLCr ?_) | fail)
  refine (TO.out w4 N4.out).mono ?_
  rintro e w5 ⟨⟨q', rfl, nc⟩, n5⟩
  have N5 := hide (nxt N4.out n5)
  have RG5 := rangeC RG4 n5
  clear n5 RG4 N4
  have a5 : Below w5.heap.size w5 (w5.alloc (.cells #[.int .i64 0, .slice none 0 0, .int .i64 0, .slice none 0 0, .slice none 0 0, .slice none 0 0, .int .i64 0, .int .i64 0, .int .i64 0, .int .i64 0, .int .i64 0, .bool false, .bool false, .string ⟨#[]⟩, .slice none 0 0, .slice none 0 0, .slice none 0 0, .slice none 0 0, .slice none 0 0, .int .i64 0, .int .i64 0, .string ⟨#[]⟩, .string ⟨#[]⟩, .int .i64 0, .int .i64 0, .slice none 0 0, .int .i64 0, .slice none 0 0, .slice none 0 0, .slice none 0 0, .int .i64 0, .int .i64 0, .int .i64 0, .int .i64 0, .int .i64 0, .bool false, .bool false, .string ⟨#[]⟩, .slice none 0 0, .slice none 0 0, .slice none 0 0, .slice none 0 0, .slice none 0 0, .int .i64 0, .int .i64 0, .string ⟨#[]⟩, .string ⟨#[]⟩, .int .i64 0, .int .i64 0, .slice none 0 0, .slice none 0 0, .slice none 0 0] 42)) := (Below.refl _ _).alloc (Nat.le_refl _) _
  have TH0 : RwC (w5.alloc (.cells #[.int .i64 0, .slice none 0 0, .int .i64 0, .slice none 0 0, .slice none 0 0, .slice none 0 0, .int .i64 0, .int .i64 0, .int .i64 0, .int .i64 0, .int .i64 0, .bool false, .bool false, .string ⟨#[]⟩, .slice none 0 0, .slice none 0 0, .slice none 0 0, .slice none 0 0, .slice none 0 0, .int .i64 0, .int .i64 0, .string ⟨#[]⟩, .string ⟨#[]⟩, .int .i64 0, .int .i64 0, .slice none 0 0, .int .i64 0, .slice none 0 0, .slice none 0 0, .slice none 0 0, .int .i64 0, .int .i64 0, .int .i64 0, .int .i64 0, .int .i64 0, .bool false, .bool false, .string ⟨#[]⟩, .slice none 0 0, .slice none 0 0, .slice none 0 0, .slice none 0 0, .slice none 0 0, .int .i64 0, .int .i64 0, .string ⟨#[]⟩, .string ⟨#[]⟩, .int .i64 0, .int .i64 0, .slice none 0 0, .slice none 0 0, .slice none 0 0] 42)) w5.heap.size (#[.int .i64 0, .slice none 0 0, .int .i64 0, .slice none 0 0, .slice none 0 0, .slice none 0 0, .int .i64 0, .int .i64 0, .int .i64 0, .int .i64 0, .int .i64 0, .bool false, .bool false, .string ⟨#[]⟩, .slice none 0 0, .slice none 0 0, .slice none 0 0, .slice none 0 0, .slice none 0 0, .int .i64 0, .int .i64 0, .string ⟨#[]⟩, .string ⟨#[]⟩, .int .i64 0, .int .i64 0, .slice none 0 0, .int .i64 0, .slice none 0 0, .slice none 0 0, .slice none 0 0, .int .i64 0, .int .i64 0, .int .i64 0, .int .i64 0, .int .i64 0, .bool false, .bool false, .string ⟨#[]⟩, .slice none 0 0, .slice none 0 0, .slice none 0 0, .slice none 0 0, .slice none 0 0, .int .i64 0, .int .i64 0, .string ⟨#[]⟩, .string ⟨#[]⟩, .int .i64 0, .int .i64 0, .slice none 0 0, .slice none 0 0, .slice none 0 0] : Array Value).toList 42 := RwC.new w5 (#[.int .i64 0, .slice none 0 0, .int .i64 0, .slice none 0 0, .slice none 0 0, .slice none 0 0, .int .i64 0, .int .i64 0, .int .i64 0, .int .i64 0, .int .i64 0, .bool false, .bool false, .string ⟨#[]⟩, .slice none 0 0, .slice none 0 0, .slice none 0 0, .slice none 0 0, .slice none 0 0, .int .i64 0, .int .i64 0, .string ⟨#[]⟩, .string ⟨#[]⟩, .int .i64 0, .int .i64 0, .slice none 0 0, .int .i64 0, .slice none 0 0, .slice none 0 0, .slice none 0 0, .int .i64 0, .int .i64 0, .int .i64 0, .int .i64 0, .int .i64 0, .bool false, .bool false, .string ⟨#[]⟩, .slice none 0 0, .slice none 0 0, .slice none 0 0, .slice none 0 0, .slice none 0 0, .int .i64 0, .int .i64 0, .string ⟨#[]⟩, .string ⟨#[]⟩, .int .i64 0, .int .i64 0, .slice none 0 0, .slice none 0 0, .slice none 0 0] : Array Value).toList 42
  have TH : (w5.alloc (.cells #[.int .i64 0, .slice none 0 0, .int .i64 0, .slice none 0 0, .slice none 0 0, .slice none 0 0, .int .i64 0, .int .i64 0, .int .i64 0, .int .i64 0, .int .i64 0, .bool false, .bool false, .string ⟨#[]⟩, .slice none 0 0, .slice none 0 0, .slice none 0 0, .slice none 0 0, .slice none 0 0, .int .i64 0, .int .i64 0, .string ⟨#[]⟩, .string ⟨#[]⟩, .int .i64 0, .int .i64 0, .slice none 0 0, .int .i64 0, .slice none 0 0, .slice none 0 0, .slice none 0 0, .int .i64 0, .int .i64 0, .int .i64 0, .int .i64 0, .int .i64 0, .bool false, .bool false, .string ⟨#[]⟩, .slice none 0 0, .slice none 0 0, .slice none 0 0, .slice none 0 0, .slice none 0 0, .int .i64 0, .int .i64 0, .string ⟨#[]⟩, .string ⟨#[]⟩, .int .i64 0, .int .i64 0, .slice none 0 0, .slice none 0 0, .slice none 0 0] 42)).there w5.heap.size 0 (crV q' m).size := TH0.thereG
  have RX := World.rangeAt_setCells_same (w5.alloc (.cells #[.int .i64 0, .slice none 0 0, .int .i64 0, .slice none 0 0, .slice none 0 0, .slice none 0 0, .int .i64 0, .int .i64 0, .int .i64 0, .int .i64 0, .int .i64 0, .bool false, .bool false, .string ⟨#[]⟩, .slice none 0 0, .slice none 0 0, .slice none 0 0, .slice none 0 0, .slice none 0 0, .int .i64 0, .int .i64 0, .string ⟨#[]⟩, .string ⟨#[]⟩, .int .i64 0, .int .i64 0, .slice none 0 0, .int .i64 0, .slice none 0 0, .slice none 0 0, .slice none 0 0, .int .i64 0, .int .i64 0, .int .i64 0, .int .i64 0, .int .i64 0, .bool false, .bool false, .string ⟨#[]⟩, .slice none 0 0, .slice none 0 0, .slice none 0 0, .slice none 0 0, .slice none 0 0, .int .i64 0, .int .i64 0, .string ⟨#[]⟩, .string ⟨#[]⟩, .int .i64 0, .int .i64 0, .slice none 0 0, .slice none 0 0, .slice none 0 0] 42)) w5.heap.size 0 (crV q' m).toList TH
  have OX := only_setG (w5.alloc (.cells #[.int .i64 0, .slice none 0 0, .int .i64 0, .slice none 0 0, .slice none 0 0, .slice none 0 0, .int .i64 0, .int .i64 0, .int .i64 0, .int .i64 0, .int .i64 0, .bool false, .bool false, .string ⟨#[]⟩, .slice none 0 0, .slice none 0 0, .slice none 0 0, .slice none 0 0, .slice none 0 0, .int .i64 0, .int .i64 0, .string ⟨#[]⟩, .string ⟨#[]⟩, .int .i64 0, .int .i64 0, .slice none 0 0, .int .i64 0, .slice none 0 0, .slice none 0 0, .slice none 0 0, .int .i64 0, .int .i64 0, .int .i64 0, .int .i64 0, .int .i64 0, .bool false, .bool false, .string ⟨#[]⟩, .slice none 0 0, .slice none 0 0, .slice none 0 0, .slice none 0 0, .slice none 0 0, .int .i64 0, .int .i64 0, .string ⟨#[]⟩, .string ⟨#[]⟩, .int .i64 0, .int .i64 0, .slice none 0 0, .slice none 0 0, .slice none 0 0] 42)) w5.heap.size (crV q' m).toList 0
  have b5 : Below w5.heap.size w5 ((w5.alloc (.cells #[.int .i64 0, .slice none 0 0, .int .i64 0, .slice none 0 0, .slice none 0 0, .slice none 0 0, .int .i64 0, .int .i64 0, .int .i64 0, .int .i64 0, .int .i64 0, .bool false, .bool false, .string ⟨#[]⟩, .slice none 0 0, .slice none 0 0, .slice none 0 0, .slice none 0 0, .slice none 0 0, .int .i64 0, .int .i64 0, .string ⟨#[]⟩, .string ⟨#[]⟩, .int .i64 0, .int .i64 0, .slice none 0 0, .int .i64 0, .slice none 0 0, .slice none 0 0, .slice none 0 0, .int .i64 0, .int .i64 0, .int .i64 0, .int .i64 0, .int .i64 0, .bool false, .bool false, .string ⟨#[]⟩, .slice none 0 0, .slice none 0 0, .slice none 0 0, .slice none 0 0, .slice none 0 0, .int .i64 0, .int .i64 0, .string ⟨#[]⟩, .string ⟨#[]⟩, .int .i64 0, .int .i64 0, .slice none 0 0, .slice none 0 0, .slice none 0 0] 42)).setCells w5.heap.size 0 (crV q' m).toList) := a5.trans (OX.below (Nat.le_refl _))
  have N6 := hide (nxt N5.out b5)
  have RG6 := rangeC RG5 b5
  have HQ := hide (nc.up b5)
  clear a5 OX b5 RG5 N5 nc TH0
  have ON := crV_one q' m
  go_upto_region 7 with (first | (refine wpList_store_mid rfl 42 (.tmp 5) (.tmp 16) rfl w5.heap.size 0 (crV q' m) rfl rfl TH iCr ON ?_) | fail)
  generalize (w5.alloc (.cells #[.int .i64 0, .slice none 0 0, .int .i64 0, .slice none 0 0, .slice none 0 0, .slice none 0 0, .int .i64 0, .int .i64 0, .int .i64 0, .int .i64 0, .int .i64 0, .bool false, .bool false, .string ⟨#[]⟩, .slice none 0 0, .slice none 0 0, .slice none 0 0, .slice none 0 0, .slice none 0 0, .int .i64 0, .int .i64 0, .string ⟨#[]⟩, .string ⟨#[]⟩, .int .i64 0, .int .i64 0, .slice none 0 0, .int .i64 0, .slice none 0 0, .slice none 0 0, .slice none 0 0, .int .i64 0, .int .i64 0, .int .i64 0, .int .i64 0, .int .i64 0, .bool false, .bool false, .string ⟨#[]⟩, .slice none 0 0, .slice none 0 0, .slice none 0 0, .slice none 0 0, .slice none 0 0, .int .i64 0, .int .i64 0, .string ⟨#[]⟩, .string ⟨#[]⟩, .int .i64 0, .int .i64 0, .slice none 0 0, .slice none 0 0, .slice none 0 0] 42)).setCells w5.heap.size 0 (crV q' m).toList = w6 at *
  clear TH ON
  generalize w5.heap.size = b5 at *
  clear w5
  go_wp2_with (first | (refine wpList_load_mid rfl 42 (.tmp 5) rfl b5 0 rfl (crV q' m).toList dC RX hdC hrC iCr ?_) | fail)
  refine (IM.out w6 q' HQ.out).mono ?_
  rintro e w7 ⟨rfl, n7⟩
  have N7 := hide (nxt N6.out n7)
  have RG7 := hide (rangeC RG6 n7)
  have RX7 := hide (rangeC RX n7)
  have HQ7 := hide (HQ.out.up n7)
  clear n7 RG6 RX HQ N6
  go_upto_region 10 with fail
  refine region_end 5 (fun i => [Fact.eq (.agg (crV q' m)), Fact.eq (.agg (crV p m)), FCr m, Fact.eq (.bool true), Fact.eq (.bool (!true))].getD i Fact.no) (by kernel_rfl) (by kernel_rfl) rfl ?_ ?_
  · intro i hi
    obtain rfl | rfl | rfl | rfl | rfl : i = 0 ∨ i = 1 ∨ i = 2 ∨ i = 3 ∨ i = 4 := by omega
    · exact step_lC _ rowCr iCr rfl 5 rfl (by kernel_rfl) b5 rfl RX7.out rfl
    · exact step_lC _ rowLCr iLCr rfl 1 rfl (by kernel_rfl) w.heap.size rfl RG7.out rfl
    · exact step_toC rfl 23 1 rfl (by kernel_rfl) (HC.out w7 N7.out) im.out rfl rfl
    · exact step_eqC rfl 22 24 0 2 rfl (by kernel_rfl) (by kernel_rfl) HQ7.out im.out rfl rfl rfl
    · exact step_notC rfl 25 3 rfl (by kernel_rfl) rfl rfl
  intro A W hb hw hF
  have e2 := hF 4 26 (by kernel_rfl)
  obtain ⟨vs, hvs⟩ : ∃ vs : Nat → Value, ∀ d, A.tmps.getD d undef = vs d := ⟨_, fun _ => rfl⟩
  rw [hvs] at e2
  rw [puts_of (md := .any) (k := 5) (by kernel_rfl) rfl hb vs hvs]
  clear hb hF hvs
  have e3 : vs 26 = .bool false := e2
  clear e2
  simp only [puts, e3, Act.put, List.setIfInBounds_toArray, List.set_cons_succ, List.set_cons_zero]
  clear e3
  have N8 := hide (nxt N7.out hw)
  clear hw N7 RG7 RX7 HQ7
  go_wp2
  go_ret
  exact ⟨rfl, N8.out⟩
end Go.Proofs.Ytinmgccnplcakaa
