import Derived.Test.YtcaljanahpdidaaGreatGV17
import Derived.Deep.RegionWith
import Derived.Test.YtcaljanahpdidaaGreatGV16
import Derived.Test.YtcaljanahpdidaaGreatGV5
import Derived.Defers
import Derived.Recover
import Derived.Test.YtcaljanahpdidaaGreatGV7
import Derived.Test.YtcaljanahpdidaaGreatGV14
import Derived.Test.YtcaljanahpdidaaGreatGV2
import Derived.Deep.MidRow
namespace Go.Proofs.YtcaljanahpdidaaGreat
open Go Go.RowKit
def mkT (k n : Nat) : List (List UInt8) := (List.range n).map fun i => mtF (k + i)
theorem mkT_len (k n : Nat) : (mkT k n).length = n := by simp [mkT]
theorem mkT_get (k n i : Nat) (h : i < n) : (mkT k n).getD i [] = mtF (k + i) := by simp [mkT, h]
def MkTo (k : Nat) (ys : List (List UInt8)) (n j : Nat) : Prop := ys.length = n ∧ ∀ i, i < j → ys.getD i [] = mtF (k + i)
theorem MkTo.all {k : Nat} {ys : List (List UInt8)} {n : Nat} (h : MkTo k ys n n) : ys = mkT k n := by
  apply List.ext_getElem?
  intro i
  by_cases hi : i < n
  · have h1 := h.2 i hi
    rw [List.getD_eq_getElem?_getD, List.getElem?_eq_getElem (by rw [h.1]; exact hi)] at h1
    have h2 := mkT_get k n i hi
    rw [List.getD_eq_getElem?_getD, List.getElem?_eq_getElem (by rw [mkT_len]; exact hi)] at h2
    rw [List.getElem?_eq_getElem (by rw [h.1]; exact hi), List.getElem?_eq_getElem (by rw [mkT_len]; exact hi)]
    simp only [Option.getD_some] at h1 h2
    rw [h1, h2]
  · rw [List.getElem?_eq_none (by rw [h.1]; omega), List.getElem?_eq_none (by rw [mkT_len]; omega)]
theorem MkTo.step {k : Nat} {ys : List (List UInt8)} {n j : Nat} (h : MkTo k ys n j) (hj : j < n) : MkTo k (ys.set j (mtF (k + j))) n (j + 1) := by
  refine ⟨by simpa using h.1, fun i hi => ?_⟩
  rw [List.getD_eq_getElem?_getD]
  by_cases e : j = i
  · subst e
    rw [List.getElem?_set_self (by rw [h.1]; exact hj)]
    rfl
  · rw [List.getElem?_set_ne e, ← List.getD_eq_getElem?_getD]
    exact h.2 i (by omega)
end Go.Proofs.YtcaljanahpdidaaGreat
namespace Go.Proofs.YtcaljanahpdidaaGreat
open Go Go.RowKit
theorem rwCatch_pan (p : Nat) (u : TypeId) (pv x : Value) (w : World) (h : RwC w p [x] 4) :
    CallsD Tryz.prog 54 #[.pointer (some ⟨p, 0, none⟩)] (.panicking [{ v := .iface u pv, recovered := false }]) w fun e u' w' =>
      e = .returned (.tuple #[]) ∧ u' = .panicking [{ v := .iface u pv, recovered := true }] ∧ Only p w w' ∧ RwC w' p [.bool false] 4 := by
  have c0 := h.cell 0
  have f0 := h.free 0
  have K : Hid (RwC (w.setCell ⟨p, 0, none⟩ (.bool false)) p [.bool false] 4) := h.set 0 _
  have O := hide (Only.setCell w p 0 (.bool false))
  clear h
  refine callsD_of_wpS Tryz.func54 rfl fun c₀ cs hu => ?_
  apply wpS_seq
  apply wpS_region
  simp [wpOpsS, go_sem, recoverD, hu, Tryz.ntmps54, Exit.thenS]
  refine wpS_cond (t := true) (by simp [Act.eval, Array.replicate]) ?_
  simp only [if_true]
  refine wpS_of_wp ?_
  go_wp2
  exact ⟨rfl, _, rfl, .tuple #[], by simp [results, Tryz.results54, go_sem], rfl, rfl, O.out, K.out⟩
theorem rwCatch_idle (p : Addr) (w : World) :
    CallsD Tryz.prog 54 #[.pointer (some p)] .returning w fun e u' w' => e = .returned (.tuple #[]) ∧ u' = .returning ∧ w' = w := by
  refine callsD_of_wpS Tryz.func54 rfl fun c₀ cs hu => ?_
  apply wpS_seq
  apply wpS_region
  simp [wpOpsS, go_sem, recoverD, hu, Tryz.ntmps54, Exit.thenS]
  refine wpS_cond (t := false) (by simp [Act.eval, Array.replicate]) ?_
  simp only [Bool.false_eq_true, if_false]
  refine wpS_of_wp (wp_skip ?_)
  cases c₀
  simp_all [bodyPostS, results, Tryz.results54]
theorem Tch.newO {S : List Nat} {w w2 w4 : World} (h : Tch S w w2) (O : Only w.heap.size w2 w4) : Tch S w w4 :=
  ⟨O.os.trans h.os, O.tape.trans h.tape, O.output.trans h.output, by rw [O.size]; exact h.size, fun b hb hn => (O.block b (by omega)).trans (h.block b hb hn)⟩
def rwB (fits : Prop) [Decidable fits] (f : Int) (bod xs : List Int) : Bool := decide (fits ∧ f = 0 ∧ bod = xs)
set_option maxRecDepth 100000 in
set_option maxHeartbeats 2000000 in
theorem readWhole_core (w : World) (q g : Nat) (a : Option Addr) (c : Nat) (xs bod : List Int) (f : Int) (fits : Prop) [Decidable fits] (T S : TypeId) (init : List Value) (fr ff fb : Nat) (R : World → Prop)
    (hq : RwC w q init S) (hr : Rd w g a .u8 xs) (hb : Byt xs) (hbb : Byt bod) (hgq : 0 < xs.length → g ≠ q)
    (mr : ∀ (x : Nat) (W : World), (method 250 T (.pointer (some ⟨x, 0, none⟩)) "loop.example/g00004/impl.read").run Tryz.prog W = .ok (fr, .pointer (some ⟨x, 0, none⟩)) W)
    (mf : ∀ (x : Nat) (W : World), (method 250 T (.pointer (some ⟨x, 0, none⟩)) "loop.example/g00004/impl.fault").run Tryz.prog W = .ok (ff, .pointer (some ⟨x, 0, none⟩)) W)
    (mb : ∀ (x : Nat) (W : World), (method 250 T (.pointer (some ⟨x, 0, none⟩)) "loop.example/g00004/impl.body").run Tryz.prog W = .ok (fb, .pointer (some ⟨x, 0, none⟩)) W)
    (cr : ∀ vs W, (callFunc fr vs).run Tryz.prog W = .ok (.enter fr vs) W) (cf : ∀ vs W, (callFunc ff vs).run Tryz.prog W = .ok (.enter ff vs) W) (cb : ∀ vs W, (callFunc fb vs).run Tryz.prog W = .ok (.enter fb vs) W)
    (RD : ∀ W p, RwC W q init S → Cur W p (.slice a xs.length c) ((0 : Nat) : Int) → q ≠ p → p < W.heap.size → Rd W g a .u8 xs → (0 < xs.length → g ≠ p) → w.heap.size < p → Calls Tryz.prog fr #[.pointer (some ⟨q, 0, none⟩), .pointer (some ⟨p, 0, none⟩)] W fun e W' => ((fits ∧ e = .returned (.tuple #[]) ∧ R W') ∨ (¬ fits ∧ Pan e)) ∧ Kq p q W W')
    (FT : ∀ W, R W → Calls Tryz.prog ff #[.pointer (some ⟨q, 0, none⟩)] W fun e W' => e = .returned (.int .i64 f) ∧ Below W.heap.size W W')
    (BD : ∀ W, R W → f = 0 → Calls Tryz.prog fb #[.pointer (some ⟨q, 0, none⟩)] W (BodP W bod))
    (Rup : ∀ W W', R W → Below W.heap.size W W' → R W') (Ron : ∀ W W', R W → Only w.heap.size W W' → R W') :
    Calls Tryz.prog 42 #[.iface T (.pointer (some ⟨q, 0, none⟩)), .slice a xs.length c] w fun e w' => e = .returned (.bool (rwB fits f bod xs)) ∧ (rwB fits f bod xs = true → R w') ∧ Tch [q] w w' := by
  have hmf : ∀ (fn : Fn) (first cap : Array Value) (w : World), (Instr.makeFunc fn first cap).run Tryz.prog w = .ok (.func fn first cap) w := fun _ _ _ _ => rfl
  have hql := hq.lt
  have n0 : Below w.heap.size w (w.alloc (.cells #[.bool false] 4)) := (Below.refl _ _).alloc (Nat.le_refl _) _
  have T0 := RwC.new w [.bool false] 4
  have z0 : (w.alloc (.cells #[.bool false] 4)).heap.size = w.heap.size + 1 := by simp
  have n1 : Below w.heap.size w ((w.alloc (.cells #[.bool false] 4)).alloc (.cells #[.slice a xs.length c, .int .i64 0] 110)) := n0.alloc (by simp) _
  have T1 : RwC ((w.alloc (.cells #[.bool false] 4)).alloc (.cells #[.slice a xs.length c, .int .i64 0] 110)) w.heap.size [.bool false] 4 := T0.up ((Below.refl _ _).alloc (Nat.le_refl _) _)
  have C1 : Cur ((w.alloc (.cells #[.bool false] 4)).alloc (.cells #[.slice a xs.length c, .int .i64 0] 110)) (w.heap.size + 1) (.slice a xs.length c) ((0 : Nat) : Int) := by
    have := RwC.new (w.alloc (.cells #[.bool false] 4)) [.slice a xs.length c, .int .i64 0] 110
    rw [z0] at this
    exact ⟨_, this⟩
  have Q1 := hq.up n1
  have R1 := hr.up n1
  have l1 : w.heap.size + 1 < ((w.alloc (.cells #[.bool false] 4)).alloc (.cells #[.slice a xs.length c, .int .i64 0] 110)).heap.size := by simp
  clear z0 n0 T0
  have HRD := hide RD
  have HFT := hide FT
  have HBD := hide BD
  have HUP := hide Rup
  have HON := hide Ron
  have HB := hide hb
  have HBB := hide hbb
  have GLT := hide (fun h => hr.lt h)
  clear RD FT BD Rup Ron hb hbb hq hr
  obtain ⟨OUT, hO⟩ : ∃ b, Hid (rwB fits f bod xs = b) := ⟨_, rfl⟩
  rw [hO.out]
  go_enter_defers Tryz.func42, Tryz.ntmps42
  go_wp2_with fail
  generalize (w.alloc (.cells #[.bool false] 4)).alloc (.cells #[.slice a xs.length c, .int .i64 0] 110) = W1 at *
  refine (HRD.out W1 (w.heap.size + 1) Q1 C1 (by omega) l1 R1 (fun h => by have := GLT.out h; omega) (by omega)).mono ?_
  rintro e w2 ⟨h, K2⟩
  have T2 := T1.tch K2 (by simp; omega)
  have N2 : Tch [q] w w2 := ⟨K2.os.trans n1.os, K2.tape.trans n1.tape, K2.output.trans n1.output, Nat.le_trans n1.size K2.size, fun b hb hn => (K2.block b (Nat.lt_of_lt_of_le hb n1.size) (by simp at hn ⊢; omega)).trans (n1.block b hb)⟩
  have R2 : Rd w2 g a .u8 xs := R1.of_block' (fun h => K2.block g (R1.lt h) (by have := hgq h; have := GLT.out h; simp; omega))
  have sz := K2.size
  clear T1 C1 Q1 R1 K2 n1
  rcases h with ⟨hf, rfl, RR⟩ | ⟨hf, t, v, rfl⟩
  rotate_left
  · obtain rfl : OUT = false := by rw [← hO.out]; simp [rwB, hf]
    have NN := hide N2
    have TT := hide T2
    clear N2 T2 hf
    go_wp2
    refine leaves_cons (f := 54) (args := #[.pointer (some ⟨w.heap.size, 0, none⟩)]) (by simp) (by simp [go_sem]) ?_
    refine (rwCatch_pan w.heap.size t v _ w2 TT.out).mono ?_
    rintro e u' w4 ⟨rfl, rfl, O4, T4⟩
    have c4 := T4.cell 0
    simp [Leaves, settle, results, Tryz.results42, go_sem, c4]
    exact NN.out.newO O4
  have HF := hide hf
  have HR := hide RR
  have NN := hide N2
  have TT := hide T2
  have H2 := hide R2
  clear N2 T2 hf RR R2
  go_wp2_with fail
  refine (HFT.out w2 HR.out).mono ?_
  rintro e w3 ⟨rfl, n3⟩
  have HR3 := hide (HUP.out w2 w3 HR.out n3)
  have NN3 : Hid (Tch [q] w w3) := (NN.out.trans (Tch.of_below (S := []) n3)).mono (by simp)
  have TT3 := hide (TT.out.up n3)
  have H3 := hide (H2.out.up n3)
  have s3 := n3.size
  clear HR NN TT H2 n3
  have c0 : w3.cell? ⟨w.heap.size, 0, none⟩ = some (.bool false) := TT3.out.cell 0
  by_cases f0 : f = 0
  · have BDY := hide (HBD.out w3 HR3.out f0)
    have hOe : Hid (decide (bod = xs) = OUT) := by show _ = _; rw [← hO.out]; simp [rwB, HF.out, f0]
    subst f0
    clear c0
    go_wp2_with fail
    refine BDY.out.mono ?_
    rintro e w4 ⟨⟨x, rfl, RX⟩, n4⟩
    obtain ⟨a4, c4, g4, rfl, X4, -, -, -⟩ := RX.rd
    have HR4 := hide (HUP.out w3 w4 HR3.out n4)
    have NN4 : Hid (Tch [q] w w4) := (NN3.out.trans (Tch.of_below (S := []) n4)).mono (by simp)
    have TT4 := hide (TT3.out.up n4)
    have H4 := hide (H3.out.up n4)
    have BE := hide (bytesEqual_any w4 g4 g a4 a c4 c bod xs X4 H4.out HBB.out HB.out)
    rw [hOe.out] at BE
    clear HR3 NN3 TT3 H3 n4 X4 RX BDY
    go_wp2_with fail
    refine BE.out.mono ?_
    rintro e w5 ⟨rfl, h5⟩
    have h5 := h5.symm
    subst h5
    have c0 : w4.cell? ⟨w.heap.size, 0, none⟩ = some (.bool false) := TT4.out.cell 0
    have f0 := TT4.out.free 0
    have O := Only.setCell w4 w.heap.size 0 (.bool OUT)
    have HR5 := hide (HON.out w4 _ HR4.out O)
    have NN5 := hide (NN4.out.newO O)
    have T5 : RwC (w4.setCell ⟨w.heap.size, 0, none⟩ (.bool OUT)) w.heap.size [.bool OUT] 4 := TT4.out.set 0 _
    have c5 := T5.cell 0
    clear O TT4 NN4 HR4 BE T5
    go_wp2
    generalize w4.setCell ⟨w.heap.size, 0, none⟩ (.bool OUT) = w5 at *
    refine leaves_cons (f := 54) (args := #[.pointer (some ⟨w.heap.size, 0, none⟩)]) (by simp) (by simp [go_sem]) ?_
    refine (rwCatch_idle _ _).mono ?_
    rintro e u' w6 ⟨rfl, rfl, h6⟩
    have h6 := h6.symm
    subst h6
    simp [Leaves, settle, results, Tryz.results42, go_sem, c5]
    exact ⟨fun _ => HR5.out, NN5.out⟩
  · obtain rfl : OUT = false := by rw [← hO.out]; simp [rwB, f0]
    have fz : (f == 0) = false := by simp [f0]
    have f0' := TT3.out.free 0
    have O := Only.setCell w3 w.heap.size 0 (.bool false)
    have NN5 := hide (NN3.out.newO O)
    have T5 : RwC (w3.setCell ⟨w.heap.size, 0, none⟩ (.bool false)) w.heap.size [.bool false] 4 := TT3.out.set 0 _
    have c5 := T5.cell 0
    clear O TT3 NN3 HR3 T5
    go_wp2
    generalize w3.setCell ⟨w.heap.size, 0, none⟩ (.bool false) = w5 at *
    refine leaves_cons (f := 54) (args := #[.pointer (some ⟨w.heap.size, 0, none⟩)]) (by simp) (by simp [go_sem]) ?_
    refine (rwCatch_idle _ _).mono ?_
    rintro e u' w6 ⟨rfl, rfl, h6⟩
    have h6 := h6.symm
    subst h6
    simp [Leaves, settle, results, Tryz.results42, go_sem, c5]
    exact NN5.out
end Go.Proofs.YtcaljanahpdidaaGreat
namespace Go.Proofs.YtcaljanahpdidaaGreat
open Go Go.RowKit
def dmP (ys : List Int) : Int := if ys.length = 0 then 1 else if ys.getD 0 0 ∉ kinds then 2 else if ys.length < 4 then 1 else if 8192 < beN ys 1 3 then 2 else if (ys.length : Int) < 4 + beN ys 1 3 then 1 else 0
def dmN (ys : List Int) : Nat := (beN ys 1 3).toNat
def dmX (ys : List Int) : List Int := (ys.drop 4).take (dmN ys)
def dmM (ys : List Int) : Msg := rdM (ys.getD 0 0) (dmX ys)
def dmG (ys : List Int) : Bool := decide (mfF (dmM ys) = 0 ∧ bodF (dmM ys) = dmX ys)
def dmC (xs : List Int) (i : Int) : Int := if i < 0 ∨ (xs.length : Int) < i then 2 else if dmP (xs.drop i.toNat) ≠ 0 then dmP (xs.drop i.toNat) else if dmG (xs.drop i.toNat) = true then 0 else 3
def dmR (xs : List Int) (i : Int) : Msg := if dmC xs i = 0 then dmM (xs.drop i.toNat) else msg0
def dmE (xs : List Int) (i : Int) : Int := if dmC xs i = 0 then i + 4 + (dmN (xs.drop i.toNat) : Int) else 0
def rsV (cd : Int) (p : MQ) (m : Msg) (n : Int) : Array Value := #[.int .i64 cd, .int .i64 m.k, .int .i64 m.v, .slice p.a2 m.r.length p.c2, .slice p.a3 m.s.length p.c3, .string ⟨⟨m.ho⟩⟩, .slice p.a5 m.pr.length p.c5, .slice p.a6 m.ti.length p.c6, .int .i64 m.ag, .int .i64 m.ea, .slice p.a9 m.bi.length p.c9, .bool m.rs, .slice p.a11 m.ce.length p.c11, .slice p.a12 m.pf.length p.c12, .int .i64 n]
theorem byt_takeQ {xs : List Int} (h : Byt xs) (n : Nat) : Byt (xs.take n) := fun i => by
  rw [List.getD_eq_getElem?_getD, List.getElem?_take]
  split
  · rw [← List.getD_eq_getElem?_getD]; exact h _
  · simp
theorem txL_byt (l : List UInt8) : Byt (txL l) := fun i => by
  rw [List.getD_eq_getElem?_getD]
  unfold txL
  rw [List.getElem?_map]
  cases l[i]? with
  | none => simp
  | some u =>
    have := u.toNat_lt
    simp
    omega
theorem byt_flat {ls : List (List Int)} (h : ∀ l ∈ ls, Byt l) : Byt ls.flatten := by
  induction ls with
  | nil => exact byt_nil
  | cons l ls ih =>
    rw [List.flatten_cons]
    exact byt_apd (h l (by simp)) (ih fun x hx => h x (by simp [hx]))
theorem byt_lsL {ls : List (List UInt8)} (h : ls.length < 256) : Byt (lsL ls) := by
  refine byt_apd (byt_cons (by omega) (by omega) byt_nil) (byt_flat fun l hl => ?_)
  obtain ⟨t, _, rfl⟩ := List.mem_map.1 hl
  exact byt_apd (bigL_byt _ _) (txL_byt _)
theorem byt_loL {l : List Int} (h : Byt l) : Byt (loL l) := byt_apd (bigL_byt _ _) h
theorem byt_clL {bs : List (List Int)} (n : bs.length < 256) (h : ∀ i, i < bs.length → Byt (bs.getD i [])) : Byt (clL bs) := by
  refine byt_apd (byt_cons (by omega) (by omega) byt_nil) (byt_flat fun l hl => ?_)
  obtain ⟨t, ht, rfl⟩ := List.mem_map.1 hl
  obtain ⟨i, hi, rfl⟩ := List.mem_iff_getElem.1 ht
  have := h i hi
  rw [List.getD_eq_getElem?_getD, List.getElem?_eq_getElem hi] at this
  exact byt_loL this
theorem byt_fpL {v : Int} {r s : List Int} (h1 : Byt r) (h2 : Byt s) : Byt (fpL v r s) := byt_apd (bigL_byt _ _) (byt_apd h1 h2)
theorem byt_bod {m : Msg} (i : IsM m) (n5 : m.pr.length < 256) (n11 : m.ce.length < 256) : Byt (bodF m) := by
  unfold bodF
  split
  · refine byt_apd (byt_fpL i.rB i.sB) (byt_apd (byt_apd (bigL_byt _ _) (txL_byt _)) (byt_apd (byt_lsL n5) (byt_apd (byt_loL i.tiB) ?_)))
    unfold bdL
    split
    · exact byt_nil
    · exact byt_apd (bigL_byt _ _) (byt_apd (bigL_byt _ _) i.biB)
  split
  · refine byt_apd (byt_fpL i.rB i.sB) (byt_cons ?_ ?_ byt_nil) <;> split <;> omega
  split
  · exact byt_apd (byt_apd (byt_apd (bigL_byt _ _) (bigL_byt _ _)) i.rB) (byt_loL i.tiB)
  split
  · exact byt_nil
  split
  · exact byt_apd (byt_lsL n5) (bigL_byt _ _)
  split
  · exact byt_clL n11 i.ceB
  split
  · exact i.pfB
  split
  · exact i.pfB
  split
  · exact bigL_byt _ _
  · exact byt_nil
theorem rd_few {xs : List Int} (hb : Byt xs) (k : Int) : (rdM k xs).pr.length < 256 ∧ (rdM k xs).ce.length < 256 := by
  have h0 := bx1 hb 0
  have h1 := bx1 hb (hpA xs)
  unfold rdM
  repeat' split
  all_goals simp only [rdHello, rdAnswer, rdTicket, rdEnd, rdExtras, rdCerts, rdProof, rdFinished, rdUpdate, txT_len, clT_len, List.length_nil]
  all_goals omega
theorem byt_rd {xs : List Int} (hb : Byt xs) (k : Int) : Byt (bodF (rdM k xs)) := byt_bod (isM_rd hb k) (rd_few hb k).1 (rd_few hb k).2
theorem byt_enc {m : Msg} (k0 : 0 ≤ m.k) (k1 : m.k < 256) (h : Byt (bodF m)) : Byt (encF m) := by
  unfold encF
  split
  · exact byt_apd (byt_apd (byt_cons k0 k1 byt_nil) (bigL_byt _ _)) h
  · exact byt_nil
end Go.Proofs.YtcaljanahpdidaaGreat
namespace Go.Proofs.YtcaljanahpdidaaGreat
open Go Go.RowKit
def heD (xs : List Int) : Decidable (HeG xs) := by unfold HeG; infer_instance
def fnF (a b c d e f g h : Nat) : Nat → Nat
  | 0 => a
  | 1 => b
  | 2 => c
  | 3 => d
  | 4 => e
  | 5 => f
  | 6 => g
  | _ => h
def adB (a : Option Addr) : Nat := (a.map (·.block)).getD 0
theorem rowT_place {W : World} {B : Nat} {a : Option Addr} {n c : Nat} {ls : List (List UInt8)} (h : RowT W B (.slice a n c) ls) (h0 : 0 < ls.length) : a = some ⟨adB a, 0, none⟩ ∧ B ≤ adB a ∧ Value.ownBlock (.slice a n c) = some (adB a) ∧ adB a < W.heap.size := by
  obtain ⟨g, c', e, hB, hl, -⟩ := h.cells h0
  cases e
  exact ⟨rfl, hB, rfl, hl⟩
theorem bRow_place {W : World} {B : Nat} {a : Option Addr} {n c : Nat} {its : List (List Int)} {bs : List Plc} (h : BRow W B (.slice a n c) its bs) (h0 : 0 < its.length) : a = some ⟨adB a, 0, none⟩ ∧ adB a < W.heap.size := by
  obtain ⟨g, c', e, hB, hl, -⟩ := h.cells h0
  cases e
  exact ⟨rfl, hl⟩
def RK (cells : MQ → Msg → List Value) (nrm : MQ → MQ) (S : TypeId) (b q : Nat) (m : Msg) (W : World) : Prop := ∃ p bs F, b < F 0 ∧ q < F 0 ∧ RwC W q (cells p m) S ∧ AnsM W F p m bs ∧ nrm p = p
theorem RK.up {cells : MQ → Msg → List Value} {nrm : MQ → MQ} {S : TypeId} {b q : Nat} {m : Msg} {W W' : World} (h : RK cells nrm S b q m W) (n : Below W.heap.size W W') : RK cells nrm S b q m W' := by
  obtain ⟨p, bs, F, h1, h2, h3, h4, h5⟩ := h
  exact ⟨p, bs, F, h1, h2, h3.up n, h4.up n, h5⟩
theorem RK.onl {cells : MQ → Msg → List Value} {nrm : MQ → MQ} {S : TypeId} {b q : Nat} {m : Msg} {W W' : World} (h : RK cells nrm S b q m W) (hq : q ≠ b) (O : Only b W W') : RK cells nrm S b q m W' := by
  obtain ⟨p, bs, F, h1, h2, h3, h4, h5⟩ := h
  exact ⟨p, bs, F, h1, h2, (O.block q hq).trans h3, h4.onl O h1, h5⟩
theorem rwB_is {k : Int} {xs : List Int} {fits : Prop} [Decidable fits] (hf : bodF (rdM k xs) = xs → fits) : rwB fits (mfF (rdM k xs)) (bodF (rdM k xs)) xs = decide (mfF (rdM k xs) = 0 ∧ bodF (rdM k xs) = xs) := by
  unfold rwB
  by_cases h : bodF (rdM k xs) = xs
  · simp [h, hf h]
  · simp [h]
end Go.Proofs.YtcaljanahpdidaaGreat
namespace Go.Proofs.YtcaljanahpdidaaGreat
open Go Go.RowKit
theorem AnsM.trim {W : World} {F : Nat → Nat} {p : MQ} {m : Msg} {bs : List Plc} (h : AnsM W F p m bs) : AnsM W (fun i => min (F i) W.heap.size) p m bs := by
  have mo := h.mono
  have M : ∀ i, min (F i) W.heap.size ≤ F i := fun i => Nat.min_le_left _ _
  have X : ∀ a b : Nat, a ≤ b → min a W.heap.size ≤ min b W.heap.size := fun a b hab => by omega
  refine ⟨h.r, h.s, RowT.base' h.pr (M 2), h.ti, h.bi, h.ce.base (M 5), h.pf, fun h0 => ⟨Nat.le_trans (M 0) (h.b2 h0).1, Nat.lt_min.2 ⟨(h.b2 h0).2, h.r.rd.lt h0⟩⟩, fun h0 => ⟨Nat.le_trans (M 1) (h.b3 h0).1, Nat.lt_min.2 ⟨(h.b3 h0).2, h.s.rd.lt h0⟩⟩, fun h0 => ⟨(h.b5 h0).1, Nat.lt_min.2 ⟨(h.b5 h0).2, ?_⟩⟩, fun h0 => ⟨Nat.le_trans (M 3) (h.b6 h0).1, Nat.lt_min.2 ⟨(h.b6 h0).2, h.ti.rd.lt h0⟩⟩, fun h0 => ⟨Nat.le_trans (M 4) (h.b9 h0).1, Nat.lt_min.2 ⟨(h.b9 h0).2, h.bi.rd.lt h0⟩⟩, fun h0 => ⟨(h.b11 h0).1, Nat.lt_min.2 ⟨(h.b11 h0).2, ?_⟩⟩, fun i hi h0 => Nat.lt_min.2 ⟨h.bl i hi h0, h.ce.lt hi h0⟩, fun h0 => ⟨Nat.le_trans (M 6) (h.b12 h0).1, Nat.lt_min.2 ⟨(h.b12 h0).2, h.pf.rd.lt h0⟩⟩, ⟨X _ _ mo.1, X _ _ mo.2.1, X _ _ mo.2.2.1, X _ _ mo.2.2.2.1, X _ _ mo.2.2.2.2.1, X _ _ mo.2.2.2.2.2.1, X _ _ mo.2.2.2.2.2.2⟩, h.z, h.prC, h.ps⟩
  · have e := (h.b5 h0).1
    have := rowT_place h.pr h0
    rw [e] at this
    exact this.2.2.2
  · have e := (h.b11 h0).1
    have := bRow_place h.ce h0
    rw [e] at this
    exact this.2
def mN2 (m : Msg) : Nat := 1 + m.r.length
def mN3 (m : Msg) : Nat := mN2 m + m.s.length
def mN5 (m : Msg) : Nat := mN3 m + m.pr.length
def mN6 (m : Msg) : Nat := mN5 m + m.ti.length
def mN9 (m : Msg) : Nat := mN6 m + m.bi.length
def mN11 (m : Msg) : Int := psB m.ce (mN9 m : Int) m.ce.length
structure MkM (W : World) (p : MQ) (m : Msg) (bs : List Plc) : Prop where
  r : Rd W p.g2 p.a2 .u8 (marks ((1 : Nat) : Int) m.r.length)
  s : Rd W p.g3 p.a3 .u8 (marks (mN2 m : Int) m.s.length)
  pr : RdT W p.g5 p.a5 (mkT (mN3 m) m.pr.length)
  ti : Rd W p.g6 p.a6 .u8 (marks (mN5 m : Int) m.ti.length)
  bi : Rd W p.g9 p.a9 .u8 (marks (mN6 m : Int) m.bi.length)
  ce : MkdB W (.slice p.a11 m.ce.length p.c11) m.ce bs (mN9 m : Int)
  ca : 0 < m.ce.length → ∃ g, p.a11 = some ⟨g, 0, none⟩
  pf : Rd W p.g12 p.a12 .u8 (marks (mN11 m) m.pf.length)
theorem MkM.up {W W' : World} {p : MQ} {m : Msg} {bs : List Plc} (h : MkM W p m bs) (n : Below W.heap.size W W') : MkM W' p m bs :=
  ⟨h.r.up n, h.s.up n, h.pr.up n, h.ti.up n, h.bi.up n, h.ce.up n, h.ca, h.pf.up n⟩
end Go.Proofs.YtcaljanahpdidaaGreat
namespace Go.Proofs.YtcaljanahpdidaaGreat
open Go Go.RowKit
end Go.Proofs.YtcaljanahpdidaaGreat
namespace Go.Proofs.YtcaljanahpdidaaGreat
open Go Go.RowKit
def slA (a : Option Addr) (i c : Nat) : Option Addr := if c = i then a else a.map (·.add (i * 1))
theorem size_u8 (w : World) : (sizeOf (Tryz.prog.elem 22)).run Tryz.prog w = .ok 1 w := by kernel_rfl
theorem und_s : Tryz.prog.underlying 22 = some (.slice (Tryz.prog.elem 22)) := by kernel_rfl
theorem sl_both (W : World) (a : Option Addr) (n c i j m : Nat) (h1 : i ≤ j) (h2 : j ≤ c) (hm : m = j - i) : (Instr.sliceAt 22 (.slice a n c) (some (.int .i64 (i : Int))) (some (.int .i64 (j : Int))) none).run Tryz.prog W = .ok (.slice (slA a i c) m (c - i)) W := by
  rw [run_sliceAt_slice W 22 _ _ _ _ und_s, run_slice_lh W 22 a n c und_s .i64 .i64 i j (by omega) (by omega) (by omega), size_u8, hm]
  rfl
theorem sl_low (W : World) (a : Option Addr) (n c i m : Nat) (h1 : i ≤ n) (_h2 : n ≤ c) (hm : m = n - i) : (Instr.sliceAt 22 (.slice a n c) (some (.int .i64 (i : Int))) none none).run Tryz.prog W = .ok (.slice (slA a i c) m (c - i)) W := by
  rw [run_sliceAt_slice W 22 _ _ _ _ und_s]
  rw [run_slice_l W 22 a n c und_s .i64 i (by omega) (by omega), size_u8, hm]
  rfl
theorem sl_high (W : World) (a : Option Addr) (n c j : Nat) (h2 : j ≤ c) : (Instr.sliceAt 22 (.slice a n c) none (some (.int .i64 (j : Int))) none).run Tryz.prog W = .ok (.slice (slA a 0 c) j c) W := by
  rw [run_sliceAt_slice W 22 _ _ _ _ und_s, run_slice_h W 22 a n c und_s .i64 j (by omega) (by omega), size_u8]
  rfl
theorem Rd.sl {w : World} {g : Nat} {a : Option Addr} {c : Nat} {xs : List Int} (h : Rd w g a .u8 xs) (hc : xs.length ≤ c) (i n : Nat) : Rd w g (slA a i c) .u8 ((xs.drop i).take n) := fun h0 => by
  rw [List.length_take, List.length_drop] at h0
  have hi : i < xs.length := by omega
  obtain ⟨o, e, hd⟩ := h.dropA i hi
  have ea : slA a i c = some ⟨g, o + i, none⟩ := by
    unfold slA
    rw [if_neg (by omega), e]
    show some (Addr.add ⟨g, o, none⟩ (i * 1)) = _
    rw [add_mid, Nat.mul_one]
  rw [ea]
  exact hd.takeA n (by rw [List.length_take, List.length_drop]; exact h0)
theorem Rd.slD {w : World} {g : Nat} {a : Option Addr} {c : Nat} {xs : List Int} (h : Rd w g a .u8 xs) (hc : xs.length ≤ c) (i : Nat) : Rd w g (slA a i c) .u8 (xs.drop i) := by
  have := h.sl hc i (xs.drop i).length
  rwa [List.take_length] at this
theorem slA_none {a : Option Addr} {i c : Nat} (hz : a = none → c = 0) (h : slA a i c = none) : c - i = 0 := by
  unfold slA at h
  split at h
  · omega
  · rw [Option.map_eq_none_iff] at h
    have := hz h
    omega
theorem wpList_slT {P : Program} (w : World) {ops : Array Oper} {rest : List Oper} {o : Oper} {a : Act} {Q : Exit → Act → World → Prop} (hgd : o.guard = none) (t : TypeId) (x : Operand) (lo hi : Option Operand) (ho : o.op = .slice t x lo hi none) (vx : Value) (vl vh : Option Value) (hx : a.eval x = vx) (hl : lo.map a.eval = vl) (hh : hi.map a.eval = vh)
    (v' : Value) (hr : (Instr.sliceAt t vx vl vh none).run P w = .ok v' w) (h : wpList P ops Q rest (a.put o.dst v') w) : wpList P ops Q (o :: rest) a w :=
  wpList_plain hgd fun _ hK => by
    unfold Oper.wp execOp
    simp only [ho, hx, hl, hh, Option.map_none]
    rw [Sem.run_bind, hr]
    exact hK _ _ h
end Go.Proofs.YtcaljanahpdidaaGreat
namespace Go.Proofs.YtcaljanahpdidaaGreat
open Go Go.RowKit
end Go.Proofs.YtcaljanahpdidaaGreat
namespace Go.Proofs.YtcaljanahpdidaaGreat
open Go Go.RowKit
end Go.Proofs.YtcaljanahpdidaaGreat
namespace Go.Proofs.YtcaljanahpdidaaGreat
open Go Go.RowKit
end Go.Proofs.YtcaljanahpdidaaGreat
namespace Go.Proofs.YtcaljanahpdidaaGreat
open Go Go.RowKit
end Go.Proofs.YtcaljanahpdidaaGreat
namespace Go.Proofs.YtcaljanahpdidaaGreat
open Go Go.RowKit
end Go.Proofs.YtcaljanahpdidaaGreat
namespace Go.Proofs.YtcaljanahpdidaaGreat
open Go Go.RowKit
end Go.Proofs.YtcaljanahpdidaaGreat
namespace Go.Proofs.YtcaljanahpdidaaGreat
open Go Go.RowKit
end Go.Proofs.YtcaljanahpdidaaGreat
namespace Go.Proofs.YtcaljanahpdidaaGreat
open Go Go.RowKit
end Go.Proofs.YtcaljanahpdidaaGreat
namespace Go.Proofs.YtcaljanahpdidaaGreat
open Go Go.RowKit
end Go.Proofs.YtcaljanahpdidaaGreat
namespace Go.Proofs.YtcaljanahpdidaaGreat
open Go Go.RowKit
end Go.Proofs.YtcaljanahpdidaaGreat
namespace Go.Proofs.YtcaljanahpdidaaGreat
open Go Go.RowKit
def ex6 (vb rb he an tk : Bool) : Bool := (vb && !he && !an) || (rb && !he && !an && !tk)
def ex8 (sb hb pb he an ex : Bool) : Bool := (sb && !he && !an) || (hb && !he) || (pb && !he && !ex)
def ex10 (tb gb bb he tk : Bool) : Bool := (tb && !he && !tk) || (gb && !he && !tk) || (bb && !he)
def ex12 (eb he tk ex nu : Bool) : Bool := eb && !he && !tk && !ex && nu
def ex14 (rs an cb nc fb np nf : Bool) : Bool := (rs && !an) || (cb && nc) || (fb && np && nf)
def si2 (v0 v1 : Bool) : Bool := v0 || v1
def si4 (he an tk r2 : Bool) : Bool := (he || an || tk) && r2
def si6 (he an s2 : Bool) : Bool := (he || an) && s2
def si8 (pf p6 ff p3 : Bool) : Bool := (pf && p6) || (ff && p3)
def siR (he tb b3 b0 g0 e0 : Bool) : Bool := if (he && tb) = true then b3 else if he = true then b0 && g0 && e0 else true
end Go.Proofs.YtcaljanahpdidaaGreat
