
/-
  Whether two ends agree; the model's (written by gens/kmm.py).
-/
import Derived.Test.YtinmgccnplcakaaKmL
namespace Go.Proofs.Ytinmgccnplcakaa
open Go Go.RowKit

set_option maxRecDepth 100000 in
set_option maxHeartbeats 16000000 in
theorem specAgr_any (w : World) (p : CA) (d : CD) (b : Nat) (h : HasC b w p d) (t : BtE d.cl) (t' : BtE d.sv) :
    Calls Try.prog 5 #[.agg #[.int .i64 d.fa, .slice p.a1 d.an.length p.c1, .int .i64 d.cl.fa, .slice p.cl.a1 d.cl.an.length p.cl.c1, .slice p.cl.a2 d.cl.se.length p.cl.c2, .slice p.cl.a3 d.cl.re.length p.cl.c3, .int .i64 d.cl.er, .int .i64 d.cl.ph, .int .i64 d.cl.al, .int .i64 d.cl.pa, .int .i64 d.cl.no, .bool d.cl.rs, .bool d.cl.et, .string d.cl.pr, .slice p.cl.a12 d.cl.ex.length p.cl.c12, .slice p.cl.a13 d.cl.tr.length p.cl.c13, .slice p.cl.a14 d.cl.tk.length p.cl.c14, .slice p.cl.a15 d.cl.pk.length p.cl.c15, .slice p.cl.a16 d.cl.rn.length p.cl.c16, .int .i64 d.cl.gt, .int .i64 d.cl.li, .string d.cl.ho, .string d.cl.sp, .int .i64 d.cl.ea, .int .i64 d.cl.wd, .slice p.cl.a23 d.cl.ms.length p.cl.c23, .int .i64 d.sv.fa, .slice p.sv.a1 d.sv.an.length p.sv.c1, .slice p.sv.a2 d.sv.se.length p.sv.c2, .slice p.sv.a3 d.sv.re.length p.sv.c3, .int .i64 d.sv.er, .int .i64 d.sv.ph, .int .i64 d.sv.al, .int .i64 d.sv.pa, .int .i64 d.sv.no, .bool d.sv.rs, .bool d.sv.et, .string d.sv.pr, .slice p.sv.a12 d.sv.ex.length p.sv.c12, .slice p.sv.a13 d.sv.tr.length p.sv.c13, .slice p.sv.a14 d.sv.tk.length p.sv.c14, .slice p.sv.a15 d.sv.pk.length p.sv.c15, .slice p.sv.a16 d.sv.rn.length p.sv.c16, .int .i64 d.sv.gt, .int .i64 d.sv.li, .string d.sv.ho, .string d.sv.sp, .int .i64 d.sv.ea, .int .i64 d.sv.wd, .slice p.sv.a23 d.sv.ms.length p.sv.c23, .slice p.a50 d.ts.length p.c50, .slice p.a51 d.tc.length p.c51]] w fun r w' => r = .returned (.int .i64 (agV d.cl d.sv)) ∧ Below w.heap.size w w' := by
  have n1 : Below w.heap.size w (w.alloc (.cells #[.int .i64 d.fa, .slice p.a1 d.an.length p.c1, .int .i64 d.cl.fa, .slice p.cl.a1 d.cl.an.length p.cl.c1, .slice p.cl.a2 d.cl.se.length p.cl.c2, .slice p.cl.a3 d.cl.re.length p.cl.c3, .int .i64 d.cl.er, .int .i64 d.cl.ph, .int .i64 d.cl.al, .int .i64 d.cl.pa, .int .i64 d.cl.no, .bool d.cl.rs, .bool d.cl.et, .string d.cl.pr, .slice p.cl.a12 d.cl.ex.length p.cl.c12, .slice p.cl.a13 d.cl.tr.length p.cl.c13, .slice p.cl.a14 d.cl.tk.length p.cl.c14, .slice p.cl.a15 d.cl.pk.length p.cl.c15, .slice p.cl.a16 d.cl.rn.length p.cl.c16, .int .i64 d.cl.gt, .int .i64 d.cl.li, .string d.cl.ho, .string d.cl.sp, .int .i64 d.cl.ea, .int .i64 d.cl.wd, .slice p.cl.a23 d.cl.ms.length p.cl.c23, .int .i64 d.sv.fa, .slice p.sv.a1 d.sv.an.length p.sv.c1, .slice p.sv.a2 d.sv.se.length p.sv.c2, .slice p.sv.a3 d.sv.re.length p.sv.c3, .int .i64 d.sv.er, .int .i64 d.sv.ph, .int .i64 d.sv.al, .int .i64 d.sv.pa, .int .i64 d.sv.no, .bool d.sv.rs, .bool d.sv.et, .string d.sv.pr, .slice p.sv.a12 d.sv.ex.length p.sv.c12, .slice p.sv.a13 d.sv.tr.length p.sv.c13, .slice p.sv.a14 d.sv.tk.length p.sv.c14, .slice p.sv.a15 d.sv.pk.length p.sv.c15, .slice p.sv.a16 d.sv.rn.length p.sv.c16, .int .i64 d.sv.gt, .int .i64 d.sv.li, .string d.sv.ho, .string d.sv.sp, .int .i64 d.sv.ea, .int .i64 d.sv.wd, .slice p.sv.a23 d.sv.ms.length p.sv.c23, .slice p.a50 d.ts.length p.c50, .slice p.a51 d.tc.length p.c51] 42)) := (Below.refl _ _).alloc (Nat.le_refl _) _
  have P0 : RwC (w.alloc (.cells #[.int .i64 d.fa, .slice p.a1 d.an.length p.c1, .int .i64 d.cl.fa, .slice p.cl.a1 d.cl.an.length p.cl.c1, .slice p.cl.a2 d.cl.se.length p.cl.c2, .slice p.cl.a3 d.cl.re.length p.cl.c3, .int .i64 d.cl.er, .int .i64 d.cl.ph, .int .i64 d.cl.al, .int .i64 d.cl.pa, .int .i64 d.cl.no, .bool d.cl.rs, .bool d.cl.et, .string d.cl.pr, .slice p.cl.a12 d.cl.ex.length p.cl.c12, .slice p.cl.a13 d.cl.tr.length p.cl.c13, .slice p.cl.a14 d.cl.tk.length p.cl.c14, .slice p.cl.a15 d.cl.pk.length p.cl.c15, .slice p.cl.a16 d.cl.rn.length p.cl.c16, .int .i64 d.cl.gt, .int .i64 d.cl.li, .string d.cl.ho, .string d.cl.sp, .int .i64 d.cl.ea, .int .i64 d.cl.wd, .slice p.cl.a23 d.cl.ms.length p.cl.c23, .int .i64 d.sv.fa, .slice p.sv.a1 d.sv.an.length p.sv.c1, .slice p.sv.a2 d.sv.se.length p.sv.c2, .slice p.sv.a3 d.sv.re.length p.sv.c3, .int .i64 d.sv.er, .int .i64 d.sv.ph, .int .i64 d.sv.al, .int .i64 d.sv.pa, .int .i64 d.sv.no, .bool d.sv.rs, .bool d.sv.et, .string d.sv.pr, .slice p.sv.a12 d.sv.ex.length p.sv.c12, .slice p.sv.a13 d.sv.tr.length p.sv.c13, .slice p.sv.a14 d.sv.tk.length p.sv.c14, .slice p.sv.a15 d.sv.pk.length p.sv.c15, .slice p.sv.a16 d.sv.rn.length p.sv.c16, .int .i64 d.sv.gt, .int .i64 d.sv.li, .string d.sv.ho, .string d.sv.sp, .int .i64 d.sv.ea, .int .i64 d.sv.wd, .slice p.sv.a23 d.sv.ms.length p.sv.c23, .slice p.a50 d.ts.length p.c50, .slice p.a51 d.tc.length p.c51] 42)) w.heap.size [.int .i64 d.fa, .slice p.a1 d.an.length p.c1, .int .i64 d.cl.fa, .slice p.cl.a1 d.cl.an.length p.cl.c1, .slice p.cl.a2 d.cl.se.length p.cl.c2, .slice p.cl.a3 d.cl.re.length p.cl.c3, .int .i64 d.cl.er, .int .i64 d.cl.ph, .int .i64 d.cl.al, .int .i64 d.cl.pa, .int .i64 d.cl.no, .bool d.cl.rs, .bool d.cl.et, .string d.cl.pr, .slice p.cl.a12 d.cl.ex.length p.cl.c12, .slice p.cl.a13 d.cl.tr.length p.cl.c13, .slice p.cl.a14 d.cl.tk.length p.cl.c14, .slice p.cl.a15 d.cl.pk.length p.cl.c15, .slice p.cl.a16 d.cl.rn.length p.cl.c16, .int .i64 d.cl.gt, .int .i64 d.cl.li, .string d.cl.ho, .string d.cl.sp, .int .i64 d.cl.ea, .int .i64 d.cl.wd, .slice p.cl.a23 d.cl.ms.length p.cl.c23, .int .i64 d.sv.fa, .slice p.sv.a1 d.sv.an.length p.sv.c1, .slice p.sv.a2 d.sv.se.length p.sv.c2, .slice p.sv.a3 d.sv.re.length p.sv.c3, .int .i64 d.sv.er, .int .i64 d.sv.ph, .int .i64 d.sv.al, .int .i64 d.sv.pa, .int .i64 d.sv.no, .bool d.sv.rs, .bool d.sv.et, .string d.sv.pr, .slice p.sv.a12 d.sv.ex.length p.sv.c12, .slice p.sv.a13 d.sv.tr.length p.sv.c13, .slice p.sv.a14 d.sv.tk.length p.sv.c14, .slice p.sv.a15 d.sv.pk.length p.sv.c15, .slice p.sv.a16 d.sv.rn.length p.sv.c16, .int .i64 d.sv.gt, .int .i64 d.sv.li, .string d.sv.ho, .string d.sv.sp, .int .i64 d.sv.ea, .int .i64 d.sv.wd, .slice p.sv.a23 d.sv.ms.length p.sv.c23, .slice p.a50 d.ts.length p.c50, .slice p.a51 d.tc.length p.c51] 42 := RwC.new w _ _
  have H1 : Hid (∀ W, Below w.heap.size w W → Calls Try.prog 12 #[.slice p.cl.a13 d.cl.tr.length p.cl.c13, .slice p.sv.a13 d.sv.tr.length p.sv.c13] W fun r w' => r = .returned (.bool (decide (d.cl.tr = d.sv.tr))) ∧ w' = W) := fun W n => l1Same_any W p.cl.g13 p.sv.g13 p.cl.a13 p.sv.a13 p.cl.c13 p.sv.c13 d.cl.tr d.sv.tr (h.cl.tr.up n) (h.sv.tr.up n) t.tr t'.tr
  have H2 : Hid (∀ W, Below w.heap.size w W → Calls Try.prog 12 #[.slice p.cl.a12 d.cl.ex.length p.cl.c12, .slice p.sv.a12 d.sv.ex.length p.sv.c12] W fun r w' => r = .returned (.bool (decide (d.cl.ex = d.sv.ex))) ∧ w' = W) := fun W n => l1Same_any W p.cl.g12 p.sv.g12 p.cl.a12 p.sv.a12 p.cl.c12 p.sv.c12 d.cl.ex d.sv.ex (h.cl.ex.up n) (h.sv.ex.up n) t.ex t'.ex
  obtain ⟨dM, hdM, hrM⟩ := rowEr
  generalize hR' : agV d.cl d.sv = R
  have hR : Hid (R = if d.cl.ph = 3 then 3 else if d.sv.ph = 3 then 3 else if d.cl.tr.length = 0 ∧ d.sv.tr.length = 0 then 0 else if d.cl.tr.length = 0 ∨ d.sv.tr.length = 0 then 1 else if agS d.cl d.sv = true then 2 else 4) := by show _ = _; rw [← hR']; rfl
  have hS : Hid (agS d.cl d.sv = (decide (d.cl.tr = d.sv.tr) && (decide (d.cl.ex = d.sv.ex) && (decide (d.cl.pr.toList = d.sv.pr.toList) && ((d.cl.rs == d.sv.rs) && (d.cl.et == d.sv.et)))))) := rfl
  clear hR' 
  have N1 := n1
  clear n1 h t t'
  go_enter Try.func5, Try.ntmps5
  go_upto_region 1 with fail
  generalize (w.alloc (.cells #[.int .i64 d.fa, .slice p.a1 d.an.length p.c1, .int .i64 d.cl.fa, .slice p.cl.a1 d.cl.an.length p.cl.c1, .slice p.cl.a2 d.cl.se.length p.cl.c2, .slice p.cl.a3 d.cl.re.length p.cl.c3, .int .i64 d.cl.er, .int .i64 d.cl.ph, .int .i64 d.cl.al, .int .i64 d.cl.pa, .int .i64 d.cl.no, .bool d.cl.rs, .bool d.cl.et, .string d.cl.pr, .slice p.cl.a12 d.cl.ex.length p.cl.c12, .slice p.cl.a13 d.cl.tr.length p.cl.c13, .slice p.cl.a14 d.cl.tk.length p.cl.c14, .slice p.cl.a15 d.cl.pk.length p.cl.c15, .slice p.cl.a16 d.cl.rn.length p.cl.c16, .int .i64 d.cl.gt, .int .i64 d.cl.li, .string d.cl.ho, .string d.cl.sp, .int .i64 d.cl.ea, .int .i64 d.cl.wd, .slice p.cl.a23 d.cl.ms.length p.cl.c23, .int .i64 d.sv.fa, .slice p.sv.a1 d.sv.an.length p.sv.c1, .slice p.sv.a2 d.sv.se.length p.sv.c2, .slice p.sv.a3 d.sv.re.length p.sv.c3, .int .i64 d.sv.er, .int .i64 d.sv.ph, .int .i64 d.sv.al, .int .i64 d.sv.pa, .int .i64 d.sv.no, .bool d.sv.rs, .bool d.sv.et, .string d.sv.pr, .slice p.sv.a12 d.sv.ex.length p.sv.c12, .slice p.sv.a13 d.sv.tr.length p.sv.c13, .slice p.sv.a14 d.sv.tk.length p.sv.c14, .slice p.sv.a15 d.sv.pk.length p.sv.c15, .slice p.sv.a16 d.sv.rn.length p.sv.c16, .int .i64 d.sv.gt, .int .i64 d.sv.li, .string d.sv.ho, .string d.sv.sp, .int .i64 d.sv.ea, .int .i64 d.sv.wd, .slice p.sv.a23 d.sv.ms.length p.sv.c23, .slice p.a50 d.ts.length p.c50, .slice p.a51 d.tc.length p.c51] 42)) = W1 at *
  have RA := P0.part 2 [.int .i64 d.cl.fa, .slice p.cl.a1 d.cl.an.length p.cl.c1, .slice p.cl.a2 d.cl.se.length p.cl.c2, .slice p.cl.a3 d.cl.re.length p.cl.c3, .int .i64 d.cl.er, .int .i64 d.cl.ph, .int .i64 d.cl.al, .int .i64 d.cl.pa, .int .i64 d.cl.no, .bool d.cl.rs, .bool d.cl.et, .string d.cl.pr, .slice p.cl.a12 d.cl.ex.length p.cl.c12, .slice p.cl.a13 d.cl.tr.length p.cl.c13, .slice p.cl.a14 d.cl.tk.length p.cl.c14, .slice p.cl.a15 d.cl.pk.length p.cl.c15, .slice p.cl.a16 d.cl.rn.length p.cl.c16, .int .i64 d.cl.gt, .int .i64 d.cl.li, .string d.cl.ho, .string d.cl.sp, .int .i64 d.cl.ea, .int .i64 d.cl.wd, .slice p.cl.a23 d.cl.ms.length p.cl.c23] rfl
  have Q0 : RwC (W1.alloc (.cells #[.int .i64 0, .slice none 0 0, .slice none 0 0, .slice none 0 0, .int .i64 0, .int .i64 0, .int .i64 0, .int .i64 0, .int .i64 0, .bool false, .bool false, .string ⟨#[]⟩, .slice none 0 0, .slice none 0 0, .slice none 0 0, .slice none 0 0, .slice none 0 0, .int .i64 0, .int .i64 0, .string ⟨#[]⟩, .string ⟨#[]⟩, .int .i64 0, .int .i64 0, .slice none 0 0] 40)) W1.heap.size [.int .i64 0, .slice none 0 0, .slice none 0 0, .slice none 0 0, .int .i64 0, .int .i64 0, .int .i64 0, .int .i64 0, .int .i64 0, .bool false, .bool false, .string ⟨#[]⟩, .slice none 0 0, .slice none 0 0, .slice none 0 0, .slice none 0 0, .slice none 0 0, .int .i64 0, .int .i64 0, .string ⟨#[]⟩, .string ⟨#[]⟩, .int .i64 0, .int .i64 0, .slice none 0 0] 40 := RwC.new W1 _ _
  have TH := Q0.thereG
  have ON := oneEr p.cl d.cl
  have a1 : Below W1.heap.size W1 (W1.alloc (.cells #[.int .i64 0, .slice none 0 0, .slice none 0 0, .slice none 0 0, .int .i64 0, .int .i64 0, .int .i64 0, .int .i64 0, .int .i64 0, .bool false, .bool false, .string ⟨#[]⟩, .slice none 0 0, .slice none 0 0, .slice none 0 0, .slice none 0 0, .slice none 0 0, .int .i64 0, .int .i64 0, .string ⟨#[]⟩, .string ⟨#[]⟩, .int .i64 0, .int .i64 0, .slice none 0 0] 40)) := (Below.refl _ _).alloc (Nat.le_refl _) _
  have OX := only_setG (W1.alloc (.cells #[.int .i64 0, .slice none 0 0, .slice none 0 0, .slice none 0 0, .int .i64 0, .int .i64 0, .int .i64 0, .int .i64 0, .int .i64 0, .bool false, .bool false, .string ⟨#[]⟩, .slice none 0 0, .slice none 0 0, .slice none 0 0, .slice none 0 0, .slice none 0 0, .int .i64 0, .int .i64 0, .string ⟨#[]⟩, .string ⟨#[]⟩, .int .i64 0, .int .i64 0, .slice none 0 0] 40)) W1.heap.size [.int .i64 d.cl.fa, .slice p.cl.a1 d.cl.an.length p.cl.c1, .slice p.cl.a2 d.cl.se.length p.cl.c2, .slice p.cl.a3 d.cl.re.length p.cl.c3, .int .i64 d.cl.er, .int .i64 d.cl.ph, .int .i64 d.cl.al, .int .i64 d.cl.pa, .int .i64 d.cl.no, .bool d.cl.rs, .bool d.cl.et, .string d.cl.pr, .slice p.cl.a12 d.cl.ex.length p.cl.c12, .slice p.cl.a13 d.cl.tr.length p.cl.c13, .slice p.cl.a14 d.cl.tk.length p.cl.c14, .slice p.cl.a15 d.cl.pk.length p.cl.c15, .slice p.cl.a16 d.cl.rn.length p.cl.c16, .int .i64 d.cl.gt, .int .i64 d.cl.li, .string d.cl.ho, .string d.cl.sp, .int .i64 d.cl.ea, .int .i64 d.cl.wd, .slice p.cl.a23 d.cl.ms.length p.cl.c23] 0
  have b1 : Below W1.heap.size W1 ((W1.alloc (.cells #[.int .i64 0, .slice none 0 0, .slice none 0 0, .slice none 0 0, .int .i64 0, .int .i64 0, .int .i64 0, .int .i64 0, .int .i64 0, .bool false, .bool false, .string ⟨#[]⟩, .slice none 0 0, .slice none 0 0, .slice none 0 0, .slice none 0 0, .slice none 0 0, .int .i64 0, .int .i64 0, .string ⟨#[]⟩, .string ⟨#[]⟩, .int .i64 0, .int .i64 0, .slice none 0 0] 40)).setCells W1.heap.size 0 [.int .i64 d.cl.fa, .slice p.cl.a1 d.cl.an.length p.cl.c1, .slice p.cl.a2 d.cl.se.length p.cl.c2, .slice p.cl.a3 d.cl.re.length p.cl.c3, .int .i64 d.cl.er, .int .i64 d.cl.ph, .int .i64 d.cl.al, .int .i64 d.cl.pa, .int .i64 d.cl.no, .bool d.cl.rs, .bool d.cl.et, .string d.cl.pr, .slice p.cl.a12 d.cl.ex.length p.cl.c12, .slice p.cl.a13 d.cl.tr.length p.cl.c13, .slice p.cl.a14 d.cl.tk.length p.cl.c14, .slice p.cl.a15 d.cl.pk.length p.cl.c15, .slice p.cl.a16 d.cl.rn.length p.cl.c16, .int .i64 d.cl.gt, .int .i64 d.cl.li, .string d.cl.ho, .string d.cl.sp, .int .i64 d.cl.ea, .int .i64 d.cl.wd, .slice p.cl.a23 d.cl.ms.length p.cl.c23]) := a1.trans (OX.below (Nat.le_refl _))
  have RC := World.rangeAt_setCells_same (W1.alloc (.cells #[.int .i64 0, .slice none 0 0, .slice none 0 0, .slice none 0 0, .int .i64 0, .int .i64 0, .int .i64 0, .int .i64 0, .int .i64 0, .bool false, .bool false, .string ⟨#[]⟩, .slice none 0 0, .slice none 0 0, .slice none 0 0, .slice none 0 0, .slice none 0 0, .int .i64 0, .int .i64 0, .string ⟨#[]⟩, .string ⟨#[]⟩, .int .i64 0, .int .i64 0, .slice none 0 0] 40)) W1.heap.size 0 [.int .i64 d.cl.fa, .slice p.cl.a1 d.cl.an.length p.cl.c1, .slice p.cl.a2 d.cl.se.length p.cl.c2, .slice p.cl.a3 d.cl.re.length p.cl.c3, .int .i64 d.cl.er, .int .i64 d.cl.ph, .int .i64 d.cl.al, .int .i64 d.cl.pa, .int .i64 d.cl.no, .bool d.cl.rs, .bool d.cl.et, .string d.cl.pr, .slice p.cl.a12 d.cl.ex.length p.cl.c12, .slice p.cl.a13 d.cl.tr.length p.cl.c13, .slice p.cl.a14 d.cl.tk.length p.cl.c14, .slice p.cl.a15 d.cl.pk.length p.cl.c15, .slice p.cl.a16 d.cl.rn.length p.cl.c16, .int .i64 d.cl.gt, .int .i64 d.cl.li, .string d.cl.ho, .string d.cl.sp, .int .i64 d.cl.ea, .int .i64 d.cl.wd, .slice p.cl.a23 d.cl.ms.length p.cl.c23] TH
  go_upto_region 2 with (first | (refine wpList_load_mid rfl 40 (.tmp 5) rfl w.heap.size 2 rfl [.int .i64 d.cl.fa, .slice p.cl.a1 d.cl.an.length p.cl.c1, .slice p.cl.a2 d.cl.se.length p.cl.c2, .slice p.cl.a3 d.cl.re.length p.cl.c3, .int .i64 d.cl.er, .int .i64 d.cl.ph, .int .i64 d.cl.al, .int .i64 d.cl.pa, .int .i64 d.cl.no, .bool d.cl.rs, .bool d.cl.et, .string d.cl.pr, .slice p.cl.a12 d.cl.ex.length p.cl.c12, .slice p.cl.a13 d.cl.tr.length p.cl.c13, .slice p.cl.a14 d.cl.tk.length p.cl.c14, .slice p.cl.a15 d.cl.pk.length p.cl.c15, .slice p.cl.a16 d.cl.rn.length p.cl.c16, .int .i64 d.cl.gt, .int .i64 d.cl.li, .string d.cl.ho, .string d.cl.sp, .int .i64 d.cl.ea, .int .i64 d.cl.wd, .slice p.cl.a23 d.cl.ms.length p.cl.c23] dM RA hdM hrM iEr ?_) | (refine wpList_store_mid rfl 40 (.tmp 3) (.tmp 6) rfl W1.heap.size 0 #[.int .i64 d.cl.fa, .slice p.cl.a1 d.cl.an.length p.cl.c1, .slice p.cl.a2 d.cl.se.length p.cl.c2, .slice p.cl.a3 d.cl.re.length p.cl.c3, .int .i64 d.cl.er, .int .i64 d.cl.ph, .int .i64 d.cl.al, .int .i64 d.cl.pa, .int .i64 d.cl.no, .bool d.cl.rs, .bool d.cl.et, .string d.cl.pr, .slice p.cl.a12 d.cl.ex.length p.cl.c12, .slice p.cl.a13 d.cl.tr.length p.cl.c13, .slice p.cl.a14 d.cl.tk.length p.cl.c14, .slice p.cl.a15 d.cl.pk.length p.cl.c15, .slice p.cl.a16 d.cl.rn.length p.cl.c16, .int .i64 d.cl.gt, .int .i64 d.cl.li, .string d.cl.ho, .string d.cl.sp, .int .i64 d.cl.ea, .int .i64 d.cl.wd, .slice p.cl.a23 d.cl.ms.length p.cl.c23] rfl rfl TH iEr ON ?_) | fail)
  replace P0 := P0.up b1
  replace N1 := nxt N1 b1
  have l1 := b1.size
  clear RA Q0 TH ON a1 OX b1
  generalize (W1.alloc (.cells #[.int .i64 0, .slice none 0 0, .slice none 0 0, .slice none 0 0, .int .i64 0, .int .i64 0, .int .i64 0, .int .i64 0, .int .i64 0, .bool false, .bool false, .string ⟨#[]⟩, .slice none 0 0, .slice none 0 0, .slice none 0 0, .slice none 0 0, .slice none 0 0, .int .i64 0, .int .i64 0, .string ⟨#[]⟩, .string ⟨#[]⟩, .int .i64 0, .int .i64 0, .slice none 0 0] 40)).setCells W1.heap.size 0 [.int .i64 d.cl.fa, .slice p.cl.a1 d.cl.an.length p.cl.c1, .slice p.cl.a2 d.cl.se.length p.cl.c2, .slice p.cl.a3 d.cl.re.length p.cl.c3, .int .i64 d.cl.er, .int .i64 d.cl.ph, .int .i64 d.cl.al, .int .i64 d.cl.pa, .int .i64 d.cl.no, .bool d.cl.rs, .bool d.cl.et, .string d.cl.pr, .slice p.cl.a12 d.cl.ex.length p.cl.c12, .slice p.cl.a13 d.cl.tr.length p.cl.c13, .slice p.cl.a14 d.cl.tk.length p.cl.c14, .slice p.cl.a15 d.cl.pk.length p.cl.c15, .slice p.cl.a16 d.cl.rn.length p.cl.c16, .int .i64 d.cl.gt, .int .i64 d.cl.li, .string d.cl.ho, .string d.cl.sp, .int .i64 d.cl.ea, .int .i64 d.cl.wd, .slice p.cl.a23 d.cl.ms.length p.cl.c23] = W2 at *
  generalize W1.heap.size = B1 at *
  have RA := P0.part 26 [.int .i64 d.sv.fa, .slice p.sv.a1 d.sv.an.length p.sv.c1, .slice p.sv.a2 d.sv.se.length p.sv.c2, .slice p.sv.a3 d.sv.re.length p.sv.c3, .int .i64 d.sv.er, .int .i64 d.sv.ph, .int .i64 d.sv.al, .int .i64 d.sv.pa, .int .i64 d.sv.no, .bool d.sv.rs, .bool d.sv.et, .string d.sv.pr, .slice p.sv.a12 d.sv.ex.length p.sv.c12, .slice p.sv.a13 d.sv.tr.length p.sv.c13, .slice p.sv.a14 d.sv.tk.length p.sv.c14, .slice p.sv.a15 d.sv.pk.length p.sv.c15, .slice p.sv.a16 d.sv.rn.length p.sv.c16, .int .i64 d.sv.gt, .int .i64 d.sv.li, .string d.sv.ho, .string d.sv.sp, .int .i64 d.sv.ea, .int .i64 d.sv.wd, .slice p.sv.a23 d.sv.ms.length p.sv.c23] rfl
  have Q0 : RwC (W2.alloc (.cells #[.int .i64 0, .slice none 0 0, .slice none 0 0, .slice none 0 0, .int .i64 0, .int .i64 0, .int .i64 0, .int .i64 0, .int .i64 0, .bool false, .bool false, .string ⟨#[]⟩, .slice none 0 0, .slice none 0 0, .slice none 0 0, .slice none 0 0, .slice none 0 0, .int .i64 0, .int .i64 0, .string ⟨#[]⟩, .string ⟨#[]⟩, .int .i64 0, .int .i64 0, .slice none 0 0] 40)) W2.heap.size [.int .i64 0, .slice none 0 0, .slice none 0 0, .slice none 0 0, .int .i64 0, .int .i64 0, .int .i64 0, .int .i64 0, .int .i64 0, .bool false, .bool false, .string ⟨#[]⟩, .slice none 0 0, .slice none 0 0, .slice none 0 0, .slice none 0 0, .slice none 0 0, .int .i64 0, .int .i64 0, .string ⟨#[]⟩, .string ⟨#[]⟩, .int .i64 0, .int .i64 0, .slice none 0 0] 40 := RwC.new W2 _ _
  have TH := Q0.thereG
  have ON := oneEr p.sv d.sv
  have a1 : Below W2.heap.size W2 (W2.alloc (.cells #[.int .i64 0, .slice none 0 0, .slice none 0 0, .slice none 0 0, .int .i64 0, .int .i64 0, .int .i64 0, .int .i64 0, .int .i64 0, .bool false, .bool false, .string ⟨#[]⟩, .slice none 0 0, .slice none 0 0, .slice none 0 0, .slice none 0 0, .slice none 0 0, .int .i64 0, .int .i64 0, .string ⟨#[]⟩, .string ⟨#[]⟩, .int .i64 0, .int .i64 0, .slice none 0 0] 40)) := (Below.refl _ _).alloc (Nat.le_refl _) _
  have OX := only_setG (W2.alloc (.cells #[.int .i64 0, .slice none 0 0, .slice none 0 0, .slice none 0 0, .int .i64 0, .int .i64 0, .int .i64 0, .int .i64 0, .int .i64 0, .bool false, .bool false, .string ⟨#[]⟩, .slice none 0 0, .slice none 0 0, .slice none 0 0, .slice none 0 0, .slice none 0 0, .int .i64 0, .int .i64 0, .string ⟨#[]⟩, .string ⟨#[]⟩, .int .i64 0, .int .i64 0, .slice none 0 0] 40)) W2.heap.size [.int .i64 d.sv.fa, .slice p.sv.a1 d.sv.an.length p.sv.c1, .slice p.sv.a2 d.sv.se.length p.sv.c2, .slice p.sv.a3 d.sv.re.length p.sv.c3, .int .i64 d.sv.er, .int .i64 d.sv.ph, .int .i64 d.sv.al, .int .i64 d.sv.pa, .int .i64 d.sv.no, .bool d.sv.rs, .bool d.sv.et, .string d.sv.pr, .slice p.sv.a12 d.sv.ex.length p.sv.c12, .slice p.sv.a13 d.sv.tr.length p.sv.c13, .slice p.sv.a14 d.sv.tk.length p.sv.c14, .slice p.sv.a15 d.sv.pk.length p.sv.c15, .slice p.sv.a16 d.sv.rn.length p.sv.c16, .int .i64 d.sv.gt, .int .i64 d.sv.li, .string d.sv.ho, .string d.sv.sp, .int .i64 d.sv.ea, .int .i64 d.sv.wd, .slice p.sv.a23 d.sv.ms.length p.sv.c23] 0
  have b1 : Below W2.heap.size W2 ((W2.alloc (.cells #[.int .i64 0, .slice none 0 0, .slice none 0 0, .slice none 0 0, .int .i64 0, .int .i64 0, .int .i64 0, .int .i64 0, .int .i64 0, .bool false, .bool false, .string ⟨#[]⟩, .slice none 0 0, .slice none 0 0, .slice none 0 0, .slice none 0 0, .slice none 0 0, .int .i64 0, .int .i64 0, .string ⟨#[]⟩, .string ⟨#[]⟩, .int .i64 0, .int .i64 0, .slice none 0 0] 40)).setCells W2.heap.size 0 [.int .i64 d.sv.fa, .slice p.sv.a1 d.sv.an.length p.sv.c1, .slice p.sv.a2 d.sv.se.length p.sv.c2, .slice p.sv.a3 d.sv.re.length p.sv.c3, .int .i64 d.sv.er, .int .i64 d.sv.ph, .int .i64 d.sv.al, .int .i64 d.sv.pa, .int .i64 d.sv.no, .bool d.sv.rs, .bool d.sv.et, .string d.sv.pr, .slice p.sv.a12 d.sv.ex.length p.sv.c12, .slice p.sv.a13 d.sv.tr.length p.sv.c13, .slice p.sv.a14 d.sv.tk.length p.sv.c14, .slice p.sv.a15 d.sv.pk.length p.sv.c15, .slice p.sv.a16 d.sv.rn.length p.sv.c16, .int .i64 d.sv.gt, .int .i64 d.sv.li, .string d.sv.ho, .string d.sv.sp, .int .i64 d.sv.ea, .int .i64 d.sv.wd, .slice p.sv.a23 d.sv.ms.length p.sv.c23]) := a1.trans (OX.below (Nat.le_refl _))
  have RD := World.rangeAt_setCells_same (W2.alloc (.cells #[.int .i64 0, .slice none 0 0, .slice none 0 0, .slice none 0 0, .int .i64 0, .int .i64 0, .int .i64 0, .int .i64 0, .int .i64 0, .bool false, .bool false, .string ⟨#[]⟩, .slice none 0 0, .slice none 0 0, .slice none 0 0, .slice none 0 0, .slice none 0 0, .int .i64 0, .int .i64 0, .string ⟨#[]⟩, .string ⟨#[]⟩, .int .i64 0, .int .i64 0, .slice none 0 0] 40)) W2.heap.size 0 [.int .i64 d.sv.fa, .slice p.sv.a1 d.sv.an.length p.sv.c1, .slice p.sv.a2 d.sv.se.length p.sv.c2, .slice p.sv.a3 d.sv.re.length p.sv.c3, .int .i64 d.sv.er, .int .i64 d.sv.ph, .int .i64 d.sv.al, .int .i64 d.sv.pa, .int .i64 d.sv.no, .bool d.sv.rs, .bool d.sv.et, .string d.sv.pr, .slice p.sv.a12 d.sv.ex.length p.sv.c12, .slice p.sv.a13 d.sv.tr.length p.sv.c13, .slice p.sv.a14 d.sv.tk.length p.sv.c14, .slice p.sv.a15 d.sv.pk.length p.sv.c15, .slice p.sv.a16 d.sv.rn.length p.sv.c16, .int .i64 d.sv.gt, .int .i64 d.sv.li, .string d.sv.ho, .string d.sv.sp, .int .i64 d.sv.ea, .int .i64 d.sv.wd, .slice p.sv.a23 d.sv.ms.length p.sv.c23] TH
  go_upto_region 3 with (first | (refine wpList_load_mid rfl 40 (.tmp 7) rfl w.heap.size 26 rfl [.int .i64 d.sv.fa, .slice p.sv.a1 d.sv.an.length p.sv.c1, .slice p.sv.a2 d.sv.se.length p.sv.c2, .slice p.sv.a3 d.sv.re.length p.sv.c3, .int .i64 d.sv.er, .int .i64 d.sv.ph, .int .i64 d.sv.al, .int .i64 d.sv.pa, .int .i64 d.sv.no, .bool d.sv.rs, .bool d.sv.et, .string d.sv.pr, .slice p.sv.a12 d.sv.ex.length p.sv.c12, .slice p.sv.a13 d.sv.tr.length p.sv.c13, .slice p.sv.a14 d.sv.tk.length p.sv.c14, .slice p.sv.a15 d.sv.pk.length p.sv.c15, .slice p.sv.a16 d.sv.rn.length p.sv.c16, .int .i64 d.sv.gt, .int .i64 d.sv.li, .string d.sv.ho, .string d.sv.sp, .int .i64 d.sv.ea, .int .i64 d.sv.wd, .slice p.sv.a23 d.sv.ms.length p.sv.c23] dM RA hdM hrM iEr ?_) | (refine wpList_store_mid rfl 40 (.tmp 4) (.tmp 8) rfl W2.heap.size 0 #[.int .i64 d.sv.fa, .slice p.sv.a1 d.sv.an.length p.sv.c1, .slice p.sv.a2 d.sv.se.length p.sv.c2, .slice p.sv.a3 d.sv.re.length p.sv.c3, .int .i64 d.sv.er, .int .i64 d.sv.ph, .int .i64 d.sv.al, .int .i64 d.sv.pa, .int .i64 d.sv.no, .bool d.sv.rs, .bool d.sv.et, .string d.sv.pr, .slice p.sv.a12 d.sv.ex.length p.sv.c12, .slice p.sv.a13 d.sv.tr.length p.sv.c13, .slice p.sv.a14 d.sv.tk.length p.sv.c14, .slice p.sv.a15 d.sv.pk.length p.sv.c15, .slice p.sv.a16 d.sv.rn.length p.sv.c16, .int .i64 d.sv.gt, .int .i64 d.sv.li, .string d.sv.ho, .string d.sv.sp, .int .i64 d.sv.ea, .int .i64 d.sv.wd, .slice p.sv.a23 d.sv.ms.length p.sv.c23] rfl rfl TH iEr ON ?_) | fail)
  replace RC := rangeQ RC b1
  replace N1 := nxt N1 b1
  clear RA Q0 TH ON a1 OX b1 P0
  generalize (W2.alloc (.cells #[.int .i64 0, .slice none 0 0, .slice none 0 0, .slice none 0 0, .int .i64 0, .int .i64 0, .int .i64 0, .int .i64 0, .int .i64 0, .bool false, .bool false, .string ⟨#[]⟩, .slice none 0 0, .slice none 0 0, .slice none 0 0, .slice none 0 0, .slice none 0 0, .int .i64 0, .int .i64 0, .string ⟨#[]⟩, .string ⟨#[]⟩, .int .i64 0, .int .i64 0, .slice none 0 0] 40)).setCells W2.heap.size 0 [.int .i64 d.sv.fa, .slice p.sv.a1 d.sv.an.length p.sv.c1, .slice p.sv.a2 d.sv.se.length p.sv.c2, .slice p.sv.a3 d.sv.re.length p.sv.c3, .int .i64 d.sv.er, .int .i64 d.sv.ph, .int .i64 d.sv.al, .int .i64 d.sv.pa, .int .i64 d.sv.no, .bool d.sv.rs, .bool d.sv.et, .string d.sv.pr, .slice p.sv.a12 d.sv.ex.length p.sv.c12, .slice p.sv.a13 d.sv.tr.length p.sv.c13, .slice p.sv.a14 d.sv.tk.length p.sv.c14, .slice p.sv.a15 d.sv.pk.length p.sv.c15, .slice p.sv.a16 d.sv.rn.length p.sv.c16, .int .i64 d.sv.gt, .int .i64 d.sv.li, .string d.sv.ho, .string d.sv.sp, .int .i64 d.sv.ea, .int .i64 d.sv.wd, .slice p.sv.a23 d.sv.ms.length p.sv.c23] = wb at *
  generalize W2.heap.size = B2 at *
  have c5 : wb.cell? ⟨B1, 5, none⟩ = some (.int .i64 d.cl.ph) := by simpa using RC 5 _ rfl
  have s5 : wb.cell? ⟨B2, 5, none⟩ = some (.int .i64 d.sv.ph) := by simpa using RD 5 _ rfl
  have c9 : wb.cell? ⟨B1, 9, none⟩ = some (.bool d.cl.rs) := by simpa using RC 9 _ rfl
  have s9 : wb.cell? ⟨B2, 9, none⟩ = some (.bool d.sv.rs) := by simpa using RD 9 _ rfl
  have c10 : wb.cell? ⟨B1, 10, none⟩ = some (.bool d.cl.et) := by simpa using RC 10 _ rfl
  have s10 : wb.cell? ⟨B2, 10, none⟩ = some (.bool d.sv.et) := by simpa using RD 10 _ rfl
  have c11 : wb.cell? ⟨B1, 11, none⟩ = some (.string d.cl.pr) := by simpa using RC 11 _ rfl
  have s11 : wb.cell? ⟨B2, 11, none⟩ = some (.string d.sv.pr) := by simpa using RD 11 _ rfl
  have c12 : wb.cell? ⟨B1, 12, none⟩ = some (.slice p.cl.a12 d.cl.ex.length p.cl.c12) := by simpa using RC 12 _ rfl
  have s12 : wb.cell? ⟨B2, 12, none⟩ = some (.slice p.sv.a12 d.sv.ex.length p.sv.c12) := by simpa using RD 12 _ rfl
  have c13 : wb.cell? ⟨B1, 13, none⟩ = some (.slice p.cl.a13 d.cl.tr.length p.cl.c13) := by simpa using RC 13 _ rfl
  have s13 : wb.cell? ⟨B2, 13, none⟩ = some (.slice p.sv.a13 d.sv.tr.length p.sv.c13) := by simpa using RD 13 _ rfl
  clear RC RD
  have C1 := hide ((unhide H1) wb N1)
  have C2 := hide ((unhide H2) wb N1)
  have NB := hide N1
  clear H1 H2 N1 l1 dM hdM hrM
  generalize agS d.cl d.sv = ag at *
  generalize decide (d.cl.tr = d.sv.tr) = bt at *
  generalize decide (d.cl.ex = d.sv.ex) = be at *
  by_cases h3 : d.cl.ph = 3
  · have hv : Hid (R = 3) := by show _ = _; rw [hR.out, if_pos h3]
    have t3 : (d.cl.ph == 3) = true := by simp [h3]
    clear hR h3 hS C1 C2
    go_wp2
    go_ret
    exact ⟨by rw [hv.out]; rfl, NB.out⟩
  have t3 : (d.cl.ph == 3) = false := by simp [h3]
  by_cases h4 : d.sv.ph = 3
  · have hv : Hid (R = 3) := by show _ = _; rw [hR.out, if_neg h3, if_pos h4]
    have t4 : (d.sv.ph == 3) = true := by simp [h4]
    clear hR h3 h4 hS C1 C2
    go_wp2
    go_ret
    exact ⟨by rw [hv.out]; rfl, NB.out⟩
  have t4 : (d.sv.ph == 3) = false := by simp [h4]
  by_cases h5 : d.cl.tr.length = 0
  · have t5 : ((d.cl.tr.length : Int) == 0) = true := by simp; exact List.length_eq_zero_iff.1 h5
    by_cases h6 : d.sv.tr.length = 0
    · have hv : Hid (R = 0) := by show _ = _; rw [hR.out, if_neg h3, if_neg h4, if_pos ⟨h5, h6⟩]
      have t6 : ((d.sv.tr.length : Int) == 0) = true := by simp; exact List.length_eq_zero_iff.1 h6
      generalize d.cl.tr.length = n1 at *
      generalize d.sv.tr.length = n2 at *
      clear hR h3 h4 h5 h6 hS C1 C2
      go_wp2
      go_ret
      exact ⟨by rw [hv.out]; rfl, NB.out⟩
    · have hv : Hid (R = 1) := by show _ = _; rw [hR.out, if_neg h3, if_neg h4, if_neg (fun h => h6 h.2), if_pos (.inl h5)]
      have t6 : ((d.sv.tr.length : Int) == 0) = false := beq_eq_false_iff_ne.2 (by omega)
      generalize d.cl.tr.length = n1 at *
      generalize d.sv.tr.length = n2 at *
      clear hR h3 h4 h5 h6 hS C1 C2
      go_wp2
      go_ret
      exact ⟨by rw [hv.out]; rfl, NB.out⟩
  have t5 : ((d.cl.tr.length : Int) == 0) = false := beq_eq_false_iff_ne.2 (by omega)
  by_cases h6 : d.sv.tr.length = 0
  · have hv : Hid (R = 1) := by show _ = _; rw [hR.out, if_neg h3, if_neg h4, if_neg (fun h => h5 h.1), if_pos (.inr h6)]
    have t6 : ((d.sv.tr.length : Int) == 0) = true := by simp; exact List.length_eq_zero_iff.1 h6
    generalize d.cl.tr.length = n1 at *
    generalize d.sv.tr.length = n2 at *
    clear hR h3 h4 h5 h6 hS C1 C2
    go_wp2
    go_ret
    exact ⟨by rw [hv.out]; rfl, NB.out⟩
  have t6 : ((d.sv.tr.length : Int) == 0) = false := beq_eq_false_iff_ne.2 (by omega)
  have hv : Hid (R = if ag = true then 2 else 4) := by show _ = _; rw [hR.out, if_neg h3, if_neg h4, if_neg (fun h => h5 h.1), if_neg (fun h => h.elim h5 h6)]
  generalize d.cl.tr.length = n1 at *
  generalize d.sv.tr.length = n2 at *
  clear hR h3 h4 h5 h6
  go_wp2_with fail
  refine C1.out.mono ?_
  rintro r1 w1 ⟨rfl, hw⟩
  subst hw
  clear C1
  cases bt with
  | false =>
    have hu : Hid (R = 4) := by show _ = _; rw [hv.out, hS.out]; simp
    clear hv hS C2
    go_wp2
    go_ret
    exact ⟨by rw [hu.out]; rfl, NB.out⟩
  | true =>
    go_wp2_with fail
    refine C2.out.mono ?_
    rintro r2 w2 ⟨rfl, hw⟩
    subst hw
    clear C2
    cases be with
    | false =>
      have hu : Hid (R = 4) := by show _ = _; rw [hv.out, hS.out]; simp
      clear hv hS
      go_wp2
      go_ret
      exact ⟨by rw [hu.out]; rfl, NB.out⟩
    | true =>
      by_cases hp : d.cl.pr.toList = d.sv.pr.toList
      rotate_left
      · have hu : Hid (R = 4) := by show _ = _; rw [hv.out, hS.out]; simp [hp]
        clear hv hS
        go_wp2
        go_ret
        exact ⟨by rw [hu.out]; rfl, NB.out⟩
      by_cases hr : d.cl.rs = d.sv.rs
      rotate_left
      · have tq : (d.cl.rs == d.sv.rs) = false := by simp [hr]
        have hu : Hid (R = 4) := by show _ = _; rw [hv.out, hS.out]; simp [hr]
        clear hv hS hr
        go_wp2
        go_ret
        exact ⟨by rw [hu.out]; rfl, NB.out⟩
      have tq : (d.cl.rs == d.sv.rs) = true := by simp [hr]
      by_cases he : d.cl.et = d.sv.et
      · have te : (d.cl.et == d.sv.et) = true := by simp [he]
        have hu : Hid (R = 2) := by show _ = _; rw [hv.out, hS.out, tq, te, decide_eq_true hp]; simp
        clear hv hS hr he
        go_wp2
        go_ret
        exact ⟨by rw [hu.out]; rfl, NB.out⟩
      · have te : (d.cl.et == d.sv.et) = false := by simp [he]
        have hu : Hid (R = 4) := by show _ = _; rw [hv.out, hS.out, tq, te, decide_eq_true hp]; simp
        clear hv hS hr he
        go_wp2
        go_ret
        exact ⟨by rw [hu.out]; rfl, NB.out⟩
end Go.Proofs.Ytinmgccnplcakaa
