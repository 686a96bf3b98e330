
/-
  The text of an iterator's lines (the numbers are seat 20r's own).
-/
import Derived.Test.YtpbniihhpfbamaaDoorFqH
namespace Go.Proofs.YtpbniihhpfbamaaDoor
set_option maxRecDepth 100000
open Go Go.RowKit Go.Shelf
attribute [local go_sem] Oper.semAt_some

theorem ltT_pre {pre ls : List (List UInt8)} {x : List UInt8} (h : (pre ++ [x]) <+: ls) : (ltT pre).length + x.length + 1 ≤ (ltT ls).length := by
  obtain ⟨t, rfl⟩ := h
  rw [ltT_app, ltT_app, ltT_one]
  simp
  omega
set_option maxRecDepth 100000 in
set_option maxHeartbeats 4000000 in
theorem textOf_any (w : World) (v : Value) (ls : List (List UInt8)) (hS : SqV ls v w) (hl : (ltT ls).length ≤ 140737488355328) :
    Calls Tryd.prog 21 #[v] w fun e w' => e = .returned (tx (ltT ls)) ∧ Below w.heap.size w w' := by
  obtain ⟨gf, lb, n0, rfl, hn0, en, SQ⟩ := hS
  have n1 : Below w.heap.size w (w.alloc (.cells #[.pointer none, .slice none 0 0] 85)) := (Below.refl _ _).alloc (Nat.le_refl _) _
  have B0 : Lib.IsBuilder 85 5 w.heap.size w.heap.size (Lib.byteCells (ltT [])) (w.alloc (.cells #[.pointer none, .slice none 0 0] 85)) :=
    .inl ⟨Nat.le_refl _, .slice none 0 0, heap_alloc_new w _, World.ownsRow_nil _ _ 5 1, by simp [Value.ownBlock]⟩
  have z1 : (w.alloc (.cells #[.pointer none, .slice none 0 0] 85)).heap.size = w.heap.size + 1 := World.size_alloc _ _
  have AB := bd_abd w.heap.size w.heap.size n0 hn0
  refine (callsIn_wide (n := 5)).1 (callsIn_of_wp_marks Tryd.func21 rfl trivial ?_ rfl)
  simp only [Tryd.ntmps21, List.size_toArray, List.length_cons, List.length_nil, Nat.reduceAdd, Nat.reduceSub, Array.replicate_succ, Array.replicate_zero, List.push_toArray, List.append_toArray, List.nil_append, List.cons_append]
  gi_wp2
  generalize w.alloc (.cells #[.pointer none, .slice none 0 0] 85) = w1 at *
  refine wpIn_rangeS (gf := gf) (lb := lb) rfl (fun args w => run_enter en args w) SQ (n1.mono hn0) (Nat.le_trans hn0 n1.size) rfl (BdS w.heap.size) (fun pre X => w.heap.size ≤ X.heap.size ∧ Lib.IsBuilder 85 5 w.heap.size w.heap.size (Lib.byteCells (ltT pre)) X) AB ⟨n1.size, B0⟩
    (fun x => { tmps := #[.func (.func gf) #[] lb, undef, .string ⟨#[]⟩, .pointer (some ⟨w.heap.size, 0, none⟩), txv x, .func (.func gf) #[] lb, txv x, undef, undef, undef, undef], defers := [] }) ?_ ?_ ?_
  · intro l' x X K hK
    unfold txv
    gi_wp2
    exact hK
  · rintro l' pre x X ⟨hs, hI⟩ hpre hC
    have pl := ltT_pre hpre
    have WS := hide (writeString_any X w.heap.size w.heap.size (ltT pre) x hI hs (by omega))
    clear hI
    unfold txv
    unfold tx at WS
    gi_wp2_with (gi_at_call 36)
    refine ⟨trivial, (CallsIn.inRound l' (callsIn_wide.2 WS.out)).mono ?_⟩
    rintro e X2 ⟨⟨v, rfl⟩, hI2, hC2⟩
    have WB := hide (writeLf_any X2 w.heap.size w.heap.size (ltT pre ++ x) hI2 (Nat.le_trans hs hC2.size) (by rw [List.length_append]; omega))
    have HC2 := hide hC2
    clear hI2 hC2 WS
    gi_wp2_with (gi_at_call 37)
    refine ⟨trivial, (CallsIn.inRound l' (callsIn_wide.2 WB.out)).mono ?_⟩
    rintro e X3 ⟨⟨v, rfl⟩, hI3, hC3⟩
    have FIN : Hid ((w.heap.size ≤ X3.heap.size ∧ Lib.IsBuilder 85 5 w.heap.size w.heap.size (Lib.byteCells (ltT (pre ++ [x]))) X3) ∧ ChS (BdS w.heap.size) X X3) := by
      rw [ltT_app, ltT_one, ← List.append_assoc]
      exact ⟨⟨Nat.le_trans hs (HC2.out.trans hC3).size, hI3⟩, HC2.out.trans hC3⟩
    clear hI3 hC3 WB HC2
    gi_wp2
    exact FIN.out
  · rintro X ⟨hs, hI⟩ hC hsz hK hns
    have BS := hide (Tryd.Builder_String_any_k w.heap.size w.heap.size (ltT ls) X (Lib.IsBuilderF.of hI) hs)
    have NX := hide (n1.trans (hC.below (fun b hb => (AB.lie _ w1 ⟨n1.size, B0⟩ b hb).2 |> fun _ => (bd_abd w.heap.size w.heap.size w.heap.size (Nat.le_refl _)).lie _ w1 ⟨n1.size, B0⟩ b hb |>.1) n1.size))
    have lt := (Array.getElem?_eq_some_iff.1 hK).1
    have hs1 := n1.size
    clear hI B0 AB hC hns
    gi_wp2_with (gi_at_call 38)
    refine ⟨trivial, (callsIn_wide.2 BS.out).mono ?_⟩
    rintro e X2 ⟨rfl, -, n2, ok⟩
    have hK2 : X2.heap[w1.heap.size]? = some (.deferred (some [])) := ok _ _ hK (fun e => by have := Option.some.inj e; omega) (fun c fz e => by cases e)
    rw [z1] at hK2
    have N2 := hide (NX.out.trans n2)
    clear BS n2 ok NX
    gi_wp2
    refine ⟨by simp, .inl ⟨_, _, rfl, run_takeDeferred hK2, ?_⟩⟩
    exact ⟨_, results_tmp rfl _ _ _, rfl, N2.out.trans (below_put (by omega))⟩
end Go.Proofs.YtpbniihhpfbamaaDoor
