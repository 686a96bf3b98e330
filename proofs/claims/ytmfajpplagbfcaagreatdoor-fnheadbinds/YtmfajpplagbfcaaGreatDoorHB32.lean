import Derived.Test.YtmfajpplagbfcaaGreatDoorHB30
import Derived.Test.YtmfajpplagbfcaaGreatDoorHB4
import Derived.Test.YtmfajpplagbfcaaGreatDoorHB31
import Derived.Test.YtmfajpplagbfcaaGreatDoorHB24
import Derived.Test.YtmfajpplagbfcaaGreatDoorHB1
import Derived.RangeFuncNested
import Derived.RangeFuncBound
import Derived.RangeFuncCalls
import Derived.RangeFuncLeaves
import Derived.RangeFuncWrites
import Derived.Shelf.Abstract
import Derived.WalkKit
import Derived.OwnWalkIn
import Derived.TacticsInMore
import Derived.LoopNIn
import Derived.LoopIn
import Derived.Test.YtmfajpplagbfcaaGreatDoorHB3
import Derived.BigQuiet
namespace Go.Proofs.YtmfajpplagbfcaaGreatDoor
set_option maxRecDepth 100000
open Go Go.RowKit
def Ty5 (w : World) (g : Nat) : Prop := ∃ cur, w.heap[g]? = some (.cells cur 5 (0, 0))
theorem Ty5.of_made {w : World} {base g n : Nat} {xs : List Value} (h : w.ownsRow base 5 1 (.slice (some ⟨g, 0, none⟩) n n) n xs) : Ty5 w g := by
  rcases h.2 with ⟨h', _⟩ | ⟨g', cap', cur, h', _, hg, _⟩
  · simp at h'
  · simp only [Value.slice.injEq, Option.some.injEq, Addr.mk.injEq, and_true, true_and] at h'
    obtain ⟨rfl, rfl⟩ := h'
    exact ⟨cur, hg⟩
theorem Ty5.set {w : World} {g : Nat} (h : Ty5 w g) (i : Nat) (v : Value) : Ty5 (w.setCell ⟨g, i, none⟩ v) g := by
  obtain ⟨cur, h⟩ := h
  exact ⟨_, heap_setCell_same w g i _ 5 _ h⟩
end Go.Proofs.YtmfajpplagbfcaaGreatDoor
namespace Go.Proofs.YtmfajpplagbfcaaGreatDoor
set_option maxRecDepth 100000
open Go Go.RowKit
def chanB : ByteArray := ⟨#[99, 104, 97, 110, 32]⟩
def infoL (s : ByteArray) (ctx : List Int) (N : Nat) : List Int := [(N : Int) / 256, (N : Int) % 256, 5 + (s.size : Int)] ++ (strL (chanB ++ s) ++ ([(ctx.length : Int)] ++ ctx))
theorem chan_size (s : ByteArray) : (chanB ++ s).size = s.size + 5 := by
  rw [ByteArray.size_append, show chanB.size = 5 from rfl]
  omega
theorem infoL_len (s : ByteArray) (ctx : List Int) (N : Nat) : (infoL s ctx N).length = 3 + (s.size + 5) + 1 + ctx.length := by
  unfold infoL
  simp only [List.length_append, strL_len, chan_size, List.length_cons, List.length_nil]
  omega
theorem infoL_byt {s : ByteArray} {ctx : List Int} {N : Nat} (hs : s.size ≤ 200) (hc : Byt ctx) (hl : ctx.length ≤ 255) (hN : N ≤ 8160) : Byt (infoL s ctx N) := by
  unfold infoL
  refine byt_apd (byt_cons (by omega) (by omega) (byt_cons (by omega) (by omega) (byt_cons (by omega) (by omega) byt_nil))) (byt_apd (strL_byt _) (byt_apd (byt_cons (by omega) (by omega) byt_nil) hc))
theorem cat4 (a b c d : Lst) : cat [a, b, c, d] = a.xs ++ (b.xs ++ (c.xs ++ d.xs)) := by simp [cat]
theorem lsts_four (w : World) (t : TypeId) (a b c d : Lst) : Lsts (w.alloc (.cells #[.slice a.a a.xs.length a.c, .slice b.a b.xs.length b.c, .slice c.a c.xs.length c.c, .slice d.a d.xs.length d.c] t)) w.heap.size [a, b, c, d] := by
  intro j x hj
  match j, hj with
  | 0, hj => simp at hj; subst hj; simp [World.cell?_alloc_at]
  | 1, hj => simp at hj; subst hj; simp [World.cell?_alloc_at]
  | 2, hj => simp at hj; subst hj; simp [World.cell?_alloc_at]
  | 3, hj => simp at hj; subst hj; simp [World.cell?_alloc_at]
theorem blk_lit3 (w : World) (k : IntKind) (e : TypeId) (x y z : Int) : Blk (w.alloc (.cells #[.int k x, .int k y, .int k z] e)) w.heap.size k [x, y, z] := by
  refine ⟨e, ?_⟩
  show (w.heap.push _)[w.heap.size]? = _
  simp
set_option maxHeartbeats 4000000 in
theorem labelInfo_any (w : World) (s : ByteArray) (hs : s.size ≤ 200) (g : Nat) (a : Option Addr) (c : Nat) (ctx : List Int) (hr : Rd w g a .u8 ctx) (hl : ctx.length ≤ 255) (hc : a = none → c = 0) (N : Nat) (hN : N ≤ 8160) :
    Calls Tryz.prog 103 #[.string s, .slice a ctx.length c, .int .i64 (N : Int)] w fun e w' => NewRow w.heap.size w' e .u8 (infoL s ctx N) ∧ Below w.heap.size w w' := by
  have hN0 : (0 : Int) ≤ (N : Int) := by omega
  have hN1 : (N : Int) ≤ 8160 := by omega
  have sz := hide (chan_size s)
  obtain ⟨rs, hrs⟩ : ∃ l, l = infoL s ctx N := ⟨_, rfl⟩
  have HR := hide hrs
  rw [← hrs]
  clear hrs
  go_enter Tryz.func103, Tryz.ntmps103
  go_upto_region 3 with fail
  change Code.wp _ _ _ _ (w.alloc (.cells #[.int .u8 ((N : Int) / 256), .int .u8 ((N : Int) % 256), .int .u8 (5 + (s.size : Int))] 5))
  have n0 : Below w.heap.size w (w.alloc (.cells #[.int .u8 ((N : Int) / 256), .int .u8 ((N : Int) % 256), .int .u8 (5 + (s.size : Int))] 5)) := (Below.refl _ _).alloc (Nat.le_refl _) _
  have B0 := blk_lit3 w .u8 5 ((N : Int) / 256) ((N : Int) % 256) (5 + (s.size : Int))
  have z0 : (w.alloc (.cells #[.int .u8 ((N : Int) / 256), .int .u8 ((N : Int) % 256), .int .u8 (5 + (s.size : Int))] 5)).heap.size = w.heap.size + 1 := by simp
  generalize w.alloc (.cells #[.int .u8 ((N : Int) / 256), .int .u8 ((N : Int) % 256), .int .u8 (5 + (s.size : Int))] 5) = wa at *
  obtain ⟨cv, wb, hcv, rb, cb, n1, z1⟩ := conv_bytes wa (chanB ++ s)
  have sl := hide (strL_len (chanB ++ s))
  rw [← sl.out] at hcv
  have hcv' : (convert 9 22 (.string ({ data := #[99, 104, 97, 110, 32] } ++ s))).run Tryz.prog wa = .ok (.slice (some ⟨wa.heap.size, 0, none⟩) (strL (chanB ++ s)).length cv) wb := hcv
  have N1 := nxt n0 n1
  have cl : (ctx.length : Int) ≤ 255 := by omega
  have n2 : Below wb.heap.size wb (wb.alloc (.cells #[.int .u8 (ctx.length : Int)] 5)) := (Below.refl _ _).alloc (Nat.le_refl _) _
  have B2 := blk_lit1 wb .u8 5 (ctx.length : Int)
  have z2 : (wb.alloc (.cells #[.int .u8 (ctx.length : Int)] 5)).heap.size = wb.heap.size + 1 := by simp
  obtain ⟨WB, hWB⟩ : ∃ l, l = strL (chanB ++ s) := ⟨_, rfl⟩
  rw [← hWB] at rb hcv' sl
  have EW : Hid (rs = [(N : Int) / 256, (N : Int) % 256, 5 + (s.size : Int)] ++ (WB ++ ([(ctx.length : Int)] ++ ctx))) := by show _ = _; rw [HR.out, hWB]; rfl
  clear hWB hcv
  go_wp2_with (refine wpList_conv_run wa rfl 9 22 (.tmp 21) rfl _ rfl _ _ hcv' ?_)
  rw [z0] at rb z1
  rw [z1] at B2 z2
  have U2 := fun (x : List Int) (q : Nat) (ad : Option Addr) (h : Rd w q ad .u8 x) => h.up (nxt N1 n2)
  generalize wb.alloc (.cells #[.int .u8 (ctx.length : Int)] 5) = wc at *
  have n3 : Below wc.heap.size wc (wc.alloc (.cells #[.slice (some ⟨w.heap.size, 0, none⟩) 3 3, .slice (some ⟨w.heap.size + 1, 0, none⟩) WB.length cv, .slice (some ⟨w.heap.size + 1 + 1, 0, none⟩) 1 1, .slice a ctx.length c] 22)) := (Below.refl _ _).alloc (Nat.le_refl _) _
  have LS := lsts_four wc 22 ⟨w.heap.size, some ⟨w.heap.size, 0, none⟩, 3, [(N : Int) / 256, (N : Int) % 256, 5 + (s.size : Int)]⟩ ⟨w.heap.size + 1, some ⟨w.heap.size + 1, 0, none⟩, cv, WB⟩ ⟨w.heap.size + 1 + 1, some ⟨w.heap.size + 1 + 1, 0, none⟩, 1, [(ctx.length : Int)]⟩ ⟨g, a, c, ctx⟩
  have LS' : Lsts (wc.alloc (.cells #[.slice (some ⟨w.heap.size, 0, none⟩) 3 3, .slice (some ⟨w.heap.size + 1, 0, none⟩) WB.length cv, .slice (some ⟨w.heap.size + 1 + 1, 0, none⟩) 1 1, .slice a ctx.length c] 22)) wc.heap.size [⟨w.heap.size, some ⟨w.heap.size, 0, none⟩, 3, [(N : Int) / 256, (N : Int) % 256, 5 + (s.size : Int)]⟩, ⟨w.heap.size + 1, some ⟨w.heap.size + 1, 0, none⟩, cv, WB⟩, ⟨w.heap.size + 1 + 1, some ⟨w.heap.size + 1 + 1, 0, none⟩, 1, [(ctx.length : Int)]⟩, ⟨g, a, c, ctx⟩] := LS
  rw [z2] at LS'
  generalize wc.alloc (.cells #[.slice (some ⟨w.heap.size, 0, none⟩) 3 3, .slice (some ⟨w.heap.size + 1, 0, none⟩) WB.length cv, .slice (some ⟨w.heap.size + 1 + 1, 0, none⟩) 1 1, .slice a ctx.length c] 22) = wd at *
  have N3 := nxt (nxt N1 n2) n3
  have CC := concat_any wd (w.heap.size + 1 + 1 + 1) 4 4 _ rfl (by omega) LS' (by
    intro x hx
    simp only [List.mem_cons, List.not_mem_nil, or_false] at hx
    rcases hx with rfl | rfl | rfl | rfl
    · exact ⟨(((B0.up n1).up n2).up n3).own0.rd, by simp⟩
    · exact ⟨(rb.up n2).up n3, by simp⟩
    · exact ⟨(B2.up n3).own0.rd, by simp⟩
    · exact ⟨(U2 _ _ _ hr).up n3, hc⟩) (by rw [cat4]; simp) (by rw [cat4]; simp only [List.length_append, List.length_cons, List.length_nil]; have := sl.out; have := sz.out; omega)
  rw [cat4] at CC
  have CH : Hid (Calls Tryz.prog 108 #[.slice (some ⟨w.heap.size + 1 + 1 + 1, 0, none⟩) 4 4] wd fun e w' => NewRow wd.heap.size w' e .u8 rs ∧ Below wd.heap.size wd w') := by
    show Calls _ _ _ _ _
    rw [EW.out]
    exact CC
  clear CC LS LS' B0 B2 rb U2 hcv'
  refine CH.out.mono ?_
  rintro r we ⟨⟨a4, c4, g4, rfl, o4, p4, q4, r4⟩, n4⟩
  have y3 := N3.size
  go_wp2
  go_ret
  exact ⟨⟨a4, c4, g4, rfl, o4, p4, q4, by omega⟩, nxt N3 n4⟩
end Go.Proofs.YtmfajpplagbfcaaGreatDoor
namespace Go.Proofs.YtmfajpplagbfcaaGreatDoor
set_option maxRecDepth 100000
open Go Go.RowKit
section
variable {P : Program} {ops : Array Oper} {Q : Exit → Act → World → Prop} {n l : Nat}
theorem op_in {o : Oper} {a : Act} {w : World} {K : Act → World → Prop} (hd : ∀ c, o.op ≠ .defer c) (h : o.wp P a w K Q) : o.wpIn (Fence.wide.inRound l) n P a w K Q := by
  refine ⟨fun _ _ => trivial, ?_⟩
  rw [Oper.semAt_plain (Fence.wide.inRound l) _ _ hd]
  unfold Oper.wp at h
  generalize (execOp a.eval o).run P w = r at *
  cases r with
  | ok x w' =>
    cases x with
    | value v => exact h
    | skip => exact h
    | defer d => exact h
    | enter f args => exact ⟨fun h' => by simp [Fence.wide] at h', CallsIn.inRound l (callsIn_wide.2 h)⟩
    | row row args =>
      refine ⟨fun h' => by simp [Fence.wide] at h', fun c cs _ => ?_⟩
      obtain ⟨v, w', r, s⟩ := h c cs
      exact ⟨v, w', r, stepsIn_wide.2 s⟩
    | _ => exact h.elim
  | halt x w' =>
    cases x with
    | panic v => exact h
    | _ => exact h.elim
end
end Go.Proofs.YtmfajpplagbfcaaGreatDoor
namespace Go.Proofs.YtmfajpplagbfcaaGreatDoor
set_option maxRecDepth 100000
open Go Go.RowKit Go.Shelf
attribute [local go_sem] Oper.semAt_some
abbrev PcN (N : Nat) := { k : Nat // 32 * k < N }
def pcL (N k : Nat) : Nat := min 32 (N - 32 * k)
def pcE (g N : Nat) (x : PcN N) : Array Value := #[.slice (some ⟨g, 32 * x.1, none⟩) (pcL N x.1) (pcL N x.1)]
def KpB (Bs Bn : Nat) (W W' : World) : Prop := W'.heap[Bs]? = W.heap[Bs]? ∧ W'.heap[Bn]? = W.heap[Bn]?
theorem KpB.t {Bs Bn : Nat} {A B C : World} (h : KpB Bs Bn A B) (k : KpB Bs Bn B C) : KpB Bs Bn A C := ⟨k.1.trans h.1, k.2.trans h.2⟩
theorem KpB.b {Bs Bn : Nat} {w : World} (h1 : Bs < w.heap.size) (h2 : Bn < w.heap.size) (W : World) (l : Nat) (o o' : Obj) (hl : w.heap.size ≤ l) (_ : W.heap[l]? = some o) (_ : o.isCells = false) (_ : o.isWalk = false) : KpB Bs Bn W (W.putObj l o') := by
  constructor
  · simp [World.putObj, show l ≠ Bs by omega]
  · simp [World.putObj, show l ≠ Bn by omega]
set_option maxRecDepth 100000 in
set_option maxHeartbeats 2000000 in
theorem chunk1_in (n : Nat) (hn : 1 ≤ n) (l Bs Bn g N : Nat) (hN : N ≤ 8160) (J Jx : List (PcN N) → World → Prop)
    (hY : ∀ pre x W, J pre W → pre.length < 255 → YieldAt Fence.wide (n - 1) Tryz.prog l (pcE g N x) W fun e W' =>
      (e = .returned (.bool true) ∧ J (pre ++ [x]) W' ∧ KpB Bs Bn W W') ∨ (e = .returned (.bool false) ∧ Jx (pre ++ [x]) W'))
    (W : World) (hBs : W.cell? ⟨Bs, 0, none⟩ = some (.slice (some ⟨g, 0, none⟩) N N)) (hBn : W.cell? ⟨Bn, 0, none⟩ = some (.int .i64 32)) (h0 : J [] W) (hA : AbidesFrom W.heap.size J) :
    CallsIn Fence.wide n Tryz.prog 109 #[.func (.yield l) #[] #[], .pointer (some ⟨Bs, 0, none⟩), .pointer (some ⟨Bn, 0, none⟩)] W fun e W' => (∃ v, e = .returned v) ∧
      ((∃ ys, (ys.map (·.1) = List.range ((N + 31) / 32)) ∧ J ys W') ∨ (∃ pre, True ∧ Jx pre W')) := by
  refine callsIn_of_wp Tryz.func109 rfl trivial ?_ rfl
  simp only [Tryz.ntmps109, List.size_toArray, List.length_cons, List.length_nil, Nat.reduceAdd, Nat.reduceSub, Array.replicate_succ, Array.replicate_zero, List.push_toArray, List.append_toArray, List.nil_append, List.cons_append]
  gi_wp2
  gi_loopw [4, 5] (fun i _ wr => ∃ (k : Nat) (pre : List (PcN N)), pre.map (·.1) = List.range k ∧ i = .int .i64 ((32 * k : Nat) : Int) ∧ 32 * k < N + 32 ∧ J pre wr ∧ KpB Bs Bn W wr) (fun i _ _ => N + 32 - (intOf i).toNat)
  case atStart => exact ⟨0, [], rfl, rfl, by omega, h0, ⟨rfl, rfl⟩⟩
  case round =>
    obtain ⟨k, pre, hp, rfl, hk, hJ, hK⟩ := hrel
    have b1 := (World.cell?_of_block (a := ⟨Bs, 0, none⟩) hK.1).trans hBs
    have b2 := (World.cell?_of_block (a := ⟨Bn, 0, none⟩) hK.2).trans hBn
    have pl : pre.length = k := by have := congrArg List.length hp; simpa using this
    by_cases hlt : 32 * k < N
    · have ik : ((32 * k : Nat) : Int) < (N : Int) := by omega
      have em : (if ((N - 32 * k : Nat) : Int) < 32 then ((N - 32 * k : Nat) : Int) else 32) = ((pcL N k : Nat) : Int) := by unfold pcL; split <;> omega
      have e0 : 0 < pcL N k := by unfold pcL; omega
      have e1 : 32 * k + pcL N k ≤ N := by unfold pcL; omega
      have EM := hide em
      clear em
      gi_wp2
      refine wpIn_wide.2 ?_
      go_quiet (fail)
      rw [EM.out]
      clear EM
      have g1 : wr.grownBy (wr.drewN nq) none := ⟨rfl, rfl, rfl, Nat.le_refl _, fun _ _ _ => rfl⟩
      have hJ1 := hA pre wr _ none hJ g1 (by simp)
      have hK1 : KpB Bs Bn W (wr.drewN nq) := hK
      have c1 : (wr.drewN nq).cell? ⟨Bs, 0, none⟩ = some (.slice (some ⟨g, 0, none⟩) N N) := b1
      have c2 : (wr.drewN nq).cell? ⟨Bn, 0, none⟩ = some (.int .i64 32) := b2
      obtain ⟨fn, tmps, assign, body, hy, hR⟩ := hY pre ⟨k, hlt⟩ (wr.drewN nq) hJ1 (by omega)
      unfold pcE at hy
      dsimp only at hy
      generalize wr.drewN nq = w1 at *
      clear g1 hJ hK b1 b2 hJ1
      generalize pcL N k = e at *
      have ee : 32 * k + e - 32 * k = e := by omega
      have e2 : ¬ (32 * k + e = 32 * k) := by omega
      gi_wp2
      refine hR.mono ?_
      rintro x W3 (⟨rfl, hJ3, hk3⟩ | ⟨rfl, hJx3⟩)
      · have K3 := hK1.t hk3
        have b1 := (World.cell?_of_block (a := ⟨Bs, 0, none⟩) K3.1).trans hBs
        have b2 := (World.cell?_of_block (a := ⟨Bn, 0, none⟩) K3.2).trans hBn
        gi_wp2
        go_roundw
        case rel => exact ⟨k + 1, pre ++ [⟨k, hlt⟩], by rw [List.map_append, hp, List.range_succ]; rfl, by go_num, by omega, hJ3, K3⟩
        case measure => simp [intOf]; omega
      · gi_wp2
        refine bodyPost_ret (results_none rfl _ _ _) rfl ?_
        exact ⟨⟨_, rfl⟩, .inr ⟨_, trivial, hJx3⟩⟩
    · have ik : ¬ ((32 * k : Nat) : Int) < (N : Int) := by omega
      have kk : k = (N + 31) / 32 := by omega
      have KK := hide kk
      clear kk
      gi_wp2
      go_end0
      exact ⟨⟨_, rfl⟩, .inl ⟨pre, hp.trans (by rw [KK.out]), hJ⟩⟩
theorem chunk_any (w : World) (g N : Nat) :
    Calls Tryz.prog 107 #[.slice (some ⟨g, 0, none⟩) N N, .int .i64 32] w fun e w' => e = .returned (.func (.func 109) #[] #[.pointer (some ⟨w.heap.size, 0, none⟩), .pointer (some ⟨w.heap.size + 1, 0, none⟩)]) ∧ w' = (w.alloc (.cells #[.slice (some ⟨g, 0, none⟩) N N] 22)).alloc (.cells #[.int .i64 32] 3) := by
  go_enter Tryz.func107, Tryz.ntmps107
  go_wp2
  go_ret
  exact ⟨by simp, rfl⟩
theorem chunk_stops (n : Nat) (hn : 1 ≤ n) (Bs Bn g N : Nat) (hN : N ≤ 8160) (w : World) (h1 : Bs < w.heap.size) (h2 : Bn < w.heap.size) (hBs : w.cell? ⟨Bs, 0, none⟩ = some (.slice (some ⟨g, 0, none⟩) N N)) (hBn : w.cell? ⟨Bn, 0, none⟩ = some (.int .i64 32)) :
    SeqStopsK Fence.wide n Tryz.prog 109 #[.pointer (some ⟨Bs, 0, none⟩), .pointer (some ⟨Bn, 0, none⟩)] (pcE g N) (KpB Bs Bn) (fun ys => ys.map (·.1) = List.range ((N + 31) / 32)) (fun _ => True) 255 w := fun l J Jx W hW hJ _ hY h0 =>
  chunk1_in n hn l Bs Bn g N hN J Jx hY W ((hW.cell (p := ⟨Bs, 0, none⟩) h1).trans hBs) ((hW.cell (p := ⟨Bn, 0, none⟩) h2).trans hBn) h0 hJ
end Go.Proofs.YtmfajpplagbfcaaGreatDoor
