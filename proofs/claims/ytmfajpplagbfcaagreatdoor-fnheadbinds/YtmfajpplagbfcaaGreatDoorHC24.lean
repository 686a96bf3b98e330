import Derived.Test.YtmfajpplagbfcaaGreatDoorHC23
import Derived.Test.YtmfajpplagbfcaaGreatDoorHC19
import Derived.Test.YtmfajpplagbfcaaGreatDoorHC1
import Derived.RangeFuncNested
import Derived.RangeFuncBound
import Derived.RangeFuncCalls
import Derived.RangeFuncLeaves
import Derived.RangeFuncWrites
import Derived.Shelf.Abstract
import Derived.WalkKit
import Derived.OwnWalkIn
import Derived.TacticsInMore
import Derived.LoopNIn
import Derived.LoopIn
import Derived.Test.YtmfajpplagbfcaaGreatDoorHC2
import Derived.BigQuiet
import Derived.Test.YtmfajpplagbfcaaGreatDoorHC22
namespace Go.Proofs.YtmfajpplagbfcaaGreatDoor
set_option maxRecDepth 100000
open Go Go.RowKit
def chanB : ByteArray := ⟨#[99, 104, 97, 110, 32]⟩
def infoL (s : ByteArray) (ctx : List Int) (N : Nat) : List Int := [(N : Int) / 256, (N : Int) % 256, 5 + (s.size : Int)] ++ (strL (chanB ++ s) ++ ([(ctx.length : Int)] ++ ctx))
theorem chan_size (s : ByteArray) : (chanB ++ s).size = s.size + 5 := by
  rw [ByteArray.size_append, show chanB.size = 5 from rfl]
  omega
theorem infoL_len (s : ByteArray) (ctx : List Int) (N : Nat) : (infoL s ctx N).length = 3 + (s.size + 5) + 1 + ctx.length := by
  unfold infoL
  simp only [List.length_append, strL_len, chan_size, List.length_cons, List.length_nil]
  omega
theorem infoL_byt {s : ByteArray} {ctx : List Int} {N : Nat} (hs : s.size ≤ 200) (hc : Byt ctx) (hl : ctx.length ≤ 255) (hN : N ≤ 8160) : Byt (infoL s ctx N) := by
  unfold infoL
  refine byt_apd (byt_cons (by omega) (by omega) (byt_cons (by omega) (by omega) (byt_cons (by omega) (by omega) byt_nil))) (byt_apd (strL_byt _) (byt_apd (byt_cons (by omega) (by omega) byt_nil) hc))
theorem cat4 (a b c d : Lst) : cat [a, b, c, d] = a.xs ++ (b.xs ++ (c.xs ++ d.xs)) := by simp [cat]
theorem lsts_four (w : World) (t : TypeId) (a b c d : Lst) : Lsts (w.alloc (.cells #[.slice a.a a.xs.length a.c, .slice b.a b.xs.length b.c, .slice c.a c.xs.length c.c, .slice d.a d.xs.length d.c] t)) w.heap.size [a, b, c, d] := by
  intro j x hj
  match j, hj with
  | 0, hj => simp at hj; subst hj; simp [World.cell?_alloc_at]
  | 1, hj => simp at hj; subst hj; simp [World.cell?_alloc_at]
  | 2, hj => simp at hj; subst hj; simp [World.cell?_alloc_at]
  | 3, hj => simp at hj; subst hj; simp [World.cell?_alloc_at]
theorem blk_lit3 (w : World) (k : IntKind) (e : TypeId) (x y z : Int) : Blk (w.alloc (.cells #[.int k x, .int k y, .int k z] e)) w.heap.size k [x, y, z] := by
  refine ⟨e, ?_⟩
  show (w.heap.push _)[w.heap.size]? = _
  simp
set_option maxHeartbeats 4000000 in
theorem labelInfo_any (w : World) (s : ByteArray) (hs : s.size ≤ 200) (g : Nat) (a : Option Addr) (c : Nat) (ctx : List Int) (hr : Rd w g a .u8 ctx) (hl : ctx.length ≤ 255) (hc : a = none → c = 0) (N : Nat) (hN : N ≤ 8160) :
    Calls Tryz.prog 103 #[.string s, .slice a ctx.length c, .int .i64 (N : Int)] w fun e w' => NewRow w.heap.size w' e .u8 (infoL s ctx N) ∧ Below w.heap.size w w' := by
  have hN0 : (0 : Int) ≤ (N : Int) := by omega
  have hN1 : (N : Int) ≤ 8160 := by omega
  have sz := hide (chan_size s)
  obtain ⟨rs, hrs⟩ : ∃ l, l = infoL s ctx N := ⟨_, rfl⟩
  have HR := hide hrs
  rw [← hrs]
  clear hrs
  go_enter Tryz.func103, Tryz.ntmps103
  go_upto_region 3 with fail
  change Code.wp _ _ _ _ (w.alloc (.cells #[.int .u8 ((N : Int) / 256), .int .u8 ((N : Int) % 256), .int .u8 (5 + (s.size : Int))] 5))
  have n0 : Below w.heap.size w (w.alloc (.cells #[.int .u8 ((N : Int) / 256), .int .u8 ((N : Int) % 256), .int .u8 (5 + (s.size : Int))] 5)) := (Below.refl _ _).alloc (Nat.le_refl _) _
  have B0 := blk_lit3 w .u8 5 ((N : Int) / 256) ((N : Int) % 256) (5 + (s.size : Int))
  have z0 : (w.alloc (.cells #[.int .u8 ((N : Int) / 256), .int .u8 ((N : Int) % 256), .int .u8 (5 + (s.size : Int))] 5)).heap.size = w.heap.size + 1 := by simp
  generalize w.alloc (.cells #[.int .u8 ((N : Int) / 256), .int .u8 ((N : Int) % 256), .int .u8 (5 + (s.size : Int))] 5) = wa at *
  obtain ⟨cv, wb, hcv, rb, cb, n1, z1⟩ := conv_bytes wa (chanB ++ s)
  have sl := hide (strL_len (chanB ++ s))
  rw [← sl.out] at hcv
  have hcv' : (convert 9 22 (.string ({ data := #[99, 104, 97, 110, 32] } ++ s))).run Tryz.prog wa = .ok (.slice (some ⟨wa.heap.size, 0, none⟩) (strL (chanB ++ s)).length cv) wb := hcv
  have N1 := nxt n0 n1
  have cl : (ctx.length : Int) ≤ 255 := by omega
  have n2 : Below wb.heap.size wb (wb.alloc (.cells #[.int .u8 (ctx.length : Int)] 5)) := (Below.refl _ _).alloc (Nat.le_refl _) _
  have B2 := blk_lit1 wb .u8 5 (ctx.length : Int)
  have z2 : (wb.alloc (.cells #[.int .u8 (ctx.length : Int)] 5)).heap.size = wb.heap.size + 1 := by simp
  obtain ⟨WB, hWB⟩ : ∃ l, l = strL (chanB ++ s) := ⟨_, rfl⟩
  rw [← hWB] at rb hcv' sl
  have EW : Hid (rs = [(N : Int) / 256, (N : Int) % 256, 5 + (s.size : Int)] ++ (WB ++ ([(ctx.length : Int)] ++ ctx))) := by show _ = _; rw [HR.out, hWB]; rfl
  clear hWB hcv
  go_wp2_with (refine wpList_conv_run wa rfl 9 22 (.tmp 21) rfl _ rfl _ _ hcv' ?_)
  rw [z0] at rb z1
  rw [z1] at B2 z2
  have U2 := fun (x : List Int) (q : Nat) (ad : Option Addr) (h : Rd w q ad .u8 x) => h.up (nxt N1 n2)
  generalize wb.alloc (.cells #[.int .u8 (ctx.length : Int)] 5) = wc at *
  have n3 : Below wc.heap.size wc (wc.alloc (.cells #[.slice (some ⟨w.heap.size, 0, none⟩) 3 3, .slice (some ⟨w.heap.size + 1, 0, none⟩) WB.length cv, .slice (some ⟨w.heap.size + 1 + 1, 0, none⟩) 1 1, .slice a ctx.length c] 22)) := (Below.refl _ _).alloc (Nat.le_refl _) _
  have LS := lsts_four wc 22 ⟨w.heap.size, some ⟨w.heap.size, 0, none⟩, 3, [(N : Int) / 256, (N : Int) % 256, 5 + (s.size : Int)]⟩ ⟨w.heap.size + 1, some ⟨w.heap.size + 1, 0, none⟩, cv, WB⟩ ⟨w.heap.size + 1 + 1, some ⟨w.heap.size + 1 + 1, 0, none⟩, 1, [(ctx.length : Int)]⟩ ⟨g, a, c, ctx⟩
  have LS' : Lsts (wc.alloc (.cells #[.slice (some ⟨w.heap.size, 0, none⟩) 3 3, .slice (some ⟨w.heap.size + 1, 0, none⟩) WB.length cv, .slice (some ⟨w.heap.size + 1 + 1, 0, none⟩) 1 1, .slice a ctx.length c] 22)) wc.heap.size [⟨w.heap.size, some ⟨w.heap.size, 0, none⟩, 3, [(N : Int) / 256, (N : Int) % 256, 5 + (s.size : Int)]⟩, ⟨w.heap.size + 1, some ⟨w.heap.size + 1, 0, none⟩, cv, WB⟩, ⟨w.heap.size + 1 + 1, some ⟨w.heap.size + 1 + 1, 0, none⟩, 1, [(ctx.length : Int)]⟩, ⟨g, a, c, ctx⟩] := LS
  rw [z2] at LS'
  generalize wc.alloc (.cells #[.slice (some ⟨w.heap.size, 0, none⟩) 3 3, .slice (some ⟨w.heap.size + 1, 0, none⟩) WB.length cv, .slice (some ⟨w.heap.size + 1 + 1, 0, none⟩) 1 1, .slice a ctx.length c] 22) = wd at *
  have N3 := nxt (nxt N1 n2) n3
  have CC := concat_any wd (w.heap.size + 1 + 1 + 1) 4 4 _ rfl (by omega) LS' (by
    intro x hx
    simp only [List.mem_cons, List.not_mem_nil, or_false] at hx
    rcases hx with rfl | rfl | rfl | rfl
    · exact ⟨(((B0.up n1).up n2).up n3).own0.rd, by simp⟩
    · exact ⟨(rb.up n2).up n3, by simp⟩
    · exact ⟨(B2.up n3).own0.rd, by simp⟩
    · exact ⟨(U2 _ _ _ hr).up n3, hc⟩) (by rw [cat4]; simp) (by rw [cat4]; simp only [List.length_append, List.length_cons, List.length_nil]; have := sl.out; have := sz.out; omega)
  rw [cat4] at CC
  have CH : Hid (Calls Tryz.prog 108 #[.slice (some ⟨w.heap.size + 1 + 1 + 1, 0, none⟩) 4 4] wd fun e w' => NewRow wd.heap.size w' e .u8 rs ∧ Below wd.heap.size wd w') := by
    show Calls _ _ _ _ _
    rw [EW.out]
    exact CC
  clear CC LS LS' B0 B2 rb U2 hcv'
  refine CH.out.mono ?_
  rintro r we ⟨⟨a4, c4, g4, rfl, o4, p4, q4, r4⟩, n4⟩
  have y3 := N3.size
  go_wp2
  go_ret
  exact ⟨⟨a4, c4, g4, rfl, o4, p4, q4, by omega⟩, nxt N3 n4⟩
end Go.Proofs.YtmfajpplagbfcaaGreatDoor
namespace Go.Proofs.YtmfajpplagbfcaaGreatDoor
set_option maxRecDepth 100000
open Go Go.RowKit
section
variable {P : Program} {ops : Array Oper} {Q : Exit → Act → World → Prop} {n l : Nat}
theorem op_in {o : Oper} {a : Act} {w : World} {K : Act → World → Prop} (hd : ∀ c, o.op ≠ .defer c) (h : o.wp P a w K Q) : o.wpIn (Fence.wide.inRound l) n P a w K Q := by
  refine ⟨fun _ _ => trivial, ?_⟩
  rw [Oper.semAt_plain (Fence.wide.inRound l) _ _ hd]
  unfold Oper.wp at h
  generalize (execOp a.eval o).run P w = r at *
  cases r with
  | ok x w' =>
    cases x with
    | value v => exact h
    | skip => exact h
    | defer d => exact h
    | enter f args => exact ⟨fun h' => by simp [Fence.wide] at h', CallsIn.inRound l (callsIn_wide.2 h)⟩
    | row row args =>
      refine ⟨fun h' => by simp [Fence.wide] at h', fun c cs _ => ?_⟩
      obtain ⟨v, w', r, s⟩ := h c cs
      exact ⟨v, w', r, stepsIn_wide.2 s⟩
    | _ => exact h.elim
  | halt x w' =>
    cases x with
    | panic v => exact h
    | _ => exact h.elim
end
end Go.Proofs.YtmfajpplagbfcaaGreatDoor
namespace Go.Proofs.YtmfajpplagbfcaaGreatDoor
set_option maxRecDepth 100000
open Go Go.RowKit Go.Shelf
attribute [local go_sem] Oper.semAt_some
abbrev PcN (N : Nat) := { k : Nat // 32 * k < N }
def pcL (N k : Nat) : Nat := min 32 (N - 32 * k)
def pcE (g N : Nat) (x : PcN N) : Array Value := #[.slice (some ⟨g, 32 * x.1, none⟩) (pcL N x.1) (pcL N x.1)]
def KpB (Bs Bn : Nat) (W W' : World) : Prop := W'.heap[Bs]? = W.heap[Bs]? ∧ W'.heap[Bn]? = W.heap[Bn]?
theorem KpB.t {Bs Bn : Nat} {A B C : World} (h : KpB Bs Bn A B) (k : KpB Bs Bn B C) : KpB Bs Bn A C := ⟨k.1.trans h.1, k.2.trans h.2⟩
theorem KpB.b {Bs Bn : Nat} {w : World} (h1 : Bs < w.heap.size) (h2 : Bn < w.heap.size) (W : World) (l : Nat) (o o' : Obj) (hl : w.heap.size ≤ l) (_ : W.heap[l]? = some o) (_ : o.isCells = false) (_ : o.isWalk = false) : KpB Bs Bn W (W.putObj l o') := by
  constructor
  · simp [World.putObj, show l ≠ Bs by omega]
  · simp [World.putObj, show l ≠ Bn by omega]
set_option maxRecDepth 100000 in
set_option maxHeartbeats 2000000 in
theorem chunk1_in (n : Nat) (hn : 1 ≤ n) (l Bs Bn g N : Nat) (hN : N ≤ 8160) (J Jx : List (PcN N) → World → Prop)
    (hY : ∀ pre x W, J pre W → pre.length < 255 → YieldAt Fence.wide (n - 1) Tryz.prog l (pcE g N x) W fun e W' =>
      (e = .returned (.bool true) ∧ J (pre ++ [x]) W' ∧ KpB Bs Bn W W') ∨ (e = .returned (.bool false) ∧ Jx (pre ++ [x]) W'))
    (W : World) (hBs : W.cell? ⟨Bs, 0, none⟩ = some (.slice (some ⟨g, 0, none⟩) N N)) (hBn : W.cell? ⟨Bn, 0, none⟩ = some (.int .i64 32)) (h0 : J [] W) (hA : AbidesFrom W.heap.size J) :
    CallsIn Fence.wide n Tryz.prog 109 #[.func (.yield l) #[] #[], .pointer (some ⟨Bs, 0, none⟩), .pointer (some ⟨Bn, 0, none⟩)] W fun e W' => (∃ v, e = .returned v) ∧
      ((∃ ys, (ys.map (·.1) = List.range ((N + 31) / 32)) ∧ J ys W') ∨ (∃ pre, True ∧ Jx pre W')) := by
  refine callsIn_of_wp Tryz.func109 rfl trivial ?_ rfl
  simp only [Tryz.ntmps109, List.size_toArray, List.length_cons, List.length_nil, Nat.reduceAdd, Nat.reduceSub, Array.replicate_succ, Array.replicate_zero, List.push_toArray, List.append_toArray, List.nil_append, List.cons_append]
  gi_wp2
  gi_loopw [4, 5] (fun i _ wr => ∃ (k : Nat) (pre : List (PcN N)), pre.map (·.1) = List.range k ∧ i = .int .i64 ((32 * k : Nat) : Int) ∧ 32 * k < N + 32 ∧ J pre wr ∧ KpB Bs Bn W wr) (fun i _ _ => N + 32 - (intOf i).toNat)
  case atStart => exact ⟨0, [], rfl, rfl, by omega, h0, ⟨rfl, rfl⟩⟩
  case round =>
    obtain ⟨k, pre, hp, rfl, hk, hJ, hK⟩ := hrel
    have b1 := (World.cell?_of_block (a := ⟨Bs, 0, none⟩) hK.1).trans hBs
    have b2 := (World.cell?_of_block (a := ⟨Bn, 0, none⟩) hK.2).trans hBn
    have pl : pre.length = k := by have := congrArg List.length hp; simpa using this
    by_cases hlt : 32 * k < N
    · have ik : ((32 * k : Nat) : Int) < (N : Int) := by omega
      have em : (if ((N - 32 * k : Nat) : Int) < 32 then ((N - 32 * k : Nat) : Int) else 32) = ((pcL N k : Nat) : Int) := by unfold pcL; split <;> omega
      have e0 : 0 < pcL N k := by unfold pcL; omega
      have e1 : 32 * k + pcL N k ≤ N := by unfold pcL; omega
      have EM := hide em
      clear em
      gi_wp2
      refine wpIn_wide.2 ?_
      go_quiet (fail)
      rw [EM.out]
      clear EM
      have g1 : wr.grownBy (wr.drewN nq) none := ⟨rfl, rfl, rfl, Nat.le_refl _, fun _ _ _ => rfl⟩
      have hJ1 := hA pre wr _ none hJ g1 (by simp)
      have hK1 : KpB Bs Bn W (wr.drewN nq) := hK
      have c1 : (wr.drewN nq).cell? ⟨Bs, 0, none⟩ = some (.slice (some ⟨g, 0, none⟩) N N) := b1
      have c2 : (wr.drewN nq).cell? ⟨Bn, 0, none⟩ = some (.int .i64 32) := b2
      obtain ⟨fn, tmps, assign, body, hy, hR⟩ := hY pre ⟨k, hlt⟩ (wr.drewN nq) hJ1 (by omega)
      unfold pcE at hy
      dsimp only at hy
      generalize wr.drewN nq = w1 at *
      clear g1 hJ hK b1 b2 hJ1
      generalize pcL N k = e at *
      have ee : 32 * k + e - 32 * k = e := by omega
      have e2 : ¬ (32 * k + e = 32 * k) := by omega
      gi_wp2
      refine hR.mono ?_
      rintro x W3 (⟨rfl, hJ3, hk3⟩ | ⟨rfl, hJx3⟩)
      · have K3 := hK1.t hk3
        have b1 := (World.cell?_of_block (a := ⟨Bs, 0, none⟩) K3.1).trans hBs
        have b2 := (World.cell?_of_block (a := ⟨Bn, 0, none⟩) K3.2).trans hBn
        gi_wp2
        go_roundw
        case rel => exact ⟨k + 1, pre ++ [⟨k, hlt⟩], by rw [List.map_append, hp, List.range_succ]; rfl, by go_num, by omega, hJ3, K3⟩
        case measure => simp [intOf]; omega
      · gi_wp2
        refine bodyPost_ret (results_none rfl _ _ _) rfl ?_
        exact ⟨⟨_, rfl⟩, .inr ⟨_, trivial, hJx3⟩⟩
    · have ik : ¬ ((32 * k : Nat) : Int) < (N : Int) := by omega
      have kk : k = (N + 31) / 32 := by omega
      have KK := hide kk
      clear kk
      gi_wp2
      go_end0
      exact ⟨⟨_, rfl⟩, .inl ⟨pre, hp.trans (by rw [KK.out]), hJ⟩⟩
theorem chunk_any (w : World) (g N : Nat) :
    Calls Tryz.prog 107 #[.slice (some ⟨g, 0, none⟩) N N, .int .i64 32] w fun e w' => e = .returned (.func (.func 109) #[] #[.pointer (some ⟨w.heap.size, 0, none⟩), .pointer (some ⟨w.heap.size + 1, 0, none⟩)]) ∧ w' = (w.alloc (.cells #[.slice (some ⟨g, 0, none⟩) N N] 22)).alloc (.cells #[.int .i64 32] 3) := by
  go_enter Tryz.func107, Tryz.ntmps107
  go_wp2
  go_ret
  exact ⟨by simp, rfl⟩
theorem chunk_stops (n : Nat) (hn : 1 ≤ n) (Bs Bn g N : Nat) (hN : N ≤ 8160) (w : World) (h1 : Bs < w.heap.size) (h2 : Bn < w.heap.size) (hBs : w.cell? ⟨Bs, 0, none⟩ = some (.slice (some ⟨g, 0, none⟩) N N)) (hBn : w.cell? ⟨Bn, 0, none⟩ = some (.int .i64 32)) :
    SeqStopsK Fence.wide n Tryz.prog 109 #[.pointer (some ⟨Bs, 0, none⟩), .pointer (some ⟨Bn, 0, none⟩)] (pcE g N) (KpB Bs Bn) (fun ys => ys.map (·.1) = List.range ((N + 31) / 32)) (fun _ => True) 255 w := fun l J Jx W hW hJ _ hY h0 =>
  chunk1_in n hn l Bs Bn g N hN J Jx hY W ((hW.cell (p := ⟨Bs, 0, none⟩) h1).trans hBs) ((hW.cell (p := ⟨Bn, 0, none⟩) h2).trans hBn) h0 hJ
end Go.Proofs.YtmfajpplagbfcaaGreatDoor
namespace Go.Proofs.YtmfajpplagbfcaaGreatDoor
set_option maxRecDepth 100000
open Go Go.RowKit
def keyL (ks : List Int) : List Int := if 64 < ks.length then hashL32 ks else ks
def macL (ks xs : List Int) : List Int := hashL32 (maskL (keyL ks) 92 ++ hashL32 (maskL (keyL ks) 54 ++ xs))
theorem range_app {w : World} {q o n : Nat} {v1 v2 : List Value} (h : w.rangeAt q o (v1 ++ v2)) (h1 : v1.length = n) : w.rangeAt q o v1 ∧ w.rangeAt q (o + n) v2 := by
  refine ⟨fun j v hj => h j v ?_, fun j v hj => ?_⟩
  · rw [List.getElem?_append_left (List.getElem?_eq_some_iff.1 hj).1]
    exact hj
  · have := h (n + j) v (by rw [List.getElem?_append_right (by omega), h1, Nat.add_sub_cancel_left]; exact hj)
    rwa [← Nat.add_assoc] at this
theorem there_part {w : World} {q o n p m : Nat} (h : w.there q o n) (hp : p + m ≤ n) : w.there q (o + p) m := fun j hj => by
  have := h (p + j) (by omega)
  rwa [← Nat.add_assoc] at this
set_option maxRecDepth 20000 in
set_option maxHeartbeats 8000000 in
theorem ofD (w : World) (v1 v2 : List Value) (is os : List Int) (V1 : HV v1 is) (V2 : HV v2 os) (b n c : Nat) (ls : List Lst) (hn : ls.length = n) (hm : n ≤ 1000) (hs : Lsts w b ls) (hb : b < w.heap.size) (hl : ∀ l ∈ ls, Rd w l.g l.a .u8 l.xs ∧ Byt l.xs ∧ l.xs.length ≤ l.c)
    (hL : is.length + (cat ls).length ≤ 1099511627776) (ho : os.length ≤ 1000000) (hT : HasT w 1 kL) :
    Calls Tryz.prog 95 #[.agg (v1 ++ v2).toArray, .slice (some ⟨b, 0, none⟩) n c] w fun e w' => NewRow w.heap.size w' e .u8 (hashL32 (os ++ hashL32 (is ++ cat ls))) ∧ Below w.heap.size w w' := by
  have gl : 1 < w.heap.size := block_lt_of_cell (hT 0 (by decide))
  obtain ⟨d, hd, hrow⟩ := rowH_32
  have l1 := V1.len
  have l2 := V2.len
  have R0 := range_alloc w (v1 ++ v2) 137
  have T0 := there_alloc w (v1 ++ v2) 137
  have n0 : Below w.heap.size w (w.alloc (.cells (v1 ++ v2).toArray 137)) := (Below.refl _ _).alloc (Nat.le_refl _) _
  have z0 : (w.alloc (.cells (v1 ++ v2).toArray 137)).heap.size = w.heap.size + 1 := by simp
  rw [List.length_append, l1, l2] at T0
  obtain ⟨ra, rb⟩ := range_app R0 l1
  have HA := V1.at ra (there_part (p := 0) (m := 137) T0 (by omega))
  have HBB := V2.at rb (there_part (p := 137) (m := 137) T0 (by omega))
  rw [Nat.zero_add] at HBB
  generalize v1 ++ v2 = vs at *
  clear R0 T0 ra rb V1 V2 l1 l2
  obtain ⟨rs, hrs⟩ : ∃ l, l = hashL32 (os ++ hashL32 (is ++ cat ls)) := ⟨_, rfl⟩
  rw [← hrs]
  have HR := hide hrs
  have HN := hide hn
  clear hrs hn
  go_enter Tryz.func95, Tryz.ntmps95
  go_upto_region 1 with fail
  generalize w.alloc (.cells vs.toArray 137) = wa at *
  have TA := hide (takeAllD wa w.heap.size 0 is HA b n c ls HN.out hm (hs.up n0) (fun l h => ⟨(hl l h).1.up n0, (hl l h).2.1, (hl l h).2.2, fun h0 => by have := (hl l h).1.lt h0; omega⟩) (by omega) (by omega) (hT.up n0) (by omega))
  go_wp2_with fail
  refine TA.out.mono ?_
  rintro r w1 ⟨rfl, H1, B1⟩
  have G1 := HBB.bx B1 (.inr (by omega))
  have N1 : Below w.heap.size w w1 := n0.trans (B1.bt.below (Nat.le_refl _) n0.size)
  have y1 : w.heap.size + 1 ≤ w1.heap.size := by have := H1.lt; omega
  obtain ⟨v3, V3, RG, -⟩ := H1.val
  have L3 := hide V3.len
  have EN := hide (endV w1 v3 _ V3 (by rw [List.length_append]; exact hL) (hT.up N1))
  clear TA HA HBB B1 V3 H1 z0 n0
  go_wp2_with (refine wpList_load_mid rfl 76 (.tmp 9) rfl w.heap.size 0 rfl v3 d RG hd hrow (by rw [L3.out]; exact infoH_32) ?_)
  refine EN.out.mono ?_
  rintro r w2 ⟨⟨a2, c2, g2, rfl, o2, p2, q2, r2⟩, n2⟩
  have N2 := nxt N1 n2
  have G2 := G1.up n2
  have hb2 := hash_byt32 (is ++ cat ls)
  have hl2 := hide (hash_len32 (is ++ cat ls))
  generalize hashL32 (is ++ cat ls) = h2 at *
  have TK := hide (takeD w2 w.heap.size 137 os G2 g2 a2 c2 h2 o2.rd hb2 q2 (fun _ => by omega) (by rw [hl2.out]; omega) (hT.up N2) (by omega))
  clear EN G1 G2 RG L3 n2 N1 o2
  go_wp2_with fail
  refine TK.out.mono ?_
  rintro r w3 ⟨rfl, H3, B3⟩
  have N3 : Below w.heap.size w w3 := N2.trans (B3.bt.below (Nat.le_refl _) N2.size)
  obtain ⟨v4, V4, RG, -⟩ := H3.val
  have L4 := hide V4.len
  have EN := endV w3 v4 _ V4 (by rw [List.length_append, hl2.out]; omega) (hT.up N3)
  rw [← HR.out] at EN
  have ENH := hide EN
  clear TK H3 B3 N2 V4 EN
  have y3 := N3.size
  go_wp2_with (refine wpList_load_mid rfl 76 (.tmp 13) rfl w.heap.size 137 rfl v4 d RG hd hrow (by rw [L4.out]; exact infoH_32) ?_)
  refine ENH.out.mono ?_
  rintro r w4 ⟨⟨a4, c4, g4, rfl, o4, p4, q4, r4⟩, n4⟩
  go_wp2
  go_ret
  exact ⟨⟨a4, c4, g4, rfl, o4, p4, q4, by omega⟩, nxt N3 n4⟩
theorem wpList_build_run {P : Program} (w : World) {ops : Array Oper} {rest : List Oper} {o : Oper} {a : Act} {Q : Exit → Act → World → Prop} (hgd : o.guard = none) (t : TypeId) (p q : Nat) (ho : o.op = .build t #[(0, .tmp p), (1, .tmp q)])
    (x y v : Value) (hx : a.eval (.tmp p) = x) (hy : a.eval (.tmp q) = y) (hr : (Instr.build t #[(0, x), (1, y)]).run P w = .ok v w) (h : wpList P ops Q rest (a.put o.dst v) w) : wpList P ops Q (o :: rest) a w :=
  wpList_plain hgd fun _ hK => by
    have gg : (#[(0, Operand.tmp p), (1, Operand.tmp q)].map fun (n, x) => (n, a.eval x)) = #[(0, x), (1, y)] := by simp [hx, hy]
    unfold Oper.wp execOp
    simp only [ho, gg]
    rw [Sem.run_bind, hr]
    exact hK _ _ h
set_option maxRecDepth 20000 in
set_option maxHeartbeats 1500000 in
theorem newKeyed_any (w : World) (g : Nat) (a : Option Addr) (c : Nat) (ks : List Int) (hr : Rd w g a .u8 ks) (hk : Byt ks) (hc : ks.length ≤ c) (hn : ks.length ≤ 1099511627776) (hS : HasT w 0 stLh) (hT : HasT w 1 kL) :
    Calls Tryz.prog 94 #[.slice a ks.length c] w fun e w' => (∃ v1 v2, e = .returned (.agg (v1 ++ v2).toArray) ∧ HV v1 (maskL (keyL ks) 54) ∧ HV v2 (maskL (keyL ks) 92)) ∧ Below w.heap.size w w' := by
  obtain ⟨d, hd, hrow⟩ := rowK
  have TH0 := thereK w
  have n0 : Below w.heap.size w (w.alloc zK) := (Below.refl _ _).alloc (Nat.le_refl _) _
  have z0 : (w.alloc zK).heap.size = w.heap.size + 1 := by simp
  by_cases hlong : 64 < ks.length
  · have e1 : keyL ks = hashL32 ks := by unfold keyL; rw [if_pos hlong]
    rw [e1]
    clear e1
    have t1 : decide ((64 : Int) < (ks.length : Int)) = true := by simp; omega
    have HH := hide (fun V (n : Below w.heap.size w V) => implHash_32 V g a c ks (hr.up n) hk hc hn (hS.up n) (hT.up n))
    go_enter Tryz.func94, Tryz.ntmps94
    go_upto_region 1 with fail
    change Code.wp _ _ _ _ (w.alloc zK)
    generalize w.alloc zK = wa at *
    go_wp2_with fail
    refine (HH.out wa n0).mono ?_
    rintro r w1 ⟨⟨a1, c1, g1, rfl, o1, p1, q1, r1⟩, n1⟩
    have N1 := nxt n0 n1
    have TH1 := there_upn (by omega) TH0 n1
    have kb := hash_byt32 ks
    obtain ⟨kk, hkk⟩ : ∃ l, l = hashL32 ks := ⟨_, rfl⟩
    rw [← hkk] at o1 q1 kb ⊢
    have HKK := hide hkk
    clear hkk
    have y0 := n1.size
    rw [z0] at y0
    clear HH TH0 n1
    have y1 : w.heap.size + 1 ≤ w1.heap.size := by exact y0
    go_wp2_with fail
    have MK := maskedKey_any w1 g1 a1 c1 kk o1.rd 54 kb (.inl rfl)
    obtain ⟨m1, hm1⟩ : ∃ l, l = maskL kk 54 := ⟨_, rfl⟩
    have ml : Hid (m1.length = 64) := by rw [hm1]; exact maskL_len _ _
    have mb : Byt m1 := by rw [hm1]; exact maskL_byt kb (.inl rfl)
    rw [← hm1] at MK
    have HMm1 := hide hm1
    clear hm1
    refine MK.mono ?_
    clear MK
    rintro r w2 ⟨⟨a2, c2, g2, rfl, o2, p2, q2, r2⟩, n2⟩
    have N2 := nxt N1 n2
    have LS := lsts_one w2 22 ⟨g2, a2, c2, m1⟩
    have n3 : Below w2.heap.size w2 (w2.alloc (.cells #[.slice a2 m1.length c2] 22)) := (Below.refl _ _).alloc (Nat.le_refl _) _
    go_wp2_with fail
    have N3 := nxt N2 n3
    change Calls _ _ _ (w2.alloc (.cells #[.slice a2 m1.length c2] 22)) _
    have LS' : Lsts (w2.alloc (.cells #[.slice a2 m1.length c2] 22)) w2.heap.size [⟨g2, a2, c2, m1⟩] := LS
    have BH := hide (behindD (w2.alloc (.cells #[.slice a2 m1.length c2] 22)) w2.heap.size ⟨g2, a2, c2, m1⟩ LS' ⟨o2.rd.up n3, mb, q2⟩ (by show m1.length ≤ _; rw [ml.out]; omega) (hS.up N3) (hT.up N3))
    have TH3 := there_upn (by omega) TH1 (nxt n2 n3)
    have o3 := o1.rd.up (nxt n2 n3)
    clear LS LS' n3 n2 N2 TH1
    generalize w2.alloc (.cells #[.slice a2 m1.length c2] 22) = w3 at *
    refine BH.out.mono ?_
    rintro r w4 ⟨⟨v1, rfl, V1⟩, n4⟩
    have N4 := nxt N3 n4
    have TH4 := there_upn (by omega) TH3 n4
    clear BH TH3
    go_wp2_with fail
    have MK := maskedKey_any w4 g1 a1 c1 kk (o3.up n4) 92 kb (.inr rfl)
    obtain ⟨m2, hm2⟩ : ∃ l, l = maskL kk 92 := ⟨_, rfl⟩
    have ml5 : Hid (m2.length = 64) := by rw [hm2]; exact maskL_len _ _
    have mb5 : Byt m2 := by rw [hm2]; exact maskL_byt kb (.inr rfl)
    rw [← hm2] at MK
    have HMm2 := hide hm2
    clear hm2
    refine MK.mono ?_
    clear MK
    rintro r w5 ⟨⟨a5, c5, g5, rfl, o5, p5, q5, r5⟩, n5⟩
    have N5 := nxt N4 n5
    have LS := lsts_one w5 22 ⟨g5, a5, c5, m2⟩
    have n6 : Below w5.heap.size w5 (w5.alloc (.cells #[.slice a5 m2.length c5] 22)) := (Below.refl _ _).alloc (Nat.le_refl _) _
    go_wp2_with fail
    have N6 := nxt N5 n6
    change Calls _ _ _ (w5.alloc (.cells #[.slice a5 m2.length c5] 22)) _
    have LS' : Lsts (w5.alloc (.cells #[.slice a5 m2.length c5] 22)) w5.heap.size [⟨g5, a5, c5, m2⟩] := LS
    have BH := hide (behindD (w5.alloc (.cells #[.slice a5 m2.length c5] 22)) w5.heap.size ⟨g5, a5, c5, m2⟩ LS' ⟨o5.rd.up n6, mb5, q5⟩ (by show m2.length ≤ _; rw [ml5.out]; omega) (hS.up N6) (hT.up N6))
    have TH6 := there_upn (by omega) TH4 (nxt n5 n6)
    clear LS LS' n6 n5 N5 TH4 o3
    generalize w5.alloc (.cells #[.slice a5 m2.length c5] 22) = w6 at *
    refine BH.out.mono ?_
    rintro r w7 ⟨⟨v2, rfl, V2⟩, n7⟩
    have N7 := nxt N6 n7
    have TH7 := there_upn (by omega) TH6 n7
    have BU := hide (builtK v1 v2 V1.len V2.len)
    have L7 : Hid ((v1 ++ v2).length = 274) := by show _ = _; rw [List.length_append, V1.len, V2.len]
    have O7 : (v1 ++ v2).toArray.all (·.oneCell') = true := all_oneCell_toArray (fun v hv => by
      rcases List.mem_append.1 hv with h | h
      · exact V1.one v h
      · exact V2.one v h)
    have RR := World.rangeAt_setCells_same w7 w.heap.size 0 (v1 ++ v2) (by rw [L7.out]; exact TH7)
    have N8 : Below w.heap.size w (w7.setCells w.heap.size 0 (v1 ++ v2)) := N7.trans ((only_setCells w7 w.heap.size (v1 ++ v2) 0).below (Nat.le_refl _))
    have VV := hide (And.intro V1 V2)
    clear BH TH6 V1 V2 N6 N4 N3 o2 o5
    have RB : ∀ W, (Instr.build 137 #[(0, .agg v1.toArray), (1, .agg v2.toArray)]).run Tryz.prog W = .ok (.agg (v1 ++ v2).toArray) W := fun W => run_build W _ _ _ BU.out
    generalize hvs : v1 ++ v2 = vs at *
    go_wp2_with (first
      | (refine wpList_build_run w7 rfl 137 11 15 rfl (.agg v1.toArray) (.agg v2.toArray) (.agg vs.toArray) rfl rfl (RB w7) ?_)
      | (refine wpList_store_mid rfl 137 (.tmp 2) (.tmp 16) rfl w.heap.size 0 vs.toArray rfl rfl ?hth ?hin ?hon ?_))
    case hth => show w7.there w.heap.size 0 vs.length; rw [L7.out]; exact TH7
    case hin => show _ = some vs.length; rw [L7.out]; exact infoK
    case hon => exact O7
    exact bodyPost_ret (v := .agg vs.toArray) (results_cell_m Tryz.results94 _ _ w.heap.size vs d rfl RR hd hrow (by rw [L7.out]; exact infoK)) rfl ⟨⟨v1, v2, by rw [hvs], by rw [← HKK.out, ← HMm1.out]; exact VV.out.1, by rw [← HKK.out, ← HMm2.out]; exact VV.out.2⟩, N8⟩
  · have e1 : keyL ks = ks := by unfold keyL; rw [if_neg hlong]
    rw [e1]
    clear e1
    have t1 : decide ((64 : Int) < (ks.length : Int)) = false := by simp; omega
    go_enter Tryz.func94, Tryz.ntmps94
    go_upto_region 1 with fail
    change Code.wp _ _ _ _ (w.alloc zK)
    generalize w.alloc zK = w1 at *
    have o1 := hr.up n0
    have N1 := n0
    have TH1 := TH0
    have y1 : w.heap.size + 1 ≤ w1.heap.size := by omega
    go_wp2_with fail
    have MK := maskedKey_any w1 g a c ks o1 54 hk (.inl rfl)
    obtain ⟨m1, hm1⟩ : ∃ l, l = maskL ks 54 := ⟨_, rfl⟩
    have ml : Hid (m1.length = 64) := by rw [hm1]; exact maskL_len _ _
    have mb : Byt m1 := by rw [hm1]; exact maskL_byt hk (.inl rfl)
    rw [← hm1] at MK
    have HMm1 := hide hm1
    clear hm1
    refine MK.mono ?_
    clear MK
    rintro r w2 ⟨⟨a2, c2, g2, rfl, o2, p2, q2, r2⟩, n2⟩
    have N2 := nxt N1 n2
    have LS := lsts_one w2 22 ⟨g2, a2, c2, m1⟩
    have n3 : Below w2.heap.size w2 (w2.alloc (.cells #[.slice a2 m1.length c2] 22)) := (Below.refl _ _).alloc (Nat.le_refl _) _
    go_wp2_with fail
    have N3 := nxt N2 n3
    change Calls _ _ _ (w2.alloc (.cells #[.slice a2 m1.length c2] 22)) _
    have LS' : Lsts (w2.alloc (.cells #[.slice a2 m1.length c2] 22)) w2.heap.size [⟨g2, a2, c2, m1⟩] := LS
    have BH := hide (behindD (w2.alloc (.cells #[.slice a2 m1.length c2] 22)) w2.heap.size ⟨g2, a2, c2, m1⟩ LS' ⟨o2.rd.up n3, mb, q2⟩ (by show m1.length ≤ _; rw [ml.out]; omega) (hS.up N3) (hT.up N3))
    have TH3 := there_upn (by omega) TH1 (nxt n2 n3)
    have o3 := o1.up (nxt n2 n3)
    clear LS LS' n3 n2 N2 TH1
    generalize w2.alloc (.cells #[.slice a2 m1.length c2] 22) = w3 at *
    refine BH.out.mono ?_
    rintro r w4 ⟨⟨v1, rfl, V1⟩, n4⟩
    have N4 := nxt N3 n4
    have TH4 := there_upn (by omega) TH3 n4
    clear BH TH3
    go_wp2_with fail
    have MK := maskedKey_any w4 g a c ks (o3.up n4) 92 hk (.inr rfl)
    obtain ⟨m2, hm2⟩ : ∃ l, l = maskL ks 92 := ⟨_, rfl⟩
    have ml5 : Hid (m2.length = 64) := by rw [hm2]; exact maskL_len _ _
    have mb5 : Byt m2 := by rw [hm2]; exact maskL_byt hk (.inr rfl)
    rw [← hm2] at MK
    have HMm2 := hide hm2
    clear hm2
    refine MK.mono ?_
    clear MK
    rintro r w5 ⟨⟨a5, c5, g5, rfl, o5, p5, q5, r5⟩, n5⟩
    have N5 := nxt N4 n5
    have LS := lsts_one w5 22 ⟨g5, a5, c5, m2⟩
    have n6 : Below w5.heap.size w5 (w5.alloc (.cells #[.slice a5 m2.length c5] 22)) := (Below.refl _ _).alloc (Nat.le_refl _) _
    go_wp2_with fail
    have N6 := nxt N5 n6
    change Calls _ _ _ (w5.alloc (.cells #[.slice a5 m2.length c5] 22)) _
    have LS' : Lsts (w5.alloc (.cells #[.slice a5 m2.length c5] 22)) w5.heap.size [⟨g5, a5, c5, m2⟩] := LS
    have BH := hide (behindD (w5.alloc (.cells #[.slice a5 m2.length c5] 22)) w5.heap.size ⟨g5, a5, c5, m2⟩ LS' ⟨o5.rd.up n6, mb5, q5⟩ (by show m2.length ≤ _; rw [ml5.out]; omega) (hS.up N6) (hT.up N6))
    have TH6 := there_upn (by omega) TH4 (nxt n5 n6)
    clear LS LS' n6 n5 N5 TH4 o3
    generalize w5.alloc (.cells #[.slice a5 m2.length c5] 22) = w6 at *
    refine BH.out.mono ?_
    rintro r w7 ⟨⟨v2, rfl, V2⟩, n7⟩
    have N7 := nxt N6 n7
    have TH7 := there_upn (by omega) TH6 n7
    have BU := hide (builtK v1 v2 V1.len V2.len)
    have L7 : Hid ((v1 ++ v2).length = 274) := by show _ = _; rw [List.length_append, V1.len, V2.len]
    have O7 : (v1 ++ v2).toArray.all (·.oneCell') = true := all_oneCell_toArray (fun v hv => by
      rcases List.mem_append.1 hv with h | h
      · exact V1.one v h
      · exact V2.one v h)
    have RR := World.rangeAt_setCells_same w7 w.heap.size 0 (v1 ++ v2) (by rw [L7.out]; exact TH7)
    have N8 : Below w.heap.size w (w7.setCells w.heap.size 0 (v1 ++ v2)) := N7.trans ((only_setCells w7 w.heap.size (v1 ++ v2) 0).below (Nat.le_refl _))
    have VV := hide (And.intro V1 V2)
    clear BH TH6 V1 V2 N6 N4 N3 o2 o5
    have RB : ∀ W, (Instr.build 137 #[(0, .agg v1.toArray), (1, .agg v2.toArray)]).run Tryz.prog W = .ok (.agg (v1 ++ v2).toArray) W := fun W => run_build W _ _ _ BU.out
    generalize hvs : v1 ++ v2 = vs at *
    go_wp2_with (first
      | (refine wpList_build_run w7 rfl 137 11 15 rfl (.agg v1.toArray) (.agg v2.toArray) (.agg vs.toArray) rfl rfl (RB w7) ?_)
      | (refine wpList_store_mid rfl 137 (.tmp 2) (.tmp 16) rfl w.heap.size 0 vs.toArray rfl rfl ?hth ?hin ?hon ?_))
    case hth => show w7.there w.heap.size 0 vs.length; rw [L7.out]; exact TH7
    case hin => show _ = some vs.length; rw [L7.out]; exact infoK
    case hon => exact O7
    exact bodyPost_ret (v := .agg vs.toArray) (results_cell_m Tryz.results94 _ _ w.heap.size vs d rfl RR hd hrow (by rw [L7.out]; exact infoK)) rfl ⟨⟨v1, v2, by rw [hvs], by rw [← HMm1.out]; exact VV.out.1, by rw [← HMm2.out]; exact VV.out.2⟩, N8⟩
end Go.Proofs.YtmfajpplagbfcaaGreatDoor
namespace Go.Proofs.YtmfajpplagbfcaaGreatDoor
set_option maxRecDepth 100000
open Go Go.RowKit
set_option maxHeartbeats 2000000 in
theorem implMac_any (w : World) (g : Nat) (a : Option Addr) (c : Nat) (ks : List Int) (hr : Rd w g a .u8 ks) (hk : Byt ks) (hc : ks.length ≤ c) (hn : ks.length ≤ 1048576) (gd : Nat) (ad : Option Addr) (cd : Nat) (xs : List Int) (hd : Rd w gd ad .u8 xs) (hx : Byt xs) (hcd : xs.length ≤ cd) (hnd : xs.length ≤ 549755813888)
    (hS : HasT w 0 stLh) (hT : HasT w 1 kL) :
    Calls Tryz.prog 82 #[.slice a ks.length c, .slice ad xs.length cd] w fun e w' => NewRow w.heap.size w' e .u8 (macL ks xs) ∧ Below w.heap.size w w' := by
  have NK := hide (newKeyed_any w g a c ks hr hk hc (by omega) hS hT)
  obtain ⟨rs, hrs⟩ : ∃ l, l = macL ks xs := ⟨_, rfl⟩
  have HR := hide hrs
  rw [← hrs]
  clear hrs
  go_enter Tryz.func82, Tryz.ntmps82
  go_wp2_with fail
  refine NK.out.mono ?_
  rintro r w1 ⟨⟨v1, v2, rfl, V1, V2⟩, n1⟩
  have LS := lsts_one w1 22 ⟨gd, ad, cd, xs⟩
  have n2 : Below w1.heap.size w1 (w1.alloc (.cells #[.slice ad xs.length cd] 22)) := (Below.refl _ _).alloc (Nat.le_refl _) _
  have N2 := nxt n1 n2
  have z2 : w1.heap.size < (w1.alloc (.cells #[.slice ad xs.length cd] 22)).heap.size := by simp
  have LS' : Lsts (w1.alloc (.cells #[.slice ad xs.length cd] 22)) w1.heap.size [⟨gd, ad, cd, xs⟩] := LS
  have OF := ofD (w1.alloc (.cells #[.slice ad xs.length cd] 22)) v1 v2 _ _ V1 V2 w1.heap.size 1 1 [⟨gd, ad, cd, xs⟩] rfl (by omega) LS' z2 (fun l h => by
    rw [List.mem_singleton] at h
    subst h
    exact ⟨hd.up N2, hx, hcd⟩) (by rw [maskL_len, cat_one]; show 64 + xs.length ≤ _; omega) (by rw [maskL_len]; omega) (hT.up N2)
  rw [cat_one] at OF
  have e : hashL32 (maskL (keyL ks) 92 ++ hashL32 (maskL (keyL ks) 54 ++ xs)) = rs := HR.out.symm
  have OF2 : Hid (Calls Tryz.prog 95 #[.agg (v1 ++ v2).toArray, .slice (some ⟨w1.heap.size, 0, none⟩) 1 1] (w1.alloc (.cells #[.slice ad xs.length cd] 22)) fun e w' => NewRow (w1.alloc (.cells #[.slice ad xs.length cd] 22)).heap.size w' e .u8 rs ∧ Below (w1.alloc (.cells #[.slice ad xs.length cd] 22)).heap.size (w1.alloc (.cells #[.slice ad xs.length cd] 22)) w') := by
    show Calls _ _ _ _ _
    rw [← e]
    exact OF
  clear OF e LS LS' V1 V2 NK n2
  generalize v1 ++ v2 = vs at *
  go_wp2_with fail
  change Calls _ _ _ (w1.alloc (.cells #[.slice ad xs.length cd] 22)) _
  generalize w1.alloc (.cells #[.slice ad xs.length cd] 22) = w2 at *
  refine OF2.out.mono ?_
  rintro r w3 ⟨⟨a3, c3, g3, rfl, o3, p3, q3, r3⟩, n3⟩
  have y2 := N2.size
  go_wp2
  go_ret
  exact ⟨⟨a3, c3, g3, rfl, o3, p3, q3, by omega⟩, nxt N2 n3⟩
end Go.Proofs.YtmfajpplagbfcaaGreatDoor
