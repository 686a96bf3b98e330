import Derived.Test.YtpbniihhpfbamaaDoorFW3
import Derived.Test.YtpbniihhpfbamaaDoorFW2
import Derived.Deep.DeepCutAuto
import Derived.Test.YtpbniihhpfbamaaDoorFW5

/-
  The laws' helpers on a Saved: counted, copied, held against each other (written by gens/svc.py).
-/
namespace Go.Proofs.YtpbniihhpfbamaaDoor
set_option maxRecDepth 100000
open Go Go.RowKit

set_option maxRecDepth 100000 in
set_option maxHeartbeats 1000000 in
theorem szSaved_any (w : World) (md li : Int) (ho pr : ByteArray) (ea : Int) (a : Option Addr) (n c : Nat) (a' : Option Addr) (n' c' : Nat) (a'' : Option Addr) (n'' c'' : Nat) (left : Int) (hn : n < 9223372036854775808) (hn' : n' < 9223372036854775808) (hn'' : n'' < 9223372036854775808) (hh : ho.size < 9223372036854775808) (hp : pr.size < 9223372036854775808) (hl : 0 ≤ left) (hm : left ≤ 1048576) :
    Calls Tryd.prog 10 #[.agg #[.slice a n c, .slice a' n' c', .slice a'' n'' c'', .int .i64 md, .int .i64 li, .string ho, .string pr, .int .i64 ea], .int .i64 left] w fun e w' => e = .returned (.int .i64 (if left < (n : Int) + (n' : Int) + (n'' : Int) + (ho.size : Int) + (pr.size : Int) then -1 else left - (n : Int) - (n' : Int) - (n'' : Int) - (ho.size : Int) - (pr.size : Int))) ∧ Below w.heap.size w w' := by
  have n1 : Below w.heap.size w (w.alloc (.cells #[.slice a n c, .slice a' n' c', .slice a'' n'' c'', .int .i64 md, .int .i64 li, .string ho, .string pr, .int .i64 ea] 25)) := (Below.refl _ _).alloc (Nat.le_refl _) _
  have S1 := fun W => szByteR W a n c left hn (by omega) (by omega)
  by_cases h0 : left < (n : Int)
  · rw [if_pos (by omega)]
    rw [if_pos h0] at S1
    go_enter Tryd.func10, Tryd.ntmps10
    go_wp2_with fail
    refine (S1 _).mono ?_
    rintro e w2 ⟨rfl, rfl⟩
    go_wp2
    go_ret
    exact ⟨rfl, n1⟩
  · have t0 : decide (left - (n : Int) < 0) = false := by simp; omega
    rw [if_neg h0] at S1
    have S2 := fun W => szByteR W a' n' c' (left - (n : Int)) hn' (by omega) (by omega)
    by_cases h1 : left - (n : Int) < (n' : Int)
    · rw [if_pos (by omega)]
      rw [if_pos h1] at S2
      go_enter Tryd.func10, Tryd.ntmps10
      go_wp2_with fail
      refine (S1 _).mono ?_
      rintro e w2 ⟨rfl, rfl⟩
      go_wp2_with fail
      refine (S2 _).mono ?_
      rintro e w2 ⟨rfl, rfl⟩
      go_wp2
      go_ret
      exact ⟨rfl, n1⟩
    · have t1 : decide (left - (n : Int) - (n' : Int) < 0) = false := by simp; omega
      rw [if_neg h1] at S2
      have S3 := fun W => szByteR W a'' n'' c'' (left - (n : Int) - (n' : Int)) hn'' (by omega) (by omega)
      by_cases h2 : left - (n : Int) - (n' : Int) < (n'' : Int)
      · rw [if_pos (by omega)]
        rw [if_pos h2] at S3
        go_enter Tryd.func10, Tryd.ntmps10
        go_wp2_with fail
        refine (S1 _).mono ?_
        rintro e w2 ⟨rfl, rfl⟩
        go_wp2_with fail
        refine (S2 _).mono ?_
        rintro e w2 ⟨rfl, rfl⟩
        go_wp2_with fail
        refine (S3 _).mono ?_
        rintro e w2 ⟨rfl, rfl⟩
        go_wp2
        go_ret
        exact ⟨rfl, n1⟩
      · have t2 : decide (left - (n : Int) - (n' : Int) - (n'' : Int) < 0) = false := by simp; omega
        rw [if_neg h2] at S3
        by_cases h3 : left - (n : Int) - (n' : Int) - (n'' : Int) < (ho.size : Int)
        · rw [if_pos (by omega)]
          have tb : decide (left - (n : Int) - (n' : Int) - (n'' : Int) - (ho.size : Int) < 0) = true := by simp; omega
          go_enter Tryd.func10, Tryd.ntmps10
          go_wp2_with fail
          refine (S1 _).mono ?_
          rintro e w2 ⟨rfl, rfl⟩
          go_wp2_with fail
          refine (S2 _).mono ?_
          rintro e w2 ⟨rfl, rfl⟩
          go_wp2_with fail
          refine (S3 _).mono ?_
          rintro e w2 ⟨rfl, rfl⟩
          go_wp2
          go_ret
          exact ⟨rfl, n1⟩
        · have t3 : decide (left - (n : Int) - (n' : Int) - (n'' : Int) - (ho.size : Int) < 0) = false := by simp; omega
          by_cases h4 : left - (n : Int) - (n' : Int) - (n'' : Int) - (ho.size : Int) < (pr.size : Int)
          · rw [if_pos (by omega)]
            have tb : decide (left - (n : Int) - (n' : Int) - (n'' : Int) - (ho.size : Int) - (pr.size : Int) < 0) = true := by simp; omega
            go_enter Tryd.func10, Tryd.ntmps10
            go_wp2_with fail
            refine (S1 _).mono ?_
            rintro e w2 ⟨rfl, rfl⟩
            go_wp2_with fail
            refine (S2 _).mono ?_
            rintro e w2 ⟨rfl, rfl⟩
            go_wp2_with fail
            refine (S3 _).mono ?_
            rintro e w2 ⟨rfl, rfl⟩
            go_wp2
            go_ret
            exact ⟨rfl, n1⟩
          · have t4 : decide (left - (n : Int) - (n' : Int) - (n'' : Int) - (ho.size : Int) - (pr.size : Int) < 0) = false := by simp; omega
            rw [if_neg (by omega)]
            go_enter Tryd.func10, Tryd.ntmps10
            go_wp2_with fail
            refine (S1 _).mono ?_
            rintro e w2 ⟨rfl, rfl⟩
            go_wp2_with fail
            refine (S2 _).mono ?_
            rintro e w2 ⟨rfl, rfl⟩
            go_wp2_with fail
            refine (S3 _).mono ?_
            rintro e w2 ⟨rfl, rfl⟩
            go_wp2
            go_ret
            exact ⟨rfl, n1⟩
set_option maxRecDepth 100000 in
theorem iSv : (Tryd.prog.info? 34).map (·.size) = some 8 := by kernel_rfl
set_option maxRecDepth 100000 in
theorem rowSv : ∃ d, Tryd.prog.underlying 34 = some d ∧ d.isRow = true := ⟨_, Tryd.underlying34, rfl⟩
theorem oneSv (md li : Int) (ho pr : ByteArray) (ea : Int) (a : Option Addr) (n c : Nat) (a' : Option Addr) (n' c' : Nat) (a'' : Option Addr) (n'' c'' : Nat) : ([.slice a n c, .slice a' n' c', .slice a'' n'' c'', .int .i64 md, .int .i64 li, .string ho, .string pr, .int .i64 ea] : List Value).toArray.all (·.oneCell') = true := all_oneCell_toArray fun v hv => by
  simp only [List.mem_cons, List.not_mem_nil, or_false] at hv
  rcases hv with rfl | rfl | rfl | rfl | rfl | rfl | rfl | rfl
  all_goals rfl
set_option maxRecDepth 100000 in
set_option maxHeartbeats 8000000 in
theorem toSaved_any (w : World) (md li : Int) (ho pr : ByteArray) (ea : Int) (g : Nat) (a : Option Addr) (c : Nat) (xs : List Int) (g' : Nat) (a' : Option Addr) (c' : Nat) (ys : List Int) (g'' : Nat) (a'' : Option Addr) (c'' : Nat) (zs : List Int) (hr : Rd w g a .u8 xs) (hr' : Rd w g' a' .u8 ys) (hr'' : Rd w g'' a'' .u8 zs) (hn : xs.length ≤ 1048576) (hn' : ys.length ≤ 1048576) (hn'' : zs.length ≤ 1048576) :
    Calls Tryd.prog 19 #[.agg #[.slice a xs.length c, .slice a' ys.length c', .slice a'' zs.length c'', .int .i64 md, .int .i64 li, .string ho, .string pr, .int .i64 ea]] w fun e w' => ∃ p p' p'', e = .returned (.agg #[.slice (some ⟨p, 0, none⟩) xs.length xs.length, .slice (some ⟨p', 0, none⟩) ys.length ys.length, .slice (some ⟨p'', 0, none⟩) zs.length zs.length, .int .i64 md, .int .i64 li, .string ho, .string pr, .int .i64 ea]) ∧ Blk w' p .u8 xs ∧ Blk w' p' .u8 ys ∧ Blk w' p'' .u8 zs ∧ w.heap.size ≤ p ∧ p < p' ∧ p' < p'' ∧ Below w.heap.size w w' := by
  have T0 := TMs.new w 25 34 [.slice a xs.length c, .slice a' ys.length c', .slice a'' zs.length c'', .int .i64 md, .int .i64 li, .string ho, .string pr, .int .i64 ea] [.slice none 0 0, .slice none 0 0, .slice none 0 0, .int .i64 0, .int .i64 0, .string ⟨#[]⟩, .string ⟨#[]⟩, .int .i64 0]
  obtain ⟨d1, hd1, hrow1⟩ := rowSv
  go_enter Tryd.func19, Tryd.ntmps19
  go_upto_region 2 with fail
  have T0 : TMs w (((w.alloc (.cells #[.slice a xs.length c, .slice a' ys.length c', .slice a'' zs.length c'', .int .i64 md, .int .i64 li, .string ho, .string pr, .int .i64 ea] 25)).alloc (.cells #[.slice none 0 0, .slice none 0 0, .slice none 0 0, .int .i64 0, .int .i64 0, .string ⟨#[]⟩, .string ⟨#[]⟩, .int .i64 0] 34)).alloc (.cells #[.slice none 0 0, .slice none 0 0, .slice none 0 0, .int .i64 0, .int .i64 0, .string ⟨#[]⟩, .string ⟨#[]⟩, .int .i64 0] 34)) 25 34 [.slice a xs.length c, .slice a' ys.length c', .slice a'' zs.length c'', .int .i64 md, .int .i64 li, .string ho, .string pr, .int .i64 ea] [.slice none 0 0, .slice none 0 0, .slice none 0 0, .int .i64 0, .int .i64 0, .string ⟨#[]⟩, .string ⟨#[]⟩, .int .i64 0] [.slice none 0 0, .slice none 0 0, .slice none 0 0, .int .i64 0, .int .i64 0, .string ⟨#[]⟩, .string ⟨#[]⟩, .int .i64 0] := T0
  generalize ((w.alloc (.cells #[.slice a xs.length c, .slice a' ys.length c', .slice a'' zs.length c'', .int .i64 md, .int .i64 li, .string ho, .string pr, .int .i64 ea] 25)).alloc (.cells #[.slice none 0 0, .slice none 0 0, .slice none 0 0, .int .i64 0, .int .i64 0, .string ⟨#[]⟩, .string ⟨#[]⟩, .int .i64 0] 34)).alloc (.cells #[.slice none 0 0, .slice none 0 0, .slice none 0 0, .int .i64 0, .int .i64 0, .string ⟨#[]⟩, .string ⟨#[]⟩, .int .i64 0] 34) = X0 at *
  have qS : X0.cell? ⟨w.heap.size, 0, none⟩ = some (.slice a xs.length c) := T0.S.cell 0
  have TB := hide (toByteS_any X0 g a c xs (hr.up T0.N) hn)
  go_wp2_with fail
  refine TB.out.mono ?_
  rintro e V0 ⟨rfl, B0, m⟩
  have lt0 := T0.T.lt
  have T2 := T0.up m
  have lv0 := B0.lt
  clear TB qS T0 m
  obtain ⟨G, hG⟩ : ∃ G, X0.heap.size = G := ⟨_, rfl⟩
  rw [hG] at B0 lt0 lv0 ⊢
  clear hG
  have qT : V0.cell? ⟨w.heap.size + 1 + 1, 0, none⟩ = some (.slice none 0 0) := T2.T.cell 0
  have qF := T2.T.free 0
  have T3 : TMs w (V0.setCell ⟨w.heap.size + 1 + 1, 0, none⟩ (.slice (some ⟨G, 0, none⟩) xs.length xs.length)) 25 34 [.slice a xs.length c, .slice a' ys.length c', .slice a'' zs.length c'', .int .i64 md, .int .i64 li, .string ho, .string pr, .int .i64 ea] [.slice none 0 0, .slice none 0 0, .slice none 0 0, .int .i64 0, .int .i64 0, .string ⟨#[]⟩, .string ⟨#[]⟩, .int .i64 0] [.slice (some ⟨G, 0, none⟩) xs.length xs.length, .slice none 0 0, .slice none 0 0, .int .i64 0, .int .i64 0, .string ⟨#[]⟩, .string ⟨#[]⟩, .int .i64 0] := T2.set 0 _
  have C0 : Blk (V0.setCell ⟨w.heap.size + 1 + 1, 0, none⟩ (.slice (some ⟨G, 0, none⟩) xs.length xs.length)) G .u8 xs := B0.of_block ((Only.setCell V0 (w.heap.size + 1 + 1) 0 _).block G (by omega))
  have sv0 : V0.heap.size ≤ (V0.setCell ⟨w.heap.size + 1 + 1, 0, none⟩ (.slice (some ⟨G, 0, none⟩) xs.length xs.length)).heap.size := Nat.le_of_eq (Only.setCell V0 (w.heap.size + 1 + 1) 0 _).size.symm
  go_upto_region 3 with fail
  clear T2 qT qF B0
  generalize V0.setCell ⟨w.heap.size + 1 + 1, 0, none⟩ (.slice (some ⟨G, 0, none⟩) xs.length xs.length) = X1 at *
  have T0 := T3
  have B0 := C0
  clear T3 C0
  have qS : X1.cell? ⟨w.heap.size, 1, none⟩ = some (.slice a' ys.length c') := T0.S.cell 1
  have TB := hide (toByteS_any X1 g' a' c' ys (hr'.up T0.N) hn')
  go_wp2_with fail
  refine TB.out.mono ?_
  rintro e V1 ⟨rfl, B1, m⟩
  have lt1 := T0.T.lt
  have T2 := T0.up m
  replace B0 := B0.up m
  have lv1 := B1.lt
  clear TB qS T0 m
  obtain ⟨G', hG'⟩ : ∃ G, X1.heap.size = G := ⟨_, rfl⟩
  rw [hG'] at B1 lt1 lv1 sv0 ⊢
  clear hG'
  have qT : V1.cell? ⟨w.heap.size + 1 + 1, 1, none⟩ = some (.slice none 0 0) := T2.T.cell 1
  have qF := T2.T.free 1
  have T3 : TMs w (V1.setCell ⟨w.heap.size + 1 + 1, 1, none⟩ (.slice (some ⟨G', 0, none⟩) ys.length ys.length)) 25 34 [.slice a xs.length c, .slice a' ys.length c', .slice a'' zs.length c'', .int .i64 md, .int .i64 li, .string ho, .string pr, .int .i64 ea] [.slice none 0 0, .slice none 0 0, .slice none 0 0, .int .i64 0, .int .i64 0, .string ⟨#[]⟩, .string ⟨#[]⟩, .int .i64 0] [.slice (some ⟨G, 0, none⟩) xs.length xs.length, .slice (some ⟨G', 0, none⟩) ys.length ys.length, .slice none 0 0, .int .i64 0, .int .i64 0, .string ⟨#[]⟩, .string ⟨#[]⟩, .int .i64 0] := T2.set 1 _
  have C0 : Blk (V1.setCell ⟨w.heap.size + 1 + 1, 1, none⟩ (.slice (some ⟨G', 0, none⟩) ys.length ys.length)) G .u8 xs := B0.of_block ((Only.setCell V1 (w.heap.size + 1 + 1) 1 _).block G (by omega))
  have C1 : Blk (V1.setCell ⟨w.heap.size + 1 + 1, 1, none⟩ (.slice (some ⟨G', 0, none⟩) ys.length ys.length)) G' .u8 ys := B1.of_block ((Only.setCell V1 (w.heap.size + 1 + 1) 1 _).block G' (by omega))
  have sv1 : V1.heap.size ≤ (V1.setCell ⟨w.heap.size + 1 + 1, 1, none⟩ (.slice (some ⟨G', 0, none⟩) ys.length ys.length)).heap.size := Nat.le_of_eq (Only.setCell V1 (w.heap.size + 1 + 1) 1 _).size.symm
  go_upto_region 4 with fail
  clear T2 qT qF B0 B1
  generalize V1.setCell ⟨w.heap.size + 1 + 1, 1, none⟩ (.slice (some ⟨G', 0, none⟩) ys.length ys.length) = X2 at *
  have T0 := T3
  have B0 := C0
  have B1 := C1
  clear T3 C0 C1
  have qS : X2.cell? ⟨w.heap.size, 2, none⟩ = some (.slice a'' zs.length c'') := T0.S.cell 2
  have TB := hide (toByteS_any X2 g'' a'' c'' zs (hr''.up T0.N) hn'')
  go_wp2_with fail
  refine TB.out.mono ?_
  rintro e V2 ⟨rfl, B2, m⟩
  have lt2 := T0.T.lt
  have T2 := T0.up m
  replace B0 := B0.up m
  replace B1 := B1.up m
  have lv2 := B2.lt
  clear TB qS T0 m
  obtain ⟨G'', hG''⟩ : ∃ G, X2.heap.size = G := ⟨_, rfl⟩
  rw [hG''] at B2 lt2 lv2 sv1 ⊢
  clear hG''
  have qT : V2.cell? ⟨w.heap.size + 1 + 1, 2, none⟩ = some (.slice none 0 0) := T2.T.cell 2
  have qF := T2.T.free 2
  have T3 : TMs w (V2.setCell ⟨w.heap.size + 1 + 1, 2, none⟩ (.slice (some ⟨G'', 0, none⟩) zs.length zs.length)) 25 34 [.slice a xs.length c, .slice a' ys.length c', .slice a'' zs.length c'', .int .i64 md, .int .i64 li, .string ho, .string pr, .int .i64 ea] [.slice none 0 0, .slice none 0 0, .slice none 0 0, .int .i64 0, .int .i64 0, .string ⟨#[]⟩, .string ⟨#[]⟩, .int .i64 0] [.slice (some ⟨G, 0, none⟩) xs.length xs.length, .slice (some ⟨G', 0, none⟩) ys.length ys.length, .slice (some ⟨G'', 0, none⟩) zs.length zs.length, .int .i64 0, .int .i64 0, .string ⟨#[]⟩, .string ⟨#[]⟩, .int .i64 0] := T2.set 2 _
  have C0 : Blk (V2.setCell ⟨w.heap.size + 1 + 1, 2, none⟩ (.slice (some ⟨G'', 0, none⟩) zs.length zs.length)) G .u8 xs := B0.of_block ((Only.setCell V2 (w.heap.size + 1 + 1) 2 _).block G (by omega))
  have C1 : Blk (V2.setCell ⟨w.heap.size + 1 + 1, 2, none⟩ (.slice (some ⟨G'', 0, none⟩) zs.length zs.length)) G' .u8 ys := B1.of_block ((Only.setCell V2 (w.heap.size + 1 + 1) 2 _).block G' (by omega))
  have C2 : Blk (V2.setCell ⟨w.heap.size + 1 + 1, 2, none⟩ (.slice (some ⟨G'', 0, none⟩) zs.length zs.length)) G'' .u8 zs := B2.of_block ((Only.setCell V2 (w.heap.size + 1 + 1) 2 _).block G'' (by omega))
  have sv2 : V2.heap.size ≤ (V2.setCell ⟨w.heap.size + 1 + 1, 2, none⟩ (.slice (some ⟨G'', 0, none⟩) zs.length zs.length)).heap.size := Nat.le_of_eq (Only.setCell V2 (w.heap.size + 1 + 1) 2 _).size.symm
  go_upto_region 5 with fail
  clear T2 qT qF B0 B1 B2
  generalize V2.setCell ⟨w.heap.size + 1 + 1, 2, none⟩ (.slice (some ⟨G'', 0, none⟩) zs.length zs.length) = X3 at *
  have T0 := T3
  have B0 := C0
  have B1 := C1
  have B2 := C2
  clear T3 C0 C1 C2
  have q0 : X3.cell? ⟨w.heap.size, 3, none⟩ = some (.int .i64 md) := T0.S.cell 3
  have q1 : X3.cell? ⟨w.heap.size + 1 + 1, 3, none⟩ = some (.int .i64 0) := T0.T.cell 3
  have q2 := T0.T.free 3
  have T6 : TMs w (X3.setCell ⟨w.heap.size + 1 + 1, 3, none⟩ (.int .i64 md)) 25 34 [.slice a xs.length c, .slice a' ys.length c', .slice a'' zs.length c'', .int .i64 md, .int .i64 li, .string ho, .string pr, .int .i64 ea] [.slice none 0 0, .slice none 0 0, .slice none 0 0, .int .i64 0, .int .i64 0, .string ⟨#[]⟩, .string ⟨#[]⟩, .int .i64 0] [.slice (some ⟨G, 0, none⟩) xs.length xs.length, .slice (some ⟨G', 0, none⟩) ys.length ys.length, .slice (some ⟨G'', 0, none⟩) zs.length zs.length, .int .i64 md, .int .i64 0, .string ⟨#[]⟩, .string ⟨#[]⟩, .int .i64 0] := T0.set 3 _
  have C0 : Blk (X3.setCell ⟨w.heap.size + 1 + 1, 3, none⟩ (.int .i64 md)) G .u8 xs := B0.of_block ((Only.setCell X3 (w.heap.size + 1 + 1) 3 _).block G (by omega))
  have C1 : Blk (X3.setCell ⟨w.heap.size + 1 + 1, 3, none⟩ (.int .i64 md)) G' .u8 ys := B1.of_block ((Only.setCell X3 (w.heap.size + 1 + 1) 3 _).block G' (by omega))
  have C2 : Blk (X3.setCell ⟨w.heap.size + 1 + 1, 3, none⟩ (.int .i64 md)) G'' .u8 zs := B2.of_block ((Only.setCell X3 (w.heap.size + 1 + 1) 3 _).block G'' (by omega))
  go_upto_region 6 with fail
  clear q0 q1 q2 T0 B0 B1 B2
  generalize X3.setCell ⟨w.heap.size + 1 + 1, 3, none⟩ (.int .i64 md) = X4 at *
  have T0 := T6
  have B0 := C0
  have B1 := C1
  have B2 := C2
  clear T6 C0 C1 C2
  have q0 : X4.cell? ⟨w.heap.size, 4, none⟩ = some (.int .i64 li) := T0.S.cell 4
  have q1 : X4.cell? ⟨w.heap.size + 1 + 1, 4, none⟩ = some (.int .i64 0) := T0.T.cell 4
  have q2 := T0.T.free 4
  have T6 : TMs w (X4.setCell ⟨w.heap.size + 1 + 1, 4, none⟩ (.int .i64 li)) 25 34 [.slice a xs.length c, .slice a' ys.length c', .slice a'' zs.length c'', .int .i64 md, .int .i64 li, .string ho, .string pr, .int .i64 ea] [.slice none 0 0, .slice none 0 0, .slice none 0 0, .int .i64 0, .int .i64 0, .string ⟨#[]⟩, .string ⟨#[]⟩, .int .i64 0] [.slice (some ⟨G, 0, none⟩) xs.length xs.length, .slice (some ⟨G', 0, none⟩) ys.length ys.length, .slice (some ⟨G'', 0, none⟩) zs.length zs.length, .int .i64 md, .int .i64 li, .string ⟨#[]⟩, .string ⟨#[]⟩, .int .i64 0] := T0.set 4 _
  have C0 : Blk (X4.setCell ⟨w.heap.size + 1 + 1, 4, none⟩ (.int .i64 li)) G .u8 xs := B0.of_block ((Only.setCell X4 (w.heap.size + 1 + 1) 4 _).block G (by omega))
  have C1 : Blk (X4.setCell ⟨w.heap.size + 1 + 1, 4, none⟩ (.int .i64 li)) G' .u8 ys := B1.of_block ((Only.setCell X4 (w.heap.size + 1 + 1) 4 _).block G' (by omega))
  have C2 : Blk (X4.setCell ⟨w.heap.size + 1 + 1, 4, none⟩ (.int .i64 li)) G'' .u8 zs := B2.of_block ((Only.setCell X4 (w.heap.size + 1 + 1) 4 _).block G'' (by omega))
  go_upto_region 7 with fail
  clear q0 q1 q2 T0 B0 B1 B2
  generalize X4.setCell ⟨w.heap.size + 1 + 1, 4, none⟩ (.int .i64 li) = X5 at *
  have T0 := T6
  have B0 := C0
  have B1 := C1
  have B2 := C2
  clear T6 C0 C1 C2
  have q0 : X5.cell? ⟨w.heap.size, 5, none⟩ = some (.string ho) := T0.S.cell 5
  have q1 : X5.cell? ⟨w.heap.size + 1 + 1, 5, none⟩ = some (.string ⟨#[]⟩) := T0.T.cell 5
  have q2 := T0.T.free 5
  have T6 : TMs w (X5.setCell ⟨w.heap.size + 1 + 1, 5, none⟩ (.string ho)) 25 34 [.slice a xs.length c, .slice a' ys.length c', .slice a'' zs.length c'', .int .i64 md, .int .i64 li, .string ho, .string pr, .int .i64 ea] [.slice none 0 0, .slice none 0 0, .slice none 0 0, .int .i64 0, .int .i64 0, .string ⟨#[]⟩, .string ⟨#[]⟩, .int .i64 0] [.slice (some ⟨G, 0, none⟩) xs.length xs.length, .slice (some ⟨G', 0, none⟩) ys.length ys.length, .slice (some ⟨G'', 0, none⟩) zs.length zs.length, .int .i64 md, .int .i64 li, .string ho, .string ⟨#[]⟩, .int .i64 0] := T0.set 5 _
  have C0 : Blk (X5.setCell ⟨w.heap.size + 1 + 1, 5, none⟩ (.string ho)) G .u8 xs := B0.of_block ((Only.setCell X5 (w.heap.size + 1 + 1) 5 _).block G (by omega))
  have C1 : Blk (X5.setCell ⟨w.heap.size + 1 + 1, 5, none⟩ (.string ho)) G' .u8 ys := B1.of_block ((Only.setCell X5 (w.heap.size + 1 + 1) 5 _).block G' (by omega))
  have C2 : Blk (X5.setCell ⟨w.heap.size + 1 + 1, 5, none⟩ (.string ho)) G'' .u8 zs := B2.of_block ((Only.setCell X5 (w.heap.size + 1 + 1) 5 _).block G'' (by omega))
  go_upto_region 8 with fail
  clear q0 q1 q2 T0 B0 B1 B2
  generalize X5.setCell ⟨w.heap.size + 1 + 1, 5, none⟩ (.string ho) = X6 at *
  have T0 := T6
  have B0 := C0
  have B1 := C1
  have B2 := C2
  clear T6 C0 C1 C2
  have q0 : X6.cell? ⟨w.heap.size, 6, none⟩ = some (.string pr) := T0.S.cell 6
  have q1 : X6.cell? ⟨w.heap.size + 1 + 1, 6, none⟩ = some (.string ⟨#[]⟩) := T0.T.cell 6
  have q2 := T0.T.free 6
  have T6 : TMs w (X6.setCell ⟨w.heap.size + 1 + 1, 6, none⟩ (.string pr)) 25 34 [.slice a xs.length c, .slice a' ys.length c', .slice a'' zs.length c'', .int .i64 md, .int .i64 li, .string ho, .string pr, .int .i64 ea] [.slice none 0 0, .slice none 0 0, .slice none 0 0, .int .i64 0, .int .i64 0, .string ⟨#[]⟩, .string ⟨#[]⟩, .int .i64 0] [.slice (some ⟨G, 0, none⟩) xs.length xs.length, .slice (some ⟨G', 0, none⟩) ys.length ys.length, .slice (some ⟨G'', 0, none⟩) zs.length zs.length, .int .i64 md, .int .i64 li, .string ho, .string pr, .int .i64 0] := T0.set 6 _
  have C0 : Blk (X6.setCell ⟨w.heap.size + 1 + 1, 6, none⟩ (.string pr)) G .u8 xs := B0.of_block ((Only.setCell X6 (w.heap.size + 1 + 1) 6 _).block G (by omega))
  have C1 : Blk (X6.setCell ⟨w.heap.size + 1 + 1, 6, none⟩ (.string pr)) G' .u8 ys := B1.of_block ((Only.setCell X6 (w.heap.size + 1 + 1) 6 _).block G' (by omega))
  have C2 : Blk (X6.setCell ⟨w.heap.size + 1 + 1, 6, none⟩ (.string pr)) G'' .u8 zs := B2.of_block ((Only.setCell X6 (w.heap.size + 1 + 1) 6 _).block G'' (by omega))
  go_upto_region 9 with fail
  clear q0 q1 q2 T0 B0 B1 B2
  generalize X6.setCell ⟨w.heap.size + 1 + 1, 6, none⟩ (.string pr) = X7 at *
  have T0 := T6
  have B0 := C0
  have B1 := C1
  have B2 := C2
  clear T6 C0 C1 C2
  have q0 : X7.cell? ⟨w.heap.size, 7, none⟩ = some (.int .i64 ea) := T0.S.cell 7
  have q1 : X7.cell? ⟨w.heap.size + 1 + 1, 7, none⟩ = some (.int .i64 0) := T0.T.cell 7
  have q2 := T0.T.free 7
  have T6 : TMs w (X7.setCell ⟨w.heap.size + 1 + 1, 7, none⟩ (.int .i64 ea)) 25 34 [.slice a xs.length c, .slice a' ys.length c', .slice a'' zs.length c'', .int .i64 md, .int .i64 li, .string ho, .string pr, .int .i64 ea] [.slice none 0 0, .slice none 0 0, .slice none 0 0, .int .i64 0, .int .i64 0, .string ⟨#[]⟩, .string ⟨#[]⟩, .int .i64 0] [.slice (some ⟨G, 0, none⟩) xs.length xs.length, .slice (some ⟨G', 0, none⟩) ys.length ys.length, .slice (some ⟨G'', 0, none⟩) zs.length zs.length, .int .i64 md, .int .i64 li, .string ho, .string pr, .int .i64 ea] := T0.set 7 _
  have C0 : Blk (X7.setCell ⟨w.heap.size + 1 + 1, 7, none⟩ (.int .i64 ea)) G .u8 xs := B0.of_block ((Only.setCell X7 (w.heap.size + 1 + 1) 7 _).block G (by omega))
  have C1 : Blk (X7.setCell ⟨w.heap.size + 1 + 1, 7, none⟩ (.int .i64 ea)) G' .u8 ys := B1.of_block ((Only.setCell X7 (w.heap.size + 1 + 1) 7 _).block G' (by omega))
  have C2 : Blk (X7.setCell ⟨w.heap.size + 1 + 1, 7, none⟩ (.int .i64 ea)) G'' .u8 zs := B2.of_block ((Only.setCell X7 (w.heap.size + 1 + 1) 7 _).block G'' (by omega))
  go_upto_region 10 with fail
  clear q0 q1 q2 T0 B0 B1 B2
  generalize X7.setCell ⟨w.heap.size + 1 + 1, 7, none⟩ (.int .i64 ea) = X8 at *
  have T0 := T6
  have B0 := C0
  have B1 := C1
  have B2 := C2
  clear T6 C0 C1 C2
  have RG := T0.T.rangeG
  have TH := T0.U.thereG
  have RR := World.rangeAt_setCells_same X8 (w.heap.size + 1) 0 [.slice (some ⟨G, 0, none⟩) xs.length xs.length, .slice (some ⟨G', 0, none⟩) ys.length ys.length, .slice (some ⟨G'', 0, none⟩) zs.length zs.length, .int .i64 md, .int .i64 li, .string ho, .string pr, .int .i64 ea] TH
  have OQ := only_setG X8 (w.heap.size + 1) [.slice (some ⟨G, 0, none⟩) xs.length xs.length, .slice (some ⟨G', 0, none⟩) ys.length ys.length, .slice (some ⟨G'', 0, none⟩) zs.length zs.length, .int .i64 md, .int .i64 li, .string ho, .string pr, .int .i64 ea] 0
  have N8 : Hid (Below w.heap.size w (X8.setCells (w.heap.size + 1) 0 [.slice (some ⟨G, 0, none⟩) xs.length xs.length, .slice (some ⟨G', 0, none⟩) ys.length ys.length, .slice (some ⟨G'', 0, none⟩) zs.length zs.length, .int .i64 md, .int .i64 li, .string ho, .string pr, .int .i64 ea])) := T0.N.trans (OQ.below (by omega))
  have D0 := hide (B0.of_block (OQ.block G (by omega)))
  have D1 := hide (B1.of_block (OQ.block G' (by omega)))
  have D2 := hide (B2.of_block (OQ.block G'' (by omega)))
  have ON := oneSv md li ho pr ea (some ⟨G, 0, none⟩) xs.length xs.length (some ⟨G', 0, none⟩) ys.length ys.length (some ⟨G'', 0, none⟩) zs.length zs.length
  clear OQ T0 B0 B1 B2
  go_wp2_with (first
    | (refine wpList_load_mid rfl 34 (.tmp 3) rfl (w.heap.size + 1 + 1) 0 rfl [.slice (some ⟨G, 0, none⟩) xs.length xs.length, .slice (some ⟨G', 0, none⟩) ys.length ys.length, .slice (some ⟨G'', 0, none⟩) zs.length zs.length, .int .i64 md, .int .i64 li, .string ho, .string pr, .int .i64 ea] d1 RG hd1 hrow1 iSv ?_)
    | (refine wpList_store_mid rfl 34 (.tmp 2) (.tmp 31) rfl (w.heap.size + 1) 0 #[.slice (some ⟨G, 0, none⟩) xs.length xs.length, .slice (some ⟨G', 0, none⟩) ys.length ys.length, .slice (some ⟨G'', 0, none⟩) zs.length zs.length, .int .i64 md, .int .i64 li, .string ho, .string pr, .int .i64 ea] rfl rfl ?hth ?hin ?hon ?_))
  case hth => exact TH
  case hin => exact iSv
  case hon => exact ON
  exact bodyPost_ret (v := .agg #[.slice (some ⟨G, 0, none⟩) xs.length xs.length, .slice (some ⟨G', 0, none⟩) ys.length ys.length, .slice (some ⟨G'', 0, none⟩) zs.length zs.length, .int .i64 md, .int .i64 li, .string ho, .string pr, .int .i64 ea]) (results_cellG Tryd.results19 _ _ (w.heap.size + 1) _ d1 rfl RR hd1 hrow1 iSv) rfl ⟨G, G', G'', rfl, D0.out, D1.out, D2.out, by omega, by omega, by omega, N8.out⟩
set_option maxRecDepth 100000 in
set_option maxHeartbeats 2000000 in
theorem eqSaved_same (w : World) (md li : Int) (ho pr : ByteArray) (ea : Int) (g g2 : Nat) (a a2 : Option Addr) (c c2 : Nat) (xs : List Int) (h1 : Rd w g a .u8 xs) (h2 : Rd w g2 a2 .u8 xs) (hn : xs.length ≤ 1048576) (g' g2' : Nat) (a' a2' : Option Addr) (c' c2' : Nat) (ys : List Int) (h1' : Rd w g' a' .u8 ys) (h2' : Rd w g2' a2' .u8 ys) (hn' : ys.length ≤ 1048576) (g'' g2'' : Nat) (a'' a2'' : Option Addr) (c'' c2'' : Nat) (zs : List Int) (h1'' : Rd w g'' a'' .u8 zs) (h2'' : Rd w g2'' a2'' .u8 zs) (hn'' : zs.length ≤ 1048576) :
    Calls Tryd.prog 27 #[.agg #[.slice a xs.length c, .slice a' ys.length c', .slice a'' zs.length c'', .int .i64 md, .int .i64 li, .string ho, .string pr, .int .i64 ea], .agg #[.slice a2 xs.length c2, .slice a2' ys.length c2', .slice a2'' zs.length c2'', .int .i64 md, .int .i64 li, .string ho, .string pr, .int .i64 ea]] w fun e w' => e = .returned (.bool true) ∧ Below w.heap.size w w' := by
  have n1 : Below w.heap.size w (w.alloc (.cells #[.slice a xs.length c, .slice a' ys.length c', .slice a'' zs.length c'', .int .i64 md, .int .i64 li, .string ho, .string pr, .int .i64 ea] 34)) := (Below.refl _ _).alloc (Nat.le_refl _) _
  have n2 : Below (w.alloc (.cells #[.slice a xs.length c, .slice a' ys.length c', .slice a'' zs.length c'', .int .i64 md, .int .i64 li, .string ho, .string pr, .int .i64 ea] 34)).heap.size (w.alloc (.cells #[.slice a xs.length c, .slice a' ys.length c', .slice a'' zs.length c'', .int .i64 md, .int .i64 li, .string ho, .string pr, .int .i64 ea] 34)) ((w.alloc (.cells #[.slice a xs.length c, .slice a' ys.length c', .slice a'' zs.length c'', .int .i64 md, .int .i64 li, .string ho, .string pr, .int .i64 ea] 34)).alloc (.cells #[.slice a2 xs.length c2, .slice a2' ys.length c2', .slice a2'' zs.length c2'', .int .i64 md, .int .i64 li, .string ho, .string pr, .int .i64 ea] 34)) := (Below.refl _ _).alloc (Nat.le_refl _) _
  have P0 : RwC (w.alloc (.cells #[.slice a xs.length c, .slice a' ys.length c', .slice a'' zs.length c'', .int .i64 md, .int .i64 li, .string ho, .string pr, .int .i64 ea] 34)) w.heap.size [.slice a xs.length c, .slice a' ys.length c', .slice a'' zs.length c'', .int .i64 md, .int .i64 li, .string ho, .string pr, .int .i64 ea] 34 := RwC.new w _ _
  have P1 : RwC ((w.alloc (.cells #[.slice a xs.length c, .slice a' ys.length c', .slice a'' zs.length c'', .int .i64 md, .int .i64 li, .string ho, .string pr, .int .i64 ea] 34)).alloc (.cells #[.slice a2 xs.length c2, .slice a2' ys.length c2', .slice a2'' zs.length c2'', .int .i64 md, .int .i64 li, .string ho, .string pr, .int .i64 ea] 34)) (w.heap.size + 1) [.slice a2 xs.length c2, .slice a2' ys.length c2', .slice a2'' zs.length c2'', .int .i64 md, .int .i64 li, .string ho, .string pr, .int .i64 ea] 34 := by have := RwC.new (w.alloc (.cells #[.slice a xs.length c, .slice a' ys.length c', .slice a'' zs.length c'', .int .i64 md, .int .i64 li, .string ho, .string pr, .int .i64 ea] 34)) [.slice a2 xs.length c2, .slice a2' ys.length c2', .slice a2'' zs.length c2'', .int .i64 md, .int .i64 li, .string ho, .string pr, .int .i64 ea] 34; simpa using this
  have N := nxt n1 n2
  replace P0 := P0.up n2
  have E0 := hide (fun W (n : Below w.heap.size w W) => eqByteS_same W g g2 a a2 c c2 xs (h1.up n) (h2.up n) hn)
  have E1 := hide (fun W (n : Below w.heap.size w W) => eqByteS_same W g' g2' a' a2' c' c2' ys (h1'.up n) (h2'.up n) hn')
  have E2 := hide (fun W (n : Below w.heap.size w W) => eqByteS_same W g'' g2'' a'' a2'' c'' c2'' zs (h1''.up n) (h2''.up n) hn'')
  clear n1 n2 h1 h2 h1' h2' h1'' h2''
  go_enter Tryd.func27, Tryd.ntmps27
  go_wp2_with fail
  generalize (w.alloc (.cells #[.slice a xs.length c, .slice a' ys.length c', .slice a'' zs.length c'', .int .i64 md, .int .i64 li, .string ho, .string pr, .int .i64 ea] 34)).alloc (.cells #[.slice a2 xs.length c2, .slice a2' ys.length c2', .slice a2'' zs.length c2'', .int .i64 md, .int .i64 li, .string ho, .string pr, .int .i64 ea] 34) = wa at *
  refine (E0.out _ N).mono ?_
  rintro e w2 ⟨rfl, m⟩
  replace N := nxt N m
  replace P0 := P0.up m
  replace P1 := P1.up m
  clear m
  have x0 := P0.cell 1
  have x1 := P1.cell 1
  go_wp2_with fail
  refine (E1.out _ N).mono ?_
  rintro e w3 ⟨rfl, m⟩
  replace N := nxt N m
  replace P0 := P0.up m
  replace P1 := P1.up m
  clear m
  clear x0 x1
  have x0 := P0.cell 2
  have x1 := P1.cell 2
  go_wp2_with fail
  refine (E2.out _ N).mono ?_
  rintro e w4 ⟨rfl, m⟩
  replace N := nxt N m
  replace P0 := P0.up m
  replace P1 := P1.up m
  clear m
  clear x0 x1
  have p3 : w4.cell? ⟨w.heap.size, 3, none⟩ = some (.int .i64 md) := P0.cell 3
  have r3 : w4.cell? ⟨w.heap.size + 1, 3, none⟩ = some (.int .i64 md) := P1.cell 3
  have p4 : w4.cell? ⟨w.heap.size, 4, none⟩ = some (.int .i64 li) := P0.cell 4
  have r4 : w4.cell? ⟨w.heap.size + 1, 4, none⟩ = some (.int .i64 li) := P1.cell 4
  have p5 : w4.cell? ⟨w.heap.size, 5, none⟩ = some (.string ho) := P0.cell 5
  have r5 : w4.cell? ⟨w.heap.size + 1, 5, none⟩ = some (.string ho) := P1.cell 5
  have p6 : w4.cell? ⟨w.heap.size, 6, none⟩ = some (.string pr) := P0.cell 6
  have r6 : w4.cell? ⟨w.heap.size + 1, 6, none⟩ = some (.string pr) := P1.cell 6
  have p7 : w4.cell? ⟨w.heap.size, 7, none⟩ = some (.int .i64 ea) := P0.cell 7
  have r7 : w4.cell? ⟨w.heap.size + 1, 7, none⟩ = some (.int .i64 ea) := P1.cell 7
  go_wp2
  go_ret
  exact ⟨rfl, N⟩
end Go.Proofs.YtpbniihhpfbamaaDoor

/-
  Rows of int64: counted, copied, held against each other; windows; what an end's report reads as (written by gens/kmc.py).
-/
namespace Go.Proofs.YtpbniihhpfbamaaDoor
set_option maxRecDepth 100000
open Go Go.RowKit

theorem infoI64 : (Tryd.prog.info? 2).map (fun i => (i.zero, i.size, i.bytes)) = some (some (.int .i64 0), 1, 8) := by kernel_rfl
theorem i64Parts : ∃ i0, Tryd.prog.info? 2 = some i0 ∧ i0.zero = some (.int .i64 0) ∧ i0.size = 1 ∧ i0.bytes = 8 := by
  have h := infoI64
  cases hq : Tryd.prog.info? 2 with
  | none => rw [hq] at h; simp at h
  | some i0 =>
    rw [hq] at h
    simp only [Option.map_some, Option.some.injEq, Prod.mk.injEq] at h
    exact ⟨i0, rfl, h.1, h.2.1, h.2.2⟩
set_option maxHeartbeats 1000000 in
theorem toIntS_any (w : World) (g : Nat) (a : Option Addr) (cap : Nat) (xs : List Int) (hr : Rd w g a .i64 xs) (hn : xs.length ≤ 1048576) :
    Calls Tryd.prog 53 #[.slice a xs.length cap] w fun e w' => e = .returned (.slice (some ⟨w.heap.size, 0, none⟩) xs.length xs.length) ∧ Blk w' w.heap.size .i64 xs ∧ Below w.heap.size w w' := by
  obtain ⟨i0, hi, hz0, hz1, hz2⟩ := i64Parts
  go_enter Tryd.func53, Tryd.ntmps53
  go_wp2_with (at_make; refine wpList_make_full _ rfl _ _ 49 rfl w.heap.size 2 i0 (.int .i64 0) 1 Tryd.underlying49 hi hz0 hz1 .i64 .i64 _ _ xs.length rfl rfl rfl rfl (by rw [hz2]; omega) (by unfold maxLen; omega) (Nat.le_refl _) ?_; intro w1 hown hgrow)
  have hB0 := Blk.of_made hown
  have hN0 : Below w.heap.size w w1 := (Below.refl _ _).grown hgrow (Nat.le_refl _) (by simp)
  clear hown hgrow
  go_loopw [4] (fun i wr => ∃ (k : Nat) (ys : List Int), k ≤ xs.length ∧ i = .int .i64 k ∧ CopyTo xs ys k ∧ Blk wr w.heap.size .i64 ys ∧ Below w.heap.size w wr) (fun i _ => xs.length - (intOf i).toNat)
  case atStart => exact ⟨0, _, Nat.zero_le _, rfl, CopyTo.zero xs, hB0, hN0⟩
  case round =>
    obtain ⟨k, ys, hk, rfl, hcp, hB, hN⟩ := hrel
    by_cases hlt : k < xs.length
    · obtain ⟨off, rfl, hc⟩ := hr (by omega)
      have hg := hr.lt (by omega)
      have R : CopyTo xs (ys.set k (xs.getD k 0)) (k + 1) := hcp.step hlt
      have hcx : wr.cell? ⟨g, off + k, none⟩ = some (.int .i64 (xs.getD k 0)) := (hN.cell (p := ⟨g, off + k, none⟩) hg).trans (hc k hlt)
      have hcy : wr.cell? ⟨w.heap.size, k, none⟩ = some (.int .i64 (ys.getD k 0)) := hB.cell (by rw [hcp.1]; exact hlt)
      have hfy := hB.free k
      have hB' := hB.store k (xs.getD k 0)
      have hN' : Below w.heap.size w (wr.setCell ⟨w.heap.size, k, none⟩ (.int .i64 (xs.getD k 0))) := hN.setCell (Nat.le_refl _) _
      generalize xs.getD k 0 = x at *
      clear hB hN hc hcp
      go_wp2
      go_roundw
      case rel => exact ⟨k + 1, _, by omega, by go_num, R, hB', hN'⟩
      case measure => simp [intOf]; omega
    · obtain rfl : k = xs.length := by omega
      go_wp2
      go_ret
      refine ⟨rfl, ?_, hN⟩
      rw [← hcp.all]
      exact hB

set_option maxHeartbeats 400000 in
theorem eqIntS_same (w : World) (g g' : Nat) (a b : Option Addr) (ca cb : Nat) (xs : List Int) (ha : Rd w g a .i64 xs) (hb : Rd w g' b .i64 xs) (hn : xs.length ≤ 1048576) :
    Calls Tryd.prog 66 #[.slice a xs.length ca, .slice b xs.length cb] w fun e w' => e = .returned (.bool true) ∧ Below w.heap.size w w' := by
  go_enter Tryd.func66, Tryd.ntmps66
  go_wp2
  go_loopw [5] (fun i wr => ∃ (k n : Nat), k ≤ xs.length ∧ i = .int .i64 k ∧ wr = w.drewN n) (fun i _ => xs.length - (intOf i).toNat)
  case atStart => exact ⟨0, 0, Nat.zero_le _, rfl, rfl⟩
  case round =>
    obtain ⟨k, n, hk, rfl, rfl⟩ := hrel
    by_cases hlt : k < xs.length
    · obtain ⟨off, rfl, hc⟩ := ha (by omega)
      obtain ⟨off', rfl, hc'⟩ := hb (by omega)
      have h1 := hc k hlt
      have h2 := hc' k hlt
      have hlt' : (k : Int) < (xs.length : Int) := by omega
      generalize xs.getD k 0 = x at *
      clear hc hc'
      go_wp2
      go_quiet (fail)
      go_wp2
      go_roundw
      case rel => exact ⟨k + 1, _, by omega, by go_num, rfl⟩
      case measure => simp [intOf]; omega
    · obtain rfl : k = xs.length := by omega
      go_wp2
      go_ret
      exact ⟨rfl, below_drewN (Below.refl _ _) _⟩

theorem szIntS_r (w : World) (a : Option Addr) (c n : Nat) (L : Int) (hn : n < 9223372036854775808) (h0 : 0 ≤ L) (h1 : L ≤ 1048576) :
    Calls Tryd.prog 50 #[.slice a n c, .int .i64 L] w fun e w' => (∃ r, e = .returned (.int .i64 r) ∧ LftK L n r) ∧ w' = w := by
  have s1 : IntKind.i64.wrap (L - (n : Int)) = L - (n : Int) := by rw [IntKind.wrap_i64]; omega
  by_cases h : L < (n : Int)
  · have t1 : decide (L - (n : Int) < 0) = true := decide_eq_true (by omega)
    have H := hide h
    clear h
    go_enter Tryd.func50, Tryd.ntmps50
    go_wp2
    go_ret
    exact ⟨⟨_, rfl, .inl ⟨H.out, rfl⟩⟩, rfl⟩
  · have t1 : decide (L - (n : Int) < 0) = false := decide_eq_false (by omega)
    have H := hide h
    clear h
    go_enter Tryd.func50, Tryd.ntmps50
    go_wp2
    go_ret
    exact ⟨⟨_, rfl, .inr ⟨by have := H.out; omega, rfl⟩⟩, rfl⟩
theorem Rd.onlK {w w' : World} {g q : Nat} {a : Option Addr} {k : IntKind} {xs : List Int} (h : Rd w g a k xs) (O : Only q w w') (hne : g ≠ q) : Rd w' g a k xs := fun h0 => h.of_block (O.block g hne) h0
/-- A list that was copied: all of it lies at b or above. -/
structure CpS (b : Nat) (W : World) (p : Nat) (k : IntKind) (xs : List Int) : Prop where
  rd : Rd W p (some ⟨p, 0, none⟩) k xs
  lo : b ≤ p
theorem CpS.of {b : Nat} {W : World} {p : Nat} {k : IntKind} {xs : List Int} (h : Blk W p k xs) (l : b ≤ p) : CpS b W p k xs := ⟨h.own0.rd, l⟩
theorem CpS.up {b : Nat} {W W' : World} {p : Nat} {k : IntKind} {xs : List Int} (h : CpS b W p k xs) (n : Below W.heap.size W W') : CpS b W' p k xs := ⟨h.rd.up n, h.lo⟩
theorem CpS.onl {b q : Nat} {W W' : World} {p : Nat} {k : IntKind} {xs : List Int} (h : CpS b W p k xs) (O : Only q W W') (hq : q < b) : CpS b W' p k xs := ⟨h.rd.onlK O (by have := h.lo; omega), h.lo⟩
/-- Marks that were copied. -/
structure CpK (b : Nat) (W : World) (p : Nat) (ms : List Mrk) (ps : List Plm) : Prop where
  rd : RdK W p (some ⟨p, 0, none⟩) ms ps
  lo : b ≤ p
  los : ∀ i, i < ms.length → b ≤ (ps.getD i plm0).q
theorem CpK.up {b : Nat} {W W' : World} {p : Nat} {ms : List Mrk} {ps : List Plm} (h : CpK b W p ms ps) (n : Below W.heap.size W W') : CpK b W' p ms ps := ⟨h.rd.up n, h.lo, h.los⟩
theorem RdK.onl {w w' : World} {g q : Nat} {a : Option Addr} {ms : List Mrk} {ps : List Plm} (h : RdK w g a ms ps) (O : Only q w w') (hg : g ≠ q) (hs : ∀ i, i < ms.length → (ps.getD i plm0).q ≠ q) : RdK w' g a ms ps :=
  ⟨fun h0 => by
    obtain ⟨off, e, hc⟩ := h.r h0
    exact ⟨off, e, fun i hi => ⟨(World.cell?_of_block (O.block g hg)).trans (hc i hi).1, (World.cell?_of_block (O.block g hg)).trans (hc i hi).2⟩⟩,
   fun i hi => (h.b i hi).onlK O (hs i hi)⟩
theorem CpK.onl {b q : Nat} {W W' : World} {p : Nat} {ms : List Mrk} {ps : List Plm} (h : CpK b W p ms ps) (O : Only q W W') (hq : q < b) : CpK b W' p ms ps := ⟨h.rd.onl O (by have := h.lo; omega) (fun i hi => by have := h.los i hi; omega), h.lo, h.los⟩
/-- Cells put into a list, one behind the other. -/
def setL (cs : List Value) : Nat → List Value → List Value
  | _, [] => cs
  | o, v :: r => setL (cs.set o v) (o + 1) r
theorem TMs.sets {w W : World} {tL tM : TypeId} {src zer cs : List Value} (h : TMs w W tL tM src zer cs) (o : Nat) (vs : List Value) : TMs w (W.setCells (w.heap.size + 1 + 1) o vs) tL tM src zer (setL cs o vs) := by
  induction vs generalizing W cs o with
  | nil => exact h
  | cons v r ih => exact ih (h.set o v) (o + 1)
theorem RwC.part {w : World} {q : Nat} {cs : List Value} {t : TypeId} (h : RwC w q cs t) (o : Nat) (l : List Value) (hl : (cs.drop o).take l.length = l) : w.rangeAt q o l := fun j v hj => by
  rw [h.cell (o + j)]
  rw [← hl] at hj
  rw [List.getElem?_take] at hj
  split at hj
  · rw [List.getElem?_drop] at hj
    exact hj
  · simp at hj
theorem RwC.tpart {w : World} {q : Nat} {cs : List Value} {t : TypeId} (h : RwC w q cs t) (o n : Nat) (hl : o + n ≤ cs.length) : w.there q o n := fun j hj => by
  rw [h.cell (o + j), h.free (o + j)]
  exact ⟨by rw [List.getElem?_eq_getElem (by omega)]; simp, rfl⟩
theorem iWd : (Tryd.prog.info? 37).map (·.size) = some 2 := by kernel_rfl
theorem rowWd : ∃ d, Tryd.prog.underlying 37 = some d ∧ d.isRow = true := ⟨_, Tryd.underlying37, rfl⟩
theorem oneWd (wd : Int) (a : Option Addr) (n c : Nat) : ([.int .i64 wd, .slice a n c] : List Value).toArray.all (·.oneCell') = true := all_oneCell_toArray fun v hv => by
  simp only [List.mem_cons, List.not_mem_nil, or_false] at hv
  rcases hv with rfl | rfl
  all_goals rfl
end Go.Proofs.YtpbniihhpfbamaaDoor
