
/-
  The model's putting in order.
-/
import Derived.Test.YtheggghidhjplaaArA
import Derived.Test.YtheggghidhjplaaCfA
namespace Go.Proofs.Ytheggghidhjplaa
open Go Go.RowKit

theorem RowAt.one (w : World) (l : List UInt8) : RowAt (w.alloc (.cells #[.string ⟨⟨l⟩⟩] 9)) w.heap.size (.slice (some ⟨w.heap.size, 0, none⟩) 1 1) [l] := RowAt.new w [l] (by simp)
set_option maxRecDepth 100000 in
set_option maxHeartbeats 16000000 in
theorem l11Sorted_any (w : World) (g : Nat) (a : Option Addr) (c : Nat) (ls : List (List UInt8)) (hr : RdT w g a ls) (hn : ls.length ≤ 16) :
    Calls Try.prog 114 #[.slice a ls.length c] w fun e w' => (∃ (v : Value) (q : Nat) (out : List (List UInt8)), e = .returned v ∧ RowAt w' q v out ∧ w.heap.size ≤ q ∧ (∀ l ∈ out, l ∈ ls) ∧ out.length ≤ ls.length) ∧ Below w.heap.size w w' := by
  have R0 : RowAt (w.alloc (.cells #[] 9)) w.heap.size (.slice (some ⟨w.heap.size, 0, none⟩) 0 0) [] := RowAt.new w [] (by simp)
  have n0 : Below w.heap.size w (w.alloc (.cells #[] 9)) := (Below.refl _ _).alloc (Nat.le_refl _) _
  have HR := hide hr
  clear hr
  go_enter Try.func114, Try.ntmps114
  go_wp2
  generalize w.alloc (.cells #[] 9) = w1 at *
  go_loopw [3, 4, 5, 6] (fun o _ _ _ wr => ∃ (q : Nat) (out : List (List UInt8)), RowAt wr q o out ∧ w.heap.size ≤ q ∧ (∀ l ∈ out, l ∈ ls) ∧ out.length + cntG ls out ≤ ls.length ∧ Below w.heap.size w wr) (fun o _ _ _ _ => 17 - (match o with | .slice _ n _ => n | _ => 0))
  case atStart => exact ⟨w.heap.size, [], R0, Nat.le_refl _, (fun l h => absurd h (by simp)), (by show 0 + cntG ls [] ≤ ls.length; unfold cntG; rw [if_pos rfl]; omega), n0⟩
  case round =>
    clear R0 n0
    obtain ⟨q, out, R, hq, hin, hcn, N⟩ := hrel
    obtain ⟨c1, rfl⟩ := R.e
    have RH := hide R
    have NH := hide N
    have HI := hide hin
    have ol : out.length ≤ 16 := by omega
    clear R N hin
    go_wp2
    go_loopw [4, 5, 6] (fun b f i wz => Below wr.heap.size wr wz ∧ ∃ (k : Nat) (bl : List UInt8) (bf : Bool), k ≤ ls.length ∧ i = .int .i64 k ∧ b = .string ⟨⟨bl⟩⟩ ∧ f = .bool bf ∧ Hid (bf = true → bl ∈ ls ∧ gtL out bl)) (fun _ _ i _ => ls.length - (intOf i).toNat)
    case atStart => exact ⟨Below.refl _ _, 0, [], false, by omega, rfl, rfl, rfl, fun h => by cases h⟩
    case round =>
      obtain ⟨nz, k, bl, bf, hk, rfl, rfl, rfl, hB⟩ := hrel
      have NZ := hide nz
      have R1 := hide (RH.out.up nz)
      have N1 := hide (nxt NH.out nz)
      by_cases hlt : k < ls.length
      · have t2 : (k : Int) < (ls.length : Int) := by omega
        obtain ⟨off, rfl, hcl⟩ := (HR.out.up (nxt NH.out nz)) (by omega)
        have cx := hcl k hlt
        have mx : Hid (ls.getD k [] ∈ ls) := by show ls.getD k [] ∈ ls; simp [hlt]
        clear hcl nz
        generalize ls.getD k [] = x at *
        unfold tx at cx
        have bx : (ByteArray.mk ⟨x⟩).toList = x := toList_tx x
        have bbl : (ByteArray.mk ⟨bl⟩).toList = bl := toList_tx bl
        by_cases ho : out.length = 0
        · have t3 : decide ((0 : Int) < (out.length : Int)) = false := decide_eq_false (by omega)
          have t3' : decide (0 < out.length) = false := decide_eq_false (by omega)
          have hg : Hid (gtL out x) := fun h => absurd (List.eq_nil_of_length_eq_zero ho) h
          clear ho
          cases bf with
          | false =>
            go_wp2
            go_quiet (fail)
            go_wp2
            go_roundw
            case rel => exact ⟨below_drewN NZ.out _, k + 1, x, true, by omega, by go_num, rfl, rfl, fun _ => ⟨mx.out, hg.out⟩⟩
            case measure => simp [intOf]; omega
          | true =>
            cases hz : Op.bytesLess x bl with
            | true =>
              go_wp2
              go_quiet (fail)
              go_wp2
              go_roundw
              case rel => exact ⟨below_drewN NZ.out _, k + 1, x, true, by omega, by go_num, rfl, rfl, fun _ => ⟨mx.out, hg.out⟩⟩
              case measure => simp [intOf]; omega
            | false =>
              go_wp2
              go_quiet (fail)
              go_wp2
              go_roundw
              case rel => exact ⟨below_drewN NZ.out _, k + 1, bl, true, by omega, by go_num, rfl, rfl, fun _ => hB.out trivial⟩
              case measure => simp [intOf]; omega
        · have t3 : decide ((0 : Int) < (out.length : Int)) = true := decide_eq_true (by omega)
          have t3' : 0 < out.length := by omega
          obtain ⟨off2, e2, hco⟩ := R1.out.rd (by omega)
          obtain rfl : off2 = 0 := by simpa using e2.symm
          have co := hco (out.length - 1) (by omega)
          rw [Nat.zero_add] at co
          have s1 : IntKind.i64.wrap ((out.length : Int) - 1) = ((out.length - 1 : Nat) : Int) := by rw [IntKind.wrap_i64]; omega
          have b1 : ((out.length - 1 : Nat) : Int) < (out.length : Int) := by omega
          have TL := hide (less_total (out.getD (out.length - 1) []) x)
          have GE : Hid (∀ h : Op.bytesLess (out.getD (out.length - 1) []) x = true, gtL out x) := fun h _ => h
          clear e2 hco ho
          generalize out.getD (out.length - 1) [] = y at *
          generalize out.length - 1 = m1 at *
          unfold tx at co
          have by' : (ByteArray.mk ⟨y⟩).toList = y := toList_tx y
          cases hy : Op.bytesLess y x with
          | false =>
            have d1 : (Op.bytesLess x y || x == y) = true := by rw [TL.out, hy]; rfl
            clear TL GE hy
            go_wp2
            go_quiet (fail)
            go_wp2
            go_roundw
            case rel => exact ⟨below_drewN NZ.out _, k + 1, bl, bf, by omega, by go_num, rfl, rfl, hB.out⟩
            case measure => simp [intOf]; omega
          | true =>
            have d1 : (Op.bytesLess x y || x == y) = false := by rw [TL.out, hy]; rfl
            have hg := hide (GE.out hy)
            clear TL GE hy
            cases bf with
            | false =>
              go_wp2
              go_quiet (fail)
              go_wp2
              go_roundw
              case rel => exact ⟨below_drewN NZ.out _, k + 1, x, true, by omega, by go_num, rfl, rfl, fun _ => ⟨mx.out, hg.out⟩⟩
              case measure => simp [intOf]; omega
            | true =>
              cases hz : Op.bytesLess x bl with
              | true =>
                go_wp2
                go_quiet (fail)
                go_wp2
                go_roundw
                case rel => exact ⟨below_drewN NZ.out _, k + 1, x, true, by omega, by go_num, rfl, rfl, fun _ => ⟨mx.out, hg.out⟩⟩
                case measure => simp [intOf]; omega
              | false =>
                go_wp2
                go_quiet (fail)
                go_wp2
                go_roundw
                case rel => exact ⟨below_drewN NZ.out _, k + 1, bl, true, by omega, by go_num, rfl, rfl, fun _ => hB.out trivial⟩
                case measure => simp [intOf]; omega
      · obtain rfl : k = ls.length := by omega
        cases bf with
        | false =>
          have N2 := hide (nxt NH.out nz)
          clear nz
          go_wp2
          go_ret
          exact ⟨⟨_, q, out, rfl, R1.out, hq, HI.out, by omega⟩, N2.out⟩
        | true =>
          obtain ⟨hb1, hb2⟩ := hB.out rfl
          have CS := hide (cnt_step hb1 hb2)
          clear hB nz
          have na : Below wr.heap.size wr (wr.alloc (.cells #[.string ⟨⟨bl⟩⟩] 9)) := (Below.refl _ _).alloc (Nat.le_refl _) _
          have R2 := R1.out.up na
          have N2 := nxt N1.out na
          have ql := R1.out.lt
          have RO := RowAt.one wr bl
          obtain ⟨v', w2, g', hap, R3, B3, hg'⟩ := appendT (wr.alloc (.cells #[.string ⟨⟨bl⟩⟩] 9)) 28 _ out [bl] q wr.heap.size 0 1 R2 (fun i hi => by
            obtain ⟨o2, e2, hc2⟩ := RO.rd (by simp)
            obtain rfl : o2 = 0 := by simpa using e2.symm
            exact hc2 i hi) (by simp; omega)
          have N3 := hide (show Below w.heap.size w w2 from N2.trans (B3.below hq N2.size))
          have R3h := hide R3
          have IN : Hid (∀ l ∈ out ++ [bl], l ∈ ls) := fun l h => by
            rcases List.mem_append.1 h with h | h
            · exact HI.out l h
            · rw [List.mem_singleton] at h
              rw [h]
              exact hb1
          have GQ : Hid (w.heap.size ≤ g') := by
            show w.heap.size ≤ g'
            rcases hg' with rfl | rfl
            · exact hq
            · exact N2.size
          have e3 := R3.e
          obtain ⟨c3, rfl⟩ := e3
          clear R2 R3 N2 na ql RO B3 hg' R1 N1 NZ RH NH HI hb1 hb2
          have LN : Hid ((out ++ [bl]).length + cntG ls (out ++ [bl]) ≤ ls.length) := by
            have := CS.out
            show _ ≤ _
            rw [List.length_append]
            simp only [List.length_cons, List.length_nil]
            omega
          have e4 : (out ++ [bl]).length = out.length + 1 := by simp
          go_wp2_with (at_builtin; refine Lib.wpList_append_run _ rfl _ _ 28 28 rfl _ _ rfl rfl _ _ hap ?_)
          clear hap
          go_wp2
          go_roundw
          case rel => exact ⟨g', out ++ [bl], (by have := R3h.out; rwa [e4] at this), GQ.out, IN.out, LN.out, N3.out⟩
          case measure =>
            have := LN.out
            rw [e4] at this
            show 17 - (out.length + 1) < 17 - out.length
            omega
end Go.Proofs.Ytheggghidhjplaa
