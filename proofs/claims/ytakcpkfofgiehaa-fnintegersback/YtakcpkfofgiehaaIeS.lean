
/-
  The model's l10Signed, EncodeInteger and DecodeInteger.
-/
import Derived.Test.YtakcpkfofgiehaaL64
import Derived.Test.YtakcpkfofgiehaaApd
import Derived.Test.YtakcpkfofgiehaaSm8
import Derived.Test.YtakcpkfofgiehaaTrim
import Derived.Test.YtakcpkfofgiehaaRdT
namespace Go.Proofs.Ytakcpkfofgiehaa
open Go.RowKit

set_option maxHeartbeats 1000000 in
theorem l10Signed_any (w : World) (g : Nat) (a : Option Addr) (c : Nat) (b : List Int) (hr : Rd w g a .u8 b) (hb : Byt b) (hl : 1 ≤ b.length) (h8 : b.length ≤ 8) :
    Calls Try.prog 40 #[.slice a b.length c] w fun e w' => e = .returned (.int .i64 (sv b)) ∧ w' = w := by
  obtain ⟨off, rfl, hc⟩ := hr (by omega)
  have c0 := hc 0 (by omega)
  rw [Nat.add_zero] at c0
  have B0 := hb 0
  have S0 : Hid (svK b 0 = if 128 ≤ b.getD 0 0 then -1 else 0) := rfl
  have SV : Hid (sv b = svK b b.length) := rfl
  have ST := fun k => hide (show svK b (k + 1) = svK b k * 256 + b.getD k 0 from rfl)
  have BD := fun k => hide (svK_bd hb k)
  have P8 : Hid (∀ k, k < b.length → (2 : Int) ^ (8 * k + 7) ≤ 9223372036854775808) := fun k hk => by
    have : (2 : Int) ^ (8 * k + 7) ≤ 2 ^ 63 := by exact_mod_cast Nat.pow_le_pow_right (by decide) (by omega)
    simpa using this
  have hl' : (0 : Int) < (b.length : Int) := by omega
  rw [SV.out]
  generalize hn : b.length = n at *
  have HN := hide hn
  clear hn
  generalize svK b = f at *
  go_enter Try.func40, Try.ntmps40
  by_cases c1 : 128 ≤ b.getD 0 0
  all_goals
    first | (have t1 : decide (128 ≤ b.getD 0 0) = true := decide_eq_true c1) | (have t1 : decide (128 ≤ b.getD 0 0) = false := decide_eq_false c1)
    first | rw [if_pos c1] at S0 | rw [if_neg c1] at S0
    clear c1
    generalize hx0 : b.getD 0 0 = x0 at c0 t1 B0
    have HX0 := hide hx0
    clear hx0
    go_wp2
    go_loop [3, 4] (fun q i => ∃ (k : Nat), k ≤ n ∧ i = .int .i64 k ∧ q = .int .i64 (f k)) (fun _ i => n - (intOf i).toNat)
    case atStart => exact ⟨0, Nat.zero_le _, rfl, by rw [S0.out]⟩
    case round =>
      obtain ⟨k, hk, rfl, rfl⟩ := hrel
      by_cases hlt : k < n
      · have h1 := hc k hlt
        have hx := hb k
        have hlt' : (k : Int) < (n : Int) := by omega
        have st := ST k
        have bd := (BD k).out
        have p8 := P8.out k hlt
        have r1 : -9223372036854775808 ≤ f k * 256 := by have := st.out; rw [this] at bd; omega
        have r2 : f k * 256 < 9223372036854775808 := by have := st.out; rw [this] at bd; omega
        have r3 : -9223372036854775808 ≤ f k * 256 + b.getD k 0 := by have := st.out; rw [this] at bd; omega
        have r4 : f k * 256 + b.getD k 0 < 9223372036854775808 := by have := st.out; rw [this] at bd; omega
        clear bd p8 hc
        generalize hxk : b.getD k 0 = x at *
        have HXK := hide hxk
        clear hxk
        go_wp2
        go_round
        case rel => exact ⟨k + 1, by omega, by go_num, by rw [st.out]⟩
        case measure => simp [intOf]; omega
      · obtain rfl : k = n := by omega
        go_wp2
        go_ret
        exact ⟨rfl, rfl⟩

theorem sgB_take_succ (v : Int) (k : Nat) (hk : k < 8) : (sgB 8 v).take k ++ [v / 2 ^ (8 * (7 - k)) % 256] = (sgB 8 v).take (k + 1) := by
  have hl : k < (sgB 8 v).length := by rw [sgB_len]; exact hk
  rw [List.take_add_one, List.getElem?_eq_getElem hl]
  have e := sgB_get 8 v k hk
  rw [List.getD_eq_getElem?_getD, List.getElem?_eq_getElem hl] at e
  simp only [Option.getD_some] at e
  rw [e, show 8 - 1 - k = 7 - k by omega]
  rfl

set_option maxHeartbeats 2000000 in
theorem specEncodeInteger_any (w : World) (v : Int) :
    Calls Try.prog 16 #[.int .i64 v] w fun e w' => NewRow w.heap.size w' e .u8 (eiL v) ∧ Below w.heap.size w w' := by
  obtain ⟨i0, hi, hz0, hz1, hz2⟩ := info_parts Try.info5
  have TK := fun k (h : k < 8) => hide (sgB_take_succ v k h)
  have T8 : Hid ((sgB 8 v).take 8 = sgB 8 v) := by show _ = _; rw [List.take_of_length_le]; rw [sgB_len]; exact Nat.le_refl _
  have TL : Hid (∀ k, k ≤ 8 → ((sgB 8 v).take k).length = k) := fun k hk => by rw [List.length_take, sgB_len]; omega
  have DR := fun n (h : n ≤ 8) => hide (sgB_drop n 8 v h)
  have FT := fun n (h : 1 ≤ n) => hide (sv_sgB_iff (n := n) (v := v) h)
  have EI := fun n (h1 : 1 ≤ n) (h8 : n ≤ 8) (hf : n = 8 ∨ fits n v = true) (hn : n = 1 ∨ fits (n - 1) v = false) => hide (show eiL v = sgB n v by unfold eiL; rw [isz_of h1 h8 hf hn])
  have hal : Below w.heap.size w (w.alloc (.cells #[] 5)) := (Below.refl _ _).alloc (Nat.le_refl _) _
  go_enter Try.func16, Try.ntmps16
  go_wp2
  go_loopw [3, 4] (fun r i wr => ∃ (k : Nat) (j : Int), k ≤ 8 ∧ i = .int .i64 j ∧ Hid (j = 7 - (k : Int)) ∧ RowB wr w.heap.size r ((sgB 8 v).take k) ∧ Below w.heap.size w wr) (fun _ i _ => (intOf i + 1).toNat)
  case atStart => exact ⟨0, 7, by omega, rfl, rfl, RowB.lit0 w, hal⟩
  case round =>
    obtain ⟨k, j, hk, rfl, hj, hown, hN⟩ := hrel
    by_cases hlt : k < 8
    · obtain ⟨m, hm⟩ : ∃ m : Nat, m = 7 - k := ⟨_, rfl⟩
      obtain rfl : j = (m : Int) := by have := hj.out; omega
      have m7 : m ≤ 7 := by omega
      have na : Below wr.heap.size wr (wr.alloc (.cells #[.int .u8 (v / 2 ^ (8 * m) % 256)] 5)) := (Below.refl _ _).alloc (Nat.le_refl _) _
      have Na := nxt hN na
      have o1 := hown.up na
      have B1 : Blk (wr.alloc (.cells #[.int .u8 (v / 2 ^ (8 * m) % 256)] 5)) wr.heap.size .u8 [v / 2 ^ (8 * m) % 256] := blk_lit1 wr .u8 5 _
      obtain ⟨v', w2, hap, o2, n2⟩ := append_any (P := Try.prog) (wr.alloc (.cells #[.int .u8 (v / 2 ^ (8 * m) % 256)] 5)) 22 i0 Try.underlying22 hi hz0 hz1 hz2 w.heap.size w.heap.size _ _ o1 _ _ 1 [v / 2 ^ (8 * m) % 256] B1.own0.rd (by simp) (by rw [TL.out k hk]; simp; omega) (Nat.le_refl _) Na.size
      have N2 := Na.trans n2
      have tk := (TK k hlt).out
      rw [← hm] at tk
      rw [tk] at o2
      have HM := hide hm
      clear hown o1 na Na B1 n2 hm tk
      simp only [List.length_cons, List.length_nil, Nat.zero_add] at hap
      go_wp2_with (at_builtin; refine Lib.wpList_append_run _ rfl _ _ 22 22 rfl _ _ rfl rfl _ _ hap ?_)
      clear hap
      go_wp2
      go_roundw
      case rel => exact ⟨k + 1, (m : Int) - 1, by omega, by go_num, by show _ = _; have := HM.out; omega, o2, N2⟩
      case measure => simp [intOf]
    · obtain rfl : k = 8 := by omega
      obtain rfl : j = -1 := by have := hj.out; omega
      rw [T8.out] at hown
      have S8 := sgB_len 8 v
      obtain ⟨a1, c1, g1, rfl, o1, p1, q1, r1⟩ := hown.own
      rw [S8] at q1 ⊢
      have S8' := hide S8
      clear hown hk hj S8 TK TL
      go_wp2
      go_loop [5] (fun i => ∃ (n : Nat), 1 ≤ n ∧ n ≤ 8 ∧ i = .int .i64 n ∧ Hid (n = 1 ∨ fits (n - 1) v = false)) (fun i => 8 - (intOf i).toNat)
      case atStart => exact ⟨1, by omega, by omega, rfl, .inl rfl⟩
      case round =>
        obtain ⟨n, n1, n8, rfl, hn⟩ := hrel
        by_cases hlt : n < 8
        · obtain ⟨off, rfl, RR⟩ := o1.rd.dropA (8 - n) (by rw [S8'.out]; omega)
          have dr := (DR n n8).out
          rw [dr] at RR
          have ft := FT n n1
          have SG := l10Signed_any wr g1 _ (c1 - (8 - n)) (sgB n v) RR (sgB_byt _ _) (by rw [sgB_len]; exact n1) (by rw [sgB_len]; exact n8)
          have CP := hide (l1Copy_any wr g1 _ (c1 - (8 - n)) (sgB n v) RR (by simp) (by rw [sgB_len]; omega))
          rw [sgB_len] at SG CP
          clear dr
          obtain ⟨p, hp⟩ : ∃ p, p = 8 - n := ⟨_, rfl⟩
          rw [← hp] at SG CP RR
          have p1 : (8 : Int) - (n : Int) = (p : Int) := by omega
          have p2 : (p : Int) ≤ 8 := by omega
          have p3 : (p : Int) ≤ (c1 : Int) := by omega
          have p4 : ¬ (c1 = p) := by omega
          have p5 : 8 - p = n := by omega
          have lt' : (n : Int) < 8 := by omega
          have HP := hide hp
          clear hp
          cases hf : fits n v with
          | true =>
            have e := sv_sgB n1 hf
            rw [e] at SG
            have EN := (EI n n1 n8 (.inr hf) hn.out)
            have SL := hide (sgB_len n v)
            clear e ft hf EI FT hn
            generalize sgB n v = zs at *
            go_wp2_with fail
            refine SG.mono ?_
            rintro r w2 ⟨rfl, h⟩
            have h := h.symm
            subst h
            go_wp2_with fail
            refine CP.out.mono ?_
            rintro r w3 ⟨⟨a3, c3, g3, rfl, o3, p3, q3, r3⟩, n3⟩
            go_wp2
            go_ret
            rw [EN.out]
            exact ⟨⟨a3, c3, g3, rfl, o3, p3, q3, by have := hN.size; omega⟩, nxt hN n3⟩
          | false =>
            have hu : sv (sgB n v) ≠ v := fun e => by have := ft.out; rw [decide_eq_true e, hf] at this; cases this
            have HN' : Hid (n + 1 = 1 ∨ fits (n + 1 - 1) v = false) := .inr hf
            generalize sv (sgB n v) = u at *
            have t1 : decide (u = v) = false := decide_eq_false hu
            have t2 : (u == v) = false := by simpa using hu
            clear ft hf hu CP EI FT hn
            go_wp2_with fail
            refine SG.mono ?_
            rintro r w2 ⟨rfl, h⟩
            have h := h.symm
            subst h
            go_wp2
            go_round
            case rel => exact ⟨n + 1, by omega, by omega, by go_num, HN'⟩
            case measure => simp [intOf]; omega
        · obtain rfl : n = 8 := by omega
          have E8 := (EI 8 n1 n8 (.inl rfl) hn.out)
          clear EI FT DR hn
          go_wp2
          go_ret
          rw [E8.out]
          exact ⟨⟨a1, c1, g1, by rw [S8'.out]; rfl, o1, p1, by rw [S8'.out]; exact q1, r1⟩, hN⟩
end Go.Proofs.Ytakcpkfofgiehaa
