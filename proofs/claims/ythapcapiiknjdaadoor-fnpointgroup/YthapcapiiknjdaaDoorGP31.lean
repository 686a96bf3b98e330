import Derived.Test.YthapcapiiknjdaaDoorGP1
import Derived.Laws.AppendOwnNone
import Derived.Deep.MidRow
import Derived.Test.YthapcapiiknjdaaDoorGP2

/-
  Bytes without zeros ahead: the model's and the program's.
-/
namespace Go.Proofs.YthapcapiiknjdaaDoor
set_option maxRecDepth 100000
open Go.RowKit

set_option maxHeartbeats 400000 in
theorem l1Copy_any1 (w : World) (g : Nat) (a : Option Addr) (cap : Nat) (xs : List Int) (hr : Rd w g a .u8 xs) (hc : a = none → cap = 0) (hn : xs.length ≤ 1048576) :
    Calls Tryd.prog 63 #[.slice a xs.length cap] w fun e w' => NewRow w.heap.size w' e .u8 xs ∧ Below w.heap.size w w' := by
  obtain ⟨i0, hi, hz0, hz1, hz2⟩ := info_parts Tryd.info5
  have hown : (w.alloc (.cells #[] 5)).ownsRow w.heap.size 5 1 (.slice (some ⟨w.heap.size, 0, none⟩) 0 0) 0 [] := World.ownsRow_lit w #[] 0 (Nat.le_refl _) (by unfold maxLen; omega) (by simp)
  have hal : Below w.heap.size w (w.alloc (.cells #[] 5)) := (Below.refl _ _).alloc (Nat.le_refl _) _
  cases a with
  | none =>
    obtain rfl : xs = [] := by
      by_cases h0 : 0 < xs.length
      · obtain ⟨off, h, _⟩ := hr h0
        simp at h
      · exact List.eq_nil_of_length_eq_zero (by omega)
    obtain rfl := hc rfl
    go_enter Tryd.func63, Tryd.ntmps63
    go_wp2_with (at_builtin; refine wpList_append_own_none rfl _ _ 22 rfl w.heap.size 5 i0 1 Tryd.underlying22 hi _ 0 [] rfl hown rfl ?_)
    go_ret
    exact ⟨⟨_, _, w.heap.size, rfl, Own.nil _ _ _ _, by simp, Nat.zero_le _, Nat.le_refl _⟩, hal⟩
  | some ad =>
    have hcell : ∀ j u, (xs.map (Value.int .u8))[j]? = some u → (w.alloc (.cells #[] 5)).cell? (ad.add j) = some u := by
      intro j u hj
      have hjl : j < xs.length := by
        have := (List.getElem?_eq_some_iff.1 hj).1
        simpa using this
      obtain ⟨off, ha, hcc⟩ := (hr.up hal) (by omega)
      simp only [Option.some.injEq] at ha
      subst ha
      rw [Addr.add_mid, hcc j hjl]
      simpa [hjl] using hj
    have hone : ∀ u ∈ xs.map (Value.int .u8), u.oneCell' = true := by
      intro u hu
      obtain ⟨x, _, rfl⟩ := List.mem_map.1 hu
      rfl
    go_enter Tryd.func63, Tryd.ntmps63
    go_wp2_with (at_builtin; refine wpList_append_own _ rfl _ _ 22 rfl w.heap.size 5 i0 (.int .u8 0) 1 1 Tryd.underlying22 hi hz0 hz1 hz2 rfl (by decide) (.slice (some ⟨w.heap.size, 0, none⟩) 0 0) 0 [] rfl hown ad xs.length cap (xs.map (Value.int .u8)) rfl (by simp) hcell hone (by unfold maxLen; omega) (by omega) (by simp) ?_; intro v' w1 hown' hgrow _)
    simp only [Nat.zero_add, List.nil_append] at hown'
    obtain ⟨a', c', g', rfl, h1, h2, h3, h4⟩ := Own.of_ownsRow hown'
    have hB : Below w.heap.size w w1 := hal.grown hgrow (by simp) (by intro k hk; simp [Value.ownBlock] at hk; omega)
    clear hown' hgrow hown
    go_wp2
    go_ret
    exact ⟨⟨_, _, g', rfl, h1, h2, h3, h4⟩, hB⟩

set_option maxHeartbeats 400000 in
theorem l1Trim_any1 (w : World) (g : Nat) (a : Option Addr) (cap : Nat) (xs : List Int) (hr : Rd w g a .u8 xs) (hb : Byt xs) (hc : a = none → cap = 0) (hcap : xs.length ≤ cap) (hn : xs.length ≤ 1048576) :
    Calls Tryd.prog 123 #[.slice a xs.length cap] w fun e w' => ∃ ys, Canon ys (bval xs) ∧ ys.length ≤ xs.length ∧ NewRow w.heap.size w' e .u8 ys ∧ Below w.heap.size w w' := by
  go_enter Tryd.func123, Tryd.ntmps123
  go_wp2
  go_loop [3] (fun i => ∃ k : Nat, k ≤ xs.length ∧ i = .int .i64 k ∧ ZeroTo xs k) (fun i => xs.length - (intOf i).toNat)
  case atStart => exact ⟨0, Nat.zero_le _, rfl, fun j hj => absurd hj (by omega)⟩
  case round =>
    obtain ⟨k, hk, rfl, hz⟩ := hrel
    by_cases hlt : k < xs.length
    · obtain ⟨off, rfl, hcc⟩ := hr (by omega)
      have hcx := hcc k hlt
      have R := hz.step
      obtain ⟨x, hx⟩ : ∃ x, x = xs.getD k 0 := ⟨_, rfl⟩
      rw [← hx] at hcx R
      have Hx : Hid (x = xs.getD k 0) := hx
      clear hx
      by_cases h0 : x = 0
      · have R' := R h0
        subst h0
        clear R hcc Hx hz
        go_wp2
        go_round
        case rel => exact ⟨k + 1, by omega, by go_num, R'⟩
        case measure => simp [intOf]; omega
      · have h1 : (x == 0) = false := by simp [h0]
        have C := hz.canon hb (fun _ => by rw [← Hx.out]; exact h0)
        have hr' : Rd w g (some ⟨g, off + k, none⟩) .u8 (xs.drop k) := by
          intro _
          refine ⟨off + k, rfl, fun i hi => ?_⟩
          rw [List.length_drop] at hi
          rw [Nat.add_assoc, hcc (k + i) (by omega)]
          simp [List.getElem?_drop]
        have K := l1Copy_any1 w g (some ⟨g, off + k, none⟩) (cap - k) (xs.drop k) hr' (by simp) (by rw [List.length_drop]; omega)
        rw [List.length_drop] at K
        have HK := hide K
        clear R hcc Hx hz K
        go_wp2_with fail
        refine (unhide HK).mono ?_
        rintro e w1 ⟨⟨a1, c1, g1, rfl, o1, q1, q2, q3⟩, n1⟩
        go_wp2
        go_ret
        exact ⟨_, C, by rw [List.length_drop]; omega, ⟨_, _, _, ret_slice (List.length_drop).symm, o1, q1, q2, q3⟩, n1⟩
    · obtain rfl : k = xs.length := by omega
      have C := hz.canon hb (fun h => absurd h (by omega))
      rw [List.drop_length] at C
      go_wp2_with fail
      · have K := l1Copy_any1 w 0 a 0 [] (Rd.nil _ _ _ _) (fun _ => rfl) (by simp)
        refine K.mono ?_
        rintro e w1 ⟨⟨a1, c1, g1, rfl, o1, q1, q2, q3⟩, n1⟩
        go_wp2
        go_ret
        exact ⟨_, C, Nat.zero_le _, ⟨_, _, _, rfl, o1, q1, q2, q3⟩, n1⟩
      · have K := l1Copy_any1 w 0 (Option.map (fun x => x.add xs.length) a) (cap - xs.length) [] (Rd.nil _ _ _ _) (fun h => by simp at h; rw [hc h]; omega) (by simp)
        refine K.mono ?_
        rintro e w1 ⟨⟨a1, c1, g1, rfl, o1, q1, q2, q3⟩, n1⟩
        go_wp2
        go_ret
        exact ⟨_, C, Nat.zero_le _, ⟨_, _, _, rfl, o1, q1, q2, q3⟩, n1⟩

end Go.Proofs.YthapcapiiknjdaaDoor

/-
  Results that are told as a struct: good, and a value.
-/
namespace Go.Proofs.YthapcapiiknjdaaDoor
set_option maxRecDepth 100000
open Go.RowKit

/-- What is answered for a number: its one form, if it has at most 128 bytes. -/
def ResOf (v : Int) (b : Bool) (ys : List Int) : Prop := ∃ c, Canon c v ∧ ((c.length ≤ 128 ∧ b = true ∧ ys = c) ∨ (128 < c.length ∧ b = false ∧ ys = []))
/-- .. where A holds; else nothing. -/
def NumOf (A : Prop) (v : Int) (b : Bool) (ys : List Int) : Prop := (A ∧ ResOf v b ys) ∨ (¬ A ∧ b = false ∧ ys = [])
theorem ResOf.uniq {v : Int} {b d : Bool} {ys zs : List Int} (h : ResOf v b ys) (k : ResOf v d zs) : b = d ∧ ys = zs := by
  obtain ⟨c, hc, h⟩ := h
  obtain ⟨c', hc', k⟩ := k
  obtain rfl := hc.uniq hc'
  rcases h with ⟨h1, rfl, rfl⟩ | ⟨h1, rfl, rfl⟩
  · rcases k with ⟨k1, rfl, rfl⟩ | ⟨k1, rfl, rfl⟩
    · exact ⟨rfl, rfl⟩
    · omega
  · rcases k with ⟨k1, rfl, rfl⟩ | ⟨k1, rfl, rfl⟩
    · omega
    · exact ⟨rfl, rfl⟩
theorem NumOf.uniq {A : Prop} {v : Int} {b d : Bool} {ys zs : List Int} (h : NumOf A v b ys) (k : NumOf A v d zs) : b = d ∧ ys = zs := by
  rcases h with ⟨h1, h2⟩ | ⟨h1, rfl, rfl⟩
  · rcases k with ⟨k1, k2⟩ | ⟨k1, rfl, rfl⟩
    · exact h2.uniq k2
    · exact absurd h1 k1
  · rcases k with ⟨k1, k2⟩ | ⟨k1, rfl, rfl⟩
    · exact absurd k1 h1
    · exact ⟨rfl, rfl⟩
theorem NumOf.len {A : Prop} {v : Int} {b : Bool} {ys : List Int} (h : NumOf A v b ys) : ys.length ≤ 128 := by
  rcases h with ⟨_, c, _, ⟨h1, _, rfl⟩ | ⟨_, _, rfl⟩⟩ | ⟨_, _, rfl⟩
  · exact h1
  · simp
  · simp

/-- A struct of a truth and a slice that the call made is handed back. -/
def NewRes (B : Nat) (w' : World) (e : Ending) (b : Bool) (ys : List Int) : Prop :=
  ∃ (a : Option Addr) (c g : Nat), e = .returned (.agg #[.bool b, .slice a ys.length c]) ∧ Own w' g a .u8 ys ∧ (a = none → c = 0) ∧ ys.length ≤ c ∧ B ≤ g
theorem NewRes.none {B : Nat} {w : World} (h : B ≤ w.heap.size) : NewRes B w (.returned (.agg #[.bool false, .slice none 0 0])) false [] :=
  ⟨_, 0, w.heap.size, rfl, Own.nil _ _ _ _, by simp, Nat.zero_le _, h⟩

set_option maxHeartbeats 2000000 in
theorem l1Add_any1 (w : World) (g g' : Nat) (a b : Option Addr) (ca cb : Nat) (xs us : List Int) (ha : Rd w g a .u8 xs) (hb : Rd w g' b .u8 us) (hx : Byt xs) (hu : Byt us)
    (hn : xs.length ≤ 4096) (hm : us.length ≤ 4096) :
    Calls Tryd.prog 88 #[.slice a xs.length ca, .slice b us.length cb] w fun e w' => ∃ ys, Canon ys (bval xs + bval us) ∧ NewRow w.heap.size w' e .u8 ys ∧ Below w.heap.size w w' := by
  obtain ⟨i0, hi, hz0, hz1, hz2⟩ := info_parts Tryd.info5
  by_cases hlen : xs.length < us.length
  · have t0 : decide ((xs.length : Int) < (us.length : Int)) = true := by simp; omega
    go_enter Tryd.func88, Tryd.ntmps88
    go_wp2_with (at_make; refine wpList_make_full _ rfl _ _ 22 rfl w.heap.size 5 i0 (.int .u8 0) 1 Tryd.underlying22 hi hz0 hz1 .i64 .i64 _ _ (us.length + 1) rfl rfl (by omega) (by omega) (by rw [hz2]; omega) (by unfold maxLen; omega) (Nat.le_refl _) ?_; intro w1 hown hgrow)
    have hB0 := Blk.of_made hown
    have hN0 : Below w.heap.size w w1 := (Below.refl _ _).grown hgrow (Nat.le_refl _) (by simp)
    clear hown hgrow
    go_loopw [7, 8] (fun q i wr => ∃ (k : Nat) (c : Int) (ys : List Int), k ≤ us.length + 1 ∧ i = .int .i64 k ∧ q = .int .i64 c ∧ (0 ≤ c ∧ c ≤ 1) ∧ (us.length < k → c = 0) ∧ AddTo xs us ys us.length k c ∧ Blk wr w.heap.size .u8 ys ∧ Below w.heap.size w wr) (fun _ i _ => us.length + 1 - (intOf i).toNat)
    case atStart => exact ⟨0, 0, _, Nat.zero_le _, rfl, rfl, ⟨by omega, by omega⟩, fun _ => rfl, ⟨by simp, byt_zeros _, ⟨by omega, by omega⟩, rfl⟩, hB0, hN0⟩
    case round =>
      obtain ⟨k, c, ys, hk, rfl, rfl, hc, hc0, hA, hB, hN⟩ := hrel
      by_cases hlt : k ≤ us.length
      · have R := hA.step hx hu hlt
        have hl : ys.length = us.length + 1 := hA.1
        have hcy : wr.cell? ⟨w.heap.size, us.length - k, none⟩ = some (.int .u8 (ys.getD (us.length - k) 0)) := hB.cell (by omega)
        have hfy := hB.free (us.length - k)
        have hB' := hB.store (us.length - k) ((dig xs k + dig us k + c) % 256)
        have hN' : Below w.heap.size w (wr.setCell ⟨w.heap.size, us.length - k, none⟩ (.int .u8 ((dig xs k + dig us k + c) % 256))) := hN.setCell (Nat.le_refl _) _
        have d1 := dig_byt hx k
        have d2 := dig_byt hu k
        have z1 : us.length < k + 1 → (dig xs k + dig us k + c) / 256 = 0 := fun h => by rw [dig_past xs k (by omega), dig_past us k (by omega)]; omega
        obtain ⟨p, hp⟩ : ∃ p : Nat, us.length - k = p := ⟨_, rfl⟩
        rw [hp] at hcy hfy hB' hN' R
        have p1 : (us.length : Int) - (k : Int) = (p : Int) := by omega
        have p2 : (p : Int) < (us.length : Int) + 1 := by omega
        have ha' := ha.up hN
        have hb' := hb.up hN
        clear hB hN hA hl hp hc0
        go_wp2_with fail
        refine (l1Digit_any wr g a ca xs _ ha' hx (by omega) (by omega) (by omega)).mono ?_
        rintro e w' ⟨rfl, rfl⟩
        rw [Int.toNat_natCast]
        go_wp2_with fail
        refine (l1Digit_any w' g' b cb us _ hb' hu (by omega) (by omega) (by omega)).mono ?_
        rintro e w'' ⟨rfl, rfl⟩
        rw [Int.toNat_natCast]
        generalize dig xs k = x at *
        generalize dig us k = y at *
        have m1 : (x + y + c) % 256 % 256 = (x + y + c) % 256 := by omega
        have R' := hide R
        have z1' := hide z1
        clear R z1
        go_wp2
        go_roundw
        case rel => exact ⟨k + 1, _, _, by omega, by go_num, rfl, ⟨by omega, by omega⟩, z1'.out, R'.out, hB', hN'⟩
        case measure => simp [intOf]; omega
      · obtain rfl : k = us.length + 1 := by omega
        have v := hA.done (Nat.le_of_lt_succ (by omega)) (Nat.le_of_lt_succ (by omega)) (hc0 (by omega))
        have hl : us.length + 1 = ys.length := hA.1.symm
        have V := hide v
        have L := hide hl
        have hyb := hA.2.1
        clear v hl hA hc0
        go_wp2_with fail
        rw [L.out]
        refine (l1Trim_any1 wr _ _ _ ys hB.own0.rd hyb (by simp) (Nat.le_refl _) (by rw [← L.out]; omega)).mono ?_
        rintro e w2 ⟨zs, C, _, ⟨a1, c1, g1, rfl, o1, q1, q2, q3⟩, n2⟩
        rw [V.out] at C
        go_wp2
        go_ret
        exact ⟨zs, C, ⟨_, _, _, rfl, o1, q1, q2, by have := hN.size; omega⟩, nxt hN n2⟩
  · have t0 : decide ((xs.length : Int) < (us.length : Int)) = false := by simp; omega
    go_enter Tryd.func88, Tryd.ntmps88
    go_wp2_with (at_make; refine wpList_make_full _ rfl _ _ 22 rfl w.heap.size 5 i0 (.int .u8 0) 1 Tryd.underlying22 hi hz0 hz1 .i64 .i64 _ _ (xs.length + 1) rfl rfl (by omega) (by omega) (by rw [hz2]; omega) (by unfold maxLen; omega) (Nat.le_refl _) ?_; intro w1 hown hgrow)
    have hB0 := Blk.of_made hown
    have hN0 : Below w.heap.size w w1 := (Below.refl _ _).grown hgrow (Nat.le_refl _) (by simp)
    clear hown hgrow
    go_loopw [7, 8] (fun q i wr => ∃ (k : Nat) (c : Int) (ys : List Int), k ≤ xs.length + 1 ∧ i = .int .i64 k ∧ q = .int .i64 c ∧ (0 ≤ c ∧ c ≤ 1) ∧ (xs.length < k → c = 0) ∧ AddTo xs us ys xs.length k c ∧ Blk wr w.heap.size .u8 ys ∧ Below w.heap.size w wr) (fun _ i _ => xs.length + 1 - (intOf i).toNat)
    case atStart => exact ⟨0, 0, _, Nat.zero_le _, rfl, rfl, ⟨by omega, by omega⟩, fun _ => rfl, ⟨by simp, byt_zeros _, ⟨by omega, by omega⟩, rfl⟩, hB0, hN0⟩
    case round =>
      obtain ⟨k, c, ys, hk, rfl, rfl, hc, hc0, hA, hB, hN⟩ := hrel
      by_cases hlt : k ≤ xs.length
      · have R := hA.step hx hu hlt
        have hl : ys.length = xs.length + 1 := hA.1
        have hcy : wr.cell? ⟨w.heap.size, xs.length - k, none⟩ = some (.int .u8 (ys.getD (xs.length - k) 0)) := hB.cell (by omega)
        have hfy := hB.free (xs.length - k)
        have hB' := hB.store (xs.length - k) ((dig xs k + dig us k + c) % 256)
        have hN' : Below w.heap.size w (wr.setCell ⟨w.heap.size, xs.length - k, none⟩ (.int .u8 ((dig xs k + dig us k + c) % 256))) := hN.setCell (Nat.le_refl _) _
        have d1 := dig_byt hx k
        have d2 := dig_byt hu k
        have z1 : xs.length < k + 1 → (dig xs k + dig us k + c) / 256 = 0 := fun h => by rw [dig_past xs k (by omega), dig_past us k (by omega)]; omega
        obtain ⟨p, hp⟩ : ∃ p : Nat, xs.length - k = p := ⟨_, rfl⟩
        rw [hp] at hcy hfy hB' hN' R
        have p1 : (xs.length : Int) - (k : Int) = (p : Int) := by omega
        have p2 : (p : Int) < (xs.length : Int) + 1 := by omega
        have ha' := ha.up hN
        have hb' := hb.up hN
        clear hB hN hA hl hp hc0
        go_wp2_with fail
        refine (l1Digit_any wr g a ca xs _ ha' hx (by omega) (by omega) (by omega)).mono ?_
        rintro e w' ⟨rfl, rfl⟩
        rw [Int.toNat_natCast]
        go_wp2_with fail
        refine (l1Digit_any w' g' b cb us _ hb' hu (by omega) (by omega) (by omega)).mono ?_
        rintro e w'' ⟨rfl, rfl⟩
        rw [Int.toNat_natCast]
        generalize dig xs k = x at *
        generalize dig us k = y at *
        have m1 : (x + y + c) % 256 % 256 = (x + y + c) % 256 := by omega
        have R' := hide R
        have z1' := hide z1
        clear R z1
        go_wp2
        go_roundw
        case rel => exact ⟨k + 1, _, _, by omega, by go_num, rfl, ⟨by omega, by omega⟩, z1'.out, R'.out, hB', hN'⟩
        case measure => simp [intOf]; omega
      · obtain rfl : k = xs.length + 1 := by omega
        have v := hA.done (Nat.le_of_lt_succ (by omega)) (Nat.le_of_lt_succ (by omega)) (hc0 (by omega))
        have hl : xs.length + 1 = ys.length := hA.1.symm
        have V := hide v
        have L := hide hl
        have hyb := hA.2.1
        clear v hl hA hc0
        go_wp2_with fail
        rw [L.out]
        refine (l1Trim_any1 wr _ _ _ ys hB.own0.rd hyb (by simp) (Nat.le_refl _) (by rw [← L.out]; omega)).mono ?_
        rintro e w2 ⟨zs, C, _, ⟨a1, c1, g1, rfl, o1, q1, q2, q3⟩, n2⟩
        rw [V.out] at C
        go_wp2
        go_ret
        exact ⟨zs, C, ⟨_, _, _, rfl, o1, q1, q2, by have := hN.size; omega⟩, nxt hN n2⟩
end Go.Proofs.YthapcapiiknjdaaDoor

/-
  spec.NumAdd.
-/
namespace Go.Proofs.YthapcapiiknjdaaDoor
set_option maxRecDepth 100000
open Go.RowKit

/-- A cell of a new block of two, behind calls that keep what was there. -/
theorem two_kept {w w1 : World} {x y : Value} {t : TypeId} (n : Below (w.alloc (.cells #[x, y] t)).heap.size (w.alloc (.cells #[x, y] t)) w1) :
    w1.cell? ⟨w.heap.size, 0, none⟩ = some x ∧ w1.cell? ⟨w.heap.size, 1, none⟩ = some y ∧ w1.frozen? ⟨w.heap.size, 0, none⟩ = false ∧ w1.frozen? ⟨w.heap.size, 1, none⟩ = false ∧ w.heap.size < w1.heap.size := by
  have hs : w.heap.size < (w.alloc (.cells #[x, y] t)).heap.size := by simp
  refine ⟨?_, ?_, ?_, ?_, by have := n.size; omega⟩
  · rw [n.cell (p := ⟨w.heap.size, 0, none⟩) hs]; simp [World.cell?_alloc_at]
  · rw [n.cell (p := ⟨w.heap.size, 1, none⟩) hs]; simp [World.cell?_alloc_at]
  · rw [n.frozen (p := ⟨w.heap.size, 0, none⟩) hs]; simp [World.frozen?_alloc_at]
  · rw [n.frozen (p := ⟨w.heap.size, 1, none⟩) hs]; simp [World.frozen?_alloc_at]

/-- A block of two cells, known and free. -/
structure Two (w : World) (p : Nat) (x y : Value) : Prop where
  c0 : w.cell? ⟨p, 0, none⟩ = some x
  c1 : w.cell? ⟨p, 1, none⟩ = some y
  f0 : w.frozen? ⟨p, 0, none⟩ = false
  f1 : w.frozen? ⟨p, 1, none⟩ = false
theorem Two.lt {w : World} {p : Nat} {x y : Value} (h : Two w p x y) : p < w.heap.size := block_lt_of_cell h.c0
theorem Two.of_block {w w' : World} {p : Nat} {x y : Value} (h : Two w p x y) (hb : w'.heap[p]? = w.heap[p]?) : Two w' p x y :=
  ⟨(World.cell?_of_block (a := ⟨p, 0, none⟩) hb).trans h.c0, (World.cell?_of_block (a := ⟨p, 1, none⟩) hb).trans h.c1, (World.frozen?_of_block (a := ⟨p, 0, none⟩) hb).trans h.f0, (World.frozen?_of_block (a := ⟨p, 1, none⟩) hb).trans h.f1⟩
theorem Two.up {w w' : World} {p : Nat} {x y : Value} (h : Two w p x y) (n : Below w.heap.size w w') : Two w' p x y := h.of_block (n.block p h.lt)
theorem Two.only {w w' : World} {p g : Nat} {x y : Value} (h : Two w p x y) (n : Only g w w') (hne : p ≠ g) : Two w' p x y := h.of_block (n.block p hne)
theorem Two.new (w : World) (x y : Value) (t : TypeId) : Two (w.alloc (.cells #[x, y] t)) w.heap.size x y := by
  obtain ⟨k1, k2, k3, k4, _⟩ := two_kept (Below.refl (w.alloc (.cells #[x, y] t)).heap.size (w.alloc (.cells #[x, y] t)))
  exact ⟨k1, k2, k3, k4⟩

/-- The result is laid into its cell: all else stands. -/
theorem two_laid {w w2 : World} {g : Nat} {a : Option Addr} {zs : List Int} {u v : Value} (n : Below w.heap.size w w2) (o : Own w2 g a .u8 zs) (hg : w.heap.size < g) :
    Own ((w2.setCell ⟨w.heap.size, 0, none⟩ u).setCell ⟨w.heap.size, 1, none⟩ v) g a .u8 zs ∧ Below w.heap.size w ((w2.setCell ⟨w.heap.size, 0, none⟩ u).setCell ⟨w.heap.size, 1, none⟩ v) := by
  have h1 := Only.setCell w2 w.heap.size 0 u
  have h2 := Only.setCell (w2.setCell ⟨w.heap.size, 0, none⟩ u) w.heap.size 1 v
  have h3 := h1.trans h2
  exact ⟨o.only h3 (fun _ => by omega), n.trans (h3.below (Nat.le_refl _))⟩

end Go.Proofs.YthapcapiiknjdaaDoor

/-
  The laws' helpers on points: two slices.
-/
namespace Go.Proofs.YthapcapiiknjdaaDoor
set_option maxRecDepth 100000
open Go.RowKit

/-- Of what was there nothing but the blocks g and h has turned. -/
structure ButP (g h : Nat) (w w' : World) : Prop where
  os : w'.os = w.os
  tape : w'.tape = w.tape
  output : w'.output = w.output
  size : w.heap.size ≤ w'.heap.size
  block : ∀ k, k < w.heap.size → k ≠ g → k ≠ h → w'.heap[k]? = w.heap[k]?
theorem ButP.of {g h : Nat} {a b c d : World} (n : Below a.heap.size a b) (k : Only g b c) (l : Only h c d) : ButP g h a d :=
  ⟨(l.os.trans k.os).trans n.os, (l.tape.trans k.tape).trans n.tape, (l.output.trans k.output).trans n.output, by rw [l.size, k.size]; exact n.size, fun i hi h1 h2 => ((l.block i h2).trans (k.block i h1)).trans (n.block i hi)⟩
theorem ButP.below {g h B : Nat} {w w' : World} (n : ButP g h w w') (hB : B ≤ g) (hC : B ≤ h) (hs : B ≤ w.heap.size) : Below B w w' := ⟨n.os, n.tape, n.output, n.size, fun k hk => n.block k (by omega) (by omega) (by omega)⟩
theorem ButP.up {g h : Nat} {a b c : World} (n : ButP g h a b) (k : Below b.heap.size b c) : ButP g h a c :=
  ⟨k.os.trans n.os, k.tape.trans n.tape, k.output.trans n.output, Nat.le_trans n.size k.size, fun i hi h1 h2 => (k.block i (Nat.lt_of_lt_of_le hi n.size)).trans (n.block i hi h1 h2)⟩
theorem ButP.from {g h : Nat} {a b c : World} (k : Below a.heap.size a b) (n : ButP g h b c) : ButP g h a c :=
  ⟨n.os.trans k.os, n.tape.trans k.tape, n.output.trans k.output, Nat.le_trans k.size n.size, fun i hi h1 h2 => (n.block i (Nat.lt_of_lt_of_le hi k.size) h1 h2).trans (k.block i hi)⟩
theorem Two.butP {w w' : World} {p g h : Nat} {x y : Value} (t : Two w p x y) (n : ButP g h w w') (h1 : p ≠ g) (h2 : p ≠ h) : Two w' p x y := t.of_block (n.block p t.lt h1 h2)
/-- Two rows of bytes. -/
structure PrP (w : World) (g : Nat) (a : Option Addr) (xs : List Int) (g' : Nat) (a' : Option Addr) (ys : List Int) : Prop where
  l : Own w g a .u8 xs
  r : Own w g' a' .u8 ys
theorem PrP.up {w w' : World} {g g' : Nat} {a a' : Option Addr} {xs ys : List Int} (h : PrP w g a xs g' a' ys) (n : Below w.heap.size w w') : PrP w' g a xs g' a' ys := ⟨h.l.up n, h.r.up n⟩
theorem PrP.only {w w' : World} {g g' k : Nat} {a a' : Option Addr} {xs ys : List Int} (h : PrP w g a xs g' a' ys) (n : Only k w w') (h1 : 0 < xs.length → g ≠ k) (h2 : 0 < ys.length → g' ≠ k) : PrP w' g a xs g' a' ys := ⟨h.l.only n h1, h.r.only n h2⟩
theorem Own.butP {w w' : World} {g k l : Nat} {a : Option Addr} {i : IntKind} {xs : List Int} (h : Own w g a i xs) (ho : ButP k l w w') (h1 : 0 < xs.length → g ≠ k ∧ g ≠ l) : Own w' g a i xs := by
  by_cases h0 : 0 < xs.length
  · exact h.of_block (ho.block g (h.rd.lt h0) (h1 h0).1 (h1 h0).2)
  · exact fun h1 => absurd h1 h0
theorem PrP.butP {w w' : World} {g g' k l : Nat} {a a' : Option Addr} {xs ys : List Int} (h : PrP w g a xs g' a' ys) (n : ButP k l w w') (h1 : 0 < xs.length → g ≠ k ∧ g ≠ l) (h2 : 0 < ys.length → g' ≠ k ∧ g' ≠ l) : PrP w' g a xs g' a' ys := ⟨h.l.butP n h1, h.r.butP n h2⟩
/-- A new point whose two lists lie apart. -/
def NewP2 (B : Nat) (w' : World) (e : Ending) (xs ys : List Int) : Prop :=
  ∃ (a : Option Addr) (c g : Nat) (a' : Option Addr) (c' g' : Nat), e = .returned (.agg #[.slice a xs.length c, .slice a' ys.length c']) ∧ Own w' g a .u8 xs ∧ Own w' g' a' .u8 ys ∧ B ≤ g ∧ B ≤ g' ∧ (0 < xs.length → 0 < ys.length → g ≠ g')
theorem NewP2.nil {B : Nat} {w : World} : NewP2 B w (.returned (.agg #[.slice none 0 0, .slice none 0 0])) [] [] := ⟨none, 0, B, none, 0, B, rfl, Own.nil _ _ _ _, Own.nil _ _ _ _, Nat.le_refl _, Nat.le_refl _, fun h => absurd h (by simp)⟩
/-- A row that is not read may be said to lie anywhere. -/
theorem NewP2.at {B B' : Nat} {w : World} {e : Ending} {ys ss : List Int} (h : NewP2 B w e ys ss) (h1 : B' < B) (h2 : B' < w.heap.size) :
    ∃ (a : Option Addr) (c g : Nat) (a' : Option Addr) (c' g' : Nat), e = .returned (.agg #[.slice a ys.length c, .slice a' ss.length c']) ∧ PrP w g a ys g' a' ss ∧ B' ≤ g ∧ g < w.heap.size ∧ B' ≤ g' ∧ g' < w.heap.size ∧ (0 < ys.length → B ≤ g ∧ g ≠ g') ∧ (0 < ss.length → B ≤ g' ∧ g ≠ g') := by
  obtain ⟨a, c, g, a', c', g', he, o, o', hg, hg', hne⟩ := h
  by_cases h0 : 0 < ys.length
  · by_cases k0 : 0 < ss.length
    · exact ⟨a, c, g, a', c', g', he, ⟨o, o'⟩, by omega, o.rd.lt h0, by omega, o'.rd.lt k0, fun _ => ⟨hg, hne h0 k0⟩, fun _ => ⟨hg', hne h0 k0⟩⟩
    · obtain rfl : ss = [] := List.eq_nil_of_length_eq_zero (by omega)
      exact ⟨a, c, g, a', c', B', he, ⟨o, Own.nil _ _ _ _⟩, by omega, o.rd.lt h0, Nat.le_refl _, h2, fun _ => ⟨hg, by omega⟩, fun h => absurd h (by simp)⟩
  · obtain rfl : ys = [] := List.eq_nil_of_length_eq_zero (by omega)
    by_cases k0 : 0 < ss.length
    · exact ⟨a, c, B', a', c', g', he, ⟨Own.nil _ _ _ _, o'⟩, Nat.le_refl _, h2, by omega, o'.rd.lt k0, fun h => absurd h (by simp), fun _ => ⟨hg', by omega⟩⟩
    · obtain rfl : ss = [] := List.eq_nil_of_length_eq_zero (by omega)
      exact ⟨a, c, B', a', c', B', he, ⟨Own.nil _ _ _ _, Own.nil _ _ _ _⟩, Nat.le_refl _, h2, Nat.le_refl _, h2, fun h => absurd h (by simp), fun h => absurd h (by simp)⟩

theorem rd_of_row' {w : World} {a : Option Addr} {len cap : Nat} {zs : List Int}
    (h : (a = none ∧ len = 0 ∧ cap = 0 ∧ zs = []) ∨ ∃ x, a = some x ∧ len ≤ cap ∧ cap ≤ maxLen ∧ zs.length = cap ∧ (∀ i, i < zs.length → w.cell? (x.add i) = some (.int .u8 (zs.getD i 0))) ∧ ∀ n ∈ zs, (Lit.int .u8 n).wf = true) :
    ∃ (g : Nat) (xs : List Int), xs.length = len ∧ Rd w g a .u8 xs ∧ Byt xs ∧ xs.length < 9223372036854775808 := by
  obtain ⟨g, xs, hl, r, b⟩ := rd_of_row h
  refine ⟨g, xs, hl, r, b, ?_⟩
  rcases h with ⟨_, h, _, _⟩ | ⟨_, _, h1, h2, _⟩
  · omega
  · have e : maxLen = 9223372036854775807 := by decide
    omega
theorem szByteS_any (w : World) (a : Option Addr) (n c : Nat) (left : Int) (hn : n < 9223372036854775808) (hl : 0 ≤ left) (hm : left ≤ 1048576) :
    Calls Tryd.prog 52 #[.slice a n c, .int .i64 left] w fun e w' => e = .returned (.int .i64 (if left < (n : Int) then -1 else left - (n : Int))) ∧ w' = w := by
  by_cases h : left < (n : Int)
  · have t1 : decide (left - (n : Int) < 0) = true := by simp; omega
    rw [if_pos h]
    go_enter Tryd.func52, Tryd.ntmps52
    go_wp2
    go_ret
    exact ⟨rfl, rfl⟩
  · have t1 : decide (left - (n : Int) < 0) = false := by simp; omega
    rw [if_neg h]
    go_enter Tryd.func52, Tryd.ntmps52
    go_wp2
    go_ret
    exact ⟨rfl, rfl⟩

set_option maxHeartbeats 1000000 in
theorem szPoint_any (w : World) (a a' : Option Addr) (n c n' c' : Nat) (left : Int) (hn : n < 9223372036854775808) (hn' : n' < 9223372036854775808) (hl : 0 ≤ left) (hm : left ≤ 1048576) :
    Calls Tryd.prog 19 #[.agg #[.slice a n c, .slice a' n' c'], .int .i64 left] w fun e w' => e = .returned (.int .i64 (if left < (n : Int) + (n' : Int) then -1 else left - (n : Int) - (n' : Int))) ∧ Below w.heap.size w w' := by
  have n1 : Below w.heap.size w (w.alloc (.cells #[.slice a n c, .slice a' n' c'] 29)) := (Below.refl _ _).alloc (Nat.le_refl _) _
  have T1 := Two.new w (.slice a n c) (.slice a' n' c') 29
  have S1 := fun W => szByteS_any W a n c left hn (by omega) (by omega)
  by_cases h : left < (n : Int)
  · rw [if_pos (show left < (n : Int) + (n' : Int) by omega)]
    rw [if_pos h] at S1
    go_enter Tryd.func19, Tryd.ntmps19
    go_wp2_with fail
    generalize w.alloc (.cells #[.slice a n c, .slice a' n' c'] 29) = w1 at *
    refine (S1 w1).mono ?_
    rintro e w2 ⟨rfl, rfl⟩
    go_wp2
    go_ret
    exact ⟨rfl, n1⟩
  · have t1 : decide (left - (n : Int) < 0) = false := by simp; omega
    have S2 := fun W => szByteS_any W a' n' c' (left - (n : Int)) hn' (by omega) (by omega)
    rw [if_neg h] at S1
    by_cases h2 : left - (n : Int) < (n' : Int)
    · rw [if_pos (show left < (n : Int) + (n' : Int) by omega)]
      rw [if_pos h2] at S2
      go_enter Tryd.func19, Tryd.ntmps19
      go_wp2_with fail
      generalize w.alloc (.cells #[.slice a n c, .slice a' n' c'] 29) = w1 at *
      refine (S1 w1).mono ?_
      rintro e w2 ⟨rfl, rfl⟩
      have q2 := T1.c1
      go_wp2_with fail
      refine (S2 _).mono ?_
      rintro e w3 ⟨rfl, rfl⟩
      go_wp2
      go_ret
      exact ⟨rfl, n1⟩
    · have t2 : decide (left - (n : Int) - (n' : Int) < 0) = false := by simp; omega
      rw [if_neg (show ¬ left < (n : Int) + (n' : Int) by omega)]
      rw [if_neg h2] at S2
      go_enter Tryd.func19, Tryd.ntmps19
      go_wp2_with fail
      generalize w.alloc (.cells #[.slice a n c, .slice a' n' c'] 29) = w1 at *
      refine (S1 w1).mono ?_
      rintro e w2 ⟨rfl, rfl⟩
      have q2 := T1.c1
      go_wp2_with fail
      refine (S2 _).mono ?_
      rintro e w3 ⟨rfl, rfl⟩
      go_wp2
      go_ret
      exact ⟨rfl, n1⟩

set_option maxHeartbeats 1000000 in
theorem eqPoint_same (w : World) (g g' h h' : Nat) (a b p q : Option Addr) (ca cb cp cq : Nat) (ys ss : List Int) (ha : PrP w g a ys h p ss) (hb : PrP w g' b ys h' q ss) (hn : ys.length ≤ 1048576) (hm : ss.length ≤ 1048576) :
    Calls Tryd.prog 16 #[.agg #[.slice a ys.length ca, .slice p ss.length cp], .agg #[.slice b ys.length cb, .slice q ss.length cq]] w fun e w' => e = .returned (.bool true) ∧ Below w.heap.size w w' := by
  have n1 : Below w.heap.size w (w.alloc (.cells #[.slice a ys.length ca, .slice p ss.length cp] 24)) := (Below.refl _ _).alloc (Nat.le_refl _) _
  have n2 : Below w.heap.size w ((w.alloc (.cells #[.slice a ys.length ca, .slice p ss.length cp] 24)).alloc (.cells #[.slice b ys.length cb, .slice q ss.length cq] 24)) := n1.alloc (by simp) _
  have T2 := Two.new (w.alloc (.cells #[.slice a ys.length ca, .slice p ss.length cp] 24)) (.slice b ys.length cb) (.slice q ss.length cq) 24
  have T1 := (Two.new w (.slice a ys.length ca) (.slice p ss.length cp) 24).up (w' := (w.alloc (.cells #[.slice a ys.length ca, .slice p ss.length cp] 24)).alloc (.cells #[.slice b ys.length cb, .slice q ss.length cq] 24)) ((Below.refl _ _).alloc (Nat.le_refl _) _)
  have s1 : (w.alloc (.cells #[.slice a ys.length ca, .slice p ss.length cp] 24)).heap.size = w.heap.size + 1 := by simp
  rw [s1] at T2
  have HT1 := hide T1
  have HT2 := hide T2
  clear T1 T2 s1
  go_enter Tryd.func16, Tryd.ntmps16
  go_wp2_with fail
  generalize (w.alloc (.cells #[.slice a ys.length ca, .slice p ss.length cp] 24)).alloc (.cells #[.slice b ys.length cb, .slice q ss.length cq] 24) = w2 at *
  refine (eqByteS_same w2 g g' a b ca cb ys (ha.l.up n2).rd (hb.l.up n2).rd hn).mono ?_
  rintro e w3 ⟨rfl, n3⟩
  have T1 := (unhide HT1).up n3
  have T2 := (unhide HT2).up n3
  have N3 := nxt n2 n3
  have k11 := T1.c0
  have k12 := T1.c1
  have k21 := T2.c0
  have k22 := T2.c1
  go_wp2_with fail
  refine (eqByteS_same w3 h h' p q cp cq ss (ha.r.up N3).rd (hb.r.up N3).rd hm).mono ?_
  rintro e w4 ⟨rfl, n4⟩
  go_wp2
  go_ret
  exact ⟨rfl, nxt N3 n4⟩

set_option maxHeartbeats 1000000 in
theorem markPoint_any (w : World) (g h : Nat) (a p : Option Addr) (ca cp : Nat) (ys ss : List Int) (k : Int) (ha : PrP w g a ys h p ss) (hn : ys.length ≤ 1048576) (hm : ss.length ≤ 1048576) (k0 : 0 ≤ k) (k1 : k ≤ 134217728) (l1 : 0 < ys.length → g ≠ h) (l2 : 0 < ss.length → g ≠ h) (lg : g < w.heap.size) :
    Calls Tryd.prog 17 #[.agg #[.slice a ys.length ca, .slice p ss.length cp], .int .i64 k] w fun e w' => e = .returned (.int .i64 (k + (ys.length : Int) + (ss.length : Int))) ∧ PrP w' g a (marks k ys.length) h p (marks (k + (ys.length : Int)) ss.length) ∧ ButP g h w w' := by
  have n1 : Below w.heap.size w (w.alloc (.cells #[.slice a ys.length ca, .slice p ss.length cp] 24)) := (Below.refl _ _).alloc (Nat.le_refl _) _
  have T1 := Two.new w (.slice a ys.length ca) (.slice p ss.length cp) 24
  go_enter Tryd.func17, Tryd.ntmps17
  go_wp2_with fail
  generalize w.alloc (.cells #[.slice a ys.length ca, .slice p ss.length cp] 24) = w1 at *
  have o1 := ha.up n1
  refine (markByteS_any w1 g a ca ys k o1.l hn k0 (by omega)).mono ?_
  rintro e w2 ⟨rfl, o2, O2⟩
  have T2 := T1.only O2 (by omega)
  have q2 := T2.c1
  have o3 := o1.r.only O2 (fun h => by have := l2 h; omega)
  go_wp2_with fail
  refine (markByteS_any w2 h p cp ss (k + (ys.length : Int)) o3 hm (by omega) (by omega)).mono ?_
  rintro e w3 ⟨rfl, o4, O4⟩
  go_wp2
  go_ret
  exact ⟨rfl, ⟨o2.only O4 (fun h => l1 (by simpa [marks] using h)), o4⟩, ButP.of n1 O2 O4⟩

set_option maxHeartbeats 1000000 in
theorem heldPoint_any (w : World) (g h : Nat) (a p : Option Addr) (ca cp n m : Nat) (k : Int) (ha : PrP w g a (marks k n) h p (marks (k + (n : Int)) m)) (hn : n ≤ 1048576) (hm : m ≤ 1048576) (k0 : 0 ≤ k) (k1 : k ≤ 134217728) :
    Calls Tryd.prog 18 #[.agg #[.slice a n ca, .slice p m cp], .int .i64 k] w fun e w' => e = .returned (.int .i64 (k + (n : Int) + (m : Int))) ∧ Below w.heap.size w w' := by
  have n1 : Below w.heap.size w (w.alloc (.cells #[.slice a n ca, .slice p m cp] 24)) := (Below.refl _ _).alloc (Nat.le_refl _) _
  have T1 := Two.new w (.slice a n ca) (.slice p m cp) 24
  have t1 : decide (k + (n : Int) < 0) = false := by simp; omega
  have t2 : decide (k + (n : Int) + (m : Int) < 0) = false := by simp; omega
  go_enter Tryd.func18, Tryd.ntmps18
  go_wp2_with fail
  generalize w.alloc (.cells #[.slice a n ca, .slice p m cp] 24) = w1 at *
  have o1 := ha.up n1
  refine (heldByteS_any w1 g a ca n k o1.l.rd hn k0 (by omega)).mono ?_
  rintro e w2 ⟨rfl, rfl⟩
  have q2 := T1.c1
  go_wp2_with fail
  refine (heldByteS_any w2 h p cp m (k + (n : Int)) o1.r.rd hm (by omega) (by omega)).mono ?_
  rintro e w3 ⟨rfl, rfl⟩
  go_wp2
  go_ret
  exact ⟨rfl, n1⟩

theorem Two.set0 {w : World} {p : Nat} {x y : Value} (h : Two w p x y) (u : Value) : Two (w.setCell ⟨p, 0, none⟩ u) p u y :=
  ⟨World.cell?_setCell_same _ _ _ h.c0, by rw [World.cell?_setCell_other (h := by simp)]; exact h.c1, by rw [World.frozen?_setCell]; exact h.f0, by rw [World.frozen?_setCell]; exact h.f1⟩
theorem Two.set1 {w : World} {p : Nat} {x y : Value} (h : Two w p x y) (u : Value) : Two (w.setCell ⟨p, 1, none⟩ u) p x u :=
  ⟨by rw [World.cell?_setCell_other (h := by simp)]; exact h.c0, World.cell?_setCell_same _ _ _ h.c1, by rw [World.frozen?_setCell]; exact h.f0, by rw [World.frozen?_setCell]; exact h.f1⟩
abbrev nilP : Obj := .cells #[.slice none 0 0, .slice none 0 0] 24
set_option maxHeartbeats 1000000 in
theorem toPoint_any (w : World) (g g' : Nat) (a a' : Option Addr) (c c' : Nat) (xs ys : List Int) (hx : Rd w g a .u8 xs) (hy : Rd w g' a' .u8 ys) (hn : xs.length ≤ 1048576) (hm : ys.length ≤ 1048576) :
    Calls Tryd.prog 21 #[.agg #[.slice a xs.length c, .slice a' ys.length c']] w fun e w' => ∃ p q : Nat, e = .returned (.agg #[.slice (some ⟨p, 0, none⟩) xs.length xs.length, .slice (some ⟨q, 0, none⟩) ys.length ys.length]) ∧ Blk w' p .u8 xs ∧ Blk w' q .u8 ys ∧ w.heap.size ≤ p ∧ p < q ∧ Below w.heap.size w w' := by
  have n1 : Below w.heap.size w (w.alloc (.cells #[.slice a xs.length c, .slice a' ys.length c'] 29)) := (Below.refl _ _).alloc (Nat.le_refl _) _
  have T1 := Two.new w (.slice a xs.length c) (.slice a' ys.length c') 29
  have s1 : (w.alloc (.cells #[.slice a xs.length c, .slice a' ys.length c'] 29)).heap.size = w.heap.size + 1 := by simp
  go_enter Tryd.func21, Tryd.ntmps21
  go_wp2_with fail
  generalize w.alloc (.cells #[.slice a xs.length c, .slice a' ys.length c'] 29) = wa at *
  have T2 := Two.new wa (.slice none 0 0) (.slice none 0 0) 24
  have n2 : Below wa.heap.size wa (wa.alloc nilP) := (Below.refl _ _).alloc (Nat.le_refl _) _
  have s2 : (wa.alloc nilP).heap.size = w.heap.size + 1 + 1 := by simp [s1]
  have T1' := T1.up n2
  rw [s1] at T2
  change Calls _ _ _ ((wa.alloc nilP).alloc nilP) _
  change Two (wa.alloc nilP) _ _ _ at T2
  generalize wa.alloc nilP = wb at *
  have T3 := Two.new wb (.slice none 0 0) (.slice none 0 0) 24
  have n3 : Below wb.heap.size wb (wb.alloc nilP) := (Below.refl _ _).alloc (Nat.le_refl _) _
  have s3 : (wb.alloc nilP).heap.size = w.heap.size + 1 + 1 + 1 := by simp [s2]
  rw [s2] at T3
  change Two (wb.alloc nilP) _ _ _ at T3
  have T1'' := T1'.up n3
  have T2' := T2.up n3
  generalize wb.alloc nilP = wc at *
  have N := nxt (nxt n1 n2) n3
  clear T1 T1' T2 n1 n2 n3 s1 s2
  refine (toByteS_any wc g a c xs (hx.up N) hn).mono ?_
  rintro r w1 ⟨rfl, B1, k1⟩
  have N1 := nxt N k1
  have t1 := T1''.up k1
  have t2 := T2'.up k1
  have t3 := T3.up k1
  have L1 := B1.lt
  clear T1'' T2' T3 N k1
  rw [s3] at B1 L1
  have e0 := t1.c1
  have f0 := t3.f0
  have c0 := t3.c0
  go_wp2_with fail
  have t1' := t1.of_block (heap_setCell_other w1 ⟨w.heap.size + 1 + 1, 0, none⟩ w.heap.size (.slice (some ⟨w.heap.size + 1 + 1 + 1, 0, none⟩) xs.length xs.length) (by show w.heap.size ≠ w.heap.size + 1 + 1; omega))
  have t2' := t2.of_block (heap_setCell_other w1 ⟨w.heap.size + 1 + 1, 0, none⟩ (w.heap.size + 1) (.slice (some ⟨w.heap.size + 1 + 1 + 1, 0, none⟩) xs.length xs.length) (by show w.heap.size + 1 ≠ w.heap.size + 1 + 1; omega))
  have t3' := t3.set0 (.slice (some ⟨w.heap.size + 1 + 1 + 1, 0, none⟩) xs.length xs.length)
  have B1' := B1.of_block (heap_setCell_other w1 ⟨w.heap.size + 1 + 1, 0, none⟩ (w.heap.size + 1 + 1 + 1) (.slice (some ⟨w.heap.size + 1 + 1 + 1, 0, none⟩) xs.length xs.length) (by show w.heap.size + 1 + 1 + 1 ≠ w.heap.size + 1 + 1; omega))
  have N2 := N1.setCell (p := ⟨w.heap.size + 1 + 1, 0, none⟩) (by show w.heap.size ≤ w.heap.size + 1 + 1; omega) (.slice (some ⟨w.heap.size + 1 + 1 + 1, 0, none⟩) xs.length xs.length)
  clear t1 t2 t3 B1 N1 e0 f0 c0
  have L2 := B1'.lt
  generalize w1.setCell ⟨w.heap.size + 1 + 1, 0, none⟩ (.slice (some ⟨w.heap.size + 1 + 1 + 1, 0, none⟩) xs.length xs.length) = w2 at *
  refine (toByteS_any w2 g' a' c' ys (hy.up N2) hm).mono ?_
  rintro r w3 ⟨rfl, B3, k3⟩
  have N3 := nxt N2 k3
  have t2 := t2'.up k3
  have t3 := t3'.up k3
  have B1 := B1'.up k3
  clear t1' t2' t3' B1' N2 k3
  obtain ⟨q, hq⟩ : ∃ q, q = w2.heap.size := ⟨_, rfl⟩
  rw [← hq] at B3 L2
  have c0 := t3.c0
  have c1 := t3.c1
  have f1 := t3.f1
  have d0 := t2.c0
  have d1 := t2.c1
  have e0 := t2.f0
  have e1 := t2.f1
  rw [← hq]
  clear hq
  have L3 := B3.lt
  have b1 := Only.setCell w3 (w.heap.size + 1 + 1) 1 (.slice (some ⟨q, 0, none⟩) ys.length ys.length)
  have t3' := t3.set1 (.slice (some ⟨q, 0, none⟩) ys.length ys.length)
  have t2' := t2.only b1 (by omega)
  have Bx := B1.of_block (b1.block (w.heap.size + 1 + 1 + 1) (by omega))
  have By := B3.of_block (b1.block q (by omega))
  have N4 := N3.trans (b1.below (B := w.heap.size) (by omega))
  go_wp2
  generalize w3.setCell ⟨w.heap.size + 1 + 1, 1, none⟩ (.slice (some ⟨q, 0, none⟩) ys.length ys.length) = w4 at *
  have b2 := (Only.setCell w4 (w.heap.size + 1) 0 (.slice (some ⟨w.heap.size + 1 + 1 + 1, 0, none⟩) xs.length xs.length)).trans (Only.setCell _ (w.heap.size + 1) 1 (.slice (some ⟨q, 0, none⟩) ys.length ys.length))
  have t4 := (t2'.set0 (.slice (some ⟨w.heap.size + 1 + 1 + 1, 0, none⟩) xs.length xs.length)).set1 (.slice (some ⟨q, 0, none⟩) ys.length ys.length)
  have Bx' := Bx.of_block (b2.block (w.heap.size + 1 + 1 + 1) (by omega))
  have By' := By.of_block (b2.block q (by omega))
  have N5 := N4.trans (b2.below (B := w.heap.size) (by omega))
  have k0 := t4.c0
  have k1 := t4.c1
  exact bodyPost_ret (v := .agg #[.slice (some ⟨w.heap.size + 1 + 1 + 1, 0, none⟩) xs.length xs.length, .slice (some ⟨q, 0, none⟩) ys.length ys.length]) (by simp [results, Tryd.results21, go_sem, k0, k1]) rfl ⟨_, q, rfl, Bx', By', by omega, by omega, N5⟩
end Go.Proofs.YthapcapiiknjdaaDoor
