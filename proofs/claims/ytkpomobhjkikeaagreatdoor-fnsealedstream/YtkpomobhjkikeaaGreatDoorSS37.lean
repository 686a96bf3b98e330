import Derived.Test.YtkpomobhjkikeaaGreatDoorSS18
import Derived.Test.YtkpomobhjkikeaaGreatDoorSS36
import Derived.Test.YtkpomobhjkikeaaGreatDoorSS32
import Derived.Deep.DeepCutAuto
namespace Go.Proofs.YtkpomobhjkikeaaGreatDoor
set_option maxRecDepth 100000
open Go Go.RowKit Go.Shelf
attribute [local go_sem] Oper.semAt_some
def wsF (ys : List Int) (pl : Nat) (xs : List Int) : Nat → List Int
  | 0 => ys
  | k + 1 => (wsF ys pl xs k).set (pl + k) (lw xs (4 * k))
theorem wsF_len (ys : List Int) (pl : Nat) (xs : List Int) : ∀ k, (wsF ys pl xs k).length = ys.length
  | 0 => rfl
  | k + 1 => by rw [wsF, List.length_set]; exact wsF_len ys pl xs k
theorem wsF_ws {ys : List Int} (h : Ws ys) (pl : Nat) {xs : List Int} (hb : Byt xs) : ∀ k, Ws (wsF ys pl xs k)
  | 0 => h
  | k + 1 => (wsF_ws h pl hb k).set _ (lw_w4 hb _)
theorem lw_part {xs : List Int} (s : Nat) : lw ((xs.drop s).take 4) 0 = lw xs s := by
  unfold lw
  rw [part_get xs s 4 0 (by decide), part_get xs s 4 (0 + 1) (by decide), part_get xs s 4 (0 + 2) (by decide), part_get xs s 4 (0 + 3) (by decide)]
  simp only [Nat.zero_add, Nat.add_zero]
structure FlI (w : World) (q g o pl N : Nat) (xs ys : List Int) (pre : List (PcN4 N)) (W : World) : Prop where
  told : ∃ zs : List Int, zs.length = 16 ∧ Blk W q .u32 zs ∧ (pre.map (·.1) = List.range pre.length → zs = wsF ys pl xs pre.length)
  ptr : W.cell? ⟨w.heap.size, 0, none⟩ = some (.pointer (some ⟨q, 0, none⟩))
  num : W.cell? ⟨w.heap.size + 1, 0, none⟩ = some (.int .i64 ((pl + pre.length : Nat) : Int))
  numF : W.frozen? ⟨w.heap.size + 1, 0, none⟩ = false
  lst : Rd W g (some ⟨g, o, none⟩) .u8 xs
  siz : w.heap.size + 4 ≤ W.heap.size
  bel : Below q w W
theorem flI_own {w : World} {q g o pl N : Nat} {xs ys : List Int} {B : Nat} (hB : q ≤ B) (hq : q ≤ w.heap.size) : OwnFrom B (FlI w q g o pl N xs ys) := by
  intro s W W' row h hg hr
  have hr' : ∀ r, row = some r → ∃ o : Obj, W.heap[r]? = some o ∧ o.isCells = false := fun r e => (hr r e).2
  obtain ⟨zs, z1, z2, z3⟩ := h.told
  refine ⟨⟨zs, z1, blk_ofK z2 hg hr', z3⟩, cell_kept h.ptr hg hr', cell_kept h.num hg hr', (frozen_kept h.num hg hr').trans h.numF, rd_ofK h.lst hg hr', Nat.le_trans h.siz hg.size, ?_⟩
  exact h.bel.grown hg (Nat.le_trans hq h.bel.size) (fun k e => Nat.le_trans hB (hr k e).1)
set_option maxRecDepth 100000 in
set_option maxHeartbeats 4000000 in
theorem fill_any (w : World) (q : Nat) (ys : List Int) (hY : Blk w q .u32 ys) (yl : ys.length = 16) (pl n : Nat) (hp : pl + n ≤ 16) (h0 : 0 < n) (g : Nat) (a : Option Addr) (c : Nat) (xs : List Int) (hr : Rd w g a .u8 xs) (hb : Byt xs) (hl : xs.length = 4 * n) (hc : xs.length ≤ c) (hg : g < q) :
    Calls Tryz.prog 85 #[.pointer (some ⟨q, 0, none⟩), .int .i64 (pl : Int), .slice a xs.length c] w fun e w' => e = .returned (.tuple #[]) ∧ Blk w' q .u32 (wsF ys pl xs n) ∧ Below q w w' := by
  obtain ⟨o, ea, hcs⟩ := hr (by omega)
  subst ea
  have HL := hide hl
  have HN := hide (show (xs.length + 3) / 4 = n by omega)
  clear hcs hl
  have ql := hY.lt
  refine (callsIn_wide (n := 5)).1 (callsIn_of_wp_marks Tryz.func85 rfl trivial ?_ rfl)
  refine wpIn_wide.2 ?_
  simp only [Tryz.ntmps85, List.size_toArray, List.length_cons, List.length_nil, Nat.reduceAdd, Nat.reduceSub, Array.replicate_succ, Array.replicate_zero, List.push_toArray, List.append_toArray, List.nil_append, List.cons_append]
  have n1 : Below w.heap.size w (w.alloc (.cells #[.pointer (some ⟨q, 0, none⟩)] 160)) := (Below.refl _ _).alloc (Nat.le_refl _) _
  have C1 : (w.alloc (.cells #[.pointer (some ⟨q, 0, none⟩)] 160)).cell? ⟨w.heap.size, 0, none⟩ = some (.pointer (some ⟨q, 0, none⟩)) := by simp [World.cell?_alloc_at]
  have z1 : (w.alloc (.cells #[.pointer (some ⟨q, 0, none⟩)] 160)).heap.size = w.heap.size + 1 := by simp
  go_upto_region 1 with fail
  generalize w.alloc (.cells #[.pointer (some ⟨q, 0, none⟩)] 160) = w1 at *
  have n2 : Below w1.heap.size w1 (w1.alloc (.cells #[.int .i64 (pl : Int)] 3)) := (Below.refl _ _).alloc (Nat.le_refl _) _
  have C2 : (w1.alloc (.cells #[.int .i64 (pl : Int)] 3)).cell? ⟨w1.heap.size, 0, none⟩ = some (.int .i64 (pl : Int)) := by simp [World.cell?_alloc_at]
  have F2 : (w1.alloc (.cells #[.int .i64 (pl : Int)] 3)).frozen? ⟨w1.heap.size, 0, none⟩ = false := by simp [World.frozen?_alloc_at]
  have z2 : (w1.alloc (.cells #[.int .i64 (pl : Int)] 3)).heap.size = w1.heap.size + 1 := by simp
  generalize w1.alloc (.cells #[.int .i64 (pl : Int)] 3) = w2 at *
  rw [z1] at C2 F2 z2
  have C1 := (World.cell?_of_block (a := ⟨w.heap.size, 0, none⟩) (n2.block w.heap.size (by omega))).trans C1
  have N2 := nxt n1 n2
  go_wp2_with fail
  refine (chunk_any4 w2 (some ⟨g, o, none⟩) xs.length c).mono ?_
  rintro e w6 ⟨rfl, rfl⟩
  have n5 : Below w2.heap.size w2 (w2.alloc (.cells #[.slice (some ⟨g, o, none⟩) xs.length c] 22)) := (Below.refl _ _).alloc (Nat.le_refl _) _
  have C5 : (w2.alloc (.cells #[.slice (some ⟨g, o, none⟩) xs.length c] 22)).cell? ⟨w2.heap.size, 0, none⟩ = some (.slice (some ⟨g, o, none⟩) xs.length c) := by simp [World.cell?_alloc_at]
  have z5 : (w2.alloc (.cells #[.slice (some ⟨g, o, none⟩) xs.length c] 22)).heap.size = w2.heap.size + 1 := by simp
  generalize w2.alloc (.cells #[.slice (some ⟨g, o, none⟩) xs.length c] 22) = w5 at *
  have n6 : Below w5.heap.size w5 (w5.alloc (.cells #[.int .i64 4] 3)) := (Below.refl _ _).alloc (Nat.le_refl _) _
  have C6 : (w5.alloc (.cells #[.int .i64 4] 3)).cell? ⟨w5.heap.size, 0, none⟩ = some (.int .i64 4) := by simp [World.cell?_alloc_at]
  have z6 : (w5.alloc (.cells #[.int .i64 4] 3)).heap.size = w5.heap.size + 1 := by simp
  generalize w5.alloc (.cells #[.int .i64 4] 3) = w6 at *
  rw [z2] at C5 z5 ⊢
  rw [z5] at C6 z6
  have n56 : Below w2.heap.size w2 w6 := n5.trans (n6.mono (by omega))
  have N6 : Below w.heap.size w w6 := N2.trans (n56.mono (by omega))
  have I0 : FlI w q g o pl xs.length xs ys [] w6 :=
    ⟨⟨ys, yl, hY.up N6, fun _ => rfl⟩, (World.cell?_of_block (a := ⟨w.heap.size, 0, none⟩) (n56.block w.heap.size (by omega))).trans C1, (World.cell?_of_block (a := ⟨w.heap.size + 1, 0, none⟩) (n56.block (w.heap.size + 1) (by omega))).trans C2, (World.frozen?_of_block (a := ⟨w.heap.size + 1, 0, none⟩) (n56.block (w.heap.size + 1) (by omega))).trans F2, hr.up N6, by omega, N6.mono (by omega)⟩
  have D5 : w6.cell? ⟨w.heap.size + 1 + 1, 0, none⟩ = some (.slice (some ⟨g, o, none⟩) xs.length c) := (World.cell?_of_block (a := ⟨w.heap.size + 1 + 1, 0, none⟩) (n6.block (w.heap.size + 1 + 1) (by omega))).trans C5
  have S6 : Hid (w6.heap.size = w.heap.size + 1 + 1 + 1 + 1) := z6
  clear n1 n2 n5 n6 n56 C1 C2 C5 F2 z1 z2 z5 z6 N2 hY
  go_wp2
  refine (wpIn_wide (n := 5)).1 (wpIn_rangeFunc_ownG (n := 5) rfl (by omega) (gf := 34) (lb := #[.pointer (some ⟨w.heap.size + 1 + 1, 0, none⟩), .pointer (some ⟨w.heap.size + 1 + 1 + 1, 0, none⟩)]) rfl trivial (enters_of Tryz.func34 (by kernel_rfl) rfl)
    (chunk_stops4 4 (by omega) (w.heap.size + 1 + 1) (w.heap.size + 1 + 1 + 1) g o xs.length c (some ⟨g, o, none⟩) (fun _ => rfl) hc (by have := HL.out; omega) w6 (by have := S6.out; omega) (by have := S6.out; omega) D5 C6) KpB.t (KpB.b (by have := S6.out; omega) (by have := S6.out; omega)) (Below.refl _ _) (fun _ => rfl)
    (FlI w q g o pl xs.length xs ys) (fun _ _ _ => False) (flI_own (by have := S6.out; omega) (by omega)) (fun _ _ _ _ _ h _ _ => h) I0
    (fun x => { tmps := #[.pointer (some ⟨q, 0, none⟩), .int .i64 (pl : Int), .slice (some ⟨g, o, none⟩) xs.length c, .pointer (some ⟨w.heap.size, 0, none⟩), .pointer (some ⟨w.heap.size + 1, 0, none⟩), undef, .slice (some ⟨g, o + 4 * x.1, none⟩) (pcL4 xs.length x.1) (pcL4 xs.length x.1), .slice (some ⟨g, o, none⟩) xs.length c, Value.func (Fn.func 34) #[] #[Value.pointer (some ⟨w.heap.size + 1 + 1, 0, none⟩), Value.pointer (some ⟨w.heap.size + 1 + 1 + 1, 0, none⟩)], .slice (some ⟨g, o + 4 * x.1, none⟩) (pcL4 xs.length x.1) (pcL4 xs.length x.1), undef, undef, undef, undef, undef, undef, undef, undef], defers := [] }) ?assign ?body ?done ?stop)
  case assign =>
    intro l x W K hK
    unfold pcE4
    gi_wp2
    exact hK
  case body =>
    rintro l pre x W hI hlen
    obtain ⟨zs, zl, zB, z3⟩ := hI.told
    have ip := hI.ptr
    have im := hI.num
    have nf := hI.numF
    have lr := hI.lst
    have sz := hI.siz
    have be := hI.bel
    clear hI
    rw [HN.out] at hlen
    have xl := x.2
    have x4 : 4 * x.1 + 4 ≤ xs.length := by have := HL.out; omega
    have pe : pcL4 xs.length x.1 = 4 := by unfold pcL4; omega
    rw [pe]
    clear pe
    obtain ⟨pk, hpk⟩ : ∃ k, k = pl + pre.length := ⟨_, rfl⟩
    rw [← hpk] at im
    have pl16 : (pk : Int) < 16 := by omega
    have pN : pk < 16 := by omega
    obtain ⟨lv, hlv⟩ : ∃ v, v = lw xs (4 * x.1) := ⟨_, rfl⟩
    have LW : ∀ u, Below W.heap.size W u → Hid (Calls Tryz.prog 103 #[.slice (some ⟨g, o + 4 * x.1, none⟩) 4 4] u fun e w' => ∃ v, e = .returned v ∧ Below u.heap.size u w' ∧ v = .int .u32 lv) := fun u hu => by
      have h := littleWord_any u g (some ⟨g, o + 4 * x.1, none⟩) 4 _ (rd_part (lr.up hu) (4 * x.1) 4 x4) (byt_part hb _ _) (by rw [part_len _ _ _ x4]; exact Nat.le_refl _)
      rw [part_len _ _ _ x4, lw_part _, ← hlv] at h
      exact h.mono (by rintro e w' ⟨rfl, m, rfl⟩; exact ⟨_, rfl, below_drewN (Below.refl _ _) _, rfl⟩)
    have HP := hide hpk
    have HV := hide hlv
    have HX := hide x4
    clear hpk hlv x4 xl
    gi_wp2_with fail
    refine region_store_in 6 _ (fun i => [Fact.eq (.pointer (some ⟨q, 0, none⟩)), Fact.eq (.int .i64 (pk : Int)), Fact.eq (.slice (some ⟨g, o + 4 * x.1, none⟩) 4 4), Fact.eq (.int .u32 lv), Fact.eq (.pointer (some ⟨q, 0, none⟩)), Fact.eq (.pointer (some ⟨q, pk, none⟩))].getD i Fact.no) (by kernel_rfl) (by rintro ⟨_, _, h⟩; exact h) (by kernel_rfl) (by kernel_rfl) rfl rfl ?_ ?_
    · skip
      intro i hi
      obtain rfl | rfl | rfl | rfl | rfl | rfl : i = 0 ∨ i = 1 ∨ i = 2 ∨ i = 3 ∨ i = 4 ∨ i = 5 := by omega
      · refine step_pure rfl fun a u hb hw hf => ?_
        have e3 : a.tmps[3]?.getD undef = .pointer (some ⟨w.heap.size, 0, none⟩) := gdv (hb.2.2 3 (by kernel_rfl))
        have hc := (World.cell?_of_block (a := ⟨w.heap.size, 0, none⟩) (hw.block w.heap.size (by omega))).trans ip
        exact ⟨.pointer (some ⟨q, 0, none⟩), by simp [go_sem, e3, hc], rfl⟩
      · refine step_pure rfl fun a u hb hw hf => ?_
        have e4 : a.tmps[4]?.getD undef = .pointer (some ⟨w.heap.size + 1, 0, none⟩) := gdv (hb.2.2 4 (by kernel_rfl))
        have hc := (World.cell?_of_block (a := ⟨w.heap.size + 1, 0, none⟩) (hw.block (w.heap.size + 1) (by omega))).trans im
        exact ⟨.int .i64 (pk : Int), by simp [go_sem, e4, hc], rfl⟩
      · refine step_pure rfl fun a u hb hw hf => ?_
        have e6 : a.tmps[6]?.getD undef = .slice (some ⟨g, o + 4 * x.1, none⟩) 4 4 := gdv (hb.2.2 6 (by kernel_rfl))
        exact ⟨.slice (some ⟨g, o + 4 * x.1, none⟩) 4 4, by simp [go_sem, e6], rfl⟩
      · refine step_callv rfl 103 _ _ rfl (by kernel_rfl) fun a u hb hw hf => ?_
        have e12 : a.tmps.getD 12 undef = .slice (some ⟨g, o + 4 * x.1, none⟩) 4 4 := hf 2 12 (by kernel_rfl)
        show Calls Tryz.prog 103 #[a.tmps.getD 12 undef] u _
        rw [e12]
        exact (LW u hw).out
      · refine step_pure rfl fun a u hb hw hf => ?_
        have e10 : a.tmps[10]?.getD undef = .pointer (some ⟨q, 0, none⟩) := gdv (hf 0 10 (by kernel_rfl))
        exact ⟨.pointer (some ⟨q, 0, none⟩), by simp [go_sem, e10], rfl⟩
      · refine step_pure rfl fun a u hb hw hf => ?_
        have e14 : a.tmps[14]?.getD undef = .pointer (some ⟨q, 0, none⟩) := gdv (hf 4 14 (by kernel_rfl))
        have e11 : a.tmps[11]?.getD undef = .int .i64 (pk : Int) := gdv (hf 1 11 (by kernel_rfl))
        exact ⟨.pointer (some ⟨q, pk, none⟩), by simp [go_sem, e14, e11, pl16], rfl⟩
    · intro a u hb' hw hf
      have e15 : a.tmps[15]?.getD undef = .pointer (some ⟨q, pk, none⟩) := gdv (hf 5 15 (by kernel_rfl))
      have e13 : a.tmps[13]?.getD undef = .int .u32 lv := gdv (hf 3 13 (by kernel_rfl))
      have hcz := (zB.up hw).cell (i := pk) (by rw [zl]; exact pN)
      have hfz := (zB.up hw).free pk
      have O2 := Only.setCell u q pk (.int .u32 lv)
      have B2 := (zB.up hw).store pk lv
      have c2 := (World.cell?_of_block (a := ⟨w.heap.size + 1, 0, none⟩) ((O2.block (w.heap.size + 1) (by omega)).trans (hw.block (w.heap.size + 1) (by omega)))).trans im
      have f2 := (World.frozen?_of_block (a := ⟨w.heap.size + 1, 0, none⟩) ((O2.block (w.heap.size + 1) (by omega)).trans (hw.block (w.heap.size + 1) (by omega)))).trans nf
      have s2 := O2.size
      have k2 : KeepsFrom w6.heap.size W (u.setCell ⟨q, pk, none⟩ (.int .u32 lv)) := (keeps_below hw).trans ((KeepsOthers.setCell _ _ _).from _)
      have U2 : ∀ b, b < W.heap.size → b ≠ q → (u.setCell ⟨q, pk, none⟩ (.int .u32 lv)).heap[b]? = W.heap[b]? := fun b h1 h2 => (O2.block b h2).trans (hw.block b h1)
      have os2 : Below q w (u.setCell ⟨q, pk, none⟩ (.int .u32 lv)) := be.trans ((hw.mono (by omega)).trans (O2.below (Nat.le_refl _)))
      obtain ⟨vs, hvs⟩ : ∃ vs : Nat → Value, ∀ d, a.tmps.getD d undef = vs d := ⟨_, fun _ => rfl⟩
      have ea := puts_of (md := .any) (n := 18) (k := 6) (by kernel_rfl) rfl hb' vs hvs
      unfold Oper.wp
      simp [go_sem, e15, e13, hcz, hfz]
      rw [ea]
      clear ea hvs e15 e13 hf hb' LW hcz hfz
      simp only [puts, Act.put, List.setIfInBounds_toArray, List.set_cons_succ, List.set_cons_zero]
      have hzs := hw.size
      generalize u.setCell ⟨q, pk, none⟩ (.int .u32 lv) = W2 at *
      have c3 : (W2.setCell ⟨w.heap.size + 1, 0, none⟩ (.int .i64 ((pk : Int) + 1))).cell? ⟨w.heap.size + 1, 0, none⟩ = some (.int .i64 ((pk : Int) + 1)) := World.cell?_setCell_same _ _ _ c2
      have f3 : (W2.setCell ⟨w.heap.size + 1, 0, none⟩ (.int .i64 ((pk : Int) + 1))).frozen? ⟨w.heap.size + 1, 0, none⟩ = false := by rw [frozen_setCell]; exact f2
      have O3 := Only.setCell W2 (w.heap.size + 1) 0 (.int .i64 ((pk : Int) + 1))
      gi_wp2
      have lx : (pre ++ [x]).length = pre.length + 1 := by simp
      have K3 := k2.trans ((KeepsOthers.setCell W2 ⟨w.heap.size + 1, 0, none⟩ (.int .i64 ((pk : Int) + 1))).from w6.heap.size)
      have U3 : ∀ b, b < W.heap.size → b ≠ q → b ≠ w.heap.size + 1 → (W2.setCell ⟨w.heap.size + 1, 0, none⟩ (.int .i64 ((pk : Int) + 1))).heap[b]? = W.heap[b]? := fun b h1 h2 h3 => (O3.block b h3).trans (U2 b h1 h2)
      refine ⟨K3, ⟨U3 _ (by omega) (by omega) (by omega), U3 _ (by omega) (by omega) (by omega)⟩, ?_⟩
      refine ⟨⟨zs.set pk lv, by rw [List.length_set]; exact zl, B2.of_block (O3.block q (by omega)), fun h => ?_⟩, (World.cell?_of_block (a := ⟨w.heap.size, 0, none⟩) (U3 w.heap.size (by omega) (by omega) (by omega))).trans ip, ?_, f3, lr.of_block (U3 g (by omega) (by omega) (by omega)), by have := O3.size; omega, os2.trans (O3.below (by omega))⟩
      · rw [lx, List.map_append, List.range_succ] at h
        obtain ⟨h1, h2⟩ := List.append_inj' h rfl
        have h2' : x.1 = pre.length := by simpa using h2
        rw [lx, z3 h1, wsF, HP.out, HV.out, h2']
      · rw [lx, c3, HP.out]
        congr 2
  case done =>
    rintro D xx W hD hS hI hK
    have yl : xx.length = (xs.length + 3) / 4 := by have := congrArg List.length hS; simpa using this
    obtain ⟨zs, z1, z2, z3⟩ := hI.told
    rw [← yl] at hS
    have ez := z3 hS
    rw [yl, HN.out] at ez
    have EZ := hide ez
    have hdd : q < D := by have := S6.out; omega
    have B9 : Blk (W.putObj D (.deferred none)) q .u32 zs := z2.of_block (World.putObj_heap_other (by omega))
    have N9 : Below q w (W.putObj D (.deferred none)) := hI.bel.trans (belowK_b (w := w) (by omega) W D _ _ (by have := S6.out; omega) hK rfl rfl)
    clear z1 z2 z3 ez hI yl hS
    go_wp2
    refine ⟨by simp, .inl ⟨_, _, rfl, run_takeDeferred hK, ?_⟩⟩
    exact ⟨_, results_none rfl _ _ _, rfl, by rw [← EZ.out]; exact B9, N9⟩
  case stop =>
    rintro D c pre W hD hs h hK
    exact h.elim
end Go.Proofs.YtkpomobhjkikeaaGreatDoor
