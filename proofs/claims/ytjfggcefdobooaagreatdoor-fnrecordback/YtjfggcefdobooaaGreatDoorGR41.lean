import Derived.Test.YtjfggcefdobooaaGreatDoorGR22
import Derived.Test.YtjfggcefdobooaaGreatDoorGR27
import Derived.Test.YtjfggcefdobooaaGreatDoorGR32
import Derived.Test.YtjfggcefdobooaaGreatDoorGR40
import Derived.Test.YtjfggcefdobooaaGreatDoorGR8
import Derived.Test.YtjfggcefdobooaaGreatDoorGR10
import Derived.Deep.RegionWith
import Derived.Deep.RegionHeld3
import Derived.Test.YtjfggcefdobooaaGreatDoorGR1
import Derived.Lib.AppendZerosOnto
import Derived.Test.YtjfggcefdobooaaGreatDoorGR14
import Derived.Deep.WholeRow
import Derived.Test.YtjfggcefdobooaaGreatDoorGR9
import Derived.Test.YtjfggcefdobooaaGreatDoorGR24
namespace Go.Proofs.YtjfggcefdobooaaGreatDoor
set_option maxRecDepth 100000
open Go Go.RowKit Go.Shelf
attribute [local go_sem] Oper.semAt_some
def pv (R : Int) (data : List Int) : Nat → Int
  | 0 => 0
  | k + 1 => (pv R data k + pcv ((data.drop (16 * k)).take 16)) * R % PO
def otB (key data : List Int) : List Int := fill (byt (pv (rv key) data ((data.length + 15) / 16) % PO + lsum (fun j => key.getD (16 + j) 0) 16)) 16
theorem otB_len (key data : List Int) : (otB key data).length = 16 := fill_len _ _
theorem otB_byt (key data : List Int) : Byt (otB key data) := fill_byt _ _ fun i => by unfold byt; exact ⟨by omega, by omega⟩
def Fact.kn (p : (Nat → Int) → Prop) : Fact := ⟨fun v _ => ∃ u, v = ag5 u ∧ p u, fun _ h => h⟩
theorem ksettle_K (w : World) (u : Nat → Int) (hu : KpP u) :
    Calls Tryz.prog 97 #[ag5 u] w fun e w' => ∃ v, e = .returned (ag5 v) ∧ (Km v ∧ kv v 5 = kv u 5 % PO) ∧ Below w.heap.size w w' := by
  have hb : ∀ j, 0 ≤ (if j < 5 then u j else 0) ∧ (if j < 5 then u j else 0) < 1073741824 := fun j => by
    split
    · rename_i h; have := hu j h; omega
    · omega
  have h := ksettle_any w (fun j => if j < 5 then u j else 0) hb
  have k := ktl_ok hb
  have e1 : ag5 (fun j => if j < 5 then u j else 0) = ag5 u := by simp [ag5]
  have e2 : kv (fun j => if j < 5 then u j else 0) 5 = kv u 5 := kv_congr 5 (fun j hj => by rw [if_pos hj])
  rw [e1] at h
  rw [e2] at k
  exact h.mono (by rintro e w' ⟨rfl, n⟩; exact ⟨_, rfl, k, n⟩)
theorem KpP.wide {u : Nat → Int} (h : KpP u) : Kw u := fun j hj => by have := h j hj; omega
theorem Km.wide {u : Nat → Int} (h : Km u) : Kw u := fun j hj => by have := h j hj; omega
theorem kadd_K (w : World) (e f : Nat → Int) (he : KpP e) (hf : Km f) :
    Calls Tryz.prog 93 #[ag5 e, ag5 f] w fun r w' => ∃ v, r = .returned (ag5 v) ∧ (Kw v ∧ kv v 5 = kv e 5 + kv f 5) ∧ Below w.heap.size w w' :=
  (kadd_any w e f he.wide hf.wide).mono (by rintro r w' ⟨rfl, n⟩; exact ⟨_, rfl, kad_ok he hf, n⟩)
theorem kmul_K (w : World) (e f : Nat → Int) (he : Kw e) (hf : Km f) :
    Calls Tryz.prog 95 #[ag5 e, ag5 f] w fun r w' => ∃ v, r = .returned (ag5 v) ∧ (KpP v ∧ kv v 5 % PO = kv e 5 * kv f 5 % PO) ∧ Below w.heap.size w w' :=
  (kmul_any w e f he hf).mono (by rintro r w' ⟨rfl, n⟩; exact ⟨_, rfl, kmu_ok he hf, n⟩)
theorem words_hi (key : List Int) : wv (fun j => key.getD j 0) 32 2 + wv (fun j => key.getD j 0) 32 3 * 18446744073709551616 = lsum (fun j => key.getD (16 + j) 0) 16 := by
  simp only [wv, lsum]
  simp
  omega
theorem ksum_K (w : World) (u : Nat → Int) (hu : Km u) (l h V : Int) (hl : 0 ≤ l ∧ l < 18446744073709551616) (hv : kv u 5 + (l + h * 18446744073709551616) = V) :
    Calls Tryz.prog 98 #[ag5 u, .int .u64 l, .int .u64 h] w fun e w' => e = .returned (ag .u8 (fill (byt V) 16)) ∧ Below w.heap.size w w' := by
  have k := ksum_any w u hu l h hl
  have e : fill (b16 (slo u l) (shi u l h)) 16 = fill (byt V) 16 := by
    unfold fill
    refine List.map_congr_left fun i hi => ?_
    have hi' : i < 16 := by simpa using hi
    rw [b16_ok _ _ (by unfold slo; omega) (by unfold slo; omega) i hi', sum_ok hu l h, byt_mod _ i hi', hv]
  rw [e] at k
  exact k
theorem info5 : (Tryz.prog.info? 144).map (·.size) = some 5 := by kernel_rfl
theorem und5 : Tryz.prog.underlying 144 = some (.array 5 142) := by kernel_rfl
def r5 (u : Nat → Int) : List Value := [.int .u64 (u 0), .int .u64 (u 1), .int .u64 (u 2), .int .u64 (u 3), .int .u64 (u 4)]
theorem Blk.r5 {w : World} {g : Nat} {u : Nat → Int} (h : Blk w g .u64 [u 0, u 1, u 2, u 3, u 4]) : w.rangeAt g 0 (Go.Proofs.YtjfggcefdobooaaGreatDoor.r5 u) := (Seg.blk h).range
theorem one5 (u : Nat → Int) : (r5 u).toArray.all (·.oneCell') = true := one_ints .u64 [u 0, u 1, u 2, u 3, u 4]
theorem keeps_only {B g : Nat} {W W' : World} (h : Only g W W') (hg : g < B) : KeepsFrom B W W' := ⟨Nat.le_of_eq h.size.symm, fun k o hB hk _ => (h.block k (by omega)).trans hk⟩
def offOf : Option Addr → Nat
  | none => 0
  | some a => a.off
theorem off_of {w : World} {g : Nat} {a : Option Addr} {k : IntKind} {xs : List Int} (h : Rd w g a k xs) (h0 : 0 < xs.length) : a = some ⟨g, offOf a, none⟩ := by
  obtain ⟨o, rfl, _⟩ := h h0
  rfl
structure OtI (w : World) (q gd gk : Nat) (ad ak : Option Addr) (key data : List Int) (R : Int) (f : Nat → Int) (Z : Nat) (pre : List (PcN16 data.length)) (W : World) : Prop where
  told : ∃ u : Nat → Int, KpP u ∧ Blk W (q + 1) .u64 [u 0, u 1, u 2, u 3, u 4] ∧ (pre.map (·.1) = List.range pre.length → kv u 5 % PO = pv R data pre.length % PO)
  fac : Blk W q .u64 [f 0, f 1, f 2, f 3, f 4]
  res : Blk W w.heap.size .u8 (List.replicate 16 0)
  lst : Rd W gd ad .u8 data
  ky : Rd W gk ak .u8 key
  siz : Z ≤ W.heap.size
  bel : Below w.heap.size w W
theorem otI_own {w : World} {q gd gk : Nat} {ad ak : Option Addr} {key data : List Int} {R : Int} {f : Nat → Int} {Z B : Nat} (hB : w.heap.size ≤ B) : OwnFrom B (OtI w q gd gk ad ak key data R f Z) := by
  intro s W W' row h hg hr
  have hr' : ∀ r, row = some r → ∃ o : Obj, W.heap[r]? = some o ∧ o.isCells = false := fun r e => (hr r e).2
  obtain ⟨u, u1, u2, u3⟩ := h.told
  refine ⟨⟨u, u1, blk_ofK u2 hg hr', u3⟩, blk_ofK h.fac hg hr', blk_ofK h.res hg hr', rd_ofK h.lst hg hr', rd_ofK h.ky hg hr', Nat.le_trans h.siz hg.size, ?_⟩
  exact h.bel.grown hg h.bel.size (fun k e => Nat.le_trans hB (hr k e).1)
set_option maxRecDepth 100000 in
set_option maxHeartbeats 8000000 in
theorem oneTimeSum_any (w : World) (gk : Nat) (ak : Option Addr) (ck : Nat) (key : List Int) (hk : Rd w gk ak .u8 key) (kb : Byt key) (kl : key.length = 32)
    (gd : Nat) (ad : Option Addr) (cd : Nat) (data : List Int) (hd : Rd w gd ad .u8 data) (db : Byt data) (dc : data.length ≤ cd) (dn : data.length ≤ 4194304) :
    Calls Tryz.prog 72 #[.slice ak key.length ck, .slice ad data.length cd] w fun e w' => e = .returned (ag .u8 (otB key data)) ∧ Below w.heap.size w w' := by
  have KL := hide kl
  have DN := hide dn
  have DC := hide dc
  have B0 := blk_y16 w 98
  have n0 : Below w.heap.size w (w.alloc (.cells #[.int .u8 0, .int .u8 0, .int .u8 0, .int .u8 0, .int .u8 0, .int .u8 0, .int .u8 0, .int .u8 0, .int .u8 0, .int .u8 0, .int .u8 0, .int .u8 0, .int .u8 0, .int .u8 0, .int .u8 0, .int .u8 0] 98)) := (Below.refl _ _).alloc (Nat.le_refl _) _
  have s0 : (w.alloc (.cells #[.int .u8 0, .int .u8 0, .int .u8 0, .int .u8 0, .int .u8 0, .int .u8 0, .int .u8 0, .int .u8 0, .int .u8 0, .int .u8 0, .int .u8 0, .int .u8 0, .int .u8 0, .int .u8 0, .int .u8 0, .int .u8 0] 98)).heap.size = w.heap.size + 1 := by simp
  have RF := fun W (n : Below w.heap.size w W) => hide (readFactor_any W gk ak ck key (hk.up n) kb KL.out)
  clear kl dn dc
  refine (callsIn_wide (n := 5)).1 (callsIn_of_wp_marks Tryz.func72 rfl trivial ?_ rfl)
  refine wpIn_wide.2 ?_
  simp only [Tryz.ntmps72, List.size_toArray, List.length_cons, List.length_nil, Nat.reduceAdd, Nat.reduceSub, Array.replicate_succ, Array.replicate_zero, List.push_toArray, List.append_toArray, List.nil_append, List.cons_append]
  go_upto_region 1 with fail
  generalize w.alloc (.cells #[.int .u8 0, .int .u8 0, .int .u8 0, .int .u8 0, .int .u8 0, .int .u8 0, .int .u8 0, .int .u8 0, .int .u8 0, .int .u8 0, .int .u8 0, .int .u8 0, .int .u8 0, .int .u8 0, .int .u8 0, .int .u8 0] 98) = wa at *
  go_wp2_with fail
  refine (RF wa n0).out.mono ?_
  rintro e wb ⟨f, rfl, hf, n1⟩
  have HF := hide hf
  clear hf RF
  have B0 := B0.up n1
  have N1 := nxt n0 n1
  have z1 : w.heap.size + 1 ≤ wb.heap.size := by have := n1.size; omega
  clear n0 n1 s0
  generalize hq : wb.heap.size = q at *
  have n2 : Below wb.heap.size wb (wb.alloc (.cells #[.int .u64 (f 0), .int .u64 (f 1), .int .u64 (f 2), .int .u64 (f 3), .int .u64 (f 4)] 144)) := (Below.refl _ _).alloc (Nat.le_refl _) _
  have SR := blk_box wb .u64 144 (f 0) (f 1) (f 2) (f 3) (f 4)
  have z3 : (wb.alloc (.cells #[.int .u64 (f 0), .int .u64 (f 1), .int .u64 (f 2), .int .u64 (f 3), .int .u64 (f 4)] 144)).heap.size = q + 1 := by simp [hq]
  rw [hq] at SR
  have B0 := B0.up n2
  have N2 := N1.trans (n2.mono (by omega))
  simp only [ag5]
  go_upto_region 2 with fail
  generalize wb.alloc (.cells #[.int .u64 (f 0), .int .u64 (f 1), .int .u64 (f 2), .int .u64 (f 3), .int .u64 (f 4)] 144) = wc at *
  clear n2 N1
  have n3 : Below wc.heap.size wc (wc.alloc (.cells #[.int .u64 0, .int .u64 0, .int .u64 0, .int .u64 0, .int .u64 0] 144)) := (Below.refl _ _).alloc (Nat.le_refl _) _
  have B3 := blk_box wc .u64 144 0 0 0 0 0
  have z4 : (wc.alloc (.cells #[.int .u64 0, .int .u64 0, .int .u64 0, .int .u64 0, .int .u64 0] 144)).heap.size = q + 1 + 1 := by simp [z3]
  rw [z3] at B3
  go_upto_region 3 with fail
  generalize wc.alloc (.cells #[.int .u64 0, .int .u64 0, .int .u64 0, .int .u64 0, .int .u64 0] 144) = wd at *
  have B0 := B0.up n3
  have B2 := SR.up n3
  have N3 := nxt N2 n3
  clear n3 SR N2 z3
  go_wp2_with fail
  refine (chunk_any16 wd ad data.length cd).mono ?_
  rintro e w6 ⟨rfl, rfl⟩
  have n5 : Below wd.heap.size wd (wd.alloc (.cells #[.slice ad data.length cd] 22)) := (Below.refl _ _).alloc (Nat.le_refl _) _
  have C5 : (wd.alloc (.cells #[.slice ad data.length cd] 22)).cell? ⟨wd.heap.size, 0, none⟩ = some (.slice ad data.length cd) := by simp [World.cell?_alloc_at]
  have z5 : (wd.alloc (.cells #[.slice ad data.length cd] 22)).heap.size = wd.heap.size + 1 := by simp
  generalize wd.alloc (.cells #[.slice ad data.length cd] 22) = w5 at *
  have n6 : Below w5.heap.size w5 (w5.alloc (.cells #[.int .i64 16] 3)) := (Below.refl _ _).alloc (Nat.le_refl _) _
  have C6 : (w5.alloc (.cells #[.int .i64 16] 3)).cell? ⟨w5.heap.size, 0, none⟩ = some (.int .i64 16) := by simp [World.cell?_alloc_at]
  have z6 : (w5.alloc (.cells #[.int .i64 16] 3)).heap.size = w5.heap.size + 1 := by simp
  generalize w5.alloc (.cells #[.int .i64 16] 3) = w6 at *
  rw [z4] at C5 z5 ⊢
  rw [z5] at C6 z6
  have n56 : Below wd.heap.size wd w6 := n5.trans (n6.mono (by omega))
  have N6 : Below w.heap.size w w6 := N3.trans (n56.mono (by omega))
  have I0 : OtI w q gd gk ad ak key data (rv key) f (q + 4) [] w6 :=
    ⟨⟨fun _ => 0, fun _ _ => ⟨Int.le_refl 0, show (0 : Int) ≤ 67109376 by decide⟩, B3.up n56, fun _ => rfl⟩, B2.up n56, B0.up n56, hd.up N6, hk.up N6, by omega, N6⟩
  have D5 : w6.cell? ⟨q + 1 + 1, 0, none⟩ = some (.slice ad data.length cd) := (World.cell?_of_block (a := ⟨q + 1 + 1, 0, none⟩) (n6.block (q + 1 + 1) (by omega))).trans C5
  have S6 : Hid (w6.heap.size = q + 1 + 1 + 1 + 1) := z6
  have HZ := hide z1
  clear n5 n6 n56 C5 z4 z5 z6 N3 N6 B0 B2 B3 hq z1
  go_wp2
  refine (wpIn_wide (n := 5)).1 (wpIn_rangeFunc_ownG (n := 5) rfl (by omega) (gf := 90) (lb := #[.pointer (some ⟨q + 1 + 1, 0, none⟩), .pointer (some ⟨q + 1 + 1 + 1, 0, none⟩)]) rfl trivial (enters_of Tryz.func90 (by kernel_rfl) rfl)
    (chunk_stops16 4 (by omega) (q + 1 + 1) (q + 1 + 1 + 1) gd (offOf ad) data.length cd ad (fun h => off_of hd h) DC.out DN.out w6 (by have := S6.out; omega) (by have := S6.out; omega) D5 C6) KpB.t (KpB.b (by have := S6.out; omega) (by have := S6.out; omega)) (Below.refl _ _) (fun _ => rfl)
    (OtI w q gd gk ad ak key data (rv key) f (q + 4)) (fun _ _ _ => False) (otI_own (by have := S6.out; have := HZ.out; omega)) (fun _ _ _ _ _ h _ _ => h) I0
    (fun x => { tmps := #[.slice ak key.length ck, .slice ad data.length cd, undef, undef, .pointer (some ⟨w.heap.size, 0, none⟩), .pointer (some ⟨q, 0, none⟩), .pointer (some ⟨q + 1, 0, none⟩), .slice (some ⟨gd, offOf ad + 16 * x.1, none⟩) (pcL16 data.length x.1) (pcL16 data.length x.1), undef, .slice ak key.length ck, .agg #[.int .u64 (f 0), .int .u64 (f 1), .int .u64 (f 2), .int .u64 (f 3), .int .u64 (f 4)], .slice ad data.length cd, Value.func (Fn.func 90) #[] #[Value.pointer (some ⟨q + 1 + 1, 0, none⟩), Value.pointer (some ⟨q + 1 + 1 + 1, 0, none⟩)], .slice (some ⟨gd, offOf ad + 16 * x.1, none⟩) (pcL16 data.length x.1) (pcL16 data.length x.1), undef, undef, undef, undef, undef, undef, undef, undef, undef, undef, undef, undef, undef, undef, undef], defers := [] }) ?assign ?body ?done ?stop)
  case assign =>
    intro l x W K hK
    unfold pcE16
    gi_wp2
    exact hK
  case body =>
    rintro l pre x W hI hlen
    obtain ⟨u, uK, uB, u3⟩ := hI.told
    have fB := hI.fac
    have rB := hI.res
    have lr := hI.lst
    have kr' := hI.ky
    have sz := hI.siz
    have be := hI.bel
    clear hI
    have xl := x.2
    have hz := HZ.out
    have ea := off_of hd (show 0 < data.length by omega)
    obtain ⟨pe, hpe⟩ : ∃ e, e = pcL16 data.length x.1 := ⟨_, rfl⟩
    have PL : ((data.drop (16 * x.1)).take 16).length = pe := by rw [hpe, List.length_take, List.length_drop]; unfold pcL16; rfl
    have PR : Rd W gd (some ⟨gd, offOf ad + 16 * x.1, none⟩) .u8 ((data.drop (16 * x.1)).take 16) := by
      have e1 : (data.drop (16 * x.1)).take 16 = (data.drop (16 * x.1)).take pe := by rw [hpe]; unfold pcL16; rw [List.take_eq_take_iff, List.length_drop]; omega
      rw [e1]
      rw [ea] at lr
      exact rd_part lr (16 * x.1) pe (by rw [hpe]; unfold pcL16; omega)
    have PB := byt_part db (16 * x.1) 16
    rw [← hpe]
    clear hpe
    have RP : ∀ v, Below W.heap.size W v → Hid (Calls Tryz.prog 94 #[.slice (some ⟨gd, offOf ad + 16 * x.1, none⟩) pe pe] v fun e w' => ∃ t, e = .returned (ag5 t) ∧ (Km t ∧ kv t 5 = pcv ((data.drop (16 * x.1)).take 16)) ∧ Below v.heap.size v w') := fun v hv => by
      have h := readPiece_any v gd (some ⟨gd, offOf ad + 16 * x.1, none⟩) pe _ (PR.up hv) PB (by rw [List.length_take]; omega)
      rw [PL] at h
      exact h
    obtain ⟨pc, hpc⟩ : ∃ v, v = pcv ((data.drop (16 * x.1)).take 16) := ⟨_, rfl⟩
    simp only [← hpc] at RP
    have HPC := hide hpc
    have UK := hide uK
    have FK := hide HF.out.1
    clear hpc PL PR PB lr
    gi_wp2_with fail
    refine region_store_in 6 _ (fun i => [Fact.eq (ag5 u), Fact.eq (.slice (some ⟨gd, offOf ad + 16 * x.1, none⟩) pe pe), Fact.kn (fun t => Km t ∧ kv t 5 = pc), Fact.kn (fun t => Kw t ∧ kv t 5 = kv u 5 + pc), Fact.eq (ag5 f), Fact.kn (fun t => KpP t ∧ kv t 5 % PO = (kv u 5 + pc) * kv f 5 % PO)].getD i Fact.no) (by kernel_rfl) (by rintro ⟨_, _, h⟩; exact h) (by kernel_rfl) (by kernel_rfl) rfl rfl ?_ ?_
    · skip
      intro i hi
      obtain rfl | rfl | rfl | rfl | rfl | rfl : i = 0 ∨ i = 1 ∨ i = 2 ∨ i = 3 ∨ i = 4 ∨ i = 5 := by omega
      · refine step_load rfl 144 (.tmp 6) rfl (.array 5 142) 5 und5 rfl info5 fun a v hb hw hf => ?_
        exact ⟨q + 1, 0, r5 u, hb.2.2 6 (by kernel_rfl), (uB.up hw).r5, rfl, rfl⟩
      · refine step_pure rfl fun a v hb hw hf => ?_
        have e7 : a.tmps[7]?.getD undef = .slice (some ⟨gd, offOf ad + 16 * x.1, none⟩) pe pe := gdv (hb.2.2 7 (by kernel_rfl))
        exact ⟨.slice (some ⟨gd, offOf ad + 16 * x.1, none⟩) pe pe, by simp [go_sem, e7], rfl⟩
      · refine step_callv rfl 94 _ _ rfl (by kernel_rfl) fun a v hb hw hf => ?_
        have e15 : a.tmps.getD 15 undef = .slice (some ⟨gd, offOf ad + 16 * x.1, none⟩) pe pe := hf 1 15 (by kernel_rfl)
        show Calls Tryz.prog 94 #[a.tmps.getD 15 undef] v _
        rw [e15]
        exact (RP v hw).out.mono (by rintro e w' ⟨t, rfl, h, n⟩; exact ⟨_, rfl, n, t, rfl, h⟩)
      · refine step_callv rfl 93 _ _ rfl (by kernel_rfl) fun a v hb hw hf => ?_
        have e14 : a.tmps.getD 14 undef = ag5 u := hf 0 14 (by kernel_rfl)
        obtain ⟨t, e16, t1, t2⟩ : ∃ t, a.tmps.getD 16 undef = ag5 t ∧ Km t ∧ kv t 5 = pc := hf 2 16 (by kernel_rfl)
        show Calls Tryz.prog 93 #[a.tmps.getD 14 undef, a.tmps.getD 16 undef] v _
        rw [e14, e16]
        exact (kadd_K v u t UK.out t1).mono (by rintro e w' ⟨s, rfl, h, n⟩; exact ⟨_, rfl, n, s, rfl, h.1, by rw [h.2, t2]⟩)
      · refine step_load rfl 144 (.tmp 5) rfl (.array 5 142) 5 und5 rfl info5 fun a v hb hw hf => ?_
        exact ⟨q, 0, r5 f, hb.2.2 5 (by kernel_rfl), (fB.up hw).r5, rfl, rfl⟩
      · refine step_callv rfl 95 _ _ rfl (by kernel_rfl) fun a v hb hw hf => ?_
        have e18 : a.tmps.getD 18 undef = ag5 f := hf 4 18 (by kernel_rfl)
        obtain ⟨t, e17, t1, t2⟩ : ∃ t, a.tmps.getD 17 undef = ag5 t ∧ Kw t ∧ kv t 5 = kv u 5 + pc := hf 3 17 (by kernel_rfl)
        show Calls Tryz.prog 95 #[a.tmps.getD 17 undef, a.tmps.getD 18 undef] v _
        rw [e18, e17]
        exact (kmul_K v t f t1 FK.out).mono (by rintro e w' ⟨s, rfl, h, n⟩; exact ⟨_, rfl, n, s, rfl, h.1, by rw [h.2, t2]⟩)
    · intro a v hb' hw hf
      have e6 : a.eval (.tmp 6) = .pointer (some ⟨q + 1, 0, none⟩) := hb'.2.2 6 (by kernel_rfl)
      obtain ⟨t, e19, t1, t2⟩ : ∃ t, a.tmps.getD 19 undef = ag5 t ∧ KpP t ∧ kv t 5 % PO = (kv u 5 + pc) * kv f 5 % PO := hf 5 19 (by kernel_rfl)
      have T2 := hide t2
      have T1 := hide t1
      clear t1 t2
      obtain ⟨ty, H⟩ := uB.up hw
      have S2 : Blk (v.setRow (q + 1) (r5 t).toArray) (q + 1) .u64 [t 0, t 1, t 2, t 3, t 4] := blk_setRow (k := .u64) (zs := [t 0, t 1, t 2, t 3, t 4]) ⟨ty, H⟩
      have O2 := only_setRow v (q + 1) (r5 t).toArray
      obtain ⟨vs, hvs⟩ : ∃ vs : Nat → Value, ∀ d, a.tmps.getD d undef = vs d := ⟨_, fun _ => rfl⟩
      have ea' := puts_of (md := .any) (n := 29) (k := 6) (by kernel_rfl) rfl hb' vs hvs
      refine wp_store_row 144 (.tmp 6) (.tmp 19) rfl (q + 1) (r5 t).toArray e6 e19 ty _ H (by rw [List.size_toArray]; exact info5) rfl (one5 t) ?_
      show _
      dsimp only [Act.put]
      rw [ea']
      clear ea' hvs e6 e19 hf hb' RP
      simp only [puts, Act.put, List.setIfInBounds_toArray, List.set_cons_succ, List.set_cons_zero]
      have hzs := hw.size
      have U2 : ∀ b, b < W.heap.size → b ≠ q + 1 → (v.setRow (q + 1) (r5 t).toArray).heap[b]? = W.heap[b]? := fun b h1 h2 => (O2.block b h2).trans (hw.block b h1)
      have k2 : KeepsFrom w6.heap.size W (v.setRow (q + 1) (r5 t).toArray) := (keeps_below hw).trans (keeps_only O2 (by have := S6.out; omega))
      have N2 : Below w.heap.size w (v.setRow (q + 1) (r5 t).toArray) := be.trans ((hw.mono be.size).trans (O2.below (by omega)))
      have s2 := O2.size
      generalize v.setRow (q + 1) (r5 t).toArray = W2 at *
      gi_wp2
      have lx : (pre ++ [x]).length = pre.length + 1 := by simp
      refine ⟨k2, ⟨U2 _ (by omega) (by omega), U2 _ (by omega) (by omega)⟩, ?_⟩
      refine ⟨⟨t, T1.out, S2, fun h => ?_⟩, fB.of_block (U2 q (by omega) (by omega)), rB.of_block (U2 w.heap.size (by omega) (by omega)), hd.up N2, hk.up N2, by omega, N2⟩
      rw [lx, List.map_append, List.range_succ] at h
      obtain ⟨h1', h2'⟩ := List.append_inj' h rfl
      have h3' : x.1 = pre.length := by simpa using h2'
      rw [lx, T2.out, HF.out.2, HPC.out, h3', pv, Int.emod_emod, Int.mul_emod, Int.add_emod, u3 h1', ← Int.add_emod, ← Int.mul_emod]
  case done =>
    rintro D xx W hD hS hI hK
    have yl : xx.length = (data.length + 15) / 16 := by have := congrArg List.length hS; simpa using this
    obtain ⟨u, uK, uB, u3⟩ := hI.told
    rw [← yl] at hS
    have ez := u3 hS
    rw [yl] at ez
    have hdd : q + 1 + 1 < D := by have := S6.out; omega
    have hz := HZ.out
    have HUK := hide uK
    have HEZ := hide ez
    have rB := hI.res
    have ky := hI.ky
    have sz := hI.siz
    have be := hI.bel
    have RW : ∀ v, Below W.heap.size W v → Hid (Calls Tryz.prog 96 #[.slice ak key.length ck] v fun e w' => e = .returned (ag4 (wv (fun j => key.getD j 0) 32)) ∧ Below v.heap.size v w') := fun v n => by
      show Calls _ _ _ _ _
      rw [KL.out]
      exact readWords_any v gk ak ck key (ky.up n) kb KL.out
    have WH := hide (words_hi key)
    have wl := wv_lt (a := fun j => key.getD j 0) kb 32 2
    have OV : Hid (otB key data = fill (byt (kv u 5 % PO + (wv (fun j => key.getD j 0) 32 2 + wv (fun j => key.getD j 0) 32 3 * 18446744073709551616))) 16) := by
      show _ = _
      unfold otB
      rw [HEZ.out, WH.out]
    obtain ⟨Wd, hWd⟩ : ∃ v, v = wv (fun j => key.getD j 0) 32 := ⟨_, rfl⟩
    rw [← hWd] at wl OV
    simp only [← hWd] at RW
    clear hI u3 ez hS yl uK hWd WH ky C6 D5 I0 hd hk kb db
    go_wp2_with fail
    refine (RW W (Below.refl _ _)).out.mono ?_
    rintro e Wb ⟨rfl, nb⟩
    clear RW
    have n8 : Below Wb.heap.size Wb (Wb.alloc (.cells #[.int .u64 (Wd 0), .int .u64 (Wd 1), .int .u64 (Wd 2), .int .u64 (Wd 3)] 147)) := (Below.refl _ _).alloc (Nat.le_refl _) _
    have B8 := blk_box4 Wb .u64 147 (Wd 0) (Wd 1) (Wd 2) (Wd 3)
    simp only [ag4]
    go_upto_region 7 with fail
    generalize Wb.alloc (.cells #[.int .u64 (Wd 0), .int .u64 (Wd 1), .int .u64 (Wd 2), .int .u64 (Wd 3)] 147) = Wc at *
    have nc : Below W.heap.size W Wc := nb.trans (n8.mono nb.size)
    have rB := rB.up nc
    have uB := uB.up nc
    have hK := (nc.block D (Array.getElem?_eq_some_iff.1 hK).1).trans hK
    have be := be.trans (nc.mono be.size)
    have sz : q + 4 ≤ Wc.heap.size := Nat.le_trans sz nc.size
    generalize Wb.heap.size = bq at *
    clear nb n8 nc
    obtain ⟨ov, hov⟩ : ∃ v, v = otB key data := ⟨_, rfl⟩
    have OV' : Hid (ov = fill (byt (kv u 5 % PO + (Wd 2 + Wd 3 * 18446744073709551616))) 16) := by show _ = _; rw [hov]; exact OV.out
    have OL : Hid ((ov.map (Value.int .u8)).length = 16) := by show _ = _; rw [List.length_map, hov]; exact otB_len _ _
    have HOV := hide hov
    clear hov OV
    refine region_store 7 _ (fun i => [Fact.eq (ag5 u), Fact.kn (fun t => Km t ∧ kv t 5 = kv u 5 % PO), Fact.eq (.pointer (some ⟨bq, 2, none⟩)), Fact.eq (.int .u64 (Wd 2)), Fact.eq (.pointer (some ⟨bq, 3, none⟩)), Fact.eq (.int .u64 (Wd 3)), Fact.eq (ag .u8 ov)].getD i Fact.no) (by kernel_rfl) (by kernel_rfl) rfl rfl ?_ ?_
    · intro i hi
      obtain rfl | rfl | rfl | rfl | rfl | rfl | rfl : i = 0 ∨ i = 1 ∨ i = 2 ∨ i = 3 ∨ i = 4 ∨ i = 5 ∨ i = 6 := by omega
      · refine step_load rfl 144 (.tmp 6) rfl (.array 5 142) 5 und5 rfl info5 fun a v hb hw hf => ?_
        exact ⟨q + 1, 0, r5 u, hb.2.2 6 (by kernel_rfl), (uB.up hw).r5, rfl, rfl⟩
      · refine step_callv rfl 97 _ _ rfl (by kernel_rfl) fun a v hb hw hf => ?_
        have e22 : a.tmps.getD 22 undef = ag5 u := hf 0 22 (by kernel_rfl)
        show Calls Tryz.prog 97 #[a.tmps.getD 22 undef] v _
        rw [e22]
        exact (ksettle_K v u HUK.out).mono (by rintro e w' ⟨t, rfl, h, n⟩; exact ⟨_, rfl, n, t, rfl, h⟩)
      · refine step_pure rfl fun a v hb hw hf => ?_
        have e8 : a.tmps[8]?.getD undef = .pointer (some ⟨bq, 0, none⟩) := gdv (hb.2.2 8 (by kernel_rfl))
        exact ⟨.pointer (some ⟨bq, 2, none⟩), by simp [go_sem, e8], rfl⟩
      · refine step_pure rfl fun a v hb hw hf => ?_
        have e24 : a.tmps[24]?.getD undef = .pointer (some ⟨bq, 2, none⟩) := gdv (hf 2 24 (by kernel_rfl))
        have hc : v.cell? ⟨bq, 2, none⟩ = some (.int .u64 (Wd 2)) := (B8.up hw).cell (i := 2) (by simp)
        exact ⟨.int .u64 (Wd 2), by simp [go_sem, e24, hc], rfl⟩
      · refine step_pure rfl fun a v hb hw hf => ?_
        have e8 : a.tmps[8]?.getD undef = .pointer (some ⟨bq, 0, none⟩) := gdv (hb.2.2 8 (by kernel_rfl))
        exact ⟨.pointer (some ⟨bq, 3, none⟩), by simp [go_sem, e8], rfl⟩
      · refine step_pure rfl fun a v hb hw hf => ?_
        have e26 : a.tmps[26]?.getD undef = .pointer (some ⟨bq, 3, none⟩) := gdv (hf 4 26 (by kernel_rfl))
        have hc : v.cell? ⟨bq, 3, none⟩ = some (.int .u64 (Wd 3)) := (B8.up hw).cell (i := 3) (by simp)
        exact ⟨.int .u64 (Wd 3), by simp [go_sem, e26, hc], rfl⟩
      · refine step_callv rfl 98 _ _ rfl (by kernel_rfl) fun a v hb hw hf => ?_
        obtain ⟨t, e23, t1, t2⟩ : ∃ t, a.tmps.getD 23 undef = ag5 t ∧ Km t ∧ kv t 5 = kv u 5 % PO := hf 1 23 (by kernel_rfl)
        have e25 : a.tmps.getD 25 undef = .int .u64 (Wd 2) := hf 3 25 (by kernel_rfl)
        have e27 : a.tmps.getD 27 undef = .int .u64 (Wd 3) := hf 5 27 (by kernel_rfl)
        show Calls Tryz.prog 98 #[a.tmps.getD 23 undef, a.tmps.getD 25 undef, a.tmps.getD 27 undef] v _
        rw [e23, e25, e27]
        have h := ksum_K v t t1 (Wd 2) (Wd 3) _ wl rfl
        rw [t2, ← OV'.out] at h
        exact h.mono (by rintro e w' ⟨rfl, n⟩; exact ⟨_, rfl, n, rfl⟩)
    · intro a v hb' hw hf
      have e4 : a.eval (.tmp 4) = .pointer (some ⟨w.heap.size, 0, none⟩) := hb'.2.2 4 (by kernel_rfl)
      have e28 : a.eval (.tmp 28) = .agg (ov.map (Value.int .u8)).toArray := hf 6 28 (by kernel_rfl)
      obtain ⟨ty, H⟩ := rB.up hw
      have SR := setRow_heap v w.heap.size _ (ov.map (Value.int .u8)).toArray _ _ H
      have O2 := only_setRow v w.heap.size (ov.map (Value.int .u8)).toArray
      have O := one_ints .u8 ov
      obtain ⟨vs, hvs⟩ : ∃ vs : Nat → Value, ∀ d, a.tmps.getD d undef = vs d := ⟨_, fun _ => rfl⟩
      have ea' := puts_of (md := .any) (n := 29) (k := 7) (by kernel_rfl) rfl hb' vs hvs
      have V : Hid (ag .u8 ov = Value.agg (ov.map (Value.int .u8)).toArray) := rfl
      obtain ⟨vo, hvo⟩ : ∃ v, v = ov.map (Value.int .u8) := ⟨_, rfl⟩
      rw [← hvo] at e28 SR O2 O OL V
      refine wp_store_row 98 (.tmp 4) (.tmp 28) rfl w.heap.size vo.toArray e4 e28 ty _ H (by rw [List.size_toArray, OL.out]; exact infoP16) (by rw [List.size_toArray, List.size_toArray, OL.out]; rfl) O ?_
      dsimp only [Act.put]
      rw [ea']
      clear ea' hvs e4 e28 hf hb'
      simp only [puts, Act.put, List.setIfInBounds_toArray, List.set_cons_succ, List.set_cons_zero]
      have hK2 := (O2.block D (by omega)).trans ((hw.block D (Array.getElem?_eq_some_iff.1 hK).1).trans hK)
      have N2 : Below w.heap.size w (v.setRow w.heap.size vo.toArray) := be.trans ((hw.mono be.size).trans (O2.below (Nat.le_refl _)))
      have N3 : Below w.heap.size w ((v.setRow w.heap.size vo.toArray).putObj D (.deferred none)) := N2.trans (belowK_b (w := w) (Nat.le_refl _) _ D _ _ (by omega) hK2 rfl rfl)
      have SR2 : ((v.setRow w.heap.size vo.toArray).putObj D (.deferred none)).heap[w.heap.size]? = some (.cells vo.toArray ty (0, 0)) := (World.putObj_heap_other (by omega)).trans SR
      generalize v.setRow w.heap.size vo.toArray = W9 at *
      go_wp2
      refine ⟨by simp, .inl ⟨_, _, rfl, run_takeDeferred hK2, ?_⟩⟩
      exact ⟨_, results_cell_row Tryz.results72 _ _ w.heap.size ty vo.toArray (0, 0) (.array 16 5) rfl SR2 undP16 rfl (by rw [List.size_toArray, OL.out]; exact infoP16), by rw [← HOV.out, V.out], N3⟩
  case stop =>
    rintro D c pre W hD hs h hK
    exact h.elim
end Go.Proofs.YtjfggcefdobooaaGreatDoor
namespace Go.Proofs.YtjfggcefdobooaaGreatDoor
set_option maxRecDepth 100000
open Go.RowKit
theorem Tryz.info2 : (Tryz.prog.info? 2).map (fun i => (i.zero, i.size, i.bytes)) = some (some (.int .i64 0), 1, 8) := by kernel_rfl
set_option maxRecDepth 100000 in
set_option maxHeartbeats 4000000 in
theorem l1Mul_any (w : World) (g g' : Nat) (a b : Option Addr) (ca cb : Nat) (xs us : List Int) (ha : Rd w g a .u8 xs) (hb : Rd w g' b .u8 us) (hx : Byt xs) (hu : Byt us)
    (hn : xs.length ≤ 4096) (hm : us.length ≤ 4096) :
    Calls Tryz.prog 102 #[.slice a xs.length ca, .slice b us.length cb] w fun e w' => ∃ ys, Canon ys (bval xs * bval us) ∧ NewRow w.heap.size w' e .u8 ys ∧ Below w.heap.size w w' := by
  obtain ⟨i0, hi, hz0, hz1, hz2⟩ := info_parts Tryz.info5
  obtain ⟨j0, ji, jz0, jz1, jz2⟩ := info_parts Tryz.info2
  go_enter Tryz.func102, Tryz.ntmps102
  go_wp2_with (at_make; refine wpList_make_full _ rfl _ _ 168 rfl w.heap.size 2 j0 (.int .i64 0) 1 Tryz.underlying168 ji jz0 jz1 .i64 .i64 _ _ (xs.length + us.length + 1) rfl rfl (by omega) (by omega) (by rw [jz2]; omega) (by unfold maxLen; omega) (Nat.le_refl _) ?_; intro w1 hown hgrow)
  have hB0 := Blk.of_made hown
  have hN0 : Below w.heap.size w w1 := (Below.refl _ _).grown hgrow (Nat.le_refl _) (by simp)
  clear hown hgrow
  go_loopw [6] (fun i wr => ∃ (k : Nat) (cs : List Int), k ≤ xs.length ∧ i = .int .i64 k ∧ ColTo xs us cs (xs.length + us.length + 1) k 0 ∧ Blk wr w.heap.size .i64 cs ∧ Below w.heap.size w wr) (fun i _ => xs.length - (intOf i).toNat)
  case atStart => exact ⟨0, _, Nat.zero_le _, rfl, ColTo.zero xs us _, hB0, hN0⟩
  case round =>
    obtain ⟨k, cs, hk, rfl, hA, hB, hN⟩ := hrel
    by_cases hlt : k < xs.length
    · go_wp2
      go_loopw [7] (fun i wq => ∃ (j : Nat) (qs : List Int), j ≤ us.length ∧ i = .int .i64 j ∧ ColTo xs us qs (xs.length + us.length + 1) k j ∧ Blk wq w.heap.size .i64 qs ∧ Below w.heap.size w wq) (fun i _ => us.length - (intOf i).toNat)
      case atStart => exact ⟨0, cs, Nat.zero_le _, rfl, hA, hB, hN⟩
      case round =>
        obtain ⟨j, qs, hj', rfl, hA2, hB2, hN2⟩ := hrel
        by_cases hjl : j < us.length
        · have R := hA2.step hx hu (by omega)
          have hl := hA2.1
          have qb := hA2.2.1 (k + j)
          rw [if_neg (by omega)] at qb
          have c3 : wr.cell? ⟨w.heap.size, k + j, none⟩ = some (.int .i64 (qs.getD (k + j) 0)) := hB2.cell (by omega)
          have f3 := hB2.free (k + j)
          have S := hB2.store (k + j) (qs.getD (k + j) 0 + dig xs k * dig us j)
          have Sn : ∀ n v, Below w.heap.size w ((wr.drewN n).setCell ⟨w.heap.size, k + j, none⟩ v) := fun n v => (below_drewN hN2 n).setCell (Nat.le_refl _) v
          have d1 := dig_byt hx k
          have d2 := dig_byt hu j
          have u0 : 0 ≤ dig xs k * dig us j := Int.mul_nonneg d1.1 d2.1
          have u1 : dig xs k * dig us j ≤ 65025 := Int.le_trans (Int.mul_le_mul_of_nonneg_right d1.2 d2.1) (Int.mul_le_mul_of_nonneg_left d2.2 (by decide))
          have i1 : (k : Int) + (j : Int) < (xs.length : Int) + (us.length : Int) + 1 := by omega
          have i2 : ((k : Int) + (j : Int)).toNat = k + j := by omega
          have i5 : (0 : Int) ≤ (k : Int) + (j : Int) := by omega
          have i6 : (k : Int) + (j : Int) < ((xs.length + us.length + 1 : Nat) : Int) := by omega
          have ha' := fun n => ha.up (below_drewN hN2 n)
          have hb' := fun n => hb.up (below_drewN hN2 n)
          have L1 : ∀ W, (∃ n, W = wr.drewN n) → Calls Tryz.prog 100 #[.slice a xs.length ca, .int .i64 (k : Int)] W fun e w' => e = .returned (.int .i64 (dig xs k)) ∧ w' = W := by
            rintro W ⟨n, rfl⟩
            have := l1Digit_any (wr.drewN n) g a ca xs (k : Int) (ha' n) hx (by omega) (by omega) (by omega)
            rwa [Int.toNat_natCast] at this
          have L2 : ∀ W, (∃ n, W = wr.drewN n) → Calls Tryz.prog 100 #[.slice b us.length cb, .int .i64 (j : Int)] W fun e w' => e = .returned (.int .i64 (dig us j)) ∧ w' = W := by
            rintro W ⟨n, rfl⟩
            have := l1Digit_any (wr.drewN n) g' b cb us (j : Int) (hb' n) hu (by omega) (by omega) (by omega)
            rwa [Int.toNat_natCast] at this
          have e1 : IntKind.i64.wrap ((k : Int) + (j : Int)) = (k : Int) + (j : Int) := by rw [IntKind.wrap_i64]; omega
          have e2 : IntKind.i64.wrap (dig xs k * dig us j) = dig xs k * dig us j := by rw [IntKind.wrap_i64]; omega
          have e3 : IntKind.i64.wrap (qs.getD (k + j) 0 + dig xs k * dig us j) = qs.getD (k + j) 0 + dig xs k * dig us j := by rw [IntKind.wrap_i64]; omega
          have H1 := hide L1
          have H2 := hide L2
          have R' := hide R
          generalize dig xs k = x at *
          generalize dig us j = y at *
          generalize qs.getD (k + j) 0 = p at *
          clear hA hB hN hA2 hB2 hN2 L1 L2 ha' hb' hl R
          go_wp2
          go_region_with (first | (go_at_call_of 100 (Value.slice a xs.length ca); refine ((unhide H1) _ ?_).mono ?_; exact ⟨1, rfl⟩; rintro e w' ⟨rfl, rfl⟩) | (go_at_call_of 100 (Value.slice b us.length cb); refine ((unhide H2) _ ?_).mono ?_; exact ⟨1, rfl⟩; rintro e w' ⟨rfl, rfl⟩))
          all_goals
            clear e1 e2 e3
            go_wp2
            go_roundw
            case rel => exact ⟨j + 1, _, by omega, by go_num, R'.out, S, Sn 1 _⟩
            case measure => simp [intOf]; omega
        · obtain rfl : j = us.length := by omega
          have R' := hide hA2.row
          clear hA hB hN hA2
          go_wp2
          go_roundw
          case rel => exact ⟨k + 1, _, by omega, by go_num, R'.out, hB2, hN2⟩
          case measure => simp [intOf]; omega
    · obtain rfl : k = xs.length := by omega
      have hlt2 := hB.lt
      have hs := hN.size
      go_wp2_with (at_make; refine wpList_make_full _ rfl _ _ 22 rfl wr.heap.size 5 i0 (.int .u8 0) 1 Tryz.underlying22 hi hz0 hz1 .i64 .i64 _ _ (xs.length + us.length + 1) rfl rfl (by omega) (by omega) (by rw [hz2]; omega) (by unfold maxLen; omega) (Nat.le_refl _) ?_; intro w3 hown hgrow)
      have hB3 := Blk.of_made hown
      have hN3 : Below wr.heap.size wr w3 := (Below.refl _ _).grown hgrow (Nat.le_refl _) (by simp)
      have HC := hide hA
      have hcb := hA.2.1
      have hcl := hide hA.1
      clear hown hgrow hA
      obtain ⟨wv, rfl⟩ : ∃ wv, wv = wr := ⟨_, rfl⟩
      go_loopw [9, 10] (fun q i wq => ∃ (t : Nat) (c : Int) (ys : List Int), t ≤ xs.length + us.length + 1 ∧ i = .int .i64 t ∧ q = .int .i64 c ∧ (0 ≤ c ∧ c ≤ 1099511627776) ∧ OutTo cs ys (xs.length + us.length + 1) t c ∧ Blk wq wv.heap.size .u8 ys ∧ Below wv.heap.size wv wq) (fun _ i _ => xs.length + us.length + 1 - (intOf i).toNat)
      case atStart => exact ⟨0, 0, _, Nat.zero_le _, rfl, rfl, ⟨by omega, by omega⟩, ⟨by simp, byt_zeros _, rfl⟩, hB3, hN3⟩
      case round =>
        obtain ⟨t, c, ys, ht, rfl, rfl, hc, hO, hBq, hNq⟩ := hrel
        by_cases htl : t < xs.length + us.length + 1
        · have R := hide (hO.step htl)
          have hyl := hO.1
          have cb := hcb t
          have cb2 : cs.getD t 0 ≤ 266407425 := by
            have h2 := cb.2
            split at h2 <;> omega
          have cb1 := cb.1
          have c1 : wr.cell? ⟨w.heap.size, t, none⟩ = some (.int .i64 (cs.getD t 0)) := (hNq.cell (p := ⟨w.heap.size, t, none⟩) hlt2).trans (hB.cell (by rw [hcl.out]; exact htl))
          have c2 : wr.cell? ⟨wv.heap.size, xs.length + us.length + 1 - 1 - t, none⟩ = some (.int .u8 (ys.getD (xs.length + us.length + 1 - 1 - t) 0)) := hBq.cell (by omega)
          have f2 := hBq.free (xs.length + us.length + 1 - 1 - t)
          have S := hBq.store (xs.length + us.length + 1 - 1 - t) ((cs.getD t 0 + c) % 256)
          have Sn : Below wv.heap.size wv (wr.setCell ⟨wv.heap.size, xs.length + us.length + 1 - 1 - t, none⟩ (.int .u8 ((cs.getD t 0 + c) % 256))) := hNq.setCell (Nat.le_refl _) _
          obtain ⟨p, hp⟩ : ∃ p : Nat, xs.length + us.length + 1 - 1 - t = p := ⟨_, rfl⟩
          rw [hp] at c2 f2 S Sn R
          have p1 : (xs.length : Int) + (us.length : Int) + 1 - 1 - (t : Int) = (p : Int) := by omega
          have p1' : (xs.length : Int) + (us.length : Int) - (t : Int) = (p : Int) := by omega
          have p2 : (p : Int) < (xs.length : Int) + (us.length : Int) + 1 := by omega
          have i1 : (t : Int) < (xs.length : Int) + (us.length : Int) + 1 := by omega
          generalize cs.getD t 0 = x at *
          have m1 : (x + c) % 256 % 256 = (x + c) % 256 := by omega
          clear hB hN hO hBq hNq hp cb hcb hyl HC hcl
          go_wp2
          go_roundw
          case rel => exact ⟨t + 1, _, _, by omega, by go_num, rfl, ⟨by omega, by omega⟩, R.out, S, Sn⟩
          case measure => simp [intOf]; omega
        · obtain rfl : t = xs.length + us.length + 1 := by omega
          have V := hide (hO.done hc.1 HC.out hx hu)
          have L := hide hO.1
          have hyb := hO.2.1
          clear hO hB hcb hcl HC
          go_wp2_with fail
          rw [← L.out]
          refine (l1Trim_any wr _ _ _ ys hBq.own0.rd hyb (by simp) (Nat.le_refl _) (by rw [L.out]; omega)).mono ?_
          rintro e w4 ⟨zs, C, _, ⟨a1, c1, g1, rfl, o1, q1, q2, q3⟩, n4⟩
          rw [V.out] at C
          have sq := hNq.size
          have nn := nxt (nxt hN hNq) n4
          go_wp2
          go_ret
          exact ⟨zs, C, ⟨_, _, _, rfl, o1, q1, q2, by omega⟩, nn⟩
end Go.Proofs.YtjfggcefdobooaaGreatDoor
namespace Go.Proofs.YtjfggcefdobooaaGreatDoor
set_option maxRecDepth 100000
open Go.RowKit
theorem zeroCells_one (v : Value) (m : Nat) : (Builtin.zeroCells #[v] m).toList = List.replicate m v := by
  apply List.ext_getElem
  · simp [Builtin.zeroCells]
  · intro i h1 h2
    simp [Builtin.zeroCells, Nat.mod_one]
theorem run_append_room_zeros {P : Program} (w : World) (t tn ty e : TypeId) (i : TypeInfo) (z : Value) (kq kn : IntKind) (ht : P.underlying t = some (.slice e)) (htn : P.underlying tn = some (.int kn)) (hi : P.info? e = some i) (hz : i.zero = some z)
    (g sLen sCap : Nat) (cur : Array Value) (hg : w.heap[g]? = some (.cells cur e (0, 0))) (m : Nat) (h0 : 0 < m) (hs : 0 < i.size) (h1 : ∀ u ∈ (Builtin.zeroCells z.cells m).toList, u.oneCell' = true)
    (h63 : (m : Int) ≤ 9223372036854775807) (h48 : m * i.bytes ≤ 281474976710656) (hroom : sLen + m ≤ sCap) (hfit : sLen * i.size + (Builtin.zeroCells z.cells m).toList.length ≤ cur.size) :
    (Builtin.append_ #[t, tn] ty #[.slice (some ⟨g, 0, none⟩) sLen sCap, .int kq m]).run P w =
      .ok (.slice (some ⟨g, 0, none⟩) (sLen + m) sCap) (w.setRow g (cur.toList.take (sLen * i.size) ++ (Builtin.zeroCells z.cells m).toList ++ cur.toList.drop (sLen * i.size + (Builtin.zeroCells z.cells m).toList.length)).toArray) := by
  have hst := run_storeCells_at P g (sLen * i.size) e (Builtin.zeroCells z.cells m).toList 0 cur w hg (by simpa using hfit) h1
  simp only [Nat.add_zero] at hst
  have hw : IntKind.i64.wrap (m : Int) = m := by rw [IntKind.wrap_i64]; omega
  have h48i : ¬ (281474976710656 < (m : Int) * (i.bytes : Int)) := by
    rw [← Int.natCast_mul]
    omega
  have hneg : ¬ ((m : Int) < 0) := by omega
  have hm : m ≠ 0 := by omega
  have hns : ¬ (m * i.size = 0) := Nat.mul_ne_zero hm (by omega)
  simp [Builtin.append_, run_underlying ht, run_underlying htn, sizeOf, typeInfo, zeroValue, hi, hz, asInt, asIntOf, hw, hneg, hns, h48i, hroom, Addr.add_lit, hst]
theorem append_zeros_own {P : Program} (w : World) (t tn ty e : TypeId) (i : TypeInfo) (kq kn : IntKind) (ht : P.underlying t = some (.slice e)) (htn : P.underlying tn = some (.int kn)) (hi : P.info? e = some i) (hz : i.zero = some (.int .u8 0)) (hsize : i.size = 1) (hby : i.bytes = 1)
    (base : Nat) (v : Value) (n : Nat) (xs : List Value) (hown : w.ownsRow base e 1 v n xs) (hv : v ≠ .slice none 0 0) (m : Nat) (h0 : 0 < m) (hsm : n + m ≤ 1048576) (hbase : base ≤ w.heap.size) :
    ∃ v' w', (Builtin.append_ #[t, tn] ty #[v, .int kq m]).run P w = .ok v' w' ∧ w'.ownsRow base e 1 v' (n + m) (xs ++ List.replicate m (.int .u8 0)) ∧ w.grownBy w' v.ownBlock ∧ v' ≠ .slice none 0 0 := by
  have hzc : (Value.int .u8 0).cells = #[.int .u8 0] := rfl
  have hzl := zeroCells_one (.int .u8 0) m
  have hlen : (xs ++ List.replicate m (Value.int .u8 0)).length = (n + m) * 1 := by rw [List.length_append, hown.1, List.length_replicate]; omega
  rcases hown.2 with ⟨rfl, rfl⟩ | ⟨g, cap, cur, rfl, hbg, hg, hnc, hcm, hcs, htake⟩
  · exact absurd rfl hv
  · by_cases hroom : n + m ≤ cap
    · have hr := run_append_room_zeros (P := P) w t tn ty e i (.int .u8 0) kq kn ht htn hi hz g n cap cur hg m h0 (by omega) (by rw [hzc, hzl]; intro u hu; rw [(List.mem_replicate.1 hu).2]; rfl) (by omega) (by rw [hby]; omega) hroom (by rw [hzc, hzl, hsize, List.length_replicate]; omega)
      rw [hzc, hzl, hsize, List.length_replicate] at hr
      refine ⟨_, _, hr, ⟨hlen, .inr ⟨g, cap, _, rfl, hbg, setRow_heap w g cur _ e _ hg, hroom, hcm, ?_, ?_⟩⟩, ⟨rfl, rfl, rfl, by simp, fun k _ hk => setRow_other w g k _ (fun e => hk (by simp [Value.ownBlock, e]))⟩, by simp⟩
      · simp only [List.size_toArray, List.length_append, List.length_take, List.length_drop, Array.length_toList, List.length_replicate]
        omega
      · rw [htake, ← hlen]
        exact List.take_left
    · have holds : ∀ j u, xs[j]? = some u → w.drew.cell? ((⟨g, 0, none⟩ : Addr).add j) = some u := hown.cells (g := g) rfl
      have hf := run_firstCells_some (P := P) w.drew i.size n ⟨g, 0, none⟩ n cap xs (by rw [hsize]; exact hown.1) holds
      have hr := Lib.run_append_grow_zeros (P := P) w t tn ty e i (.int .u8 0) kq kn ht htn hi hz (some ⟨g, 0, none⟩) n cap xs hf m h0 (by omega) (by omega) (by omega) (by rw [hby]; omega) (growslice_fits (by omega) (by rw [hby]; omega))
      have hge := grownCap_ge w (n + m) cap e
      have hcm' : grownCap w (n + m) cap e ≤ maxLen := grownCap_le_maxLen w (n + m) cap e (by unfold maxLen; omega)
      refine ⟨_, _, hr, ⟨hlen, .inr ⟨w.heap.size, _, _, rfl, hbase, _root_.Go.heap_alloc_new w.drew _, hge, hcm', ?_, ?_⟩⟩, ⟨rfl, rfl, rfl, by simp, fun k hk _ => _root_.Go.heap_alloc_old w.drew _ hk⟩, by simp⟩
      · have h1 := hown.1
        simp only [Array.size_append, List.size_toArray, size_zeroCells, hzc, h1]
        simp
        omega
      · simp only [Array.toList_append, List.append_assoc]
        rw [← List.append_assoc, ← hlen, hzc, hzl]
        exact List.take_left
end Go.Proofs.YtjfggcefdobooaaGreatDoor
namespace Go.Proofs.YtjfggcefdobooaaGreatDoor
set_option maxRecDepth 100000
open Go.RowKit
set_option maxRecDepth 100000 in
set_option maxHeartbeats 400000 in
theorem l1Copy_own (w : World) (g : Nat) (ad : Addr) (cap : Nat) (xs : List Int) (hr : Rd w g (some ad) .u8 xs) (hn : xs.length ≤ 1048576) (h0 : 0 < xs.length) :
    Calls Tryz.prog 25 #[.slice (some ad) xs.length cap] w fun e w' => ∃ v, e = .returned v ∧ v ≠ .slice none 0 0 ∧ w'.ownsRow w.heap.size 5 1 v xs.length (xs.map (Value.int .u8)) ∧ Below w.heap.size w w' := by
  obtain ⟨i0, hi, hz0, hz1, hz2⟩ := info_parts Tryz.info5
  have hown : (w.alloc (.cells #[] 5)).ownsRow w.heap.size 5 1 (.slice (some ⟨w.heap.size, 0, none⟩) 0 0) 0 [] := World.ownsRow_lit w #[] 0 (Nat.le_refl _) (by unfold maxLen; omega) (by simp)
  have hal : Below w.heap.size w (w.alloc (.cells #[] 5)) := (Below.refl _ _).alloc (Nat.le_refl _) _
  have hcell : ∀ j u, (xs.map (Value.int .u8))[j]? = some u → (w.alloc (.cells #[] 5)).cell? (ad.add j) = some u := by
    intro j u hj
    have hjl : j < xs.length := by
      have := (List.getElem?_eq_some_iff.1 hj).1
      simpa using this
    obtain ⟨off, ha, hcc⟩ := (hr.up hal) (by omega)
    simp only [Option.some.injEq] at ha
    subst ha
    rw [Addr.add_mid, hcc j hjl]
    simpa [hjl] using hj
  have hone : ∀ u ∈ xs.map (Value.int .u8), u.oneCell' = true := oneCells _ _
  go_enter Tryz.func25, Tryz.ntmps25
  go_wp2_with (at_builtin; refine wpList_append_own _ rfl _ _ 22 rfl w.heap.size 5 i0 (.int .u8 0) 1 1 Tryz.underlying22 hi hz0 hz1 hz2 rfl (by decide) (.slice (some ⟨w.heap.size, 0, none⟩) 0 0) 0 [] rfl hown ad xs.length cap (xs.map (Value.int .u8)) rfl (by simp) hcell hone (by unfold maxLen; omega) (by omega) (by simp) ?_; intro v' w1 hown' hgrow hnil)
  simp only [Nat.zero_add, List.nil_append] at hown'
  have hB : Below w.heap.size w w1 := hal.grown hgrow (by simp) (by intro k hk; simp [Value.ownBlock] at hk; omega)
  have hv : v' ≠ .slice none 0 0 := fun h => by have := (hnil.1 h).1; simp at this
  clear hgrow hown hnil
  go_wp2
  go_ret
  exact ⟨_, rfl, hv, hown', hB⟩
theorem bval_zeros (xs : List Int) : ∀ m, bval (xs ++ List.replicate m 0) = bval xs * 256 ^ m
  | 0 => by simp
  | m + 1 => by
    rw [List.replicate_succ', ← List.append_assoc, bval_snoc, bval_zeros xs m, Int.pow_succ, Int.mul_assoc]
    omega
theorem byt_addz {xs : List Int} (h : Byt xs) (m : Nat) : Byt (xs ++ List.replicate m 0) := by
  intro i
  by_cases e : i < xs.length
  · have := h i
    simpa [List.getElem?_append, e] using this
  · rw [List.getD_eq_getElem?_getD, List.getElem?_append, if_neg e, List.getElem?_replicate]
    split <;> simp
set_option maxRecDepth 100000 in
set_option maxHeartbeats 1000000 in
theorem l1Shift130_any (w : World) (g : Nat) (ad : Addr) (c : Nat) (xs : List Int) (ha : Rd w g (some ad) .u8 xs) (hb : Byt xs) (hl : xs.length ≤ 64) (h0 : 0 < xs.length) :
    Calls Tryz.prog 77 #[.slice (some ad) xs.length c, .int .i64 130] w fun e w' => ∃ ys, Canon ys (bval xs * 1361129467683753853853498429727072845824) ∧ NewRow w.heap.size w' e .u8 ys ∧ Below w.heap.size w w' := by
  obtain ⟨i0, hi, hz0, hz1, hz2⟩ := info_parts Tryz.info5
  go_enter Tryz.func77, Tryz.ntmps77
  go_wp2_with fail
  refine (l1Copy_own w g ad c xs ha (by omega) h0).mono ?_
  rintro e w1 ⟨v, rfl, hv, o1, n1⟩
  obtain ⟨v', w2, hap, o2, hgr, hv'⟩ := append_zeros_own (P := Tryz.prog) w1 22 3 22 5 i0 .i64 .i64 Tryz.underlying22 Tryz.underlying3 hi hz0 hz1 hz2 w.heap.size v xs.length _ o1 hv 16 (by omega) (by omega) n1.size
  have n2 : Below w.heap.size w w2 := n1.grown hgr (n1.size) (fun i hi => (o1.lt i hi).1)
  have o2' : w2.ownsRow w.heap.size 5 1 v' (xs ++ List.replicate 16 0).length ((xs ++ List.replicate 16 0).map (Value.int .u8)) := by simpa using o2
  obtain ⟨a3, c3, g3, rfl, o3, p3, q3, r3⟩ := Own.of_ownsRow o2'
  have V := hide (bval_zeros xs 16)
  have Z := byt_addz hb 16
  have L : (xs ++ List.replicate 16 (0 : Int)).length ≤ 128 := by simp; omega
  generalize xs ++ List.replicate 16 (0 : Int) = zs at *
  clear o1 o2 o2' hgr hv hv'
  go_wp2_with (at_builtin; refine Lib.wpList_append_run _ rfl _ _ 22 3 rfl _ _ rfl rfl _ _ hap ?_)
  have n3 : Below w2.heap.size w2 (w2.alloc (.cells #[.int .u8 4] 5)) := (Below.refl _ _).alloc (Nat.le_refl _) _
  have B2 : Blk (w2.alloc (.cells #[.int .u8 4] 5)) w2.heap.size .u8 [4] := ⟨5, by rw [heap_alloc_last]; rfl⟩
  generalize w2.alloc (.cells #[.int .u8 4] 5) = w4 at *
  have hb2 : Byt [4] := fun i => by
    match i with
    | 0 => decide
    | i + 1 => simp
  refine (l1Mul_any w4 g3 _ _ _ c3 1 zs [4] (o3.up n3).rd B2.own0.rd Z hb2 (by omega) (by decide)).mono ?_
  rintro e w5 ⟨ys, C, ⟨a5, c5, g5, rfl, o5, p5, q5, r5⟩, n5⟩
  have N5 := nxt (nxt n2 n3) n5
  have z := (nxt n2 n3).size
  have C' : Canon ys (bval xs * 1361129467683753853853498429727072845824) := by
    rw [V.out] at C
    have e1 : bval [4] = 4 := by decide
    have e2 : (256 : Int) ^ 16 * 4 = 1361129467683753853853498429727072845824 := by decide
    rw [e1, Int.mul_assoc, e2] at C
    exact C
  clear hap C
  go_wp2
  go_ret
  exact ⟨ys, C', ⟨a5, c5, g5, rfl, o5, p5, q5, by omega⟩, N5⟩
theorem byt_one {d : Int} (h0 : 0 ≤ d) (h1 : d < 256) : Byt [d] := fun i => by
  match i with
  | 0 => exact ⟨h0, h1⟩
  | i + 1 => simp
end Go.Proofs.YtjfggcefdobooaaGreatDoor
namespace Go.Proofs.YtjfggcefdobooaaGreatDoor
set_option maxRecDepth 100000
open Go.RowKit
set_option maxRecDepth 100000 in
set_option maxHeartbeats 2000000 in
theorem l1Sub_any (w : World) (g g' : Nat) (a b : Option Addr) (ca cb : Nat) (xs us : List Int) (ha : Rd w g a .u8 xs) (hb : Rd w g' b .u8 us) (hx : Byt xs) (hu : Byt us)
    (hn : xs.length ≤ 4096) (hm : us.length ≤ xs.length) (hle : bval us ≤ bval xs) :
    Calls Tryz.prog 76 #[.slice a xs.length ca, .slice b us.length cb] w fun e w' => ∃ ys, Canon ys (bval xs - bval us) ∧ NewRow w.heap.size w' e .u8 ys ∧ Below w.heap.size w w' := by
  obtain ⟨i0, hi, hz0, hz1, hz2⟩ := info_parts Tryz.info5
  go_enter Tryz.func76, Tryz.ntmps76
  go_wp2_with (at_make; refine wpList_make_full _ rfl _ _ 22 rfl w.heap.size 5 i0 (.int .u8 0) 1 Tryz.underlying22 hi hz0 hz1 .i64 .i64 _ _ xs.length rfl rfl rfl rfl (by rw [hz2]; omega) (by unfold maxLen; omega) (Nat.le_refl _) ?_; intro w1 hown hgrow)
  have hB0 := Blk.of_made hown
  have hN0 : Below w.heap.size w w1 := (Below.refl _ _).grown hgrow (Nat.le_refl _) (by simp)
  clear hown hgrow
  go_loopw [7, 8] (fun q i wr => ∃ (k : Nat) (c : Int) (ys : List Int), k ≤ xs.length ∧ i = .int .i64 k ∧ q = .int .i64 c ∧ (0 ≤ c ∧ c ≤ 1) ∧ SubTo xs us ys k c ∧ Blk wr w.heap.size .u8 ys ∧ Below w.heap.size w wr) (fun _ i _ => xs.length - (intOf i).toNat)
  case atStart => exact ⟨0, 0, _, Nat.zero_le _, rfl, rfl, ⟨by omega, by omega⟩, ⟨by simp, byt_zeros _, ⟨by omega, by omega⟩, rfl⟩, hB0, hN0⟩
  case round =>
    obtain ⟨k, c, ys, hk, rfl, rfl, hc, hA, hB, hN⟩ := hrel
    by_cases hlt : k < xs.length
    · have R := hA.step hlt
      have hl : ys.length = xs.length := hA.1
      have hS := fun v => hB.store (xs.length - 1 - k) v
      have hSn : ∀ v, Below w.heap.size w (wr.setCell ⟨w.heap.size, xs.length - 1 - k, none⟩ v) := fun v => hN.setCell (Nat.le_refl _) v
      have hcy : wr.cell? ⟨w.heap.size, xs.length - 1 - k, none⟩ = some (.int .u8 (ys.getD (xs.length - 1 - k) 0)) := hB.cell (by omega)
      have hfy := hB.free (xs.length - 1 - k)
      have d1 := dig_byt hx k
      have d2 := dig_byt hu k
      obtain ⟨p, hp⟩ : ∃ p : Nat, xs.length - 1 - k = p := ⟨_, rfl⟩
      rw [hp] at hcy hfy R
      simp only [hp] at hS hSn
      have p1 : (xs.length : Int) - 1 - (k : Int) = (p : Int) := by omega
      have p2 : (p : Int) < (xs.length : Int) := by omega
      have ha' := ha.up hN
      have hb' := hb.up hN
      have R' := hide R
      clear hB hN hA hl hp R
      go_wp2_with fail
      refine (l1Digit_any wr g a ca xs _ ha' hx (by omega) (by omega) (by omega)).mono ?_
      rintro e w' ⟨rfl, rfl⟩
      rw [Int.toNat_natCast]
      go_wp2_with fail
      refine (l1Digit_any w' g' b cb us _ hb' hu (by omega) (by omega) (by omega)).mono ?_
      rintro e w'' ⟨rfl, rfl⟩
      rw [Int.toNat_natCast]
      generalize dig xs k = x at *
      generalize dig us k = y at *
      by_cases hv : x - y - c < 0
      · have tv : decide (x - y - c < 0) = true := by simp; omega
        have m1 : (x - y - c + 256) % 256 = x - y - c + 256 := by omega
        go_wp2
        go_roundw
        case rel => exact ⟨k + 1, _, _, by omega, by go_num, rfl, ⟨by omega, by omega⟩, R'.out (x - y - c + 256) 1 (by omega) (by omega) (by omega) ⟨by omega, by omega⟩, hS _, hSn _⟩
        case measure => simp [intOf]; omega
      · have tv : decide (x - y - c < 0) = false := by simp; omega
        have m1 : (x - y - c) % 256 = x - y - c := by omega
        go_wp2
        go_roundw
        case rel => exact ⟨k + 1, _, _, by omega, by go_num, rfl, ⟨by omega, by omega⟩, R'.out (x - y - c) 0 (by omega) (by omega) (by omega) ⟨by omega, by omega⟩, hS _, hSn _⟩
        case measure => simp [intOf]; omega
    · obtain rfl : k = xs.length := by omega
      have V := hide (hA.done hm hle)
      have L := hide hA.1
      have hyb := hA.2.1
      clear hA
      go_wp2_with fail
      rw [← L.out]
      refine (l1Trim_any wr _ _ _ ys hB.own0.rd hyb (by simp) (Nat.le_refl _) (by rw [L.out]; omega)).mono ?_
      rintro e w2 ⟨zs, C, _, ⟨a1, c1, g1, rfl, o1, q1, q2, q3⟩, n2⟩
      rw [V.out] at C
      go_wp2
      go_ret
      exact ⟨zs, C, ⟨_, _, _, rfl, o1, q1, q2, by have := hN.size; omega⟩, nxt hN n2⟩
end Go.Proofs.YtjfggcefdobooaaGreatDoor
namespace Go.Proofs.YtjfggcefdobooaaGreatDoor
set_option maxRecDepth 100000
open Go Go.RowKit
def otA (key data : List Int) : List Int := if key.length = 32 then otB key data else []
def rl (key : List Int) : List Int := fill (fun j => if j < 16 then cl j (key.getD j 0) else 0) 17
theorem rl_len (key : List Int) : (rl key).length = 17 := fill_len _ _
theorem rl_byt {key : List Int} (h : Byt key) : Byt (rl key) := fill_byt _ _ fun i => by
  show 0 ≤ (if i < 16 then cl i (key.getD i 0) else 0) ∧ (if i < 16 then cl i (key.getD i 0) else 0) < 256
  split
  · exact cl_byt i (h i)
  · decide
theorem rl_val (key : List Int) : lsum (fun j => (rl key).getD j 0) 17 = rv key := by
  unfold rl
  rw [lsum_congr 17 (fun j hj => fill_get (fun j => if j < 16 then cl j (key.getD j 0) else 0) 17 j hj), lsum, if_neg (by decide), rv]
  rw [lsum_congr 16 (fun j hj => if_pos hj)]
  omega
theorem UpN.rl {key zs : List Int} (h : UpN 17 (fun j => cl j (key.getD j 0)) (fun _ => 0) zs 16) : zs = Go.Proofs.YtjfggcefdobooaaGreatDoor.rl key := by
  refine eq_of_getD (by rw [h.1, rl_len]) (fun i hi => ?_)
  rw [h.1] at hi
  unfold Go.Proofs.YtjfggcefdobooaaGreatDoor.rl
  rw [fill_get _ _ _ hi]
  by_cases c : i < 16
  · rw [h.2.1 i c, if_pos c]
  · rw [h.2.2 i (by omega) hi, if_neg c]
theorem add_piece {ss ts ps : List Int} (pl : ps.length ≤ 16) (h : UpN 17 (fun j => ss.getD j 0 + ps.getD j 0) (fun j => ss.getD j 0) ts ps.length) (sb : Byt ss) (pb' : Byt ps) :
    (∀ j, 0 ≤ (ts.set ps.length (ss.getD ps.length 0 + 1)).getD j 0 ∧ (ts.set ps.length (ss.getD ps.length 0 + 1)).getD j 0 ≤ 512) ∧ (ts.set ps.length (ss.getD ps.length 0 + 1)).length = 17 ∧
    lsum (fun j => (ts.set ps.length (ss.getD ps.length 0 + 1)).getD j 0) 17 = lsum (fun j => ss.getD j 0) 17 + pcv ps := by
  have g : ∀ j, j < 17 → (ts.set ps.length (ss.getD ps.length 0 + 1)).getD j 0 = ss.getD j 0 + 1 * (pb ps).getD j 0 := fun j hj => by
    rw [pb_get pl]
    by_cases e : ps.length = j
    · subst e
      rw [getD_set_self _ _ _ (by rw [h.1]; omega), if_neg (by omega), if_pos rfl]; omega
    · rw [getD_set_ne _ _ _ _ e]
      by_cases c : j < ps.length
      · have e1 := h.2.1 j c
        dsimp only at e1
        rw [e1, if_pos c]; omega
      · have e1 := h.2.2 j (by omega) hj
        dsimp only at e1
        rw [e1, if_neg c, if_neg (by omega)]; omega
  refine ⟨fun j => ?_, by rw [List.length_set]; exact h.1, ?_⟩
  · by_cases hj : j < 17
    · rw [g j hj]
      have := sb j
      have := pb_byt pl pb' j
      omega
    · rw [List.getD_eq_getElem?_getD, List.getElem?_eq_none (by rw [List.length_set, h.1]; omega)]; decide
  · rw [lsum_congr 17 g, lsum_lin, pb_val pl]; omega
def Fact.can (v : Int) : Fact := ⟨fun x W => ∃ (ys : List Int) (a : Option Addr) (c g : Nat), x = .slice a ys.length c ∧ Own W g a .u8 ys ∧ (a = none → c = 0) ∧ ys.length ≤ c ∧ Canon ys v, fun h ⟨ys, a, c, g, e, o, p⟩ => ⟨ys, a, c, g, e, o.up h, p⟩⟩
set_option maxRecDepth 100000 in
set_option maxHeartbeats 16000000 in
theorem specOneTime_any (w : World) (gk : Nat) (ak : Option Addr) (ck : Nat) (key : List Int) (hk : Rd w gk ak .u8 key) (kb : Byt key) (kc : key.length ≤ ck)
    (gd : Nat) (ad : Option Addr) (cd : Nat) (data : List Int) (hd : Rd w gd ad .u8 data) (db : Byt data) (dn : data.length ≤ 4194304) :
    Calls Tryz.prog 62 #[.slice ak key.length ck, .slice ad data.length cd] w fun e w' => NewRow w.heap.size w' e .u8 (otA key data) ∧ Below w.heap.size w w' := by
  by_cases kl : key.length = 32
  · have RS : Hid (otA key data = otB key data) := by show _ = _; unfold otA; rw [if_pos kl]
    rw [RS.out]
    obtain ⟨i0, hi, hz0, hz1, hz2⟩ := info_parts Tryz.info5
    have KL := hide kl
    have KB := hide kb
    have DB := hide db
    obtain ⟨ok, rfl, hkc⟩ := hk (by omega)
    have k32 : (key.length : Int) = 32 := by omega
    have kcI : (key.length : Int) ≤ (ck : Int) := by omega
    have dnI : (data.length : Int) ≤ 4194304 := by omega
    have B0 := blk_i17 w 129
    have n0 : Below w.heap.size w (w.alloc (.cells #[.int .i64 0, .int .i64 0, .int .i64 0, .int .i64 0, .int .i64 0, .int .i64 0, .int .i64 0, .int .i64 0, .int .i64 0, .int .i64 0, .int .i64 0, .int .i64 0, .int .i64 0, .int .i64 0, .int .i64 0, .int .i64 0, .int .i64 0] 129)) := (Below.refl _ _).alloc (Nat.le_refl _) _
    have z0 : (w.alloc (.cells #[.int .i64 0, .int .i64 0, .int .i64 0, .int .i64 0, .int .i64 0, .int .i64 0, .int .i64 0, .int .i64 0, .int .i64 0, .int .i64 0, .int .i64 0, .int .i64 0, .int .i64 0, .int .i64 0, .int .i64 0, .int .i64 0, .int .i64 0] 129)).heap.size = w.heap.size + 1 := by simp
    clear RS kb db hkc kl
    go_enter Tryz.func62, Tryz.ntmps62
    go_upto_region 4 with fail
    generalize w.alloc (.cells #[.int .i64 0, .int .i64 0, .int .i64 0, .int .i64 0, .int .i64 0, .int .i64 0, .int .i64 0, .int .i64 0, .int .i64 0, .int .i64 0, .int .i64 0, .int .i64 0, .int .i64 0, .int .i64 0, .int .i64 0, .int .i64 0, .int .i64 0] 129) = wa at *
    clear k32
    have U0 : UpN 17 (fun j => cl j (key.getD j 0)) (fun _ => 0) (List.replicate 17 0) 0 := ⟨by simp, fun j h => absurd h (by omega), fun j _ hj => by rw [List.getD_eq_getElem?_getD, List.getElem?_replicate, if_pos hj]; rfl⟩
    go_wp2
    go_loopw [6] (fun v wr => ∃ (i : Nat) (zs : List Int), i ≤ 16 ∧ v = .int .i64 i ∧ Hid (UpN 17 (fun j => cl j (key.getD j 0)) (fun _ => 0) zs i) ∧ Blk wr w.heap.size .i64 zs ∧ wr.heap.size = w.heap.size + 1 ∧ Below w.heap.size w wr) (fun v _ => 16 - (intOf v).toNat)
    case atStart => exact ⟨0, _, by omega, rfl, U0, B0, z0, n0⟩
    case round =>
      clear B0 n0 z0 U0
      obtain ⟨i, zs, hi', rfl, hU, hB, hz, hN⟩ := hrel
      by_cases hlt : i < 16
      · have R := hide (hU.out.step (show i < 17 by omega))
        obtain ⟨o', eo, hkc⟩ := (hk.up hN) (by have := KL.out; omega)
        simp only [Option.some.injEq, Addr.mk.injEq, true_and, and_true] at eo
        subst eo
        have cx := hkc i (by have := KL.out; omega)
        have kbi := KB.out i
        have cz := hB.cell (i := i) (by rw [hU.out.1]; omega)
        have fz := hB.free i
        have S1 := fun x => hB.store i x
        have zl := hU.out.1
        have O := fun x => Only.setCell wr w.heap.size i x
        have d1 : (i : Int) < (key.length : Int) := by have := KL.out; omega
        clear hU hkc KL KB DB
        generalize key.getD i 0 = x at *
        rcases (show i = 0 ∨ i = 1 ∨ i = 2 ∨ i = 3 ∨ i = 4 ∨ i = 5 ∨ i = 6 ∨ i = 7 ∨ i = 8 ∨ i = 9 ∨ i = 10 ∨ i = 11 ∨ i = 12 ∨ i = 13 ∨ i = 14 ∨ i = 15 by omega) with rfl | rfl | rfl | rfl | rfl | rfl | rfl | rfl | rfl | rfl | rfl | rfl | rfl | rfl | rfl | rfl
        · have E : Hid (cl 0 x = x) := rfl
          try rw [Nat.add_zero] at cx
          have S2 := S1 x
          have O2 := O (.int .i64 x)
          rw [E.out] at R
          have Sz := O2.size.trans hz
          have Sn := hN.trans (O2.below (B := w.heap.size) (by omega))
          clear S1 O O2 E hB hz hN
          generalize zs.set 0 x = zs' at *
          go_wp2
          go_roundw
          case rel => exact ⟨0 + 1, zs', by omega, by go_num, R, S2, Sz, Sn⟩
          case measure => simp [intOf]
        · have E : Hid (cl 1 x = x) := rfl
          try rw [Nat.add_zero] at cx
          have S2 := S1 x
          have O2 := O (.int .i64 x)
          rw [E.out] at R
          have Sz := O2.size.trans hz
          have Sn := hN.trans (O2.below (B := w.heap.size) (by omega))
          clear S1 O O2 E hB hz hN
          generalize zs.set 1 x = zs' at *
          go_wp2
          go_roundw
          case rel => exact ⟨1 + 1, zs', by omega, by go_num, R, S2, Sz, Sn⟩
          case measure => simp [intOf]
        · have E : Hid (cl 2 x = x) := rfl
          try rw [Nat.add_zero] at cx
          have S2 := S1 x
          have O2 := O (.int .i64 x)
          rw [E.out] at R
          have Sz := O2.size.trans hz
          have Sn := hN.trans (O2.below (B := w.heap.size) (by omega))
          clear S1 O O2 E hB hz hN
          generalize zs.set 2 x = zs' at *
          go_wp2
          go_roundw
          case rel => exact ⟨2 + 1, zs', by omega, by go_num, R, S2, Sz, Sn⟩
          case measure => simp [intOf]
        · have E : Hid (cl 3 x = x % 16) := rfl
          have S2 := (S1 x).store 3 (x % 16)
          rw [List.set_set] at S2
          have c2 := (S1 x).cell (i := 3) (by rw [List.length_set, zl]; omega)
          rw [getD_set_self _ _ _ (by rw [zl]; omega)] at c2
          have f2 := (S1 x).free 3
          have O2 := (O (.int .i64 x)).trans (Only.setCell _ w.heap.size 3 (.int .i64 (x % 16)))
          rw [E.out] at R
          have Sz := O2.size.trans hz
          have Sn := hN.trans (O2.below (B := w.heap.size) (by omega))
          have t1 : x.tmod 16 = x % 16 := Int.tmod_eq_emod_of_nonneg (by omega)
          clear S1 O O2 E hB hz hN
          generalize zs.set 3 (x % 16) = zs' at *
          go_wp2
          go_roundw
          case rel => exact ⟨3 + 1, zs', by omega, by go_num, R, S2, Sz, Sn⟩
          case measure => simp [intOf]
        · have E : Hid (cl 4 x = x - x % 4) := rfl
          have S2 := (S1 x).store 4 (x - x % 4)
          rw [List.set_set] at S2
          have c2 := (S1 x).cell (i := 4) (by rw [List.length_set, zl]; omega)
          rw [getD_set_self _ _ _ (by rw [zl]; omega)] at c2
          have f2 := (S1 x).free 4
          have O2 := (O (.int .i64 x)).trans (Only.setCell _ w.heap.size 4 (.int .i64 (x - x % 4)))
          rw [E.out] at R
          have Sz := O2.size.trans hz
          have Sn := hN.trans (O2.below (B := w.heap.size) (by omega))
          have t1 : x.tmod 4 = x % 4 := Int.tmod_eq_emod_of_nonneg (by omega)
          clear S1 O O2 E hB hz hN
          generalize zs.set 4 (x - x % 4) = zs' at *
          go_wp2
          go_region
          all_goals
            go_wp2
            go_roundw
            case rel => exact ⟨4 + 1, zs', by omega, by go_num, R, S2.drew, Sz, Sn.drew⟩
            case measure => simp [intOf]
        · have E : Hid (cl 5 x = x) := rfl
          try rw [Nat.add_zero] at cx
          have S2 := S1 x
          have O2 := O (.int .i64 x)
          rw [E.out] at R
          have Sz := O2.size.trans hz
          have Sn := hN.trans (O2.below (B := w.heap.size) (by omega))
          clear S1 O O2 E hB hz hN
          generalize zs.set 5 x = zs' at *
          go_wp2
          go_roundw
          case rel => exact ⟨5 + 1, zs', by omega, by go_num, R, S2, Sz, Sn⟩
          case measure => simp [intOf]
        · have E : Hid (cl 6 x = x) := rfl
          try rw [Nat.add_zero] at cx
          have S2 := S1 x
          have O2 := O (.int .i64 x)
          rw [E.out] at R
          have Sz := O2.size.trans hz
          have Sn := hN.trans (O2.below (B := w.heap.size) (by omega))
          clear S1 O O2 E hB hz hN
          generalize zs.set 6 x = zs' at *
          go_wp2
          go_roundw
          case rel => exact ⟨6 + 1, zs', by omega, by go_num, R, S2, Sz, Sn⟩
          case measure => simp [intOf]
        · have E : Hid (cl 7 x = x % 16) := rfl
          have S2 := (S1 x).store 7 (x % 16)
          rw [List.set_set] at S2
          have c2 := (S1 x).cell (i := 7) (by rw [List.length_set, zl]; omega)
          rw [getD_set_self _ _ _ (by rw [zl]; omega)] at c2
          have f2 := (S1 x).free 7
          have O2 := (O (.int .i64 x)).trans (Only.setCell _ w.heap.size 7 (.int .i64 (x % 16)))
          rw [E.out] at R
          have Sz := O2.size.trans hz
          have Sn := hN.trans (O2.below (B := w.heap.size) (by omega))
          have t1 : x.tmod 16 = x % 16 := Int.tmod_eq_emod_of_nonneg (by omega)
          clear S1 O O2 E hB hz hN
          generalize zs.set 7 (x % 16) = zs' at *
          go_wp2
          go_roundw
          case rel => exact ⟨7 + 1, zs', by omega, by go_num, R, S2, Sz, Sn⟩
          case measure => simp [intOf]
        · have E : Hid (cl 8 x = x - x % 4) := rfl
          have S2 := (S1 x).store 8 (x - x % 4)
          rw [List.set_set] at S2
          have c2 := (S1 x).cell (i := 8) (by rw [List.length_set, zl]; omega)
          rw [getD_set_self _ _ _ (by rw [zl]; omega)] at c2
          have f2 := (S1 x).free 8
          have O2 := (O (.int .i64 x)).trans (Only.setCell _ w.heap.size 8 (.int .i64 (x - x % 4)))
          rw [E.out] at R
          have Sz := O2.size.trans hz
          have Sn := hN.trans (O2.below (B := w.heap.size) (by omega))
          have t1 : x.tmod 4 = x % 4 := Int.tmod_eq_emod_of_nonneg (by omega)
          clear S1 O O2 E hB hz hN
          generalize zs.set 8 (x - x % 4) = zs' at *
          go_wp2
          go_region
          all_goals
            go_wp2
            go_roundw
            case rel => exact ⟨8 + 1, zs', by omega, by go_num, R, S2.drew, Sz, Sn.drew⟩
            case measure => simp [intOf]
        · have E : Hid (cl 9 x = x) := rfl
          try rw [Nat.add_zero] at cx
          have S2 := S1 x
          have O2 := O (.int .i64 x)
          rw [E.out] at R
          have Sz := O2.size.trans hz
          have Sn := hN.trans (O2.below (B := w.heap.size) (by omega))
          clear S1 O O2 E hB hz hN
          generalize zs.set 9 x = zs' at *
          go_wp2
          go_roundw
          case rel => exact ⟨9 + 1, zs', by omega, by go_num, R, S2, Sz, Sn⟩
          case measure => simp [intOf]
        · have E : Hid (cl 10 x = x) := rfl
          try rw [Nat.add_zero] at cx
          have S2 := S1 x
          have O2 := O (.int .i64 x)
          rw [E.out] at R
          have Sz := O2.size.trans hz
          have Sn := hN.trans (O2.below (B := w.heap.size) (by omega))
          clear S1 O O2 E hB hz hN
          generalize zs.set 10 x = zs' at *
          go_wp2
          go_roundw
          case rel => exact ⟨10 + 1, zs', by omega, by go_num, R, S2, Sz, Sn⟩
          case measure => simp [intOf]
        · have E : Hid (cl 11 x = x % 16) := rfl
          have S2 := (S1 x).store 11 (x % 16)
          rw [List.set_set] at S2
          have c2 := (S1 x).cell (i := 11) (by rw [List.length_set, zl]; omega)
          rw [getD_set_self _ _ _ (by rw [zl]; omega)] at c2
          have f2 := (S1 x).free 11
          have O2 := (O (.int .i64 x)).trans (Only.setCell _ w.heap.size 11 (.int .i64 (x % 16)))
          rw [E.out] at R
          have Sz := O2.size.trans hz
          have Sn := hN.trans (O2.below (B := w.heap.size) (by omega))
          have t1 : x.tmod 16 = x % 16 := Int.tmod_eq_emod_of_nonneg (by omega)
          clear S1 O O2 E hB hz hN
          generalize zs.set 11 (x % 16) = zs' at *
          go_wp2
          go_roundw
          case rel => exact ⟨11 + 1, zs', by omega, by go_num, R, S2, Sz, Sn⟩
          case measure => simp [intOf]
        · have E : Hid (cl 12 x = x - x % 4) := rfl
          have S2 := (S1 x).store 12 (x - x % 4)
          rw [List.set_set] at S2
          have c2 := (S1 x).cell (i := 12) (by rw [List.length_set, zl]; omega)
          rw [getD_set_self _ _ _ (by rw [zl]; omega)] at c2
          have f2 := (S1 x).free 12
          have O2 := (O (.int .i64 x)).trans (Only.setCell _ w.heap.size 12 (.int .i64 (x - x % 4)))
          rw [E.out] at R
          have Sz := O2.size.trans hz
          have Sn := hN.trans (O2.below (B := w.heap.size) (by omega))
          have t1 : x.tmod 4 = x % 4 := Int.tmod_eq_emod_of_nonneg (by omega)
          clear S1 O O2 E hB hz hN
          generalize zs.set 12 (x - x % 4) = zs' at *
          go_wp2
          go_region
          all_goals
            go_wp2
            go_roundw
            case rel => exact ⟨12 + 1, zs', by omega, by go_num, R, S2.drew, Sz, Sn.drew⟩
            case measure => simp [intOf]
        · have E : Hid (cl 13 x = x) := rfl
          try rw [Nat.add_zero] at cx
          have S2 := S1 x
          have O2 := O (.int .i64 x)
          rw [E.out] at R
          have Sz := O2.size.trans hz
          have Sn := hN.trans (O2.below (B := w.heap.size) (by omega))
          clear S1 O O2 E hB hz hN
          generalize zs.set 13 x = zs' at *
          go_wp2
          go_roundw
          case rel => exact ⟨13 + 1, zs', by omega, by go_num, R, S2, Sz, Sn⟩
          case measure => simp [intOf]
        · have E : Hid (cl 14 x = x) := rfl
          try rw [Nat.add_zero] at cx
          have S2 := S1 x
          have O2 := O (.int .i64 x)
          rw [E.out] at R
          have Sz := O2.size.trans hz
          have Sn := hN.trans (O2.below (B := w.heap.size) (by omega))
          clear S1 O O2 E hB hz hN
          generalize zs.set 14 x = zs' at *
          go_wp2
          go_roundw
          case rel => exact ⟨14 + 1, zs', by omega, by go_num, R, S2, Sz, Sn⟩
          case measure => simp [intOf]
        · have E : Hid (cl 15 x = x % 16) := rfl
          have S2 := (S1 x).store 15 (x % 16)
          rw [List.set_set] at S2
          have c2 := (S1 x).cell (i := 15) (by rw [List.length_set, zl]; omega)
          rw [getD_set_self _ _ _ (by rw [zl]; omega)] at c2
          have f2 := (S1 x).free 15
          have O2 := (O (.int .i64 x)).trans (Only.setCell _ w.heap.size 15 (.int .i64 (x % 16)))
          rw [E.out] at R
          have Sz := O2.size.trans hz
          have Sn := hN.trans (O2.below (B := w.heap.size) (by omega))
          have t1 : x.tmod 16 = x % 16 := Int.tmod_eq_emod_of_nonneg (by omega)
          clear S1 O O2 E hB hz hN
          generalize zs.set 15 (x % 16) = zs' at *
          go_wp2
          go_roundw
          case rel => exact ⟨15 + 1, zs', by omega, by go_num, R, S2, Sz, Sn⟩
          case measure => simp [intOf]
      · obtain rfl : i = 16 := by omega
        have RL := hide hU.out.rl
        rw [RL.out] at hB
        clear hU hlt hi' RL
        have B1 := blk_i17 wr 129
        have n1 : Below wr.heap.size wr (wr.alloc (.cells #[.int .i64 0, .int .i64 0, .int .i64 0, .int .i64 0, .int .i64 0, .int .i64 0, .int .i64 0, .int .i64 0, .int .i64 0, .int .i64 0, .int .i64 0, .int .i64 0, .int .i64 0, .int .i64 0, .int .i64 0, .int .i64 0, .int .i64 0] 129)) := (Below.refl _ _).alloc (Nat.le_refl _) _
        rw [hz] at B1
        have hB' := hB.up n1
        have N1 := hN.trans (n1.mono hN.size)
        clear hB hN
        go_wp2
        try rw [hz]
        simp only [Int.cast_ofNat_Int]
        generalize wr.alloc (.cells #[.int .i64 0, .int .i64 0, .int .i64 0, .int .i64 0, .int .i64 0, .int .i64 0, .int .i64 0, .int .i64 0, .int .i64 0, .int .i64 0, .int .i64 0, .int .i64 0, .int .i64 0, .int .i64 0, .int .i64 0, .int .i64 0, .int .i64 0] 129) = wb at *
        clear n1 hz
        have RLL := hide (rl_len key)
        have RLB := hide (rl_byt KB.out)
        have RLV := hide (rl_val key)
        generalize rl key = fr at *
        go_loopw [8] (fun v wr => ∃ (k : Nat) (ss : List Int), 16 * k < data.length + 16 ∧ v = .int .i64 ((16 * k : Nat) : Int) ∧ Hid (ss.length = 17 ∧ Byt ss ∧ lsum (fun j => ss.getD j 0) 17 % PO = pv (rv key) data k % PO) ∧ Blk wr (w.heap.size + 1) .i64 ss ∧ Blk wr w.heap.size .i64 fr ∧ Below w.heap.size w wr) (fun v _ => data.length + 16 - (intOf v).toNat)
        case atStart =>
          refine ⟨0, _, by omega, rfl, ⟨by simp, fun i => ?_, ?_⟩, B1, hB', N1⟩
          · rw [List.getD_eq_getElem?_getD, List.getElem?_replicate]; split <;> decide
          · have : lsum (fun j => (List.replicate 17 (0 : Int)).getD j 0) 17 = 0 := by decide +kernel
            rw [this]; rfl
        case round =>
          clear B1 hB' N1
          obtain ⟨k, ss, hk16, rfl, hS, hB1, hB0, hN⟩ := hrel
          by_cases hlt : 16 * k < data.length
          · obtain ⟨pe, hpe⟩ : ∃ e, e = pcL16 data.length k := ⟨_, rfl⟩
            have pe1 : pe ≤ 16 := by rw [hpe]; unfold pcL16; omega
            have pe2 : 16 * k + pe ≤ data.length := by rw [hpe]; unfold pcL16; omega
            have pe3 : decide (((16 * k : Nat) : Int) + 16 > (data.length : Int)) = true → pe = data.length - 16 * k := fun h => by rw [hpe]; unfold pcL16; simp at h; omega
            have pe4 : decide (((16 * k : Nat) : Int) + 16 > (data.length : Int)) = false → pe = 16 := fun h => by rw [hpe]; unfold pcL16; simp at h; omega
            have PL : Hid (((data.drop (16 * k)).take 16).length = pe) := by show _ = _; rw [hpe, List.length_take, List.length_drop]; unfold pcL16; rfl
            have PB := hide (byt_part DB.out (16 * k) 16)
            have PG : Hid (∀ j, j < 16 → ((data.drop (16 * k)).take 16).getD j 0 = data.getD (16 * k + j) 0) := fun j hj => part_get data (16 * k) 16 j hj
            have PV : Hid (pv (rv key) data (k + 1) = (pv (rv key) data k + pcv ((data.drop (16 * k)).take 16)) * rv key % PO) := rfl
            obtain ⟨ps, hps⟩ : ∃ p, p = (data.drop (16 * k)).take 16 := ⟨_, rfl⟩
            rw [← hps] at PL PB PG PV
            clear hps hpe
            have ad' := off_of hd (show 0 < data.length by omega)
            have hc' : ∀ W, Below w.heap.size w W → ∀ j, j < data.length → W.cell? ⟨gd, offOf ad + j, none⟩ = some (.int .u8 (data.getD j 0)) := fun W n j hj => by
              obtain ⟨o', e', hcc⟩ := (hd.up n) (by omega)
              have : offOf ad = o' := by rw [e']; rfl
              rw [this]
              exact hcc j hj
            have U0 : UpN 17 (fun j => ss.getD j 0 + ps.getD j 0) (fun j => ss.getD j 0) ss 0 := ⟨hS.out.1, fun j h => absurd h (by omega), fun j _ _ => rfl⟩
            generalize hoa : offOf ad = oa at *
            subst ad'
            clear hoa
            have g16 : ((16 * k : Nat) : Int) < (data.length : Int) := by omega
            have m1 : ((data.length : Int) - ((16 * k : Nat) : Int)) = ((data.length - 16 * k : Nat) : Int) := by omega
            have SB : ∀ j, Hid (0 ≤ ss.getD j 0 ∧ ss.getD j 0 < 256) := fun j => hS.out.2.1 j
            generalize h16 : 16 * k = s16 at *
            have H16 := hide h16
            clear h16
            have HN := hide hN
            have HS := hide hS
            have HB1 := hide hB1
            have HB0 := hide hB0
            have HC := hide hc'
            clear hN hB1 hB0 hc' hS
            have lt16 : (s16 : Int) < 4194304 := by omega
            have w16 : IntKind.i64.wrap ((s16 : Int) + 16) = (s16 : Int) + 16 := by rw [IntKind.wrap_i64]; omega
            by_cases h17 : data.length < s16 + 16
            · obtain rfl : pe = data.length - s16 := pe3 (by simp; omega)
              generalize data.length - s16 = pe at *
              have t17 : decide ((s16 : Int) + 16 > (data.length : Int)) = true := by simp; omega
              have t18 : (data.length : Int) < (s16 : Int) + 16 := by omega
              clear pe3 pe4 h17
              go_wp2
              go_loopw [10] (fun v wq => ∃ (i : Nat) (ts : List Int), i ≤ pe ∧ v = .int .i64 i ∧ Hid (UpN 17 (fun j => ss.getD j 0 + ps.getD j 0) (fun j => ss.getD j 0) ts i) ∧ Blk wq (w.heap.size + 1) .i64 ts ∧ Blk wq w.heap.size .i64 fr ∧ Below w.heap.size w wq) (fun v _ => pe - (intOf v).toNat)
              case atStart => exact ⟨0, ss, by omega, rfl, U0, HB1.out, HB0.out, HN.out⟩
              case round =>
                clear U0 HB1 HB0 HN
                obtain ⟨i, ts, hi', rfl, hU, hB1, hB0, hN⟩ := hrel
                by_cases ilt : i < pe
                · have R := hide (hU.out.step (show i < 17 by omega))
                  have c1 := hB1.cell (i := i) (by rw [hU.out.1]; omega)
                  rw [hU.out.2.2 i (Nat.le_refl _) (by omega)] at c1
                  dsimp only at c1
                  have f1 := hB1.free i
                  have cd1 := HC.out wr hN (s16 + i) (by omega)
                  rw [← PG.out i (by omega)] at cd1
                  have sb := (SB i).out
                  have pbi := PB.out i
                  have S1 := hB1.store i (ss.getD i 0 + ps.getD i 0)
                  have O := Only.setCell wr (w.heap.size + 1) i (.int .i64 (ss.getD i 0 + ps.getD i 0))
                  have S0 := hB0.of_block (O.block _ (by omega))
                  have Sn := hN.trans (O.below (B := w.heap.size) (by omega))
                  have d1 : (s16 : Int) + (i : Int) = ((s16 + i : Nat) : Int) := by omega
                  have d2 : ((s16 + i : Nat) : Int) < (data.length : Int) := by omega
                  have d3 : (i : Int) < 17 := by omega
                  have d4 : (i : Int) < (pe : Int) := by omega
                  have d5 : ((s16 + i : Nat) : Int) < 4194304 := by omega
                  have d6 : IntKind.i64.wrap ((s16 + i : Nat) : Int) = ((s16 + i : Nat) : Int) := by rw [IntKind.wrap_i64]; omega
                  clear hU hB1 hB0 hN O HC PG PB SB HS PV PL RLL RLB RLV DB KB KL
                  generalize ss.getD i 0 = x at *
                  generalize ps.getD i 0 = y at *
                  generalize ts.set i (x + y) = ts' at *
                  generalize s16 + i = si at *
                  obtain ⟨sb0, sb1⟩ := sb
                  obtain ⟨pb0, pb1⟩ := pbi
                  go_wp2
                  go_region
                  all_goals
                    go_wp2
                    go_roundw
                    case rel => exact ⟨i + 1, ts', by omega, by go_num, R, S1.drew, S0.drew, Sn.drew⟩
                    case measure => simp [intOf]; omega
                · obtain rfl : pe = i := by omega
                  have AP := add_piece (ss := ss) (ts := ts) (ps := ps) (by rw [PL.out]; omega) (by rw [PL.out]; exact hU.out) (fun j => (SB j).out) PB.out
                  rw [PL.out] at AP
                  obtain ⟨ap1, ap2, ap3⟩ := AP
                  have c1 := hB1.cell (i := pe) (by rw [hU.out.1]; omega)
                  rw [hU.out.2.2 pe (Nat.le_refl _) (by omega)] at c1
                  dsimp only at c1
                  have f1 := hB1.free pe
                  have sb := (SB pe).out
                  have S1 := hB1.store pe (ss.getD pe 0 + 1)
                  have O := Only.setCell wr (w.heap.size + 1) pe (.int .i64 (ss.getD pe 0 + 1))
                  have S0 := hB0.of_block (O.block _ (by omega))
                  have Sn := hN.trans (O.below (B := w.heap.size) (by omega))
                  have d3 : ((pe : Int) : Int) < 17 := by omega
                  have L1 : Hid (((ts.set pe (ss.getD pe 0 + 1)).map (Value.int .i64)).length = 17) := by show _ = _; rw [List.length_map]; exact ap2
                  have L4 : Hid (((ts.set pe (ss.getD pe 0 + 1)).map (Value.int .i64)).length = 17) := by show _ = _; rw [List.length_map]; exact ap2
                  have L2 : Hid ((fr.map (Value.int .i64)).length = 17) := by show _ = _; rw [List.length_map]; exact RLL.out
                  have TI := fun W => hide (l8Times_any W (ts.set pe (ss.getD pe 0 + 1)) fr ap2 RLL.out ap1 RLB.out)
                  have AP3 := hide ap3
                  clear hU hB1 hB0 hN O ap1 ap2 ap3
                  generalize ts.set pe (ss.getD pe 0 + 1) = vs at *
                  generalize ss.getD pe 0 = x at *
                  go_upto_region 24 with fail
                  generalize wr.setCell ⟨w.heap.size + 1, pe, none⟩ (.int .i64 (x + 1)) = wz at *
                  have RG1 := (Seg.blk S1).range
                  have RG2 := (Seg.blk S0).range
                  have V1 : Hid (ag .i64 vs = Value.agg (vs.map (Value.int .i64)).toArray) := rfl
                  have V2 : Hid (ag .i64 fr = Value.agg (fr.map (Value.int .i64)).toArray) := rfl
                  simp only [V1.out, V2.out] at TI
                  obtain ⟨v1, hv1⟩ : ∃ v, v = vs.map (Value.int .i64) := ⟨_, rfl⟩
                  obtain ⟨v2, hv2⟩ : ∃ v, v = fr.map (Value.int .i64) := ⟨_, rfl⟩
                  rw [← hv1] at L1 RG1
                  rw [← hv2] at L2 RG2
                  simp only [← hv1, ← hv2] at TI
                  clear hv1 hv2 V1 V2 c1 f1
                  go_wp2_with (first
                    | (refine wpList_load_mid rfl 129 (.tmp 7) rfl (w.heap.size + 1) 0 rfl v1 (.array 17 2) RG1 undL rfl (by rw [L1.out]; exact infoL) ?_)
                    | (refine wpList_load_mid rfl 129 (.tmp 5) rfl w.heap.size 0 rfl v2 (.array 17 2) RG2 undL rfl (by rw [L2.out]; exact infoL) ?_))
                  refine (TI wz).out.mono ?_
                  rintro e wy ⟨rs, rfl, hR, ny⟩
                  have HR := hide hR
                  have L3 : Hid ((rs.map (Value.int .i64)).length = 17) := by show _ = _; rw [List.length_map]; exact hR.1
                  clear hR
                  have O5 := one_ints .i64 rs
                  obtain ⟨t5, H5⟩ := S1.up ny
                  have SR := blk_setRow (k := .i64) (zs := rs) ⟨t5, H5⟩
                  have OR := only_setRow wy (w.heap.size + 1) (rs.map (Value.int .i64)).toArray
                  have S0' := (S0.up ny).of_block (OR.block w.heap.size (by omega))
                  have Sn' := (Sn.trans (ny.mono Sn.size)).trans (OR.below (B := w.heap.size) (by omega))
                  have V3 : Hid (ag .i64 rs = Value.agg (rs.map (Value.int .i64)).toArray) := rfl
                  rw [V3.out]
                  obtain ⟨v3, hv3⟩ : ∃ v, v = rs.map (Value.int .i64) := ⟨_, rfl⟩
                  rw [← hv3] at L3 O5 SR OR S0' Sn' ⊢
                  have FIN : Hid (rs.length = 17 ∧ Byt rs ∧ lsum (fun j => rs.getD j 0) 17 % PO = pv (rv key) data (k + 1) % PO) := by
                    refine ⟨HR.out.1, HR.out.2.1, ?_⟩
                    rw [HR.out.2.2, AP3.out, RLV.out, PV.out, Int.emod_emod, Int.mul_emod, Int.add_emod, HS.out.out.2.2, ← Int.add_emod, ← Int.mul_emod]
                  have N16 : Hid (((16 * (k + 1) : Nat) : Int) = (s16 : Int) + 16) := by show _ = _; have := H16.out; omega
                  have N17 : Hid (16 * (k + 1) < data.length + 16) := by show _ < _; have := H16.out; omega
                  clear hv3 V3 TI RG1 RG2 S1 S0 Sn ny HR AP3 L1 L2 HS PV RLV
                  go_wp2_with (refine wpList_store_row rfl 129 (.tmp 7) (.tmp 101) rfl (w.heap.size + 1) v3.toArray rfl rfl t5 _ H5 (by rw [List.size_toArray, L3.out]; exact infoL) (by rw [List.size_toArray, List.size_toArray, L3.out, L4.out]) O5 ?_)
                  go_roundw
                  case rel => exact ⟨k + 1, rs, N17.out, by rw [N16.out], FIN, SR, S0', Sn'⟩
                  case measure => have := H16.out; simp [intOf]; omega
            · obtain rfl : pe = 16 := pe4 (by simp; omega)
              have t17 : decide ((s16 : Int) + 16 > (data.length : Int)) = false := by simp; omega
              have t18 : ¬ (data.length : Int) < (s16 : Int) + 16 := by omega
              clear pe3 pe4 h17
              go_wp2
              go_loopw [10] (fun v wq => ∃ (i : Nat) (ts : List Int), i ≤ 16 ∧ v = .int .i64 i ∧ Hid (UpN 17 (fun j => ss.getD j 0 + ps.getD j 0) (fun j => ss.getD j 0) ts i) ∧ Blk wq (w.heap.size + 1) .i64 ts ∧ Blk wq w.heap.size .i64 fr ∧ Below w.heap.size w wq) (fun v _ => 16 - (intOf v).toNat)
              case atStart => exact ⟨0, ss, by omega, rfl, U0, HB1.out, HB0.out, HN.out⟩
              case round =>
                clear U0 HB1 HB0 HN
                obtain ⟨i, ts, hi', rfl, hU, hB1, hB0, hN⟩ := hrel
                by_cases ilt : i < 16
                · have R := hide (hU.out.step (show i < 17 by omega))
                  have c1 := hB1.cell (i := i) (by rw [hU.out.1]; omega)
                  rw [hU.out.2.2 i (Nat.le_refl _) (by omega)] at c1
                  dsimp only at c1
                  have f1 := hB1.free i
                  have cd1 := HC.out wr hN (s16 + i) (by omega)
                  rw [← PG.out i (by omega)] at cd1
                  have sb := (SB i).out
                  have pbi := PB.out i
                  have S1 := hB1.store i (ss.getD i 0 + ps.getD i 0)
                  have O := Only.setCell wr (w.heap.size + 1) i (.int .i64 (ss.getD i 0 + ps.getD i 0))
                  have S0 := hB0.of_block (O.block _ (by omega))
                  have Sn := hN.trans (O.below (B := w.heap.size) (by omega))
                  have d1 : (s16 : Int) + (i : Int) = ((s16 + i : Nat) : Int) := by omega
                  have d2 : ((s16 + i : Nat) : Int) < (data.length : Int) := by omega
                  have d3 : (i : Int) < 17 := by omega
                  have d4 : (i : Int) < 16 := by omega
                  have d5 : ((s16 + i : Nat) : Int) < 4194304 := by omega
                  have d6 : IntKind.i64.wrap ((s16 + i : Nat) : Int) = ((s16 + i : Nat) : Int) := by rw [IntKind.wrap_i64]; omega
                  clear hU hB1 hB0 hN O HC PG PB SB HS PV PL RLL RLB RLV DB KB KL
                  generalize ss.getD i 0 = x at *
                  generalize ps.getD i 0 = y at *
                  generalize ts.set i (x + y) = ts' at *
                  generalize s16 + i = si at *
                  obtain ⟨sb0, sb1⟩ := sb
                  obtain ⟨pb0, pb1⟩ := pbi
                  go_wp2
                  go_region
                  all_goals
                    go_wp2
                    go_roundw
                    case rel => exact ⟨i + 1, ts', by omega, by go_num, R, S1.drew, S0.drew, Sn.drew⟩
                    case measure => simp [intOf]; omega
                · obtain rfl : i = 16 := by omega
                  have AP := add_piece (ss := ss) (ts := ts) (ps := ps) (by rw [PL.out]; omega) (by rw [PL.out]; exact hU.out) (fun j => (SB j).out) PB.out
                  rw [PL.out] at AP
                  obtain ⟨ap1, ap2, ap3⟩ := AP
                  have c1 := hB1.cell (i := 16) (by rw [hU.out.1]; omega)
                  rw [hU.out.2.2 16 (Nat.le_refl _) (by omega)] at c1
                  dsimp only at c1
                  have f1 := hB1.free 16
                  have sb := (SB 16).out
                  have S1 := hB1.store 16 (ss.getD 16 0 + 1)
                  have O := Only.setCell wr (w.heap.size + 1) 16 (.int .i64 (ss.getD 16 0 + 1))
                  have S0 := hB0.of_block (O.block _ (by omega))
                  have Sn := hN.trans (O.below (B := w.heap.size) (by omega))
                  have d3 : (16 : Int) < 17 := by omega
                  have L1 : Hid (((ts.set 16 (ss.getD 16 0 + 1)).map (Value.int .i64)).length = 17) := by show _ = _; rw [List.length_map]; exact ap2
                  have L4 : Hid (((ts.set 16 (ss.getD 16 0 + 1)).map (Value.int .i64)).length = 17) := by show _ = _; rw [List.length_map]; exact ap2
                  have L2 : Hid ((fr.map (Value.int .i64)).length = 17) := by show _ = _; rw [List.length_map]; exact RLL.out
                  have TI := fun W => hide (l8Times_any W (ts.set 16 (ss.getD 16 0 + 1)) fr ap2 RLL.out ap1 RLB.out)
                  have AP3 := hide ap3
                  clear hU hB1 hB0 hN O ap1 ap2 ap3
                  generalize ts.set 16 (ss.getD 16 0 + 1) = vs at *
                  generalize ss.getD 16 0 = x at *
                  go_upto_region 24 with fail
                  generalize wr.setCell ⟨w.heap.size + 1, 16, none⟩ (.int .i64 (x + 1)) = wz at *
                  have RG1 := (Seg.blk S1).range
                  have RG2 := (Seg.blk S0).range
                  have V1 : Hid (ag .i64 vs = Value.agg (vs.map (Value.int .i64)).toArray) := rfl
                  have V2 : Hid (ag .i64 fr = Value.agg (fr.map (Value.int .i64)).toArray) := rfl
                  simp only [V1.out, V2.out] at TI
                  obtain ⟨v1, hv1⟩ : ∃ v, v = vs.map (Value.int .i64) := ⟨_, rfl⟩
                  obtain ⟨v2, hv2⟩ : ∃ v, v = fr.map (Value.int .i64) := ⟨_, rfl⟩
                  rw [← hv1] at L1 RG1
                  rw [← hv2] at L2 RG2
                  simp only [← hv1, ← hv2] at TI
                  clear hv1 hv2 V1 V2 c1 f1
                  go_wp2_with (first
                    | (refine wpList_load_mid rfl 129 (.tmp 7) rfl (w.heap.size + 1) 0 rfl v1 (.array 17 2) RG1 undL rfl (by rw [L1.out]; exact infoL) ?_)
                    | (refine wpList_load_mid rfl 129 (.tmp 5) rfl w.heap.size 0 rfl v2 (.array 17 2) RG2 undL rfl (by rw [L2.out]; exact infoL) ?_))
                  refine (TI wz).out.mono ?_
                  rintro e wy ⟨rs, rfl, hR, ny⟩
                  have HR := hide hR
                  have L3 : Hid ((rs.map (Value.int .i64)).length = 17) := by show _ = _; rw [List.length_map]; exact hR.1
                  clear hR
                  have O5 := one_ints .i64 rs
                  obtain ⟨t5, H5⟩ := S1.up ny
                  have SR := blk_setRow (k := .i64) (zs := rs) ⟨t5, H5⟩
                  have OR := only_setRow wy (w.heap.size + 1) (rs.map (Value.int .i64)).toArray
                  have S0' := (S0.up ny).of_block (OR.block w.heap.size (by omega))
                  have Sn' := (Sn.trans (ny.mono Sn.size)).trans (OR.below (B := w.heap.size) (by omega))
                  have V3 : Hid (ag .i64 rs = Value.agg (rs.map (Value.int .i64)).toArray) := rfl
                  rw [V3.out]
                  obtain ⟨v3, hv3⟩ : ∃ v, v = rs.map (Value.int .i64) := ⟨_, rfl⟩
                  rw [← hv3] at L3 O5 SR OR S0' Sn' ⊢
                  have FIN : Hid (rs.length = 17 ∧ Byt rs ∧ lsum (fun j => rs.getD j 0) 17 % PO = pv (rv key) data (k + 1) % PO) := by
                    refine ⟨HR.out.1, HR.out.2.1, ?_⟩
                    rw [HR.out.2.2, AP3.out, RLV.out, PV.out, Int.emod_emod, Int.mul_emod, Int.add_emod, HS.out.out.2.2, ← Int.add_emod, ← Int.mul_emod]
                  have N16 : Hid (((16 * (k + 1) : Nat) : Int) = (s16 : Int) + 16) := by show _ = _; have := H16.out; omega
                  have N17 : Hid (16 * (k + 1) < data.length + 16) := by show _ < _; have := H16.out; omega
                  clear hv3 V3 TI RG1 RG2 S1 S0 Sn ny HR AP3 L1 L2 HS PV RLV
                  go_wp2_with (refine wpList_store_row rfl 129 (.tmp 7) (.tmp 101) rfl (w.heap.size + 1) v3.toArray rfl rfl t5 _ H5 (by rw [List.size_toArray, L3.out]; exact infoL) (by rw [List.size_toArray, List.size_toArray, L3.out, L4.out]) O5 ?_)
                  go_roundw
                  case rel => exact ⟨k + 1, rs, N17.out, by rw [N16.out], FIN, SR, S0', Sn'⟩
                  case measure => have := H16.out; simp [intOf]; omega
          · have kk : k = (data.length + 15) / 16 := by omega
            have HV : Hid (lsum (fun j => ss.getD j 0) 17 % PO = pv (rv key) data ((data.length + 15) / 16) % PO) := by show _ = _; rw [← kk]; exact hS.out.2.2
            have SL := hide hS.out.1
            have SBy := hide hS.out.2.1
            have e1 : ¬ ((16 * k : Nat) : Int) < (data.length : Int) := by omega
            obtain ⟨wo, rfl⟩ : ∃ v, v = wr := ⟨_, rfl⟩
            have own0 : (wo.alloc (.cells #[] 5)).ownsRow wo.heap.size 5 1 (.slice (some ⟨wo.heap.size, 0, none⟩) 0 0) 0 [] := World.ownsRow_lit wo #[] 0 (Nat.le_refl _) (by unfold maxLen; omega) (by simp)
            have hal : Below wo.heap.size wo (wo.alloc (.cells #[] 5)) := (Below.refl _ _).alloc (Nat.le_refl _) _
            have wl : w.heap.size + 1 < wo.heap.size := hB1.lt
            clear hS hB0 kk hlt
            generalize 16 * k = s16 at *
            go_wp2
            go_loopw [11, 12] (fun v i wq => ∃ (j : Nat) (t : Int) (nb : List Int), i = .int .i64 t ∧ t + (j : Int) + 1 = 17 ∧ -1 ≤ t ∧ Hid (TurnTo ss nb j ∧ Byt nb) ∧ wq.ownsRow wo.heap.size 5 1 v j (nb.map (Value.int .u8)) ∧ Below wo.heap.size wo wq) (fun _ i _ => (intOf i + 1).toNat)
            case atStart => exact ⟨0, 16, [], rfl, by omega, by omega, ⟨⟨rfl, fun i h => absurd h (by omega)⟩, byt_nil⟩, own0, hal⟩
            case round =>
              clear own0 hal
              obtain ⟨j, t, nb, rfl, ht, ht0, hT, hown, hN2⟩ := hrel
              have hob := hown.lt
              by_cases hlt : 0 ≤ t
              · obtain ⟨p, rfl⟩ := Int.eq_ofNat_of_zero_le hlt
                have cx := (hB1.up hN2).cell (i := p) (by rw [SL.out]; omega)
                have xb := SBy.out p
                have hT' := hide hT.out.1.step
                rw [show ss.length - 1 - j = p by have := SL.out; omega] at hT'
                have hb3 := hide (byt_app1 hT.out.2 (ss.getD p 0) xb.1 xb.2)
                generalize ss.getD p 0 = x at *
                have j1 : (p : Int) < 17 := by omega
                have xm : x % 256 = x := by omega
                have HT := hide ht
                clear ht hT
                go_wp2_with (at_builtin; refine wpList_append_own _ rfl _ _ 22 rfl wo.heap.size 5 i0 (.int .u8 0) 1 1 Tryz.underlying22 hi hz0 hz1 hz2 rfl (by decide) _ j (nb.map (Value.int .u8)) rfl (hown.alloc _) ⟨wr.heap.size, 0, none⟩ 1 1 [.int .u8 x] rfl rfl ?c1 ?c2 ?c3 ?c4 ?c5 ?_)
                case c1 =>
                  intro j u hj
                  match j, hj with
                  | 0, hj => simp at hj; subst hj; simp [Addr.add]
                case c2 => intro u hu; simp at hu; subst hu; rfl
                case c3 => unfold maxLen; have := HT.out; omega
                case c4 => have := HT.out; omega
                case c5 => simp; have := hN2.size; omega
                · intro v' w2 hown2 hgrow _
                  have nA : Below wo.heap.size wo (wr.alloc (.cells #[.int .u8 x] 5)) := hN2.alloc hN2.size _
                  have N2 : Below wo.heap.size wo w2 := nA.grown hgrow (by simp; have := hN2.size; omega) (fun i hi => (hob i hi).1)
                  have hown3 : w2.ownsRow wo.heap.size 5 1 v' (j + 1) ((nb ++ [x]).map (Value.int .u8)) := by simpa using hown2
                  clear hown hown2 hgrow nA hob
                  go_wp2
                  go_roundw
                  case rel => exact ⟨j + 1, (p : Int) - 1, nb ++ [x], rfl, by have := HT.out; omega, by omega, ⟨hT'.out, hb3.out⟩, hown3, N2⟩
                  case measure => simp [intOf]
              · obtain rfl : t = -1 := by omega
                obtain rfl : j = 17 := by omega
                have NL : Hid (nb.length = 17) := hT.out.1.1
                have NV : Hid (bval nb = lsum (fun j => ss.getD j 0) 17) := by
                  have h1 := hT.out.1
                  rw [← SL.out] at h1
                  have h2 := h1.val
                  rw [SL.out] at h2
                  exact h2
                have NB := hide hT.out.2
                have hown' := hown
                rw [← NL.out] at hown'
                obtain ⟨a1, c1, g1, hv, o1, q1, l1, r1⟩ := Own.of_ownsRow hown'
                subst hv
                have N3 : Below w.heap.size w wr := hN.trans (hN2.mono (by omega))
                have wz : w.heap.size ≤ g1 := by omega
                clear hown hown' hT ht ht0 hlt hob hB1 hN hN2 SL SBy r1 wl e1
                have n4 : Below wr.heap.size wr (wr.alloc (.cells #[.int .u8 1] 5)) := (Below.refl _ _).alloc (Nat.le_refl _) _
                have B4 : Blk (wr.alloc (.cells #[.int .u8 1] 5)) wr.heap.size .u8 [1] := ⟨5, by rw [heap_alloc_last]; rfl⟩
                have SH := fun W (h : Blk W wr.heap.size .u8 [1]) => hide (l1Shift130_any W wr.heap.size ⟨wr.heap.size, 0, none⟩ 1 [1] h.own0.rd (byt_one (by omega) (by omega)) (by decide) (by decide))
                go_wp2_with fail
                generalize wr.alloc (.cells #[.int .u8 1] 5) = w4 at *
                refine (SH w4 B4).out.mono ?_
                rintro e w5 ⟨ys, C5, ⟨a5, c5, g5, rfl, o5, p5, q5, r5'⟩, n5⟩
                have N5 := nxt (nxt N3 n4) n5
                have o1 := (o1.up n4).up n5
                have n6 : Below w5.heap.size w5 (w5.alloc (.cells #[.int .u8 5] 5)) := (Below.refl _ _).alloc (Nat.le_refl _) _
                have B6 : Blk (w5.alloc (.cells #[.int .u8 5] 5)) w5.heap.size .u8 [5] := ⟨5, by rw [heap_alloc_last]; rfl⟩
                have b1 : bval [1] = 1 := by decide
                have b5 : bval [5] = 5 := by decide
                rw [b1, Int.one_mul] at C5
                have y17 := C5.len (n := 17) (by decide)
                have y1 : 1 ≤ ys.length := by
                  rcases Nat.eq_zero_or_pos ys.length with h | h
                  · have h1 := C5.2.1
                    rw [List.eq_nil_of_length_eq_zero h] at h1
                    exact absurd h1 (by decide)
                  · exact h
                have SU := fun W (h1 : Own W g5 a5 .u8 ys) (h2 : Blk W w5.heap.size .u8 [5]) => hide (l1Sub_any W g5 w5.heap.size a5 (some ⟨w5.heap.size, 0, none⟩) c5 1 ys [5] h1.rd h2.own0.rd C5.1 (byt_one (by omega) (by omega)) (by omega) (by simpa using y1) (by rw [C5.2.1, b5]; decide))
                rw [C5.2.1, b5] at SU
                clear SH B4 n4 C5 n5 N3
                go_wp2_with fail
                generalize w5.alloc (.cells #[.int .u8 5] 5) = w6 at *
                refine (SU w6 (o5.up n6) B6).out.mono ?_
                rintro e w7 ⟨zs, C7, ⟨a7, c7, g7, rfl, o7, p7, q7, r7⟩, n7⟩
                have N7 := nxt (nxt N5 n6) n7
                have o1 := (o1.up n6).up n7
                have C7' : Canon zs PO := C7
                have HC7 := hide C7'
                have z17 := C7'.len (n := 17) (by decide)
                have Z17 := hide z17
                have kr' := hk.up N7
                clear SU B6 n6 n7 N5 C7 C7' o5 p5 q5 r5' b1 b5 y17 y1 z17
                have KR : Hid (∀ W, Below w7.heap.size w7 W → Rd W gk (some ⟨gk, ok + 16, none⟩) .u8 (key.drop 16)) := fun W n => by
                  have h := rd_part (kr'.up n) 16 16 (by rw [KL.out]; omega)
                  rwa [List.take_of_length_le (by rw [List.length_drop, KL.out]; omega)] at h
                have KD : Hid ((key.drop 16).length = 16) := by show _ = _; rw [List.length_drop, KL.out]
                have KDV : Hid (lsum (fun j => (key.drop 16).getD j 0) 16 = lsum (fun j => key.getD (16 + j) 0) 16) := by
                  show _ = _
                  exact lsum_congr 16 (fun j _ => by simp only [List.getD_eq_getElem?_getD, List.getElem?_drop])
                have KDB := hide (byt_drop KB.out 16)
                have VB : Hid (0 ≤ lsum (fun j => key.getD (16 + j) 0) 16 ∧ lsum (fun j => key.getD (16 + j) 0) 16 < 256 ^ 16) := lsum_bd 16 (fun j _ => KB.out (16 + j))
                obtain ⟨kv', hkv⟩ : ∃ v, v = lsum (fun j => key.getD (16 + j) 0) 16 := ⟨_, rfl⟩
                obtain ⟨mv, hmv⟩ : ∃ v, v = bval nb % PO := ⟨_, rfl⟩
                have RES : Hid (otB key data = fill (byt (mv + kv')) 16) := by show _ = _; unfold otB; rw [hmv, hkv, NV.out, HV.out]
                rw [← hkv] at KDV VB
                have mb : 0 ≤ mv ∧ mv < 1361129467683753853853498429727072845819 := by rw [hmv]; exact ⟨Int.emod_nonneg _ (by decide), Int.emod_lt_of_pos _ (by decide)⟩
                have HMV := hide hmv
                have MB := hide mb
                clear hmv hkv mb NV HV
                have d16 : (16 : Int) ≤ (key.length : Int) := by have := KL.out; omega
                have LE : Hid (key.length - 16 = 16) := by show _ = _; rw [KL.out]
                have ne1 : Hid (¬ ck = 16) := by show ¬ _; have := KL.out; omega
                go_wp2_with fail
                refine region_end 8 (fun i => [Fact.eq (.slice a1 nb.length c1), Fact.eq (.slice a7 zs.length c7), Fact.can mv, Fact.eq (.slice (some ⟨gk, ok, none⟩) key.length ck), Fact.eq (.slice (some ⟨gk, ok + 16, none⟩) 16 (ck - 16)), Fact.can kv', Fact.can (mv + kv'), Fact.can (mv + kv')].getD i Fact.no) (by kernel_rfl) (by kernel_rfl) rfl ?_ ?_
                · intro i hi'
                  obtain rfl | rfl | rfl | rfl | rfl | rfl | rfl | rfl : i = 0 ∨ i = 1 ∨ i = 2 ∨ i = 3 ∨ i = 4 ∨ i = 5 ∨ i = 6 ∨ i = 7 := by omega
                  · refine step_pure rfl fun a u hb hw hf => ?_
                    have e11 : a.tmps[11]?.getD undef = .slice a1 nb.length c1 := gdv (hb.2.2 11 (by kernel_rfl))
                    exact ⟨.slice a1 nb.length c1, by simp [go_sem, e11], rfl⟩
                  · refine step_pure rfl fun a u hb hw hf => ?_
                    have e13 : a.tmps[13]?.getD undef = .slice a7 zs.length c7 := gdv (hb.2.2 13 (by kernel_rfl))
                    exact ⟨.slice a7 zs.length c7, by simp [go_sem, e13], rfl⟩
                  · refine step_callv rfl 79 _ _ rfl (by kernel_rfl) fun a u hb hw hf => ?_
                    have e118 : a.tmps.getD 118 undef = .slice a1 nb.length c1 := hf 0 118 (by kernel_rfl)
                    have e119 : a.tmps.getD 119 undef = .slice a7 zs.length c7 := hf 1 119 (by kernel_rfl)
                    show Calls Tryz.prog 79 #[a.tmps.getD 118 undef, a.tmps.getD 119 undef] u _
                    rw [e118, e119]
                    have h := l1Mod_any u g1 g7 a1 a7 c1 c7 nb zs (o1.up hw).rd (o7.up hw).rd NB.out HC7.out.1 p7 q7 (by rw [NL.out]; omega) (by have := Z17.out; omega) (by rw [HC7.out.2.1]; decide)
                    rw [HC7.out.2.1, ← HMV.out] at h
                    exact h.mono (by rintro e w' ⟨⟨ys, a, c, g, rfl, o, p, q, r, C⟩, n⟩; exact ⟨_, rfl, n, ys, a, c, g, rfl, o, p, q, C⟩)
                  · refine step_pure rfl fun a u hb hw hf => ?_
                    have e0 : a.tmps[0]?.getD undef = .slice (some ⟨gk, ok, none⟩) key.length ck := gdv (hb.2.2 0 (by kernel_rfl))
                    exact ⟨.slice (some ⟨gk, ok, none⟩) key.length ck, by simp [go_sem, e0], rfl⟩
                  · refine step_pure rfl fun a u hb hw hf => ?_
                    have e121 : a.tmps[121]?.getD undef = .slice (some ⟨gk, ok, none⟩) key.length ck := gdv (hf 3 121 (by kernel_rfl))
                    exact ⟨.slice (some ⟨gk, ok + 16, none⟩) 16 (ck - 16), by simp [go_sem, e121, d16, LE.out, ne1.out], rfl⟩
                  · refine step_callv rfl 80 _ _ rfl (by kernel_rfl) fun a u hb hw hf => ?_
                    have e122 : a.tmps.getD 122 undef = .slice (some ⟨gk, ok + 16, none⟩) 16 (ck - 16) := hf 4 122 (by kernel_rfl)
                    show Calls Tryz.prog 80 #[a.tmps.getD 122 undef] u _
                    rw [e122]
                    have h := l2Num_any u gk (some ⟨gk, ok + 16, none⟩) (ck - 16) (key.drop 16) (KR.out u hw) KDB.out (by rw [KD.out]; omega)
                    rw [KD.out, KDV.out] at h
                    exact h.mono (by rintro e w' ⟨ys, C, l, ⟨a, c, g, rfl, o, p, q, r⟩, n⟩; exact ⟨_, rfl, n, ys, a, c, g, rfl, o, p, q, C⟩)
                  · refine step_callv rfl 78 _ _ rfl (by kernel_rfl) fun a u hb hw hf => ?_
                    obtain ⟨ys, x1, y1, z1, e120, R1, -, -, D1⟩ := hf 2 120 (by kernel_rfl)
                    obtain ⟨us, x2, y2, z2, e123, R2, -, -, D2⟩ := hf 5 123 (by kernel_rfl)
                    show Calls Tryz.prog 78 #[a.tmps.getD 120 undef, a.tmps.getD 123 undef] u _
                    rw [e120, e123]
                    have f1 := D1.len (n := 17) (by have := MB.out; omega)
                    have f2 := D2.len (n := 16) VB.out.2
                    have h := l1Add_any u z1 z2 x1 x2 y1 y2 ys us R1.rd R2.rd D1.1 D2.1 (by omega) (by omega)
                    rw [D1.2.1, D2.2.1] at h
                    exact h.mono (by rintro e w' ⟨ys, C, ⟨a, c, g, rfl, o, p, q, r⟩, n⟩; exact ⟨_, rfl, n, ys, a, c, g, rfl, o, p, q, C⟩)
                  · refine step_pure rfl fun a u hb hw hf => ?_
                    obtain ⟨ys, x1, y1, z1, e124, R1, s1, t1, D1⟩ := hf 6 124 (by kernel_rfl)
                    have e124' : a.tmps[124]?.getD undef = .slice x1 ys.length y1 := gdv e124
                    exact ⟨.slice x1 ys.length y1, by simp [go_sem, e124'], ys, x1, y1, z1, rfl, R1, s1, t1, D1⟩
                · intro a w8 hb K8 hF
                  obtain ⟨ts, x8, y8, z8, e14, R8, -, -, D8⟩ := hF 7 14 (by kernel_rfl)
                  obtain ⟨vs', hvs'⟩ : ∃ vs : Nat → Value, ∀ d, a.tmps.getD d undef = vs d := ⟨_, fun _ => rfl⟩
                  have ea := puts_of (md := .any) (n := 127) (k := 8) (by kernel_rfl) rfl hb vs' hvs'
                  have v14 : vs' 14 = .slice x8 ts.length y8 := (hvs' 14).symm.trans e14
                  have t18 := D8.len (n := 18) (by have := MB.out; have := VB.out; have e : (256 : Int) ^ 16 = 340282366920938463463374607431768211456 := by decide
                                                   rw [e] at this
                                                   have e' : (256 : Int) ^ 18 = 22300745198530623141535718272648361505980416 := by decide
                                                   rw [e']; omega)
                  have LT := hide (l1Little_any w8 z8 x8 y8 ts 16 R8.rd D8.1 (by omega) (by omega))
                  have FD : Hid (fill (dig ts) 16 = otB key data) := by
                    show _ = _
                    rw [RES.out]
                    exact fill_congr fun i _ => by rw [dig_of D8.1, D8.2.1]
                  rw [FD.out] at LT
                  rw [ea]
                  clear ea hvs' hF hb e14 t18 D8 R8 RES MB VB KDV KDB KD KR HMV NB NL HC7 Z17 LE ne1 FD
                  simp only [puts, v14, Act.put, List.setIfInBounds_toArray, List.set_cons_succ, List.set_cons_zero]
                  have N8 := nxt N7 K8
                  have s8 := N8.size
                  have OL := hide (otB_len key data)
                  go_wp2_with fail
                  refine LT.out.mono ?_
                  rintro e w9 ⟨rfl, B9, n9⟩
                  go_wp2
                  go_ret
                  exact ⟨⟨some ⟨w8.heap.size, 0, none⟩, 16, w8.heap.size, by rw [OL.out]; rfl, B9.own0, by simp, by rw [OL.out]; exact Nat.le_refl _, s8⟩, nxt N8 n9⟩
  · have RS : Hid (otA key data = []) := by show _ = _; unfold otA; rw [if_neg kl]
    rw [RS.out]
    have k32 : decide ((key.length : Int) = 32) = false := by simp; omega
    go_enter Tryz.func62, Tryz.ntmps62
    go_wp2
    go_ret
    exact ⟨newRow_lit w .u8, (Below.refl _ _).alloc (Nat.le_refl _) _⟩
end Go.Proofs.YtjfggcefdobooaaGreatDoor
namespace Go.Proofs.YtjfggcefdobooaaGreatDoor
set_option maxRecDepth 100000
open Go Go.RowKit
end Go.Proofs.YtjfggcefdobooaaGreatDoor
namespace Go.Proofs.YtjfggcefdobooaaGreatDoor
set_option maxRecDepth 100000
open Go Go.RowKit
def hasC (c : Int) (n : Nat) : Bool := decide ((n : Int) ≤ (4294967296 - c) * 64)
theorem hasC_any (w : World) (c : Int) (h0 : 0 ≤ c) (h1 : c ≤ 4294967295) (a : Option Addr) (n cp : Nat) : Calls Tryz.prog 57 #[.int .i64 c, .slice a n cp] w fun e w' => e = .returned (.bool (hasC c n)) ∧ w' = w := by
  have b1 : 0 ≤ 4294967296 - c := by omega
  have b2 : 4294967296 - c ≤ 4294967296 := by omega
  unfold hasC
  go_enter Tryz.func57, Tryz.ntmps57
  go_wp2
  go_ret
  refine ⟨?_, rfl⟩
  show Ending.returned (Value.bool (decide ((n : Int) ≤ (4294967295 - c + 1) * 64))) = _
  rw [show (4294967295 : Int) - c + 1 = 4294967296 - c by omega]
end Go.Proofs.YtjfggcefdobooaaGreatDoor
