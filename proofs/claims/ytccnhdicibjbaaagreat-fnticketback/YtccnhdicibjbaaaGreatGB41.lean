import Derived.Test.YtccnhdicibjbaaaGreatGB22
import Derived.Test.YtccnhdicibjbaaaGreatGB27
import Derived.Test.YtccnhdicibjbaaaGreatGB32
import Derived.Test.YtccnhdicibjbaaaGreatGB40
namespace Go.Proofs.YtccnhdicibjbaaaGreat
open Go Go.RowKit Go.Shelf
attribute [local go_sem] Oper.semAt_some
def pv (R : Int) (data : List Int) : Nat → Int
  | 0 => 0
  | k + 1 => (pv R data k + pcv ((data.drop (16 * k)).take 16)) * R % PO
def otB (key data : List Int) : List Int := fill (byt (pv (rv key) data ((data.length + 15) / 16) % PO + lsum (fun j => key.getD (16 + j) 0) 16)) 16
theorem otB_len (key data : List Int) : (otB key data).length = 16 := fill_len _ _
theorem otB_byt (key data : List Int) : Byt (otB key data) := fill_byt _ _ fun i => by unfold byt; exact ⟨by omega, by omega⟩
def Fact.kn (p : (Nat → Int) → Prop) : Fact := ⟨fun v _ => ∃ u, v = ag5 u ∧ p u, fun _ h => h⟩
theorem ksettle_K (w : World) (u : Nat → Int) (hu : KpP u) :
    Calls Tryz.prog 84 #[ag5 u] w fun e w' => ∃ v, e = .returned (ag5 v) ∧ (Km v ∧ kv v 5 = kv u 5 % PO) ∧ Below w.heap.size w w' := by
  have hb : ∀ j, 0 ≤ (if j < 5 then u j else 0) ∧ (if j < 5 then u j else 0) < 1073741824 := fun j => by
    split
    · rename_i h; have := hu j h; omega
    · omega
  have h := ksettle_any w (fun j => if j < 5 then u j else 0) hb
  have k := ktl_ok hb
  have e1 : ag5 (fun j => if j < 5 then u j else 0) = ag5 u := by simp [ag5]
  have e2 : kv (fun j => if j < 5 then u j else 0) 5 = kv u 5 := kv_congr 5 (fun j hj => by rw [if_pos hj])
  rw [e1] at h
  rw [e2] at k
  exact h.mono (by rintro e w' ⟨rfl, n⟩; exact ⟨_, rfl, k, n⟩)
theorem KpP.wide {u : Nat → Int} (h : KpP u) : Kw u := fun j hj => by have := h j hj; omega
theorem Km.wide {u : Nat → Int} (h : Km u) : Kw u := fun j hj => by have := h j hj; omega
theorem kadd_K (w : World) (e f : Nat → Int) (he : KpP e) (hf : Km f) :
    Calls Tryz.prog 80 #[ag5 e, ag5 f] w fun r w' => ∃ v, r = .returned (ag5 v) ∧ (Kw v ∧ kv v 5 = kv e 5 + kv f 5) ∧ Below w.heap.size w w' :=
  (kadd_any w e f he.wide hf.wide).mono (by rintro r w' ⟨rfl, n⟩; exact ⟨_, rfl, kad_ok he hf, n⟩)
theorem kmul_K (w : World) (e f : Nat → Int) (he : Kw e) (hf : Km f) :
    Calls Tryz.prog 82 #[ag5 e, ag5 f] w fun r w' => ∃ v, r = .returned (ag5 v) ∧ (KpP v ∧ kv v 5 % PO = kv e 5 * kv f 5 % PO) ∧ Below w.heap.size w w' :=
  (kmul_any w e f he hf).mono (by rintro r w' ⟨rfl, n⟩; exact ⟨_, rfl, kmu_ok he hf, n⟩)
theorem words_hi (key : List Int) : wv (fun j => key.getD j 0) 32 2 + wv (fun j => key.getD j 0) 32 3 * 18446744073709551616 = lsum (fun j => key.getD (16 + j) 0) 16 := by
  simp only [wv, lsum]
  simp
  omega
theorem ksum_K (w : World) (u : Nat → Int) (hu : Km u) (l h V : Int) (hl : 0 ≤ l ∧ l < 18446744073709551616) (hv : kv u 5 + (l + h * 18446744073709551616) = V) :
    Calls Tryz.prog 85 #[ag5 u, .int .u64 l, .int .u64 h] w fun e w' => e = .returned (ag .u8 (fill (byt V) 16)) ∧ Below w.heap.size w w' := by
  have k := ksum_any w u hu l h hl
  have e : fill (b16 (slo u l) (shi u l h)) 16 = fill (byt V) 16 := by
    unfold fill
    refine List.map_congr_left fun i hi => ?_
    have hi' : i < 16 := by simpa using hi
    rw [b16_ok _ _ (by unfold slo; omega) (by unfold slo; omega) i hi', sum_ok hu l h, byt_mod _ i hi', hv]
  rw [e] at k
  exact k
theorem info5 : (Tryz.prog.info? 102).map (·.size) = some 5 := by kernel_rfl
theorem und5 : Tryz.prog.underlying 102 = some (.array 5 100) := by kernel_rfl
def r5 (u : Nat → Int) : List Value := [.int .u64 (u 0), .int .u64 (u 1), .int .u64 (u 2), .int .u64 (u 3), .int .u64 (u 4)]
theorem Blk.r5 {w : World} {g : Nat} {u : Nat → Int} (h : Blk w g .u64 [u 0, u 1, u 2, u 3, u 4]) : w.rangeAt g 0 (Go.Proofs.YtccnhdicibjbaaaGreat.r5 u) := (Seg.blk h).range
theorem one5 (u : Nat → Int) : (r5 u).toArray.all (·.oneCell') = true := one_ints .u64 [u 0, u 1, u 2, u 3, u 4]
theorem keeps_only {B g : Nat} {W W' : World} (h : Only g W W') (hg : g < B) : KeepsFrom B W W' := ⟨Nat.le_of_eq h.size.symm, fun k o hB hk _ => (h.block k (by omega)).trans hk⟩
def offOf : Option Addr → Nat
  | none => 0
  | some a => a.off
theorem off_of {w : World} {g : Nat} {a : Option Addr} {k : IntKind} {xs : List Int} (h : Rd w g a k xs) (h0 : 0 < xs.length) : a = some ⟨g, offOf a, none⟩ := by
  obtain ⟨o, rfl, _⟩ := h h0
  rfl
structure OtI (w : World) (q gd gk : Nat) (ad ak : Option Addr) (key data : List Int) (R : Int) (f : Nat → Int) (Z : Nat) (pre : List (PcN16 data.length)) (W : World) : Prop where
  told : ∃ u : Nat → Int, KpP u ∧ Blk W (q + 1) .u64 [u 0, u 1, u 2, u 3, u 4] ∧ (pre.map (·.1) = List.range pre.length → kv u 5 % PO = pv R data pre.length % PO)
  fac : Blk W q .u64 [f 0, f 1, f 2, f 3, f 4]
  res : Blk W w.heap.size .u8 (List.replicate 16 0)
  lst : Rd W gd ad .u8 data
  ky : Rd W gk ak .u8 key
  siz : Z ≤ W.heap.size
  bel : Below w.heap.size w W
theorem otI_own {w : World} {q gd gk : Nat} {ad ak : Option Addr} {key data : List Int} {R : Int} {f : Nat → Int} {Z B : Nat} (hB : w.heap.size ≤ B) : OwnFrom B (OtI w q gd gk ad ak key data R f Z) := by
  intro s W W' row h hg hr
  have hr' : ∀ r, row = some r → ∃ o : Obj, W.heap[r]? = some o ∧ o.isCells = false := fun r e => (hr r e).2
  obtain ⟨u, u1, u2, u3⟩ := h.told
  refine ⟨⟨u, u1, blk_ofK u2 hg hr', u3⟩, blk_ofK h.fac hg hr', blk_ofK h.res hg hr', rd_ofK h.lst hg hr', rd_ofK h.ky hg hr', Nat.le_trans h.siz hg.size, ?_⟩
  exact h.bel.grown hg h.bel.size (fun k e => Nat.le_trans hB (hr k e).1)
set_option maxRecDepth 100000 in
set_option maxHeartbeats 8000000 in
theorem oneTimeSum_any (w : World) (gk : Nat) (ak : Option Addr) (ck : Nat) (key : List Int) (hk : Rd w gk ak .u8 key) (kb : Byt key) (kl : key.length = 32)
    (gd : Nat) (ad : Option Addr) (cd : Nat) (data : List Int) (hd : Rd w gd ad .u8 data) (db : Byt data) (dc : data.length ≤ cd) (dn : data.length ≤ 4194304) :
    Calls Tryz.prog 63 #[.slice ak key.length ck, .slice ad data.length cd] w fun e w' => e = .returned (ag .u8 (otB key data)) ∧ Below w.heap.size w w' := by
  have KL := hide kl
  have DN := hide dn
  have DC := hide dc
  have B0 := blk_y16 w 53
  have n0 : Below w.heap.size w (w.alloc (.cells #[.int .u8 0, .int .u8 0, .int .u8 0, .int .u8 0, .int .u8 0, .int .u8 0, .int .u8 0, .int .u8 0, .int .u8 0, .int .u8 0, .int .u8 0, .int .u8 0, .int .u8 0, .int .u8 0, .int .u8 0, .int .u8 0] 53)) := (Below.refl _ _).alloc (Nat.le_refl _) _
  have s0 : (w.alloc (.cells #[.int .u8 0, .int .u8 0, .int .u8 0, .int .u8 0, .int .u8 0, .int .u8 0, .int .u8 0, .int .u8 0, .int .u8 0, .int .u8 0, .int .u8 0, .int .u8 0, .int .u8 0, .int .u8 0, .int .u8 0, .int .u8 0] 53)).heap.size = w.heap.size + 1 := by simp
  have RF := fun W (n : Below w.heap.size w W) => hide (readFactor_any W gk ak ck key (hk.up n) kb KL.out)
  clear kl dn dc
  refine (callsIn_wide (n := 5)).1 (callsIn_of_wp_marks Tryz.func63 rfl trivial ?_ rfl)
  refine wpIn_wide.2 ?_
  simp only [Tryz.ntmps63, List.size_toArray, List.length_cons, List.length_nil, Nat.reduceAdd, Nat.reduceSub, Array.replicate_succ, Array.replicate_zero, List.push_toArray, List.append_toArray, List.nil_append, List.cons_append]
  go_upto_region 1 with fail
  generalize w.alloc (.cells #[.int .u8 0, .int .u8 0, .int .u8 0, .int .u8 0, .int .u8 0, .int .u8 0, .int .u8 0, .int .u8 0, .int .u8 0, .int .u8 0, .int .u8 0, .int .u8 0, .int .u8 0, .int .u8 0, .int .u8 0, .int .u8 0] 53) = wa at *
  go_wp2_with fail
  refine (RF wa n0).out.mono ?_
  rintro e wb ⟨f, rfl, hf, n1⟩
  have HF := hide hf
  clear hf RF
  have B0 := B0.up n1
  have N1 := nxt n0 n1
  have z1 : w.heap.size + 1 ≤ wb.heap.size := by have := n1.size; omega
  clear n0 n1 s0
  generalize hq : wb.heap.size = q at *
  have n2 : Below wb.heap.size wb (wb.alloc (.cells #[.int .u64 (f 0), .int .u64 (f 1), .int .u64 (f 2), .int .u64 (f 3), .int .u64 (f 4)] 102)) := (Below.refl _ _).alloc (Nat.le_refl _) _
  have SR := blk_box wb .u64 102 (f 0) (f 1) (f 2) (f 3) (f 4)
  have z3 : (wb.alloc (.cells #[.int .u64 (f 0), .int .u64 (f 1), .int .u64 (f 2), .int .u64 (f 3), .int .u64 (f 4)] 102)).heap.size = q + 1 := by simp [hq]
  rw [hq] at SR
  have B0 := B0.up n2
  have N2 := N1.trans (n2.mono (by omega))
  simp only [ag5]
  go_upto_region 2 with fail
  generalize wb.alloc (.cells #[.int .u64 (f 0), .int .u64 (f 1), .int .u64 (f 2), .int .u64 (f 3), .int .u64 (f 4)] 102) = wc at *
  clear n2 N1
  have n3 : Below wc.heap.size wc (wc.alloc (.cells #[.int .u64 0, .int .u64 0, .int .u64 0, .int .u64 0, .int .u64 0] 102)) := (Below.refl _ _).alloc (Nat.le_refl _) _
  have B3 := blk_box wc .u64 102 0 0 0 0 0
  have z4 : (wc.alloc (.cells #[.int .u64 0, .int .u64 0, .int .u64 0, .int .u64 0, .int .u64 0] 102)).heap.size = q + 1 + 1 := by simp [z3]
  rw [z3] at B3
  go_upto_region 3 with fail
  generalize wc.alloc (.cells #[.int .u64 0, .int .u64 0, .int .u64 0, .int .u64 0, .int .u64 0] 102) = wd at *
  have B0 := B0.up n3
  have B2 := SR.up n3
  have N3 := nxt N2 n3
  clear n3 SR N2 z3
  go_wp2_with fail
  refine (chunk_any16 wd ad data.length cd).mono ?_
  rintro e w6 ⟨rfl, rfl⟩
  have n5 : Below wd.heap.size wd (wd.alloc (.cells #[.slice ad data.length cd] 22)) := (Below.refl _ _).alloc (Nat.le_refl _) _
  have C5 : (wd.alloc (.cells #[.slice ad data.length cd] 22)).cell? ⟨wd.heap.size, 0, none⟩ = some (.slice ad data.length cd) := by simp [World.cell?_alloc_at]
  have z5 : (wd.alloc (.cells #[.slice ad data.length cd] 22)).heap.size = wd.heap.size + 1 := by simp
  generalize wd.alloc (.cells #[.slice ad data.length cd] 22) = w5 at *
  have n6 : Below w5.heap.size w5 (w5.alloc (.cells #[.int .i64 16] 3)) := (Below.refl _ _).alloc (Nat.le_refl _) _
  have C6 : (w5.alloc (.cells #[.int .i64 16] 3)).cell? ⟨w5.heap.size, 0, none⟩ = some (.int .i64 16) := by simp [World.cell?_alloc_at]
  have z6 : (w5.alloc (.cells #[.int .i64 16] 3)).heap.size = w5.heap.size + 1 := by simp
  generalize w5.alloc (.cells #[.int .i64 16] 3) = w6 at *
  rw [z4] at C5 z5 ⊢
  rw [z5] at C6 z6
  have n56 : Below wd.heap.size wd w6 := n5.trans (n6.mono (by omega))
  have N6 : Below w.heap.size w w6 := N3.trans (n56.mono (by omega))
  have I0 : OtI w q gd gk ad ak key data (rv key) f (q + 4) [] w6 :=
    ⟨⟨fun _ => 0, fun _ _ => ⟨Int.le_refl 0, show (0 : Int) ≤ 67109376 by decide⟩, B3.up n56, fun _ => rfl⟩, B2.up n56, B0.up n56, hd.up N6, hk.up N6, by omega, N6⟩
  have D5 : w6.cell? ⟨q + 1 + 1, 0, none⟩ = some (.slice ad data.length cd) := (World.cell?_of_block (a := ⟨q + 1 + 1, 0, none⟩) (n6.block (q + 1 + 1) (by omega))).trans C5
  have S6 : Hid (w6.heap.size = q + 1 + 1 + 1 + 1) := z6
  have HZ := hide z1
  clear n5 n6 n56 C5 z4 z5 z6 N3 N6 B0 B2 B3 hq z1
  go_wp2
  refine (wpIn_wide (n := 5)).1 (wpIn_rangeFunc_ownG (n := 5) rfl (by omega) (gf := 86) (lb := #[.pointer (some ⟨q + 1 + 1, 0, none⟩), .pointer (some ⟨q + 1 + 1 + 1, 0, none⟩)]) rfl trivial (enters_of Tryz.func86 (by kernel_rfl) rfl)
    (chunk_stops16 4 (by omega) (q + 1 + 1) (q + 1 + 1 + 1) gd (offOf ad) data.length cd ad (fun h => off_of hd h) DC.out DN.out w6 (by have := S6.out; omega) (by have := S6.out; omega) D5 C6) KpB.t (KpB.b (by have := S6.out; omega) (by have := S6.out; omega)) (Below.refl _ _) (fun _ => rfl)
    (OtI w q gd gk ad ak key data (rv key) f (q + 4)) (fun _ _ _ => False) (otI_own (by have := S6.out; have := HZ.out; omega)) (fun _ _ _ _ _ h _ _ => h) I0
    (fun x => { tmps := #[.slice ak key.length ck, .slice ad data.length cd, undef, undef, .pointer (some ⟨w.heap.size, 0, none⟩), .pointer (some ⟨q, 0, none⟩), .pointer (some ⟨q + 1, 0, none⟩), .slice (some ⟨gd, offOf ad + 16 * x.1, none⟩) (pcL16 data.length x.1) (pcL16 data.length x.1), undef, .slice ak key.length ck, .agg #[.int .u64 (f 0), .int .u64 (f 1), .int .u64 (f 2), .int .u64 (f 3), .int .u64 (f 4)], .slice ad data.length cd, Value.func (Fn.func 86) #[] #[Value.pointer (some ⟨q + 1 + 1, 0, none⟩), Value.pointer (some ⟨q + 1 + 1 + 1, 0, none⟩)], .slice (some ⟨gd, offOf ad + 16 * x.1, none⟩) (pcL16 data.length x.1) (pcL16 data.length x.1), undef, undef, undef, undef, undef, undef, undef, undef, undef, undef, undef, undef, undef, undef, undef], defers := [] }) ?assign ?body ?done ?stop)
  case assign =>
    intro l x W K hK
    unfold pcE16
    gi_wp2
    exact hK
  case body =>
    rintro l pre x W hI hlen
    obtain ⟨u, uK, uB, u3⟩ := hI.told
    have fB := hI.fac
    have rB := hI.res
    have lr := hI.lst
    have kr' := hI.ky
    have sz := hI.siz
    have be := hI.bel
    clear hI
    have xl := x.2
    have hz := HZ.out
    have ea := off_of hd (show 0 < data.length by omega)
    obtain ⟨pe, hpe⟩ : ∃ e, e = pcL16 data.length x.1 := ⟨_, rfl⟩
    have PL : ((data.drop (16 * x.1)).take 16).length = pe := by rw [hpe, List.length_take, List.length_drop]; unfold pcL16; rfl
    have PR : Rd W gd (some ⟨gd, offOf ad + 16 * x.1, none⟩) .u8 ((data.drop (16 * x.1)).take 16) := by
      have e1 : (data.drop (16 * x.1)).take 16 = (data.drop (16 * x.1)).take pe := by rw [hpe]; unfold pcL16; rw [List.take_eq_take_iff, List.length_drop]; omega
      rw [e1]
      rw [ea] at lr
      exact rd_part lr (16 * x.1) pe (by rw [hpe]; unfold pcL16; omega)
    have PB := byt_part db (16 * x.1) 16
    rw [← hpe]
    clear hpe
    have RP : ∀ v, Below W.heap.size W v → Hid (Calls Tryz.prog 81 #[.slice (some ⟨gd, offOf ad + 16 * x.1, none⟩) pe pe] v fun e w' => ∃ t, e = .returned (ag5 t) ∧ (Km t ∧ kv t 5 = pcv ((data.drop (16 * x.1)).take 16)) ∧ Below v.heap.size v w') := fun v hv => by
      have h := readPiece_any v gd (some ⟨gd, offOf ad + 16 * x.1, none⟩) pe _ (PR.up hv) PB (by rw [List.length_take]; omega)
      rw [PL] at h
      exact h
    obtain ⟨pc, hpc⟩ : ∃ v, v = pcv ((data.drop (16 * x.1)).take 16) := ⟨_, rfl⟩
    simp only [← hpc] at RP
    have HPC := hide hpc
    have UK := hide uK
    have FK := hide HF.out.1
    clear hpc PL PR PB lr
    gi_wp2_with fail
    refine region_store_in 6 _ (fun i => [Fact.eq (ag5 u), Fact.eq (.slice (some ⟨gd, offOf ad + 16 * x.1, none⟩) pe pe), Fact.kn (fun t => Km t ∧ kv t 5 = pc), Fact.kn (fun t => Kw t ∧ kv t 5 = kv u 5 + pc), Fact.eq (ag5 f), Fact.kn (fun t => KpP t ∧ kv t 5 % PO = (kv u 5 + pc) * kv f 5 % PO)].getD i Fact.no) (by kernel_rfl) (by rintro ⟨_, _, h⟩; exact h) (by kernel_rfl) (by kernel_rfl) rfl rfl ?_ ?_
    · skip
      intro i hi
      obtain rfl | rfl | rfl | rfl | rfl | rfl : i = 0 ∨ i = 1 ∨ i = 2 ∨ i = 3 ∨ i = 4 ∨ i = 5 := by omega
      · refine step_load rfl 102 (.tmp 6) rfl (.array 5 100) 5 und5 rfl info5 fun a v hb hw hf => ?_
        exact ⟨q + 1, 0, r5 u, hb.2.2 6 (by kernel_rfl), (uB.up hw).r5, rfl, rfl⟩
      · refine step_pure rfl fun a v hb hw hf => ?_
        have e7 : a.tmps[7]?.getD undef = .slice (some ⟨gd, offOf ad + 16 * x.1, none⟩) pe pe := gdv (hb.2.2 7 (by kernel_rfl))
        exact ⟨.slice (some ⟨gd, offOf ad + 16 * x.1, none⟩) pe pe, by simp [go_sem, e7], rfl⟩
      · refine step_callv rfl 81 _ _ rfl (by kernel_rfl) fun a v hb hw hf => ?_
        have e15 : a.tmps.getD 15 undef = .slice (some ⟨gd, offOf ad + 16 * x.1, none⟩) pe pe := hf 1 15 (by kernel_rfl)
        show Calls Tryz.prog 81 #[a.tmps.getD 15 undef] v _
        rw [e15]
        exact (RP v hw).out.mono (by rintro e w' ⟨t, rfl, h, n⟩; exact ⟨_, rfl, n, t, rfl, h⟩)
      · refine step_callv rfl 80 _ _ rfl (by kernel_rfl) fun a v hb hw hf => ?_
        have e14 : a.tmps.getD 14 undef = ag5 u := hf 0 14 (by kernel_rfl)
        obtain ⟨t, e16, t1, t2⟩ : ∃ t, a.tmps.getD 16 undef = ag5 t ∧ Km t ∧ kv t 5 = pc := hf 2 16 (by kernel_rfl)
        show Calls Tryz.prog 80 #[a.tmps.getD 14 undef, a.tmps.getD 16 undef] v _
        rw [e14, e16]
        exact (kadd_K v u t UK.out t1).mono (by rintro e w' ⟨s, rfl, h, n⟩; exact ⟨_, rfl, n, s, rfl, h.1, by rw [h.2, t2]⟩)
      · refine step_load rfl 102 (.tmp 5) rfl (.array 5 100) 5 und5 rfl info5 fun a v hb hw hf => ?_
        exact ⟨q, 0, r5 f, hb.2.2 5 (by kernel_rfl), (fB.up hw).r5, rfl, rfl⟩
      · refine step_callv rfl 82 _ _ rfl (by kernel_rfl) fun a v hb hw hf => ?_
        have e18 : a.tmps.getD 18 undef = ag5 f := hf 4 18 (by kernel_rfl)
        obtain ⟨t, e17, t1, t2⟩ : ∃ t, a.tmps.getD 17 undef = ag5 t ∧ Kw t ∧ kv t 5 = kv u 5 + pc := hf 3 17 (by kernel_rfl)
        show Calls Tryz.prog 82 #[a.tmps.getD 17 undef, a.tmps.getD 18 undef] v _
        rw [e18, e17]
        exact (kmul_K v t f t1 FK.out).mono (by rintro e w' ⟨s, rfl, h, n⟩; exact ⟨_, rfl, n, s, rfl, h.1, by rw [h.2, t2]⟩)
    · intro a v hb' hw hf
      have e6 : a.eval (.tmp 6) = .pointer (some ⟨q + 1, 0, none⟩) := hb'.2.2 6 (by kernel_rfl)
      obtain ⟨t, e19, t1, t2⟩ : ∃ t, a.tmps.getD 19 undef = ag5 t ∧ KpP t ∧ kv t 5 % PO = (kv u 5 + pc) * kv f 5 % PO := hf 5 19 (by kernel_rfl)
      have T2 := hide t2
      have T1 := hide t1
      clear t1 t2
      obtain ⟨ty, H⟩ := uB.up hw
      have S2 : Blk (v.setRow (q + 1) (r5 t).toArray) (q + 1) .u64 [t 0, t 1, t 2, t 3, t 4] := blk_setRow (k := .u64) (zs := [t 0, t 1, t 2, t 3, t 4]) ⟨ty, H⟩
      have O2 := only_setRow v (q + 1) (r5 t).toArray
      obtain ⟨vs, hvs⟩ : ∃ vs : Nat → Value, ∀ d, a.tmps.getD d undef = vs d := ⟨_, fun _ => rfl⟩
      have ea' := puts_of (md := .any) (n := 29) (k := 6) (by kernel_rfl) rfl hb' vs hvs
      refine wp_store_row 102 (.tmp 6) (.tmp 19) rfl (q + 1) (r5 t).toArray e6 e19 ty _ H (by rw [List.size_toArray]; exact info5) rfl (one5 t) ?_
      show _
      dsimp only [Act.put]
      rw [ea']
      clear ea' hvs e6 e19 hf hb' RP
      simp only [puts, Act.put, List.setIfInBounds_toArray, List.set_cons_succ, List.set_cons_zero]
      have hzs := hw.size
      have U2 : ∀ b, b < W.heap.size → b ≠ q + 1 → (v.setRow (q + 1) (r5 t).toArray).heap[b]? = W.heap[b]? := fun b h1 h2 => (O2.block b h2).trans (hw.block b h1)
      have k2 : KeepsFrom w6.heap.size W (v.setRow (q + 1) (r5 t).toArray) := (keeps_below hw).trans (keeps_only O2 (by have := S6.out; omega))
      have N2 : Below w.heap.size w (v.setRow (q + 1) (r5 t).toArray) := be.trans ((hw.mono be.size).trans (O2.below (by omega)))
      have s2 := O2.size
      generalize v.setRow (q + 1) (r5 t).toArray = W2 at *
      gi_wp2
      have lx : (pre ++ [x]).length = pre.length + 1 := by simp
      refine ⟨k2, ⟨U2 _ (by omega) (by omega), U2 _ (by omega) (by omega)⟩, ?_⟩
      refine ⟨⟨t, T1.out, S2, fun h => ?_⟩, fB.of_block (U2 q (by omega) (by omega)), rB.of_block (U2 w.heap.size (by omega) (by omega)), hd.up N2, hk.up N2, by omega, N2⟩
      rw [lx, List.map_append, List.range_succ] at h
      obtain ⟨h1', h2'⟩ := List.append_inj' h rfl
      have h3' : x.1 = pre.length := by simpa using h2'
      rw [lx, T2.out, HF.out.2, HPC.out, h3', pv, Int.emod_emod, Int.mul_emod, Int.add_emod, u3 h1', ← Int.add_emod, ← Int.mul_emod]
  case done =>
    rintro D xx W hD hS hI hK
    have yl : xx.length = (data.length + 15) / 16 := by have := congrArg List.length hS; simpa using this
    obtain ⟨u, uK, uB, u3⟩ := hI.told
    rw [← yl] at hS
    have ez := u3 hS
    rw [yl] at ez
    have hdd : q + 1 + 1 < D := by have := S6.out; omega
    have hz := HZ.out
    have HUK := hide uK
    have HEZ := hide ez
    have rB := hI.res
    have ky := hI.ky
    have sz := hI.siz
    have be := hI.bel
    have RW : ∀ v, Below W.heap.size W v → Hid (Calls Tryz.prog 83 #[.slice ak key.length ck] v fun e w' => e = .returned (ag4 (wv (fun j => key.getD j 0) 32)) ∧ Below v.heap.size v w') := fun v n => by
      show Calls _ _ _ _ _
      rw [KL.out]
      exact readWords_any v gk ak ck key (ky.up n) kb KL.out
    have WH := hide (words_hi key)
    have wl := wv_lt (a := fun j => key.getD j 0) kb 32 2
    have OV : Hid (otB key data = fill (byt (kv u 5 % PO + (wv (fun j => key.getD j 0) 32 2 + wv (fun j => key.getD j 0) 32 3 * 18446744073709551616))) 16) := by
      show _ = _
      unfold otB
      rw [HEZ.out, WH.out]
    obtain ⟨Wd, hWd⟩ : ∃ v, v = wv (fun j => key.getD j 0) 32 := ⟨_, rfl⟩
    rw [← hWd] at wl OV
    simp only [← hWd] at RW
    clear hI u3 ez hS yl uK hWd WH ky C6 D5 I0 hd hk kb db
    go_wp2_with fail
    refine (RW W (Below.refl _ _)).out.mono ?_
    rintro e Wb ⟨rfl, nb⟩
    clear RW
    have n8 : Below Wb.heap.size Wb (Wb.alloc (.cells #[.int .u64 (Wd 0), .int .u64 (Wd 1), .int .u64 (Wd 2), .int .u64 (Wd 3)] 105)) := (Below.refl _ _).alloc (Nat.le_refl _) _
    have B8 := blk_box4 Wb .u64 105 (Wd 0) (Wd 1) (Wd 2) (Wd 3)
    simp only [ag4]
    go_upto_region 7 with fail
    generalize Wb.alloc (.cells #[.int .u64 (Wd 0), .int .u64 (Wd 1), .int .u64 (Wd 2), .int .u64 (Wd 3)] 105) = Wc at *
    have nc : Below W.heap.size W Wc := nb.trans (n8.mono nb.size)
    have rB := rB.up nc
    have uB := uB.up nc
    have hK := (nc.block D (Array.getElem?_eq_some_iff.1 hK).1).trans hK
    have be := be.trans (nc.mono be.size)
    have sz : q + 4 ≤ Wc.heap.size := Nat.le_trans sz nc.size
    generalize Wb.heap.size = bq at *
    clear nb n8 nc
    obtain ⟨ov, hov⟩ : ∃ v, v = otB key data := ⟨_, rfl⟩
    have OV' : Hid (ov = fill (byt (kv u 5 % PO + (Wd 2 + Wd 3 * 18446744073709551616))) 16) := by show _ = _; rw [hov]; exact OV.out
    have OL : Hid ((ov.map (Value.int .u8)).length = 16) := by show _ = _; rw [List.length_map, hov]; exact otB_len _ _
    have HOV := hide hov
    clear hov OV
    refine region_store 7 _ (fun i => [Fact.eq (ag5 u), Fact.kn (fun t => Km t ∧ kv t 5 = kv u 5 % PO), Fact.eq (.pointer (some ⟨bq, 2, none⟩)), Fact.eq (.int .u64 (Wd 2)), Fact.eq (.pointer (some ⟨bq, 3, none⟩)), Fact.eq (.int .u64 (Wd 3)), Fact.eq (ag .u8 ov)].getD i Fact.no) (by kernel_rfl) (by kernel_rfl) rfl rfl ?_ ?_
    · intro i hi
      obtain rfl | rfl | rfl | rfl | rfl | rfl | rfl : i = 0 ∨ i = 1 ∨ i = 2 ∨ i = 3 ∨ i = 4 ∨ i = 5 ∨ i = 6 := by omega
      · refine step_load rfl 102 (.tmp 6) rfl (.array 5 100) 5 und5 rfl info5 fun a v hb hw hf => ?_
        exact ⟨q + 1, 0, r5 u, hb.2.2 6 (by kernel_rfl), (uB.up hw).r5, rfl, rfl⟩
      · refine step_callv rfl 84 _ _ rfl (by kernel_rfl) fun a v hb hw hf => ?_
        have e22 : a.tmps.getD 22 undef = ag5 u := hf 0 22 (by kernel_rfl)
        show Calls Tryz.prog 84 #[a.tmps.getD 22 undef] v _
        rw [e22]
        exact (ksettle_K v u HUK.out).mono (by rintro e w' ⟨t, rfl, h, n⟩; exact ⟨_, rfl, n, t, rfl, h⟩)
      · refine step_pure rfl fun a v hb hw hf => ?_
        have e8 : a.tmps[8]?.getD undef = .pointer (some ⟨bq, 0, none⟩) := gdv (hb.2.2 8 (by kernel_rfl))
        exact ⟨.pointer (some ⟨bq, 2, none⟩), by simp [go_sem, e8], rfl⟩
      · refine step_pure rfl fun a v hb hw hf => ?_
        have e24 : a.tmps[24]?.getD undef = .pointer (some ⟨bq, 2, none⟩) := gdv (hf 2 24 (by kernel_rfl))
        have hc : v.cell? ⟨bq, 2, none⟩ = some (.int .u64 (Wd 2)) := (B8.up hw).cell (i := 2) (by simp)
        exact ⟨.int .u64 (Wd 2), by simp [go_sem, e24, hc], rfl⟩
      · refine step_pure rfl fun a v hb hw hf => ?_
        have e8 : a.tmps[8]?.getD undef = .pointer (some ⟨bq, 0, none⟩) := gdv (hb.2.2 8 (by kernel_rfl))
        exact ⟨.pointer (some ⟨bq, 3, none⟩), by simp [go_sem, e8], rfl⟩
      · refine step_pure rfl fun a v hb hw hf => ?_
        have e26 : a.tmps[26]?.getD undef = .pointer (some ⟨bq, 3, none⟩) := gdv (hf 4 26 (by kernel_rfl))
        have hc : v.cell? ⟨bq, 3, none⟩ = some (.int .u64 (Wd 3)) := (B8.up hw).cell (i := 3) (by simp)
        exact ⟨.int .u64 (Wd 3), by simp [go_sem, e26, hc], rfl⟩
      · refine step_callv rfl 85 _ _ rfl (by kernel_rfl) fun a v hb hw hf => ?_
        obtain ⟨t, e23, t1, t2⟩ : ∃ t, a.tmps.getD 23 undef = ag5 t ∧ Km t ∧ kv t 5 = kv u 5 % PO := hf 1 23 (by kernel_rfl)
        have e25 : a.tmps.getD 25 undef = .int .u64 (Wd 2) := hf 3 25 (by kernel_rfl)
        have e27 : a.tmps.getD 27 undef = .int .u64 (Wd 3) := hf 5 27 (by kernel_rfl)
        show Calls Tryz.prog 85 #[a.tmps.getD 23 undef, a.tmps.getD 25 undef, a.tmps.getD 27 undef] v _
        rw [e23, e25, e27]
        have h := ksum_K v t t1 (Wd 2) (Wd 3) _ wl rfl
        rw [t2, ← OV'.out] at h
        exact h.mono (by rintro e w' ⟨rfl, n⟩; exact ⟨_, rfl, n, rfl⟩)
    · intro a v hb' hw hf
      have e4 : a.eval (.tmp 4) = .pointer (some ⟨w.heap.size, 0, none⟩) := hb'.2.2 4 (by kernel_rfl)
      have e28 : a.eval (.tmp 28) = .agg (ov.map (Value.int .u8)).toArray := hf 6 28 (by kernel_rfl)
      obtain ⟨ty, H⟩ := rB.up hw
      have SR := setRow_heap v w.heap.size _ (ov.map (Value.int .u8)).toArray _ _ H
      have O2 := only_setRow v w.heap.size (ov.map (Value.int .u8)).toArray
      have O := one_ints .u8 ov
      obtain ⟨vs, hvs⟩ : ∃ vs : Nat → Value, ∀ d, a.tmps.getD d undef = vs d := ⟨_, fun _ => rfl⟩
      have ea' := puts_of (md := .any) (n := 29) (k := 7) (by kernel_rfl) rfl hb' vs hvs
      have V : Hid (ag .u8 ov = Value.agg (ov.map (Value.int .u8)).toArray) := rfl
      obtain ⟨vo, hvo⟩ : ∃ v, v = ov.map (Value.int .u8) := ⟨_, rfl⟩
      rw [← hvo] at e28 SR O2 O OL V
      refine wp_store_row 53 (.tmp 4) (.tmp 28) rfl w.heap.size vo.toArray e4 e28 ty _ H (by rw [List.size_toArray, OL.out]; exact infoP16) (by rw [List.size_toArray, List.size_toArray, OL.out]; rfl) O ?_
      dsimp only [Act.put]
      rw [ea']
      clear ea' hvs e4 e28 hf hb'
      simp only [puts, Act.put, List.setIfInBounds_toArray, List.set_cons_succ, List.set_cons_zero]
      have hK2 := (O2.block D (by omega)).trans ((hw.block D (Array.getElem?_eq_some_iff.1 hK).1).trans hK)
      have N2 : Below w.heap.size w (v.setRow w.heap.size vo.toArray) := be.trans ((hw.mono be.size).trans (O2.below (Nat.le_refl _)))
      have N3 : Below w.heap.size w ((v.setRow w.heap.size vo.toArray).putObj D (.deferred none)) := N2.trans (belowK_b (w := w) (Nat.le_refl _) _ D _ _ (by omega) hK2 rfl rfl)
      have SR2 : ((v.setRow w.heap.size vo.toArray).putObj D (.deferred none)).heap[w.heap.size]? = some (.cells vo.toArray ty (0, 0)) := (World.putObj_heap_other (by omega)).trans SR
      generalize v.setRow w.heap.size vo.toArray = W9 at *
      go_wp2
      refine ⟨by simp, .inl ⟨_, _, rfl, run_takeDeferred hK2, ?_⟩⟩
      exact ⟨_, results_cell_row Tryz.results63 _ _ w.heap.size ty vo.toArray (0, 0) (.array 16 5) rfl SR2 undP16 rfl (by rw [List.size_toArray, OL.out]; exact infoP16), by rw [← HOV.out, V.out], N3⟩
  case stop =>
    rintro D c pre W hD hs h hK
    exact h.elim
end Go.Proofs.YtccnhdicibjbaaaGreat
