import Derived.Test.YtkpomobhjkikeaaGreatDoorSS22
import Derived.Test.YtkpomobhjkikeaaGreatDoorSS27
import Derived.Test.YtkpomobhjkikeaaGreatDoorSS32
import Derived.Test.YtkpomobhjkikeaaGreatDoorSS40
import Derived.Test.YtkpomobhjkikeaaGreatDoorSS8
import Derived.Test.YtkpomobhjkikeaaGreatDoorSS10
import Derived.Deep.RegionWith
import Derived.Deep.RegionHeld3
import Derived.Test.YtkpomobhjkikeaaGreatDoorSS1
import Derived.Lib.AppendZerosOnto
import Derived.Test.YtkpomobhjkikeaaGreatDoorSS14
import Derived.Deep.WholeRow
import Derived.Test.YtkpomobhjkikeaaGreatDoorSS9
import Derived.Test.YtkpomobhjkikeaaGreatDoorSS24
import Derived.Test.YtkpomobhjkikeaaGreatDoorSS23
import Derived.Test.YtkpomobhjkikeaaGreatDoorSS2
namespace Go.Proofs.YtkpomobhjkikeaaGreatDoor
set_option maxRecDepth 100000
open Go Go.RowKit Go.Shelf
attribute [local go_sem] Oper.semAt_some
def pv (R : Int) (data : List Int) : Nat → Int
  | 0 => 0
  | k + 1 => (pv R data k + pcv ((data.drop (16 * k)).take 16)) * R % PO
def otB (key data : List Int) : List Int := fill (byt (pv (rv key) data ((data.length + 15) / 16) % PO + lsum (fun j => key.getD (16 + j) 0) 16)) 16
theorem otB_len (key data : List Int) : (otB key data).length = 16 := fill_len _ _
theorem otB_byt (key data : List Int) : Byt (otB key data) := fill_byt _ _ fun i => by unfold byt; exact ⟨by omega, by omega⟩
def Fact.kn (p : (Nat → Int) → Prop) : Fact := ⟨fun v _ => ∃ u, v = ag5 u ∧ p u, fun _ h => h⟩
theorem ksettle_K (w : World) (u : Nat → Int) (hu : KpP u) :
    Calls Tryz.prog 110 #[ag5 u] w fun e w' => ∃ v, e = .returned (ag5 v) ∧ (Km v ∧ kv v 5 = kv u 5 % PO) ∧ Below w.heap.size w w' := by
  have hb : ∀ j, 0 ≤ (if j < 5 then u j else 0) ∧ (if j < 5 then u j else 0) < 1073741824 := fun j => by
    split
    · rename_i h; have := hu j h; omega
    · omega
  have h := ksettle_any w (fun j => if j < 5 then u j else 0) hb
  have k := ktl_ok hb
  have e1 : ag5 (fun j => if j < 5 then u j else 0) = ag5 u := by simp [ag5]
  have e2 : kv (fun j => if j < 5 then u j else 0) 5 = kv u 5 := kv_congr 5 (fun j hj => by rw [if_pos hj])
  rw [e1] at h
  rw [e2] at k
  exact h.mono (by rintro e w' ⟨rfl, n⟩; exact ⟨_, rfl, k, n⟩)
theorem KpP.wide {u : Nat → Int} (h : KpP u) : Kw u := fun j hj => by have := h j hj; omega
theorem Km.wide {u : Nat → Int} (h : Km u) : Kw u := fun j hj => by have := h j hj; omega
theorem kadd_K (w : World) (e f : Nat → Int) (he : KpP e) (hf : Km f) :
    Calls Tryz.prog 106 #[ag5 e, ag5 f] w fun r w' => ∃ v, r = .returned (ag5 v) ∧ (Kw v ∧ kv v 5 = kv e 5 + kv f 5) ∧ Below w.heap.size w w' :=
  (kadd_any w e f he.wide hf.wide).mono (by rintro r w' ⟨rfl, n⟩; exact ⟨_, rfl, kad_ok he hf, n⟩)
theorem kmul_K (w : World) (e f : Nat → Int) (he : Kw e) (hf : Km f) :
    Calls Tryz.prog 108 #[ag5 e, ag5 f] w fun r w' => ∃ v, r = .returned (ag5 v) ∧ (KpP v ∧ kv v 5 % PO = kv e 5 * kv f 5 % PO) ∧ Below w.heap.size w w' :=
  (kmul_any w e f he hf).mono (by rintro r w' ⟨rfl, n⟩; exact ⟨_, rfl, kmu_ok he hf, n⟩)
theorem words_hi (key : List Int) : wv (fun j => key.getD j 0) 32 2 + wv (fun j => key.getD j 0) 32 3 * 18446744073709551616 = lsum (fun j => key.getD (16 + j) 0) 16 := by
  simp only [wv, lsum]
  simp
  omega
theorem ksum_K (w : World) (u : Nat → Int) (hu : Km u) (l h V : Int) (hl : 0 ≤ l ∧ l < 18446744073709551616) (hv : kv u 5 + (l + h * 18446744073709551616) = V) :
    Calls Tryz.prog 111 #[ag5 u, .int .u64 l, .int .u64 h] w fun e w' => e = .returned (ag .u8 (fill (byt V) 16)) ∧ Below w.heap.size w w' := by
  have k := ksum_any w u hu l h hl
  have e : fill (b16 (slo u l) (shi u l h)) 16 = fill (byt V) 16 := by
    unfold fill
    refine List.map_congr_left fun i hi => ?_
    have hi' : i < 16 := by simpa using hi
    rw [b16_ok _ _ (by unfold slo; omega) (by unfold slo; omega) i hi', sum_ok hu l h, byt_mod _ i hi', hv]
  rw [e] at k
  exact k
theorem info5 : (Tryz.prog.info? 165).map (·.size) = some 5 := by kernel_rfl
theorem und5 : Tryz.prog.underlying 165 = some (.array 5 163) := by kernel_rfl
def r5 (u : Nat → Int) : List Value := [.int .u64 (u 0), .int .u64 (u 1), .int .u64 (u 2), .int .u64 (u 3), .int .u64 (u 4)]
theorem Blk.r5 {w : World} {g : Nat} {u : Nat → Int} (h : Blk w g .u64 [u 0, u 1, u 2, u 3, u 4]) : w.rangeAt g 0 (Go.Proofs.YtkpomobhjkikeaaGreatDoor.r5 u) := (Seg.blk h).range
theorem one5 (u : Nat → Int) : (r5 u).toArray.all (·.oneCell') = true := one_ints .u64 [u 0, u 1, u 2, u 3, u 4]
theorem keeps_only {B g : Nat} {W W' : World} (h : Only g W W') (hg : g < B) : KeepsFrom B W W' := ⟨Nat.le_of_eq h.size.symm, fun k o hB hk _ => (h.block k (by omega)).trans hk⟩
def offOf : Option Addr → Nat
  | none => 0
  | some a => a.off
theorem off_of {w : World} {g : Nat} {a : Option Addr} {k : IntKind} {xs : List Int} (h : Rd w g a k xs) (h0 : 0 < xs.length) : a = some ⟨g, offOf a, none⟩ := by
  obtain ⟨o, rfl, _⟩ := h h0
  rfl
structure OtI (w : World) (q gd gk : Nat) (ad ak : Option Addr) (key data : List Int) (R : Int) (f : Nat → Int) (Z : Nat) (pre : List (PcN16 data.length)) (W : World) : Prop where
  told : ∃ u : Nat → Int, KpP u ∧ Blk W (q + 1) .u64 [u 0, u 1, u 2, u 3, u 4] ∧ (pre.map (·.1) = List.range pre.length → kv u 5 % PO = pv R data pre.length % PO)
  fac : Blk W q .u64 [f 0, f 1, f 2, f 3, f 4]
  res : Blk W w.heap.size .u8 (List.replicate 16 0)
  lst : Rd W gd ad .u8 data
  ky : Rd W gk ak .u8 key
  siz : Z ≤ W.heap.size
  bel : Below w.heap.size w W
theorem otI_own {w : World} {q gd gk : Nat} {ad ak : Option Addr} {key data : List Int} {R : Int} {f : Nat → Int} {Z B : Nat} (hB : w.heap.size ≤ B) : OwnFrom B (OtI w q gd gk ad ak key data R f Z) := by
  intro s W W' row h hg hr
  have hr' : ∀ r, row = some r → ∃ o : Obj, W.heap[r]? = some o ∧ o.isCells = false := fun r e => (hr r e).2
  obtain ⟨u, u1, u2, u3⟩ := h.told
  refine ⟨⟨u, u1, blk_ofK u2 hg hr', u3⟩, blk_ofK h.fac hg hr', blk_ofK h.res hg hr', rd_ofK h.lst hg hr', rd_ofK h.ky hg hr', Nat.le_trans h.siz hg.size, ?_⟩
  exact h.bel.grown hg h.bel.size (fun k e => Nat.le_trans hB (hr k e).1)
set_option maxRecDepth 100000 in
set_option maxHeartbeats 8000000 in
theorem oneTimeSum_any (w : World) (gk : Nat) (ak : Option Addr) (ck : Nat) (key : List Int) (hk : Rd w gk ak .u8 key) (kb : Byt key) (kl : key.length = 32)
    (gd : Nat) (ad : Option Addr) (cd : Nat) (data : List Int) (hd : Rd w gd ad .u8 data) (db : Byt data) (dc : data.length ≤ cd) (dn : data.length ≤ 4194304) :
    Calls Tryz.prog 89 #[.slice ak key.length ck, .slice ad data.length cd] w fun e w' => e = .returned (ag .u8 (otB key data)) ∧ Below w.heap.size w w' := by
  have KL := hide kl
  have DN := hide dn
  have DC := hide dc
  have B0 := blk_y16 w 104
  have n0 : Below w.heap.size w (w.alloc (.cells #[.int .u8 0, .int .u8 0, .int .u8 0, .int .u8 0, .int .u8 0, .int .u8 0, .int .u8 0, .int .u8 0, .int .u8 0, .int .u8 0, .int .u8 0, .int .u8 0, .int .u8 0, .int .u8 0, .int .u8 0, .int .u8 0] 104)) := (Below.refl _ _).alloc (Nat.le_refl _) _
  have s0 : (w.alloc (.cells #[.int .u8 0, .int .u8 0, .int .u8 0, .int .u8 0, .int .u8 0, .int .u8 0, .int .u8 0, .int .u8 0, .int .u8 0, .int .u8 0, .int .u8 0, .int .u8 0, .int .u8 0, .int .u8 0, .int .u8 0, .int .u8 0] 104)).heap.size = w.heap.size + 1 := by simp
  have RF := fun W (n : Below w.heap.size w W) => hide (readFactor_any W gk ak ck key (hk.up n) kb KL.out)
  clear kl dn dc
  refine (callsIn_wide (n := 5)).1 (callsIn_of_wp_marks Tryz.func89 rfl trivial ?_ rfl)
  refine wpIn_wide.2 ?_
  simp only [Tryz.ntmps89, List.size_toArray, List.length_cons, List.length_nil, Nat.reduceAdd, Nat.reduceSub, Array.replicate_succ, Array.replicate_zero, List.push_toArray, List.append_toArray, List.nil_append, List.cons_append]
  go_upto_region 1 with fail
  generalize w.alloc (.cells #[.int .u8 0, .int .u8 0, .int .u8 0, .int .u8 0, .int .u8 0, .int .u8 0, .int .u8 0, .int .u8 0, .int .u8 0, .int .u8 0, .int .u8 0, .int .u8 0, .int .u8 0, .int .u8 0, .int .u8 0, .int .u8 0] 104) = wa at *
  go_wp2_with fail
  refine (RF wa n0).out.mono ?_
  rintro e wb ⟨f, rfl, hf, n1⟩
  have HF := hide hf
  clear hf RF
  have B0 := B0.up n1
  have N1 := nxt n0 n1
  have z1 : w.heap.size + 1 ≤ wb.heap.size := by have := n1.size; omega
  clear n0 n1 s0
  generalize hq : wb.heap.size = q at *
  have n2 : Below wb.heap.size wb (wb.alloc (.cells #[.int .u64 (f 0), .int .u64 (f 1), .int .u64 (f 2), .int .u64 (f 3), .int .u64 (f 4)] 165)) := (Below.refl _ _).alloc (Nat.le_refl _) _
  have SR := blk_box wb .u64 165 (f 0) (f 1) (f 2) (f 3) (f 4)
  have z3 : (wb.alloc (.cells #[.int .u64 (f 0), .int .u64 (f 1), .int .u64 (f 2), .int .u64 (f 3), .int .u64 (f 4)] 165)).heap.size = q + 1 := by simp [hq]
  rw [hq] at SR
  have B0 := B0.up n2
  have N2 := N1.trans (n2.mono (by omega))
  simp only [ag5]
  go_upto_region 2 with fail
  generalize wb.alloc (.cells #[.int .u64 (f 0), .int .u64 (f 1), .int .u64 (f 2), .int .u64 (f 3), .int .u64 (f 4)] 165) = wc at *
  clear n2 N1
  have n3 : Below wc.heap.size wc (wc.alloc (.cells #[.int .u64 0, .int .u64 0, .int .u64 0, .int .u64 0, .int .u64 0] 165)) := (Below.refl _ _).alloc (Nat.le_refl _) _
  have B3 := blk_box wc .u64 165 0 0 0 0 0
  have z4 : (wc.alloc (.cells #[.int .u64 0, .int .u64 0, .int .u64 0, .int .u64 0, .int .u64 0] 165)).heap.size = q + 1 + 1 := by simp [z3]
  rw [z3] at B3
  go_upto_region 3 with fail
  generalize wc.alloc (.cells #[.int .u64 0, .int .u64 0, .int .u64 0, .int .u64 0, .int .u64 0] 165) = wd at *
  have B0 := B0.up n3
  have B2 := SR.up n3
  have N3 := nxt N2 n3
  clear n3 SR N2 z3
  go_wp2_with fail
  refine (chunk_any16 wd ad data.length cd).mono ?_
  rintro e w6 ⟨rfl, rfl⟩
  have n5 : Below wd.heap.size wd (wd.alloc (.cells #[.slice ad data.length cd] 22)) := (Below.refl _ _).alloc (Nat.le_refl _) _
  have C5 : (wd.alloc (.cells #[.slice ad data.length cd] 22)).cell? ⟨wd.heap.size, 0, none⟩ = some (.slice ad data.length cd) := by simp [World.cell?_alloc_at]
  have z5 : (wd.alloc (.cells #[.slice ad data.length cd] 22)).heap.size = wd.heap.size + 1 := by simp
  generalize wd.alloc (.cells #[.slice ad data.length cd] 22) = w5 at *
  have n6 : Below w5.heap.size w5 (w5.alloc (.cells #[.int .i64 16] 3)) := (Below.refl _ _).alloc (Nat.le_refl _) _
  have C6 : (w5.alloc (.cells #[.int .i64 16] 3)).cell? ⟨w5.heap.size, 0, none⟩ = some (.int .i64 16) := by simp [World.cell?_alloc_at]
  have z6 : (w5.alloc (.cells #[.int .i64 16] 3)).heap.size = w5.heap.size + 1 := by simp
  generalize w5.alloc (.cells #[.int .i64 16] 3) = w6 at *
  rw [z4] at C5 z5 ⊢
  rw [z5] at C6 z6
  have n56 : Below wd.heap.size wd w6 := n5.trans (n6.mono (by omega))
  have N6 : Below w.heap.size w w6 := N3.trans (n56.mono (by omega))
  have I0 : OtI w q gd gk ad ak key data (rv key) f (q + 4) [] w6 :=
    ⟨⟨fun _ => 0, fun _ _ => ⟨Int.le_refl 0, show (0 : Int) ≤ 67109376 by decide⟩, B3.up n56, fun _ => rfl⟩, B2.up n56, B0.up n56, hd.up N6, hk.up N6, by omega, N6⟩
  have D5 : w6.cell? ⟨q + 1 + 1, 0, none⟩ = some (.slice ad data.length cd) := (World.cell?_of_block (a := ⟨q + 1 + 1, 0, none⟩) (n6.block (q + 1 + 1) (by omega))).trans C5
  have S6 : Hid (w6.heap.size = q + 1 + 1 + 1 + 1) := z6
  have HZ := hide z1
  clear n5 n6 n56 C5 z4 z5 z6 N3 N6 B0 B2 B3 hq z1
  go_wp2
  refine (wpIn_wide (n := 5)).1 (wpIn_rangeFunc_ownG (n := 5) rfl (by omega) (gf := 34) (lb := #[.pointer (some ⟨q + 1 + 1, 0, none⟩), .pointer (some ⟨q + 1 + 1 + 1, 0, none⟩)]) rfl trivial (enters_of Tryz.func34 (by kernel_rfl) rfl)
    (chunk_stops16 4 (by omega) (q + 1 + 1) (q + 1 + 1 + 1) gd (offOf ad) data.length cd ad (fun h => off_of hd h) DC.out DN.out w6 (by have := S6.out; omega) (by have := S6.out; omega) D5 C6) KpB.t (KpB.b (by have := S6.out; omega) (by have := S6.out; omega)) (Below.refl _ _) (fun _ => rfl)
    (OtI w q gd gk ad ak key data (rv key) f (q + 4)) (fun _ _ _ => False) (otI_own (by have := S6.out; have := HZ.out; omega)) (fun _ _ _ _ _ h _ _ => h) I0
    (fun x => { tmps := #[.slice ak key.length ck, .slice ad data.length cd, undef, undef, .pointer (some ⟨w.heap.size, 0, none⟩), .pointer (some ⟨q, 0, none⟩), .pointer (some ⟨q + 1, 0, none⟩), .slice (some ⟨gd, offOf ad + 16 * x.1, none⟩) (pcL16 data.length x.1) (pcL16 data.length x.1), undef, .slice ak key.length ck, .agg #[.int .u64 (f 0), .int .u64 (f 1), .int .u64 (f 2), .int .u64 (f 3), .int .u64 (f 4)], .slice ad data.length cd, Value.func (Fn.func 34) #[] #[Value.pointer (some ⟨q + 1 + 1, 0, none⟩), Value.pointer (some ⟨q + 1 + 1 + 1, 0, none⟩)], .slice (some ⟨gd, offOf ad + 16 * x.1, none⟩) (pcL16 data.length x.1) (pcL16 data.length x.1), undef, undef, undef, undef, undef, undef, undef, undef, undef, undef, undef, undef, undef, undef, undef], defers := [] }) ?assign ?body ?done ?stop)
  case assign =>
    intro l x W K hK
    unfold pcE16
    gi_wp2
    exact hK
  case body =>
    rintro l pre x W hI hlen
    obtain ⟨u, uK, uB, u3⟩ := hI.told
    have fB := hI.fac
    have rB := hI.res
    have lr := hI.lst
    have kr' := hI.ky
    have sz := hI.siz
    have be := hI.bel
    clear hI
    have xl := x.2
    have hz := HZ.out
    have ea := off_of hd (show 0 < data.length by omega)
    obtain ⟨pe, hpe⟩ : ∃ e, e = pcL16 data.length x.1 := ⟨_, rfl⟩
    have PL : ((data.drop (16 * x.1)).take 16).length = pe := by rw [hpe, List.length_take, List.length_drop]; unfold pcL16; rfl
    have PR : Rd W gd (some ⟨gd, offOf ad + 16 * x.1, none⟩) .u8 ((data.drop (16 * x.1)).take 16) := by
      have e1 : (data.drop (16 * x.1)).take 16 = (data.drop (16 * x.1)).take pe := by rw [hpe]; unfold pcL16; rw [List.take_eq_take_iff, List.length_drop]; omega
      rw [e1]
      rw [ea] at lr
      exact rd_part lr (16 * x.1) pe (by rw [hpe]; unfold pcL16; omega)
    have PB := byt_part db (16 * x.1) 16
    rw [← hpe]
    clear hpe
    have RP : ∀ v, Below W.heap.size W v → Hid (Calls Tryz.prog 107 #[.slice (some ⟨gd, offOf ad + 16 * x.1, none⟩) pe pe] v fun e w' => ∃ t, e = .returned (ag5 t) ∧ (Km t ∧ kv t 5 = pcv ((data.drop (16 * x.1)).take 16)) ∧ Below v.heap.size v w') := fun v hv => by
      have h := readPiece_any v gd (some ⟨gd, offOf ad + 16 * x.1, none⟩) pe _ (PR.up hv) PB (by rw [List.length_take]; omega)
      rw [PL] at h
      exact h
    obtain ⟨pc, hpc⟩ : ∃ v, v = pcv ((data.drop (16 * x.1)).take 16) := ⟨_, rfl⟩
    simp only [← hpc] at RP
    have HPC := hide hpc
    have UK := hide uK
    have FK := hide HF.out.1
    clear hpc PL PR PB lr
    gi_wp2_with fail
    refine region_store_in 6 _ (fun i => [Fact.eq (ag5 u), Fact.eq (.slice (some ⟨gd, offOf ad + 16 * x.1, none⟩) pe pe), Fact.kn (fun t => Km t ∧ kv t 5 = pc), Fact.kn (fun t => Kw t ∧ kv t 5 = kv u 5 + pc), Fact.eq (ag5 f), Fact.kn (fun t => KpP t ∧ kv t 5 % PO = (kv u 5 + pc) * kv f 5 % PO)].getD i Fact.no) (by kernel_rfl) (by rintro ⟨_, _, h⟩; exact h) (by kernel_rfl) (by kernel_rfl) rfl rfl ?_ ?_
    · skip
      intro i hi
      obtain rfl | rfl | rfl | rfl | rfl | rfl : i = 0 ∨ i = 1 ∨ i = 2 ∨ i = 3 ∨ i = 4 ∨ i = 5 := by omega
      · refine step_load rfl 165 (.tmp 6) rfl (.array 5 163) 5 und5 rfl info5 fun a v hb hw hf => ?_
        exact ⟨q + 1, 0, r5 u, hb.2.2 6 (by kernel_rfl), (uB.up hw).r5, rfl, rfl⟩
      · refine step_pure rfl fun a v hb hw hf => ?_
        have e7 : a.tmps[7]?.getD undef = .slice (some ⟨gd, offOf ad + 16 * x.1, none⟩) pe pe := gdv (hb.2.2 7 (by kernel_rfl))
        exact ⟨.slice (some ⟨gd, offOf ad + 16 * x.1, none⟩) pe pe, by simp [go_sem, e7], rfl⟩
      · refine step_callv rfl 107 _ _ rfl (by kernel_rfl) fun a v hb hw hf => ?_
        have e15 : a.tmps.getD 15 undef = .slice (some ⟨gd, offOf ad + 16 * x.1, none⟩) pe pe := hf 1 15 (by kernel_rfl)
        show Calls Tryz.prog 107 #[a.tmps.getD 15 undef] v _
        rw [e15]
        exact (RP v hw).out.mono (by rintro e w' ⟨t, rfl, h, n⟩; exact ⟨_, rfl, n, t, rfl, h⟩)
      · refine step_callv rfl 106 _ _ rfl (by kernel_rfl) fun a v hb hw hf => ?_
        have e14 : a.tmps.getD 14 undef = ag5 u := hf 0 14 (by kernel_rfl)
        obtain ⟨t, e16, t1, t2⟩ : ∃ t, a.tmps.getD 16 undef = ag5 t ∧ Km t ∧ kv t 5 = pc := hf 2 16 (by kernel_rfl)
        show Calls Tryz.prog 106 #[a.tmps.getD 14 undef, a.tmps.getD 16 undef] v _
        rw [e14, e16]
        exact (kadd_K v u t UK.out t1).mono (by rintro e w' ⟨s, rfl, h, n⟩; exact ⟨_, rfl, n, s, rfl, h.1, by rw [h.2, t2]⟩)
      · refine step_load rfl 165 (.tmp 5) rfl (.array 5 163) 5 und5 rfl info5 fun a v hb hw hf => ?_
        exact ⟨q, 0, r5 f, hb.2.2 5 (by kernel_rfl), (fB.up hw).r5, rfl, rfl⟩
      · refine step_callv rfl 108 _ _ rfl (by kernel_rfl) fun a v hb hw hf => ?_
        have e18 : a.tmps.getD 18 undef = ag5 f := hf 4 18 (by kernel_rfl)
        obtain ⟨t, e17, t1, t2⟩ : ∃ t, a.tmps.getD 17 undef = ag5 t ∧ Kw t ∧ kv t 5 = kv u 5 + pc := hf 3 17 (by kernel_rfl)
        show Calls Tryz.prog 108 #[a.tmps.getD 17 undef, a.tmps.getD 18 undef] v _
        rw [e18, e17]
        exact (kmul_K v t f t1 FK.out).mono (by rintro e w' ⟨s, rfl, h, n⟩; exact ⟨_, rfl, n, s, rfl, h.1, by rw [h.2, t2]⟩)
    · intro a v hb' hw hf
      have e6 : a.eval (.tmp 6) = .pointer (some ⟨q + 1, 0, none⟩) := hb'.2.2 6 (by kernel_rfl)
      obtain ⟨t, e19, t1, t2⟩ : ∃ t, a.tmps.getD 19 undef = ag5 t ∧ KpP t ∧ kv t 5 % PO = (kv u 5 + pc) * kv f 5 % PO := hf 5 19 (by kernel_rfl)
      have T2 := hide t2
      have T1 := hide t1
      clear t1 t2
      obtain ⟨ty, H⟩ := uB.up hw
      have S2 : Blk (v.setRow (q + 1) (r5 t).toArray) (q + 1) .u64 [t 0, t 1, t 2, t 3, t 4] := blk_setRow (k := .u64) (zs := [t 0, t 1, t 2, t 3, t 4]) ⟨ty, H⟩
      have O2 := only_setRow v (q + 1) (r5 t).toArray
      obtain ⟨vs, hvs⟩ : ∃ vs : Nat → Value, ∀ d, a.tmps.getD d undef = vs d := ⟨_, fun _ => rfl⟩
      have ea' := puts_of (md := .any) (n := 29) (k := 6) (by kernel_rfl) rfl hb' vs hvs
      refine wp_store_row 165 (.tmp 6) (.tmp 19) rfl (q + 1) (r5 t).toArray e6 e19 ty _ H (by rw [List.size_toArray]; exact info5) rfl (one5 t) ?_
      show _
      dsimp only [Act.put]
      rw [ea']
      clear ea' hvs e6 e19 hf hb' RP
      simp only [puts, Act.put, List.setIfInBounds_toArray, List.set_cons_succ, List.set_cons_zero]
      have hzs := hw.size
      have U2 : ∀ b, b < W.heap.size → b ≠ q + 1 → (v.setRow (q + 1) (r5 t).toArray).heap[b]? = W.heap[b]? := fun b h1 h2 => (O2.block b h2).trans (hw.block b h1)
      have k2 : KeepsFrom w6.heap.size W (v.setRow (q + 1) (r5 t).toArray) := (keeps_below hw).trans (keeps_only O2 (by have := S6.out; omega))
      have N2 : Below w.heap.size w (v.setRow (q + 1) (r5 t).toArray) := be.trans ((hw.mono be.size).trans (O2.below (by omega)))
      have s2 := O2.size
      generalize v.setRow (q + 1) (r5 t).toArray = W2 at *
      gi_wp2
      have lx : (pre ++ [x]).length = pre.length + 1 := by simp
      refine ⟨k2, ⟨U2 _ (by omega) (by omega), U2 _ (by omega) (by omega)⟩, ?_⟩
      refine ⟨⟨t, T1.out, S2, fun h => ?_⟩, fB.of_block (U2 q (by omega) (by omega)), rB.of_block (U2 w.heap.size (by omega) (by omega)), hd.up N2, hk.up N2, by omega, N2⟩
      rw [lx, List.map_append, List.range_succ] at h
      obtain ⟨h1', h2'⟩ := List.append_inj' h rfl
      have h3' : x.1 = pre.length := by simpa using h2'
      rw [lx, T2.out, HF.out.2, HPC.out, h3', pv, Int.emod_emod, Int.mul_emod, Int.add_emod, u3 h1', ← Int.add_emod, ← Int.mul_emod]
  case done =>
    rintro D xx W hD hS hI hK
    have yl : xx.length = (data.length + 15) / 16 := by have := congrArg List.length hS; simpa using this
    obtain ⟨u, uK, uB, u3⟩ := hI.told
    rw [← yl] at hS
    have ez := u3 hS
    rw [yl] at ez
    have hdd : q + 1 + 1 < D := by have := S6.out; omega
    have hz := HZ.out
    have HUK := hide uK
    have HEZ := hide ez
    have rB := hI.res
    have ky := hI.ky
    have sz := hI.siz
    have be := hI.bel
    have RW : ∀ v, Below W.heap.size W v → Hid (Calls Tryz.prog 109 #[.slice ak key.length ck] v fun e w' => e = .returned (ag4 (wv (fun j => key.getD j 0) 32)) ∧ Below v.heap.size v w') := fun v n => by
      show Calls _ _ _ _ _
      rw [KL.out]
      exact readWords_any v gk ak ck key (ky.up n) kb KL.out
    have WH := hide (words_hi key)
    have wl := wv_lt (a := fun j => key.getD j 0) kb 32 2
    have OV : Hid (otB key data = fill (byt (kv u 5 % PO + (wv (fun j => key.getD j 0) 32 2 + wv (fun j => key.getD j 0) 32 3 * 18446744073709551616))) 16) := by
      show _ = _
      unfold otB
      rw [HEZ.out, WH.out]
    obtain ⟨Wd, hWd⟩ : ∃ v, v = wv (fun j => key.getD j 0) 32 := ⟨_, rfl⟩
    rw [← hWd] at wl OV
    simp only [← hWd] at RW
    clear hI u3 ez hS yl uK hWd WH ky C6 D5 I0 hd hk kb db
    go_wp2_with fail
    refine (RW W (Below.refl _ _)).out.mono ?_
    rintro e Wb ⟨rfl, nb⟩
    clear RW
    have n8 : Below Wb.heap.size Wb (Wb.alloc (.cells #[.int .u64 (Wd 0), .int .u64 (Wd 1), .int .u64 (Wd 2), .int .u64 (Wd 3)] 168)) := (Below.refl _ _).alloc (Nat.le_refl _) _
    have B8 := blk_box4 Wb .u64 168 (Wd 0) (Wd 1) (Wd 2) (Wd 3)
    simp only [ag4]
    go_upto_region 7 with fail
    generalize Wb.alloc (.cells #[.int .u64 (Wd 0), .int .u64 (Wd 1), .int .u64 (Wd 2), .int .u64 (Wd 3)] 168) = Wc at *
    have nc : Below W.heap.size W Wc := nb.trans (n8.mono nb.size)
    have rB := rB.up nc
    have uB := uB.up nc
    have hK := (nc.block D (Array.getElem?_eq_some_iff.1 hK).1).trans hK
    have be := be.trans (nc.mono be.size)
    have sz : q + 4 ≤ Wc.heap.size := Nat.le_trans sz nc.size
    generalize Wb.heap.size = bq at *
    clear nb n8 nc
    obtain ⟨ov, hov⟩ : ∃ v, v = otB key data := ⟨_, rfl⟩
    have OV' : Hid (ov = fill (byt (kv u 5 % PO + (Wd 2 + Wd 3 * 18446744073709551616))) 16) := by show _ = _; rw [hov]; exact OV.out
    have OL : Hid ((ov.map (Value.int .u8)).length = 16) := by show _ = _; rw [List.length_map, hov]; exact otB_len _ _
    have HOV := hide hov
    clear hov OV
    refine region_store 7 _ (fun i => [Fact.eq (ag5 u), Fact.kn (fun t => Km t ∧ kv t 5 = kv u 5 % PO), Fact.eq (.pointer (some ⟨bq, 2, none⟩)), Fact.eq (.int .u64 (Wd 2)), Fact.eq (.pointer (some ⟨bq, 3, none⟩)), Fact.eq (.int .u64 (Wd 3)), Fact.eq (ag .u8 ov)].getD i Fact.no) (by kernel_rfl) (by kernel_rfl) rfl rfl ?_ ?_
    · intro i hi
      obtain rfl | rfl | rfl | rfl | rfl | rfl | rfl : i = 0 ∨ i = 1 ∨ i = 2 ∨ i = 3 ∨ i = 4 ∨ i = 5 ∨ i = 6 := by omega
      · refine step_load rfl 165 (.tmp 6) rfl (.array 5 163) 5 und5 rfl info5 fun a v hb hw hf => ?_
        exact ⟨q + 1, 0, r5 u, hb.2.2 6 (by kernel_rfl), (uB.up hw).r5, rfl, rfl⟩
      · refine step_callv rfl 110 _ _ rfl (by kernel_rfl) fun a v hb hw hf => ?_
        have e22 : a.tmps.getD 22 undef = ag5 u := hf 0 22 (by kernel_rfl)
        show Calls Tryz.prog 110 #[a.tmps.getD 22 undef] v _
        rw [e22]
        exact (ksettle_K v u HUK.out).mono (by rintro e w' ⟨t, rfl, h, n⟩; exact ⟨_, rfl, n, t, rfl, h⟩)
      · refine step_pure rfl fun a v hb hw hf => ?_
        have e8 : a.tmps[8]?.getD undef = .pointer (some ⟨bq, 0, none⟩) := gdv (hb.2.2 8 (by kernel_rfl))
        exact ⟨.pointer (some ⟨bq, 2, none⟩), by simp [go_sem, e8], rfl⟩
      · refine step_pure rfl fun a v hb hw hf => ?_
        have e24 : a.tmps[24]?.getD undef = .pointer (some ⟨bq, 2, none⟩) := gdv (hf 2 24 (by kernel_rfl))
        have hc : v.cell? ⟨bq, 2, none⟩ = some (.int .u64 (Wd 2)) := (B8.up hw).cell (i := 2) (by simp)
        exact ⟨.int .u64 (Wd 2), by simp [go_sem, e24, hc], rfl⟩
      · refine step_pure rfl fun a v hb hw hf => ?_
        have e8 : a.tmps[8]?.getD undef = .pointer (some ⟨bq, 0, none⟩) := gdv (hb.2.2 8 (by kernel_rfl))
        exact ⟨.pointer (some ⟨bq, 3, none⟩), by simp [go_sem, e8], rfl⟩
      · refine step_pure rfl fun a v hb hw hf => ?_
        have e26 : a.tmps[26]?.getD undef = .pointer (some ⟨bq, 3, none⟩) := gdv (hf 4 26 (by kernel_rfl))
        have hc : v.cell? ⟨bq, 3, none⟩ = some (.int .u64 (Wd 3)) := (B8.up hw).cell (i := 3) (by simp)
        exact ⟨.int .u64 (Wd 3), by simp [go_sem, e26, hc], rfl⟩
      · refine step_callv rfl 111 _ _ rfl (by kernel_rfl) fun a v hb hw hf => ?_
        obtain ⟨t, e23, t1, t2⟩ : ∃ t, a.tmps.getD 23 undef = ag5 t ∧ Km t ∧ kv t 5 = kv u 5 % PO := hf 1 23 (by kernel_rfl)
        have e25 : a.tmps.getD 25 undef = .int .u64 (Wd 2) := hf 3 25 (by kernel_rfl)
        have e27 : a.tmps.getD 27 undef = .int .u64 (Wd 3) := hf 5 27 (by kernel_rfl)
        show Calls Tryz.prog 111 #[a.tmps.getD 23 undef, a.tmps.getD 25 undef, a.tmps.getD 27 undef] v _
        rw [e23, e25, e27]
        have h := ksum_K v t t1 (Wd 2) (Wd 3) _ wl rfl
        rw [t2, ← OV'.out] at h
        exact h.mono (by rintro e w' ⟨rfl, n⟩; exact ⟨_, rfl, n, rfl⟩)
    · intro a v hb' hw hf
      have e4 : a.eval (.tmp 4) = .pointer (some ⟨w.heap.size, 0, none⟩) := hb'.2.2 4 (by kernel_rfl)
      have e28 : a.eval (.tmp 28) = .agg (ov.map (Value.int .u8)).toArray := hf 6 28 (by kernel_rfl)
      obtain ⟨ty, H⟩ := rB.up hw
      have SR := setRow_heap v w.heap.size _ (ov.map (Value.int .u8)).toArray _ _ H
      have O2 := only_setRow v w.heap.size (ov.map (Value.int .u8)).toArray
      have O := one_ints .u8 ov
      obtain ⟨vs, hvs⟩ : ∃ vs : Nat → Value, ∀ d, a.tmps.getD d undef = vs d := ⟨_, fun _ => rfl⟩
      have ea' := puts_of (md := .any) (n := 29) (k := 7) (by kernel_rfl) rfl hb' vs hvs
      have V : Hid (ag .u8 ov = Value.agg (ov.map (Value.int .u8)).toArray) := rfl
      obtain ⟨vo, hvo⟩ : ∃ v, v = ov.map (Value.int .u8) := ⟨_, rfl⟩
      rw [← hvo] at e28 SR O2 O OL V
      refine wp_store_row 104 (.tmp 4) (.tmp 28) rfl w.heap.size vo.toArray e4 e28 ty _ H (by rw [List.size_toArray, OL.out]; exact infoP16) (by rw [List.size_toArray, List.size_toArray, OL.out]; rfl) O ?_
      dsimp only [Act.put]
      rw [ea']
      clear ea' hvs e4 e28 hf hb'
      simp only [puts, Act.put, List.setIfInBounds_toArray, List.set_cons_succ, List.set_cons_zero]
      have hK2 := (O2.block D (by omega)).trans ((hw.block D (Array.getElem?_eq_some_iff.1 hK).1).trans hK)
      have N2 : Below w.heap.size w (v.setRow w.heap.size vo.toArray) := be.trans ((hw.mono be.size).trans (O2.below (Nat.le_refl _)))
      have N3 : Below w.heap.size w ((v.setRow w.heap.size vo.toArray).putObj D (.deferred none)) := N2.trans (belowK_b (w := w) (Nat.le_refl _) _ D _ _ (by omega) hK2 rfl rfl)
      have SR2 : ((v.setRow w.heap.size vo.toArray).putObj D (.deferred none)).heap[w.heap.size]? = some (.cells vo.toArray ty (0, 0)) := (World.putObj_heap_other (by omega)).trans SR
      generalize v.setRow w.heap.size vo.toArray = W9 at *
      go_wp2
      refine ⟨by simp, .inl ⟨_, _, rfl, run_takeDeferred hK2, ?_⟩⟩
      exact ⟨_, results_cell_row Tryz.results89 _ _ w.heap.size ty vo.toArray (0, 0) (.array 16 5) rfl SR2 undP16 rfl (by rw [List.size_toArray, OL.out]; exact infoP16), by rw [← HOV.out, V.out], N3⟩
  case stop =>
    rintro D c pre W hD hs h hK
    exact h.elim
end Go.Proofs.YtkpomobhjkikeaaGreatDoor
namespace Go.Proofs.YtkpomobhjkikeaaGreatDoor
set_option maxRecDepth 100000
open Go.RowKit
theorem Tryz.info2 : (Tryz.prog.info? 2).map (fun i => (i.zero, i.size, i.bytes)) = some (some (.int .i64 0), 1, 8) := by kernel_rfl
set_option maxRecDepth 100000 in
set_option maxHeartbeats 4000000 in
theorem l1Mul_any (w : World) (g g' : Nat) (a b : Option Addr) (ca cb : Nat) (xs us : List Int) (ha : Rd w g a .u8 xs) (hb : Rd w g' b .u8 us) (hx : Byt xs) (hu : Byt us)
    (hn : xs.length ≤ 4096) (hm : us.length ≤ 4096) :
    Calls Tryz.prog 70 #[.slice a xs.length ca, .slice b us.length cb] w fun e w' => ∃ ys, Canon ys (bval xs * bval us) ∧ NewRow w.heap.size w' e .u8 ys ∧ Below w.heap.size w w' := by
  obtain ⟨i0, hi, hz0, hz1, hz2⟩ := info_parts Tryz.info5
  obtain ⟨j0, ji, jz0, jz1, jz2⟩ := info_parts Tryz.info2
  go_enter Tryz.func70, Tryz.ntmps70
  go_wp2_with (at_make; refine wpList_make_full _ rfl _ _ 153 rfl w.heap.size 2 j0 (.int .i64 0) 1 Tryz.underlying153 ji jz0 jz1 .i64 .i64 _ _ (xs.length + us.length + 1) rfl rfl (by omega) (by omega) (by rw [jz2]; omega) (by unfold maxLen; omega) (Nat.le_refl _) ?_; intro w1 hown hgrow)
  have hB0 := Blk.of_made hown
  have hN0 : Below w.heap.size w w1 := (Below.refl _ _).grown hgrow (Nat.le_refl _) (by simp)
  clear hown hgrow
  go_loopw [6] (fun i wr => ∃ (k : Nat) (cs : List Int), k ≤ xs.length ∧ i = .int .i64 k ∧ ColTo xs us cs (xs.length + us.length + 1) k 0 ∧ Blk wr w.heap.size .i64 cs ∧ Below w.heap.size w wr) (fun i _ => xs.length - (intOf i).toNat)
  case atStart => exact ⟨0, _, Nat.zero_le _, rfl, ColTo.zero xs us _, hB0, hN0⟩
  case round =>
    obtain ⟨k, cs, hk, rfl, hA, hB, hN⟩ := hrel
    by_cases hlt : k < xs.length
    · go_wp2
      go_loopw [7] (fun i wq => ∃ (j : Nat) (qs : List Int), j ≤ us.length ∧ i = .int .i64 j ∧ ColTo xs us qs (xs.length + us.length + 1) k j ∧ Blk wq w.heap.size .i64 qs ∧ Below w.heap.size w wq) (fun i _ => us.length - (intOf i).toNat)
      case atStart => exact ⟨0, cs, Nat.zero_le _, rfl, hA, hB, hN⟩
      case round =>
        obtain ⟨j, qs, hj', rfl, hA2, hB2, hN2⟩ := hrel
        by_cases hjl : j < us.length
        · have R := hA2.step hx hu (by omega)
          have hl := hA2.1
          have qb := hA2.2.1 (k + j)
          rw [if_neg (by omega)] at qb
          have c3 : wr.cell? ⟨w.heap.size, k + j, none⟩ = some (.int .i64 (qs.getD (k + j) 0)) := hB2.cell (by omega)
          have f3 := hB2.free (k + j)
          have S := hB2.store (k + j) (qs.getD (k + j) 0 + dig xs k * dig us j)
          have Sn : ∀ n v, Below w.heap.size w ((wr.drewN n).setCell ⟨w.heap.size, k + j, none⟩ v) := fun n v => (below_drewN hN2 n).setCell (Nat.le_refl _) v
          have d1 := dig_byt hx k
          have d2 := dig_byt hu j
          have u0 : 0 ≤ dig xs k * dig us j := Int.mul_nonneg d1.1 d2.1
          have u1 : dig xs k * dig us j ≤ 65025 := Int.le_trans (Int.mul_le_mul_of_nonneg_right d1.2 d2.1) (Int.mul_le_mul_of_nonneg_left d2.2 (by decide))
          have i1 : (k : Int) + (j : Int) < (xs.length : Int) + (us.length : Int) + 1 := by omega
          have i2 : ((k : Int) + (j : Int)).toNat = k + j := by omega
          have i5 : (0 : Int) ≤ (k : Int) + (j : Int) := by omega
          have i6 : (k : Int) + (j : Int) < ((xs.length + us.length + 1 : Nat) : Int) := by omega
          have ha' := fun n => ha.up (below_drewN hN2 n)
          have hb' := fun n => hb.up (below_drewN hN2 n)
          have L1 : ∀ W, (∃ n, W = wr.drewN n) → Calls Tryz.prog 66 #[.slice a xs.length ca, .int .i64 (k : Int)] W fun e w' => e = .returned (.int .i64 (dig xs k)) ∧ w' = W := by
            rintro W ⟨n, rfl⟩
            have := l1Digit_any (wr.drewN n) g a ca xs (k : Int) (ha' n) hx (by omega) (by omega) (by omega)
            rwa [Int.toNat_natCast] at this
          have L2 : ∀ W, (∃ n, W = wr.drewN n) → Calls Tryz.prog 66 #[.slice b us.length cb, .int .i64 (j : Int)] W fun e w' => e = .returned (.int .i64 (dig us j)) ∧ w' = W := by
            rintro W ⟨n, rfl⟩
            have := l1Digit_any (wr.drewN n) g' b cb us (j : Int) (hb' n) hu (by omega) (by omega) (by omega)
            rwa [Int.toNat_natCast] at this
          have e1 : IntKind.i64.wrap ((k : Int) + (j : Int)) = (k : Int) + (j : Int) := by rw [IntKind.wrap_i64]; omega
          have e2 : IntKind.i64.wrap (dig xs k * dig us j) = dig xs k * dig us j := by rw [IntKind.wrap_i64]; omega
          have e3 : IntKind.i64.wrap (qs.getD (k + j) 0 + dig xs k * dig us j) = qs.getD (k + j) 0 + dig xs k * dig us j := by rw [IntKind.wrap_i64]; omega
          have H1 := hide L1
          have H2 := hide L2
          have R' := hide R
          generalize dig xs k = x at *
          generalize dig us j = y at *
          generalize qs.getD (k + j) 0 = p at *
          clear hA hB hN hA2 hB2 hN2 L1 L2 ha' hb' hl R
          go_wp2
          go_region_with (first | (go_at_call_of 66 (Value.slice a xs.length ca); refine ((unhide H1) _ ?_).mono ?_; exact ⟨1, rfl⟩; rintro e w' ⟨rfl, rfl⟩) | (go_at_call_of 66 (Value.slice b us.length cb); refine ((unhide H2) _ ?_).mono ?_; exact ⟨1, rfl⟩; rintro e w' ⟨rfl, rfl⟩))
          all_goals
            clear e1 e2 e3
            go_wp2
            go_roundw
            case rel => exact ⟨j + 1, _, by omega, by go_num, R'.out, S, Sn 1 _⟩
            case measure => simp [intOf]; omega
        · obtain rfl : j = us.length := by omega
          have R' := hide hA2.row
          clear hA hB hN hA2
          go_wp2
          go_roundw
          case rel => exact ⟨k + 1, _, by omega, by go_num, R'.out, hB2, hN2⟩
          case measure => simp [intOf]; omega
    · obtain rfl : k = xs.length := by omega
      have hlt2 := hB.lt
      have hs := hN.size
      go_wp2_with (at_make; refine wpList_make_full _ rfl _ _ 22 rfl wr.heap.size 5 i0 (.int .u8 0) 1 Tryz.underlying22 hi hz0 hz1 .i64 .i64 _ _ (xs.length + us.length + 1) rfl rfl (by omega) (by omega) (by rw [hz2]; omega) (by unfold maxLen; omega) (Nat.le_refl _) ?_; intro w3 hown hgrow)
      have hB3 := Blk.of_made hown
      have hN3 : Below wr.heap.size wr w3 := (Below.refl _ _).grown hgrow (Nat.le_refl _) (by simp)
      have HC := hide hA
      have hcb := hA.2.1
      have hcl := hide hA.1
      clear hown hgrow hA
      obtain ⟨wv, rfl⟩ : ∃ wv, wv = wr := ⟨_, rfl⟩
      go_loopw [9, 10] (fun q i wq => ∃ (t : Nat) (c : Int) (ys : List Int), t ≤ xs.length + us.length + 1 ∧ i = .int .i64 t ∧ q = .int .i64 c ∧ (0 ≤ c ∧ c ≤ 1099511627776) ∧ OutTo cs ys (xs.length + us.length + 1) t c ∧ Blk wq wv.heap.size .u8 ys ∧ Below wv.heap.size wv wq) (fun _ i _ => xs.length + us.length + 1 - (intOf i).toNat)
      case atStart => exact ⟨0, 0, _, Nat.zero_le _, rfl, rfl, ⟨by omega, by omega⟩, ⟨by simp, byt_zeros _, rfl⟩, hB3, hN3⟩
      case round =>
        obtain ⟨t, c, ys, ht, rfl, rfl, hc, hO, hBq, hNq⟩ := hrel
        by_cases htl : t < xs.length + us.length + 1
        · have R := hide (hO.step htl)
          have hyl := hO.1
          have cb := hcb t
          have cb2 : cs.getD t 0 ≤ 266407425 := by
            have h2 := cb.2
            split at h2 <;> omega
          have cb1 := cb.1
          have c1 : wr.cell? ⟨w.heap.size, t, none⟩ = some (.int .i64 (cs.getD t 0)) := (hNq.cell (p := ⟨w.heap.size, t, none⟩) hlt2).trans (hB.cell (by rw [hcl.out]; exact htl))
          have c2 : wr.cell? ⟨wv.heap.size, xs.length + us.length + 1 - 1 - t, none⟩ = some (.int .u8 (ys.getD (xs.length + us.length + 1 - 1 - t) 0)) := hBq.cell (by omega)
          have f2 := hBq.free (xs.length + us.length + 1 - 1 - t)
          have S := hBq.store (xs.length + us.length + 1 - 1 - t) ((cs.getD t 0 + c) % 256)
          have Sn : Below wv.heap.size wv (wr.setCell ⟨wv.heap.size, xs.length + us.length + 1 - 1 - t, none⟩ (.int .u8 ((cs.getD t 0 + c) % 256))) := hNq.setCell (Nat.le_refl _) _
          obtain ⟨p, hp⟩ : ∃ p : Nat, xs.length + us.length + 1 - 1 - t = p := ⟨_, rfl⟩
          rw [hp] at c2 f2 S Sn R
          have p1 : (xs.length : Int) + (us.length : Int) + 1 - 1 - (t : Int) = (p : Int) := by omega
          have p1' : (xs.length : Int) + (us.length : Int) - (t : Int) = (p : Int) := by omega
          have p2 : (p : Int) < (xs.length : Int) + (us.length : Int) + 1 := by omega
          have i1 : (t : Int) < (xs.length : Int) + (us.length : Int) + 1 := by omega
          generalize cs.getD t 0 = x at *
          have m1 : (x + c) % 256 % 256 = (x + c) % 256 := by omega
          clear hB hN hO hBq hNq hp cb hcb hyl HC hcl
          go_wp2
          go_roundw
          case rel => exact ⟨t + 1, _, _, by omega, by go_num, rfl, ⟨by omega, by omega⟩, R.out, S, Sn⟩
          case measure => simp [intOf]; omega
        · obtain rfl : t = xs.length + us.length + 1 := by omega
          have V := hide (hO.done hc.1 HC.out hx hu)
          have L := hide hO.1
          have hyb := hO.2.1
          clear hO hB hcb hcl HC
          go_wp2_with fail
          rw [← L.out]
          refine (l1Trim_any wr _ _ _ ys hBq.own0.rd hyb (by simp) (Nat.le_refl _) (by rw [L.out]; omega)).mono ?_
          rintro e w4 ⟨zs, C, _, ⟨a1, c1, g1, rfl, o1, q1, q2, q3⟩, n4⟩
          rw [V.out] at C
          have sq := hNq.size
          have nn := nxt (nxt hN hNq) n4
          go_wp2
          go_ret
          exact ⟨zs, C, ⟨_, _, _, rfl, o1, q1, q2, by omega⟩, nn⟩
end Go.Proofs.YtkpomobhjkikeaaGreatDoor
namespace Go.Proofs.YtkpomobhjkikeaaGreatDoor
set_option maxRecDepth 100000
open Go.RowKit
theorem zeroCells_one (v : Value) (m : Nat) : (Builtin.zeroCells #[v] m).toList = List.replicate m v := by
  apply List.ext_getElem
  · simp [Builtin.zeroCells]
  · intro i h1 h2
    simp [Builtin.zeroCells, Nat.mod_one]
theorem run_append_room_zeros {P : Program} (w : World) (t tn ty e : TypeId) (i : TypeInfo) (z : Value) (kq kn : IntKind) (ht : P.underlying t = some (.slice e)) (htn : P.underlying tn = some (.int kn)) (hi : P.info? e = some i) (hz : i.zero = some z)
    (g sLen sCap : Nat) (cur : Array Value) (hg : w.heap[g]? = some (.cells cur e (0, 0))) (m : Nat) (h0 : 0 < m) (hs : 0 < i.size) (h1 : ∀ u ∈ (Builtin.zeroCells z.cells m).toList, u.oneCell' = true)
    (h63 : (m : Int) ≤ 9223372036854775807) (h48 : m * i.bytes ≤ 281474976710656) (hroom : sLen + m ≤ sCap) (hfit : sLen * i.size + (Builtin.zeroCells z.cells m).toList.length ≤ cur.size) :
    (Builtin.append_ #[t, tn] ty #[.slice (some ⟨g, 0, none⟩) sLen sCap, .int kq m]).run P w =
      .ok (.slice (some ⟨g, 0, none⟩) (sLen + m) sCap) (w.setRow g (cur.toList.take (sLen * i.size) ++ (Builtin.zeroCells z.cells m).toList ++ cur.toList.drop (sLen * i.size + (Builtin.zeroCells z.cells m).toList.length)).toArray) := by
  have hst := run_storeCells_at P g (sLen * i.size) e (Builtin.zeroCells z.cells m).toList 0 cur w hg (by simpa using hfit) h1
  simp only [Nat.add_zero] at hst
  have hw : IntKind.i64.wrap (m : Int) = m := by rw [IntKind.wrap_i64]; omega
  have h48i : ¬ (281474976710656 < (m : Int) * (i.bytes : Int)) := by
    rw [← Int.natCast_mul]
    omega
  have hneg : ¬ ((m : Int) < 0) := by omega
  have hm : m ≠ 0 := by omega
  have hns : ¬ (m * i.size = 0) := Nat.mul_ne_zero hm (by omega)
  simp [Builtin.append_, run_underlying ht, run_underlying htn, sizeOf, typeInfo, zeroValue, hi, hz, asInt, asIntOf, hw, hneg, hns, h48i, hroom, Addr.add_lit, hst]
theorem append_zeros_own {P : Program} (w : World) (t tn ty e : TypeId) (i : TypeInfo) (kq kn : IntKind) (ht : P.underlying t = some (.slice e)) (htn : P.underlying tn = some (.int kn)) (hi : P.info? e = some i) (hz : i.zero = some (.int .u8 0)) (hsize : i.size = 1) (hby : i.bytes = 1)
    (base : Nat) (v : Value) (n : Nat) (xs : List Value) (hown : w.ownsRow base e 1 v n xs) (hv : v ≠ .slice none 0 0) (m : Nat) (h0 : 0 < m) (hsm : n + m ≤ 1048576) (hbase : base ≤ w.heap.size) :
    ∃ v' w', (Builtin.append_ #[t, tn] ty #[v, .int kq m]).run P w = .ok v' w' ∧ w'.ownsRow base e 1 v' (n + m) (xs ++ List.replicate m (.int .u8 0)) ∧ w.grownBy w' v.ownBlock ∧ v' ≠ .slice none 0 0 := by
  have hzc : (Value.int .u8 0).cells = #[.int .u8 0] := rfl
  have hzl := zeroCells_one (.int .u8 0) m
  have hlen : (xs ++ List.replicate m (Value.int .u8 0)).length = (n + m) * 1 := by rw [List.length_append, hown.1, List.length_replicate]; omega
  rcases hown.2 with ⟨rfl, rfl⟩ | ⟨g, cap, cur, rfl, hbg, hg, hnc, hcm, hcs, htake⟩
  · exact absurd rfl hv
  · by_cases hroom : n + m ≤ cap
    · have hr := run_append_room_zeros (P := P) w t tn ty e i (.int .u8 0) kq kn ht htn hi hz g n cap cur hg m h0 (by omega) (by rw [hzc, hzl]; intro u hu; rw [(List.mem_replicate.1 hu).2]; rfl) (by omega) (by rw [hby]; omega) hroom (by rw [hzc, hzl, hsize, List.length_replicate]; omega)
      rw [hzc, hzl, hsize, List.length_replicate] at hr
      refine ⟨_, _, hr, ⟨hlen, .inr ⟨g, cap, _, rfl, hbg, setRow_heap w g cur _ e _ hg, hroom, hcm, ?_, ?_⟩⟩, ⟨rfl, rfl, rfl, by simp, fun k _ hk => setRow_other w g k _ (fun e => hk (by simp [Value.ownBlock, e]))⟩, by simp⟩
      · simp only [List.size_toArray, List.length_append, List.length_take, List.length_drop, Array.length_toList, List.length_replicate]
        omega
      · rw [htake, ← hlen]
        exact List.take_left
    · have holds : ∀ j u, xs[j]? = some u → w.drew.cell? ((⟨g, 0, none⟩ : Addr).add j) = some u := hown.cells (g := g) rfl
      have hf := run_firstCells_some (P := P) w.drew i.size n ⟨g, 0, none⟩ n cap xs (by rw [hsize]; exact hown.1) holds
      have hr := Lib.run_append_grow_zeros (P := P) w t tn ty e i (.int .u8 0) kq kn ht htn hi hz (some ⟨g, 0, none⟩) n cap xs hf m h0 (by omega) (by omega) (by omega) (by rw [hby]; omega) (growslice_fits (by omega) (by rw [hby]; omega))
      have hge := grownCap_ge w (n + m) cap e
      have hcm' : grownCap w (n + m) cap e ≤ maxLen := grownCap_le_maxLen w (n + m) cap e (by unfold maxLen; omega)
      refine ⟨_, _, hr, ⟨hlen, .inr ⟨w.heap.size, _, _, rfl, hbase, _root_.Go.heap_alloc_new w.drew _, hge, hcm', ?_, ?_⟩⟩, ⟨rfl, rfl, rfl, by simp, fun k hk _ => _root_.Go.heap_alloc_old w.drew _ hk⟩, by simp⟩
      · have h1 := hown.1
        simp only [Array.size_append, List.size_toArray, size_zeroCells, hzc, h1]
        simp
        omega
      · simp only [Array.toList_append, List.append_assoc]
        rw [← List.append_assoc, ← hlen, hzc, hzl]
        exact List.take_left
end Go.Proofs.YtkpomobhjkikeaaGreatDoor
namespace Go.Proofs.YtkpomobhjkikeaaGreatDoor
set_option maxRecDepth 100000
open Go.RowKit
theorem bval_zeros (xs : List Int) : ∀ m, bval (xs ++ List.replicate m 0) = bval xs * 256 ^ m
  | 0 => by simp
  | m + 1 => by
    rw [List.replicate_succ', ← List.append_assoc, bval_snoc, bval_zeros xs m, Int.pow_succ, Int.mul_assoc]
    omega
theorem byt_addz {xs : List Int} (h : Byt xs) (m : Nat) : Byt (xs ++ List.replicate m 0) := by
  intro i
  by_cases e : i < xs.length
  · have := h i
    simpa [List.getElem?_append, e] using this
  · rw [List.getD_eq_getElem?_getD, List.getElem?_append, if_neg e, List.getElem?_replicate]
    split <;> simp
theorem byt_one {d : Int} (h0 : 0 ≤ d) (h1 : d < 256) : Byt [d] := fun i => by
  match i with
  | 0 => exact ⟨h0, h1⟩
  | i + 1 => simp
end Go.Proofs.YtkpomobhjkikeaaGreatDoor
namespace Go.Proofs.YtkpomobhjkikeaaGreatDoor
set_option maxRecDepth 100000
open Go.RowKit
set_option maxRecDepth 100000 in
set_option maxHeartbeats 2000000 in
theorem l1Sub_any (w : World) (g g' : Nat) (a b : Option Addr) (ca cb : Nat) (xs us : List Int) (ha : Rd w g a .u8 xs) (hb : Rd w g' b .u8 us) (hx : Byt xs) (hu : Byt us)
    (hn : xs.length ≤ 4096) (hm : us.length ≤ xs.length) (hle : bval us ≤ bval xs) :
    Calls Tryz.prog 50 #[.slice a xs.length ca, .slice b us.length cb] w fun e w' => ∃ ys, Canon ys (bval xs - bval us) ∧ NewRow w.heap.size w' e .u8 ys ∧ Below w.heap.size w w' := by
  obtain ⟨i0, hi, hz0, hz1, hz2⟩ := info_parts Tryz.info5
  go_enter Tryz.func50, Tryz.ntmps50
  go_wp2_with (at_make; refine wpList_make_full _ rfl _ _ 22 rfl w.heap.size 5 i0 (.int .u8 0) 1 Tryz.underlying22 hi hz0 hz1 .i64 .i64 _ _ xs.length rfl rfl rfl rfl (by rw [hz2]; omega) (by unfold maxLen; omega) (Nat.le_refl _) ?_; intro w1 hown hgrow)
  have hB0 := Blk.of_made hown
  have hN0 : Below w.heap.size w w1 := (Below.refl _ _).grown hgrow (Nat.le_refl _) (by simp)
  clear hown hgrow
  go_loopw [7, 8] (fun q i wr => ∃ (k : Nat) (c : Int) (ys : List Int), k ≤ xs.length ∧ i = .int .i64 k ∧ q = .int .i64 c ∧ (0 ≤ c ∧ c ≤ 1) ∧ SubTo xs us ys k c ∧ Blk wr w.heap.size .u8 ys ∧ Below w.heap.size w wr) (fun _ i _ => xs.length - (intOf i).toNat)
  case atStart => exact ⟨0, 0, _, Nat.zero_le _, rfl, rfl, ⟨by omega, by omega⟩, ⟨by simp, byt_zeros _, ⟨by omega, by omega⟩, rfl⟩, hB0, hN0⟩
  case round =>
    obtain ⟨k, c, ys, hk, rfl, rfl, hc, hA, hB, hN⟩ := hrel
    by_cases hlt : k < xs.length
    · have R := hA.step hlt
      have hl : ys.length = xs.length := hA.1
      have hS := fun v => hB.store (xs.length - 1 - k) v
      have hSn : ∀ v, Below w.heap.size w (wr.setCell ⟨w.heap.size, xs.length - 1 - k, none⟩ v) := fun v => hN.setCell (Nat.le_refl _) v
      have hcy : wr.cell? ⟨w.heap.size, xs.length - 1 - k, none⟩ = some (.int .u8 (ys.getD (xs.length - 1 - k) 0)) := hB.cell (by omega)
      have hfy := hB.free (xs.length - 1 - k)
      have d1 := dig_byt hx k
      have d2 := dig_byt hu k
      obtain ⟨p, hp⟩ : ∃ p : Nat, xs.length - 1 - k = p := ⟨_, rfl⟩
      rw [hp] at hcy hfy R
      simp only [hp] at hS hSn
      have p1 : (xs.length : Int) - 1 - (k : Int) = (p : Int) := by omega
      have p2 : (p : Int) < (xs.length : Int) := by omega
      have ha' := ha.up hN
      have hb' := hb.up hN
      have R' := hide R
      clear hB hN hA hl hp R
      go_wp2_with fail
      refine (l1Digit_any wr g a ca xs _ ha' hx (by omega) (by omega) (by omega)).mono ?_
      rintro e w' ⟨rfl, rfl⟩
      rw [Int.toNat_natCast]
      go_wp2_with fail
      refine (l1Digit_any w' g' b cb us _ hb' hu (by omega) (by omega) (by omega)).mono ?_
      rintro e w'' ⟨rfl, rfl⟩
      rw [Int.toNat_natCast]
      generalize dig xs k = x at *
      generalize dig us k = y at *
      by_cases hv : x - y - c < 0
      · have tv : decide (x - y - c < 0) = true := by simp; omega
        have m1 : (x - y - c + 256) % 256 = x - y - c + 256 := by omega
        go_wp2
        go_roundw
        case rel => exact ⟨k + 1, _, _, by omega, by go_num, rfl, ⟨by omega, by omega⟩, R'.out (x - y - c + 256) 1 (by omega) (by omega) (by omega) ⟨by omega, by omega⟩, hS _, hSn _⟩
        case measure => simp [intOf]; omega
      · have tv : decide (x - y - c < 0) = false := by simp; omega
        have m1 : (x - y - c) % 256 = x - y - c := by omega
        go_wp2
        go_roundw
        case rel => exact ⟨k + 1, _, _, by omega, by go_num, rfl, ⟨by omega, by omega⟩, R'.out (x - y - c) 0 (by omega) (by omega) (by omega) ⟨by omega, by omega⟩, hS _, hSn _⟩
        case measure => simp [intOf]; omega
    · obtain rfl : k = xs.length := by omega
      have V := hide (hA.done hm hle)
      have L := hide hA.1
      have hyb := hA.2.1
      clear hA
      go_wp2_with fail
      rw [← L.out]
      refine (l1Trim_any wr _ _ _ ys hB.own0.rd hyb (by simp) (Nat.le_refl _) (by rw [L.out]; omega)).mono ?_
      rintro e w2 ⟨zs, C, _, ⟨a1, c1, g1, rfl, o1, q1, q2, q3⟩, n2⟩
      rw [V.out] at C
      go_wp2
      go_ret
      exact ⟨zs, C, ⟨_, _, _, rfl, o1, q1, q2, by have := hN.size; omega⟩, nxt hN n2⟩
end Go.Proofs.YtkpomobhjkikeaaGreatDoor
namespace Go.Proofs.YtkpomobhjkikeaaGreatDoor
set_option maxRecDepth 100000
open Go Go.RowKit
end Go.Proofs.YtkpomobhjkikeaaGreatDoor
namespace Go.Proofs.YtkpomobhjkikeaaGreatDoor
set_option maxRecDepth 100000
open Go Go.RowKit
end Go.Proofs.YtkpomobhjkikeaaGreatDoor
namespace Go.Proofs.YtkpomobhjkikeaaGreatDoor
set_option maxRecDepth 100000
open Go Go.RowKit
def hasC (c : Int) (n : Nat) : Bool := decide ((n : Int) ≤ (4294967296 - c) * 64)
theorem hasC_any (w : World) (c : Int) (h0 : 0 ≤ c) (h1 : c ≤ 4294967295) (a : Option Addr) (n cp : Nat) : Calls Tryz.prog 59 #[.int .i64 c, .slice a n cp] w fun e w' => e = .returned (.bool (hasC c n)) ∧ w' = w := by
  have b1 : 0 ≤ 4294967296 - c := by omega
  have b2 : 4294967296 - c ≤ 4294967296 := by omega
  unfold hasC
  go_enter Tryz.func59, Tryz.ntmps59
  go_wp2
  go_ret
  refine ⟨?_, rfl⟩
  show Ending.returned (Value.bool (decide ((n : Int) ≤ (4294967295 - c + 1) * 64))) = _
  rw [show (4294967295 : Int) - c + 1 = 4294967296 - c by omega]
end Go.Proofs.YtkpomobhjkikeaaGreatDoor
namespace Go.Proofs.YtkpomobhjkikeaaGreatDoor
set_option maxRecDepth 100000
open Go Go.RowKit
def ssB (ys extra text : List Int) : List Int := otB ((stB (ys.set 12 0)).take 32) (smd extra text)
theorem ssB_len (ys extra text : List Int) : (ssB ys extra text).length = 16 := otB_len _ _
theorem ssB_byt (ys extra text : List Int) : Byt (ssB ys extra text) := otB_byt _ _
theorem byt_app {xs ys : List Int} (h : Byt xs) (k : Byt ys) : Byt (xs ++ ys) := fun i => by
  rw [List.getD_eq_getElem?_getD, List.getElem?_append]
  split
  · have := h i; rwa [List.getD_eq_getElem?_getD] at this
  · have := k (i - xs.length); rwa [List.getD_eq_getElem?_getD] at this
theorem smd_byt {extra text : List Int} (h : Byt extra) (k : Byt text) : Byt (smd extra text) :=
  byt_app (byt_app (byt_app (byt_app (byt_app h (zpad_byt _)) k) (zpad_byt _)) (len8_byt _)) (len8_byt _)
theorem smd_len (extra text : List Int) : 16 ≤ (smd extra text).length ∧ (smd extra text).length ≤ extra.length + text.length + 46 := by
  have h1 := zpad_len extra.length
  have h2 := zpad_len text.length
  unfold smd
  simp only [List.length_append, len8_len]
  omega
theorem lsts_six (w : World) (t : TypeId) (l0 l1 l2 l3 l4 l5 : Lst) : Lsts (w.alloc (.cells #[.slice l0.a l0.xs.length l0.c, .slice l1.a l1.xs.length l1.c, .slice l2.a l2.xs.length l2.c, .slice l3.a l3.xs.length l3.c, .slice l4.a l4.xs.length l4.c, .slice l5.a l5.xs.length l5.c] t)) w.heap.size [l0, l1, l2, l3, l4, l5] := fun j l hj => by
  have hl : j < 6 := by have := (List.getElem?_eq_some_iff.1 hj).1; simpa using this
  obtain rfl | rfl | rfl | rfl | rfl | rfl : j = 0 ∨ j = 1 ∨ j = 2 ∨ j = 3 ∨ j = 4 ∨ j = 5 := by omega
  all_goals
    simp only [List.getElem?_cons_zero, List.getElem?_cons_succ, Option.some.injEq] at hj
    subst hj
    simp [World.cell?_alloc_at]
theorem rd_take {w : World} {g : Nat} {ys : List Int} (h : Blk w g .u8 ys) (n : Nat) (hn : n ≤ ys.length) : Rd w g (some ⟨g, 0, none⟩) .u8 (ys.take n) :=
  (h.own (xs := ys.take n) 0 (by rw [List.length_take]; omega) (fun i hi => by
    rw [List.length_take] at hi
    rw [Nat.zero_add, List.getD_eq_getElem?_getD, List.getD_eq_getElem?_getD, List.getElem?_take, if_pos (by omega)])).rd
theorem byt_take {ys : List Int} (h : Byt ys) (n : Nat) : Byt (ys.take n) := by
  have := byt_part h 0 n
  rwa [List.drop_zero] at this
set_option maxRecDepth 100000 in
set_option maxHeartbeats 8000000 in
theorem sealSum_any (w : World) (ys : List Int) (hw : Ws ys) (hl : ys.length = 16) (ge : Nat) (ae : Option Addr) (ce : Nat) (ex : List Int) (he : Rd w ge ae .u8 ex) (eb : Byt ex) (en : ae = none → ce = 0)
    (gt : Nat) (at' : Option Addr) (ct : Nat) (tx : List Int) (ht : Rd w gt at' .u8 tx) (tb : Byt tx) (tn : at' = none → ct = 0) (hs : ex.length + tx.length ≤ 4000000) :
    Calls Tryz.prog 62 #[ag .u32 ys, .slice ae ex.length ce, .slice at' tx.length ct] w fun e w' => e = .returned (ag .u8 (ssB ys ex tx)) ∧ Below w.heap.size w w' := by
  have B0 := blk_alloc w .u32 101 ys
  have n0 : Below w.heap.size w (w.alloc (.cells (ys.map (Value.int .u32)).toArray 101)) := (Below.refl _ _).alloc (Nat.le_refl _) _
  have z0 : (w.alloc (.cells (ys.map (Value.int .u32)).toArray 101)).heap.size = w.heap.size + 1 := by simp
  have BA := fun W => hide (block_any W ys hw hl 0 ⟨by omega, by omega⟩)
  have L0 : Hid ((ys.map (Value.int .u32)).length = 16) := by show _ = _; rw [List.length_map]; exact hl
  have VY : Hid (ag .u32 ys = Value.agg (ys.map (Value.int .u32)).toArray) := rfl
  simp only [VY.out] at BA
  rw [VY.out]
  have SSB : Hid (ssB ys ex tx = otB ((stB (ys.set 12 0)).take 32) (smd ex tx)) := rfl
  have SL := hide (ssB_len ys ex tx)
  have KB := hide (stB_byt (ys.set 12 0))
  have KL := hide (stB_len (ys.set 12 0))
  generalize stB (ys.set 12 0) = ks at *
  obtain ⟨vy, hvy⟩ : ∃ v, v = ys.map (Value.int .u32) := ⟨_, rfl⟩
  have RGf : ∀ W, Blk W w.heap.size .u32 ys → W.rangeAt w.heap.size 0 vy := fun W h => by rw [hvy]; exact (Seg.blk h).range
  rw [← hvy] at B0 n0 z0 L0 ⊢
  simp only [← hvy] at BA
  clear hvy VY hw hl
  go_enter Tryz.func62, Tryz.ntmps62
  go_upto_region 1 with fail
  generalize w.alloc (.cells vy.toArray 101) = wa at *
  have B1 := blk_y16 wa 104
  have n1 : Below wa.heap.size wa (wa.alloc (.cells #[.int .u8 0, .int .u8 0, .int .u8 0, .int .u8 0, .int .u8 0, .int .u8 0, .int .u8 0, .int .u8 0, .int .u8 0, .int .u8 0, .int .u8 0, .int .u8 0, .int .u8 0, .int .u8 0, .int .u8 0, .int .u8 0] 104)) := (Below.refl _ _).alloc (Nat.le_refl _) _
  have z1 : (wa.alloc (.cells #[.int .u8 0, .int .u8 0, .int .u8 0, .int .u8 0, .int .u8 0, .int .u8 0, .int .u8 0, .int .u8 0, .int .u8 0, .int .u8 0, .int .u8 0, .int .u8 0, .int .u8 0, .int .u8 0, .int .u8 0, .int .u8 0] 104)).heap.size = w.heap.size + 1 + 1 := by simp [z0]
  generalize wa.alloc (.cells #[.int .u8 0, .int .u8 0, .int .u8 0, .int .u8 0, .int .u8 0, .int .u8 0, .int .u8 0, .int .u8 0, .int .u8 0, .int .u8 0, .int .u8 0, .int .u8 0, .int .u8 0, .int .u8 0, .int .u8 0, .int .u8 0] 104) = wb at *
  rw [z0] at B1
  have B0 := B0.up n1
  have N1 := nxt n0 n1
  have RG := RGf wb B0
  clear n0 n1 z0
  go_wp2_with (refine wpList_load_mid rfl 101 (.tmp 3) rfl w.heap.size 0 rfl vy (.array 16 99) RG undS rfl (by rw [L0.out]; exact infoS) ?_)
  refine (BA wb).out.mono ?_
  rintro e wc ⟨rfl, n2⟩
  have z2 := n2.size
  have B1 := B1.up n2
  have N2 := nxt N1 n2
  clear RG RGf BA N1 n2 B0
  have n3 : Below wc.heap.size wc (wc.alloc (.cells #[.int .u8 0, .int .u8 0, .int .u8 0, .int .u8 0, .int .u8 0, .int .u8 0, .int .u8 0, .int .u8 0, .int .u8 0, .int .u8 0, .int .u8 0, .int .u8 0, .int .u8 0, .int .u8 0, .int .u8 0, .int .u8 0, .int .u8 0, .int .u8 0, .int .u8 0, .int .u8 0, .int .u8 0, .int .u8 0, .int .u8 0, .int .u8 0, .int .u8 0, .int .u8 0, .int .u8 0, .int .u8 0, .int .u8 0, .int .u8 0, .int .u8 0, .int .u8 0, .int .u8 0, .int .u8 0, .int .u8 0, .int .u8 0, .int .u8 0, .int .u8 0, .int .u8 0, .int .u8 0, .int .u8 0, .int .u8 0, .int .u8 0, .int .u8 0, .int .u8 0, .int .u8 0, .int .u8 0, .int .u8 0, .int .u8 0, .int .u8 0, .int .u8 0, .int .u8 0, .int .u8 0, .int .u8 0, .int .u8 0, .int .u8 0, .int .u8 0, .int .u8 0, .int .u8 0, .int .u8 0, .int .u8 0, .int .u8 0, .int .u8 0, .int .u8 0] 143)) := (Below.refl _ _).alloc (Nat.le_refl _) _
  obtain ⟨t3, H3⟩ := blk_z64 wc 143
  have SR := blk_setRow (zs := ks) ⟨t3, H3⟩
  have OR := only_setRow (wc.alloc (.cells #[.int .u8 0, .int .u8 0, .int .u8 0, .int .u8 0, .int .u8 0, .int .u8 0, .int .u8 0, .int .u8 0, .int .u8 0, .int .u8 0, .int .u8 0, .int .u8 0, .int .u8 0, .int .u8 0, .int .u8 0, .int .u8 0, .int .u8 0, .int .u8 0, .int .u8 0, .int .u8 0, .int .u8 0, .int .u8 0, .int .u8 0, .int .u8 0, .int .u8 0, .int .u8 0, .int .u8 0, .int .u8 0, .int .u8 0, .int .u8 0, .int .u8 0, .int .u8 0, .int .u8 0, .int .u8 0, .int .u8 0, .int .u8 0, .int .u8 0, .int .u8 0, .int .u8 0, .int .u8 0, .int .u8 0, .int .u8 0, .int .u8 0, .int .u8 0, .int .u8 0, .int .u8 0, .int .u8 0, .int .u8 0, .int .u8 0, .int .u8 0, .int .u8 0, .int .u8 0, .int .u8 0, .int .u8 0, .int .u8 0, .int .u8 0, .int .u8 0, .int .u8 0, .int .u8 0, .int .u8 0, .int .u8 0, .int .u8 0, .int .u8 0, .int .u8 0] 143)) wc.heap.size (ks.map (Value.int .u8)).toArray
  have L3 : Hid ((ks.map (Value.int .u8)).length = 64) := by show _ = _; rw [List.length_map]; exact KL.out
  have O3 := one_ints .u8 ks
  have V3 : Hid (ag .u8 ks = Value.agg (ks.map (Value.int .u8)).toArray) := rfl
  rw [V3.out]
  obtain ⟨v3, hv3⟩ : ∃ v, v = ks.map (Value.int .u8) := ⟨_, rfl⟩
  rw [← hv3] at SR OR L3 O3 ⊢
  have z3 : (wc.alloc (.cells #[.int .u8 0, .int .u8 0, .int .u8 0, .int .u8 0, .int .u8 0, .int .u8 0, .int .u8 0, .int .u8 0, .int .u8 0, .int .u8 0, .int .u8 0, .int .u8 0, .int .u8 0, .int .u8 0, .int .u8 0, .int .u8 0, .int .u8 0, .int .u8 0, .int .u8 0, .int .u8 0, .int .u8 0, .int .u8 0, .int .u8 0, .int .u8 0, .int .u8 0, .int .u8 0, .int .u8 0, .int .u8 0, .int .u8 0, .int .u8 0, .int .u8 0, .int .u8 0, .int .u8 0, .int .u8 0, .int .u8 0, .int .u8 0, .int .u8 0, .int .u8 0, .int .u8 0, .int .u8 0, .int .u8 0, .int .u8 0, .int .u8 0, .int .u8 0, .int .u8 0, .int .u8 0, .int .u8 0, .int .u8 0, .int .u8 0, .int .u8 0, .int .u8 0, .int .u8 0, .int .u8 0, .int .u8 0, .int .u8 0, .int .u8 0, .int .u8 0, .int .u8 0, .int .u8 0, .int .u8 0, .int .u8 0, .int .u8 0, .int .u8 0, .int .u8 0] 143)).heap.size = wc.heap.size + 1 := by simp
  have B1 := (B1.up n3).of_block (OR.block (w.heap.size + 1) (by omega))
  have N3 := N2.trans ((n3.mono N2.size).trans (OR.below (B := w.heap.size) (by have := N2.size; omega)))
  have z4 := OR.size.trans z3
  clear hv3 V3 N2
  go_upto_region 2 with (refine wpList_store_row rfl 143 (.tmp 7) (.tmp 10) rfl wc.heap.size v3.toArray rfl rfl t3 _ H3 (by rw [List.size_toArray, L3.out]; exact infoB) (by rw [List.size_toArray, List.size_toArray, L3.out]; rfl) O3 ?_)
  generalize (wc.alloc (.cells #[.int .u8 0, .int .u8 0, .int .u8 0, .int .u8 0, .int .u8 0, .int .u8 0, .int .u8 0, .int .u8 0, .int .u8 0, .int .u8 0, .int .u8 0, .int .u8 0, .int .u8 0, .int .u8 0, .int .u8 0, .int .u8 0, .int .u8 0, .int .u8 0, .int .u8 0, .int .u8 0, .int .u8 0, .int .u8 0, .int .u8 0, .int .u8 0, .int .u8 0, .int .u8 0, .int .u8 0, .int .u8 0, .int .u8 0, .int .u8 0, .int .u8 0, .int .u8 0, .int .u8 0, .int .u8 0, .int .u8 0, .int .u8 0, .int .u8 0, .int .u8 0, .int .u8 0, .int .u8 0, .int .u8 0, .int .u8 0, .int .u8 0, .int .u8 0, .int .u8 0, .int .u8 0, .int .u8 0, .int .u8 0, .int .u8 0, .int .u8 0, .int .u8 0, .int .u8 0, .int .u8 0, .int .u8 0, .int .u8 0, .int .u8 0, .int .u8 0, .int .u8 0, .int .u8 0, .int .u8 0, .int .u8 0, .int .u8 0, .int .u8 0, .int .u8 0] 143)).setRow wc.heap.size v3.toArray = wd at *
  generalize hq : wc.heap.size = q at *
  clear n3 OR H3 O3 L3 z3 hq
  have he := he.up N3
  have ht := ht.up N3
  have eL : ex.length ≤ 4194304 := by omega
  have tL : tx.length ≤ 4194304 := by omega
  go_wp2_with fail
  refine (zerosBehind_any wd ae ex.length ce eL).mono ?_
  rintro e w4 ⟨⟨a4, c4, g4, rfl, o4, p4, q4, r4⟩, n4⟩
  have he := he.up n4
  have ht := ht.up n4
  have SR := SR.up n4
  have B1 := B1.up n4
  have N4 := nxt N3 n4
  clear N3 n4
  go_wp2_with fail
  refine (zerosBehind_any w4 at' tx.length ct tL).mono ?_
  rintro e w5 ⟨⟨a5, c5, g5, rfl, o5, p5, q5, r5'⟩, n5⟩
  have he := he.up n5
  have ht := ht.up n5
  have SR := SR.up n5
  have B1 := B1.up n5
  have N5 := nxt N4 n5
  have o4 := o4.up n5
  clear N4 n5
  go_wp2_with fail
  refine (lengthBytes_any w5 ae ex.length ce eL).mono ?_
  rintro e w6 ⟨⟨a6, c6, g6, rfl, o6, p6, q6, r6⟩, n6⟩
  have he := he.up n6
  have ht := ht.up n6
  have SR := SR.up n6
  have B1 := B1.up n6
  have N6 := nxt N5 n6
  have o4 := o4.up n6
  have o5 := o5.up n6
  clear N5 n6
  go_wp2_with fail
  refine (lengthBytes_any w6 at' tx.length ct tL).mono ?_
  rintro e w7 ⟨⟨a7, c7, g7, rfl, o7, p7, q7, r7⟩, n7⟩
  have he := he.up n7
  have ht := ht.up n7
  have SR := SR.up n7
  have B1 := B1.up n7
  have N7 := nxt N6 n7
  have o4 := o4.up n7
  have o5 := o5.up n7
  have o6 := o6.up n7
  clear N6 n7
  obtain ⟨l0, hl0⟩ : ∃ l : Lst, l = ⟨ge, ae, ce, ex⟩ := ⟨_, rfl⟩
  obtain ⟨l1, hl1⟩ : ∃ l : Lst, l = ⟨g4, a4, c4, zpad ex.length⟩ := ⟨_, rfl⟩
  obtain ⟨l2, hl2⟩ : ∃ l : Lst, l = ⟨gt, at', ct, tx⟩ := ⟨_, rfl⟩
  obtain ⟨l3, hl3⟩ : ∃ l : Lst, l = ⟨g5, a5, c5, zpad tx.length⟩ := ⟨_, rfl⟩
  obtain ⟨l4, hl4⟩ : ∃ l : Lst, l = ⟨g6, a6, c6, len8 ex.length⟩ := ⟨_, rfl⟩
  obtain ⟨l5, hl5⟩ : ∃ l : Lst, l = ⟨g7, a7, c7, len8 tx.length⟩ := ⟨_, rfl⟩
  have CT : Hid (cat [l0, l1, l2, l3, l4, l5] = smd ex tx) := by
    show _ = _
    unfold cat smd
    rw [hl0, hl1, hl2, hl3, hl4, hl5]
    simp
  have LS := fun t => lsts_six w7 t l0 l1 l2 l3 l4 l5
  have LR : ∀ W, Below w7.heap.size w7 W → ∀ l ∈ [l0, l1, l2, l3, l4, l5], Rd W l.g l.a .u8 l.xs ∧ (l.a = none → l.c = 0) := fun W n l hm => by
    simp only [List.mem_cons, List.not_mem_nil, or_false] at hm
    rcases hm with rfl | rfl | rfl | rfl | rfl | rfl
    · rw [hl0]; exact ⟨he.up n, en⟩
    · rw [hl1]; exact ⟨(o4.up n).rd, p4⟩
    · rw [hl2]; exact ⟨ht.up n, tn⟩
    · rw [hl3]; exact ⟨(o5.up n).rd, p5⟩
    · rw [hl4]; exact ⟨(o6.up n).rd, p6⟩
    · rw [hl5]; exact ⟨(o7.up n).rd, p7⟩
  have sl := smd_len ex tx
  have CC := fun W b (h1 : Lsts W b [l0, l1, l2, l3, l4, l5]) (h2 : Below w7.heap.size w7 W) => hide (concat_any W b 6 6 [l0, l1, l2, l3, l4, l5] rfl (by omega) h1 (LR W h2) (by rw [CT.out]; omega) (by rw [CT.out]; omega))
  simp only [CT.out] at CC
  have SMB := hide (smd_byt eb tb)
  have SML : Hid ((smd ex tx).length ≤ 4194304) := by show _ ≤ _; omega
  have E0 : Hid (Value.slice ae ex.length ce = Value.slice l0.a l0.xs.length l0.c) := by show _ = _; rw [hl0]
  have E1 : Hid (Value.slice a4 (zpad ex.length).length c4 = Value.slice l1.a l1.xs.length l1.c) := by show _ = _; rw [hl1]
  have E2 : Hid (Value.slice at' tx.length ct = Value.slice l2.a l2.xs.length l2.c) := by show _ = _; rw [hl2]
  have E3 : Hid (Value.slice a5 (zpad tx.length).length c5 = Value.slice l3.a l3.xs.length l3.c) := by show _ = _; rw [hl3]
  have E4 : Hid (Value.slice a6 (len8 ex.length).length c6 = Value.slice l4.a l4.xs.length l4.c) := by show _ = _; rw [hl4]
  have E5 : Hid (Value.slice a7 (len8 tx.length).length c7 = Value.slice l5.a l5.xs.length l5.c) := by show _ = _; rw [hl5]
  have LS := LS 22
  have n8 : Below w7.heap.size w7 (w7.alloc (.cells #[.slice ae ex.length ce, .slice a4 (zpad ex.length).length c4, .slice at' tx.length ct, .slice a5 (zpad tx.length).length c5, .slice a6 (len8 ex.length).length c6, .slice a7 (len8 tx.length).length c7] 22)) := (Below.refl _ _).alloc (Nat.le_refl _) _
  rw [← E0.out, ← E1.out, ← E2.out, ← E3.out, ← E4.out, ← E5.out] at LS
  clear hl0 hl1 hl2 hl3 hl4 hl5 LR CT sl o4 o5 o6 o7 E0 E1 E2 E3 E4 E5
  go_wp2_with fail
  generalize w7.alloc (.cells #[.slice ae ex.length ce, .slice a4 (zpad ex.length).length c4, .slice at' tx.length ct, .slice a5 (zpad tx.length).length c5, .slice a6 (len8 ex.length).length c6, .slice a7 (len8 tx.length).length c7] 22) = w8 at *
  refine (CC w8 w7.heap.size LS n8).out.mono ?_
  rintro e w9 ⟨⟨a9, c9, g9, rfl, o9, p9, q9, r9⟩, n9⟩
  have SR := (SR.up n8).up n9
  have B1 := (B1.up n8).up n9
  have N9 := nxt (nxt N7 n8) n9
  clear CC LS n8 n9 N7 he ht
  have TK : Hid ((ks.take 32).length = 32) := by show _ = _; rw [List.length_take, KL.out]; omega
  have OS := hide (oneTimeSum_any w9 q (some ⟨q, 0, none⟩) 64 (ks.take 32) (rd_take SR 32 (by rw [KL.out]; omega)) (byt_take KB.out 32) TK.out g9 a9 c9 (smd ex tx) o9.rd SMB.out q9 SML.out)
  rw [TK.out, ← SSB.out] at OS
  have L6 : Hid (((ssB ys ex tx).map (Value.int .u8)).length = 16) := by show _ = _; rw [List.length_map]; exact SL.out
  have O6 := one_ints .u8 (ssB ys ex tx)
  have V6 : Hid (ag .u8 (ssB ys ex tx) = Value.agg ((ssB ys ex tx).map (Value.int .u8)).toArray) := rfl
  go_wp2_with fail
  refine OS.out.mono ?_
  rintro e wy ⟨rfl, ny⟩
  obtain ⟨t7, H7⟩ := B1.up ny
  have N10 := nxt N9 ny
  have SR7 := setRow_heap wy (w.heap.size + 1) _ ((ssB ys ex tx).map (Value.int .u8)).toArray _ _ H7
  have SN7 : Below w.heap.size w (wy.setRow (w.heap.size + 1) ((ssB ys ex tx).map (Value.int .u8)).toArray) := N10.trans ((only_setRow wy (w.heap.size + 1) _).below (by omega))
  rw [V6.out]
  obtain ⟨vs', hv⟩ : ∃ v, v = (ssB ys ex tx).map (Value.int .u8) := ⟨_, rfl⟩
  rw [← hv] at L6 O6 SR7 SN7 V6 ⊢
  clear hv OS
  go_wp2_with (refine wpList_store_row rfl 104 (.tmp 6) (.tmp 25) rfl (w.heap.size + 1) vs'.toArray rfl rfl t7 _ H7 (by rw [List.size_toArray, L6.out]; exact infoP16) (by rw [List.size_toArray, List.size_toArray, L6.out]; rfl) O6 ?_)
  exact bodyPost_ret (v := .agg vs'.toArray) (results_cell_row Tryz.results62 _ _ (w.heap.size + 1) t7 vs'.toArray (0, 0) (.array 16 5) rfl SR7 undP16 rfl (by rw [List.size_toArray, L6.out]; exact infoP16)) rfl ⟨by rw [V6.out], SN7⟩
end Go.Proofs.YtkpomobhjkikeaaGreatDoor
namespace Go.Proofs.YtkpomobhjkikeaaGreatDoor
set_option maxRecDepth 100000
open Go Go.RowKit Go.Shelf
attribute [local go_sem] Oper.semAt_some
def B5 (w : World) (g : Nat) (ys : List Int) : Prop := w.heap[g]? = some (.cells (ys.map (Value.int .u8)).toArray 5 (0, 0))
theorem B5.blk {w : World} {g : Nat} {ys : List Int} (h : B5 w g ys) : Blk w g .u8 ys := ⟨5, h⟩
theorem B5.lt {w : World} {g : Nat} {ys : List Int} (h : B5 w g ys) : g < w.heap.size := h.blk.lt
theorem B5.cell {w : World} {g : Nat} {ys : List Int} (h : B5 w g ys) {i : Nat} (hi : i < ys.length) : w.cell? ⟨g, i, none⟩ = some (.int .u8 (ys.getD i 0)) := h.blk.cell hi
theorem B5.free {w : World} {g : Nat} {ys : List Int} (h : B5 w g ys) (i : Nat) : w.frozen? ⟨g, i, none⟩ = false := h.blk.free i
theorem B5.store {w : World} {g : Nat} {ys : List Int} (h : B5 w g ys) (i : Nat) (z : Int) : B5 (w.setCell ⟨g, i, none⟩ (.int .u8 z)) g (ys.set i z) := by
  unfold B5
  rw [heap_setCell_same w g i _ 5 _ h]
  simp [List.map_set]
theorem B5.of_block {w w' : World} {g : Nat} {ys : List Int} (h : B5 w g ys) (hb : w'.heap[g]? = w.heap[g]?) : B5 w' g ys := hb.trans h
theorem B5.up {w w' : World} {g : Nat} {ys : List Int} (h : B5 w g ys) (hb : Below w.heap.size w w') : B5 w' g ys := h.of_block (hb.block g h.lt)
theorem B5.of_made {w : World} {base g n : Nat} (h : w.ownsRow base 5 1 (.slice (some ⟨g, 0, none⟩) n n) n (madeCells (Value.int .u8 0).cells (n * 1)).toList) : B5 w g (List.replicate n 0) := by
  obtain ⟨e, hb⟩ := Blk.of_made h
  rcases h.2 with ⟨h', _⟩ | ⟨g', cap', cur, h', _, hg, _⟩
  · simp at h'
  · simp only [Value.slice.injEq, Option.some.injEq, Addr.mk.injEq, and_true, true_and] at h'
    obtain ⟨rfl, rfl⟩ := h'
    have := hg.symm.trans hb
    simp only [Option.some.injEq, Obj.cells.injEq, and_true] at this
    obtain ⟨rfl, rfl⟩ := this
    exact hg
theorem B5.row {w : World} {g B : Nat} {ys : List Int} (h : B5 w g ys) (hB : B ≤ g) (hl : ys.length ≤ 4194304) : RowB w B (.slice (some ⟨g, 0, none⟩) ys.length ys.length) ys := by
  refine ⟨by simp, .inr ⟨g, ys.length, _, rfl, hB, h, Nat.le_refl _, by unfold maxLen; omega, by simp, ?_⟩⟩
  show List.take (ys.length * 1) (List.map (Value.int .u8) ys) = _
  exact List.take_of_length_le (by simp)
theorem b5_ofK {W W' : World} {row : Option Nat} {g : Nat} {xs : List Int} (h : B5 W g xs) (hg : W.grownBy W' row) (hr : ∀ r, row = some r → ∃ o : Obj, W.heap[r]? = some o ∧ o.isCells = false) : B5 W' g xs := (grownBy_keeps_cells hg hr h rfl).trans h
theorem copy_b5 {P : Program} (w : World) (ty rt e : TypeId) (hu : P.underlying ty = some (.slice e)) (hsz : (P.info? e).map (·.size) = some 1) {g : Nat} {zs : List Int} (hB : B5 w g zs)
    (gs : Nat) (sp : Option Addr) (ys : List Int) (hr : Rd w gs sp .u8 ys) (hl : ys.length ≤ zs.length) (dc sc : Nat) :
    ∃ w2, (Builtin.copy_ #[ty, ty] rt #[.slice (some ⟨g, 0, none⟩) zs.length dc, .slice sp ys.length sc]).run P w = .ok (goInt ys.length) w2 ∧ B5 w2 g (ys ++ zs.drop ys.length) ∧ Only g w w2 := by
  by_cases h0 : 0 < ys.length
  · obtain ⟨off, rfl, hc⟩ := hr h0
    have hrun := run_copy_row (P := P) w ty ty rt e g 0 zs.length dc ⟨gs, off, none⟩ ys.length sc _ 5 (ys.map (Value.int .u8)) hu hsz hB (by rw [List.length_map]; exact (Nat.min_eq_left hl).symm)
      (fun j v hj => by
        have hjl : j < ys.length := by
          have := (List.getElem?_eq_some_iff.1 hj).1
          simpa using this
        rw [Go.Proofs.YtkpomobhjkikeaaGreatDoor.add_mid, hc j hjl]
        simpa [hjl] using hj) (by simp; omega) (oneCells _ _)
    rw [List.length_map] at hrun
    refine ⟨_, hrun, ?_, ⟨rfl, rfl, rfl, by simp, fun i hi => setRow_other w g i _ hi⟩⟩
    unfold B5
    rw [setRow_heap w g _ _ 5 _ hB]
    simp
  · obtain rfl : ys = [] := List.eq_nil_of_length_eq_zero (by omega)
    exact ⟨w, run_copy_none (P := P) w ty ty rt e _ _ _ _ _ _ hu hsz (by simp), by simpa using hB, Only.refl _ _⟩
structure LyJ (w : World) (ys : List Int) (c : Int) (data : List Int) (Z : Nat) (pre : List (PcN64 data.length)) (W : World) : Prop where
  told : ∃ zs : List Int, zs.length = data.length ∧ B5 W (w.heap.size + 1 + 1) zs ∧ (pre.map (·.1) = List.range pre.length → zs = xoG ys c data pre.length)
  wds : Blk W w.heap.size .u32 ys
  num : W.cell? ⟨w.heap.size + 1, 0, none⟩ = some (.int .i64 (c + (pre.length : Int)))
  numF : W.frozen? ⟨w.heap.size + 1, 0, none⟩ = false
  siz : Z ≤ W.heap.size
  bel : Below w.heap.size w W
theorem lyJ_own {w : World} {ys : List Int} {c : Int} {data : List Int} {Z B : Nat} (hB : w.heap.size ≤ B) : OwnFrom B (LyJ w ys c data Z) := by
  intro s W W' row h hg hr
  have hr' : ∀ r, row = some r → ∃ o : Obj, W.heap[r]? = some o ∧ o.isCells = false := fun r e => (hr r e).2
  obtain ⟨zs, z1, z2, z3⟩ := h.told
  refine ⟨⟨zs, z1, b5_ofK z2 hg hr', z3⟩, blk_ofK h.wds hg hr', cell_kept h.num hg hr', (frozen_kept h.num hg hr').trans h.numF, Nat.le_trans h.siz hg.size, ?_⟩
  exact h.bel.grown hg h.bel.size (fun k e => Nat.le_trans hB (hr k e).1)
set_option maxRecDepth 100000 in
set_option maxHeartbeats 8000000 in
theorem layOverR_any (w : World) (ys : List Int) (hw : Ws ys) (yl : ys.length = 16) (ct : Int) (h0 : 0 ≤ ct) (g : Nat) (a : Option Addr) (c : Nat) (data : List Int) (hr : Rd w g a .u8 data) (hn : data.length ≤ 4194304) (h1 : ct + (((data.length + 63) / 64 : Nat) : Int) ≤ 4294967296) :
    Calls Tryz.prog 61 #[ag .u32 ys, .int .i64 ct, .slice a data.length c] w fun e w' => (∃ v, e = .returned v ∧ RowB w' w.heap.size v (xoG ys ct data ((data.length + 63) / 64))) ∧ Below w.heap.size w w' := by
  obtain ⟨i0, hi0, hz0, hz1, hz2⟩ := info_parts Tryz.info5
  have HYL := hide yl
  have VY : Hid (ag .u32 ys = Value.agg (ys.map (Value.int .u32)).toArray) := rfl
  rw [VY.out]
  have B0 := blk_alloc w .u32 101 ys
  have n0 : Below w.heap.size w (w.alloc (.cells (ys.map (Value.int .u32)).toArray 101)) := (Below.refl _ _).alloc (Nat.le_refl _) _
  have z0 : (w.alloc (.cells (ys.map (Value.int .u32)).toArray 101)).heap.size = w.heap.size + 1 := by simp
  have L16 : Hid ((ys.map (Value.int .u32)).length = 16) := by show _ = _; rw [List.length_map]; exact yl
  obtain ⟨vs, hvs⟩ : ∃ vs, vs = ys.map (Value.int .u32) := ⟨_, rfl⟩
  rw [← hvs] at B0 n0 z0 L16 ⊢
  have HVS := hide hvs
  clear hvs yl
  refine (callsIn_wide (n := 5)).1 (callsIn_of_wp_marks Tryz.func61 rfl trivial ?_ rfl)
  refine wpIn_wide.2 ?_
  simp only [Tryz.ntmps61, List.size_toArray, List.length_cons, List.length_nil, Nat.reduceAdd, Nat.reduceSub, Array.replicate_succ, Array.replicate_zero, List.push_toArray, List.append_toArray, List.nil_append, List.cons_append]
  go_upto_region 1 with fail
  generalize w.alloc (.cells vs.toArray 101) = w1 at *
  have n2 : Below w1.heap.size w1 (w1.alloc (.cells #[.int .i64 ct] 2)) := (Below.refl _ _).alloc (Nat.le_refl _) _
  have C2 : (w1.alloc (.cells #[.int .i64 ct] 2)).cell? ⟨w1.heap.size, 0, none⟩ = some (.int .i64 ct) := by simp [World.cell?_alloc_at]
  have F2 : (w1.alloc (.cells #[.int .i64 ct] 2)).frozen? ⟨w1.heap.size, 0, none⟩ = false := by simp [World.frozen?_alloc_at]
  have z2 : (w1.alloc (.cells #[.int .i64 ct] 2)).heap.size = w1.heap.size + 1 := by simp
  generalize w1.alloc (.cells #[.int .i64 ct] 2) = w2 at *
  rw [z0] at C2 F2 z2
  have B0 := B0.up n2
  have N2 := nxt n0 n2
  clear n0 n2 z0
  have dn : (data.length : Int) ≤ 4194304 := by omega
  go_upto_region 2 with (at_make; refine wpList_make_full _ rfl _ _ 22 rfl w2.heap.size 5 i0 (.int .u8 0) 1 Tryz.underlying22 hi0 hz0 hz1 .i64 .i64 _ _ data.length rfl rfl rfl rfl (by rw [hz2]; omega) (by unfold maxLen; omega) (Nat.le_refl _) ?_; intro w3 hown hgrow)
  have B3 := B5.of_made hown
  have n3 : Below w2.heap.size w2 w3 := (Below.refl _ _).grown hgrow (Nat.le_refl _) (by simp)
  clear hown hgrow
  rw [z2] at B3
  have g3 := B3.lt
  have B0 := B0.up n3
  have C2 := (World.cell?_of_block (a := ⟨w.heap.size + 1, 0, none⟩) (n3.block (w.heap.size + 1) (by omega))).trans C2
  have F2 := (World.frozen?_of_block (a := ⟨w.heap.size + 1, 0, none⟩) (n3.block (w.heap.size + 1) (by omega))).trans F2
  have N3 := nxt N2 n3
  obtain ⟨w4, hcopy, B4, O4⟩ := copy_b5 (P := Tryz.prog) w3 22 3 5 Tryz.underlying22 rowU8 B3 g a data (hr.up N3) (by rw [List.length_replicate]; exact Nat.le_refl _) data.length c
  rw [List.length_replicate] at hcopy
  have ed : data ++ (List.replicate data.length (0 : Int)).drop data.length = data := by simp
  rw [ed] at B4
  have B0 := B0.of_block (O4.block w.heap.size (by omega))
  have C2 := (World.cell?_of_block (a := ⟨w.heap.size + 1, 0, none⟩) (O4.block (w.heap.size + 1) (by omega))).trans C2
  have F2 := (World.frozen?_of_block (a := ⟨w.heap.size + 1, 0, none⟩) (O4.block (w.heap.size + 1) (by omega))).trans F2
  have N4 := N3.trans (O4.below (B := w.heap.size) (by omega))
  have z4 := O4.size
  clear n3 N2 N3 B3 O4 ed z2
  go_wp2_with (at_builtin; refine wpList_copy_run rfl (.tmp 14) (.tmp 15) 22 22 rfl _ _ rfl rfl _ _ hcopy ?_)
  refine (chunk_any64 w4 (some ⟨w.heap.size + 1 + 1, 0, none⟩) data.length data.length).mono ?_
  rintro e w6 ⟨rfl, rfl⟩
  have n5 : Below w4.heap.size w4 (w4.alloc (.cells #[.slice (some ⟨w.heap.size + 1 + 1, 0, none⟩) data.length data.length] 22)) := (Below.refl _ _).alloc (Nat.le_refl _) _
  have C5 : (w4.alloc (.cells #[.slice (some ⟨w.heap.size + 1 + 1, 0, none⟩) data.length data.length] 22)).cell? ⟨w4.heap.size, 0, none⟩ = some (.slice (some ⟨w.heap.size + 1 + 1, 0, none⟩) data.length data.length) := by simp [World.cell?_alloc_at]
  have z5 : (w4.alloc (.cells #[.slice (some ⟨w.heap.size + 1 + 1, 0, none⟩) data.length data.length] 22)).heap.size = w4.heap.size + 1 := by simp
  generalize w4.alloc (.cells #[.slice (some ⟨w.heap.size + 1 + 1, 0, none⟩) data.length data.length] 22) = w5 at *
  have n6 : Below w5.heap.size w5 (w5.alloc (.cells #[.int .i64 64] 3)) := (Below.refl _ _).alloc (Nat.le_refl _) _
  have C6 : (w5.alloc (.cells #[.int .i64 64] 3)).cell? ⟨w5.heap.size, 0, none⟩ = some (.int .i64 64) := by simp [World.cell?_alloc_at]
  have z6 : (w5.alloc (.cells #[.int .i64 64] 3)).heap.size = w5.heap.size + 1 := by simp
  generalize w5.alloc (.cells #[.int .i64 64] 3) = w6 at *
  generalize hq : w4.heap.size = q at *
  rw [z5] at C6 z6
  have yq : w.heap.size + 1 + 1 < q := by omega
  have n56 : Below q w4 w6 := n5.trans (n6.mono (by omega))
  have N6 : Below w.heap.size w w6 := N4.trans (n56.mono (by omega))
  have I0 : LyJ w ys ct data (q + 2) [] w6 :=
    ⟨⟨data, rfl, B4.of_block (n56.block (w.heap.size + 1 + 1) (by omega)), fun _ => rfl⟩, B0.of_block (n56.block w.heap.size (by omega)), by have := (World.cell?_of_block (a := ⟨w.heap.size + 1, 0, none⟩) (n56.block (w.heap.size + 1) (by omega))).trans C2; simpa using this, (World.frozen?_of_block (a := ⟨w.heap.size + 1, 0, none⟩) (n56.block (w.heap.size + 1) (by omega))).trans F2, by omega, N6⟩
  have D5 : w6.cell? ⟨q, 0, none⟩ = some (.slice (some ⟨w.heap.size + 1 + 1, 0, none⟩) data.length data.length) := (World.cell?_of_block (a := ⟨q, 0, none⟩) (n6.block q (by omega))).trans C5
  have S6 : Hid (w6.heap.size = q + 1 + 1) := z6
  have YQ := hide yq
  clear n5 n6 n56 C2 C5 F2 z5 z6 N4 B0 B4 hq hcopy g3 z4
  go_wp2
  refine (wpIn_wide (n := 5)).1 (wpIn_rangeFunc_ownG (n := 5) rfl (by omega) (gf := 34) (lb := #[.pointer (some ⟨q, 0, none⟩), .pointer (some ⟨q + 1, 0, none⟩)]) rfl trivial (enters_of Tryz.func34 (by kernel_rfl) rfl)
    (chunk_stops64 4 (by omega) q (q + 1) (w.heap.size + 1 + 1) 0 data.length data.length (some ⟨w.heap.size + 1 + 1, 0, none⟩) (fun _ => rfl) (Nat.le_refl _) hn w6 (by have := S6.out; omega) (by have := S6.out; omega) D5 C6) KpB.t (KpB.b (by have := S6.out; omega) (by have := S6.out; omega)) (Below.refl _ _) (fun _ => rfl)
    (LyJ w ys ct data (q + 2)) (fun _ _ _ => False) (lyJ_own (by have := N6.size; omega)) (fun _ _ _ _ _ h _ _ => h) I0
    (fun x => { tmps := #[.agg vs.toArray, .int .i64 ct, .slice a data.length c, .pointer (some ⟨w.heap.size, 0, none⟩), .pointer (some ⟨w.heap.size + 1, 0, none⟩), undef, .slice none 0 0, .slice (some ⟨w.heap.size + 1 + 1, 0, none⟩) data.length data.length, .slice (some ⟨w.heap.size + 1 + 1, 64 * x.1, none⟩) (pcL64 data.length x.1) (pcL64 data.length x.1), undef, undef, .slice a data.length c, .int .i64 (data.length : Int), .slice (some ⟨w.heap.size + 1 + 1, 0, none⟩) data.length data.length, .slice (some ⟨w.heap.size + 1 + 1, 0, none⟩) data.length data.length, .slice a data.length c, (.int .i64 (data.length : Int)), .slice (some ⟨w.heap.size + 1 + 1, 0, none⟩) data.length data.length, Value.func (Fn.func 34) #[] #[Value.pointer (some ⟨q, 0, none⟩), Value.pointer (some ⟨q + 1, 0, none⟩)], .slice (some ⟨w.heap.size + 1 + 1, 64 * x.1, none⟩) (pcL64 data.length x.1) (pcL64 data.length x.1), undef, undef, undef, undef, undef, undef, undef, undef, undef, undef, undef, undef, undef, undef, undef, undef, undef, undef, undef, undef, undef], defers := [] }) ?assign ?body ?done ?stop)
  case assign =>
    intro l x W K hK
    unfold pcE64
    gi_wp2
    exact hK
  case body =>
    rintro l pre x W hI hlen
    obtain ⟨zs, zl, zB, z3⟩ := hI.told
    have hs := hI.wds
    have im := hI.num
    have nf := hI.numF
    have sz := hI.siz
    have yq := YQ.out
    have be := hI.bel
    clear hI
    have xl := x.2
    obtain ⟨pe, hpe⟩ : ∃ e, e = pcL64 data.length x.1 := ⟨_, rfl⟩
    have pe0 : 0 < pe := by rw [hpe]; unfold pcL64; omega
    have pe1 : pe ≤ 64 := by rw [hpe]; unfold pcL64; omega
    have pe2 : 64 * x.1 + pe ≤ data.length := by rw [hpe]; unfold pcL64; omega
    rw [← hpe]
    obtain ⟨cv, hcv⟩ : ∃ v, v = ct + (pre.length : Int) := ⟨_, rfl⟩
    rw [← hcv] at im
    have cw : W4 cv := ⟨by omega, by omega⟩
    have BA := fun u => hide (block_any u ys hw HYL.out cv cw)
    simp only [VY.out, ← HVS.out] at BA
    have RG := (Seg.blk hs).range
    rw [← HVS.out] at RG
    have L64 : Hid (((stB (ys.set 12 cv)).map (Value.int .u8)).length = 64) := by show _ = _; rw [List.length_map]; exact stB_len _
    have BL : Hid ((stB (ys.set 12 cv)).length = 64) := stB_len _
    have O64 := one_ints .u8 (stB (ys.set 12 cv))
    have V64 : Hid (ag .u8 (stB (ys.set 12 cv)) = Value.agg ((stB (ys.set 12 cv)).map (Value.int .u8)).toArray) := rfl
    simp only [V64.out] at BA
    obtain ⟨Bk, hBk⟩ : ∃ b, b = stB (ys.set 12 cv) := ⟨_, rfl⟩
    rw [← hBk] at L64 BL O64
    simp only [← hBk] at BA
    have HBK := hide hBk
    have HCV := hide hcv
    have HPE := hide hpe
    have cvb : 0 ≤ cv ∧ cv < 4294967296 := cw
    clear hBk hcv hpe V64 cw
    obtain ⟨cv0, cv1⟩ := cvb
    gi_wp2_with (refine listIn_load rfl 101 (.tmp 3) rfl w.heap.size 0 rfl vs (.array 16 99) RG undS rfl (by rw [L16.out]; exact infoS) ?_)
    refine ⟨trivial, (CallsIn.inRound l (callsIn_wide.2 (BA W).out)).mono ?_⟩
    rintro e W3 ⟨rfl, n3⟩
    have n4 : Below W3.heap.size W3 (W3.alloc (.cells #[.int .u8 0, .int .u8 0, .int .u8 0, .int .u8 0, .int .u8 0, .int .u8 0, .int .u8 0, .int .u8 0, .int .u8 0, .int .u8 0, .int .u8 0, .int .u8 0, .int .u8 0, .int .u8 0, .int .u8 0, .int .u8 0, .int .u8 0, .int .u8 0, .int .u8 0, .int .u8 0, .int .u8 0, .int .u8 0, .int .u8 0, .int .u8 0, .int .u8 0, .int .u8 0, .int .u8 0, .int .u8 0, .int .u8 0, .int .u8 0, .int .u8 0, .int .u8 0, .int .u8 0, .int .u8 0, .int .u8 0, .int .u8 0, .int .u8 0, .int .u8 0, .int .u8 0, .int .u8 0, .int .u8 0, .int .u8 0, .int .u8 0, .int .u8 0, .int .u8 0, .int .u8 0, .int .u8 0, .int .u8 0, .int .u8 0, .int .u8 0, .int .u8 0, .int .u8 0, .int .u8 0, .int .u8 0, .int .u8 0, .int .u8 0, .int .u8 0, .int .u8 0, .int .u8 0, .int .u8 0, .int .u8 0, .int .u8 0, .int .u8 0, .int .u8 0] 143)) := (Below.refl _ _).alloc (Nat.le_refl _) _
    have B4 := blk_z64 W3 143
    have z4 : (W3.alloc (.cells #[.int .u8 0, .int .u8 0, .int .u8 0, .int .u8 0, .int .u8 0, .int .u8 0, .int .u8 0, .int .u8 0, .int .u8 0, .int .u8 0, .int .u8 0, .int .u8 0, .int .u8 0, .int .u8 0, .int .u8 0, .int .u8 0, .int .u8 0, .int .u8 0, .int .u8 0, .int .u8 0, .int .u8 0, .int .u8 0, .int .u8 0, .int .u8 0, .int .u8 0, .int .u8 0, .int .u8 0, .int .u8 0, .int .u8 0, .int .u8 0, .int .u8 0, .int .u8 0, .int .u8 0, .int .u8 0, .int .u8 0, .int .u8 0, .int .u8 0, .int .u8 0, .int .u8 0, .int .u8 0, .int .u8 0, .int .u8 0, .int .u8 0, .int .u8 0, .int .u8 0, .int .u8 0, .int .u8 0, .int .u8 0, .int .u8 0, .int .u8 0, .int .u8 0, .int .u8 0, .int .u8 0, .int .u8 0, .int .u8 0, .int .u8 0, .int .u8 0, .int .u8 0, .int .u8 0, .int .u8 0, .int .u8 0, .int .u8 0, .int .u8 0, .int .u8 0] 143)).heap.size = W3.heap.size + 1 := by simp
    obtain ⟨t4, H4⟩ := B4
    have SR := blk_setRow (zs := Bk) ⟨t4, H4⟩
    have OR := only_setRow (W3.alloc (.cells #[.int .u8 0, .int .u8 0, .int .u8 0, .int .u8 0, .int .u8 0, .int .u8 0, .int .u8 0, .int .u8 0, .int .u8 0, .int .u8 0, .int .u8 0, .int .u8 0, .int .u8 0, .int .u8 0, .int .u8 0, .int .u8 0, .int .u8 0, .int .u8 0, .int .u8 0, .int .u8 0, .int .u8 0, .int .u8 0, .int .u8 0, .int .u8 0, .int .u8 0, .int .u8 0, .int .u8 0, .int .u8 0, .int .u8 0, .int .u8 0, .int .u8 0, .int .u8 0, .int .u8 0, .int .u8 0, .int .u8 0, .int .u8 0, .int .u8 0, .int .u8 0, .int .u8 0, .int .u8 0, .int .u8 0, .int .u8 0, .int .u8 0, .int .u8 0, .int .u8 0, .int .u8 0, .int .u8 0, .int .u8 0, .int .u8 0, .int .u8 0, .int .u8 0, .int .u8 0, .int .u8 0, .int .u8 0, .int .u8 0, .int .u8 0, .int .u8 0, .int .u8 0, .int .u8 0, .int .u8 0, .int .u8 0, .int .u8 0, .int .u8 0, .int .u8 0] 143)) W3.heap.size (Bk.map (Value.int .u8)).toArray
    obtain ⟨vr, hvr⟩ : ∃ v, v = Bk.map (Value.int .u8) := ⟨_, rfl⟩
    rw [← hvr] at L64 O64 SR OR ⊢
    clear hvr BA RG
    gi_wp2_with (refine listIn_store rfl 143 (.tmp 9) (.tmp 22) rfl W3.heap.size vr.toArray rfl rfl t4 _ H4 (by rw [List.size_toArray, L64.out]; exact infoB) (by rw [List.size_toArray, List.size_toArray, L64.out]; rfl) O64 ?_)
    have s3 := n3.size
    have U5 : ∀ b, b < W.heap.size → ((W3.alloc (.cells #[.int .u8 0, .int .u8 0, .int .u8 0, .int .u8 0, .int .u8 0, .int .u8 0, .int .u8 0, .int .u8 0, .int .u8 0, .int .u8 0, .int .u8 0, .int .u8 0, .int .u8 0, .int .u8 0, .int .u8 0, .int .u8 0, .int .u8 0, .int .u8 0, .int .u8 0, .int .u8 0, .int .u8 0, .int .u8 0, .int .u8 0, .int .u8 0, .int .u8 0, .int .u8 0, .int .u8 0, .int .u8 0, .int .u8 0, .int .u8 0, .int .u8 0, .int .u8 0, .int .u8 0, .int .u8 0, .int .u8 0, .int .u8 0, .int .u8 0, .int .u8 0, .int .u8 0, .int .u8 0, .int .u8 0, .int .u8 0, .int .u8 0, .int .u8 0, .int .u8 0, .int .u8 0, .int .u8 0, .int .u8 0, .int .u8 0, .int .u8 0, .int .u8 0, .int .u8 0, .int .u8 0, .int .u8 0, .int .u8 0, .int .u8 0, .int .u8 0, .int .u8 0, .int .u8 0, .int .u8 0, .int .u8 0, .int .u8 0, .int .u8 0, .int .u8 0] 143)).setRow W3.heap.size vr.toArray).heap[b]? = W.heap[b]? := fun b hb => (OR.block b (by omega)).trans ((n4.block b (by omega)).trans (n3.block b hb))
    have s5 : ((W3.alloc (.cells #[.int .u8 0, .int .u8 0, .int .u8 0, .int .u8 0, .int .u8 0, .int .u8 0, .int .u8 0, .int .u8 0, .int .u8 0, .int .u8 0, .int .u8 0, .int .u8 0, .int .u8 0, .int .u8 0, .int .u8 0, .int .u8 0, .int .u8 0, .int .u8 0, .int .u8 0, .int .u8 0, .int .u8 0, .int .u8 0, .int .u8 0, .int .u8 0, .int .u8 0, .int .u8 0, .int .u8 0, .int .u8 0, .int .u8 0, .int .u8 0, .int .u8 0, .int .u8 0, .int .u8 0, .int .u8 0, .int .u8 0, .int .u8 0, .int .u8 0, .int .u8 0, .int .u8 0, .int .u8 0, .int .u8 0, .int .u8 0, .int .u8 0, .int .u8 0, .int .u8 0, .int .u8 0, .int .u8 0, .int .u8 0, .int .u8 0, .int .u8 0, .int .u8 0, .int .u8 0, .int .u8 0, .int .u8 0, .int .u8 0, .int .u8 0, .int .u8 0, .int .u8 0, .int .u8 0, .int .u8 0, .int .u8 0, .int .u8 0, .int .u8 0, .int .u8 0] 143)).setRow W3.heap.size vr.toArray).heap.size = W3.heap.size + 1 := OR.size.trans z4
    have N5 : Below W.heap.size W ((W3.alloc (.cells #[.int .u8 0, .int .u8 0, .int .u8 0, .int .u8 0, .int .u8 0, .int .u8 0, .int .u8 0, .int .u8 0, .int .u8 0, .int .u8 0, .int .u8 0, .int .u8 0, .int .u8 0, .int .u8 0, .int .u8 0, .int .u8 0, .int .u8 0, .int .u8 0, .int .u8 0, .int .u8 0, .int .u8 0, .int .u8 0, .int .u8 0, .int .u8 0, .int .u8 0, .int .u8 0, .int .u8 0, .int .u8 0, .int .u8 0, .int .u8 0, .int .u8 0, .int .u8 0, .int .u8 0, .int .u8 0, .int .u8 0, .int .u8 0, .int .u8 0, .int .u8 0, .int .u8 0, .int .u8 0, .int .u8 0, .int .u8 0, .int .u8 0, .int .u8 0, .int .u8 0, .int .u8 0, .int .u8 0, .int .u8 0, .int .u8 0, .int .u8 0, .int .u8 0, .int .u8 0, .int .u8 0, .int .u8 0, .int .u8 0, .int .u8 0, .int .u8 0, .int .u8 0, .int .u8 0, .int .u8 0, .int .u8 0, .int .u8 0, .int .u8 0, .int .u8 0] 143)).setRow W3.heap.size vr.toArray) := n3.trans ((n4.mono (by omega)).trans (OR.below (by omega)))
    generalize (W3.alloc (.cells #[.int .u8 0, .int .u8 0, .int .u8 0, .int .u8 0, .int .u8 0, .int .u8 0, .int .u8 0, .int .u8 0, .int .u8 0, .int .u8 0, .int .u8 0, .int .u8 0, .int .u8 0, .int .u8 0, .int .u8 0, .int .u8 0, .int .u8 0, .int .u8 0, .int .u8 0, .int .u8 0, .int .u8 0, .int .u8 0, .int .u8 0, .int .u8 0, .int .u8 0, .int .u8 0, .int .u8 0, .int .u8 0, .int .u8 0, .int .u8 0, .int .u8 0, .int .u8 0, .int .u8 0, .int .u8 0, .int .u8 0, .int .u8 0, .int .u8 0, .int .u8 0, .int .u8 0, .int .u8 0, .int .u8 0, .int .u8 0, .int .u8 0, .int .u8 0, .int .u8 0, .int .u8 0, .int .u8 0, .int .u8 0, .int .u8 0, .int .u8 0, .int .u8 0, .int .u8 0, .int .u8 0, .int .u8 0, .int .u8 0, .int .u8 0, .int .u8 0, .int .u8 0, .int .u8 0, .int .u8 0, .int .u8 0, .int .u8 0, .int .u8 0, .int .u8 0] 143)).setRow W3.heap.size vr.toArray = W5 at *
    generalize W3.heap.size = bq at *
    clear OR n4 n3 H4 z4 O64 L64
    have T5 := zB.up N5
    have bW : W.heap.size ≤ bq := s3
    have peI : (pe : Int) ≤ 64 := by omega
    gi_loopw [25] (fun v wr => ∃ (j : Nat) (us : List Int), j ≤ pe ∧ v = .int .i64 j ∧ Hid (us = xorTo zs (64 * x.1) Bk j) ∧ B5 wr (w.heap.size + 1 + 1) us ∧ Blk wr bq .u8 Bk ∧ (∀ b, b < W.heap.size → b ≠ w.heap.size + 1 + 1 → wr.heap[b]? = W.heap[b]?) ∧ bq + 1 ≤ wr.heap.size ∧ KeepsFrom w6.heap.size W wr ∧ Below w.heap.size w wr) (fun v _ => pe - (intOf v).toNat)
    case atStart => exact ⟨0, zs, Nat.zero_le _, rfl, rfl, T5, SR, fun b hb _ => U5 b hb, by omega, keeps_below N5, be.trans (N5.mono be.size)⟩
    case round =>
      obtain ⟨j, us, hj, rfl, HU, hT, hK, hO, hZ, hF, hN⟩ := hrel
      clear T5 SR U5 N5 s5
      by_cases jl : j < pe
      · have pzl : 64 * x.1 + j < zs.length := by rw [zl]; omega
        have ul : us.length = zs.length := by rw [HU.out, xorTo_len]
        have ug : us.getD (64 * x.1 + j) 0 = zs.getD (64 * x.1 + j) 0 := by rw [HU.out, xorTo_get _ _ _ _ pzl, if_neg (by omega)]
        have cz0 : ∀ u, Below wr.heap.size wr u → u.cell? ⟨w.heap.size + 1 + 1, 64 * x.1 + j, none⟩ = some (.int .u8 (zs.getD (64 * x.1 + j) 0)) := fun u hu => by
          have := (hT.up hu).cell (i := 64 * x.1 + j) (by rw [ul]; exact pzl)
          rw [ug] at this
          exact this
        have cb0 : ∀ u, Below wr.heap.size wr u → u.cell? ⟨bq, j, none⟩ = some (.int .u8 (Bk.getD j 0)) := fun u hu => (hK.up hu).cell (i := j) (by rw [BL.out]; omega)
        have XS : Hid (us.set (64 * x.1 + j) (xr (zs.getD (64 * x.1 + j) 0) (Bk.getD j 0)) = xorTo zs (64 * x.1) Bk (j + 1)) := by show _ = _; rw [HU.out]; rfl
        have XV0 : Hid (bits BinOp.xor IntKind.u8 (zs.getD (64 * x.1 + j) 0) (Bk.getD j 0) = xr (zs.getD (64 * x.1 + j) 0) (Bk.getD j 0)) := rfl
        obtain ⟨pz, hpz⟩ : ∃ p, p = 64 * x.1 + j := ⟨_, rfl⟩
        have epz : 64 * x.1 + j = pz := hpz.symm
        rw [← hpz] at pzl ug XS XV0
        simp only [← hpz] at cz0
        clear hpz
        generalize zs.getD pz 0 = zv at *
        generalize Bk.getD j 0 = bv at *
        generalize xr zv bv = xv at *
        have XV := XV0
        have cz := cz0
        have cb := cb0
        have jpe : (j : Int) < (pe : Int) := by omega
        have j64 : (j : Int) < 64 := by omega
        clear XV0 cz0 cb0
        gi_wp2_with fail
        refine region_store_in 9 _ (fun i => [Fact.eq (.slice (some ⟨w.heap.size + 1 + 1, 64 * x.1, none⟩) pe pe), Fact.eq (.int .i64 (j : Int)), Fact.eq (.pointer (some ⟨w.heap.size + 1 + 1, pz, none⟩)), Fact.eq (.int .u8 zv), Fact.eq (.int .i64 (j : Int)), Fact.eq (.pointer (some ⟨bq, j, none⟩)), Fact.eq (.int .u8 bv), Fact.eq (.int .u8 xv), Fact.eq (.pointer (some ⟨w.heap.size + 1 + 1, pz, none⟩))].getD i Fact.no) (by kernel_rfl) (by rintro ⟨_, _, h⟩; exact h) (by kernel_rfl) (by kernel_rfl) rfl rfl ?_ ?_
        · skip
          intro i hi
          obtain rfl | rfl | rfl | rfl | rfl | rfl | rfl | rfl | rfl : i = 0 ∨ i = 1 ∨ i = 2 ∨ i = 3 ∨ i = 4 ∨ i = 5 ∨ i = 6 ∨ i = 7 ∨ i = 8 := by omega
          · refine step_pure rfl fun a u hb hw hf => ?_
            have e8 : a.tmps[8]?.getD undef = .slice (some ⟨w.heap.size + 1 + 1, 64 * x.1, none⟩) pe pe := gdv (hb.2.2 8 (by kernel_rfl))
            exact ⟨.slice (some ⟨w.heap.size + 1 + 1, 64 * x.1, none⟩) pe pe, by simp [go_sem, e8], rfl⟩
          · refine step_pure rfl fun a u hb hw hf => ?_
            have e10 : a.tmps[10]?.getD undef = .int .i64 (j : Int) := gdv (hb.2.2 10 (by kernel_rfl))
            exact ⟨.int .i64 (j : Int), by simp [go_sem, e10], rfl⟩
          · refine step_pure rfl fun a u hb hw hf => ?_
            have e28 : a.tmps[28]?.getD undef = .slice (some ⟨w.heap.size + 1 + 1, 64 * x.1, none⟩) pe pe := gdv (hf 0 28 (by kernel_rfl))
            have e29 : a.tmps[29]?.getD undef = .int .i64 (j : Int) := gdv (hf 1 29 (by kernel_rfl))
            exact ⟨.pointer (some ⟨w.heap.size + 1 + 1, pz, none⟩), by simp [go_sem, e28, e29, jpe, epz], rfl⟩
          · refine step_pure rfl fun a u hb hw hf => ?_
            have e30 : a.tmps[30]?.getD undef = .pointer (some ⟨w.heap.size + 1 + 1, pz, none⟩) := gdv (hf 2 30 (by kernel_rfl))
            have hc := cz _ hw
            exact ⟨.int .u8 zv, by simp [go_sem, e30, hc], rfl⟩
          · refine step_pure rfl fun a u hb hw hf => ?_
            have e10 : a.tmps[10]?.getD undef = .int .i64 (j : Int) := gdv (hb.2.2 10 (by kernel_rfl))
            exact ⟨.int .i64 (j : Int), by simp [go_sem, e10], rfl⟩
          · refine step_pure rfl fun a u hb hw hf => ?_
            have e9 : a.tmps[9]?.getD undef = .pointer (some ⟨bq, 0, none⟩) := gdv (hb.2.2 9 (by kernel_rfl))
            have e32 : a.tmps[32]?.getD undef = .int .i64 (j : Int) := gdv (hf 4 32 (by kernel_rfl))
            exact ⟨.pointer (some ⟨bq, j, none⟩), by simp [go_sem, e9, e32, j64], rfl⟩
          · refine step_pure rfl fun a u hb hw hf => ?_
            have e33 : a.tmps[33]?.getD undef = .pointer (some ⟨bq, j, none⟩) := gdv (hf 5 33 (by kernel_rfl))
            have hc := cb _ hw
            exact ⟨.int .u8 bv, by simp [go_sem, e33, hc], rfl⟩
          · refine step_pure rfl fun a u hb hw hf => ?_
            have e31 : a.tmps[31]?.getD undef = .int .u8 zv := gdv (hf 3 31 (by kernel_rfl))
            have e34 : a.tmps[34]?.getD undef = .int .u8 bv := gdv (hf 6 34 (by kernel_rfl))
            exact ⟨.int .u8 xv, by simp [go_sem, e31, e34, XV.out], rfl⟩
          · refine step_pure rfl fun a u hb hw hf => ?_
            have e28 : a.tmps[28]?.getD undef = .slice (some ⟨w.heap.size + 1 + 1, 64 * x.1, none⟩) pe pe := gdv (hf 0 28 (by kernel_rfl))
            have e29 : a.tmps[29]?.getD undef = .int .i64 (j : Int) := gdv (hf 1 29 (by kernel_rfl))
            exact ⟨.pointer (some ⟨w.heap.size + 1 + 1, pz, none⟩), by simp [go_sem, e28, e29, jpe, epz], rfl⟩
        · intro a u hb' hw' hf
          have e36 : a.tmps[36]?.getD undef = .pointer (some ⟨w.heap.size + 1 + 1, pz, none⟩) := gdv (hf 8 36 (by kernel_rfl))
          have e35 : a.tmps[35]?.getD undef = .int .u8 xv := gdv (hf 7 35 (by kernel_rfl))
          have hcz := cz u hw'
          have hfz := (hT.up hw').free pz
          have O2 := Only.setCell u (w.heap.size + 1 + 1) pz (.int .u8 xv)
          have T2 := (hT.up hw').store pz xv
          have K2 := (hK.up hw').of_block (O2.block bq (by omega))
          have U2 : ∀ b, b < W.heap.size → b ≠ w.heap.size + 1 + 1 → (u.setCell ⟨w.heap.size + 1 + 1, pz, none⟩ (.int .u8 xv)).heap[b]? = W.heap[b]? := fun b h1 h2 => (O2.block b h2).trans ((hw'.block b (by omega)).trans (hO b h1 h2))
          have F2 : KeepsFrom w6.heap.size W (u.setCell ⟨w.heap.size + 1 + 1, pz, none⟩ (.int .u8 xv)) := (hF.trans (keeps_below hw')).trans ((KeepsOthers.setCell _ _ _).from _)
          have s2 := O2.size
          have s1 := hw'.size
          have N2 := hN.trans ((hw'.mono hN.size).trans (O2.below (B := w.heap.size) (by omega)))
          obtain ⟨vs', hvs'⟩ : ∃ vs : Nat → Value, ∀ d, a.tmps.getD d undef = vs d := ⟨_, fun _ => rfl⟩
          have ea := puts_of (md := .any) (n := 41) (k := 9) (by kernel_rfl) rfl hb' vs' hvs'
          unfold Oper.wp
          simp [go_sem, e36, e35, hcz, hfz]
          rw [ea]
          clear ea hvs' e36 e35 hf hb' hcz hfz cz cb
          simp only [puts, Act.put, List.setIfInBounds_toArray, List.set_cons_succ, List.set_cons_zero]
          generalize u.setCell ⟨w.heap.size + 1 + 1, pz, none⟩ (.int .u8 xv) = W2 at *
          gi_wp2
          go_roundw
          case rel => exact ⟨j + 1, us.set pz xv, by omega, by go_num, XS, T2, K2, U2, by omega, F2, N2⟩
          case measure => simp [intOf]; omega
      · have jI : ¬ ((j : Int) < (pe : Int)) := by omega
        have HJ := hide (show j = pe by omega)
        have c2 := (World.cell?_of_block (a := ⟨w.heap.size + 1, 0, none⟩) (hO (w.heap.size + 1) (by omega) (by omega))).trans im
        have f2 := (World.frozen?_of_block (a := ⟨w.heap.size + 1, 0, none⟩) (hO (w.heap.size + 1) (by omega) (by omega))).trans nf
        have c3 : (wr.setCell ⟨w.heap.size + 1, 0, none⟩ (.int .i64 (cv + 1))).cell? ⟨w.heap.size + 1, 0, none⟩ = some (.int .i64 (cv + 1)) := World.cell?_setCell_same _ _ _ c2
        have f3 : (wr.setCell ⟨w.heap.size + 1, 0, none⟩ (.int .i64 (cv + 1))).frozen? ⟨w.heap.size + 1, 0, none⟩ = false := by rw [frozen_setCell]; exact f2
        have O3 := Only.setCell wr (w.heap.size + 1) 0 (.int .i64 (cv + 1))
        gi_wp2
        have lx : (pre ++ [x]).length = pre.length + 1 := by simp
        have K3 := hF.trans ((KeepsOthers.setCell wr ⟨w.heap.size + 1, 0, none⟩ (.int .i64 (cv + 1))).from w6.heap.size)
        have U3 : ∀ b, b < W.heap.size → b ≠ w.heap.size + 1 + 1 → b ≠ w.heap.size + 1 → (wr.setCell ⟨w.heap.size + 1, 0, none⟩ (.int .i64 (cv + 1))).heap[b]? = W.heap[b]? := fun b h1 h2 h3 => (O3.block b h3).trans (hO b h1 h2)
        have s6 := S6.out
        refine ⟨K3, ⟨U3 _ (by omega) (by omega) (by omega), U3 _ (by omega) (by omega) (by omega)⟩, ?_⟩
        refine ⟨⟨us, by rw [HU.out, xorTo_len]; exact zl, hT.of_block (O3.block (w.heap.size + 1 + 1) (by omega)), fun h => ?_⟩, hs.of_block (U3 w.heap.size (by omega) (by omega) (by omega)), ?_, f3, by have := O3.size; omega, hN.trans (O3.below (by omega))⟩
        · rw [lx, List.map_append, List.range_succ] at h
          obtain ⟨h1', h2'⟩ := List.append_inj' h rfl
          have h3' : x.1 = pre.length := by simpa using h2'
          rw [lx, HU.out, z3 h1', xoG, HBK.out, HCV.out, HJ.out, HPE.out, h3']
        · rw [lx, c3, HCV.out]
          congr 2
          omega
  case done =>
    rintro D xx W hD hS hI hK
    have yl : xx.length = (data.length + 63) / 64 := by have := congrArg List.length hS; simpa using this
    obtain ⟨zs, z1, z2, z3⟩ := hI.told
    rw [← yl] at hS
    have ez := z3 hS
    rw [yl] at ez
    have hdd : w.heap.size + 1 + 1 < D := by have := S6.out; have := YQ.out; omega
    have B9 : B5 (W.putObj D (.deferred none)) (w.heap.size + 1 + 1) zs := z2.of_block (World.putObj_heap_other (by omega))
    have N9 : Below w.heap.size w (W.putObj D (.deferred none)) := hI.bel.trans (belowK_b (w := w) (Nat.le_refl _) W D _ _ (by omega) hK rfl rfl)
    have EZ := hide ez
    have ZL := hide z1
    clear z1 z2 z3 ez hI yl hS
    go_wp2
    refine ⟨by simp, .inl ⟨_, _, rfl, run_takeDeferred hK, ?_⟩⟩
    have RB := B9.row (B := w.heap.size) (by omega) (by rw [ZL.out]; exact hn)
    rw [EZ.out, xoG_len] at RB
    exact ⟨_, results_tmp rfl _ _ _, ⟨.slice (some ⟨w.heap.size + 1 + 1, 0, none⟩) data.length data.length, by rfl, RB⟩, N9⟩
  case stop =>
    rintro D c pre W hD hs h hK
    exact h.elim
end Go.Proofs.YtkpomobhjkikeaaGreatDoor
