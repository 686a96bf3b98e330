import Derived.Test.YtkpomobhjkikeaaGreatDoorSS21
namespace Go.Proofs.YtkpomobhjkikeaaGreatDoor
set_option maxRecDepth 100000
open Go Go.RowKit
theorem lsum_congr {a b : Nat → Int} : ∀ n, (∀ j, j < n → a j = b j) → lsum a n = lsum b n
  | 0, _ => rfl
  | n + 1, h => by rw [lsum, lsum, lsum_congr n (fun j hj => h j (by omega)), h n (by omega)]
theorem lsum_tail {a : Nat → Int} (n : Nat) : ∀ m, (∀ j, n ≤ j → j < n + m → a j = 0) → lsum a (n + m) = lsum a n
  | 0, _ => rfl
  | m + 1, h => by rw [← Nat.add_assoc, lsum, lsum_tail n m (fun j h1 h2 => h j h1 (by omega)), h (n + m) (by omega) (by omega)]; omega
def pb (xs : List Int) : List Int := (xs ++ (List.replicate 17 0).drop xs.length).set xs.length 1
def pcv (xs : List Int) : Int := lsum (fun j => xs.getD j 0) xs.length + 256 ^ xs.length
theorem pb_len {xs : List Int} (h : xs.length ≤ 16) : (pb xs).length = 17 := by simp [pb]; omega
theorem pb_get {xs : List Int} (h : xs.length ≤ 16) (j : Nat) : (pb xs).getD j 0 = if j < xs.length then xs.getD j 0 else if j = xs.length then 1 else 0 := by
  unfold pb
  by_cases e : xs.length = j
  · subst e
    rw [getD_set_self _ _ _ (by simp; omega), if_neg (by omega), if_pos rfl]
  · rw [getD_set_ne _ _ _ _ e]
    by_cases hj : j < xs.length
    · rw [if_pos hj, List.getD_eq_getElem?_getD, List.getD_eq_getElem?_getD, List.getElem?_append, if_pos hj]
    · rw [if_neg hj, if_neg (by omega), List.getD_eq_getElem?_getD, List.getElem?_append, if_neg hj]
      simp only [List.drop_replicate, List.getElem?_replicate]
      split <;> rfl
theorem pb_byt {xs : List Int} (h : xs.length ≤ 16) (hb : Byt xs) : Byt (pb xs) := fun i => by
  rw [pb_get h]
  split
  · exact hb i
  · split <;> decide
theorem pb_val {xs : List Int} (h : xs.length ≤ 16) : lsum (fun j => (pb xs).getD j 0) 17 = pcv xs := by
  have e : 17 = (xs.length + 1) + (16 - xs.length) := by omega
  rw [e, lsum_tail _ _ (fun j h1 h2 => by rw [pb_get h, if_neg (by omega), if_neg (by omega)]), lsum, pb_get h, if_neg (by omega), if_pos rfl, Int.one_mul, pcv]
  rw [lsum_congr xs.length (fun j hj => show (pb xs).getD j 0 = xs.getD j 0 by rw [pb_get h, if_pos hj])]
def cl (j : Nat) (x : Int) : Int := if j % 4 = 3 then x % 16 else if j % 4 = 0 ∧ 4 ≤ j then x - x % 4 else x
def rv (key : List Int) : Int := lsum (fun j => cl j (key.getD j 0)) 16
theorem cl_byt (j : Nat) {x : Int} (h : 0 ≤ x ∧ x < 256) : 0 ≤ cl j x ∧ cl j x < 256 := by
  unfold cl
  split
  · omega
  · split <;> omega
def ca (k j : Nat) (x : Int) : Int := if j % 4 = 3 ∧ j < 3 + 4 * k then x % 16 else x
def cb (k j : Nat) (x : Int) : Int := if j % 4 = 0 ∧ 4 ≤ j ∧ j < 4 + 4 * k then x - x % 4 else ca 4 j x
def Cto (f : Nat → Int → Int) (bs zs : List Int) : Prop := zs.length = bs.length ∧ ∀ j, j < bs.length → zs.getD j 0 = f j (bs.getD j 0)
theorem Cto.ca {k : Nat} {bs zs : List Int} (h : Cto (Go.Proofs.YtkpomobhjkikeaaGreatDoor.ca k) bs zs) (hk : 3 + 4 * k < bs.length) : Cto (Go.Proofs.YtkpomobhjkikeaaGreatDoor.ca (k + 1)) bs (zs.set (3 + 4 * k) (bs.getD (3 + 4 * k) 0 % 16)) := by
  refine ⟨by rw [List.length_set]; exact h.1, fun j hj => ?_⟩
  by_cases e : 3 + 4 * k = j
  · subst e
    rw [getD_set_self _ _ _ (by rw [h.1]; exact hk)]
    unfold Go.Proofs.YtkpomobhjkikeaaGreatDoor.ca
    rw [if_pos ⟨by omega, by omega⟩]
  · rw [getD_set_ne _ _ _ _ e, h.2 j hj]
    unfold Go.Proofs.YtkpomobhjkikeaaGreatDoor.ca
    by_cases c : j % 4 = 3 ∧ j < 3 + 4 * k
    · rw [if_pos c, if_pos ⟨c.1, by omega⟩]
    · rw [if_neg c, if_neg (by omega)]
theorem Cto.cb {k : Nat} {bs zs : List Int} (h : Cto (Go.Proofs.YtkpomobhjkikeaaGreatDoor.cb k) bs zs) (hk : 4 + 4 * k < bs.length) : Cto (Go.Proofs.YtkpomobhjkikeaaGreatDoor.cb (k + 1)) bs (zs.set (4 + 4 * k) (bs.getD (4 + 4 * k) 0 - bs.getD (4 + 4 * k) 0 % 4)) := by
  refine ⟨by rw [List.length_set]; exact h.1, fun j hj => ?_⟩
  by_cases e : 4 + 4 * k = j
  · subst e
    rw [getD_set_self _ _ _ (by rw [h.1]; exact hk)]
    unfold Go.Proofs.YtkpomobhjkikeaaGreatDoor.cb
    rw [if_pos ⟨by omega, by omega, by omega⟩]
  · rw [getD_set_ne _ _ _ _ e, h.2 j hj]
    unfold Go.Proofs.YtkpomobhjkikeaaGreatDoor.cb
    by_cases c : j % 4 = 0 ∧ 4 ≤ j ∧ j < 4 + 4 * k
    · rw [if_pos c, if_pos ⟨c.1, c.2.1, by omega⟩]
    · rw [if_neg c, if_neg (by omega)]
theorem cb_all {x : Int} (j : Nat) (hj : j < 16) : cb 3 j x = cl j x := by
  unfold cb cl ca
  by_cases c : j % 4 = 3
  · rw [if_neg (by omega), if_pos ⟨c, by omega⟩, if_pos c]
  · rw [if_neg (show ¬ (j % 4 = 3 ∧ j < 3 + 4 * 4) by omega), if_neg c]
    by_cases d : j % 4 = 0 ∧ 4 ≤ j
    · rw [if_pos ⟨d.1, d.2, by omega⟩, if_pos d]
    · rw [if_neg (by omega), if_neg d]
def fb (key : List Int) : List Int := key.take 16 ++ [0]
theorem fb_len {key : List Int} (h : key.length = 32) : (fb key).length = 17 := by simp [fb]; omega
theorem fb_get {key : List Int} (h : key.length = 32) (j : Nat) : (fb key).getD j 0 = if j < 16 then key.getD j 0 else 0 := by
  unfold fb
  rw [List.getD_eq_getElem?_getD, List.getElem?_append, List.length_take, h]
  by_cases hj : j < 16
  · rw [if_pos (by omega), if_pos hj, List.getD_eq_getElem?_getD, List.getElem?_take, if_pos hj]
  · rw [if_neg (by omega), if_neg hj]
    by_cases e : j = 16
    · subst e; rfl
    · rw [List.getElem?_eq_none (by simp; omega)]; rfl
theorem fb_byt {key : List Int} (h : key.length = 32) (hb : Byt key) : Byt (fb key) := fun i => by
  rw [fb_get h]
  split
  · exact hb i
  · decide
theorem fac_val {key zs : List Int} (h : key.length = 32) (c : Cto (cb 3) (fb key) zs) : lsum (fun j => zs.getD j 0) 17 = rv key ∧ zs.getD 16 0 = 0 := by
  have l := fb_len h
  have e16 : zs.getD 16 0 = 0 := by
    rw [c.2 16 (by omega), fb_get h, if_neg (by omega)]
    decide
  refine ⟨?_, e16⟩
  rw [lsum, e16, Int.zero_mul, Int.add_zero, rv]
  exact lsum_congr 16 (fun j hj => by rw [c.2 j (by omega), fb_get h, if_pos hj, cb_all j hj])
theorem fac_byt {key zs : List Int} (h : key.length = 32) (hb : Byt key) (c : Cto (cb 3) (fb key) zs) : Byt zs := fun i => by
  by_cases hi : i < 16
  · rw [c.2 i (by rw [fb_len h]; omega), fb_get h, if_pos hi, cb_all i hi]
    exact cl_byt i (hb i)
  · by_cases e : i = 16
    · subst e; rw [(fac_val h c).2]; decide
    · rw [List.getD_eq_getElem?_getD, List.getElem?_eq_none (by rw [c.1, fb_len h]; omega)]; decide
theorem and252N : ∀ x : Fin 256, x.val &&& 252 = x.val - x.val % 4 := by decide +kernel
theorem and252 (x : Int) (h0 : 0 ≤ x) (h1 : x < 256) : bits BinOp.and IntKind.u8 x 252 = x - x % 4 := by
  obtain ⟨n, rfl⟩ := Int.eq_ofNat_of_zero_le h0
  have h := u8_and_nat n 252 (by omega) (by omega)
  rw [and252N ⟨n, by omega⟩] at h
  show bits BinOp.and IntKind.u8 (n : Int) ((252 : Nat) : Int) = _
  rw [h]
  show ((n - n % 4 : Nat) : Int) = _
  omega
theorem copy_head {P : Program} (w : World) (ty rt e : TypeId) (hu : P.underlying ty = some (.slice e)) (hsz : (P.info? e).map (·.size) = some 1) {g : Nat} {k : IntKind} {zs : List Int} (hB : Blk w g k zs)
    (gs : Nat) (sp : Option Addr) (ys : List Int) (hr : Rd w gs sp k ys) (n : Nat) (h0 : 0 < n) (hn : n ≤ ys.length) (hl : n ≤ zs.length) (dc sc : Nat) :
    ∃ w2, (Builtin.copy_ #[ty, ty] rt #[.slice (some ⟨g, 0, none⟩) n dc, .slice sp ys.length sc]).run P w = .ok (goInt n) w2 ∧ Blk w2 g k (ys.take n ++ zs.drop n) ∧ Only g w w2 := by
  obtain ⟨off, rfl, hc⟩ := hr (by omega)
  obtain ⟨t, hB⟩ := hB
  have tl : (ys.take n).length = n := by rw [List.length_take]; omega
  have hrun := run_copy_row (P := P) w ty ty rt e g 0 n dc ⟨gs, off, none⟩ ys.length sc _ t ((ys.take n).map (Value.int k)) hu hsz hB (by rw [List.length_map, tl]; exact (Nat.min_eq_right hn).symm)
    (fun j v hj => by
      have hjl : j < n := by
        have := (List.getElem?_eq_some_iff.1 hj).1
        rw [List.length_map, tl] at this
        exact this
      rw [add_mid, hc j (by omega)]
      rw [List.getElem?_map, List.getElem?_take, if_pos hjl] at hj
      simpa [show j < ys.length by omega] using hj) (by simp; omega) (oneCells _ _)
  rw [List.length_map, tl] at hrun
  refine ⟨_, hrun, ⟨t, ?_⟩, ⟨rfl, rfl, rfl, by simp, fun i hi => setRow_other w g i _ hi⟩⟩
  rw [setRow_heap w g _ _ t _ hB]
  simp
theorem blk_z17 (w : World) (t : TypeId) : Blk (w.alloc (.cells #[.int .u8 0, .int .u8 0, .int .u8 0, .int .u8 0, .int .u8 0, .int .u8 0, .int .u8 0, .int .u8 0, .int .u8 0, .int .u8 0, .int .u8 0, .int .u8 0, .int .u8 0, .int .u8 0, .int .u8 0, .int .u8 0, .int .u8 0] t)) w.heap.size .u8 (List.replicate 17 0) := ⟨t, by show (w.heap.push _)[w.heap.size]? = _; rw [Array.getElem?_push_size]; rfl⟩
theorem rowB8 : (Tryz.prog.info? 5).map (·.size) = some 1 := by kernel_rfl
theorem info17 : (Tryz.prog.info? 180).map (·.size) = some 17 := by kernel_rfl
theorem und17 : Tryz.prog.underlying 180 = some (.array 17 5) := by kernel_rfl
set_option maxRecDepth 100000 in
set_option maxHeartbeats 4000000 in
theorem readPiece_any (w : World) (g : Nat) (a : Option Addr) (c : Nat) (xs : List Int) (hr : Rd w g a .u8 xs) (hb : Byt xs) (hl : xs.length ≤ 16) :
    Calls Tryz.prog 107 #[.slice a xs.length c] w fun e w' => ∃ u, e = .returned (ag5 u) ∧ (Km u ∧ kv u 5 = pcv xs) ∧ Below w.heap.size w w' := by
  have PL := hide (pb_len hl)
  have NM := fun W => hide (number_any W (pb xs) (pb_byt hl hb) PL.out)
  have KO := knm_ok (b := fun j => (pb xs).getD j 0) (pb_byt hl hb) (by show (pb xs).getD 16 0 < 4; rw [pb_get hl, if_neg (by omega)]; split <;> omega)
  rw [pb_val hl] at KO
  generalize knm (fun j => (pb xs).getD j 0) = u at *
  have HK := hide KO
  have PB : Hid (pb xs = (xs ++ (List.replicate 17 0).drop xs.length).set xs.length 1) := rfl
  have VP : Hid (ag .u8 (pb xs) = Value.agg ((pb xs).map (Value.int .u8)).toArray) := rfl
  simp only [VP.out] at NM
  clear VP KO hb
  have B0 := blk_box w .u64 165 0 0 0 0 0
  have n0 : Below w.heap.size w (w.alloc (.cells #[.int .u64 0, .int .u64 0, .int .u64 0, .int .u64 0, .int .u64 0] 165)) := (Below.refl _ _).alloc (Nat.le_refl _) _
  have s0 : (w.alloc (.cells #[.int .u64 0, .int .u64 0, .int .u64 0, .int .u64 0, .int .u64 0] 165)).heap.size = w.heap.size + 1 := by simp
  go_enter Tryz.func107, Tryz.ntmps107
  go_upto_region 1 with fail
  generalize w.alloc (.cells #[.int .u64 0, .int .u64 0, .int .u64 0, .int .u64 0, .int .u64 0] 165) = wa at *
  have B1 := blk_z17 wa 180
  have n1 : Below wa.heap.size wa (wa.alloc (.cells #[.int .u8 0, .int .u8 0, .int .u8 0, .int .u8 0, .int .u8 0, .int .u8 0, .int .u8 0, .int .u8 0, .int .u8 0, .int .u8 0, .int .u8 0, .int .u8 0, .int .u8 0, .int .u8 0, .int .u8 0, .int .u8 0, .int .u8 0] 180)) := (Below.refl _ _).alloc (Nat.le_refl _) _
  have s1 : (wa.alloc (.cells #[.int .u8 0, .int .u8 0, .int .u8 0, .int .u8 0, .int .u8 0, .int .u8 0, .int .u8 0, .int .u8 0, .int .u8 0, .int .u8 0, .int .u8 0, .int .u8 0, .int .u8 0, .int .u8 0, .int .u8 0, .int .u8 0, .int .u8 0] 180)).heap.size = w.heap.size + 1 + 1 := by simp [s0]
  go_upto_region 2 with fail
  generalize wa.alloc (.cells #[.int .u8 0, .int .u8 0, .int .u8 0, .int .u8 0, .int .u8 0, .int .u8 0, .int .u8 0, .int .u8 0, .int .u8 0, .int .u8 0, .int .u8 0, .int .u8 0, .int .u8 0, .int .u8 0, .int .u8 0, .int .u8 0, .int .u8 0] 180) = wb at *
  rw [s0] at B1
  have B0 := B0.up n1
  have N1 := nxt n0 n1
  obtain ⟨wc, hcopy, B2, O2⟩ := copy_blk (P := Tryz.prog) wb 22 3 5 Tryz.underlying22 rowB8 B1 g a xs (hr.up N1) (by rw [List.length_replicate]; omega) 17 c
  rw [List.length_replicate] at hcopy
  have B0 := B0.of_block (O2.block w.heap.size (by omega))
  have N2 := N1.trans (O2.below (B := w.heap.size) (by omega))
  clear n0 n1 s0 s1 B1 O2 N1
  have c1 := B2.cell (i := xs.length) (by simp; omega)
  have f1 := B2.free xs.length
  have B3 := B2.store xs.length 1
  rw [← PB.out] at B3
  have B0 := B0.keep (h := w.heap.size + 1) (i := xs.length) (v := .int .u8 1) (by omega)
  have N3 : Below w.heap.size w (wc.setCell ⟨w.heap.size + 1, xs.length, none⟩ (.int .u8 1)) := N2.setCell (by show w.heap.size ≤ w.heap.size + 1; omega) _
  have hl1 : (xs.length : Int) < 17 := by omega
  clear B2 N2 PB
  go_upto_region 3 with (at_builtin; refine wpList_copy_run rfl (.tmp 4) (.tmp 5) 22 22 rfl _ _ rfl rfl _ _ hcopy ?_)
  clear hcopy
  generalize (xs ++ (List.replicate 17 0).drop xs.length).getD xs.length 0 = y0 at *
  go_upto_region 4 with fail
  generalize wc.setCell ⟨w.heap.size + 1, xs.length, none⟩ (.int .u8 1) = wd at *
  have RG := (Seg.blk B3).range
  have L : Hid (((pb xs).map (Value.int .u8)).length = 17) := by show _ = _; rw [List.length_map]; exact PL.out
  obtain ⟨vy, hvy⟩ : ∃ v, v = (pb xs).map (Value.int .u8) := ⟨_, rfl⟩
  rw [← hvy] at RG L
  simp only [← hvy] at NM
  clear hvy c1 f1 B3 PL
  go_wp2_with (refine wpList_load_mid rfl 180 (.tmp 3) rfl (w.heap.size + 1) 0 rfl vy (.array 17 5) RG und17 rfl (by rw [L.out]; exact info17) ?_)
  refine (NM wd).out.mono ?_
  rintro e we ⟨rfl, n4⟩
  obtain ⟨⟨p0, p1, p2, p3, p4⟩, ⟨g0, g1, g2, g3, g4⟩⟩ := (B0.up n4).f5
  have N4 := N3.trans (n4.mono N3.size)
  clear NM RG L B0 N3 n4 hr
  simp only [ag5]
  go_wp2
  exact bodyPost_ret (v := ag5 u) (by simp [ag5, results, Tryz.results107, go_sem, p0, p1, p2, p3, p4]) rfl ⟨u, rfl, HK.out, below_set5 N4 (by omega) _ _ _ _ _⟩
set_option maxRecDepth 100000 in
set_option maxHeartbeats 4000000 in
theorem readFactor_any (w : World) (g : Nat) (a : Option Addr) (c : Nat) (key : List Int) (hr : Rd w g a .u8 key) (hb : Byt key) (hl : key.length = 32) :
    Calls Tryz.prog 105 #[.slice a key.length c] w fun e w' => ∃ u, e = .returned (ag5 u) ∧ (Km u ∧ kv u 5 = rv key) ∧ Below w.heap.size w w' := by
  have FL := hide (fb_len hl)
  have FB := hide (fb_byt hl hb)
  have HL := hide hl
  have HB := hide hb
  have NM : ∀ W zs, Hid (Cto (cb 3) (fb key) zs) → Hid (Calls Tryz.prog 117 #[.agg (zs.map (Value.int .u8)).toArray] W fun e w' => ∃ u, e = .returned (ag5 u) ∧ (Km u ∧ kv u 5 = rv key) ∧ Below W.heap.size W w') := fun W zs hz => by
    have h1 := fac_byt HL.out HB.out hz.out
    have h2 := fac_val HL.out hz.out
    have h := number_any W zs h1 (by rw [hz.out.1]; exact FL.out)
    have k := knm_ok (b := fun j => zs.getD j 0) h1 (by show zs.getD 16 0 < 4; rw [h2.2]; omega)
    rw [h2.1] at k
    exact h.mono (by rintro e w' ⟨rfl, n⟩; exact ⟨_, rfl, k, n⟩)
  have FE : Hid (fb key = key.take 16 ++ (List.replicate 17 (0 : Int)).drop 16) := rfl
  have B0 := blk_box w .u64 165 0 0 0 0 0
  have n0 : Below w.heap.size w (w.alloc (.cells #[.int .u64 0, .int .u64 0, .int .u64 0, .int .u64 0, .int .u64 0] 165)) := (Below.refl _ _).alloc (Nat.le_refl _) _
  have s0 : (w.alloc (.cells #[.int .u64 0, .int .u64 0, .int .u64 0, .int .u64 0, .int .u64 0] 165)).heap.size = w.heap.size + 1 := by simp
  clear hb hl
  go_enter Tryz.func105, Tryz.ntmps105
  go_upto_region 1 with fail
  generalize w.alloc (.cells #[.int .u64 0, .int .u64 0, .int .u64 0, .int .u64 0, .int .u64 0] 165) = wa at *
  have B1 := blk_z17 wa 180
  have n1 : Below wa.heap.size wa (wa.alloc (.cells #[.int .u8 0, .int .u8 0, .int .u8 0, .int .u8 0, .int .u8 0, .int .u8 0, .int .u8 0, .int .u8 0, .int .u8 0, .int .u8 0, .int .u8 0, .int .u8 0, .int .u8 0, .int .u8 0, .int .u8 0, .int .u8 0, .int .u8 0] 180)) := (Below.refl _ _).alloc (Nat.le_refl _) _
  have s1 : (wa.alloc (.cells #[.int .u8 0, .int .u8 0, .int .u8 0, .int .u8 0, .int .u8 0, .int .u8 0, .int .u8 0, .int .u8 0, .int .u8 0, .int .u8 0, .int .u8 0, .int .u8 0, .int .u8 0, .int .u8 0, .int .u8 0, .int .u8 0, .int .u8 0] 180)).heap.size = w.heap.size + 1 + 1 := by simp [s0]
  go_upto_region 2 with fail
  generalize wa.alloc (.cells #[.int .u8 0, .int .u8 0, .int .u8 0, .int .u8 0, .int .u8 0, .int .u8 0, .int .u8 0, .int .u8 0, .int .u8 0, .int .u8 0, .int .u8 0, .int .u8 0, .int .u8 0, .int .u8 0, .int .u8 0, .int .u8 0, .int .u8 0] 180) = wb at *
  rw [s0] at B1
  have B0 := B0.up n1
  have N1 := nxt n0 n1
  obtain ⟨wc, hcopy, B2, O2⟩ := copy_head (P := Tryz.prog) wb 22 3 5 Tryz.underlying22 rowB8 B1 g a key (hr.up N1) 16 (by omega) (by rw [HL.out]; omega) (by rw [List.length_replicate]; omega) 17 c
  rw [← FE.out] at B2
  have B0 := B0.of_block (O2.block w.heap.size (by omega))
  have N2 := N1.trans (O2.below (B := w.heap.size) (by omega))
  clear n0 n1 s0 s1 B1 O2 N1 FE
  go_upto_region 3 with (at_builtin; refine wpList_copy_run rfl (.tmp 6) (.tmp 7) 22 22 rfl _ _ rfl rfl _ _ hcopy ?_)
  clear hcopy
  generalize fb key = bs at *
  have C0 : Cto (ca 0) bs bs := ⟨rfl, fun j _ => by unfold ca; rw [if_neg (by omega)]⟩
  go_wp2
  go_loopw [4] (fun i wr => ∃ (k : Nat) (ys : List Int), k ≤ 4 ∧ i = .int .i64 ((3 + 4 * k : Nat) : Int) ∧ Hid (Cto (ca k) bs ys) ∧ Blk wr (w.heap.size + 1) .u8 ys ∧ Blk wr w.heap.size .u64 [0, 0, 0, 0, 0] ∧ Below w.heap.size w wr) (fun i _ => 20 - (intOf i).toNat)
  case atStart => exact ⟨0, _, by omega, rfl, C0, B2, B0, N2⟩
  case round =>
    clear B0 B2 N2 C0
    obtain ⟨k, ys, hk, rfl, hC, hB, hB0, hN⟩ := hrel
    by_cases hlt : k < 4
    · have R := hide (hC.out.ca (by rw [FL.out]; omega))
      have c1 := hB.cell (i := 3 + 4 * k) (by rw [hC.out.1, FL.out]; omega)
      rw [hC.out.2 (3 + 4 * k) (by rw [FL.out]; omega), show ca k (3 + 4 * k) (bs.getD (3 + 4 * k) 0) = bs.getD (3 + 4 * k) 0 from by unfold ca; rw [if_neg (by omega)]] at c1
      have f1 := hB.free (3 + 4 * k)
      have yb := FB.out (3 + 4 * k)
      have m1 := u8_and15 (bs.getD (3 + 4 * k) 0) yb.1 yb.2
      have S := hB.store (3 + 4 * k) (bs.getD (3 + 4 * k) 0 % 16)
      have S0 := hB0.keep (h := w.heap.size + 1) (i := 3 + 4 * k) (v := .int .u8 (bs.getD (3 + 4 * k) 0 % 16)) (by omega)
      have Sn : Below w.heap.size w (wr.setCell ⟨w.heap.size + 1, 3 + 4 * k, none⟩ (.int .u8 (bs.getD (3 + 4 * k) 0 % 16))) := hN.setCell (by show w.heap.size ≤ w.heap.size + 1; omega) _
      have d1 : ((3 + 4 * k : Nat) : Int) < 16 := by omega
      have d2 : ((3 + 4 * k : Nat) : Int) < 17 := by omega
      have d3 : Hid (((3 + 4 * (k + 1) : Nat) : Int) = ((3 + 4 * k : Nat) : Int) + 4) := by show _ = _; omega
      clear hC hB hB0 hN NM FB HB HL FL
      generalize bs.getD (3 + 4 * k) 0 = y at *
      generalize ys.set (3 + 4 * k) (y % 16) = zs at *
      generalize hp : 3 + 4 * k = p at *
      have HP := hide hp
      clear hp
      go_wp2
      go_roundw
      case rel => exact ⟨k + 1, zs, by omega, by rw [d3.out], R, S, S0, Sn⟩
      case measure => have := HP.out; simp [intOf]; omega
    · obtain rfl : k = 4 := by omega
      have C1 : Hid (Cto (cb 0) bs ys) := ⟨hC.out.1, fun j hj => by rw [hC.out.2 j hj]; unfold cb; rw [if_neg (by omega)]⟩
      clear hC hlt
      go_wp2
      go_loopw [5] (fun i wr => ∃ (k : Nat) (ys : List Int), k ≤ 3 ∧ i = .int .i64 ((4 + 4 * k : Nat) : Int) ∧ Hid (Cto (cb k) bs ys) ∧ Blk wr (w.heap.size + 1) .u8 ys ∧ Blk wr w.heap.size .u64 [0, 0, 0, 0, 0] ∧ Below w.heap.size w wr) (fun i _ => 20 - (intOf i).toNat)
      case atStart => exact ⟨0, _, by omega, rfl, C1, hB, hB0, hN⟩
      case round =>
        clear hB hB0 hN C1
        obtain ⟨k, ys, hk, rfl, hC, hB, hB0, hN⟩ := hrel
        by_cases hlt : k < 3
        · have R := hide (hC.out.cb (by rw [FL.out]; omega))
          have c1 := hB.cell (i := 4 + 4 * k) (by rw [hC.out.1, FL.out]; omega)
          rw [hC.out.2 (4 + 4 * k) (by rw [FL.out]; omega), show cb k (4 + 4 * k) (bs.getD (4 + 4 * k) 0) = bs.getD (4 + 4 * k) 0 from by unfold cb ca; rw [if_neg (by omega), if_neg (by omega)]] at c1
          have f1 := hB.free (4 + 4 * k)
          have yb := FB.out (4 + 4 * k)
          have m1 := and252 _ yb.1 yb.2
          have S := hB.store (4 + 4 * k) (bs.getD (4 + 4 * k) 0 - bs.getD (4 + 4 * k) 0 % 4)
          have S0 := hB0.keep (h := w.heap.size + 1) (i := 4 + 4 * k) (v := .int .u8 (bs.getD (4 + 4 * k) 0 - bs.getD (4 + 4 * k) 0 % 4)) (by omega)
          have Sn : Below w.heap.size w (wr.setCell ⟨w.heap.size + 1, 4 + 4 * k, none⟩ (.int .u8 (bs.getD (4 + 4 * k) 0 - bs.getD (4 + 4 * k) 0 % 4))) := hN.setCell (by show w.heap.size ≤ w.heap.size + 1; omega) _
          have d1 : ((4 + 4 * k : Nat) : Int) < 16 := by omega
          have d2 : ((4 + 4 * k : Nat) : Int) < 17 := by omega
          have d3 : Hid (((4 + 4 * (k + 1) : Nat) : Int) = ((4 + 4 * k : Nat) : Int) + 4) := by show _ = _; omega
          clear hC hB hB0 hN NM FB HB HL FL
          generalize bs.getD (4 + 4 * k) 0 = y at *
          generalize ys.set (4 + 4 * k) (y - y % 4) = zs at *
          generalize hp : 4 + 4 * k = p at *
          have HP := hide hp
          clear hp
          go_wp2
          go_roundw
          case rel => exact ⟨k + 1, zs, by omega, by rw [d3.out], R, S, S0, Sn⟩
          case measure => have := HP.out; simp [intOf]; omega
        · obtain rfl : k = 3 := by omega
          have RG := (Seg.blk hB).range
          have L : Hid ((ys.map (Value.int .u8)).length = 17) := by show _ = _; rw [List.length_map, hC.out.1]; exact FL.out
          have NW := NM wr ys hC
          obtain ⟨vy, hvy⟩ : ∃ v, v = ys.map (Value.int .u8) := ⟨_, rfl⟩
          rw [← hvy] at RG L NW
          clear hvy hC hB NM FL FB HL HB
          go_wp2_with (refine wpList_load_mid rfl 180 (.tmp 3) rfl (w.heap.size + 1) 0 rfl vy (.array 17 5) RG und17 rfl (by rw [L.out]; exact info17) ?_)
          refine NW.out.mono ?_
          rintro e we ⟨u, rfl, HK, n4⟩
          have HK := hide HK
          obtain ⟨⟨p0, p1, p2, p3, p4⟩, ⟨g0, g1, g2, g3, g4⟩⟩ := (hB0.up n4).f5
          have N4 := hN.trans (n4.mono hN.size)
          clear NW RG L hB0 hN n4 hr
          simp only [ag5]
          go_wp2
          exact bodyPost_ret (v := ag5 u) (by simp [ag5, results, Tryz.results105, go_sem, p0, p1, p2, p3, p4]) rfl ⟨u, rfl, HK.out, below_set5 N4 (by omega) _ _ _ _ _⟩
end Go.Proofs.YtkpomobhjkikeaaGreatDoor
