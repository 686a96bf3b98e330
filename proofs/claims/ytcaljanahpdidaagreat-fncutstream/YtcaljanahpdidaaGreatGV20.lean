import Derived.Test.YtcaljanahpdidaaGreatGV19
import Derived.Test.YtcaljanahpdidaaGreatGV18
import Derived.Test.YtcaljanahpdidaaGreatGV5
namespace Go.Proofs.YtcaljanahpdidaaGreat
open Go Go.RowKit
theorem reg_nil {k : Int} (h : k ∉ kinds) : regV k = .nilFunc := by
  simp only [kinds, List.mem_cons, List.not_mem_nil, or_false, not_or] at h
  obtain ⟨h1, h2, h4, h5, h8, h11, h15, h20, h24⟩ := h
  unfold regV
  rw [if_neg h1, if_neg h2, if_neg h4, if_neg h5, if_neg h8, if_neg h11, if_neg h15, if_neg h20, if_neg h24]
theorem reg_eq (k : Int) (W : World) : (binOp .eql 67 (regV k) .nilFunc).run Tryz.prog W = .ok (.bool (!decide (k ∈ kinds))) W := by
  by_cases h : k ∈ kinds
  · have : k = 1 ∨ k = 2 ∨ k = 4 ∨ k = 5 ∨ k = 8 ∨ k = 11 ∨ k = 15 ∨ k = 20 ∨ k = 24 := by simpa [kinds] using h
    rcases this with e | e | e | e | e | e | e | e | e <;> subst e
    · show (binOp .eql 67 (regV 1) .nilFunc).run Tryz.prog W = .ok (.bool false) W
      kernel_rfl
    · show (binOp .eql 67 (regV 2) .nilFunc).run Tryz.prog W = .ok (.bool false) W
      kernel_rfl
    · show (binOp .eql 67 (regV 4) .nilFunc).run Tryz.prog W = .ok (.bool false) W
      kernel_rfl
    · show (binOp .eql 67 (regV 5) .nilFunc).run Tryz.prog W = .ok (.bool false) W
      kernel_rfl
    · show (binOp .eql 67 (regV 8) .nilFunc).run Tryz.prog W = .ok (.bool false) W
      kernel_rfl
    · show (binOp .eql 67 (regV 11) .nilFunc).run Tryz.prog W = .ok (.bool false) W
      kernel_rfl
    · show (binOp .eql 67 (regV 15) .nilFunc).run Tryz.prog W = .ok (.bool false) W
      kernel_rfl
    · show (binOp .eql 67 (regV 20) .nilFunc).run Tryz.prog W = .ok (.bool false) W
      kernel_rfl
    · show (binOp .eql 67 (regV 24) .nilFunc).run Tryz.prog W = .ok (.bool false) W
      kernel_rfl
  · rw [reg_nil h, show (!decide (k ∈ kinds)) = true by simp [h]]
    kernel_rfl
theorem reg_guard (k : Int) (W : World) : (eqGuard BinOp.eql 67 (Operand.tmp 16) (Operand.const Value.nilFunc) (regV k) Value.nilFunc).run Tryz.prog W = .ok () W := by
  by_cases h : k ∈ kinds
  · have : k = 1 ∨ k = 2 ∨ k = 4 ∨ k = 5 ∨ k = 8 ∨ k = 11 ∨ k = 15 ∨ k = 20 ∨ k = 24 := by simpa [kinds] using h
    rcases this with e | e | e | e | e | e | e | e | e <;> subst e
    · show (eqGuard BinOp.eql 67 (Operand.tmp 16) (Operand.const Value.nilFunc) (regV 1) Value.nilFunc).run Tryz.prog W = .ok () W
      kernel_rfl
    · show (eqGuard BinOp.eql 67 (Operand.tmp 16) (Operand.const Value.nilFunc) (regV 2) Value.nilFunc).run Tryz.prog W = .ok () W
      kernel_rfl
    · show (eqGuard BinOp.eql 67 (Operand.tmp 16) (Operand.const Value.nilFunc) (regV 4) Value.nilFunc).run Tryz.prog W = .ok () W
      kernel_rfl
    · show (eqGuard BinOp.eql 67 (Operand.tmp 16) (Operand.const Value.nilFunc) (regV 5) Value.nilFunc).run Tryz.prog W = .ok () W
      kernel_rfl
    · show (eqGuard BinOp.eql 67 (Operand.tmp 16) (Operand.const Value.nilFunc) (regV 8) Value.nilFunc).run Tryz.prog W = .ok () W
      kernel_rfl
    · show (eqGuard BinOp.eql 67 (Operand.tmp 16) (Operand.const Value.nilFunc) (regV 11) Value.nilFunc).run Tryz.prog W = .ok () W
      kernel_rfl
    · show (eqGuard BinOp.eql 67 (Operand.tmp 16) (Operand.const Value.nilFunc) (regV 15) Value.nilFunc).run Tryz.prog W = .ok () W
      kernel_rfl
    · show (eqGuard BinOp.eql 67 (Operand.tmp 16) (Operand.const Value.nilFunc) (regV 20) Value.nilFunc).run Tryz.prog W = .ok () W
      kernel_rfl
    · show (eqGuard BinOp.eql 67 (Operand.tmp 16) (Operand.const Value.nilFunc) (regV 24) Value.nilFunc).run Tryz.prog W = .ok () W
      kernel_rfl
  · rw [reg_nil h]
    kernel_rfl
set_option maxRecDepth 100000 in
set_option maxHeartbeats 4000000 in
theorem bodySize_any (w : World) (mq g : Nat) (a : Option Addr) (c : Nat) (ys : List Int) (hm : w.heap[mq]? = some (.map regE 9)) (hr : Rd w g a .u8 ys) (hb : Byt ys) (hx : ys.length ≤ 1048576) :
    Calls Tryz.prog 41 #[.map (some mq), .slice a ys.length c] w fun e w' => e = .returned (.tuple #[.int .i64 (if dmP ys = 0 then beN ys 1 3 else 0), .int .i64 (dmP ys)]) ∧ Below w.heap.size w w' := by
  by_cases l0 : ys.length = 0
  · have eP : Hid (dmP ys = 1) := by show _ = _; unfold dmP; rw [if_pos l0]
    have e : (if dmP ys = 0 then beN ys 1 3 else 0) = 0 := by rw [eP.out]; rfl
    rw [e, eP.out]
    have u1 : ((ys.length : Int) == 0) = true := by simp [l0]
    have u2 : ((ys.length : Int)) = 0 := by omega
    clear l0 hr
    go_enter Tryz.func41, Tryz.ntmps41
    go_wp2
    go_ret2
    exact ⟨rfl, Below.refl _ _⟩
  have l1 : 0 < ys.length := by omega
  have HR := hide hr
  obtain ⟨off, rfl, hc0⟩ := hr l1
  have x0 : w.cell? ⟨g, off, none⟩ = some (.int .u8 (ys.getD 0 0)) := hc0 0 l1
  have b0 := hb 0
  have u1 : ((ys.length : Int) == 0) = false := beq_eq_false_iff_ne.2 (by omega)
  have u1' : ¬ (ys.length : Int) = 0 := by omega
  obtain ⟨k, ek⟩ : ∃ k, Hid (ys.getD 0 0 = k) := ⟨_, rfl⟩
  rw [ek.out] at x0 b0
  have lk := regLook w mq hm k
  obtain ⟨rv, hrv⟩ : ∃ v, Hid (regV k = v) := ⟨_, rfl⟩
  have re : ∀ W, (binOp .eql 67 rv .nilFunc).run Tryz.prog W = .ok (.bool (!decide (k ∈ kinds))) W := fun W => by rw [← hrv.out]; exact reg_eq k W
  have eg : ∀ W, (eqGuard BinOp.eql 67 (Operand.tmp 16) (Operand.const Value.nilFunc) rv Value.nilFunc).run Tryz.prog W = .ok () W := fun W => by rw [← hrv.out]; exact reg_guard k W
  rw [hrv.out] at lk
  have wk : IntKind.i64.wrap k = k := by rw [IntKind.wrap_i64]; omega
  clear hc0
  by_cases hk : k ∈ kinds
  rotate_left
  · have eP : Hid (dmP ys = 2) := by show _ = _; unfold dmP; rw [if_neg l0, if_pos (by rw [ek.out]; exact hk)]
    have e : (if dmP ys = 0 then beN ys 1 3 else 0) = 0 := by rw [eP.out]; rfl
    rw [e, eP.out]
    rw [show (!decide (k ∈ kinds)) = true by simp [hk]] at re
    clear hk
    go_enter Tryz.func41, Tryz.ntmps41
    go_wp2
    go_ret2
    exact ⟨rfl, Below.refl _ _⟩
  rw [show (!decide (k ∈ kinds)) = false by simp [hk]] at re
  by_cases l4 : ys.length < 4
  · have eP : Hid (dmP ys = 1) := by show _ = _; unfold dmP; rw [if_neg l0, if_neg (by rw [ek.out]; exact fun h => h hk), if_pos l4]
    have e : (if dmP ys = 0 then beN ys 1 3 else 0) = 0 := by rw [eP.out]; rfl
    rw [e, eP.out]
    have u2 : decide ((ys.length : Int) < 4) = true := decide_eq_true (by omega)
    have u2' : (ys.length : Int) < 4 := by omega
    clear hk l4
    go_enter Tryz.func41, Tryz.ntmps41
    go_wp2
    go_ret2
    exact ⟨rfl, Below.refl _ _⟩
  have u2 : decide ((ys.length : Int) < 4) = false := decide_eq_false (by omega)
  have u2' : ¬ (ys.length : Int) < 4 := by omega
  have n1 : Below w.heap.size w (w.alloc (.cells #[.slice (some ⟨g, off, none⟩) ys.length c, .int .i64 1] 110)) := (Below.refl _ _).alloc (Nat.le_refl _) _
  have C1 : Cur (w.alloc (.cells #[.slice (some ⟨g, off, none⟩) ys.length c, .int .i64 1] 110)) w.heap.size (.slice (some ⟨g, off, none⟩) ys.length c) ((1 : Nat) : Int) := ⟨_, RwC.new w _ _⟩
  have gl := HR.out.lt l1
  have NM := hide (numberG_any (w.alloc (.cells #[.slice (some ⟨g, off, none⟩) ys.length c, .int .i64 1] 110)) w.heap.size g (some ⟨g, off, none⟩) c ys 1 3 C1 (HR.out.up n1) hb (fun _ => by omega) (by omega) (by omega) (by omega))
  rw [nmV_small hb 1 3 (by decide)] at NM
  have n0 := beN_rng hb 1 3
  obtain ⟨n, hn⟩ := Int.eq_ofNat_of_zero_le n0.1
  have EN := hide hn
  have nn : n < 16777216 := by omega
  rw [hn] at NM
  have eP0 : Hid (dmP ys = if 8192 < n then 2 else if ys.length < 4 + n then 1 else 0) := by
    show _ = _
    unfold dmP
    rw [if_neg l0, if_neg (by rw [ek.out]; exact fun h => h hk), if_neg l4, hn]
    by_cases h8 : 8192 < n
    · rw [if_pos h8, if_pos (by omega)]
    · rw [if_neg h8, if_neg (by omega)]
      by_cases h9 : ys.length < 4 + n
      · rw [if_pos h9, if_pos (by omega)]
      · rw [if_neg h9, if_neg (by omega)]
  have s5 : IntKind.i64.wrap ((ys.length : Int) - 4) = (ys.length : Int) - 4 := by rw [IntKind.wrap_i64]; omega
  obtain ⟨R1, r1⟩ : ∃ r, Hid ((if dmP ys = 0 then beN ys 1 3 else 0) = r) := ⟨_, rfl⟩
  obtain ⟨R2, r2⟩ : ∃ r, Hid (dmP ys = r) := ⟨_, rfl⟩
  rw [r1.out, r2.out]
  have HN1 := hide n1
  clear hn n0 C1 n1 hk
  go_enter Tryz.func41, Tryz.ntmps41
  go_wp2_with fail
  generalize w.alloc (.cells #[.slice (some ⟨g, off, none⟩) ys.length c, .int .i64 1] 110) = W1 at *
  refine NM.out.mono ?_
  rintro e W2 ⟨rfl, -, O2⟩
  have N2 := hide (HN1.out.trans (O2.below (Nat.le_refl _)))
  clear NM O2 HN1
  by_cases h8 : 8192 < n
  · have u4 : decide ((8192 : Int) < (n : Int)) = true := decide_eq_true (by omega)
    have e2 : R2 = 2 := by rw [← r2.out, eP0.out, if_pos h8]
    have e1 : R1 = 0 := by rw [← r1.out, if_neg (by rw [r2.out, e2]; decide)]
    subst e1 e2
    clear h8
    go_wp2
    go_ret2
    exact ⟨rfl, N2.out⟩
  have u4 : decide ((8192 : Int) < (n : Int)) = false := decide_eq_false (by omega)
  by_cases h9 : ys.length < 4 + n
  · have u5 : decide ((ys.length : Int) - 4 < (n : Int)) = true := decide_eq_true (by omega)
    have e2 : R2 = 1 := by rw [← r2.out, eP0.out, if_neg h8, if_pos h9]
    have e1 : R1 = 0 := by rw [← r1.out, if_neg (by rw [r2.out, e2]; decide)]
    subst e1 e2
    clear h9 h8
    go_wp2
    go_ret2
    exact ⟨rfl, N2.out⟩
  have u5 : decide ((ys.length : Int) - 4 < (n : Int)) = false := decide_eq_false (by omega)
  have e2 : R2 = 0 := by rw [← r2.out, eP0.out, if_neg h8, if_neg h9]
  have e1 : R1 = (n : Int) := by rw [← r1.out, if_pos (by rw [r2.out, e2]), EN.out]
  subst e1 e2
  clear h8 h9
  go_wp2
  go_ret2
  exact ⟨rfl, N2.out⟩
end Go.Proofs.YtcaljanahpdidaaGreat
namespace Go.Proofs.YtcaljanahpdidaaGreat
open Go Go.RowKit
theorem one13m (p : MQ) (m : Msg) : (mgV p m).all (·.oneCell') = true := by
  refine all_oneCell_toArray (cs := [.int .i64 m.k, .int .i64 m.v, .slice p.a2 m.r.length p.c2, .slice p.a3 m.s.length p.c3, .string ⟨⟨m.ho⟩⟩, .slice p.a5 m.pr.length p.c5, .slice p.a6 m.ti.length p.c6, .int .i64 m.ag, .int .i64 m.ea, .slice p.a9 m.bi.length p.c9, .bool m.rs, .slice p.a11 m.ce.length p.c11, .slice p.a12 m.pf.length p.c12]) fun v hv => ?_
  simp only [List.mem_cons, List.not_mem_nil, or_false] at hv
  rcases hv with rfl | rfl | rfl | rfl | rfl | rfl | rfl | rfl | rfl | rfl | rfl | rfl | rfl
  all_goals rfl
theorem one15m (cd : Int) (p : MQ) (m : Msg) (nx : Int) : (rsV cd p m nx).all (·.oneCell') = true := by
  refine all_oneCell_toArray (cs := [.int .i64 cd, .int .i64 m.k, .int .i64 m.v, .slice p.a2 m.r.length p.c2, .slice p.a3 m.s.length p.c3, .string ⟨⟨m.ho⟩⟩, .slice p.a5 m.pr.length p.c5, .slice p.a6 m.ti.length p.c6, .int .i64 m.ag, .int .i64 m.ea, .slice p.a9 m.bi.length p.c9, .bool m.rs, .slice p.a11 m.ce.length p.c11, .slice p.a12 m.pf.length p.c12, .int .i64 nx]) fun v hv => ?_
  simp only [List.mem_cons, List.not_mem_nil, or_false] at hv
  rcases hv with rfl | rfl | rfl | rfl | rfl | rfl | rfl | rfl | rfl | rfl | rfl | rfl | rfl | rfl | rfl
  all_goals rfl
theorem wpList_buT {P : Program} (w : World) {ops : Array Oper} {rest : List Oper} {o : Oper} {a : Act} {Q : Exit → Act → World → Prop} (hgd : o.guard = none) (t : TypeId) (fs : Array (Nat × Operand)) (ho : o.op = .build t fs) (vs : Array (Nat × Value)) (hv : fs.map (fun x => (x.1, a.eval x.2)) = vs)
    (v' : Value) (hr : (Instr.build t vs).run P w = .ok v' w) (h : wpList P ops Q rest (a.put o.dst v') w) : wpList P ops Q (o :: rest) a w :=
  wpList_plain hgd fun _ hK => by
    unfold Oper.wp execOp
    simp only [ho, hv]
    rw [Sem.run_bind, hr]
    exact hK _ _ h
theorem dmP_zero {ys : List Int} (h : dmP ys = 0) : 0 < ys.length ∧ ys.getD 0 0 ∈ kinds ∧ 4 ≤ ys.length ∧ beN ys 1 3 ≤ 8192 ∧ 4 + beN ys 1 3 ≤ (ys.length : Int) := by
  unfold dmP at h
  split at h
  · simp at h
  split at h
  · simp at h
  rename_i hk
  split at h
  · simp at h
  split at h
  · simp at h
  split at h
  · simp at h
  exact ⟨by omega, Decidable.not_not.1 hk, by omega, by omega, by omega⟩
end Go.Proofs.YtcaljanahpdidaaGreat
namespace Go.Proofs.YtcaljanahpdidaaGreat
open Go Go.RowKit
def DcP (w : World) (xs : List Int) (at_ : Int) (e : Ending) (w' : World) : Prop := (∃ p bs F, e = .returned (.agg (rsV (dmC xs at_) p (dmR xs at_) (dmE xs at_))) ∧ w.heap.size ≤ F 0 ∧ AnsM w' F p (dmR xs at_) bs) ∧ Below w.heap.size w w'
set_option maxRecDepth 100000 in
set_option maxHeartbeats 4000000 in
theorem decode_out (w : World) (mq : Nat) (a : Option Addr) (c : Nat) (xs : List Int) (at_ : Int) (ho : at_ < 0 ∨ (xs.length : Int) < at_) :
    Calls Tryz.prog 22 #[.map (some mq), .slice a xs.length c, .int .i64 at_] w fun e w' => DcP w xs at_ (e) (w') := by
  have HO := hide ho
  have Z : RwC (w.alloc (.cells #[.int .i64 0, .int .i64 0, .int .i64 0, .slice none 0 0, .slice none 0 0, .string ⟨#[]⟩, .slice none 0 0, .slice none 0 0, .int .i64 0, .int .i64 0, .slice none 0 0, .bool false, .slice none 0 0, .slice none 0 0, .int .i64 0] 57)) w.heap.size [.int .i64 0, .int .i64 0, .int .i64 0, .slice none 0 0, .slice none 0 0, .string ⟨#[]⟩, .slice none 0 0, .slice none 0 0, .int .i64 0, .int .i64 0, .slice none 0 0, .bool false, .slice none 0 0, .slice none 0 0, .int .i64 0] 57 := RwC.new w _ _
  have N : Below w.heap.size w (w.alloc (.cells #[.int .i64 0, .int .i64 0, .int .i64 0, .slice none 0 0, .slice none 0 0, .string ⟨#[]⟩, .slice none 0 0, .slice none 0 0, .int .i64 0, .int .i64 0, .slice none 0 0, .bool false, .slice none 0 0, .slice none 0 0, .int .i64 0] 57)) := (Below.refl _ _).alloc (Nat.le_refl _) _
  obtain ⟨d15, hd15, hrow15⟩ := rowMR
  go_enter Tryz.func22, Tryz.ntmps22
  go_upto_region 1 with fail
  generalize w.alloc (.cells #[.int .i64 0, .int .i64 0, .int .i64 0, .slice none 0 0, .slice none 0 0, .string ⟨#[]⟩, .slice none 0 0, .slice none 0 0, .int .i64 0, .int .i64 0, .slice none 0 0, .bool false, .slice none 0 0, .slice none 0 0, .int .i64 0] 57) = W at *
  by_cases h0 : at_ < 0
  · have t0 : decide (at_ < 0) = true := decide_eq_true h0
    clear ho
    go_upto_region 2 with fail
    have THR := Z.thereG
    have RR := World.rangeAt_setCells_same W w.heap.size 0 [.int .i64 2, .int .i64 0, .int .i64 0, .slice none 0 0, .slice none 0 0, .string ⟨#[]⟩, .slice none 0 0, .slice none 0 0, .int .i64 0, .int .i64 0, .slice none 0 0, .bool false, .slice none 0 0, .slice none 0 0, .int .i64 0] THR
    have OQ := only_setG W w.heap.size [.int .i64 2, .int .i64 0, .int .i64 0, .slice none 0 0, .slice none 0 0, .string ⟨#[]⟩, .slice none 0 0, .slice none 0 0, .int .i64 0, .int .i64 0, .slice none 0 0, .bool false, .slice none 0 0, .slice none 0 0, .int .i64 0] 0
    have RES : Hid (DcP w xs at_ (Ending.returned (.agg #[.int .i64 2, .int .i64 0, .int .i64 0, .slice none 0 0, .slice none 0 0, .string ⟨#[]⟩, .slice none 0 0, .slice none 0 0, .int .i64 0, .int .i64 0, .slice none 0 0, .bool false, .slice none 0 0, .slice none 0 0, .int .i64 0])) ((W.setCells w.heap.size 0 [.int .i64 2, .int .i64 0, .int .i64 0, .slice none 0 0, .slice none 0 0, .string ⟨#[]⟩, .slice none 0 0, .slice none 0 0, .int .i64 0, .int .i64 0, .slice none 0 0, .bool false, .slice none 0 0, .slice none 0 0, .int .i64 0]))) := by
      have hC : dmC xs at_ = 2 := by unfold dmC; rw [if_pos HO.out]
      have hR : dmR xs at_ = msg0 := by unfold dmR; rw [hC]; rfl
      have hE : dmE xs at_ = 0 := by unfold dmE; rw [hC]; rfl
      show (∃ p bs F, Ending.returned (.agg #[.int .i64 2, .int .i64 0, .int .i64 0, .slice none 0 0, .slice none 0 0, .string ⟨#[]⟩, .slice none 0 0, .slice none 0 0, .int .i64 0, .int .i64 0, .slice none 0 0, .bool false, .slice none 0 0, .slice none 0 0, .int .i64 0]) = .returned (.agg (rsV (dmC xs at_) p (dmR xs at_) (dmE xs at_))) ∧ w.heap.size ≤ F 0 ∧ AnsM (W.setCells w.heap.size 0 [.int .i64 2, .int .i64 0, .int .i64 0, .slice none 0 0, .slice none 0 0, .string ⟨#[]⟩, .slice none 0 0, .slice none 0 0, .int .i64 0, .int .i64 0, .slice none 0 0, .bool false, .slice none 0 0, .slice none 0 0, .int .i64 0]) F p (dmR xs at_) bs) ∧ Below w.heap.size w (W.setCells w.heap.size 0 [.int .i64 2, .int .i64 0, .int .i64 0, .slice none 0 0, .slice none 0 0, .string ⟨#[]⟩, .slice none 0 0, .slice none 0 0, .int .i64 0, .int .i64 0, .slice none 0 0, .bool false, .slice none 0 0, .slice none 0 0, .int .i64 0])
      rw [hC, hR, hE]
      exact ⟨⟨mq0, [], fun _ => w.heap.size, rfl, Nat.le_refl _, AnsM.zero _ _⟩, N.trans (OQ.below (Nat.le_refl _))⟩
    clear OQ Z N
    go_wp2_with (refine wpList_store_mid rfl 57 (.tmp 6) (.tmp 20) rfl w.heap.size 0 #[.int .i64 2, .int .i64 0, .int .i64 0, .slice none 0 0, .slice none 0 0, .string ⟨#[]⟩, .slice none 0 0, .slice none 0 0, .int .i64 0, .int .i64 0, .slice none 0 0, .bool false, .slice none 0 0, .slice none 0 0, .int .i64 0] rfl rfl THR iMR (one15 _ rfl) ?_)
    exact bodyPost_ret (v := .agg #[.int .i64 2, .int .i64 0, .int .i64 0, .slice none 0 0, .slice none 0 0, .string ⟨#[]⟩, .slice none 0 0, .slice none 0 0, .int .i64 0, .int .i64 0, .slice none 0 0, .bool false, .slice none 0 0, .slice none 0 0, .int .i64 0]) (results_cellG Tryz.results22 _ _ w.heap.size _ d15 rfl RR hd15 hrow15 iMR) rfl RES.out
  · have h1 : (xs.length : Int) < at_ := by omega
    have t0 : decide (at_ < 0) = false := decide_eq_false h0
    have t1 : decide ((xs.length : Int) < at_) = true := decide_eq_true h1
    clear ho
    go_upto_region 2 with fail
    have THR := Z.thereG
    have RR := World.rangeAt_setCells_same W w.heap.size 0 [.int .i64 2, .int .i64 0, .int .i64 0, .slice none 0 0, .slice none 0 0, .string ⟨#[]⟩, .slice none 0 0, .slice none 0 0, .int .i64 0, .int .i64 0, .slice none 0 0, .bool false, .slice none 0 0, .slice none 0 0, .int .i64 0] THR
    have OQ := only_setG W w.heap.size [.int .i64 2, .int .i64 0, .int .i64 0, .slice none 0 0, .slice none 0 0, .string ⟨#[]⟩, .slice none 0 0, .slice none 0 0, .int .i64 0, .int .i64 0, .slice none 0 0, .bool false, .slice none 0 0, .slice none 0 0, .int .i64 0] 0
    have RES : Hid (DcP w xs at_ (Ending.returned (.agg #[.int .i64 2, .int .i64 0, .int .i64 0, .slice none 0 0, .slice none 0 0, .string ⟨#[]⟩, .slice none 0 0, .slice none 0 0, .int .i64 0, .int .i64 0, .slice none 0 0, .bool false, .slice none 0 0, .slice none 0 0, .int .i64 0])) ((W.setCells w.heap.size 0 [.int .i64 2, .int .i64 0, .int .i64 0, .slice none 0 0, .slice none 0 0, .string ⟨#[]⟩, .slice none 0 0, .slice none 0 0, .int .i64 0, .int .i64 0, .slice none 0 0, .bool false, .slice none 0 0, .slice none 0 0, .int .i64 0]))) := by
      have hC : dmC xs at_ = 2 := by unfold dmC; rw [if_pos HO.out]
      have hR : dmR xs at_ = msg0 := by unfold dmR; rw [hC]; rfl
      have hE : dmE xs at_ = 0 := by unfold dmE; rw [hC]; rfl
      show (∃ p bs F, Ending.returned (.agg #[.int .i64 2, .int .i64 0, .int .i64 0, .slice none 0 0, .slice none 0 0, .string ⟨#[]⟩, .slice none 0 0, .slice none 0 0, .int .i64 0, .int .i64 0, .slice none 0 0, .bool false, .slice none 0 0, .slice none 0 0, .int .i64 0]) = .returned (.agg (rsV (dmC xs at_) p (dmR xs at_) (dmE xs at_))) ∧ w.heap.size ≤ F 0 ∧ AnsM (W.setCells w.heap.size 0 [.int .i64 2, .int .i64 0, .int .i64 0, .slice none 0 0, .slice none 0 0, .string ⟨#[]⟩, .slice none 0 0, .slice none 0 0, .int .i64 0, .int .i64 0, .slice none 0 0, .bool false, .slice none 0 0, .slice none 0 0, .int .i64 0]) F p (dmR xs at_) bs) ∧ Below w.heap.size w (W.setCells w.heap.size 0 [.int .i64 2, .int .i64 0, .int .i64 0, .slice none 0 0, .slice none 0 0, .string ⟨#[]⟩, .slice none 0 0, .slice none 0 0, .int .i64 0, .int .i64 0, .slice none 0 0, .bool false, .slice none 0 0, .slice none 0 0, .int .i64 0])
      rw [hC, hR, hE]
      exact ⟨⟨mq0, [], fun _ => w.heap.size, rfl, Nat.le_refl _, AnsM.zero _ _⟩, N.trans (OQ.below (Nat.le_refl _))⟩
    clear OQ Z N
    go_wp2_with (refine wpList_store_mid rfl 57 (.tmp 6) (.tmp 20) rfl w.heap.size 0 #[.int .i64 2, .int .i64 0, .int .i64 0, .slice none 0 0, .slice none 0 0, .string ⟨#[]⟩, .slice none 0 0, .slice none 0 0, .int .i64 0, .int .i64 0, .slice none 0 0, .bool false, .slice none 0 0, .slice none 0 0, .int .i64 0] rfl rfl THR iMR (one15 _ rfl) ?_)
    exact bodyPost_ret (v := .agg #[.int .i64 2, .int .i64 0, .int .i64 0, .slice none 0 0, .slice none 0 0, .string ⟨#[]⟩, .slice none 0 0, .slice none 0 0, .int .i64 0, .int .i64 0, .slice none 0 0, .bool false, .slice none 0 0, .slice none 0 0, .int .i64 0]) (results_cellG Tryz.results22 _ _ w.heap.size _ d15 rfl RR hd15 hrow15 iMR) rfl RES.out
set_option maxRecDepth 100000 in
set_option maxHeartbeats 4000000 in
theorem decode_pre (w : World) (mq : Nat) (g : Nat) (a : Option Addr) (c : Nat) (xs : List Int) (i : Nat) (hi : i ≤ xs.length) (hm : w.heap[mq]? = some (.map regE 9)) (hr : Rd w g a .u8 xs) (hb : Byt xs) (_hz : a = none → c = 0) (hc : xs.length ≤ c) (hx : xs.length ≤ 1048576) (hp : dmP (xs.drop i) ≠ 0) :
    Calls Tryz.prog 22 #[.map (some mq), .slice a xs.length c, .int .i64 (i : Int)] w fun e w' => DcP w xs (i : Int) (e) (w') := by
  have Z : RwC (w.alloc (.cells #[.int .i64 0, .int .i64 0, .int .i64 0, .slice none 0 0, .slice none 0 0, .string ⟨#[]⟩, .slice none 0 0, .slice none 0 0, .int .i64 0, .int .i64 0, .slice none 0 0, .bool false, .slice none 0 0, .slice none 0 0, .int .i64 0] 57)) w.heap.size [.int .i64 0, .int .i64 0, .int .i64 0, .slice none 0 0, .slice none 0 0, .string ⟨#[]⟩, .slice none 0 0, .slice none 0 0, .int .i64 0, .int .i64 0, .slice none 0 0, .bool false, .slice none 0 0, .slice none 0 0, .int .i64 0] 57 := RwC.new w _ _
  have N : Below w.heap.size w (w.alloc (.cells #[.int .i64 0, .int .i64 0, .int .i64 0, .slice none 0 0, .slice none 0 0, .string ⟨#[]⟩, .slice none 0 0, .slice none 0 0, .int .i64 0, .int .i64 0, .slice none 0 0, .bool false, .slice none 0 0, .slice none 0 0, .int .i64 0] 57)) := (Below.refl _ _).alloc (Nat.le_refl _) _
  obtain ⟨d15, hd15, hrow15⟩ := rowMR
  go_enter Tryz.func22, Tryz.ntmps22
  go_upto_region 1 with fail
  generalize w.alloc (.cells #[.int .i64 0, .int .i64 0, .int .i64 0, .slice none 0 0, .slice none 0 0, .string ⟨#[]⟩, .slice none 0 0, .slice none 0 0, .int .i64 0, .int .i64 0, .slice none 0 0, .bool false, .slice none 0 0, .slice none 0 0, .int .i64 0] 57) = W at *
  have ml : mq < w.heap.size := (Array.getElem?_eq_some_iff.1 hm).1
  have t0 : decide ((i : Int) < 0) = false := decide_eq_false (by omega)
  have t1 : decide ((xs.length : Int) < (i : Int)) = false := decide_eq_false (by omega)
  go_upto_region 3 with fail
  obtain ⟨ys, ey⟩ : ∃ ys, xs.drop i = ys := ⟨_, rfl⟩
  have ly : ys.length = xs.length - i := by rw [← ey, List.length_drop]
  have SLC := sl_low W a xs.length c i ys.length hi hc ly
  have RY : Rd W g (slA a i c) .u8 ys := by rw [← ey]; exact (hr.up N).slD hc i
  have BY : Byt ys := by rw [← ey]; exact byt_drop hb i
  have LY : ys.length ≤ 1048576 := by omega
  have EY : Hid (xs.drop ((i : Int)).toNat = ys) := ey
  have LYH := hide ly
  have M1 : W.heap[mq]? = some (.map regE 9) := (N.block mq ml).trans hm
  have BS := hide (bodySize_any W mq g (slA a i c) (c - i) ys M1 RY BY LY)
  clear ly ey t0 t1
  generalize slA a i c = aR at *
  generalize c - i = cR at *
  go_wp2_with (refine wpList_slT _ rfl 22 (.tmp 23) (some (.tmp 24)) none rfl (.slice a xs.length c) (some (.int .i64 (i : Int))) none rfl rfl rfl _ SLC ?_)
  refine BS.out.mono ?_
  rintro e W1 ⟨rfl, n1⟩
  have Z1 := Z.up n1
  have N1 := nxt N n1
  clear BS SLC Z N RY n1
  have Z := Z1
  have N := N1
  clear Z1 N1
  have eP : xs.drop i = ys := EY.out
  rw [eP] at hp
  rw [if_neg hp]
  obtain ⟨cd, ecd⟩ : ∃ x, Hid (dmP ys = x) := ⟨_, rfl⟩
  rw [ecd.out] at hp ⊢
  have HP := hide hp
  have u0 : (cd == 0) = false := beq_eq_false_iff_ne.2 hp
  have HI := hide hi
  clear hr hb hc hm eP hi
  go_upto_region 5 with fail
  have THR := Z.thereG
  have RR := World.rangeAt_setCells_same W1 w.heap.size 0 [.int .i64 (cd), .int .i64 0, .int .i64 0, .slice none 0 0, .slice none 0 0, .string ⟨#[]⟩, .slice none 0 0, .slice none 0 0, .int .i64 0, .int .i64 0, .slice none 0 0, .bool false, .slice none 0 0, .slice none 0 0, .int .i64 0] THR
  have OQ := only_setG W1 w.heap.size [.int .i64 (cd), .int .i64 0, .int .i64 0, .slice none 0 0, .slice none 0 0, .string ⟨#[]⟩, .slice none 0 0, .slice none 0 0, .int .i64 0, .int .i64 0, .slice none 0 0, .bool false, .slice none 0 0, .slice none 0 0, .int .i64 0] 0
  have RES : Hid (DcP w xs (i : Int) (Ending.returned (.agg #[.int .i64 (cd), .int .i64 0, .int .i64 0, .slice none 0 0, .slice none 0 0, .string ⟨#[]⟩, .slice none 0 0, .slice none 0 0, .int .i64 0, .int .i64 0, .slice none 0 0, .bool false, .slice none 0 0, .slice none 0 0, .int .i64 0])) ((W1.setCells w.heap.size 0 [.int .i64 (cd), .int .i64 0, .int .i64 0, .slice none 0 0, .slice none 0 0, .string ⟨#[]⟩, .slice none 0 0, .slice none 0 0, .int .i64 0, .int .i64 0, .slice none 0 0, .bool false, .slice none 0 0, .slice none 0 0, .int .i64 0]))) := by
    have hC : dmC xs (i : Int) = cd := by unfold dmC; rw [if_neg (by have := HI.out; omega), EY.out, ecd.out, if_pos HP.out]
    have hR : dmR xs (i : Int) = msg0 := by unfold dmR; rw [hC]; rw [if_neg HP.out]
    have hE : dmE xs (i : Int) = 0 := by unfold dmE; rw [hC]; rw [if_neg HP.out]
    show (∃ p bs F, Ending.returned (.agg #[.int .i64 (cd), .int .i64 0, .int .i64 0, .slice none 0 0, .slice none 0 0, .string ⟨#[]⟩, .slice none 0 0, .slice none 0 0, .int .i64 0, .int .i64 0, .slice none 0 0, .bool false, .slice none 0 0, .slice none 0 0, .int .i64 0]) = .returned (.agg (rsV (dmC xs (i : Int)) p (dmR xs (i : Int)) (dmE xs (i : Int)))) ∧ w.heap.size ≤ F 0 ∧ AnsM (W1.setCells w.heap.size 0 [.int .i64 (cd), .int .i64 0, .int .i64 0, .slice none 0 0, .slice none 0 0, .string ⟨#[]⟩, .slice none 0 0, .slice none 0 0, .int .i64 0, .int .i64 0, .slice none 0 0, .bool false, .slice none 0 0, .slice none 0 0, .int .i64 0]) F p (dmR xs (i : Int)) bs) ∧ Below w.heap.size w (W1.setCells w.heap.size 0 [.int .i64 (cd), .int .i64 0, .int .i64 0, .slice none 0 0, .slice none 0 0, .string ⟨#[]⟩, .slice none 0 0, .slice none 0 0, .int .i64 0, .int .i64 0, .slice none 0 0, .bool false, .slice none 0 0, .slice none 0 0, .int .i64 0])
    rw [hC, hR, hE]
    exact ⟨⟨mq0, [], fun _ => w.heap.size, rfl, Nat.le_refl _, AnsM.zero _ _⟩, N.trans (OQ.below (Nat.le_refl _))⟩
  clear OQ Z N
  go_wp2_with (refine wpList_store_mid rfl 57 (.tmp 6) (.tmp 32) rfl w.heap.size 0 #[.int .i64 (cd), .int .i64 0, .int .i64 0, .slice none 0 0, .slice none 0 0, .string ⟨#[]⟩, .slice none 0 0, .slice none 0 0, .int .i64 0, .int .i64 0, .slice none 0 0, .bool false, .slice none 0 0, .slice none 0 0, .int .i64 0] rfl rfl THR iMR (one15 _ rfl) ?_)
  exact bodyPost_ret (v := .agg #[.int .i64 (cd), .int .i64 0, .int .i64 0, .slice none 0 0, .slice none 0 0, .string ⟨#[]⟩, .slice none 0 0, .slice none 0 0, .int .i64 0, .int .i64 0, .slice none 0 0, .bool false, .slice none 0 0, .slice none 0 0, .int .i64 0]) (results_cellG Tryz.results22 _ _ w.heap.size _ d15 rfl RR hd15 hrow15 iMR) rfl RES.out
end Go.Proofs.YtcaljanahpdidaaGreat
namespace Go.Proofs.YtcaljanahpdidaaGreat
open Go Go.RowKit
set_option maxRecDepth 100000 in
set_option maxHeartbeats 4000000 in
theorem decode_body (w : World) (mq : Nat) (g : Nat) (a : Option Addr) (c : Nat) (xs : List Int) (i : Nat) (hi : i ≤ xs.length) (hm : w.heap[mq]? = some (.map regE 9)) (hr : Rd w g a .u8 xs) (hb : Byt xs) (hz : a = none → c = 0) (hc : xs.length ≤ c) (hx : xs.length ≤ 1048576) (hp : dmP (xs.drop i) = 0) (k : Int) (ek : (xs.drop i).getD 0 0 = k) (fm : Nat) (T S : TypeId) (init : List Value) (cells : MQ → Msg → List Value) (nrm : MQ → MQ)
    (hV : regV k = .func (Fn.func fm) #[] #[]) (cm : ∀ vs W, (callFunc fm vs).run Tryz.prog W = .ok (.enter fm vs) W)
    (NW : ∀ W, Calls Tryz.prog fm #[] W fun e W' => e = .returned (.iface T (.pointer (some ⟨W.heap.size, 0, none⟩))) ∧ RwC W' W.heap.size init S ∧ Below W.heap.size W W')
    (RW : ∀ (w : World) (q g : Nat) (a : Option Addr) (c : Nat) (xs : List Int), RwC w q init S → Rd w g a .u8 xs → Byt xs → (0 < xs.length → g ≠ q) → (a = none → c = 0) → xs.length ≤ c → xs.length ≤ 1048576 → Calls Tryz.prog 42 #[.iface T (.pointer (some ⟨q, 0, none⟩)), .slice a xs.length c] w fun e w' => e = .returned (.bool (decide (mfF (rdM k xs) = 0 ∧ bodF (rdM k xs) = xs))) ∧ (decide (mfF (rdM k xs) = 0 ∧ bodF (rdM k xs) = xs) = true → RK cells nrm S w.heap.size q (rdM k xs) w') ∧ Tch [q] w w')
    (PL : ∀ (W : World) (q : Nat) (p : MQ) (xs : List Int), nrm p = p → RwC W q (cells p (rdM k xs)) S → Calls Tryz.prog 31 #[.iface T (.pointer (some ⟨q, 0, none⟩))] W fun e W' => e = .returned (.agg (mgV p (rdM k xs))) ∧ Below W.heap.size W W') :
    Calls Tryz.prog 22 #[.map (some mq), .slice a xs.length c, .int .i64 (i : Int)] w fun e w' => DcP w xs (i : Int) (e) (w') := by
  have HNW := hide NW
  have HRW := hide RW
  have HPL := hide PL
  clear NW RW PL
  have Z : RwC (w.alloc (.cells #[.int .i64 0, .int .i64 0, .int .i64 0, .slice none 0 0, .slice none 0 0, .string ⟨#[]⟩, .slice none 0 0, .slice none 0 0, .int .i64 0, .int .i64 0, .slice none 0 0, .bool false, .slice none 0 0, .slice none 0 0, .int .i64 0] 57)) w.heap.size [.int .i64 0, .int .i64 0, .int .i64 0, .slice none 0 0, .slice none 0 0, .string ⟨#[]⟩, .slice none 0 0, .slice none 0 0, .int .i64 0, .int .i64 0, .slice none 0 0, .bool false, .slice none 0 0, .slice none 0 0, .int .i64 0] 57 := RwC.new w _ _
  have N : Below w.heap.size w (w.alloc (.cells #[.int .i64 0, .int .i64 0, .int .i64 0, .slice none 0 0, .slice none 0 0, .string ⟨#[]⟩, .slice none 0 0, .slice none 0 0, .int .i64 0, .int .i64 0, .slice none 0 0, .bool false, .slice none 0 0, .slice none 0 0, .int .i64 0] 57)) := (Below.refl _ _).alloc (Nat.le_refl _) _
  obtain ⟨d15, hd15, hrow15⟩ := rowMR
  go_enter Tryz.func22, Tryz.ntmps22
  go_upto_region 1 with fail
  generalize w.alloc (.cells #[.int .i64 0, .int .i64 0, .int .i64 0, .slice none 0 0, .slice none 0 0, .string ⟨#[]⟩, .slice none 0 0, .slice none 0 0, .int .i64 0, .int .i64 0, .slice none 0 0, .bool false, .slice none 0 0, .slice none 0 0, .int .i64 0] 57) = W at *
  have ml : mq < w.heap.size := (Array.getElem?_eq_some_iff.1 hm).1
  have t0 : decide ((i : Int) < 0) = false := decide_eq_false (by omega)
  have t1 : decide ((xs.length : Int) < (i : Int)) = false := decide_eq_false (by omega)
  go_upto_region 3 with fail
  obtain ⟨ys, ey⟩ : ∃ ys, xs.drop i = ys := ⟨_, rfl⟩
  have ly : ys.length = xs.length - i := by rw [← ey, List.length_drop]
  have SLC := sl_low W a xs.length c i ys.length hi hc ly
  have RY : Rd W g (slA a i c) .u8 ys := by rw [← ey]; exact (hr.up N).slD hc i
  have BY : Byt ys := by rw [← ey]; exact byt_drop hb i
  have LY : ys.length ≤ 1048576 := by omega
  have EY : Hid (xs.drop ((i : Int)).toNat = ys) := ey
  have LYH := hide ly
  have M1 : W.heap[mq]? = some (.map regE 9) := (N.block mq ml).trans hm
  have BS := hide (bodySize_any W mq g (slA a i c) (c - i) ys M1 RY BY LY)
  clear ly ey t0 t1
  generalize slA a i c = aR at *
  generalize c - i = cR at *
  go_wp2_with (refine wpList_slT _ rfl 22 (.tmp 23) (some (.tmp 24)) none rfl (.slice a xs.length c) (some (.int .i64 (i : Int))) none rfl rfl rfl _ SLC ?_)
  refine BS.out.mono ?_
  rintro e W1 ⟨rfl, n1⟩
  have Z1 := Z.up n1
  have N1 := nxt N n1
  clear BS SLC Z N RY n1
  have Z := Z1
  have N := N1
  clear Z1 N1
  have eY : xs.drop i = ys := EY.out
  rw [eY] at hp ek
  rw [if_pos hp, hp]
  have HP := hide hp
  obtain ⟨l1, hk0, l4', n8', lf'⟩ := dmP_zero hp
  have n0 := beN_rng BY 1 3
  obtain ⟨n, hn⟩ := Int.eq_ofNat_of_zero_le n0.1
  have EN := hide hn
  rw [hn] at n8' lf' ⊢
  have n8 : n ≤ 8192 := by omega
  have lf : 4 + n ≤ ys.length := by omega
  have lx := LYH.out
  have hin : i + 4 + n ≤ xs.length := by omega
  have hii : i < xs.length := by omega
  have eN : dmN ys = n := by show (beN ys 1 3).toNat = n; rw [hn]; rfl
  have s1 : IntKind.i64.wrap ((i : Int) + 4) = (i : Int) + 4 := by rw [IntKind.wrap_i64]; omega
  have s2 : IntKind.i64.wrap ((i : Int) + 4 + (n : Int)) = (i : Int) + 4 + (n : Int) := by rw [IntKind.wrap_i64]; omega
  obtain ⟨off, ea, hcx⟩ := hr (by omega)
  subst ea
  have x0 : w.cell? ⟨g, off + i, none⟩ = some (.int .u8 k) := by
    have h := hcx i hii
    have e : xs.getD i 0 = k := by rw [← ek, ← eY, List.getD_eq_getElem?_getD, List.getD_eq_getElem?_getD, List.getElem?_drop, Nat.add_zero]
    rw [e] at h
    exact h
  have x1 : W1.cell? ⟨g, off + i, none⟩ = some (.int .u8 k) := (World.cell?_of_block (a := ⟨g, off + i, none⟩) (N.block g (block_lt_of_cell x0))).trans x0
  have b0 := BY 0
  rw [ek] at b0
  have wk : IntKind.i64.wrap k = k := by rw [IntKind.wrap_i64]; omega
  have M2 : W1.heap[mq]? = some (.map regE 9) := (N.block mq ml).trans hm
  have lk := regLook W1 mq M2 k
  rw [hV] at lk
  have HI := hide hi
  obtain ⟨zs, ez⟩ : ∃ zs, Hid (dmX ys = zs) := ⟨_, rfl⟩
  have ezx : (xs.drop (i + 4)).take n = zs := by
    rw [← ez.out]
    show _ = (ys.drop 4).take (dmN ys)
    rw [eN, ← eY, List.drop_drop]
  have lz : zs.length = n := by rw [← ezx, List.length_take, List.length_drop]; omega
  have bz : Byt zs := by rw [← ezx]; exact byt_takeQ (byt_drop hb _) _
  have gl : g < w.heap.size := block_lt_of_cell x0
  have RZ : Hid (∀ V, Below w.heap.size w V → Rd V g (slA (some ⟨g, off, none⟩) (i + 4) c) .u8 zs) := fun V nV => by
    rw [← ezx]
    exact (hr.up nV).sl hc (i + 4) n
  have ZN := slA_none (i := i + 4) hz
  have SLZ : ∀ V : World, (Instr.sliceAt 22 (.slice (some ⟨g, off, none⟩) xs.length c) (some (.int .i64 ((i : Int) + 4))) (some (.int .i64 ((i : Int) + 4 + (n : Int)))) none).run Tryz.prog V = .ok (.slice (slA (some ⟨g, off, none⟩) (i + 4) c) zs.length (c - (i + 4))) V := fun V => by
    rw [show ((i : Int) + 4) = ((i + 4 : Nat) : Int) by omega, show (((i + 4 : Nat) : Int) + (n : Int)) = ((i + 4 + n : Nat) : Int) by omega]
    exact sl_both V _ _ _ (i + 4) (i + 4 + n) zs.length (by omega) (by omega) (by omega)
  have lzc : zs.length ≤ c - (i + 4) := by omega
  obtain ⟨aZ, haZ⟩ : ∃ x, Hid (slA (some ⟨g, off, none⟩) (i + 4) c = x) := ⟨_, rfl⟩
  rw [haZ.out] at SLZ RZ ZN
  obtain ⟨cZ, hcZ⟩ : ∃ x, Hid (c - (i + 4) = x) := ⟨_, rfl⟩
  rw [hcZ.out] at SLZ ZN lzc
  obtain ⟨m, em⟩ : ∃ m, Hid (rdM k zs = m) := ⟨_, rfl⟩
  have EM : Hid (dmM ys = m) := by show rdM (ys.getD 0 0) (dmX ys) = m; rw [ek, ez.out]; exact em.out
  have LZ : zs.length ≤ 1048576 := by omega
  have hN : decide ((0 : Int) = 0) = true := rfl
  have GG : Hid (dmG ys = decide (mfF m = 0 ∧ bodF m = zs)) := by
    show _ = _
    unfold dmG
    rw [EM.out, ez.out]
  have iC : Hid (dmC xs (i : Int) = if dmG ys = true then 0 else 3) := by
    show _ = _
    unfold dmC
    rw [if_neg (by have := HI.out; omega), EY.out, if_neg (by rw [HP.out]; exact fun h => h rfl)]
  obtain ⟨gd, egd⟩ : ∃ b, Hid (decide (mfF m = 0 ∧ bodF m = zs) = b) := ⟨_, rfl⟩
  rw [egd.out] at GG
  have RWZ : Hid (∀ (V : World) (q : Nat), w.heap.size ≤ q → Below w.heap.size w V → RwC V q init S → Calls Tryz.prog 42 #[.iface T (.pointer (some ⟨q, 0, none⟩)), .slice aZ zs.length cZ] V fun e V' => e = .returned (.bool gd) ∧ (gd = true → RK cells nrm S V.heap.size q m V') ∧ Tch [q] V V') := fun V q hq nV hQ => by
    have := HRW.out V q g aZ cZ zs hQ (RZ.out V nV) bz (fun _ => by omega) ZN lzc LZ
    rw [em.out, egd.out] at this
    exact this
  have HPM : Hid (∀ (V : World) (q : Nat) (p : MQ), nrm p = p → RwC V q (cells p m) S → Calls Tryz.prog 31 #[.iface T (.pointer (some ⟨q, 0, none⟩))] V fun e V' => e = .returned (.agg (mgV p m)) ∧ Below V.heap.size V V') := fun V q p hn hQ => by
    have := HPL.out V q p zs hn
    rw [em.out] at this
    exact this hQ
  have ENN := hide eN
  have HIN := hide hin
  clear hr hcx hb hz hc hm x0 n0 hn eN lx lf n8 n8' lf' l4' l1 hk0 M1 M2 hp ek eY hV ezx lz bz lzc LZ RZ ZN HRW HPL hN ml gl hin
  go_wp2_with fail
  refine (HNW.out W1).mono ?_
  rintro e W2 ⟨rfl, Q2, n2⟩
  have lq : w.heap.size < W1.heap.size := Z.lt
  have Z2 := Z.up n2
  have N2 := nxt N n2
  clear Z N HNW x1 lk
  obtain ⟨q, hq⟩ : ∃ q, W1.heap.size = q := ⟨_, rfl⟩
  rw [hq] at Q2 lq ⊢
  clear hq n2
  have RC := hide (RWZ.out W2 q (by omega) N2 Q2)
  have l2 := N2.size
  have HQ2 := hide Q2
  have ql2 := Q2.lt
  clear Q2 RWZ
  go_wp2_with (refine wpList_slT _ rfl 22 (.tmp 47) (some (.tmp 48)) (some (.tmp 49)) rfl (.slice (some ⟨g, off, none⟩) xs.length c) (some (.int .i64 ((i : Int) + 4))) (some (.int .i64 ((i : Int) + 4 + (n : Int)))) rfl rfl rfl _ (SLZ _) ?_)
  refine RC.out.mono ?_
  rintro e W3 ⟨rfl, hG, T3⟩
  have Z3 : RwC W3 w.heap.size [.int .i64 0, .int .i64 0, .int .i64 0, .slice none 0 0, .slice none 0 0, .string ⟨#[]⟩, .slice none 0 0, .slice none 0 0, .int .i64 0, .int .i64 0, .slice none 0 0, .bool false, .slice none 0 0, .slice none 0 0, .int .i64 0] 57 := Z2.tch T3 (by simp; omega)
  have N3 : Below w.heap.size w W3 := N2.trans (T3.below l2 (by simp; omega))
  have HG := hide hG
  have l3 := T3.size
  clear RC Z2 N2 T3 HQ2 SLZ hG
  have Z := Z3
  have N := N3
  clear Z3 N3
  cases gd
  · go_upto_region 10 with fail
    have THR := Z.thereG
    have RR := World.rangeAt_setCells_same W3 w.heap.size 0 [.int .i64 3, .int .i64 0, .int .i64 0, .slice none 0 0, .slice none 0 0, .string ⟨#[]⟩, .slice none 0 0, .slice none 0 0, .int .i64 0, .int .i64 0, .slice none 0 0, .bool false, .slice none 0 0, .slice none 0 0, .int .i64 0] THR
    have OQ := only_setG W3 w.heap.size [.int .i64 3, .int .i64 0, .int .i64 0, .slice none 0 0, .slice none 0 0, .string ⟨#[]⟩, .slice none 0 0, .slice none 0 0, .int .i64 0, .int .i64 0, .slice none 0 0, .bool false, .slice none 0 0, .slice none 0 0, .int .i64 0] 0
    have RES : Hid (DcP w xs (i : Int) (Ending.returned (.agg #[.int .i64 3, .int .i64 0, .int .i64 0, .slice none 0 0, .slice none 0 0, .string ⟨#[]⟩, .slice none 0 0, .slice none 0 0, .int .i64 0, .int .i64 0, .slice none 0 0, .bool false, .slice none 0 0, .slice none 0 0, .int .i64 0])) ((W3.setCells w.heap.size 0 [.int .i64 3, .int .i64 0, .int .i64 0, .slice none 0 0, .slice none 0 0, .string ⟨#[]⟩, .slice none 0 0, .slice none 0 0, .int .i64 0, .int .i64 0, .slice none 0 0, .bool false, .slice none 0 0, .slice none 0 0, .int .i64 0]))) := by
      have hC : dmC xs (i : Int) = 3 := by rw [iC.out, GG.out]; rfl
      have hR : dmR xs (i : Int) = msg0 := by unfold dmR; rw [hC]; rfl
      have hE : dmE xs (i : Int) = 0 := by unfold dmE; rw [hC]; rfl
      show (∃ p bs F, Ending.returned (.agg #[.int .i64 3, .int .i64 0, .int .i64 0, .slice none 0 0, .slice none 0 0, .string ⟨#[]⟩, .slice none 0 0, .slice none 0 0, .int .i64 0, .int .i64 0, .slice none 0 0, .bool false, .slice none 0 0, .slice none 0 0, .int .i64 0]) = .returned (.agg (rsV (dmC xs (i : Int)) p (dmR xs (i : Int)) (dmE xs (i : Int)))) ∧ w.heap.size ≤ F 0 ∧ AnsM (W3.setCells w.heap.size 0 [.int .i64 3, .int .i64 0, .int .i64 0, .slice none 0 0, .slice none 0 0, .string ⟨#[]⟩, .slice none 0 0, .slice none 0 0, .int .i64 0, .int .i64 0, .slice none 0 0, .bool false, .slice none 0 0, .slice none 0 0, .int .i64 0]) F p (dmR xs (i : Int)) bs) ∧ Below w.heap.size w (W3.setCells w.heap.size 0 [.int .i64 3, .int .i64 0, .int .i64 0, .slice none 0 0, .slice none 0 0, .string ⟨#[]⟩, .slice none 0 0, .slice none 0 0, .int .i64 0, .int .i64 0, .slice none 0 0, .bool false, .slice none 0 0, .slice none 0 0, .int .i64 0])
      rw [hC, hR, hE]
      exact ⟨⟨mq0, [], fun _ => w.heap.size, rfl, Nat.le_refl _, AnsM.zero _ _⟩, N.trans (OQ.below (Nat.le_refl _))⟩
    clear OQ Z N
    go_wp2_with (refine wpList_store_mid rfl 57 (.tmp 6) (.tmp 53) rfl w.heap.size 0 #[.int .i64 3, .int .i64 0, .int .i64 0, .slice none 0 0, .slice none 0 0, .string ⟨#[]⟩, .slice none 0 0, .slice none 0 0, .int .i64 0, .int .i64 0, .slice none 0 0, .bool false, .slice none 0 0, .slice none 0 0, .int .i64 0] rfl rfl THR iMR (one15 _ rfl) ?_)
    exact bodyPost_ret (v := .agg #[.int .i64 3, .int .i64 0, .int .i64 0, .slice none 0 0, .slice none 0 0, .string ⟨#[]⟩, .slice none 0 0, .slice none 0 0, .int .i64 0, .int .i64 0, .slice none 0 0, .bool false, .slice none 0 0, .slice none 0 0, .int .i64 0]) (results_cellG Tryz.results22 _ _ w.heap.size _ d15 rfl RR hd15 hrow15 iMR) rfl RES.out
  · obtain ⟨p, bs, F, f1, f2, hQ, hA, hnr⟩ := HG.out rfl
    have PLC := hide (HPM.out W3 q p hnr hQ)
    have hC : Hid (dmC xs (i : Int) = 0) := by show _ = _; rw [iC.out, GG.out]; rfl
    have hR : Hid (dmR xs (i : Int) = m) := by show _ = _; unfold dmR; rw [if_pos hC.out, EY.out]; exact EM.out
    have hX : Hid (dmE xs (i : Int) = (i : Int) + 4 + (n : Int)) := by show _ = _; unfold dmE; rw [if_pos hC.out, EY.out, ENN.out]
    have HA := hide hA
    clear HPM HG hQ hA hnr
    go_wp2_with fail
    refine PLC.out.mono ?_
    rintro e W4 ⟨rfl, n4⟩
    have Z4 := Z.up n4
    have N4 := nxt N n4
    have A4 := HA.out.up n4
    clear Z N HA PLC n4
    unfold mgV
    have THR := Z4.thereG
    have OQ := only_setG W4 w.heap.size [.int .i64 0, .int .i64 m.k, .int .i64 m.v, .slice p.a2 m.r.length p.c2, .slice p.a3 m.s.length p.c3, .string ⟨⟨m.ho⟩⟩, .slice p.a5 m.pr.length p.c5, .slice p.a6 m.ti.length p.c6, .int .i64 m.ag, .int .i64 m.ea, .slice p.a9 m.bi.length p.c9, .bool m.rs, .slice p.a11 m.ce.length p.c11, .slice p.a12 m.pf.length p.c12, .int .i64 ((i : Int) + 4 + (n : Int))] 0
    have RR := World.rangeAt_setCells_same W4 w.heap.size 0 [.int .i64 0, .int .i64 m.k, .int .i64 m.v, .slice p.a2 m.r.length p.c2, .slice p.a3 m.s.length p.c3, .string ⟨⟨m.ho⟩⟩, .slice p.a5 m.pr.length p.c5, .slice p.a6 m.ti.length p.c6, .int .i64 m.ag, .int .i64 m.ea, .slice p.a9 m.bi.length p.c9, .bool m.rs, .slice p.a11 m.ce.length p.c11, .slice p.a12 m.pf.length p.c12, .int .i64 ((i : Int) + 4 + (n : Int))] THR
    have RES : Hid (DcP w xs (i : Int) (Ending.returned (.agg #[.int .i64 0, .int .i64 m.k, .int .i64 m.v, .slice p.a2 m.r.length p.c2, .slice p.a3 m.s.length p.c3, .string ⟨⟨m.ho⟩⟩, .slice p.a5 m.pr.length p.c5, .slice p.a6 m.ti.length p.c6, .int .i64 m.ag, .int .i64 m.ea, .slice p.a9 m.bi.length p.c9, .bool m.rs, .slice p.a11 m.ce.length p.c11, .slice p.a12 m.pf.length p.c12, .int .i64 ((i : Int) + 4 + (n : Int))])) ((W4.setCells w.heap.size 0 [.int .i64 0, .int .i64 m.k, .int .i64 m.v, .slice p.a2 m.r.length p.c2, .slice p.a3 m.s.length p.c3, .string ⟨⟨m.ho⟩⟩, .slice p.a5 m.pr.length p.c5, .slice p.a6 m.ti.length p.c6, .int .i64 m.ag, .int .i64 m.ea, .slice p.a9 m.bi.length p.c9, .bool m.rs, .slice p.a11 m.ce.length p.c11, .slice p.a12 m.pf.length p.c12, .int .i64 ((i : Int) + 4 + (n : Int))]))) := by
      show DcP _ _ _ _ _
      unfold DcP
      rw [hC.out, hR.out, hX.out]
      exact ⟨⟨p, bs, F, rfl, by omega, A4.onl OQ (by omega)⟩, N4.trans (OQ.below (Nat.le_refl _))⟩
    have ON : (#[.int .i64 0, .int .i64 m.k, .int .i64 m.v, .slice p.a2 m.r.length p.c2, .slice p.a3 m.s.length p.c3, .string ⟨⟨m.ho⟩⟩, .slice p.a5 m.pr.length p.c5, .slice p.a6 m.ti.length p.c6, .int .i64 m.ag, .int .i64 m.ea, .slice p.a9 m.bi.length p.c9, .bool m.rs, .slice p.a11 m.ce.length p.c11, .slice p.a12 m.pf.length p.c12, .int .i64 ((i : Int) + 4 + (n : Int))] : Array Value).all (·.oneCell') = true := one15m 0 p m ((i : Int) + 4 + (n : Int))
    have bld : ∀ U : World, (Instr.build 57 #[(1, .agg #[.int .i64 m.k, .int .i64 m.v, .slice p.a2 m.r.length p.c2, .slice p.a3 m.s.length p.c3, .string ⟨⟨m.ho⟩⟩, .slice p.a5 m.pr.length p.c5, .slice p.a6 m.ti.length p.c6, .int .i64 m.ag, .int .i64 m.ea, .slice p.a9 m.bi.length p.c9, .bool m.rs, .slice p.a11 m.ce.length p.c11, .slice p.a12 m.pf.length p.c12]), (2, .int .i64 ((i : Int) + 4 + (n : Int)))]).run Tryz.prog U = .ok (.agg #[.int .i64 0, .int .i64 m.k, .int .i64 m.v, .slice p.a2 m.r.length p.c2, .slice p.a3 m.s.length p.c3, .string ⟨⟨m.ho⟩⟩, .slice p.a5 m.pr.length p.c5, .slice p.a6 m.ti.length p.c6, .int .i64 m.ag, .int .i64 m.ea, .slice p.a9 m.bi.length p.c9, .bool m.rs, .slice p.a11 m.ce.length p.c11, .slice p.a12 m.pf.length p.c12, .int .i64 ((i : Int) + 4 + (n : Int))]) U := fun U => by kernel_rfl
    clear OQ Z4 N4 A4 hC hR hX
    go_wp2_with (first
      | (refine wpList_store_mid rfl 57 (.tmp 6) (.tmp 57) rfl w.heap.size 0 #[.int .i64 0, .int .i64 m.k, .int .i64 m.v, .slice p.a2 m.r.length p.c2, .slice p.a3 m.s.length p.c3, .string ⟨⟨m.ho⟩⟩, .slice p.a5 m.pr.length p.c5, .slice p.a6 m.ti.length p.c6, .int .i64 m.ag, .int .i64 m.ea, .slice p.a9 m.bi.length p.c9, .bool m.rs, .slice p.a11 m.ce.length p.c11, .slice p.a12 m.pf.length p.c12, .int .i64 ((i : Int) + 4 + (n : Int))] rfl rfl THR iMR ON ?_)
      | (refine wpList_buT _ rfl 57 #[(1, .tmp 55), (2, .tmp 56)] rfl #[(1, .agg #[.int .i64 m.k, .int .i64 m.v, .slice p.a2 m.r.length p.c2, .slice p.a3 m.s.length p.c3, .string ⟨⟨m.ho⟩⟩, .slice p.a5 m.pr.length p.c5, .slice p.a6 m.ti.length p.c6, .int .i64 m.ag, .int .i64 m.ea, .slice p.a9 m.bi.length p.c9, .bool m.rs, .slice p.a11 m.ce.length p.c11, .slice p.a12 m.pf.length p.c12]), (2, .int .i64 ((i : Int) + 4 + (n : Int)))] rfl _ (bld _) ?_))
    exact bodyPost_ret (v := .agg #[.int .i64 0, .int .i64 m.k, .int .i64 m.v, .slice p.a2 m.r.length p.c2, .slice p.a3 m.s.length p.c3, .string ⟨⟨m.ho⟩⟩, .slice p.a5 m.pr.length p.c5, .slice p.a6 m.ti.length p.c6, .int .i64 m.ag, .int .i64 m.ea, .slice p.a9 m.bi.length p.c9, .bool m.rs, .slice p.a11 m.ce.length p.c11, .slice p.a12 m.pf.length p.c12, .int .i64 ((i : Int) + 4 + (n : Int))]) (results_cellG Tryz.results22 _ _ w.heap.size _ d15 rfl RR hd15 hrow15 iMR) rfl RES.out
end Go.Proofs.YtcaljanahpdidaaGreat
namespace Go.Proofs.YtcaljanahpdidaaGreat
open Go Go.RowKit
def cHello : MQ → Msg → List Value := fun p m => [.int .i64 m.v, .slice p.a2 m.r.length p.c2, .slice p.a3 m.s.length p.c3, .string ⟨⟨m.ho⟩⟩, .slice p.a5 m.pr.length p.c5, .slice p.a6 m.ti.length p.c6, .int .i64 m.ag, .int .i64 m.ea, .slice p.a9 m.bi.length p.c9]
def nHello : MQ → MQ := fun p => { mq0 with a2 := p.a2, c2 := p.c2, g2 := p.g2, a3 := p.a3, c3 := p.c3, g3 := p.g3, a5 := p.a5, c5 := p.c5, g5 := p.g5, a6 := p.a6, c6 := p.c6, g6 := p.g6, a9 := p.a9, c9 := p.c9, g9 := p.g9 }
theorem mfHello (xs : List Int) : mfF (rdHello xs) = heF (rdHello xs).v (rdHello xs).r.length (rdHello xs).s.length (rdHello xs).ho (rdHello xs).pr (rdHello xs).ti.length (rdHello xs).bi.length (rdHello xs).ag (rdHello xs).ea := by unfold mfF; simp [kfF, rdHello, helloM, msg0, sameM]
set_option maxRecDepth 100000 in
set_option maxHeartbeats 1000000 in
theorem rwHello_any (w : World) (q g : Nat) (a : Option Addr) (c : Nat) (xs : List Int) (hq : RwC w q [.int .i64 0, .slice none 0 0, .slice none 0 0, .string ⟨#[]⟩, .slice none 0 0, .slice none 0 0, .int .i64 0, .int .i64 0, .slice none 0 0] 75) (hr : Rd w g a .u8 xs) (hb : Byt xs) (hgq : 0 < xs.length → g ≠ q) (hc0 : a = none → c = 0) (hc : xs.length ≤ c) (hn : xs.length ≤ 1048576) :
    Calls Tryz.prog 42 #[.iface 71 (.pointer (some ⟨q, 0, none⟩)), .slice a xs.length c] w fun e w' => e = .returned (.bool (decide (mfF (rdHello xs) = 0 ∧ bodF (rdHello xs) = xs))) ∧ (decide (mfF (rdHello xs) = 0 ∧ bodF (rdHello xs) = xs) = true → RK cHello nHello 75 w.heap.size q (rdHello xs) w') ∧ Tch [q] w w' := by
  haveI hD : Decidable (HeG xs) := heD xs
  have hfit : bodF (rdM 1 xs) = xs → HeG xs := fun h => fit_rd (k := 1) (by decide) h
  have eB := rwB_is (k := 1) (xs := xs) (fits := HeG xs) hfit
  have isM : IsM (rdHello xs) := isM_rd hb 1
  have hql := hq.lt
  rw [show rdM 1 xs = rdHello xs from rfl] at eB
  rw [← eB]
  refine readWhole_core w q g a c xs (bodF (rdHello xs)) (mfF (rdHello xs)) (HeG xs) 71 75 [.int .i64 0, .slice none 0 0, .slice none 0 0, .string ⟨#[]⟩, .slice none 0 0, .slice none 0 0, .int .i64 0, .int .i64 0, .slice none 0 0] 75 74 73 (RK cHello nHello 75 w.heap.size q (rdHello xs)) hq hr hb (byt_rd hb 1) hgq (fun _ _ => by kernel_rfl) (fun _ _ => by kernel_rfl) (fun _ _ => by kernel_rfl) (fun _ _ => by kernel_rfl) (fun _ _ => by kernel_rfl) (fun _ _ => by kernel_rfl) ?_ ?_ ?_ (fun W W' h n => h.up n) (fun W W' h O => h.onl (by omega) O)
  · intro W p hQ hC hqp hpl hR hgp hwp
    refine (helRead_any W q p g a c xs 75 hQ hqp hC hpl hR hb hgp hgq hc0 hc hn).mono ?_
    rintro e W' ⟨⟨hfits, rfl, G1, G2, rv, G5, x6, x7, x8, Q, B1, l1, B2, l2, o12, ⟨F1, g2F, F5, RT, rvG⟩, B5, l5, hcs⟩ | ⟨hbad, hpan⟩, K⟩
    rotate_left
    · exact ⟨.inr ⟨hbad, hpan⟩, K⟩
    have hql2 := hQ.lt
    have sK : W.heap.size ≤ W'.heap.size := K.size
    obtain ⟨ra, rl, rc, hrv⟩ : ∃ ra rl rc, rv = .slice ra rl rc := by
      rcases RT.2 with ⟨h', _⟩ | ⟨g', cap, cur, h', _⟩
      · exact ⟨_, _, _, h'⟩
      · exact ⟨_, _, _, h'⟩
    subst hrv
    obtain ⟨hl, hcc, hzz, -⟩ := RowT.rdT RT
    subst hl
    rcases hcs with ⟨hN, rfl, rfl, rfl⟩ | ⟨hN0, rfl, rfl, G8, rfl, B8, o58⟩
    · have hbi : (rdHello xs).bi = [] := by show (if hpN xs = 0 then [] else _) = _; rw [if_pos hN]
      refine ⟨.inl ⟨hfits, rfl, ⟨some ⟨G1, 0, none⟩, 32, G1, some ⟨G2, 0, none⟩, 32, G2, ra, rc, adB ra, some ⟨G5, 0, none⟩, hpN xs, G5, none, 0, 0, none, 0, 0, none, 0, 0, []⟩, [], fnF W.heap.size G2 F1 G5 (G5 + 1) (G5 + 1) (G5 + 1) (G5 + 1), (show w.heap.size < W.heap.size by omega), (show q < W.heap.size by omega), ?_, ?_, rfl⟩, K⟩
      · show RwC W' q [.int .i64 (beN xs 0 1), .slice (some ⟨G1, 0, none⟩) (tkB xs 1 32).length 32, .slice (some ⟨G2, 0, none⟩) (tkB xs 33 32).length 32, .string ⟨⟨txB (tkB xs 66 (beN xs 65 1).toNat)⟩⟩, .slice ra (txT xs (hpA xs + 1) (xs.getD (hpA xs) 0).toNat).length rc, .slice (some ⟨G5, 0, none⟩) (tkB xs (hpB xs + 2) (hpN xs)).length (hpN xs), .int .i64 (if hpN xs = 0 then 0 else beN xs (hpC xs) 4), .int .i64 (if hpN xs = 0 then 0 else beN xs (hpC xs + 4) 1), .slice (none) (if hpN xs = 0 then [] else tkB xs (hpC xs + 5) 32 : List Int).length 0] 75
        rw [tkB_len, tkB_len, tkB_len, if_pos hN, if_pos hN, if_pos hN]
        exact Q
      · exact ⟨B1.own0, B2.own0, RT, B5.own0, (fun h0 => absurd h0 (by show ¬ 0 < (if hpN xs = 0 then [] else tkB xs (hpC xs + 5) 32 : List Int).length; rw [if_pos hN]; simp)), BRow.nil _ _, (fun h => absurd h (by simp [rdHello])), (fun _ => ⟨(by simp only [fnF] <;> omega), (by simp only [fnF] <;> omega)⟩), (fun _ => ⟨(by simp only [fnF] <;> omega), (by simp only [fnF] <;> omega)⟩), (fun h0 => ⟨(rowT_place RT h0).1, rvG _ (rowT_place RT h0).2.2.1⟩), (fun _ => ⟨(by simp only [fnF] <;> omega), (by simp only [fnF] <;> omega)⟩), (fun h0 => absurd h0 (by show ¬ 0 < (if hpN xs = 0 then [] else tkB xs (hpC xs + 5) 32 : List Int).length; rw [if_pos hN]; simp)), (fun h => absurd h (by simp [rdHello])), (fun i h => absurd h (by simp [rdHello])), (fun h => absurd h (by simp [rdHello])), ⟨(by simp only [fnF] <;> omega), (by simp only [fnF] <;> omega), (by simp only [fnF] <;> omega), (by simp only [fnF] <;> omega), (by simp only [fnF] <;> omega), (by simp only [fnF] <;> omega), (by simp only [fnF] <;> omega)⟩, ⟨(fun h => by cases h), (fun h => by cases h), (fun h => by cases h), (fun _ => rfl), (fun _ => rfl), fun i hi => absurd hi (by simp [rdHello])⟩, hcc, rfl⟩
    · have hN : ¬ hpN xs = 0 := by omega
      refine ⟨.inl ⟨hfits, rfl, ⟨some ⟨G1, 0, none⟩, 32, G1, some ⟨G2, 0, none⟩, 32, G2, ra, rc, adB ra, some ⟨G5, 0, none⟩, hpN xs, G5, some ⟨G8, 0, none⟩, 32, G8, none, 0, 0, none, 0, 0, []⟩, [], fnF W.heap.size G2 F1 G5 (G5 + 1) (G8 + 1) (G8 + 1) (G8 + 1), (show w.heap.size < W.heap.size by omega), (show q < W.heap.size by omega), ?_, ?_, rfl⟩, K⟩
      · show RwC W' q [.int .i64 (beN xs 0 1), .slice (some ⟨G1, 0, none⟩) (tkB xs 1 32).length 32, .slice (some ⟨G2, 0, none⟩) (tkB xs 33 32).length 32, .string ⟨⟨txB (tkB xs 66 (beN xs 65 1).toNat)⟩⟩, .slice ra (txT xs (hpA xs + 1) (xs.getD (hpA xs) 0).toNat).length rc, .slice (some ⟨G5, 0, none⟩) (tkB xs (hpB xs + 2) (hpN xs)).length (hpN xs), .int .i64 (if hpN xs = 0 then 0 else beN xs (hpC xs) 4), .int .i64 (if hpN xs = 0 then 0 else beN xs (hpC xs + 4) 1), .slice (some ⟨G8, 0, none⟩) (if hpN xs = 0 then [] else tkB xs (hpC xs + 5) 32 : List Int).length 32] 75
        rw [tkB_len, tkB_len, tkB_len, if_neg hN, if_neg hN, if_neg hN, tkB_len]
        exact Q
      · exact ⟨B1.own0, B2.own0, RT, B5.own0, (by show Own _ _ _ _ (if hpN xs = 0 then [] else tkB xs (hpC xs + 5) 32); rw [if_neg hN]; exact B8.own0), BRow.nil _ _, (fun h => absurd h (by simp [rdHello])), (fun _ => ⟨(by simp only [fnF] <;> omega), (by simp only [fnF] <;> omega)⟩), (fun _ => ⟨(by simp only [fnF] <;> omega), (by simp only [fnF] <;> omega)⟩), (fun h0 => ⟨(rowT_place RT h0).1, rvG _ (rowT_place RT h0).2.2.1⟩), (fun _ => ⟨(by simp only [fnF] <;> omega), (by simp only [fnF] <;> omega)⟩), (fun _ => ⟨(by simp only [fnF] <;> omega), (by simp only [fnF] <;> omega)⟩), (fun h => absurd h (by simp [rdHello])), (fun i h => absurd h (by simp [rdHello])), (fun h => absurd h (by simp [rdHello])), ⟨(by simp only [fnF] <;> omega), (by simp only [fnF] <;> omega), (by simp only [fnF] <;> omega), (by simp only [fnF] <;> omega), (by simp only [fnF] <;> omega), (by simp only [fnF] <;> omega), (by simp only [fnF] <;> omega)⟩, ⟨(fun h => by cases h), (fun h => by cases h), (fun h => by cases h), (fun h => by cases h), (fun _ => rfl), fun i hi => absurd hi (by simp [rdHello])⟩, hcc, rfl⟩
  · rintro W ⟨p, bs, F, h1, h2, h3, h4, -⟩
    rw [mfHello]
    have hM := h4.has
    refine (helloFault_any W q (rdHello xs).v p.a2 p.a3 p.a5 p.a6 p.a9 (rdHello xs).r.length (rdHello xs).s.length (rdHello xs).ti.length (rdHello xs).bi.length p.c2 p.c3 p.c5 p.c6 p.c9 p.g5 (rdHello xs).ho (rdHello xs).pr (rdHello xs).ag (rdHello xs).ea isM.rL isM.sL isM.tiL isM.biL isM.hoL hM.pr hM.prC isM.prL isM.prZ (h3.cell 0) (h3.cell 1) (h3.cell 2) (h3.cell 3) (h3.cell 4) (h3.cell 5) (h3.cell 6) (h3.cell 7) (h3.cell 8)).mono ?_
    rintro e W' ⟨rfl, hw⟩
    exact ⟨rfl, by rw [hw]; exact Below.refl _ _⟩
  · rintro W ⟨p, bs, F, h1, h2, h3, h4, -⟩ f0
    have hM := h4.has
    rw [mfHello] at f0
    exact helloBody_any W q (rdHello xs).v ⟨p.g2, p.a2, p.c2, (rdHello xs).r⟩ ⟨p.g3, p.a3, p.c3, (rdHello xs).s⟩ ⟨p.g6, p.a6, p.c6, (rdHello xs).ti⟩ ⟨p.g9, p.a9, p.c9, (rdHello xs).bi⟩ (rdHello xs).ho p.g5 p.a5 p.c5 (rdHello xs).pr (rdHello xs).ag (rdHello xs).ea (h3.cell 0) (h3.cell 1) (h3.cell 2) (h3.cell 3) (h3.cell 4) (h3.cell 5) (h3.cell 6) (h3.cell 7) (h3.cell 8) (lstR_of hM.r h4.z.z2 isM.rL) (lstR_of hM.s h4.z.z3 isM.sL) (lstR_of hM.ti h4.z.z6 isM.tiL) (lstR_of hM.bi h4.z.z9 isM.biL) (txsR_of hM.pr (he_pr f0) isM.prZ) isM.hoL
end Go.Proofs.YtcaljanahpdidaaGreat
