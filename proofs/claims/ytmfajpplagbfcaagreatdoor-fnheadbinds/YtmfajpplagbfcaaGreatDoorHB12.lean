import Derived.Test.YtmfajpplagbfcaaGreatDoorHB10
import Derived.Test.YtmfajpplagbfcaaGreatDoorHB8
import Derived.Test.YtmfajpplagbfcaaGreatDoorHB9
import Derived.Test.YtmfajpplagbfcaaGreatDoorHB11
namespace Go.Proofs.YtmfajpplagbfcaaGreatDoor
set_option maxRecDepth 100000
open Go Go.RowKit
section
variable (w : World) (v ag ea : Int) (a2 a3 a5 a6 a9 a11 a12 : Option Addr) (n2 n3 n5 n6 n9 n11 n12 c2 c3 c5 c6 c9 c11 c12 : Nat) (ho : ByteArray) (rs : Bool)
set_option maxRecDepth 20000 in
set_option maxHeartbeats 2000000 in
theorem typedUpdate_walk (PM : Array Value) (b : Bool) (f : Int)
    (TK : ∀ W q, RwC W q [.int .i64 0] 112 → Calls Tryz.prog 181 #[.pointer (some ⟨q, 0, none⟩), .agg #[Value.int .i64 24, Value.int .i64 v, Value.slice a2 n2 c2, Value.slice a3 n3 c3, Value.string ho, Value.slice a5 n5 c5, Value.slice a6 n6 c6, Value.int .i64 ag, Value.int .i64 ea, Value.slice a9 n9 c9, Value.bool rs, Value.slice a11 n11 c11, Value.slice a12 n12 c12]] W fun e W' => e = .returned (.tuple #[]) ∧ Oth q W W' ∧ RwC W' q [Value.int .i64 ea] 112)
    (PL : ∀ W q, RwC W q [Value.int .i64 ea] 112 → Calls Tryz.prog 40 #[.iface 110 (.pointer (some ⟨q, 0, none⟩))] W fun e W' => e = .returned (.agg PM) ∧ Below W.heap.size W W')
    (SM : ∀ W, Below w.heap.size w W → Calls Tryz.prog 39 #[.agg PM, .agg #[Value.int .i64 24, Value.int .i64 v, Value.slice a2 n2 c2, Value.slice a3 n3 c3, Value.string ho, Value.slice a5 n5 c5, Value.slice a6 n6 c6, Value.int .i64 ag, Value.int .i64 ea, Value.slice a9 n9 c9, Value.bool rs, Value.slice a11 n11 c11, Value.slice a12 n12 c12]] W fun e W' => e = .returned (.bool b) ∧ Below W.heap.size W W')
    (FT : ∀ W q, Below w.heap.size w W → RwC W q [Value.int .i64 ea] 112 → Calls Tryz.prog 179 #[.pointer (some ⟨q, 0, none⟩)] W fun e W' => e = .returned (.int .i64 f) ∧ Below W.heap.size W W') :
    Calls Tryz.prog 19 #[.agg #[Value.int .i64 24, Value.int .i64 v, Value.slice a2 n2 c2, Value.slice a3 n3 c3, Value.string ho, Value.slice a5 n5 c5, Value.slice a6 n6 c6, Value.int .i64 ag, Value.int .i64 ea, Value.slice a9 n9 c9, Value.bool rs, Value.slice a11 n11 c11, Value.slice a12 n12 c12]] w fun e w' => (b = false ∧ e = .returned (.tuple #[.nilIface, .int .i64 2]) ∨ b = true ∧ ∃ q, e = .returned (.tuple #[.iface 110 (.pointer (some ⟨q, 0, none⟩)), .int .i64 f]) ∧ w.heap.size ≤ q ∧ RwC w' q [Value.int .i64 ea] 112) ∧ Below w.heap.size w w' := by
  have B := hide (RwC.new w [Value.int .i64 24, Value.int .i64 v, Value.slice a2 n2 c2, Value.slice a3 n3 c3, Value.string ho, Value.slice a5 n5 c5, Value.slice a6 n6 c6, Value.int .i64 ag, Value.int .i64 ea, Value.slice a9 n9 c9, Value.bool rs, Value.slice a11 n11 c11, Value.slice a12 n12 c12] 26)
  have N := hide (show Below w.heap.size w (w.alloc (.cells #[Value.int .i64 24, Value.int .i64 v, Value.slice a2 n2 c2, Value.slice a3 n3 c3, Value.string ho, Value.slice a5 n5 c5, Value.slice a6 n6 c6, Value.int .i64 ag, Value.int .i64 ea, Value.slice a9 n9 c9, Value.bool rs, Value.slice a11 n11 c11, Value.slice a12 n12 c12] 26)) from (Below.refl _ _).alloc (Nat.le_refl _) _)
  have MK := hide messageKinds_any
  have eq0 : ∀ W, (binOp .eql 60 (.func (Fn.func 67) #[] #[]) .nilFunc).run Tryz.prog W = .ok (.bool false) W := fun _ => by kernel_rfl
  have mt : ∀ (x : Value) (W : World), (method 231 110 x "loop.example/g00004/impl.take").run Tryz.prog W = .ok (181, x) W := fun _ _ => by kernel_rfl
  have mf : ∀ (x : Value) (W : World), (method 231 110 x "loop.example/g00004/impl.fault").run Tryz.prog W = .ok (179, x) W := fun _ _ => by kernel_rfl
  have CT := hide TK
  have CP := hide PL
  have CS := hide SM
  have CF := hide FT
  clear TK PL SM FT
  go_enter Tryz.func19, Tryz.ntmps19
  go_wp2
  go_region_with (go_at_call 38; refine (MK.out _).mono ?_; rintro e w1 ⟨rfl, hb, n⟩; have B1 := hide (B.out.drew1.up n); have l0 : w1.cell? ⟨w.heap.size, 0, none⟩ = some (.int .i64 24) := B1.out.cell 0; have lk : (Instr.lookup 62 (.map (some (w.heap.size + 1))) (.int .i64 24) false).run Tryz.prog w1 = .ok (.func (Fn.func 67) #[] #[]) w1 := (regLook w1 (w.heap.size + 1) (by simpa using hb) 24).trans rfl; have N1 := hide (nxt N.out.drew n); clear n hb)
  all_goals
    clear lk l0
    go_wp2_with fail
    refine (newUpdate_any _).mono ?_
    rintro e w2 ⟨rfl, R2, n2'⟩
    have lq := B1.out.lt
    have B2 := hide (B1.out.up n2')
    have N2 := hide (nxt N1.out n2')
    clear n2' B1 N1
    generalize w1.heap.size = q at *
    have qn : q ≠ w.heap.size := by omega
    have LQ := hide (Nat.le_of_lt lq)
    clear lq
    have l0 : w2.cell? ⟨w.heap.size, 0, none⟩ = some (Value.int .i64 24) := B2.out.cell 0
    have l1 : w2.cell? ⟨w.heap.size, 1, none⟩ = some (Value.int .i64 v) := B2.out.cell 1
    have l2 : w2.cell? ⟨w.heap.size, 2, none⟩ = some (Value.slice a2 n2 c2) := B2.out.cell 2
    have l3 : w2.cell? ⟨w.heap.size, 3, none⟩ = some (Value.slice a3 n3 c3) := B2.out.cell 3
    have l4 : w2.cell? ⟨w.heap.size, 4, none⟩ = some (Value.string ho) := B2.out.cell 4
    have l5 : w2.cell? ⟨w.heap.size, 5, none⟩ = some (Value.slice a5 n5 c5) := B2.out.cell 5
    have l6 : w2.cell? ⟨w.heap.size, 6, none⟩ = some (Value.slice a6 n6 c6) := B2.out.cell 6
    have l7 : w2.cell? ⟨w.heap.size, 7, none⟩ = some (Value.int .i64 ag) := B2.out.cell 7
    have l8 : w2.cell? ⟨w.heap.size, 8, none⟩ = some (Value.int .i64 ea) := B2.out.cell 8
    have l9 : w2.cell? ⟨w.heap.size, 9, none⟩ = some (Value.slice a9 n9 c9) := B2.out.cell 9
    have l10 : w2.cell? ⟨w.heap.size, 10, none⟩ = some (Value.bool rs) := B2.out.cell 10
    have l11 : w2.cell? ⟨w.heap.size, 11, none⟩ = some (Value.slice a11 n11 c11) := B2.out.cell 11
    have l12 : w2.cell? ⟨w.heap.size, 12, none⟩ = some (Value.slice a12 n12 c12) := B2.out.cell 12
    have H2 := hide R2
    clear R2
    go_wp2_with fail
    refine (CT.out w2 q H2.out).mono ?_
    rintro e w3 ⟨rfl, O3, R3⟩
    have B3 := hide (B2.out.oth O3 (fun h => qn h.symm))
    have N3 := hide (N2.out.trans (O3.below LQ.out N2.out.size))
    have H3 := hide R3
    clear O3 R3 H2 N2 B2 l0 l1 l2 l3 l4 l5 l6 l7 l8 l9 l10 l11 l12
    have l0 : w3.cell? ⟨w.heap.size, 0, none⟩ = some (Value.int .i64 24) := B3.out.cell 0
    have l1 : w3.cell? ⟨w.heap.size, 1, none⟩ = some (Value.int .i64 v) := B3.out.cell 1
    have l2 : w3.cell? ⟨w.heap.size, 2, none⟩ = some (Value.slice a2 n2 c2) := B3.out.cell 2
    have l3 : w3.cell? ⟨w.heap.size, 3, none⟩ = some (Value.slice a3 n3 c3) := B3.out.cell 3
    have l4 : w3.cell? ⟨w.heap.size, 4, none⟩ = some (Value.string ho) := B3.out.cell 4
    have l5 : w3.cell? ⟨w.heap.size, 5, none⟩ = some (Value.slice a5 n5 c5) := B3.out.cell 5
    have l6 : w3.cell? ⟨w.heap.size, 6, none⟩ = some (Value.slice a6 n6 c6) := B3.out.cell 6
    have l7 : w3.cell? ⟨w.heap.size, 7, none⟩ = some (Value.int .i64 ag) := B3.out.cell 7
    have l8 : w3.cell? ⟨w.heap.size, 8, none⟩ = some (Value.int .i64 ea) := B3.out.cell 8
    have l9 : w3.cell? ⟨w.heap.size, 9, none⟩ = some (Value.slice a9 n9 c9) := B3.out.cell 9
    have l10 : w3.cell? ⟨w.heap.size, 10, none⟩ = some (Value.bool rs) := B3.out.cell 10
    have l11 : w3.cell? ⟨w.heap.size, 11, none⟩ = some (Value.slice a11 n11 c11) := B3.out.cell 11
    have l12 : w3.cell? ⟨w.heap.size, 12, none⟩ = some (Value.slice a12 n12 c12) := B3.out.cell 12
    go_wp2
    go_region_with (first | (go_at_call 40; refine (CP.out _ q H3.out.drew1).mono ?_; rintro e w4 ⟨rfl, n4⟩; have B4 := hide (B3.out.drew1.up n4); have m0 : w4.cell? ⟨w.heap.size, 0, none⟩ = some (Value.int .i64 24) := B4.out.cell 0; have m1 : w4.cell? ⟨w.heap.size, 1, none⟩ = some (Value.int .i64 v) := B4.out.cell 1; have m2 : w4.cell? ⟨w.heap.size, 2, none⟩ = some (Value.slice a2 n2 c2) := B4.out.cell 2; have m3 : w4.cell? ⟨w.heap.size, 3, none⟩ = some (Value.slice a3 n3 c3) := B4.out.cell 3; have m4 : w4.cell? ⟨w.heap.size, 4, none⟩ = some (Value.string ho) := B4.out.cell 4; have m5 : w4.cell? ⟨w.heap.size, 5, none⟩ = some (Value.slice a5 n5 c5) := B4.out.cell 5; have m6 : w4.cell? ⟨w.heap.size, 6, none⟩ = some (Value.slice a6 n6 c6) := B4.out.cell 6; have m7 : w4.cell? ⟨w.heap.size, 7, none⟩ = some (Value.int .i64 ag) := B4.out.cell 7; have m8 : w4.cell? ⟨w.heap.size, 8, none⟩ = some (Value.int .i64 ea) := B4.out.cell 8; have m9 : w4.cell? ⟨w.heap.size, 9, none⟩ = some (Value.slice a9 n9 c9) := B4.out.cell 9; have m10 : w4.cell? ⟨w.heap.size, 10, none⟩ = some (Value.bool rs) := B4.out.cell 10; have m11 : w4.cell? ⟨w.heap.size, 11, none⟩ = some (Value.slice a11 n11 c11) := B4.out.cell 11; have m12 : w4.cell? ⟨w.heap.size, 12, none⟩ = some (Value.slice a12 n12 c12) := B4.out.cell 12; have H4 := hide (H3.out.drew1.up n4); have N4 := hide (nxt N3.out.drew n4); clear n4) | (go_at_call 39; refine (CS.out _ N4.out).mono ?_; rintro e w5 ⟨rfl, n5⟩; have H5 := hide (H4.out.up n5); have N5 := hide (nxt N4.out n5); clear n5))
    all_goals
      clear l0 m0 l1 m1 l2 m2 l3 m3 l4 m4 l5 m5 l6 m6 l7 m7 l8 m8 l9 m9 l10 m10 l11 m11 l12 m12
      cases b with
      | true =>
        go_wp2_with fail
        refine (CF.out _ q N5.out H5.out).mono ?_
        rintro e w6 ⟨rfl, n6⟩
        go_wp2
        go_ret2
        exact ⟨⟨q, rfl, LQ.out, H5.out.up n6⟩, nxt N5.out n6⟩
      | false =>
        go_wp2
        go_ret2
        exact ⟨rfl, N5.out⟩
end
end Go.Proofs.YtmfajpplagbfcaaGreatDoor
namespace Go.Proofs.YtmfajpplagbfcaaGreatDoor
set_option maxRecDepth 100000
open Go Go.RowKit
def mq0 : MQ := ⟨none, 0, 0, none, 0, 0, none, 0, 0, none, 0, 0, none, 0, 0, none, 0, 0, none, 0, 0, []⟩
def msg0 : Msg := ⟨0, 0, [], [], [], [], [], 0, 0, [], false, [], []⟩
theorem rd0 (w : World) (g : Nat) (a : Option Addr) (k : IntKind) : Rd w g a k [] := fun h => absurd h (by simp)
theorem rdT0 (w : World) (g : Nat) (a : Option Addr) : RdT w g a [] := fun h => absurd h (by simp)
theorem rdL0 (w : World) (g : Nat) (a : Option Addr) (ps : List Plb) : RdL w g a [] ps := ⟨fun h => absurd h (by simp), fun i hi => absurd hi (by simp)⟩
theorem byt0 : Byt [] := fun i => by simp
theorem none0 {P : Nat → Prop} {x : List (List Int)} (h : x = []) : ∀ i, i < x.length → P i := fun i hi => absurd hi (by simp [h])
def TyP (w : World) (s : Bool) (T S : TypeId) (fs : List Value) (f : Int) (e : Ending) (w' : World) : Prop :=
  (s = false ∧ e = .returned (.tuple #[.nilIface, .int .i64 2]) ∨ s = true ∧ ∃ q, e = .returned (.tuple #[.iface T (.pointer (some ⟨q, 0, none⟩)), .int .i64 f]) ∧ w.heap.size ≤ q ∧ RwC w' q fs S) ∧ Below w.heap.size w w'
def answerM (m : Msg) : Msg := { msg0 with k := 2, v := m.v, r := m.r, s := m.s, rs := m.rs }
def answerQ (p : MQ) : MQ := { mq0 with a2 := p.a2, c2 := p.c2, g2 := p.g2, a3 := p.a3, c3 := p.c3, g3 := p.g3 }
theorem answerM_is {m : Msg} (i : IsM m) : IsM (answerM m) := ⟨i.rB, i.sB, byt0, byt0, byt0, none0 rfl, i.rL, i.sL, Nat.zero_le _, Nat.zero_le _, Nat.zero_le _, Nat.zero_le _, Nat.zero_le _, none0 rfl, Nat.zero_le _, fun l hl => absurd hl (by simp [answerM, msg0])⟩
theorem answerM_has {w : World} {p : MQ} {m : Msg} (h : HasM w p m) : HasM w (answerQ p) (answerM m) := ⟨h.r, h.s, rdT0 _ _ _, rd0 _ _ _ _, rd0 _ _ _ _, rdL0 _ _ _ _, rd0 _ _ _ _, Nat.zero_le _⟩
theorem typedAnswer_any (w : World) (p : MQ) (m : Msg) (h : HasM w p m) (i : IsM m) (hk : m.k = 2) :
    Calls Tryz.prog 19 #[.agg (mgV p m)] w (TyP w (sameM (answerM m) m) 90 92 [.int .i64 m.v, .slice p.a2 m.r.length p.c2, .slice p.a3 m.s.length p.c3, .bool m.rs] (fpF m.v m.r.length m.s.length)) := by
  obtain ⟨k, v, r, s, ho, pr, ti, ag, ea, bi, rs, ce, pf⟩ := m
  simp only at hk
  subst hk
  exact typedAnswer_walk w v ag ea p.a2 p.a3 p.a5 p.a6 p.a9 p.a11 p.a12 r.length s.length pr.length ti.length bi.length ce.length pf.length p.c2 p.c3 p.c5 p.c6 p.c9 p.c11 p.c12 ⟨⟨ho⟩⟩ rs (mgV (answerQ p) (answerM ⟨2, v, r, s, ho, pr, ti, ag, ea, bi, rs, ce, pf⟩)) (sameM (answerM ⟨2, v, r, s, ho, pr, ti, ag, ea, bi, rs, ce, pf⟩) ⟨2, v, r, s, ho, pr, ti, ag, ea, bi, rs, ce, pf⟩) _
    (fun W q R => answerTake_any W q _ _ _ _ _ _ _ _ _ _ _ _ _ _ _ _ _ _ _ _ _ _ _ _ _ _ _ _ _ _ _ _ R)
    (fun W q R => plainAnswer_any W q _ _ _ _ _ _ _ _ _ R)
    (fun W n => isSame_any W (answerQ p) p _ _ (answerM_has (h.up n)) (h.up n) (answerM_is i) i)
    (fun W q _ R => (firstFault_any W q _ _ _ _ _ _ _ i.rL i.sL (R.cell 0) (R.cell 1) (R.cell 2)).mono (by rintro e w' ⟨rfl, rfl⟩; exact ⟨rfl, Below.refl _ _⟩))
def ticketM (m : Msg) : Msg := { msg0 with k := 4, ag := m.ag, ea := m.ea, r := m.r, ti := m.ti }
def ticketQ (p : MQ) : MQ := { mq0 with a2 := p.a2, c2 := p.c2, g2 := p.g2, a6 := p.a6, c6 := p.c6, g6 := p.g6 }
theorem ticketM_is {m : Msg} (i : IsM m) : IsM (ticketM m) := ⟨i.rB, byt0, i.tiB, byt0, byt0, none0 rfl, i.rL, Nat.zero_le _, Nat.zero_le _, i.tiL, Nat.zero_le _, Nat.zero_le _, Nat.zero_le _, none0 rfl, Nat.zero_le _, fun l hl => absurd hl (by simp [ticketM, msg0])⟩
theorem ticketM_has {w : World} {p : MQ} {m : Msg} (h : HasM w p m) : HasM w (ticketQ p) (ticketM m) := ⟨h.r, rd0 _ _ _ _, rdT0 _ _ _, h.ti, rd0 _ _ _ _, rdL0 _ _ _ _, rd0 _ _ _ _, Nat.zero_le _⟩
theorem typedTicket_any (w : World) (p : MQ) (m : Msg) (h : HasM w p m) (i : IsM m) (hk : m.k = 4) :
    Calls Tryz.prog 19 #[.agg (mgV p m)] w (TyP w (sameM (ticketM m) m) 93 95 [.int .i64 m.ag, .int .i64 m.ea, .slice p.a2 m.r.length p.c2, .slice p.a6 m.ti.length p.c6] (tiF m.ag m.ea m.r.length m.ti.length)) := by
  obtain ⟨k, v, r, s, ho, pr, ti, ag, ea, bi, rs, ce, pf⟩ := m
  simp only at hk
  subst hk
  exact typedTicket_walk w v ag ea p.a2 p.a3 p.a5 p.a6 p.a9 p.a11 p.a12 r.length s.length pr.length ti.length bi.length ce.length pf.length p.c2 p.c3 p.c5 p.c6 p.c9 p.c11 p.c12 ⟨⟨ho⟩⟩ rs (mgV (ticketQ p) (ticketM ⟨4, v, r, s, ho, pr, ti, ag, ea, bi, rs, ce, pf⟩)) (sameM (ticketM ⟨4, v, r, s, ho, pr, ti, ag, ea, bi, rs, ce, pf⟩) ⟨4, v, r, s, ho, pr, ti, ag, ea, bi, rs, ce, pf⟩) _
    (fun W q R => ticketTake_any W q _ _ _ _ _ _ _ _ _ _ _ _ _ _ _ _ _ _ _ _ _ _ _ _ _ _ _ _ _ _ _ _ R)
    (fun W q R => plainTicket_any W q _ _ _ _ _ _ _ _ _ R)
    (fun W n => isSame_any W (ticketQ p) p _ _ (ticketM_has (h.up n)) (h.up n) (ticketM_is i) i)
    (fun W q _ R => (ticketFault_any W q _ _ _ _ _ _ _ _ i.rL i.tiL (R.cell 0) (R.cell 1) (R.cell 2) (R.cell 3)).mono (by rintro e w' ⟨rfl, rfl⟩; exact ⟨rfl, Below.refl _ _⟩))
def endM (_m : Msg) : Msg := { msg0 with k := 5 }
def endQ (_p : MQ) : MQ := mq0
theorem endM_is {m : Msg} (_i : IsM m) : IsM (endM m) := ⟨byt0, byt0, byt0, byt0, byt0, none0 rfl, Nat.zero_le _, Nat.zero_le _, Nat.zero_le _, Nat.zero_le _, Nat.zero_le _, Nat.zero_le _, Nat.zero_le _, none0 rfl, Nat.zero_le _, fun l hl => absurd hl (by simp [endM, msg0])⟩
theorem endM_has {w : World} {p : MQ} {m : Msg} (_h : HasM w p m) : HasM w (endQ p) (endM m) := ⟨rd0 _ _ _ _, rd0 _ _ _ _, rdT0 _ _ _, rd0 _ _ _ _, rd0 _ _ _ _, rdL0 _ _ _ _, rd0 _ _ _ _, Nat.zero_le _⟩
theorem typedEnd_any (w : World) (p : MQ) (m : Msg) (h : HasM w p m) (i : IsM m) (hk : m.k = 5) :
    Calls Tryz.prog 19 #[.agg (mgV p m)] w (TyP w (sameM (endM m) m) 96 98 [] (0)) := by
  obtain ⟨k, v, r, s, ho, pr, ti, ag, ea, bi, rs, ce, pf⟩ := m
  simp only at hk
  subst hk
  exact typedEnd_walk w v ag ea p.a2 p.a3 p.a5 p.a6 p.a9 p.a11 p.a12 r.length s.length pr.length ti.length bi.length ce.length pf.length p.c2 p.c3 p.c5 p.c6 p.c9 p.c11 p.c12 ⟨⟨ho⟩⟩ rs (mgV (endQ p) (endM ⟨5, v, r, s, ho, pr, ti, ag, ea, bi, rs, ce, pf⟩)) (sameM (endM ⟨5, v, r, s, ho, pr, ti, ag, ea, bi, rs, ce, pf⟩) ⟨5, v, r, s, ho, pr, ti, ag, ea, bi, rs, ce, pf⟩) _
    (fun W q R => (endTake_any W _ _ _ _ _ _ _ _ _ _ _ _ _ _ _ _ _ _ _ _ _ _ _ _ _ _ _ _).mono (by rintro e w' ⟨rfl, b⟩; exact ⟨rfl, Oth.of b, R.up b⟩))
    (fun W q _ => plainEnd_any W _)
    (fun W n => isSame_any W (endQ p) p _ _ (endM_has (h.up n)) (h.up n) (endM_is i) i)
    (fun W q _ _ => (endFault_any W _).mono (by rintro e w' ⟨rfl, rfl⟩; exact ⟨rfl, Below.refl _ _⟩))
def extrasM (m : Msg) : Msg := { msg0 with k := 8, pr := m.pr, ea := m.ea }
def extrasQ (p : MQ) : MQ := { mq0 with a5 := p.a5, c5 := p.c5, g5 := p.g5 }
theorem extrasM_is {m : Msg} (i : IsM m) : IsM (extrasM m) := ⟨byt0, byt0, byt0, byt0, byt0, none0 rfl, Nat.zero_le _, Nat.zero_le _, i.prL, Nat.zero_le _, Nat.zero_le _, Nat.zero_le _, Nat.zero_le _, none0 rfl, Nat.zero_le _, i.prZ⟩
theorem extrasM_has {w : World} {p : MQ} {m : Msg} (h : HasM w p m) : HasM w (extrasQ p) (extrasM m) := ⟨rd0 _ _ _ _, rd0 _ _ _ _, h.pr, rd0 _ _ _ _, rd0 _ _ _ _, rdL0 _ _ _ _, rd0 _ _ _ _, h.prC⟩
theorem typedExtras_any (w : World) (p : MQ) (m : Msg) (h : HasM w p m) (i : IsM m) (hk : m.k = 8) :
    Calls Tryz.prog 19 #[.agg (mgV p m)] w (TyP w (sameM (extrasM m) m) 99 101 [.slice p.a5 m.pr.length p.c5, .int .i64 m.ea] (exF m.pr m.ea)) := by
  obtain ⟨k, v, r, s, ho, pr, ti, ag, ea, bi, rs, ce, pf⟩ := m
  simp only at hk
  subst hk
  exact typedExtras_walk w v ag ea p.a2 p.a3 p.a5 p.a6 p.a9 p.a11 p.a12 r.length s.length pr.length ti.length bi.length ce.length pf.length p.c2 p.c3 p.c5 p.c6 p.c9 p.c11 p.c12 ⟨⟨ho⟩⟩ rs (mgV (extrasQ p) (extrasM ⟨8, v, r, s, ho, pr, ti, ag, ea, bi, rs, ce, pf⟩)) (sameM (extrasM ⟨8, v, r, s, ho, pr, ti, ag, ea, bi, rs, ce, pf⟩) ⟨8, v, r, s, ho, pr, ti, ag, ea, bi, rs, ce, pf⟩) _
    (fun W q R => extrasTake_any W q _ _ _ _ _ _ _ _ _ _ _ _ _ _ _ _ _ _ _ _ _ _ _ _ _ _ _ _ _ _ R)
    (fun W q R => plainExtras_any W q _ _ _ _ _ R)
    (fun W n => isSame_any W (extrasQ p) p _ _ (extrasM_has (h.up n)) (h.up n) (extrasM_is i) i)
    (fun W q n R => (extrasFault_any W q _ _ _ _ _ (h.up n).pr h.prC i.prL i.prZ (R.cell 0) (R.cell 1)).mono (by rintro e w' ⟨rfl, rfl⟩; exact ⟨rfl, Below.refl _ _⟩))
def certsM (m : Msg) : Msg := { msg0 with k := 11, ce := m.ce }
def certsQ (p : MQ) : MQ := { mq0 with a11 := p.a11, c11 := p.c11, g11 := p.g11, ps := p.ps }
theorem certsM_is {m : Msg} (i : IsM m) : IsM (certsM m) := ⟨byt0, byt0, byt0, byt0, byt0, i.ceB, Nat.zero_le _, Nat.zero_le _, Nat.zero_le _, Nat.zero_le _, Nat.zero_le _, i.ceL, Nat.zero_le _, i.ceZ, Nat.zero_le _, fun l hl => absurd hl (by simp [certsM, msg0])⟩
theorem certsM_has {w : World} {p : MQ} {m : Msg} (h : HasM w p m) : HasM w (certsQ p) (certsM m) := ⟨rd0 _ _ _ _, rd0 _ _ _ _, rdT0 _ _ _, rd0 _ _ _ _, rd0 _ _ _ _, h.ce, rd0 _ _ _ _, Nat.zero_le _⟩
theorem typedCerts_any (w : World) (p : MQ) (m : Msg) (h : HasM w p m) (i : IsM m) (hk : m.k = 11) :
    Calls Tryz.prog 19 #[.agg (mgV p m)] w (TyP w (sameM (certsM m) m) 102 104 [.slice p.a11 m.ce.length p.c11] (ceF m.ce)) := by
  obtain ⟨k, v, r, s, ho, pr, ti, ag, ea, bi, rs, ce, pf⟩ := m
  simp only at hk
  subst hk
  exact typedCerts_walk w v ag ea p.a2 p.a3 p.a5 p.a6 p.a9 p.a11 p.a12 r.length s.length pr.length ti.length bi.length ce.length pf.length p.c2 p.c3 p.c5 p.c6 p.c9 p.c11 p.c12 ⟨⟨ho⟩⟩ rs (mgV (certsQ p) (certsM ⟨11, v, r, s, ho, pr, ti, ag, ea, bi, rs, ce, pf⟩)) (sameM (certsM ⟨11, v, r, s, ho, pr, ti, ag, ea, bi, rs, ce, pf⟩) ⟨11, v, r, s, ho, pr, ti, ag, ea, bi, rs, ce, pf⟩) _
    (fun W q R => certsTake_any W q _ _ _ _ _ _ _ _ _ _ _ _ _ _ _ _ _ _ _ _ _ _ _ _ _ _ _ _ _ R)
    (fun W q R => plainCerts_any W q _ _ _ _ R)
    (fun W n => isSame_any W (certsQ p) p _ _ (certsM_has (h.up n)) (h.up n) (certsM_is i) i)
    (fun W q n R => certsFault_any W q _ _ _ _ _ (h.up n).ce i.ceL i.ceZ (R.cell 0))
def proofM (m : Msg) : Msg := { msg0 with k := 15, pf := m.pf }
def proofQ (p : MQ) : MQ := { mq0 with a12 := p.a12, c12 := p.c12, g12 := p.g12 }
theorem proofM_is {m : Msg} (i : IsM m) : IsM (proofM m) := ⟨byt0, byt0, byt0, byt0, i.pfB, none0 rfl, Nat.zero_le _, Nat.zero_le _, Nat.zero_le _, Nat.zero_le _, Nat.zero_le _, Nat.zero_le _, i.pfL, none0 rfl, Nat.zero_le _, fun l hl => absurd hl (by simp [proofM, msg0])⟩
theorem proofM_has {w : World} {p : MQ} {m : Msg} (h : HasM w p m) : HasM w (proofQ p) (proofM m) := ⟨rd0 _ _ _ _, rd0 _ _ _ _, rdT0 _ _ _, rd0 _ _ _ _, rd0 _ _ _ _, rdL0 _ _ _ _, h.pf, Nat.zero_le _⟩
theorem typedProof_any (w : World) (p : MQ) (m : Msg) (h : HasM w p m) (i : IsM m) (hk : m.k = 15) :
    Calls Tryz.prog 19 #[.agg (mgV p m)] w (TyP w (sameM (proofM m) m) 105 107 [.slice p.a12 m.pf.length p.c12] (pfF 64 m.pf.length)) := by
  obtain ⟨k, v, r, s, ho, pr, ti, ag, ea, bi, rs, ce, pf⟩ := m
  simp only at hk
  subst hk
  exact typedProof_walk w v ag ea p.a2 p.a3 p.a5 p.a6 p.a9 p.a11 p.a12 r.length s.length pr.length ti.length bi.length ce.length pf.length p.c2 p.c3 p.c5 p.c6 p.c9 p.c11 p.c12 ⟨⟨ho⟩⟩ rs (mgV (proofQ p) (proofM ⟨15, v, r, s, ho, pr, ti, ag, ea, bi, rs, ce, pf⟩)) (sameM (proofM ⟨15, v, r, s, ho, pr, ti, ag, ea, bi, rs, ce, pf⟩) ⟨15, v, r, s, ho, pr, ti, ag, ea, bi, rs, ce, pf⟩) _
    (fun W q R => proofTake_any W q _ _ _ _ _ _ _ _ _ _ _ _ _ _ _ _ _ _ _ _ _ _ _ _ _ _ _ _ _ R)
    (fun W q R => plainProof_any W q _ _ _ _ R)
    (fun W n => isSame_any W (proofQ p) p _ _ (proofM_has (h.up n)) (h.up n) (proofM_is i) i)
    (fun W q _ R => (proofFault_any W q _ _ _ i.pfL (R.cell 0)).mono (by rintro e w' ⟨rfl, rfl⟩; exact ⟨rfl, Below.refl _ _⟩))
def finishedM (m : Msg) : Msg := { msg0 with k := 20, pf := m.pf }
def finishedQ (p : MQ) : MQ := { mq0 with a12 := p.a12, c12 := p.c12, g12 := p.g12 }
theorem finishedM_is {m : Msg} (i : IsM m) : IsM (finishedM m) := ⟨byt0, byt0, byt0, byt0, i.pfB, none0 rfl, Nat.zero_le _, Nat.zero_le _, Nat.zero_le _, Nat.zero_le _, Nat.zero_le _, Nat.zero_le _, i.pfL, none0 rfl, Nat.zero_le _, fun l hl => absurd hl (by simp [finishedM, msg0])⟩
theorem finishedM_has {w : World} {p : MQ} {m : Msg} (h : HasM w p m) : HasM w (finishedQ p) (finishedM m) := ⟨rd0 _ _ _ _, rd0 _ _ _ _, rdT0 _ _ _, rd0 _ _ _ _, rd0 _ _ _ _, rdL0 _ _ _ _, h.pf, Nat.zero_le _⟩
theorem typedFinished_any (w : World) (p : MQ) (m : Msg) (h : HasM w p m) (i : IsM m) (hk : m.k = 20) :
    Calls Tryz.prog 19 #[.agg (mgV p m)] w (TyP w (sameM (finishedM m) m) 108 109 [.slice p.a12 m.pf.length p.c12] (pfF 32 m.pf.length)) := by
  obtain ⟨k, v, r, s, ho, pr, ti, ag, ea, bi, rs, ce, pf⟩ := m
  simp only at hk
  subst hk
  exact typedFinished_walk w v ag ea p.a2 p.a3 p.a5 p.a6 p.a9 p.a11 p.a12 r.length s.length pr.length ti.length bi.length ce.length pf.length p.c2 p.c3 p.c5 p.c6 p.c9 p.c11 p.c12 ⟨⟨ho⟩⟩ rs (mgV (finishedQ p) (finishedM ⟨20, v, r, s, ho, pr, ti, ag, ea, bi, rs, ce, pf⟩)) (sameM (finishedM ⟨20, v, r, s, ho, pr, ti, ag, ea, bi, rs, ce, pf⟩) ⟨20, v, r, s, ho, pr, ti, ag, ea, bi, rs, ce, pf⟩) _
    (fun W q R => finishedTake_any W q _ _ _ _ _ _ _ _ _ _ _ _ _ _ _ _ _ _ _ _ _ _ _ _ _ _ _ _ _ R)
    (fun W q R => plainFinished_any W q _ _ _ _ R)
    (fun W n => isSame_any W (finishedQ p) p _ _ (finishedM_has (h.up n)) (h.up n) (finishedM_is i) i)
    (fun W q _ R => (finishedFault_any W q _ _ _ i.pfL (R.cell 0)).mono (by rintro e w' ⟨rfl, rfl⟩; exact ⟨rfl, Below.refl _ _⟩))
def updateM (m : Msg) : Msg := { msg0 with k := 24, ea := m.ea }
def updateQ (_p : MQ) : MQ := mq0
theorem updateM_is {m : Msg} (_i : IsM m) : IsM (updateM m) := ⟨byt0, byt0, byt0, byt0, byt0, none0 rfl, Nat.zero_le _, Nat.zero_le _, Nat.zero_le _, Nat.zero_le _, Nat.zero_le _, Nat.zero_le _, Nat.zero_le _, none0 rfl, Nat.zero_le _, fun l hl => absurd hl (by simp [updateM, msg0])⟩
theorem updateM_has {w : World} {p : MQ} {m : Msg} (_h : HasM w p m) : HasM w (updateQ p) (updateM m) := ⟨rd0 _ _ _ _, rd0 _ _ _ _, rdT0 _ _ _, rd0 _ _ _ _, rd0 _ _ _ _, rdL0 _ _ _ _, rd0 _ _ _ _, Nat.zero_le _⟩
theorem typedUpdate_any (w : World) (p : MQ) (m : Msg) (h : HasM w p m) (i : IsM m) (hk : m.k = 24) :
    Calls Tryz.prog 19 #[.agg (mgV p m)] w (TyP w (sameM (updateM m) m) 110 112 [.int .i64 m.ea] (upF m.ea)) := by
  obtain ⟨k, v, r, s, ho, pr, ti, ag, ea, bi, rs, ce, pf⟩ := m
  simp only at hk
  subst hk
  exact typedUpdate_walk w v ag ea p.a2 p.a3 p.a5 p.a6 p.a9 p.a11 p.a12 r.length s.length pr.length ti.length bi.length ce.length pf.length p.c2 p.c3 p.c5 p.c6 p.c9 p.c11 p.c12 ⟨⟨ho⟩⟩ rs (mgV (updateQ p) (updateM ⟨24, v, r, s, ho, pr, ti, ag, ea, bi, rs, ce, pf⟩)) (sameM (updateM ⟨24, v, r, s, ho, pr, ti, ag, ea, bi, rs, ce, pf⟩) ⟨24, v, r, s, ho, pr, ti, ag, ea, bi, rs, ce, pf⟩) _
    (fun W q R => updateTake_any W q _ _ _ _ _ _ _ _ _ _ _ _ _ _ _ _ _ _ _ _ _ _ _ _ _ _ _ _ _ R)
    (fun W q R => plainUpdate_any W q _ _ R)
    (fun W n => isSame_any W (updateQ p) p _ _ (updateM_has (h.up n)) (h.up n) (updateM_is i) i)
    (fun W q _ R => (updateFault_any W q _ (R.cell 0)).mono (by rintro e w' ⟨rfl, rfl⟩; exact ⟨rfl, Below.refl _ _⟩))
end Go.Proofs.YtmfajpplagbfcaaGreatDoor
namespace Go.Proofs.YtmfajpplagbfcaaGreatDoor
set_option maxRecDepth 100000
open Go Go.RowKit
section
variable (w : World) (v ag ea : Int) (a2 a3 a5 a6 a9 a11 a12 : Option Addr) (n2 n3 n5 n6 n9 n11 n12 c2 c3 c5 c6 c9 c11 c12 : Nat) (ho : ByteArray) (rs : Bool)
set_option maxRecDepth 20000 in
set_option maxHeartbeats 2000000 in
theorem typedHello_walk (PM : Array Value) (b : Bool) (f : Int)
    (TK : ∀ W q, RwC W q [.int .i64 0, .slice none 0 0, .slice none 0 0, .string ⟨#[]⟩, .slice none 0 0, .slice none 0 0, .int .i64 0, .int .i64 0, .slice none 0 0] 89 → Calls Tryz.prog 130 #[.pointer (some ⟨q, 0, none⟩), .agg #[Value.int .i64 1, Value.int .i64 v, Value.slice a2 n2 c2, Value.slice a3 n3 c3, Value.string ho, Value.slice a5 n5 c5, Value.slice a6 n6 c6, Value.int .i64 ag, Value.int .i64 ea, Value.slice a9 n9 c9, Value.bool rs, Value.slice a11 n11 c11, Value.slice a12 n12 c12]] W fun e W' => e = .returned (.tuple #[]) ∧ Oth q W W' ∧ RwC W' q [Value.int .i64 v, Value.slice a2 n2 c2, Value.slice a3 n3 c3, Value.string ho, Value.slice a5 n5 c5, Value.slice a6 n6 c6, Value.int .i64 ag, Value.int .i64 ea, Value.slice a9 n9 c9] 89)
    (PL : ∀ W q, RwC W q [Value.int .i64 v, Value.slice a2 n2 c2, Value.slice a3 n3 c3, Value.string ho, Value.slice a5 n5 c5, Value.slice a6 n6 c6, Value.int .i64 ag, Value.int .i64 ea, Value.slice a9 n9 c9] 89 → Calls Tryz.prog 40 #[.iface 85 (.pointer (some ⟨q, 0, none⟩))] W fun e W' => e = .returned (.agg PM) ∧ Below W.heap.size W W')
    (SM : ∀ W, Below w.heap.size w W → Calls Tryz.prog 39 #[.agg PM, .agg #[Value.int .i64 1, Value.int .i64 v, Value.slice a2 n2 c2, Value.slice a3 n3 c3, Value.string ho, Value.slice a5 n5 c5, Value.slice a6 n6 c6, Value.int .i64 ag, Value.int .i64 ea, Value.slice a9 n9 c9, Value.bool rs, Value.slice a11 n11 c11, Value.slice a12 n12 c12]] W fun e W' => e = .returned (.bool b) ∧ Below W.heap.size W W')
    (FT : ∀ W q, Below w.heap.size w W → RwC W q [Value.int .i64 v, Value.slice a2 n2 c2, Value.slice a3 n3 c3, Value.string ho, Value.slice a5 n5 c5, Value.slice a6 n6 c6, Value.int .i64 ag, Value.int .i64 ea, Value.slice a9 n9 c9] 89 → Calls Tryz.prog 128 #[.pointer (some ⟨q, 0, none⟩)] W fun e W' => e = .returned (.int .i64 f) ∧ Below W.heap.size W W') :
    Calls Tryz.prog 19 #[.agg #[Value.int .i64 1, Value.int .i64 v, Value.slice a2 n2 c2, Value.slice a3 n3 c3, Value.string ho, Value.slice a5 n5 c5, Value.slice a6 n6 c6, Value.int .i64 ag, Value.int .i64 ea, Value.slice a9 n9 c9, Value.bool rs, Value.slice a11 n11 c11, Value.slice a12 n12 c12]] w fun e w' => (b = false ∧ e = .returned (.tuple #[.nilIface, .int .i64 2]) ∨ b = true ∧ ∃ q, e = .returned (.tuple #[.iface 85 (.pointer (some ⟨q, 0, none⟩)), .int .i64 f]) ∧ w.heap.size ≤ q ∧ RwC w' q [Value.int .i64 v, Value.slice a2 n2 c2, Value.slice a3 n3 c3, Value.string ho, Value.slice a5 n5 c5, Value.slice a6 n6 c6, Value.int .i64 ag, Value.int .i64 ea, Value.slice a9 n9 c9] 89) ∧ Below w.heap.size w w' := by
  have B := hide (RwC.new w [Value.int .i64 1, Value.int .i64 v, Value.slice a2 n2 c2, Value.slice a3 n3 c3, Value.string ho, Value.slice a5 n5 c5, Value.slice a6 n6 c6, Value.int .i64 ag, Value.int .i64 ea, Value.slice a9 n9 c9, Value.bool rs, Value.slice a11 n11 c11, Value.slice a12 n12 c12] 26)
  have N := hide (show Below w.heap.size w (w.alloc (.cells #[Value.int .i64 1, Value.int .i64 v, Value.slice a2 n2 c2, Value.slice a3 n3 c3, Value.string ho, Value.slice a5 n5 c5, Value.slice a6 n6 c6, Value.int .i64 ag, Value.int .i64 ea, Value.slice a9 n9 c9, Value.bool rs, Value.slice a11 n11 c11, Value.slice a12 n12 c12] 26)) from (Below.refl _ _).alloc (Nat.le_refl _) _)
  have MK := hide messageKinds_any
  have eq0 : ∀ W, (binOp .eql 60 (.func (Fn.func 59) #[] #[]) .nilFunc).run Tryz.prog W = .ok (.bool false) W := fun _ => by kernel_rfl
  have mt : ∀ (x : Value) (W : World), (method 231 85 x "loop.example/g00004/impl.take").run Tryz.prog W = .ok (130, x) W := fun _ _ => by kernel_rfl
  have mf : ∀ (x : Value) (W : World), (method 231 85 x "loop.example/g00004/impl.fault").run Tryz.prog W = .ok (128, x) W := fun _ _ => by kernel_rfl
  have CT := hide TK
  have CP := hide PL
  have CS := hide SM
  have CF := hide FT
  clear TK PL SM FT
  go_enter Tryz.func19, Tryz.ntmps19
  go_wp2
  go_region_with (go_at_call 38; refine (MK.out _).mono ?_; rintro e w1 ⟨rfl, hb, n⟩; have B1 := hide (B.out.drew1.up n); have l0 : w1.cell? ⟨w.heap.size, 0, none⟩ = some (.int .i64 1) := B1.out.cell 0; have lk : (Instr.lookup 62 (.map (some (w.heap.size + 1))) (.int .i64 1) false).run Tryz.prog w1 = .ok (.func (Fn.func 59) #[] #[]) w1 := (regLook w1 (w.heap.size + 1) (by simpa using hb) 1).trans rfl; have N1 := hide (nxt N.out.drew n); clear n hb)
  all_goals
    clear lk l0
    go_wp2_with fail
    refine (newHello_any _).mono ?_
    rintro e w2 ⟨rfl, R2, n2'⟩
    have lq := B1.out.lt
    have B2 := hide (B1.out.up n2')
    have N2 := hide (nxt N1.out n2')
    clear n2' B1 N1
    generalize w1.heap.size = q at *
    have qn : q ≠ w.heap.size := by omega
    have LQ := hide (Nat.le_of_lt lq)
    clear lq
    have l0 : w2.cell? ⟨w.heap.size, 0, none⟩ = some (Value.int .i64 1) := B2.out.cell 0
    have l1 : w2.cell? ⟨w.heap.size, 1, none⟩ = some (Value.int .i64 v) := B2.out.cell 1
    have l2 : w2.cell? ⟨w.heap.size, 2, none⟩ = some (Value.slice a2 n2 c2) := B2.out.cell 2
    have l3 : w2.cell? ⟨w.heap.size, 3, none⟩ = some (Value.slice a3 n3 c3) := B2.out.cell 3
    have l4 : w2.cell? ⟨w.heap.size, 4, none⟩ = some (Value.string ho) := B2.out.cell 4
    have l5 : w2.cell? ⟨w.heap.size, 5, none⟩ = some (Value.slice a5 n5 c5) := B2.out.cell 5
    have l6 : w2.cell? ⟨w.heap.size, 6, none⟩ = some (Value.slice a6 n6 c6) := B2.out.cell 6
    have l7 : w2.cell? ⟨w.heap.size, 7, none⟩ = some (Value.int .i64 ag) := B2.out.cell 7
    have l8 : w2.cell? ⟨w.heap.size, 8, none⟩ = some (Value.int .i64 ea) := B2.out.cell 8
    have l9 : w2.cell? ⟨w.heap.size, 9, none⟩ = some (Value.slice a9 n9 c9) := B2.out.cell 9
    have l10 : w2.cell? ⟨w.heap.size, 10, none⟩ = some (Value.bool rs) := B2.out.cell 10
    have l11 : w2.cell? ⟨w.heap.size, 11, none⟩ = some (Value.slice a11 n11 c11) := B2.out.cell 11
    have l12 : w2.cell? ⟨w.heap.size, 12, none⟩ = some (Value.slice a12 n12 c12) := B2.out.cell 12
    have H2 := hide R2
    clear R2
    go_wp2_with fail
    refine (CT.out w2 q H2.out).mono ?_
    rintro e w3 ⟨rfl, O3, R3⟩
    have B3 := hide (B2.out.oth O3 (fun h => qn h.symm))
    have N3 := hide (N2.out.trans (O3.below LQ.out N2.out.size))
    have H3 := hide R3
    clear O3 R3 H2 N2 B2 l0 l1 l2 l3 l4 l5 l6 l7 l8 l9 l10 l11 l12
    have l0 : w3.cell? ⟨w.heap.size, 0, none⟩ = some (Value.int .i64 1) := B3.out.cell 0
    have l1 : w3.cell? ⟨w.heap.size, 1, none⟩ = some (Value.int .i64 v) := B3.out.cell 1
    have l2 : w3.cell? ⟨w.heap.size, 2, none⟩ = some (Value.slice a2 n2 c2) := B3.out.cell 2
    have l3 : w3.cell? ⟨w.heap.size, 3, none⟩ = some (Value.slice a3 n3 c3) := B3.out.cell 3
    have l4 : w3.cell? ⟨w.heap.size, 4, none⟩ = some (Value.string ho) := B3.out.cell 4
    have l5 : w3.cell? ⟨w.heap.size, 5, none⟩ = some (Value.slice a5 n5 c5) := B3.out.cell 5
    have l6 : w3.cell? ⟨w.heap.size, 6, none⟩ = some (Value.slice a6 n6 c6) := B3.out.cell 6
    have l7 : w3.cell? ⟨w.heap.size, 7, none⟩ = some (Value.int .i64 ag) := B3.out.cell 7
    have l8 : w3.cell? ⟨w.heap.size, 8, none⟩ = some (Value.int .i64 ea) := B3.out.cell 8
    have l9 : w3.cell? ⟨w.heap.size, 9, none⟩ = some (Value.slice a9 n9 c9) := B3.out.cell 9
    have l10 : w3.cell? ⟨w.heap.size, 10, none⟩ = some (Value.bool rs) := B3.out.cell 10
    have l11 : w3.cell? ⟨w.heap.size, 11, none⟩ = some (Value.slice a11 n11 c11) := B3.out.cell 11
    have l12 : w3.cell? ⟨w.heap.size, 12, none⟩ = some (Value.slice a12 n12 c12) := B3.out.cell 12
    go_wp2
    go_region_with (first | (go_at_call 40; refine (CP.out _ q H3.out.drew1).mono ?_; rintro e w4 ⟨rfl, n4⟩; have B4 := hide (B3.out.drew1.up n4); have m0 : w4.cell? ⟨w.heap.size, 0, none⟩ = some (Value.int .i64 1) := B4.out.cell 0; have m1 : w4.cell? ⟨w.heap.size, 1, none⟩ = some (Value.int .i64 v) := B4.out.cell 1; have m2 : w4.cell? ⟨w.heap.size, 2, none⟩ = some (Value.slice a2 n2 c2) := B4.out.cell 2; have m3 : w4.cell? ⟨w.heap.size, 3, none⟩ = some (Value.slice a3 n3 c3) := B4.out.cell 3; have m4 : w4.cell? ⟨w.heap.size, 4, none⟩ = some (Value.string ho) := B4.out.cell 4; have m5 : w4.cell? ⟨w.heap.size, 5, none⟩ = some (Value.slice a5 n5 c5) := B4.out.cell 5; have m6 : w4.cell? ⟨w.heap.size, 6, none⟩ = some (Value.slice a6 n6 c6) := B4.out.cell 6; have m7 : w4.cell? ⟨w.heap.size, 7, none⟩ = some (Value.int .i64 ag) := B4.out.cell 7; have m8 : w4.cell? ⟨w.heap.size, 8, none⟩ = some (Value.int .i64 ea) := B4.out.cell 8; have m9 : w4.cell? ⟨w.heap.size, 9, none⟩ = some (Value.slice a9 n9 c9) := B4.out.cell 9; have m10 : w4.cell? ⟨w.heap.size, 10, none⟩ = some (Value.bool rs) := B4.out.cell 10; have m11 : w4.cell? ⟨w.heap.size, 11, none⟩ = some (Value.slice a11 n11 c11) := B4.out.cell 11; have m12 : w4.cell? ⟨w.heap.size, 12, none⟩ = some (Value.slice a12 n12 c12) := B4.out.cell 12; have H4 := hide (H3.out.drew1.up n4); have N4 := hide (nxt N3.out.drew n4); clear n4) | (go_at_call 39; refine (CS.out _ N4.out).mono ?_; rintro e w5 ⟨rfl, n5⟩; have H5 := hide (H4.out.up n5); have N5 := hide (nxt N4.out n5); clear n5))
    all_goals
      clear l0 m0 l1 m1 l2 m2 l3 m3 l4 m4 l5 m5 l6 m6 l7 m7 l8 m8 l9 m9 l10 m10 l11 m11 l12 m12
      cases b with
      | true =>
        go_wp2_with fail
        refine (CF.out _ q N5.out H5.out).mono ?_
        rintro e w6 ⟨rfl, n6⟩
        go_wp2
        go_ret2
        exact ⟨⟨q, rfl, LQ.out, H5.out.up n6⟩, nxt N5.out n6⟩
      | false =>
        go_wp2
        go_ret2
        exact ⟨rfl, N5.out⟩
end
end Go.Proofs.YtmfajpplagbfcaaGreatDoor
