
/-
  A hash state told by the data that it has taken.
-/
import Derived.Test.YtljpjbojdekeiaaDoorHmN
namespace Go.Proofs.YtljpjbojdekeiaaDoor
set_option maxRecDepth 100000
open Go Go.RowKit

theorem left_left32 (l m : List Int) : left32 (left32 l ++ m) = left32 (l ++ m) := by
  induction h : l.length using Nat.strongRecOn generalizing l with
  | ind n ih =>
    by_cases c : l.length < 64
    · rw [left_short32 c]
    · have hl : (l.take 64).length = 64 := by rw [List.length_take]; omega
      have e : l = l.take 64 ++ l.drop 64 := (List.take_append_drop _ _).symm
      have r := ih (l.drop 64).length (by rw [List.length_drop]; omega) (l.drop 64) rfl
      rw [e, left_app32 _ _ hl, List.append_assoc, left_app32 _ _ hl]
      exact r
theorem left_is32 (l : List Int) : left32 l = l.drop (l.length - l.length % 64) := rfl
theorem left_byt32 {l : List Int} (h : Byt l) : Byt (left32 l) := by rw [left_is32]; exact byt_drop h _
/-- A state that has taken ys. -/
def SD (w : World) (v : Value) (B : Nat) (ys : List Int) : Prop := ST3 w v B ((ys.length : Nat) : Int) (tell32 (whole32 start32 ys)) (left32 ys)
theorem SD.up {w w' : World} {v : Value} {B : Nat} {ys : List Int} (h : SD w v B ys) (n : Below w.heap.size w w') : SD w' v B ys := ST3.up h n
theorem SD.le {w : World} {v : Value} {B B' : Nat} {ys : List Int} (h : SD w v B ys) (hB : B' ≤ B) : SD w v B' ys := by
  obtain ⟨a, a', c, c', g, g', e, o, o', h1, h2, h3, h4, h5, h6⟩ := h
  exact ⟨a, a', c, c', g, g', e, o, o', h1, h2, h3, h4, by omega, by omega⟩
theorem startD (w : World) (hS : HasT w 0 stL) : Calls Tryd.prog 18 #[] w fun e w' => (∃ v, e = .returned v ∧ SD w' v w.heap.size []) ∧ Below w.heap.size w w' := by
  refine (implStart w hS).mono ?_
  rintro e w' ⟨⟨v, rfl, h⟩, n⟩
  refine ⟨⟨v, rfl, ?_⟩, n⟩
  unfold SD
  rw [whole_short32 start32 (by simp), left_short32 (by simp)]
  exact h
theorem moreD (w : World) (v : Value) (B : Nat) (ys : List Int) (hv : SD w v B ys) (by' : Byt ys) (g : Nat) (a : Option Addr) (c : Nat) (xs : List Int) (hd : Rd w g a .u8 xs) (hx : Byt xs) (hc : xs.length ≤ c) (hn : ys.length + xs.length ≤ 1099511627776) (hT : HasT w 1 kL) :
    Calls Tryd.prog 17 #[v, .slice a xs.length c] w fun e w' => (∃ v', e = .returned v' ∧ SD w' v' w.heap.size (ys ++ xs)) ∧ Below w.heap.size w w' := by
  obtain ⟨a1, a2, c1, c2, g1, g2, rfl, o1, o2, p1, p2, q1, q2, r1, r2⟩ := hv
  have ok := whole_ok32 start_ok32 ys
  refine (implMore_32 w ys.length g1 a1 c1 _ o1.rd (tell_byt32 _) g2 a2 c2 _ o2.rd (left_byt32 by') p2 (tell_len32 _) (left_len32 ys) g a c xs hd hx hc hn hT (whole32 start32 ys) (tell_wd32 ok) ok).mono ?_
  rintro e w' ⟨⟨v, rfl, h⟩, n⟩
  refine ⟨⟨v, rfl, ?_⟩, n⟩
  unfold SD
  rw [List.length_append, ← whole_left32, ← left_left32]
  exact h
set_option maxRecDepth 20000 in
set_option maxHeartbeats 8000000 in
theorem implEnd_32 (w : World) (L : Nat) (gw : Nat) (aw : Option Addr) (cw : Nat) (W : List Int) (hW : Rd w gw aw .u8 W) (bW : Byt W) (gr : Nat) (ar : Option Addr) (cr : Nat) (R : List Int) (hR : Rd w gr ar .u8 R) (bR : Byt R) (kR : ar = none → cr = 0)
    (hl : W.length = 32) (hr : R.length = L % 64) (hn : L ≤ 1099511627776) (hT : HasT w 1 kL) (C : S8) (hCw : ∀ j, j < 8 → C.l.getD j 0 = wd 4 W j) (hC : Ok32 C) :
    Calls Tryd.prog 23 #[.agg #[.int .i64 (L : Int), .slice aw W.length cw, .slice ar R.length cr]] w fun e w' => NewRow w.heap.size w' e .u8 (endL32 L C (R ++ List.replicate (128 - R.length) 0)) ∧ Below w.heap.size w w' := by
  obtain ⟨d, hd', hrow⟩ := rowH_32
  have RH := hide (fun V (hw : Below w.heap.size w V) => readHash_32 V (L : Int) gw aw cw W (hW.up hw) bW gr ar cr R (hR.up hw) kR (by omega) (by omega) hl (by omega))
  have l8 : (R ++ List.replicate (128 - R.length) 0).length = 128 := by rw [List.length_append, List.length_replicate]; omega
  have b8 : Byt (R ++ List.replicate (128 - R.length) 0) := byt_apd bR (byt_rep0 _)
  have EN := hide (fun V (hw : Below w.heap.size w V) => end_32 V L C (R ++ List.replicate (128 - R.length) 0) l8 hC b8 hn (hT.up hw))
  obtain ⟨en, hen⟩ : ∃ l, l = endL32 L C (R ++ List.replicate (128 - R.length) 0) := ⟨_, rfl⟩
  have EN2 : Hid (∀ V, Below w.heap.size w V → Calls Tryd.prog 57 #[.agg (hcl .u32 (L : Int) C (R ++ List.replicate (128 - R.length) 0)).toArray] V fun e w' => NewRow V.heap.size w' e .u8 en ∧ Below V.heap.size V w') := by rw [hen]; exact EN
  rw [← hen]
  clear hen EN
  have T0 := C3.new w (.int .i64 (L : Int)) (.slice aw W.length cw) (.slice ar R.length cr) 26
  have m0 : Below w.heap.size w (w.alloc (.cells #[.int .i64 (L : Int), .slice aw W.length cw, .slice ar R.length cr] 26)) := (Below.refl _ _).alloc (Nat.le_refl _) _
  have L8 := hide l8
  clear hl hr l8
  go_enter Tryd.func23, Tryd.ntmps23
  go_upto_region 1 with fail
  generalize w.alloc (.cells #[.int .i64 (L : Int), .slice aw W.length cw, .slice ar R.length cr] 26) = wb at *
  have q0 := T0.c0
  have q1 := T0.c1
  have q2 := T0.c2
  go_wp2_with fail
  refine (RH.out wb m0).mono ?_
  rintro e w1 ⟨n1, C', rfl, hC'⟩
  obtain rfl : C' = C := S8.ext_l (eq_of_getD rfl (fun i hi => (hC' i hi).trans (hCw i hi).symm))
  have HZ := HB.zero32 w1
  have TH1 := HZ.there
  have na : Below w1.heap.size w1 (w1.alloc zH32) := (Below.refl _ _).alloc (Nat.le_refl _) _
  have L1 := hide (hcl_len .u32 (L : Int) C' L8.out)
  have O1 := hcl_one .u32 (L : Int) C' (R ++ List.replicate (128 - R.length) 0)
  generalize hcl .u32 (L : Int) C' (R ++ List.replicate (128 - R.length) 0) = vs at *
  have sm := World.rangeAt_setCells_same (w1.alloc zH32) w1.heap.size 0 vs (by rw [L1.out]; exact TH1)
  have O2 := only_setCells (w1.alloc zH32) w1.heap.size vs 0
  have N1 := nxt m0 n1
  have N2 : Below w.heap.size w ((w1.alloc zH32).setCells w1.heap.size 0 vs) := (nxt N1 na).trans (O2.below N1.size)
  clear q0 q1 q2 hC' RH HZ O2 na n1 m0
  go_upto_region 2 with (refine wpList_store_mid rfl 63 (.tmp 3) (.tmp 8) rfl w1.heap.size 0 vs.toArray rfl rfl ?hth ?hin ?hon ?_)
  case hth => exact (show (w1.alloc zH32).there w1.heap.size 0 vs.length by rw [L1.out]; exact TH1)
  case hin => show _ = some vs.length; rw [L1.out]; exact infoH_32
  case hon => exact O1
  change Code.wp _ _ _ _ ((w1.alloc zH32).setCells w1.heap.size 0 vs)
  generalize (w1.alloc zH32).setCells w1.heap.size 0 vs = w2 at *
  go_wp2_with (refine wpList_load_mid rfl 63 (.tmp 3) rfl w1.heap.size 0 rfl vs d sm hd' hrow (by rw [L1.out]; exact infoH_32) ?_)
  refine (EN2.out w2 N2).mono ?_
  rintro r w3 ⟨⟨a3, c3, g3, rfl, o3, p3, q3, r3⟩, n3⟩
  have y2 := N2.size
  go_wp2
  go_ret
  exact ⟨⟨a3, c3, g3, rfl, o3, p3, q3, by omega⟩, nxt N2 n3⟩
theorem endD (w : World) (v : Value) (B : Nat) (ys : List Int) (hv : SD w v B ys) (by' : Byt ys) (hn : ys.length ≤ 1099511627776) (hT : HasT w 1 kL) :
    Calls Tryd.prog 23 #[v] w fun e w' => NewRow w.heap.size w' e .u8 (hashL32 ys) ∧ Below w.heap.size w w' := by
  obtain ⟨a1, a2, c1, c2, g1, g2, rfl, o1, o2, p1, p2, q1, q2, r1, r2⟩ := hv
  have ok := whole_ok32 start_ok32 ys
  have e : ((left32 ys) ++ List.replicate (128 - (left32 ys).length) 0).take (ys.length % 64) = left32 ys := by rw [← left_len32]; exact List.take_left
  rw [← hash_is32 e]
  exact implEnd_32 w ys.length g1 a1 c1 _ o1.rd (tell_byt32 _) g2 a2 c2 _ o2.rd (left_byt32 by') p2 (tell_len32 _) (left_len32 ys) hn hT (whole32 start32 ys) (tell_wd32 ok) ok
end Go.Proofs.YtljpjbojdekeiaaDoor
