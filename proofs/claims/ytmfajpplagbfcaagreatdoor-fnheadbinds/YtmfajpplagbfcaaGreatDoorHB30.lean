import Derived.Test.YtmfajpplagbfcaaGreatDoorHB28
import Derived.Test.YtmfajpplagbfcaaGreatDoorHB26
import Derived.Test.YtmfajpplagbfcaaGreatDoorHB24
import Derived.BigRegion
import Derived.Deep.DeepCutAuto
import Derived.Test.YtmfajpplagbfcaaGreatDoorHB13
import Derived.Deep.QuietTactic
import Derived.BigQuiet
namespace Go.Proofs.YtmfajpplagbfcaaGreatDoor
set_option maxRecDepth 100000
open Go Go.RowKit
theorem rowH_32 : ∃ d, Tryz.prog.underlying 76 = some d ∧ d.isRow = true := by
  have h := undH_32
  cases hq : Tryz.prog.underlying 76 with
  | none => rw [hq] at h; simp at h
  | some d => rw [hq] at h; exact ⟨d, rfl, by simpa using h⟩
theorem row8_32 : Tryz.prog.underlying 73 = some (.array 8 71) := by kernel_rfl
theorem info8_32 : (Tryz.prog.info? 73).map (·.size) = some 8 := by kernel_rfl
def endL32 (L : Nat) (C : S8) (R : List Int) : List Int := tell32 (whole32 C (R.take (L % 64) ++ padL (L : Int) 64 8))
set_option maxHeartbeats 4000000 in
theorem end_32 (w : World) (L : Nat) (C : S8) (R : List Int) (hl : R.length = 128) (hC : Ok32 C) (hR : Byt R) (hL : L ≤ 1099511627776) (hT : HasT w 1 kL) :
    Calls Tryz.prog 48 #[.agg (hcl .u32 (L : Int) C R).toArray] w fun e w' => NewRow w.heap.size w' e .u8 (endL32 L C R) ∧ Below w.heap.size w w' := by
  have n0 : Below w.heap.size w (w.alloc (.cells (hcl .u32 (L : Int) C R).toArray 76)) := (Below.refl _ _).alloc (Nat.le_refl _) _
  have H0 := HB.alloc .u32 w 76 (L : Int) C hl
  have z0 : (w.alloc (.cells (hcl .u32 (L : Int) C R).toArray 76)).heap.size = w.heap.size + 1 := by simp
  have gl : 1 < w.heap.size := block_lt_of_cell (hT 0 (by decide))
  have PD := fun w => hide (padding_32 w (L : Int) (by omega) (by omega))
  have PB := padL_byt (L : Int) 64 8
  have PL : (padL (L : Int) 64 8).length ≤ 512 := by rw [padL_len]; have := padZ_lt (L : Int) (B := 64) (t := 8) (by decide); omega
  generalize hv : hcl .u32 (L : Int) C R = vs at *
  unfold endL32
  generalize padL (L : Int) 64 8 = pl at *
  obtain ⟨C2, hC2⟩ : ∃ s, s = whole32 C (R.take (L % 64) ++ pl) := ⟨_, rfl⟩
  have oC : Ok32 C2 := by rw [hC2]; exact whole_ok32 hC _
  rw [← hC2]
  have TK0 := fun w1 q H1 g1 a1 c1 o1 q1 h1 h2 h3 h4 => take_32 w1 q L C R H1 hC hR g1 a1 c1 pl o1 PB q1 h1 h2 h3 h4
  rw [← hC2] at TK0
  clear hC2
  go_enter Tryz.func48, Tryz.ntmps48
  go_upto_region 1 with fail
  generalize w.alloc (.cells vs.toArray 76) = wa at *
  have c0 := H0.c0
  go_wp2_with fail
  refine (PD wa).out.mono ?_
  rintro r w1 ⟨⟨a1, c1, g1, rfl, o1, p1, q1, r1⟩, n1⟩
  have H1 := H0.up n1
  have N1 := nxt n0 n1
  have TK := TK0 w1 w.heap.size H1 g1 a1 c1 o1.rd q1 (fun _ => by omega) (by omega) (hT.up N1) (by omega)
  have TKH := hide TK
  clear TK PD H0 n1 c0 H1
  go_wp2_with fail
  refine TKH.out.mono ?_
  rintro r w2 ⟨rfl, R2, H2, b2, e2, B2⟩
  have N2 : Below w.heap.size w w2 := N1.trans (B2.below (by omega) N1.size)
  have RG := H2.ch.range
  have BY := hide (bytes_32 w2 C2 oC)
  clear TKH H2 b2 e2 B2 N1 o1 TK0
  go_wp2_with (refine wpList_load_mid rfl 73 (.tmp 7) rfl w.heap.size 1 rfl (C2.l.map (Value.int .u32)) (.array 8 71) RG row8_32 rfl (by rw [List.length_map]; exact info8_32) ?_)
  refine BY.out.mono ?_
  rintro r w3 ⟨⟨a3, c3, g3, rfl, o3, p3, q3, r3⟩, n3⟩
  have z2 := N2.size
  go_wp2
  go_ret
  exact ⟨⟨a3, c3, g3, rfl, o3, p3, q3, by omega⟩, nxt N2 n3⟩
theorem whole_left32 (s : S8) (l m : List Int) : whole32 (whole32 s l) (left32 l ++ m) = whole32 s (l ++ m) := by
  induction h : l.length using Nat.strongRecOn generalizing s l with
  | ind n ih =>
    by_cases c : l.length < 64
    · rw [whole_short32 s c, left_short32 c]
    · have hl : (l.take 64).length = 64 := by rw [List.length_take]; omega
      have e : l = l.take 64 ++ l.drop 64 := (List.take_append_drop _ _).symm
      have r := ih (l.drop 64).length (by rw [List.length_drop]; omega) (blk32 s (wd 4 (l.take 64))) (l.drop 64) rfl
      rw [e, whole_app32 _ _ _ hl, left_app32 _ _ hl, List.append_assoc, whole_app32 _ _ _ hl]
      exact r
def hashL32 (xs : List Int) : List Int := tell32 (whole32 start32 (xs ++ padL (xs.length : Int) 64 8))
theorem hash_is32 {R xs : List Int} (e : R.take (xs.length % 64) = left32 xs) : endL32 xs.length (whole32 start32 xs) R = hashL32 xs := by
  unfold endL32 hashL32
  rw [e, whole_left32]
set_option maxRecDepth 20000 in
set_option maxHeartbeats 8000000 in
theorem implHash_32 (w : World) (g : Nat) (a : Option Addr) (c : Nat) (xs : List Int) (hr : Rd w g a .u8 xs) (hx : Byt xs) (hc : xs.length ≤ c) (hn : xs.length ≤ 1099511627776) (hS : HasT w 0 stLh) (hT : HasT w 1 kL) :
    Calls Tryz.prog 23 #[.slice a xs.length c] w fun e w' => NewRow w.heap.size w' e .u8 (hashL32 xs) ∧ Below w.heap.size w w' := by
  have NH := hide (newHashing_32 w hS)
  have gl : 1 < w.heap.size := block_lt_of_cell (hT 0 (by decide))
  have L1 := hide (hcl_len .u32 0 start32 (R := List.replicate 128 0) (by simp))
  have O1 := hcl_one .u32 0 start32 (List.replicate 128 0)
  have HO : Hid (∀ W q, W.rangeAt q 0 (hcl .u32 0 start32 (List.replicate 128 0)) → W.there q 0 137 → HB .u32 W q ((0 : Nat) : Int) start32 (List.replicate 128 0)) := fun W q h1 h2 => HB.of_range (by simp) h1 h2
  obtain ⟨d, hd, hrow⟩ := rowH_32
  generalize hcl .u32 0 start32 (List.replicate 128 0) = vs at *
  have gr : 0 < xs.length → g < w.heap.size := fun h => hr.lt h
  go_enter Tryz.func23, Tryz.ntmps23
  go_wp2_with fail
  refine NH.out.mono ?_
  rintro r w1 ⟨rfl, n1⟩
  clear NH
  have z1 := n1.size
  have HZ := HB.zero32 w1
  have TH := HZ.there
  have na : Below w1.heap.size w1 (w1.alloc zH32) := (Below.refl _ _).alloc (Nat.le_refl _) _
  have sm := World.rangeAt_setCells_same (w1.alloc zH32) w1.heap.size 0 vs (by rw [L1.out]; exact TH)
  have th2 := World.there_setCells TH w1.heap.size 0 vs
  have O2 := only_setCells (w1.alloc zH32) w1.heap.size vs 0
  have H2 := HO.out _ _ sm th2
  have N2 : Below w.heap.size w ((w1.alloc zH32).setCells w1.heap.size 0 vs) := (nxt n1 na).trans (O2.below (by omega))
  go_wp2_with (refine wpList_store_mid rfl 76 (.tmp 3) (.tmp 4) rfl w1.heap.size 0 vs.toArray rfl rfl ?hth ?hin ?hon ?_)
  case hth => exact (show (w1.alloc zH32).there w1.heap.size 0 vs.length by rw [L1.out]; exact TH)
  case hin => show _ = some vs.length; rw [L1.out]; exact infoH_32
  case hon => exact O1
  have TK := take_32 ((w1.alloc zH32).setCells w1.heap.size 0 vs) w1.heap.size 0 start32 (List.replicate 128 0) H2 start_ok32 (byt_rep0 _) g a c xs (hr.up N2) hx hc (fun h => by have := gr h; omega) (by omega) (hT.up N2) (by omega)
  rw [Nat.zero_add, Nat.zero_mod, List.take_zero, List.nil_append] at TK
  have TKH := hide TK
  clear TK HZ TH sm th2 O2 H2 na HO
  change Calls _ _ _ ((w1.alloc zH32).setCells w1.heap.size 0 vs) _
  generalize hw2 : (w1.alloc zH32).setCells w1.heap.size 0 vs = w2 at *
  refine TKH.out.mono ?_
  rintro r w3 ⟨rfl, R3, H3, b3, e3, B3⟩
  have N3 : Below w.heap.size w w3 := N2.trans (B3.below (by omega) N2.size)
  have RG := H3.range
  have L3 := hide (hcl_len .u32 (xs.length : Int) (whole32 start32 xs) H3.len)
  have EN := end_32 w3 xs.length (whole32 start32 xs) R3 H3.len (whole_ok32 start_ok32 xs) b3 hn (hT.up N3)
  rw [hash_is32 e3] at EN
  have ENH := hide EN
  generalize hcl .u32 (xs.length : Int) (whole32 start32 xs) R3 = v3 at *
  clear EN TKH H3 b3 e3 B3 hw2 N2
  go_wp2_with (refine wpList_load_mid rfl 76 (.tmp 3) rfl w1.heap.size 0 rfl v3 d RG hd hrow (by rw [L3.out]; exact infoH_32) ?_)
  refine ENH.out.mono ?_
  rintro r w4 ⟨⟨a4, c4, g4, rfl, o4, p4, q4, r4⟩, n4⟩
  have z3 := N3.size
  go_wp2
  go_ret
  exact ⟨⟨a4, c4, g4, rfl, o4, p4, q4, by omega⟩, nxt N3 n4⟩
end Go.Proofs.YtmfajpplagbfcaaGreatDoor
namespace Go.Proofs.YtmfajpplagbfcaaGreatDoor
set_option maxRecDepth 100000
open Go Go.RowKit
end Go.Proofs.YtmfajpplagbfcaaGreatDoor
namespace Go.Proofs.YtmfajpplagbfcaaGreatDoor
set_option maxRecDepth 100000
open Go Go.RowKit
def WTo32 (b : Nat → Int) (ys : List Int) (i : Nat) : Prop := ys.length = 64 ∧ ∀ j, j < i → ys.getD j 0 = wS32 b j
theorem WTo32.step {b : Nat → Int} {ys : List Int} {i : Nat} (h : WTo32 b ys i) (hi : i < 64) : WTo32 b (ys.set i (wS32 b i)) (i + 1) := by
  refine ⟨by rw [List.length_set]; exact h.1, fun j hj => ?_⟩
  by_cases e : i = j
  · subst e
    rw [getD_set_self _ _ _ (by rw [h.1]; exact hi)]
  · rw [getD_set_ne _ _ _ _ e]
    exact h.2 j (by omega)
end Go.Proofs.YtmfajpplagbfcaaGreatDoor
namespace Go.Proofs.YtmfajpplagbfcaaGreatDoor
set_option maxRecDepth 100000
open Go Go.RowKit
end Go.Proofs.YtmfajpplagbfcaaGreatDoor
namespace Go.Proofs.YtmfajpplagbfcaaGreatDoor
set_option maxRecDepth 100000
open Go Go.RowKit
def RNh (B : Nat) (ys : List Int) : Fact := ⟨fun v w => ∃ (a : Option Addr) (c g : Nat), v = .slice a ys.length c ∧ Own w g a .u8 ys ∧ (a = none → c = 0) ∧ ys.length ≤ c ∧ B ≤ g, fun n h => by
  obtain ⟨a, c, g, e, o, q⟩ := h
  exact ⟨a, c, g, e, o.up n, q⟩⟩
def ST3 (w : World) (v : Value) (B : Nat) (L : Int) (ws rs : List Int) : Prop :=
  ∃ (a a' : Option Addr) (c c' g g' : Nat), v = .agg #[.int .i64 L, .slice a ws.length c, .slice a' rs.length c'] ∧ Own w g a .u8 ws ∧ Own w g' a' .u8 rs ∧ (a = none → c = 0) ∧ (a' = none → c' = 0) ∧ ws.length ≤ c ∧ rs.length ≤ c' ∧ B ≤ g ∧ B ≤ g'
theorem ST3.up {w w' : World} {v : Value} {B : Nat} {L : Int} {ws rs : List Int} (h : ST3 w v B L ws rs) (n : Below w.heap.size w w') : ST3 w' v B L ws rs := by
  obtain ⟨a, a', c, c', g, g', e, o, o', q⟩ := h
  exact ⟨a, a', c, c', g, g', e, o.up n, o'.up n, q⟩
theorem there_upn {W W' : World} {q n : Nat} (hn : 0 < n) (h : W.there q 0 n) (k : Below W.heap.size W W') : W'.there q 0 n := by
  have h0 := (h 0 hn).1
  rw [Option.isSome_iff_exists] at h0
  obtain ⟨v, hv⟩ := h0
  have l := block_lt_of_cell hv
  intro j hj
  rw [World.cell?_of_block (a := ⟨q, 0 + j, none⟩) (k.block q l), World.frozen?_of_block (a := ⟨q, 0 + j, none⟩) (k.block q l)]
  exact h j hj
theorem region_putF {P : Program} {ops : Array Oper} {Q : Exit → Act → World → Prop} {a0 : Act} {id : Nat} {draw : Bool} {w : World} (k jV pD pV : Nat) (o : Oper) (F : Nat → Fact) (q off : Nat) (ty : TypeId) (hm : P.follows .mixedOrders = true) (hT : textOk .any ops a0.tmps.size k = true) (hk : ops[k]? = some o) (hd : o.dst = none)
    (hop : o.op = .store ty (.tmp pD) (.tmp pV)) (hp : apart ops pD = true) (h0 : a0.tmps.getD pD undef = .pointer (some ⟨q, off, none⟩)) (wV : writes ops jV pV = true) (steps : ∀ i, i < k → StepOk P .any ops Q F a0 w i)
    (fin : ∀ (vs : Nat → Value) (W : World) (v : Value), Below w.heap.size w W → (F jV).p v W → ∃ cells : List Value, v = .agg cells.toArray ∧ W.there q off cells.length ∧ (P.info? ty).map (·.size) = some cells.length ∧ cells.toArray.all (·.oneCell') = true ∧ Q .normal (puts vs a0 ops.toList) (W.setCells q off cells)) : (Code.region id ops draw).wp P Q a0 w := by
  refine region_store k o F hm hT hk hd steps fun a W hb hw hF => ?_
  obtain ⟨vs, hvs⟩ : ∃ vs : Nat → Value, ∀ d, a.tmps.getD d undef = vs d := ⟨_, fun _ => rfl⟩
  obtain ⟨cells, hc, ht, hi, h1, hQ⟩ := fin vs W (a.tmps.getD pV undef) hw (hF jV pV wV)
  refine wp_store_mid ty (.tmp pD) (.tmp pV) hop q off cells.toArray ((based_at hb pD hp).trans h0) hc (by rw [List.size_toArray]; exact ht) (by rw [List.size_toArray]; exact hi) h1 ?_
  rw [hd]
  show Q .normal a _
  rw [puts_of hT rfl hb vs hvs]
  exact hQ
end Go.Proofs.YtmfajpplagbfcaaGreatDoor
namespace Go.Proofs.YtmfajpplagbfcaaGreatDoor
set_option maxRecDepth 100000
open Go Go.RowKit
section
variable {P : Program} {ops : Array Oper} {Q : Exit → Act → World → Prop} {a0 : Act}
end
end Go.Proofs.YtmfajpplagbfcaaGreatDoor
namespace Go.Proofs.YtmfajpplagbfcaaGreatDoor
set_option maxRecDepth 100000
open Go Go.RowKit
structure C3 (w : World) (p : Nat) (x y z : Value) : Prop where
  c0 : w.cell? ⟨p, 0, none⟩ = some x
  c1 : w.cell? ⟨p, 1, none⟩ = some y
  c2 : w.cell? ⟨p, 2, none⟩ = some z
theorem C3.lt {w : World} {p : Nat} {x y z : Value} (h : C3 w p x y z) : p < w.heap.size := block_lt_of_cell h.c0
theorem C3.of_block {w w' : World} {p : Nat} {x y z : Value} (h : C3 w p x y z) (hb : w'.heap[p]? = w.heap[p]?) : C3 w' p x y z :=
  ⟨(World.cell?_of_block (a := ⟨p, 0, none⟩) hb).trans h.c0, (World.cell?_of_block (a := ⟨p, 1, none⟩) hb).trans h.c1, (World.cell?_of_block (a := ⟨p, 2, none⟩) hb).trans h.c2⟩
theorem C3.up {w w' : World} {p : Nat} {x y z : Value} (h : C3 w p x y z) (n : Below w.heap.size w w') : C3 w' p x y z := h.of_block (n.block p h.lt)
theorem C3.new (w : World) (x y z : Value) (t : TypeId) : C3 (w.alloc (.cells #[x, y, z] t)) w.heap.size x y z :=
  ⟨by simp [World.cell?_alloc_at], by simp [World.cell?_alloc_at], by simp [World.cell?_alloc_at]⟩
end Go.Proofs.YtmfajpplagbfcaaGreatDoor
namespace Go.Proofs.YtmfajpplagbfcaaGreatDoor
set_option maxRecDepth 100000
open Go Go.RowKit
end Go.Proofs.YtmfajpplagbfcaaGreatDoor
namespace Go.Proofs.YtmfajpplagbfcaaGreatDoor
set_option maxRecDepth 100000
open Go Go.RowKit
end Go.Proofs.YtmfajpplagbfcaaGreatDoor
namespace Go.Proofs.YtmfajpplagbfcaaGreatDoor
set_option maxRecDepth 100000
open Go Go.RowKit
theorem left_left32 (l m : List Int) : left32 (left32 l ++ m) = left32 (l ++ m) := by
  induction h : l.length using Nat.strongRecOn generalizing l with
  | ind n ih =>
    by_cases c : l.length < 64
    · rw [left_short32 c]
    · have hl : (l.take 64).length = 64 := by rw [List.length_take]; omega
      have e : l = l.take 64 ++ l.drop 64 := (List.take_append_drop _ _).symm
      have r := ih (l.drop 64).length (by rw [List.length_drop]; omega) (l.drop 64) rfl
      rw [e, left_app32 _ _ hl, List.append_assoc, left_app32 _ _ hl]
      exact r
def SD (w : World) (v : Value) (B : Nat) (ys : List Int) : Prop := ST3 w v B ((ys.length : Nat) : Int) (tell32 (whole32 start32 ys)) (left32 ys)
theorem SD.up {w w' : World} {v : Value} {B : Nat} {ys : List Int} (h : SD w v B ys) (n : Below w.heap.size w w') : SD w' v B ys := ST3.up h n
theorem SD.le {w : World} {v : Value} {B B' : Nat} {ys : List Int} (h : SD w v B ys) (hB : B' ≤ B) : SD w v B' ys := by
  obtain ⟨a, a', c, c', g, g', e, o, o', h1, h2, h3, h4, h5, h6⟩ := h
  exact ⟨a, a', c, c', g, g', e, o, o', h1, h2, h3, h4, by omega, by omega⟩
end Go.Proofs.YtmfajpplagbfcaaGreatDoor
