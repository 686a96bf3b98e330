import Derived.Test.YteedfhljbdnmnaaGreatDoorGT46
import Derived.Test.YteedfhljbdnmnaaGreatDoorGT44
import Derived.Deep.QuietTactic
import Derived.BigQuiet
import Derived.Laws.CopyOwn
import Derived.Laws.Tables
import Derived.Lib.ConvBytes
import Derived.Lib.AppendZeros
namespace Go.Proofs.YteedfhljbdnmnaaGreatDoor
set_option maxRecDepth 100000
open Go Go.RowKit
def WTo32 (b : Nat → Int) (ys : List Int) (i : Nat) : Prop := ys.length = 64 ∧ ∀ j, j < i → ys.getD j 0 = wS32 b j
theorem WTo32.step {b : Nat → Int} {ys : List Int} {i : Nat} (h : WTo32 b ys i) (hi : i < 64) : WTo32 b (ys.set i (wS32 b i)) (i + 1) := by
  refine ⟨by rw [List.length_set]; exact h.1, fun j hj => ?_⟩
  by_cases e : i = j
  · subst e
    rw [getD_set_self _ _ _ (by rw [h.1]; exact hi)]
  · rw [getD_set_ne _ _ _ _ e]
    exact h.2 j (by omega)
end Go.Proofs.YteedfhljbdnmnaaGreatDoor
namespace Go.Proofs.YteedfhljbdnmnaaGreatDoor
set_option maxRecDepth 100000
open Go Go.RowKit
end Go.Proofs.YteedfhljbdnmnaaGreatDoor
namespace Go.Proofs.YteedfhljbdnmnaaGreatDoor
set_option maxRecDepth 100000
open Go Go.RowKit
def RNh (B : Nat) (ys : List Int) : Fact := ⟨fun v w => ∃ (a : Option Addr) (c g : Nat), v = .slice a ys.length c ∧ Own w g a .u8 ys ∧ (a = none → c = 0) ∧ ys.length ≤ c ∧ B ≤ g, fun n h => by
  obtain ⟨a, c, g, e, o, q⟩ := h
  exact ⟨a, c, g, e, o.up n, q⟩⟩
def ST3 (w : World) (v : Value) (B : Nat) (L : Int) (ws rs : List Int) : Prop :=
  ∃ (a a' : Option Addr) (c c' g g' : Nat), v = .agg #[.int .i64 L, .slice a ws.length c, .slice a' rs.length c'] ∧ Own w g a .u8 ws ∧ Own w g' a' .u8 rs ∧ (a = none → c = 0) ∧ (a' = none → c' = 0) ∧ ws.length ≤ c ∧ rs.length ≤ c' ∧ B ≤ g ∧ B ≤ g'
theorem ST3.up {w w' : World} {v : Value} {B : Nat} {L : Int} {ws rs : List Int} (h : ST3 w v B L ws rs) (n : Below w.heap.size w w') : ST3 w' v B L ws rs := by
  obtain ⟨a, a', c, c', g, g', e, o, o', q⟩ := h
  exact ⟨a, a', c, c', g, g', e, o.up n, o'.up n, q⟩
theorem there_upn {W W' : World} {q n : Nat} (hn : 0 < n) (h : W.there q 0 n) (k : Below W.heap.size W W') : W'.there q 0 n := by
  have h0 := (h 0 hn).1
  rw [Option.isSome_iff_exists] at h0
  obtain ⟨v, hv⟩ := h0
  have l := block_lt_of_cell hv
  intro j hj
  rw [World.cell?_of_block (a := ⟨q, 0 + j, none⟩) (k.block q l), World.frozen?_of_block (a := ⟨q, 0 + j, none⟩) (k.block q l)]
  exact h j hj
theorem region_putF {P : Program} {ops : Array Oper} {Q : Exit → Act → World → Prop} {a0 : Act} {id : Nat} {draw : Bool} {w : World} (k jV pD pV : Nat) (o : Oper) (F : Nat → Fact) (q off : Nat) (ty : TypeId) (hm : P.follows .mixedOrders = true) (hT : textOk .any ops a0.tmps.size k = true) (hk : ops[k]? = some o) (hd : o.dst = none)
    (hop : o.op = .store ty (.tmp pD) (.tmp pV)) (hp : apart ops pD = true) (h0 : a0.tmps.getD pD undef = .pointer (some ⟨q, off, none⟩)) (wV : writes ops jV pV = true) (steps : ∀ i, i < k → StepOk P .any ops Q F a0 w i)
    (fin : ∀ (vs : Nat → Value) (W : World) (v : Value), Below w.heap.size w W → (F jV).p v W → ∃ cells : List Value, v = .agg cells.toArray ∧ W.there q off cells.length ∧ (P.info? ty).map (·.size) = some cells.length ∧ cells.toArray.all (·.oneCell') = true ∧ Q .normal (puts vs a0 ops.toList) (W.setCells q off cells)) : (Code.region id ops draw).wp P Q a0 w := by
  refine region_store k o F hm hT hk hd steps fun a W hb hw hF => ?_
  obtain ⟨vs, hvs⟩ : ∃ vs : Nat → Value, ∀ d, a.tmps.getD d undef = vs d := ⟨_, fun _ => rfl⟩
  obtain ⟨cells, hc, ht, hi, h1, hQ⟩ := fin vs W (a.tmps.getD pV undef) hw (hF jV pV wV)
  refine wp_store_mid ty (.tmp pD) (.tmp pV) hop q off cells.toArray ((based_at hb pD hp).trans h0) hc (by rw [List.size_toArray]; exact ht) (by rw [List.size_toArray]; exact hi) h1 ?_
  rw [hd]
  show Q .normal a _
  rw [puts_of hT rfl hb vs hvs]
  exact hQ
end Go.Proofs.YteedfhljbdnmnaaGreatDoor
namespace Go.Proofs.YteedfhljbdnmnaaGreatDoor
set_option maxRecDepth 100000
open Go Go.RowKit
section
variable {P : Program} {ops : Array Oper} {Q : Exit → Act → World → Prop} {a0 : Act}
end
end Go.Proofs.YteedfhljbdnmnaaGreatDoor
namespace Go.Proofs.YteedfhljbdnmnaaGreatDoor
set_option maxRecDepth 100000
open Go Go.RowKit
structure C3 (w : World) (p : Nat) (x y z : Value) : Prop where
  c0 : w.cell? ⟨p, 0, none⟩ = some x
  c1 : w.cell? ⟨p, 1, none⟩ = some y
  c2 : w.cell? ⟨p, 2, none⟩ = some z
theorem C3.lt {w : World} {p : Nat} {x y z : Value} (h : C3 w p x y z) : p < w.heap.size := block_lt_of_cell h.c0
theorem C3.of_block {w w' : World} {p : Nat} {x y z : Value} (h : C3 w p x y z) (hb : w'.heap[p]? = w.heap[p]?) : C3 w' p x y z :=
  ⟨(World.cell?_of_block (a := ⟨p, 0, none⟩) hb).trans h.c0, (World.cell?_of_block (a := ⟨p, 1, none⟩) hb).trans h.c1, (World.cell?_of_block (a := ⟨p, 2, none⟩) hb).trans h.c2⟩
theorem C3.up {w w' : World} {p : Nat} {x y z : Value} (h : C3 w p x y z) (n : Below w.heap.size w w') : C3 w' p x y z := h.of_block (n.block p h.lt)
theorem C3.new (w : World) (x y z : Value) (t : TypeId) : C3 (w.alloc (.cells #[x, y, z] t)) w.heap.size x y z :=
  ⟨by simp [World.cell?_alloc_at], by simp [World.cell?_alloc_at], by simp [World.cell?_alloc_at]⟩
end Go.Proofs.YteedfhljbdnmnaaGreatDoor
namespace Go.Proofs.YteedfhljbdnmnaaGreatDoor
set_option maxRecDepth 100000
open Go Go.RowKit
end Go.Proofs.YteedfhljbdnmnaaGreatDoor
namespace Go.Proofs.YteedfhljbdnmnaaGreatDoor
set_option maxRecDepth 100000
open Go Go.RowKit
end Go.Proofs.YteedfhljbdnmnaaGreatDoor
namespace Go.Proofs.YteedfhljbdnmnaaGreatDoor
set_option maxRecDepth 100000
open Go Go.RowKit
theorem left_left32 (l m : List Int) : left32 (left32 l ++ m) = left32 (l ++ m) := by
  induction h : l.length using Nat.strongRecOn generalizing l with
  | ind n ih =>
    by_cases c : l.length < 64
    · rw [left_short32 c]
    · have hl : (l.take 64).length = 64 := by rw [List.length_take]; omega
      have e : l = l.take 64 ++ l.drop 64 := (List.take_append_drop _ _).symm
      have r := ih (l.drop 64).length (by rw [List.length_drop]; omega) (l.drop 64) rfl
      rw [e, left_app32 _ _ hl, List.append_assoc, left_app32 _ _ hl]
      exact r
def SD (w : World) (v : Value) (B : Nat) (ys : List Int) : Prop := ST3 w v B ((ys.length : Nat) : Int) (tell32 (whole32 start32 ys)) (left32 ys)
theorem SD.up {w w' : World} {v : Value} {B : Nat} {ys : List Int} (h : SD w v B ys) (n : Below w.heap.size w w') : SD w' v B ys := ST3.up h n
theorem SD.le {w : World} {v : Value} {B B' : Nat} {ys : List Int} (h : SD w v B ys) (hB : B' ≤ B) : SD w v B' ys := by
  obtain ⟨a, a', c, c', g, g', e, o, o', h1, h2, h3, h4, h5, h6⟩ := h
  exact ⟨a, a', c, c', g, g', e, o, o', h1, h2, h3, h4, by omega, by omega⟩
end Go.Proofs.YteedfhljbdnmnaaGreatDoor
namespace Go.Proofs.YteedfhljbdnmnaaGreatDoor
set_option maxRecDepth 100000
open Go Go.RowKit
def HD (w : World) (q o : Nat) (ys : List Int) : Prop := ∃ R, HBo .u32 w q o ((ys.length : Nat) : Int) (whole32 start32 ys) R ∧ Byt R ∧ R.take (ys.length % 64) = left32 ys
theorem HD.lt {w : World} {q o : Nat} {ys : List Int} (h : HD w q o ys) : q < w.heap.size := by
  obtain ⟨R, h, _⟩ := h
  exact h.lt
theorem HD.up {w w' : World} {q o : Nat} {ys : List Int} (h : HD w q o ys) (n : Below w.heap.size w w') : HD w' q o ys := by
  obtain ⟨R, h, k⟩ := h
  exact ⟨R, h.up n, k⟩
theorem HD.bx {w w' : World} {q o p : Nat} {ys : List Int} (h : HD w q p ys) (b : Bx q o w w') (hp : p + 137 ≤ o ∨ o + 137 ≤ p) : HD w' q p ys := by
  obtain ⟨R, h, k⟩ := h
  exact ⟨R, h.bx b hp, k⟩
theorem HD.of_block {w w' : World} {q o : Nat} {ys : List Int} (h : HD w q o ys) (hb : w'.heap[q]? = w.heap[q]?) : HD w' q o ys := by
  obtain ⟨R, h, k⟩ := h
  exact ⟨R, h.of_block hb, k⟩
def HV (vs : List Value) (ys : List Int) : Prop := ∃ R, vs = hcl .u32 ((ys.length : Nat) : Int) (whole32 start32 ys) R ∧ R.length = 128 ∧ Byt R ∧ R.take (ys.length % 64) = left32 ys
theorem HV.len {vs : List Value} {ys : List Int} (h : HV vs ys) : vs.length = 137 := by
  obtain ⟨R, rfl, hl, _⟩ := h
  exact hcl_len _ _ _ hl
theorem HV.one {vs : List Value} {ys : List Int} (h : HV vs ys) : ∀ v ∈ vs, v.oneCell' = true := by
  obtain ⟨R, rfl, hl, _⟩ := h
  intro v hv
  have := hcl_one .u32 ((ys.length : Nat) : Int) (whole32 start32 ys) R
  rw [Array.all_eq_true_iff_forall_mem] at this
  exact this v (by simpa using hv)
theorem HD.val {w : World} {q o : Nat} {ys : List Int} (h : HD w q o ys) : ∃ vs, HV vs ys ∧ w.rangeAt q o vs ∧ w.there q o 137 := by
  obtain ⟨R, h, b, e⟩ := h
  exact ⟨_, ⟨R, rfl, h.len, b, e⟩, h.range, h.there⟩
theorem HV.at {w : World} {q o : Nat} {vs : List Value} {ys : List Int} (h : HV vs ys) (rg : w.rangeAt q o vs) (th : w.there q o 137) : HD w q o ys := by
  obtain ⟨R, rfl, hl, b, e⟩ := h
  exact ⟨R, HBo.of_range hl rg th, b, e⟩
theorem HV.start : HV (hcl .u32 0 start32 (List.replicate 128 0)) [] := ⟨List.replicate 128 0, by rw [whole_short32 start32 (by simp)]; rfl, by simp, byt_rep0 _, by rw [left_short32 (by simp)]; rfl⟩
theorem takeD (w : World) (q o : Nat) (ys : List Int) (h : HD w q o ys) (g : Nat) (a : Option Addr) (c : Nat) (xs : List Int) (hr : Rd w g a .u8 xs) (hx : Byt xs) (hc : xs.length ≤ c) (hg : 0 < xs.length → g ≠ q)
    (hL : ys.length + xs.length ≤ 1152921504606846976) (hT : HasT w 2 kL) (hq : 2 ≠ q) :
    Calls Tryz.prog 44 #[.pointer (some ⟨q, o, none⟩), .slice a xs.length c] w fun e w' => e = .returned (.tuple #[]) ∧ HD w' q o (ys ++ xs) ∧ Bx q o w w' := by
  obtain ⟨R, H, b, e⟩ := h
  refine (takeO_32 w q o ys.length (whole32 start32 ys) R H (whole_ok32 start_ok32 ys) b g a c xs hr hx hc hg hL hT hq).mono ?_
  rintro r w' ⟨rfl, R', H', b', e', B'⟩
  rw [e, whole_left32] at H'
  rw [e, left_left32] at e'
  exact ⟨rfl, ⟨R', by rw [List.length_append]; exact H', b', by rw [List.length_append]; exact e'⟩, B'⟩
theorem endV (w : World) (vs : List Value) (ys : List Int) (h : HV vs ys) (hn : ys.length ≤ 1099511627776) (hT : HasT w 2 kL) :
    Calls Tryz.prog 45 #[.agg vs.toArray] w fun e w' => NewRow w.heap.size w' e .u8 (hashL32 ys) ∧ Below w.heap.size w w' := by
  obtain ⟨R, rfl, hl, b, e⟩ := h
  rw [← hash_is32 e]
  exact end_32 w ys.length (whole32 start32 ys) R hl (whole_ok32 start_ok32 ys) b hn hT
theorem hash_byt32 (ys : List Int) : Byt (hashL32 ys) := tell_byt32 _
theorem hash_len32 (ys : List Int) : (hashL32 ys).length = 32 := tell_len32 _
structure Lst where
  g : Nat
  a : Option Addr
  c : Nat
  xs : List Int
def Lst.ok (w : World) (q : Nat) (l : Lst) : Prop := Rd w l.g l.a .u8 l.xs ∧ Byt l.xs ∧ l.xs.length ≤ l.c ∧ (0 < l.xs.length → l.g ≠ q)
def cat (ls : List Lst) : List Int := (ls.map Lst.xs).flatten
theorem cat_take (ls : List Lst) (j : Nat) (l : Lst) (h : ls[j]? = some l) : cat (ls.take (j + 1)) = cat (ls.take j) ++ l.xs := by
  unfold cat
  rw [List.take_add_one, h]
  simp
def Lsts (w : World) (b : Nat) (ls : List Lst) : Prop := ∀ j l, ls[j]? = some l → w.cell? ⟨b, j, none⟩ = some (.slice l.a l.xs.length l.c)
theorem Lst.ok.bt {w w' : World} {q : Nat} {l : Lst} (h : l.ok w q) (b : Bth q w w') : l.ok w' q := by
  obtain ⟨h1, h2, h3, h4⟩ := h
  refine ⟨?_, h2, h3, h4⟩
  by_cases h0 : 0 < l.xs.length
  · exact h1.bt b (h4 h0)
  · exact fun h1 => absurd h1 h0
theorem Lsts.bt {w w' : World} {q b : Nat} {ls : List Lst} (h : Lsts w b ls) (B : Bth q w w') (hb : b ≠ q) : Lsts w' b ls := fun j l hj => by
  have := h j l hj
  rw [World.cell?_of_block (a := ⟨b, j, none⟩) (B.block b (block_lt_of_cell this) hb)]
  exact this
set_option maxHeartbeats 2000000 in
theorem takeAllD (w : World) (q o : Nat) (ys : List Int) (h : HD w q o ys) (b n c : Nat) (ls : List Lst) (hn : ls.length = n) (hm : n ≤ 1000) (hs : Lsts w b ls) (hl : ∀ l ∈ ls, l.ok w q) (hb : b ≠ q)
    (hL : ys.length + (cat ls).length ≤ 1152921504606846976) (hT : HasT w 2 kL) (hq : 2 ≠ q) :
    Calls Tryz.prog 97 #[.pointer (some ⟨q, o, none⟩), .slice (some ⟨b, 0, none⟩) n c] w fun e w' => e = .returned (.tuple #[]) ∧ HD w' q o (ys ++ cat ls) ∧ Bx q o w w' := by
  have HN := hide hn
  clear hn
  have hp : ∀ j, (cat (ls.take j)).length ≤ (cat ls).length := fun j => by
    have : cat ls = cat (ls.take j) ++ cat (ls.drop j) := by
      unfold cat
      rw [← List.flatten_append, ← List.map_append, List.take_append_drop]
    rw [this, List.length_append]
    omega
  go_enter Tryz.func97, Tryz.ntmps97
  go_wp2_with fail
  go_loopw [5, 8] (fun _ i wr => ∃ (j : Nat), j ≤ n ∧ i = .int .i64 j ∧ HD wr q o (ys ++ cat (ls.take j)) ∧ Bx q o w wr) (fun _ i _ => n - (intOf i).toNat)
  case atStart => exact ⟨0, Nat.zero_le _, rfl, by simpa [cat] using h, Bx.refl _ _ _⟩
  case round =>
    obtain ⟨j, hj, rfl, hD, hB⟩ := hrel
    by_cases hlt : j < n
    · obtain ⟨l, hjl⟩ : ∃ l, ls[j]? = some l := ⟨ls[j]'(by rw [HN.out]; exact hlt), List.getElem?_eq_getElem _⟩
      have lm : l ∈ ls := List.mem_of_getElem? hjl
      have ok := (hl l lm).bt hB.bt
      have cc := (hs.bt hB.bt hb) j l hjl
      have ct := cat_take ls j l hjl
      have lb : (ys ++ cat (ls.take j)).length + l.xs.length ≤ 1152921504606846976 := by
        have := hp (j + 1)
        rw [ct, List.length_append] at this
        rw [List.length_append]
        omega
      have TD := hide (takeD wr q o _ hD l.g l.a l.c l.xs ok.1 ok.2.1 ok.2.2.1 ok.2.2.2 lb (hT.bt (by decide) hB.bt hq) hq)
      have CT := hide ct
      clear lb ct hD h hs hl ok lm
      generalize cat (ls.take j) = cj at *
      have jn : (j : Int) < (n : Int) := by omega
      go_wp2_with fail
      refine TD.out.mono ?_
      rintro e w1 ⟨rfl, D1, B1⟩
      rw [List.append_assoc, ← CT.out] at D1
      have BB := hB.trans B1
      clear TD
      go_wp2
      go_roundw
      case rel => exact ⟨j + 1, by omega, by go_num, D1, BB⟩
      case measure => simp [intOf]; omega
    · obtain rfl : j = n := by omega
      have e : ls.take j = ls := List.take_of_length_le (by rw [HN.out]; exact Nat.le_refl _)
      rw [e] at hD
      go_wp2
      exact bodyPost_end (v := .tuple #[]) (by simp [results, Tryz.results97, go_sem]) rfl ⟨rfl, hD, hB⟩
def mx (x m : Int) : Int := bits BinOp.xor IntKind.u8 x m
def to64 (xs : List Int) : List Int := xs.take 64 ++ (List.replicate 64 0).drop (xs.take 64).length
def maskL (xs : List Int) (m : Int) : List Int := (to64 xs).map (mx · m)
theorem to64_len (xs : List Int) : (to64 xs).length = 64 := by
  unfold to64
  rw [List.length_append, List.length_drop, List.length_replicate, List.length_take]
  omega
theorem to64_get (xs : List Int) {i : Nat} (h : i < 64) : (to64 xs).getD i 0 = xs.getD i 0 := by
  unfold to64
  by_cases hi : i < (xs.take 64).length
  · rw [List.getD_eq_getElem?_getD, List.getElem?_append, if_pos hi, List.getElem?_take, if_pos h, List.getD_eq_getElem?_getD]
  · have : xs.length ≤ i := by rw [List.length_take] at hi; omega
    rw [List.getD_eq_getElem?_getD, List.getElem?_append, if_neg hi, List.getElem?_drop, List.getElem?_replicate, List.getD_eq_getElem?_getD, List.getElem?_eq_none this]
    split <;> simp
theorem maskL_len (xs : List Int) (m : Int) : (maskL xs m).length = 64 := by unfold maskL; rw [List.length_map, to64_len]
theorem maskL_get (xs : List Int) (m : Int) {i : Nat} (h : i < 64) : (maskL xs m).getD i 0 = mx (xs.getD i 0) m := by
  rw [← to64_get xs h]
  unfold maskL
  have := to64_len xs
  simp [List.getD_eq_getElem?_getD, show i < (to64 xs).length by omega]
theorem mx_in {m : Int} (hm : m = 54 ∨ m = 92) {x : Int} (h : 0 ≤ x ∧ x < 256) : 0 ≤ mx x m ∧ mx x m < 256 := by
  have h1 : ∀ n : Fin 256, 0 ≤ mx (n.val : Int) 54 ∧ mx (n.val : Int) 54 < 256 := by decide +kernel
  have h2 : ∀ n : Fin 256, 0 ≤ mx (n.val : Int) 92 ∧ mx (n.val : Int) 92 < 256 := by decide +kernel
  obtain ⟨k, rfl⟩ := Int.eq_ofNat_of_zero_le h.1
  rcases hm with rfl | rfl
  · exact h1 ⟨k, by omega⟩
  · exact h2 ⟨k, by omega⟩
theorem maskL_byt {xs : List Int} (h : Byt xs) {m : Int} (hm : m = 54 ∨ m = 92) : Byt (maskL xs m) := by
  intro i
  by_cases c : i < 64
  · rw [maskL_get xs m c]
    exact mx_in hm (h i)
  · rw [List.getD_eq_getElem?_getD, List.getElem?_eq_none (by rw [maskL_len]; omega)]
    simp
end Go.Proofs.YteedfhljbdnmnaaGreatDoor
namespace Go.Proofs.YteedfhljbdnmnaaGreatDoor
set_option maxRecDepth 100000
open Go Go.RowKit
theorem copy_minK {P : Program} (w : World) (ty rt e : TypeId) (hu : P.underlying ty = some (.slice e)) (hsz : (P.info? e).map (·.size) = some 1) {g : Nat} {k : IntKind} {zs : List Int} (hB : Blk w g k zs)
    (gs : Nat) (sp : Option Addr) (ys : List Int) (hr : Rd w gs sp k ys) (dc sc : Nat) :
    ∃ w2, (Builtin.copy_ #[ty, ty] rt #[.slice (some ⟨g, 0, none⟩) zs.length dc, .slice sp ys.length sc]).run P w = .ok (goInt (ys.take zs.length).length) w2 ∧ Blk w2 g k (ys.take zs.length ++ zs.drop (ys.take zs.length).length) ∧ Only g w w2 := by
  by_cases h0 : 0 < ys.length
  · obtain ⟨off, rfl, hc⟩ := hr h0
    obtain ⟨t, hB⟩ := hB
    have hrun := run_copy_row (P := P) w ty ty rt e g 0 zs.length dc ⟨gs, off, none⟩ ys.length sc _ t ((ys.take zs.length).map (Value.int k)) hu hsz hB (by simp [Nat.min_comm])
      (fun j v hj => by
        have hjl : j < (ys.take zs.length).length := by
          have := (List.getElem?_eq_some_iff.1 hj).1
          simpa using this
        have hj1 : j < ys.length := by simp at hjl; omega
        have hj2 : j < zs.length := by simp at hjl; omega
        rw [add_mid, hc j hj1]
        simpa [hj1, hj2, List.getElem?_take] using hj) (by simp; omega) (oneCells _ _)
    rw [List.length_map] at hrun
    refine ⟨_, hrun, ⟨t, ?_⟩, ⟨rfl, rfl, rfl, by simp, fun i hi => setRow_other w g i _ hi⟩⟩
    rw [setRow_heap w g _ _ t _ hB]
    simp
  · obtain rfl : ys = [] := List.eq_nil_of_length_eq_zero (by omega)
    exact ⟨w, by simpa using run_copy_none (P := P) w ty ty rt e _ _ _ _ _ _ hu hsz (by simp), by simpa using hB, Only.refl _ _⟩
set_option maxHeartbeats 2000000 in
theorem maskedKey_any (w : World) (g : Nat) (a : Option Addr) (c : Nat) (xs : List Int) (ha : Rd w g a .u8 xs) (m : Int) (hx : Byt xs) (hm : m = 54 ∨ m = 92) :
    Calls Tryz.prog 65 #[.slice a xs.length c, .int .u8 m] w fun e w' => NewRow w.heap.size w' e .u8 (maskL xs m) ∧ Below w.heap.size w w' := by
  obtain ⟨i0, hi, hz0, hz1, hz2⟩ := info_parts Tryz.info5
  have hsz : (Tryz.prog.info? 5).map (·.size) = some 1 := by rw [hi]; simp [hz1]
  have ML := hide (maskL_len xs m)
  have TL := hide (to64_len xs)
  have m0 : 0 ≤ m ∧ m < 256 := by omega
  go_enter Tryz.func65, Tryz.ntmps65
  go_wp2_with (at_make; refine wpList_make_full _ rfl _ _ 22 rfl w.heap.size 5 i0 (.int .u8 0) 1 Tryz.underlying22 hi hz0 hz1 .i64 .i64 _ _ 64 rfl rfl rfl rfl (by rw [hz2]; omega) (by unfold maxLen; omega) (Nat.le_refl _) ?_; intro w1 hown hgrow)
  have hB := Blk.of_made hown
  have hN : Below w.heap.size w w1 := (Below.refl _ _).grown hgrow (Nat.le_refl _) (by simp)
  obtain ⟨w2, hrun, hB2, hO⟩ := copy_minK (P := Tryz.prog) w1 22 3 5 Tryz.underlying22 hsz hB g a xs (ha.up hN) 64 c
  rw [List.length_replicate] at hrun hB2
  have hN2 := hN.trans (hO.below (Nat.le_refl _))
  rw [hrun]
  clear hown hgrow hB hN hO hrun
  have B2 : Blk w2 w.heap.size .u8 (to64 xs) := hB2
  clear hB2
  go_wp2_with fail
  go_loopw [6, 13] (fun _ i wr => ∃ (n : Nat) (zs : List Int), n ≤ 64 ∧ i = .int .i64 n ∧ zs.length = 64 ∧ (∀ j, j < 64 → zs.getD j 0 = if j < n then mx (xs.getD j 0) m else xs.getD j 0) ∧ Blk wr w.heap.size .u8 zs ∧ Below w.heap.size w wr) (fun _ i _ => 64 - (intOf i).toNat)
  case atStart => exact ⟨0, _, Nat.zero_le _, rfl, TL.out, fun j hj => by rw [if_neg (by omega)]; exact to64_get xs hj, B2, hN2⟩
  case round =>
    obtain ⟨n, zs, hn, rfl, hz, hv, hB, hN⟩ := hrel
    clear B2 hN2
    by_cases hlt : n < 64
    · have v0 := hv n hlt
      rw [if_neg (by omega)] at v0
      have c0 := hB.cell (i := n) (by omega)
      rw [v0] at c0
      have f0 := hB.free n
      have x0 := hx n
      have S0 := hB.store n (mx (xs.getD n 0) m)
      have V' : ∀ j, j < 64 → (zs.set n (mx (xs.getD n 0) m)).getD j 0 = if j < n + 1 then mx (xs.getD j 0) m else xs.getD j 0 := by
        intro j hj
        by_cases e : n = j
        · subst e
          rw [getD_set_self _ _ _ (by omega), if_pos (by omega)]
        · rw [getD_set_ne _ _ _ _ e, hv j hj]
          by_cases c : j < n
          · rw [if_pos c, if_pos (by omega)]
          · rw [if_neg c, if_neg (by omega)]
      have VH := hide V'
      have LH : Hid ((zs.set n (mx (xs.getD n 0) m)).length = 64) := by show _ = _; rw [List.length_set]; exact hz
      have N' : Below w.heap.size w (wr.setCell ⟨w.heap.size, n, none⟩ (.int .u8 (mx (xs.getD n 0) m))) := hN.trans ((Only.setCell wr w.heap.size n _).below (Nat.le_refl _))
      have nn : (n : Int) < 64 := by omega
      unfold mx at S0 N' VH LH
      clear hv v0 V' hB hz hN
      generalize xs.getD n 0 = x at *
      go_wp2
      go_roundw
      case rel => exact ⟨n + 1, _, by omega, by go_num, LH.out, VH.out, S0, N'⟩
      case measure => simp [intOf]; omega
    · obtain rfl : n = 64 := by omega
      obtain rfl : zs = maskL xs m := eq_of_getD (by rw [hz, ML.out]) (fun i hi => by rw [hv i (by omega), if_pos (by omega), maskL_get xs m (by omega)])
      clear hv hz
      go_wp2
      go_ret
      exact ⟨⟨_, 64, w.heap.size, by rw [ML.out]; rfl, hB.own0, by simp, by rw [ML.out]; exact Nat.le_refl _, Nat.le_refl _⟩, hN⟩
theorem lsts_one (w : World) (t : TypeId) (l : Lst) : Lsts (w.alloc (.cells #[.slice l.a l.xs.length l.c] t)) w.heap.size [l] := by
  intro j x hj
  match j, hj with
  | 0, hj =>
    simp only [List.getElem?_cons_zero, Option.some.injEq] at hj
    subst hj
    simp [World.cell?_alloc_at]
theorem Lsts.up {w w' : World} {b : Nat} {ls : List Lst} (h : Lsts w b ls) (n : Below w.heap.size w w') : Lsts w' b ls := fun j l hj => by
  have := h j l hj
  rw [World.cell?_of_block (a := ⟨b, j, none⟩) (n.block b (block_lt_of_cell this))]
  exact this
theorem cat_one (l : Lst) : cat [l] = l.xs := by simp [cat]
set_option maxRecDepth 20000 in
set_option maxHeartbeats 8000000 in
theorem behindD (w : World) (b : Nat) (l : Lst) (hs : Lsts w b [l]) (hl : Rd w l.g l.a .u8 l.xs ∧ Byt l.xs ∧ l.xs.length ≤ l.c) (hn : l.xs.length ≤ 1099511627776) (hS : HasT w 0 stLh) (hT : HasT w 2 kL) :
    Calls Tryz.prog 64 #[.slice (some ⟨b, 0, none⟩) 1 1] w fun e w' => (∃ vs, e = .returned (.agg vs.toArray) ∧ HV vs l.xs) ∧ Below w.heap.size w w' := by
  have NH := hide (fun V (n : Below w.heap.size w V) => newHashing_32 V (hS.up n))
  have V0 := HV.start
  generalize hcl .u32 0 start32 (List.replicate 128 0) = vs at *
  have gl : 2 < w.heap.size := block_lt_of_cell (hT 0 (by decide))
  have bl : b < w.heap.size := block_lt_of_cell (hs 0 l rfl)
  have ll : 0 < l.xs.length → l.g < w.heap.size := fun h => hl.1.lt h
  obtain ⟨d, hd, hrow⟩ := rowH_32
  go_enter Tryz.func64, Tryz.ntmps64
  go_upto_region 1 with fail
  change Code.wp _ _ _ _ (w.alloc zH32)
  have n0 : Below w.heap.size w (w.alloc zH32) := (Below.refl _ _).alloc (Nat.le_refl _) _
  have TH0 := (HB.zero32 w).there
  have z0 : (w.alloc zH32).heap.size = w.heap.size + 1 := by simp
  generalize w.alloc zH32 = wa at *
  go_wp2_with fail
  refine (NH.out wa n0).mono ?_
  rintro r w1 ⟨rfl, n1⟩
  clear NH
  have z1 := n1.size
  have HZ := HB.zero32 w1
  have TH := HZ.there
  have na : Below w1.heap.size w1 (w1.alloc zH32) := (Below.refl _ _).alloc (Nat.le_refl _) _
  have L1 := hide V0.len
  have O1 : vs.toArray.all (·.oneCell') = true := all_oneCell_toArray V0.one
  have sm := World.rangeAt_setCells_same (w1.alloc zH32) w1.heap.size 0 vs (by rw [L1.out]; exact TH)
  have th2 := World.there_setCells TH w1.heap.size 0 vs
  have O2 := only_setCells (w1.alloc zH32) w1.heap.size vs 0
  have H2 := V0.at sm th2
  have n2 : Below wa.heap.size wa ((w1.alloc zH32).setCells w1.heap.size 0 vs) := (nxt n1 na).trans (O2.below (by omega))
  have N2 := nxt n0 n2
  have lq := hide (show w.heap.size + 1 ≤ w1.heap.size by omega)
  clear HZ sm th2 O2 na n1 z1
  go_upto_region 2 with (refine wpList_store_mid rfl 59 (.tmp 3) (.tmp 4) rfl w1.heap.size 0 vs.toArray rfl rfl ?hth ?hin ?hon ?_)
  case hth => exact (show (w1.alloc zH32).there w1.heap.size 0 vs.length by rw [L1.out]; exact TH)
  case hin => show _ = some vs.length; rw [L1.out]; exact infoH_32
  case hon => exact O1
  change Code.wp _ _ _ _ ((w1.alloc zH32).setCells w1.heap.size 0 vs)
  generalize (w1.alloc zH32).setCells w1.heap.size 0 vs = w2 at *
  have TA := takeAllD w2 w1.heap.size 0 [] H2 b 1 1 [l] rfl (by omega) (hs.up N2) (fun x hx => by
    rw [List.mem_singleton] at hx
    subst hx
    exact ⟨hl.1.up N2, hl.2.1, hl.2.2, fun h => by have := ll h; have := lq.out; omega⟩) (by have := lq.out; omega) (by rw [cat_one]; simp; omega) (hT.up N2) (by have := lq.out; omega)
  rw [cat_one, List.nil_append] at TA
  have TAH := hide TA
  have h2 := H2.lt
  have TH0' := there_upn (by omega) TH0 n2
  clear TA H2 TH n2 TH0 V0 O1
  go_wp2_with fail
  refine TAH.out.mono ?_
  rintro r w3 ⟨rfl, H3, B3⟩
  have N3 : Below w.heap.size w w3 := N2.trans (B3.bt.below (by have := lq.out; omega) N2.size)
  have hb3 := B3.bt.block w.heap.size (by have := lq.out; omega) (by have := lq.out; omega)
  have TH3 : w3.there w.heap.size 0 137 := fun j hj => by
    have := TH0' j hj
    exact ⟨by rw [World.cell?_of_block (a := ⟨w.heap.size, 0 + j, none⟩) hb3]; exact this.1, by rw [World.frozen?_of_block (a := ⟨w.heap.size, 0 + j, none⟩) hb3]; exact this.2⟩
  obtain ⟨v3, V3, RG, -⟩ := H3.val
  have L3 := hide V3.len
  have O3 : v3.toArray.all (·.oneCell') = true := all_oneCell_toArray V3.one
  have RR := World.rangeAt_setCells_same w3 w.heap.size 0 v3 (by rw [L3.out]; exact TH3)
  have N4 : Below w.heap.size w (w3.setCells w.heap.size 0 v3) := N3.trans ((only_setCells w3 w.heap.size v3 0).below (Nat.le_refl _))
  have VH := hide V3
  clear TAH H3 B3 hb3 TH0' N2 V3
  go_wp2_with (first
    | (refine wpList_load_mid rfl 59 (.tmp 3) rfl w1.heap.size 0 rfl v3 d RG hd hrow (by rw [L3.out]; exact infoH_32) ?_)
    | (refine wpList_store_mid rfl 59 (.tmp 2) (.tmp 7) rfl w.heap.size 0 v3.toArray rfl rfl ?hth ?hin ?hon ?_))
  case hth => show w3.there w.heap.size 0 v3.length; rw [L3.out]; exact TH3
  case hin => show _ = some v3.length; rw [L3.out]; exact infoH_32
  case hon => exact O3
  exact bodyPost_ret (v := .agg v3.toArray) (results_cell_m Tryz.results64 _ _ w.heap.size v3 d rfl RR hd hrow (by rw [L3.out]; exact infoH_32)) rfl ⟨⟨v3, rfl, VH.out⟩, N4⟩
theorem fold_set : ∀ (vs : List Value) (k off : Nat) (cells : List Value), off + k + vs.length ≤ cells.length → (vs.zipIdx k).foldl (fun (cs : Array Value) (p : Value × Nat) => cs.setIfInBounds (off + p.2) p.1) cells.toArray = (cells.take (off + k) ++ (vs ++ cells.drop (off + k + vs.length))).toArray
  | [], k, off, cells, h => by simp
  | v :: vs, k, off, cells, h => by
    rw [List.length_cons] at h
    rw [List.zipIdx_cons, List.foldl_cons]
    show List.foldl _ (cells.toArray.setIfInBounds (off + k) v) _ = _
    rw [List.setIfInBounds_toArray, fold_set vs (k + 1) off (cells.set (off + k) v) (by rw [List.length_set]; omega)]
    congr 1
    rw [List.length_cons, show off + (k + 1) = off + k + 1 by omega, List.take_set, List.drop_set_of_lt (by omega), show off + k + (vs.length + 1) = off + k + 1 + vs.length by omega]
    rw [show (List.take (off + k + 1) cells).set (off + k) v = cells.take (off + k) ++ [v] by
      rw [List.take_add_one, List.getElem?_eq_getElem (by omega)]
      simp only [Option.toList_some]
      rw [List.set_append_right _ _ (by rw [List.length_take]; omega), List.length_take, Nat.min_eq_left (by omega), Nat.sub_self]
      rfl]
    simp
theorem zeroK : ((Tryz.prog.info? 61).bind (·.zero)).map (·.cells.size) = some 274 := by kernel_rfl
theorem placesK : (match Tryz.prog.underlying 61 with | some (.struct fs) => fs.toList.mapM (fun f => (Tryz.prog.info? f.type).map fun i => (f.offset, i.size)) | _ => none) = some [(0, 137), (137, 137)] := by kernel_rfl
theorem builtK (v1 v2 : List Value) (h1 : v1.length = 137) (h2 : v2.length = 137) : Tryz.prog.built 61 [(0, .agg v1.toArray), (1, .agg v2.toArray)] = some (v1 ++ v2).toArray := by
  have hz := zeroK
  have hp := placesK
  unfold Program.built
  cases hit : Tryz.prog.info? 61 with
  | none => rw [hit] at hz; simp at hz
  | some it =>
    rw [hit] at hz
    cases hzz : it.zero with
    | none => simp [hzz] at hz
    | some z =>
      simp only [Option.bind_some, hzz, Option.map_some, Option.some.injEq] at hz
      cases hu : Tryz.prog.underlying 61 with
      | none => rw [hu] at hp; simp at hp
      | some dd =>
        rw [hu] at hp
        cases dd with
        | struct fs =>
          simp only at hp
          simp only [hzz, hp]
          obtain ⟨zl, hzl⟩ : ∃ l, z.cells = List.toArray l := ⟨z.cells.toList, by simp⟩
          have zn : zl.length = 274 := by rw [hzl] at hz; simpa using hz
          rw [hzl]
          have F1 := fold_set v1 0 0 zl (by omega)
          have F2 := fold_set v2 0 137 (v1 ++ zl.drop 137) (by rw [List.length_append, List.length_drop]; omega)
          simp only [Nat.add_zero, Nat.zero_add, List.take_zero, List.nil_append, h1] at F1
          have e2 : ((v1 ++ zl.drop 137).take 137 ++ (v2 ++ (v1 ++ zl.drop 137).drop (137 + 137))) = v1 ++ v2 := by
            rw [List.take_left' h1, List.drop_eq_nil_of_le (by rw [List.length_append, List.length_drop]; omega), List.append_nil]
          rw [h2, Nat.add_zero, e2] at F2
          simp only [Instr.fill, Value.cells, List.getElem?_toArray, List.getElem?_cons_zero, List.getElem?_cons_succ, List.size_toArray, h1, h2, zn]
          rw [if_neg (by simp)]
          simp only [← Array.foldl_toList, Array.toList_zipIdx, Nat.zero_add]
          rw [F1]
          rw [if_neg (by simp; omega)]
          rw [F2]
        | _ => simp at hp
theorem infoK : (Tryz.prog.info? 61).map (·.size) = some 274 := by kernel_rfl
theorem rowK : ∃ d, Tryz.prog.underlying 61 = some d ∧ d.isRow = true := by
  have h : (Tryz.prog.underlying 61).map (·.isRow) = some true := by kernel_rfl
  cases hq : Tryz.prog.underlying 61 with
  | none => rw [hq] at h; simp at h
  | some d => rw [hq] at h; exact ⟨d, rfl, by simpa using h⟩
abbrev zK : Obj := .cells (List.toArray (.int .i64 0 :: .int .u32 0 :: .int .u32 0 :: .int .u32 0 :: .int .u32 0 :: .int .u32 0 :: .int .u32 0 :: .int .u32 0 :: .int .u32 0 :: .int .u8 0 :: .int .u8 0 :: .int .u8 0 :: .int .u8 0 :: .int .u8 0 :: .int .u8 0 :: .int .u8 0 :: .int .u8 0 :: .int .u8 0 :: .int .u8 0 :: .int .u8 0 :: .int .u8 0 :: .int .u8 0 :: .int .u8 0 :: .int .u8 0 :: .int .u8 0 :: .int .u8 0 :: .int .u8 0 :: .int .u8 0 :: .int .u8 0 :: .int .u8 0 :: .int .u8 0 :: .int .u8 0 :: .int .u8 0 :: .int .u8 0 :: .int .u8 0 :: .int .u8 0 :: .int .u8 0 :: .int .u8 0 :: .int .u8 0 :: .int .u8 0 :: .int .u8 0 :: .int .u8 0 :: .int .u8 0 :: .int .u8 0 :: .int .u8 0 :: .int .u8 0 :: .int .u8 0 :: .int .u8 0 :: .int .u8 0 :: .int .u8 0 :: .int .u8 0 :: .int .u8 0 :: .int .u8 0 :: .int .u8 0 :: .int .u8 0 :: .int .u8 0 :: .int .u8 0 :: .int .u8 0 :: .int .u8 0 :: .int .u8 0 :: .int .u8 0 :: .int .u8 0 :: .int .u8 0 :: .int .u8 0 :: .int .u8 0 :: .int .u8 0 :: .int .u8 0 :: .int .u8 0 :: .int .u8 0 :: .int .u8 0 :: .int .u8 0 :: .int .u8 0 :: .int .u8 0 :: .int .u8 0 :: .int .u8 0 :: .int .u8 0 :: .int .u8 0 :: .int .u8 0 :: .int .u8 0 :: .int .u8 0 :: .int .u8 0 :: .int .u8 0 :: .int .u8 0 :: .int .u8 0 :: .int .u8 0 :: .int .u8 0 :: .int .u8 0 :: .int .u8 0 :: .int .u8 0 :: .int .u8 0 :: .int .u8 0 :: .int .u8 0 :: .int .u8 0 :: .int .u8 0 :: .int .u8 0 :: .int .u8 0 :: .int .u8 0 :: .int .u8 0 :: .int .u8 0 :: .int .u8 0 :: .int .u8 0 :: .int .u8 0 :: .int .u8 0 :: .int .u8 0 :: .int .u8 0 :: .int .u8 0 :: .int .u8 0 :: .int .u8 0 :: .int .u8 0 :: .int .u8 0 :: .int .u8 0 :: .int .u8 0 :: .int .u8 0 :: .int .u8 0 :: .int .u8 0 :: .int .u8 0 :: .int .u8 0 :: .int .u8 0 :: .int .u8 0 :: .int .u8 0 :: .int .u8 0 :: .int .u8 0 :: .int .u8 0 :: .int .u8 0 :: .int .u8 0 :: .int .u8 0 :: .int .u8 0 :: .int .u8 0 :: .int .u8 0 :: .int .u8 0 :: .int .u8 0 :: .int .u8 0 :: .int .u8 0 :: .int .u8 0 :: .int .u8 0 :: .int .u8 0 :: .int .u8 0 :: .int .i64 0 :: .int .u32 0 :: .int .u32 0 :: .int .u32 0 :: .int .u32 0 :: .int .u32 0 :: .int .u32 0 :: .int .u32 0 :: .int .u32 0 :: .int .u8 0 :: .int .u8 0 :: .int .u8 0 :: .int .u8 0 :: .int .u8 0 :: .int .u8 0 :: .int .u8 0 :: .int .u8 0 :: .int .u8 0 :: .int .u8 0 :: .int .u8 0 :: .int .u8 0 :: .int .u8 0 :: .int .u8 0 :: .int .u8 0 :: .int .u8 0 :: .int .u8 0 :: .int .u8 0 :: .int .u8 0 :: .int .u8 0 :: .int .u8 0 :: .int .u8 0 :: .int .u8 0 :: .int .u8 0 :: .int .u8 0 :: .int .u8 0 :: .int .u8 0 :: .int .u8 0 :: .int .u8 0 :: .int .u8 0 :: .int .u8 0 :: .int .u8 0 :: .int .u8 0 :: .int .u8 0 :: .int .u8 0 :: .int .u8 0 :: .int .u8 0 :: .int .u8 0 :: .int .u8 0 :: .int .u8 0 :: .int .u8 0 :: .int .u8 0 :: .int .u8 0 :: .int .u8 0 :: .int .u8 0 :: .int .u8 0 :: .int .u8 0 :: .int .u8 0 :: .int .u8 0 :: .int .u8 0 :: .int .u8 0 :: .int .u8 0 :: .int .u8 0 :: .int .u8 0 :: .int .u8 0 :: .int .u8 0 :: .int .u8 0 :: .int .u8 0 :: .int .u8 0 :: .int .u8 0 :: .int .u8 0 :: .int .u8 0 :: .int .u8 0 :: .int .u8 0 :: .int .u8 0 :: .int .u8 0 :: .int .u8 0 :: .int .u8 0 :: .int .u8 0 :: .int .u8 0 :: .int .u8 0 :: .int .u8 0 :: .int .u8 0 :: .int .u8 0 :: .int .u8 0 :: .int .u8 0 :: .int .u8 0 :: .int .u8 0 :: .int .u8 0 :: .int .u8 0 :: .int .u8 0 :: .int .u8 0 :: .int .u8 0 :: .int .u8 0 :: .int .u8 0 :: .int .u8 0 :: .int .u8 0 :: .int .u8 0 :: .int .u8 0 :: .int .u8 0 :: .int .u8 0 :: .int .u8 0 :: .int .u8 0 :: .int .u8 0 :: .int .u8 0 :: .int .u8 0 :: .int .u8 0 :: .int .u8 0 :: .int .u8 0 :: .int .u8 0 :: .int .u8 0 :: .int .u8 0 :: .int .u8 0 :: .int .u8 0 :: .int .u8 0 :: .int .u8 0 :: .int .u8 0 :: .int .u8 0 :: .int .u8 0 :: .int .u8 0 :: .int .u8 0 :: .int .u8 0 :: .int .u8 0 :: .int .u8 0 :: .int .u8 0 :: .int .u8 0 :: .int .u8 0 :: .int .u8 0 :: .int .u8 0 :: .int .u8 0 :: .int .u8 0 :: .int .u8 0 :: .int .u8 0 :: .int .u8 0 :: .int .u8 0 :: .int .u8 0 :: .int .u8 0 :: .int .u8 0 :: [])) 61
theorem there_alloc (w : World) (cs : List Value) (t : TypeId) : (w.alloc (.cells cs.toArray t)).there w.heap.size 0 cs.length := by
  have hh : (w.alloc (.cells cs.toArray t)).heap[w.heap.size]? = some (.cells cs.toArray t (0, 0)) := by
    show (w.heap.push _)[w.heap.size]? = _
    simp
  intro j hj
  refine ⟨?_, frozen_of_row _ _ _ _ _ hh⟩
  rw [Nat.zero_add, cell_of_row _ _ _ _ _ _ hh]
  simp [hj]
theorem range_alloc (w : World) (cs : List Value) (t : TypeId) : (w.alloc (.cells cs.toArray t)).rangeAt w.heap.size 0 cs := by
  have hh : (w.alloc (.cells cs.toArray t)).heap[w.heap.size]? = some (.cells cs.toArray t (0, 0)) := by
    show (w.heap.push _)[w.heap.size]? = _
    simp
  intro j v hv
  rw [Nat.zero_add, cell_of_row _ _ _ _ _ _ hh]
  simpa using hv
set_option maxRecDepth 20000 in
theorem thereK (w : World) : (w.alloc zK).there w.heap.size 0 274 := there_alloc w _ _
end Go.Proofs.YteedfhljbdnmnaaGreatDoor
namespace Go.Proofs.YteedfhljbdnmnaaGreatDoor
set_option maxRecDepth 100000
open Go Go.RowKit
def strL (s : ByteArray) : List Int := s.data.toList.map (fun b => (b.toNat : Int))
theorem strL_len (s : ByteArray) : (strL s).length = s.size := by unfold strL; rw [List.length_map]; rfl
theorem strL_byt (s : ByteArray) : Byt (strL s) := by
  intro j
  unfold strL
  by_cases h : j < s.data.toList.length
  · rw [List.getD_eq_getElem?_getD, List.getElem?_map, List.getElem?_eq_getElem h]
    simp only [Option.map_some, Option.getD_some]
    have := (s.data.toList[j]).toNat_lt
    omega
  · rw [List.getD_eq_getElem?_getD, List.getElem?_eq_none (by rw [List.length_map]; omega)]
    simp
theorem conv_bytes (w : World) (s : ByteArray) : ∃ (c : Nat) (w' : World), (convert 9 22 (.string s)).run Tryz.prog w = .ok (.slice (some ⟨w.heap.size, 0, none⟩) s.size c) w' ∧ Rd w' w.heap.size (some ⟨w.heap.size, 0, none⟩) .u8 (strL s) ∧ s.size ≤ c ∧ Below w.heap.size w w' ∧ w'.heap.size = w.heap.size + 1 := by
  refine ⟨_, _, Lib.run_convert_string_bytes w 9 22 5 s Tryz.underlying9 Tryz.underlying22 Tryz.underlying5, fun _ => ⟨0, rfl, fun i hi => ?_⟩, grownCap_ge w s.size 0 5, ⟨rfl, rfl, rfl, by rw [Lib.bytesWorld_size]; omega, fun b hb => Lib.bytesWorld_at_old w 5 s b hb⟩, Lib.bytesWorld_size w 5 s⟩
  rw [strL_len] at hi
  rw [Nat.zero_add, Lib.bytesWorld_cell w 5 s i hi]
  unfold strL
  have h : i < s.data.toList.length := hi
  rw [List.getD_eq_getElem?_getD, List.getD_eq_getElem?_getD, List.getElem?_map, List.getElem?_eq_getElem h]
  rfl
theorem wpList_conv_run {P : Program} (w : World) {ops : Array Oper} {rest : List Oper} {o : Oper} {a : Act} {Q : Exit → Act → World → Prop} (hgd : o.guard = none) (src dst : TypeId) (x : Operand) (ho : o.op = .convert src dst x) (v : Value) (hx : a.eval x = v)
    (v' : Value) (w' : World) (hr : (convert src dst v).run P w = .ok v' w') (h : wpList P ops Q rest (a.put o.dst v') w') : wpList P ops Q (o :: rest) a w :=
  wpList_plain hgd fun _ hK => by
    unfold Oper.wp execOp
    simp only [ho, hx]
    rw [Sem.run_bind, hr]
    exact hK _ _ h
set_option maxHeartbeats 1000000 in
theorem grow_any (w : World) (n : Nat) (h0 : 0 < n) (h1 : n ≤ 1048576) :
    Calls Tryz.prog 99 #[.slice none 0 0, .int .i64 (n : Int)] w fun e w' => ∃ v, e = .returned v ∧ RowB w' w.heap.size v [] ∧ Below w.heap.size w w' := by
  obtain ⟨i0, hi, hz0, hz1, hz2⟩ := info_parts Tryz.info5
  have hap := Lib.run_append_nil_zeros (P := Tryz.prog) w 22 3 22 5 i0 (.int .u8 0) .i64 .i64 Tryz.underlying22 Tryz.underlying3 hi hz0 n h0 (by omega) (by omega) (by rw [hz2]; omega)
  have ge := grownCap_ge w n 0 5
  have le : grownCap w n 0 5 ≤ maxLen := grownCap_le_maxLen w n 0 5 (by unfold maxLen; omega)
  have R : RowB (w.drew.alloc (.cells (Builtin.zeroCells (Value.int .u8 0).cells n ++ Builtin.zeroCells (Value.int .u8 0).cells (grownCap w n 0 5 - n)) 5)) w.heap.size (.slice (some ⟨w.heap.size, 0, none⟩) 0 (grownCap w n 0 5)) [] :=
    ⟨rfl, .inr ⟨w.heap.size, grownCap w n 0 5, _, rfl, Nat.le_refl _, _root_.Go.heap_alloc_new w.drew _, Nat.zero_le _, le, by rw [Array.size_append, size_zeroCells, size_zeroCells]; show n * 1 + (grownCap w n 0 5 - n) * 1 = _; omega, by simp⟩⟩
  have nb : Below w.heap.size w (w.drew.alloc (.cells (Builtin.zeroCells (Value.int .u8 0).cells n ++ Builtin.zeroCells (Value.int .u8 0).cells (grownCap w n 0 5 - n)) 5)) := ((Below.refl _ _).drew).alloc (Nat.le_refl _) _
  generalize w.drew.alloc (.cells (Builtin.zeroCells (Value.int .u8 0).cells n ++ Builtin.zeroCells (Value.int .u8 0).cells (grownCap w n 0 5 - n)) 5) = w' at *
  generalize grownCap w n 0 5 = cp at *
  have n0 : decide ((n : Int) < 0) = false := by simp
  have n1 : decide ((0 : Int) < (n : Int)) = true := by simp; omega
  have n2 : decide (0 < n) = true := by simpa using h0
  clear ge le
  go_enter Tryz.func99, Tryz.ntmps99
  go_wp2_with (at_builtin; refine Lib.wpList_append_run _ rfl _ _ 22 3 rfl _ _ rfl rfl _ _ hap ?_)
  go_ret
  exact ⟨_, rfl, R, nb⟩
theorem cat_len_le (ls : List Lst) (j : Nat) : (cat (ls.take j)).length ≤ (cat ls).length := by
  have : cat ls = cat (ls.take j) ++ cat (ls.drop j) := by
    unfold cat
    rw [← List.flatten_append, ← List.map_append, List.take_append_drop]
  rw [this, List.length_append]
  omega
set_option maxHeartbeats 4000000 in
theorem concat_any (w : World) (b n c : Nat) (ls : List Lst) (hn : ls.length = n) (hm : n ≤ 1000) (hs : Lsts w b ls) (hl : ∀ l ∈ ls, Rd w l.g l.a .u8 l.xs ∧ (l.a = none → l.c = 0)) (h0 : 0 < (cat ls).length) (h1 : (cat ls).length ≤ 1048576) :
    Calls Tryz.prog 68 #[.slice (some ⟨b, 0, none⟩) n c] w fun e w' => NewRow w.heap.size w' e .u8 (cat ls) ∧ Below w.heap.size w w' := by
  obtain ⟨i0, hi, hz0, hz1, hz2⟩ := info_parts Tryz.info5
  have HN := hide hn
  clear hn
  obtain ⟨rs, hrs⟩ : ∃ l, l = cat ls := ⟨_, rfl⟩
  have HR := hide hrs
  rw [← hrs] at h0 h1 ⊢
  clear hrs
  have GR := hide (grow_any w rs.length h0 h1)
  go_enter Tryz.func68, Tryz.ntmps68
  go_wp2
  go_loopw [3, 5, 11] (fun s _ i wr => ∃ (j : Nat), j ≤ n ∧ i = .int .i64 j ∧ s = .int .i64 ((cat (ls.take j)).length : Int) ∧ w = wr) (fun _ _ i _ => n - (intOf i).toNat)
  case atStart => exact ⟨0, Nat.zero_le _, rfl, rfl, rfl⟩
  case round =>
    obtain ⟨j, hj, rfl, rfl, rfl⟩ := hrel
    by_cases hlt : j < n
    · obtain ⟨l, hjl⟩ : ∃ l, ls[j]? = some l := ⟨ls[j]'(by rw [HN.out]; exact hlt), List.getElem?_eq_getElem _⟩
      have cc := hs j l hjl
      have ct := cat_take ls j l hjl
      have lb := cat_len_le ls (j + 1)
      rw [← HR.out, ct, List.length_append] at lb
      have CT : Hid ((cat (ls.take (j + 1))).length = (cat (ls.take j)).length + l.xs.length) := by show _ = _; rw [ct, List.length_append]
      clear ct
      generalize (cat (ls.take j)).length = cj at *
      have jn : (j : Int) < (n : Int) := by omega
      have c0 : decide ((cj : Int) + (l.xs.length : Int) < 0) = false := by simp; omega
      go_wp2
      go_roundw
      case rel => exact ⟨j + 1, by omega, by go_num, by rw [CT.out]; go_num, by trivial⟩
      case measure => simp [intOf]; omega
    · obtain rfl : j = n := by omega
      have e : ls.take j = ls := List.take_of_length_le (by rw [HN.out]; exact Nat.le_refl _)
      rw [e, ← HR.out]
      clear e
      go_wp2_with fail
      refine GR.out.mono ?_
      rintro r w1 ⟨v1, rfl, R1, n1⟩
      go_wp2
      go_loopw [6, 8, 27] (fun v _ i wq => ∃ (k : Nat), k ≤ j ∧ i = .int .i64 k ∧ RowB wq w.heap.size v (cat (ls.take k)) ∧ Below w.heap.size w wq) (fun _ _ i _ => j - (intOf i).toNat)
      case atStart => exact ⟨0, Nat.zero_le _, rfl, R1, n1⟩
      case round =>
        obtain ⟨k, hk, rfl, R, hN⟩ := hrel
        clear R1 n1 GR
        by_cases hlt2 : k < j
        · obtain ⟨l, hjl⟩ : ∃ l, ls[k]? = some l := ⟨ls[k]'(by rw [HN.out]; exact hlt2), List.getElem?_eq_getElem _⟩
          have lm : l ∈ ls := List.mem_of_getElem? hjl
          have cc := (hs.up hN) k l hjl
          have ct := cat_take ls k l hjl
          have lb := cat_len_le ls (k + 1)
          rw [← HR.out, ct, List.length_append] at lb
          obtain ⟨v', w2, hap, o2, n2⟩ := append_any (P := Tryz.prog) wr 22 i0 Tryz.underlying22 hi hz0 hz1 hz2 w.heap.size w.heap.size _ _ R l.g l.a l.c l.xs ((hl l lm).1.up hN) (hl l lm).2 (by omega) (Nat.le_refl _) hN.size
          rw [← ct] at o2
          have N2 := hN.trans n2
          have kj : (k : Int) < (j : Int) := by omega
          clear ct lb R n2
          go_wp2_with (at_builtin; refine Lib.wpList_append_run _ rfl _ _ 22 22 rfl _ _ rfl rfl _ _ hap ?_)
          clear hap
          go_roundw
          case rel => exact ⟨k + 1, by omega, by go_num, o2, N2⟩
          case measure => simp [intOf]; omega
        · obtain rfl : k = j := by omega
          have e : ls.take k = ls := List.take_of_length_le (by rw [HN.out]; exact Nat.le_refl _)
          rw [e, ← HR.out] at R
          obtain ⟨a4, c4, g4, rfl, o4, p4, q4, r4⟩ := R.own
          clear e R
          go_wp2
          go_ret
          exact ⟨⟨a4, c4, g4, rfl, o4, p4, q4, r4⟩, hN⟩
end Go.Proofs.YteedfhljbdnmnaaGreatDoor
namespace Go.Proofs.YteedfhljbdnmnaaGreatDoor
set_option maxRecDepth 100000
open Go Go.RowKit
def Ty5 (w : World) (g : Nat) : Prop := ∃ cur, w.heap[g]? = some (.cells cur 5 (0, 0))
theorem Ty5.of_made {w : World} {base g n : Nat} {xs : List Value} (h : w.ownsRow base 5 1 (.slice (some ⟨g, 0, none⟩) n n) n xs) : Ty5 w g := by
  rcases h.2 with ⟨h', _⟩ | ⟨g', cap', cur, h', _, hg, _⟩
  · simp at h'
  · simp only [Value.slice.injEq, Option.some.injEq, Addr.mk.injEq, and_true, true_and] at h'
    obtain ⟨rfl, rfl⟩ := h'
    exact ⟨cur, hg⟩
theorem Ty5.set {w : World} {g : Nat} (h : Ty5 w g) (i : Nat) (v : Value) : Ty5 (w.setCell ⟨g, i, none⟩ v) g := by
  obtain ⟨cur, h⟩ := h
  exact ⟨_, heap_setCell_same w g i _ 5 _ h⟩
end Go.Proofs.YteedfhljbdnmnaaGreatDoor
namespace Go.Proofs.YteedfhljbdnmnaaGreatDoor
set_option maxRecDepth 100000
open Go Go.RowKit
def chanB : ByteArray := ⟨#[99, 104, 97, 110, 32]⟩
def infoL (s : ByteArray) (ctx : List Int) (N : Nat) : List Int := [(N : Int) / 256, (N : Int) % 256, 5 + (s.size : Int)] ++ (strL (chanB ++ s) ++ ([(ctx.length : Int)] ++ ctx))
theorem chan_size (s : ByteArray) : (chanB ++ s).size = s.size + 5 := by
  rw [ByteArray.size_append, show chanB.size = 5 from rfl]
  omega
theorem infoL_len (s : ByteArray) (ctx : List Int) (N : Nat) : (infoL s ctx N).length = 3 + (s.size + 5) + 1 + ctx.length := by
  unfold infoL
  simp only [List.length_append, strL_len, chan_size, List.length_cons, List.length_nil]
  omega
theorem infoL_byt {s : ByteArray} {ctx : List Int} {N : Nat} (hs : s.size ≤ 200) (hc : Byt ctx) (hl : ctx.length ≤ 255) (hN : N ≤ 8160) : Byt (infoL s ctx N) := by
  unfold infoL
  refine byt_apd (byt_cons (by omega) (by omega) (byt_cons (by omega) (by omega) (byt_cons (by omega) (by omega) byt_nil))) (byt_apd (strL_byt _) (byt_apd (byt_cons (by omega) (by omega) byt_nil) hc))
theorem cat4 (a b c d : Lst) : cat [a, b, c, d] = a.xs ++ (b.xs ++ (c.xs ++ d.xs)) := by simp [cat]
theorem lsts_four (w : World) (t : TypeId) (a b c d : Lst) : Lsts (w.alloc (.cells #[.slice a.a a.xs.length a.c, .slice b.a b.xs.length b.c, .slice c.a c.xs.length c.c, .slice d.a d.xs.length d.c] t)) w.heap.size [a, b, c, d] := by
  intro j x hj
  match j, hj with
  | 0, hj => simp at hj; subst hj; simp [World.cell?_alloc_at]
  | 1, hj => simp at hj; subst hj; simp [World.cell?_alloc_at]
  | 2, hj => simp at hj; subst hj; simp [World.cell?_alloc_at]
  | 3, hj => simp at hj; subst hj; simp [World.cell?_alloc_at]
theorem blk_lit3 (w : World) (k : IntKind) (e : TypeId) (x y z : Int) : Blk (w.alloc (.cells #[.int k x, .int k y, .int k z] e)) w.heap.size k [x, y, z] := by
  refine ⟨e, ?_⟩
  show (w.heap.push _)[w.heap.size]? = _
  simp
set_option maxHeartbeats 4000000 in
theorem labelInfo_any (w : World) (s : ByteArray) (hs : s.size ≤ 200) (g : Nat) (a : Option Addr) (c : Nat) (ctx : List Int) (hr : Rd w g a .u8 ctx) (hl : ctx.length ≤ 255) (hc : a = none → c = 0) (N : Nat) (hN : N ≤ 8160) :
    Calls Tryz.prog 40 #[.string s, .slice a ctx.length c, .int .i64 (N : Int)] w fun e w' => NewRow w.heap.size w' e .u8 (infoL s ctx N) ∧ Below w.heap.size w w' := by
  have hN0 : (0 : Int) ≤ (N : Int) := by omega
  have hN1 : (N : Int) ≤ 8160 := by omega
  have sz := hide (chan_size s)
  obtain ⟨rs, hrs⟩ : ∃ l, l = infoL s ctx N := ⟨_, rfl⟩
  have HR := hide hrs
  rw [← hrs]
  clear hrs
  go_enter Tryz.func40, Tryz.ntmps40
  go_upto_region 3 with fail
  change Code.wp _ _ _ _ (w.alloc (.cells #[.int .u8 ((N : Int) / 256), .int .u8 ((N : Int) % 256), .int .u8 (5 + (s.size : Int))] 5))
  have n0 : Below w.heap.size w (w.alloc (.cells #[.int .u8 ((N : Int) / 256), .int .u8 ((N : Int) % 256), .int .u8 (5 + (s.size : Int))] 5)) := (Below.refl _ _).alloc (Nat.le_refl _) _
  have B0 := blk_lit3 w .u8 5 ((N : Int) / 256) ((N : Int) % 256) (5 + (s.size : Int))
  have z0 : (w.alloc (.cells #[.int .u8 ((N : Int) / 256), .int .u8 ((N : Int) % 256), .int .u8 (5 + (s.size : Int))] 5)).heap.size = w.heap.size + 1 := by simp
  generalize w.alloc (.cells #[.int .u8 ((N : Int) / 256), .int .u8 ((N : Int) % 256), .int .u8 (5 + (s.size : Int))] 5) = wa at *
  obtain ⟨cv, wb, hcv, rb, cb, n1, z1⟩ := conv_bytes wa (chanB ++ s)
  have sl := hide (strL_len (chanB ++ s))
  rw [← sl.out] at hcv
  have hcv' : (convert 9 22 (.string ({ data := #[99, 104, 97, 110, 32] } ++ s))).run Tryz.prog wa = .ok (.slice (some ⟨wa.heap.size, 0, none⟩) (strL (chanB ++ s)).length cv) wb := hcv
  have N1 := nxt n0 n1
  have cl : (ctx.length : Int) ≤ 255 := by omega
  have n2 : Below wb.heap.size wb (wb.alloc (.cells #[.int .u8 (ctx.length : Int)] 5)) := (Below.refl _ _).alloc (Nat.le_refl _) _
  have B2 := blk_lit1 wb .u8 5 (ctx.length : Int)
  have z2 : (wb.alloc (.cells #[.int .u8 (ctx.length : Int)] 5)).heap.size = wb.heap.size + 1 := by simp
  obtain ⟨WB, hWB⟩ : ∃ l, l = strL (chanB ++ s) := ⟨_, rfl⟩
  rw [← hWB] at rb hcv' sl
  have EW : Hid (rs = [(N : Int) / 256, (N : Int) % 256, 5 + (s.size : Int)] ++ (WB ++ ([(ctx.length : Int)] ++ ctx))) := by show _ = _; rw [HR.out, hWB]; rfl
  clear hWB hcv
  go_wp2_with (refine wpList_conv_run wa rfl 9 22 (.tmp 21) rfl _ rfl _ _ hcv' ?_)
  rw [z0] at rb z1
  rw [z1] at B2 z2
  have U2 := fun (x : List Int) (q : Nat) (ad : Option Addr) (h : Rd w q ad .u8 x) => h.up (nxt N1 n2)
  generalize wb.alloc (.cells #[.int .u8 (ctx.length : Int)] 5) = wc at *
  have n3 : Below wc.heap.size wc (wc.alloc (.cells #[.slice (some ⟨w.heap.size, 0, none⟩) 3 3, .slice (some ⟨w.heap.size + 1, 0, none⟩) WB.length cv, .slice (some ⟨w.heap.size + 1 + 1, 0, none⟩) 1 1, .slice a ctx.length c] 22)) := (Below.refl _ _).alloc (Nat.le_refl _) _
  have LS := lsts_four wc 22 ⟨w.heap.size, some ⟨w.heap.size, 0, none⟩, 3, [(N : Int) / 256, (N : Int) % 256, 5 + (s.size : Int)]⟩ ⟨w.heap.size + 1, some ⟨w.heap.size + 1, 0, none⟩, cv, WB⟩ ⟨w.heap.size + 1 + 1, some ⟨w.heap.size + 1 + 1, 0, none⟩, 1, [(ctx.length : Int)]⟩ ⟨g, a, c, ctx⟩
  have LS' : Lsts (wc.alloc (.cells #[.slice (some ⟨w.heap.size, 0, none⟩) 3 3, .slice (some ⟨w.heap.size + 1, 0, none⟩) WB.length cv, .slice (some ⟨w.heap.size + 1 + 1, 0, none⟩) 1 1, .slice a ctx.length c] 22)) wc.heap.size [⟨w.heap.size, some ⟨w.heap.size, 0, none⟩, 3, [(N : Int) / 256, (N : Int) % 256, 5 + (s.size : Int)]⟩, ⟨w.heap.size + 1, some ⟨w.heap.size + 1, 0, none⟩, cv, WB⟩, ⟨w.heap.size + 1 + 1, some ⟨w.heap.size + 1 + 1, 0, none⟩, 1, [(ctx.length : Int)]⟩, ⟨g, a, c, ctx⟩] := LS
  rw [z2] at LS'
  generalize wc.alloc (.cells #[.slice (some ⟨w.heap.size, 0, none⟩) 3 3, .slice (some ⟨w.heap.size + 1, 0, none⟩) WB.length cv, .slice (some ⟨w.heap.size + 1 + 1, 0, none⟩) 1 1, .slice a ctx.length c] 22) = wd at *
  have N3 := nxt (nxt N1 n2) n3
  have CC := concat_any wd (w.heap.size + 1 + 1 + 1) 4 4 _ rfl (by omega) LS' (by
    intro x hx
    simp only [List.mem_cons, List.not_mem_nil, or_false] at hx
    rcases hx with rfl | rfl | rfl | rfl
    · exact ⟨(((B0.up n1).up n2).up n3).own0.rd, by simp⟩
    · exact ⟨(rb.up n2).up n3, by simp⟩
    · exact ⟨(B2.up n3).own0.rd, by simp⟩
    · exact ⟨(U2 _ _ _ hr).up n3, hc⟩) (by rw [cat4]; simp) (by rw [cat4]; simp only [List.length_append, List.length_cons, List.length_nil]; have := sl.out; have := sz.out; omega)
  rw [cat4] at CC
  have CH : Hid (Calls Tryz.prog 68 #[.slice (some ⟨w.heap.size + 1 + 1 + 1, 0, none⟩) 4 4] wd fun e w' => NewRow wd.heap.size w' e .u8 rs ∧ Below wd.heap.size wd w') := by
    show Calls _ _ _ _ _
    rw [EW.out]
    exact CC
  clear CC LS LS' B0 B2 rb U2 hcv'
  refine CH.out.mono ?_
  rintro r we ⟨⟨a4, c4, g4, rfl, o4, p4, q4, r4⟩, n4⟩
  have y3 := N3.size
  go_wp2
  go_ret
  exact ⟨⟨a4, c4, g4, rfl, o4, p4, q4, by omega⟩, nxt N3 n4⟩
end Go.Proofs.YteedfhljbdnmnaaGreatDoor
namespace Go.Proofs.YteedfhljbdnmnaaGreatDoor
set_option maxRecDepth 100000
open Go Go.RowKit
def keyL (ks : List Int) : List Int := if 64 < ks.length then hashL32 ks else ks
def macL (ks xs : List Int) : List Int := hashL32 (maskL (keyL ks) 92 ++ hashL32 (maskL (keyL ks) 54 ++ xs))
theorem range_app {w : World} {q o n : Nat} {v1 v2 : List Value} (h : w.rangeAt q o (v1 ++ v2)) (h1 : v1.length = n) : w.rangeAt q o v1 ∧ w.rangeAt q (o + n) v2 := by
  refine ⟨fun j v hj => h j v ?_, fun j v hj => ?_⟩
  · rw [List.getElem?_append_left (List.getElem?_eq_some_iff.1 hj).1]
    exact hj
  · have := h (n + j) v (by rw [List.getElem?_append_right (by omega), h1, Nat.add_sub_cancel_left]; exact hj)
    rwa [← Nat.add_assoc] at this
theorem there_part {w : World} {q o n p m : Nat} (h : w.there q o n) (hp : p + m ≤ n) : w.there q (o + p) m := fun j hj => by
  have := h (p + j) (by omega)
  rwa [← Nat.add_assoc] at this
set_option maxRecDepth 20000 in
set_option maxHeartbeats 8000000 in
theorem ofD (w : World) (v1 v2 : List Value) (is os : List Int) (V1 : HV v1 is) (V2 : HV v2 os) (b n c : Nat) (ls : List Lst) (hn : ls.length = n) (hm : n ≤ 1000) (hs : Lsts w b ls) (hb : b < w.heap.size) (hl : ∀ l ∈ ls, Rd w l.g l.a .u8 l.xs ∧ Byt l.xs ∧ l.xs.length ≤ l.c)
    (hL : is.length + (cat ls).length ≤ 1099511627776) (ho : os.length ≤ 1000000) (hT : HasT w 2 kL) :
    Calls Tryz.prog 67 #[.agg (v1 ++ v2).toArray, .slice (some ⟨b, 0, none⟩) n c] w fun e w' => NewRow w.heap.size w' e .u8 (hashL32 (os ++ hashL32 (is ++ cat ls))) ∧ Below w.heap.size w w' := by
  have gl : 2 < w.heap.size := block_lt_of_cell (hT 0 (by decide))
  obtain ⟨d, hd, hrow⟩ := rowH_32
  have l1 := V1.len
  have l2 := V2.len
  have R0 := range_alloc w (v1 ++ v2) 61
  have T0 := there_alloc w (v1 ++ v2) 61
  have n0 : Below w.heap.size w (w.alloc (.cells (v1 ++ v2).toArray 61)) := (Below.refl _ _).alloc (Nat.le_refl _) _
  have z0 : (w.alloc (.cells (v1 ++ v2).toArray 61)).heap.size = w.heap.size + 1 := by simp
  rw [List.length_append, l1, l2] at T0
  obtain ⟨ra, rb⟩ := range_app R0 l1
  have HA := V1.at ra (there_part (p := 0) (m := 137) T0 (by omega))
  have HBB := V2.at rb (there_part (p := 137) (m := 137) T0 (by omega))
  rw [Nat.zero_add] at HBB
  generalize v1 ++ v2 = vs at *
  clear R0 T0 ra rb V1 V2 l1 l2
  obtain ⟨rs, hrs⟩ : ∃ l, l = hashL32 (os ++ hashL32 (is ++ cat ls)) := ⟨_, rfl⟩
  rw [← hrs]
  have HR := hide hrs
  have HN := hide hn
  clear hrs hn
  go_enter Tryz.func67, Tryz.ntmps67
  go_upto_region 1 with fail
  generalize w.alloc (.cells vs.toArray 61) = wa at *
  have TA := hide (takeAllD wa w.heap.size 0 is HA b n c ls HN.out hm (hs.up n0) (fun l h => ⟨(hl l h).1.up n0, (hl l h).2.1, (hl l h).2.2, fun h0 => by have := (hl l h).1.lt h0; omega⟩) (by omega) (by omega) (hT.up n0) (by omega))
  go_wp2_with fail
  refine TA.out.mono ?_
  rintro r w1 ⟨rfl, H1, B1⟩
  have G1 := HBB.bx B1 (.inr (by omega))
  have N1 : Below w.heap.size w w1 := n0.trans (B1.bt.below (Nat.le_refl _) n0.size)
  have y1 : w.heap.size + 1 ≤ w1.heap.size := by have := H1.lt; omega
  obtain ⟨v3, V3, RG, -⟩ := H1.val
  have L3 := hide V3.len
  have EN := hide (endV w1 v3 _ V3 (by rw [List.length_append]; exact hL) (hT.up N1))
  clear TA HA HBB B1 V3 H1 z0 n0
  go_wp2_with (refine wpList_load_mid rfl 59 (.tmp 9) rfl w.heap.size 0 rfl v3 d RG hd hrow (by rw [L3.out]; exact infoH_32) ?_)
  refine EN.out.mono ?_
  rintro r w2 ⟨⟨a2, c2, g2, rfl, o2, p2, q2, r2⟩, n2⟩
  have N2 := nxt N1 n2
  have G2 := G1.up n2
  have hb2 := hash_byt32 (is ++ cat ls)
  have hl2 := hide (hash_len32 (is ++ cat ls))
  generalize hashL32 (is ++ cat ls) = h2 at *
  have TK := hide (takeD w2 w.heap.size 137 os G2 g2 a2 c2 h2 o2.rd hb2 q2 (fun _ => by omega) (by rw [hl2.out]; omega) (hT.up N2) (by omega))
  clear EN G1 G2 RG L3 n2 N1 o2
  go_wp2_with fail
  refine TK.out.mono ?_
  rintro r w3 ⟨rfl, H3, B3⟩
  have N3 : Below w.heap.size w w3 := N2.trans (B3.bt.below (Nat.le_refl _) N2.size)
  obtain ⟨v4, V4, RG, -⟩ := H3.val
  have L4 := hide V4.len
  have EN := endV w3 v4 _ V4 (by rw [List.length_append, hl2.out]; omega) (hT.up N3)
  rw [← HR.out] at EN
  have ENH := hide EN
  clear TK H3 B3 N2 V4 EN
  have y3 := N3.size
  go_wp2_with (refine wpList_load_mid rfl 59 (.tmp 13) rfl w.heap.size 137 rfl v4 d RG hd hrow (by rw [L4.out]; exact infoH_32) ?_)
  refine ENH.out.mono ?_
  rintro r w4 ⟨⟨a4, c4, g4, rfl, o4, p4, q4, r4⟩, n4⟩
  go_wp2
  go_ret
  exact ⟨⟨a4, c4, g4, rfl, o4, p4, q4, by omega⟩, nxt N3 n4⟩
theorem wpList_build_run {P : Program} (w : World) {ops : Array Oper} {rest : List Oper} {o : Oper} {a : Act} {Q : Exit → Act → World → Prop} (hgd : o.guard = none) (t : TypeId) (p q : Nat) (ho : o.op = .build t #[(0, .tmp p), (1, .tmp q)])
    (x y v : Value) (hx : a.eval (.tmp p) = x) (hy : a.eval (.tmp q) = y) (hr : (Instr.build t #[(0, x), (1, y)]).run P w = .ok v w) (h : wpList P ops Q rest (a.put o.dst v) w) : wpList P ops Q (o :: rest) a w :=
  wpList_plain hgd fun _ hK => by
    have gg : (#[(0, Operand.tmp p), (1, Operand.tmp q)].map fun (n, x) => (n, a.eval x)) = #[(0, x), (1, y)] := by simp [hx, hy]
    unfold Oper.wp execOp
    simp only [ho, gg]
    rw [Sem.run_bind, hr]
    exact hK _ _ h
set_option maxRecDepth 20000 in
set_option maxHeartbeats 1500000 in
theorem newKeyed_any (w : World) (g : Nat) (a : Option Addr) (c : Nat) (ks : List Int) (hr : Rd w g a .u8 ks) (hk : Byt ks) (hc : ks.length ≤ c) (hn : ks.length ≤ 1099511627776) (hS : HasT w 0 stLh) (hT : HasT w 2 kL) :
    Calls Tryz.prog 38 #[.slice a ks.length c] w fun e w' => (∃ v1 v2, e = .returned (.agg (v1 ++ v2).toArray) ∧ HV v1 (maskL (keyL ks) 54) ∧ HV v2 (maskL (keyL ks) 92)) ∧ Below w.heap.size w w' := by
  obtain ⟨d, hd, hrow⟩ := rowK
  have TH0 := thereK w
  have n0 : Below w.heap.size w (w.alloc zK) := (Below.refl _ _).alloc (Nat.le_refl _) _
  have z0 : (w.alloc zK).heap.size = w.heap.size + 1 := by simp
  by_cases hlong : 64 < ks.length
  · have e1 : keyL ks = hashL32 ks := by unfold keyL; rw [if_pos hlong]
    rw [e1]
    clear e1
    have t1 : decide ((64 : Int) < (ks.length : Int)) = true := by simp; omega
    have HH := hide (fun V (n : Below w.heap.size w V) => implHash_32 V g a c ks (hr.up n) hk hc hn (hS.up n) (hT.up n))
    go_enter Tryz.func38, Tryz.ntmps38
    go_upto_region 1 with fail
    change Code.wp _ _ _ _ (w.alloc zK)
    generalize w.alloc zK = wa at *
    go_wp2_with fail
    refine (HH.out wa n0).mono ?_
    rintro r w1 ⟨⟨a1, c1, g1, rfl, o1, p1, q1, r1⟩, n1⟩
    have N1 := nxt n0 n1
    have TH1 := there_upn (by omega) TH0 n1
    have kb := hash_byt32 ks
    obtain ⟨kk, hkk⟩ : ∃ l, l = hashL32 ks := ⟨_, rfl⟩
    rw [← hkk] at o1 q1 kb ⊢
    have HKK := hide hkk
    clear hkk
    have y0 := n1.size
    rw [z0] at y0
    clear HH TH0 n1
    have y1 : w.heap.size + 1 ≤ w1.heap.size := by exact y0
    go_wp2_with fail
    have MK := maskedKey_any w1 g1 a1 c1 kk o1.rd 54 kb (.inl rfl)
    obtain ⟨m1, hm1⟩ : ∃ l, l = maskL kk 54 := ⟨_, rfl⟩
    have ml : Hid (m1.length = 64) := by rw [hm1]; exact maskL_len _ _
    have mb : Byt m1 := by rw [hm1]; exact maskL_byt kb (.inl rfl)
    rw [← hm1] at MK
    have HMm1 := hide hm1
    clear hm1
    refine MK.mono ?_
    clear MK
    rintro r w2 ⟨⟨a2, c2, g2, rfl, o2, p2, q2, r2⟩, n2⟩
    have N2 := nxt N1 n2
    have LS := lsts_one w2 22 ⟨g2, a2, c2, m1⟩
    have n3 : Below w2.heap.size w2 (w2.alloc (.cells #[.slice a2 m1.length c2] 22)) := (Below.refl _ _).alloc (Nat.le_refl _) _
    go_wp2_with fail
    have N3 := nxt N2 n3
    change Calls _ _ _ (w2.alloc (.cells #[.slice a2 m1.length c2] 22)) _
    have LS' : Lsts (w2.alloc (.cells #[.slice a2 m1.length c2] 22)) w2.heap.size [⟨g2, a2, c2, m1⟩] := LS
    have BH := hide (behindD (w2.alloc (.cells #[.slice a2 m1.length c2] 22)) w2.heap.size ⟨g2, a2, c2, m1⟩ LS' ⟨o2.rd.up n3, mb, q2⟩ (by show m1.length ≤ _; rw [ml.out]; omega) (hS.up N3) (hT.up N3))
    have TH3 := there_upn (by omega) TH1 (nxt n2 n3)
    have o3 := o1.rd.up (nxt n2 n3)
    clear LS LS' n3 n2 N2 TH1
    generalize w2.alloc (.cells #[.slice a2 m1.length c2] 22) = w3 at *
    refine BH.out.mono ?_
    rintro r w4 ⟨⟨v1, rfl, V1⟩, n4⟩
    have N4 := nxt N3 n4
    have TH4 := there_upn (by omega) TH3 n4
    clear BH TH3
    go_wp2_with fail
    have MK := maskedKey_any w4 g1 a1 c1 kk (o3.up n4) 92 kb (.inr rfl)
    obtain ⟨m2, hm2⟩ : ∃ l, l = maskL kk 92 := ⟨_, rfl⟩
    have ml5 : Hid (m2.length = 64) := by rw [hm2]; exact maskL_len _ _
    have mb5 : Byt m2 := by rw [hm2]; exact maskL_byt kb (.inr rfl)
    rw [← hm2] at MK
    have HMm2 := hide hm2
    clear hm2
    refine MK.mono ?_
    clear MK
    rintro r w5 ⟨⟨a5, c5, g5, rfl, o5, p5, q5, r5⟩, n5⟩
    have N5 := nxt N4 n5
    have LS := lsts_one w5 22 ⟨g5, a5, c5, m2⟩
    have n6 : Below w5.heap.size w5 (w5.alloc (.cells #[.slice a5 m2.length c5] 22)) := (Below.refl _ _).alloc (Nat.le_refl _) _
    go_wp2_with fail
    have N6 := nxt N5 n6
    change Calls _ _ _ (w5.alloc (.cells #[.slice a5 m2.length c5] 22)) _
    have LS' : Lsts (w5.alloc (.cells #[.slice a5 m2.length c5] 22)) w5.heap.size [⟨g5, a5, c5, m2⟩] := LS
    have BH := hide (behindD (w5.alloc (.cells #[.slice a5 m2.length c5] 22)) w5.heap.size ⟨g5, a5, c5, m2⟩ LS' ⟨o5.rd.up n6, mb5, q5⟩ (by show m2.length ≤ _; rw [ml5.out]; omega) (hS.up N6) (hT.up N6))
    have TH6 := there_upn (by omega) TH4 (nxt n5 n6)
    clear LS LS' n6 n5 N5 TH4 o3
    generalize w5.alloc (.cells #[.slice a5 m2.length c5] 22) = w6 at *
    refine BH.out.mono ?_
    rintro r w7 ⟨⟨v2, rfl, V2⟩, n7⟩
    have N7 := nxt N6 n7
    have TH7 := there_upn (by omega) TH6 n7
    have BU := hide (builtK v1 v2 V1.len V2.len)
    have L7 : Hid ((v1 ++ v2).length = 274) := by show _ = _; rw [List.length_append, V1.len, V2.len]
    have O7 : (v1 ++ v2).toArray.all (·.oneCell') = true := all_oneCell_toArray (fun v hv => by
      rcases List.mem_append.1 hv with h | h
      · exact V1.one v h
      · exact V2.one v h)
    have RR := World.rangeAt_setCells_same w7 w.heap.size 0 (v1 ++ v2) (by rw [L7.out]; exact TH7)
    have N8 : Below w.heap.size w (w7.setCells w.heap.size 0 (v1 ++ v2)) := N7.trans ((only_setCells w7 w.heap.size (v1 ++ v2) 0).below (Nat.le_refl _))
    have VV := hide (And.intro V1 V2)
    clear BH TH6 V1 V2 N6 N4 N3 o2 o5
    have RB : ∀ W, (Instr.build 61 #[(0, .agg v1.toArray), (1, .agg v2.toArray)]).run Tryz.prog W = .ok (.agg (v1 ++ v2).toArray) W := fun W => run_build W _ _ _ BU.out
    generalize hvs : v1 ++ v2 = vs at *
    go_wp2_with (first
      | (refine wpList_build_run w7 rfl 61 11 15 rfl (.agg v1.toArray) (.agg v2.toArray) (.agg vs.toArray) rfl rfl (RB w7) ?_)
      | (refine wpList_store_mid rfl 61 (.tmp 2) (.tmp 16) rfl w.heap.size 0 vs.toArray rfl rfl ?hth ?hin ?hon ?_))
    case hth => show w7.there w.heap.size 0 vs.length; rw [L7.out]; exact TH7
    case hin => show _ = some vs.length; rw [L7.out]; exact infoK
    case hon => exact O7
    exact bodyPost_ret (v := .agg vs.toArray) (results_cell_m Tryz.results38 _ _ w.heap.size vs d rfl RR hd hrow (by rw [L7.out]; exact infoK)) rfl ⟨⟨v1, v2, by rw [hvs], by rw [← HKK.out, ← HMm1.out]; exact VV.out.1, by rw [← HKK.out, ← HMm2.out]; exact VV.out.2⟩, N8⟩
  · have e1 : keyL ks = ks := by unfold keyL; rw [if_neg hlong]
    rw [e1]
    clear e1
    have t1 : decide ((64 : Int) < (ks.length : Int)) = false := by simp; omega
    go_enter Tryz.func38, Tryz.ntmps38
    go_upto_region 1 with fail
    change Code.wp _ _ _ _ (w.alloc zK)
    generalize w.alloc zK = w1 at *
    have o1 := hr.up n0
    have N1 := n0
    have TH1 := TH0
    have y1 : w.heap.size + 1 ≤ w1.heap.size := by omega
    go_wp2_with fail
    have MK := maskedKey_any w1 g a c ks o1 54 hk (.inl rfl)
    obtain ⟨m1, hm1⟩ : ∃ l, l = maskL ks 54 := ⟨_, rfl⟩
    have ml : Hid (m1.length = 64) := by rw [hm1]; exact maskL_len _ _
    have mb : Byt m1 := by rw [hm1]; exact maskL_byt hk (.inl rfl)
    rw [← hm1] at MK
    have HMm1 := hide hm1
    clear hm1
    refine MK.mono ?_
    clear MK
    rintro r w2 ⟨⟨a2, c2, g2, rfl, o2, p2, q2, r2⟩, n2⟩
    have N2 := nxt N1 n2
    have LS := lsts_one w2 22 ⟨g2, a2, c2, m1⟩
    have n3 : Below w2.heap.size w2 (w2.alloc (.cells #[.slice a2 m1.length c2] 22)) := (Below.refl _ _).alloc (Nat.le_refl _) _
    go_wp2_with fail
    have N3 := nxt N2 n3
    change Calls _ _ _ (w2.alloc (.cells #[.slice a2 m1.length c2] 22)) _
    have LS' : Lsts (w2.alloc (.cells #[.slice a2 m1.length c2] 22)) w2.heap.size [⟨g2, a2, c2, m1⟩] := LS
    have BH := hide (behindD (w2.alloc (.cells #[.slice a2 m1.length c2] 22)) w2.heap.size ⟨g2, a2, c2, m1⟩ LS' ⟨o2.rd.up n3, mb, q2⟩ (by show m1.length ≤ _; rw [ml.out]; omega) (hS.up N3) (hT.up N3))
    have TH3 := there_upn (by omega) TH1 (nxt n2 n3)
    have o3 := o1.up (nxt n2 n3)
    clear LS LS' n3 n2 N2 TH1
    generalize w2.alloc (.cells #[.slice a2 m1.length c2] 22) = w3 at *
    refine BH.out.mono ?_
    rintro r w4 ⟨⟨v1, rfl, V1⟩, n4⟩
    have N4 := nxt N3 n4
    have TH4 := there_upn (by omega) TH3 n4
    clear BH TH3
    go_wp2_with fail
    have MK := maskedKey_any w4 g a c ks (o3.up n4) 92 hk (.inr rfl)
    obtain ⟨m2, hm2⟩ : ∃ l, l = maskL ks 92 := ⟨_, rfl⟩
    have ml5 : Hid (m2.length = 64) := by rw [hm2]; exact maskL_len _ _
    have mb5 : Byt m2 := by rw [hm2]; exact maskL_byt hk (.inr rfl)
    rw [← hm2] at MK
    have HMm2 := hide hm2
    clear hm2
    refine MK.mono ?_
    clear MK
    rintro r w5 ⟨⟨a5, c5, g5, rfl, o5, p5, q5, r5⟩, n5⟩
    have N5 := nxt N4 n5
    have LS := lsts_one w5 22 ⟨g5, a5, c5, m2⟩
    have n6 : Below w5.heap.size w5 (w5.alloc (.cells #[.slice a5 m2.length c5] 22)) := (Below.refl _ _).alloc (Nat.le_refl _) _
    go_wp2_with fail
    have N6 := nxt N5 n6
    change Calls _ _ _ (w5.alloc (.cells #[.slice a5 m2.length c5] 22)) _
    have LS' : Lsts (w5.alloc (.cells #[.slice a5 m2.length c5] 22)) w5.heap.size [⟨g5, a5, c5, m2⟩] := LS
    have BH := hide (behindD (w5.alloc (.cells #[.slice a5 m2.length c5] 22)) w5.heap.size ⟨g5, a5, c5, m2⟩ LS' ⟨o5.rd.up n6, mb5, q5⟩ (by show m2.length ≤ _; rw [ml5.out]; omega) (hS.up N6) (hT.up N6))
    have TH6 := there_upn (by omega) TH4 (nxt n5 n6)
    clear LS LS' n6 n5 N5 TH4 o3
    generalize w5.alloc (.cells #[.slice a5 m2.length c5] 22) = w6 at *
    refine BH.out.mono ?_
    rintro r w7 ⟨⟨v2, rfl, V2⟩, n7⟩
    have N7 := nxt N6 n7
    have TH7 := there_upn (by omega) TH6 n7
    have BU := hide (builtK v1 v2 V1.len V2.len)
    have L7 : Hid ((v1 ++ v2).length = 274) := by show _ = _; rw [List.length_append, V1.len, V2.len]
    have O7 : (v1 ++ v2).toArray.all (·.oneCell') = true := all_oneCell_toArray (fun v hv => by
      rcases List.mem_append.1 hv with h | h
      · exact V1.one v h
      · exact V2.one v h)
    have RR := World.rangeAt_setCells_same w7 w.heap.size 0 (v1 ++ v2) (by rw [L7.out]; exact TH7)
    have N8 : Below w.heap.size w (w7.setCells w.heap.size 0 (v1 ++ v2)) := N7.trans ((only_setCells w7 w.heap.size (v1 ++ v2) 0).below (Nat.le_refl _))
    have VV := hide (And.intro V1 V2)
    clear BH TH6 V1 V2 N6 N4 N3 o2 o5
    have RB : ∀ W, (Instr.build 61 #[(0, .agg v1.toArray), (1, .agg v2.toArray)]).run Tryz.prog W = .ok (.agg (v1 ++ v2).toArray) W := fun W => run_build W _ _ _ BU.out
    generalize hvs : v1 ++ v2 = vs at *
    go_wp2_with (first
      | (refine wpList_build_run w7 rfl 61 11 15 rfl (.agg v1.toArray) (.agg v2.toArray) (.agg vs.toArray) rfl rfl (RB w7) ?_)
      | (refine wpList_store_mid rfl 61 (.tmp 2) (.tmp 16) rfl w.heap.size 0 vs.toArray rfl rfl ?hth ?hin ?hon ?_))
    case hth => show w7.there w.heap.size 0 vs.length; rw [L7.out]; exact TH7
    case hin => show _ = some vs.length; rw [L7.out]; exact infoK
    case hon => exact O7
    exact bodyPost_ret (v := .agg vs.toArray) (results_cell_m Tryz.results38 _ _ w.heap.size vs d rfl RR hd hrow (by rw [L7.out]; exact infoK)) rfl ⟨⟨v1, v2, by rw [hvs], by rw [← HMm1.out]; exact VV.out.1, by rw [← HMm2.out]; exact VV.out.2⟩, N8⟩
end Go.Proofs.YteedfhljbdnmnaaGreatDoor
namespace Go.Proofs.YteedfhljbdnmnaaGreatDoor
set_option maxRecDepth 100000
open Go Go.RowKit
set_option maxHeartbeats 2000000 in
theorem implMac_any (w : World) (g : Nat) (a : Option Addr) (c : Nat) (ks : List Int) (hr : Rd w g a .u8 ks) (hk : Byt ks) (hc : ks.length ≤ c) (hn : ks.length ≤ 1048576) (gd : Nat) (ad : Option Addr) (cd : Nat) (xs : List Int) (hd : Rd w gd ad .u8 xs) (hx : Byt xs) (hcd : xs.length ≤ cd) (hnd : xs.length ≤ 549755813888)
    (hS : HasT w 0 stLh) (hT : HasT w 2 kL) :
    Calls Tryz.prog 69 #[.slice a ks.length c, .slice ad xs.length cd] w fun e w' => NewRow w.heap.size w' e .u8 (macL ks xs) ∧ Below w.heap.size w w' := by
  have NK := hide (newKeyed_any w g a c ks hr hk hc (by omega) hS hT)
  obtain ⟨rs, hrs⟩ : ∃ l, l = macL ks xs := ⟨_, rfl⟩
  have HR := hide hrs
  rw [← hrs]
  clear hrs
  go_enter Tryz.func69, Tryz.ntmps69
  go_wp2_with fail
  refine NK.out.mono ?_
  rintro r w1 ⟨⟨v1, v2, rfl, V1, V2⟩, n1⟩
  have LS := lsts_one w1 22 ⟨gd, ad, cd, xs⟩
  have n2 : Below w1.heap.size w1 (w1.alloc (.cells #[.slice ad xs.length cd] 22)) := (Below.refl _ _).alloc (Nat.le_refl _) _
  have N2 := nxt n1 n2
  have z2 : w1.heap.size < (w1.alloc (.cells #[.slice ad xs.length cd] 22)).heap.size := by simp
  have LS' : Lsts (w1.alloc (.cells #[.slice ad xs.length cd] 22)) w1.heap.size [⟨gd, ad, cd, xs⟩] := LS
  have OF := ofD (w1.alloc (.cells #[.slice ad xs.length cd] 22)) v1 v2 _ _ V1 V2 w1.heap.size 1 1 [⟨gd, ad, cd, xs⟩] rfl (by omega) LS' z2 (fun l h => by
    rw [List.mem_singleton] at h
    subst h
    exact ⟨hd.up N2, hx, hcd⟩) (by rw [maskL_len, cat_one]; show 64 + xs.length ≤ _; omega) (by rw [maskL_len]; omega) (hT.up N2)
  rw [cat_one] at OF
  have e : hashL32 (maskL (keyL ks) 92 ++ hashL32 (maskL (keyL ks) 54 ++ xs)) = rs := HR.out.symm
  have OF2 : Hid (Calls Tryz.prog 67 #[.agg (v1 ++ v2).toArray, .slice (some ⟨w1.heap.size, 0, none⟩) 1 1] (w1.alloc (.cells #[.slice ad xs.length cd] 22)) fun e w' => NewRow (w1.alloc (.cells #[.slice ad xs.length cd] 22)).heap.size w' e .u8 rs ∧ Below (w1.alloc (.cells #[.slice ad xs.length cd] 22)).heap.size (w1.alloc (.cells #[.slice ad xs.length cd] 22)) w') := by
    show Calls _ _ _ _ _
    rw [← e]
    exact OF
  clear OF e LS LS' V1 V2 NK n2
  generalize v1 ++ v2 = vs at *
  go_wp2_with fail
  change Calls _ _ _ (w1.alloc (.cells #[.slice ad xs.length cd] 22)) _
  generalize w1.alloc (.cells #[.slice ad xs.length cd] 22) = w2 at *
  refine OF2.out.mono ?_
  rintro r w3 ⟨⟨a3, c3, g3, rfl, o3, p3, q3, r3⟩, n3⟩
  have y2 := N2.size
  go_wp2
  go_ret
  exact ⟨⟨a3, c3, g3, rfl, o3, p3, q3, by omega⟩, nxt N2 n3⟩
end Go.Proofs.YteedfhljbdnmnaaGreatDoor
