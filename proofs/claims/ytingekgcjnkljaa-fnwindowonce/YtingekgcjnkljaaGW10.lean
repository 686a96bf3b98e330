import Derived.Test.YtingekgcjnkljaaGW4
import Derived.Test.YtingekgcjnkljaaGW1
import Derived.Deep.Cut
import Derived.Test.YtingekgcjnkljaaGW9

/-
  Regions that end with a struct stored into a new block, or into one that was there; steps for them. No program in sight.
-/
namespace Go.Proofs.Ytingekgcjnkljaa
open Go Go.RowKit

/-- A new block of a struct's zero cells. -/
def NBt (b : Nat) (t : TypeId) (zs : List Value) : Fact := ⟨fun v w => ∃ q, v = .pointer (some ⟨q, 0, none⟩) ∧ b ≤ q ∧ RwC w q zs t, fun n h => by
  obtain ⟨q, e, l, r⟩ := h
  exact ⟨q, e, l, r.up n⟩⟩
theorem RowB.onlyT {w w' : World} {base q : Nat} {v : Value} {xs : List Int} {zs : List Value} {t : TypeId} (h : RowB w base v xs) (O : Only q w w') (hq : RwC w q zs t) (ht : t ≠ 5) : RowB w' base v xs := by
  refine ⟨h.1, ?_⟩
  rcases h.2 with h' | ⟨g, cap, cur, rfl, hbg, hg, hnc, hcm, hcs, hT⟩
  · exact .inl h'
  · refine .inr ⟨g, cap, cur, rfl, hbg, ?_, hnc, hcm, hcs, hT⟩
    rw [O.block g ?_]
    · exact hg
    · rintro rfl
      unfold RwC at hq
      rw [hg] at hq
      simp only [Option.some.injEq, Obj.cells.injEq] at hq
      exact ht hq.2.1.symm
def putAt : List Value → Nat → List Value → List Value
  | zs, _, [] => zs
  | zs, o, v :: vs => putAt (zs.set o v) (o + 1) vs
theorem putAt_get : ∀ (vs zs : List Value) (o i : Nat), o + vs.length ≤ zs.length → (putAt zs o vs)[i]? = if o ≤ i ∧ i < o + vs.length then vs[i - o]? else zs[i]?
  | [], zs, o, i, _ => by
    rw [if_neg (by simp only [List.length_nil]; omega)]
    rfl
  | v :: vs, zs, o, i, h => by
    simp only [List.length_cons] at h ⊢
    rw [putAt, putAt_get vs (zs.set o v) (o + 1) i (by rw [List.length_set]; omega)]
    by_cases e : o = i
    · subst e
      rw [if_neg (by omega), if_pos (by omega), List.getElem?_set_self (by omega), Nat.sub_self]
      rfl
    · by_cases h2 : o + 1 ≤ i ∧ i < o + 1 + vs.length
      · rw [if_pos h2, if_pos (by omega), show i - o = (i - (o + 1)) + 1 by omega]
        rfl
      · rw [if_neg h2, if_neg (by omega), List.getElem?_set_ne e]
theorem putAt_all {zs cs : List Value} (h : cs.length = zs.length) : putAt zs 0 cs = cs := by
  apply List.ext_getElem?
  intro i
  rw [putAt_get cs zs 0 i (by omega)]
  by_cases hi : i < cs.length
  · rw [if_pos (by omega)]
    rfl
  · rw [if_neg (by omega), List.getElem?_eq_none (by omega), List.getElem?_eq_none (by omega)]
theorem RwC.puts {t : TypeId} {q : Nat} : ∀ (vs zs : List Value) (w : World) (o : Nat), RwC w q zs t → RwC (w.setCells q o vs) q (putAt zs o vs) t
  | [], _, _, _, h => h
  | v :: vs, zs, w, o, h => RwC.puts vs (zs.set o v) (w.setCell ⟨q, o, none⟩ v) (o + 1) (h.set o v)
theorem RwC.put {w : World} {q : Nat} {zs cs : List Value} {t : TypeId} (h : RwC w q zs t) (hl : cs.length = zs.length) : RwC (w.setCells q 0 cs) q cs t := by
  have := RwC.puts cs zs w 0 h
  rwa [putAt_all hl] at this
section
variable {P : Program} {ops : Array Oper} {Q : Exit → Act → World → Prop}
theorem region_newT {a0 : Act} {id : Nat} {draw : Bool} {w : World} (k jA jV pA pV : Nat) (o : Oper) (F : Nat → Fact) (t : TypeId) (zs : List Value) (G : Fact) (hm : P.follows .mixedOrders = true) (hT : textOk .any ops a0.tmps.size k = true) (hk : ops[k]? = some o) (hd : o.dst = none)
    (hop : o.op = .store t (.tmp pA) (.tmp pV)) (hi : (P.info? t).map (·.size) = some zs.length) (wA : writes ops jA pA = true) (FA : F jA = NBt w.heap.size t zs) (wV : writes ops jV pV = true) (FV : F jV = G)
    (hG : ∀ v W, G.p v W → ∃ cs : List Value, v = .agg cs.toArray ∧ cs.length = zs.length ∧ cs.toArray.all (·.oneCell') = true) (steps : ∀ i, i < k → StepOk P .any ops Q F a0 w i)
    (fin : ∀ (vs : Nat → Value) (W W' : World) (q : Nat) (cs : List Value), vs pA = .pointer (some ⟨q, 0, none⟩) → w.heap.size ≤ q → Below w.heap.size w W → RwC W q zs t → G.p (.agg cs.toArray) W → Only q W W' → RwC W' q cs t → Below w.heap.size w W' → Q .normal (puts vs a0 ops.toList) W') : (Code.region id ops draw).wp P Q a0 w := by
  refine region_store k o F hm hT hk hd steps fun a W hb hw hF => ?_
  have e1 := hF jA pA wA
  have e2 := hF jV pV wV
  rw [FA] at e1
  rw [FV] at e2
  obtain ⟨q, e1, hB, hq⟩ := e1
  obtain ⟨cs, ev, hl, h1⟩ := hG _ _ e2
  have TH : W.there q 0 cs.length := by rw [hl]; exact hq.thereG
  refine wp_store_mid _ (.tmp pA) (.tmp pV) hop q 0 cs.toArray e1 ev (by simpa using TH) (by rw [hi]; simp [hl]) h1 ?_
  obtain ⟨vs, hvs⟩ : ∃ vs : Nat → Value, ∀ d, a.tmps.getD d undef = vs d := ⟨_, fun _ => rfl⟩
  rw [hd]
  show Q .normal a _
  rw [puts_of hT rfl hb vs hvs]
  have OQ := only_setG W q cs 0
  have e2' : G.p (.agg cs.toArray) W := by rw [← ev]; exact e2
  exact fin vs W _ q cs ((hvs pA).symm.trans e1) hB hw hq e2' OQ (RwC.put hq hl) (hw.trans (OQ.below hB))
theorem region_putT {a0 : Act} {id : Nat} {draw : Bool} {w : World} (k jV pA pV : Nat) (o : Oper) (F : Nat → Fact) (t : TypeId) (zs : List Value) (q : Nat) (G : Fact) (hm : P.follows .mixedOrders = true) (hT : textOk .any ops a0.tmps.size k = true) (hk : ops[k]? = some o) (hd : o.dst = none)
    (hop : o.op = .store t (.tmp pA) (.tmp pV)) (hi : (P.info? t).map (·.size) = some zs.length) (hA : ∀ a, Based ops a0 a → a.tmps.getD pA undef = .pointer (some ⟨q, 0, none⟩)) (hq : RwC w q zs t) (wV : writes ops jV pV = true) (FV : F jV = G)
    (hG : ∀ v W, G.p v W → ∃ cs : List Value, v = .agg cs.toArray ∧ cs.length = zs.length ∧ cs.toArray.all (·.oneCell') = true) (steps : ∀ i, i < k → StepOk P .any ops Q F a0 w i)
    (fin : ∀ (vs : Nat → Value) (W W' : World) (cs : List Value), Below w.heap.size w W → RwC W q zs t → G.p (.agg cs.toArray) W → Only q W W' → RwC W' q cs t → Q .normal (puts vs a0 ops.toList) W') : (Code.region id ops draw).wp P Q a0 w := by
  refine region_store k o F hm hT hk hd steps fun a W hb hw hF => ?_
  have e1 := hA a hb
  have e2 := hF jV pV wV
  rw [FV] at e2
  obtain ⟨cs, ev, hl, h1⟩ := hG _ _ e2
  have hq' := hq.up hw
  have TH : W.there q 0 cs.length := by rw [hl]; exact hq'.thereG
  refine wp_store_mid _ (.tmp pA) (.tmp pV) hop q 0 cs.toArray e1 ev (by simpa using TH) (by rw [hi]; simp [hl]) h1 ?_
  obtain ⟨vs, hvs⟩ : ∃ vs : Nat → Value, ∀ d, a.tmps.getD d undef = vs d := ⟨_, fun _ => rfl⟩
  rw [hd]
  show Q .normal a _
  rw [puts_of hT rfl hb vs hvs]
  have OQ := only_setG W q cs 0
  have e2' : G.p (.agg cs.toArray) W := by rw [← ev]; exact e2
  exact fin vs W _ cs hw hq' e2' OQ (RwC.put hq' hl)
end
end Go.Proofs.Ytingekgcjnkljaa

/-
  Windows that are asked: marks that are over are forgotten, and a mark is taken.
-/
namespace Go.Proofs.Ytingekgcjnkljaa
open Go Go.RowKit Go.Maps

set_option maxRecDepth 100000 in
/-- The step of a range over the book. -/
theorem wpList_next_book (w : World) {ops : Array Oper} {rest : List Oper} {o : Oper} {a : Act} {Q : Exit → Act → World → Prop} (hg : o.guard = none) (it : Operand) (hop : o.op = Op.next it false) (b r n : Nat) (D : DataW Unit) (left : Lit → Bool) (cnt : Nat) (E : List Ent) (ok : ∀ e ∈ E, EntOk e)
    (hit : a.eval it = .pointer (some ⟨r, 0, none⟩)) (h : w.ranges Try.prog 56 pmR b r n D left cnt) (hk : ∀ kl, left kl = true → ∃ e ∈ E, kl = keyL e.id) (hat : ∀ e ∈ E, left (keyL e.id) = true → ∀ z, D.atKey (keyL e.id) z = pmD e.pl e.un)
    (hDone : cnt = 0 → (∀ kl, left kl = false) → wpList Try.prog ops Q rest (a.put o.dst (.tuple #[.bool false])) w)
    (hMore : ∀ (e : Ent) (w' : World) (cnt' : Nat), e ∈ E → left (keyL e.id) = true → w'.ranges Try.prog 56 pmR b r n D (fun z => left z && !z.sameKey (keyL e.id)) cnt' → cnt' < cnt →
      w.grownBy w' (some r) → w'.heap.size = w.heap.size → (Instr.entry (.pointer (some ⟨r, 0, none⟩))).run Try.prog w' = .ok (.tuple #[idV e.id, pmV e.pl e.un]) w' → wpList Try.prog ops Q rest (a.put o.dst (.tuple #[.bool true, idV e.id, pmV e.pl e.un])) w') :
    wpList Try.prog ops Q (o :: rest) a w := by
  refine wpList_next_ranges w hg it hop 56 lawK pmR id id (fun key _ _ => ⟨key, rfl⟩) (fun v _ _ => ⟨v, rfl⟩) b r n D left cnt hit h hDone ?_
  intro x c kl y w' cnt' hkey hl hv hd hrg hlt hgr hsz hen
  obtain ⟨e, he, rfl⟩ := hk kl hl
  obtain rfl : x = idV e.id := lawK.inj hkey (entKey (ok e he))
  obtain ⟨p, u, rfl, rfl⟩ := pmR_inv hv
  obtain ⟨rfl, rfl⟩ := pmD_inj ((hat e he hl .nil).symm.trans (hd .nil))
  exact hMore e w' cnt' he hl hrg hlt hgr hsz hen
set_option maxRecDepth 100000 in
theorem iId : (Try.prog.info? 56).map (·.size) = some 32 := by kernel_rfl
set_option maxRecDepth 100000 in
theorem iPm : (Try.prog.info? 53).map (·.size) = some 2 := by kernel_rfl
set_option maxRecDepth 100000 in
theorem bGn {w w' : World} (n : Below w.heap.size w w') : w.grownBy w' none := ⟨n.os, n.tape, n.output, n.size, fun i hi _ => n.block i hi⟩
set_option maxRecDepth 100000 in
theorem idOne (x : List Int) : (x.map (Value.int .u8)).toArray.all (·.oneCell') = true := all_oneCell_toArray fun v hv => by
  obtain ⟨y, _, rfl⟩ := List.mem_map.1 hv
  rfl
set_option maxRecDepth 100000 in
/-- Two boxes of a round: an id and its mark. -/
theorem boxes2 (w : World) (cs : List Value) (hl : cs.length = 32) (p u : Int) :
    Below w.heap.size w ((((w.alloc (.cells #[.int .u8 0, .int .u8 0, .int .u8 0, .int .u8 0, .int .u8 0, .int .u8 0, .int .u8 0, .int .u8 0, .int .u8 0, .int .u8 0, .int .u8 0, .int .u8 0, .int .u8 0, .int .u8 0, .int .u8 0, .int .u8 0, .int .u8 0, .int .u8 0, .int .u8 0, .int .u8 0, .int .u8 0, .int .u8 0, .int .u8 0, .int .u8 0, .int .u8 0, .int .u8 0, .int .u8 0, .int .u8 0, .int .u8 0, .int .u8 0, .int .u8 0, .int .u8 0] 56)).alloc (.cells #[.int .i64 0, .int .i64 0] 53)).setCells w.heap.size 0 cs).setCells (w.heap.size + 1) 0 [.int .i64 p, .int .i64 u]) ∧ ((w.alloc (.cells #[.int .u8 0, .int .u8 0, .int .u8 0, .int .u8 0, .int .u8 0, .int .u8 0, .int .u8 0, .int .u8 0, .int .u8 0, .int .u8 0, .int .u8 0, .int .u8 0, .int .u8 0, .int .u8 0, .int .u8 0, .int .u8 0, .int .u8 0, .int .u8 0, .int .u8 0, .int .u8 0, .int .u8 0, .int .u8 0, .int .u8 0, .int .u8 0, .int .u8 0, .int .u8 0, .int .u8 0, .int .u8 0, .int .u8 0, .int .u8 0, .int .u8 0, .int .u8 0] 56)).alloc (.cells #[.int .i64 0, .int .i64 0] 53)).there w.heap.size 0 32 ∧ (((w.alloc (.cells #[.int .u8 0, .int .u8 0, .int .u8 0, .int .u8 0, .int .u8 0, .int .u8 0, .int .u8 0, .int .u8 0, .int .u8 0, .int .u8 0, .int .u8 0, .int .u8 0, .int .u8 0, .int .u8 0, .int .u8 0, .int .u8 0, .int .u8 0, .int .u8 0, .int .u8 0, .int .u8 0, .int .u8 0, .int .u8 0, .int .u8 0, .int .u8 0, .int .u8 0, .int .u8 0, .int .u8 0, .int .u8 0, .int .u8 0, .int .u8 0, .int .u8 0, .int .u8 0] 56)).alloc (.cells #[.int .i64 0, .int .i64 0] 53)).setCells w.heap.size 0 cs).there (w.heap.size + 1) 0 2 ∧ RwC ((((w.alloc (.cells #[.int .u8 0, .int .u8 0, .int .u8 0, .int .u8 0, .int .u8 0, .int .u8 0, .int .u8 0, .int .u8 0, .int .u8 0, .int .u8 0, .int .u8 0, .int .u8 0, .int .u8 0, .int .u8 0, .int .u8 0, .int .u8 0, .int .u8 0, .int .u8 0, .int .u8 0, .int .u8 0, .int .u8 0, .int .u8 0, .int .u8 0, .int .u8 0, .int .u8 0, .int .u8 0, .int .u8 0, .int .u8 0, .int .u8 0, .int .u8 0, .int .u8 0, .int .u8 0] 56)).alloc (.cells #[.int .i64 0, .int .i64 0] 53)).setCells w.heap.size 0 cs).setCells (w.heap.size + 1) 0 [.int .i64 p, .int .i64 u]) w.heap.size cs 56 ∧ RwC ((((w.alloc (.cells #[.int .u8 0, .int .u8 0, .int .u8 0, .int .u8 0, .int .u8 0, .int .u8 0, .int .u8 0, .int .u8 0, .int .u8 0, .int .u8 0, .int .u8 0, .int .u8 0, .int .u8 0, .int .u8 0, .int .u8 0, .int .u8 0, .int .u8 0, .int .u8 0, .int .u8 0, .int .u8 0, .int .u8 0, .int .u8 0, .int .u8 0, .int .u8 0, .int .u8 0, .int .u8 0, .int .u8 0, .int .u8 0, .int .u8 0, .int .u8 0, .int .u8 0, .int .u8 0] 56)).alloc (.cells #[.int .i64 0, .int .i64 0] 53)).setCells w.heap.size 0 cs).setCells (w.heap.size + 1) 0 [.int .i64 p, .int .i64 u]) (w.heap.size + 1) [.int .i64 p, .int .i64 u] 53 := by
  have z1 : (w.alloc (.cells #[.int .u8 0, .int .u8 0, .int .u8 0, .int .u8 0, .int .u8 0, .int .u8 0, .int .u8 0, .int .u8 0, .int .u8 0, .int .u8 0, .int .u8 0, .int .u8 0, .int .u8 0, .int .u8 0, .int .u8 0, .int .u8 0, .int .u8 0, .int .u8 0, .int .u8 0, .int .u8 0, .int .u8 0, .int .u8 0, .int .u8 0, .int .u8 0, .int .u8 0, .int .u8 0, .int .u8 0, .int .u8 0, .int .u8 0, .int .u8 0, .int .u8 0, .int .u8 0] 56)).heap.size = w.heap.size + 1 := by simp
  have n0 : Below w.heap.size w ((w.alloc (.cells #[.int .u8 0, .int .u8 0, .int .u8 0, .int .u8 0, .int .u8 0, .int .u8 0, .int .u8 0, .int .u8 0, .int .u8 0, .int .u8 0, .int .u8 0, .int .u8 0, .int .u8 0, .int .u8 0, .int .u8 0, .int .u8 0, .int .u8 0, .int .u8 0, .int .u8 0, .int .u8 0, .int .u8 0, .int .u8 0, .int .u8 0, .int .u8 0, .int .u8 0, .int .u8 0, .int .u8 0, .int .u8 0, .int .u8 0, .int .u8 0, .int .u8 0, .int .u8 0] 56)).alloc (.cells #[.int .i64 0, .int .i64 0] 53)) := ((Below.refl _ _).alloc (Nat.le_refl _) _).alloc (by simp) _
  have T0 : RwC ((w.alloc (.cells #[.int .u8 0, .int .u8 0, .int .u8 0, .int .u8 0, .int .u8 0, .int .u8 0, .int .u8 0, .int .u8 0, .int .u8 0, .int .u8 0, .int .u8 0, .int .u8 0, .int .u8 0, .int .u8 0, .int .u8 0, .int .u8 0, .int .u8 0, .int .u8 0, .int .u8 0, .int .u8 0, .int .u8 0, .int .u8 0, .int .u8 0, .int .u8 0, .int .u8 0, .int .u8 0, .int .u8 0, .int .u8 0, .int .u8 0, .int .u8 0, .int .u8 0, .int .u8 0] 56)).alloc (.cells #[.int .i64 0, .int .i64 0] 53)) w.heap.size [.int .u8 0, .int .u8 0, .int .u8 0, .int .u8 0, .int .u8 0, .int .u8 0, .int .u8 0, .int .u8 0, .int .u8 0, .int .u8 0, .int .u8 0, .int .u8 0, .int .u8 0, .int .u8 0, .int .u8 0, .int .u8 0, .int .u8 0, .int .u8 0, .int .u8 0, .int .u8 0, .int .u8 0, .int .u8 0, .int .u8 0, .int .u8 0, .int .u8 0, .int .u8 0, .int .u8 0, .int .u8 0, .int .u8 0, .int .u8 0, .int .u8 0, .int .u8 0] 56 := (RwC.new w _ _).push _
  have U0 : RwC ((w.alloc (.cells #[.int .u8 0, .int .u8 0, .int .u8 0, .int .u8 0, .int .u8 0, .int .u8 0, .int .u8 0, .int .u8 0, .int .u8 0, .int .u8 0, .int .u8 0, .int .u8 0, .int .u8 0, .int .u8 0, .int .u8 0, .int .u8 0, .int .u8 0, .int .u8 0, .int .u8 0, .int .u8 0, .int .u8 0, .int .u8 0, .int .u8 0, .int .u8 0, .int .u8 0, .int .u8 0, .int .u8 0, .int .u8 0, .int .u8 0, .int .u8 0, .int .u8 0, .int .u8 0] 56)).alloc (.cells #[.int .i64 0, .int .i64 0] 53)) (w.heap.size + 1) [.int .i64 0, .int .i64 0] 53 := by
    have h := RwC.new (w.alloc (.cells #[.int .u8 0, .int .u8 0, .int .u8 0, .int .u8 0, .int .u8 0, .int .u8 0, .int .u8 0, .int .u8 0, .int .u8 0, .int .u8 0, .int .u8 0, .int .u8 0, .int .u8 0, .int .u8 0, .int .u8 0, .int .u8 0, .int .u8 0, .int .u8 0, .int .u8 0, .int .u8 0, .int .u8 0, .int .u8 0, .int .u8 0, .int .u8 0, .int .u8 0, .int .u8 0, .int .u8 0, .int .u8 0, .int .u8 0, .int .u8 0, .int .u8 0, .int .u8 0] 56)) [.int .i64 0, .int .i64 0] 53
    rwa [z1] at h
  have O1 := only_setG ((w.alloc (.cells #[.int .u8 0, .int .u8 0, .int .u8 0, .int .u8 0, .int .u8 0, .int .u8 0, .int .u8 0, .int .u8 0, .int .u8 0, .int .u8 0, .int .u8 0, .int .u8 0, .int .u8 0, .int .u8 0, .int .u8 0, .int .u8 0, .int .u8 0, .int .u8 0, .int .u8 0, .int .u8 0, .int .u8 0, .int .u8 0, .int .u8 0, .int .u8 0, .int .u8 0, .int .u8 0, .int .u8 0, .int .u8 0, .int .u8 0, .int .u8 0, .int .u8 0, .int .u8 0] 56)).alloc (.cells #[.int .i64 0, .int .i64 0] 53)) w.heap.size cs 0
  have T1 := T0.put (cs := cs) (by rw [hl]; rfl)
  have U1 := U0.onl O1 (by omega)
  have O2 := only_setG (((w.alloc (.cells #[.int .u8 0, .int .u8 0, .int .u8 0, .int .u8 0, .int .u8 0, .int .u8 0, .int .u8 0, .int .u8 0, .int .u8 0, .int .u8 0, .int .u8 0, .int .u8 0, .int .u8 0, .int .u8 0, .int .u8 0, .int .u8 0, .int .u8 0, .int .u8 0, .int .u8 0, .int .u8 0, .int .u8 0, .int .u8 0, .int .u8 0, .int .u8 0, .int .u8 0, .int .u8 0, .int .u8 0, .int .u8 0, .int .u8 0, .int .u8 0, .int .u8 0, .int .u8 0] 56)).alloc (.cells #[.int .i64 0, .int .i64 0] 53)).setCells w.heap.size 0 cs) (w.heap.size + 1) [.int .i64 p, .int .i64 u] 0
  exact ⟨(n0.trans (O1.below (Nat.le_refl _))).trans (O2.below (by omega)), T0.thereG, U1.thereG, T1.onl O2 (by omega), U1.put rfl⟩
set_option maxRecDepth 100000 in
theorem forget_any (w : World) (b n : Nat) (D : DataW Unit) (E : List Ent) (now : Int) (hown : w.ownsMap Try.prog 56 pmR b n D) (hB : Bk D E) :
    Calls Try.prog 24 #[.map (some b), .int .i64 now] w fun e w' => e = .returned (.tuple #[]) ∧ (∃ D', w'.ownsMap Try.prog 56 pmR b n D' ∧ Bk D' (E.filter fun e => decide (now ≤ e.un))) ∧ w.grownBy w' (some b) := by
  have ok := hide hB.ok
  have ap := hide hB.ap
  have FS := hide (hB.fg now)
  have bl := hown.lt
  go_enter Try.func24, Try.ntmps24
  go_wp2_with (first
    | (at_range; refine wpList_range_own _ rfl _ 47 rfl 56 53 lawK Try.underlying47 _ b n _ rfl hown ?_; intro w0 hrg0 hg0 hs0)
    | go_in)
  go_frame
  go_loopw [4, 5] (fun _ _ wr => ∃ (left : Lit → Bool) (cnt : Nat) (D' : DataW Unit), wr.ranges Try.prog 56 pmR b w.heap.size n D' left cnt ∧ Hid (Fg E now left D') ∧ w.grownBy wr (some b))
    (fun _ _ wr => wr.rangeLeft b w.heap.size)
  case atStart => exact ⟨_, _, _, hrg0, FS, hg0.but _⟩
  case round =>
    obtain ⟨left, cnt, D', hrg, hF, hgw⟩ := hrel
    go_wp2_with (first
      | (at_next; refine wpList_next_book _ rfl _ rfl b w.heap.size n _ _ _ E ok.out rfl hrg hF.out.lf (fun e he hl => hF.out.at' e he ((hF.out.hs e he).2 (.inl hl))) ?_ ?_)
      | go_in)
    · intro _ hl0
      go_wp2
      go_end0
      exact ⟨rfl, ⟨D', hrg.owns, hF.out.all ok.out ap.out hl0⟩, hgw⟩
    · intro e w1 cnt1 he hl hrg1 hlt hg1 hs1 hen
      have hgw1 := hide (hgw.andThen hg1 (fun j hj => by cases hj; exact Or.inl (Nat.le_refl _)))
      have HE := hide (ok.out e he)
      have hkey := hide (entKey HE.out)
      obtain ⟨cs, hcs⟩ : ∃ cs, cs = e.id.map (Value.int .u8) := ⟨_, rfl⟩
      have cl : cs.length = 32 := by rw [hcs, List.length_map]; exact HE.out.1
      have one : cs.toArray.all (·.oneCell') = true := by rw [hcs]; exact idOne _
      have ev : idV e.id = .agg cs.toArray := by rw [hcs]; rfl
      rw [ev] at hen hkey
      rw [ev]
      have FST := hide (fun h => hF.out.strike ok.out he (now := now) h ap.out)
      have FSY := hide (fun h => hF.out.stay ok.out ap.out he (now := now) h)
      obtain ⟨nb, th1, th2, R1, R2⟩ := boxes2 w1 cs cl e.pl e.un
      have hrg2 := hrg1.kept (bGn nb) (by simp) (by simp)
      have hgw2 := hide (hgw1.out.andThen (bGn nb) (fun j hj => by cases hj))
      have sz : cs.toArray.size = 32 := by simpa using cl
      have CL := hide cl
      have RG := R1.rangeG
      have c1 := R2.c1
      have SZ : (Try.prog.info? 56).map (·.size) = some cs.toArray.size := by rw [sz]; exact iId
      have SL : (Try.prog.info? 56).map (·.size) = some cs.length := by rw [CL.out]; exact iId
      rw [← sz] at th1
      unfold pmV at *
      generalize hun : e.un = un at *
      generalize e.pl = pl at *
      have HK := hide hkey.out
      have one2 : (#[.int .i64 pl, .int .i64 un] : Array Value).all (·.oneCell') = true := by simp [Value.oneCell']
      have th2' : World.there (World.setCells ((w1.alloc (.cells #[.int .u8 0, .int .u8 0, .int .u8 0, .int .u8 0, .int .u8 0, .int .u8 0, .int .u8 0, .int .u8 0, .int .u8 0, .int .u8 0, .int .u8 0, .int .u8 0, .int .u8 0, .int .u8 0, .int .u8 0, .int .u8 0, .int .u8 0, .int .u8 0, .int .u8 0, .int .u8 0, .int .u8 0, .int .u8 0, .int .u8 0, .int .u8 0, .int .u8 0, .int .u8 0, .int .u8 0, .int .u8 0, .int .u8 0, .int .u8 0, .int .u8 0, .int .u8 0] 56)).alloc (.cells #[.int .i64 0, .int .i64 0] 53)) w1.heap.size 0 cs.toArray.toList) (w1.heap.size + 1) 0 2 := th2
      clear cl hcs ev hs1 hgw hg1 hgw1 hF hl nb hrg1 R1 R2 hkey sz hown hB FS
      go_upto_region 3 with (first
        | (refine wpList_store_mid rfl 56 (.tmp 4) (.tmp 11) rfl w1.heap.size 0 cs.toArray rfl rfl th1 SZ one ?_)
        | (refine wpList_store_mid rfl 53 (.tmp 5) (.tmp 12) rfl (w1.heap.size + 1) 0 #[.int .i64 pl, .int .i64 un] rfl rfl th2' iPm one2 ?_)
        | fail)
      generalize World.setCells (World.setCells ((w1.alloc (.cells #[.int .u8 0, .int .u8 0, .int .u8 0, .int .u8 0, .int .u8 0, .int .u8 0, .int .u8 0, .int .u8 0, .int .u8 0, .int .u8 0, .int .u8 0, .int .u8 0, .int .u8 0, .int .u8 0, .int .u8 0, .int .u8 0, .int .u8 0, .int .u8 0, .int .u8 0, .int .u8 0, .int .u8 0, .int .u8 0, .int .u8 0, .int .u8 0, .int .u8 0, .int .u8 0, .int .u8 0, .int .u8 0, .int .u8 0, .int .u8 0, .int .u8 0, .int .u8 0] 56)).alloc (.cells #[.int .i64 0, .int .i64 0] 53)) w1.heap.size 0 cs) (w1.heap.size + 1) 0 [.int .i64 pl, .int .i64 un] = W3 at *
      clear th1 th2 th2' one one2 SZ hen
      generalize w1.heap.size = s1 at *
      by_cases hu : un < now
      · have t1 : decide (un < now) = true := decide_eq_true hu
        have HU := hide hu
        clear hu
        go_wp2_with (first
          | (refine wpList_load_mid rfl 56 (.tmp 4) rfl s1 0 rfl cs _ RG uId rfl SL ?_)
          | (at_delete; refine wpList_delete_ranges _ rfl _ _ 47 56 rfl 53 lawK Try.underlying47 _ b w.heap.size n _ _ _ rfl hrg2 _ _ rfl HK.out ?_; intro w2 cnt2 hrg3 hle hturn; go_frame)
          | go_in)
        rw [strike_twice] at hrg3
        go_roundw
        case rel => exact ⟨_, cnt2, _, hrg3, FST.out HU.out, hgw2.out.andThen hturn.grown (fun j hj => by cases hj; exact Or.inr rfl)⟩
        case measure => rw [hrg3.left_eq, hrg.left_eq]; omega
      · have t1 : decide (un < now) = false := decide_eq_false hu
        have HU := hide hu
        clear hu
        go_wp2
        go_roundw
        case rel => exact ⟨_, cnt1, _, hrg2, FSY.out (by have := HU.out; omega), hgw2.out⟩
        case measure => rw [hrg2.left_eq, hrg.left_eq]; exact hlt
end Go.Proofs.Ytingekgcjnkljaa

/-
  Windows that are asked: a mark is looked up and taken.
-/
namespace Go.Proofs.Ytingekgcjnkljaa
open Go Go.RowKit Go.Maps

set_option maxRecDepth 100000 in
theorem zPm (w : World) : (zeroValue 53).run Try.prog w = .ok (pmV 0 0) w := by kernel_rfl
set_option maxRecDepth 100000 in
theorem look_book {w : World} {b n : Nat} {D : DataW Unit} (h : w.ownsMap Try.prog 56 pmR b n D) {key : Value} {kl : Lit} (hkey : keyOf Try.prog 56 key = some kl) : ∃ p u, (Instr.lookup 47 (.map (some b)) key true).run Try.prog w = .ok (.tuple #[pmV p u, .bool (Maps.has D kl)]) w := by
  obtain ⟨v, ps, hr, hv⟩ := h.look_ok lawK Try.underlying47 (zPm w) (pmR_mk 0 0) hkey
  obtain ⟨p, u, rfl, _⟩ := pmR_inv hv
  exact ⟨p, u, hr⟩
set_option maxRecDepth 100000 in
theorem look_book0 {w : World} {b n : Nat} {D : DataW Unit} (h : w.ownsMap Try.prog 56 pmR b n D) {key : Value} {kl : Lit} (hkey : keyOf Try.prog 56 key = some kl) : ∃ p u, (Instr.lookup 47 (.map (some b)) key false).run Try.prog w = .ok (pmV p u) w ∧ D.atKey kl (pmD 0 0) = pmD p u := by
  obtain ⟨es, clock, hb, F, _, rfl⟩ := h
  rcases Maps.fit_look false lawK Try.underlying47 (zPm w) hb F hkey with ⟨hrun, _, hat⟩ | ⟨e0, y, _, _, hrun, hRv, hat, _⟩
  · exact ⟨0, 0, hrun, hat _⟩
  · obtain ⟨p, u, e, rfl⟩ := pmR_inv hRv
    rw [e] at hrun
    exact ⟨p, u, hrun, hat _⟩
set_option maxRecDepth 100000 in
/-- The book that a block holds. -/
def BkW (w : World) (b n : Nat) (E : List Ent) : Prop := ∃ D, w.ownsMap Try.prog 56 pmR b n D ∧ Bk D E
set_option maxRecDepth 100000 in
theorem own_more {w : World} {b n m : Nat} {D : DataW Unit} (h : w.ownsMap Try.prog 56 pmR b n D) (hm : n ≤ m) : w.ownsMap Try.prog 56 pmR b m D := by
  obtain ⟨es, clock, hb, F, hs, hD⟩ := h
  exact ⟨es, clock, hb, F, Nat.le_trans hs hm, hD⟩
set_option maxRecDepth 100000 in
theorem BkW.up {w w' : World} {b n : Nat} {E : List Ent} (h : BkW w b n E) (m : Below w.heap.size w w') : BkW w' b n E := by
  obtain ⟨D, o, k⟩ := h
  exact ⟨D, ownP o m, k⟩
set_option maxRecDepth 100000 in
/-- What taking an id answers. -/
def tkC (E : List Ent) (x : List Int) : Int := if ∃ e ∈ E, e.id = x then 1 else if E.length = 64 then 2 else 0
set_option maxRecDepth 100000 in
def tkE (E : List Ent) (x : List Int) (p u : Int) : List Ent := if tkC E x = 0 then E ++ [⟨x, p, u⟩] else E
set_option maxRecDepth 100000 in
theorem take_any (w : World) (b n : Nat) (D : DataW Unit) (E : List Ent) (x : List Int) (hx : x.length = 32) (bx : Byt x) (p u : Int) (hown : w.ownsMap Try.prog 56 pmR b n D) (hB : Bk D E) (hn : n < 1000) :
    Calls Try.prog 25 #[.map (some b), idV x, pmV p u] w fun e w' => e = .returned (.int .i64 (tkC E x)) ∧ BkW w' b (n + 1) (tkE E x p u) ∧ w.grownBy w' (some b) := by
  obtain ⟨cs, hcs⟩ : ∃ cs, cs = x.map (Value.int .u8) := ⟨_, rfl⟩
  have ev : idV x = .agg cs.toArray := by rw [hcs]; rfl
  have cl : cs.length = 32 := by rw [hcs, List.length_map]; exact hx
  have hkey := hide (keyL_some hx bx)
  rw [ev] at hkey
  rw [ev]
  have n1 : Below w.heap.size w ((w.alloc (.cells cs.toArray 56)).alloc (.cells #[.int .i64 p, .int .i64 u] 53)) := ((Below.refl _ _).alloc (Nat.le_refl _) _).alloc (by simp) _
  have z1 : (w.alloc (.cells cs.toArray 56)).heap.size = w.heap.size + 1 := by simp
  have T0 : RwC ((w.alloc (.cells cs.toArray 56)).alloc (.cells #[.int .i64 p, .int .i64 u] 53)) w.heap.size cs 56 := (RwC.new w _ _).push _
  have U0 : RwC ((w.alloc (.cells cs.toArray 56)).alloc (.cells #[.int .i64 p, .int .i64 u] 53)) (w.heap.size + 1) [.int .i64 p, .int .i64 u] 53 := by
    have h := RwC.new (w.alloc (.cells cs.toArray 56)) [.int .i64 p, .int .i64 u] 53
    rwa [z1] at h
  have OW := ownP hown n1
  obtain ⟨p0, u0, LK⟩ := look_book OW hkey.out
  have SL : (Try.prog.info? 56).map (·.size) = some cs.length := by rw [cl]; exact iId
  have RG := T0.rangeG
  have RU := U0.rangeG
  have SZ := hB.size hown
  have HH := hB.has_iff hx bx
  have one : cs.toArray.all (·.oneCell') = true := by rw [hcs]; exact idOne _
  have sc : cs.toArray.size = 32 := by simpa using cl
  unfold pmV at *
  clear hcs ev
  go_enter Try.func25, Try.ntmps25
  go_upto_region 1 with fail
  generalize (w.alloc (.cells cs.toArray 56)).alloc (.cells #[.int .i64 p, .int .i64 u] 53) = W1 at *
  have N1 := hide n1
  have HB := hide hB
  have KX := hide (And.intro hx bx)
  have gn1 := hide (bGn n1)
  have m2 : Below W1.heap.size W1 (W1.alloc (.cells #[.int .i64 p0, .int .i64 u0] 53)) := (Below.refl _ _).alloc (Nat.le_refl _) _
  have OW2 := ownP OW m2
  have GN2 := hide ((gn1.out).andThen (bGn m2) (fun j hj => by cases hj))
  have RG2 := (T0.up m2).rangeG
  have RU2 := (U0.up m2).rangeG
  have d0 := (U0.up m2).c0
  have d1 := (U0.up m2).c1
  have CL := hide cl
  clear hx bx hB n1 hown z1 T0 U0 cl OW m2
  generalize w.heap.size = s0 at *
  cases hh : Maps.has D (keyL x) with
  | true =>
    have c1 : tkC E x = 1 := by unfold tkC; rw [if_pos (HH.1 hh)]
    have e1 : tkE E x p u = E := by unfold tkE; rw [c1, if_neg (by decide)]
    have FI : Hid (BkW (W1.alloc (.cells #[.int .i64 p0, .int .i64 u0] 53)) b (n + 1) (tkE E x p u)) := ⟨D, own_more OW2 (by omega), by rw [e1]; exact HB.out⟩
    rw [hh] at LK
    have C1 := hide c1
    have GB := hide (GN2.out.but (some b))
    clear HH hh c1 e1 OW2 RG2 RU2
    go_wp2_with (first
      | (refine wpList_load_mid rfl 56 (.tmp 4) rfl s0 0 rfl cs _ RG uId rfl SL ?_)
      | go_in)
    go_ret
    exact ⟨by rw [C1.out]; rfl, FI.out, GB.out⟩
  | false =>
    rw [hh] at LK
    have hne : ¬ ∃ e ∈ E, e.id = x := fun h => by rw [HH.2 h] at hh; cases hh
    have HF := hide hh
    by_cases h64 : E.length = 64
    · have c1 : tkC E x = 2 := by unfold tkC; rw [if_neg hne, if_pos h64]
      have e1 : tkE E x p u = E := by unfold tkE; rw [c1, if_neg (by decide)]
      have FI : Hid (BkW (W1.alloc (.cells #[.int .i64 p0, .int .i64 u0] 53)) b (n + 1) (tkE E x p u)) := ⟨D, own_more OW2 (by omega), by rw [e1]; exact HB.out⟩
      have C1 := hide c1
      have GB := hide (GN2.out.but (some b))
      rw [h64] at SZ
      clear HH hh c1 e1 RG2 RU2 hne h64
      go_wp2_with (first
        | (refine wpList_load_mid rfl 56 (.tmp 4) rfl s0 0 rfl cs _ RG uId rfl SL ?_)
        | (at_len; refine wpList_len_own (H := Unit) _ rfl (.tmp 16) 47 rfl 56 53 Try.underlying47 pmR b n D rfl OW2 ?_; rw [SZ])
        | go_in)
      go_ret
      exact ⟨by rw [C1.out]; rfl, FI.out, GB.out⟩
    · have c1 : tkC E x = 0 := by unfold tkC; rw [if_neg hne, if_neg h64]
      have e1 : tkE E x p u = E ++ [⟨x, p, u⟩] := by unfold tkE; rw [if_pos c1]
      have BP := hide (HB.out.put (e := ⟨x, p, u⟩) OW2.isMap KX.out HF.out)
      have C1 := hide c1
      have t64 : ((E.length : Int) == 64) = false := beq_eq_false_iff_ne.2 (by omega)
      have E1 := hide e1
      clear HH hh c1 e1 hne h64
      generalize E.length = le at *
      go_wp2_with (first
        | (refine wpList_load_mid rfl 56 (.tmp 4) rfl s0 0 rfl cs _ RG uId rfl SL ?_)
        | (refine wpList_load_mid rfl 56 (.tmp 4) rfl s0 0 rfl cs _ RG2 uId rfl SL ?_)
        | (at_len; refine wpList_len_own (H := Unit) _ rfl (.tmp 16) 47 rfl 56 53 Try.underlying47 pmR b n D rfl OW2 ?_; rw [SZ])
        | (at_mapUpdate; refine wpList_mapUpdate_in _ rfl _ _ _ 47 rfl 56 53 lawK Try.underlying47 _ b n _ rfl OW2 (by unfold maxLen; omega) _ _ _ rfl rfl hkey.out _ [] (pmR_mk p u) ?_; intro w2 hown2 hturn2)
        | go_in)
      go_ret
      exact ⟨by rw [C1.out]; rfl, ⟨_, hown2, by rw [E1.out]; exact BP.out⟩, GN2.out.but (some b) |>.andThen hturn2.grown (fun j hj => by cases hj; exact Or.inr rfl)⟩
end Go.Proofs.Ytingekgcjnkljaa
