import Derived.Test.YtjjoimlnpbelpaaGKxWaC

/-
  Windows that are asked: a mark is looked up and taken.
-/
namespace Go.Proofs.Ytjjoimlnpbelpaa
open Go Go.RowKit Go.Maps

set_option maxRecDepth 100000 in
theorem zPm (w : World) : (zeroValue 55).run Try.prog w = .ok (pmV 0 0) w := by kernel_rfl
set_option maxRecDepth 100000 in
theorem look_book {w : World} {b n : Nat} {D : DataW Unit} (h : w.ownsMap Try.prog 58 pmR b n D) {key : Value} {kl : Lit} (hkey : keyOf Try.prog 58 key = some kl) : ∃ p u, (Instr.lookup 49 (.map (some b)) key true).run Try.prog w = .ok (.tuple #[pmV p u, .bool (Maps.has D kl)]) w := by
  obtain ⟨v, ps, hr, hv⟩ := h.look_ok lawK Try.underlying49 (zPm w) (pmR_mk 0 0) hkey
  obtain ⟨p, u, rfl, _⟩ := pmR_inv hv
  exact ⟨p, u, hr⟩
set_option maxRecDepth 100000 in
theorem look_book0 {w : World} {b n : Nat} {D : DataW Unit} (h : w.ownsMap Try.prog 58 pmR b n D) {key : Value} {kl : Lit} (hkey : keyOf Try.prog 58 key = some kl) : ∃ p u, (Instr.lookup 49 (.map (some b)) key false).run Try.prog w = .ok (pmV p u) w ∧ D.atKey kl (pmD 0 0) = pmD p u := by
  obtain ⟨es, clock, hb, F, _, rfl⟩ := h
  rcases Maps.fit_look false lawK Try.underlying49 (zPm w) hb F hkey with ⟨hrun, _, hat⟩ | ⟨e0, y, _, _, hrun, hRv, hat, _⟩
  · exact ⟨0, 0, hrun, hat _⟩
  · obtain ⟨p, u, e, rfl⟩ := pmR_inv hRv
    rw [e] at hrun
    exact ⟨p, u, hrun, hat _⟩
set_option maxRecDepth 100000 in
/-- The book that a block holds. -/
def BkW (w : World) (b n : Nat) (E : List Ent) : Prop := ∃ D, w.ownsMap Try.prog 58 pmR b n D ∧ Bk D E
set_option maxRecDepth 100000 in
theorem own_more {w : World} {b n m : Nat} {D : DataW Unit} (h : w.ownsMap Try.prog 58 pmR b n D) (hm : n ≤ m) : w.ownsMap Try.prog 58 pmR b m D := by
  obtain ⟨es, clock, hb, F, hs, hD⟩ := h
  exact ⟨es, clock, hb, F, Nat.le_trans hs hm, hD⟩
set_option maxRecDepth 100000 in
theorem BkW.up {w w' : World} {b n : Nat} {E : List Ent} (h : BkW w b n E) (m : Below w.heap.size w w') : BkW w' b n E := by
  obtain ⟨D, o, k⟩ := h
  exact ⟨D, ownP o m, k⟩
set_option maxRecDepth 100000 in
/-- What taking an id answers. -/
def tkC (E : List Ent) (x : List Int) : Int := if ∃ e ∈ E, e.id = x then 1 else if E.length = 64 then 2 else 0
set_option maxRecDepth 100000 in
def tkE (E : List Ent) (x : List Int) (p u : Int) : List Ent := if tkC E x = 0 then E ++ [⟨x, p, u⟩] else E
set_option maxRecDepth 100000 in
theorem take_any (w : World) (b n : Nat) (D : DataW Unit) (E : List Ent) (x : List Int) (hx : x.length = 32) (bx : Byt x) (p u : Int) (hown : w.ownsMap Try.prog 58 pmR b n D) (hB : Bk D E) (hn : n < 1000) :
    Calls Try.prog 25 #[.map (some b), idV x, pmV p u] w fun e w' => e = .returned (.int .i64 (tkC E x)) ∧ BkW w' b (n + 1) (tkE E x p u) ∧ w.grownBy w' (some b) := by
  obtain ⟨cs, hcs⟩ : ∃ cs, cs = x.map (Value.int .u8) := ⟨_, rfl⟩
  have ev : idV x = .agg cs.toArray := by rw [hcs]; rfl
  have cl : cs.length = 32 := by rw [hcs, List.length_map]; exact hx
  have hkey := hide (keyL_some hx bx)
  rw [ev] at hkey
  rw [ev]
  have n1 : Below w.heap.size w ((w.alloc (.cells cs.toArray 58)).alloc (.cells #[.int .i64 p, .int .i64 u] 55)) := ((Below.refl _ _).alloc (Nat.le_refl _) _).alloc (by simp) _
  have z1 : (w.alloc (.cells cs.toArray 58)).heap.size = w.heap.size + 1 := by simp
  have T0 : RwC ((w.alloc (.cells cs.toArray 58)).alloc (.cells #[.int .i64 p, .int .i64 u] 55)) w.heap.size cs 58 := (RwC.new w _ _).push _
  have U0 : RwC ((w.alloc (.cells cs.toArray 58)).alloc (.cells #[.int .i64 p, .int .i64 u] 55)) (w.heap.size + 1) [.int .i64 p, .int .i64 u] 55 := by
    have h := RwC.new (w.alloc (.cells cs.toArray 58)) [.int .i64 p, .int .i64 u] 55
    rwa [z1] at h
  have OW := ownP hown n1
  obtain ⟨p0, u0, LK⟩ := look_book OW hkey.out
  have SL : (Try.prog.info? 58).map (·.size) = some cs.length := by rw [cl]; exact iId
  have RG := T0.rangeG
  have RU := U0.rangeG
  have SZ := hB.size hown
  have HH := hB.has_iff hx bx
  have one : cs.toArray.all (·.oneCell') = true := by rw [hcs]; exact idOne _
  have sc : cs.toArray.size = 32 := by simpa using cl
  unfold pmV at *
  clear hcs ev
  go_enter Try.func25, Try.ntmps25
  go_upto_region 1 with fail
  generalize (w.alloc (.cells cs.toArray 58)).alloc (.cells #[.int .i64 p, .int .i64 u] 55) = W1 at *
  have N1 := hide n1
  have HB := hide hB
  have KX := hide (And.intro hx bx)
  have gn1 := hide (bGn n1)
  have m2 : Below W1.heap.size W1 (W1.alloc (.cells #[.int .i64 p0, .int .i64 u0] 55)) := (Below.refl _ _).alloc (Nat.le_refl _) _
  have OW2 := ownP OW m2
  have GN2 := hide ((gn1.out).andThen (bGn m2) (fun j hj => by cases hj))
  have RG2 := (T0.up m2).rangeG
  have RU2 := (U0.up m2).rangeG
  have d0 := (U0.up m2).c0
  have d1 := (U0.up m2).c1
  have CL := hide cl
  clear hx bx hB n1 hown z1 T0 U0 cl OW m2
  generalize w.heap.size = s0 at *
  cases hh : Maps.has D (keyL x) with
  | true =>
    have c1 : tkC E x = 1 := by unfold tkC; rw [if_pos (HH.1 hh)]
    have e1 : tkE E x p u = E := by unfold tkE; rw [c1, if_neg (by decide)]
    have FI : Hid (BkW (W1.alloc (.cells #[.int .i64 p0, .int .i64 u0] 55)) b (n + 1) (tkE E x p u)) := ⟨D, own_more OW2 (by omega), by rw [e1]; exact HB.out⟩
    rw [hh] at LK
    have C1 := hide c1
    have GB := hide (GN2.out.but (some b))
    clear HH hh c1 e1 OW2 RG2 RU2
    go_wp2_with (first
      | (refine wpList_load_mid rfl 58 (.tmp 4) rfl s0 0 rfl cs _ RG uId rfl SL ?_)
      | go_in)
    go_ret
    exact ⟨by rw [C1.out]; rfl, FI.out, GB.out⟩
  | false =>
    rw [hh] at LK
    have hne : ¬ ∃ e ∈ E, e.id = x := fun h => by rw [HH.2 h] at hh; cases hh
    have HF := hide hh
    by_cases h64 : E.length = 64
    · have c1 : tkC E x = 2 := by unfold tkC; rw [if_neg hne, if_pos h64]
      have e1 : tkE E x p u = E := by unfold tkE; rw [c1, if_neg (by decide)]
      have FI : Hid (BkW (W1.alloc (.cells #[.int .i64 p0, .int .i64 u0] 55)) b (n + 1) (tkE E x p u)) := ⟨D, own_more OW2 (by omega), by rw [e1]; exact HB.out⟩
      have C1 := hide c1
      have GB := hide (GN2.out.but (some b))
      rw [h64] at SZ
      clear HH hh c1 e1 RG2 RU2 hne h64
      go_wp2_with (first
        | (refine wpList_load_mid rfl 58 (.tmp 4) rfl s0 0 rfl cs _ RG uId rfl SL ?_)
        | (at_len; refine wpList_len_own (H := Unit) _ rfl (.tmp 16) 49 rfl 58 55 Try.underlying49 pmR b n D rfl OW2 ?_; rw [SZ])
        | go_in)
      go_ret
      exact ⟨by rw [C1.out]; rfl, FI.out, GB.out⟩
    · have c1 : tkC E x = 0 := by unfold tkC; rw [if_neg hne, if_neg h64]
      have e1 : tkE E x p u = E ++ [⟨x, p, u⟩] := by unfold tkE; rw [if_pos c1]
      have BP := hide (HB.out.put (e := ⟨x, p, u⟩) OW2.isMap KX.out HF.out)
      have C1 := hide c1
      have t64 : ((E.length : Int) == 64) = false := beq_eq_false_iff_ne.2 (by omega)
      have E1 := hide e1
      clear HH hh c1 e1 hne h64
      generalize E.length = le at *
      go_wp2_with (first
        | (refine wpList_load_mid rfl 58 (.tmp 4) rfl s0 0 rfl cs _ RG uId rfl SL ?_)
        | (refine wpList_load_mid rfl 58 (.tmp 4) rfl s0 0 rfl cs _ RG2 uId rfl SL ?_)
        | (at_len; refine wpList_len_own (H := Unit) _ rfl (.tmp 16) 49 rfl 58 55 Try.underlying49 pmR b n D rfl OW2 ?_; rw [SZ])
        | (at_mapUpdate; refine wpList_mapUpdate_in _ rfl _ _ _ 49 rfl 58 55 lawK Try.underlying49 _ b n _ rfl OW2 (by unfold maxLen; omega) _ _ _ rfl rfl hkey.out _ [] (pmR_mk p u) ?_; intro w2 hown2 hturn2)
        | go_in)
      go_ret
      exact ⟨by rw [C1.out]; rfl, ⟨_, hown2, by rw [E1.out]; exact BP.out⟩, GN2.out.but (some b) |>.andThen hturn2.grown (fun j hj => by cases hj; exact Or.inr rfl)⟩
end Go.Proofs.Ytjjoimlnpbelpaa
