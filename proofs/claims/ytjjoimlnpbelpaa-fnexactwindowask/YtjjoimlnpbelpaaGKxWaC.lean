import Derived.Test.YtjjoimlnpbelpaaGKxWaB
import Derived.Test.YtjjoimlnpbelpaaGK14

/-
  Windows that are asked: marks that are over are forgotten, and a mark is taken.
-/
namespace Go.Proofs.Ytjjoimlnpbelpaa
open Go Go.RowKit Go.Maps

set_option maxRecDepth 100000 in
/-- The step of a range over the book. -/
theorem wpList_next_book (w : World) {ops : Array Oper} {rest : List Oper} {o : Oper} {a : Act} {Q : Exit → Act → World → Prop} (hg : o.guard = none) (it : Operand) (hop : o.op = Op.next it false) (b r n : Nat) (D : DataW Unit) (left : Lit → Bool) (cnt : Nat) (E : List Ent) (ok : ∀ e ∈ E, EntOk e)
    (hit : a.eval it = .pointer (some ⟨r, 0, none⟩)) (h : w.ranges Try.prog 58 pmR b r n D left cnt) (hk : ∀ kl, left kl = true → ∃ e ∈ E, kl = keyL e.id) (hat : ∀ e ∈ E, left (keyL e.id) = true → ∀ z, D.atKey (keyL e.id) z = pmD e.pl e.un)
    (hDone : cnt = 0 → (∀ kl, left kl = false) → wpList Try.prog ops Q rest (a.put o.dst (.tuple #[.bool false])) w)
    (hMore : ∀ (e : Ent) (w' : World) (cnt' : Nat), e ∈ E → left (keyL e.id) = true → w'.ranges Try.prog 58 pmR b r n D (fun z => left z && !z.sameKey (keyL e.id)) cnt' → cnt' < cnt →
      w.grownBy w' (some r) → w'.heap.size = w.heap.size → (Instr.entry (.pointer (some ⟨r, 0, none⟩))).run Try.prog w' = .ok (.tuple #[idV e.id, pmV e.pl e.un]) w' → wpList Try.prog ops Q rest (a.put o.dst (.tuple #[.bool true, idV e.id, pmV e.pl e.un])) w') :
    wpList Try.prog ops Q (o :: rest) a w := by
  refine wpList_next_ranges w hg it hop 58 lawK pmR id id (fun key _ _ => ⟨key, rfl⟩) (fun v _ _ => ⟨v, rfl⟩) b r n D left cnt hit h hDone ?_
  intro x c kl y w' cnt' hkey hl hv hd hrg hlt hgr hsz hen
  obtain ⟨e, he, rfl⟩ := hk kl hl
  obtain rfl : x = idV e.id := lawK.inj hkey (entKey (ok e he))
  obtain ⟨p, u, rfl, rfl⟩ := pmR_inv hv
  obtain ⟨rfl, rfl⟩ := pmD_inj ((hat e he hl .nil).symm.trans (hd .nil))
  exact hMore e w' cnt' he hl hrg hlt hgr hsz hen
set_option maxRecDepth 100000 in
theorem iId : (Try.prog.info? 58).map (·.size) = some 32 := by kernel_rfl
set_option maxRecDepth 100000 in
theorem iPm : (Try.prog.info? 55).map (·.size) = some 2 := by kernel_rfl
set_option maxRecDepth 100000 in
theorem bGn {w w' : World} (n : Below w.heap.size w w') : w.grownBy w' none := ⟨n.os, n.tape, n.output, n.size, fun i hi _ => n.block i hi⟩
set_option maxRecDepth 100000 in
theorem idOne (x : List Int) : (x.map (Value.int .u8)).toArray.all (·.oneCell') = true := all_oneCell_toArray fun v hv => by
  obtain ⟨y, _, rfl⟩ := List.mem_map.1 hv
  rfl
set_option maxRecDepth 100000 in
/-- Two boxes of a round: an id and its mark. -/
theorem boxes2 (w : World) (cs : List Value) (hl : cs.length = 32) (p u : Int) :
    Below w.heap.size w ((((w.alloc (.cells #[.int .u8 0, .int .u8 0, .int .u8 0, .int .u8 0, .int .u8 0, .int .u8 0, .int .u8 0, .int .u8 0, .int .u8 0, .int .u8 0, .int .u8 0, .int .u8 0, .int .u8 0, .int .u8 0, .int .u8 0, .int .u8 0, .int .u8 0, .int .u8 0, .int .u8 0, .int .u8 0, .int .u8 0, .int .u8 0, .int .u8 0, .int .u8 0, .int .u8 0, .int .u8 0, .int .u8 0, .int .u8 0, .int .u8 0, .int .u8 0, .int .u8 0, .int .u8 0] 58)).alloc (.cells #[.int .i64 0, .int .i64 0] 55)).setCells w.heap.size 0 cs).setCells (w.heap.size + 1) 0 [.int .i64 p, .int .i64 u]) ∧ ((w.alloc (.cells #[.int .u8 0, .int .u8 0, .int .u8 0, .int .u8 0, .int .u8 0, .int .u8 0, .int .u8 0, .int .u8 0, .int .u8 0, .int .u8 0, .int .u8 0, .int .u8 0, .int .u8 0, .int .u8 0, .int .u8 0, .int .u8 0, .int .u8 0, .int .u8 0, .int .u8 0, .int .u8 0, .int .u8 0, .int .u8 0, .int .u8 0, .int .u8 0, .int .u8 0, .int .u8 0, .int .u8 0, .int .u8 0, .int .u8 0, .int .u8 0, .int .u8 0, .int .u8 0] 58)).alloc (.cells #[.int .i64 0, .int .i64 0] 55)).there w.heap.size 0 32 ∧ (((w.alloc (.cells #[.int .u8 0, .int .u8 0, .int .u8 0, .int .u8 0, .int .u8 0, .int .u8 0, .int .u8 0, .int .u8 0, .int .u8 0, .int .u8 0, .int .u8 0, .int .u8 0, .int .u8 0, .int .u8 0, .int .u8 0, .int .u8 0, .int .u8 0, .int .u8 0, .int .u8 0, .int .u8 0, .int .u8 0, .int .u8 0, .int .u8 0, .int .u8 0, .int .u8 0, .int .u8 0, .int .u8 0, .int .u8 0, .int .u8 0, .int .u8 0, .int .u8 0, .int .u8 0] 58)).alloc (.cells #[.int .i64 0, .int .i64 0] 55)).setCells w.heap.size 0 cs).there (w.heap.size + 1) 0 2 ∧ RwC ((((w.alloc (.cells #[.int .u8 0, .int .u8 0, .int .u8 0, .int .u8 0, .int .u8 0, .int .u8 0, .int .u8 0, .int .u8 0, .int .u8 0, .int .u8 0, .int .u8 0, .int .u8 0, .int .u8 0, .int .u8 0, .int .u8 0, .int .u8 0, .int .u8 0, .int .u8 0, .int .u8 0, .int .u8 0, .int .u8 0, .int .u8 0, .int .u8 0, .int .u8 0, .int .u8 0, .int .u8 0, .int .u8 0, .int .u8 0, .int .u8 0, .int .u8 0, .int .u8 0, .int .u8 0] 58)).alloc (.cells #[.int .i64 0, .int .i64 0] 55)).setCells w.heap.size 0 cs).setCells (w.heap.size + 1) 0 [.int .i64 p, .int .i64 u]) w.heap.size cs 58 ∧ RwC ((((w.alloc (.cells #[.int .u8 0, .int .u8 0, .int .u8 0, .int .u8 0, .int .u8 0, .int .u8 0, .int .u8 0, .int .u8 0, .int .u8 0, .int .u8 0, .int .u8 0, .int .u8 0, .int .u8 0, .int .u8 0, .int .u8 0, .int .u8 0, .int .u8 0, .int .u8 0, .int .u8 0, .int .u8 0, .int .u8 0, .int .u8 0, .int .u8 0, .int .u8 0, .int .u8 0, .int .u8 0, .int .u8 0, .int .u8 0, .int .u8 0, .int .u8 0, .int .u8 0, .int .u8 0] 58)).alloc (.cells #[.int .i64 0, .int .i64 0] 55)).setCells w.heap.size 0 cs).setCells (w.heap.size + 1) 0 [.int .i64 p, .int .i64 u]) (w.heap.size + 1) [.int .i64 p, .int .i64 u] 55 := by
  have z1 : (w.alloc (.cells #[.int .u8 0, .int .u8 0, .int .u8 0, .int .u8 0, .int .u8 0, .int .u8 0, .int .u8 0, .int .u8 0, .int .u8 0, .int .u8 0, .int .u8 0, .int .u8 0, .int .u8 0, .int .u8 0, .int .u8 0, .int .u8 0, .int .u8 0, .int .u8 0, .int .u8 0, .int .u8 0, .int .u8 0, .int .u8 0, .int .u8 0, .int .u8 0, .int .u8 0, .int .u8 0, .int .u8 0, .int .u8 0, .int .u8 0, .int .u8 0, .int .u8 0, .int .u8 0] 58)).heap.size = w.heap.size + 1 := by simp
  have n0 : Below w.heap.size w ((w.alloc (.cells #[.int .u8 0, .int .u8 0, .int .u8 0, .int .u8 0, .int .u8 0, .int .u8 0, .int .u8 0, .int .u8 0, .int .u8 0, .int .u8 0, .int .u8 0, .int .u8 0, .int .u8 0, .int .u8 0, .int .u8 0, .int .u8 0, .int .u8 0, .int .u8 0, .int .u8 0, .int .u8 0, .int .u8 0, .int .u8 0, .int .u8 0, .int .u8 0, .int .u8 0, .int .u8 0, .int .u8 0, .int .u8 0, .int .u8 0, .int .u8 0, .int .u8 0, .int .u8 0] 58)).alloc (.cells #[.int .i64 0, .int .i64 0] 55)) := ((Below.refl _ _).alloc (Nat.le_refl _) _).alloc (by simp) _
  have T0 : RwC ((w.alloc (.cells #[.int .u8 0, .int .u8 0, .int .u8 0, .int .u8 0, .int .u8 0, .int .u8 0, .int .u8 0, .int .u8 0, .int .u8 0, .int .u8 0, .int .u8 0, .int .u8 0, .int .u8 0, .int .u8 0, .int .u8 0, .int .u8 0, .int .u8 0, .int .u8 0, .int .u8 0, .int .u8 0, .int .u8 0, .int .u8 0, .int .u8 0, .int .u8 0, .int .u8 0, .int .u8 0, .int .u8 0, .int .u8 0, .int .u8 0, .int .u8 0, .int .u8 0, .int .u8 0] 58)).alloc (.cells #[.int .i64 0, .int .i64 0] 55)) w.heap.size [.int .u8 0, .int .u8 0, .int .u8 0, .int .u8 0, .int .u8 0, .int .u8 0, .int .u8 0, .int .u8 0, .int .u8 0, .int .u8 0, .int .u8 0, .int .u8 0, .int .u8 0, .int .u8 0, .int .u8 0, .int .u8 0, .int .u8 0, .int .u8 0, .int .u8 0, .int .u8 0, .int .u8 0, .int .u8 0, .int .u8 0, .int .u8 0, .int .u8 0, .int .u8 0, .int .u8 0, .int .u8 0, .int .u8 0, .int .u8 0, .int .u8 0, .int .u8 0] 58 := (RwC.new w _ _).push _
  have U0 : RwC ((w.alloc (.cells #[.int .u8 0, .int .u8 0, .int .u8 0, .int .u8 0, .int .u8 0, .int .u8 0, .int .u8 0, .int .u8 0, .int .u8 0, .int .u8 0, .int .u8 0, .int .u8 0, .int .u8 0, .int .u8 0, .int .u8 0, .int .u8 0, .int .u8 0, .int .u8 0, .int .u8 0, .int .u8 0, .int .u8 0, .int .u8 0, .int .u8 0, .int .u8 0, .int .u8 0, .int .u8 0, .int .u8 0, .int .u8 0, .int .u8 0, .int .u8 0, .int .u8 0, .int .u8 0] 58)).alloc (.cells #[.int .i64 0, .int .i64 0] 55)) (w.heap.size + 1) [.int .i64 0, .int .i64 0] 55 := by
    have h := RwC.new (w.alloc (.cells #[.int .u8 0, .int .u8 0, .int .u8 0, .int .u8 0, .int .u8 0, .int .u8 0, .int .u8 0, .int .u8 0, .int .u8 0, .int .u8 0, .int .u8 0, .int .u8 0, .int .u8 0, .int .u8 0, .int .u8 0, .int .u8 0, .int .u8 0, .int .u8 0, .int .u8 0, .int .u8 0, .int .u8 0, .int .u8 0, .int .u8 0, .int .u8 0, .int .u8 0, .int .u8 0, .int .u8 0, .int .u8 0, .int .u8 0, .int .u8 0, .int .u8 0, .int .u8 0] 58)) [.int .i64 0, .int .i64 0] 55
    rwa [z1] at h
  have O1 := only_setG ((w.alloc (.cells #[.int .u8 0, .int .u8 0, .int .u8 0, .int .u8 0, .int .u8 0, .int .u8 0, .int .u8 0, .int .u8 0, .int .u8 0, .int .u8 0, .int .u8 0, .int .u8 0, .int .u8 0, .int .u8 0, .int .u8 0, .int .u8 0, .int .u8 0, .int .u8 0, .int .u8 0, .int .u8 0, .int .u8 0, .int .u8 0, .int .u8 0, .int .u8 0, .int .u8 0, .int .u8 0, .int .u8 0, .int .u8 0, .int .u8 0, .int .u8 0, .int .u8 0, .int .u8 0] 58)).alloc (.cells #[.int .i64 0, .int .i64 0] 55)) w.heap.size cs 0
  have T1 := T0.put (cs := cs) (by rw [hl]; rfl)
  have U1 := U0.onl O1 (by omega)
  have O2 := only_setG (((w.alloc (.cells #[.int .u8 0, .int .u8 0, .int .u8 0, .int .u8 0, .int .u8 0, .int .u8 0, .int .u8 0, .int .u8 0, .int .u8 0, .int .u8 0, .int .u8 0, .int .u8 0, .int .u8 0, .int .u8 0, .int .u8 0, .int .u8 0, .int .u8 0, .int .u8 0, .int .u8 0, .int .u8 0, .int .u8 0, .int .u8 0, .int .u8 0, .int .u8 0, .int .u8 0, .int .u8 0, .int .u8 0, .int .u8 0, .int .u8 0, .int .u8 0, .int .u8 0, .int .u8 0] 58)).alloc (.cells #[.int .i64 0, .int .i64 0] 55)).setCells w.heap.size 0 cs) (w.heap.size + 1) [.int .i64 p, .int .i64 u] 0
  exact ⟨(n0.trans (O1.below (Nat.le_refl _))).trans (O2.below (by omega)), T0.thereG, U1.thereG, T1.onl O2 (by omega), U1.put rfl⟩
set_option maxRecDepth 100000 in
theorem forget_any (w : World) (b n : Nat) (D : DataW Unit) (E : List Ent) (now : Int) (hown : w.ownsMap Try.prog 58 pmR b n D) (hB : Bk D E) :
    Calls Try.prog 24 #[.map (some b), .int .i64 now] w fun e w' => e = .returned (.tuple #[]) ∧ (∃ D', w'.ownsMap Try.prog 58 pmR b n D' ∧ Bk D' (E.filter fun e => decide (now ≤ e.un))) ∧ w.grownBy w' (some b) := by
  have ok := hide hB.ok
  have ap := hide hB.ap
  have FS := hide (hB.fg now)
  have bl := hown.lt
  go_enter Try.func24, Try.ntmps24
  go_wp2_with (first
    | (at_range; refine wpList_range_own _ rfl _ 49 rfl 58 55 lawK Try.underlying49 _ b n _ rfl hown ?_; intro w0 hrg0 hg0 hs0)
    | go_in)
  go_frame
  go_loopw [4, 5] (fun _ _ wr => ∃ (left : Lit → Bool) (cnt : Nat) (D' : DataW Unit), wr.ranges Try.prog 58 pmR b w.heap.size n D' left cnt ∧ Hid (Fg E now left D') ∧ w.grownBy wr (some b))
    (fun _ _ wr => wr.rangeLeft b w.heap.size)
  case atStart => exact ⟨_, _, _, hrg0, FS, hg0.but _⟩
  case round =>
    obtain ⟨left, cnt, D', hrg, hF, hgw⟩ := hrel
    go_wp2_with (first
      | (at_next; refine wpList_next_book _ rfl _ rfl b w.heap.size n _ _ _ E ok.out rfl hrg hF.out.lf (fun e he hl => hF.out.at' e he ((hF.out.hs e he).2 (.inl hl))) ?_ ?_)
      | go_in)
    · intro _ hl0
      go_wp2
      go_end0
      exact ⟨rfl, ⟨D', hrg.owns, hF.out.all ok.out ap.out hl0⟩, hgw⟩
    · intro e w1 cnt1 he hl hrg1 hlt hg1 hs1 hen
      have hgw1 := hide (hgw.andThen hg1 (fun j hj => by cases hj; exact Or.inl (Nat.le_refl _)))
      have HE := hide (ok.out e he)
      have hkey := hide (entKey HE.out)
      obtain ⟨cs, hcs⟩ : ∃ cs, cs = e.id.map (Value.int .u8) := ⟨_, rfl⟩
      have cl : cs.length = 32 := by rw [hcs, List.length_map]; exact HE.out.1
      have one : cs.toArray.all (·.oneCell') = true := by rw [hcs]; exact idOne _
      have ev : idV e.id = .agg cs.toArray := by rw [hcs]; rfl
      rw [ev] at hen hkey
      rw [ev]
      have FST := hide (fun h => hF.out.strike ok.out he (now := now) h ap.out)
      have FSY := hide (fun h => hF.out.stay ok.out ap.out he (now := now) h)
      obtain ⟨nb, th1, th2, R1, R2⟩ := boxes2 w1 cs cl e.pl e.un
      have hrg2 := hrg1.kept (bGn nb) (by simp) (by simp)
      have hgw2 := hide (hgw1.out.andThen (bGn nb) (fun j hj => by cases hj))
      have sz : cs.toArray.size = 32 := by simpa using cl
      have CL := hide cl
      have RG := R1.rangeG
      have c1 := R2.c1
      have SZ : (Try.prog.info? 58).map (·.size) = some cs.toArray.size := by rw [sz]; exact iId
      have SL : (Try.prog.info? 58).map (·.size) = some cs.length := by rw [CL.out]; exact iId
      rw [← sz] at th1
      unfold pmV at *
      generalize hun : e.un = un at *
      generalize e.pl = pl at *
      have HK := hide hkey.out
      have one2 : (#[.int .i64 pl, .int .i64 un] : Array Value).all (·.oneCell') = true := by simp [Value.oneCell']
      have th2' : World.there (World.setCells ((w1.alloc (.cells #[.int .u8 0, .int .u8 0, .int .u8 0, .int .u8 0, .int .u8 0, .int .u8 0, .int .u8 0, .int .u8 0, .int .u8 0, .int .u8 0, .int .u8 0, .int .u8 0, .int .u8 0, .int .u8 0, .int .u8 0, .int .u8 0, .int .u8 0, .int .u8 0, .int .u8 0, .int .u8 0, .int .u8 0, .int .u8 0, .int .u8 0, .int .u8 0, .int .u8 0, .int .u8 0, .int .u8 0, .int .u8 0, .int .u8 0, .int .u8 0, .int .u8 0, .int .u8 0] 58)).alloc (.cells #[.int .i64 0, .int .i64 0] 55)) w1.heap.size 0 cs.toArray.toList) (w1.heap.size + 1) 0 2 := th2
      clear cl hcs ev hs1 hgw hg1 hgw1 hF hl nb hrg1 R1 R2 hkey sz hown hB FS
      go_upto_region 3 with (first
        | (refine wpList_store_mid rfl 58 (.tmp 4) (.tmp 11) rfl w1.heap.size 0 cs.toArray rfl rfl th1 SZ one ?_)
        | (refine wpList_store_mid rfl 55 (.tmp 5) (.tmp 12) rfl (w1.heap.size + 1) 0 #[.int .i64 pl, .int .i64 un] rfl rfl th2' iPm one2 ?_)
        | fail)
      generalize World.setCells (World.setCells ((w1.alloc (.cells #[.int .u8 0, .int .u8 0, .int .u8 0, .int .u8 0, .int .u8 0, .int .u8 0, .int .u8 0, .int .u8 0, .int .u8 0, .int .u8 0, .int .u8 0, .int .u8 0, .int .u8 0, .int .u8 0, .int .u8 0, .int .u8 0, .int .u8 0, .int .u8 0, .int .u8 0, .int .u8 0, .int .u8 0, .int .u8 0, .int .u8 0, .int .u8 0, .int .u8 0, .int .u8 0, .int .u8 0, .int .u8 0, .int .u8 0, .int .u8 0, .int .u8 0, .int .u8 0] 58)).alloc (.cells #[.int .i64 0, .int .i64 0] 55)) w1.heap.size 0 cs) (w1.heap.size + 1) 0 [.int .i64 pl, .int .i64 un] = W3 at *
      clear th1 th2 th2' one one2 SZ hen
      generalize w1.heap.size = s1 at *
      by_cases hu : un < now
      · have t1 : decide (un < now) = true := decide_eq_true hu
        have HU := hide hu
        clear hu
        go_wp2_with (first
          | (refine wpList_load_mid rfl 58 (.tmp 4) rfl s1 0 rfl cs _ RG uId rfl SL ?_)
          | (at_delete; refine wpList_delete_ranges _ rfl _ _ 49 58 rfl 55 lawK Try.underlying49 _ b w.heap.size n _ _ _ rfl hrg2 _ _ rfl HK.out ?_; intro w2 cnt2 hrg3 hle hturn; go_frame)
          | go_in)
        rw [strike_twice] at hrg3
        go_roundw
        case rel => exact ⟨_, cnt2, _, hrg3, FST.out HU.out, hgw2.out.andThen hturn.grown (fun j hj => by cases hj; exact Or.inr rfl)⟩
        case measure => rw [hrg3.left_eq, hrg.left_eq]; omega
      · have t1 : decide (un < now) = false := decide_eq_false hu
        have HU := hide hu
        clear hu
        go_wp2
        go_roundw
        case rel => exact ⟨_, cnt1, _, hrg2, FSY.out (by have := HU.out; omega), hgw2.out⟩
        case measure => rw [hrg2.left_eq, hrg.left_eq]; exact hlt
end Go.Proofs.Ytjjoimlnpbelpaa
