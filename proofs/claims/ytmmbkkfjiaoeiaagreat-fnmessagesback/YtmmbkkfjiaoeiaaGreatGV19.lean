import Derived.Test.YtmmbkkfjiaoeiaaGreatGV17
import Derived.Test.YtmmbkkfjiaoeiaaGreatGV8
import Derived.Test.YtmmbkkfjiaoeiaaGreatGV16
import Derived.Test.YtmmbkkfjiaoeiaaGreatGV18
import Derived.Test.YtmmbkkfjiaoeiaaGreatGV3
import Derived.Test.YtmmbkkfjiaoeiaaGreatGV14
import Derived.Defers
import Derived.Recover
import Derived.Test.YtmmbkkfjiaoeiaaGreatGV10
import Derived.Test.YtmmbkkfjiaoeiaaGreatGV2
import Derived.Test.YtmmbkkfjiaoeiaaGreatGV9
import Derived.Deep.RegionWith
namespace Go.Proofs.YtmmbkkfjiaoeiaaGreat
open Go Go.RowKit
set_option maxRecDepth 100000 in
set_option maxHeartbeats 8000000 in
theorem parseExtras_any (w:World) (g:Nat) (a:Option Addr) (c:Nat) (xs:List Int) (hr:Rd w g a .u8 xs) (hb:Byt xs) (hx:xs.length≤8192) :
  Calls Tryz.prog 30 #[.int .i64 8,.slice a xs.length c] w fun e w'=>(∃ p,e = .returned (.agg (mgV p (rdExtras xs)))∧HasM w' p (rdExtras xs)∧HasZ p (rdExtras xs)∧TyM w' p (rdExtras xs)∧∀ g,g < w.heap.size→NoM g p (rdExtras xs))∧Below w.heap.size w w':=by
 have P0:PS w ((((w.alloc (.cells #[.int .i64 0,.int .i64 0,.slice none 0 0,.slice none 0 0,.string ⟨#[]⟩,.slice none 0 0,.slice none 0 0,.int .i64 0,.int .i64 0,.slice none 0 0,.bool false,.slice none 0 0,.slice none 0 0] 26)).alloc (.cells #[.slice a xs.length c,.int .i64 0] 105)).alloc (.cells #[.int .i64 0,.int .i64 0,.slice none 0 0,.slice none 0 0,.string ⟨#[]⟩,.slice none 0 0,.slice none 0 0,.int .i64 0,.int .i64 0,.slice none 0 0,.bool false,.slice none 0 0,.slice none 0 0] 26)).setCells (w.heap.size+1+1) 0 [.int .i64 8,.int .i64 0,.slice none 0 0,.slice none 0 0,.string ⟨#[]⟩,.slice none 0 0,.slice none 0 0,.int .i64 0,.int .i64 0,.slice none 0 0,.bool false,.slice none 0 0,.slice none 0 0]) (.slice a xs.length c) 0 [.int .i64 8,.int .i64 0,.slice none 0 0,.slice none 0 0,.string ⟨#[]⟩,.slice none 0 0,.slice none 0 0,.int .i64 0,.int .i64 0,.slice none 0 0,.bool false,.slice none 0 0,.slice none 0 0]:=PS.start w (.slice a xs.length c) 8
 have THR:(((w.alloc (.cells #[.int .i64 0,.int .i64 0,.slice none 0 0,.slice none 0 0,.string ⟨#[]⟩,.slice none 0 0,.slice none 0 0,.int .i64 0,.int .i64 0,.slice none 0 0,.bool false,.slice none 0 0,.slice none 0 0] 26)).alloc (.cells #[.slice a xs.length c,.int .i64 0] 105)).alloc (.cells #[.int .i64 0,.int .i64 0,.slice none 0 0,.slice none 0 0,.string ⟨#[]⟩,.slice none 0 0,.slice none 0 0,.int .i64 0,.int .i64 0,.slice none 0 0,.bool false,.slice none 0 0,.slice none 0 0] 26)).there (w.heap.size+1+1) 0 13:=PS.room w (.slice a xs.length c)
 obtain ⟨d13,hd13,hrow13⟩:=rowM
 have HR:=hide hr
 clear hr
 go_enter Tryz.func30,Tryz.ntmps30
 go_upto_region 3 with (refine wpList_store_mid rfl 26 (.tmp 6) (.tmp 12) rfl (w.heap.size+1+1) 0 #[.int .i64 8,.int .i64 0,.slice none 0 0,.slice none 0 0,.string ⟨#[]⟩,.slice none 0 0,.slice none 0 0,.int .i64 0,.int .i64 0,.slice none 0 0,.bool false,.slice none 0 0,.slice none 0 0] rfl rfl THR iM (all_oneCell_toArray fun v hv=>by (simp only [List.mem_cons,List.not_mem_nil,or_false] at hv;rcases hv with rfl | rfl | rfl | rfl | rfl | rfl | rfl | rfl | rfl | rfl | rfl | rfl | rfl;all_goals rfl)) ?_)
 have PH:=hide P0
 clear P0 THR
 generalize (((w.alloc (.cells #[.int .i64 0,.int .i64 0,.slice none 0 0,.slice none 0 0,.string ⟨#[]⟩,.slice none 0 0,.slice none 0 0,.int .i64 0,.int .i64 0,.slice none 0 0,.bool false,.slice none 0 0,.slice none 0 0] 26)).alloc (.cells #[.slice a xs.length c,.int .i64 0] 105)).alloc (.cells #[.int .i64 0,.int .i64 0,.slice none 0 0,.slice none 0 0,.string ⟨#[]⟩,.slice none 0 0,.slice none 0 0,.int .i64 0,.int .i64 0,.slice none 0 0,.bool false,.slice none 0 0,.slice none 0 0] 26)).setCells (w.heap.size+1+1) 0 [.int .i64 8,.int .i64 0,.slice none 0 0,.slice none 0 0,.string ⟨#[]⟩,.slice none 0 0,.slice none 0 0,.int .i64 0,.int .i64 0,.slice none 0 0,.bool false,.slice none 0 0,.slice none 0 0]=W0 at *
 have lt:=PH.out.T.lt
 have NM:=hide (takeListM_any W0 (w.heap.size+1) g a c xs (0) (HR.out.up PH.out.N) hb PH.out.Q (fun h=>by have:=HR.out.lt h;omega) (by omega) (by omega))
 go_wp2_with fail
 refine NM.out.mono ?_
 rintro e V0 ⟨⟨v,rfl,RT⟩,hQ,hT⟩
 have PV:=hide (PH.out.call hQ hT)
 obtain ⟨ra,rl,rc,hrv⟩:∃ ra rl rc,v = .slice ra rl rc:=by
  rcases RT.2 with ⟨h',_⟩ | ⟨g',cap,cur,h',_⟩
  ·exact ⟨_,_,_,h'⟩
  ·exact ⟨_,_,_,h'⟩
 subst hrv
 have CR:Hid (FR (w.heap.size+1+1) V0 (.slice ra rl rc) (txT xs (0+1) (xs.getD (0) 0).toNat)):=RowT.base' RT (by omega)
 clear NM hQ hT PH lt RT
 have PH:=PV
 clear PV
 have qT:V0.cell? ⟨w.heap.size+1+1,5,none⟩=some (.slice none 0 0):=PH.out.T.cell 5
 have qF:=PH.out.T.free 5
 go_upto_region 27 with fail
 have PN:Hid (PS w (V0.setCell ⟨w.heap.size+1+1,5,none⟩ (.slice ra rl rc)) (.slice a xs.length c) _ [.int .i64 8,.int .i64 0,.slice none 0 0,.slice none 0 0,.string ⟨#[]⟩,.slice ra rl rc,.slice none 0 0,.int .i64 0,.int .i64 0,.slice none 0 0,.bool false,.slice none 0 0,.slice none 0 0]):=PH.out.set 5 _
 have CR':=hide (CR.out.onl (Only.setCell V0 (w.heap.size+1+1) 5 (.slice ra rl rc)) (Nat.le_refl _))
 clear CR
 have CR:=CR'
 clear CR'
 clear qT qF PH
 generalize V0.setCell ⟨w.heap.size+1+1,5,none⟩ (.slice ra rl rc)=W1 at *
 have PH:=PN
 clear PN
 have PB:=ppT_bd hb 1 (xs.getD 0 0).toNat
 have nb:=bx1 hb 0
 rw [show (0+1:Nat)=1 from rfl] at PH CR
 obtain ⟨pp,hpp⟩:∃ n,Hid (ppT xs 1 (xs.getD 0 0).toNat=n):=⟨_,rfl⟩
 obtain ⟨tt,htt⟩:∃ n,Hid (txT xs 1 (xs.getD 0 0).toNat=n):=⟨_,rfl⟩
 rw [hpp.out] at PB PH
 rw [htt.out] at CR
 have NM:=hide (numM_any W1 (w.heap.size+1) g a c xs (pp) 1 (HR.out.up PH.out.N) hb PH.out.Q (by omega) (by omega) (by decide))
 go_wp2_with fail
 refine NM.out.mono ?_
 rintro e V2 ⟨rfl,hQ,hT⟩
 have PV:=hide (PH.out.call hQ hT)
 have CR':=hide (CR.out.tch hT (by omega))
 clear CR
 have CR:=CR'
 clear CR'
 clear NM hQ hT PH
 have PH:=PV
 clear PV
 obtain ⟨ev,hev⟩:∃ n,Hid (beN xs pp 1=n):=⟨_,rfl⟩
 rw [hev.out]
 have qT:V2.cell? ⟨w.heap.size+1+1,8,none⟩=some (.int .i64 0):=PH.out.T.cell 8
 have qF:=PH.out.T.free 8
 go_upto_region 39 with fail
 have PN:Hid (PS w (V2.setCell ⟨w.heap.size+1+1,8,none⟩ (.int .i64 ev)) (.slice a xs.length c) _ [.int .i64 8,.int .i64 0,.slice none 0 0,.slice none 0 0,.string ⟨#[]⟩,.slice ra rl rc,.slice none 0 0,.int .i64 0,.int .i64 ev,.slice none 0 0,.bool false,.slice none 0 0,.slice none 0 0]):=PH.out.set 8 _
 have CR':=hide (CR.out.onl (Only.setCell V2 (w.heap.size+1+1) 8 (.int .i64 ev)) (Nat.le_refl _))
 clear CR
 have CR:=CR'
 clear CR'
 clear qT qF PH
 generalize V2.setCell ⟨w.heap.size+1+1,8,none⟩ (.int .i64 ev)=W3 at *
 have PH:=PN
 clear PN
 have RG:=PH.out.T.rangeG
 have THR:=PH.out.U.thereG
 have RR:=World.rangeAt_setCells_same W3 w.heap.size 0 [.int .i64 8,.int .i64 0,.slice none 0 0,.slice none 0 0,.string ⟨#[]⟩,.slice ra rl rc,.slice none 0 0,.int .i64 0,.int .i64 ev,.slice none 0 0,.bool false,.slice none 0 0,.slice none 0 0] THR
 have OQ:=only_setG W3 w.heap.size [.int .i64 8,.int .i64 0,.slice none 0 0,.slice none 0 0,.string ⟨#[]⟩,.slice ra rl rc,.slice none 0 0,.int .i64 0,.int .i64 ev,.slice none 0 0,.bool false,.slice none 0 0,.slice none 0 0] 0
 have N8:Hid (Below w.heap.size w (W3.setCells w.heap.size 0 [.int .i64 8,.int .i64 0,.slice none 0 0,.slice none 0 0,.string ⟨#[]⟩,.slice ra rl rc,.slice none 0 0,.int .i64 0,.int .i64 ev,.slice none 0 0,.bool false,.slice none 0 0,.slice none 0 0])):=PH.out.N.trans (OQ.below (by omega))
 have CR':=hide (CR.out.onl OQ (by omega))
 clear CR
 have CR:=CR'
 clear CR'
 clear OQ PH
 have ON:([.int .i64 8,.int .i64 0,.slice none 0 0,.slice none 0 0,.string ⟨#[]⟩,.slice ra rl rc,.slice none 0 0,.int .i64 0,.int .i64 ev,.slice none 0 0,.bool false,.slice none 0 0,.slice none 0 0]:List Value).toArray.all (·.oneCell')=true:=all_oneCell_toArray fun v hv=>by
  simp only [List.mem_cons,List.not_mem_nil,or_false] at hv
  rcases hv with rfl | rfl | rfl | rfl | rfl | rfl | rfl | rfl | rfl | rfl | rfl | rfl | rfl
  all_goals rfl
 obtain ⟨hl,hcc,hzz,gr,hrd,hty⟩:=RowT.rdT CR.out
 have RES:Hid ((∃ p,Ending.returned (.agg #[.int .i64 8,.int .i64 0,.slice none 0 0,.slice none 0 0,.string ⟨#[]⟩,.slice ra rl rc,.slice none 0 0,.int .i64 0,.int .i64 ev,.slice none 0 0,.bool false,.slice none 0 0,.slice none 0 0]) = .returned (.agg (mgV p (rdExtras xs)))∧HasM (W3.setCells w.heap.size 0 [.int .i64 8,.int .i64 0,.slice none 0 0,.slice none 0 0,.string ⟨#[]⟩,.slice ra rl rc,.slice none 0 0,.int .i64 0,.int .i64 ev,.slice none 0 0,.bool false,.slice none 0 0,.slice none 0 0]) p (rdExtras xs)∧HasZ p (rdExtras xs)∧TyM (W3.setCells w.heap.size 0 [.int .i64 8,.int .i64 0,.slice none 0 0,.slice none 0 0,.string ⟨#[]⟩,.slice ra rl rc,.slice none 0 0,.int .i64 0,.int .i64 ev,.slice none 0 0,.bool false,.slice none 0 0,.slice none 0 0]) p (rdExtras xs)∧∀ g,g < w.heap.size→NoM g p (rdExtras xs))∧Below w.heap.size w (W3.setCells w.heap.size 0 [.int .i64 8,.int .i64 0,.slice none 0 0,.slice none 0 0,.string ⟨#[]⟩,.slice ra rl rc,.slice none 0 0,.int .i64 0,.int .i64 ev,.slice none 0 0,.bool false,.slice none 0 0,.slice none 0 0])):=⟨⟨⟨none,0,0,none,0,0,ra,rc,gr,none,0,0,none,0,0,none,0,0,none,0,0,[]⟩,(by rw [hl];simp only [mgV,rdExtras,List.length_nil,hpp.out,htt.out,hev.out]),⟨rd0 _ _ _ _,rd0 _ _ _ _,(by show RdT _ _ _ (txT xs 1 (xs.getD 0 0).toNat);rw [htt.out];exact hrd),rd0 _ _ _ _,rd0 _ _ _ _,rdL0 _ _ _ _,rd0 _ _ _ _,(by show (txT xs 1 (xs.getD 0 0).toNat).length≤_;rw [htt.out];exact hcc)⟩,⟨(fun _=>rfl),(fun _=>rfl),(fun _=>rfl),(fun _=>rfl),(fun _=>rfl),fun i hi=>absurd hi (by simp [rdExtras])⟩,⟨fun h=>(hty (by rw [← htt.out];exact h)).1,fun h=>absurd h (by simp [rdExtras])⟩,(fun g hg=>⟨(fun h=>absurd h (by simp [rdExtras])),(fun h=>absurd h (by simp [rdExtras])),(fun h=>by have h2:=(hty (by rw [← htt.out];exact h)).2;show gr≠_;omega),(fun h=>absurd h (by simp [rdExtras])),(fun h=>absurd h (by simp [rdExtras])),(fun h=>absurd h (by simp [rdExtras])),(fun i h=>absurd h (by simp [rdExtras])),(fun h=>absurd h (by simp [rdExtras]))⟩)⟩,N8.out⟩
 clear N8
 clear hl hcc hzz hrd hty
 go_wp2_with (first
  | (refine wpList_load_mid rfl 26 (.tmp 6) rfl (w.heap.size+1+1) 0 rfl [.int .i64 8,.int .i64 0,.slice none 0 0,.slice none 0 0,.string ⟨#[]⟩,.slice ra rl rc,.slice none 0 0,.int .i64 0,.int .i64 ev,.slice none 0 0,.bool false,.slice none 0 0,.slice none 0 0] d13 RG hd13 hrow13 iM ?_)
  | (refine wpList_store_mid rfl 26 (.tmp 4) (.tmp 124) rfl w.heap.size 0 #[.int .i64 8,.int .i64 0,.slice none 0 0,.slice none 0 0,.string ⟨#[]⟩,.slice ra rl rc,.slice none 0 0,.int .i64 0,.int .i64 ev,.slice none 0 0,.bool false,.slice none 0 0,.slice none 0 0] rfl rfl THR iM ON ?_))
 exact bodyPost_ret (v := .agg #[.int .i64 8,.int .i64 0,.slice none 0 0,.slice none 0 0,.string ⟨#[]⟩,.slice ra rl rc,.slice none 0 0,.int .i64 0,.int .i64 ev,.slice none 0 0,.bool false,.slice none 0 0,.slice none 0 0]) (results_cellG Tryz.results30 _ _ w.heap.size _ d13 rfl RR hd13 hrow13 iM) rfl RES.out
end Go.Proofs.YtmmbkkfjiaoeiaaGreat
namespace Go.Proofs.YtmmbkkfjiaoeiaaGreat
open Go Go.RowKit
section
variable {P : Program} {ops : Array Oper} {Q : Exit → Act → World → Prop} {md : Region.Mode} {F : Nat → Fact} {a0 : Act} {w0 : World}
def textEnd (md : Region.Mode) (ops : Array Oper) (n : Nat) : Bool :=
  (ops.all fun o=>match o.dst with | some d=>decide (d < n) | none=>true)
  && ((List.range ops.size).all fun i=>match ops[i]? with
    | some o => o.after.all (fun e => !Region.binds md e || decide (e.on < i)) && (List.range i).all fun j => match ops[j]? with
      | some x=>x.dst.isNone || o.dst != x.dst
      | none=>true
    | none=>true)
structure TextE (md:Region.Mode) (ops:Array Oper) (n:Nat):Prop where
 d:∀ (i:Nat) o d,ops[i]?=some o→o.dst=some d→d < n
 a:∀ (i:Nat) o,ops[i]?=some o→∀ e ∈ o.after,Region.binds md e=true→e.on < i
 x:∀ (i j:Nat) o o' d,ops[i]?=some o→ops[j]?=some o'→i≠j→o.dst=some d→o'.dst≠some d
theorem textE_of {n:Nat} (h:textEnd md ops n=true):TextE md ops n:=by
 unfold textEnd at h
 simp only [Bool.and_eq_true] at h
 obtain ⟨h1,h2⟩:=h
 rw [Array.all_eq_true_iff_forall_mem] at h1
 rw [List.all_eq_true] at h2
 have H:∀ (i j:Nat) o o' d,j < i→ops[i]?=some o→ops[j]?=some o'→o.dst=some d→o'.dst≠some d:=by
  intro i j o o' d hij hi hj hd hd'
  have q:=h2 i (List.mem_range.2 (Array.getElem?_eq_some_iff.1 hi).1)
  simp only [hi,Bool.and_eq_true] at q
  have r:=List.all_eq_true.1 q.2 j (List.mem_range.2 hij)
  simp only [hj,hd,hd'] at r
  simp at r
 refine ⟨?_,?_,?_⟩
 ·intro i o d ho hd
  have q:=h1 o (Array.mem_of_getElem? ho)
  simpa [hd] using q
 ·intro i o ho e he hb
  have q:=h2 i (List.mem_range.2 (Array.getElem?_eq_some_iff.1 ho).1)
  simp only [ho,Bool.and_eq_true] at q
  have r:=(Array.all_eq_true_iff_forall_mem.1 q.1) e he
  rw [hb] at r
  simpa using r
 ·intro i j o o' d hi hj hij hd hd'
  rcases Nat.lt_or_gt_of_ne hij with h | h
  ·exact H j i o' o d h hj hi hd' hd
  ·exact H i j o o' d h hi hj hd hd'
theorem Held.nextE {n : Nat} (T : TextE md ops n) (hn : n ≤ a0.tmps.size) {listed : Array Bool} {a : Act} {w : World} (H : Held md ops F a0 w0 listed a w) {i : Nat} {o : Oper} (ho : ops[i]? = some o) (hr : i ∈ Region.ready md ops listed)
  {v:Value} {w':World} (hw:Below w.heap.size w w') (hf:(F i).p v w'):Held md ops F a0 w0 (listed.setIfInBounds i true) (a.put o.dst v) w':=by
 have hi:i < ops.size:=(Array.getElem?_eq_some_iff.1 ho).1
 have hz:a.tmps.size=a0.tmps.size:=H.b.2.1
 refine ⟨⟨by rw [put_defers];exact H.b.1,by rw [put_size];exact hz,fun d hd=>?_⟩,nxt H.n hw,?_,?_,by simp [H.s]⟩
 ·rw [put_off]
  ·exact H.b.2.2 d hd
  ·have q := Array.all_eq_true_iff_forall_mem.1 hd o (Array.mem_of_getElem? ho)
   simpa using q
 ·intro j oj d hoj hj hd
  by_cases e:i=j
  ·subst e
   obtain rfl:=Option.some.inj (ho.symm.trans hoj)
   rw [hd,put_at (Nat.lt_of_lt_of_le (T.d i o d ho hd) (hz ▸ hn))]
   exact hf
  ·rw [getD_off e] at hj
   rw [put_off (T.x j i oj o d hoj ho (Ne.symm e) hd)]
   exact (F j).up hw (H.f j oj d hoj hj hd)
 ·intro j oj hoj hj e he hb
  obtain ⟨_,o',ho',q⟩:=mem_ready.1 hr
  by_cases c:i=e.on
  ·rw [← c]
   exact getD_same (by rw [H.s];exact hi) _
  ·rw [getD_off c]
   by_cases e':i=j
   ·subst e'
    obtain rfl:=Option.some.inj (ho'.symm.trans hoj)
    exact q e he hb
   ·rw [getD_off e'] at hj
    exact H.c j oj hoj hj e he hb
theorem any_end {n : Nat} (T : TextE md ops n) (hn : n ≤ a0.tmps.size) (steps : ∀ i, i < ops.size → StepOk P md ops Q F a0 w0 i)
    (hg:∀ i o,ops[i]?=some o→∀ (a:Act) (w:World),(∀ j d,waits md ops i j d=true→(F j).p (a.tmps.getD d undef) w)→Region.wanted o (yielded ops a.tmps)=true)
    (fin:∀ a w,Based ops a0 a→Below w0.heap.size w0 w→(∀ i o d,ops[i]?=some o→o.dst=some d→(F i).p (a.tmps.getD d undef) w)→Q .normal a w) :
    ∀ (fuel:Nat) (listed:Array Bool) (a:Act) (w:World),left listed ops.size≤fuel→Held md ops F a0 w0 listed a w→wpAny P md ops Q fuel listed a w:=by
  have done:∀ (fuel:Nat) (listed:Array Bool) (a:Act) (w:World),Held md ops F a0 w0 listed a w→(∀ i,i < ops.size→listed.getD i false=true)→wpAny P md ops Q fuel listed a w:=by
    intro fuel listed a w H hall
    refine wpAny_done ?_ (fin a w H.b H.n (fun i o d ho hd=>H.f i o d ho (hall i (Array.getElem?_eq_some_iff.1 ho).1) hd)) fuel
    cases hr:Region.ready md ops listed with
    | nil=>rfl
    | cons i t =>
      exfalso
      have hi:i ∈ Region.ready md ops listed:=by rw [hr];simp
      obtain ⟨h0,o,ho,_⟩:=mem_ready.1 hi
      have hlt:=(Array.getElem?_eq_some_iff.1 ho).1
      rw [dflt (by rw [H.s];exact hlt),hall i hlt] at h0
      simp at h0
  intro fuel
  induction fuel with
  | zero =>
    intro listed a w hl H
    exact done 0 listed a w H fun i hi=>by
      rw [← dflt (by rw [H.s];exact hi)]
      exact left_zero (n:=ops.size) (by omega) i hi
  | succ fuel ih =>
    intro listed a w hl H
    by_cases hall:∀ i,i < ops.size→listed.getD i false=true
    · exact done _ listed a w H hall
    · refine ⟨fun hr => ?_, fun i hi => ?_⟩
      · exfalso
        refine hall fun j hj=>?_
        have:∀ m i,i < m→i < ops.size→listed.getD i false=true:=by
          intro m
          induction m with
          | zero=>intro i hi;omega
          | succ m ihm =>
            intro i hi hik
            rcases Nat.lt_or_ge i m with h1 | h1
            · exact ihm i h1 hik
            · obtain rfl : i = m := by omega
              cases hc:listed.getD i false
              · exfalso
                obtain ⟨o,ho⟩:∃ o,ops[i]?=some o:=⟨ops[i],by simp [hik]⟩
                have hr':i ∈ Region.ready md ops listed:=mem_ready.2 ⟨by rw [dflt (by rw [H.s];omega)];exact hc,o,ho,fun e he hb=>ihm e.on (T.a i o ho e he hb) (by have:=T.a i o ho e he hb;omega)⟩
                rw [hr] at hr'
                simp at hr'
              · rfl
        exact this (j+1) j (by omega) hj
      · obtain ⟨h0, o, ho, hready⟩ := mem_ready.1 hi
        have hlt:=(Array.getElem?_eq_some_iff.1 ho).1
        have hfacts:∀ j d,waits md ops i j d=true→(F j).p (a.tmps.getD d undef) w:=by
          intro j d hjd
          unfold waits at hjd
          rw [ho] at hjd
          cases hoj:ops[j]? with
          | none=>rw [hoj] at hjd;simp at hjd
          | some oj =>
            rw [hoj] at hjd
            simp only [Bool.and_eq_true,beq_iff_eq] at hjd
            obtain ⟨e,he,hb⟩:=Array.any_eq_true'.1 hjd.1
            simp only [Bool.and_eq_true,beq_iff_eq] at hb
            exact H.f j oj d hoj (by rw [← hb.2];exact hready e he hb.1) hjd.2
        have hwant:=hg i o ho a w hfacts
        refine wpOp_step ho fun K' hK=>?_
        rw [if_pos hwant]
        have hll:=left_set (by rw [H.s];exact hlt) h0 ops.size hlt
        refine steps i hlt o ho a w H.b H.n hfacts K' fun v w' hw hf=>?_
        exact hK _ _ (ih _ _ _ (by omega) (H.nextE T hn ho hi hw hf))
theorem region_guard {id:Nat} {w:World} (F:Nat→Fact) (hm:P.follows .mixedOrders=true) (hT:textEnd .any ops a0.tmps.size=true) (steps:∀ i,i < ops.size→StepOk P .any ops Q F a0 w i)
  (hg:∀ i o,ops[i]?=some o→∀ (a:Act) (w:World),(∀ j d,waits .any ops i j d=true→(F j).p (a.tmps.getD d undef) w)→Region.wanted o (yielded ops a.tmps)=true)
  (fin:∀ a W,Based ops a0 a→Below w.heap.size w W→(∀ i d,writes ops i d=true→(F i).p (a.tmps.getD d undef) W)→Q .normal a W):(Code.region id ops true).wp P Q a0 w:=by
 have T:=textE_of hT
 have z:∀ j,(Array.replicate ops.size false).getD j false=false:=fun j=>by
  rw [Array.getD_eq_getD_getElem?,Array.getElem?_replicate]
  split <;> rfl
 refine wp_region_any hm ?_
 refine any_end (w0:=w) T (Nat.le_refl _) steps hg (fun a W hb hw hf=>fin a W hb hw (fun i d hd=>?_)) ops.size _ a0 _ ?_ ⟨⟨rfl,rfl,fun _ _=>rfl⟩,(Below.refl _ _).drew,?_,?_,by simp⟩
 ·obtain ⟨o, ho, hd'⟩ := writes_is hd
  exact hf i o d ho hd'
 ·have : ∀ m, left (Array.replicate ops.size false) m ≤ m := by
   intro m
   induction m with
   | zero=>exact Nat.le_refl _
   | succ m ih=>unfold left;split <;> omega
  exact this _
 ·intro i o d ho hl _
  rw [z] at hl
  simp at hl
 ·intro i o ho hl
  rw [z] at hl
  simp at hl
theorem wanted_none {o:Oper} {a:Act} (h:o.guard=none):Region.wanted o (yielded ops a.tmps)=true:=by simp [Region.wanted,h]
theorem wanted_some {o:Oper} {a:Act} {g d:Nat} {v:Bool} (h:o.guard=some (g,v)) (hd:writes ops g d=true) (e:a.tmps.getD d undef = .bool v):Region.wanted o (yielded ops a.tmps)=true:=by
 obtain ⟨og,ho,hd'⟩:=writes_is hd
 have e1:a.tmps[d]?=some (.bool v):=by
  rw [Array.getD_eq_getD_getElem?] at e
  cases hq:a.tmps[d]? with
  | none=>rw [hq] at e;simp [undef] at e
  | some x=>rw [hq] at e;simpa using e
 simp [Region.wanted,h,yielded,ho,hd',e1]
theorem puts_guard {n : Nat} (hT : textEnd md ops n = true) (hn : n = a0.tmps.size) {a : Act} (hb : Based ops a0 a) (vs : Nat → Value) (hv : ∀ d, a.tmps.getD d undef = vs d) : a = puts vs a0 ops.toList := by
 have T:=textE_of hT
 have hin:∀ o ∈ ops.toList,∀ e,o.dst=some e→e < a0.tmps.size:=fun o ho e he=>by
  obtain ⟨i,hi⟩:=List.getElem?_of_mem ho
  have:=T.d i o e (by simpa using hi) he
  rw [hn] at this
  exact this
 obtain ⟨s1,s2⟩:=puts_size vs ops.toList a0
 obtain ⟨ta,da⟩:=a
 obtain ⟨h1,h2,h3⟩:=hb
 have e1:ta=(puts vs a0 ops.toList).tmps:=by
  apply Array.ext
  ·rw [s1];exact h2
  ·intro i hi hi'
   have g:=puts_get vs i ops.toList a0 hin
   have l:ta[i]=ta.getD i undef:=by simp [Array.getD_eq_getD_getElem?,hi]
   have r:(puts vs a0 ops.toList).tmps[i]=(puts vs a0 ops.toList).tmps.getD i undef:=by simp only [Array.getD_eq_getD_getElem?,Array.getElem?_eq_getElem hi',Option.getD_some]
   rw [l,r,g]
   by_cases c:ops.toList.any (fun o=>o.dst == some i)=true
   ·rw [if_pos c];exact hv i
   ·rw [if_neg c]
    refine h3 i ?_
    unfold apart
    rw [Array.all_eq_true_iff_forall_mem]
    intro o ho
    have hne:¬ (o.dst == some i)=true:=fun x=>c (List.any_eq_true.2 ⟨o,by simpa using ho,x⟩)
    simpa using hne
 have e2:da=(puts vs a0 ops.toList).defers:=h1.trans s2.symm
 subst e1
 subst e2
 rfl
end
end Go.Proofs.YtmmbkkfjiaoeiaaGreat
namespace Go.Proofs.YtmmbkkfjiaoeiaaGreat
open Go Go.RowKit
section
variable {P : Program} {ops : Array Oper} {Q : Exit → Act → World → Prop} {md : Region.Mode} {F : Nat → Fact} {a0 : Act} {w0 : World}
theorem any_endW {n : Nat} {wn : Nat → Bool} (T : TextE md ops n) (hn : n ≤ a0.tmps.size) (steps : ∀ i, i < ops.size → wn i = true → StepOk P md ops Q F a0 w0 i)
    (hg:∀ i o,ops[i]?=some o→∀ (a:Act) (w:World),(∀ j d,waits md ops i j d=true→(F j).p (a.tmps.getD d undef) w)→(wn i=true∧Region.wanted o (yielded ops a.tmps)=true)∨(Region.wanted o (yielded ops a.tmps)=false∧(F i).p undef w))
    (fin:∀ a w,Based ops a0 a→Below w0.heap.size w0 w→(∀ i o d,ops[i]?=some o→o.dst=some d→(F i).p (a.tmps.getD d undef) w)→Q .normal a w) :
    ∀ (fuel:Nat) (listed:Array Bool) (a:Act) (w:World),left listed ops.size≤fuel→Held md ops F a0 w0 listed a w→wpAny P md ops Q fuel listed a w:=by
  have done:∀ (fuel:Nat) (listed:Array Bool) (a:Act) (w:World),Held md ops F a0 w0 listed a w→(∀ i,i < ops.size→listed.getD i false=true)→wpAny P md ops Q fuel listed a w:=by
    intro fuel listed a w H hall
    refine wpAny_done ?_ (fin a w H.b H.n (fun i o d ho hd=>H.f i o d ho (hall i (Array.getElem?_eq_some_iff.1 ho).1) hd)) fuel
    cases hr:Region.ready md ops listed with
    | nil=>rfl
    | cons i t =>
      exfalso
      have hi:i ∈ Region.ready md ops listed:=by rw [hr];simp
      obtain ⟨h0,o,ho,_⟩:=mem_ready.1 hi
      have hlt:=(Array.getElem?_eq_some_iff.1 ho).1
      rw [dflt (by rw [H.s];exact hlt),hall i hlt] at h0
      simp at h0
  intro fuel
  induction fuel with
  | zero =>
    intro listed a w hl H
    exact done 0 listed a w H fun i hi=>by
      rw [← dflt (by rw [H.s];exact hi)]
      exact left_zero (n:=ops.size) (by omega) i hi
  | succ fuel ih =>
    intro listed a w hl H
    by_cases hall:∀ i,i < ops.size→listed.getD i false=true
    · exact done _ listed a w H hall
    · refine ⟨fun hr => ?_, fun i hi => ?_⟩
      · exfalso
        refine hall fun j hj=>?_
        have:∀ m i,i < m→i < ops.size→listed.getD i false=true:=by
          intro m
          induction m with
          | zero=>intro i hi;omega
          | succ m ihm =>
            intro i hi hik
            rcases Nat.lt_or_ge i m with h1 | h1
            · exact ihm i h1 hik
            · obtain rfl : i = m := by omega
              cases hc:listed.getD i false
              · exfalso
                obtain ⟨o,ho⟩:∃ o,ops[i]?=some o:=⟨ops[i],by simp [hik]⟩
                have hr':i ∈ Region.ready md ops listed:=mem_ready.2 ⟨by rw [dflt (by rw [H.s];omega)];exact hc,o,ho,fun e he hb=>ihm e.on (T.a i o ho e he hb) (by have:=T.a i o ho e he hb;omega)⟩
                rw [hr] at hr'
                simp at hr'
              · rfl
        exact this (j+1) j (by omega) hj
      · obtain ⟨h0, o, ho, hready⟩ := mem_ready.1 hi
        have hlt:=(Array.getElem?_eq_some_iff.1 ho).1
        have hfacts:∀ j d,waits md ops i j d=true→(F j).p (a.tmps.getD d undef) w:=by
          intro j d hjd
          unfold waits at hjd
          rw [ho] at hjd
          cases hoj:ops[j]? with
          | none=>rw [hoj] at hjd;simp at hjd
          | some oj =>
            rw [hoj] at hjd
            simp only [Bool.and_eq_true,beq_iff_eq] at hjd
            obtain ⟨e,he,hb⟩:=Array.any_eq_true'.1 hjd.1
            simp only [Bool.and_eq_true,beq_iff_eq] at hb
            exact H.f j oj d hoj (by rw [← hb.2];exact hready e he hb.1) hjd.2
        have hll:=left_set (by rw [H.s];exact hlt) h0 ops.size hlt
        refine wpOp_step ho fun K' hK=>?_
        rcases hg i o ho a w hfacts with ⟨hwn,hwant⟩ | ⟨hwant,hu⟩
        · rw [if_pos hwant]
          refine steps i hlt hwn o ho a w H.b H.n hfacts K' fun v w' hw hf=>?_
          exact hK _ _ (ih _ _ _ (by omega) (H.nextE T hn ho hi hw hf))
        · rw [if_neg (by rw [hwant]; decide)]
          exact hK _ _ (ih _ _ _ (by omega) (H.nextE T hn ho hi (Below.refl _ _) hu))
theorem region_guardW {id:Nat} {w:World} (wn:Nat→Bool) (F:Nat→Fact) (hm:P.follows .mixedOrders=true) (hT:textEnd .any ops a0.tmps.size=true) (steps:∀ i,i < ops.size→wn i=true→StepOk P .any ops Q F a0 w i)
  (hg:∀ i o,ops[i]?=some o→∀ (a:Act) (w:World),(∀ j d,waits .any ops i j d=true→(F j).p (a.tmps.getD d undef) w)→(wn i=true∧Region.wanted o (yielded ops a.tmps)=true)∨(Region.wanted o (yielded ops a.tmps)=false∧(F i).p undef w))
  (fin:∀ a W,Based ops a0 a→Below w.heap.size w W→(∀ i d,writes ops i d=true→(F i).p (a.tmps.getD d undef) W)→Q .normal a W):(Code.region id ops true).wp P Q a0 w:=by
 have T:=textE_of hT
 have z:∀ j,(Array.replicate ops.size false).getD j false=false:=fun j=>by
  rw [Array.getD_eq_getD_getElem?,Array.getElem?_replicate]
  split <;> rfl
 refine wp_region_any hm ?_
 refine any_endW (wn:=wn) (w0:=w) T (Nat.le_refl _) steps hg (fun a W hb hw hf=>fin a W hb hw (fun i d hd=>?_)) ops.size _ a0 _ ?_ ⟨⟨rfl,rfl,fun _ _=>rfl⟩,(Below.refl _ _).drew,?_,?_,by simp⟩
 ·obtain ⟨o, ho, hd'⟩ := writes_is hd
  exact hf i o d ho hd'
 ·have : ∀ m, left (Array.replicate ops.size false) m ≤ m := by
   intro m
   induction m with
   | zero=>exact Nat.le_refl _
   | succ m ih=>unfold left;split <;> omega
  exact this _
 ·intro i o d ho hl _
  rw [z] at hl
  simp at hl
 ·intro i o ho hl
  rw [z] at hl
  simp at hl
theorem wanted_off {o:Oper} {a:Act} {g d:Nat} {v b:Bool} (h:o.guard=some (g,v)) (hd:writes ops g d=true) (e:a.tmps.getD d undef = .bool b) (hne:b≠v):Region.wanted o (yielded ops a.tmps)=false:=by
 obtain ⟨og,ho,hd'⟩:=writes_is hd
 have e1:a.tmps[d]?=some (.bool b):=by
  rw [Array.getD_eq_getD_getElem?] at e
  cases hq:a.tmps[d]? with
  | none=>rw [hq] at e;simp [undef] at e
  | some x=>rw [hq] at e;simpa using e
 cases b <;> cases v <;> simp_all [Region.wanted,yielded]
end
end Go.Proofs.YtmmbkkfjiaoeiaaGreat
namespace Go.Proofs.YtmmbkkfjiaoeiaaGreat
open Go Go.RowKit
theorem iMR:(Tryz.prog.info? 31).map (·.size)=some 15:=by kernel_rfl
theorem rowMR:∃ d,Tryz.prog.underlying 31=some d∧d.isRow=true:=⟨_,Tryz.underlying31,rfl⟩
theorem one15 (l:List Value) (h:l.all (·.oneCell')=true):l.toArray.all (·.oneCell')=true:=by simpa using h
theorem noM0 (g:Nat):NoM g mq0 msg0:=⟨(fun h=>absurd h (by simp [msg0])),(fun h=>absurd h (by simp [msg0])),(fun h=>absurd h (by simp [msg0])),(fun h=>absurd h (by simp [msg0])),(fun h=>absurd h (by simp [msg0])),(fun h=>absurd h (by simp [msg0])),(fun i h=>absurd h (by simp [msg0])),(fun h=>absurd h (by simp [msg0]))⟩
theorem specParse_any (w:World) (g:Nat) (a:Option Addr) (c:Nat) (xs:List Int) (k:Int) (hk:k ∈ kinds) (hr:Rd w g a .u8 xs) (hb:Byt xs) (hx:xs.length≤8192) :
  Calls Tryz.prog 30 #[.int .i64 k,.slice a xs.length c] w fun e w'=>(∃ p,e = .returned (.agg (mgV p (rdM k xs)))∧HasM w' p (rdM k xs)∧HasZ p (rdM k xs)∧TyM w' p (rdM k xs)∧∀ g,g < w.heap.size→NoM g p (rdM k xs))∧Below w.heap.size w w':=by
 have:k=1∨k=2∨k=4∨k=5∨k=8∨k=11∨k=15∨k=20∨k=24:=by simpa [kinds] using hk
 rcases this with e | e | e | e | e | e | e | e | e <;> subst e
 ·exact parseHello_any w g a c xs hr hb hx
 ·exact parseAnswer_any w g a c xs hr hb hx
 ·exact parseTicket_any w g a c xs hr hb hx
 ·exact parseEnd_any w g a c xs hr hb hx
 ·exact parseExtras_any w g a c xs hr hb hx
 ·exact parseCerts_any w g a c xs hr hb hx
 ·exact parseProof_any w g a c xs hr hb hx
 ·exact parseFinished_any w g a c xs hr hb hx
 ·exact parseUpdate_any w g a c xs hr hb hx
set_option maxRecDepth 100000 in
set_option maxHeartbeats 4000000 in
theorem specDM_out (w:World) (a:Option Addr) (c:Nat) (xs:List Int) (at_:Int) (hx:xs.length≤1048576) (ho:at_ < 0∨(xs.length:Int) < at_) :
  Calls Tryz.prog 12 #[.slice a xs.length c,.int .i64 at_] w fun e w'=>(∃ p,e = .returned (.agg (rsV (dmC xs at_) p (dmR xs at_) (dmE xs at_)))∧HasM w' p (dmR xs at_)∧∀ b,b < w.heap.size→NoM b p (dmR xs at_))∧Below w.heap.size w w':=by
 have HO:=hide ho
 have hx':=hx
 clear hx
 have Z:RwC (w.alloc (.cells #[.int .i64 0,.int .i64 0,.int .i64 0,.slice none 0 0,.slice none 0 0,.string ⟨#[]⟩,.slice none 0 0,.slice none 0 0,.int .i64 0,.int .i64 0,.slice none 0 0,.bool false,.slice none 0 0,.slice none 0 0,.int .i64 0] 31)) w.heap.size [.int .i64 0,.int .i64 0,.int .i64 0,.slice none 0 0,.slice none 0 0,.string ⟨#[]⟩,.slice none 0 0,.slice none 0 0,.int .i64 0,.int .i64 0,.slice none 0 0,.bool false,.slice none 0 0,.slice none 0 0,.int .i64 0] 31:=RwC.new w _ _
 have N:Below w.heap.size w (w.alloc (.cells #[.int .i64 0,.int .i64 0,.int .i64 0,.slice none 0 0,.slice none 0 0,.string ⟨#[]⟩,.slice none 0 0,.slice none 0 0,.int .i64 0,.int .i64 0,.slice none 0 0,.bool false,.slice none 0 0,.slice none 0 0,.int .i64 0] 31)):=(Below.refl _ _).alloc (Nat.le_refl _) _
 obtain ⟨d15,hd15,hrow15⟩:=rowMR
 go_enter Tryz.func12,Tryz.ntmps12
 go_upto_region 1 with fail
 generalize w.alloc (.cells #[.int .i64 0,.int .i64 0,.int .i64 0,.slice none 0 0,.slice none 0 0,.string ⟨#[]⟩,.slice none 0 0,.slice none 0 0,.int .i64 0,.int .i64 0,.slice none 0 0,.bool false,.slice none 0 0,.slice none 0 0,.int .i64 0] 31)=W at *
 by_cases h0:at_ < 0
 ·have t0 : decide (at_ < 0) = true := decide_eq_true h0
  clear ho
  go_upto_region 2 with fail
  have THR:=Z.thereG
  have RR:=World.rangeAt_setCells_same W w.heap.size 0 [.int .i64 2,.int .i64 0,.int .i64 0,.slice none 0 0,.slice none 0 0,.string ⟨#[]⟩,.slice none 0 0,.slice none 0 0,.int .i64 0,.int .i64 0,.slice none 0 0,.bool false,.slice none 0 0,.slice none 0 0,.int .i64 0] THR
  have OQ:=only_setG W w.heap.size [.int .i64 2,.int .i64 0,.int .i64 0,.slice none 0 0,.slice none 0 0,.string ⟨#[]⟩,.slice none 0 0,.slice none 0 0,.int .i64 0,.int .i64 0,.slice none 0 0,.bool false,.slice none 0 0,.slice none 0 0,.int .i64 0] 0
  have RES:Hid ((∃ p,Ending.returned (.agg #[.int .i64 2,.int .i64 0,.int .i64 0,.slice none 0 0,.slice none 0 0,.string ⟨#[]⟩,.slice none 0 0,.slice none 0 0,.int .i64 0,.int .i64 0,.slice none 0 0,.bool false,.slice none 0 0,.slice none 0 0,.int .i64 0]) = .returned (.agg (rsV (dmC xs at_) p (dmR xs at_) (dmE xs at_)))∧HasM (W.setCells w.heap.size 0 [.int .i64 2,.int .i64 0,.int .i64 0,.slice none 0 0,.slice none 0 0,.string ⟨#[]⟩,.slice none 0 0,.slice none 0 0,.int .i64 0,.int .i64 0,.slice none 0 0,.bool false,.slice none 0 0,.slice none 0 0,.int .i64 0]) p (dmR xs at_)∧∀ b,b < w.heap.size→NoM b p (dmR xs at_))∧Below w.heap.size w (W.setCells w.heap.size 0 [.int .i64 2,.int .i64 0,.int .i64 0,.slice none 0 0,.slice none 0 0,.string ⟨#[]⟩,.slice none 0 0,.slice none 0 0,.int .i64 0,.int .i64 0,.slice none 0 0,.bool false,.slice none 0 0,.slice none 0 0,.int .i64 0])):=by
   have hC:dmC xs at_=2:=by unfold dmC;rw [if_pos HO.out]
   have hR:dmR xs at_=msg0:=by unfold dmR;rw [hC];rfl
   have hE:dmE xs at_=0:=by unfold dmE;rw [hC];rfl
   rw [hC,hR,hE]
   exact ⟨⟨mq0,rfl,hasM0 _,fun _ _=>noM0 _⟩,N.trans (OQ.below (Nat.le_refl _))⟩
  clear OQ Z N
  go_wp2_with (refine wpList_store_mid rfl 31 (.tmp 4) (.tmp 16) rfl w.heap.size 0 #[.int .i64 2,.int .i64 0,.int .i64 0,.slice none 0 0,.slice none 0 0,.string ⟨#[]⟩,.slice none 0 0,.slice none 0 0,.int .i64 0,.int .i64 0,.slice none 0 0,.bool false,.slice none 0 0,.slice none 0 0,.int .i64 0] rfl rfl THR iMR (one15 _ rfl) ?_)
  exact bodyPost_ret (v := .agg #[.int .i64 2,.int .i64 0,.int .i64 0,.slice none 0 0,.slice none 0 0,.string ⟨#[]⟩,.slice none 0 0,.slice none 0 0,.int .i64 0,.int .i64 0,.slice none 0 0,.bool false,.slice none 0 0,.slice none 0 0,.int .i64 0]) (results_cellG Tryz.results12 _ _ w.heap.size _ d15 rfl RR hd15 hrow15 iMR) rfl RES.out
 ·have h1 : (xs.length : Int) < at_ := by omega
  have t0:decide (at_ < 0)=false:=decide_eq_false h0
  have t1:decide ((xs.length:Int) < at_)=true:=decide_eq_true h1
  clear ho
  go_upto_region 2 with fail
  have THR:=Z.thereG
  have RR:=World.rangeAt_setCells_same W w.heap.size 0 [.int .i64 2,.int .i64 0,.int .i64 0,.slice none 0 0,.slice none 0 0,.string ⟨#[]⟩,.slice none 0 0,.slice none 0 0,.int .i64 0,.int .i64 0,.slice none 0 0,.bool false,.slice none 0 0,.slice none 0 0,.int .i64 0] THR
  have OQ:=only_setG W w.heap.size [.int .i64 2,.int .i64 0,.int .i64 0,.slice none 0 0,.slice none 0 0,.string ⟨#[]⟩,.slice none 0 0,.slice none 0 0,.int .i64 0,.int .i64 0,.slice none 0 0,.bool false,.slice none 0 0,.slice none 0 0,.int .i64 0] 0
  have RES:Hid ((∃ p,Ending.returned (.agg #[.int .i64 2,.int .i64 0,.int .i64 0,.slice none 0 0,.slice none 0 0,.string ⟨#[]⟩,.slice none 0 0,.slice none 0 0,.int .i64 0,.int .i64 0,.slice none 0 0,.bool false,.slice none 0 0,.slice none 0 0,.int .i64 0]) = .returned (.agg (rsV (dmC xs at_) p (dmR xs at_) (dmE xs at_)))∧HasM (W.setCells w.heap.size 0 [.int .i64 2,.int .i64 0,.int .i64 0,.slice none 0 0,.slice none 0 0,.string ⟨#[]⟩,.slice none 0 0,.slice none 0 0,.int .i64 0,.int .i64 0,.slice none 0 0,.bool false,.slice none 0 0,.slice none 0 0,.int .i64 0]) p (dmR xs at_)∧∀ b,b < w.heap.size→NoM b p (dmR xs at_))∧Below w.heap.size w (W.setCells w.heap.size 0 [.int .i64 2,.int .i64 0,.int .i64 0,.slice none 0 0,.slice none 0 0,.string ⟨#[]⟩,.slice none 0 0,.slice none 0 0,.int .i64 0,.int .i64 0,.slice none 0 0,.bool false,.slice none 0 0,.slice none 0 0,.int .i64 0])):=by
   have hC:dmC xs at_=2:=by unfold dmC;rw [if_pos HO.out]
   have hR:dmR xs at_=msg0:=by unfold dmR;rw [hC];rfl
   have hE:dmE xs at_=0:=by unfold dmE;rw [hC];rfl
   rw [hC,hR,hE]
   exact ⟨⟨mq0,rfl,hasM0 _,fun _ _=>noM0 _⟩,N.trans (OQ.below (Nat.le_refl _))⟩
  clear OQ Z N
  go_wp2_with (refine wpList_store_mid rfl 31 (.tmp 4) (.tmp 16) rfl w.heap.size 0 #[.int .i64 2,.int .i64 0,.int .i64 0,.slice none 0 0,.slice none 0 0,.string ⟨#[]⟩,.slice none 0 0,.slice none 0 0,.int .i64 0,.int .i64 0,.slice none 0 0,.bool false,.slice none 0 0,.slice none 0 0,.int .i64 0] rfl rfl THR iMR (one15 _ rfl) ?_)
  exact bodyPost_ret (v := .agg #[.int .i64 2,.int .i64 0,.int .i64 0,.slice none 0 0,.slice none 0 0,.string ⟨#[]⟩,.slice none 0 0,.slice none 0 0,.int .i64 0,.int .i64 0,.slice none 0 0,.bool false,.slice none 0 0,.slice none 0 0,.int .i64 0]) (results_cellG Tryz.results12 _ _ w.heap.size _ d15 rfl RR hd15 hrow15 iMR) rfl RES.out
set_option maxRecDepth 100000 in
set_option maxHeartbeats 4000000 in
theorem specDM_pre (w:World) (g:Nat) (a:Option Addr) (c:Nat) (xs:List Int) (i:Nat) (hi:i≤xs.length) (hr:Rd w g a .u8 xs) (hb:Byt xs) (hz:a=none→c=0) (hc:xs.length≤c) (hx:xs.length≤1048576) (hp:dmP (xs.drop i)≠0) :
  Calls Tryz.prog 12 #[.slice a xs.length c,.int .i64 (i:Int)] w fun e w'=>(∃ p,e = .returned (.agg (rsV (dmC xs (i:Int)) p (dmR xs (i:Int)) (dmE xs (i:Int))))∧HasM w' p (dmR xs (i:Int))∧∀ b,b < w.heap.size→NoM b p (dmR xs (i:Int)))∧Below w.heap.size w w':=by
 have Z:RwC (w.alloc (.cells #[.int .i64 0,.int .i64 0,.int .i64 0,.slice none 0 0,.slice none 0 0,.string ⟨#[]⟩,.slice none 0 0,.slice none 0 0,.int .i64 0,.int .i64 0,.slice none 0 0,.bool false,.slice none 0 0,.slice none 0 0,.int .i64 0] 31)) w.heap.size [.int .i64 0,.int .i64 0,.int .i64 0,.slice none 0 0,.slice none 0 0,.string ⟨#[]⟩,.slice none 0 0,.slice none 0 0,.int .i64 0,.int .i64 0,.slice none 0 0,.bool false,.slice none 0 0,.slice none 0 0,.int .i64 0] 31:=RwC.new w _ _
 have N:Below w.heap.size w (w.alloc (.cells #[.int .i64 0,.int .i64 0,.int .i64 0,.slice none 0 0,.slice none 0 0,.string ⟨#[]⟩,.slice none 0 0,.slice none 0 0,.int .i64 0,.int .i64 0,.slice none 0 0,.bool false,.slice none 0 0,.slice none 0 0,.int .i64 0] 31)):=(Below.refl _ _).alloc (Nat.le_refl _) _
 obtain ⟨d15,hd15,hrow15⟩:=rowMR
 go_enter Tryz.func12,Tryz.ntmps12
 go_upto_region 1 with fail
 generalize w.alloc (.cells #[.int .i64 0,.int .i64 0,.int .i64 0,.slice none 0 0,.slice none 0 0,.string ⟨#[]⟩,.slice none 0 0,.slice none 0 0,.int .i64 0,.int .i64 0,.slice none 0 0,.bool false,.slice none 0 0,.slice none 0 0,.int .i64 0] 31)=W at *
 have t0:decide ((i:Int) < 0)=false:=decide_eq_false (by omega)
 have t1:decide ((xs.length:Int) < (i:Int))=false:=decide_eq_false (by omega)
 go_upto_region 3 with fail
 obtain ⟨ys,ey⟩:∃ ys,xs.drop i=ys:=⟨_,rfl⟩
 have ly:ys.length=xs.length - i:=by rw [← ey,List.length_drop]
 have SLC:=sl_low W a xs.length c i ys.length hi hc ly
 have RY:Rd W g (slA a i c) .u8 ys:=by rw [← ey];exact (hr.up N).slD hc i
 have zY:=fun h=>slA_none (i:=i) hz h
 have cY:ys.length≤c - i:=by omega
 have BY:Byt ys:=by rw [← ey];exact byt_drop hb i
 have LY:ys.length≤1048576:=by omega
 have EY:Hid (xs.drop ((i:Int)).toNat=ys):=ey
 have ZY:=hide zY
 clear ly ey hr hb hz hc zY t0 t1
 generalize slA a i c=aR at *
 generalize c - i=cR at *
 go_upto_region 4 with (refine wpList_slT _ rfl 22 (.tmp 17) (some (.tmp 18)) none rfl (.slice a xs.length c) (some (.int .i64 (i:Int))) none rfl rfl rfl _ SLC ?_)
 clear SLC
 have HP:=hide hp
 have HI:=hide hi
 clear hp
 by_cases l0:ys.length=0
 ·have u1 : decide ((1 : Int) ≤ (ys.length : Int)) = false := decide_eq_false (by omega)
  have u2:decide ((ys.length:Int) < 4)=true:=decide_eq_true (by omega)
  have eP:Hid (dmP ys=1):=by show _=_;unfold dmP;rw [if_pos l0]
  clear l0
  go_upto_region 7 with fail
  have THR:=Z.thereG
  have RR:=World.rangeAt_setCells_same W w.heap.size 0 [.int .i64 1,.int .i64 0,.int .i64 0,.slice none 0 0,.slice none 0 0,.string ⟨#[]⟩,.slice none 0 0,.slice none 0 0,.int .i64 0,.int .i64 0,.slice none 0 0,.bool false,.slice none 0 0,.slice none 0 0,.int .i64 0] THR
  have OQ:=only_setG W w.heap.size [.int .i64 1,.int .i64 0,.int .i64 0,.slice none 0 0,.slice none 0 0,.string ⟨#[]⟩,.slice none 0 0,.slice none 0 0,.int .i64 0,.int .i64 0,.slice none 0 0,.bool false,.slice none 0 0,.slice none 0 0,.int .i64 0] 0
  have RES:Hid ((∃ p,Ending.returned (.agg #[.int .i64 1,.int .i64 0,.int .i64 0,.slice none 0 0,.slice none 0 0,.string ⟨#[]⟩,.slice none 0 0,.slice none 0 0,.int .i64 0,.int .i64 0,.slice none 0 0,.bool false,.slice none 0 0,.slice none 0 0,.int .i64 0]) = .returned (.agg (rsV (dmC xs (i:Int)) p (dmR xs (i:Int)) (dmE xs (i:Int))))∧HasM (W.setCells w.heap.size 0 [.int .i64 1,.int .i64 0,.int .i64 0,.slice none 0 0,.slice none 0 0,.string ⟨#[]⟩,.slice none 0 0,.slice none 0 0,.int .i64 0,.int .i64 0,.slice none 0 0,.bool false,.slice none 0 0,.slice none 0 0,.int .i64 0]) p (dmR xs (i:Int))∧∀ b,b < w.heap.size→NoM b p (dmR xs (i:Int)))∧Below w.heap.size w (W.setCells w.heap.size 0 [.int .i64 1,.int .i64 0,.int .i64 0,.slice none 0 0,.slice none 0 0,.string ⟨#[]⟩,.slice none 0 0,.slice none 0 0,.int .i64 0,.int .i64 0,.slice none 0 0,.bool false,.slice none 0 0,.slice none 0 0,.int .i64 0])):=by
   have hC:dmC xs (i:Int)=1:=by unfold dmC;rw [if_neg (by omega),if_pos (by rw [EY.out,eP.out];decide),EY.out,eP.out]
   have hR:dmR xs (i:Int)=msg0:=by unfold dmR;rw [hC];rfl
   have hE:dmE xs (i:Int)=0:=by unfold dmE;rw [hC];rfl
   rw [hC,hR,hE]
   exact ⟨⟨mq0,rfl,hasM0 _,fun _ _=>noM0 _⟩,N.trans (OQ.below (Nat.le_refl _))⟩
  clear OQ Z N
  go_wp2_with (refine wpList_store_mid rfl 31 (.tmp 4) (.tmp 35) rfl w.heap.size 0 #[.int .i64 1,.int .i64 0,.int .i64 0,.slice none 0 0,.slice none 0 0,.string ⟨#[]⟩,.slice none 0 0,.slice none 0 0,.int .i64 0,.int .i64 0,.slice none 0 0,.bool false,.slice none 0 0,.slice none 0 0,.int .i64 0] rfl rfl THR iMR (one15 _ rfl) ?_)
  exact bodyPost_ret (v := .agg #[.int .i64 1,.int .i64 0,.int .i64 0,.slice none 0 0,.slice none 0 0,.string ⟨#[]⟩,.slice none 0 0,.slice none 0 0,.int .i64 0,.int .i64 0,.slice none 0 0,.bool false,.slice none 0 0,.slice none 0 0,.int .i64 0]) (results_cellG Tryz.results12 _ _ w.heap.size _ d15 rfl RR hd15 hrow15 iMR) rfl RES.out
 have l1:0 < ys.length:=by omega
 obtain ⟨off,rfl,hc0⟩:=RY l1
 have x0:W.cell? ⟨g,off,none⟩=some (.int .u8 (ys.getD 0 0)):=hc0 0 l1
 have b0:=BY 0
 have u1:decide ((1:Int)≤(ys.length:Int))=true:=decide_eq_true (by omega)
 have HC:=hide hc0
 clear hc0
 obtain ⟨k,ek⟩:∃ k,Hid (ys.getD 0 0=k):=⟨_,rfl⟩
 rw [ek.out] at x0 b0
 go_wp2_with fail
 refine (l13Known_any W k).mono ?_
 rintro e W1 ⟨rfl,n1⟩
 have Z1:=Z.up n1
 have N1:=nxt N n1
 have HC1:Hid (∀ j,j < ys.length→W1.cell? ⟨g,off+j,none⟩=some (.int .u8 (ys.getD j 0))):=fun j hj=>(World.cell?_of_block (a:=⟨g,off+j,none⟩) (n1.block g (block_lt_of_cell (HC.out j hj)))).trans (HC.out j hj)
 clear Z N n1 HC x0
 have Z:=Z1
 have N:=N1
 clear Z1 N1
 by_cases hk:k ∈ kinds
 rotate_left
 ·have eP : Hid (dmP ys = 2) := by show _ = _; unfold dmP; rw [if_neg l0, if_pos (by rw [ek.out]; exact hk)]
  have u3:decide (k ∈ kinds)=false:=decide_eq_false hk
  rw [u3]
  clear u3 hk
  go_upto_region 5 with fail
  have THR:=Z.thereG
  have RR:=World.rangeAt_setCells_same W1 w.heap.size 0 [.int .i64 2,.int .i64 0,.int .i64 0,.slice none 0 0,.slice none 0 0,.string ⟨#[]⟩,.slice none 0 0,.slice none 0 0,.int .i64 0,.int .i64 0,.slice none 0 0,.bool false,.slice none 0 0,.slice none 0 0,.int .i64 0] THR
  have OQ:=only_setG W1 w.heap.size [.int .i64 2,.int .i64 0,.int .i64 0,.slice none 0 0,.slice none 0 0,.string ⟨#[]⟩,.slice none 0 0,.slice none 0 0,.int .i64 0,.int .i64 0,.slice none 0 0,.bool false,.slice none 0 0,.slice none 0 0,.int .i64 0] 0
  have RES:Hid ((∃ p,Ending.returned (.agg #[.int .i64 2,.int .i64 0,.int .i64 0,.slice none 0 0,.slice none 0 0,.string ⟨#[]⟩,.slice none 0 0,.slice none 0 0,.int .i64 0,.int .i64 0,.slice none 0 0,.bool false,.slice none 0 0,.slice none 0 0,.int .i64 0]) = .returned (.agg (rsV (dmC xs (i:Int)) p (dmR xs (i:Int)) (dmE xs (i:Int))))∧HasM (W1.setCells w.heap.size 0 [.int .i64 2,.int .i64 0,.int .i64 0,.slice none 0 0,.slice none 0 0,.string ⟨#[]⟩,.slice none 0 0,.slice none 0 0,.int .i64 0,.int .i64 0,.slice none 0 0,.bool false,.slice none 0 0,.slice none 0 0,.int .i64 0]) p (dmR xs (i:Int))∧∀ b,b < w.heap.size→NoM b p (dmR xs (i:Int)))∧Below w.heap.size w (W1.setCells w.heap.size 0 [.int .i64 2,.int .i64 0,.int .i64 0,.slice none 0 0,.slice none 0 0,.string ⟨#[]⟩,.slice none 0 0,.slice none 0 0,.int .i64 0,.int .i64 0,.slice none 0 0,.bool false,.slice none 0 0,.slice none 0 0,.int .i64 0])):=by
   have hC:dmC xs (i:Int)=2:=by unfold dmC;rw [if_neg (by omega),if_pos (by rw [EY.out,eP.out];decide),EY.out,eP.out]
   have hR:dmR xs (i:Int)=msg0:=by unfold dmR;rw [hC];rfl
   have hE:dmE xs (i:Int)=0:=by unfold dmE;rw [hC];rfl
   rw [hC,hR,hE]
   exact ⟨⟨mq0,rfl,hasM0 _,fun _ _=>noM0 _⟩,N.trans (OQ.below (Nat.le_refl _))⟩
  clear OQ Z N
  go_wp2_with (refine wpList_store_mid rfl 31 (.tmp 4) (.tmp 31) rfl w.heap.size 0 #[.int .i64 2,.int .i64 0,.int .i64 0,.slice none 0 0,.slice none 0 0,.string ⟨#[]⟩,.slice none 0 0,.slice none 0 0,.int .i64 0,.int .i64 0,.slice none 0 0,.bool false,.slice none 0 0,.slice none 0 0,.int .i64 0] rfl rfl THR iMR (one15 _ rfl) ?_)
  exact bodyPost_ret (v := .agg #[.int .i64 2,.int .i64 0,.int .i64 0,.slice none 0 0,.slice none 0 0,.string ⟨#[]⟩,.slice none 0 0,.slice none 0 0,.int .i64 0,.int .i64 0,.slice none 0 0,.bool false,.slice none 0 0,.slice none 0 0,.int .i64 0]) (results_cellG Tryz.results12 _ _ w.heap.size _ d15 rfl RR hd15 hrow15 iMR) rfl RES.out
 have u3:decide (k ∈ kinds)=true:=decide_eq_true hk
 rw [u3]
 clear u3
 by_cases l4:ys.length < 4
 ·have u2 : decide ((ys.length : Int) < 4) = true := decide_eq_true (by omega)
  have eP:Hid (dmP ys=1):=by show _=_;unfold dmP;rw [if_neg l0,if_neg (by rw [ek.out];exact fun h=>h hk),if_pos l4]
  clear hk l4
  go_upto_region 7 with fail
  have THR:=Z.thereG
  have RR:=World.rangeAt_setCells_same W1 w.heap.size 0 [.int .i64 1,.int .i64 0,.int .i64 0,.slice none 0 0,.slice none 0 0,.string ⟨#[]⟩,.slice none 0 0,.slice none 0 0,.int .i64 0,.int .i64 0,.slice none 0 0,.bool false,.slice none 0 0,.slice none 0 0,.int .i64 0] THR
  have OQ:=only_setG W1 w.heap.size [.int .i64 1,.int .i64 0,.int .i64 0,.slice none 0 0,.slice none 0 0,.string ⟨#[]⟩,.slice none 0 0,.slice none 0 0,.int .i64 0,.int .i64 0,.slice none 0 0,.bool false,.slice none 0 0,.slice none 0 0,.int .i64 0] 0
  have RES:Hid ((∃ p,Ending.returned (.agg #[.int .i64 1,.int .i64 0,.int .i64 0,.slice none 0 0,.slice none 0 0,.string ⟨#[]⟩,.slice none 0 0,.slice none 0 0,.int .i64 0,.int .i64 0,.slice none 0 0,.bool false,.slice none 0 0,.slice none 0 0,.int .i64 0]) = .returned (.agg (rsV (dmC xs (i:Int)) p (dmR xs (i:Int)) (dmE xs (i:Int))))∧HasM (W1.setCells w.heap.size 0 [.int .i64 1,.int .i64 0,.int .i64 0,.slice none 0 0,.slice none 0 0,.string ⟨#[]⟩,.slice none 0 0,.slice none 0 0,.int .i64 0,.int .i64 0,.slice none 0 0,.bool false,.slice none 0 0,.slice none 0 0,.int .i64 0]) p (dmR xs (i:Int))∧∀ b,b < w.heap.size→NoM b p (dmR xs (i:Int)))∧Below w.heap.size w (W1.setCells w.heap.size 0 [.int .i64 1,.int .i64 0,.int .i64 0,.slice none 0 0,.slice none 0 0,.string ⟨#[]⟩,.slice none 0 0,.slice none 0 0,.int .i64 0,.int .i64 0,.slice none 0 0,.bool false,.slice none 0 0,.slice none 0 0,.int .i64 0])):=by
   have hC:dmC xs (i:Int)=1:=by unfold dmC;rw [if_neg (by omega),if_pos (by rw [EY.out,eP.out];decide),EY.out,eP.out]
   have hR:dmR xs (i:Int)=msg0:=by unfold dmR;rw [hC];rfl
   have hE:dmE xs (i:Int)=0:=by unfold dmE;rw [hC];rfl
   rw [hC,hR,hE]
   exact ⟨⟨mq0,rfl,hasM0 _,fun _ _=>noM0 _⟩,N.trans (OQ.below (Nat.le_refl _))⟩
  clear OQ Z N
  go_wp2_with (refine wpList_store_mid rfl 31 (.tmp 4) (.tmp 35) rfl w.heap.size 0 #[.int .i64 1,.int .i64 0,.int .i64 0,.slice none 0 0,.slice none 0 0,.string ⟨#[]⟩,.slice none 0 0,.slice none 0 0,.int .i64 0,.int .i64 0,.slice none 0 0,.bool false,.slice none 0 0,.slice none 0 0,.int .i64 0] rfl rfl THR iMR (one15 _ rfl) ?_)
  exact bodyPost_ret (v := .agg #[.int .i64 1,.int .i64 0,.int .i64 0,.slice none 0 0,.slice none 0 0,.string ⟨#[]⟩,.slice none 0 0,.slice none 0 0,.int .i64 0,.int .i64 0,.slice none 0 0,.bool false,.slice none 0 0,.slice none 0 0,.int .i64 0]) (results_cellG Tryz.results12 _ _ w.heap.size _ d15 rfl RR hd15 hrow15 iMR) rfl RES.out
 have x1:=HC1.out 1 (by omega)
 have x2:=HC1.out 2 (by omega)
 have x3:=HC1.out 3 (by omega)
 have b1:=BY 1
 have b2:=BY 2
 have b3:=BY 3
 have en:beN ys 1 3=(ys.getD 1 0*256+ys.getD 2 0)*256+ys.getD 3 0:=by
  show ((0*256+ys.getD 1 0)*256+ys.getD 2 0)*256+ys.getD 3 0=_
  omega
 obtain ⟨y1,q1⟩:∃ k,Hid (ys.getD 1 0=k):=⟨_,rfl⟩
 obtain ⟨y2,q2⟩:∃ k,Hid (ys.getD 2 0=k):=⟨_,rfl⟩
 obtain ⟨y3,q3⟩:∃ k,Hid (ys.getD 3 0=k):=⟨_,rfl⟩
 rw [q1.out] at x1 b1 en
 rw [q2.out] at x2 b2 en
 rw [q3.out] at x3 b3 en
 have i1:(1:Int) < (ys.length:Int):=by omega
 have i2:(2:Int) < (ys.length:Int):=by omega
 have i3:(3:Int) < (ys.length:Int):=by omega
 have u2:decide ((ys.length:Int) < 4)=false:=decide_eq_false (by omega)
 obtain ⟨n,hn⟩:=Int.eq_ofNat_of_zero_le (show 0≤y1*65536+y2*256+y3 by omega)
 have EN:Hid (beN ys 1 3=(n:Int)):=by show _=_;omega
 have nn:n < 16777216:=by omega
 have s1:IntKind.i64.wrap (y1*65536)=y1*65536:=by rw [IntKind.wrap_i64];omega
 have s2:IntKind.i64.wrap (y2*256)=y2*256:=by rw [IntKind.wrap_i64];omega
 have s3:IntKind.i64.wrap (y1*65536+y2*256)=y1*65536+y2*256:=by rw [IntKind.wrap_i64];omega
 have s4:IntKind.i64.wrap (y1*65536+y2*256+y3)=y1*65536+y2*256+y3:=by rw [IntKind.wrap_i64];omega
 have HN:=hide hn
 clear hn en
 go_upto_region 8 with fail
 go_quiet (fail)
 have Z1:RwC (W1.drewN nq) w.heap.size [.int .i64 0,.int .i64 0,.int .i64 0,.slice none 0 0,.slice none 0 0,.string ⟨#[]⟩,.slice none 0 0,.slice none 0 0,.int .i64 0,.int .i64 0,.slice none 0 0,.bool false,.slice none 0 0,.slice none 0 0,.int .i64 0] 31:=Z
 have N1:Below w.heap.size w (W1.drewN nq):=below_drewN N _
 have HC2:Hid (∀ j,j < ys.length→(W1.drewN nq).cell? ⟨g,off+j,none⟩=some (.int .u8 (ys.getD j 0))):=HC1.out
 clear Z N HC1 x1 x2 x3 s1 s2 s3 s4 u2
 generalize W1.drewN nq=W2 at *
 have Z:=Z1
 have N:=N1
 clear Z1 N1
 rw [HN.out]
 clear HN b1 b2 b3 q1 q2 q3 i1 i2 i3
 by_cases n8:8192 < n
 ·have u4 : decide ((8192 : Int) < (n : Int)) = true := decide_eq_true (by omega)
  have eP:Hid (dmP ys=2):=by show _=_;unfold dmP;rw [if_neg l0,if_neg (by rw [ek.out];exact fun h=>h hk),if_neg l4,if_pos (by rw [EN.out];omega)]
  clear hk n8
  go_upto_region 10 with fail
  have THR:=Z.thereG
  have RR:=World.rangeAt_setCells_same W2 w.heap.size 0 [.int .i64 2,.int .i64 0,.int .i64 0,.slice none 0 0,.slice none 0 0,.string ⟨#[]⟩,.slice none 0 0,.slice none 0 0,.int .i64 0,.int .i64 0,.slice none 0 0,.bool false,.slice none 0 0,.slice none 0 0,.int .i64 0] THR
  have OQ:=only_setG W2 w.heap.size [.int .i64 2,.int .i64 0,.int .i64 0,.slice none 0 0,.slice none 0 0,.string ⟨#[]⟩,.slice none 0 0,.slice none 0 0,.int .i64 0,.int .i64 0,.slice none 0 0,.bool false,.slice none 0 0,.slice none 0 0,.int .i64 0] 0
  have RES:Hid ((∃ p,Ending.returned (.agg #[.int .i64 2,.int .i64 0,.int .i64 0,.slice none 0 0,.slice none 0 0,.string ⟨#[]⟩,.slice none 0 0,.slice none 0 0,.int .i64 0,.int .i64 0,.slice none 0 0,.bool false,.slice none 0 0,.slice none 0 0,.int .i64 0]) = .returned (.agg (rsV (dmC xs (i:Int)) p (dmR xs (i:Int)) (dmE xs (i:Int))))∧HasM (W2.setCells w.heap.size 0 [.int .i64 2,.int .i64 0,.int .i64 0,.slice none 0 0,.slice none 0 0,.string ⟨#[]⟩,.slice none 0 0,.slice none 0 0,.int .i64 0,.int .i64 0,.slice none 0 0,.bool false,.slice none 0 0,.slice none 0 0,.int .i64 0]) p (dmR xs (i:Int))∧∀ b,b < w.heap.size→NoM b p (dmR xs (i:Int)))∧Below w.heap.size w (W2.setCells w.heap.size 0 [.int .i64 2,.int .i64 0,.int .i64 0,.slice none 0 0,.slice none 0 0,.string ⟨#[]⟩,.slice none 0 0,.slice none 0 0,.int .i64 0,.int .i64 0,.slice none 0 0,.bool false,.slice none 0 0,.slice none 0 0,.int .i64 0])):=by
   have hC:dmC xs (i:Int)=2:=by unfold dmC;rw [if_neg (by omega),if_pos (by rw [EY.out,eP.out];decide),EY.out,eP.out]
   have hR:dmR xs (i:Int)=msg0:=by unfold dmR;rw [hC];rfl
   have hE:dmE xs (i:Int)=0:=by unfold dmE;rw [hC];rfl
   rw [hC,hR,hE]
   exact ⟨⟨mq0,rfl,hasM0 _,fun _ _=>noM0 _⟩,N.trans (OQ.below (Nat.le_refl _))⟩
  clear OQ Z N
  go_wp2_with (refine wpList_store_mid rfl 31 (.tmp 4) (.tmp 54) rfl w.heap.size 0 #[.int .i64 2,.int .i64 0,.int .i64 0,.slice none 0 0,.slice none 0 0,.string ⟨#[]⟩,.slice none 0 0,.slice none 0 0,.int .i64 0,.int .i64 0,.slice none 0 0,.bool false,.slice none 0 0,.slice none 0 0,.int .i64 0] rfl rfl THR iMR (one15 _ rfl) ?_)
  exact bodyPost_ret (v := .agg #[.int .i64 2,.int .i64 0,.int .i64 0,.slice none 0 0,.slice none 0 0,.string ⟨#[]⟩,.slice none 0 0,.slice none 0 0,.int .i64 0,.int .i64 0,.slice none 0 0,.bool false,.slice none 0 0,.slice none 0 0,.int .i64 0]) (results_cellG Tryz.results12 _ _ w.heap.size _ d15 rfl RR hd15 hrow15 iMR) rfl RES.out
 have u4:decide ((8192:Int) < (n:Int))=false:=decide_eq_false (by omega)
 have s5:IntKind.i64.wrap (4+(n:Int))=4+(n:Int):=by rw [IntKind.wrap_i64];omega
 by_cases lf:ys.length < 4+n
 ·have u5 : decide ((ys.length : Int) < 4 + (n : Int)) = true := decide_eq_true (by omega)
  have eP:Hid (dmP ys=1):=by show _=_;unfold dmP;rw [if_neg l0,if_neg (by rw [ek.out];exact fun h=>h hk),if_neg l4,if_neg (by rw [EN.out];omega),if_pos (by rw [EN.out];omega)]
  clear hk lf
  go_upto_region 12 with fail
  have THR:=Z.thereG
  have RR:=World.rangeAt_setCells_same W2 w.heap.size 0 [.int .i64 1,.int .i64 0,.int .i64 0,.slice none 0 0,.slice none 0 0,.string ⟨#[]⟩,.slice none 0 0,.slice none 0 0,.int .i64 0,.int .i64 0,.slice none 0 0,.bool false,.slice none 0 0,.slice none 0 0,.int .i64 0] THR
  have OQ:=only_setG W2 w.heap.size [.int .i64 1,.int .i64 0,.int .i64 0,.slice none 0 0,.slice none 0 0,.string ⟨#[]⟩,.slice none 0 0,.slice none 0 0,.int .i64 0,.int .i64 0,.slice none 0 0,.bool false,.slice none 0 0,.slice none 0 0,.int .i64 0] 0
  have RES:Hid ((∃ p,Ending.returned (.agg #[.int .i64 1,.int .i64 0,.int .i64 0,.slice none 0 0,.slice none 0 0,.string ⟨#[]⟩,.slice none 0 0,.slice none 0 0,.int .i64 0,.int .i64 0,.slice none 0 0,.bool false,.slice none 0 0,.slice none 0 0,.int .i64 0]) = .returned (.agg (rsV (dmC xs (i:Int)) p (dmR xs (i:Int)) (dmE xs (i:Int))))∧HasM (W2.setCells w.heap.size 0 [.int .i64 1,.int .i64 0,.int .i64 0,.slice none 0 0,.slice none 0 0,.string ⟨#[]⟩,.slice none 0 0,.slice none 0 0,.int .i64 0,.int .i64 0,.slice none 0 0,.bool false,.slice none 0 0,.slice none 0 0,.int .i64 0]) p (dmR xs (i:Int))∧∀ b,b < w.heap.size→NoM b p (dmR xs (i:Int)))∧Below w.heap.size w (W2.setCells w.heap.size 0 [.int .i64 1,.int .i64 0,.int .i64 0,.slice none 0 0,.slice none 0 0,.string ⟨#[]⟩,.slice none 0 0,.slice none 0 0,.int .i64 0,.int .i64 0,.slice none 0 0,.bool false,.slice none 0 0,.slice none 0 0,.int .i64 0])):=by
   have hC:dmC xs (i:Int)=1:=by unfold dmC;rw [if_neg (by omega),if_pos (by rw [EY.out,eP.out];decide),EY.out,eP.out]
   have hR:dmR xs (i:Int)=msg0:=by unfold dmR;rw [hC];rfl
   have hE:dmE xs (i:Int)=0:=by unfold dmE;rw [hC];rfl
   rw [hC,hR,hE]
   exact ⟨⟨mq0,rfl,hasM0 _,fun _ _=>noM0 _⟩,N.trans (OQ.below (Nat.le_refl _))⟩
  clear OQ Z N
  go_wp2_with (refine wpList_store_mid rfl 31 (.tmp 4) (.tmp 60) rfl w.heap.size 0 #[.int .i64 1,.int .i64 0,.int .i64 0,.slice none 0 0,.slice none 0 0,.string ⟨#[]⟩,.slice none 0 0,.slice none 0 0,.int .i64 0,.int .i64 0,.slice none 0 0,.bool false,.slice none 0 0,.slice none 0 0,.int .i64 0] rfl rfl THR iMR (one15 _ rfl) ?_)
  exact bodyPost_ret (v := .agg #[.int .i64 1,.int .i64 0,.int .i64 0,.slice none 0 0,.slice none 0 0,.string ⟨#[]⟩,.slice none 0 0,.slice none 0 0,.int .i64 0,.int .i64 0,.slice none 0 0,.bool false,.slice none 0 0,.slice none 0 0,.int .i64 0]) (results_cellG Tryz.results12 _ _ w.heap.size _ d15 rfl RR hd15 hrow15 iMR) rfl RES.out
 exfalso
 refine HP.out ?_
 have e:=EY.out
 rw [show ((i:Int)).toNat=i from rfl] at e
 rw [e]
 unfold dmP
 rw [if_neg l0,if_neg (by rw [ek.out];exact fun h=>h hk),if_neg l4,if_neg (by rw [EN.out];omega),if_neg (by rw [EN.out];omega)]
end Go.Proofs.YtmmbkkfjiaoeiaaGreat
namespace Go.Proofs.YtmmbkkfjiaoeiaaGreat
open Go Go.RowKit
theorem rwCatch_pan (p:Nat) (u:TypeId) (pv x:Value) (w:World) (h:RwC w p [x] 4) :
  CallsD Tryz.prog 65 #[.pointer (some ⟨p,0,none⟩)] (.panicking [{ v := .iface u pv,recovered:=false }]) w fun e u' w' =>
   e = .returned (.tuple #[])∧u' = .panicking [{ v := .iface u pv,recovered:=true }]∧Only p w w'∧RwC w' p [.bool false] 4:=by
 have c0:=h.cell 0
 have f0:=h.free 0
 have K:Hid (RwC (w.setCell ⟨p,0,none⟩ (.bool false)) p [.bool false] 4):=h.set 0 _
 have O:=hide (Only.setCell w p 0 (.bool false))
 clear h
 refine callsD_of_wpS Tryz.func65 rfl fun c₀ cs hu=>?_
 apply wpS_seq
 apply wpS_region
 simp [wpOpsS,go_sem,recoverD,hu,Tryz.ntmps65,Exit.thenS]
 refine wpS_cond (t:=true) (by simp [Act.eval,Array.replicate]) ?_
 simp only [if_true]
 refine wpS_of_wp ?_
 go_wp2
 exact ⟨rfl,_,rfl,.tuple #[],by simp [results,Tryz.results65,go_sem],rfl,rfl,O.out,K.out⟩
theorem rwCatch_idle (p:Addr) (w:World) :
  CallsD Tryz.prog 65 #[.pointer (some p)] .returning w fun e u' w'=>e = .returned (.tuple #[])∧u' = .returning∧w'=w:=by
 refine callsD_of_wpS Tryz.func65 rfl fun c₀ cs hu=>?_
 apply wpS_seq
 apply wpS_region
 simp [wpOpsS,go_sem,recoverD,hu,Tryz.ntmps65,Exit.thenS]
 refine wpS_cond (t:=false) (by simp [Act.eval,Array.replicate]) ?_
 simp only [Bool.false_eq_true,if_false]
 refine wpS_of_wp (wp_skip ?_)
 cases c₀
 simp_all [bodyPostS,results,Tryz.results65]
theorem Tch.newO {S:List Nat} {w w2 w4:World} (h:Tch S w w2) (O:Only w.heap.size w2 w4):Tch S w w4 :=
 ⟨O.os.trans h.os,O.tape.trans h.tape,O.output.trans h.output,by rw [O.size];exact h.size,fun b hb hn=>(O.block b (by omega)).trans (h.block b hb hn)⟩
def rwB (fits:Prop) [Decidable fits] (f:Int) (bod xs:List Int):Bool:=decide (fits∧f=0∧bod=xs)
set_option maxRecDepth 100000 in
set_option maxHeartbeats 2000000 in
theorem readWhole_core (w:World) (q g:Nat) (a:Option Addr) (c:Nat) (xs bod:List Int) (f:Int) (fits:Prop) [Decidable fits] (T S:TypeId) (init:List Value) (fr ff fb:Nat) (R:World→Prop)
  (hq:RwC w q init S) (hr:Rd w g a .u8 xs) (hb:Byt xs) (hbb:Byt bod) (hgq:0 < xs.length→g≠q)
  (mr : ∀ (x : Nat) (W : World), (method 257 T (.pointer (some ⟨x, 0, none⟩)) "loop.example/g00004/impl.read").run Tryz.prog W = .ok (fr, .pointer (some ⟨x, 0, none⟩)) W)
  (mf : ∀ (x : Nat) (W : World), (method 257 T (.pointer (some ⟨x, 0, none⟩)) "loop.example/g00004/impl.fault").run Tryz.prog W = .ok (ff, .pointer (some ⟨x, 0, none⟩)) W)
  (mb : ∀ (x : Nat) (W : World), (method 257 T (.pointer (some ⟨x, 0, none⟩)) "loop.example/g00004/impl.body").run Tryz.prog W = .ok (fb, .pointer (some ⟨x, 0, none⟩)) W)
  (cr:∀ vs W,(callFunc fr vs).run Tryz.prog W = .ok (.enter fr vs) W) (cf:∀ vs W,(callFunc ff vs).run Tryz.prog W = .ok (.enter ff vs) W) (cb:∀ vs W,(callFunc fb vs).run Tryz.prog W = .ok (.enter fb vs) W)
  (RD:∀ W p,RwC W q init S→Cur W p (.slice a xs.length c) ((0:Nat):Int)→q≠p→p < W.heap.size→Rd W g a .u8 xs→(0 < xs.length→g≠p)→w.heap.size < p→Calls Tryz.prog fr #[.pointer (some ⟨q,0,none⟩),.pointer (some ⟨p,0,none⟩)] W fun e W'=>((fits∧e = .returned (.tuple #[])∧R W')∨(¬ fits∧Pan e))∧Kq p q W W')
  (FT:∀ W,R W→Calls Tryz.prog ff #[.pointer (some ⟨q,0,none⟩)] W fun e W'=>e = .returned (.int .i64 f)∧Below W.heap.size W W')
  (BD:∀ W,R W→f=0→Calls Tryz.prog fb #[.pointer (some ⟨q,0,none⟩)] W (BodP W bod))
  (Rup:∀ W W',R W→Below W.heap.size W W'→R W') (Ron:∀ W W',R W→Only w.heap.size W W'→R W') :
  Calls Tryz.prog 49 #[.iface T (.pointer (some ⟨q,0,none⟩)),.slice a xs.length c] w fun e w'=>e = .returned (.bool (rwB fits f bod xs))∧(rwB fits f bod xs=true→R w')∧Tch [q] w w':=by
 have hmf:∀ (fn:Fn) (first cap:Array Value) (w:World),(Instr.makeFunc fn first cap).run Tryz.prog w = .ok (.func fn first cap) w:=fun _ _ _ _=>rfl
 have hql:=hq.lt
 have n0:Below w.heap.size w (w.alloc (.cells #[.bool false] 4)):=(Below.refl _ _).alloc (Nat.le_refl _) _
 have T0:=RwC.new w [.bool false] 4
 have z0:(w.alloc (.cells #[.bool false] 4)).heap.size=w.heap.size+1:=by simp
 have n1:Below w.heap.size w ((w.alloc (.cells #[.bool false] 4)).alloc (.cells #[.slice a xs.length c,.int .i64 0] 116)):=n0.alloc (by simp) _
 have T1:RwC ((w.alloc (.cells #[.bool false] 4)).alloc (.cells #[.slice a xs.length c,.int .i64 0] 116)) w.heap.size [.bool false] 4:=T0.up ((Below.refl _ _).alloc (Nat.le_refl _) _)
 have C1:Cur ((w.alloc (.cells #[.bool false] 4)).alloc (.cells #[.slice a xs.length c,.int .i64 0] 116)) (w.heap.size+1) (.slice a xs.length c) ((0:Nat):Int):=by
  have:=RwC.new (w.alloc (.cells #[.bool false] 4)) [.slice a xs.length c,.int .i64 0] 116
  rw [z0] at this
  exact ⟨_,this⟩
 have Q1:=hq.up n1
 have R1:=hr.up n1
 have l1:w.heap.size+1 < ((w.alloc (.cells #[.bool false] 4)).alloc (.cells #[.slice a xs.length c,.int .i64 0] 116)).heap.size:=by simp
 clear z0 n0 T0
 have HRD:=hide RD
 have HFT:=hide FT
 have HBD:=hide BD
 have HUP:=hide Rup
 have HON:=hide Ron
 have HB:=hide hb
 have HBB:=hide hbb
 have GLT:=hide (fun h=>hr.lt h)
 clear RD FT BD Rup Ron hb hbb hq hr
 obtain ⟨OUT,hO⟩:∃ b,Hid (rwB fits f bod xs=b):=⟨_,rfl⟩
 rw [hO.out]
 go_enter_defers Tryz.func49,Tryz.ntmps49
 go_wp2_with fail
 generalize (w.alloc (.cells #[.bool false] 4)).alloc (.cells #[.slice a xs.length c,.int .i64 0] 116)=W1 at *
 refine (HRD.out W1 (w.heap.size+1) Q1 C1 (by omega) l1 R1 (fun h=>by have:=GLT.out h;omega) (by omega)).mono ?_
 rintro e w2 ⟨h,K2⟩
 have T2:=T1.tch K2 (by simp;omega)
 have N2:Tch [q] w w2:=⟨K2.os.trans n1.os,K2.tape.trans n1.tape,K2.output.trans n1.output,Nat.le_trans n1.size K2.size,fun b hb hn=>(K2.block b (Nat.lt_of_lt_of_le hb n1.size) (by simp at hn ⊢;omega)).trans (n1.block b hb)⟩
 have R2:Rd w2 g a .u8 xs:=R1.of_block' (fun h=>K2.block g (R1.lt h) (by have:=hgq h;have:=GLT.out h;simp;omega))
 have sz:=K2.size
 clear T1 C1 Q1 R1 K2 n1
 rcases h with ⟨hf,rfl,RR⟩ | ⟨hf,t,v,rfl⟩
 rotate_left
 ·obtain rfl : OUT = false := by rw [← hO.out]; simp [rwB, hf]
  have NN:=hide N2
  have TT:=hide T2
  clear N2 T2 hf
  go_wp2
  refine leaves_cons (f:=65) (args := #[.pointer (some ⟨w.heap.size,0,none⟩)]) (by simp) (by simp [go_sem]) ?_
  refine (rwCatch_pan w.heap.size t v _ w2 TT.out).mono ?_
  rintro e u' w4 ⟨rfl,rfl,O4,T4⟩
  have c4:=T4.cell 0
  simp [Leaves,settle,results,Tryz.results49,go_sem,c4]
  exact NN.out.newO O4
 have HF:=hide hf
 have HR:=hide RR
 have NN:=hide N2
 have TT:=hide T2
 have H2:=hide R2
 clear N2 T2 hf RR R2
 go_wp2_with fail
 refine (HFT.out w2 HR.out).mono ?_
 rintro e w3 ⟨rfl,n3⟩
 have HR3:=hide (HUP.out w2 w3 HR.out n3)
 have NN3:Hid (Tch [q] w w3):=(NN.out.trans (Tch.of_below (S:=[]) n3)).mono (by simp)
 have TT3:=hide (TT.out.up n3)
 have H3:=hide (H2.out.up n3)
 have s3:=n3.size
 clear HR NN TT H2 n3
 have c0:w3.cell? ⟨w.heap.size,0,none⟩=some (.bool false):=TT3.out.cell 0
 by_cases f0:f=0
 ·have BDY := hide (HBD.out w3 HR3.out f0)
  have hOe:Hid (decide (bod=xs)=OUT):=by show _=_;rw [← hO.out];simp [rwB,HF.out,f0]
  subst f0
  clear c0
  go_wp2_with fail
  refine BDY.out.mono ?_
  rintro e w4 ⟨⟨x,rfl,RX⟩,n4⟩
  obtain ⟨a4,c4,g4,rfl,X4,-,-,-⟩:=RX.rd
  have HR4:=hide (HUP.out w3 w4 HR3.out n4)
  have NN4:Hid (Tch [q] w w4):=(NN3.out.trans (Tch.of_below (S:=[]) n4)).mono (by simp)
  have TT4:=hide (TT3.out.up n4)
  have H4:=hide (H3.out.up n4)
  have BE:=hide (bytesEqual_any w4 g4 g a4 a c4 c bod xs X4 H4.out HBB.out HB.out)
  rw [hOe.out] at BE
  clear HR3 NN3 TT3 H3 n4 X4 RX BDY
  go_wp2_with fail
  refine BE.out.mono ?_
  rintro e w5 ⟨rfl,h5⟩
  have h5:=h5.symm
  subst h5
  have c0:w4.cell? ⟨w.heap.size,0,none⟩=some (.bool false):=TT4.out.cell 0
  have f0:=TT4.out.free 0
  have O:=Only.setCell w4 w.heap.size 0 (.bool OUT)
  have HR5:=hide (HON.out w4 _ HR4.out O)
  have NN5:=hide (NN4.out.newO O)
  have T5:RwC (w4.setCell ⟨w.heap.size,0,none⟩ (.bool OUT)) w.heap.size [.bool OUT] 4:=TT4.out.set 0 _
  have c5:=T5.cell 0
  clear O TT4 NN4 HR4 BE T5
  go_wp2
  generalize w4.setCell ⟨w.heap.size,0,none⟩ (.bool OUT)=w5 at *
  refine leaves_cons (f:=65) (args := #[.pointer (some ⟨w.heap.size,0,none⟩)]) (by simp) (by simp [go_sem]) ?_
  refine (rwCatch_idle _ _).mono ?_
  rintro e u' w6 ⟨rfl,rfl,h6⟩
  have h6:=h6.symm
  subst h6
  simp [Leaves,settle,results,Tryz.results49,go_sem,c5]
  exact ⟨fun _=>HR5.out,NN5.out⟩
 ·obtain rfl : OUT = false := by rw [← hO.out]; simp [rwB, f0]
  have fz:(f == 0)=false:=by simp [f0]
  have f0':=TT3.out.free 0
  have O:=Only.setCell w3 w.heap.size 0 (.bool false)
  have NN5:=hide (NN3.out.newO O)
  have T5:RwC (w3.setCell ⟨w.heap.size,0,none⟩ (.bool false)) w.heap.size [.bool false] 4:=TT3.out.set 0 _
  have c5:=T5.cell 0
  clear O TT3 NN3 HR3 T5
  go_wp2
  generalize w3.setCell ⟨w.heap.size,0,none⟩ (.bool false)=w5 at *
  refine leaves_cons (f:=65) (args := #[.pointer (some ⟨w.heap.size,0,none⟩)]) (by simp) (by simp [go_sem]) ?_
  refine (rwCatch_idle _ _).mono ?_
  rintro e u' w6 ⟨rfl,rfl,h6⟩
  have h6:=h6.symm
  subst h6
  simp [Leaves,settle,results,Tryz.results49,go_sem,c5]
  exact NN5.out
end Go.Proofs.YtmmbkkfjiaoeiaaGreat
namespace Go.Proofs.YtmmbkkfjiaoeiaaGreat
open Go Go.RowKit
end Go.Proofs.YtmmbkkfjiaoeiaaGreat
namespace Go.Proofs.YtmmbkkfjiaoeiaaGreat
open Go Go.RowKit
structure Ch (lo hi:Nat) (w w':World):Prop where
 os:w'.os=w.os
 tape:w'.tape=w.tape
 output:w'.output=w.output
 size:w.heap.size≤w'.heap.size
 block:∀ b,b < w.heap.size→b < lo∨hi≤b→w'.heap[b]?=w.heap[b]?
theorem Ch.refl (lo hi:Nat) (w:World):Ch lo hi w w:=⟨rfl,rfl,rfl,Nat.le_refl _,fun _ _ _=>rfl⟩
theorem Ch.trans {lo hi:Nat} {a b c:World} (h:Ch lo hi a b) (k:Ch lo hi b c):Ch lo hi a c :=
 ⟨k.os.trans h.os,k.tape.trans h.tape,k.output.trans h.output,Nat.le_trans h.size k.size,fun i hl hi=>(k.block i (Nat.lt_of_lt_of_le hl h.size) hi).trans (h.block i hl hi)⟩
theorem Ch.mono {lo hi lo' hi':Nat} {a b:World} (h:Ch lo hi a b) (hl:lo'≤lo) (hh:hi≤hi'):Ch lo' hi' a b:=⟨h.os,h.tape,h.output,h.size,fun i hb hi=>h.block i hb (by omega)⟩
theorem Ch.of_below {lo hi:Nat} {a b:World} (h:Below a.heap.size a b):Ch lo hi a b:=⟨h.os,h.tape,h.output,h.size,fun i hb _=>h.block i hb⟩
theorem Ch.of_only {g lo hi:Nat} {a b:World} (h:Only g a b) (h1:lo≤g) (h2:g < hi):Ch lo hi a b:=⟨h.os,h.tape,h.output,Nat.le_of_eq h.size.symm,fun i _ hi=>h.block i (by omega)⟩
theorem Ch.below {lo hi:Nat} {a b:World} (h:Ch lo hi a b) (hl:lo≤a.heap.size):Below lo a b:=⟨h.os,h.tape,h.output,h.size,fun i hi=>h.block i (by omega) (.inl hi)⟩
structure RowO (w:World) (g:Nat) (ce:List (List Int)) (k:Nat) (Gs:List Nat):Prop where
 c:∀ i,i < k→w.cell? ⟨g,i,none⟩=some (.slice (some ⟨Gs.getD i 0,0,none⟩) (ce.getD i []).length (ce.getD i []).length)
 b:∀ i,i < k→Blk w (Gs.getD i 0) .u8 (ce.getD i [])
 l:∀ i,i < k→g < Gs.getD i 0
 m:∀ i j,i < j→j < k→Gs.getD i 0 < Gs.getD j 0
theorem RowO.up {w w':World} {g:Nat} {ce:List (List Int)} {k:Nat} {Gs:List Nat} (h:RowO w g ce k Gs) (n:Below w.heap.size w w'):RowO w' g ce k Gs :=
 ⟨fun i hi=>(n.cell (block_lt_of_cell (h.c i hi))).trans (h.c i hi),fun i hi=>(h.b i hi).up n,h.l,h.m⟩
theorem RowO.onl {w w':World} {g q:Nat} {ce:List (List Int)} {k:Nat} {Gs:List Nat} (h:RowO w g ce k Gs) (O:Only q w w') (hq:q < g):RowO w' g ce k Gs :=
 ⟨fun i hi=>(World.cell?_of_block (a:=⟨g,i,none⟩) (O.block g (by omega))).trans (h.c i hi),fun i hi=>(h.b i hi).of_block (O.block _ (by have:=h.l i hi;omega)),h.l,h.m⟩
def psO (ce:List (List Int)) (Gs:List Nat):List Plb:=(List.range ce.length).map fun j=>⟨some ⟨Gs.getD j 0,0,none⟩,(ce.getD j []).length,Gs.getD j 0⟩
theorem psO_get {ce:List (List Int)} {Gs:List Nat} {i:Nat} (hi:i < ce.length):(psO ce Gs).getD i plb0=⟨some ⟨Gs.getD i 0,0,none⟩,(ce.getD i []).length,Gs.getD i 0⟩:=by
 unfold psO
 rw [List.getD_eq_getElem?_getD]
 simp [hi]
theorem RowO.rd {w:World} {g:Nat} {ce:List (List Int)} {Gs:List Nat} (h:RowO w g ce ce.length Gs):RdL w g (some ⟨g,0,none⟩) ce (psO ce Gs):=by
 refine ⟨fun _=>⟨0,rfl,fun i hi=>?_⟩,fun i hi=>?_⟩
 ·rw [Nat.zero_add, psO_get hi]
  exact h.c i hi
 ·rw [psO_get hi]
  exact (h.b i hi).own0.rd
def RowP (wr:World) (g:Nat) (ce:List (List Int)) (k:Nat) (vs:List Value) (Gs:List Nat):Prop:=vs.length=ce.length∧RwC wr g vs 52∧Gs.length=k∧RowO wr g ce k Gs
theorem RowP.step {g k:Nat} {wr w1:World} {ce:List (List Int)} {vs:List Value} {Gs:List Nat} (h:RowP wr g ce k vs Gs) (hk:k < ce.length) (n:Below wr.heap.size wr w1) {G:Nat} (hG:wr.heap.size≤G) (b:Blk w1 G .u8 (ce.getD k [])) :
  RowP (w1.setCell ⟨g,k,none⟩ (.slice (some ⟨G,0,none⟩) (ce.getD k []).length (ce.getD k []).length)) g ce (k+1) (vs.set k (.slice (some ⟨G,0,none⟩) (ce.getD k []).length (ce.getD k []).length)) (Gs ++ [G]):=by
 obtain ⟨h1,h2,h3,h4⟩:=h
 have O:=Only.setCell w1 g k (.slice (some ⟨G,0,none⟩) (ce.getD k []).length (ce.getD k []).length)
 have R2:=(h2.up n).set k (.slice (some ⟨G,0,none⟩) (ce.getD k []).length (ce.getD k []).length)
 have lg:=h2.lt
 have e1:∀ i,i < k→(Gs ++ [G]).getD i 0=Gs.getD i 0:=fun i hi=>by
  rw [List.getD_eq_getElem?_getD,List.getElem?_append_left (by omega),← List.getD_eq_getElem?_getD]
 have e2:(Gs ++ [G]).getD k 0=G:=by
  rw [List.getD_eq_getElem?_getD,List.getElem?_append_right (by omega),h3]
  simp
 refine ⟨by simpa using h1,R2,by simp [h3],⟨fun i hi=>?_,fun i hi=>?_,fun i hi=>?_,fun i j hij hj=>?_⟩⟩
 ·rw [R2.cell i]
  by_cases e:i=k
  ·subst e
   rw [e2]
   simp [h1,hk]
  ·rw [e1 i (by omega), List.getElem?_set_ne (by omega)]
   have:=h4.c i (by omega)
   rwa [h2.cell i] at this
 ·by_cases e : i = k
  ·subst e
   rw [e2]
   exact b.of_block (O.block G (by omega))
  ·rw [e1 i (by omega)]
   have:=h4.l i (by omega)
   exact ((h4.b i (by omega)).up n).of_block (O.block _ (by omega))
 ·by_cases e : i = k
  ·subst e
   rw [e2]
   omega
  ·rw [e1 i (by omega)]
   exact h4.l i (by omega)
 ·rw [e1 i (by omega)]
  by_cases e:j=k
  ·subst e
   rw [e2]
   have:=(h4.b i hij).lt
   omega
  ·rw [e1 j (by omega)]
   exact h4.m i j hij (by omega)
end Go.Proofs.YtmmbkkfjiaoeiaaGreat
namespace Go.Proofs.YtmmbkkfjiaoeiaaGreat
open Go Go.RowKit
end Go.Proofs.YtmmbkkfjiaoeiaaGreat
namespace Go.Proofs.YtmmbkkfjiaoeiaaGreat
open Go Go.RowKit
def psB (its:List (List Int)) (n:Int):Nat→Int
 | 0=>n
 | k+1=>psB its n k+((its.getD k []).length:Int)
structure Bsy (S:Nat→Prop) (w w':World):Prop where
 os:w'.os=w.os
 tape:w'.tape=w.tape
 output:w'.output=w.output
 size:w'.heap.size=w.heap.size
 block:∀ k,¬ S k→w'.heap[k]?=w.heap[k]?
theorem Bsy.refl (S:Nat→Prop) (w:World):Bsy S w w:=⟨rfl,rfl,rfl,rfl,fun _ _=>rfl⟩
theorem own_anyB {w w':World} {g:Nat} {a:Option Addr} {xs:List Int} (h:Own w g a .u8 xs) (hb:0 < xs.length→w'.heap[g]?=w.heap[g]?):Own w' g a .u8 xs:=fun h0=>h.of_block (hb h0) h0
def MkdB (w:World) (v:Value) (its:List (List Int)) (bs:List Plc) (n:Int):Prop:=∀ g c,v = .slice (some ⟨g,0,none⟩) its.length c→∀ i,i < its.length→w.cell? ⟨g,i,none⟩=some (.slice (bs.getD i plc0).a (its.getD i []).length (bs.getD i plc0).c)∧Own w (bs.getD i plc0).q (bs.getD i plc0).a .u8 (marks (psB its n i) (its.getD i []).length)
theorem MkdB.up {w w':World} {v:Value} {its:List (List Int)} {bs:List Plc} {n:Int} (h:MkdB w v its bs n) (N:Below w.heap.size w w'):MkdB w' v its bs n:=fun g c e i hi=>by
 have P:=h g c e i hi
 have hg:g < w.heap.size:=block_lt_of_cell P.1
 exact ⟨(World.cell?_of_block (a:=⟨g,i,none⟩) (N.block g hg)).trans P.1,own_anyB P.2 (fun h0=>N.block _ (P.2.rd.lt h0))⟩
end Go.Proofs.YtmmbkkfjiaoeiaaGreat
namespace Go.Proofs.YtmmbkkfjiaoeiaaGreat
open Go Go.RowKit
structure AnsM (W:World) (F:Nat→Nat) (p:MQ) (m:Msg) (bs:List Plc):Prop where
 r:Own W p.g2 p.a2 .u8 m.r
 s:Own W p.g3 p.a3 .u8 m.s
 pr:RowT W (F 2) (.slice p.a5 m.pr.length p.c5) m.pr
 ti:Own W p.g6 p.a6 .u8 m.ti
 bi:Own W p.g9 p.a9 .u8 m.bi
 ce:BRow W (F 5) (.slice p.a11 m.ce.length p.c11) m.ce bs
 pf:Own W p.g12 p.a12 .u8 m.pf
 b2:0 < m.r.length→F 0≤p.g2∧p.g2 < F 1
 b3:0 < m.s.length→F 1≤p.g3∧p.g3 < F 2
 b5:0 < m.pr.length→p.a5=some ⟨p.g5,0,none⟩∧p.g5 < F 3
 b6:0 < m.ti.length→F 3≤p.g6∧p.g6 < F 4
 b9:0 < m.bi.length→F 4≤p.g9∧p.g9 < F 5
 b11:0 < m.ce.length→p.a11=some ⟨p.g11,0,none⟩∧p.g11 < F 6
 bl:∀ i,i < m.ce.length→0 < (m.ce.getD i []).length→(bs.getD i plc0).q < F 6
 b12:0 < m.pf.length→F 6≤p.g12∧p.g12 < F 7
 mono:F 0≤F 1∧F 1≤F 2∧F 2≤F 3∧F 3≤F 4∧F 4≤F 5∧F 5≤F 6∧F 6≤F 7
 z:HasZ p m
 prC:m.pr.length≤p.c5
 ps:p.ps=plbs bs
theorem own_ch {W W':World} {g:Nat} {a:Option Addr} {xs:List Int} (h:Own W g a .u8 xs) (hb:0 < xs.length→W'.heap[g]?=W.heap[g]?):Own W' g a .u8 xs:=fun h0=>h.of_block (hb h0) h0
theorem rowT_ch {W W':World} {B:Nat} {v:Value} {ls:List (List UInt8)} (h:RowT W B v ls) (hb:∀ k,v.ownBlock=some k→W'.heap[k]?=W.heap[k]?):RowT W' B v ls:=by
 refine ⟨h.1,?_⟩
 rcases h.2 with h' | ⟨g,cap,cur,rfl,hbg,hg,hnc,hcm,hcs,ht⟩
 ·exact .inl h'
 ·exact .inr ⟨g,cap,cur,rfl,hbg,by rw [hb g rfl];exact hg,hnc,hcm,hcs,ht⟩
theorem AnsM.of {W W':World} {F:Nat→Nat} {p:MQ} {m:Msg} {bs:List Plc} (h:AnsM W F p m bs) (hb:∀ k,k < W.heap.size→F 0≤k→W'.heap[k]?=W.heap[k]?):AnsM W' F p m bs:=by
 have mo:=h.mono
 refine ⟨own_ch h.r fun h0=>hb _ (h.r.rd.lt h0) (h.b2 h0).1,own_ch h.s fun h0=>hb _ (h.s.rd.lt h0) (by have:=(h.b3 h0).1;omega),rowT_ch h.pr fun k hk=>hb k (World.ownsRow.lt h.pr k hk).2 (by have:=(World.ownsRow.lt h.pr k hk).1;omega),own_ch h.ti fun h0=>hb _ (h.ti.rd.lt h0) (by have:=(h.b6 h0).1;omega),own_ch h.bi fun h0=>hb _ (h.bi.rd.lt h0) (by have:=(h.b9 h0).1;omega),h.ce.of fun k hk hB=>hb k hk (by omega),own_ch h.pf fun h0=>hb _ (h.pf.rd.lt h0) (by have:=(h.b12 h0).1;omega),h.b2,h.b3,h.b5,h.b6,h.b9,h.b11,h.bl,h.b12,h.mono,h.z,h.prC,h.ps⟩
theorem AnsM.up {W W':World} {F:Nat→Nat} {p:MQ} {m:Msg} {bs:List Plc} (h:AnsM W F p m bs) (n:Below W.heap.size W W'):AnsM W' F p m bs:=h.of fun k hk _=>n.block k hk
theorem AnsM.onl {W W':World} {F:Nat→Nat} {p:MQ} {m:Msg} {bs:List Plc} {q:Nat} (h:AnsM W F p m bs) (O:Only q W W') (hq:q < F 0):AnsM W' F p m bs:=h.of fun k _ hk=>O.block k (by omega)
theorem AnsM.has {W:World} {F:Nat→Nat} {p:MQ} {m:Msg} {bs:List Plc} (h:AnsM W F p m bs):HasM W p m:=by
 refine ⟨h.r.rd,h.s.rd,fun h0=>?_,h.ti.rd,h.bi.rd,⟨fun h0=>?_,fun i hi=>?_⟩,h.pf.rd,h.prC⟩
 ·obtain ⟨e, -⟩ := h.b5 h0
  obtain ⟨g,c,e',-,-,hc,-⟩:=h.pr.cells h0
  have eg:p.g5=g:=by rw [e] at e';cases e';rfl
  exact ⟨0,e,fun i hi=>by rw [Nat.zero_add,eg];exact hc i hi⟩
 ·obtain ⟨e, -⟩ := h.b11 h0
  obtain ⟨g,c,e',-,-,-,hc⟩:=h.ce.cells h0
  have eg:p.g11=g:=by rw [e] at e';cases e';rfl
  exact ⟨0,e,fun i hi=>by rw [Nat.zero_add,eg,h.ps,plbs_get (by rw [h.ce.l];exact hi)];exact hc i hi⟩
 ·rw [h.ps, plbs_get (by rw [h.ce.l]; exact hi)]
  exact (h.ce.b i hi).o.rd
theorem AnsM.zero (W:World) (B:Nat):AnsM W (fun _=>B) mq0 msg0 [] :=
 ⟨(fun h=>absurd h (by simp [msg0])),(fun h=>absurd h (by simp [msg0])),⟨rfl,.inl ⟨rfl,rfl⟩⟩,(fun h=>absurd h (by simp [msg0])),(fun h=>absurd h (by simp [msg0])),BRow.nil _ _,(fun h=>absurd h (by simp [msg0])),(fun h=>absurd h (by simp [msg0])),(fun h=>absurd h (by simp [msg0])),(fun h=>absurd h (by simp [msg0])),(fun h=>absurd h (by simp [msg0])),(fun h=>absurd h (by simp [msg0])),(fun h=>absurd h (by simp [msg0])),(fun i h=>absurd h (by simp [msg0])),(fun h=>absurd h (by simp [msg0])),by simp,⟨fun _=>rfl,fun _=>rfl,fun _=>rfl,fun _=>rfl,fun _=>rfl,fun i hi=>absurd hi (by simp [msg0])⟩,Nat.zero_le _,rfl⟩
theorem nilT (W:World) (B:Nat):RowT W B (.slice none 0 0) []:=⟨rfl,.inl ⟨rfl,rfl⟩⟩
end Go.Proofs.YtmmbkkfjiaoeiaaGreat
namespace Go.Proofs.YtmmbkkfjiaoeiaaGreat
open Go Go.RowKit
def heD (xs : List Int) : Decidable (HeG xs) := by unfold HeG; infer_instance
def fnF (a b c d e f g h:Nat):Nat→Nat
 | 0=>a
 | 1=>b
 | 2=>c
 | 3=>d
 | 4=>e
 | 5=>f
 | 6=>g
 | _=>h
def adB (a:Option Addr):Nat:=(a.map (·.block)).getD 0
theorem rowT_place {W:World} {B:Nat} {a:Option Addr} {n c:Nat} {ls:List (List UInt8)} (h:RowT W B (.slice a n c) ls) (h0:0 < ls.length):a=some ⟨adB a,0,none⟩∧B≤adB a∧Value.ownBlock (.slice a n c)=some (adB a)∧adB a < W.heap.size:=by
 obtain ⟨g,c',e,hB,hl,-⟩:=h.cells h0
 cases e
 exact ⟨rfl,hB,rfl,hl⟩
theorem bRow_place {W:World} {B:Nat} {a:Option Addr} {n c:Nat} {its:List (List Int)} {bs:List Plc} (h:BRow W B (.slice a n c) its bs) (h0:0 < its.length):a=some ⟨adB a,0,none⟩∧adB a < W.heap.size:=by
 obtain ⟨g,c',e,hB,hl,-⟩:=h.cells h0
 cases e
 exact ⟨rfl,hl⟩
def RK (cells:MQ→Msg→List Value) (nrm:MQ→MQ) (S:TypeId) (b q:Nat) (m:Msg) (W:World):Prop:=∃ p bs F,b < F 0∧q < F 0∧RwC W q (cells p m) S∧AnsM W F p m bs∧nrm p=p
theorem RK.up {cells:MQ→Msg→List Value} {nrm:MQ→MQ} {S:TypeId} {b q:Nat} {m:Msg} {W W':World} (h:RK cells nrm S b q m W) (n:Below W.heap.size W W'):RK cells nrm S b q m W':=by
 obtain ⟨p,bs,F,h1,h2,h3,h4,h5⟩:=h
 exact ⟨p,bs,F,h1,h2,h3.up n,h4.up n,h5⟩
theorem RK.onl {cells:MQ→Msg→List Value} {nrm:MQ→MQ} {S:TypeId} {b q:Nat} {m:Msg} {W W':World} (h:RK cells nrm S b q m W) (hq:q≠b) (O:Only b W W'):RK cells nrm S b q m W':=by
 obtain ⟨p,bs,F,h1,h2,h3,h4,h5⟩:=h
 exact ⟨p,bs,F,h1,h2,(O.block q hq).trans h3,h4.onl O h1,h5⟩
theorem rwB_is {k:Int} {xs:List Int} {fits:Prop} [Decidable fits] (hf:bodF (rdM k xs)=xs→fits):rwB fits (mfF (rdM k xs)) (bodF (rdM k xs)) xs=decide (mfF (rdM k xs)=0∧bodF (rdM k xs)=xs):=by
 unfold rwB
 by_cases h:bodF (rdM k xs)=xs
 ·simp [h,hf h]
 ·simp [h]
end Go.Proofs.YtmmbkkfjiaoeiaaGreat
