import Derived.WalkKit
import Derived.Below
import Derived.Laws.CopyOwn
import Derived.Deep.Draws
import Derived.Test.YtmmbkkfjiaoeiaaGreatRows
import Derived.WalkSpells
import Derived.Deep.QuietTactic
import Derived.BigQuiet
import Derived.WalkMore
import Derived.Laws.AppendOwnNone
import Derived.Maps.AppendAt
import Derived.Lib.AppendZeros
import Derived.Lib.Bytealg
namespace Go.Proofs.YtmmbkkfjiaoeiaaGreat
open Go.RowKit
def Rd (w:World) (g:Nat) (a:Option Addr) (k:IntKind) (xs:List Int):Prop :=
 0 < xs.length→∃ off,a=some ⟨g,off,none⟩∧∀ i,i < xs.length→w.cell? ⟨g,off+i,none⟩=some (.int k (xs.getD i 0))
def Own (w:World) (g:Nat) (a:Option Addr) (k:IntKind) (xs:List Int):Prop :=
 0 < xs.length→∃ off,a=some ⟨g,off,none⟩∧∀ i,i < xs.length→w.cell? ⟨g,off+i,none⟩=some (.int k (xs.getD i 0))∧w.frozen? ⟨g,off+i,none⟩=false
def Blk (w:World) (g:Nat) (k:IntKind) (ys:List Int):Prop :=
 ∃ e,w.heap[g]?=some (.cells (ys.map (Value.int k)).toArray e (0,0))
theorem Own.rd {w:World} {g:Nat} {a:Option Addr} {k:IntKind} {xs:List Int} (h:Own w g a k xs):Rd w g a k xs:=by
 intro h0
 obtain ⟨off,ha,hc⟩:=h h0
 exact ⟨off,ha,fun i hi=>(hc i hi).1⟩
theorem Rd.nil (w:World) (g:Nat) (a:Option Addr) (k:IntKind):Rd w g a k []:=fun h=>absurd h (by simp)
theorem Own.nil (w:World) (g:Nat) (a:Option Addr) (k:IntKind):Own w g a k []:=fun h=>absurd h (by simp)
theorem Rd.lt {w:World} {g:Nat} {a:Option Addr} {k:IntKind} {xs:List Int} (h:Rd w g a k xs) (h0:0 < xs.length):g < w.heap.size:=by
 obtain ⟨off,ha,hc⟩:=h h0
 exact block_lt_of_cell (hc 0 h0)
theorem Rd.of_block {w w':World} {g:Nat} {a:Option Addr} {k:IntKind} {xs:List Int} (h:Rd w g a k xs) (hb:w'.heap[g]?=w.heap[g]?):Rd w' g a k xs:=by
 intro h0
 obtain ⟨off,ha,hc⟩:=h h0
 exact ⟨off,ha,fun i hi=>(World.cell?_of_block (a:=⟨g,off+i,none⟩) hb).trans (hc i hi)⟩
theorem Own.of_block {w w':World} {g:Nat} {a:Option Addr} {k:IntKind} {xs:List Int} (h:Own w g a k xs) (hb:w'.heap[g]?=w.heap[g]?):Own w' g a k xs:=by
 intro h0
 obtain ⟨off,ha,hc⟩:=h h0
 exact ⟨off,ha,fun i hi=>⟨(World.cell?_of_block (a:=⟨g,off+i,none⟩) hb).trans (hc i hi).1,(World.frozen?_of_block (a:=⟨g,off+i,none⟩) hb).trans (hc i hi).2⟩⟩
theorem Rd.up {w w':World} {g:Nat} {a:Option Addr} {k:IntKind} {xs:List Int} (h:Rd w g a k xs) (hb:Below w.heap.size w w'):Rd w' g a k xs:=by
 by_cases h0:0 < xs.length
 ·exact h.of_block (hb.block g (h.lt h0))
 ·exact fun h1=>absurd h1 h0
theorem Own.up {w w':World} {g:Nat} {a:Option Addr} {k:IntKind} {xs:List Int} (h:Own w g a k xs) (hb:Below w.heap.size w w'):Own w' g a k xs:=by
 by_cases h0:0 < xs.length
 ·exact h.of_block (hb.block g (h.rd.lt h0))
 ·exact fun h1=>absurd h1 h0
theorem Blk.lt {w:World} {g:Nat} {k:IntKind} {ys:List Int} (h:Blk w g k ys):g < w.heap.size:=by
 obtain ⟨e,h⟩:=h
 exact (Array.getElem?_eq_some_iff.1 h).1
theorem Blk.cell {w:World} {g:Nat} {k:IntKind} {ys:List Int} (h:Blk w g k ys) {i:Nat} (hi:i < ys.length):w.cell? ⟨g,i,none⟩=some (.int k (ys.getD i 0)):=by
 obtain ⟨e,h⟩:=h
 rw [cell_of_row w g i _ e (0,0) h]
 simp [hi]
theorem Blk.free {w:World} {g:Nat} {k:IntKind} {ys:List Int} (h:Blk w g k ys) (i:Nat):w.frozen? ⟨g,i,none⟩=false:=by
 obtain ⟨e,h⟩:=h
 exact frozen_of_row w g i _ e h
theorem Blk.store {w:World} {g:Nat} {k:IntKind} {ys:List Int} (h:Blk w g k ys) (i:Nat) (z:Int):Blk (w.setCell ⟨g,i,none⟩ (.int k z)) g k (ys.set i z):=by
 obtain ⟨e,h⟩:=h
 refine ⟨e,?_⟩
 rw [heap_setCell_same w g i _ e _ h]
 simp [List.map_set]
theorem Blk.of_block {w w':World} {g:Nat} {k:IntKind} {ys:List Int} (h:Blk w g k ys) (hb:w'.heap[g]?=w.heap[g]?):Blk w' g k ys:=by
 obtain ⟨e,h⟩:=h
 exact ⟨e,hb.trans h⟩
theorem Blk.up {w w':World} {g:Nat} {k:IntKind} {ys:List Int} (h:Blk w g k ys) (hb:Below w.heap.size w w'):Blk w' g k ys :=
 h.of_block (hb.block g h.lt)
theorem Blk.drew {w:World} {g:Nat} {k:IntKind} {ys:List Int} (h:Blk w g k ys):Blk w.drew g k ys:=h
theorem Blk.own {w:World} {g:Nat} {k:IntKind} {ys xs:List Int} (h:Blk w g k ys) (off:Nat) (hl:off+xs.length≤ys.length) (hx:∀ i,i < xs.length→ys.getD (off+i) 0=xs.getD i 0) :
  Own w g (some ⟨g,off,none⟩) k xs:=by
 intro h0
 refine ⟨off,rfl,fun i hi=>⟨?_,h.free _⟩⟩
 rw [h.cell (by omega),hx i hi]
theorem Blk.own0 {w:World} {g:Nat} {k:IntKind} {ys:List Int} (h:Blk w g k ys):Own w g (some ⟨g,0,none⟩) k ys :=
 h.own 0 (by omega) (fun i _=>by rw [Nat.zero_add])
structure Only (g:Nat) (w w':World):Prop where
 os:w'.os=w.os
 tape:w'.tape=w.tape
 output:w'.output=w.output
 size:w'.heap.size=w.heap.size
 block:∀ k,k≠g→w'.heap[k]?=w.heap[k]?
theorem Only.refl (g:Nat) (w:World):Only g w w:=⟨rfl,rfl,rfl,rfl,fun _ _=>rfl⟩
theorem Only.trans {g:Nat} {a b c:World} (h:Only g a b) (k:Only g b c):Only g a c :=
 ⟨k.os.trans h.os,k.tape.trans h.tape,k.output.trans h.output,k.size.trans h.size,fun i hi=>(k.block i hi).trans (h.block i hi)⟩
theorem Only.setCell (w:World) (g i:Nat) (u:Value):Only g w (w.setCell ⟨g,i,none⟩ u) :=
 ⟨rfl,rfl,rfl,by simp [World.setCell],fun k hk=>heap_setCell_other w ⟨g,i,none⟩ k u hk⟩
theorem Only.drewN (w:World) (g n:Nat):Only g w (w.drewN n):=⟨rfl,rfl,rfl,rfl,fun _ _=>rfl⟩
theorem Only.below {g B:Nat} {w w':World} (h:Only g w w') (hB:B≤g):Below B w w' :=
 ⟨h.os,h.tape,h.output,Nat.le_of_eq h.size.symm,fun k hk=>h.block k (by omega)⟩
theorem below_drewN {B:Nat} {a w:World} (h:Below B a w) (n:Nat):Below B a (w.drewN n):=h.trans ⟨rfl,rfl,rfl,Nat.le_refl _,fun _ _=>rfl⟩
theorem Blk.of_made {w : World} {base : Nat} {e : TypeId} {g n : Nat} {k : IntKind} (h : w.ownsRow base e 1 (.slice (some ⟨g, 0, none⟩) n n) n (madeCells (Value.int k 0).cells (n * 1)).toList) :
  Blk w g k (List.replicate n 0):=by
 rcases h.2 with ⟨h',_⟩ | ⟨g',cap',cur,h',_,hg,_,_,hcs,htake⟩
 ·simp at h'
 ·simp only [Value.slice.injEq, Option.some.injEq, Addr.mk.injEq, and_true, true_and] at h'
  obtain ⟨rfl,rfl⟩:=h'
  refine ⟨e,?_⟩
  rw [hg]
  have:cur=((List.replicate n (0:Int)).map (Value.int k)).toArray:=by
   apply Array.ext'
   rw [List.take_of_length_le (by rw [Array.length_toList,hcs];exact Nat.le_refl _)] at htake
   rw [htake]
   apply List.ext_getElem
   ·simp [madeCells]
   ·intro i h1 h2
    simp [madeCells,Value.cells,Nat.mod_one]
  rw [this]
theorem Own.of_ownsRow {w:World} {base:Nat} {e:TypeId} {v:Value} {k:IntKind} {xs:List Int} (h:w.ownsRow base e 1 v xs.length (xs.map (Value.int k))) :
  ∃ (a:Option Addr) (c g:Nat),v = .slice a xs.length c∧Own w g a k xs∧(a=none→c=0)∧xs.length≤c∧base≤g:=by
 rcases h.2 with ⟨rfl,h0⟩ | ⟨g,cap,cur,rfl,hb,hg,hnc,hcm,hcs,htake⟩
 ·have : xs = [] := List.eq_nil_of_length_eq_zero h0
  subst this
  exact ⟨none,0,base,rfl,Own.nil _ _ _ _,fun _=>rfl,by simp,Nat.le_refl _⟩
 ·refine ⟨some ⟨g, 0, none⟩, cap, g, rfl, fun h0 => ⟨0, rfl, fun i hi => ⟨?_, ?_⟩⟩, by simp, hnc, hb⟩
  ·rw [cell_of_row w g (0 + i) cur e (0, 0) hg, Nat.zero_add]
   have:(cur.toList.take (xs.length*1))[i]?=(xs.map (Value.int k))[i]?:=by rw [htake]
   rw [List.getElem?_take,if_pos (by omega)] at this
   simpa [hi] using this
  ·exact frozen_of_row w g (0+i) cur e hg
theorem Own.only {w w':World} {g g':Nat} {a:Option Addr} {k:IntKind} {xs:List Int} (h:Own w g a k xs) (ho:Only g' w w') (hne:0 < xs.length→g≠g'):Own w' g a k xs:=by
 by_cases h0:0 < xs.length
 ·exact h.of_block (ho.block g (hne h0))
 ·exact fun h1=>absurd h1 h0
theorem eq_of_getD {xs ys:List Int} (hl:xs.length=ys.length) (h:∀ i,i < xs.length→xs.getD i 0=ys.getD i 0):xs=ys:=by
 apply List.ext_getElem hl
 intro i h1 h2
 have:=h i h1
 simpa [h1,h2] using this
theorem getD_set_self (ys:List Int) (i:Nat) (z:Int) (h:i < ys.length):(ys.set i z).getD i 0=z:=by simp [h]
theorem getD_set_ne (ys:List Int) (i j:Nat) (z:Int) (h:i≠j):(ys.set i z).getD j 0=ys.getD j 0:=by
 simp [h]
theorem Own.store {w:World} {g off:Nat} {k:IntKind} {xs:List Int} (h:Own w g (some ⟨g,off,none⟩) k xs) (i:Nat) (hi:i < xs.length) (z:Int) :
  Own (w.setCell ⟨g,off+i,none⟩ (.int k z)) g (some ⟨g,off,none⟩) k (xs.set i z):=by
 intro h0
 obtain ⟨off',ha,hc⟩:=h (by omega)
 simp only [Option.some.injEq,Addr.mk.injEq,true_and,and_true] at ha
 subst ha
 refine ⟨off,rfl,fun j hj=>?_⟩
 rw [List.length_set] at hj
 rw [World.frozen?_setCell]
 refine ⟨?_,(hc j hj).2⟩
 by_cases e:i=j
 ·subst e
  rw [World.cell?_setCell_same _ _ _ (hc i hi).1,getD_set_self _ _ _ hi]
 ·have hne : (⟨g, off + i, none⟩ : Addr) ≠ ⟨g, off + j, none⟩ := fun h => e (by simp only [Addr.mk.injEq, true_and, and_true] at h; omega)
  rw [World.cell?_setCell_other (h:=hne),getD_set_ne _ _ _ _ e]
  exact (hc j hj).1
theorem hide {p:Prop} (h:p):Hid p:=h
theorem unhide {p:Prop} (h:Hid p):p:=h
theorem nxt {a b c:World} (h:Below a.heap.size a b) (k:Below b.heap.size b c):Below a.heap.size a c:=h.trans (k.mono h.size)
def FillTo (f:Nat→Int) (ys:List Int) (n k:Nat):Prop:=ys.length=n∧∀ j,j < k→ys.getD j 0=f j
def fill (f:Nat→Int) (n:Nat):List Int:=(List.range n).map f
theorem fill_len (f:Nat→Int) (n:Nat):(fill f n).length=n:=by simp [fill]
theorem fill_get (f:Nat→Int) (n i:Nat) (h:i < n):(fill f n).getD i 0=f i:=by simp [fill,h]
theorem FillTo.step {f:Nat→Int} {ys:List Int} {n k:Nat} (h:FillTo f ys n k) (hk:k < n):FillTo f (ys.set k (f k)) n (k+1):=by
 refine ⟨by simpa using h.1,fun j hj=>?_⟩
 by_cases e:k=j
 ·subst e
  rw [getD_set_self _ _ _ (by rw [h.1];exact hk)]
 ·rw [getD_set_ne _ _ _ _ e]
  exact h.2 j (by omega)
theorem FillTo.all {f:Nat→Int} {ys:List Int} {n:Nat} (h:FillTo f ys n n):ys=fill f n :=
 eq_of_getD (by rw [h.1,fill_len]) (fun i hi=>by rw [h.1] at hi;rw [h.2 i hi,fill_get f n i hi])
def Byt (xs:List Int):Prop:=∀ i,0≤xs.getD i 0∧xs.getD i 0 < 256
theorem oneCells (k:IntKind) (xs:List Int):∀ u ∈ xs.map (Value.int k),u.oneCell'=true:=by
 intro u hu
 obtain ⟨x,_,rfl⟩:=List.mem_map.1 hu
 rfl
theorem add_mid (b o j:Nat):(⟨b,o,none⟩:Addr).add j=⟨b,o+j,none⟩:=by unfold Addr.add;split <;> simp_all
theorem rd_of_row {w : World} {a : Option Addr} {len cap : Nat} {zs : List Int}
  (h:(a=none∧len=0∧cap=0∧zs=[])∨∃ x,a=some x∧len≤cap∧cap≤maxLen∧zs.length=cap∧(∀ i,i < zs.length→w.cell? (x.add i)=some (.int .u8 (zs.getD i 0)))∧∀ n ∈ zs,(Lit.int .u8 n).wf=true) :
  ∃ (g:Nat) (xs:List Int),xs.length=len∧Rd w g a .u8 xs∧Byt xs:=by
 rcases h with ⟨rfl,rfl,rfl,rfl⟩ | ⟨x,rfl,hl,hm,hz,hc,hw⟩
 ·exact ⟨0,[],rfl,Rd.nil _ _ _ _,fun i=>by simp⟩
 ·have hlen : (zs.take len).length = len := by simp; omega
  refine ⟨x.block,zs.take len,hlen,?_,?_⟩
  ·intro h0
   rw [hlen] at h0
   obtain ⟨b,off,spot⟩:=x
   have h1:=hc 0 (by omega)
   have hs:spot=none:=by simpa [Addr.add] using World.cell?_spot h1
   subst hs
   refine ⟨off,rfl,fun i hi=>?_⟩
   rw [hlen] at hi
   have h2:=hc i (by omega)
   have e:(⟨b,off,none⟩:Addr).add i=⟨b,off+i,none⟩:=by
    unfold Addr.add
    split <;> simp_all
   rw [e] at h2
   show w.cell? ⟨b,off+i,none⟩=_
   rw [h2]
   simp [hi]
  ·intro i
   by_cases hi:i < len
   ·have h2 : (zs.take len).getD i 0 = zs.getD i 0 := by simp [hi]
    rw [h2]
    have h3:zs.getD i 0 ∈ zs:=by
     have:i < zs.length:=by omega
     simp [this]
    have h4:=hw _ h3
    have m1:IntKind.u8.min=0:=by decide
    have m2:IntKind.u8.max=255:=by decide
    simp only [Lit.wf,m1,m2,Bool.and_eq_true,decide_eq_true_eq] at h4
    omega
   ·rw [List.getD_eq_getElem?_getD, List.getElem?_eq_none (by rw [hlen]; omega)]
    decide
end Go.Proofs.YtmmbkkfjiaoeiaaGreat
namespace Go.Proofs.YtmmbkkfjiaoeiaaGreat
def okB (c:UInt8):Bool:=(decide (97≤(c.toNat:Int)) && decide ((c.toNat:Int)≤122)) || (decide (48≤(c.toNat:Int)) && decide ((c.toNat:Int)≤57)) || decide ((c.toNat:Int)=45)
def bad (l:List UInt8):Bool:=l.any fun c => !okB c
def lbFz (l:List UInt8):Int:=if l.length=0 then 2 else if 63 < l.length then 3 else if bad l=true then 4 else if ((l.getD 0 0).toNat:Int)=45∨((l.getD (l.length - 1) 0).toNat:Int)=45 then 5 else 0
def ff:List (List UInt8)→Int
 | []=>0
 | l :: ls=>if lbFz l=0 then ff ls else lbFz l
def stp (p:List (List UInt8) × List UInt8) (c:UInt8):List (List UInt8) × List UInt8:=if (c.toNat:Int)=46 then (p.1 ++ [p.2],[]) else (p.1,p.2 ++ [c])
def lst (l:List UInt8):List (List UInt8) × List UInt8:=l.foldl stp ([],[])
def labs (l:List UInt8):List (List UInt8):=(lst l).1 ++ [(lst l).2]
def nameF (l:List UInt8):Int:=if l.length < 1∨128 < l.length then 1 else ff (labs l)
theorem lst_snoc (l:List UInt8) (c:UInt8):lst (l ++ [c])=stp (lst l) c:=by simp [lst]
theorem lst_dot (l:List UInt8) (c:UInt8) (h:(c.toNat:Int)=46):lst (l ++ [c])=(labs l,[]):=by
 rw [lst_snoc]
 exact if_pos h
theorem lst_in (l:List UInt8) (c:UInt8) (h:(c.toNat:Int)≠46):lst (l ++ [c])=((lst l).1,(lst l).2 ++ [c]):=by
 rw [lst_snoc]
 exact if_neg h
theorem ff_app (a b:List (List UInt8)):ff (a ++ b)=if ff a=0 then ff b else ff a:=by
  induction a with
  | nil=>simp [ff]
  | cons x a ih =>
    show (if lbFz x=0 then ff (a ++ b) else lbFz x)=if (if lbFz x=0 then ff a else lbFz x)=0 then ff b else (if lbFz x=0 then ff a else lbFz x)
    by_cases h:lbFz x=0
    · simp only [if_pos h]
      exact ih
    · simp only [if_neg h]
theorem ff_one (l:List UInt8):ff [l]=lbFz l:=by
 show (if lbFz l=0 then ff [] else lbFz l)=lbFz l
 split
 ·rename_i h
  rw [h]
  rfl
 ·rfl
theorem snoc_ind {P:List UInt8→Prop} (h0:P []) (hs:∀ l c,P l→P (l ++ [c])):∀ l,P l:=by
  intro l
  have:∀ n,n≤l.length→P (l.take n):=by
    intro n
    induction n with
    | zero=>intro _;simpa using h0
    | succ n ih =>
      intro hn
      have e:l.take (n+1)=l.take n ++ [l[n]]:=by rw [List.take_succ_eq_append_getElem]
      rw [e]
      exact hs _ _ (ih (by omega))
  have:=this l.length (Nat.le_refl _)
  rwa [List.take_length] at this
theorem lst_pre (a b:List UInt8):∃ t,(lst (a ++ b)).1=(lst a).1 ++ t:=by
 revert b
 refine snoc_ind (P:=fun b=>∃ t,(lst (a ++ b)).1=(lst a).1 ++ t) ⟨[],by simp⟩ ?_
 rintro l c ⟨t,ih⟩
 rw [← List.append_assoc,lst_snoc]
 unfold stp
 split
 ·exact ⟨t ++ [(lst (a ++ l)).2],by rw [ih,List.append_assoc]⟩
 ·exact ⟨t,ih⟩
theorem lst_cur:∀ l:List UInt8,∃ s,s+(lst l).2.length=l.length∧(lst l).2=l.drop s:=by
 refine snoc_ind ⟨0,rfl,rfl⟩ ?_
 rintro l c ⟨s,h1,h2⟩
 rw [lst_snoc]
 unfold stp
 split
 ·exact ⟨l.length+1,by simp,by simp⟩
 ·refine ⟨s, by simp; omega, ?_⟩
  simp only
  rw [List.drop_append_of_le_length (by omega),← h2]
theorem ff_cut {a b:List UInt8} (h:ff (lst a).1≠0):ff (lst (a ++ b)).1=ff (lst a).1:=by
 obtain ⟨t,e⟩:=lst_pre a b
 rw [e,ff_app,if_neg h]
theorem bad_snoc (l:List UInt8) (c:UInt8):bad (l ++ [c])=(bad l || !okB c):=by simp [bad]
def tx (l:List UInt8):Value := .string ⟨⟨l⟩⟩
theorem tx_size (l:List UInt8):(ByteArray.mk ⟨l⟩).size=l.length:=rfl
theorem tx_at (l:List UInt8) (i:Nat) (h:i < l.length):(ByteArray.mk ⟨l⟩)[i]'h=l.getD i 0:=by
 simp only [List.getD,List.getElem?_eq_getElem h,Option.getD_some]
 rfl
theorem run_tx {P:Program} (w:World) (t:TypeId) (l:List UInt8) (i:Nat) (hu:P.underlying t=some .string) (h:i < l.length):(Instr.index t (.string ⟨⟨l⟩⟩) (.int .i64 (i:Int))).run P w = .ok (.int .u8 ((l.getD i 0).toNat:Int)) w:=by
 have hi:0≤(i:Int)∧(i:Int) < ((ByteArray.mk ⟨l⟩).size:Int):=⟨by omega,by rw [tx_size];omega⟩
 rw [run_index_string w t _ .i64 i hu,dif_pos hi]
 have e:(i:Int).toNat=i:=by omega
 have:=tx_at l i h
 simp only [e,this]
theorem run_tx_cut {P:Program} (w:World) (t:TypeId) (l:List UInt8) (i j:Nat) (hu:P.underlying t=some .string) (h:i≤j) (hj:j≤l.length):(Instr.slice t (.string ⟨⟨l⟩⟩) (some (.int .i64 (i:Int))) (some (.int .i64 (j:Int))) none).run P w = .ok (.string ⟨⟨(l.drop i).take (j - i)⟩⟩) w:=by
 rw [run_slice_string w t _ .i64 .i64 i j hu (by omega) (by omega) (by rw [tx_size];omega)]
 have:=ByteArray.extract_mk l i j
 simp only [Int.toNat_natCast]
 rw [show (ByteArray.mk ⟨l⟩)=ByteArray.mk l.toArray from rfl,this]
end Go.Proofs.YtmmbkkfjiaoeiaaGreat
namespace Go.Proofs.YtmmbkkfjiaoeiaaGreat
open Go Go.RowKit
set_option maxRecDepth 100000 in
set_option maxHeartbeats 1000000 in
theorem isLabelByte_any (w:World) (c:UInt8) :
  Calls Tryz.prog 112 #[.int .u8 (c.toNat:Int)] w fun e w'=>e = .returned (.bool (okB c))∧w'=w:=by
 have hb:okB c=((decide (97≤(c.toNat:Int)) && decide ((c.toNat:Int)≤122)) || (decide (48≤(c.toNat:Int)) && decide ((c.toNat:Int)≤57)) || decide ((c.toNat:Int)=45)):=rfl
 generalize okB c=b at *
 generalize (c.toNat:Int)=x at *
 have HB:=hide hb
 clear hb
 by_cases h1:97≤x <;> by_cases h2:x≤122 <;> by_cases h3:48≤x <;> by_cases h4:x≤57 <;> by_cases h5:x=45
 all_goals first | (exfalso;omega) | skip
 all_goals (
  go_enter Tryz.func112,Tryz.ntmps112
  go_wp2
  go_ret
  refine ⟨?_,rfl⟩
  rw [HB.out]
  show Ending.returned (Value.bool _)=Ending.returned (Value.bool _)
  congr 2
  rw [Bool.eq_iff_iff]
  first | (simp;done) | (simp;omega))
set_option maxRecDepth 100000 in
set_option maxHeartbeats 1000000 in
theorem labelFault_any (w : World) (l : List UInt8) (hl : l.length ≤ 1000000) :
  Calls Tryz.prog 111 #[.string ⟨⟨l⟩⟩,.bool (bad l)] w fun e w'=>e = .returned (.int .i64 (lbFz l))∧w'=w:=by
 have hsz:=tx_size l
 have eq0:l.isEmpty=decide (l.length=0):=by cases l <;> simp
 unfold lbFz
 by_cases h0:l.length=0
 ·rw [if_pos h0]
  have t0:decide (l.length=0)=true:=decide_eq_true h0
  rw [t0] at eq0
  go_enter Tryz.func111,Tryz.ntmps111
  go_wp2
  go_ret
  exact ⟨rfl,rfl⟩
 ·rw [if_neg h0]
  have t0:decide (l.length=0)=false:=decide_eq_false h0
  rw [t0] at eq0
  have ix0:∀ w,(Instr.index 9 (.string ⟨⟨l⟩⟩) (.int .i64 0)).run Tryz.prog w = .ok (.int .u8 ((l.getD 0 0).toNat:Int)) w:=fun w=>run_tx (P:=Tryz.prog) w 9 l 0 Tryz.underlying9 (by omega)
  have ix1:=fun w=>run_tx (P:=Tryz.prog) w 9 l (l.length - 1) Tryz.underlying9 (by omega)
  have e1:((l.length - 1:Nat):Int)=(l.length:Int) - 1:=by omega
  rw [e1] at ix1
  by_cases h1:63 < l.length
  ·rw [if_pos h1]
   have t1:decide ((63:Int) < (l.length:Int))=true:=by simp;omega
   go_enter Tryz.func111,Tryz.ntmps111
   go_wp2
   go_ret
   exact ⟨rfl,rfl⟩
  ·rw [if_neg h1]
   have t1:decide ((63:Int) < (l.length:Int))=false:=by simp;omega
   by_cases h2:bad l=true
   ·rw [if_pos h2, h2]
    go_enter Tryz.func111,Tryz.ntmps111
    go_wp2
    go_ret
    exact ⟨rfl,rfl⟩
   ·rw [if_neg h2, Bool.eq_false_iff.2 h2]
    generalize ((l.getD 0 0).toNat:Int)=x at *
    generalize ((l.getD (l.length - 1) 0).toNat:Int)=y at *
    by_cases h3:x=45
    ·rw [if_pos (.inl h3)]
     subst h3
     go_enter Tryz.func111,Tryz.ntmps111
     go_wp2
     go_ret
     exact ⟨rfl,rfl⟩
    ·by_cases h4 : y = 45
     ·rw [if_pos (.inr h4)]
      subst h4
      go_enter Tryz.func111,Tryz.ntmps111
      go_wp2
      go_ret
      exact ⟨rfl,rfl⟩
     ·rw [if_neg (by rintro (h | h) <;> contradiction)]
      have b1:(x == 45)=false:=by simpa using h3
      have b2:(y == 45)=false:=by simpa using h4
      go_enter Tryz.func111,Tryz.ntmps111
      go_wp2
      go_ret
      exact ⟨rfl,rfl⟩
set_option maxRecDepth 100000 in
set_option maxHeartbeats 4000000 in
theorem labelsFault_any (w : World) (t : List UInt8) (hl : t.length ≤ 1000000) :
    Calls Tryz.prog 108 #[.string ⟨⟨t⟩⟩] w fun e w'=>e = .returned (.int .i64 (ff (lst t).1))∧w'=w:=by
  have hsz:=tx_size t
  go_enter Tryz.func108,Tryz.ntmps108
  go_wp2
  go_step3
  go_wp2
  go_step3
  go_wp2
  go_loopw [3,4,5,10] (fun f s b i wr=>wr=w∧∃ k s':Nat,k≤t.length∧i = .int .i64 k∧f = .int .i64 0∧s = .int .i64 s'∧b = .bool (bad (lst (t.take k)).2)∧ff (lst (t.take k)).1=0∧s'+(lst (t.take k)).2.length=k) (fun _ _ _ i _=>t.length - (intOf i).toNat)
  case atStart=>exact ⟨rfl,0,0,by omega,rfl,rfl,rfl,rfl,rfl,rfl⟩
  case round =>
    obtain ⟨rfl,k,s',hk,rfl,rfl,rfl,rfl,hff,hs⟩:=hrel
    by_cases hlt:k < t.length
    · have t1 : (k : Int) < (t.length : Int) := by omega
      have ix:=fun w=>run_tx (P:=Tryz.prog) w 9 t k Tryz.underlying9 hlt
      have e:t.take (k+1)=t.take k ++ [t.getD k 0]:=by
        rw [List.take_succ_eq_append_getElem hlt]
        congr 2
        simp [hlt]
      obtain ⟨c,hc⟩:∃ c,c=t.getD k 0:=⟨_,rfl⟩
      rw [← hc] at ix e
      clear hc
      have cur:=lst_cur (t.take k)
      obtain ⟨s2,q1,q2⟩:=cur
      rw [List.length_take,Nat.min_eq_left (by omega)] at q1
      obtain rfl:s2=s':=by omega
      have CU:(t.drop s2).take (k - s2)=(lst (t.take k)).2:=by
        rw [q2,List.drop_take]
      by_cases h46:(c.toNat:Int)=46
      · have L := lst_dot (t.take k) c h46
        rw [← e] at L
        have cut:=fun w=>run_tx_cut (P:=Tryz.prog) w 9 t s2 k Tryz.underlying9 (by omega) (by omega)
        rw [CU] at cut
        have LF:=hide (fun w=>labelFault_any w (lst (t.take k)).2 (by omega))
        have FF:Hid (ff (lst (t.take (k+1))).1=lbFz (lst (t.take k)).2):=by
          show _=_
          rw [L]
          show ff (labs (t.take k))=_
          unfold labs
          rw [ff_app,if_pos hff,ff_one]
        have E1:Hid ((lst (t.take (k+1))).2=[]):=by show _=_;rw [L]
        have HC:=hide (fun h=>ff_cut (a:=t.take (k+1)) (b:=t.drop (k+1)) h)
        rw [List.take_append_drop] at HC
        clear L CU q1 q2 e hff
        generalize (lst (t.take k)).2=cur at *
        have b46:((c.toNat:Int) == 46)=true:=by rw [h46];rfl
        generalize (c.toNat:Int)=x at *
        subst h46
        go_wp2_with fail
        refine (LF.out _).mono ?_
        rintro e w1 ⟨rfl,h1⟩
        have h1':=h1.symm
        subst h1'
        clear LF cut ix h1
        by_cases hf:lbFz cur=0
        · rw [hf] at FF ⊢
          clear HC hf hs
          go_wp2
          go_roundw
          case rel=>exact ⟨trivial,k+1,k+1,by omega,by go_num,rfl,by go_num,by rw [E1.out];rfl,FF.out,by rw [E1.out];simp⟩
          case measure=>simp [intOf];omega
        · have b0 : (lbFz cur != 0) = true := by simpa using hf
          have EQ:Hid (ff (lst t).1=lbFz cur):=by
            show _=_
            rw [HC.out (by rw [FF.out];exact hf),FF.out]
          clear FF E1 HC
          generalize lbFz cur=z at *
          go_wp2
          rw [Exit.noGoto_ret]
          go_ret
          exact ⟨by rw [EQ.out];rfl,rfl⟩
      · have L := lst_in (t.take k) c h46
        rw [← e] at L
        have IB:=hide (fun w=>isLabelByte_any w c)
        have b46:((c.toNat:Int) == 46)=false:=by simpa using h46
        have R1:Hid (bad (lst (t.take (k+1))).2=(bad (lst (t.take k)).2 || !okB c)):=by
          show _=_
          rw [L]
          exact bad_snoc _ _
        have R2:Hid (ff (lst (t.take (k+1))).1=0):=by
          show _=_
          rw [L]
          exact hff
        have R3:Hid (s2+(lst (t.take (k+1))).2.length=k+1):=by
          show _=_
          rw [L]
          simp only [List.length_append,List.length_cons,List.length_nil]
          omega
        clear L CU q1 q2 e hff hs
        generalize bad (lst (t.take k)).2=st at *
        generalize (c.toNat:Int)=x at *
        cases st with
        | true =>
          go_wp2
          go_roundw
          case rel=>exact ⟨trivial,k+1,s2,by omega,by go_num,rfl,rfl,by rw [R1.out];rfl,R2.out,R3.out⟩
          case measure=>simp [intOf];omega
        | false =>
          go_wp2_with fail
          refine (IB.out _).mono ?_
          rintro e w1 ⟨rfl,h1⟩
          have h1':=h1.symm
          subst h1'
          clear h1
          go_wp2
          go_roundw
          case rel=>exact ⟨trivial,k+1,s2,by omega,by go_num,rfl,rfl,by rw [R1.out];rfl,R2.out,R3.out⟩
          case measure=>simp [intOf];omega
    · obtain rfl : k = t.length := by omega
      rw [List.take_length] at hff
      have HF:=hide hff
      clear hs hff
      go_wp2
      rw [Exit.noGoto_ret]
      go_ret
      exact ⟨by rw [HF.out];rfl,rfl⟩
end Go.Proofs.YtmmbkkfjiaoeiaaGreat
namespace Go.Proofs.YtmmbkkfjiaoeiaaGreat
open Go Go.RowKit
set_option maxRecDepth 100000 in
set_option maxHeartbeats 1000000 in
theorem implNameFault_any (w : World) (l : List UInt8) (hl : l.length ≤ 9223372036854775807) :
  Calls Tryz.prog 97 #[.string ⟨⟨l⟩⟩] w fun e w'=>e = .returned (.int .i64 (nameF l))∧w'=w:=by
 have hsz:=tx_size l
 by_cases h0:l.length < 1
 ·have eN : Hid (nameF l = 1) := by show _ = _; unfold nameF; rw [if_pos (.inl h0)]
  have eq0:l.isEmpty=true:=by cases l with | nil=>rfl | cons a b=>simp at h0
  go_enter Tryz.func97,Tryz.ntmps97
  go_wp2
  go_ret
  exact ⟨by rw [eN.out];rfl,rfl⟩
 ·have eq0 : l.isEmpty = false := by cases l with | nil => simp at h0 | cons a b => rfl
  by_cases h1:128 < l.length
  ·have eN : Hid (nameF l = 1) := by show _ = _; unfold nameF; rw [if_pos (.inr h1)]
   have t1:decide ((128:Int) < (l.length:Int))=true:=by simp;omega
   go_enter Tryz.func97,Tryz.ntmps97
   go_wp2
   go_ret
   exact ⟨by rw [eN.out];rfl,rfl⟩
  ·have eN : Hid (nameF l = ff (lst (l ++ [46])).1) := by
    show _=_
    unfold nameF
    rw [if_neg (by omega),lst_dot l 46 (by decide)]
   have t1:decide ((128:Int) < (l.length:Int))=false:=by simp;omega
   have LF:=hide (fun w=>labelsFault_any w (l ++ [46]) (by simp;omega))
   have ad:∀ w:World,(Op.stringOp .add (ByteArray.mk ⟨l⟩) (ByteArray.mk #[46])).run Tryz.prog w = .ok (.string ⟨⟨l ++ [46]⟩⟩) w:=by
    intro w
    rw [run_string_add_sum w _ _ (by rw [tx_size];show l.length+1≤_;omega)]
    have:=ByteArray.mk_append_mk l [46]
    exact congrArg (fun s=>Result.ok (Value.string s) w) this
   go_enter Tryz.func97,Tryz.ntmps97
   go_wp2_with fail
   refine (LF.out w).mono ?_
   rintro e w1 ⟨rfl,rfl⟩
   go_wp2
   go_ret
   exact ⟨by rw [eN.out];rfl,rfl⟩
end Go.Proofs.YtmmbkkfjiaoeiaaGreat
namespace Go.Proofs.YtmmbkkfjiaoeiaaGreat
open Go Go.RowKit
def RowT (w:World) (base:Nat) (v:Value) (ls:List (List UInt8)):Prop:=w.ownsRow base 9 1 v ls.length (ls.map tx)
theorem tx_one (ls:List (List UInt8)):∀ u ∈ ls.map tx,u.oneCell'=true:=by
 intro u hu
 obtain ⟨x,_,rfl⟩:=List.mem_map.1 hu
 rfl
set_option maxRecDepth 100000 in
theorem infoTx:(Tryz.prog.info? 9).map (fun i=>(i.zero,i.size,i.bytes))=some (some (.string ⟨#[]⟩),1,16):=by kernel_rfl
set_option maxRecDepth 100000 in
theorem undTx:Tryz.prog.underlying 23=some (.slice 9):=Tryz.underlying23
theorem RowT.lit1 (w:World) (l:List UInt8):RowT (w.alloc (.cells #[tx l] 9)) w.heap.size (.slice (some ⟨w.heap.size,0,none⟩) 1 1) [l] :=
 World.ownsRow_lit w #[tx l] 1 (Nat.le_refl _) (by unfold maxLen;omega) (by simp)
set_option maxRecDepth 100000 in
theorem append_tx (w:World) (ty:TypeId) (base:Nat) (v:Value) (ls:List (List UInt8)) (hown:RowT w base v ls) (l:List UInt8) (hl:ls.length≤1000000) (hbase:base≤w.heap.size) :
  ∃ v' w',(Builtin.append_ #[23,23] ty #[v,.slice (some ⟨w.heap.size,0,none⟩) 1 1]).run Tryz.prog (w.alloc (.cells #[tx l] 9)) = .ok v' w'∧RowT w' base v' (ls ++ [l])∧Below base w w':=by
 obtain ⟨i,hi,hz,hs,hb⟩:=info_parts infoTx
 have h0:RowT (w.alloc (.cells #[tx l] 9)) base v ls:=World.ownsRow.alloc hown _
 have m1:Below base w (w.alloc (.cells #[tx l] 9)):=(Below.refl _ _).alloc hbase _
 obtain ⟨v',w',h1,h2,h3,_⟩:=run_append_own (P:=Tryz.prog) (w.alloc (.cells #[tx l] 9)) base 23 ty 9 i (.string ⟨#[]⟩) 1 16 undTx hi hz hs hb rfl (by decide) v ls.length (ls.map tx) h0 ⟨w.heap.size,0,none⟩ 1 1 [tx l] (by simp) (cell_one_new w (tx l) 9) (by simp [tx,Value.oneCell']) (by unfold maxLen;omega) (by omega) (by simp;omega)
 refine ⟨v',w',h1,?_,m1.grown h3 (by simp;omega) (fun k hk=>by have:=(World.ownsRow.lt h0 k hk).1;omega)⟩
 show w'.ownsRow base 9 1 v' (ls ++ [l]).length ((ls ++ [l]).map tx)
 rw [List.length_append,List.map_append]
 exact h2
theorem RowT.cells {w:World} {base:Nat} {v:Value} {ls:List (List UInt8)} (h:RowT w base v ls) (h0:0 < ls.length):∃ g c,v = .slice (some ⟨g,0,none⟩) ls.length c∧base≤g∧g < w.heap.size∧(∀ i,i < ls.length→w.cell? ⟨g,i,none⟩=some (tx (ls.getD i [])))∧∀ i,w.frozen? ⟨g,i,none⟩=false:=by
 rcases h.2 with ⟨_,h'⟩ | ⟨g,cap,cur,rfl,hb,hg,hnc,hcm,hcs,ht⟩
 ·omega
 ·refine ⟨g, cap, rfl, hb, (Array.getElem?_eq_some_iff.1 hg).1, fun i hi => ?_, fun i => frozen_of_row w g i cur 9 hg⟩
  rw [cell_of_row w g i cur 9 (0,0) hg]
  have:(cur.toList.take (ls.length*1))[i]?=(ls.map tx)[i]?:=by rw [ht]
  rw [List.getElem?_take,if_pos (by omega)] at this
  simpa [hi] using this
theorem set_snoc {α:Type}:∀ (a:List α) (x y:α),(a ++ [x]).set a.length y=a ++ [y]
 | [],_,_=>rfl
 | b :: a,x,y=>congrArg (List.cons b) (set_snoc a x y)
theorem RowT.setLast {w:World} {base g c:Nat} {ls:List (List UInt8)} {l:List UInt8} (h:RowT w base (.slice (some ⟨g,0,none⟩) (ls.length+1) c) (ls ++ [l])) (l':List UInt8) (n:Nat):RowT ((w.drewN n).setCell ⟨g,ls.length,none⟩ (tx l')) base (.slice (some ⟨g,0,none⟩) (ls.length+1) c) (ls ++ [l']):=by
 refine ⟨by simp,?_⟩
 rcases h.2 with ⟨h',_⟩ | ⟨g',cap,cur,e,hb,hg,hnc,hcm,hcs,ht⟩
 ·simp at h'
 ·simp only [Value.slice.injEq, Option.some.injEq, Addr.mk.injEq, and_true] at e
  obtain ⟨rfl,e2,rfl⟩:=e
  refine .inr ⟨g,c,cur.setIfInBounds ls.length (tx l'),by simp,hb,?_,by simpa using hnc,hcm,by simpa using hcs,?_⟩
  ·exact heap_setCell_same (w.drewN n) g ls.length cur 9 (tx l') hg
  ·simp only [List.length_append, List.length_cons, List.length_nil, Nat.mul_one, List.map_append, List.map_cons, List.map_nil] at ht ⊢
   rw [Array.toList_setIfInBounds,List.take_set,ht]
   have e3:ls.length=(ls.map tx).length:=by simp
   rw [e3]
   exact set_snoc _ _ _
theorem RowT.up {w w':World} {base:Nat} {v:Value} {ls:List (List UInt8)} (h:RowT w base v ls) (hb:Below w.heap.size w w'):RowT w' base v ls:=by
 refine ⟨h.1,?_⟩
 rcases h.2 with h' | ⟨g,cap,cur,rfl,hbg,hg,hnc,hcm,hcs,ht⟩
 ·exact .inl h'
 ·exact .inr ⟨g,cap,cur,rfl,hbg,by rw [hb.block g ((Array.getElem?_eq_some_iff.1 hg).1)];exact hg,hnc,hcm,hcs,ht⟩
def NewT1 (B:Nat) (w':World) (e:Ending) (ls:List (List UInt8)):Prop:=∃ v,e = .returned v∧RowT w' B v ls
theorem labs_snoc (l:List UInt8) (c:UInt8):labs (l ++ [c])=if (c.toNat:Int)=46 then labs l ++ [[]] else (lst l).1 ++ [(lst l).2 ++ [c]]:=by
 unfold labs
 rw [lst_snoc]
 unfold stp
 split <;> simp
theorem lst_len (l:List UInt8):(lst l).1.length≤l.length:=by
 revert l
 refine snoc_ind (by simp [lst]) ?_
 intro l c ih
 rw [lst_snoc]
 unfold stp
 split
 ·simp;omega
 ·simp;omega
set_option maxRecDepth 100000 in
theorem buildT (w:World) (l:List UInt8):(Instr.buildSlice 23 1 #[(0,.string ⟨⟨l⟩⟩)]).run Tryz.prog w = .ok (.slice (some ⟨w.heap.size,0,none⟩) 1 1) (w.alloc (.cells #[tx l] 9)):=by kernel_rfl
set_option maxRecDepth 100000 in
set_option maxHeartbeats 4000000 in
theorem l11Labels_any (w : World) (t : List UInt8) (hl : t.length ≤ 128) :
  Calls Tryz.prog 38 #[.string ⟨⟨t⟩⟩] w fun e w'=>NewT1 w.heap.size w' e (labs t)∧Below w.heap.size w w':=by
 have hsz:=tx_size t
 have B0:=fun w=>buildT w []
 have R0:=RowT.lit1 w []
 have n0:Below w.heap.size w (w.alloc (.cells #[tx []] 9)):=(Below.refl _ _).alloc (Nat.le_refl _) _
 go_enter Tryz.func38,Tryz.ntmps38
 go_wp2
 have R0':RowT (w.alloc (.cells #[Value.string ⟨#[]⟩] 9)) w.heap.size (.slice (some ⟨w.heap.size,0,none⟩) 1 1) [[]]:=R0
 have n0':Below w.heap.size w (w.alloc (.cells #[Value.string ⟨#[]⟩] 9)):=n0
 clear R0 n0 B0
 generalize w.alloc (.cells #[Value.string ⟨#[]⟩] 9)=w1 at *
 go_loopw [3,4] (fun o i wr=>∃ k:Nat,k≤t.length∧i = .int .i64 k∧RowT wr w.heap.size o (labs (t.take k))∧Below w.heap.size w wr) (fun _ i _=>t.length - (intOf i).toNat)
 case atStart=>exact ⟨0,by omega,rfl,R0',n0'⟩
 case round =>
  clear R0' n0'
  obtain ⟨k,hk,rfl,R,N⟩:=hrel
  by_cases hlt:k < t.length
  ·have t1 : (k : Int) < (t.length : Int) := by omega
   have ix:=fun w=>run_tx (P:=Tryz.prog) w 9 t k Tryz.underlying9 hlt
   have e:t.take (k+1)=t.take k ++ [t.getD k 0]:=by
    rw [List.take_succ_eq_append_getElem hlt]
    congr 2
    simp [hlt]
   have LS:=labs_snoc (t.take k) (t.getD k 0)
   rw [← e] at LS
   have ll:=lst_len (t.take k)
   rw [List.length_take,Nat.min_eq_left (by omega)] at ll
   have cut0:(t.drop k).take (k+1 - k)=[t.getD k 0]:=by
    have eg:t.getD k 0=t[k]:=by simp [hlt]
    rw [eg,show k+1 - k=1 by omega,List.drop_eq_getElem_cons hlt]
    rfl
   obtain ⟨c,hc⟩:∃ c,c=t.getD k 0:=⟨_,rfl⟩
   rw [← hc] at ix LS cut0
   clear hc e
   by_cases h46:(c.toNat:Int)=46
   ·rw [if_pos h46] at LS
    have hL:(labs (t.take k)).length≤1000000:=by unfold labs;simp;omega
    obtain ⟨v',w2,h1,R2,N2⟩:=append_tx wr 23 w.heap.size _ _ R [] hL (N.size)
    rw [← LS] at R2
    have h1':(Builtin.append_ #[23,23] 23 #[u3,.slice (some ⟨wr.heap.size,0,none⟩) 1 1]).run Tryz.prog (wr.alloc (.cells #[Value.string ⟨#[]⟩] 9)) = .ok v' w2:=h1
    have RR:=hide R2
    have NN:=hide (N.trans N2)
    clear h1 R2 N2 R N LS hL cut0
    have b46:((c.toNat:Int) == 46)=true:=by rw [h46];rfl
    generalize (c.toNat:Int)=x at *
    subst h46
    go_wp2_with (at_builtin;refine Lib.wpList_append_run _ rfl _ _ 23 23 rfl _ _ rfl rfl _ _ h1' ?_)
    clear h1'
    go_wp2
    go_roundw
    case rel=>exact ⟨k+1,by omega,by go_num,RR.out,NN.out⟩
    case measure=>simp [intOf];omega
   ·rw [if_neg h46] at LS
    have b46:((c.toNat:Int) == 46)=false:=by simpa using h46
    generalize (c.toNat:Int)=x at *
    unfold labs at R
    obtain ⟨g,cp,rfl,hg,hgl,hc,hf⟩:=R.cells (by simp)
    have cl:=hc (lst (t.take k)).1.length (by simp)
    have fl:=hf (lst (t.take k)).1.length
    have eg:((lst (t.take k)).1 ++ [(lst (t.take k)).2]).getD (lst (t.take k)).1.length []=(lst (t.take k)).2:=by simp
    rw [eg] at cl
    have el:((lst (t.take k)).1 ++ [(lst (t.take k)).2]).length=(lst (t.take k)).1.length+1:=by simp
    rw [el] at R ⊢
    have RS:=fun n=>hide (RowT.setLast R ((lst (t.take k)).2 ++ [c]) n)
    rw [← LS] at RS
    have NS:∀ n,Hid (Below w.heap.size w ((wr.drewN n).setCell ⟨g,(lst (t.take k)).1.length,none⟩ (tx ((lst (t.take k)).2 ++ [c])))):=fun n=>(below_drewN N n).setCell hg _
    have ex:(ByteArray.mk ⟨t⟩).extract k (k+1)=ByteArray.mk ⟨[c]⟩:=by
     have:=ByteArray.extract_mk t k (k+1)
     rw [cut0] at this
     exact this
    have lc:(lst (t.take k)).2.length≤128:=by
     obtain ⟨s,h1,_⟩:=lst_cur (t.take k)
     rw [List.length_take] at h1
     omega
    have ap:ByteArray.mk ⟨(lst (t.take k)).2⟩ ++ ByteArray.mk ⟨[c]⟩=ByteArray.mk ⟨(lst (t.take k)).2 ++ [c]⟩:=ByteArray.mk_append_mk (lst (t.take k)).2 [c]
    have sz1:¬ ((lst (t.take k)).2.length+1 > 9223372036854775807):=by omega
    clear hc hf eg el R N LS cut0 hgl
    generalize (lst (t.take k)).2=cur at *
    generalize (lst (t.take k)).1.length=m at *
    unfold tx at cl RS NS
    go_wp2
    go_region
    go_wp2
    go_roundw
    case rel=>exact ⟨k+1,by omega,by go_num,(RS _).out,(NS _).out⟩
    case measure=>simp [intOf];omega
  ·obtain rfl : k = t.length := by omega
   rw [List.take_length] at R
   have RR:=hide R
   have NN:=hide N
   clear R N
   go_wp2
   go_ret
   exact ⟨⟨_,rfl,RR.out⟩,NN.out⟩
end Go.Proofs.YtmmbkkfjiaoeiaaGreat
namespace Go.Proofs.YtmmbkkfjiaoeiaaGreat
open Go Go.RowKit
theorem ff_take {ls:List (List UInt8)} {k:Nat} (hk:k < ls.length) (h:ff (ls.take k)=0):ff (ls.take (k+1))=lbFz (ls.getD k [])∧(lbFz (ls.getD k [])≠0→ff ls=lbFz (ls.getD k [])):=by
 have e:ls.take (k+1)=ls.take k ++ [ls.getD k []]:=by
  rw [List.take_succ_eq_append_getElem hk]
  congr 2
  simp [hk]
 have e1:ff (ls.take (k+1))=lbFz (ls.getD k []):=by rw [e,ff_app,if_pos h,ff_one]
 refine ⟨e1,fun hne=>?_⟩
 rw [← List.take_append_drop (k+1) ls,ff_app,e1,if_neg hne]
 rw [List.take_append_drop]
theorem bad_take {l:List UInt8} {m:Nat} (hm:m < l.length):bad (l.take (m+1))=(bad (l.take m) || !okB (l.getD m 0)):=by
 have e:l.take (m+1)=l.take m ++ [l.getD m 0]:=by
  rw [List.take_succ_eq_append_getElem hm]
  congr 2
  simp [hm]
 rw [e,bad_snoc]
theorem bad_of {l:List UInt8} {m:Nat} (hm:m < l.length) (h:okB (l.getD m 0)=false):bad l=true:=by
 unfold bad
 rw [List.any_eq_true]
 refine ⟨l.getD m 0,?_,by rw [h];rfl⟩
 simp [hm]
set_option maxRecDepth 100000 in
set_option maxHeartbeats 8000000 in
theorem specNameFault_any (w : World) (t : List UInt8) (hl : t.length ≤ 9223372036854775807) :
    Calls Tryz.prog 21 #[.string ⟨⟨t⟩⟩] w fun e w'=>e = .returned (.int .i64 (nameF t))∧Below w.heap.size w w':=by
  have hsz:=tx_size t
  by_cases h0:t.length < 1
  · have eN : Hid (nameF t = 1) := by show _ = _; unfold nameF; rw [if_pos (.inl h0)]
    have t0:decide ((t.length:Int) < 1)=true:=by simp;omega
    go_enter Tryz.func21,Tryz.ntmps21
    go_wp2
    go_ret
    exact ⟨by rw [eN.out];rfl,Below.refl _ _⟩
  · have t0 : decide ((t.length : Int) < 1) = false := by simp; omega
    by_cases h1:128 < t.length
    · have eN : Hid (nameF t = 1) := by show _ = _; unfold nameF; rw [if_pos (.inr h1)]
      have t1:decide ((128:Int) < (t.length:Int))=true:=by simp;omega
      go_enter Tryz.func21,Tryz.ntmps21
      go_wp2
      go_ret
      exact ⟨by rw [eN.out];rfl,Below.refl _ _⟩
    · have eN : Hid (nameF t = ff (labs t)) := by show _ = _; unfold nameF; rw [if_neg (by omega)]
      have t1:decide ((128:Int) < (t.length:Int))=false:=by simp;omega
      have LL:=hide (fun w=>l11Labels_any w t (by omega))
      have ln:(labs t).length≤129∧0 < (labs t).length:=by
        have:=lst_len t
        unfold labs
        simp
        omega
      go_enter Tryz.func21,Tryz.ntmps21
      go_wp2_with fail
      refine (LL.out w).mono ?_
      rintro e W ⟨⟨v,rfl,R⟩,N⟩
      obtain ⟨g,cp,rfl,hg,hgl,hc,hf⟩:=R.cells ln.2
      clear LL R hf hgl hg
      have HN:=hide N
      have HC:=hide hc
      clear N hc
      generalize labs t=ls at *
      go_wp2
      go_loopw [4] (fun i wr=>wr=W∧∃ k:Nat,k≤ls.length∧i = .int .i64 k∧ff (ls.take k)=0) (fun i _=>ls.length - (intOf i).toNat)
      case atStart=>exact ⟨rfl,0,by omega,rfl,rfl⟩
      case round =>
        obtain ⟨h1',k,hk,rfl,hff⟩:=hrel
        subst h1'
        by_cases hlt:k < ls.length
        · have t2 : (k : Int) < (ls.length : Int) := by omega
          have ck:=HC.out k hlt
          obtain ⟨f1,f2⟩:=ff_take hlt hff
          generalize ls.getD k []=l at *
          unfold tx at ck
          have lsz:=tx_size l
          by_cases l0:l.length=0
          · have u0 : ((l.length : Int) == 0) = true := by simpa using l0
            have EQ:Hid (ff ls=2):=by
              have e:lbFz l=2:=by unfold lbFz;rw [if_pos l0]
              show _=_
              rw [f2 (by rw [e];decide),e]
            clear f1 f2 hff
            go_wp2
            go_ret
            exact ⟨by rw [eN.out,EQ.out];rfl,HN.out⟩
          · have u0 : ((l.length : Int) == 0) = false := by simpa using l0
            by_cases l1:63 < l.length
            · have u1 : decide ((63 : Int) < (l.length : Int)) = true := by simp; omega
              have EQ:Hid (ff ls=3):=by
                have e:lbFz l=3:=by unfold lbFz;rw [if_neg l0,if_pos l1]
                show _=_
                rw [f2 (by rw [e];decide),e]
              clear f1 f2 hff
              go_wp2
              go_ret
              exact ⟨by rw [eN.out,EQ.out];rfl,HN.out⟩
            · have u1 : decide ((63 : Int) < (l.length : Int)) = false := by simp; omega
              have F1:=hide f1
              have F2:=hide f2
              clear f1 f2 hff
              go_wp2
              go_loopw [6] (fun j w2=>w2=wr∧∃ m:Nat,m≤l.length∧j = .int .i64 m∧bad (l.take m)=false) (fun j _=>l.length - (intOf j).toNat)
              case atStart=>exact ⟨rfl,0,by omega,rfl,rfl⟩
              case round =>
                obtain ⟨h2',m,hm,rfl,hb⟩:=hrel
                subst h2'
                by_cases hml:m < l.length
                · have v1 : (m : Int) < (l.length : Int) := by omega
                  have ix:=fun w=>run_tx (P:=Tryz.prog) w 9 l m Tryz.underlying9 hml
                  have BT:=hide (bad_take hml)
                  have BO:=hide (bad_of (m:=m) hml)
                  have HB:=hide (show okB (l.getD m 0)=((decide (97≤((l.getD m 0).toNat:Int)) && decide (((l.getD m 0).toNat:Int)≤122)) || (decide (48≤((l.getD m 0).toNat:Int)) && decide (((l.getD m 0).toNat:Int)≤57)) || decide (((l.getD m 0).toNat:Int)=45)) from rfl)
                  have hbH:=hide hb
                  clear hb
                  generalize l.getD m 0=c at *
                  generalize (c.toNat:Int)=x at *
                  by_cases hok:okB c=true
                  · have RL := hide (show bad (l.take (m + 1)) = false by rw [BT.out, hbH.out, hok]; rfl)
                    rw [hok] at HB
                    clear BT BO hbH hok
                    have hx:((97≤x∧x≤122)∨(48≤x∧x≤57))∨x=45:=by
                      have h:=HB.out
                      simpa using h.symm
                    clear HB
                    rcases hx with (⟨a1,a2⟩ | ⟨a1,a2⟩) | rfl
                    · skip
                      go_wp2
                      go_roundw
                      case rel=>exact ⟨trivial,m+1,by omega,by go_num,RL.out⟩
                      case measure=>simp [intOf];omega
                    · have a3 : decide (97 ≤ x) = false := by simp; omega
                      go_wp2
                      go_roundw
                      case rel=>exact ⟨trivial,m+1,by omega,by go_num,RL.out⟩
                      case measure=>simp [intOf];omega
                    · skip
                      go_wp2
                      go_roundw
                      case rel=>exact ⟨trivial,m+1,by omega,by go_num,RL.out⟩
                      case measure=>simp [intOf];omega
                  · have hok' : okB c = false := by simpa using hok
                    have EQ:Hid (ff ls=4):=by
                      have e:lbFz l=4:=by unfold lbFz;rw [if_neg l0,if_neg l1,if_pos (BO.out hok')]
                      show _=_
                      rw [F2.out (by rw [e];decide),e]
                    rw [hok'] at HB
                    clear BT BO hbH hok hok' F1 F2
                    have hx:¬ (((97≤x∧x≤122)∨(48≤x∧x≤57))∨x=45):=by
                      have h:=HB.out
                      intro k
                      have:(decide (97≤x) && decide (x≤122) || decide (48≤x) && decide (x≤57) || decide (x=45))=true:=by simpa using k
                      rw [this] at h
                      cases h
                    clear HB
                    have b5:(x == 45)=false:=by
                      have:¬ x=45:=fun h=>hx (.inr h)
                      simpa using this
                    by_cases a1:97≤x
                    · have a2 : decide (x ≤ 122) = false := by simp; omega
                      have a4:decide (x≤57)=false:=by simp;omega
                      have a3:(48:Int)≤x:=by omega
                      clear hx
                      go_wp2
                      go_ret
                      exact ⟨by rw [eN.out,EQ.out];rfl,HN.out⟩
                    · have a0 : decide (97 ≤ x) = false := by simp; omega
                      by_cases a3:48≤x
                      · have a4 : decide (x ≤ 57) = false := by simp; omega
                        clear hx
                        go_wp2
                        go_ret
                        exact ⟨by rw [eN.out,EQ.out];rfl,HN.out⟩
                      · have a4 : decide (48 ≤ x) = false := by simp; omega
                        clear hx
                        go_wp2
                        go_ret
                        exact ⟨by rw [eN.out,EQ.out];rfl,HN.out⟩
                · obtain rfl : m = l.length := by omega
                  rw [List.take_length] at hb
                  have ix0:∀ w,(Instr.index 9 (.string ⟨⟨l⟩⟩) (.int .i64 0)).run Tryz.prog w = .ok (.int .u8 ((l.getD 0 0).toNat:Int)) w:=fun w=>run_tx (P:=Tryz.prog) w 9 l 0 Tryz.underlying9 (by omega)
                  have ix1:=fun w=>run_tx (P:=Tryz.prog) w 9 l (l.length - 1) Tryz.underlying9 (by omega)
                  have e1:((l.length - 1:Nat):Int)=(l.length:Int) - 1:=by omega
                  rw [e1] at ix1
                  have e5:lbFz l=if ((l.getD 0 0).toNat:Int)=45∨((l.getD (l.length - 1) 0).toNat:Int)=45 then 5 else 0:=by
                    unfold lbFz
                    rw [if_neg l0,if_neg l1,if_neg (by rw [hb];decide)]
                  have E5:=hide e5
                  clear e5 hb e1
                  generalize ((l.getD 0 0).toNat:Int)=x at *
                  generalize ((l.getD (l.length - 1) 0).toNat:Int)=y at *
                  by_cases h3:x=45
                  · subst h3
                    have EQ:Hid (ff ls=5):=by
                      have e:lbFz l=5:=by rw [E5.out,if_pos (.inl rfl)]
                      show _=_
                      rw [F2.out (by rw [e];decide),e]
                    clear F1 F2 E5
                    go_wp2
                    go_ret
                    exact ⟨by rw [eN.out,EQ.out];rfl,HN.out⟩
                  · have b1 : (x == 45) = false := by simpa using h3
                    by_cases h4:y=45
                    · subst h4
                      have EQ:Hid (ff ls=5):=by
                        have e:lbFz l=5:=by rw [E5.out,if_pos (.inr rfl)]
                        show _=_
                        rw [F2.out (by rw [e];decide),e]
                      clear F1 F2 E5
                      go_wp2
                      go_ret
                      exact ⟨by rw [eN.out,EQ.out];rfl,HN.out⟩
                    · have b2 : (y == 45) = false := by simpa using h4
                      have RL:=hide (show ff (ls.take (k+1))=0 by rw [F1.out,E5.out,if_neg (by rintro (h | h) <;> contradiction)])
                      clear F1 F2 E5
                      go_wp2
                      go_roundw
                      case rel=>exact ⟨trivial,k+1,by omega,by go_num,RL.out⟩
                      case measure=>simp [intOf];omega
        · obtain rfl : k = ls.length := by omega
          rw [List.take_length] at hff
          have HF:=hide hff
          clear hff
          go_wp2
          go_ret
          exact ⟨by rw [eN.out,HF.out];rfl,HN.out⟩
end Go.Proofs.YtmmbkkfjiaoeiaaGreat
namespace Go.Proofs.YtmmbkkfjiaoeiaaGreat
open Go Go.RowKit
end Go.Proofs.YtmmbkkfjiaoeiaaGreat
namespace Go.Proofs.YtmmbkkfjiaoeiaaGreat
open Go Go.RowKit
end Go.Proofs.YtmmbkkfjiaoeiaaGreat
namespace Go.Proofs.YtmmbkkfjiaoeiaaGreat
open Go
end Go.Proofs.YtmmbkkfjiaoeiaaGreat
namespace Go.Proofs.YtmmbkkfjiaoeiaaGreat
open Go Go.RowKit
end Go.Proofs.YtmmbkkfjiaoeiaaGreat
namespace Go.Proofs.YtmmbkkfjiaoeiaaGreat
open Go Go.RowKit
end Go.Proofs.YtmmbkkfjiaoeiaaGreat
namespace Go.Proofs.YtmmbkkfjiaoeiaaGreat
open Go Go.RowKit
theorem tx_add (w:World) (a b:List UInt8) (h:a.length+b.length≤9223372036854775807):(Op.stringOp .add (ByteArray.mk ⟨a⟩) (ByteArray.mk ⟨b⟩)).run Tryz.prog w = .ok (.string ⟨⟨a ++ b⟩⟩) w:=by
 rw [run_string_add_sum w _ _ (by rw [tx_size,tx_size];exact h)]
 have:=ByteArray.mk_append_mk a b
 exact congrArg (fun s=>Result.ok (Value.string s) w) this
end Go.Proofs.YtmmbkkfjiaoeiaaGreat
namespace Go.Proofs.YtmmbkkfjiaoeiaaGreat
open Go Go.RowKit
end Go.Proofs.YtmmbkkfjiaoeiaaGreat
namespace Go.Proofs.YtmmbkkfjiaoeiaaGreat
open Go Go.RowKit
def RdT (w:World) (g:Nat) (a:Option Addr) (ls:List (List UInt8)):Prop :=
 0 < ls.length→∃ off,a=some ⟨g,off,none⟩∧∀ i,i < ls.length→w.cell? ⟨g,off+i,none⟩=some (tx (ls.getD i []))
theorem RdT.nil (w:World) (g:Nat) (a:Option Addr):RdT w g a []:=fun h=>absurd h (by simp)
theorem RdT.lt {w:World} {g:Nat} {a:Option Addr} {ls:List (List UInt8)} (h:RdT w g a ls) (h0:0 < ls.length):g < w.heap.size:=by
 obtain ⟨off,ha,hc⟩:=h h0
 exact block_lt_of_cell (hc 0 h0)
theorem RdT.of_block {w w':World} {g:Nat} {a:Option Addr} {ls:List (List UInt8)} (h:RdT w g a ls) (hb:w'.heap[g]?=w.heap[g]?):RdT w' g a ls:=by
 intro h0
 obtain ⟨off,ha,hc⟩:=h h0
 exact ⟨off,ha,fun i hi=>(World.cell?_of_block (a:=⟨g,off+i,none⟩) hb).trans (hc i hi)⟩
theorem RdT.up {w w':World} {g:Nat} {a:Option Addr} {ls:List (List UInt8)} (h:RdT w g a ls) (hb:Below w.heap.size w w'):RdT w' g a ls:=by
 by_cases h0:0 < ls.length
 ·exact h.of_block (hb.block g (h.lt h0))
 ·exact fun h1=>absurd h1 h0
def BlkT (w:World) (g:Nat) (ls:List (List UInt8)):Prop:=w.heap[g]?=some (.cells (ls.map tx).toArray 9 (0,0))
theorem BlkT.lt {w:World} {g:Nat} {ls:List (List UInt8)} (h:BlkT w g ls):g < w.heap.size:=(Array.getElem?_eq_some_iff.1 h).1
theorem BlkT.cell {w:World} {g:Nat} {ls:List (List UInt8)} (h:BlkT w g ls) {i:Nat} (hi:i < ls.length):w.cell? ⟨g,i,none⟩=some (tx (ls.getD i [])):=by
 rw [cell_of_row w g i _ 9 (0,0) h]
 simp [hi]
theorem BlkT.free {w:World} {g:Nat} {ls:List (List UInt8)} (h:BlkT w g ls) (i:Nat):w.frozen? ⟨g,i,none⟩=false:=frozen_of_row w g i _ 9 h
theorem BlkT.store {w:World} {g:Nat} {ls:List (List UInt8)} (h:BlkT w g ls) (i:Nat) (z:List UInt8):BlkT (w.setCell ⟨g,i,none⟩ (tx z)) g (ls.set i z):=by
 show _=_
 rw [heap_setCell_same w g i _ 9 _ h]
 simp [List.map_set]
theorem BlkT.rd {w:World} {g:Nat} {ls:List (List UInt8)} (h:BlkT w g ls):RdT w g (some ⟨g,0,none⟩) ls:=fun _=>⟨0,rfl,fun i hi=>by rw [Nat.zero_add];exact h.cell hi⟩
theorem BlkT.up {w w':World} {g:Nat} {ls:List (List UInt8)} (h:BlkT w g ls) (hb:Below w.heap.size w w'):BlkT w' g ls:=(hb.block g h.lt).trans h
theorem BlkT.of_made {w : World} {base : Nat} {g n : Nat} (h : w.ownsRow base 9 1 (.slice (some ⟨g, 0, none⟩) n n) n (madeCells (Value.string ⟨#[]⟩).cells (n * 1)).toList) : BlkT w g (List.replicate n []) := by
 rcases h.2 with ⟨h',_⟩ | ⟨g',cap',cur,h',_,hg,_,_,hcs,htake⟩
 ·simp at h'
 ·simp only [Value.slice.injEq, Option.some.injEq, Addr.mk.injEq, and_true, true_and] at h'
  obtain ⟨rfl,rfl⟩:=h'
  show _=_
  rw [hg]
  have:cur=((List.replicate n ([]:List UInt8)).map tx).toArray:=by
   apply Array.ext'
   rw [List.take_of_length_le (by rw [Array.length_toList,hcs];exact Nat.le_refl _)] at htake
   rw [htake]
   apply List.ext_getElem
   ·simp [madeCells]
   ·intro i h1 h2
    simp [madeCells,Value.cells,tx,Nat.mod_one]
  rw [this]
def CopT (xs ys:List (List UInt8)) (k:Nat):Prop:=ys.length=xs.length∧ys.take k=xs.take k
theorem CopT.step {xs ys:List (List UInt8)} {k:Nat} (h:CopT xs ys k) (hk:k < xs.length):CopT xs (ys.set k (xs.getD k [])) (k+1):=by
 refine ⟨by simpa using h.1,?_⟩
 have hk':k < ys.length:=by rw [h.1];exact hk
 rw [List.take_succ_eq_append_getElem (by simpa using hk'),List.take_succ_eq_append_getElem hk,List.take_set]
 rw [List.getElem_set_self,List.set_eq_of_length_le (by rw [List.length_take];omega),h.2]
 simp [hk]
end Go.Proofs.YtmmbkkfjiaoeiaaGreat
namespace Go.Proofs.YtmmbkkfjiaoeiaaGreat
def bval (xs:List Int):Int:=xs.foldl (fun v x=>v*256+x) 0
def dig (xs:List Int) (i:Nat):Int:=if i < xs.length then xs.getD (xs.length - 1 - i) 0 else 0
def hi (xs:List Int) (i:Nat):Int:=bval (xs.take (xs.length - i))
def lo (xs:List Int):Nat→Int
 | 0=>0
 | i+1=>lo xs i+dig xs i*256 ^ i
theorem p256_pos (i:Nat):(0:Int) < 256 ^ i:=Int.pow_pos (by decide)
theorem byt_drop {xs:List Int} (h:Byt xs) (k:Nat):Byt (xs.drop k):=fun i=>by
 have:=h (k+i)
 simpa [List.getElem?_drop] using this
theorem byt_nil:Byt []:=fun i=>by simp
def ZeroTo (xs:List Int) (k:Nat):Prop:=∀ j,j < k→xs.getD j 0=0
theorem ZeroTo.step {xs:List Int} {k:Nat} (h:ZeroTo xs k) (h0:xs.getD k 0=0):ZeroTo xs (k+1):=fun j hj=>by
 by_cases e:j=k
 ·rw [e];exact h0
 ·exact h j (by omega)
end Go.Proofs.YtmmbkkfjiaoeiaaGreat
namespace Go.Proofs.YtmmbkkfjiaoeiaaGreat
open Go.RowKit
end Go.Proofs.YtmmbkkfjiaoeiaaGreat
namespace Go.Proofs.YtmmbkkfjiaoeiaaGreat
open Go.RowKit
theorem Tryz.info5:(Tryz.prog.info? 5).map (fun i=>(i.zero,i.size,i.bytes))=some (some (.int .u8 0),1,1):=by kernel_rfl
def CopyTo (xs ys:List Int) (k:Nat):Prop:=ys.length=xs.length∧∀ j,j < k→ys.getD j 0=xs.getD j 0
theorem CopyTo.zero (xs:List Int):CopyTo xs (List.replicate xs.length 0) 0:=⟨by simp,fun j h=>absurd h (by omega)⟩
theorem CopyTo.step {xs ys:List Int} {k:Nat} (h:CopyTo xs ys k) (hk:k < xs.length):CopyTo xs (ys.set k (xs.getD k 0)) (k+1):=by
 refine ⟨by simpa using h.1,fun j hj=>?_⟩
 by_cases e:k=j
 ·subst e
  rw [getD_set_self _ _ _ (by rw [h.1];exact hk)]
 ·rw [getD_set_ne _ _ _ _ e]
  exact h.2 j (by omega)
theorem CopyTo.all {xs ys:List Int} (h:CopyTo xs ys xs.length):ys=xs:=eq_of_getD h.1 (fun i hi=>h.2 i (by rw [← h.1];exact hi))
def marks (k:Int) (n:Nat):List Int:=(List.range n).map fun i:Nat=>(k+(i:Int)) % 256
theorem marks_len (k:Int) (n:Nat):(marks k n).length=n:=by simp [marks]
theorem marks_get (k:Int) (n i:Nat) (h:i < n):(marks k n).getD i 0=(k+(i:Int)) % 256:=by simp [marks,h]
def MarkTo (k:Int) (ys:List Int) (n j:Nat):Prop:=ys.length=n∧∀ i,i < j→ys.getD i 0=(k+(i:Int)) % 256
theorem MarkTo.step {k:Int} {ys:List Int} {n j:Nat} (h:MarkTo k ys n j) (hj:j < n):MarkTo k (ys.set j ((k+(j:Int)) % 256)) n (j+1):=by
 refine ⟨by simpa using h.1,fun i hi=>?_⟩
 by_cases e:j=i
 ·subst e
  rw [getD_set_self _ _ _ (by rw [h.1];exact hj)]
 ·rw [getD_set_ne _ _ _ _ e]
  exact h.2 i (by omega)
theorem MarkTo.all {k:Int} {ys:List Int} {n:Nat} (h:MarkTo k ys n n):ys=marks k n :=
 eq_of_getD (by rw [h.1,marks_len]) (fun i hi=>by rw [h.1] at hi;rw [h.2 i hi,marks_get k n i hi])
end Go.Proofs.YtmmbkkfjiaoeiaaGreat
