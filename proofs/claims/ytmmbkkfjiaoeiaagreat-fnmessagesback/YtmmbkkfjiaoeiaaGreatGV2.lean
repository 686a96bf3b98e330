import Derived.Test.YtmmbkkfjiaoeiaaGreatGV1
import Derived.Laws.BytesString
import Derived.Deep.MidRow
import Derived.Laws.AppendOwnNone
import Derived.Lib.AppendZeros
import Derived.Deep.Cut
namespace Go.Proofs.YtmmbkkfjiaoeiaaGreat
open Go.RowKit
structure But (g:Nat) (w w':World):Prop where
 os:w'.os=w.os
 tape:w'.tape=w.tape
 output:w'.output=w.output
 size:w.heap.size≤w'.heap.size
 block:∀ k,k < w.heap.size→k≠g→w'.heap[k]?=w.heap[k]?
theorem But.of {g:Nat} {a b c:World} (h:Below a.heap.size a b) (k:Only g b c):But g a c :=
 ⟨k.os.trans h.os,k.tape.trans h.tape,k.output.trans h.output,by rw [k.size];exact h.size,fun i hi hne=>(k.block i hne).trans (h.block i hi)⟩
theorem But.below {g B:Nat} {w w':World} (h:But g w w') (hB:B≤g) (hs:B≤w.heap.size):Below B w w':=⟨h.os,h.tape,h.output,h.size,fun k hk=>h.block k (by omega) (by omega)⟩
theorem Own.but {w w':World} {g g':Nat} {a:Option Addr} {k:IntKind} {xs:List Int} (h:Own w g a k xs) (ho:But g' w w') (hne:0 < xs.length→g≠g'):Own w' g a k xs:=by
 by_cases h0:0 < xs.length
 ·exact h.of_block (ho.block g (h.rd.lt h0) (hne h0))
 ·exact fun h1=>absurd h1 h0
def str (xs:List Int):ByteArray:=xs.foldl (fun r n=>r.push (UInt8.ofNat n.toNat)) ByteArray.empty
theorem conv_run (w : World) (g : Nat) (a : Option Addr) (c : Nat) (xs : List Int) (hr : Rd w g a .u8 xs) : (convert 22 9 (.slice a xs.length c)).run Tryz.prog w = .ok (.string (str xs)) w := by
  rw [run_convert_bytes_string w 22 9 5 a xs.length c Tryz.underlying22 Tryz.underlying5 Tryz.underlying9]
  cases a with
  | none =>
    obtain rfl:xs=[]:=by
      by_cases h0:0 < xs.length
      · obtain ⟨off, h, _⟩ := hr h0
        simp at h
      · exact List.eq_nil_of_length_eq_zero (by omega)
    simp [Conv.bytesToString,str]
  | some ad =>
    have hl:=run_loadCells_list (P:=Tryz.prog) w ad (xs.map (Value.int .u8)) (fun j v hj=>by
      have hjl:j < xs.length:=by
        have:=(List.getElem?_eq_some_iff.1 hj).1
        simpa using this
      obtain ⟨off,ha,hcc⟩:=hr (by omega)
      simp only [Option.some.injEq] at ha
      subst ha
      rw [add_mid,hcc j hjl]
      simpa [hjl] using hj)
    rw [List.length_map] at hl
    exact run_bytesToString w ad xs.length c xs hl
set_option maxHeartbeats 400000 in
theorem lwSame_same (w:World) (g g':Nat) (a b:Option Addr) (ca cb:Nat) (xs:List Int) (ha:Rd w g a .u8 xs) (hb:Rd w g' b .u8 xs) :
  Calls Tryz.prog 13 #[.slice a xs.length ca,.slice b xs.length cb] w fun e w'=>e = .returned (.bool true)∧w'=w:=by
 have h1:=conv_run w g a ca xs ha
 have h2:=conv_run w g' b cb xs hb
 generalize str xs=s at *
 go_enter Tryz.func13,Tryz.ntmps13
 go_wp2
 go_ret
 exact ⟨by simp,rfl⟩
structure Src (w:World) (s:Nat) (a:Option Addr) (n c:Nat) (at_:Int):Prop where
 code:w.cell? ⟨s,0,none⟩=some (.slice a n c)
 at_:w.cell? ⟨s,1,none⟩=some (.int .i64 at_)
 free:w.frozen? ⟨s,1,none⟩=false
theorem Src.lt {w:World} {s:Nat} {a:Option Addr} {n c:Nat} {t:Int} (h:Src w s a n c t):s < w.heap.size:=block_lt_of_cell h.code
theorem Src.of_block {w w':World} {s:Nat} {a:Option Addr} {n c:Nat} {t:Int} (h:Src w s a n c t) (hb:w'.heap[s]?=w.heap[s]?):Src w' s a n c t :=
 ⟨(World.cell?_of_block (a:=⟨s,0,none⟩) hb).trans h.code,(World.cell?_of_block (a:=⟨s,1,none⟩) hb).trans h.at_,(World.frozen?_of_block (a:=⟨s,1,none⟩) hb).trans h.free⟩
theorem Src.up {w w':World} {s:Nat} {a:Option Addr} {n c:Nat} {t:Int} (h:Src w s a n c t) (hb:Below w.heap.size w w'):Src w' s a n c t:=h.of_block (hb.block s h.lt)
theorem Src.step {w:World} {s:Nat} {a:Option Addr} {n c:Nat} {t:Int} (h:Src w s a n c t) (u:Int) (m:Nat):Src ((w.setCell ⟨s,1,none⟩ (.int .i64 u)).drewN m) s a n c u:=by
 refine ⟨?_,?_,?_⟩
 ·rw [World.cell?_drewN,World.cell?_setCell_other (h:=by simp)];exact h.code
 ·rw [World.cell?_drewN,World.cell?_setCell_same _ _ _ h.at_]
 ·rw [World.frozen?_drewN,World.frozen?_setCell];exact h.free
theorem Only.step (w:World) (s:Nat) (u:Value) (m:Nat):Only s w ((w.setCell ⟨s,1,none⟩ u).drewN m):=(Only.setCell w s 1 u).trans (Only.drewN _ _ _)
set_option maxHeartbeats 2000000 in
theorem l1Next_any (w:World) (s g:Nat) (a:Option Addr) (c:Nat) (xs:List Int) (t n:Int) (hs:Src w s a xs.length c t) (hr:Rd w g a .u8 xs) (hne:0 < xs.length→g≠s) (hb:Byt xs) (hl:xs.length≤1048576)
  (t0:0≤t) (t1:t≤1048576) (n0:1≤n) (n1:n≤1099511627776) :
  Calls Tryz.prog 29 #[.pointer (some ⟨s,0,none⟩),.int .i64 n] w fun e w'=>∃ r,e = .returned (.int .i64 r)∧(0≤r∧r < n)∧Src w' s a xs.length c (t+1)∧Only s w w':=by
 have c0:=hs.code
 have c1:=hs.at_
 have f1:=hs.free
 have k1:(w.setCell ⟨s,1,none⟩ (.int .i64 (t+1))).cell? ⟨s,1,none⟩=some (.int .i64 (t+1)):=World.cell?_setCell_same _ _ _ hs.at_
 have k0:(w.setCell ⟨s,1,none⟩ (.int .i64 (t+1))).cell? ⟨s,0,none⟩=some (.slice a xs.length c):=by rw [World.cell?_setCell_other (h:=by simp)];exact hs.code
 have tn:decide (n < 1)=false:=by simp;omega
 by_cases h0:xs.length=0
 ·have hk : ((xs.length : Int) == 0) = true := by simp [h0]
  have r0:=Int.emod_nonneg (t*7) (show n≠0 by omega)
  have r1:=Int.emod_lt_of_pos (t*7) (show 0 < n by omega)
  have S:=hs.step (t+1) 0
  have O:=Only.step w s (.int .i64 (t+1)) 0
  clear h0
  go_enter Tryz.func29,Tryz.ntmps29
  go_wp2
  go_ret
  exact ⟨_,rfl,⟨r0,r1⟩,S,O⟩
 ·have hk : ((xs.length : Int) == 0) = false := beq_eq_false_iff_ne.2 (by omega)
  obtain ⟨off,rfl,hc⟩:=hr (by omega)
  have gs:g≠s:=hne (by omega)
  obtain ⟨i1,hi1⟩:=Int.eq_ofNat_of_zero_le (Int.emod_nonneg t (show (xs.length:Int)≠0 by omega))
  have li1:(i1:Int) < (xs.length:Int):=by rw [← hi1];exact Int.emod_lt_of_pos _ (by omega)
  obtain ⟨i2,hi2⟩:=Int.eq_ofNat_of_zero_le (Int.emod_nonneg (t+1) (show (xs.length:Int)≠0 by omega))
  have li2:(i2:Int) < (xs.length:Int):=by rw [← hi2];exact Int.emod_lt_of_pos _ (by omega)
  obtain ⟨q,hq⟩:∃ q,t / (xs.length:Int)=q:=⟨_,rfl⟩
  have q0:0≤q:=by rw [← hq];exact Int.ediv_nonneg t0 (by omega)
  have q1:q≤1048576:=by rw [← hq];exact Int.le_trans (Int.ediv_le_self _ t0) t1
  have x1:(w.setCell ⟨s,1,none⟩ (.int .i64 (t+1))).cell? ⟨g,off+i1,none⟩=some (.int .u8 (xs.getD i1 0)):=by rw [World.cell?_setCell_other (h:=fun e=>gs (by simpa using (congrArg Addr.block e).symm))];exact hc i1 (by omega)
  have x2:(w.setCell ⟨s,1,none⟩ (.int .i64 (t+1))).cell? ⟨g,off+i2,none⟩=some (.int .u8 (xs.getD i2 0)):=by rw [World.cell?_setCell_other (h:=fun e=>gs (by simpa using (congrArg Addr.block e).symm))];exact hc i2 (by omega)
  have b1:=hb i1
  have b2:=hb i2
  have S:=fun m=>hs.step (t+1) m
  have O:=fun m=>Only.step w s (.int .i64 (t+1)) m
  generalize xs.getD i1 0=x at *
  generalize xs.getD i2 0=y at *
  clear hc hs hr h0
  by_cases hn:n≤200
  ·have tn2 : decide (200 < n) = false := by simp; omega
   have r0:=Int.emod_nonneg (x+q*37) (show n≠0 by omega)
   have r1:=Int.emod_lt_of_pos (x+q*37) (show 0 < n by omega)
   clear x2 hi2 li2 b2
   go_enter Tryz.func29,Tryz.ntmps29
   go_wp2
   go_quiet (fail)
   go_wp2
   go_ret
   exact ⟨_,rfl,⟨r0,r1⟩,S _,O _⟩
  ·have tn2 : decide (200 < n) = true := by simp; omega
   have r0:=Int.emod_nonneg ((x+q*37)*251+y*13+t) (show n≠0 by omega)
   have r1:=Int.emod_lt_of_pos ((x+q*37)*251+y*13+t) (show 0 < n by omega)
   go_enter Tryz.func29,Tryz.ntmps29
   go_wp2
   go_quiet (fail)
   go_wp2
   go_quiet (fail)
   go_wp2
   go_ret
   exact ⟨_,rfl,⟨r0,r1⟩,S _,O _⟩
theorem But.refl (g:Nat) (w:World):But g w w:=⟨rfl,rfl,rfl,Nat.le_refl _,fun _ _ _=>rfl⟩
theorem But.only {g:Nat} {a b c:World} (h:But g a b) (k:Only g b c):But g a c :=
 ⟨k.os.trans h.os,k.tape.trans h.tape,k.output.trans h.output,by rw [k.size];exact h.size,fun i hi hne=>(k.block i hne).trans (h.block i hi hne)⟩
theorem But.grown {g:Nat} {a b c:World} {row:Option Nat} (h:But g a b) (k:b.grownBy c row) (hr:∀ i,row=some i→a.heap.size≤i):But g a c :=
 ⟨k.os.trans h.os,k.tape.trans h.tape,k.output.trans h.output,Nat.le_trans h.size k.size,fun i hi hne=>(k.block i (Nat.lt_of_lt_of_le hi h.size) (fun e=>by have:=hr i e.symm;omega)).trans (h.block i hi hne)⟩
theorem But.trans {g:Nat} {a b c:World} (h:But g a b) (k:But g b c):But g a c :=
 ⟨k.os.trans h.os,k.tape.trans h.tape,k.output.trans h.output,Nat.le_trans h.size k.size,fun i hi hne=>(k.block i (Nat.lt_of_lt_of_le hi h.size) hne).trans (h.block i hi hne)⟩
theorem But.ofBelow {g:Nat} {a b:World} (h:Below a.heap.size a b):But g a b:=⟨h.os,h.tape,h.output,h.size,fun i hi _=>h.block i hi⟩
theorem But.ofOnly {g:Nat} {a b:World} (h:Only g a b):But g a b:=(But.refl g a).only h
theorem Rd.but {w w':World} {g g':Nat} {a:Option Addr} {k:IntKind} {xs:List Int} (h:Rd w g a k xs) (ho:But g' w w') (hne:0 < xs.length→g≠g'):Rd w' g a k xs:=by
 by_cases h0:0 < xs.length
 ·exact h.of_block (ho.block g (h.lt h0) (hne h0))
 ·exact fun h1=>absurd h1 h0
theorem Only.grown {g:Nat} {a b:World} (h:Only g a b):a.grownBy b (some g):=⟨h.os,h.tape,h.output,Nat.le_of_eq h.size.symm,fun k _ hne=>h.block k (fun e=>hne (by rw [e]))⟩
theorem byt_snoc {ys:List Int} (h:Byt ys) (x:Int) (h0:0≤x) (h1:x < 256):Byt (ys ++ [x]):=by
 intro i
 by_cases hi:i < ys.length
 ·have := h i
  simpa [List.getElem?_append,hi] using this
 ·by_cases e : i = ys.length
  ·subst e;simp;exact ⟨h0,h1⟩
  ·rw [List.getD_eq_getElem?_getD, List.getElem?_eq_none (by simp; omega)]
   decide
theorem But.setCell {g b off:Nat} {a w:World} {u:Value} (h:But g a w) (hb:a.heap.size≤b):But g a (w.setCell ⟨b,off,none⟩ u) :=
 ⟨h.os,h.tape,h.output,by simpa [World.setCell] using h.size,fun k hk hne=>(heap_setCell_other w ⟨b,off,none⟩ k u (by show k≠b;omega)).trans (h.block k hk hne)⟩
set_option maxHeartbeats 400000 in
theorem l1Chance_any (w:World) (s g:Nat) (a:Option Addr) (c:Nat) (xs:List Int) (t n:Int) (hs:Src w s a xs.length c t) (hr:Rd w g a .u8 xs) (hne:0 < xs.length→g≠s) (hb:Byt xs) (hl:xs.length≤1048576)
  (t0:0≤t) (t1:t≤1048576) (n0:1≤n) (n1:n≤1048576) :
  Calls Tryz.prog 27 #[.pointer (some ⟨s,0,none⟩),.int .i64 n] w fun e w'=>∃ b,e = .returned (.bool b)∧Src w' s a xs.length c (t+1)∧Only s w w':=by
 go_enter Tryz.func27,Tryz.ntmps27
 go_wp2_with fail
 refine (l1Next_any w s g a c xs t n hs hr hne hb hl t0 t1 n0 (by omega)).mono ?_
 rintro e w1 ⟨r,rfl,_,S1,O1⟩
 go_wp2
 go_ret
 exact ⟨_,rfl,S1,O1⟩
end Go.Proofs.YtmmbkkfjiaoeiaaGreat
namespace Go.Proofs.YtmmbkkfjiaoeiaaGreat
def fits (n:Nat) (v:Int):Bool:=decide (-(2 ^ (8*n - 1))≤v∧v < 2 ^ (8*n - 1))
def Bts (x:Int) (L:Nat):Prop:=0≤x∧x < 2 ^ L∧(L=0∨2 ^ (L - 1)≤x)
theorem Bts.le {x:Int} {L k:Nat} (h:Bts x L) (hx:x < 2 ^ k):L≤k:=by
 by_cases c:L≤k
 ·exact c
 ·rcases h.2.2 with h0 | h0
  ·omega
  ·have : (2 : Int) ^ k ≤ 2 ^ (L - 1) := by exact_mod_cast Nat.pow_le_pow_right (by decide) (by omega)
   omega
end Go.Proofs.YtmmbkkfjiaoeiaaGreat
namespace Go.Proofs.YtmmbkkfjiaoeiaaGreat
open Go Go.RowKit
set_option maxHeartbeats 400000 in
theorem l1SourceX_any (w:World) (a:Option Addr) (n c:Nat) (hn:n≤4194304) :
  Calls Tryz.prog 15 #[.slice a n c] w fun e w'=>e = .returned (.pointer (some ⟨w.heap.size,0,none⟩))∧Src w' w.heap.size a n c 0∧Below w.heap.size w w':=by
 by_cases h:12 < (n:Int) / 16
 ·have t1 : decide (12 < (n : Int) / 16) = true := by simp; omega
  go_enter Tryz.func15,Tryz.ntmps15
  go_wp2
  go_ret
  exact ⟨rfl,⟨by simp [World.cell?_alloc_at],by simp [World.cell?_alloc_at],by simp [World.frozen?_alloc_at]⟩,(Below.refl _ _).alloc (Nat.le_refl _) _⟩
 ·have t1 : decide (12 < (n : Int) / 16) = false := by simp; omega
  go_enter Tryz.func15,Tryz.ntmps15
  go_wp2
  go_ret
  exact ⟨rfl,⟨by simp [World.cell?_alloc_at],by simp [World.cell?_alloc_at],by simp [World.frozen?_alloc_at]⟩,(Below.refl _ _).alloc (Nat.le_refl _) _⟩
end Go.Proofs.YtmmbkkfjiaoeiaaGreat
namespace Go.Proofs.YtmmbkkfjiaoeiaaGreat
open Go.RowKit
def RowB (w:World) (base:Nat) (v:Value) (xs:List Int):Prop:=w.ownsRow base 5 1 v xs.length (xs.map (Value.int .u8))
theorem RowB.up {w w':World} {base:Nat} {v:Value} {xs:List Int} (h:RowB w base v xs) (hb:Below w.heap.size w w'):RowB w' base v xs:=by
 refine ⟨h.1,?_⟩
 rcases h.2 with h' | ⟨g,cap,cur,rfl,hbg,hg,hnc,hcm,hcs,ht⟩
 ·exact .inl h'
 ·exact .inr ⟨g,cap,cur,rfl,hbg,by rw [hb.block g ((Array.getElem?_eq_some_iff.1 hg).1)];exact hg,hnc,hcm,hcs,ht⟩
theorem RowB.only {w w':World} {base q:Nat} {v:Value} {xs:List Int} (h:RowB w base v xs) (hb:Only q w w') (hq:q < base):RowB w' base v xs:=by
 refine ⟨h.1,?_⟩
 rcases h.2 with h' | ⟨g,cap,cur,rfl,hbg,hg,hnc,hcm,hcs,ht⟩
 ·exact .inl h'
 ·exact .inr ⟨g,cap,cur,rfl,hbg,by rw [hb.block g (by omega)];exact hg,hnc,hcm,hcs,ht⟩
theorem RowB.base {w:World} {base base':Nat} {v:Value} {xs:List Int} (h:RowB w base v xs) (hb:base'≤base):RowB w base' v xs:=by
 refine ⟨h.1,?_⟩
 rcases h.2 with h' | ⟨g,cap,cur,rfl,hbg,hg,hnc,hcm,hcs,ht⟩
 ·exact .inl h'
 ·exact .inr ⟨g,cap,cur,rfl,by omega,hg,hnc,hcm,hcs,ht⟩
theorem RowB.own {w:World} {base:Nat} {v:Value} {xs:List Int} (h:RowB w base v xs) :
  ∃ (a:Option Addr) (c g:Nat),v = .slice a xs.length c∧Own w g a .u8 xs∧(a=none→c=0)∧xs.length≤c∧base≤g:=Own.of_ownsRow h
theorem append_any {P : Program} (w : World) (ty : TypeId) (i : TypeInfo) (ht : P.underlying 22 = some (.slice 5)) (hi : P.info? 5 = some i) (hz : i.zero = some (.int .u8 0)) (hsize : i.size = 1) (hby : i.bytes = 1)
    (base B:Nat) (v:Value) (xs:List Int) (hown:RowB w base v xs) (g:Nat) (a:Option Addr) (c:Nat) (us:List Int) (hr:Rd w g a .u8 us) (hc:a=none→c=0) (hl:xs.length+us.length≤1099511627776) (hB:B≤base) (hbase:base≤w.heap.size) :
    ∃ v' w',(Builtin.append_ #[22,22] ty #[v,.slice a us.length c]).run P w = .ok v' w'∧RowB w' base v' (xs ++ us)∧Below B w w':=by
  cases a with
  | none =>
    obtain rfl:us=[]:=by
      by_cases h0:0 < us.length
      · obtain ⟨off, h, _⟩ := hr h0
        simp at h
      · exact List.eq_nil_of_length_eq_zero (by omega)
    obtain rfl:=hc rfl
    exact ⟨v,w,run_append_owned_none (P:=P) (w:=w) base 22 ty 5 i 1 ht hi v _ _ hown,by rw [List.append_nil];exact hown,Below.refl _ _⟩
  | some ad =>
    have hcell:∀ j u,(us.map (Value.int .u8))[j]?=some u→w.cell? (ad.add j)=some u:=by
      intro j u hj
      have hjl:j < us.length:=by
        have:=(List.getElem?_eq_some_iff.1 hj).1
        simpa using this
      obtain ⟨off,ha,hcc⟩:=hr (by omega)
      simp only [Option.some.injEq] at ha
      subst ha
      rw [Addr.add_mid,hcc j hjl]
      simpa [hjl] using hj
    have hone:∀ u ∈ us.map (Value.int .u8),u.oneCell'=true:=by
      intro u hu
      obtain ⟨x,_,rfl⟩:=List.mem_map.1 hu
      rfl
    obtain ⟨v',w',h1,h2,h3,_⟩:=run_append_own (P:=P) w base 22 ty 5 i (.int .u8 0) 1 1 ht hi hz hsize hby rfl (by decide) v xs.length (xs.map (Value.int .u8)) hown ad us.length c (us.map (Value.int .u8)) (by simp) hcell hone (by unfold maxLen;omega) (by omega) hbase
    refine ⟨v',w',h1,?_,(Below.refl B w).grown h3 (by omega) (fun k hk=>by have:=(World.ownsRow.lt hown k hk).1;omega)⟩
    show w'.ownsRow base 5 1 v' (xs ++ us).length ((xs ++ us).map (Value.int .u8))
    rw [List.length_append,List.map_append]
    exact h2
theorem RowB.lit0 (w:World):RowB (w.alloc (.cells #[] 5)) w.heap.size (.slice (some ⟨w.heap.size,0,none⟩) 0 0) [] :=
 World.ownsRow_lit w #[] 0 (Nat.le_refl _) (by unfold maxLen;omega) (by simp)
theorem RowB.lit1 (w:World) (x:Int):RowB (w.alloc (.cells #[.int .u8 x] 5)) w.heap.size (.slice (some ⟨w.heap.size,0,none⟩) 1 1) [x] :=
 World.ownsRow_lit w #[.int .u8 x] 1 (Nat.le_refl _) (by unfold maxLen;omega) (by simp)
theorem RowB.rd {w:World} {base:Nat} {v:Value} {xs:List Int} (h:RowB w base v xs):∃ (a:Option Addr) (c g:Nat),v = .slice a xs.length c∧Rd w g a .u8 xs∧(a=none→c=0)∧xs.length≤c∧base≤g:=by
 obtain ⟨a,c,g,h1,h2,h3⟩:=h.own
 exact ⟨a,c,g,h1,h2.rd,h3⟩
theorem blk_lit1 (w:World) (k:IntKind) (e:TypeId) (x:Int):Blk (w.alloc (.cells #[.int k x] e)) w.heap.size k [x]:=by
 refine ⟨e,?_⟩
 show (w.heap.push _)[w.heap.size]?=_
 simp
end Go.Proofs.YtmmbkkfjiaoeiaaGreat
namespace Go.Proofs.YtmmbkkfjiaoeiaaGreat
open Go.RowKit
def bigL (v:Int) (t:Nat):List Int:=(List.range t).map fun j=>v / 256 ^ (t - 1 - j) % 256
theorem bigL_len (v:Int) (t:Nat):(bigL v t).length=t:=by simp [bigL]
theorem bigL_get (v:Int) (t j:Nat) (h:j < t):(bigL v t).getD j 0=v / 256 ^ (t - 1 - j) % 256:=by simp [bigL,h]
theorem bigL_byt (v:Int) (t:Nat):Byt (bigL v t):=by
 intro j
 by_cases h:j < t
 ·rw [bigL_get v t j h]
  omega
 ·have : (bigL v t).getD j 0 = 0 := by
   rw [List.getD_eq_getElem?_getD,List.getElem?_eq_none (by rw [bigL_len];omega)]
   rfl
  rw [this]
  omega
def BigTo (v:Int) (t:Nat) (ys:List Int) (k:Nat):Prop:=ys.length=t∧∀ j,t - k≤j→j < t→ys.getD j 0=v / 256 ^ (t - 1 - j) % 256
theorem BigTo.zero (v:Int) (t:Nat):BigTo v t (List.replicate t 0) 0:=⟨by simp,fun j h h'=>absurd h (by omega)⟩
theorem BigTo.step {v:Int} {t:Nat} {ys:List Int} {k:Nat} (h:BigTo v t ys k) (hk:k < t):BigTo v t (ys.set (t - 1 - k) (v / 256 ^ k % 256)) (k+1):=by
 refine ⟨by simpa using h.1,fun j hj hj'=>?_⟩
 by_cases e:t - 1 - k=j
 ·subst e
  rw [getD_set_self _ _ _ (by rw [h.1];omega),show t - 1 - (t - 1 - k)=k by omega]
 ·rw [getD_set_ne _ _ _ _ e]
  exact h.2 j (by omega) hj'
theorem BigTo.all {v:Int} {t:Nat} {ys:List Int} (h:BigTo v t ys t):ys=bigL v t :=
 eq_of_getD (by rw [h.1,bigL_len]) (fun i hi=>by rw [h.1] at hi;rw [h.2 i (by omega) hi,bigL_get v t i hi])
theorem div256 (v:Int) (k:Nat):v / 256 ^ k / 256=v / 256 ^ (k+1):=by
 have h0:=p256_pos k
 rw [Int.ediv_ediv_of_nonneg (by omega),← Int.pow_succ]
theorem getD_apd_right (xs ys:List Int) (i:Nat) (h:xs.length≤i):(xs ++ ys).getD i 0=ys.getD (i - xs.length) 0:=by
 rw [List.getD_eq_getElem?_getD,List.getElem?_append_right h,← List.getD_eq_getElem?_getD]
def padZ (n:Int) (B t:Nat):Nat:=(((B:Int) - (n+1+(t:Int)) % (B:Int)) % (B:Int)).toNat
def padL (n:Int) (B t:Nat):List Int:=128 :: (List.replicate (padZ n B t) 0 ++ bigL (8*n) t)
theorem padL_len (n:Int) (B t:Nat):(padL n B t).length=1+padZ n B t+t:=by
 unfold padL
 simp [bigL_len]
 omega
theorem byt_cons {x:Int} {xs:List Int} (h0:0≤x) (h1:x < 256) (h:Byt xs):Byt (x :: xs):=by
 intro j
 cases j with
 | zero=>exact ⟨h0,h1⟩
 | succ j=>exact h j
theorem byt_apd {xs ys:List Int} (h:Byt xs) (k:Byt ys):Byt (xs ++ ys):=by
 intro j
 rw [List.getD_eq_getElem?_getD]
 by_cases c:j < xs.length
 ·rw [List.getElem?_append_left c, ← List.getD_eq_getElem?_getD]
  exact h j
 ·rw [List.getElem?_append_right (by omega), ← List.getD_eq_getElem?_getD]
  exact k _
def padS (n:Int) (B t:Nat):Nat:=1+padZ n B t+t
def PadTo (n:Int) (s:Nat) (ys:List Int) (k:Nat):Prop :=
 ys.length=s∧ys.getD 0 0=128∧(∀ j,0 < j→j < s - k→ys.getD j 0=0)∧∀ j,s - k≤j→j < s→ys.getD j 0=8*n / 256 ^ (s - 1 - j) % 256
theorem PadTo.zero (n:Int) (s:Nat) (h:0 < s):PadTo n s ((List.replicate s 0).set 0 128) 0:=by
 refine ⟨by simp,?_,fun j h0 hj=>?_,fun j hj hj'=>absurd hj (by omega)⟩
 ·rw [getD_set_self _ _ _ (by simpa using h)]
 ·rw [getD_set_ne _ _ _ _ (by omega)]
  rw [List.getD_eq_getElem?_getD,List.getElem?_replicate]
  split <;> rfl
theorem PadTo.step {n:Int} {s:Nat} {ys:List Int} {k:Nat} (h:PadTo n s ys k) (hk:k+1 < s):PadTo n s (ys.set (s - 1 - k) (8*n / 256 ^ k % 256)) (k+1):=by
 obtain ⟨h1,h2,h3,h4⟩:=h
 refine ⟨by simpa using h1,?_,fun j h0 hj=>?_,fun j hj hj'=>?_⟩
 ·rw [getD_set_ne _ _ _ _ (by omega)]
  exact h2
 ·rw [getD_set_ne _ _ _ _ (by omega)]
  exact h3 j h0 (by omega)
 ·by_cases e : s - 1 - k = j
  ·subst e
   rw [getD_set_self _ _ _ (by rw [h1];omega),show s - 1 - (s - 1 - k)=k by omega]
  ·rw [getD_set_ne _ _ _ _ e]
   exact h4 j (by omega) hj'
theorem PadTo.all {n : Int} {B t : Nat} {ys : List Int} (h0 : 0 ≤ n) (h1 : n ≤ 1099511627776) (ht : t = 8 ∨ t = 16) (h : PadTo n (padS n B t) ys 8) : ys = padL n B t := by
  obtain ⟨a1,a2,a3,a4⟩:=h
  refine eq_of_getD (by rw [a1,padL_len];rfl) (fun i hi=>?_)
  rw [a1] at hi
  have hs:padS n B t=1+padZ n B t+t:=rfl
  unfold padL
  cases i with
  | zero=>rw [a2];rfl
  | succ i =>
    rw [List.getD_cons_succ]
    by_cases c:i < padZ n B t
    · rw [a3 _ (by omega) (by omega), List.getD_eq_getElem?_getD, List.getElem?_append_left (by simpa using c), List.getElem?_replicate, if_pos c]
      rfl
    · rw [getD_apd_right (List.replicate (padZ n B t) 0) _ i (by simpa using c), List.length_replicate, bigL_get _ _ _ (by omega)]
      by_cases d:padS n B t - 8≤i+1
      · rw [a4 _ d hi,show padS n B t - 1 - (i+1)=t - 1 - (i - padZ n B t) by omega]
      · rw [a3 _ (by omega) (by omega)]
        obtain ⟨e,he⟩:∃ e,t - 1 - (i - padZ n B t)=8+e:=⟨t - 1 - (i - padZ n B t) - 8,by omega⟩
        rw [he,Int.pow_add]
        have hp:=p256_pos e
        have hz:8*n / ((256:Int) ^ 8*256 ^ e)=0:=by
          refine Int.ediv_eq_zero_of_lt (by omega) ?_
          have:(256:Int) ^ 8*1≤256 ^ 8*256 ^ e:=Int.mul_le_mul_of_nonneg_left (by omega) (by decide)
          have:(256:Int) ^ 8=18446744073709551616:=by decide
          omega
        rw [hz]
        rfl
end Go.Proofs.YtmmbkkfjiaoeiaaGreat
namespace Go.Proofs.YtmmbkkfjiaoeiaaGreat
open Go Go.RowKit
theorem bigL_takeN (n:Int) (t k:Nat) (h:k < t):(bigL n t).take (k+1)=(bigL n t).take k ++ [n / 256 ^ (t - 1 - k) % 256]:=by
 rw [List.take_add_one]
 simp [bigL,h]
set_option maxHeartbeats 4000000 in
theorem appendNum_any (w : World) (base : Nat) (v : Value) (xs : List Int) (R0 : RowB w base v xs) (hb : base ≤ w.heap.size) (n : Int) (t : Nat) (ht : t ≤ 8) (hl : xs.length ≤ 1073741824) :
  Calls Tryz.prog 17 #[v,.int .i64 n,.int .i64 (t:Int)] w fun e w'=>∃ v',e = .returned v'∧RowB w' base v' (xs ++ bigL n t)∧Below base w w':=by
 obtain ⟨i0,hi,hz0,hz1,hz2⟩:=info_parts Tryz.info5
 go_enter Tryz.func17,Tryz.ntmps17
 go_wp2
 go_loopw [0,7,9] (fun l _ i wr=>∃ k:Nat,k≤t∧i = .int .i64 k∧RowB wr base l (xs ++ (bigL n t).take k)∧Below base w wr) (fun _ _ i _=>t - (intOf i).toNat)
 case atStart=>exact ⟨0,Nat.zero_le _,rfl,by simpa using R0,Below.refl _ _⟩
 case round =>
  obtain ⟨k,hk,rfl,R,hN⟩:=hrel
  by_cases hlt:k < t
  ·have hs := hN.size
   have bt:=bigL_takeN n t k hlt
   obtain ⟨x,hx⟩:∃ x,x=n / 256 ^ (t - 1 - k) % 256:=⟨_,rfl⟩
   rw [← hx] at bt
   have BT:=hide bt
   clear bt
   have n2:Below wr.heap.size wr (wr.alloc (.cells #[.int .u8 x] 5)):=(Below.refl _ _).alloc (Nat.le_refl _) _
   obtain ⟨v3,w3,hap3,R3,n3⟩:=append_any (P:=Tryz.prog) (wr.alloc (.cells #[.int .u8 x] 5)) 22 i0 Tryz.underlying22 hi hz0 hz1 hz2 base base _ _ (R.up n2) _ _ 1 [x] (blk_lit1 wr .u8 5 x).own0.rd (by simp) (by simp;omega) (Nat.le_refl _) (by simp;omega)
   rw [List.append_assoc,← BT.out] at R3
   have N3:=(hN.trans (n2.mono (by omega))).trans n3
   clear R n2 n3 hN BT
   have k1:(k:Int) < (t:Int):=by omega
   obtain ⟨d,hd⟩:∃ d,d=t - 1 - k:=⟨_,rfl⟩
   rw [← hd] at hx
   rcases (by omega:d=0∨d=1∨d=2∨d=3∨d=4∨d=5∨d=6∨d=7) with rfl | rfl | rfl | rfl | rfl | rfl | rfl | rfl
   ·have he : (t : Int) - 1 - (k : Int) = 0 := by omega
    clear hd
    simp at hx
    replace hx:=hx.symm
    go_wp2_with (at_builtin;refine Lib.wpList_append_run _ rfl _ _ 22 22 rfl _ _ rfl rfl _ _ hap3 ?_)
    clear hap3
    go_roundw
    case rel=>exact ⟨k+1,by omega,by go_num,R3,N3⟩
    case measure=>simp [intOf];omega
   ·have he : (t : Int) - 1 - (k : Int) = 1 := by omega
    clear hd
    simp at hx
    replace hx:=hx.symm
    go_wp2_with (at_builtin;refine Lib.wpList_append_run _ rfl _ _ 22 22 rfl _ _ rfl rfl _ _ hap3 ?_)
    clear hap3
    go_roundw
    case rel=>exact ⟨k+1,by omega,by go_num,R3,N3⟩
    case measure=>simp [intOf];omega
   ·have he : (t : Int) - 1 - (k : Int) = 2 := by omega
    clear hd
    simp at hx
    replace hx:=hx.symm
    go_wp2_with (at_builtin;refine Lib.wpList_append_run _ rfl _ _ 22 22 rfl _ _ rfl rfl _ _ hap3 ?_)
    clear hap3
    go_roundw
    case rel=>exact ⟨k+1,by omega,by go_num,R3,N3⟩
    case measure=>simp [intOf];omega
   ·have he : (t : Int) - 1 - (k : Int) = 3 := by omega
    clear hd
    simp at hx
    replace hx:=hx.symm
    go_wp2_with (at_builtin;refine Lib.wpList_append_run _ rfl _ _ 22 22 rfl _ _ rfl rfl _ _ hap3 ?_)
    clear hap3
    go_roundw
    case rel=>exact ⟨k+1,by omega,by go_num,R3,N3⟩
    case measure=>simp [intOf];omega
   ·have he : (t : Int) - 1 - (k : Int) = 4 := by omega
    clear hd
    simp at hx
    replace hx:=hx.symm
    go_wp2_with (at_builtin;refine Lib.wpList_append_run _ rfl _ _ 22 22 rfl _ _ rfl rfl _ _ hap3 ?_)
    clear hap3
    go_roundw
    case rel=>exact ⟨k+1,by omega,by go_num,R3,N3⟩
    case measure=>simp [intOf];omega
   ·have he : (t : Int) - 1 - (k : Int) = 5 := by omega
    clear hd
    simp at hx
    replace hx:=hx.symm
    go_wp2_with (at_builtin;refine Lib.wpList_append_run _ rfl _ _ 22 22 rfl _ _ rfl rfl _ _ hap3 ?_)
    clear hap3
    go_roundw
    case rel=>exact ⟨k+1,by omega,by go_num,R3,N3⟩
    case measure=>simp [intOf];omega
   ·have he : (t : Int) - 1 - (k : Int) = 6 := by omega
    clear hd
    simp at hx
    replace hx:=hx.symm
    go_wp2_with (at_builtin;refine Lib.wpList_append_run _ rfl _ _ 22 22 rfl _ _ rfl rfl _ _ hap3 ?_)
    clear hap3
    go_roundw
    case rel=>exact ⟨k+1,by omega,by go_num,R3,N3⟩
    case measure=>simp [intOf];omega
   ·have he : (t : Int) - 1 - (k : Int) = 7 := by omega
    clear hd
    simp at hx
    replace hx:=hx.symm
    go_wp2_with (at_builtin;refine Lib.wpList_append_run _ rfl _ _ 22 22 rfl _ _ rfl rfl _ _ hap3 ?_)
    clear hap3
    go_roundw
    case rel=>exact ⟨k+1,by omega,by go_num,R3,N3⟩
    case measure=>simp [intOf];omega
  ·obtain rfl : k = t := by omega
   rw [List.take_of_length_le (by rw [bigL_len];exact Nat.le_refl _)] at R
   go_wp2
   go_ret
   exact ⟨_,rfl,R,hN⟩
end Go.Proofs.YtmmbkkfjiaoeiaaGreat
namespace Go.Proofs.YtmmbkkfjiaoeiaaGreat
open Go Go.RowKit
def TyB (w:World) (g:Nat):Prop:=∃ cur,w.heap[g]?=some (.cells cur 5 (0,0))
theorem TyB.of_made {w:World} {base g n:Nat} {xs:List Value} (h:w.ownsRow base 5 1 (.slice (some ⟨g,0,none⟩) n n) n xs):TyB w g:=by
 rcases h.2 with ⟨h',_⟩ | ⟨g',cap',cur,h',_,hg,_⟩
 ·simp at h'
 ·simp only [Value.slice.injEq, Option.some.injEq, Addr.mk.injEq, and_true, true_and] at h'
  obtain ⟨rfl,rfl⟩:=h'
  exact ⟨cur,hg⟩
theorem TyB.set {w:World} {g:Nat} (h:TyB w g) (i:Nat) (v:Value):TyB (w.setCell ⟨g,i,none⟩ v) g:=by
 obtain ⟨cur,h⟩:=h
 exact ⟨_,heap_setCell_same w g i _ 5 _ h⟩
theorem RowB.of_tyb {w:World} {g B:Nat} {ys:List Int} (h:Blk w g .u8 ys) (t:TyB w g) (hB:B≤g) (hl:ys.length≤1048576):RowB w B (.slice (some ⟨g,0,none⟩) ys.length ys.length) ys:=by
 obtain ⟨e,h⟩:=h
 obtain ⟨cur,t⟩:=t
 rw [t] at h
 simp only [Option.some.injEq,Obj.cells.injEq,and_true] at h
 obtain ⟨rfl,rfl⟩:=h
 refine ⟨by simp,.inr ⟨g,ys.length,_,rfl,hB,t,Nat.le_refl _,by unfold maxLen;omega,by simp,?_⟩⟩
 show List.take (ys.length*1) (List.map (Value.int .u8) ys)=_
 exact List.take_of_length_le (by simp)
set_option maxHeartbeats 1000000 in
theorem l1BigB_any (w:World) (v:Int) (t:Nat) (h0:0≤v) (h1:v < 9223372036854775808) (ht:t≤1048576) :
  Calls Tryz.prog 54 #[.int .i64 v,.int .i64 (t:Int)] w fun e w'=>e = .returned (.slice (some ⟨w.heap.size,0,none⟩) t t)∧RowB w' w.heap.size (.slice (some ⟨w.heap.size,0,none⟩) t t) (bigL v t)∧Below w.heap.size w w':=by
 obtain ⟨i0,hi,hz0,hz1,hz2⟩:=info_parts Tryz.info5
 go_enter Tryz.func54,Tryz.ntmps54
 go_wp2_with (at_make;refine wpList_make_full _ rfl _ _ 22 rfl w.heap.size 5 i0 (.int .u8 0) 1 Tryz.underlying22 hi hz0 hz1 .i64 .i64 _ _ t rfl rfl rfl rfl (by rw [hz2];omega) (by unfold maxLen;omega) (Nat.le_refl _) ?_;intro w1 hown hgrow)
 have hB0:=Blk.of_made hown
 have T0:=TyB.of_made hown
 have hN0:Below w.heap.size w w1:=(Below.refl _ _).grown hgrow (Nat.le_refl _) (by simp)
 clear hown hgrow
 go_loopw [0,6] (fun q i wr=>∃ (k:Nat) (u j:Int) (ys:List Int),k≤t∧q = .int .i64 u∧i = .int .i64 j∧j+(k:Int)+1=(t:Int)∧0≤u∧u < 9223372036854775808∧Hid (u=v / 256 ^ k)∧BigTo v t ys k∧Blk wr w.heap.size .u8 ys∧TyB wr w.heap.size∧Below w.heap.size w wr) (fun _ i _=>(intOf i+1).toNat)
 case atStart=>exact ⟨0,v,(t:Int) - 1,_,Nat.zero_le _,rfl,by go_num,by omega,h0,h1,by show _=_;simp,BigTo.zero v t,hB0,T0,hN0⟩
 case round =>
  obtain ⟨k,u,j,ys,hk,rfl,rfl,hj,u0,u1,hu,hT,hB,hTy,hN⟩:=hrel
  by_cases hlt:0≤j
  ·obtain ⟨p, rfl⟩ := Int.eq_ofNat_of_zero_le hlt
   have R:=hT.step (by omega)
   rw [show t - 1 - k=p by omega,← hu.out] at R
   have hl:p < ys.length:=by rw [hT.1];omega
   have hcy:=hB.cell hl
   have hfy:=hB.free p
   have hB':=hB.store p (u % 256)
   have hTy':=hTy.set p (.int .u8 (u % 256))
   have hN':Below w.heap.size w (wr.setCell ⟨w.heap.size,p,none⟩ (.int .u8 (u % 256))):=hN.setCell (Nat.le_refl _) _
   have hu':Hid (u / 256=v / 256 ^ (k+1)):=by show _=_;rw [hu.out,div256]
   have p1:(p:Int) < (t:Int):=by omega
   have HJ:=hide hj
   clear hB hN hu hT hj
   go_wp2
   go_roundw
   case rel=>exact ⟨k+1,u / 256,(p:Int) - 1,_,by have:=HJ.out;omega,by go_num,by go_num,by have:=HJ.out;omega,by omega,by omega,hu',R,hB',hTy',hN'⟩
   case measure=>simp [intOf]
  ·obtain rfl : k = t := by omega
   have K:=hide hT.all
   obtain rfl:j = -1:=by omega
   clear hj hu hT
   go_wp2
   go_ret
   have RB:=RowB.of_tyb (B:=w.heap.size) hB hTy (Nat.le_refl _) (by rw [K.out,bigL_len];exact ht)
   rw [K.out,bigL_len] at RB
   exact ⟨rfl,RB,hN⟩
end Go.Proofs.YtmmbkkfjiaoeiaaGreat
namespace Go.Proofs.YtmmbkkfjiaoeiaaGreat
open Go Go.RowKit
def RwC (w:World) (q:Nat) (cs:List Value) (t:TypeId):Prop:=w.heap[q]?=some (.cells cs.toArray t (0,0))
theorem RwC.new (w:World) (cs:List Value) (t:TypeId):RwC (w.alloc (.cells cs.toArray t)) w.heap.size cs t:=heap_alloc_new w _
theorem RwC.lt {w:World} {q:Nat} {cs:List Value} {t:TypeId} (h:RwC w q cs t):q < w.heap.size:=(Array.getElem?_eq_some_iff.1 h).1
theorem RwC.up {w w':World} {q:Nat} {cs:List Value} {t:TypeId} (h:RwC w q cs t) (n:Below w.heap.size w w'):RwC w' q cs t:=(n.block q h.lt).trans h
theorem RwC.cell {w:World} {q:Nat} {cs:List Value} {t:TypeId} (h:RwC w q cs t) (i:Nat):w.cell? ⟨q,i,none⟩=cs[i]?:=by
 rw [cell_of_row w q i _ _ (0,0) h]
 simp
theorem RwC.free {w:World} {q:Nat} {cs:List Value} {t:TypeId} (h:RwC w q cs t) (i:Nat):w.frozen? ⟨q,i,none⟩=false:=frozen_of_row w q i _ t h
theorem RwC.set {w:World} {q:Nat} {cs:List Value} {t:TypeId} (h:RwC w q cs t) (i:Nat) (v:Value):RwC (w.setCell ⟨q,i,none⟩ v) q (cs.set i v) t:=by
 show (w.heap.modify q _)[q]?=_
 rw [Array.getElem?_modify,if_pos rfl,show w.heap[q]?=_ from h]
 simp
theorem RwC.push {w:World} {q:Nat} {cs:List Value} {t:TypeId} (h:RwC w q cs t) (o:Obj):RwC (w.alloc o) q cs t:=h.up ((Below.refl _ _).alloc (Nat.le_refl _) o)
theorem RwC.drew1 {w:World} {q:Nat} {cs:List Value} {t:TypeId} (h:RwC w q cs t):RwC w.drew q cs t:=h
theorem RwC.drews {w:World} {q:Nat} {cs:List Value} {t:TypeId} (h:RwC w q cs t) (n:Nat):RwC (w.drewN n) q cs t:=h
structure TMs (w W:World) (tL tM:TypeId) (src zer cs:List Value):Prop where
 S:RwC W w.heap.size src tL
 U:RwC W (w.heap.size+1) zer tM
 T:RwC W (w.heap.size+1+1) cs tM
 N:Below w.heap.size w W
theorem TMs.new (w:World) (tL tM:TypeId) (src zer:List Value):TMs w (((w.alloc (.cells src.toArray tL)).alloc (.cells zer.toArray tM)).alloc (.cells zer.toArray tM)) tL tM src zer zer:=by
 have z1:(w.alloc (.cells src.toArray tL)).heap.size=w.heap.size+1:=by simp
 have n1:Below w.heap.size w (w.alloc (.cells src.toArray tL)):=(Below.refl _ _).alloc (Nat.le_refl _) _
 have s1:=RwC.new w src tL
 generalize w.alloc (.cells src.toArray tL)=a at *
 have z2:(a.alloc (.cells zer.toArray tM)).heap.size=a.heap.size+1:=by simp
 have n2:Below a.heap.size a (a.alloc (.cells zer.toArray tM)):=(Below.refl _ _).alloc (Nat.le_refl _) _
 have s2:=RwC.new a zer tM
 generalize a.alloc (.cells zer.toArray tM)=b at *
 have n3:Below b.heap.size b (b.alloc (.cells zer.toArray tM)):=(Below.refl _ _).alloc (Nat.le_refl _) _
 have s3:=RwC.new b zer tM
 rw [z2,z1] at s3
 rw [z1] at s2
 exact ⟨(s1.up n2).up n3,s2.up n3,s3,nxt (nxt n1 n2) n3⟩
theorem TMs.up {w W W':World} {tL tM:TypeId} {src zer cs:List Value} (h:TMs w W tL tM src zer cs) (m:Below W.heap.size W W'):TMs w W' tL tM src zer cs:=⟨h.S.up m,h.U.up m,h.T.up m,nxt h.N m⟩
theorem RwC.onl {w w':World} {q r:Nat} {cs:List Value} {t:TypeId} (h:RwC w q cs t) (O:Only r w w') (hne:q≠r):RwC w' q cs t:=(O.block q hne).trans h
theorem TMs.set {w W:World} {tL tM:TypeId} {src zer cs:List Value} (h:TMs w W tL tM src zer cs) (i:Nat) (v:Value):TMs w (W.setCell ⟨w.heap.size+1+1,i,none⟩ v) tL tM src zer (cs.set i v):=by
 have O:=Only.setCell W (w.heap.size+1+1) i v
 exact ⟨h.S.onl O (by omega),h.U.onl O (by omega),h.T.set i v,h.N.trans (O.below (by omega))⟩
theorem only_setG (w:World) (q:Nat):∀ (vs:List Value) (o:Nat),Only q w (w.setCells q o vs)
 | [],_=>Only.refl _ _
 | v :: vs,o=>(Only.setCell w q o v).trans (only_setG _ q vs (o+1))
theorem RwC.thereG {w:World} {q:Nat} {cs:List Value} {t:TypeId} (h:RwC w q cs t):w.there q 0 cs.length:=fun j hj=>by
 rw [Nat.zero_add,h.cell j,h.free j]
 exact ⟨by simp [hj],rfl⟩
theorem results_cellG {P:Program} {fn:Func} {p:Tmp} {ty:TypeId} (h:fn.results = #[.cell p ty]) (tmps:Array Value) (w:World) (g:Nat) (cs:List Value) (d:TypeDesc)
  (hp:tmps.getD p undef = .pointer (some ⟨g,0,none⟩)) (hc:w.rangeAt g 0 cs) (hu:P.underlying ty=some d) (hd:d.isRow=true) (hi:(P.info? ty).map (·.size)=some cs.length) :
  (results fn tmps).run P w = .ok (.agg cs.toArray) w:=by
 have hp':tmps[p]?.getD undef = .pointer (some ⟨g,0,none⟩):=by simpa using hp
 simp [results,h,hp',asAddr,run_loadVar_mid w g 0 ty cs d hc hu hd hi]
theorem RwC.rangeG {w:World} {q:Nat} {cs:List Value} {t:TypeId} (h:RwC w q cs t):w.rangeAt q 0 cs:=fun j v hj=>by
 rw [Nat.zero_add]
 exact (h.cell j).trans hj
end Go.Proofs.YtmmbkkfjiaoeiaaGreat
namespace Go.Proofs.YtmmbkkfjiaoeiaaGreat
open Go Go.RowKit
structure Tch (S:List Nat) (w w':World):Prop where
 os:w'.os=w.os
 tape:w'.tape=w.tape
 output:w'.output=w.output
 size:w.heap.size≤w'.heap.size
 block:∀ b,b < w.heap.size→b ∉ S→w'.heap[b]?=w.heap[b]?
theorem Tch.of_below {w w':World} {S:List Nat} (h:Below w.heap.size w w'):Tch S w w':=⟨h.os,h.tape,h.output,h.size,fun b hb _=>h.block b hb⟩
theorem Tch.of_only {w w':World} {g:Nat} (h:Only g w w'):Tch [g] w w':=⟨h.os,h.tape,h.output,Nat.le_of_eq h.size.symm,fun b _ hn=>h.block b (by simpa using hn)⟩
theorem Tch.trans {a b c:World} {S T:List Nat} (h:Tch S a b) (k:Tch T b c):Tch (S ++ T) a c :=
 ⟨k.os.trans h.os,k.tape.trans h.tape,k.output.trans h.output,Nat.le_trans h.size k.size,fun x hx hn=>(k.block x (Nat.lt_of_lt_of_le hx h.size) (fun m=>hn (List.mem_append_right _ m))).trans (h.block x hx (fun m=>hn (List.mem_append_left _ m)))⟩
theorem Tch.below {w w':World} {S:List Nat} {B:Nat} (h:Tch S w w') (hB:B≤w.heap.size) (hS:∀ s ∈ S,B≤s):Below B w w':=⟨h.os,h.tape,h.output,h.size,fun k hk=>h.block k (by omega) (fun m=>by have:=hS k m;omega)⟩
theorem Tch.mono {w w':World} {S T:List Nat} (h:Tch S w w') (hs:∀ s ∈ S,s ∈ T):Tch T w w':=⟨h.os,h.tape,h.output,h.size,fun b hb hn=>h.block b hb (fun m=>hn (hs b m))⟩
theorem Own.tch {w w':World} {S:List Nat} {g:Nat} {a:Option Addr} {k:IntKind} {xs:List Int} (h:Own w g a k xs) (t:Tch S w w') (hne:0 < xs.length→g ∉ S):Own w' g a k xs:=by
 by_cases h0:0 < xs.length
 ·exact h.of_block (t.block g (h.rd.lt h0) (hne h0))
 ·exact fun q=>absurd q h0
theorem Blk.tch {w w':World} {S:List Nat} {g:Nat} {k:IntKind} {ys:List Int} (h:Blk w g k ys) (t:Tch S w w') (hne:g ∉ S):Blk w' g k ys:=h.of_block (t.block g h.lt hne)
theorem RwC.tch {w w':World} {S:List Nat} {q:Nat} {cs:List Value} {t:TypeId} (h:RwC w q cs t) (m:Tch S w w') (hne:q ∉ S):RwC w' q cs t:=(m.block q h.lt hne).trans h
theorem RwC.c0 {w:World} {q:Nat} {x:Value} {cs:List Value} {t:TypeId} (h:RwC w q (x :: cs) t):w.cell? ⟨q,0,none⟩=some x:=h.cell 0
theorem RwC.c1 {w:World} {q:Nat} {x y:Value} {cs:List Value} {t:TypeId} (h:RwC w q (x :: y :: cs) t):w.cell? ⟨q,1,none⟩=some y:=h.cell 1
theorem RwC.c2 {w:World} {q:Nat} {x y z:Value} {cs:List Value} {t:TypeId} (h:RwC w q (x :: y :: z :: cs) t):w.cell? ⟨q,2,none⟩=some z:=h.cell 2
end Go.Proofs.YtmmbkkfjiaoeiaaGreat
namespace Go.Proofs.YtmmbkkfjiaoeiaaGreat
open Go Go.RowKit
def ageB (n:Int):Bool:=decide (0≤n) && decide (n≤4294967295)
def flgB (n:Int):Bool:=decide (n=0) || decide (n=1)
theorem isAge_any (w:World) (n:Int):Calls Tryz.prog 99 #[.int .i64 n] w fun e w'=>e = .returned (.bool (ageB n))∧w'=w:=by
 by_cases h:0≤n
 ·have d1 : decide (0 ≤ n) = true := decide_eq_true h
  go_enter Tryz.func99,Tryz.ntmps99
  go_wp2
  go_ret
  exact ⟨by simp [ageB,h],rfl⟩
 ·have d1 : decide (0 ≤ n) = false := decide_eq_false h
  go_enter Tryz.func99,Tryz.ntmps99
  go_wp2
  go_ret
  exact ⟨by rw [ageB,d1];rfl,rfl⟩
theorem isFlag_any (w:World) (n:Int):Calls Tryz.prog 100 #[.int .i64 n] w fun e w'=>e = .returned (.bool (flgB n))∧w'=w:=by
 by_cases h:n=0
 ·subst h
  go_enter Tryz.func100,Tryz.ntmps100
  go_wp2
  go_ret
  exact ⟨rfl,rfl⟩
 ·have d1 : decide (n = 0) = false := decide_eq_false h
  have d2:(n == 0)=false:=by simpa using h
  go_enter Tryz.func100,Tryz.ntmps100
  go_wp2
  go_ret
  exact ⟨by rw [flgB,d1,Bool.false_or];rfl,rfl⟩
theorem index_any (w : World) (g : Nat) (a : Option Addr) (c : Nat) (ls : List (List UInt8)) (l : List UInt8) (hr : RdT w g a ls) (hn : ls.length ≤ 1048576) :
  Calls Tryz.prog 113 #[.slice a ls.length c,tx l] w fun e w'=>∃ r:Int,e = .returned (.int .i64 r)∧(0≤r↔l ∈ ls)∧w'=w:=by
 show Calls Tryz.prog 113 #[.slice a ls.length c,.string ⟨⟨l⟩⟩] w _
 go_enter Tryz.func113,Tryz.ntmps113
 go_wp2
 go_loopw [8] (fun i wr=>∃ (k:Nat),k≤ls.length∧i = .int .i64 k∧wr=w∧∀ j,j < k→ls.getD j []≠l) (fun i _=>ls.length - (intOf i).toNat)
 case atStart=>exact ⟨0,Nat.zero_le _,rfl,rfl,fun j hj=>absurd hj (by omega)⟩
 case round =>
  obtain ⟨k,hk,rfl,rfl,hne⟩:=hrel
  by_cases hlt:k < ls.length
  ·obtain ⟨off, rfl, hc⟩ := hr (by omega)
   have t0:(k:Int) < (ls.length:Int):=by omega
   have c1:=hc k hlt
   have HNE:=hide hne
   have HC:=hide hc
   clear hne hc hr
   generalize hx:ls.getD k []=x at *
   have HX:=hide hx
   clear hx
   simp only [tx] at c1
   by_cases hq:l=x
   ·subst hq
    have e1:(l == l)=true:=by simp
    have MEM:Hid (l ∈ ls):=by
     show l ∈ ls
     rw [← HX.out,List.getD_eq_getElem?_getD,List.getElem?_eq_getElem hlt]
     exact List.getElem_mem hlt
    clear HNE HC
    go_wp2
    go_ret
    exact ⟨_,rfl,⟨fun _=>MEM.out,fun _=>by omega⟩,rfl⟩
   ·have e1 : (l == x) = false := by simpa using hq
    have e2:(x == l)=false:=by simpa using (fun h=>hq h.symm)
    have NXT:Hid (∀ j,j < k+1→ls.getD j []≠l):=fun j hj=>by
     by_cases h:j=k
     ·subst h
      rw [HX.out]
      exact fun h=>hq h.symm
     ·exact HNE.out j (by omega)
    clear HNE HC
    go_wp2
    go_roundw
    case rel=>exact ⟨k+1,by omega,by go_num,trivial,NXT.out⟩
    case measure=>simp [intOf];omega
  ·obtain rfl : k = ls.length := by omega
   have NM:Hid (¬ l ∈ ls):=fun h=>by
    obtain ⟨i,hi,e⟩:=List.getElem_of_mem h
    refine hne i hi ?_
    rw [List.getD_eq_getElem?_getD,List.getElem?_eq_getElem hi]
    exact e
   clear hne hr
   go_wp2
   go_ret
   exact ⟨-1,rfl,⟨fun h=>absurd h (by decide),fun h=>absurd h NM.out⟩,rfl⟩
theorem contains_any (w:World) (g:Nat) (a:Option Addr) (c:Nat) (ls:List (List UInt8)) (l:List UInt8) (hr:RdT w g a ls) (hn:ls.length≤1048576) :
  Calls Tryz.prog 109 #[.slice a ls.length c,tx l] w fun e w'=>e = .returned (.bool (decide (l ∈ ls)))∧w'=w:=by
 have IX:=hide (index_any w g a c ls l hr hn)
 show Calls Tryz.prog 109 #[.slice a ls.length c,.string ⟨⟨l⟩⟩] w _
 clear hr
 simp only [tx] at IX
 go_enter Tryz.func109,Tryz.ntmps109
 go_wp2_with fail
 refine IX.out.mono ?_
 rintro e w1 ⟨r,rfl,hr,rfl⟩
 have HR:=hide hr
 clear hr
 go_wp2
 go_ret
 exact ⟨by show Ending.returned (Value.bool (decide (0≤r)))=_;rw [decide_eq_decide.2 HR.out],rfl⟩
theorem RdT.take {w:World} {g:Nat} {a:Option Addr} {ls:List (List UInt8)} (h:RdT w g a ls) (n:Nat):RdT w g a (ls.take n):=fun h0=>by
 rw [List.length_take] at h0
 obtain ⟨o,e,hc⟩:=h (by omega)
 refine ⟨o,e,fun i hi=>?_⟩
 rw [List.length_take] at hi
 rw [hc i (by omega)]
 simp [List.getD,show i < n by omega]
def prA (ls:List (List UInt8)) (i:Nat):Bool:=decide (0 < (ls.getD i []).length) && (decide ((ls.getD i []).length≤32) && !decide (ls.getD i [] ∈ ls.take i))
def prB (ls:List (List UInt8)) (n:Nat):Bool:=decide (ls.length≤n) && (List.range ls.length).all (prA ls)
theorem prB_no {ls:List (List UInt8)} {n k:Nat} (hk:k < ls.length) (h:prA ls k=false):prB ls n=false:=by
 unfold prB
 rw [Bool.and_eq_false_iff]
 refine .inr (Bool.eq_false_iff.2 fun e=>?_)
 have:=List.all_eq_true.1 e k (List.mem_range.2 hk)
 rw [h] at this
 cases this
theorem prB_yes {ls:List (List UInt8)} {n:Nat} (hn:ls.length≤n) (h:∀ j,j < ls.length→prA ls j=true):prB ls n=true:=by
 unfold prB
 rw [decide_eq_true hn,Bool.true_and,List.all_eq_true]
 exact fun j hj=>h j (List.mem_range.1 hj)
set_option maxHeartbeats 1000000 in
theorem areProtocols_any (w : World) (g : Nat) (a : Option Addr) (c : Nat) (ls : List (List UInt8)) (n : Nat) (hr : RdT w g a ls) (hc : ls.length ≤ c) (hn : ls.length ≤ 1048576) (_n1 : n ≤ 100) (hz : ∀ l ∈ ls, l.length ≤ 1048576) :
    Calls Tryz.prog 98 #[.slice a ls.length c,.int .i64 (n:Int)] w fun e w'=>e = .returned (.bool (prB ls n))∧w'=w:=by
  by_cases hl:ls.length≤n
  · have d0 : decide ((n : Int) < (ls.length : Int)) = false := by simp; omega
    have d0':decide (n < ls.length)=false:=by simp;omega
    go_enter Tryz.func98,Tryz.ntmps98
    go_wp2
    go_loopw [13] (fun i wr=>∃ (k:Nat),k≤ls.length∧i = .int .i64 k∧wr=w∧∀ j,j < k→prA ls j=true) (fun i _=>ls.length - (intOf i).toNat)
    case atStart=>exact ⟨0,Nat.zero_le _,rfl,rfl,fun j hj=>absurd hj (by omega)⟩
    case round =>
      obtain ⟨k,hk,rfl,rfl,hall⟩:=hrel
      by_cases hlt:k < ls.length
      · have CN := hide (contains_any wr g a c (ls.take k) (ls.getD k []) (hr.take k) (by rw [List.length_take]; omega))
        rw [List.length_take,Nat.min_eq_left (Nat.le_of_lt hlt)] at CN
        have PA:=hide (show prA ls k=(decide (0 < (ls.getD k []).length) && (decide ((ls.getD k []).length≤32) && !decide (ls.getD k [] ∈ ls.take k))) from rfl)
        have HZ:(ls.getD k []).length≤1048576:=by
          refine hz _ ?_
          rw [List.getD_eq_getElem?_getD,List.getElem?_eq_getElem hlt]
          exact List.getElem_mem hlt
        obtain ⟨off,rfl,hcl⟩:=hr (by omega)
        have t0:(k:Int) < (ls.length:Int):=by omega
        have c1:=hcl k hlt
        have s1:(k:Int)≤(c:Int):=by omega
        have HALL:=hide hall
        have HR:=hide hr
        have HH:=hide hz
        clear hcl hall hr hz
        generalize decide (ls.getD k [] ∈ ls.take k)=bm at *
        generalize ls.getD k []=x at *
        have sx:=tx_size x
        simp only [tx] at c1 CN
        by_cases x0:x=[]
        · subst x0
          have NO:=hide (prB_no (n:=n) hlt (show prA ls k=false by rw [PA.out];rfl))
          clear PA HALL CN HR HH
          go_wp2
          go_ret
          exact ⟨by rw [NO.out];rfl,rfl⟩
        · have e0 : (x == []) = false := by simpa using x0
          have e1:0 < x.length:=by
            cases x with
            | nil=>exact absurd rfl x0
            | cons _ _=>simp
          by_cases x1:32 < x.length
          · have NO := hide (prB_no (n := n) hlt (show prA ls k = false by rw [PA.out, decide_eq_false (show ¬ x.length ≤ 32 by omega)]; simp))
            have d1:decide ((32:Int) < (x.length:Int))=true:=by simp;omega
            clear PA HALL CN HR HH
            go_wp2
            go_ret
            exact ⟨by rw [NO.out];rfl,rfl⟩
          · have d1 : decide ((32 : Int) < (x.length : Int)) = false := by simp; omega
            cases bm with
            | true =>
              have NO:=hide (prB_no (n:=n) hlt (show prA ls k=false by rw [PA.out];simp))
              clear PA HALL HR HH
              go_wp2_with fail
              refine CN.out.mono ?_
              rintro e w1 ⟨rfl,rfl⟩
              go_wp2
              go_ret
              exact ⟨by rw [NO.out];rfl,rfl⟩
            | false =>
              have NXT:Hid (∀ j,j < k+1→prA ls j=true):=fun j hj=>by
                by_cases h:j=k
                · subst h
                  rw [PA.out,decide_eq_true e1,decide_eq_true (show x.length≤32 by omega)]
                  rfl
                · exact HALL.out j (by omega)
              clear PA HALL HR HH
              go_wp2_with fail
              refine CN.out.mono ?_
              rintro e w1 ⟨rfl,rfl⟩
              go_wp2
              go_roundw
              case rel=>exact ⟨k+1,by omega,by go_num,trivial,NXT.out⟩
              case measure=>simp [intOf];omega
      · obtain rfl : k = ls.length := by omega
        have YES:=hide (prB_yes hl hall)
        clear hall hr
        go_wp2
        go_ret
        exact ⟨by rw [YES.out];rfl,rfl⟩
  · have d0 : decide ((n : Int) < (ls.length : Int)) = true := by simp; omega
    have NO:Hid (prB ls n=false):=by show _=_;unfold prB;rw [decide_eq_false hl,Bool.false_and]
    clear hr
    go_enter Tryz.func98,Tryz.ntmps98
    go_wp2
    go_ret
    exact ⟨by rw [NO.out];rfl,rfl⟩
end Go.Proofs.YtmmbkkfjiaoeiaaGreat
namespace Go.Proofs.YtmmbkkfjiaoeiaaGreat
open Go Go.RowKit
def fpB (v:Int) (r s:Nat):Bool:=decide (v < 0) || (decide (255 < v) || (decide (r≠32) || decide (s≠32)))
def fpF (v:Int) (r s:Nat):Int:=if fpB v r s=true then 3 else 0
theorem firstFault_any (w : World) (q : Nat) (v : Int) (a1 a2 : Option Addr) (r s c1 c2 : Nat) (hr : r ≤ 1048576) (hs : s ≤ 1048576) (h0 : w.cell? ⟨q, 0, none⟩ = some (.int .i64 v)) (h1 : w.cell? ⟨q, 1, none⟩ = some (.slice a1 r c1)) (h2 : w.cell? ⟨q, 2, none⟩ = some (.slice a2 s c2)) :
  Calls Tryz.prog 95 #[.pointer (some ⟨q,0,none⟩)] w fun e w'=>e = .returned (.int .i64 (fpF v r s))∧w'=w:=by
 have E:=hide (show fpF v r s=if (decide (v < 0) || (decide (255 < v) || (decide (r≠32) || decide (s≠32))))=true then 3 else 0 from rfl)
 by_cases k0:v < 0
 ·have d0 : decide (v < 0) = true := decide_eq_true k0
  go_enter Tryz.func95,Tryz.ntmps95
  go_wp2
  go_ret
  exact ⟨by rw [E.out,d0];rfl,rfl⟩
 ·have d0 : decide (v < 0) = false := decide_eq_false k0
  by_cases k1:255 < v
  ·have d1 : decide (255 < v) = true := decide_eq_true k1
   go_enter Tryz.func95,Tryz.ntmps95
   go_wp2
   go_ret
   exact ⟨by rw [E.out,d0,d1];rfl,rfl⟩
  ·have d1 : decide (255 < v) = false := decide_eq_false k1
   by_cases k2:r=32
   ·have d2 : decide (r ≠ 32) = false := by simpa using k2
    by_cases k3:s=32
    ·have d3 : decide (s ≠ 32) = false := by simpa using k3
     subst k2
     subst k3
     go_enter Tryz.func95,Tryz.ntmps95
     go_wp2
     go_ret
     exact ⟨by rw [E.out,d0,d1,d2];rfl,rfl⟩
    ·have d3 : decide (s ≠ 32) = true := by simpa using k3
     have e3:((s:Int) != 32)=true:=by simp;omega
     subst k2
     go_enter Tryz.func95,Tryz.ntmps95
     go_wp2
     go_ret
     exact ⟨by rw [E.out,d0,d1,d2,d3];rfl,rfl⟩
   ·have d2 : decide (r ≠ 32) = true := by simpa using k2
    have e2:((r:Int) != 32)=true:=by simp;omega
    go_enter Tryz.func95,Tryz.ntmps95
    go_wp2
    go_ret
    exact ⟨by rw [E.out,d0,d1,d2];rfl,rfl⟩
def bdB (t b:Nat) (g e:Int):Bool:=if t=0 then decide (b=0) && (decide (g=0) && decide (e=0)) else decide (b=32)
theorem isBound_any (w : World) (q : Nat) (a5 a8 : Option Addr) (t b c5 c8 : Nat) (g e : Int) (ht : t ≤ 1048576) (hb : b ≤ 1048576) (h5 : w.cell? ⟨q, 5, none⟩ = some (.slice a5 t c5)) (h6 : w.cell? ⟨q, 6, none⟩ = some (.int .i64 g)) (h7 : w.cell? ⟨q, 7, none⟩ = some (.int .i64 e)) (h8 : w.cell? ⟨q, 8, none⟩ = some (.slice a8 b c8)) :
  Calls Tryz.prog 96 #[.pointer (some ⟨q,0,none⟩)] w fun r w'=>r = .returned (.bool (bdB t b g e))∧w'=w:=by
 by_cases k0:t=0
 ·subst k0
  have E:=hide (show bdB 0 b g e=(decide (b=0) && (decide (g=0) && decide (e=0))) from rfl)
  by_cases k1:b=0
  ·subst k1
   by_cases k2:g=0
   ·subst k2
    by_cases k3:e=0
    ·subst k3
     go_enter Tryz.func96,Tryz.ntmps96
     go_wp2
     go_ret
     exact ⟨by rw [E.out];rfl,rfl⟩
    ·have d3 : decide (e = 0) = false := decide_eq_false k3
     have e3:(e == 0)=false:=by simpa using k3
     go_enter Tryz.func96,Tryz.ntmps96
     go_wp2
     go_ret
     exact ⟨by rw [E.out,d3];rfl,rfl⟩
   ·have d2 : decide (g = 0) = false := decide_eq_false k2
    have e2:(g == 0)=false:=by simpa using k2
    go_enter Tryz.func96,Tryz.ntmps96
    go_wp2
    go_ret
    exact ⟨by rw [E.out,d2];rfl,rfl⟩
  ·have d1 : decide (b = 0) = false := decide_eq_false k1
   have e1:((b:Int) == 0)=false:=by simp;omega
   go_enter Tryz.func96,Tryz.ntmps96
   go_wp2
   go_ret
   exact ⟨by rw [E.out,d1];rfl,rfl⟩
 ·have E := hide (show bdB t b g e = decide (b = 32) by unfold bdB; rw [if_neg k0])
  have e0:((t:Int) == 0)=false:=by simp;omega
  by_cases k1:b=32
  ·subst k1
   go_enter Tryz.func96,Tryz.ntmps96
   go_wp2
   go_ret
   exact ⟨by rw [E.out];rfl,rfl⟩
  ·have d1 : decide (b = 32) = false := decide_eq_false k1
   have e1:((b:Int) == 32)=false:=by simp;omega
   go_enter Tryz.func96,Tryz.ntmps96
   go_wp2
   go_ret
   exact ⟨by rw [E.out,d1];rfl,rfl⟩
end Go.Proofs.YtmmbkkfjiaoeiaaGreat
