import Derived.Test.YtmmbkkfjiaoeiaaGreatGV11
namespace Go.Proofs.YtmmbkkfjiaoeiaaGreat
open Go Go.RowKit
theorem MsO.base {W:World} {B B':Nat} {m:Msg} {v0 v1 v2 v3 v4 v5 v6 v7 v8 v9 v10 v11 v12:Value} (h:MsO W B m v0 v1 v2 v3 v4 v5 v6 v7 v8 v9 v10 v11 v12) (hB:B'≤B):MsO W B' m v0 v1 v2 v3 v4 v5 v6 v7 v8 v9 v10 v11 v12:=by
 have hb:∀ v X,dgB W B v X→dgB W B' v X:=fun v X ⟨R,l⟩=>⟨own_base R hB,l⟩
 obtain ⟨R,l⟩:=h.t5
 obtain ⟨bs,E,e1,e2⟩:=h.c11
 exact ⟨h.i0,h.i1,hb _ _ h.b2,hb _ _ h.b3,h.s4,⟨own_base R hB,l⟩,hb _ _ h.b6,h.i7,h.i8,hb _ _ h.b9,h.o10,⟨bs,⟨own_base E.o hB,E.l,E.b,fun i hi h0=>⟨by have:=(E.h i hi h0).1;omega,(E.h i hi h0).2⟩,E.d⟩,e1,e2⟩,hb _ _ h.b12⟩
theorem dgE.nil (W:World) (B n:Nat):dgE W B (.slice none 0 0) [] n:=⟨[],BRow.nil W B,by simp,fun i hi=>absurd hi (by simp)⟩
theorem dgE.mono {W:World} {B n m:Nat} {v:Value} {its:List (List Int)} (h:dgE W B v its n) (hm:n≤m):dgE W B v its m:=by
 obtain ⟨bs,R,l,b⟩:=h
 exact ⟨bs,R,by omega,b⟩
set_option maxRecDepth 100000 in
set_option maxHeartbeats 16000000 in
set_option linter.unusedSimpArgs false in
theorem drawMsg_M {w : World} {s g : Nat} {a : Option Addr} {c : Nat} {xs : List Int} {t : Int} (d : Drm w s g a c xs t) (t1 : t ≤ 800000) :
    Calls Tryz.prog 33 #[.pointer (some ⟨s,0,none⟩)] w fun e w'=>∃ (m:Msg) (u:Int),msF xs t=(m,u)∧MsOV w' w.heap.size m e∧u≤t+40∧Drm w' s g a c xs u∧But s w w':=by
  obtain ⟨dR,hdR,hrowR⟩:=rowM
  obtain ⟨i0,hi,hz0,hz1,hz2⟩:=info_parts Tryz.info5
  have ls:=d.S.lt
  have lg:=d.R.lt
  obtain ⟨B,hB⟩:∃ B,B=w.heap.size:=⟨_,rfl⟩
  have D0:Dq w w s g a c xs B t:=Dq.start d (by omega) (fun h=>by have:=lg h;omega) (by omega)
  have n1:Below w.heap.size w (w.alloc (.cells #[.int .i64 0,.int .i64 0,.slice none 0 0,.slice none 0 0,.string ⟨#[]⟩,.slice none 0 0,.slice none 0 0,.int .i64 0,.int .i64 0,.slice none 0 0,.bool false,.slice none 0 0,.slice none 0 0] 26)):=(Below.refl _ _).alloc (Nat.le_refl _) _
  have Q:RwC (w.alloc (.cells #[.int .i64 0,.int .i64 0,.slice none 0 0,.slice none 0 0,.string ⟨#[]⟩,.slice none 0 0,.slice none 0 0,.int .i64 0,.int .i64 0,.slice none 0 0,.bool false,.slice none 0 0,.slice none 0 0] 26)) w.heap.size [.int .i64 0,.int .i64 0,.slice none 0 0,.slice none 0 0,.string ⟨#[]⟩,.slice none 0 0,.slice none 0 0,.int .i64 0,.int .i64 0,.slice none 0 0,.bool false,.slice none 0 0,.slice none 0 0] 26:=RwC.new w _ _
  have z1:(w.alloc (.cells #[.int .i64 0,.int .i64 0,.slice none 0 0,.slice none 0 0,.string ⟨#[]⟩,.slice none 0 0,.slice none 0 0,.int .i64 0,.int .i64 0,.slice none 0 0,.bool false,.slice none 0 0,.slice none 0 0] 26)).heap.size=w.heap.size+1:=by simp
  have D:=D0.up n1
  have POST:∀ {m:Msg} {v0 v1 v2 v3 v4 v5 v6 v7 v8 v9 v10 v11 v12:Value} {W:World} {u:Int},Hid (MsO W B m v0 v1 v2 v3 v4 v5 v6 v7 v8 v9 v10 v11 v12)→Hid (Dq w W s g a c xs B u)→u≤t+40→Hid (msF xs t=(m,u))→Hid (∃ (m:Msg) (u:Int),msF xs t=(m,u)∧MsOV W w.heap.size m (.returned (.agg #[v0,v1,v2,v3,v4,v5,v6,v7,v8,v9,v10,v11,v12]))∧u≤t+40∧Drm W s g a c xs u∧But s w W):=fun {m v0 v1 v2 v3 v4 v5 v6 v7 v8 v9 v10 v11 v12 W u} hm hd hu he=>by
    subst hB
    exact ⟨m,u,he.out,⟨v0,v1,v2,v3,v4,v5,v6,v7,v8,v9,v10,v11,v12,rfl,hm.out⟩,hu,hd.out.d,hd.out.out⟩
  clear n1 d D0
  go_enter Tryz.func33,Tryz.ntmps33
  go_wp2_with fail
  generalize w.alloc (.cells #[.int .i64 0,.int .i64 0,.slice none 0 0,.slice none 0 0,.string ⟨#[]⟩,.slice none 0 0,.slice none 0 0,.int .i64 0,.int .i64 0,.slice none 0 0,.bool false,.slice none 0 0,.slice none 0 0] 26)=W0 at *
  refine (next_M D.d (by omega) (by decide) (by decide)).mono ?_
  rintro e W1 ⟨k,rfl,ek,hk,d',b'⟩
  have Ek:=hide ek
  clear ek
  have zW1:=b'.size
  replace Q:=Q.butM b' (by omega)
  replace D:=D.but b' d'
  clear b' d'
  have hk':k=0∨k=1∨k=2∨k=3∨k=4∨k=5∨k=6∨k=7∨8≤k:=by omega
  clear hk
  rcases hk' with rfl | rfl | rfl | rfl | rfl | rfl | rfl | rfl | hk8
  · rw [show ((0 : Nat) : Int) = 0 from rfl]
    go_wp2_with fail
    refine (next_M D.d (by omega) (by decide) (by decide)).mono ?_
    rintro e W2 ⟨r1,rfl,er1,hr1,d',b'⟩
    have Er1:=hide er1
    clear er1
    have zW2:=b'.size
    replace Q:=Q.butM b' (by omega)
    replace D:=D.but b' d'
    clear b' d'
    go_wp2_with fail
    refine (bytes_M D.d 32 (by omega) (by omega)).mono ?_
    rintro e W3 ⟨v',rfl,yb,R',d',b'⟩
    obtain ⟨X2,hX2⟩:∃ X,X=byF xs (t+1+1) 32:=⟨_,rfl⟩
    have yl:X2.length=32:=by rw [hX2,byF_len]
    rw [← hX2] at R' yb
    have f2:dgB W3 B v' X2:=dgB.row R' (by omega) yb (by omega)
    obtain ⟨a2,l2,c2,rfl⟩:=f2.form
    have EX2:=hide hX2
    clear R' yl yb hX2
    have zW3:=b'.size
    replace Q:=Q.butM b' (by omega)
    replace D:=D.but b' d'
    clear b' d'
    go_wp2_with fail
    refine (bytes_M D.d 32 (by omega) (by omega)).mono ?_
    rintro e W4 ⟨v',rfl,yb,R',d',b'⟩
    obtain ⟨X3,hX3⟩:∃ X,X=byF xs (t+1+1+1) 32:=⟨_,rfl⟩
    have yl:X3.length=32:=by rw [hX3,byF_len]
    rw [← hX3] at R' yb
    have f3:dgB W4 B v' X3:=dgB.row R' (by omega) yb (by omega)
    obtain ⟨a3,l3,c3,rfl⟩:=f3.form
    have EX3:=hide hX3
    clear R' yl yb hX3
    have zW4:=b'.size
    replace Q:=Q.butM b' (by omega)
    replace f2:=f2.kp (X:=26) (dgK.but b' D.sB) (by decide)
    replace D:=D.but b' d'
    clear b' d'
    go_wp2_with fail
    refine (chance_M D.d (by omega) (by decide) (by decide)).mono ?_
    rintro e W5 ⟨bb,rfl,ebb,d',b'⟩
    have Ebb:=hide ebb
    clear ebb
    have zW5:=b'.size
    replace Q:=Q.butM b' (by omega)
    replace f2:=f2.kp (X:=26) (dgK.but b' D.sB) (by decide)
    replace f3:=f3.kp (X:=26) (dgK.but b' D.sB) (by decide)
    replace D:=D.but b' d'
    clear b' d'
    have M:MsO W5 B (⟨2,1+(r1:Int),X2,X3,[],[],[],0,0,[],bb,[],[]⟩:Msg) (.int .i64 2) (.int .i64 (1+(r1:Int))) (.slice a2 l2 c2) (.slice a3 l3 c3) (.string ⟨#[]⟩) (.slice none 0 0) (.slice none 0 0) (.int .i64 0) (.int .i64 0) (.slice none 0 0) (.bool bb) (.slice none 0 0) (.slice none 0 0):=⟨rfl,rfl,f2,f3,dgS.nil,dgT.nil _ _,dgB.nil _ _,rfl,rfl,dgB.nil _ _,rfl,dgC.nil _ _,dgB.nil _ _⟩
    clear f2 f3
    obtain ⟨THR,ONE,RR,MF,DF⟩:=M.fin Q D (by omega)
    clear M D Q
    have EQ:Hid (msF xs t=((⟨2,1+(r1:Int),X2,X3,[],[],[],0,0,[],bb,[],[]⟩:Msg),t+1+1+1+1+1)):=by
      show _=_
      unfold msF
      simp only [Ek.out,show ((0:Nat):Int)=0 from rfl,Int.reduceEq,reduceIte,Er1.out,← EX2.out,← EX3.out,← Ebb.out,ms0,Int.toNat_natCast]
    go_wp2_with (refine wpList_store_mid rfl 26 (.tmp 2) (.tmp 19) rfl _ 0 _ rfl rfl THR iM ONE ?_)
    refine bodyPost_ret (v := .agg _) (results_cellG Tryz.results33 _ _ _ _ dR rfl RR hdR hrowR iM) rfl ?_
    exact (POST MF DF (by omega) EQ).out
  · rw [show ((1 : Nat) : Int) = 1 from rfl]
    go_wp2_with fail
    refine (next_M D.d (by omega) (by decide) (by decide)).mono ?_
    rintro e W6 ⟨r7,rfl,er7,hr7,d',b'⟩
    have Er7:=hide er7
    clear er7
    have zW6:=b'.size
    replace Q:=Q.butM b' (by omega)
    replace D:=D.but b' d'
    clear b' d'
    go_wp2_with fail
    refine (next_M D.d (by omega) (by decide) (by decide)).mono ?_
    rintro e W7 ⟨r8,rfl,er8,hr8,d',b'⟩
    have Er8:=hide er8
    clear er8
    have zW7:=b'.size
    replace Q:=Q.butM b' (by omega)
    replace D:=D.but b' d'
    clear b' d'
    go_wp2_with fail
    refine (bytes_M D.d 32 (by omega) (by omega)).mono ?_
    rintro e W8 ⟨v',rfl,yb,R',d',b'⟩
    obtain ⟨X2,hX2⟩:∃ X,X=byF xs (t+1+1+1) 32:=⟨_,rfl⟩
    have yl:X2.length=32:=by rw [hX2,byF_len]
    rw [← hX2] at R' yb
    have f2:dgB W8 B v' X2:=dgB.row R' (by omega) yb (by omega)
    obtain ⟨a2,l2,c2,rfl⟩:=f2.form
    have EX2:=hide hX2
    clear R' yl yb hX2
    have zW8:=b'.size
    replace Q:=Q.butM b' (by omega)
    replace D:=D.but b' d'
    clear b' d'
    go_wp2_with fail
    refine (next_M D.d (by omega) (by decide) (by decide)).mono ?_
    rintro e W9 ⟨rx,rfl,erx,hrx,d',b'⟩
    have Erx:=hide erx
    clear erx
    have zW9:=b'.size
    replace Q:=Q.butM b' (by omega)
    replace f2:=f2.kp (X:=26) (dgK.but b' D.sB) (by decide)
    replace D:=D.but b' d'
    clear b' d'
    obtain ⟨j,hj⟩:∃ j:Nat,j=1+rx:=⟨_,rfl⟩
    have qj:j≤60:=by omega
    have wj:IntKind.i64.wrap (1+(rx:Int))=(j:Int):=by rw [IntKind.wrap_i64];omega
    have wj':1+(rx:Int)=(j:Int):=by omega
    have HJ:=hide hj
    clear hj
    go_wp2_with fail
    try rw [wj']
    clear wj wj' hrx
    refine (bytes_M D.d j (by omega) (by omega)).mono ?_
    rintro e W10 ⟨v',rfl,yb,R',d',b'⟩
    obtain ⟨X6,hX6⟩:∃ X,X=byF xs (t+1+1+1+1+1) j:=⟨_,rfl⟩
    have yl:X6.length=j:=by rw [hX6,byF_len]
    rw [← hX6] at R' yb
    have f6:dgB W10 B v' X6:=dgB.row R' (by omega) yb (by omega)
    obtain ⟨a6,l6,c6,rfl⟩:=f6.form
    have EX6:=hide hX6
    clear R' yl yb hX6
    have zW10:=b'.size
    replace Q:=Q.butM b' (by omega)
    replace f2:=f2.kp (X:=26) (dgK.but b' D.sB) (by decide)
    replace D:=D.but b' d'
    clear b' d'
    have M:MsO W10 B (⟨4,0,X2,[],[],[],X6,(r7:Int),(r8:Int),[],false,[],[]⟩:Msg) (.int .i64 4) (.int .i64 0) (.slice a2 l2 c2) (.slice none 0 0) (.string ⟨#[]⟩) (.slice none 0 0) (.slice a6 l6 c6) (.int .i64 (r7:Int)) (.int .i64 (r8:Int)) (.slice none 0 0) (.bool false) (.slice none 0 0) (.slice none 0 0):=⟨rfl,rfl,f2,dgB.nil _ _,dgS.nil,dgT.nil _ _,f6,rfl,rfl,dgB.nil _ _,rfl,dgC.nil _ _,dgB.nil _ _⟩
    clear f2 f6
    obtain ⟨THR,ONE,RR,MF,DF⟩:=M.fin Q D (by omega)
    clear M D Q
    have EQ:Hid (msF xs t=((⟨4,0,X2,[],[],[],X6,(r7:Int),(r8:Int),[],false,[],[]⟩:Msg),t+1+1+1+1+1+1)):=by
      show _=_
      unfold msF
      simp only [Ek.out,show ((1:Nat):Int)=1 from rfl,Int.reduceEq,reduceIte,Er7.out,Er8.out,← EX2.out,Erx.out,← HJ.out,← EX6.out,ms0,Int.toNat_natCast]
    go_wp2_with (refine wpList_store_mid rfl 26 (.tmp 2) (.tmp 33) rfl _ 0 _ rfl rfl THR iM ONE ?_)
    refine bodyPost_ret (v := .agg _) (results_cellG Tryz.results33 _ _ _ _ dR rfl RR hdR hrowR iM) rfl ?_
    exact (POST MF DF (by omega) EQ).out
  · rw [show ((2 : Nat) : Int) = 2 from rfl]
    have M:MsO W1 B (⟨5,0,[],[],[],[],[],0,0,[],false,[],[]⟩:Msg) (.int .i64 5) (.int .i64 0) (.slice none 0 0) (.slice none 0 0) (.string ⟨#[]⟩) (.slice none 0 0) (.slice none 0 0) (.int .i64 0) (.int .i64 0) (.slice none 0 0) (.bool false) (.slice none 0 0) (.slice none 0 0):=⟨rfl,rfl,dgB.nil _ _,dgB.nil _ _,dgS.nil,dgT.nil _ _,dgB.nil _ _,rfl,rfl,dgB.nil _ _,rfl,dgC.nil _ _,dgB.nil _ _⟩
    obtain ⟨THR,ONE,RR,MF,DF⟩:=M.fin Q D (by omega)
    clear M D Q
    have EQ:Hid (msF xs t=((⟨5,0,[],[],[],[],[],0,0,[],false,[],[]⟩:Msg),t+1)):=by
      show _=_
      unfold msF
      simp only [Ek.out,show ((2:Nat):Int)=2 from rfl,Int.reduceEq,reduceIte,ms0,Int.toNat_natCast]
    go_wp2_with (refine wpList_store_mid rfl 26 (.tmp 2) (.tmp 36) rfl _ 0 _ rfl rfl THR iM ONE ?_)
    refine bodyPost_ret (v := .agg _) (results_cellG Tryz.results33 _ _ _ _ dR rfl RR hdR hrowR iM) rfl ?_
    exact (POST MF DF (by omega) EQ).out
  · rw [show ((3 : Nat) : Int) = 3 from rfl]
    go_wp2_with fail
    refine (drawProt_M D.d (by omega) 1 (by omega)).mono ?_
    rintro e W11 ⟨v',ps,u5,rfl,en5,f5,hu5,d',b'⟩
    have EN5:=hide en5
    clear en5
    obtain ⟨R5,p1,p2⟩:=f5
    have f5:dgT W11 B v' ps:=⟨own_base R5 (by omega),p1,p2⟩
    obtain ⟨a5,c5,g5,rfl,_⟩:=R5.form
    obtain ⟨l5,hl5⟩:∃ l,l=ps.length:=⟨_,rfl⟩
    rw [← hl5] at f5 ⊢
    clear R5 p1 p2 hl5
    have zW11:=b'.size
    replace Q:=Q.butM b' (by omega)
    replace D:=D.but b' d'
    clear b' d'
    go_wp2_with fail
    refine (next_M D.d (by omega) (by decide) (by decide)).mono ?_
    rintro e W12 ⟨r8,rfl,er8,hr8,d',b'⟩
    have Er8:=hide er8
    clear er8
    have zW12:=b'.size
    replace Q:=Q.butM b' (by omega)
    replace f5:=f5.kp (X:=26) (dgK.but b' D.sB) (by decide)
    replace D:=D.but b' d'
    clear b' d'
    have M:MsO W12 B (⟨8,0,[],[],[],ps,[],0,(r8:Int),[],false,[],[]⟩:Msg) (.int .i64 8) (.int .i64 0) (.slice none 0 0) (.slice none 0 0) (.string ⟨#[]⟩) (.slice a5 l5 c5) (.slice none 0 0) (.int .i64 0) (.int .i64 (r8:Int)) (.slice none 0 0) (.bool false) (.slice none 0 0) (.slice none 0 0):=⟨rfl,rfl,dgB.nil _ _,dgB.nil _ _,dgS.nil,f5,dgB.nil _ _,rfl,rfl,dgB.nil _ _,rfl,dgC.nil _ _,dgB.nil _ _⟩
    clear f5
    obtain ⟨THR,ONE,RR,MF,DF⟩:=M.fin Q D (by omega)
    clear M D Q
    have EQ:Hid (msF xs t=((⟨8,0,[],[],[],ps,[],0,(r8:Int),[],false,[],[]⟩:Msg),u5+1)):=by
      show _=_
      unfold msF
      simp only [Ek.out,show ((3:Nat):Int)=3 from rfl,Int.reduceEq,reduceIte,EN5.out,Er8.out,ms0,Int.toNat_natCast]
    go_wp2_with (refine wpList_store_mid rfl 26 (.tmp 2) (.tmp 43) rfl _ 0 _ rfl rfl THR iM ONE ?_)
    refine bodyPost_ret (v := .agg _) (results_cellG Tryz.results33 _ _ _ _ dR rfl RR hdR hrowR iM) rfl ?_
    exact (POST MF DF (by omega) EQ).out
  · rw [show ((4 : Nat) : Int) = 4 from rfl]
    have n':Below W1.heap.size W1 (W1.alloc (.cells #[.int .i64 11,.int .i64 0,.slice none 0 0,.slice none 0 0,.string ⟨#[]⟩,.slice none 0 0,.slice none 0 0,.int .i64 0,.int .i64 0,.slice none 0 0,.bool false,.slice none 0 0,.slice none 0 0] 26)):=(Below.refl _ _).alloc (Nat.le_refl _) _
    have T:RwC (W1.alloc (.cells #[.int .i64 11,.int .i64 0,.slice none 0 0,.slice none 0 0,.string ⟨#[]⟩,.slice none 0 0,.slice none 0 0,.int .i64 0,.int .i64 0,.slice none 0 0,.bool false,.slice none 0 0,.slice none 0 0] 26)) W1.heap.size [.int .i64 11,.int .i64 0,.slice none 0 0,.slice none 0 0,.string ⟨#[]⟩,.slice none 0 0,.slice none 0 0,.int .i64 0,.int .i64 0,.slice none 0 0,.bool false,.slice none 0 0,.slice none 0 0] 26:=RwC.new _ _ _
    have zW13:(W1.alloc (.cells #[.int .i64 11,.int .i64 0,.slice none 0 0,.slice none 0 0,.string ⟨#[]⟩,.slice none 0 0,.slice none 0 0,.int .i64 0,.int .i64 0,.slice none 0 0,.bool false,.slice none 0 0,.slice none 0 0] 26)).heap.size=W1.heap.size+1:=by simp
    have p0:=Q.lt
    replace Q:=Q.up n'
    have p1:=D.size
    replace D:=D.up n'
    have M:MsO (W1.alloc (.cells #[.int .i64 11,.int .i64 0,.slice none 0 0,.slice none 0 0,.string ⟨#[]⟩,.slice none 0 0,.slice none 0 0,.int .i64 0,.int .i64 0,.slice none 0 0,.bool false,.slice none 0 0,.slice none 0 0] 26)) B (⟨11,0,[],[],[],[],[],0,0,[],false,[],[]⟩:Msg) (.int .i64 11) (.int .i64 0) (.slice none 0 0) (.slice none 0 0) (.string ⟨#[]⟩) (.slice none 0 0) (.slice none 0 0) (.int .i64 0) (.int .i64 0) (.slice none 0 0) (.bool false) (.slice none 0 0) (.slice none 0 0):=⟨rfl,rfl,dgB.nil _ _,dgB.nil _ _,dgS.nil,dgT.nil _ _,dgB.nil _ _,rfl,rfl,dgB.nil _ _,rfl,dgC.nil _ _,dgB.nil _ _⟩
    clear n'
    go_wp2_with fail
    generalize W1.alloc (.cells #[.int .i64 11,.int .i64 0,.slice none 0 0,.slice none 0 0,.string ⟨#[]⟩,.slice none 0 0,.slice none 0 0,.int .i64 0,.int .i64 0,.slice none 0 0,.bool false,.slice none 0 0,.slice none 0 0] 26)=W13 at *
    refine (next_M D.d (by omega) (by decide) (by decide)).mono ?_
    rintro e W14 ⟨r4,rfl,er4,hr4,d',b'⟩
    have Er4:=hide er4
    clear er4
    have zW14:=b'.size
    replace T:=T.butM b' (by omega)
    replace M:=M.kp (dgK.but b' D.sB) neM
    replace Q:=Q.butM b' (by omega)
    replace D:=D.but b' d'
    clear b' d'
    obtain ⟨j4,hj4⟩:∃ j:Nat,j=1+r4:=⟨_,rfl⟩
    have q4:j4≤4:=by omega
    have w4:IntKind.i64.wrap (1+(r4:Int))=(j4:Int):=by rw [IntKind.wrap_i64];omega
    have HJ4:=hide hj4
    clear hj4 hr4
    clear M
    have pw:=T.lt
    have pB:B≤W1.heap.size∧w.heap.size < W1.heap.size∧s < W1.heap.size:=by omega
    go_upto_region 13 with fail
    go_loopw [4] (fun i wr=>∃ (m:Nat) (v:Value) (cs:List (List Int)) (u:Int),i = .int .i64 (m:Int)∧m≤4∧u+3*m≤t+20∧RwC wr (W1.heap.size) [.int .i64 11,.int .i64 0,.slice none 0 0,.slice none 0 0,.string ⟨#[]⟩,.slice none 0 0,.slice none 0 0,.int .i64 0,.int .i64 0,.slice none 0 0,.bool false,v,.slice none 0 0] 26∧RwC wr w.heap.size [.int .i64 0,.int .i64 0,.slice none 0 0,.slice none 0 0,.string ⟨#[]⟩,.slice none 0 0,.slice none 0 0,.int .i64 0,.int .i64 0,.slice none 0 0,.bool false,.slice none 0 0,.slice none 0 0] 26∧dgE wr B v cs (4 - m)∧Hid (ceG xs j4 [] (t+1+1)=ceG xs m cs u)∧(∃ av lv cv,v = .slice av lv cv)∧Dq w wr s g a c xs B u∧W1.heap.size < wr.heap.size) (fun i _=>(intOf i).toNat)
    case atStart=>exact ⟨j4,_,_,_,rfl,by omega,by omega,T,Q,dgE.nil _ _ _,rfl,⟨_,_,_,rfl⟩,D,pw⟩
    case round =>
      clear T Q D pw w4
      obtain ⟨m,v,cs,u,rfl,hm4,hu,T,Q,E,EC,⟨av,lv,cv,rfl⟩,D,pw⟩:=hrel
      by_cases hm:m=0
      · subst hm
        rw [show ((0:Nat):Int)=0 from rfl]
        have M:MsO wr B (⟨11,0,[],[],[],[],[],0,0,[],false,cs,[]⟩:Msg) (.int .i64 11) (.int .i64 0) (.slice none 0 0) (.slice none 0 0) (.string ⟨#[]⟩) (.slice none 0 0) (.slice none 0 0) (.int .i64 0) (.int .i64 0) (.slice none 0 0) (.bool false) (.slice av lv cv) (.slice none 0 0):=⟨rfl,rfl,dgB.nil _ _,dgB.nil _ _,dgS.nil,dgT.nil _ _,dgB.nil _ _,rfl,rfl,dgB.nil _ _,rfl,E.mono (by decide),dgB.nil _ _⟩
        clear E
        have RG:=T.rangeG
        obtain ⟨THR,ONE,RR,MF,DF⟩:=M.fin Q D (by omega)
        clear M D Q T
        have EQ:Hid (msF xs t=((⟨11,0,[],[],[],[],[],0,0,[],false,cs,[]⟩:Msg),u)):=by
          have h:=EC.out
          show _=_
          unfold msF
          simp only [Ek.out]
          rw [if_neg (by omega:¬ (((4:Nat):Int)=0)),if_neg (by omega:¬ (((4:Nat):Int)=1)),if_neg (by omega:¬ (((4:Nat):Int)=2)),if_neg (by omega:¬ (((4:Nat):Int)=3)),if_pos (by rfl:(((4:Nat):Int))=4)]
          simp only [Er4.out,Int.toNat_natCast,← HJ4.out,ms0]
          rw [h]
          rfl
        go_wp2_with (first | refine wpList_load_mid rfl 26 (.tmp 3) rfl _ 0 rfl _ dR RG hdR hrowR iM ?_ | refine wpList_store_mid rfl 26 (.tmp 2) (.tmp 68) rfl _ 0 _ rfl rfl THR iM ONE ?_)
        refine bodyPost_ret (v := .agg _) (results_cellG Tryz.results33 _ _ _ _ dR rfl RR hdR hrowR iM) rfl ?_
        exact (POST MF DF (by omega) EQ).out
      · have tk : decide ((0 : Int) < (m : Int)) = true := decide_eq_true (by omega)
        have tk':0 < m:=by omega
        have sk:IntKind.i64.wrap ((m:Int) - 1)=((m - 1:Nat):Int):=by rw [IntKind.wrap_i64];omega
        go_wp2_with fail
        refine (next_M D.d (by omega) (by decide) (by decide)).mono ?_
        rintro e W15 ⟨rn,rfl,ern,hrn,d',b'⟩
        have ERN:=hide ern
        clear ern
        have zW15:=b'.size
        replace T:=T.butM b' (by omega)
        replace Q:=Q.butM b' (by omega)
        replace E:=E.kp (dgK.but (X:=26) b' D.sB) (by decide)
        replace D:=D.but b' d'
        clear b' d'
        obtain ⟨jn,hjn⟩:∃ j:Nat,j=1+rn:=⟨_,rfl⟩
        have qn:jn≤60:=by omega
        have wn:IntKind.i64.wrap (1+(rn:Int))=(jn:Int):=by rw [IntKind.wrap_i64];omega
        have HJN:=hide hjn
        clear hjn hrn
        go_wp2_with fail
        refine (chance_M D.d (by omega) (by decide) (by decide)).mono ?_
        rintro e W16 ⟨bn,rfl,ebn,d',b'⟩
        have EBN:=hide ebn
        clear ebn
        have zW16:=b'.size
        replace T:=T.butM b' (by omega)
        replace Q:=Q.butM b' (by omega)
        replace E:=E.kp (dgK.but (X:=26) b' D.sB) (by decide)
        replace D:=D.but b' d'
        clear b' d'
        cases bn
        case false =>
          have N1:Hid (Calls Tryz.prog 55 #[.pointer (some ⟨s,0,none⟩),.int .i64 ((jn:Int))] W16.drew fun e w2=>∃ (xa:Option Addr) (xl xc:Nat),e = .returned (.slice xa xl xc)∧w2.cell? ⟨W1.heap.size,11,none⟩=some (.slice av lv cv)∧(w2.alloc (.cells #[.slice xa xl xc] 52)).cell? ⟨W1.heap.size,11,none⟩=some (.slice av lv cv)∧∃ v' w4,(Builtin.append_ #[24,24] 24 #[.slice av lv cv,.slice (some ⟨w2.heap.size,0,none⟩) 1 1]).run Tryz.prog (w2.alloc (.cells #[.slice xa xl xc] 52)) = .ok v' w4∧((∃ av lv cv,v' = .slice av lv cv)∧w4.cell? ⟨W1.heap.size,11,none⟩=some (.slice av lv cv)∧w4.frozen? ⟨W1.heap.size,11,none⟩=false∧Hid (∃ u':Int,u'=u+1+1+1∧RwC (w4.setCell ⟨W1.heap.size,11,none⟩ v') (W1.heap.size) [.int .i64 11,.int .i64 0,.slice none 0 0,.slice none 0 0,.string ⟨#[]⟩,.slice none 0 0,.slice none 0 0,.int .i64 0,.int .i64 0,.slice none 0 0,.bool false,v',.slice none 0 0] 26∧RwC (w4.setCell ⟨W1.heap.size,11,none⟩ v') w.heap.size [.int .i64 0,.int .i64 0,.slice none 0 0,.slice none 0 0,.string ⟨#[]⟩,.slice none 0 0,.slice none 0 0,.int .i64 0,.int .i64 0,.slice none 0 0,.bool false,.slice none 0 0,.slice none 0 0] 26∧dgE (w4.setCell ⟨W1.heap.size,11,none⟩ v') B v' (cs ++ [byF xs (u+1+1) jn]) (4 - (m - 1))∧Dq w (w4.setCell ⟨W1.heap.size,11,none⟩ v') s g a c xs B u'∧W1.heap.size < (w4.setCell ⟨W1.heap.size,11,none⟩ v').heap.size))):=by
            have nd:Below W16.heap.size W16 W16.drew:=(Below.refl _ _).drew
            have D0:=D.up nd
            have T0:=T.up nd
            have Q0:=Q.up nd
            have E0:=E.kp (dgK.up (X:=26) nd) (by decide)
            have zd:W16.drew.heap.size=W16.heap.size:=rfl
            have C:=bytes_M D0.d (jn) (by omega) (by omega)
            rw [show ((jn:Nat):Int)=(jn:Int) by omega] at C
            refine C.mono ?_
            rintro e w2 ⟨vx,rfl,yb,R',d',b'⟩
            obtain ⟨ys,hys⟩:∃ ys,ys=byF xs (u+1+1) jn:=⟨_,rfl⟩
            have yl:ys.length=jn:=by rw [hys,byF_len]
            rw [← hys] at R' yb ⊢
            have z2:=b'.size
            have T2:=T0.butM b' (by omega)
            have Q2:=Q0.butM b' (by omega)
            have D2:=D0.but b' d'
            obtain ⟨v',w4,h1,E4,⟨av',lv',cv',rfl⟩,nB,K⟩:=E0.app (dgK.but b' D.sB) z2 R' (by omega) yb (by omega) (by omega)
            obtain ⟨xa,xc,xg,rfl,_⟩:=R'.own
            have z4:=nB.size
            have T4:=T2.kpM K (by omega) (by decide)
            have Q4:=Q2.kpM K (by omega) (by decide)
            have D4:=D2.app nB K (.inr rfl)
            have OS:=Only.setCell w4 (W1.heap.size) 11 (.slice av' lv' cv')
            exact ⟨xa,ys.length,xc,rfl,T2.cell 11,(T2.push _).cell 11,_,w4,h1,⟨av',lv',cv',rfl⟩,T4.cell 11,T4.free 11,_,rfl,T4.set 11 _,Q4.onl OS (by omega),(E4.kp (dgK.onl OS T4) (by decide)).mono (by omega),D4.onl OS (by omega),by rw [OS.size];omega⟩
          have t11:W16.cell? ⟨W1.heap.size,11,none⟩=some (.slice av lv cv):=T.cell 11
          clear T Q E D
          go_upto_region 18 with fail
          go_region_law (first
            | (go_simp;go_at_call 55;refine N1.out.mono ?_;rintro e w2 ⟨xa,xl,xc,rfl,m2,m4,AP⟩)
            | (refine step_append_exM rfl (.tmp 60) (.tmp 65) 24 24 rfl (.slice av lv cv) (.slice (some ⟨w2.heap.size,0,none⟩) 1 1) rfl rfl _ AP ?_;rintro v3 w4 ⟨⟨av',lv',cv',rfl⟩,m5,f5,FF⟩)
            | fail)
          all_goals
            obtain ⟨u',hu',T,Q,E,D,pw'⟩:=FF.out
            have EC2:Hid (ceG xs j4 [] (t+1+1)=ceG xs (m - 1) (cs ++ [byF xs (u+1+1) jn]) u'):=by
              have h:=EC.out
              rw [show m=(m - 1)+1 by omega,ceG,ERN.out,Int.toNat_natCast,← HJN.out,if_neg (of_decide_eq_false EBN.out.symm)] at h
              rw [hu']
              exact h
            have hu2:u'≤u+3:=by omega
            clear EC hu'
            clear N1 AP m2 m4 FF t11
            go_wp2
            go_roundw
            case rel=>exact ⟨m - 1,_,_,u',by first | rfl | go_num,by omega,by omega,T,Q,E,EC2,⟨_,_,_,rfl⟩,D,pw'⟩
            case measure=>simp [intOf];omega
        case true =>
          have N1:Hid (Calls Tryz.prog 55 #[.pointer (some ⟨s,0,none⟩),.int .i64 (2000)] W16.drew fun e w2=>∃ (xa:Option Addr) (xl xc:Nat),e = .returned (.slice xa xl xc)∧w2.cell? ⟨W1.heap.size,11,none⟩=some (.slice av lv cv)∧(w2.alloc (.cells #[.slice xa xl xc] 52)).cell? ⟨W1.heap.size,11,none⟩=some (.slice av lv cv)∧∃ v' w4,(Builtin.append_ #[24,24] 24 #[.slice av lv cv,.slice (some ⟨w2.heap.size,0,none⟩) 1 1]).run Tryz.prog (w2.alloc (.cells #[.slice xa xl xc] 52)) = .ok v' w4∧((∃ av lv cv,v' = .slice av lv cv)∧w4.cell? ⟨W1.heap.size,11,none⟩=some (.slice av lv cv)∧w4.frozen? ⟨W1.heap.size,11,none⟩=false∧Hid (∃ u':Int,u'=u+1+1+1∧RwC (w4.setCell ⟨W1.heap.size,11,none⟩ v') (W1.heap.size) [.int .i64 11,.int .i64 0,.slice none 0 0,.slice none 0 0,.string ⟨#[]⟩,.slice none 0 0,.slice none 0 0,.int .i64 0,.int .i64 0,.slice none 0 0,.bool false,v',.slice none 0 0] 26∧RwC (w4.setCell ⟨W1.heap.size,11,none⟩ v') w.heap.size [.int .i64 0,.int .i64 0,.slice none 0 0,.slice none 0 0,.string ⟨#[]⟩,.slice none 0 0,.slice none 0 0,.int .i64 0,.int .i64 0,.slice none 0 0,.bool false,.slice none 0 0,.slice none 0 0] 26∧dgE (w4.setCell ⟨W1.heap.size,11,none⟩ v') B v' (cs ++ [byF xs (u+1+1) 2000]) (4 - (m - 1))∧Dq w (w4.setCell ⟨W1.heap.size,11,none⟩ v') s g a c xs B u'∧W1.heap.size < (w4.setCell ⟨W1.heap.size,11,none⟩ v').heap.size))):=by
            have nd:Below W16.heap.size W16 W16.drew:=(Below.refl _ _).drew
            have D0:=D.up nd
            have T0:=T.up nd
            have Q0:=Q.up nd
            have E0:=E.kp (dgK.up (X:=26) nd) (by decide)
            have zd:W16.drew.heap.size=W16.heap.size:=rfl
            have C:=bytes_M D0.d (2000) (by omega) (by omega)
            rw [show ((2000:Nat):Int)=2000 by omega] at C
            refine C.mono ?_
            rintro e w2 ⟨vx,rfl,yb,R',d',b'⟩
            obtain ⟨ys,hys⟩:∃ ys,ys=byF xs (u+1+1) 2000:=⟨_,rfl⟩
            have yl:ys.length=2000:=by rw [hys,byF_len]
            rw [← hys] at R' yb ⊢
            have z2:=b'.size
            have T2:=T0.butM b' (by omega)
            have Q2:=Q0.butM b' (by omega)
            have D2:=D0.but b' d'
            obtain ⟨v',w4,h1,E4,⟨av',lv',cv',rfl⟩,nB,K⟩:=E0.app (dgK.but b' D.sB) z2 R' (by omega) yb (by omega) (by omega)
            obtain ⟨xa,xc,xg,rfl,_⟩:=R'.own
            have z4:=nB.size
            have T4:=T2.kpM K (by omega) (by decide)
            have Q4:=Q2.kpM K (by omega) (by decide)
            have D4:=D2.app nB K (.inr rfl)
            have OS:=Only.setCell w4 (W1.heap.size) 11 (.slice av' lv' cv')
            exact ⟨xa,ys.length,xc,rfl,T2.cell 11,(T2.push _).cell 11,_,w4,h1,⟨av',lv',cv',rfl⟩,T4.cell 11,T4.free 11,_,rfl,T4.set 11 _,Q4.onl OS (by omega),(E4.kp (dgK.onl OS T4) (by decide)).mono (by omega),D4.onl OS (by omega),by rw [OS.size];omega⟩
          have t11:W16.cell? ⟨W1.heap.size,11,none⟩=some (.slice av lv cv):=T.cell 11
          clear T Q E D
          go_upto_region 18 with fail
          go_region_law (first
            | (go_simp;go_at_call 55;refine N1.out.mono ?_;rintro e w2 ⟨xa,xl,xc,rfl,m2,m4,AP⟩)
            | (refine step_append_exM rfl (.tmp 60) (.tmp 65) 24 24 rfl (.slice av lv cv) (.slice (some ⟨w2.heap.size,0,none⟩) 1 1) rfl rfl _ AP ?_;rintro v3 w4 ⟨⟨av',lv',cv',rfl⟩,m5,f5,FF⟩)
            | fail)
          all_goals
            obtain ⟨u',hu',T,Q,E,D,pw'⟩:=FF.out
            have EC2:Hid (ceG xs j4 [] (t+1+1)=ceG xs (m - 1) (cs ++ [byF xs (u+1+1) 2000]) u'):=by
              have h:=EC.out
              rw [show m=(m - 1)+1 by omega,ceG,ERN.out,Int.toNat_natCast,← HJN.out,if_pos (of_decide_eq_true EBN.out.symm)] at h
              rw [hu']
              exact h
            have hu2:u'≤u+3:=by omega
            clear EC hu'
            clear N1 AP m2 m4 FF t11
            go_wp2
            go_roundw
            case rel=>exact ⟨m - 1,_,_,u',by first | rfl | go_num,by omega,by omega,T,Q,E,EC2,⟨_,_,_,rfl⟩,D,pw'⟩
            case measure=>simp [intOf];omega
  · rw [show ((5 : Nat) : Int) = 5 from rfl]
    go_wp2_with fail
    refine (bytes_M D.d 64 (by omega) (by omega)).mono ?_
    rintro e W17 ⟨v',rfl,yb,R',d',b'⟩
    obtain ⟨X12,hX12⟩:∃ X,X=byF xs (t+1) 64:=⟨_,rfl⟩
    have yl:X12.length=64:=by rw [hX12,byF_len]
    rw [← hX12] at R' yb
    have f12:dgB W17 B v' X12:=dgB.row R' (by omega) yb (by omega)
    obtain ⟨a12,l12,c12,rfl⟩:=f12.form
    have EX12:=hide hX12
    clear R' yl yb hX12
    have zW17:=b'.size
    replace Q:=Q.butM b' (by omega)
    replace D:=D.but b' d'
    clear b' d'
    have M:MsO W17 B (⟨15,0,[],[],[],[],[],0,0,[],false,[],X12⟩:Msg) (.int .i64 15) (.int .i64 0) (.slice none 0 0) (.slice none 0 0) (.string ⟨#[]⟩) (.slice none 0 0) (.slice none 0 0) (.int .i64 0) (.int .i64 0) (.slice none 0 0) (.bool false) (.slice none 0 0) (.slice a12 l12 c12):=⟨rfl,rfl,dgB.nil _ _,dgB.nil _ _,dgS.nil,dgT.nil _ _,dgB.nil _ _,rfl,rfl,dgB.nil _ _,rfl,dgC.nil _ _,f12⟩
    clear f12
    obtain ⟨THR,ONE,RR,MF,DF⟩:=M.fin Q D (by omega)
    clear M D Q
    have EQ:Hid (msF xs t=((⟨15,0,[],[],[],[],[],0,0,[],false,[],X12⟩:Msg),t+1+1)):=by
      show _=_
      unfold msF
      simp only [Ek.out,show ((5:Nat):Int)=5 from rfl,Int.reduceEq,reduceIte,← EX12.out,ms0,Int.toNat_natCast]
    go_wp2_with (refine wpList_store_mid rfl 26 (.tmp 2) (.tmp 73) rfl _ 0 _ rfl rfl THR iM ONE ?_)
    refine bodyPost_ret (v := .agg _) (results_cellG Tryz.results33 _ _ _ _ dR rfl RR hdR hrowR iM) rfl ?_
    exact (POST MF DF (by omega) EQ).out
  · rw [show ((6 : Nat) : Int) = 6 from rfl]
    go_wp2_with fail
    refine (bytes_M D.d 32 (by omega) (by omega)).mono ?_
    rintro e W18 ⟨v',rfl,yb,R',d',b'⟩
    obtain ⟨X12,hX12⟩:∃ X,X=byF xs (t+1) 32:=⟨_,rfl⟩
    have yl:X12.length=32:=by rw [hX12,byF_len]
    rw [← hX12] at R' yb
    have f12:dgB W18 B v' X12:=dgB.row R' (by omega) yb (by omega)
    obtain ⟨a12,l12,c12,rfl⟩:=f12.form
    have EX12:=hide hX12
    clear R' yl yb hX12
    have zW18:=b'.size
    replace Q:=Q.butM b' (by omega)
    replace D:=D.but b' d'
    clear b' d'
    have M:MsO W18 B (⟨20,0,[],[],[],[],[],0,0,[],false,[],X12⟩:Msg) (.int .i64 20) (.int .i64 0) (.slice none 0 0) (.slice none 0 0) (.string ⟨#[]⟩) (.slice none 0 0) (.slice none 0 0) (.int .i64 0) (.int .i64 0) (.slice none 0 0) (.bool false) (.slice none 0 0) (.slice a12 l12 c12):=⟨rfl,rfl,dgB.nil _ _,dgB.nil _ _,dgS.nil,dgT.nil _ _,dgB.nil _ _,rfl,rfl,dgB.nil _ _,rfl,dgC.nil _ _,f12⟩
    clear f12
    obtain ⟨THR,ONE,RR,MF,DF⟩:=M.fin Q D (by omega)
    clear M D Q
    have EQ:Hid (msF xs t=((⟨20,0,[],[],[],[],[],0,0,[],false,[],X12⟩:Msg),t+1+1)):=by
      show _=_
      unfold msF
      simp only [Ek.out,show ((6:Nat):Int)=6 from rfl,Int.reduceEq,reduceIte,← EX12.out,ms0,Int.toNat_natCast]
    go_wp2_with (refine wpList_store_mid rfl 26 (.tmp 2) (.tmp 78) rfl _ 0 _ rfl rfl THR iM ONE ?_)
    refine bodyPost_ret (v := .agg _) (results_cellG Tryz.results33 _ _ _ _ dR rfl RR hdR hrowR iM) rfl ?_
    exact (POST MF DF (by omega) EQ).out
  · rw [show ((7 : Nat) : Int) = 7 from rfl]
    go_wp2_with fail
    refine (next_M D.d (by omega) (by decide) (by decide)).mono ?_
    rintro e W19 ⟨r8,rfl,er8,hr8,d',b'⟩
    have Er8:=hide er8
    clear er8
    have zW19:=b'.size
    replace Q:=Q.butM b' (by omega)
    replace D:=D.but b' d'
    clear b' d'
    have M:MsO W19 B (⟨24,0,[],[],[],[],[],0,(r8:Int),[],false,[],[]⟩:Msg) (.int .i64 24) (.int .i64 0) (.slice none 0 0) (.slice none 0 0) (.string ⟨#[]⟩) (.slice none 0 0) (.slice none 0 0) (.int .i64 0) (.int .i64 (r8:Int)) (.slice none 0 0) (.bool false) (.slice none 0 0) (.slice none 0 0):=⟨rfl,rfl,dgB.nil _ _,dgB.nil _ _,dgS.nil,dgT.nil _ _,dgB.nil _ _,rfl,rfl,dgB.nil _ _,rfl,dgC.nil _ _,dgB.nil _ _⟩
    obtain ⟨THR,ONE,RR,MF,DF⟩:=M.fin Q D (by omega)
    clear M D Q
    have EQ:Hid (msF xs t=((⟨24,0,[],[],[],[],[],0,(r8:Int),[],false,[],[]⟩:Msg),t+1+1)):=by
      show _=_
      unfold msF
      simp only [Ek.out,show ((7:Nat):Int)=7 from rfl,Int.reduceEq,reduceIte,Er8.out,ms0,Int.toNat_natCast]
    go_wp2_with (refine wpList_store_mid rfl 26 (.tmp 2) (.tmp 83) rfl _ 0 _ rfl rfl THR iM ONE ?_)
    refine bodyPost_ret (v := .agg _) (results_cellG Tryz.results33 _ _ _ _ dR rfl RR hdR hrowR iM) rfl ?_
    exact (POST MF DF (by omega) EQ).out
  · have e0 : ((k : Int) == 0) = false := by simp; omega
    have e1:((k:Int) == 1)=false:=by simp;omega
    have e2:((k:Int) == 2)=false:=by simp;omega
    have e3:((k:Int) == 3)=false:=by simp;omega
    have e4:((k:Int) == 4)=false:=by simp;omega
    have e5:((k:Int) == 5)=false:=by simp;omega
    have e6:((k:Int) == 6)=false:=by simp;omega
    have e7:((k:Int) == 7)=false:=by simp;omega
    have HK8:=hide hk8
    clear hk8
    go_wp2_with fail
    refine (drawHello_M D.d (by omega)).mono ?_
    rintro e W20 ⟨mx,ux,emx,⟨v0,v1,v2,v3,v4,v5,v6,v7,v8,v9,v10,v11,v12,rfl,M0⟩,hux,d',b'⟩
    have EMX:=hide emx
    clear emx
    have M1:=M0.base (show B≤W1.heap.size by omega)
    obtain ⟨n0,n1,a2,l2,c2,a3,l3,c3,h4,a5,l5,c5,a6,l6,c6,n7,n8,a9,l9,c9,b10,a11,l11,c11,a12,l12,c12,rfl,rfl,rfl,rfl,rfl,rfl,rfl,rfl,rfl,rfl,rfl,rfl,rfl⟩:=M1.rd.forms
    clear M0
    have zW20:=b'.size
    replace Q:=Q.butM b' (by omega)
    replace D:=D.but b' d'
    clear b' d'
    have M:=M1
    clear M1
    obtain ⟨THR,ONE,RR,MF,DF⟩:=M.fin Q D (by omega)
    clear M D Q
    have EQ:Hid (msF xs t=(mx,ux)):=by
      have hk8:=HK8.out
      show _=_
      unfold msF
      simp only [Ek.out]
      rw [if_neg (by omega:¬ ((k:Int)=0)),if_neg (by omega:¬ ((k:Int)=1)),if_neg (by omega:¬ ((k:Int)=2)),if_neg (by omega:¬ ((k:Int)=3)),if_neg (by omega:¬ ((k:Int)=4)),if_neg (by omega:¬ ((k:Int)=5)),if_neg (by omega:¬ ((k:Int)=6)),if_neg (by omega:¬ ((k:Int)=7))]
      exact EMX.out
    go_wp2_with (refine wpList_store_mid rfl 26 (.tmp 2) (.tmp 85) rfl _ 0 _ rfl rfl THR iM ONE ?_)
    refine bodyPost_ret (v := .agg _) (results_cellG Tryz.results33 _ _ _ _ dR rfl RR hdR hrowR iM) rfl ?_
    exact (POST MF DF (by omega) EQ).out
end Go.Proofs.YtmmbkkfjiaoeiaaGreat
