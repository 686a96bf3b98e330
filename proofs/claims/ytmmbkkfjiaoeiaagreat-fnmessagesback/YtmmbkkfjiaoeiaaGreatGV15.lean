import Derived.Test.YtmmbkkfjiaoeiaaGreatGV11
import Derived.Test.YtmmbkkfjiaoeiaaGreatGV10
import Derived.Test.YtmmbkkfjiaoeiaaGreatGV9
import Derived.Test.YtmmbkkfjiaoeiaaGreatGV14
import Derived.Test.YtmmbkkfjiaoeiaaGreatGV2
import Derived.Deep.QuietTactic
import Derived.BigQuiet
namespace Go.Proofs.YtmmbkkfjiaoeiaaGreat
open Go Go.RowKit
theorem row_slice {w:World} {b:Nat} {v:Value} {xs:List Int} (R:RowB w b v xs):∃ (a:Option Addr) (c g:Nat),v = .slice a xs.length c∧Rd w g a .u8 xs∧(a=none→c=0):=by
 obtain ⟨a,c,g,e,r,z,-,-⟩:=R.rd
 exact ⟨a,c,g,e,r,z⟩
theorem Gr.row {w W:World} {cs:List Value} {v:Value} {xs:List Int} (h:Gr w cs W v xs) {b:Nat} {u:Value} {us:List Int} (R:RowB W b u us) (hl:xs.length+us.length≤1099511627776) :
  ∃ v' w',(Builtin.append_ #[22,22] 22 #[v,u]).run Tryz.prog W = .ok v' w'∧Gr w cs w' v' (xs ++ us):=by
 obtain ⟨a,c,g,e,r,z⟩:=row_slice R
 obtain ⟨v',w',h1,h2,-⟩:=h.app g a c us r z hl
 rw [e]
 exact ⟨v',w',h1,h2⟩
set_option maxRecDepth 100000 in
set_option maxHeartbeats 4000000 in
theorem sbTicket_any (w:World) (x1 x3 x4 x5 x9 x10 x11 x12:Value) (ag ea:Int) (a0:0≤ag) (a1:ag < 9223372036854775808) (e0:0≤ea) (e1:ea < 9223372036854775808) (l2 l6:Lst) (H2:LstR w l2) (H6:LstR w l6) :
  Calls Tryz.prog 53 #[.agg #[.int .i64 4,x1,.slice l2.a l2.xs.length l2.c,x3,x4,x5,.slice l6.a l6.xs.length l6.c,.int .i64 ag,.int .i64 ea,x9,x10,x11,x12]] w (BodP w (tkL ag ea l2.xs l6.xs)):=by
 have G0:=Gr.start w #[.int .i64 4,x1,.slice l2.a l2.xs.length l2.c,x3,x4,x5,.slice l6.a l6.xs.length l6.c,.int .i64 ag,.int .i64 ea,x9,x10,x11,x12].toList
 have m2:=H2.m
 have m6:=H6.m
 obtain ⟨OUT,hO'⟩:∃ l:List Int,l=tkL ag ea l2.xs l6.xs:=⟨_,rfl⟩
 rw [← hO']
 have hO:=hide hO'
 clear hO'
 have k0:=G0.c.cell 0
 have z1:(w.alloc (.cells #[.int .i64 4,x1,.slice l2.a l2.xs.length l2.c,x3,x4,x5,.slice l6.a l6.xs.length l6.c,.int .i64 ag,.int .i64 ea,x9,x10,x11,x12] 26)).heap.size=w.heap.size+1:=by simp
 go_enter Tryz.func53,Tryz.ntmps53
 go_upto_region 19 with fail
 clear k0 z1
 obtain ⟨vR,hvR⟩:∃ x,x=Value.slice (some ⟨w.heap.size+1,0,none⟩) 0 0:=⟨_,rfl⟩
 rw [← hvR] at G0 ⊢
 clear hvR
 generalize (w.alloc (.cells #[.int .i64 4,x1,.slice l2.a l2.xs.length l2.c,x3,x4,x5,.slice l6.a l6.xs.length l6.c,.int .i64 ag,.int .i64 ea,x9,x10,x11,x12] 26)).alloc (.cells #[] 5)=W2 at *
 have c7:=G0.c.cell 7
 have L1:=hide (l1BigB_any W2 ag 4 a0 a1 (by decide))
 go_wp2_with fail
 refine L1.out.mono ?_
 rintro e W3 ⟨rfl,R3,n3⟩
 obtain ⟨v4,W4,hap,G1⟩:=(G0.up n3).row R3 (by rw [bigL_len];simp)
 rw [List.nil_append] at G1
 have c8:=G1.c.cell 8
 have L2:=hide (l1BigB_any W4 ea 4 e0 e1 (by decide))
 clear G0 R3 n3 L1 c7
 go_wp2_with (at_builtin;refine Lib.wpList_append_run _ rfl _ _ 22 22 rfl _ _ rfl rfl _ _ hap ?_)
 clear hap
 refine L2.out.mono ?_
 rintro e W5 ⟨rfl,R5,n5⟩
 obtain ⟨v6,W6,hap,G2⟩:=(G1.up n5).row R5 (by rw [bigL_len,bigL_len];simp)
 clear G1 R5 n5 L2 c8
 go_upto_region 21 with (at_builtin;refine Lib.wpList_append_run _ rfl _ _ 22 22 rfl _ _ rfl rfl _ _ hap ?_)
 clear hap
 obtain ⟨BB,hBB⟩:∃ l,l=bigL ag 4 ++ bigL ea 4:=⟨_,rfl⟩
 have lB:Hid (BB.length=8):=by show _=_;rw [hBB,List.length_append,bigL_len,bigL_len]
 rw [← hBB] at G2
 have hO2:Hid (OUT=(BB ++ l2.xs) ++ loL l6.xs):=by show _=_;rw [hO.out,hBB];rfl
 clear hBB hO
 have nd:Below W6.heap.size W6 W6.drew:=(Below.refl _ _).drew
 have G3:=G2.up nd
 have A95:=hide (G3.app l2.g l2.a l2.c l2.xs (G3.list H2).r H2.z (by rw [lB.out];omega))
 have A98:Hid (∀ v' W zs,Gr w #[.int .i64 4,x1,.slice l2.a l2.xs.length l2.c,x3,x4,x5,.slice l6.a l6.xs.length l6.c,.int .i64 ag,.int .i64 ea,x9,x10,x11,x12].toList W v' zs→Calls Tryz.prog 68 #[.slice l6.a l6.xs.length l6.c] W (BodP W (loL l6.xs))):=fun v' W zs h=>l13Long_any W l6 (h.list H6)
 have A99:Hid (∀ v' W u b,Gr w #[.int .i64 4,x1,.slice l2.a l2.xs.length l2.c,x3,x4,x5,.slice l6.a l6.xs.length l6.c,.int .i64 ag,.int .i64 ea,x9,x10,x11,x12].toList W v' (BB ++ l2.xs)→RowB W b u (loL l6.xs)→∃ v'' w',(Builtin.append_ #[22,22] 22 #[v',u]).run Tryz.prog W = .ok v'' w'∧Gr w #[.int .i64 4,x1,.slice l2.a l2.xs.length l2.c,x3,x4,x5,.slice l6.a l6.xs.length l6.c,.int .i64 ag,.int .i64 ea,x9,x10,x11,x12].toList w' v'' ((BB ++ l2.xs) ++ loL l6.xs)):=fun v' W u b h R=>h.row R (by rw [List.length_append,lB.out,loL_len];omega)
 have CY:Hid (∀ W v' zs,Gr w #[.int .i64 4,x1,.slice l2.a l2.xs.length l2.c,x3,x4,x5,.slice l6.a l6.xs.length l6.c,.int .i64 ag,.int .i64 ea,x9,x10,x11,x12].toList W v' zs→(W.cell? ⟨w.heap.size,2,none⟩=some (.slice l2.a l2.xs.length l2.c)∧W.cell? ⟨w.heap.size,6,none⟩=some (.slice l6.a l6.xs.length l6.c))):=fun W v' zs h=>⟨h.c.cell 2,h.c.cell 6⟩
 go_region_held3 (fun W=>W.cell? ⟨w.heap.size,2,none⟩=some (.slice l2.a l2.xs.length l2.c)∧W.cell? ⟨w.heap.size,6,none⟩=some (.slice l6.a l6.xs.length l6.c))
  (first | exact (unhide CY) _ _ _ G3 | exact (unhide CY) _ _ _ G4 | exact (unhide CY) _ _ _ G5 | exact (unhide CY) _ _ _ G6)
  (first
   | (refine step_append_exM rfl (.tmp 92) (.tmp 94) 22 22 rfl v6 (.slice l2.a l2.xs.length l2.c) rfl rfl _ A95.out ?_;rintro v95 w95 ⟨G4,-⟩;(have B98:=hide ((unhide A98) v95 w95 _ G4)))
   | (go_at_call 68;refine B98.out.mono ?_;rintro rr w98 ⟨⟨v98,rfl,R98⟩,n98⟩;(have G5:=G4.up n98);(have B99:=hide ((unhide A99) v95 w98 v98 _ G5 R98)))
   | (refine step_append_exM rfl (.tmp 95) (.tmp 98) 22 22 rfl v95 v98 rfl rfl _ B99.out ?_;rintro v99 w99 G6)
   | fail)
 have FIN:Hid (BodP w OUT (.returned v99) w99):=by show BodP _ _ _ _;rw [hO2.out];exact G6.body
 clear A95 A98 A99 B98 B99 CY G2 G3 G4 G5 G6 nd R98 n98
 go_wp2
 go_ret
 exact FIN.out
set_option maxRecDepth 100000 in
set_option maxHeartbeats 4000000 in
theorem sbExtras_any (w:World) (x1 x2 x3 x4 x6 x7 x9 x10 x11 x12:Value) (g:Nat) (a:Option Addr) (c:Nat) (ls:List (List UInt8)) (H:TxsR w g a ls) (hs:∀ l ∈ ls,l.length≤255) (ea:Int) (e0:0≤ea) (e1:ea≤255) :
  Calls Tryz.prog 53 #[.agg #[.int .i64 8,x1,x2,x3,x4,.slice a ls.length c,x6,x7,.int .i64 ea,x9,x10,x11,x12]] w (BodP w (lsL ls ++ bigL ea 1)):=by
 obtain ⟨i0,hi,hz0,hz1,hz2⟩:=info_parts Tryz.info5
 have G0:=Gr.start w #[.int .i64 8,x1,x2,x3,x4,.slice a ls.length c,x6,x7,.int .i64 ea,x9,x10,x11,x12].toList
 obtain ⟨OUT,hO'⟩:∃ l:List Int,l=lsL ls ++ bigL ea 1:=⟨_,rfl⟩
 rw [← hO']
 have hO:Hid (OUT=lsL ls ++ [ea]):=by show _=_;rw [hO',big1 ea e0 e1]
 clear hO'
 have LL:Hid ((lsL ls).length≤8388617):=lsL_len ls H.n H.z
 have k0:=G0.c.cell 0
 have z1:(w.alloc (.cells #[.int .i64 8,x1,x2,x3,x4,.slice a ls.length c,x6,x7,.int .i64 ea,x9,x10,x11,x12] 26)).heap.size=w.heap.size+1:=by simp
 have w8:IntKind.u8.wrap ea=ea:=by simp [IntKind.wrap,IntKind.signed,IntKind.bits];omega
 go_enter Tryz.func53,Tryz.ntmps53
 go_upto_region 23 with fail
 clear k0 z1
 obtain ⟨vR,hvR⟩:∃ x,x=Value.slice (some ⟨w.heap.size+1,0,none⟩) 0 0:=⟨_,rfl⟩
 rw [← hvR] at G0 ⊢
 clear hvR
 generalize (w.alloc (.cells #[.int .i64 8,x1,x2,x3,x4,.slice a ls.length c,x6,x7,.int .i64 ea,x9,x10,x11,x12] 26)).alloc (.cells #[] 5)=W2 at *
 have nd:Below W2.heap.size W2 W2.drew:=(Below.refl _ _).drew
 have zz:=G0.n.size
 have bA:∀ {W:World},Below W2.heap.size W2 W→∀ o,Below W2.heap.size W2 (W.alloc o):=fun n o=>n.alloc n.size o
 have CL:Hid (∀ W,Below W2.heap.size W2 W→Calls Tryz.prog 67 #[.slice a ls.length c] W fun e w'=>∃ v,e = .returned v∧RowB w' W2.heap.size v (lsL ls)∧Below W2.heap.size W2 w'∧Below W.heap.size W w'):=fun W m=>(l13List_any W g a c ls (H.up (nxt G0.n m)) hs).mono (by rintro e w' ⟨⟨v,rfl,R⟩,n⟩;exact ⟨v,rfl,R.base m.size,nxt m n,n⟩)
 have AP:Hid (∀ W v q,Below W2.heap.size W2 W→RowB W W2.heap.size v (lsL ls)→Rd W q (some ⟨q,0,none⟩) .u8 [ea]→∃ v' w',(Builtin.append_ #[22,22] 22 #[v,.slice (some ⟨q,0,none⟩) 1 1]).run Tryz.prog W = .ok v' w'∧(RowB w' W2.heap.size v' (lsL ls ++ [ea])∧Below W2.heap.size W2 w')):=fun W v q m R r=>by
  obtain ⟨v',w',h1,h2,h3⟩:=append_any (P:=Tryz.prog) W 22 i0 Tryz.underlying22 hi hz0 hz1 hz2 W2.heap.size W2.heap.size v (lsL ls) R q (some ⟨q,0,none⟩) 1 [ea] r (fun h=>nomatch h) (by have:=LL.out;simp;omega) (Nat.le_refl _) m.size
  exact ⟨v',w',h1,h2,m.trans h3⟩
 have CY:Hid (∀ W,Below W2.heap.size W2 W→(W.cell? ⟨w.heap.size,5,none⟩=some (.slice a ls.length c)∧W.cell? ⟨w.heap.size,8,none⟩=some (.int .i64 ea))):=fun W m=>⟨(G0.c.up m).cell 5,(G0.c.up m).cell 8⟩
 have C0:=hide ((unhide CL) W2.drew nd)
 have C1:=hide ((unhide CL) (W2.drew.alloc (.cells #[.int .u8 ea] 5)) (bA nd _))
 have rE:Rd (W2.drew.alloc (.cells #[.int .u8 ea] 5)) W2.heap.size (some ⟨W2.heap.size,0,none⟩) .u8 [ea]:=(blk_lit1 W2.drew .u8 5 ea).own0.rd
 go_region_held3 (fun W=>W.cell? ⟨w.heap.size,5,none⟩=some (.slice a ls.length c)∧W.cell? ⟨w.heap.size,8,none⟩=some (.int .i64 ea))
  (first | exact (unhide CY) _ nd | exact (unhide CY) _ (bA nd _) | exact (unhide CY) _ n104 | exact (unhide CY) _ (bA n104 _) | exact (unhide CY) _ n109)
  (first
   | (go_at_call 67;refine C0.out.mono ?_;rintro rr w104 ⟨v104,rfl,R104,n104,m104⟩;(have B109a:=hide ((unhide AP) (w104.alloc (.cells #[.int .u8 ea] 5)) v104 w104.heap.size (bA n104 _) (R104.up ((Below.refl _ _).alloc (Nat.le_refl _) _)) (blk_lit1 w104 .u8 5 ea).own0.rd)))
   | (go_at_call 67;refine C1.out.mono ?_;rintro rr w104 ⟨v104,rfl,R104,n104,m104⟩;(have B109b:=hide ((unhide AP) w104 v104 W2.heap.size n104 R104 (rE.up m104))))
   | (refine step_append_exM rfl (.tmp 104) (.tmp 108) 22 22 rfl v104 (.slice (some ⟨w104.heap.size,0,none⟩) 1 1) rfl rfl _ B109a.out ?_;rintro v109 w109 ⟨R109,n109⟩)
   | (refine step_append_exM rfl (.tmp 104) (.tmp 108) 22 22 rfl v104 (.slice (some ⟨W2.heap.size,0,none⟩) 1 1) rfl rfl _ B109b.out ?_;rintro v109 w109 ⟨R109,n109⟩)
   | fail)
 all_goals
  have FIN:Hid (BodP w OUT (.returned v109) w109):=⟨⟨v109,rfl,by rw [hO.out];exact R109.base zz⟩,nxt G0.n n109⟩
  clear C0 C1 CL AP CY R104 m104 n104 R109 n109 G0 nd bA rE
  go_wp2
  go_ret
  exact FIN.out
end Go.Proofs.YtmmbkkfjiaoeiaaGreat
namespace Go.Proofs.YtmmbkkfjiaoeiaaGreat
open Go Go.RowKit
set_option maxRecDepth 100000 in
set_option maxHeartbeats 8000000 in
theorem sbHello_any (w : World) (x10 x11 x12 : Value) (v : Int) (v0 : 0 ≤ v) (v1 : v ≤ 255) (l2 l3 l6 l9 : Lst) (H2 : LstR w l2) (H3 : LstR w l3) (H6 : LstR w l6) (H9 : LstR w l9) (ho : List UInt8) (hh : ho.length ≤ 255) (g : Nat) (a : Option Addr) (c : Nat) (ls : List (List UInt8)) (H : TxsR w g a ls) (hs : ∀ l ∈ ls, l.length ≤ 255) (ag ea : Int) (a0 : 0 ≤ ag) (a1 : ag < 9223372036854775808) (e0 : 0 ≤ ea) (e1 : ea ≤ 255) :
  Calls Tryz.prog 53 #[.agg #[.int .i64 1,.int .i64 v,.slice l2.a l2.xs.length l2.c,.slice l3.a l3.xs.length l3.c,.string ⟨⟨ho⟩⟩,.slice a ls.length c,.slice l6.a l6.xs.length l6.c,.int .i64 ag,.int .i64 ea,.slice l9.a l9.xs.length l9.c,x10,x11,x12]] w (BodP w (heL v l2.xs l3.xs ho ls l6.xs ag ea l9.xs)):=by
 have G0:=Gr.start w #[.int .i64 1,.int .i64 v,.slice l2.a l2.xs.length l2.c,.slice l3.a l3.xs.length l3.c,.string ⟨⟨ho⟩⟩,.slice a ls.length c,.slice l6.a l6.xs.length l6.c,.int .i64 ag,.int .i64 ea,.slice l9.a l9.xs.length l9.c,x10,x11,x12].toList
 have m2:=H2.m
 have m3:=H3.m
 have m6:=H6.m
 have m9:=H9.m
 have LL:Hid ((lsL ls).length≤8388617):=lsL_len ls H.n H.z
 obtain ⟨OUT,hO'⟩:∃ l:List Int,l=heL v l2.xs l3.xs ho ls l6.xs ag ea l9.xs:=⟨_,rfl⟩
 rw [← hO']
 have hO:Hid (OUT=((((([v] ++ l2.xs) ++ l3.xs) ++ shL ho) ++ lsL ls) ++ loL l6.xs) ++ bdL l6.xs ag ea l9.xs):=by show _=_;rw [hO'];unfold heL fpL;rw [big1 v v0 v1];simp only [List.append_assoc]
 clear hO'
 have k0:=G0.c.cell 0
 have z1:(w.alloc (.cells #[.int .i64 1,.int .i64 v,.slice l2.a l2.xs.length l2.c,.slice l3.a l3.xs.length l3.c,.string ⟨⟨ho⟩⟩,.slice a ls.length c,.slice l6.a l6.xs.length l6.c,.int .i64 ag,.int .i64 ea,.slice l9.a l9.xs.length l9.c,x10,x11,x12] 26)).heap.size=w.heap.size+1:=by simp
 have v256:v < 256:=by omega
 go_enter Tryz.func53,Tryz.ntmps53
 go_upto_region 4 with fail
 clear k0 z1
 obtain ⟨vR,hvR⟩:∃ x,x=Value.slice (some ⟨w.heap.size+1,0,none⟩) 0 0:=⟨_,rfl⟩
 rw [← hvR] at G0 ⊢
 clear hvR
 generalize (w.alloc (.cells #[.int .i64 1,.int .i64 v,.slice l2.a l2.xs.length l2.c,.slice l3.a l3.xs.length l3.c,.string ⟨⟨ho⟩⟩,.slice a ls.length c,.slice l6.a l6.xs.length l6.c,.int .i64 ag,.int .i64 ea,.slice l9.a l9.xs.length l9.c,x10,x11,x12] 26)).alloc (.cells #[] 5)=W2 at *
 have c1:=G0.c.cell 1
 obtain ⟨v1',W3,hap,G1⟩:=G0.one v (by simp)
 clear G0
 go_upto_region 5 with (at_builtin;refine Lib.wpList_append_run _ rfl _ _ 22 22 rfl _ _ rfl rfl _ _ hap ?_)
 clear hap c1
 rw [List.nil_append] at G1
 have nd:Below W3.heap.size W3 W3.drew:=(Below.refl _ _).drew
 have G2:=G1.up nd
 have A19:=hide (G2.app l2.g l2.a l2.c l2.xs (G2.list H2).r H2.z (by simp;omega))
 have A22:Hid (∀ v' W,Gr w #[.int .i64 1,.int .i64 v,.slice l2.a l2.xs.length l2.c,.slice l3.a l3.xs.length l3.c,.string ⟨⟨ho⟩⟩,.slice a ls.length c,.slice l6.a l6.xs.length l6.c,.int .i64 ag,.int .i64 ea,.slice l9.a l9.xs.length l9.c,x10,x11,x12].toList W v' ([v] ++ l2.xs)→∃ v'' w',(Builtin.append_ #[22,22] 22 #[v',.slice l3.a l3.xs.length l3.c]).run Tryz.prog W = .ok v'' w'∧(Gr w #[.int .i64 1,.int .i64 v,.slice l2.a l2.xs.length l2.c,.slice l3.a l3.xs.length l3.c,.string ⟨⟨ho⟩⟩,.slice a ls.length c,.slice l6.a l6.xs.length l6.c,.int .i64 ag,.int .i64 ea,.slice l9.a l9.xs.length l9.c,x10,x11,x12].toList w' v'' (([v] ++ l2.xs) ++ l3.xs)∧Below (w.heap.size+1) W w')):=fun v' W h=>h.app l3.g l3.a l3.c l3.xs (h.list H3).r H3.z (by simp;omega)
 have CY:Hid (∀ W v' zs,Gr w #[.int .i64 1,.int .i64 v,.slice l2.a l2.xs.length l2.c,.slice l3.a l3.xs.length l3.c,.string ⟨⟨ho⟩⟩,.slice a ls.length c,.slice l6.a l6.xs.length l6.c,.int .i64 ag,.int .i64 ea,.slice l9.a l9.xs.length l9.c,x10,x11,x12].toList W v' zs→(W.cell? ⟨w.heap.size,2,none⟩=some (.slice l2.a l2.xs.length l2.c)∧W.cell? ⟨w.heap.size,3,none⟩=some (.slice l3.a l3.xs.length l3.c))):=fun W v' zs h=>⟨h.c.cell 2,h.c.cell 3⟩
 go_region_held3 (fun W=>W.cell? ⟨w.heap.size,2,none⟩=some (.slice l2.a l2.xs.length l2.c)∧W.cell? ⟨w.heap.size,3,none⟩=some (.slice l3.a l3.xs.length l3.c))
  (first | exact (unhide CY) _ _ _ G2 | exact (unhide CY) _ _ _ G3 | exact (unhide CY) _ _ _ G4)
  (first
   | (refine step_append_exM rfl (.tmp 16) (.tmp 18) 22 22 rfl v1' (.slice l2.a l2.xs.length l2.c) rfl rfl _ A19.out ?_;rintro v19 w19 ⟨G3,-⟩;(have B22:=hide ((unhide A22) v19 w19 G3)))
   | (refine step_append_exM rfl (.tmp 19) (.tmp 21) 22 22 rfl v19 (.slice l3.a l3.xs.length l3.c) rfl rfl _ B22.out ?_;rintro v22 w22 ⟨G4,-⟩)
   | fail)
 clear A19 A22 B22 CY G1 G2 G3 nd
 obtain ⟨Z1,hZ1⟩:∃ l,l=([v] ++ l2.xs) ++ l3.xs:=⟨_,rfl⟩
 have lZ1:Hid (Z1.length≤2097153):=by show _≤_;rw [hZ1];simp;omega
 rw [← hZ1] at G4 hO
 clear hZ1
 have c4:=G4.c.cell 4
 obtain ⟨cx,wx,hcv,DX,-,mx⟩:=convT w22 ho
 have SH:=hide (l13ShortR_any wx w22.heap.size (some ⟨w22.heap.size,0,none⟩) cx (txL ho) DX (fun h=>nomatch h) (by rw [txL_len];omega))
 rw [txL_len,← shL_is ho hh] at SH
 clear DX
 go_wp2_with (first | (refine wpList_convT _ rfl 9 22 (.tmp 25) rfl (.string ⟨⟨ho⟩⟩) rfl _ _ hcv ?_) | fail)
 refine SH.out.mono ?_
 rintro e w27 ⟨v27,rfl,R27,n27⟩
 have G5:=(G4.up mx).up n27
 obtain ⟨v28,w28,hap,G6⟩:=G5.row R27 (by rw [shL_len];have:=lZ1.out;omega)
 clear G4 G5 R27 n27 mx hcv SH c4
 obtain ⟨Z2,hZ2⟩:∃ l,l=Z1 ++ shL ho:=⟨_,rfl⟩
 have lZ2:Hid (Z2.length≤2098000):=by show _≤_;rw [hZ2,List.length_append,shL_len];have:=lZ1.out;omega
 rw [← hZ2] at G6 hO
 clear hZ2
 have c5:=G6.c.cell 5
 have CL:=hide (l13List_any w28 g a c ls (H.up G6.n) hs)
 go_wp2_with (at_builtin;refine Lib.wpList_append_run _ rfl _ _ 22 22 rfl _ _ rfl rfl _ _ hap ?_)
 clear hap
 refine CL.out.mono ?_
 rintro e w32 ⟨⟨v32,rfl,R32⟩,n32⟩
 obtain ⟨v33,w33,hap,G7⟩:=(G6.up n32).row R32 (by have:=lZ2.out;have:=LL.out;omega)
 clear G6 R32 n32 CL c5
 obtain ⟨Z3,hZ3⟩:∃ l,l=Z2 ++ lsL ls:=⟨_,rfl⟩
 have lZ3:Hid (Z3.length≤11000000):=by show _≤_;rw [hZ3,List.length_append];have:=lZ2.out;have:=LL.out;omega
 rw [← hZ3] at G7 hO
 clear hZ3
 have c6:=G7.c.cell 6
 have CG:=hide (l13Long_any w33 l6 (G7.list H6))
 go_wp2_with (at_builtin;refine Lib.wpList_append_run _ rfl _ _ 22 22 rfl _ _ rfl rfl _ _ hap ?_)
 clear hap
 refine CG.out.mono ?_
 rintro e w37 ⟨⟨v37,rfl,R37⟩,n37⟩
 obtain ⟨v38,w38,hap,G8⟩:=(G7.up n37).row R37 (by rw [loL_len];have:=lZ3.out;omega)
 clear G7 R37 n37 CG c6
 obtain ⟨Z4,hZ4⟩:∃ l,l=Z3 ++ loL l6.xs:=⟨_,rfl⟩
 have lZ4:Hid (Z4.length≤13000000):=by show _≤_;rw [hZ4,List.length_append,loL_len];have:=lZ3.out;omega
 rw [← hZ4] at G8 hO
 clear hZ4
 have c6:=G8.c.cell 6
 by_cases h6:l6.xs.length=0
 ·have t6 : ¬ (0 < l6.xs.length) := by omega
  have FIN:Hid (BodP w OUT (.returned v38) w38):=by show BodP _ _ _ _;rw [hO.out];unfold bdL;rw [if_pos h6,List.append_nil];exact G8.body
  clear G8 h6
  go_wp2_with (at_builtin;refine Lib.wpList_append_run _ rfl _ _ 22 22 rfl _ _ rfl rfl _ _ hap ?_)
  clear hap
  go_ret
  exact FIN.out
 ·have t6 : 0 < l6.xs.length := by omega
  have c7:=G8.c.cell 7
  have L1:=hide (l1BigB_any w38 ag 4 a0 a1 (by decide))
  have hO2:Hid (OUT=((Z4 ++ bigL ag 4) ++ [ea]) ++ l9.xs):=by show _=_;rw [hO.out];unfold bdL;rw [if_neg h6,big1 ea e0 e1];simp only [List.append_assoc]
  clear hO h6
  go_wp2_with (at_builtin;refine Lib.wpList_append_run _ rfl _ _ 22 22 rfl _ _ rfl rfl _ _ hap ?_)
  clear hap
  refine L1.out.mono ?_
  rintro e w46 ⟨rfl,R46,n46⟩
  obtain ⟨v47,w47,hap,G9⟩:=(G8.up n46).row R46 (by rw [bigL_len];have:=lZ4.out;omega)
  clear G8 R46 n46 L1 c7 c6
  obtain ⟨Z5,hZ5⟩:∃ l,l=Z4 ++ bigL ag 4:=⟨_,rfl⟩
  have lZ5:Hid (Z5.length≤13000004):=by show _≤_;rw [hZ5,List.length_append,bigL_len];have:=lZ4.out;omega
  rw [← hZ5] at G9 hO2
  clear hZ5
  go_upto_region 11 with (at_builtin;refine Lib.wpList_append_run _ rfl _ _ 22 22 rfl _ _ rfl rfl _ _ hap ?_)
  clear hap
  have w8:IntKind.u8.wrap ea=ea:=by simp [IntKind.wrap,IntKind.signed,IntKind.bits];omega
  have nd:Below w47.heap.size w47 w47.drew:=(Below.refl _ _).drew
  have GA:=G9.up nd
  have GL:=GA.up (show Below w47.drew.heap.size w47.drew (w47.drew.alloc (.cells #[.int .u8 ea] 5)) from (Below.refl _ _).alloc (Nat.le_refl _) _)
  have A53:Hid (∃ v' w',(Builtin.append_ #[22,22] 22 #[v47,.slice (some ⟨w47.heap.size,0,none⟩) 1 1]).run Tryz.prog (w47.drew.alloc (.cells #[.int .u8 ea] 5)) = .ok v' w'∧Gr w #[.int .i64 1,.int .i64 v,.slice l2.a l2.xs.length l2.c,.slice l3.a l3.xs.length l3.c,.string ⟨⟨ho⟩⟩,.slice a ls.length c,.slice l6.a l6.xs.length l6.c,.int .i64 ag,.int .i64 ea,.slice l9.a l9.xs.length l9.c,x10,x11,x12].toList w' v' (Z5 ++ [ea])):=GA.one ea (by have:=lZ5.out;omega)
  have A56:Hid (∀ v' W,Gr w #[.int .i64 1,.int .i64 v,.slice l2.a l2.xs.length l2.c,.slice l3.a l3.xs.length l3.c,.string ⟨⟨ho⟩⟩,.slice a ls.length c,.slice l6.a l6.xs.length l6.c,.int .i64 ag,.int .i64 ea,.slice l9.a l9.xs.length l9.c,x10,x11,x12].toList W v' (Z5 ++ [ea])→∃ v'' w',(Builtin.append_ #[22,22] 22 #[v',.slice l9.a l9.xs.length l9.c]).run Tryz.prog W = .ok v'' w'∧(Gr w #[.int .i64 1,.int .i64 v,.slice l2.a l2.xs.length l2.c,.slice l3.a l3.xs.length l3.c,.string ⟨⟨ho⟩⟩,.slice a ls.length c,.slice l6.a l6.xs.length l6.c,.int .i64 ag,.int .i64 ea,.slice l9.a l9.xs.length l9.c,x10,x11,x12].toList w' v'' ((Z5 ++ [ea]) ++ l9.xs)∧Below (w.heap.size+1) W w')):=fun v' W h=>h.app l9.g l9.a l9.c l9.xs (h.list H9).r H9.z (by have:=lZ5.out;simp;omega)
  have CY:Hid (∀ W v' zs,Gr w #[.int .i64 1,.int .i64 v,.slice l2.a l2.xs.length l2.c,.slice l3.a l3.xs.length l3.c,.string ⟨⟨ho⟩⟩,.slice a ls.length c,.slice l6.a l6.xs.length l6.c,.int .i64 ag,.int .i64 ea,.slice l9.a l9.xs.length l9.c,x10,x11,x12].toList W v' zs→(W.cell? ⟨w.heap.size,8,none⟩=some (.int .i64 ea)∧W.cell? ⟨w.heap.size,9,none⟩=some (.slice l9.a l9.xs.length l9.c))):=fun W v' zs h=>⟨h.c.cell 8,h.c.cell 9⟩
  go_region_held3 (fun W=>W.cell? ⟨w.heap.size,8,none⟩=some (.int .i64 ea)∧W.cell? ⟨w.heap.size,9,none⟩=some (.slice l9.a l9.xs.length l9.c))
   (first | exact (unhide CY) _ _ _ GA | exact (unhide CY) _ _ _ GL | exact (unhide CY) _ _ _ GB | exact (unhide CY) _ _ _ GC)
   (first
    | (refine step_append_exM rfl (.tmp 48) (.tmp 52) 22 22 rfl v47 (.slice (some ⟨w47.heap.size,0,none⟩) 1 1) rfl rfl _ A53.out ?_;rintro v53 w53 GB;(have B56:=hide ((unhide A56) v53 w53 GB)))
    | (refine step_append_exM rfl (.tmp 53) (.tmp 55) 22 22 rfl v53 (.slice l9.a l9.xs.length l9.c) rfl rfl _ B56.out ?_;rintro v56 w56 ⟨GC,-⟩)
    | fail)
  have FIN:Hid (BodP w OUT (.returned v56) w56):=by show BodP _ _ _ _;rw [hO2.out];exact GC.body
  clear A53 A56 B56 CY G9 GA GL GB GC nd
  go_wp2
  go_ret
  exact FIN.out
end Go.Proofs.YtmmbkkfjiaoeiaaGreat
namespace Go.Proofs.YtmmbkkfjiaoeiaaGreat
open Go Go.RowKit
theorem cellB {w w':World} {b:Nat} (n:Below b w w') {q i:Nat} {x:Value} (h:w.cell? ⟨q,i,none⟩=some x) (hq:q < b):w'.cell? ⟨q,i,none⟩=some x :=
 (World.cell?_of_block (a:=⟨q,i,none⟩) (n.block q hq)).trans h
theorem LstR.of_row' {w:World} {b:Nat} {v:Value} {xs:List Int} (R:RowB w b v xs):∃ l:Lst,v = .slice l.a l.xs.length l.c∧l.xs=xs∧(Rd w l.g l.a .u8 l.xs∧(l.a=none→l.c=0)):=by
 obtain ⟨a,c,g,e,r,z,_,_⟩:=R.rd
 exact ⟨⟨g,a,c,xs⟩,e,rfl,r,z⟩
set_option maxRecDepth 100000 in
set_option maxHeartbeats 2000000 in
theorem sbCerts_any (w : World) (x1 x2 x3 x4 x5 x6 x7 x8 x9 x10 x12 : Value) (g : Nat) (a : Option Addr) (c : Nat) (bs : List (List Int)) (ps : List Plb) (H : CtsR w g a bs ps) :
  Calls Tryz.prog 53 #[.agg #[.int .i64 11,x1,x2,x3,x4,x5,x6,x7,x8,x9,x10,.slice a bs.length c,x12]] w (BodP w (clL bs)):=by
 obtain ⟨i0,hi,hz0,hz1,hz2⟩:=info_parts Tryz.info5
 obtain ⟨N,RC,R⟩:=boxed w [.int .i64 11,x1,x2,x3,x4,x5,x6,x7,x8,x9,x10,.slice a bs.length c,x12] 26
 have hn:=H.n
 have SUM:=hide (lo_sum bs 1048576 H.z)
 have c0:=RC.cell 0
 have c11:=RC.cell 11
 have z1:(w.alloc (.cells #[.int .i64 11,x1,x2,x3,x4,x5,x6,x7,x8,x9,x10,.slice a bs.length c,x12] 26)).heap.size=w.heap.size+1:=by simp
 have z2:w.heap.size+1≤((w.alloc (.cells #[.int .i64 11,x1,x2,x3,x4,x5,x6,x7,x8,x9,x10,.slice a bs.length c,x12] 26)).alloc (.cells #[] 5)).heap.size:=by simp
 have R':RowB ((w.alloc (.cells #[.int .i64 11,x1,x2,x3,x4,x5,x6,x7,x8,x9,x10,.slice a bs.length c,x12] 26)).alloc (.cells #[] 5)) (w.heap.size+1) (.slice (some ⟨w.heap.size+1,0,none⟩) 0 0) []:=R
 have N':Below w.heap.size w ((w.alloc (.cells #[.int .i64 11,x1,x2,x3,x4,x5,x6,x7,x8,x9,x10,.slice a bs.length c,x12] 26)).alloc (.cells #[] 5)):=N
 have c0':((w.alloc (.cells #[.int .i64 11,x1,x2,x3,x4,x5,x6,x7,x8,x9,x10,.slice a bs.length c,x12] 26)).alloc (.cells #[] 5)).cell? ⟨w.heap.size,0,none⟩=some (.int .i64 11):=c0
 have c11':((w.alloc (.cells #[.int .i64 11,x1,x2,x3,x4,x5,x6,x7,x8,x9,x10,.slice a bs.length c,x12] 26)).alloc (.cells #[] 5)).cell? ⟨w.heap.size,11,none⟩=some (.slice a bs.length c):=c11
 clear RC R N c0 c11
 go_enter Tryz.func53,Tryz.ntmps53
 go_upto_region 25 with fail
 generalize (w.alloc (.cells #[.int .i64 11,x1,x2,x3,x4,x5,x6,x7,x8,x9,x10,.slice a bs.length c,x12] 26)).alloc (.cells #[] 5)=W at *
 have nL:Below W.heap.size W (W.alloc (.cells #[.int .u8 (bs.length:Int)] 5)):=(Below.refl _ _).alloc (Nat.le_refl _) _
 obtain ⟨v1,w1,hap,R1,n1⟩:=append_any (P:=Tryz.prog) (W.alloc (.cells #[.int .u8 (bs.length:Int)] 5)) 22 i0 Tryz.underlying22 hi hz0 hz1 hz2 (w.heap.size+1) (w.heap.size+1) _ _ (R'.up nL) _ _ 1 [(bs.length:Int)] (blk_lit1 W .u8 5 (bs.length:Int)).own0.rd (by simp) (by simp) (by omega) (Nat.le_trans z2 nL.size)
 have N1:Below (w.heap.size+1) W w1:=(nL.mono z2).trans n1
 rw [List.nil_append] at R1
 clear R' n1 nL
 go_wp2_with (at_builtin;refine Lib.wpList_append_run _ rfl _ _ 22 22 rfl _ _ rfl rfl _ _ hap ?_)
 clear hap
 go_loopw [3,4] (fun x i wr=>∃ k:Nat,k≤bs.length∧i = .int .i64 k∧RowB wr (w.heap.size+1) x ([(bs.length:Int)] ++ ((bs.map loL).take k).flatten)∧Below (w.heap.size+1) W wr) (fun _ i _=>bs.length - (intOf i).toNat)
 case atStart=>exact ⟨0,Nat.zero_le _,rfl,by simpa using R1,N1⟩
 case round =>
  obtain ⟨k,hk,rfl,R,hN⟩:=hrel
  clear R1 N1
  have k11:=cellB hN c11' (by omega)
  have NW:Below w.heap.size w wr:=N'.trans (hN.mono (by omega))
  by_cases hlt:k < bs.length
  ·have HW := H.up NW
   obtain ⟨off,ea,hc⟩:=HW.r.r (by omega)
   have t0:(k:Int) < (bs.length:Int):=by omega
   have c1:=hc k hlt
   have LX:LstR wr ⟨(ps.getD k plb0).q,(ps.getD k plb0).a,(ps.getD k plb0).c,bs.getD k []⟩:=⟨HW.r.b k hlt,HW.y k hlt,HW.z k hlt,HW.q k hlt⟩
   have ST:=hide (lo_take bs k hlt)
   have SK:([(bs.length:Int)] ++ ((bs.map loL).take k).flatten).length≤1073741824:=by
    have:=SUM.out k
    have:k*(1048576+2)≤4*(1048576+2):=Nat.mul_le_mul_right _ (by omega)
    simp only [List.length_append,List.length_cons,List.length_nil]
    omega
   clear hc HW SUM H
   subst ea
   generalize bs.getD k []=y at *
   generalize ps.getD k plb0=p at *
   have zy:y.length≤1048576:=LX.m
   have CL:=hide (l13Long_any wr _ LX)
   clear LX
   go_wp2_with fail
   refine CL.out.mono ?_
   rintro r w3 ⟨⟨v3,rfl,R3⟩,n3⟩
   have lz:=loL_len y
   obtain ⟨l3,e3,x3,L3⟩:=LstR.of_row' R3
   subst e3
   have RR:=R.up n3
   have M3:Below (w.heap.size+1) W w3:=hN.trans (n3.mono (Nat.le_trans z2 hN.size))
   obtain ⟨v4,w4,hap,R4,n4⟩:=append_any (P:=Tryz.prog) w3 22 i0 Tryz.underlying22 hi hz0 hz1 hz2 (w.heap.size+1) (w.heap.size+1) _ _ RR l3.g l3.a l3.c l3.xs L3.1 L3.2 (by rw [x3];show _+(loL y).length≤_;omega) (Nat.le_refl _) (Nat.le_trans z2 M3.size)
   rw [x3] at R4
   have R5:RowB w4 (w.heap.size+1) v4 ([(bs.length:Int)] ++ ((bs.map loL).take (k+1)).flatten):=by rw [ST.out,← List.append_assoc];exact R4
   have N4:=M3.trans n4
   clear CL n4 hN ST c1 R RR R3 R4 M3 n3 L3 x3 k11 NW lz SK zy
   go_wp2_with (at_builtin;refine Lib.wpList_append_run _ rfl _ _ 22 22 rfl _ _ rfl rfl _ _ hap ?_)
   clear hap
   go_roundw
   case rel=>exact ⟨k+1,by omega,by go_num,R5,N4⟩
   case measure=>simp [intOf];omega
  ·obtain rfl : k = bs.length := by omega
   rw [List.take_of_length_le (by simp)] at R
   clear H SUM
   go_wp2
   go_ret
   exact ⟨⟨_,rfl,R.base (by omega)⟩,NW⟩
end Go.Proofs.YtmmbkkfjiaoeiaaGreat
namespace Go.Proofs.YtmmbkkfjiaoeiaaGreat
open Go Go.RowKit
def bodF (m:Msg):List Int:=if m.k=1 then heL m.v m.r m.s m.ho m.pr m.ti m.ag m.ea m.bi else if m.k=2 then fpL m.v m.r m.s ++ [if m.rs=true then 1 else 0] else if m.k=4 then tkL m.ag m.ea m.r m.ti else if m.k=5 then [] else if m.k=8 then lsL m.pr ++ bigL m.ea 1 else if m.k=11 then clL m.ce else if m.k=15 then m.pf else if m.k=20 then m.pf else if m.k=24 then bigL m.ea 1 else []
def encF (m:Msg):List Int:=if mfF m=0 then enL m.k (bodF m) else []
theorem encF_of {m:Msg} {m':Msg} {f:Int} {b:List Int} (h:kfF m=some (m',f)) (hb:bodF m=b):encF m=if sameM m' m=true∧f=0 then enL m.k b else []:=by
 unfold encF mfF
 rw [h,hb]
 by_cases c:sameM m' m=true
 ·by_cases d : f = 0
  ·simp [c,d]
  ·simp [c,d]
 ·simp [c]
set_option maxHeartbeats 1000000 in
theorem encNone (w:World) (x0 x1 x2 x3 x4 x5 x6 x7 x8 x9 x10 x11 x12:Value)
  (TO:∀ W,Below w.heap.size w W→Calls Tryz.prog 16 #[.agg #[x0,x1,x2,x3,x4,x5,x6,x7,x8,x9,x10,x11,x12]] W fun e w'=>e = .returned (.tuple #[.nilIface,.int .i64 1])∧Below W.heap.size W w') :
  Calls Tryz.prog 5 #[.agg #[x0,x1,x2,x3,x4,x5,x6,x7,x8,x9,x10,x11,x12]] w (BodP w []):=by
 have n0:Below w.heap.size w (w.alloc (.cells #[x0,x1,x2,x3,x4,x5,x6,x7,x8,x9,x10,x11,x12] 26)):=(Below.refl _ _).alloc (Nat.le_refl _) _
 have CC:=hide (TO _ n0)
 have RG:=RwC.range (RwC.new w [x0,x1,x2,x3,x4,x5,x6,x7,x8,x9,x10,x11,x12] 26)
 obtain ⟨d13,hd13,hrow13⟩:=rowM
 have N0:=hide n0
 clear TO n0
 go_enter Tryz.func5,Tryz.ntmps5
 go_wp2_with fail
 refine CC.out.mono ?_
 rintro e w1 ⟨rfl,n1⟩
 have N1:=nxt N0.out n1
 clear CC RG n1
 go_wp2
 go_ret
 exact ⟨⟨_,rfl,RowB.nil _ _⟩,N1⟩
theorem implEnc_any (w:World) (p:MQ) (m:Msg) (h:HasM w p m) (i:IsM m) (z:HasZ p m) :
  Calls Tryz.prog 5 #[.agg (mgV p m)] w (BodP w (encF m)):=by
 by_cases h1:m.k=1
 ·rw [encF_of (m := m) (m' := helloM m) (f := heF m.v m.r.length m.s.length m.ho m.pr m.ti.length m.bi.length m.ag m.ea) (b := heL m.v m.r m.s m.ho m.pr m.ti m.ag m.ea m.bi) (by unfold kfF; rw [if_pos h1]) (by unfold bodF; rw [if_pos h1]), h1]
  exact implEncHello w p m.k m.v m.r m.s m.ho m.pr m.ti m.ag m.ea m.bi m.rs m.ce m.pf h i z h1
 by_cases h2:m.k=2
 ·rw [encF_of (m := m) (m' := answerM m) (f := fpF m.v m.r.length m.s.length) (b := fpL m.v m.r m.s ++ [if m.rs = true then 1 else 0]) (by unfold kfF; rw [if_neg h1]; rw [if_pos h2]) (by unfold bodF; rw [if_neg h1]; rw [if_pos h2]), h2]
  exact implEncAnswer w p m.k m.v m.r m.s m.ho m.pr m.ti m.ag m.ea m.bi m.rs m.ce m.pf h i z h2
 by_cases h4:m.k=4
 ·rw [encF_of (m := m) (m' := ticketM m) (f := tiF m.ag m.ea m.r.length m.ti.length) (b := tkL m.ag m.ea m.r m.ti) (by unfold kfF; rw [if_neg h1]; rw [if_neg h2]; rw [if_pos h4]) (by unfold bodF; rw [if_neg h1]; rw [if_neg h2]; rw [if_pos h4]), h4]
  exact implEncTicket w p m.k m.v m.r m.s m.ho m.pr m.ti m.ag m.ea m.bi m.rs m.ce m.pf h i z h4
 by_cases h5:m.k=5
 ·rw [encF_of (m := m) (m' := endM m) (f := 0) (b := []) (by unfold kfF; rw [if_neg h1]; rw [if_neg h2]; rw [if_neg h4]; rw [if_pos h5]) (by unfold bodF; rw [if_neg h1]; rw [if_neg h2]; rw [if_neg h4]; rw [if_pos h5]), h5]
  exact implEncEnd w p m.k m.v m.r m.s m.ho m.pr m.ti m.ag m.ea m.bi m.rs m.ce m.pf h i z h5
 by_cases h8:m.k=8
 ·rw [encF_of (m := m) (m' := extrasM m) (f := exF m.pr m.ea) (b := lsL m.pr ++ bigL m.ea 1) (by unfold kfF; rw [if_neg h1]; rw [if_neg h2]; rw [if_neg h4]; rw [if_neg h5]; rw [if_pos h8]) (by unfold bodF; rw [if_neg h1]; rw [if_neg h2]; rw [if_neg h4]; rw [if_neg h5]; rw [if_pos h8]), h8]
  exact implEncExtras w p m.k m.v m.r m.s m.ho m.pr m.ti m.ag m.ea m.bi m.rs m.ce m.pf h i z h8
 by_cases h11:m.k=11
 ·rw [encF_of (m := m) (m' := certsM m) (f := ceF m.ce) (b := clL m.ce) (by unfold kfF; rw [if_neg h1]; rw [if_neg h2]; rw [if_neg h4]; rw [if_neg h5]; rw [if_neg h8]; rw [if_pos h11]) (by unfold bodF; rw [if_neg h1]; rw [if_neg h2]; rw [if_neg h4]; rw [if_neg h5]; rw [if_neg h8]; rw [if_pos h11]), h11]
  exact implEncCerts w p m.k m.v m.r m.s m.ho m.pr m.ti m.ag m.ea m.bi m.rs m.ce m.pf h i z h11
 by_cases h15:m.k=15
 ·rw [encF_of (m := m) (m' := proofM m) (f := pfF 64 m.pf.length) (b := m.pf) (by unfold kfF; rw [if_neg h1]; rw [if_neg h2]; rw [if_neg h4]; rw [if_neg h5]; rw [if_neg h8]; rw [if_neg h11]; rw [if_pos h15]) (by unfold bodF; rw [if_neg h1]; rw [if_neg h2]; rw [if_neg h4]; rw [if_neg h5]; rw [if_neg h8]; rw [if_neg h11]; rw [if_pos h15]), h15]
  exact implEncProof w p m.k m.v m.r m.s m.ho m.pr m.ti m.ag m.ea m.bi m.rs m.ce m.pf h i z h15
 by_cases h20:m.k=20
 ·rw [encF_of (m := m) (m' := finishedM m) (f := pfF 32 m.pf.length) (b := m.pf) (by unfold kfF; rw [if_neg h1]; rw [if_neg h2]; rw [if_neg h4]; rw [if_neg h5]; rw [if_neg h8]; rw [if_neg h11]; rw [if_neg h15]; rw [if_pos h20]) (by unfold bodF; rw [if_neg h1]; rw [if_neg h2]; rw [if_neg h4]; rw [if_neg h5]; rw [if_neg h8]; rw [if_neg h11]; rw [if_neg h15]; rw [if_pos h20]), h20]
  exact implEncFinished w p m.k m.v m.r m.s m.ho m.pr m.ti m.ag m.ea m.bi m.rs m.ce m.pf h i z h20
 by_cases h24:m.k=24
 ·rw [encF_of (m := m) (m' := updateM m) (f := upF m.ea) (b := bigL m.ea 1) (by unfold kfF; rw [if_neg h1]; rw [if_neg h2]; rw [if_neg h4]; rw [if_neg h5]; rw [if_neg h8]; rw [if_neg h11]; rw [if_neg h15]; rw [if_neg h20]; rw [if_pos h24]) (by unfold bodF; rw [if_neg h1]; rw [if_neg h2]; rw [if_neg h4]; rw [if_neg h5]; rw [if_neg h8]; rw [if_neg h11]; rw [if_neg h15]; rw [if_neg h20]; rw [if_pos h24]), h24]
  exact implEncUpdate w p m.k m.v m.r m.s m.ho m.pr m.ti m.ag m.ea m.bi m.rs m.ce m.pf h i z h24
 have e0:encF m=[]:=by
  unfold encF mfF kfF
  rw [if_neg h1,if_neg h2,if_neg h4,if_neg h5,if_neg h8,if_neg h11,if_neg h15,if_neg h20,if_neg h24]
  rfl
 rw [e0]
 refine encNone w _ _ _ _ _ _ _ _ _ _ _ _ _ fun W n=>?_
 refine (typedNone_any W m.k m.v m.ag m.ea p.a2 p.a3 p.a5 p.a6 p.a9 p.a11 p.a12 m.r.length m.s.length m.pr.length m.ti.length m.bi.length m.ce.length m.pf.length p.c2 p.c3 p.c5 p.c6 p.c9 p.c11 p.c12 ⟨⟨m.ho⟩⟩ m.rs ?_).mono ?_
 ·unfold regV
  rw [if_neg h1,if_neg h2,if_neg h4,if_neg h5,if_neg h8,if_neg h11,if_neg h15,if_neg h20,if_neg h24]
 ·rintro e w' ⟨rfl, n'⟩
  exact ⟨rfl,n'⟩
end Go.Proofs.YtmmbkkfjiaoeiaaGreat
namespace Go.Proofs.YtmmbkkfjiaoeiaaGreat
open Go Go.RowKit
theorem pr_all {ls:List (List UInt8)} {n:Nat} (h:prB ls n≠false):∀ l ∈ ls,l.length≤255:=by
 unfold prB at h
 rw [Bool.ne_false_iff,Bool.and_eq_true] at h
 have h2:=List.all_eq_true.1 h.2
 intro l hl
 obtain ⟨i,hi,rfl⟩:=List.getElem_of_mem hl
 have h3:=h2 i (List.mem_range.2 hi)
 unfold prA at h3
 rw [List.getD_eq_getElem?_getD,List.getElem?_eq_getElem hi,Option.getD_some,Bool.and_eq_true,Bool.and_eq_true] at h3
 have:=of_decide_eq_true h3.2.1
 omega
theorem fp_all {v:Int} {r s:Nat} (h:fpB v r s=false):0≤v∧v≤255:=by
 unfold fpB at h
 rw [Bool.or_eq_false_iff,Bool.or_eq_false_iff] at h
 have a:=of_decide_eq_false h.1
 have b:=of_decide_eq_false h.2.1
 omega
theorem age_all {g:Int} (h:ageB g=true):0≤g∧g < 9223372036854775808:=by
 unfold ageB at h
 rw [Bool.and_eq_true] at h
 have a:=of_decide_eq_true h.1
 have b:=of_decide_eq_true h.2
 omega
theorem flg_all {g:Int} (h:flgB g=true):0≤g∧g≤255:=by
 unfold flgB at h
 rw [Bool.or_eq_true] at h
 rcases h with h | h
 ·have a := of_decide_eq_true h
  omega
 ·have a := of_decide_eq_true h
  omega
theorem name_all {ho:List UInt8} (h:nameF ho=0):ho.length≤255:=by
 unfold nameF at h
 by_cases c:ho.length < 1∨128 < ho.length
 ·rw [if_pos c] at h
  simp at h
 ·omega
theorem he_all {v:Int} {r s:Nat} {ho:List UInt8} {ls:List (List UInt8)} {t b:Nat} {g e:Int} (h:heF v r s ho ls t b g e=0):(0≤v∧v≤255)∧ho.length≤255∧(∀ l ∈ ls,l.length≤255)∧(0≤g∧g < 9223372036854775808)∧(0≤e∧e≤255):=by
 unfold heF at h
 by_cases h1:(fpB v r s || !bdB t b g e)=true
 ·rw [if_pos h1] at h
  simp at h
 rw [if_neg h1] at h
 rw [Bool.not_eq_true,Bool.or_eq_false_iff] at h1
 by_cases h2:nameF ho≠0
 ·rw [if_pos h2] at h
  simp at h
 rw [if_neg h2] at h
 by_cases h3:prB ls 8=false
 ·rw [if_pos h3] at h
  simp at h
 rw [if_neg h3] at h
 by_cases h4:400 < t
 ·rw [if_pos h4] at h
  simp at h
 rw [if_neg h4] at h
 by_cases h5:(!ageB g || !flgB e)=true
 ·rw [if_pos h5] at h
  simp at h
 rw [Bool.not_eq_true,Bool.or_eq_false_iff] at h5
 exact ⟨fp_all h1.1,name_all (Classical.not_not.1 h2),pr_all h3,age_all (by simpa using h5.1),flg_all (by simpa using h5.2)⟩
theorem fpF_all {v:Int} {r s:Nat} (h:fpF v r s=0):0≤v∧v≤255:=by
 unfold fpF at h
 by_cases h1:fpB v r s=true
 ·rw [if_pos h1] at h
  simp at h
 ·exact fp_all (by simpa using h1)
theorem ti_all {g e:Int} {r t:Nat} (h:tiF g e r t=0):(0≤g∧g < 9223372036854775808)∧(0≤e∧e < 9223372036854775808):=by
 unfold tiF at h
 by_cases h1:r≠32
 ·rw [if_pos h1] at h
  simp at h
 rw [if_neg h1] at h
 by_cases h2:t=0∨400 < t
 ·rw [if_pos h2] at h
  simp at h
 rw [if_neg h2] at h
 by_cases h5:(!ageB g || !ageB e)=true
 ·rw [if_pos h5] at h
  simp at h
 rw [Bool.not_eq_true,Bool.or_eq_false_iff] at h5
 exact ⟨age_all (by simpa using h5.1),age_all (by simpa using h5.2)⟩
theorem ex_all {ls:List (List UInt8)} {e:Int} (h:exF ls e=0):(∀ l ∈ ls,l.length≤255)∧(0≤e∧e≤255):=by
 unfold exF at h
 by_cases h1:prB ls 1=false
 ·rw [if_pos h1] at h
  simp at h
 rw [if_neg h1] at h
 by_cases h2:flgB e=false
 ·rw [if_pos h2] at h
  simp at h
 exact ⟨pr_all h1,flg_all (by simpa using h2)⟩
theorem up_all {e:Int} (h:upF e=0):0≤e∧e≤255:=by
 unfold upF at h
 by_cases h2:flgB e=false
 ·rw [if_pos h2] at h
  simp at h
 exact flg_all (by simpa using h2)
theorem mf_zero {m m':Msg} {f:Int} (hk:kfF m=some (m',f)) (h:mfF m=0):f=0:=by
 unfold mfF at h
 rw [hk] at h
 by_cases c:sameM m' m=true
 ·simpa [c] using h
 ·simp [c] at h
def SbP (w:World) (p:MQ) (m:Msg):Prop:=Calls Tryz.prog 53 #[.agg (mgV p m)] w (BodP w (bodF m))∧(bodF m).length≤536870912∧0≤m.k∧m.k≤255
set_option maxRecDepth 100000 in
theorem sb_any (w:World) (p:MQ) (m:Msg) (h:HasM w p m) (i:IsM m) (z:HasZ p m) (f0:mfF m=0):SbP w p m:=by
 unfold SbP
 by_cases h1:m.k=1
 ·have F : heF m.v m.r.length m.s.length m.ho m.pr m.ti.length m.bi.length m.ag m.ea = 0 := mf_zero (m' := helloM m) (by unfold kfF; rw [if_pos h1]) f0
  have eb:bodF m=heL m.v m.r m.s m.ho m.pr m.ti m.ag m.ea m.bi:=by unfold bodF;rw [if_pos h1]
  have kk:0≤m.k∧m.k≤255:=by omega
  rw [eb]
  unfold mgV
  rw [h1] at kk ⊢
  have A:=he_all F;exact ⟨sbHello_any w _ _ _ m.v A.1.1 A.1.2 ⟨p.g2,p.a2,p.c2,m.r⟩ ⟨p.g3,p.a3,p.c3,m.s⟩ ⟨p.g6,p.a6,p.c6,m.ti⟩ ⟨p.g9,p.a9,p.c9,m.bi⟩ (lstR_of h.r z.z2 i.rL) (lstR_of h.s z.z3 i.sL) (lstR_of h.ti z.z6 i.tiL) (lstR_of h.bi z.z9 i.biL) m.ho A.2.1 p.g5 p.a5 p.c5 m.pr (txsR_of h.pr (he_pr F) i.prZ) A.2.2.1 m.ag m.ea A.2.2.2.1.1 A.2.2.2.1.2 A.2.2.2.2.1 A.2.2.2.2.2,heL_len i.rL i.sL i.hoL (he_pr F) i.prZ i.tiL i.biL,kk⟩
 by_cases h2:m.k=2
 ·have F : fpF m.v m.r.length m.s.length = 0 := mf_zero (m' := answerM m) (by unfold kfF; rw [if_neg h1]; rw [if_pos h2]) f0
  have eb:bodF m=fpL m.v m.r m.s ++ [if m.rs=true then 1 else 0]:=by unfold bodF;rw [if_neg h1];rw [if_pos h2]
  have kk:0≤m.k∧m.k≤255:=by omega
  rw [eb]
  unfold mgV
  rw [h2] at kk ⊢
  have A:=fpF_all F;exact ⟨sbAnswer_any w _ _ _ _ _ _ _ _ m.v A.1 A.2 ⟨p.g2,p.a2,p.c2,m.r⟩ ⟨p.g3,p.a3,p.c3,m.s⟩ (lstR_of h.r z.z2 i.rL) (lstR_of h.s z.z3 i.sL) m.rs,by have a1:=i.rL;have a2:=i.sL;rw [List.length_append,fpL_len];simp only [List.length_cons,List.length_nil];omega,kk⟩
 by_cases h4:m.k=4
 ·have F : tiF m.ag m.ea m.r.length m.ti.length = 0 := mf_zero (m' := ticketM m) (by unfold kfF; rw [if_neg h1]; rw [if_neg h2]; rw [if_pos h4]) f0
  have eb:bodF m=tkL m.ag m.ea m.r m.ti:=by unfold bodF;rw [if_neg h1];rw [if_neg h2];rw [if_pos h4]
  have kk:0≤m.k∧m.k≤255:=by omega
  rw [eb]
  unfold mgV
  rw [h4] at kk ⊢
  have A:=ti_all F;exact ⟨sbTicket_any w _ _ _ _ _ _ _ _ m.ag m.ea A.1.1 A.1.2 A.2.1 A.2.2 ⟨p.g2,p.a2,p.c2,m.r⟩ ⟨p.g6,p.a6,p.c6,m.ti⟩ (lstR_of h.r z.z2 i.rL) (lstR_of h.ti z.z6 i.tiL),by have a1:=i.rL;have a2:=i.tiL;unfold tkL;simp only [List.length_append,bigL_len,loL_len];omega,kk⟩
 by_cases h5:m.k=5
 ·skip
  have eb:bodF m=[]:=by unfold bodF;rw [if_neg h1];rw [if_neg h2];rw [if_neg h4];rw [if_pos h5]
  have kk:0≤m.k∧m.k≤255:=by omega
  rw [eb]
  unfold mgV
  rw [h5] at kk ⊢
  exact ⟨sbEnd_any w _ _ _ _ _ _ _ _ _ _ _ _,by simp,kk⟩
 by_cases h8:m.k=8
 ·have F : exF m.pr m.ea = 0 := mf_zero (m' := extrasM m) (by unfold kfF; rw [if_neg h1]; rw [if_neg h2]; rw [if_neg h4]; rw [if_neg h5]; rw [if_pos h8]) f0
  have eb:bodF m=lsL m.pr ++ bigL m.ea 1:=by unfold bodF;rw [if_neg h1];rw [if_neg h2];rw [if_neg h4];rw [if_neg h5];rw [if_pos h8]
  have kk:0≤m.k∧m.k≤255:=by omega
  rw [eb]
  unfold mgV
  rw [h8] at kk ⊢
  have A:=ex_all F;exact ⟨sbExtras_any w _ _ _ _ _ _ _ _ _ _ p.g5 p.a5 p.c5 m.pr (txsR_of h.pr (ex_pr F) i.prZ) A.1 m.ea A.2.1 A.2.2,by have a1:=lsL_len m.pr (ex_pr F) i.prZ;rw [List.length_append,bigL_len];omega,kk⟩
 by_cases h11:m.k=11
 ·have F : ceF m.ce = 0 := mf_zero (m' := certsM m) (by unfold kfF; rw [if_neg h1]; rw [if_neg h2]; rw [if_neg h4]; rw [if_neg h5]; rw [if_neg h8]; rw [if_pos h11]) f0
  have eb:bodF m=clL m.ce:=by unfold bodF;rw [if_neg h1];rw [if_neg h2];rw [if_neg h4];rw [if_neg h5];rw [if_neg h8];rw [if_pos h11]
  have kk:0≤m.k∧m.k≤255:=by omega
  rw [eb]
  unfold mgV
  rw [h11] at kk ⊢
  exact ⟨sbCerts_any w _ _ _ _ _ _ _ _ _ _ _ p.g11 p.a11 p.c11 m.ce p.ps (ctsR_of h.ce (ce_n F) i.ceZ z.zc),clL_len (ce_n F) i.ceZ,kk⟩
 by_cases h15:m.k=15
 ·have F : pfF 64 m.pf.length = 0 := mf_zero (m' := proofM m) (by unfold kfF; rw [if_neg h1]; rw [if_neg h2]; rw [if_neg h4]; rw [if_neg h5]; rw [if_neg h8]; rw [if_neg h11]; rw [if_pos h15]) f0
  have eb:bodF m=m.pf:=by unfold bodF;rw [if_neg h1];rw [if_neg h2];rw [if_neg h4];rw [if_neg h5];rw [if_neg h8];rw [if_neg h11];rw [if_pos h15]
  have kk:0≤m.k∧m.k≤255:=by omega
  rw [eb]
  unfold mgV
  rw [h15] at kk ⊢
  exact ⟨sbProof_any w _ _ _ _ _ _ _ _ _ _ _ ⟨p.g12,p.a12,p.c12,m.pf⟩ (lstR_of h.pf z.z12 i.pfL),by have a1:=i.pfL;omega,kk⟩
 by_cases h20:m.k=20
 ·have F : pfF 32 m.pf.length = 0 := mf_zero (m' := finishedM m) (by unfold kfF; rw [if_neg h1]; rw [if_neg h2]; rw [if_neg h4]; rw [if_neg h5]; rw [if_neg h8]; rw [if_neg h11]; rw [if_neg h15]; rw [if_pos h20]) f0
  have eb:bodF m=m.pf:=by unfold bodF;rw [if_neg h1];rw [if_neg h2];rw [if_neg h4];rw [if_neg h5];rw [if_neg h8];rw [if_neg h11];rw [if_neg h15];rw [if_pos h20]
  have kk:0≤m.k∧m.k≤255:=by omega
  rw [eb]
  unfold mgV
  rw [h20] at kk ⊢
  exact ⟨sbFinished_any w _ _ _ _ _ _ _ _ _ _ _ ⟨p.g12,p.a12,p.c12,m.pf⟩ (lstR_of h.pf z.z12 i.pfL),by have a1:=i.pfL;omega,kk⟩
 by_cases h24:m.k=24
 ·have F : upF m.ea = 0 := mf_zero (m' := updateM m) (by unfold kfF; rw [if_neg h1]; rw [if_neg h2]; rw [if_neg h4]; rw [if_neg h5]; rw [if_neg h8]; rw [if_neg h11]; rw [if_neg h15]; rw [if_neg h20]; rw [if_pos h24]) f0
  have eb:bodF m=bigL m.ea 1:=by unfold bodF;rw [if_neg h1];rw [if_neg h2];rw [if_neg h4];rw [if_neg h5];rw [if_neg h8];rw [if_neg h11];rw [if_neg h15];rw [if_neg h20];rw [if_pos h24]
  have kk:0≤m.k∧m.k≤255:=by omega
  rw [eb]
  unfold mgV
  rw [h24] at kk ⊢
  have A:=up_all F;exact ⟨sbUpdate_any w _ _ _ _ _ _ _ _ _ _ _ m.ea A.1 A.2,by rw [bigL_len];omega,kk⟩
 exfalso
 unfold mfF kfF at f0
 rw [if_neg h1,if_neg h2,if_neg h4,if_neg h5,if_neg h8,if_neg h11,if_neg h15,if_neg h20,if_neg h24] at f0
 simp at f0
end Go.Proofs.YtmmbkkfjiaoeiaaGreat
namespace Go.Proofs.YtmmbkkfjiaoeiaaGreat
open Go Go.RowKit
def kinds:List Int:=[1,2,4,5,8,11,15,20,24]
set_option maxHeartbeats 1000000 in
theorem l12Has_any (w : World) (g : Nat) (a : Option Addr) (c : Nat) (ls : List Int) (x : Int) (hr : Rd w g a .i64 ls) (hn : ls.length ≤ 1048576) :
  Calls Tryz.prog 37 #[.slice a ls.length c,.int .i64 x] w fun e w'=>e = .returned (.bool (decide (x ∈ ls)))∧w'=w:=by
 go_enter Tryz.func37,Tryz.ntmps37
 go_wp2
 go_loopw [5] (fun i wr=>∃ (k:Nat),k≤ls.length∧i = .int .i64 k∧wr=w∧∀ j,j < k→ls.getD j 0≠x) (fun i _=>ls.length - (intOf i).toNat)
 case atStart=>exact ⟨0,Nat.zero_le _,rfl,rfl,fun j hj=>absurd hj (by omega)⟩
 case round =>
  obtain ⟨k,hk,rfl,rfl,hne⟩:=hrel
  by_cases hlt:k < ls.length
  ·obtain ⟨off, rfl, hc⟩ := hr (by omega)
   have t0:(k:Int) < (ls.length:Int):=by omega
   have c1:=hc k hlt
   have HNE:=hide hne
   clear hne hc hr
   generalize hx:ls.getD k 0=y at *
   have HX:=hide hx
   clear hx
   by_cases hq:y=x
   ·subst hq
    have MEM:Hid (decide (y ∈ ls)=true):=by
     show _=_
     refine decide_eq_true ?_
     rw [← HX.out,List.getD_eq_getElem?_getD,List.getElem?_eq_getElem hlt]
     exact List.getElem_mem hlt
    clear HNE
    go_wp2
    go_ret
    exact ⟨by rw [MEM.out];rfl,rfl⟩
   ·have e1 : (y == x) = false := by simpa using hq
    have NXT:Hid (∀ j,j < k+1→ls.getD j 0≠x):=fun j hj=>by
     by_cases h:j=k
     ·subst h
      rw [HX.out]
      exact hq
     ·exact HNE.out j (by omega)
    clear HNE hq
    go_wp2
    go_roundw
    case rel=>exact ⟨k+1,by omega,by go_num,trivial,NXT.out⟩
    case measure=>simp [intOf];omega
  ·obtain rfl : k = ls.length := by omega
   have NM:Hid (decide (x ∈ ls)=false):=by
    show _=_
    refine decide_eq_false fun h=>?_
    obtain ⟨i,hi,e⟩:=List.getElem_of_mem h
    refine hne i hi ?_
    rw [List.getD_eq_getElem?_getD,List.getElem?_eq_getElem hi]
    exact e
   clear hne hr
   go_wp2
   go_ret
   exact ⟨by rw [NM.out];rfl,rfl⟩
set_option maxHeartbeats 1000000 in
theorem l13Known_any (w:World) (k:Int) :
  Calls Tryz.prog 18 #[.int .i64 k] w fun e w'=>e = .returned (.bool (decide (k ∈ kinds)))∧Below w.heap.size w w':=by
 have n0:Hid (Below w.heap.size w (w.alloc (.cells #[.int .i64 1,.int .i64 2,.int .i64 4,.int .i64 5,.int .i64 8,.int .i64 11,.int .i64 15,.int .i64 20,.int .i64 24] 2))):=(Below.refl _ _).alloc (Nat.le_refl _) _
 have R:Rd (w.alloc (.cells #[.int .i64 1,.int .i64 2,.int .i64 4,.int .i64 5,.int .i64 8,.int .i64 11,.int .i64 15,.int .i64 20,.int .i64 24] 2)) w.heap.size (some ⟨w.heap.size,0,none⟩) .i64 kinds:=fun _=>⟨0,rfl,fun i hi=>by
  have h:(w.alloc (.cells #[.int .i64 1,.int .i64 2,.int .i64 4,.int .i64 5,.int .i64 8,.int .i64 11,.int .i64 15,.int .i64 20,.int .i64 24] 2)).heap[w.heap.size]?=some (.cells #[.int .i64 1,.int .i64 2,.int .i64 4,.int .i64 5,.int .i64 8,.int .i64 11,.int .i64 15,.int .i64 20,.int .i64 24] 2 (0,0)):=by show (w.heap.push _)[w.heap.size]?=_;simp
  rw [Nat.zero_add,cell_of_row _ _ _ _ _ _ h]
  have hi':i < 9:=hi
  obtain rfl | rfl | rfl | rfl | rfl | rfl | rfl | rfl | rfl:i=0∨i=1∨i=2∨i=3∨i=4∨i=5∨i=6∨i=7∨i=8:=by omega
  all_goals rfl⟩
 have H:Hid (Calls Tryz.prog 37 #[.slice (some ⟨w.heap.size,0,none⟩) 9 9,.int .i64 k] (w.alloc (.cells #[.int .i64 1,.int .i64 2,.int .i64 4,.int .i64 5,.int .i64 8,.int .i64 11,.int .i64 15,.int .i64 20,.int .i64 24] 2)) fun e w'=>e = .returned (.bool (decide (k ∈ kinds)))∧w'=w.alloc (.cells #[.int .i64 1,.int .i64 2,.int .i64 4,.int .i64 5,.int .i64 8,.int .i64 11,.int .i64 15,.int .i64 20,.int .i64 24] 2)):=l12Has_any _ _ _ 9 kinds k R (by decide)
 clear R
 generalize decide (k ∈ kinds)=z at *
 go_enter Tryz.func18,Tryz.ntmps18
 go_wp2_with fail
 refine H.out.mono ?_
 rintro e w1 ⟨rfl,h1⟩
 subst h1
 go_wp2
 go_ret
 exact ⟨rfl,n0.out⟩
theorem mem_take_of {ls:List (List UInt8)} {k j:Nat} (hj:j < k) (hk:k < ls.length) (h:ls.getD j []=ls.getD k []):prA ls k=false:=by
 unfold prA
 have m:ls.getD k [] ∈ ls.take k:=by
  rw [← h,List.getD_eq_getElem?_getD,List.getElem?_eq_getElem (by omega)]
  have:(ls.take k)[j]'(by rw [List.length_take];omega)=ls[j]:=List.getElem_take
  rw [Option.getD_some,← this]
  exact List.getElem_mem _
 rw [decide_eq_true m]
 simp
theorem prA_of {ls:List (List UInt8)} {k:Nat} (hk:k < ls.length) (h0:0 < (ls.getD k []).length) (h1:(ls.getD k []).length≤32) (h:∀ j,j < k→ls.getD j []≠ls.getD k []):prA ls k=true:=by
 unfold prA
 have m:¬ ls.getD k [] ∈ ls.take k:=fun hm=>by
  obtain ⟨i,hi,e⟩:=List.getElem_of_mem hm
  rw [List.length_take] at hi
  refine h i (by omega) ?_
  rw [← e,List.getElem_take,List.getD_eq_getElem?_getD,List.getElem?_eq_getElem (by omega)]
  rfl
 rw [decide_eq_true h0,decide_eq_true h1,decide_eq_false m]
 rfl
set_option maxHeartbeats 2000000 in
theorem l13Protocols_any (w : World) (g : Nat) (a : Option Addr) (c : Nat) (ls : List (List UInt8)) (n : Nat) (hr : RdT w g a ls) (hn : ls.length ≤ 1048576) (n1 : n ≤ 100) (hz : ∀ l ∈ ls, l.length ≤ 1048576) :
    Calls Tryz.prog 22 #[.slice a ls.length c,.int .i64 (n:Int)] w fun e w'=>e = .returned (.bool (prB ls n))∧Below w.heap.size w w':=by
  by_cases hl:ls.length≤n
  · have d0 : decide ((n : Int) < (ls.length : Int)) = false := by simp; omega
    have d0':decide (n < ls.length)=false:=by simp;omega
    go_enter Tryz.func22,Tryz.ntmps22
    go_wp2
    go_loopw [5,6] (fun i _ wr=>∃ (k:Nat),k≤ls.length∧i = .int .i64 k∧Below w.heap.size w wr∧∀ j,j < k→prA ls j=true) (fun i _ _=>ls.length - (intOf i).toNat)
    case atStart=>exact ⟨0,Nat.zero_le _,rfl,Below.refl _ _,fun j hj=>absurd hj (by omega)⟩
    case round =>
      obtain ⟨k,hk,rfl,nb,hall⟩:=hrel
      by_cases hlt:k < ls.length
      · have hr1 := hr.up nb
        obtain ⟨off,rfl,hcl⟩:=hr1 (by omega)
        have t0:(k:Int) < (ls.length:Int):=by omega
        have c1:=hcl k hlt
        have HALL:=hide hall
        have HN:=hide nb
        have HCL:=hide hcl
        clear hall nb hcl hr1
        have HZ:(ls.getD k []).length≤1048576:=by
          refine hz _ ?_
          rw [List.getD_eq_getElem?_getD,List.getElem?_eq_getElem hlt]
          exact List.getElem_mem hlt
        have PN:=hide (fun h=>prB_no (n:=n) hlt h)
        have PT:=hide (fun j hj h=>mem_take_of (j:=j) hj hlt h)
        have PO:=hide (fun h0 h1 h=>prA_of hlt h0 h1 h)
        have P0:=hide (show (ls.getD k []).length=0→prA ls k=false from fun h=>by unfold prA;rw [h];rfl)
        have P1:=hide (show 32 < (ls.getD k []).length→prA ls k=false from fun h=>by unfold prA;rw [decide_eq_false (show ¬ (ls.getD k []).length≤32 by omega)];simp)
        generalize hx:ls.getD k []=x at *
        have HX:=hide hx
        clear hx
        simp only [tx] at c1
        by_cases x0:x.length=0
        · have d1 : decide ((x.length : Int) < 1) = true := by simp; omega
          have NO:=hide (PN.out (P0.out x0))
          clear PN PT PO P0 P1 HALL x0
          go_wp2
          go_ret
          exact ⟨by rw [NO.out];rfl,HN.out⟩
        · have d1 : decide ((x.length : Int) < 1) = false := by simp; omega
          by_cases x1:32 < x.length
          · have d2 : decide ((32 : Int) < (x.length : Int)) = true := by simp; omega
            have NO:=hide (PN.out (P1.out x1))
            clear PN PT PO P0 P1 HALL x0 x1
            go_wp2
            go_ret
            exact ⟨by rw [NO.out];rfl,HN.out⟩
          · have d2 : decide ((32 : Int) < (x.length : Int)) = false := by simp; omega
            have PO':=hide (PO.out (by omega) (by omega))
            clear P0 P1 PO x0 x1
            go_wp2
            go_loopw [6] (fun j wz=>∃ (m:Nat),m≤k∧j = .int .i64 m∧Below w.heap.size w wz∧∀ i,i < m→ls.getD i []≠x) (fun j _=>k - (intOf j).toNat)
            case atStart=>exact ⟨0,Nat.zero_le _,rfl,HN.out,fun j hj=>absurd hj (by omega)⟩
            case round =>
              obtain ⟨m,hm,rfl,nz,hne⟩:=hrel
              by_cases hmt:m < k
              · have t1 : (m : Int) < (k : Int) := by omega
                have hr2:=hr.up nz
                obtain ⟨off',ha,hcl2⟩:=hr2 (by omega)
                simp only [Option.some.injEq,Addr.mk.injEq,and_true,true_and] at ha
                obtain rfl:=ha
                have c2:=hcl2 k hlt
                have c3:=hcl2 m (by omega)
                rw [HX.out] at c2
                have tm:(m:Int) < (ls.length:Int):=by omega
                have NZ:=hide nz
                have HNE:=hide hne
                clear nz hne hcl2 hr2 c1 HCL
                generalize hy:ls.getD m []=y at *
                have HY:=hide hy
                clear hy
                simp only [tx] at c2 c3
                by_cases hq:x=y
                · subst hq
                  have e1:(x == x)=true:=by simp
                  have NO:=hide (PN.out (PT.out m hmt HY.out))
                  clear PN PT PO' HALL HNE
                  go_wp2
                  go_quiet (fail)
                  go_wp2
                  go_ret
                  exact ⟨by rw [NO.out];rfl,NZ.out.trans ((Only.drewN _ w.heap.size _).below (Nat.le_refl _))⟩
                · have e1 : (x == y) = false := by simpa using hq
                  have e2:(y == x)=false:=by simpa using (fun h=>hq h.symm)
                  have NXT:Hid (∀ i,i < m+1→ls.getD i []≠x):=fun i hi=>by
                    by_cases h:i=m
                    · subst h
                      rw [HY.out]
                      exact fun h=>hq h.symm
                    · exact HNE.out i (by omega)
                  clear HNE PN PT PO' HALL hq
                  go_wp2
                  go_quiet (fail)
                  go_wp2
                  go_roundw
                  case rel=>exact ⟨m+1,by omega,by go_num,NZ.out.trans ((Only.drewN _ w.heap.size _).below (Nat.le_refl _)),NXT.out⟩
                  case measure=>simp [intOf];omega
              · obtain rfl : m = k := by omega
                have NXT:Hid (∀ j,j < m+1→prA ls j=true):=fun j hj=>by
                  by_cases h:j=m
                  · subst h
                    exact PO'.out hne
                  · exact HALL.out j (by omega)
                have NZ:=hide nz
                clear nz hne PN PT PO' HALL
                go_wp2
                go_roundw
                case rel=>exact ⟨m+1,by omega,by go_num,NZ.out,NXT.out⟩
                case measure=>simp [intOf];omega
      · obtain rfl : k = ls.length := by omega
        have YES:=hide (prB_yes hl hall)
        have HN:=hide nb
        clear hall hr nb
        go_wp2
        go_ret
        exact ⟨by rw [YES.out];rfl,HN.out⟩
  · have d0 : decide ((n : Int) < (ls.length : Int)) = true := by simp; omega
    have NO:Hid (prB ls n=false):=by show _=_;unfold prB;rw [decide_eq_false hl,Bool.false_and]
    clear hr
    go_enter Tryz.func22,Tryz.ntmps22
    go_wp2
    go_ret
    exact ⟨by rw [NO.out];rfl,Below.refl _ _⟩
end Go.Proofs.YtmmbkkfjiaoeiaaGreat
namespace Go.Proofs.YtmmbkkfjiaoeiaaGreat
open Go Go.RowKit
def rdHello (xs:List Int):Msg:=⟨1,beN xs 0 1,tkB xs 1 32,tkB xs 33 32,txB (tkB xs 66 (beN xs 65 1).toNat),txT xs (hpA xs+1) (xs.getD (hpA xs) 0).toNat,tkB xs (hpB xs+2) (hpN xs),if hpN xs=0 then 0 else beN xs (hpC xs) 4,if hpN xs=0 then 0 else beN xs (hpC xs+4) 1,if hpN xs=0 then [] else tkB xs (hpC xs+5) 32,false,[],[]⟩
def rdAnswer (xs:List Int):Msg:=⟨2,beN xs 0 1,tkB xs 1 32,tkB xs 33 32,[],[],[],0,0,[],beN xs 65 1 == 1,[],[]⟩
def rdTicket (xs:List Int):Msg:=⟨4,0,tkB xs 8 32,[],[],[],tkB xs 42 (beN xs 40 2).toNat,beN xs 0 4,beN xs 4 4,[],false,[],[]⟩
def rdEnd (_xs:List Int):Msg:=⟨5,0,[],[],[],[],[],0,0,[],false,[],[]⟩
def rdExtras (xs:List Int):Msg:=⟨8,0,[],[],[],txT xs 1 (xs.getD 0 0).toNat,[],0,beN xs (ppT xs 1 (xs.getD 0 0).toNat) 1,[],false,[],[]⟩
def rdCerts (xs:List Int):Msg:=⟨11,0,[],[],[],[],[],0,0,[],false,clT xs 1 (xs.getD 0 0).toNat,[]⟩
def rdProof (xs:List Int):Msg:=⟨15,0,[],[],[],[],[],0,0,[],false,[],tkB xs 0 64⟩
def rdFinished (xs:List Int):Msg:=⟨20,0,[],[],[],[],[],0,0,[],false,[],tkB xs 0 32⟩
def rdUpdate (xs:List Int):Msg:=⟨24,0,[],[],[],[],[],0,beN xs 0 1,[],false,[],[]⟩
def rdM (k:Int) (xs:List Int):Msg:=if k=1 then rdHello xs else if k=2 then rdAnswer xs else if k=4 then rdTicket xs else if k=5 then rdEnd xs else if k=8 then rdExtras xs else if k=11 then rdCerts xs else if k=15 then rdProof xs else if k=20 then rdFinished xs else rdUpdate xs
def fitM (k:Int) (xs:List Int):Prop:=if k=1 then HeG xs else if k=2 then 66≤xs.length else if k=4 then 42+(beN xs 40 2).toNat≤xs.length else if k=5 then True else if k=8 then 0 < xs.length∧ppT xs 1 (xs.getD 0 0).toNat+1≤xs.length else if k=11 then 0 < xs.length∧ppL xs 1 (xs.getD 0 0).toNat≤xs.length else if k=15 then 64≤xs.length else if k=20 then 32≤xs.length else 1≤xs.length
theorem be_byte {xs:List Int} (hb:Byt xs) (i t:Nat) (h:t≤4):0≤beN xs i t∧beN xs i t < 4294967296:=by
 have h1:=beN_rng hb i t
 refine ⟨h1.1,?_⟩
 have:t=0∨t=1∨t=2∨t=3∨t=4:=by omega
 rcases this with e | e | e | e | e <;> subst e <;> omega
theorem be1 {xs:List Int} (hb:Byt xs) (i:Nat):(beN xs i 1).toNat < 256:=by have:=beN_rng hb i 1;omega
theorem be2 {xs:List Int} (hb:Byt xs) (i:Nat):(beN xs i 2).toNat < 65536:=by have:=beN_rng hb i 2;omega
theorem bx1 {xs:List Int} (hb:Byt xs) (i:Nat):(xs.getD i 0).toNat < 256:=by have:=hb i;omega
theorem txT_small {xs:List Int} (hb:Byt xs) (i k:Nat):∀ l ∈ txT xs i k,l.length≤1048576:=fun l hl=>by
 obtain ⟨j,_,rfl⟩:=List.mem_map.1 hl
 rw [txB_len,tkB_len]
 have:=be1 hb (ppT xs i j)
 omega
theorem clT_get (xs:List Int) (i k j:Nat) (h:j < k):(clT xs i k).getD j []=tkB xs (ppL xs i j+2) (beN xs (ppL xs i j) 2).toNat:=by simp [clT,h]
theorem isM_hello {xs:List Int} (hb:Byt xs):IsM (rdHello xs):=by
 have h1:=be1 hb 65
 have h2:=be2 hb (hpB xs)
 have h3:=bx1 hb (hpA xs)
 refine ⟨tkB_byt hb _ _,tkB_byt hb _ _,tkB_byt hb _ _,?_,byt_nil,fun i hi=>absurd hi (by simp [rdHello]),?_,?_,?_,?_,?_,?_,?_,fun i hi=>absurd hi (by simp [rdHello]),?_,txT_small hb _ _⟩
 ·show Byt (if hpN xs = 0 then [] else tkB xs (hpC xs + 5) 32)
  split
  ·exact byt_nil
  ·exact tkB_byt hb _ _
 all_goals simp only [rdHello]
 all_goals first | (rw [tkB_len];omega) | skip
 ·rw [txT_len];omega
 ·rw [tkB_len];show hpN xs≤_;unfold hpN;omega
 ·split
  ·simp
  ·rw [tkB_len];omega
 ·simp
 ·simp
 ·rw [txB_len,tkB_len];omega
theorem isM_answer {xs:List Int} (hb:Byt xs):IsM (rdAnswer xs):=by
 refine ⟨tkB_byt hb _ _,tkB_byt hb _ _,byt_nil,byt_nil,byt_nil,fun i hi=>absurd hi (by simp [rdAnswer]),?_,?_,?_,?_,?_,?_,?_,fun i hi=>absurd hi (by simp [rdAnswer]),?_,fun l hl=>absurd hl (by simp [rdAnswer])⟩
 all_goals simp [rdAnswer,tkB_len]
theorem isM_ticket {xs:List Int} (hb:Byt xs):IsM (rdTicket xs):=by
 have h2:=be2 hb 40
 refine ⟨tkB_byt hb _ _,byt_nil,tkB_byt hb _ _,byt_nil,byt_nil,fun i hi=>absurd hi (by simp [rdTicket]),?_,?_,?_,?_,?_,?_,?_,fun i hi=>absurd hi (by simp [rdTicket]),?_,fun l hl=>absurd hl (by simp [rdTicket])⟩
 all_goals simp only [rdTicket,tkB_len]
 all_goals first | (simp;done) | omega
theorem isM_end (xs:List Int):IsM (rdEnd xs):=by
 refine ⟨byt_nil,byt_nil,byt_nil,byt_nil,byt_nil,fun i hi=>absurd hi (by simp [rdEnd]),?_,?_,?_,?_,?_,?_,?_,fun i hi=>absurd hi (by simp [rdEnd]),?_,fun l hl=>absurd hl (by simp [rdEnd])⟩
 all_goals simp [rdEnd]
theorem isM_extras {xs:List Int} (hb:Byt xs):IsM (rdExtras xs):=by
 have h3:=bx1 hb 0
 refine ⟨byt_nil,byt_nil,byt_nil,byt_nil,byt_nil,fun i hi=>absurd hi (by simp [rdExtras]),?_,?_,?_,?_,?_,?_,?_,fun i hi=>absurd hi (by simp [rdExtras]),?_,txT_small hb _ _⟩
 all_goals simp only [rdExtras,txT_len]
 all_goals first | (simp;done) | omega
theorem isM_certs {xs:List Int} (hb:Byt xs):IsM (rdCerts xs):=by
 have h3:=bx1 hb 0
 refine ⟨byt_nil,byt_nil,byt_nil,byt_nil,byt_nil,fun i hi=>?_,?_,?_,?_,?_,?_,?_,?_,fun i hi=>?_,?_,fun l hl=>absurd hl (by simp [rdCerts])⟩
 ·have hi : i < (xs.getD 0 0).toNat := by simpa [rdCerts, clT_len] using hi
  show Byt ((clT xs 1 (xs.getD 0 0).toNat).getD i [])
  rw [clT_get _ _ _ _ hi]
  exact tkB_byt hb _ _
 rotate_right 2
 ·have hi : i < (xs.getD 0 0).toNat := by simpa [rdCerts, clT_len] using hi
  show ((clT xs 1 (xs.getD 0 0).toNat).getD i []).length≤_
  rw [clT_get _ _ _ _ hi,tkB_len]
  have:=be2 hb (ppL xs 1 i)
  omega
 all_goals simp only [rdCerts,clT_len]
 all_goals first | (simp;done) | omega
theorem isM_proof {xs:List Int} (hb:Byt xs):IsM (rdProof xs):=by
 refine ⟨byt_nil,byt_nil,byt_nil,byt_nil,tkB_byt hb _ _,fun i hi=>absurd hi (by simp [rdProof]),?_,?_,?_,?_,?_,?_,?_,fun i hi=>absurd hi (by simp [rdProof]),?_,fun l hl=>absurd hl (by simp [rdProof])⟩
 all_goals simp [rdProof,tkB_len]
theorem isM_finished {xs:List Int} (hb:Byt xs):IsM (rdFinished xs):=by
 refine ⟨byt_nil,byt_nil,byt_nil,byt_nil,tkB_byt hb _ _,fun i hi=>absurd hi (by simp [rdFinished]),?_,?_,?_,?_,?_,?_,?_,fun i hi=>absurd hi (by simp [rdFinished]),?_,fun l hl=>absurd hl (by simp [rdFinished])⟩
 all_goals simp [rdFinished,tkB_len]
theorem isM_update (xs:List Int):IsM (rdUpdate xs):=by
 refine ⟨byt_nil,byt_nil,byt_nil,byt_nil,byt_nil,fun i hi=>absurd hi (by simp [rdUpdate]),?_,?_,?_,?_,?_,?_,?_,fun i hi=>absurd hi (by simp [rdUpdate]),?_,fun l hl=>absurd hl (by simp [rdUpdate])⟩
 all_goals simp [rdUpdate]
theorem isM_rd {xs:List Int} (hb:Byt xs) (k:Int):IsM (rdM k xs):=by
 unfold rdM
 split
 ·exact isM_hello hb
 split
 ·exact isM_answer hb
 split
 ·exact isM_ticket hb
 split
 ·exact isM_end xs
 split
 ·exact isM_extras hb
 split
 ·exact isM_certs hb
 split
 ·exact isM_proof hb
 split
 ·exact isM_finished hb
 ·exact isM_update xs
theorem shs_len (xs:List Int) (i:Nat):∀ k,i+((txT xs i k).map shL).flatten.length=ppT xs i k
  | 0=>by simp [txT,ppT]
  | k + 1 => by
    have h:=shs_len xs i k
    have e:ppT xs i (k+1)=ppT xs i k+1+(beN xs (ppT xs i k) 1).toNat:=rfl
    rw [txT_step,e,List.map_append,List.flatten_append,List.length_append]
    simp only [List.map_cons,List.map_nil,List.flatten_cons,List.flatten_nil,List.append_nil,shL_len,txB_len,tkB_len]
    omega
theorem los_len (xs:List Int) (i:Nat):∀ k,i+((clT xs i k).map loL).flatten.length=ppL xs i k
  | 0=>by simp [clT,ppL]
  | k + 1 => by
    have h:=los_len xs i k
    have e:ppL xs i (k+1)=ppL xs i k+2+(beN xs (ppL xs i k) 2).toNat:=rfl
    rw [clT_step,e,List.map_append,List.flatten_append,List.length_append]
    simp only [List.map_cons,List.map_nil,List.flatten_cons,List.flatten_nil,List.append_nil,loL_len,tkB_len]
    omega
theorem fit_hello {xs:List Int} (h:heL (rdHello xs).v (rdHello xs).r (rdHello xs).s (rdHello xs).ho (rdHello xs).pr (rdHello xs).ti (rdHello xs).ag (rdHello xs).ea (rdHello xs).bi=xs):HeG xs:=by
 have l:=congrArg List.length h
 have s:=shs_len xs (hpA xs+1) (xs.getD (hpA xs) 0).toNat
 have eA:hpA xs=65+1+(beN xs 65 1).toNat:=rfl
 have eB:hpB xs=ppT xs (hpA xs+1) (xs.getD (hpA xs) 0).toNat:=rfl
 have eC:hpC xs=hpB xs+2+hpN xs:=rfl
 have eb:(bdL (rdHello xs).ti (rdHello xs).ag (rdHello xs).ea (rdHello xs).bi).length=if hpN xs=0 then 0 else 37:=by
  have et:(rdHello xs).ti.length=hpN xs:=tkB_len _ _ _
  unfold bdL
  rw [et]
  split
  ·rfl
  ·rename_i hz
   simp only [rdHello,if_neg hz,List.length_append,bigL_len,tkB_len]
 unfold heL lsL at l
 rw [List.length_append,List.length_append,List.length_append,List.length_append,List.length_append,eb,fpL_len,shL_len,loL_len] at l
 have e1:(rdHello xs).r.length=32:=tkB_len _ _ _
 have e2:(rdHello xs).s.length=32:=tkB_len _ _ _
 have e3:(rdHello xs).ho.length=(beN xs 65 1).toNat:=by show (txB _).length=_;rw [txB_len,tkB_len]
 have e4:(rdHello xs).ti.length=hpN xs:=tkB_len _ _ _
 have e5:((rdHello xs).pr.map shL).flatten.length=((txT xs (hpA xs+1) (xs.getD (hpA xs) 0).toNat).map shL).flatten.length:=rfl
 have e6:[((rdHello xs).pr.length:Int)].length=1:=rfl
 rw [e1,e2,e3,e4,e5,e6] at l
 unfold HeG
 split at l
 ·refine ⟨by omega,by omega,fun h=>by omega⟩
 ·refine ⟨by omega,by omega,fun h=>by omega⟩
theorem fit_rd {xs:List Int} {k:Int} (hk:k ∈ kinds) (h:bodF (rdM k xs)=xs):fitM k xs:=by
 have:k=1∨k=2∨k=4∨k=5∨k=8∨k=11∨k=15∨k=20∨k=24:=by simpa [kinds] using hk
 rcases this with e | e | e | e | e | e | e | e | e <;> subst e
 ·exact fit_hello (by simpa [bodF,rdM,rdHello] using h)
 ·have l := congrArg List.length h
  simp [bodF,rdM,rdAnswer,fpL_len,tkB_len] at l
  show 66≤xs.length
  omega
 ·have l := congrArg List.length h
  simp [bodF,rdM,rdTicket,tkL,bigL_len,loL_len,tkB_len] at l
  show 42+(beN xs 40 2).toNat≤xs.length
  omega
 ·exact trivial
 ·have l := congrArg List.length h
  have s:=shs_len xs 1 (xs.getD 0 0).toNat
  have eb:bodF (rdM 8 xs)=lsL (txT xs 1 (xs.getD 0 0).toNat) ++ bigL (beN xs (ppT xs 1 (xs.getD 0 0).toNat) 1) 1:=rfl
  rw [eb,List.length_append,bigL_len] at l
  unfold lsL at l
  rw [List.length_append] at l
  have e6:[((txT xs 1 (xs.getD 0 0).toNat).length:Int)].length=1:=rfl
  rw [e6] at l
  show 0 < xs.length∧_≤xs.length
  omega
 ·have l := congrArg List.length h
  have s:=los_len xs 1 (xs.getD 0 0).toNat
  have eb:bodF (rdM 11 xs)=clL (clT xs 1 (xs.getD 0 0).toNat):=rfl
  rw [eb] at l
  unfold clL at l
  rw [List.length_append] at l
  have e6:[((clT xs 1 (xs.getD 0 0).toNat).length:Int)].length=1:=rfl
  rw [e6] at l
  show 0 < xs.length∧_≤xs.length
  omega
 ·have l := congrArg List.length h
  have eb:bodF (rdM 15 xs)=tkB xs 0 64:=rfl
  rw [eb,tkB_len] at l
  show 64≤xs.length
  omega
 ·have l := congrArg List.length h
  have eb:bodF (rdM 20 xs)=tkB xs 0 32:=rfl
  rw [eb,tkB_len] at l
  show 32≤xs.length
  omega
 ·have l := congrArg List.length h
  have eb:bodF (rdM 24 xs)=bigL (beN xs 0 1) 1:=rfl
  rw [eb,bigL_len] at l
  show 1≤xs.length
  omega
end Go.Proofs.YtmmbkkfjiaoeiaaGreat
namespace Go.Proofs.YtmmbkkfjiaoeiaaGreat
open Go Go.RowKit
theorem he_more {v:Int} {r s:Nat} {ho:List UInt8} {ls:List (List UInt8)} {t b:Nat} {g e:Int} (h:heF v r s ho ls t b g e=0):(r=32∧s=32)∧t≤400∧b≤32:=by
 unfold heF at h
 by_cases h1:(fpB v r s || !bdB t b g e)=true
 ·rw [if_pos h1] at h
  simp at h
 rw [if_neg h1] at h
 rw [Bool.not_eq_true,Bool.or_eq_false_iff] at h1
 by_cases h2:nameF ho≠0
 ·rw [if_pos h2] at h
  simp at h
 rw [if_neg h2] at h
 by_cases h3:prB ls 8=false
 ·rw [if_pos h3] at h
  simp at h
 rw [if_neg h3] at h
 by_cases h4:400 < t
 ·rw [if_pos h4] at h
  simp at h
 refine ⟨?_,by omega,?_⟩
 ·have f := h1.1
  unfold fpB at f
  rw [Bool.or_eq_false_iff,Bool.or_eq_false_iff,Bool.or_eq_false_iff] at f
  have a:=of_decide_eq_false f.2.2.1
  have c:=of_decide_eq_false f.2.2.2
  omega
 ·have f := h1.2
  have f':bdB t b g e=true:=by simpa using f
  unfold bdB at f'
  by_cases c:t=0
  ·rw [if_pos c, Bool.and_eq_true] at f'
   have:=of_decide_eq_true f'.1
   omega
  ·rw [if_neg c] at f'
   have:=of_decide_eq_true f'
   omega
theorem fp_more {v:Int} {r s:Nat} (h:fpF v r s=0):r=32∧s=32:=by
 unfold fpF at h
 by_cases h1:fpB v r s=true
 ·rw [if_pos h1] at h
  simp at h
 ·have f : fpB v r s = false := by simpa using h1
  unfold fpB at f
  rw [Bool.or_eq_false_iff,Bool.or_eq_false_iff,Bool.or_eq_false_iff] at f
  have a:=of_decide_eq_false f.2.2.1
  have c:=of_decide_eq_false f.2.2.2
  omega
theorem ti_more {g e:Int} {r t:Nat} (h:tiF g e r t=0):r=32∧t≤400:=by
 unfold tiF at h
 by_cases h1:r≠32
 ·rw [if_pos h1] at h
  simp at h
 rw [if_neg h1] at h
 by_cases h2:t=0∨400 < t
 ·rw [if_pos h2] at h
  simp at h
 omega
theorem pf_more {n k:Nat} (h:pfF n k=0):k=n:=by
 unfold pfF at h
 by_cases h1:k≠n
 ·rw [if_pos h1] at h
  simp at h
 ·omega
theorem ce_more {bs:List (List Int)} (h:ceF bs=0):∀ i,i < bs.length→(bs.getD i []).length≤2000:=by
 unfold ceF at h
 by_cases c0:bs.length=0
 ·intro i hi
  omega
 rw [if_neg c0] at h
 by_cases c1:4 < bs.length
 ·rw [if_pos c1] at h
  simp at h
 rw [if_neg c1] at h
 intro i hi
 by_cases c2:2000 < (bs.getD i []).length
 ·have : ctA bs = true := ctA_yes hi (by unfold ctO; simp; exact .inr (by simpa [List.getD_eq_getElem?_getD] using c2))
  rw [if_pos this] at h
  simp at h
 ·omega
theorem lsL_le {ls:List (List UInt8)} (h:ls.length≤8) (hz:∀ l ∈ ls,l.length≤255):(lsL ls).length≤2049:=by
 have:=sh_sum ls 255 hz ls.length
 rw [List.take_of_length_le (by simp)] at this
 unfold lsL
 rw [List.length_append]
 have:ls.length*(255+1)≤8*(255+1):=Nat.mul_le_mul_right _ h
 simp only [List.length_cons,List.length_nil]
 omega
theorem clL_le {bs:List (List Int)} (n:bs.length≤4) (z:∀ i,i < bs.length→(bs.getD i []).length≤2000):(clL bs).length≤8009:=by
 have:=lo_sum bs 2000 z bs.length
 rw [List.take_of_length_le (by simp)] at this
 have:bs.length*(2000+2)≤4*(2000+2):=Nat.mul_le_mul_right _ n
 unfold clL
 rw [List.length_append]
 simp only [List.length_cons,List.length_nil]
 omega
theorem heL_le {v:Int} {r s:List Int} {ho:List UInt8} {pr:List (List UInt8)} {t:List Int} {ag ea:Int} {b:List Int} (h1:r.length=32) (h2:s.length=32) (h3:ho.length≤255) (h4:pr.length≤8) (h5:∀ l ∈ pr,l.length≤255) (h6:t.length≤400) (h7:b.length≤32):(heL v r s ho pr t ag ea b).length≤8192:=by
 have:=lsL_le h4 h5
 have:(bdL t ag ea b).length≤37:=by
  unfold bdL
  split
  ·simp
  ·simp only [List.length_append,bigL_len];omega
 unfold heL
 simp only [List.length_append,fpL_len,shL_len,loL_len]
 omega
theorem bod_le (m:Msg) (f0:mfF m=0):(bodF m).length≤8192:=by
 by_cases h1:m.k=1
 ·have F : heF m.v m.r.length m.s.length m.ho m.pr m.ti.length m.bi.length m.ag m.ea = 0 := mf_zero (m' := helloM m) (by unfold kfF; rw [if_pos h1]) f0
  have eb:bodF m=heL m.v m.r m.s m.ho m.pr m.ti m.ag m.ea m.bi:=by unfold bodF;rw [if_pos h1]
  rw [eb]
  have A:=he_all F;have B:=he_more F;exact heL_le B.1.1 B.1.2 A.2.1 (he_pr F) A.2.2.1 B.2.1 B.2.2
 by_cases h2:m.k=2
 ·have F : fpF m.v m.r.length m.s.length = 0 := mf_zero (m' := answerM m) (by unfold kfF; rw [if_neg h1]; rw [if_pos h2]) f0
  have eb:bodF m=fpL m.v m.r m.s ++ [if m.rs=true then 1 else 0]:=by unfold bodF;rw [if_neg h1];rw [if_pos h2]
  rw [eb]
  have B:=fp_more F;rw [List.length_append,fpL_len];simp only [List.length_cons,List.length_nil];omega
 by_cases h4:m.k=4
 ·have F : tiF m.ag m.ea m.r.length m.ti.length = 0 := mf_zero (m' := ticketM m) (by unfold kfF; rw [if_neg h1]; rw [if_neg h2]; rw [if_pos h4]) f0
  have eb:bodF m=tkL m.ag m.ea m.r m.ti:=by unfold bodF;rw [if_neg h1];rw [if_neg h2];rw [if_pos h4]
  rw [eb]
  have B:=ti_more F;unfold tkL;simp only [List.length_append,bigL_len,loL_len];omega
 by_cases h5:m.k=5
 ·skip
  have eb:bodF m=[]:=by unfold bodF;rw [if_neg h1];rw [if_neg h2];rw [if_neg h4];rw [if_pos h5]
  rw [eb]
  simp
 by_cases h8:m.k=8
 ·have F : exF m.pr m.ea = 0 := mf_zero (m' := extrasM m) (by unfold kfF; rw [if_neg h1]; rw [if_neg h2]; rw [if_neg h4]; rw [if_neg h5]; rw [if_pos h8]) f0
  have eb:bodF m=lsL m.pr ++ bigL m.ea 1:=by unfold bodF;rw [if_neg h1];rw [if_neg h2];rw [if_neg h4];rw [if_neg h5];rw [if_pos h8]
  rw [eb]
  have A:=ex_all F;have a1:=lsL_le (ex_pr F) A.1;rw [List.length_append,bigL_len];omega
 by_cases h11:m.k=11
 ·have F : ceF m.ce = 0 := mf_zero (m' := certsM m) (by unfold kfF; rw [if_neg h1]; rw [if_neg h2]; rw [if_neg h4]; rw [if_neg h5]; rw [if_neg h8]; rw [if_pos h11]) f0
  have eb:bodF m=clL m.ce:=by unfold bodF;rw [if_neg h1];rw [if_neg h2];rw [if_neg h4];rw [if_neg h5];rw [if_neg h8];rw [if_pos h11]
  rw [eb]
  have a1:=clL_le (ce_n F) (ce_more F);omega
 by_cases h15:m.k=15
 ·have F : pfF 64 m.pf.length = 0 := mf_zero (m' := proofM m) (by unfold kfF; rw [if_neg h1]; rw [if_neg h2]; rw [if_neg h4]; rw [if_neg h5]; rw [if_neg h8]; rw [if_neg h11]; rw [if_pos h15]) f0
  have eb:bodF m=m.pf:=by unfold bodF;rw [if_neg h1];rw [if_neg h2];rw [if_neg h4];rw [if_neg h5];rw [if_neg h8];rw [if_neg h11];rw [if_pos h15]
  rw [eb]
  have B:=pf_more F;omega
 by_cases h20:m.k=20
 ·have F : pfF 32 m.pf.length = 0 := mf_zero (m' := finishedM m) (by unfold kfF; rw [if_neg h1]; rw [if_neg h2]; rw [if_neg h4]; rw [if_neg h5]; rw [if_neg h8]; rw [if_neg h11]; rw [if_neg h15]; rw [if_pos h20]) f0
  have eb:bodF m=m.pf:=by unfold bodF;rw [if_neg h1];rw [if_neg h2];rw [if_neg h4];rw [if_neg h5];rw [if_neg h8];rw [if_neg h11];rw [if_neg h15];rw [if_pos h20]
  rw [eb]
  have B:=pf_more F;omega
 by_cases h24:m.k=24
 ·have F : upF m.ea = 0 := mf_zero (m' := updateM m) (by unfold kfF; rw [if_neg h1]; rw [if_neg h2]; rw [if_neg h4]; rw [if_neg h5]; rw [if_neg h8]; rw [if_neg h11]; rw [if_neg h15]; rw [if_neg h20]; rw [if_pos h24]) f0
  have eb:bodF m=bigL m.ea 1:=by unfold bodF;rw [if_neg h1];rw [if_neg h2];rw [if_neg h4];rw [if_neg h5];rw [if_neg h8];rw [if_neg h11];rw [if_neg h15];rw [if_neg h20];rw [if_pos h24]
  rw [eb]
  rw [bigL_len];omega
 exfalso
 unfold mfF kfF at f0
 rw [if_neg h1,if_neg h2,if_neg h4,if_neg h5,if_neg h8,if_neg h11,if_neg h15,if_neg h20,if_neg h24] at f0
 simp at f0
theorem enc_le (m:Msg):(encF m).length≤10000:=by
 unfold encF
 by_cases c:mfF m=0
 ·rw [if_pos c]
  have:=bod_le m c
  unfold enL
  simp only [List.length_append,bigL_len,List.length_cons,List.length_nil]
  omega
 ·rw [if_neg c]
  simp
end Go.Proofs.YtmmbkkfjiaoeiaaGreat
namespace Go.Proofs.YtmmbkkfjiaoeiaaGreat
open Go Go.RowKit
def At (xs:List Int) (i:Nat) (Y:List Int):Prop:=∃ A Z,A.length=i∧xs=A ++ (Y ++ Z)
theorem At.self (xs:List Int):At xs 0 xs:=⟨[],[],rfl,by simp⟩
theorem At.fst {xs:List Int} {i:Nat} {Y Y':List Int} (h:At xs i (Y ++ Y')):At xs i Y:=by
 obtain ⟨A,Z,l,rfl⟩:=h
 exact ⟨A,Y' ++ Z,l,by simp [List.append_assoc]⟩
theorem At.snd {xs:List Int} {i:Nat} {Y Y':List Int} (h:At xs i (Y ++ Y')):At xs (i+Y.length) Y':=by
 obtain ⟨A,Z,l,rfl⟩:=h
 exact ⟨A ++ Y,Z,by simp [l],by simp [List.append_assoc]⟩
theorem At.get {xs:List Int} {i:Nat} {Y:List Int} (h:At xs i Y) {j:Nat} (hj:j < Y.length):xs.getD (i+j) 0=Y.getD j 0:=by
 obtain ⟨A,Z,rfl,rfl⟩:=h
 rw [List.getD_eq_getElem?_getD,List.getElem?_append_right (by omega),Nat.add_sub_cancel_left,List.getElem?_append_left hj,← List.getD_eq_getElem?_getD]
theorem At.tk {xs:List Int} {i:Nat} {Y:List Int} (h:At xs i Y) {n:Nat} (hn:Y.length=n):tkB xs i n=Y:=by
 apply List.ext_getElem
 ·simp [tkB,fill,hn]
 ·intro j h1 h2
  simp only [tkB,fill,List.getElem_map,List.getElem_range]
  rw [h.get h2,List.getD_eq_getElem?_getD,List.getElem?_eq_getElem h2,Option.getD_some]
theorem At.be {xs:List Int} {i t:Nat} {v:Int} (h:At xs i (bigL v t)) (v0:0≤v) (v1:v < 256 ^ t):beN xs i t=v:=by
  have key:∀ k,k≤t→beN xs i k=v / 256 ^ (t - k):=by
    intro k
    induction k with
    | zero =>
      intro _
      rw [Nat.sub_zero,Int.ediv_eq_zero_of_lt v0 v1]
      rfl
    | succ k ih =>
      intro hk
      have e:=ih (by omega)
      have g:=h.get (j:=k) (by rw [bigL_len];omega)
      rw [bigL_get v t k (by omega)] at g
      show beN xs i k*256+xs.getD (i+k) 0=_
      rw [e,g,show t - k=(t - 1 - k)+1 by omega,show t - (k+1)=t - 1 - k by omega,Int.pow_succ,← Int.ediv_ediv_of_nonneg (Int.le_of_lt (Int.pow_pos (by omega)))]
      generalize v / 256 ^ (t - 1 - k)=q
      omega
  have:=key t (Nat.le_refl _)
  simpa using this
theorem txB_txL (l:List UInt8):txB (txL l)=l:=by
 unfold txB txL
 rw [List.map_map]
 conv=>rhs;rw [← List.map_id l]
 apply List.map_congr_left
 intro b _
 simp
theorem txL_len' (l:List UInt8):(txL l).length=l.length:=by simp [txL]
theorem ppT_shift (xs:List Int) (i:Nat):∀ k,ppT xs i (k+1)=ppT xs (i+1+(beN xs i 1).toNat) k
  | 0=>rfl
  | k + 1 => by
    show ppT xs i (k+1)+1+_=_
    rw [ppT_shift xs i k]
    rfl
theorem txT_cons (xs:List Int) (i k:Nat):txT xs i (k+1)=txB (tkB xs (i+1) (beN xs i 1).toNat) :: txT xs (i+1+(beN xs i 1).toNat) k:=by
 unfold txT
 rw [List.range_succ_eq_map,List.map_cons,List.map_map]
 congr 1
 apply List.map_congr_left
 intro j _
 show txB (tkB xs (ppT xs i (j+1)+1) (beN xs (ppT xs i (j+1)) 1).toNat)=_
 rw [ppT_shift]
theorem at_texts {xs:List Int}:∀ (ls:List (List UInt8)) (i:Nat),At xs i (ls.map shL).flatten→(∀ l ∈ ls,l.length≤255)→txT xs i ls.length=ls∧ppT xs i ls.length=i+(ls.map shL).flatten.length
  | [],i,_,_=>⟨rfl,by simp [ppT]⟩
  | l :: ls, i, h, hl => by
    rw [List.map_cons,List.flatten_cons] at h
    have h1:=h.fst
    have h2:=h.snd
    have l0:=hl l (by simp)
    have b:beN xs i 1=(l.length:Int):=(At.fst (Y:=bigL (l.length:Int) 1) h1).be (by omega) (by simp;omega)
    have bn:(beN xs i 1).toNat=l.length:=by rw [b];simp
    have t:tkB xs (i+1) l.length=txL l:=by
      have:=At.snd (Y:=bigL (l.length:Int) 1) h1
      rw [bigL_len] at this
      exact this.tk (txL_len' l)
    have sl:(shL l).length=1+l.length:=by simp [shL,bigL_len,txL]
    rw [sl] at h2
    obtain ⟨r1,r2⟩:=at_texts ls (i+(1+l.length)) h2 (fun x hx=>hl x (by simp [hx]))
    rw [List.length_cons,txT_cons,ppT_shift,bn,t,txB_txL,show i+1+l.length=i+(1+l.length) by omega,r1,r2]
    refine ⟨rfl,?_⟩
    rw [List.map_cons,List.flatten_cons,List.length_append,sl]
    omega
theorem ppL_shift (xs:List Int) (i:Nat):∀ k,ppL xs i (k+1)=ppL xs (i+2+(beN xs i 2).toNat) k
  | 0=>rfl
  | k + 1 => by
    show ppL xs i (k+1)+2+_=_
    rw [ppL_shift xs i k]
    rfl
theorem clT_cons (xs:List Int) (i k:Nat):clT xs i (k+1)=tkB xs (i+2) (beN xs i 2).toNat :: clT xs (i+2+(beN xs i 2).toNat) k:=by
 unfold clT
 rw [List.range_succ_eq_map,List.map_cons,List.map_map]
 congr 1
 apply List.map_congr_left
 intro j _
 show tkB xs (ppL xs i (j+1)+2) (beN xs (ppL xs i (j+1)) 2).toNat=_
 rw [ppL_shift]
theorem at_lists {xs:List Int}:∀ (ls:List (List Int)) (i:Nat),At xs i (ls.map loL).flatten→(∀ l ∈ ls,l.length≤65535)→clT xs i ls.length=ls∧ppL xs i ls.length=i+(ls.map loL).flatten.length
  | [],i,_,_=>⟨rfl,by simp [ppL]⟩
  | l :: ls, i, h, hl => by
    rw [List.map_cons,List.flatten_cons] at h
    have h1:=h.fst
    have h2:=h.snd
    have l0:=hl l (by simp)
    have b:beN xs i 2=(l.length:Int):=(At.fst (Y:=bigL (l.length:Int) 2) h1).be (by omega) (by simp;omega)
    have bn:(beN xs i 2).toNat=l.length:=by rw [b];simp
    have t:tkB xs (i+2) l.length=l:=by
      have:=At.snd (Y:=bigL (l.length:Int) 2) h1
      rw [bigL_len] at this
      exact this.tk rfl
    have sl:(loL l).length=2+l.length:=by rw [loL_len];omega
    rw [sl] at h2
    obtain ⟨r1,r2⟩:=at_lists ls (i+(2+l.length)) h2 (fun x hx=>hl x (by simp [hx]))
    rw [List.length_cons,clT_cons,ppL_shift,bn,t,show i+2+l.length=i+(2+l.length) by omega,r1,r2]
    refine ⟨rfl,?_⟩
    rw [List.map_cons,List.flatten_cons,List.length_append,sl]
    omega
end Go.Proofs.YtmmbkkfjiaoeiaaGreat
