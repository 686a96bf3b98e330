import Derived.Test.YtnpolopcgmjmnaaGreatDoorVF48
namespace Go.Proofs.YtnpolopcgmjmnaaGreatDoor
set_option maxRecDepth 100000
open Go.RowKit
abbrev z5 (W:World):World:=W.alloc (.cells #[.int .u64 0,.int .u64 0,.int .u64 0,.int .u64 0,.int .u64 0] 83)
theorem bl1 (W:World):Below W.heap.size W (z5 W):=(Below.refl _ _).alloc (Nat.le_refl _) _
theorem bl2 (W:World):Below W.heap.size W (z5 (z5 W)):=nxt (bl1 W) (bl1 _)
abbrev c5 (u:Nat→Int):Obj := .cells #[.int .u64 (u 0),.int .u64 (u 1),.int .u64 (u 2),.int .u64 (u 3),.int .u64 (u 4)] 83
abbrev l5 (u:Nat→Int):List Int:=[u 0,u 1,u 2,u 3,u 4]
end Go.Proofs.YtnpolopcgmjmnaaGreatDoor
namespace Go.Proofs.YtnpolopcgmjmnaaGreatDoor
set_option maxRecDepth 100000
open Go.RowKit
end Go.Proofs.YtnpolopcgmjmnaaGreatDoor
namespace Go.Proofs.YtnpolopcgmjmnaaGreatDoor
set_option maxRecDepth 100000
open Go.RowKit
end Go.Proofs.YtnpolopcgmjmnaaGreatDoor
namespace Go.Proofs.YtnpolopcgmjmnaaGreatDoor
set_option maxRecDepth 100000
open Go.RowKit
end Go.Proofs.YtnpolopcgmjmnaaGreatDoor
namespace Go.Proofs.YtnpolopcgmjmnaaGreatDoor
set_option maxRecDepth 100000
open Go Go.RowKit
def kA64:List Int:=[4794697086780616226,8158064640168781261,13096744586834688815,16840607885511220156,4131703408338449720,6480981068601479193,10538285296894168987,12329834152419229976,15566598209576043074,1334009975649890238,2608012711638119052,6128411473006802146,8268148722764581231,9286055187155687089,11230858885718282805,13951009754708518548,16472876342353939154,17275323862435702243,1135362057144423861,2597628984639134821,3308224258029322869,5365058923640841347,6679025012923562964,8573033837759648693,10970295158949994411,12119686244451234320,12683024718118986047,13788192230050041572,14330467153632333762,15395433587784984357,489312712824947311,1452737877330783856,2861767655752347644,3322285676063803686,5560940570517711597,5996557281743188959,7280758554555802590,8532644243296465576,9350256976987008742,10552545826968843579,11727347734174303076,12113106623233404929,14000437183269869457,14369950271660146224,15101387698204529176,15463397548674623760,17586052441742319658,1182934255886127544,1847814050463011016,2177327727835720531,2830643537854262169,3796741975233480872,4115178125766777443,5681478168544905931,6601373596472566643,7507060721942968483,8399075790359081724,8693463985226723168,9568029438360202098,10144078919501101548,10430055236837252648,11840083180663258601,13761210420658862357,14299343276471374635,14566680578165727644,15097957966210449927,16922976911328602910,17689382322260857208,500013540394364858,748580250866718886,1242879168328830382,1977374033974150939,2944078676154940804,3659926193048069267,4368137639120453308,4836135668995329356,5532061633213252278,6448918945643986474,6902733635092675308,7801388544844847127]
set_option maxRecDepth 4000 in
theorem kA_is64:∀ i:Fin 80,kA64.getD i.val 0=K64 i.val:=by decide +kernel
theorem kA_len64:kA64.length=80:=rfl
theorem infoN_64:(Tryz.prog.info? 106).map (·.size)=some 80:=by kernel_rfl
theorem undN_64:Tryz.prog.underlying 106=some (.array 80 65):=by kernel_rfl
abbrev zN64:Obj := .cells (List.toArray (.int .u64 0 :: .int .u64 0 :: .int .u64 0 :: .int .u64 0 :: .int .u64 0 :: .int .u64 0 :: .int .u64 0 :: .int .u64 0 :: .int .u64 0 :: .int .u64 0 :: .int .u64 0 :: .int .u64 0 :: .int .u64 0 :: .int .u64 0 :: .int .u64 0 :: .int .u64 0 :: .int .u64 0 :: .int .u64 0 :: .int .u64 0 :: .int .u64 0 :: .int .u64 0 :: .int .u64 0 :: .int .u64 0 :: .int .u64 0 :: .int .u64 0 :: .int .u64 0 :: .int .u64 0 :: .int .u64 0 :: .int .u64 0 :: .int .u64 0 :: .int .u64 0 :: .int .u64 0 :: .int .u64 0 :: .int .u64 0 :: .int .u64 0 :: .int .u64 0 :: .int .u64 0 :: .int .u64 0 :: .int .u64 0 :: .int .u64 0 :: .int .u64 0 :: .int .u64 0 :: .int .u64 0 :: .int .u64 0 :: .int .u64 0 :: .int .u64 0 :: .int .u64 0 :: .int .u64 0 :: .int .u64 0 :: .int .u64 0 :: .int .u64 0 :: .int .u64 0 :: .int .u64 0 :: .int .u64 0 :: .int .u64 0 :: .int .u64 0 :: .int .u64 0 :: .int .u64 0 :: .int .u64 0 :: .int .u64 0 :: .int .u64 0 :: .int .u64 0 :: .int .u64 0 :: .int .u64 0 :: .int .u64 0 :: .int .u64 0 :: .int .u64 0 :: .int .u64 0 :: .int .u64 0 :: .int .u64 0 :: .int .u64 0 :: .int .u64 0 :: .int .u64 0 :: .int .u64 0 :: .int .u64 0 :: .int .u64 0 :: .int .u64 0 :: .int .u64 0 :: .int .u64 0 :: .int .u64 0 :: [])) 106
set_option maxRecDepth 4000 in
theorem zeroN_64:(.int .u64 0 :: .int .u64 0 :: .int .u64 0 :: .int .u64 0 :: .int .u64 0 :: .int .u64 0 :: .int .u64 0 :: .int .u64 0 :: .int .u64 0 :: .int .u64 0 :: .int .u64 0 :: .int .u64 0 :: .int .u64 0 :: .int .u64 0 :: .int .u64 0 :: .int .u64 0 :: .int .u64 0 :: .int .u64 0 :: .int .u64 0 :: .int .u64 0 :: .int .u64 0 :: .int .u64 0 :: .int .u64 0 :: .int .u64 0 :: .int .u64 0 :: .int .u64 0 :: .int .u64 0 :: .int .u64 0 :: .int .u64 0 :: .int .u64 0 :: .int .u64 0 :: .int .u64 0 :: .int .u64 0 :: .int .u64 0 :: .int .u64 0 :: .int .u64 0 :: .int .u64 0 :: .int .u64 0 :: .int .u64 0 :: .int .u64 0 :: .int .u64 0 :: .int .u64 0 :: .int .u64 0 :: .int .u64 0 :: .int .u64 0 :: .int .u64 0 :: .int .u64 0 :: .int .u64 0 :: .int .u64 0 :: .int .u64 0 :: .int .u64 0 :: .int .u64 0 :: .int .u64 0 :: .int .u64 0 :: .int .u64 0 :: .int .u64 0 :: .int .u64 0 :: .int .u64 0 :: .int .u64 0 :: .int .u64 0 :: .int .u64 0 :: .int .u64 0 :: .int .u64 0 :: .int .u64 0 :: .int .u64 0 :: .int .u64 0 :: .int .u64 0 :: .int .u64 0 :: .int .u64 0 :: .int .u64 0 :: .int .u64 0 :: .int .u64 0 :: .int .u64 0 :: .int .u64 0 :: .int .u64 0 :: .int .u64 0 :: .int .u64 0 :: .int .u64 0 :: .int .u64 0 :: .int .u64 0 :: [])=(List.replicate 80 0).map (Value.int .u64):=by kernel_rfl
theorem blk_zN64 (w:World):Blk (w.alloc zN64) w.heap.size .u64 (List.replicate 80 0):=by
 refine ⟨106,?_⟩
 show (w.heap.push _)[w.heap.size]?=_
 unfold zN64
 rw [zeroN_64]
 simp
theorem Blk.setRow64 {w:World} {q:Nat} {k:IntKind} {ys zs:List Int} (h:Blk w q k ys):Blk (w.setRow q (zs.map (Value.int k)).toArray) q k zs:=by
 obtain ⟨t,h⟩:=h
 exact ⟨t,setRow_heap _ _ _ _ _ _ h⟩
theorem only_setRow64 (w:World) (q:Nat) (cs:Array Value):Only q w (w.setRow q cs):=⟨rfl,rfl,rfl,by simp,fun k hk=>setRow_other w _ k _ hk⟩
theorem region_putBk {P:Program} {ops:Array Oper} {Q:Exit→Act→World→Prop} {a0:Act} {id:Nat} {draw:Bool} {w:World} (k jV pD pV:Nat) (o:Oper) (F:Nat→Fact) (q off:Nat) (ty:TypeId) (cells:List Value) (hm:P.follows .mixedOrders=true) (hT:textOk .any ops a0.tmps.size k=true) (hk:ops[k]?=some o) (hd:o.dst=none)
  (hop:o.op = .store ty (.tmp pD) (.tmp pV)) (hp:apart ops pD=true) (h0:a0.tmps.getD pD undef = .pointer (some ⟨q,off,none⟩)) (wV:writes ops jV pV=true) (FV:F jV=Fact.eq (.agg cells.toArray))
  (hth:∀ W,Below w.heap.size w W→W.there q off cells.length) (hi:(P.info? ty).map (·.size)=some cells.length) (h1:cells.toArray.all (·.oneCell')=true) (steps:∀ i,i < k→StepOk P .any ops Q F a0 w i)
  (fin:∀ (vs:Nat→Value) (W:World),Below w.heap.size w W→Q .normal (puts vs a0 ops.toList) (W.setCells q off cells)):(Code.region id ops draw).wp P Q a0 w:=by
 refine region_store k o F hm hT hk hd steps fun a W hb hw hF=>?_
 have e2:=hF jV pV wV
 rw [FV] at e2
 refine wp_store_mid ty (.tmp pD) (.tmp pV) hop q off cells.toArray ((based_at hb pD hp).trans h0) e2 (by rw [List.size_toArray];exact hth W hw) (by rw [List.size_toArray];exact hi) h1 ?_
 obtain ⟨vs,hvs⟩:∃ vs:Nat→Value,∀ d,a.tmps.getD d undef=vs d:=⟨_,fun _=>rfl⟩
 rw [hd]
 show Q .normal a _
 rw [puts_of hT rfl hb vs hvs]
 exact fin vs W hw
theorem results_cell_mB {P:Program} {fn:Func} {p:Tmp} {ty:TypeId} (h:fn.results = #[.cell p ty]) (tmps:Array Value) (w:World) (g:Nat) (cs:List Value) (d:TypeDesc)
  (hp:tmps.getD p undef = .pointer (some ⟨g,0,none⟩)) (hc:w.rangeAt g 0 cs) (hu:P.underlying ty=some d) (hd:d.isRow=true) (hi:(P.info? ty).map (·.size)=some cs.length) :
  (results fn tmps).run P w = .ok (.agg cs.toArray) w:=by
 have hp':tmps[p]?.getD undef = .pointer (some ⟨g,0,none⟩):=by simpa using hp
 simp [results,h,hp',asAddr,run_loadVar_mid w g 0 ty cs d hc hu hd hi]
theorem only_setCellsB (w:World) (q:Nat):∀ (vs:List Value) (o:Nat),Only q w (w.setCells q o vs)
 | [],_=>Only.refl _ _
 | v :: vs,o=>(Only.setCell w q o v).trans (only_setCellsB (w.setCell ⟨q,o,none⟩ v) q vs (o+1))
set_option maxRecDepth 20000 in
set_option maxHeartbeats 4000000 in
theorem l6Steps_64 (w:World):Calls Tryz.prog 64 #[] w fun e w'=>e = .returned (.agg (kA64.map (Value.int .u64)).toArray)∧Below w.heap.size w w':=by
 have B0:=blk_zN64 w
 have n0:Below w.heap.size w (w.alloc zN64):=(Below.refl _ _).alloc (Nat.le_refl _) _
 go_enter Tryz.func64,Tryz.ntmps64
 go_upto_region 1 with fail
 change Code.wp _ _ _ _ (w.alloc zN64)
 generalize w.alloc zN64=wa at *
 have th:∀ W,Below wa.heap.size wa W→W.there w.heap.size 0 (kA64.map (Value.int .u64)).length:=fun W n j hj=>by
  rw [List.length_map,kA_len64] at hj
  have h:=(B0.up n).cell (i:=j) (by rw [List.length_replicate];exact hj)
  rw [Nat.zero_add]
  exact ⟨by rw [h];rfl,(B0.up n).free j⟩
 refine region_putBk 1 0 0 1 _ (fun i=>[Fact.eq (.agg (kA64.map (Value.int .u64)).toArray)].getD i Fact.no) w.heap.size 0 106 (kA64.map (Value.int .u64)) (by kernel_rfl) (by kernel_rfl) rfl rfl rfl (by kernel_rfl) rfl (by kernel_rfl) rfl th infoN_64 (one_ints _ _) ?_ ?_
 ·intro i hi
  obtain rfl:i=0:=by omega
  exact step_pure rfl fun a ww hb hw hf=>⟨.agg (kA64.map (Value.int .u64)).toArray,by kernel_rfl,rfl⟩
 intro vs W n6
 have RR:=World.rangeAt_setCells_same W w.heap.size 0 (kA64.map (Value.int .u64)) (th W n6)
 have OQ:=only_setCellsB W w.heap.size (kA64.map (Value.int .u64)) 0
 have N2:Below w.heap.size w (W.setCells w.heap.size 0 (kA64.map (Value.int .u64))):=(nxt n0 n6).trans (OQ.below (Nat.le_refl _))
 generalize W.setCells w.heap.size 0 (kA64.map (Value.int .u64))=W2 at *
 simp only [puts,Act.put,List.setIfInBounds_toArray,List.set_cons_succ,List.set_cons_zero]
 clear th B0 OQ n6
 go_wp2
 exact bodyPost_ret (v := .agg (kA64.map (Value.int .u64)).toArray) (results_cell_mB Tryz.results64 _ _ w.heap.size _ (.array 80 65) rfl RR undN_64 rfl infoN_64) rfl ⟨rfl,N2⟩
end Go.Proofs.YtnpolopcgmjmnaaGreatDoor
namespace Go.Proofs.YtnpolopcgmjmnaaGreatDoor
set_option maxRecDepth 100000
open Go Go.RowKit
def WTo64 (b:Nat→Int) (ys:List Int) (i:Nat):Prop:=ys.length=80∧(∀ j,j < i→ys.getD j 0=wS64 b j)∧∀ j,i≤j→ys.getD j 0=0
theorem WTo64.step {b:Nat→Int} {ys:List Int} {i:Nat} (h:WTo64 b ys i) (hi:i < 80):WTo64 b (ys.set i (wS64 b i)) (i+1):=by
 refine ⟨by rw [List.length_set];exact h.1,fun j hj=>?_,fun j hj=>?_⟩
 ·by_cases e : i = j
  ·subst e
   rw [getD_set_self _ _ _ (by rw [h.1];exact hi)]
  ·rw [getD_set_ne _ _ _ _ e]
   exact h.2.1 j (by omega)
 ·rw [getD_set_ne _ _ _ _ (by omega)]
  exact h.2.2 j (by omega)
theorem set_self {ys:List Int} {n:Nat} (h:ys.getD n 0=0) (hn:n < ys.length):ys.set n 0=ys:=eq_of_getD (by rw [List.length_set]) (fun i hi=>by
 by_cases e:n=i
 ·subst e
  rw [getD_set_self _ _ _ hn,h]
 ·rw [getD_set_ne _ _ _ _ e])
theorem u8_64:Tryz.prog.underlying 66=some (.array 8 65):=by kernel_rfl
theorem i8_64:(Tryz.prog.info? 66).map (·.size)=some 8:=by kernel_rfl
theorem blk_set8 {w:World} {q:Nat} {k:IntKind} {r:S8} (h:Blk w q k r.l) (t:S8) :
  Blk ((((((((w.setCell ⟨q,0,none⟩ (.int k t.a)).setCell ⟨q,1,none⟩ (.int k t.b)).setCell ⟨q,2,none⟩ (.int k t.c)).setCell ⟨q,3,none⟩ (.int k t.d)).setCell ⟨q,4,none⟩ (.int k t.e)).setCell ⟨q,5,none⟩ (.int k t.f)).setCell ⟨q,6,none⟩ (.int k t.g)).setCell ⟨q,7,none⟩ (.int k t.h)) q k t.l :=
 (((((((h.store 0 t.a).store 1 t.b).store 2 t.c).store 3 t.d).store 4 t.e).store 5 t.f).store 6 t.g).store 7 t.h
theorem only_set8 (w:World) (q:Nat) (k:IntKind) (t:S8) :
  Only q w ((((((((w.setCell ⟨q,0,none⟩ (.int k t.a)).setCell ⟨q,1,none⟩ (.int k t.b)).setCell ⟨q,2,none⟩ (.int k t.c)).setCell ⟨q,3,none⟩ (.int k t.d)).setCell ⟨q,4,none⟩ (.int k t.e)).setCell ⟨q,5,none⟩ (.int k t.f)).setCell ⟨q,6,none⟩ (.int k t.g)).setCell ⟨q,7,none⟩ (.int k t.h)) :=
 (((((((Only.setCell _ q 0 _).trans (Only.setCell _ q 1 _)).trans (Only.setCell _ q 2 _)).trans (Only.setCell _ q 3 _)).trans (Only.setCell _ q 4 _)).trans (Only.setCell _ q 5 _)).trans (Only.setCell _ q 6 _)).trans (Only.setCell _ q 7 _)
theorem region_putA {P:Program} {ops:Array Oper} {Q:Exit→Act→World→Prop} {a0:Act} {id:Nat} {draw:Bool} {w:World} (k jV pD pV:Nat) (o:Oper) (F:Nat→Fact) (q off:Nat) (ty:TypeId) (cells:List Value) (hm:P.follows .mixedOrders=true) (hT:textOk .any ops a0.tmps.size k=true) (hk:ops[k]?=some o) (hd:o.dst=none)
  (hop:o.op = .store ty (.tmp pD) (.tmp pV)) (hp:apart ops pD=true) (h0:a0.tmps.getD pD undef = .pointer (some ⟨q,off,none⟩)) (wV:writes ops jV pV=true) (FV:F jV=Fact.eq (.agg cells.toArray))
  (hth:∀ W,Below w.heap.size w W→W.there q off cells.length) (hi:(P.info? ty).map (·.size)=some cells.length) (h1:cells.toArray.all (·.oneCell')=true) (steps:∀ i,i < k→StepOk P .any ops Q F a0 w i)
  (fin:∀ (vs:Nat→Value) (W:World),Below w.heap.size w W→Q .normal (puts vs a0 ops.toList) (W.setCells q off cells)):(Code.region id ops draw).wp P Q a0 w:=by
 refine region_store k o F hm hT hk hd steps fun a W hb hw hF=>?_
 have e2:=hF jV pV wV
 rw [FV] at e2
 refine wp_store_mid ty (.tmp pD) (.tmp pV) hop q off cells.toArray ((based_at hb pD hp).trans h0) e2 (by rw [List.size_toArray];exact hth W hw) (by rw [List.size_toArray];exact hi) h1 ?_
 obtain ⟨vs,hvs⟩:∃ vs:Nat→Value,∀ d,a.tmps.getD d undef=vs d:=⟨_,fun _=>rfl⟩
 rw [hd]
 show Q .normal a _
 rw [puts_of hT rfl hb vs hvs]
 exact fin vs W hw
set_option maxRecDepth 20000 in
set_option maxHeartbeats 16000000 in
theorem l6Block_64 (w : World) (s : S8) (hs : Ok64 s) (g : Nat) (a : Option Addr) (c : Nat) (xs : List Int) (hr : Rd w g a .u8 xs) (hb : Byt xs) (hl : xs.length = 128) :
  Calls Tryz.prog 40 #[ag8 .u64 s,.slice a 128 c] w fun e w'=>e = .returned (ag8 .u64 (blk64 s (wd 8 xs)))∧Below w.heap.size w w':=by
 have n0:Below w.heap.size w (w.alloc (.cells #[.int .u64 s.a,.int .u64 s.b,.int .u64 s.c,.int .u64 s.d,.int .u64 s.e,.int .u64 s.f,.int .u64 s.g,.int .u64 s.h] 66)):=(Below.refl _ _).alloc (Nat.le_refl _) _
 have B0:=blk_ag8 w .u64 66 s
 have z0:(w.alloc (.cells #[.int .u64 s.a,.int .u64 s.b,.int .u64 s.c,.int .u64 s.d,.int .u64 s.e,.int .u64 s.f,.int .u64 s.g,.int .u64 s.h] 66)).heap.size=w.heap.size+1:=by simp
 have HL:=hide hl
 obtain ⟨o2,rfl,hc⟩:=id hr (by omega)
 have gl:=hr.lt (by omega)
 clear hl
 simp only [ag8]
 go_enter Tryz.func40,Tryz.ntmps40
 go_upto_region 1 with fail
 generalize w.alloc (.cells #[.int .u64 s.a,.int .u64 s.b,.int .u64 s.c,.int .u64 s.d,.int .u64 s.e,.int .u64 s.f,.int .u64 s.g,.int .u64 s.h] 66)=wa at *
 have n1:Below wa.heap.size wa (wa.alloc (.cells #[.int .u64 0,.int .u64 0,.int .u64 0,.int .u64 0,.int .u64 0,.int .u64 0,.int .u64 0,.int .u64 0] 66)):=(Below.refl _ _).alloc (Nat.le_refl _) _
 have B1:=blk_ag8 wa .u64 66 ⟨0,0,0,0,0,0,0,0⟩
 have z1:(wa.alloc (.cells #[.int .u64 0,.int .u64 0,.int .u64 0,.int .u64 0,.int .u64 0,.int .u64 0,.int .u64 0,.int .u64 0] 66)).heap.size=wa.heap.size+1:=by simp
 simp only [] at B1
 generalize wa.alloc (.cells #[.int .u64 0,.int .u64 0,.int .u64 0,.int .u64 0,.int .u64 0,.int .u64 0,.int .u64 0,.int .u64 0] 66)=wb at *
 have B0:=B0.up n1
 have N1:=nxt n0 n1
 rw [z0] at B1 z1
 clear n0 n1 z0
 go_wp2_with fail
 refine (l6Steps_64 wb).mono ?_
 rintro r w2 ⟨rfl,n2⟩
 have B0:=B0.up n2
 have B1:=B1.up n2
 have N2:=nxt N1 n2
 have z2:=n2.size
 have B2:=blk_zN64 w2
 have na:Below w2.heap.size w2 (w2.alloc zN64):=(Below.refl _ _).alloc (Nat.le_refl _) _
 have z3:(w2.alloc zN64).heap.size=w2.heap.size+1:=by simp
 have B0:=B0.up na
 have B1:=B1.up na
 have N3:=nxt N2 na
 have S2:=B2.setRow64 (zs:=kA64)
 have O2:=only_setRow64 (w2.alloc zN64) w2.heap.size (kA64.map (Value.int .u64)).toArray
 have L0:Hid ((kA64.map (Value.int .u64)).length=80):=by show _=_;rw [List.length_map];rfl
 have P0:=one_ints .u64 kA64
 obtain ⟨t0,H0⟩:=B2
 clear n2 na N1 N2
 go_wp2_with (refine wpList_store_row rfl 106 (.tmp 5) (.tmp 20) rfl w2.heap.size (kA64.map (Value.int .u64)).toArray rfl rfl t0 ((List.replicate 80 (0:Int)).map (Value.int .u64)).toArray ?hh ?hi ?hs ?ho ?_)
 case hh=>exact H0
 case hi=>show _=some (kA64.map (Value.int .u64)).length;rw [L0.out];exact infoN_64
 case hs=>show ((List.replicate 80 (0:Int)).map (Value.int .u64)).length=(kA64.map (Value.int .u64)).length;rw [L0.out];rfl
 case ho=>exact P0
 change Code.wp _ _ _ _ (((w2.alloc zN64).setRow w2.heap.size (kA64.map (Value.int .u64)).toArray).alloc zN64)
 have B0:=B0.of_block (O2.block w.heap.size (by omega))
 have B1:=B1.of_block (O2.block (w.heap.size+1) (by omega))
 have N4:Below w.heap.size w ((w2.alloc zN64).setRow w2.heap.size (kA64.map (Value.int .u64)).toArray):=N3.trans (O2.below (by omega))
 have zs:((w2.alloc zN64).setRow w2.heap.size (kA64.map (Value.int .u64)).toArray).heap.size=w2.heap.size+1:=by rw [O2.size,z3]
 generalize (w2.alloc zN64).setRow w2.heap.size (kA64.map (Value.int .u64)).toArray=w4 at *
 have B3:=blk_zN64 w4
 have n5:Below w4.heap.size w4 (w4.alloc zN64):=(Below.refl _ _).alloc (Nat.le_refl _) _
 have z5:(w4.alloc zN64).heap.size=w4.heap.size+1:=by simp
 generalize w4.alloc zN64=w5 at *
 have B0:=B0.up n5
 have B1:=B1.up n5
 have S2:=S2.up n5
 have N5:=nxt N4 n5
 obtain ⟨q2,hq2⟩:∃ q,q=w2.heap.size:=⟨_,rfl⟩
 rw [zs] at B3 z5
 rw [← hq2] at S2 B3 z5 ⊢
 have hq:w.heap.size+2≤q2:=by omega
 have gq:g≠q2+1∧g≠q2:=by omega
 have r5:=hr.up N5
 clear n5 N3 N4 z2 z3 zs O2 H0 P0 L0 hq2 hc hr
 go_loopw [7] (fun i wr=>∃ (n:Nat) (ys:List Int),n≤80∧i = .int .i64 n∧WTo64 (wd 8 xs) ys n∧Blk wr (q2+1) .u64 ys∧Blk wr q2 .u64 kA64∧Blk wr w.heap.size .u64 s.l∧Blk wr (w.heap.size+1) .u64 (S8.l ⟨0,0,0,0,0,0,0,0⟩)∧Rd wr g (some ⟨g,o2,none⟩) .u8 xs∧Below w.heap.size w wr) (fun i _=>80 - (intOf i).toNat)
 case atStart=>exact ⟨0,_,Nat.zero_le _,rfl,⟨by simp,fun j h=>absurd h (by omega),fun j _=>(by rw [List.getD_eq_getElem?_getD,List.getElem?_replicate];split <;> rfl)⟩,B3,S2,B0,B1,r5,N5⟩
 case round =>
  obtain ⟨n,ys,hn,rfl,hW,hY,hK,hB0,hB1,hX,hN⟩:=hrel
  clear B0 B1 S2 B3 r5 N5 z5
  by_cases hlt:n < 80
  ·have R := hW.step hlt
   have cy:=hY.cell (i:=n) (by rw [hW.1];exact hlt)
   have fy:=hY.free n
   have Y':=hY.store n (wS64 (wd 8 xs) n)
   have K':=hK.of_block (w':=wr.setCell ⟨q2+1,n,none⟩ (.int .u64 (wS64 (wd 8 xs) n))) (heap_setCell_other _ ⟨q2+1,n,none⟩ _ _ (by show q2≠q2+1;omega))
   have B0':=hB0.of_block (w':=wr.setCell ⟨q2+1,n,none⟩ (.int .u64 (wS64 (wd 8 xs) n))) (heap_setCell_other _ ⟨q2+1,n,none⟩ _ _ (by show w.heap.size≠q2+1;omega))
   have B1':=hB1.of_block (w':=wr.setCell ⟨q2+1,n,none⟩ (.int .u64 (wS64 (wd 8 xs) n))) (heap_setCell_other _ ⟨q2+1,n,none⟩ _ _ (by show w.heap.size+1≠q2+1;omega))
   have X':=hX.of_block (w':=wr.setCell ⟨q2+1,n,none⟩ (.int .u64 (wS64 (wd 8 xs) n))) (heap_setCell_other _ ⟨q2+1,n,none⟩ _ _ (by show g≠q2+1;exact gq.1))
   have N':Below w.heap.size w (wr.setCell ⟨q2+1,n,none⟩ (.int .u64 (wS64 (wd 8 xs) n))):=hN.setCell (by show w.heap.size≤q2+1;omega) _
   have n80:(n:Int) < 80:=by omega
   generalize ys.getD n 0=y0 at cy
   by_cases h16:n < 16
   ·have z0 := hW.2.2 n (Nat.le_refl _)
    have yl:=hW.1
    have hv:wS64 (wd 8 xs) n=bw 8 xs n 8:=wS_low64 (wd 8 xs) h16
    have E0:=set_self z0 (by omega)
    rw [hv] at R
    have n16:(n:Int) < 16:=by omega
    have YL:=hide yl
    clear Y' K' B0' B1' X' N' cy fy hv
    go_wp2_with fail
    go_loopw [8] (fun i wr2=>∃ (m:Nat),m≤8∧i = .int .i64 m∧Blk wr2 (q2+1) .u64 (ys.set n (bw 8 xs n m))∧Blk wr2 q2 .u64 kA64∧Blk wr2 w.heap.size .u64 s.l∧Blk wr2 (w.heap.size+1) .u64 (S8.l ⟨0,0,0,0,0,0,0,0⟩)∧Rd wr2 g (some ⟨g,o2,none⟩) .u8 xs∧Below w.heap.size w wr2) (fun i _=>8 - (intOf i).toNat)
    case atStart=>exact ⟨0,Nat.zero_le _,rfl,by show Blk _ _ _ (ys.set n 0);rw [E0];exact hY,hK,hB0,hB1,hX,hN⟩
    case round =>
     obtain ⟨m,hm,rfl,hY2,hK2,hB02,hB12,hX2,hN2⟩:=hrel
     clear hY hK hB0 hB1 hX hN
     by_cases hl8:m < 8
     ·obtain ⟨o3, e3, hcx⟩ := hX2 (by rw [HL.out]; decide)
      simp only [Option.some.injEq,Addr.mk.injEq,true_and,and_true] at e3
      subst e3
      have cx:=hcx (8*n+m) (by rw [HL.out];omega)
      have cy:=hY2.cell (i:=n) (by rw [List.length_set,YL.out];omega)
      rw [getD_set_self _ _ _ (by rw [YL.out];omega)] at cy
      have fy:=hY2.free n
      have b0:=hb (8*n+m)
      have bl:=bw_lt (z:=8) hb n m
      have bl2:bw 8 xs n m < 72057594037927936:=by
       have:(256:Int) ^ m≤256 ^ 7:=p256_leh (by omega)
       have e:(256:Int) ^ 7=72057594037927936:=by decide
       omega
      have st:bw 8 xs n (m+1)=bw 8 xs n m*256+xs.getD (8*n+m) 0:=rfl
      have Y':=hY2.store n (bw 8 xs n (m+1))
      rw [List.set_set] at Y'
      have K':=hK2.of_block (w':=wr.setCell ⟨q2+1,n,none⟩ (.int .u64 (bw 8 xs n (m+1)))) (heap_setCell_other _ ⟨q2+1,n,none⟩ _ _ (by show q2≠q2+1;omega))
      have B0':=hB02.of_block (w':=wr.setCell ⟨q2+1,n,none⟩ (.int .u64 (bw 8 xs n (m+1)))) (heap_setCell_other _ ⟨q2+1,n,none⟩ _ _ (by show w.heap.size≠q2+1;omega))
      have B1':=hB12.of_block (w':=wr.setCell ⟨q2+1,n,none⟩ (.int .u64 (bw 8 xs n (m+1)))) (heap_setCell_other _ ⟨q2+1,n,none⟩ _ _ (by show w.heap.size+1≠q2+1;omega))
      have X':=hX2.of_block (w':=wr.setCell ⟨q2+1,n,none⟩ (.int .u64 (bw 8 xs n (m+1)))) (heap_setCell_other _ ⟨q2+1,n,none⟩ _ _ (by show g≠q2+1;exact gq.1))
      have N':Below w.heap.size w (wr.setCell ⟨q2+1,n,none⟩ (.int .u64 (bw 8 xs n (m+1)))):=hN2.setCell (by show w.heap.size≤q2+1;omega) _
      obtain ⟨bn,hbn⟩:∃ b,b=bw 8 xs n (m+1):=⟨_,rfl⟩
      rw [← hbn] at Y' K' B0' B1' X' N' st
      have HBN:=hide hbn
      clear hbn
      generalize bw 8 xs n m=bv at *
      generalize xs.getD (8*n+m) 0=x at *
      have ov:IntKind.u64.wrap (IntKind.u64.wrap (bv*256)+x)=bn:=by simp only [wrap_u64e];rw [st];omega
      have m8:(m:Int) < 8:=by omega
      obtain ⟨x0,x1⟩:=b0
      have ST:=hide st
      clear hY2 hK2 hB02 hB12 hX2 hN2 hcx bl st R
      go_wp2_with fail
      go_region
      go_wp2
      go_roundw
      case rel=>exact ⟨m+1,by omega,by go_num,by rw [← HBN.out];exact Y'.drew,K'.drew,B0'.drew,B1'.drew,X',N'.drew⟩
      case measure=>simp [intOf];omega
     ·obtain rfl : m = 8 := by omega
      go_wp2
      go_roundw
      case rel=>exact ⟨n+1,_,by omega,by go_num,R,hY2,hK2,hB02,hB12,hX2,hN2⟩
      case measure=>simp [intOf];omega
   ·have h16' : decide ((n : Int) < 16) = false := by simp; omega
    have c15:=hY.cell (i:=n - 15) (by rw [hW.1];omega)
    have c2:=hY.cell (i:=n - 2) (by rw [hW.1];omega)
    have c7:=hY.cell (i:=n - 7) (by rw [hW.1];omega)
    have c16:=hY.cell (i:=n - 16) (by rw [hW.1];omega)
    rw [hW.2.1 (n - 15) (by omega)] at c15
    rw [hW.2.1 (n - 2) (by omega)] at c2
    rw [hW.2.1 (n - 7) (by omega)] at c7
    rw [hW.2.1 (n - 16) (by omega)] at c16
    have hv:=wS_go64 (wd 8 xs) (show 16≤n by omega)
    have w15:=wS_wd64 (b:=wd 8 xs) (fun i _=>wd_64 hb i) (n - 15)
    have w2:=wS_wd64 (b:=wd 8 xs) (fun i _=>wd_64 hb i) (n - 2)
    have p15:(n:Int) - 15=((n - 15:Nat):Int):=by omega
    have p2:(n:Int) - 2=((n - 2:Nat):Int):=by omega
    have p7:(n:Int) - 7=((n - 7:Nat):Int):=by omega
    have p16:(n:Int) - 16=((n - 16:Nat):Int):=by omega
    have l15:((n - 15:Nat):Int) < 80:=by omega
    have l2:((n - 2:Nat):Int) < 80:=by omega
    have l7:((n - 7:Nat):Int) < 80:=by omega
    have l16:((n - 16:Nat):Int) < 80:=by omega
    generalize wS64 (wd 8 xs) n=wn at *
    generalize wS64 (wd 8 xs) (n - 15)=y15 at *
    generalize wS64 (wd 8 xs) (n - 2)=y2 at *
    generalize wS64 (wd 8 xs) (n - 7)=y7 at *
    generalize wS64 (wd 8 xs) (n - 16)=y16 at *
    generalize n - 15=i15 at *
    generalize n - 2=i2 at *
    generalize n - 7=i7 at *
    generalize n - 16=i16 at *
    have A1:=fun w=>hide (right_64 w y15 w15 1 (by decide) (by decide))
    have A2:=fun w=>hide (right_64 w y15 w15 8 (by decide) (by decide))
    have A3:=fun w=>hide (right_64 w y2 w2 19 (by decide) (by decide))
    have A4:=fun w=>hide (right_64 w y2 w2 61 (by decide) (by decide))
    have e0:bits BinOp.xor IntKind.u64 (bits BinOp.xor IntKind.u64 (rr64 y15 1) (rr64 y15 8)) (y15 / 128)=sg064 y15:=rfl
    have e1:bits BinOp.xor IntKind.u64 (bits BinOp.xor IntKind.u64 (rr64 y2 19) (rr64 y2 61)) (y2 / 64)=sg164 y2:=rfl
    generalize sg064 y15=lo at *
    generalize sg164 y2=hi at *
    have HV:=hide hv
    clear hY hK hB0 hB1 hX hN hW hv h16
    obtain ⟨a15,b15⟩:=w15
    obtain ⟨a2,b2⟩:=w2
    go_wp2_with fail
    refine (A1 _).out.mono ?_
    rintro x wx ⟨rfl,rfl⟩
    go_wp2_with fail
    refine (A2 _).out.mono ?_
    rintro x wx ⟨rfl,rfl⟩
    go_wp2_with fail
    refine (A3 _).out.mono ?_
    rintro x wx ⟨rfl,rfl⟩
    go_wp2_with fail
    refine (A4 _).out.mono ?_
    rintro x wx ⟨rfl,rfl⟩
    have hv:IntKind.u64.wrap (IntKind.u64.wrap (IntKind.u64.wrap (hi+y7)+lo)+y16)=wn:=by simp only [wrap_u64e];rw [HV.out];omega
    go_wp2_with fail
    go_region
    go_wp2
    go_roundw
    case rel=>exact ⟨n+1,_,by omega,by go_num,R,Y'.drew,K'.drew,B0'.drew,B1'.drew,X',N'.drew⟩
    case measure=>simp [intOf];omega
  ·obtain rfl : n = 80 := by omega
   clear hX gq
   obtain ⟨q4,hq4⟩:∃ q,q=wr.heap.size:=⟨_,rfl⟩
   have na:Below wr.heap.size wr (wr.alloc (.cells #[.int .u64 0,.int .u64 0,.int .u64 0,.int .u64 0,.int .u64 0,.int .u64 0,.int .u64 0,.int .u64 0] 66)):=(Below.refl _ _).alloc (Nat.le_refl _) _
   have BZ:=blk_ag8 wr .u64 66 ⟨0,0,0,0,0,0,0,0⟩
   simp only [] at BZ
   have lY:=hY.lt
   have lK:=hK.lt
   have l0:=hB0.lt
   have l1:=hB1.lt
   have OS:=only_setRow64 (wr.alloc (.cells #[.int .u64 0,.int .u64 0,.int .u64 0,.int .u64 0,.int .u64 0,.int .u64 0,.int .u64 0,.int .u64 0] 66)) wr.heap.size (s.l.map (Value.int .u64)).toArray
   have SB:=BZ.setRow64 (zs:=s.l)
   have Y2:=(hY.up na).of_block (OS.block _ (by omega))
   have K2:=(hK.up na).of_block (OS.block _ (by omega))
   have B02:=(hB0.up na).of_block (OS.block _ (by omega))
   have B12:=(hB1.up na).of_block (OS.block _ (by omega))
   have N2:Below w.heap.size w ((wr.alloc (.cells #[.int .u64 0,.int .u64 0,.int .u64 0,.int .u64 0,.int .u64 0,.int .u64 0,.int .u64 0,.int .u64 0] 66)).setRow wr.heap.size (s.l.map (Value.int .u64)).toArray):=(nxt hN na).trans (OS.below (by omega))
   obtain ⟨t0,H0⟩:=id hB0
   obtain ⟨t4,H4⟩:=id BZ
   have P8:=one_ints .u64 s.l
   have V8:Hid ((s.l.map (Value.int .u64)).length=8):=by show _=_;rw [List.length_map];rfl
   go_wp2_with (first
    | (refine wpList_load_row rfl 66 (.tmp 2) rfl w.heap.size rfl t0 (s.l.map (Value.int .u64)).toArray (0,0) (.array 8 65) H0 u8_64 rfl i8_64 ?_)
    | (refine wpList_store_row rfl 66 (.tmp 13) (.tmp 85) rfl wr.heap.size (s.l.map (Value.int .u64)).toArray rfl rfl t4 ((S8.l ⟨0,0,0,0,0,0,0,0⟩).map (Value.int .u64)).toArray H4 i8_64 rfl P8 ?_))
   generalize (wr.alloc (.cells #[.int .u64 0,.int .u64 0,.int .u64 0,.int .u64 0,.int .u64 0,.int .u64 0,.int .u64 0,.int .u64 0] 66)).setRow wr.heap.size (s.l.map (Value.int .u64)).toArray=w6 at *
   rw [← hq4] at SB lY lK l0 l1 ⊢
   clear hY hK hB0 hB1 hN na OS BZ H0 H4 hq4 P8 V8
   have b64:∀ i,i < 16→Wd64 (wd 8 xs i):=fun i _=>wd_64 hb i
   go_loopw [14] (fun i wr=>∃ (n:Nat) (r:S8),n≤80∧i = .int .i64 n∧Hid (r=rnds64 K64 (wS64 (wd 8 xs)) n s)∧Blk wr q4 .u64 r.l∧Blk wr (q2+1) .u64 ys∧Blk wr q2 .u64 kA64∧Blk wr w.heap.size .u64 s.l∧Blk wr (w.heap.size+1) .u64 (S8.l ⟨0,0,0,0,0,0,0,0⟩)∧Below w.heap.size w wr) (fun i _=>80 - (intOf i).toNat)
   case atStart=>exact ⟨0,s,Nat.zero_le _,rfl,rfl,SB,Y2,K2,B02,B12,N2⟩
   case round =>
    obtain ⟨n,r,hn,rfl,hr,hR,hY,hK,hB0,hB1,hN⟩:=hrel
    clear SB Y2 K2 B02 B12 N2
    by_cases hlt:n < 80
    ·have ok : Ok64 r := by rw [hr.out]; exact rnds_ok64 hs n
     obtain ⟨oa,ob,oc,od,oe,of,og,oh⟩:=ok
     have hr':Hid (stp64 (K64 n) (wS64 (wd 8 xs) n) r=rnds64 K64 (wS64 (wd 8 xs)) (n+1) s):=by show _=_;rw [hr.out];rfl
     have A1:∀ w,Hid (Calls Tryz.prog 65 #[.int .u64 r.e,.int .u64 14] w fun e w'=>e = .returned (.int .u64 (rr64 r.e 14))∧w'=w):=fun w=>right_64 w r.e oe 14 (by decide) (by decide)
     have A2:∀ w,Hid (Calls Tryz.prog 65 #[.int .u64 r.e,.int .u64 18] w fun e w'=>e = .returned (.int .u64 (rr64 r.e 18))∧w'=w):=fun w=>right_64 w r.e oe 18 (by decide) (by decide)
     have A3:∀ w,Hid (Calls Tryz.prog 65 #[.int .u64 r.e,.int .u64 41] w fun e w'=>e = .returned (.int .u64 (rr64 r.e 41))∧w'=w):=fun w=>right_64 w r.e oe 41 (by decide) (by decide)
     have A4:∀ w,Hid (Calls Tryz.prog 65 #[.int .u64 r.a,.int .u64 28] w fun e w'=>e = .returned (.int .u64 (rr64 r.a 28))∧w'=w):=fun w=>right_64 w r.a oa 28 (by decide) (by decide)
     have A5:∀ w,Hid (Calls Tryz.prog 65 #[.int .u64 r.a,.int .u64 34] w fun e w'=>e = .returned (.int .u64 (rr64 r.a 34))∧w'=w):=fun w=>right_64 w r.a oa 34 (by decide) (by decide)
     have A6:∀ w,Hid (Calls Tryz.prog 65 #[.int .u64 r.a,.int .u64 39] w fun e w'=>e = .returned (.int .u64 (rr64 r.a 39))∧w'=w):=fun w=>right_64 w r.a oa 39 (by decide) (by decide)
     have e1:bits BinOp.xor IntKind.u64 (bits BinOp.xor IntKind.u64 (rr64 r.e 14) (rr64 r.e 18)) (rr64 r.e 41)=gg164 r.e:=rfl
     have e0:bits BinOp.xor IntKind.u64 (bits BinOp.xor IntKind.u64 (rr64 r.a 28) (rr64 r.a 34)) (rr64 r.a 39)=gg064 r.a:=rfl
     have ec:bits BinOp.or IntKind.u64 (bits BinOp.and IntKind.u64 r.e r.f) (bits BinOp.and IntKind.u64 (bits BinOp.xor IntKind.u64 IntKind.u64.max r.e) r.g)=ch64 r.e r.f r.g:=ch_same64 oe of og
     have em:bits BinOp.or IntKind.u64 (bits BinOp.or IntKind.u64 (bits BinOp.and IntKind.u64 r.a r.b) (bits BinOp.and IntKind.u64 r.a r.c)) (bits BinOp.and IntKind.u64 r.b r.c)=mj64 r.a r.b r.c:=mj_same64 oa ob oc
     obtain ⟨t,ht⟩:∃ t,t=tS64 (K64 n) (wS64 (wd 8 xs) n) r:=⟨_,rfl⟩
     obtain ⟨u,hu⟩:∃ u,u=uS64 r:=⟨_,rfl⟩
     have et:IntKind.u64.wrap (IntKind.u64.wrap (IntKind.u64.wrap (IntKind.u64.wrap (r.h+gg164 r.e)+ch64 r.e r.f r.g)+K64 n)+wS64 (wd 8 xs) n)=t:=by simp only [wrap_u64e];rw [ht];unfold tS64;omega
     have eu:IntKind.u64.wrap (gg064 r.a+mj64 r.a r.b r.c)=u:=by rw [wrap_u64e,hu];rfl
     have ST:Hid (stp64 (K64 n) (wS64 (wd 8 xs) n) r=⟨(t+u) % 18446744073709551616,r.a,r.b,r.c,(r.d+t) % 18446744073709551616,r.e,r.f,r.g⟩):=by show _=_;rw [ht,hu];rfl
     have ck:=hK.cell (i:=n) (by rw [kA_len64];exact hlt)
     have ki:=kA_is64 ⟨n,hlt⟩
     have ki':kA64.getD n 0=K64 n:=ki
     rw [ki'] at ck
     have cw:=hY.cell (i:=n) (by rw [hW.1];exact hlt)
     rw [hW.2.1 n hlt] at cw
     have n80:(n:Int) < 80:=by omega
     obtain ⟨⟨c0,c1,c2,c3,c4,c5,c6,c7⟩,⟨f0,f1,f2,f3,f4,f5,f6,f7⟩⟩:=hR.f8
     obtain ⟨ea,eb⟩:=oe
     obtain ⟨aa,ab⟩:=oa
     obtain ⟨ba,bb⟩:=ob
     obtain ⟨ca,cb⟩:=oc
     obtain ⟨fa,fb⟩:=of
     obtain ⟨ga,gb⟩:=og
     generalize K64 n=kn at *
     generalize wS64 (wd 8 xs) n=wn at *
     generalize gg164 r.e=G1 at *
     generalize gg064 r.a=G0 at *
     generalize ch64 r.e r.f r.g=CH at *
     generalize mj64 r.a r.b r.c=MJ at *
     clear hr ht hu ki ki'
     go_wp2_with fail
     go_quiet ((first | (go_at_call 65;with_reducible exact Calls.quiet_of_same (A1 _).out) | (go_at_call 65;with_reducible exact Calls.quiet_of_same (A2 _).out) | (go_at_call 65;with_reducible exact Calls.quiet_of_same (A3 _).out)))
     have hR:Blk (wr.drewN nq) q4 .u64 r.l:=hR
     have hY:Blk (wr.drewN nq) (q2+1) .u64 ys:=hY
     have hK:Blk (wr.drewN nq) q2 .u64 kA64:=hK
     have hB0:Blk (wr.drewN nq) w.heap.size .u64 s.l:=hB0
     have hB1:Blk (wr.drewN nq) (w.heap.size+1) .u64 (S8.l ⟨0,0,0,0,0,0,0,0⟩):=hB1
     have hN:Below w.heap.size w (wr.drewN nq):=below_drewN hN _
     generalize wr.drewN nq=wq at *
     obtain ⟨⟨c0,c1,c2,c3,c4,c5,c6,c7⟩,⟨f0,f1,f2,f3,f4,f5,f6,f7⟩⟩:=hR.f8
     go_wp2_with fail
     go_quiet ((first | (go_at_call 65;with_reducible exact Calls.quiet_of_same (A4 _).out) | (go_at_call 65;with_reducible exact Calls.quiet_of_same (A5 _).out) | (go_at_call 65;with_reducible exact Calls.quiet_of_same (A6 _).out)))
     have hR:Blk (wq.drewN nq) q4 .u64 r.l:=hR
     have hY:Blk (wq.drewN nq) (q2+1) .u64 ys:=hY
     have hK:Blk (wq.drewN nq) q2 .u64 kA64:=hK
     have hB0:Blk (wq.drewN nq) w.heap.size .u64 s.l:=hB0
     have hB1:Blk (wq.drewN nq) (w.heap.size+1) .u64 (S8.l ⟨0,0,0,0,0,0,0,0⟩):=hB1
     have hN:Below w.heap.size w (wq.drewN nq):=below_drewN hN _
     generalize wq.drewN nq=wp at *
     obtain ⟨⟨c0,c1,c2,c3,c4,c5,c6,c7⟩,⟨f0,f1,f2,f3,f4,f5,f6,f7⟩⟩:=hR.f8
     clear A1 A2 A3 A4 A5 A6 e1 e0 ec em et
     go_upto_region 24 with fail
     clear eu
     refine region_putA 20 19 13 167 _ (fun i=>[Fact.eq (.int .u64 (t)),Fact.eq (.int .u64 (u)),Fact.eq (.int .u64 ((t+u) % 18446744073709551616)),Fact.eq (.pointer (some ⟨q4,0,none⟩)),Fact.eq (.int .u64 (r.a)),Fact.eq (.pointer (some ⟨q4,1,none⟩)),Fact.eq (.int .u64 (r.b)),Fact.eq (.pointer (some ⟨q4,2,none⟩)),Fact.eq (.int .u64 (r.c)),Fact.eq (.pointer (some ⟨q4,3,none⟩)),Fact.eq (.int .u64 (r.d)),Fact.eq (.int .u64 (t)),Fact.eq (.int .u64 ((r.d+t) % 18446744073709551616)),Fact.eq (.pointer (some ⟨q4,4,none⟩)),Fact.eq (.int .u64 (r.e)),Fact.eq (.pointer (some ⟨q4,5,none⟩)),Fact.eq (.int .u64 (r.f)),Fact.eq (.pointer (some ⟨q4,6,none⟩)),Fact.eq (.int .u64 (r.g)),Fact.eq (ag8 .u64 ⟨(t+u) % 18446744073709551616,r.a,r.b,r.c,(r.d+t) % 18446744073709551616,r.e,r.f,r.g⟩)].getD i Fact.no) q4 0 66 ((S8.l ⟨(t+u) % 18446744073709551616,r.a,r.b,r.c,(r.d+t) % 18446744073709551616,r.e,r.f,r.g⟩).map (Value.int .u64)) (by kernel_rfl) (by kernel_rfl) rfl rfl rfl (by kernel_rfl) rfl (by kernel_rfl) rfl ?_ i8_64 (one_ints _ _) ?_ ?_
     ·intro W n j hj
      rw [List.length_map] at hj
      have h:=(hR.up n).cell (i:=j) hj
      rw [Nat.zero_add]
      exact ⟨by rw [h];rfl,(hR.up n).free j⟩
     ·skip
      intro i hi
      obtain rfl | rfl | rfl | rfl | rfl | rfl | rfl | rfl | rfl | rfl | rfl | rfl | rfl | rfl | rfl | rfl | rfl | rfl | rfl | rfl:i=0∨i=1∨i=2∨i=3∨i=4∨i=5∨i=6∨i=7∨i=8∨i=9∨i=10∨i=11∨i=12∨i=13∨i=14∨i=15∨i=16∨i=17∨i=18∨i=19:=by omega
      ·refine step_pure rfl fun a w hb hw hf => ?_
       have e17:a.tmps[17]?.getD undef = .int .u64 (t):=gdv (hb.2.2 17 (by kernel_rfl))
       exact ⟨.int .u64 (t),by simp [go_sem,e17],rfl⟩
      ·refine step_pure rfl fun a w hb hw hf => ?_
       have e18:a.tmps[18]?.getD undef = .int .u64 (u):=gdv (hb.2.2 18 (by kernel_rfl))
       exact ⟨.int .u64 (u),by simp [go_sem,e18],rfl⟩
      ·refine step_pure rfl fun a w hb hw hf => ?_
       have e148:a.tmps[148]?.getD undef = .int .u64 (t):=gdv (hf 0 148 (by kernel_rfl))
       have e149:a.tmps[149]?.getD undef = .int .u64 (u):=gdv (hf 1 149 (by kernel_rfl))
       exact ⟨.int .u64 ((t+u) % 18446744073709551616),by simp [go_sem,e148,e149,wrap_u64e],rfl⟩
      ·refine step_pure rfl fun a w hb hw hf => ?_
       have e13:a.tmps[13]?.getD undef = .pointer (some ⟨q4,0,none⟩):=gdv (hb.2.2 13 (by kernel_rfl))
       exact ⟨.pointer (some ⟨q4,0,none⟩),by simp [go_sem,e13],rfl⟩
      ·refine step_pure rfl fun a w hb hw hf => ?_
       have e151:a.tmps[151]?.getD undef = .pointer (some ⟨q4,0,none⟩):=gdv (hf 3 151 (by kernel_rfl))
       have hc:=(hR.up hw).f8.1.1
       exact ⟨.int .u64 (r.a),by simp [go_sem,e151,hc],rfl⟩
      ·refine step_pure rfl fun a w hb hw hf => ?_
       have e13:a.tmps[13]?.getD undef = .pointer (some ⟨q4,0,none⟩):=gdv (hb.2.2 13 (by kernel_rfl))
       exact ⟨.pointer (some ⟨q4,1,none⟩),by simp [go_sem,e13],rfl⟩
      ·refine step_pure rfl fun a w hb hw hf => ?_
       have e153:a.tmps[153]?.getD undef = .pointer (some ⟨q4,1,none⟩):=gdv (hf 5 153 (by kernel_rfl))
       have hc:=(hR.up hw).f8.1.2.1
       exact ⟨.int .u64 (r.b),by simp [go_sem,e153,hc],rfl⟩
      ·refine step_pure rfl fun a w hb hw hf => ?_
       have e13:a.tmps[13]?.getD undef = .pointer (some ⟨q4,0,none⟩):=gdv (hb.2.2 13 (by kernel_rfl))
       exact ⟨.pointer (some ⟨q4,2,none⟩),by simp [go_sem,e13],rfl⟩
      ·refine step_pure rfl fun a w hb hw hf => ?_
       have e155:a.tmps[155]?.getD undef = .pointer (some ⟨q4,2,none⟩):=gdv (hf 7 155 (by kernel_rfl))
       have hc:=(hR.up hw).f8.1.2.2.1
       exact ⟨.int .u64 (r.c),by simp [go_sem,e155,hc],rfl⟩
      ·refine step_pure rfl fun a w hb hw hf => ?_
       have e13:a.tmps[13]?.getD undef = .pointer (some ⟨q4,0,none⟩):=gdv (hb.2.2 13 (by kernel_rfl))
       exact ⟨.pointer (some ⟨q4,3,none⟩),by simp [go_sem,e13],rfl⟩
      ·refine step_pure rfl fun a w hb hw hf => ?_
       have e157:a.tmps[157]?.getD undef = .pointer (some ⟨q4,3,none⟩):=gdv (hf 9 157 (by kernel_rfl))
       have hc:=(hR.up hw).f8.1.2.2.2.1
       exact ⟨.int .u64 (r.d),by simp [go_sem,e157,hc],rfl⟩
      ·refine step_pure rfl fun a w hb hw hf => ?_
       have e17:a.tmps[17]?.getD undef = .int .u64 (t):=gdv (hb.2.2 17 (by kernel_rfl))
       exact ⟨.int .u64 (t),by simp [go_sem,e17],rfl⟩
      ·refine step_pure rfl fun a w hb hw hf => ?_
       have e158:a.tmps[158]?.getD undef = .int .u64 (r.d):=gdv (hf 10 158 (by kernel_rfl))
       have e159:a.tmps[159]?.getD undef = .int .u64 (t):=gdv (hf 11 159 (by kernel_rfl))
       exact ⟨.int .u64 ((r.d+t) % 18446744073709551616),by simp [go_sem,e158,e159,wrap_u64e],rfl⟩
      ·refine step_pure rfl fun a w hb hw hf => ?_
       have e13:a.tmps[13]?.getD undef = .pointer (some ⟨q4,0,none⟩):=gdv (hb.2.2 13 (by kernel_rfl))
       exact ⟨.pointer (some ⟨q4,4,none⟩),by simp [go_sem,e13],rfl⟩
      ·refine step_pure rfl fun a w hb hw hf => ?_
       have e161:a.tmps[161]?.getD undef = .pointer (some ⟨q4,4,none⟩):=gdv (hf 13 161 (by kernel_rfl))
       have hc:=(hR.up hw).f8.1.2.2.2.2.1
       exact ⟨.int .u64 (r.e),by simp [go_sem,e161,hc],rfl⟩
      ·refine step_pure rfl fun a w hb hw hf => ?_
       have e13:a.tmps[13]?.getD undef = .pointer (some ⟨q4,0,none⟩):=gdv (hb.2.2 13 (by kernel_rfl))
       exact ⟨.pointer (some ⟨q4,5,none⟩),by simp [go_sem,e13],rfl⟩
      ·refine step_pure rfl fun a w hb hw hf => ?_
       have e163:a.tmps[163]?.getD undef = .pointer (some ⟨q4,5,none⟩):=gdv (hf 15 163 (by kernel_rfl))
       have hc:=(hR.up hw).f8.1.2.2.2.2.2.1
       exact ⟨.int .u64 (r.f),by simp [go_sem,e163,hc],rfl⟩
      ·refine step_pure rfl fun a w hb hw hf => ?_
       have e13:a.tmps[13]?.getD undef = .pointer (some ⟨q4,0,none⟩):=gdv (hb.2.2 13 (by kernel_rfl))
       exact ⟨.pointer (some ⟨q4,6,none⟩),by simp [go_sem,e13],rfl⟩
      ·refine step_pure rfl fun a w hb hw hf => ?_
       have e165:a.tmps[165]?.getD undef = .pointer (some ⟨q4,6,none⟩):=gdv (hf 17 165 (by kernel_rfl))
       have hc:=(hR.up hw).f8.1.2.2.2.2.2.2.1
       exact ⟨.int .u64 (r.g),by simp [go_sem,e165,hc],rfl⟩
      ·refine step_pure rfl fun a w hb hw hf => ?_
       have e150:a.tmps[150]?.getD undef = .int .u64 ((t+u) % 18446744073709551616):=gdv (hf 2 150 (by kernel_rfl))
       have e152:a.tmps[152]?.getD undef = .int .u64 (r.a):=gdv (hf 4 152 (by kernel_rfl))
       have e154:a.tmps[154]?.getD undef = .int .u64 (r.b):=gdv (hf 6 154 (by kernel_rfl))
       have e156:a.tmps[156]?.getD undef = .int .u64 (r.c):=gdv (hf 8 156 (by kernel_rfl))
       have e160:a.tmps[160]?.getD undef = .int .u64 ((r.d+t) % 18446744073709551616):=gdv (hf 12 160 (by kernel_rfl))
       have e162:a.tmps[162]?.getD undef = .int .u64 (r.e):=gdv (hf 14 162 (by kernel_rfl))
       have e164:a.tmps[164]?.getD undef = .int .u64 (r.f):=gdv (hf 16 164 (by kernel_rfl))
       have e166:a.tmps[166]?.getD undef = .int .u64 (r.g):=gdv (hf 18 166 (by kernel_rfl))
       exact ⟨ag8 .u64 ⟨(t+u) % 18446744073709551616,r.a,r.b,r.c,(r.d+t) % 18446744073709551616,r.e,r.f,r.g⟩,by simp [go_sem,e150,e152,e154,e156,e160,e162,e164,e166,ag8],rfl⟩
     intro vs6 W n6
     have SB:Blk (W.setCells q4 0 ((S8.l ⟨(t+u) % 18446744073709551616,r.a,r.b,r.c,(r.d+t) % 18446744073709551616,r.e,r.f,r.g⟩).map (Value.int .u64))) q4 .u64 (S8.l ⟨(t+u) % 18446744073709551616,r.a,r.b,r.c,(r.d+t) % 18446744073709551616,r.e,r.f,r.g⟩):=blk_set8 (hR.up n6) ⟨(t+u) % 18446744073709551616,r.a,r.b,r.c,(r.d+t) % 18446744073709551616,r.e,r.f,r.g⟩
     have OB:Only q4 W (W.setCells q4 0 ((S8.l ⟨(t+u) % 18446744073709551616,r.a,r.b,r.c,(r.d+t) % 18446744073709551616,r.e,r.f,r.g⟩).map (Value.int .u64))):=only_set8 W q4 .u64 ⟨(t+u) % 18446744073709551616,r.a,r.b,r.c,(r.d+t) % 18446744073709551616,r.e,r.f,r.g⟩
     have Y2:=(hY.up n6).of_block (OB.block _ (by omega))
     have K2:=(hK.up n6).of_block (OB.block _ (by omega))
     have B02:=(hB0.up n6).of_block (OB.block _ (by omega))
     have B12:=(hB1.up n6).of_block (OB.block _ (by omega))
     have N2:=(nxt hN n6).trans (OB.below (B:=w.heap.size) (by omega))
     generalize W.setCells q4 0 ((S8.l ⟨(t+u) % 18446744073709551616,r.a,r.b,r.c,(r.d+t) % 18446744073709551616,r.e,r.f,r.g⟩).map (Value.int .u64))=w7 at *
     clear hR hY hK hB0 hB1 hN OB n6 c0 c1 c2 c3 c4 c5 c6 c7 f0 f1 f2 f3 f4 f5 f6 f7
     simp only [puts,Act.put,List.setIfInBounds_toArray,List.set_cons_succ,List.set_cons_zero]
     go_wp2
     go_roundw
     case rel=>exact ⟨n+1,⟨(t+u) % 18446744073709551616,r.a,r.b,r.c,(r.d+t) % 18446744073709551616,r.e,r.f,r.g⟩,by omega,by go_num,by show _=_;rw [← hr'.out,ST.out],SB,Y2,K2,B02,B12,N2⟩
     case measure=>simp [intOf];omega
    ·obtain rfl : n = 80 := by omega
     have KB:Hid (blk64 s (wd 8 xs)=add64 s r):=by show _=_;rw [hr.out];rfl
     clear hr hY hK hW
     go_wp2_with fail
     go_loopw [19] (fun i wr=>∃ (n:Nat) (zs:List Int),n≤8∧i = .int .i64 n∧zs.length=8∧(∀ j,j < 8→zs.getD j 0=if j < n then (s.l.getD j 0+r.l.getD j 0) % 18446744073709551616 else r.l.getD j 0)∧Blk wr q4 .u64 zs∧Blk wr w.heap.size .u64 s.l∧Blk wr (w.heap.size+1) .u64 (S8.l ⟨0,0,0,0,0,0,0,0⟩)∧Below w.heap.size w wr) (fun i _=>8 - (intOf i).toNat)
     case atStart=>exact ⟨0,r.l,Nat.zero_le _,rfl,rfl,fun j _=>by rw [if_neg (by omega)],hR,hB0,hB1,hN⟩
     case round =>
      obtain ⟨n,zs,hn,rfl,hl,hv,hZ,hB0',hB1',hN'⟩:=hrel
      clear hR hB0 hB1 hN
      by_cases hlt:n < 8
      ·have cz := hZ.cell (i := n) (by omega)
       have cs:=hB0'.cell (i:=n) (by rw [S8.l_len];exact hlt)
       have hvn:=hv n hlt
       rw [if_neg (by omega)] at hvn
       rw [hvn] at cz
       have fz:=hZ.free n
       have Z':=hZ.store n (IntKind.u64.wrap (r.l.getD n 0+s.l.getD n 0))
       have O':=Only.setCell wr q4 n (.int .u64 (IntKind.u64.wrap (r.l.getD n 0+s.l.getD n 0)))
       have B0':=hB0'.of_block (O'.block _ (by omega))
       have B1':=hB1'.of_block (O'.block _ (by omega))
       have N':=hN'.trans (O'.below (B:=w.heap.size) (by omega))
       have V':Hid (∀ j,j < 8→(zs.set n (IntKind.u64.wrap (r.l.getD n 0+s.l.getD n 0))).getD j 0=if j < n+1 then (s.l.getD j 0+r.l.getD j 0) % 18446744073709551616 else r.l.getD j 0):=by
        intro j hj
        by_cases e:n=j
        ·subst e
         rw [getD_set_self _ _ _ (by omega),if_pos (by omega),wrap_u64e,Int.add_comm]
        ·rw [getD_set_ne _ _ _ _ e, hv j hj]
         by_cases c:j < n
         ·rw [if_pos c,if_pos (by omega)]
         ·rw [if_neg c,if_neg (by omega)]
       have L':Hid ((zs.set n (IntKind.u64.wrap (r.l.getD n 0+s.l.getD n 0))).length=8):=by show _=_;rw [List.length_set];exact hl
       have n8:(n:Int) < 8:=by omega
       clear hZ hB0' hB1' hN' O' hv hl hvn
       generalize r.l.getD n 0=rn at *
       generalize s.l.getD n 0=sn at *
       go_wp2_with fail
       go_region
       go_wp2
       go_roundw
       case rel=>exact ⟨n+1,_,by omega,by go_num,L'.out,V'.out,Z'.drew,B0'.drew,B1'.drew,N'.drew⟩
       case measure=>simp [intOf];omega
      ·obtain rfl : n = 8 := by omega
       obtain rfl:zs=(add64 s r).l:=eq_of_getD (by rw [hl];rfl) (fun i hi=>by
        rw [hl] at hi
        rw [hv i hi,if_pos hi]
        obtain rfl | rfl | rfl | rfl | rfl | rfl | rfl | rfl:i=0∨i=1∨i=2∨i=3∨i=4∨i=5∨i=6∨i=7:=by omega
        all_goals rfl)
       clear hv hl
       generalize hrr:add64 s r=rr at *
       obtain ⟨t4,H4⟩:=hZ
       obtain ⟨t1,H1⟩:=id hB1'
       have SR:=setRow_heap wr (w.heap.size+1) _ (rr.l.map (Value.int .u64)).toArray _ _ H1
       have SN:=hN'.trans ((only_setRow64 wr (w.heap.size+1) (rr.l.map (Value.int .u64)).toArray).below (B:=w.heap.size) (by omega))
       have P8:=one_ints .u64 rr.l
       go_wp2_with (first
        | (refine wpList_load_row rfl 66 (.tmp 13) rfl q4 rfl t4 (rr.l.map (Value.int .u64)).toArray (0,0) (.array 8 65) H4 u8_64 rfl i8_64 ?_)
        | (refine wpList_store_row rfl 66 (.tmp 4) (.tmp 181) rfl (w.heap.size+1) (rr.l.map (Value.int .u64)).toArray rfl rfl t1 ((S8.l ⟨0,0,0,0,0,0,0,0⟩).map (Value.int .u64)).toArray H1 i8_64 rfl P8 ?_))
       exact bodyPost_ret (v := .agg (rr.l.map (Value.int .u64)).toArray) (results_cell_row Tryz.results40 _ _ (w.heap.size+1) t1 _ (0,0) (.array 8 65) rfl SR u8_64 rfl i8_64) rfl ⟨by rw [KB.out];rfl,SN⟩
end Go.Proofs.YtnpolopcgmjmnaaGreatDoor
namespace Go.Proofs.YtnpolopcgmjmnaaGreatDoor
set_option maxRecDepth 100000
open Go Go.RowKit
theorem l1Copy_row (w:World) (g:Nat) (a:Option Addr) (c:Nat) (xs:List Int) (hr:Rd w g a .u8 xs) (hc:a=none→c=0) (hn:xs.length≤1099511627776) :
  Calls Tryz.prog 28 #[.slice a xs.length c] w fun e w'=>∃ v,e = .returned v∧RowB w' w.heap.size v xs∧Below w.heap.size w w':=by
 obtain ⟨i0,hi,hz0,hz1,hz2⟩:=info_parts Tryz.info5
 have n0:Below w.heap.size w (w.alloc (.cells #[] 5)):=(Below.refl _ _).alloc (Nat.le_refl _) _
 obtain ⟨v',w2,hap,o2,n2⟩:=append_any (P:=Tryz.prog) (w.alloc (.cells #[] 5)) 22 i0 Tryz.underlying22 hi hz0 hz1 hz2 w.heap.size w.heap.size _ _ (RowB.lit0 w) g a c xs (hr.up n0) hc (by simpa using hn) (Nat.le_refl _) n0.size
 rw [List.nil_append] at o2
 go_enter Tryz.func28,Tryz.ntmps28
 go_wp2_with (at_builtin;refine Lib.wpList_append_run _ rfl _ _ 22 22 rfl _ _ rfl rfl _ _ hap ?_)
 go_ret
 exact ⟨v',rfl,o2,n0.trans n2⟩
theorem l6Start_64 (w:World):Calls Tryz.prog 39 #[] w fun e w'=>e = .returned (ag8 .u64 start64)∧Below w.heap.size w w':=by
 have n0:Below w.heap.size w (w.alloc (.cells #[.int .u64 0,.int .u64 0,.int .u64 0,.int .u64 0,.int .u64 0,.int .u64 0,.int .u64 0,.int .u64 0] 66)):=(Below.refl _ _).alloc (Nat.le_refl _) _
 have B0:=blk_ag8 w .u64 66 ⟨0,0,0,0,0,0,0,0⟩
 simp only [] at B0
 go_enter Tryz.func39,Tryz.ntmps39
 go_upto_region 1 with fail
 generalize w.alloc (.cells #[.int .u64 0,.int .u64 0,.int .u64 0,.int .u64 0,.int .u64 0,.int .u64 0,.int .u64 0,.int .u64 0] 66)=wa at *
 have S0:=B0.setRow64 (zs:=start64.l)
 have O0:=only_setRow64 wa w.heap.size (start64.l.map (Value.int .u64)).toArray
 obtain ⟨t0,H0⟩:=B0
 obtain ⟨t1,H1⟩:=S0
 go_wp2_with (refine wpList_store_row rfl 66 (.tmp 0) (.tmp 1) rfl w.heap.size (start64.l.map (Value.int .u64)).toArray rfl rfl t0 ((S8.l ⟨0,0,0,0,0,0,0,0⟩).map (Value.int .u64)).toArray H0 i8_64 rfl (one_ints _ _) ?_)
 exact bodyPost_ret (v := .agg (start64.l.map (Value.int .u64)).toArray) (results_cell_row Tryz.results39 _ _ w.heap.size t1 _ (0,0) (.array 8 65) rfl H1 u8_64 rfl i8_64) rfl ⟨rfl,n0.trans (O0.below (Nat.le_refl _))⟩
theorem rd_part {w:World} {g o:Nat} {xs:List Int} (h:Rd w g (some ⟨g,o,none⟩) .u8 xs) (t n:Nat):Rd w g (some ⟨g,o+t,none⟩) .u8 ((xs.drop t).take n):=by
 intro h0
 rw [List.length_take,List.length_drop] at h0
 obtain ⟨o',e,hc⟩:=h (by omega)
 simp only [Option.some.injEq,Addr.mk.injEq,true_and,and_true] at e
 subst e
 refine ⟨o+t,rfl,fun i hi=>?_⟩
 rw [List.length_take,List.length_drop] at hi
 have:=hc (t+i) (by omega)
 rw [List.getD_eq_getElem?_getD,List.getElem?_take,if_pos (by omega),List.getElem?_drop,← List.getD_eq_getElem?_getD,Nat.add_assoc]
 exact this
theorem byt_part {xs:List Int} (h:Byt xs) (t n:Nat):Byt ((xs.drop t).take n):=fun j=>by
 rw [List.getD_eq_getElem?_getD,List.getElem?_take]
 split
 ·rw [← List.getD_eq_getElem?_getD]
  exact byt_drop h t j
 ·simp
def tellQ (s:S8):Nat→List Int
 | 0=>[]
 | n+1=>tellQ s n ++ bigL (s.l.getD n 0) 8
theorem tellQ_len (s:S8):∀ n,(tellQ s n).length=8*n
 | 0=>rfl
 | n+1=>by rw [tellQ,List.length_append,tellQ_len s n,bigL_len];omega
theorem tellQ_all (s:S8):tellQ s 8=tell64 s:=by
 show ((((((([] ++ _) ++ _) ++ _) ++ _) ++ _) ++ _) ++ _) ++ _=_
 unfold tell64
 simp only [List.nil_append,List.append_assoc]
 rfl
theorem take_snoc {l:List Int} {m:Nat} (h:m < l.length):l.take (m+1)=l.take m ++ [l.getD m 0]:=by
 rw [List.take_add_one,List.getD_eq_getElem?_getD,List.getElem?_eq_getElem h]
 rfl
set_option maxHeartbeats 8000000 in
theorem specHash_64 (w : World) (g : Nat) (a : Option Addr) (c : Nat) (xs : List Int) (hr : Rd w g a .u8 xs) (hb : Byt xs) (hc : a = none → c = 0) (hn : xs.length ≤ 549755813888) :
  Calls Tryz.prog 16 #[.slice a xs.length c] w fun e w'=>NewRow w.heap.size w' e .u8 (tell64 (whole64 start64 (xs ++ padL (xs.length:Int) 128 16)))∧Below w.heap.size w w':=by
 obtain ⟨i0,hi,hz0,hz1,hz2'⟩:=info_parts Tryz.info5
 have PA:padA (xs.length:Int) 128 16=padL (xs.length:Int) 128 16:=by unfold padA;rw [if_pos (by omega)]
 have PD:=fun w=>LongPad_any w (xs.length:Int) (by omega) (by omega)
 rw [PA] at PD
 have PB:=padL_byt (xs.length:Int) 128 16
 have PL:(padL (xs.length:Int) 128 16).length≤512:=by rw [padL_len];have:=padZ_lt (xs.length:Int) (B:=128) (t:=16) (by decide);omega
 generalize padL (xs.length:Int) 128 16=pl at *
 have bA:=byt_apd hb PB
 have lA:(xs ++ pl).length≤2199023255552:=by rw [List.length_append];omega
 obtain ⟨zs,hzs⟩:∃ z,z=xs ++ pl:=⟨_,rfl⟩
 obtain ⟨Wt,hWt⟩:∃ t,t=whole64 start64 zs:=⟨_,rfl⟩
 rw [← hzs] at bA lA ⊢
 have oW:Ok64 Wt:=by rw [hWt];exact whole_ok64 start_ok64 zs
 rw [← hWt]
 have HZ:=hide hzs
 have HW:Hid (whole64 start64 (zs.drop 0)=Wt):=by show _=_;rw [List.drop_zero,hWt]
 have CP:=fun w h=>hide (l1Copy_row w g a c xs h hc (by omega))
 have PDH:=fun w=>hide (PD w)
 have ST:=fun w=>hide (l6Start_64 w)
 clear hWt hzs PA PD
 go_enter Tryz.func16,Tryz.ntmps16
 go_wp2_with fail
 refine (CP w hr).out.mono ?_
 rintro r w2 ⟨v2,rfl,o2,n2⟩
 go_wp2_with fail
 refine (PDH w2).out.mono ?_
 rintro r w3 ⟨⟨a3,c3,g3,rfl,o3,p3,q3,r3⟩,n3⟩
 have N3:=nxt n2 n3
 have o2':=o2.up n3
 obtain ⟨v4,w4,hap,o4,n4⟩:=append_any (P:=Tryz.prog) w3 22 i0 Tryz.underlying22 hi hz0 hz1 hz2' w.heap.size w.heap.size _ _ o2' g3 a3 c3 pl o3.rd p3 (by omega) (Nat.le_refl _) N3.size
 have N4:=N3.trans n4
 rw [← HZ.out] at o4
 obtain ⟨a5,c5,g5,rfl,o5,p5,q5,r5⟩:=o4.own
 clear o2 o2' o4 n2 n3 n4 N3 CP PDH HZ
 go_wp2_with (at_builtin;refine Lib.wpList_append_run _ rfl _ _ 22 22 rfl _ _ rfl rfl _ _ hap ?_)
 clear hap
 refine (ST w4).out.mono ?_
 rintro r w6 ⟨rfl,n6⟩
 have N6:=nxt N4 n6
 have o6:=o5.up n6
 obtain ⟨q4,hq4⟩:∃ q,q=w6.heap.size:=⟨_,rfl⟩
 have gl:0 < zs.length→g5 < q4:=fun h=>by rw [hq4];exact o6.rd.lt h
 have na:Below w6.heap.size w6 (w6.alloc (.cells #[.int .u64 0,.int .u64 0,.int .u64 0,.int .u64 0,.int .u64 0,.int .u64 0,.int .u64 0,.int .u64 0] 66)):=(Below.refl _ _).alloc (Nat.le_refl _) _
 have BZ:=blk_ag8 w6 .u64 66 ⟨0,0,0,0,0,0,0,0⟩
 simp only [] at BZ
 have OS:=only_setRow64 (w6.alloc (.cells #[.int .u64 0,.int .u64 0,.int .u64 0,.int .u64 0,.int .u64 0,.int .u64 0,.int .u64 0,.int .u64 0] 66)) w6.heap.size (start64.l.map (Value.int .u64)).toArray
 have SB:=BZ.setRow64 (zs:=start64.l)
 have z6:=N6.size
 have N7:Below w.heap.size w ((w6.alloc (.cells #[.int .u64 0,.int .u64 0,.int .u64 0,.int .u64 0,.int .u64 0,.int .u64 0,.int .u64 0,.int .u64 0] 66)).setRow w6.heap.size (start64.l.map (Value.int .u64)).toArray):=(nxt N6 na).trans (OS.below z6)
 have X7:Rd ((w6.alloc (.cells #[.int .u64 0,.int .u64 0,.int .u64 0,.int .u64 0,.int .u64 0,.int .u64 0,.int .u64 0,.int .u64 0] 66)).setRow w6.heap.size (start64.l.map (Value.int .u64)).toArray) g5 a5 .u8 zs:=by
  by_cases h:0 < zs.length
  ·exact ((o6.rd).up na).of_block (OS.block _ (by have:=gl h;omega))
  ·exact fun h1=>absurd h1 h
 obtain ⟨t4,H4⟩:=id BZ
 go_wp2_with (refine wpList_store_row rfl 66 (.tmp 4) (.tmp 15) rfl w6.heap.size (start64.l.map (Value.int .u64)).toArray rfl rfl t4 ((S8.l ⟨0,0,0,0,0,0,0,0⟩).map (Value.int .u64)).toArray H4 i8_64 rfl (one_ints _ _) ?_)
 generalize (w6.alloc (.cells #[.int .u64 0,.int .u64 0,.int .u64 0,.int .u64 0,.int .u64 0,.int .u64 0,.int .u64 0,.int .u64 0] 66)).setRow w6.heap.size (start64.l.map (Value.int .u64)).toArray=w7 at *
 rw [← hq4] at SB ⊢
 have qw:w.heap.size≤q4:=by omega
 clear na BZ OS H4 o6 n6 N6 N4 o5 z6 hq4 ST
 go_loopw [5] (fun i wr=>∃ (n:Nat) (C1:S8),n≤zs.length∧i = .int .i64 n∧Ok64 C1∧Hid (whole64 C1 (zs.drop n)=Wt)∧Blk wr q4 .u64 C1.l∧Rd wr g5 a5 .u8 zs∧Below w.heap.size w wr) (fun i _=>zs.length - (intOf i).toNat)
 case atStart=>exact ⟨0,start64,Nat.zero_le _,rfl,start_ok64,HW,SB,X7,N7⟩
 case round =>
  obtain ⟨n,C1,hn1,rfl,hC,hW,hB0,hX,hN⟩:=hrel
  clear SB X7 N7 HW
  by_cases hlt:n+128≤zs.length
  ·obtain ⟨o2, rfl, -⟩ := hX (by omega)
   have gl:=gl (by omega)
   have bl:((zs.drop n).take 128).length=128:=by rw [List.length_take,List.length_drop];omega
   have hW':Hid (whole64 (blk64 C1 (wd 8 ((zs.drop n).take 128))) (zs.drop (n+128))=Wt):=by
    show _=_
    rw [← hW.out]
    conv=>rhs;rw [whole_eq64,if_neg (by rw [List.length_drop];omega)]
    rw [blk_congr64 C1 (wd_take64 (zs.drop n)),List.drop_drop]
   obtain ⟨C2,hC2⟩:∃ t,t=blk64 C1 (wd 8 ((zs.drop n).take 128)):=⟨_,rfl⟩
   have oC2:Ok64 C2:=by rw [hC2];exact blk_ok64 _ _
   have BK:=fun W h=>hide (l6Block_64 W C1 hC g5 (some ⟨g5,o2+n,none⟩) (c5 - n) ((zs.drop n).take 128) h (byt_part bA n 128) bl)
   rw [← hC2] at BK hW'
   have rp:=fun W (h:Below wr.heap.size wr W)=>rd_part (hX.up h) n 128
   generalize (zs.drop n).take 128=bs at *
   obtain ⟨m,hm⟩:∃ m,m=zs.length:=⟨_,rfl⟩
   rw [← hm] at hlt hn1 lA q5 ⊢
   have HM:=hide hm
   have k3:(n:Int)+128≤(c5:Int):=by omega
   have k1:(n:Int)+128≤(m:Int):=by omega
   have k4:IntKind.i64.wrap ((n:Int)+128)=(n:Int)+128:=by rw [IntKind.wrap_i64];omega
   have k5:((n:Int)+128).toNat=n+128:=by omega
   have k6:¬ c5=n:=by omega
   have k7:¬ ((n:Int)+128 < 0):=by omega
   clear hC2 hm bl hW
   go_upto_region 6 with fail
   refine region_putA 7 6 4 29 _ (fun i=>[Fact.eq (ag8 .u64 C1),Fact.eq (.slice (some ⟨g5,o2,none⟩) m c5),Fact.eq (.int .i64 (n:Int)),Fact.eq (.int .i64 (n:Int)),Fact.eq (.int .i64 ((n:Int)+128)),Fact.eq (.slice (some ⟨g5,o2+n,none⟩) 128 (c5 - n)),Fact.eq (ag8 .u64 C2)].getD i Fact.no) q4 0 66 (C2.l.map (Value.int .u64)) (by kernel_rfl) (by kernel_rfl) rfl rfl rfl (by kernel_rfl) rfl (by kernel_rfl) rfl ?_ i8_64 (one_ints _ _) ?_ ?_
   ·intro W n j hj
    rw [List.length_map] at hj
    have h:=(hB0.up n).cell (i:=j) hj
    rw [Nat.zero_add]
    exact ⟨by rw [h];rfl,(hB0.up n).free j⟩
   ·skip
    intro i hi
    obtain rfl | rfl | rfl | rfl | rfl | rfl | rfl:i=0∨i=1∨i=2∨i=3∨i=4∨i=5∨i=6:=by omega
    ·refine step_load rfl 66 (.tmp 4) rfl (.array 8 65) 8 u8_64 rfl i8_64 fun a w hb hw hf=>⟨_,0,C1.l.map (Value.int .u64),hb.2.2 4 (by kernel_rfl),Seg.range (Seg.blk (hB0.up hw)),by rw [List.length_map];rfl,rfl⟩
    ·refine step_pure rfl fun a w hb hw hf => ?_
     have e3:a.tmps[3]?.getD undef = .slice (some ⟨g5,o2,none⟩) m c5:=gdv (hb.2.2 3 (by kernel_rfl))
     exact ⟨.slice (some ⟨g5,o2,none⟩) m c5,by simp [go_sem,e3],rfl⟩
    ·refine step_pure rfl fun a w hb hw hf => ?_
     have e5:a.tmps[5]?.getD undef = .int .i64 (n:Int):=gdv (hb.2.2 5 (by kernel_rfl))
     exact ⟨.int .i64 (n:Int),by simp [go_sem,e5],rfl⟩
    ·refine step_pure rfl fun a w hb hw hf => ?_
     have e5:a.tmps[5]?.getD undef = .int .i64 (n:Int):=gdv (hb.2.2 5 (by kernel_rfl))
     exact ⟨.int .i64 (n:Int),by simp [go_sem,e5],rfl⟩
    ·refine step_pure rfl fun a w hb hw hf => ?_
     have e26:a.tmps[26]?.getD undef = .int .i64 (n:Int):=gdv (hf 3 26 (by kernel_rfl))
     exact ⟨.int .i64 ((n:Int)+128),by simp [go_sem,e26,k4],rfl⟩
    ·refine step_pure rfl fun a w hb hw hf => ?_
     have e24:a.tmps[24]?.getD undef = .slice (some ⟨g5,o2,none⟩) m c5:=gdv (hf 1 24 (by kernel_rfl))
     have e25:a.tmps[25]?.getD undef = .int .i64 (n:Int):=gdv (hf 2 25 (by kernel_rfl))
     have e27:a.tmps[27]?.getD undef = .int .i64 ((n:Int)+128):=gdv (hf 4 27 (by kernel_rfl))
     exact ⟨.slice (some ⟨g5,o2+n,none⟩) 128 (c5 - n),by simp [go_sem,e24,e25,e27,k3,k5,k6,k7],rfl⟩
    ·refine step_callv rfl 40 _ _ rfl (by kernel_rfl) fun a w hb hw hf => ?_
     have e23:a.tmps.getD 23 undef=ag8 .u64 C1:=hf 0 23 (by kernel_rfl)
     have e28:a.tmps.getD 28 undef = .slice (some ⟨g5,o2+n,none⟩) 128 (c5 - n):=hf 5 28 (by kernel_rfl)
     show Calls Tryz.prog 40 #[a.tmps.getD 23 undef,a.tmps.getD 28 undef] w _
     rw [e23,e28]
     exact (BK w (rp w hw)).out.mono (by rintro r w' ⟨rfl,n⟩;exact ⟨_,rfl,n,rfl⟩)
   intro vs6 W n6
   have SB:Blk (W.setCells q4 0 (C2.l.map (Value.int .u64))) q4 .u64 C2.l:=blk_set8 (hB0.up n6) C2
   have OB:Only q4 W (W.setCells q4 0 (C2.l.map (Value.int .u64))):=only_set8 W q4 .u64 C2
   have X2:=(hX.up n6).of_block (OB.block _ (by omega))
   have N2:=(nxt hN n6).trans (OB.below (B:=w.heap.size) qw)
   generalize W.setCells q4 0 (C2.l.map (Value.int .u64))=w8 at *
   clear hB0 hX hN OB n6 rp BK
   simp only [puts,Act.put,List.setIfInBounds_toArray,List.set_cons_succ,List.set_cons_zero]
   go_wp2
   go_roundw
   case rel=>exact ⟨n+128,C2,by omega,by go_num,oC2,hW',SB,X2,N2⟩
   case measure=>have:=HM.out;simp [intOf];omega
  ·have k1 : decide ((n : Int) + 128 ≤ (zs.length : Int)) = false := by simp; omega
   have e:C1=Wt:=by have:=hW.out;rw [whole_short64 _ (by rw [List.length_drop];omega)] at this;exact this
   subst e
   have lB:=hB0.lt
   have n1:Below wr.heap.size wr (wr.alloc (.cells #[] 5)):=(Below.refl _ _).alloc (Nat.le_refl _) _
   have L0:=(RowB.lit0 wr).base (base':=q4+1) (by omega)
   have B0:=hB0.up n1
   have N1:=nxt hN n1
   have z1:q4+1≤(wr.alloc (.cells #[] 5)).heap.size:=by simp;omega
   have SW:∀ p,p < 8→Wd64 (C1.l.getD p 0):=by
    obtain ⟨h1,h2,h3,h4,h5,h6,h7,h8⟩:=oW
    intro p hp
    obtain rfl | rfl | rfl | rfl | rfl | rfl | rfl | rfl:p=0∨p=1∨p=2∨p=3∨p=4∨p=5∨p=6∨p=7:=by omega
    all_goals assumption
   clear hB0 hX hN n1 hW hC
   go_wp2_with fail
   generalize wr.alloc (.cells #[] 5)=wb at *
   go_loopw [6,7] (fun v i wr=>∃ (n:Nat),n≤8∧i = .int .i64 n∧RowB wr (q4+1) v (tellQ C1 n)∧Blk wr q4 .u64 C1.l∧q4+1≤wr.heap.size∧Below w.heap.size w wr) (fun _ i _=>8 - (intOf i).toNat)
   case atStart=>exact ⟨0,Nat.zero_le _,rfl,L0,B0,z1,N1⟩
   case round =>
    obtain ⟨n,hn2,rfl,hV,hB,hz,hN⟩:=hrel
    clear L0 B0 N1 z1
    by_cases hlt8:n < 8
    ·have sw := SW n hlt8
     have n8:(n:Int) < 8:=by omega
     have TS:Hid (tellQ C1 (n+1)=tellQ C1 n ++ bigL (C1.l.getD n 0) 8):=rfl
     have LQ:=hide (tellQ_len C1 n)
     go_wp2_with fail
     go_loopw [6,8] (fun v i wr=>∃ (m:Nat),m≤8∧i = .int .i64 m∧RowB wr (q4+1) v (tellQ C1 n ++ (bigL (C1.l.getD n 0) 8).take m)∧Blk wr q4 .u64 C1.l∧q4+1≤wr.heap.size∧Below w.heap.size w wr) (fun _ i _=>8 - (intOf i).toNat)
     case atStart=>exact ⟨0,Nat.zero_le _,rfl,by rw [List.take_zero,List.append_nil];exact hV,hB,hz,hN⟩
     case round =>
      obtain ⟨m,hm,rfl,hV2,hB2,hz2,hN2⟩:=hrel
      clear hV hB hz hN
      by_cases hl8:m < 8
      ·have cs := hB2.cell (i := n) (by rw [S8.l_len]; exact hlt8)
       have tk:=take_snoc (l:=bigL (C1.l.getD n 0) 8) (m:=m) (by rw [bigL_len];exact hl8)
       have bg:(bigL (C1.l.getD n 0) 8).getD m 0=C1.l.getD n 0 / 2 ^ (56 - 8*m) % 256:=by rw [bigL_get _ _ _ hl8,p256_two,show 8*(8 - 1 - m)=56 - 8*m by omega]
       have bw:0≤C1.l.getD n 0 / 2 ^ (56 - 8*m) % 256∧C1.l.getD n 0 / 2 ^ (56 - 8*m) % 256 < 256:=by omega
       have d1:(56:Int) - 8*(m:Int)=((56 - 8*m:Nat):Int):=by omega
       have d2:56 - 8*m≤56:=by omega
       have d3:(m:Int) < 8:=by omega
       have tL:((bigL (C1.l.getD n 0) 8).take m).length≤8:=by rw [List.length_take];omega
       obtain ⟨v0,v1⟩:=sw
       rw [bg] at tk
       obtain ⟨ll,hll⟩:∃ l,l=tellQ C1 n ++ (bigL (C1.l.getD n 0) 8).take m:=⟨_,rfl⟩
       have lll:ll.length≤72:=by rw [hll,List.length_append,LQ.out];omega
       have HL2:Hid (tellQ C1 n ++ (bigL (C1.l.getD n 0) 8).take (m+1)=ll ++ [C1.l.getD n 0 / 2 ^ (56 - 8*m) % 256]):=by show _=_;rw [tk,hll,List.append_assoc]
       rw [← hll] at hV2
       clear hll bg tk tL
       generalize 56 - 8*m=sh at *
       generalize C1.l.getD n 0=sv at *
       generalize hbt:sv / 2 ^ sh % 256=bt at *
       have na:Below wr.heap.size wr (wr.alloc (.cells #[.int .u8 bt] 5)):=(Below.refl _ _).alloc (Nat.le_refl _) _
       have za:=Nat.le_trans hz2 na.size
       have o1:=hV2.up na
       have B1:=blk_lit1 wr .u8 5 bt
       obtain ⟨v',w2,hap,o2,n2⟩:=append_any (P:=Tryz.prog) (wr.alloc (.cells #[.int .u8 bt] 5)) 22 i0 Tryz.underlying22 hi hz0 hz1 hz2' (q4+1) (q4+1) _ _ o1 _ _ 1 [bt] B1.own0.rd (by simp) (by simp;omega) (Nat.le_refl _) za
       have B2:=(hB2.up na).of_block (n2.block q4 (by omega))
       have N2:Below w.heap.size w w2:=(nxt hN2 na).trans ⟨n2.os,n2.tape,n2.output,n2.size,fun k hk=>n2.block k (by omega)⟩
       have z2:=Nat.le_trans za n2.size
       rw [← HL2.out] at o2
       clear hV2 o1 B1 n2 hB2 hN2 na za hz2
       go_wp2_with (at_builtin;refine Lib.wpList_append_run _ rfl _ _ 22 22 rfl _ _ rfl rfl _ _ hap ?_)
       clear hap
       go_roundw
       case rel=>exact ⟨m+1,by omega,by go_num,o2,B2,z2,N2⟩
       case measure=>simp [intOf];omega
      ·obtain rfl : m = 8 := by omega
       rw [List.take_of_length_le (by rw [bigL_len];exact Nat.le_refl _),← TS.out] at hV2
       go_wp2
       go_roundw
       case rel=>exact ⟨n+1,by omega,by go_num,hV2,hB2,hz2,hN2⟩
       case measure=>simp [intOf];omega
    ·obtain rfl : n = 8 := by omega
     rw [tellQ_all] at hV
     obtain ⟨a9,c9,g9,rfl,o9,p9,q9,r9⟩:=hV.own
     have TL:=hide (tell_len64 C1)
     rw [TL.out]
     go_wp2
     go_ret
     exact ⟨⟨a9,c9,g9,by rw [TL.out];rfl,o9,p9,q9,by omega⟩,hN⟩
end Go.Proofs.YtnpolopcgmjmnaaGreatDoor
namespace Go.Proofs.YtnpolopcgmjmnaaGreatDoor
set_option maxRecDepth 100000
open Go Go.RowKit
theorem li_base:liX (4*iv 5) false=lx (bX,bY)∧liY (4*iv 5) false=ly (bX,bY):=by
 rw [← ba_eq1,← ba_eq2]
 have h:=pv_base.cn
 constructor
 ·show _ = fill (byt bX) 32
  rw [Int.emod_eq_of_lt h.x.1 h.x.2]
 ·show _ = fill (byt bY) 32
  rw [Int.emod_eq_of_lt h.y.1 h.y.2]
end Go.Proofs.YtnpolopcgmjmnaaGreatDoor
namespace Go.Proofs.YtnpolopcgmjmnaaGreatDoor
set_option maxRecDepth 100000
open Go Go.RowKit
theorem RowB.parts {w:World} {base:Nat} {v:Value} {xs:List Int} (h:RowB w base v xs) (h0:0 < xs.length) :
  ∃ (g cap : Nat), v = .slice (some ⟨g, 0, none⟩) xs.length cap ∧ base ≤ g ∧ xs.length ≤ cap ∧ (∀ i, i < xs.length → w.cell? ⟨g, i, none⟩ = some (.int .u8 (xs.getD i 0))) ∧ (∀ i, w.frozen? ⟨g, i, none⟩ = false) ∧
   (∀ i z,i < xs.length→RowB (w.setCell ⟨g,i,none⟩ (.int .u8 z)) base v (xs.set i z))∧(∀ n,n≤xs.length→RowB w base (.slice (some ⟨g,0,none⟩) n cap) (xs.take n)):=by
 obtain ⟨hl,⟨_,h2⟩ | ⟨g,cap,cur,rfl,hb,hg,hn,hm,hs,ht⟩⟩:=h
 ·omega
 ·have hs' : cur.size = cap := by omega
  rw [Nat.mul_one] at ht
  have hcell:∀ i,i < xs.length→cur[i]?=some (.int .u8 (xs.getD i 0)):=fun i hi=>by
   have:=congrArg (fun l=>l[i]?) ht
   simp only [List.getElem?_take,if_pos hi,List.getElem?_map,Array.getElem?_toList] at this
   rw [this,List.getElem?_eq_getElem hi,List.getD_eq_getElem?_getD,List.getElem?_eq_getElem hi]
   rfl
  refine ⟨g,cap,rfl,hb,hn,fun i hi=>?_,fun i=>?_,fun i z hi=>⟨by simp,.inr ⟨g,cap,cur.setIfInBounds i (.int .u8 z),by simp,hb,?_,by simpa using hn,hm,by simpa using hs,?_⟩⟩,fun n hn'=>⟨by simp,.inr ⟨g,cap,cur,by rw [List.length_take,Nat.min_eq_left hn'],hb,hg,by rw [List.length_take];omega,hm,hs,?_⟩⟩⟩
  ·simp [World.cell?,hg,hcell i hi]
  ·simp [World.frozen?,hg]
  ·show (w.heap.modify g _)[g]? = _
   rw [Array.getElem?_modify,if_pos rfl,hg]
   rfl
  ·rw [Nat.mul_one,List.length_set,Array.toList_setIfInBounds,List.take_set,ht,List.map_set]
  ·rw [Nat.mul_one,List.length_take,Nat.min_eq_left hn',List.map_take,← ht,List.take_take,Nat.min_eq_left hn']
end Go.Proofs.YtnpolopcgmjmnaaGreatDoor
namespace Go.Proofs.YtnpolopcgmjmnaaGreatDoor
set_option maxRecDepth 100000
open Go Go.RowKit
end Go.Proofs.YtnpolopcgmjmnaaGreatDoor
namespace Go.Proofs.YtnpolopcgmjmnaaGreatDoor
set_option maxRecDepth 100000
open Go.RowKit
end Go.Proofs.YtnpolopcgmjmnaaGreatDoor
namespace Go.Proofs.YtnpolopcgmjmnaaGreatDoor
set_option maxRecDepth 100000
open Go Go.RowKit
set_option maxHeartbeats 2000000 in
theorem l9Join_any (w:World) (g1 g2 g3:Nat) (a1 a2 a3:Option Addr) (c1 c2 c3:Nat) (xs ys zs:List Int) (h1:Rd w g1 a1 .u8 xs) (h2:Rd w g2 a2 .u8 ys) (h3:Rd w g3 a3 .u8 zs) (p1:a1=none→c1=0) (p2:a2=none→c2=0) (p3:a3=none→c3=0) (l1:xs.length≤1048576) (l2:ys.length≤1048576) (l3:zs.length≤1048576) :
  Calls Tryz.prog 17 #[.slice a1 xs.length c1,.slice a2 ys.length c2,.slice a3 zs.length c3] w fun r w'=>NewRow w.heap.size w' r .u8 (xs ++ (ys ++ zs))∧Below w.heap.size w w':=by
 obtain ⟨i0,hi,hz0,hz1,hz2⟩:=info_parts Tryz.info5
 have CP:=hide (l1Copy_row w g1 a1 c1 xs h1 p1 (by omega))
 have P2:=hide p2
 have P3:=hide p3
 clear p1 p2 p3 h1
 go_enter Tryz.func17,Tryz.ntmps17
 go_wp2_with fail
 refine CP.out.mono ?_
 rintro e w1 ⟨v1,rfl,R1,n1⟩
 obtain ⟨v2,w2,hap2,R2,m2⟩:=append_any w1 22 i0 Tryz.underlying22 hi hz0 hz1 hz2 w.heap.size w.heap.size _ xs R1 g2 a2 c2 ys (h2.up n1) P2.out (by omega) (Nat.le_refl _) n1.size
 have N2:=n1.trans m2
 obtain ⟨v3,w3,hap3,R3,m3⟩:=append_any w2 22 i0 Tryz.underlying22 hi hz0 hz1 hz2 w.heap.size w.heap.size _ (xs ++ ys) R2 g3 a3 c3 zs (h3.up N2) P3.out (by rw [List.length_append];omega) (Nat.le_refl _) N2.size
 have N3:=hide (N2.trans m3)
 rw [List.append_assoc] at R3
 obtain ⟨a4,c4,g4,rfl,o4,p4,q4,r4⟩:=R3.own
 have O4:=hide o4
 have P4:=hide p4
 have Q4:=hide q4
 clear CP R1 R2 R3 m2 m3 N2 n1 o4 p4 q4 h2 h3 l1 l2 l3
 go_wp2_with (at_builtin;first | refine Lib.wpList_append_run _ rfl _ _ 22 22 rfl _ _ rfl rfl _ _ hap2 ?_ | refine Lib.wpList_append_run _ rfl _ _ 22 22 rfl _ _ rfl rfl _ _ hap3 ?_)
 clear hap2 hap3
 go_wp2
 go_ret
 exact ⟨⟨a4,c4,g4,by rw [List.length_append,List.length_append];rfl,O4.out,P4.out,Q4.out,r4⟩,N3.out⟩
theorem ored_hash (ys:List Int):ored (hashL64 ys)=fill (byt (num (hashL64 ys) % QQ)) 32:=by
 have:=hash64_len ys
 unfold ored
 rw [if_pos ⟨by omega,by omega⟩]
theorem ored_bd (ys:List Int):0≤num (hashL64 ys) % QQ∧num (hashL64 ys) % QQ < PP:=by
 refine ⟨Int.emod_nonneg _ (by decide),Int.lt_trans (Int.emod_lt_of_pos _ (by decide)) (show QQ < PP by decide)⟩
theorem ored_num (ys:List Int):num (ored (hashL64 ys))=num (hashL64 ys) % QQ:=by
 rw [ored_hash,num_fill (ored_bd ys).1 (ored_bd ys).2]
theorem ored_len32 (ys:List Int):(ored (hashL64 ys)).length=32:=by rw [ored_hash,fill_len]
theorem ored_byt32 (ys:List Int):Byt (ored (hashL64 ys)):=by rw [ored_hash];exact bytes_5 _ _
theorem scV_num {ks:List Int} (hl:ks.length=32):scV ks=(num ks).toNat:=by unfold scV num;rw [hl]
theorem scV_ored (ys:List Int):scV (ored (hashL64 ys))=hsN ys:=by rw [scV_num (ored_len32 ys),ored_num];rfl
end Go.Proofs.YtnpolopcgmjmnaaGreatDoor
namespace Go.Proofs.YtnpolopcgmjmnaaGreatDoor
set_option maxRecDepth 100000
open Go Go.RowKit
theorem pv_dc {b:List Int} (hb:Byt b) (h:dcB b=true):Pv (dcP b)∧dcX b=lx (dcP b)∧dcY b=ly (dcP b):=by
 obtain ⟨p,hp,e1,e2,-⟩:=en_dec hb h
 have e:dcP b=p:=by unfold dcP;rw [e1,e2,lx_num hp,ly_num hp]
 rw [e]
 exact ⟨hp,e1,e2⟩
def cmP (q:Int × Int):Int × Int:=(q.1 % PP,q.2 % PP)
theorem cm_cn (q:Int × Int):Cn (cmP q):=cn_mod _ _
theorem cm_pv {q:Int × Int} (h:OnP PP (-1) d0 q):Pv (cmP q):=⟨on_pe h (pe_mod q).symm,cm_cn q⟩
theorem lx_inj {p q:Int × Int} (hp:Cn p) (hq:Cn q) (h:lx p=lx q):p.1=q.1:=by
 have:=congrArg num h
 unfold lx at this
 rwa [num_fill hp.x.1 hp.x.2,num_fill hq.x.1 hq.x.2] at this
theorem ly_inj {p q:Int × Int} (hp:Cn p) (hq:Cn q) (h:ly p=ly q):p.2=q.2:=by
 have:=congrArg num h
 unfold ly at this
 rwa [num_fill hp.y.1 hp.y.2,num_fill hq.y.1 hq.y.2] at this
theorem pEq_cm (p q:Int × Int):(decide (lx (cmP p)=lx (cmP q)) && decide (ly (cmP p)=ly (cmP q)))=pEq p q:=by
 unfold pEq
 congr 1
 ·by_cases h : p.1 % PP = q.1 % PP
  ·rw [decide_eq_true h]
   refine decide_eq_true ?_
   unfold lx cmP
   simp only [h]
  ·rw [decide_eq_false h]
   exact decide_eq_false fun e=>h (lx_inj (cm_cn p) (cm_cn q) e)
 ·by_cases h : p.2 % PP = q.2 % PP
  ·rw [decide_eq_true h]
   refine decide_eq_true ?_
   unfold ly cmP
   simp only [h]
  ·rw [decide_eq_false h]
   exact decide_eq_false fun e=>h (ly_inj (cm_cn p) (cm_cn q) e)
theorem en_inj {p q:Int × Int} (hp:Pv p) (hq:Pv q) (h:en p=en q):lx p=lx q∧ly p=ly q:=by
 obtain ⟨-,a1,a2⟩:=dec_en hp
 obtain ⟨-,b1,b2⟩:=dec_en hq
 rw [h] at a1 a2
 exact ⟨a1.symm.trans b1,a2.symm.trans b2⟩
theorem pEq_en {p q : Int × Int} (hp : OnP PP (-1) d0 p) (hq : OnP PP (-1) d0 q) : decide (en (cmP p) = en (cmP q)) = pEq p q := by
 rw [← pEq_cm]
 by_cases h:en (cmP p)=en (cmP q)
 ·obtain ⟨h1, h2⟩ := en_inj (cm_pv hp) (cm_pv hq) h
  rw [decide_eq_true h,decide_eq_true h1,decide_eq_true h2]
  rfl
 ·rw [decide_eq_false h]
  symm
  rw [Bool.and_eq_false_iff]
  by_cases h1:lx (cmP p)=lx (cmP q)
  ·by_cases h2 : ly (cmP p) = ly (cmP q)
   ·exfalso
    apply h
    have e1:=lx_inj (cm_cn p) (cm_cn q) h1
    have e2:=ly_inj (cm_cn p) (cm_cn q) h2
    rw [Prod.ext e1 e2]
   ·exact Or.inr (decide_eq_false h2)
  ·exact Or.inl (decide_eq_false h1)
theorem zero_onV:OnP PP (-1) d0 (0,1):=pv_zero.on
theorem zero_cm:cmP (0,1)=pZero:=by decide +kernel
theorem smB_en {p:Int × Int} (hp:OnP PP (-1) d0 p):smB p=decide (en (cmP (mlP 8 p))=en pZero):=by
 rw [← zero_cm,pEq_en (mlP_on hp 8) zero_onV]
 rfl
theorem ck_sum (v:Int × Int) (r q:Int × Int):pEq v (addX r q,addY r q)=pEq v (eadd (-1) d0 einv r q):=by
 have a:=add_mod r q
 unfold pEq
 simp only
 rw [a.1,a.2]
def PjE (q:Int × Int):Fact:=⟨fun v _=>∃ (p:W3) (x y z:Nat→Int),v=ag48 x y z∧(L16 x∧s16 x 16 % PP=p.1 % PP)∧(L16 y∧s16 y 16 % PP=p.2.1 % PP)∧(L16 z∧s16 z 16 % PP=p.2.2 % PP)∧Pj p q,fun _ h=>h⟩
theorem timesJ (w:World) (g gx gy:Nat) (a ax ay:Option Addr) (ck cx cy:Nat) (ks:List Int) (P:Int × Int) (k:Nat) (hP:Pv P) (hk:Rd w g a .u8 ks) (bk:Byt ks) (lk:ks.length≤4096) (vk:lsum (fun j=>ks.getD j 0) ks.length=(k:Int)) (hx:Rd w gx ax .u8 (lx P)) (hy:Rd w gy ay .u8 (ly P)) :
  Calls Tryz.prog 13 #[.slice a ks.length ck,.agg #[.slice ax 32 cx,.slice ay 32 cy]] w fun r w'=>(∃ v,r = .returned v∧(PjE (mlP k P)).p v w')∧Below w.heap.size w w':=by
 have h:=l5Times_any w g gx gy a ax ay ck cx cy ks (lx P) (ly P) hk bk lk hx hy (lx_byt P) (ly_byt P) (lx_len P) (ly_len P)
 rw [lx_len,ly_len] at h
 refine h.mono ?_
 rintro r w' ⟨top,p,x,y,z,hc,hp,rfl,h1,h2,h3,n⟩
 have e:bval top=(k:Int):=by rw [hc.2.1,vk]
 have q:=acc_ok hP.on (bitOf top) (8*top.length)
 rw [low_all hc.1 e] at q
 rw [lx_num hP,ly_num hP] at hp
 exact ⟨⟨_,rfl,p,x,y,z,rfl,h1,h2,h3,by rw [hp];exact q⟩,n⟩
theorem plainJ (w:World) (v:Value) (q:Int × Int) (h:(PjE q).p v w):Calls Tryz.prog 12 #[v] w fun r w'=>NewPt w.heap.size w' r (lx (cmP q)) (ly (cmP q))∧Below w.heap.size w w':=by
 obtain ⟨p,x,y,z,rfl,h1,h2,h3,hj⟩:=h
 have:=l5Plain_any w x y z p.1 p.2.1 p.2.2 h1 h2 h3
 have e:=pj_plain hj
 rw [e.1,e.2] at this
 exact this
section
variable {ops : Array Oper} {Q : Exit → Act → World → Prop} {md : Region.Mode} {F : Nat → Fact} {a0 : Act} {w0 : World} {i : Nat} {o : Oper} {ts : Array TypeId}
theorem step_e3J (hi:ops[i]?=some o) (p:Nat) (hop:o.op = .load 38 (.tmp p)) (hp:apart ops p=true) (q:Nat) (h0:a0.tmps.getD p undef = .pointer (some ⟨q,0,none⟩)) {R:Int × Int} (hE:Elt3 w0 q R.1 R.2 1) (hF:F i=PjE R):StepOk Tryz.prog md ops Q F a0 w0 i:=by
 obtain ⟨fs,hfs⟩:=u144
 refine step_load hi _ _ hop _ 48 hfs rfl i144 fun a w hb hw _=>?_
 obtain ⟨x,y,z,r,_,hx,hy,hz⟩:=hE.up hw
 exact ⟨q,0,_,(based_at hb p hp).trans h0,r,c48_len x y z,by rw [hF];exact ⟨(R.1,R.2,1),x,y,z,rfl,hx,hy,hz,Pj.one R⟩⟩
theorem step_sumJ (hi:ops[i]?=some o) (p q r j k l:Nat) {A B:Int × Int} (hA:OnP PP (-1) d0 A) (hB:OnP PP (-1) d0 B) (hop:o.op = .call { callee := .value (.func 22),args := #[.tmp p,.tmp q,.tmp r],argTypes:=ts })
  (hj:waits md ops i j p=true) (hk:waits md ops i k q=true) (hl:waits md ops i l r=true) (hFj:F j=PjE A) (hFk:F k=PjE B) (hFl:F l=EL dE)
  (hFi:F i=PjE (eadd (-1) d0 einv A B)):StepOk Tryz.prog md ops Q F a0 w0 i:=by
 refine step_call hi _ _ ts hop en_sum fun a w _ _ hF=>?_
 have ea:=hF j p hj
 have eb:=hF k q hk
 have ec:=hF l r hl
 rw [hFj] at ea
 rw [hFk] at eb
 rw [hFl] at ec
 obtain ⟨P,x,y,z,e1,hx,hy,hz,jP⟩:=ea
 obtain ⟨P',x',y',z',e2,hx',hy',hz',jP'⟩:=eb
 obtain ⟨e,e3,he⟩:=ec
 show Calls Tryz.prog 22 #[a.tmps.getD p undef,a.tmps.getD q undef,a.tmps.getD r undef] w _
 rw [e1,e2,e3]
 refine (l5Sum_any w x y z x' y' z' e P.1 P.2.1 P.2.2 P'.1 P'.2.1 P'.2.2 dE hx hy hz hx' hy' hz' he).mono ?_
 rintro r w' ⟨u,v,t,rfl,hu,hv,ht,hn⟩
 exact ⟨_,rfl,hn,by rw [hFi];exact ⟨wsum P P' dE,u,v,t,rfl,hu,hv,ht,pj_sum dE_is hA hB jP jP'⟩⟩
theorem step_timesJ (hi:ops[i]?=some o) (p q j k:Nat) {ks:List Int} {P:Int × Int} {n:Nat} (hP:Pv P) {g gx gy:Nat} {a ax ay:Option Addr} {c cx cy:Nat} (hop:o.op = .call { callee := .value (.func 13),args := #[.tmp p,.tmp q],argTypes:=ts })
  (hj:waits md ops i j p=true) (hk:waits md ops i k q=true) (hr:Rd w0 g a .u8 ks) (bk:Byt ks) (lk:ks.length≤4096) (vk:lsum (fun j=>ks.getD j 0) ks.length=(n:Int)) (hx:Rd w0 gx ax .u8 (lx P)) (hy:Rd w0 gy ay .u8 (ly P)) (hFj:F j=Fact.eq (.slice a ks.length c)) (hFk:F k=Fact.eq (.agg #[.slice ax 32 cx,.slice ay 32 cy])) (hFi:F i=PjE (mlP n P)):StepOk Tryz.prog md ops Q F a0 w0 i:=by
 refine step_callv hi _ _ ts hop (by kernel_rfl) fun A w _ hw hF=>?_
 have ea:=hF j p hj
 have eb:=hF k q hk
 rw [hFj] at ea
 rw [hFk] at eb
 show Calls Tryz.prog 13 #[A.tmps.getD p undef,A.tmps.getD q undef] w _
 rw [show A.tmps.getD p undef=_ from ea,show A.tmps.getD q undef=_ from eb]
 refine (timesJ w g gx gy a ax ay c cx cy ks P n hP (hr.up hw) bk lk vk (hx.up hw) (hy.up hw)).mono ?_
 rintro r w' ⟨⟨v,rfl,h⟩,n⟩
 rw [hFi]
 exact ⟨v,rfl,n,h⟩
theorem step_plainJ (hi:ops[i]?=some o) (p j:Nat) {q:Int × Int} (hop:o.op = .call { callee := .value (.func 12),args := #[.tmp p],argTypes:=ts })
  (hj:waits md ops i j p=true) (hFj:F j=PjE q) (hFi:F i=PT w0 (fun xs ys=>xs=lx (cmP q)∧ys=ly (cmP q))):StepOk Tryz.prog md ops Q F a0 w0 i:=by
 refine step_callv hi _ _ ts hop (by kernel_rfl) fun a w _ hw hF=>?_
 have ea:=hF j p hj
 rw [hFj] at ea
 show Calls Tryz.prog 12 #[a.tmps.getD p undef] w _
 refine (plainJ w _ q ea).mono ?_
 rintro r w' ⟨⟨b,b',c,c',g,g',rfl,o1,o2,l1,l2⟩,hn⟩
 rw [hFi]
 exact ⟨_,rfl,hn,_,_,b,b',c,c',g,g',rfl,o1,o2,Nat.le_trans hw.size l1,Nat.le_trans hw.size l2,rfl,rfl⟩
end
end Go.Proofs.YtnpolopcgmjmnaaGreatDoor
