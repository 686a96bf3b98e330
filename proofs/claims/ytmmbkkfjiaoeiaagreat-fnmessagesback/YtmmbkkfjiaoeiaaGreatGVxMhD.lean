import Derived.Test.YtmmbkkfjiaoeiaaGreatGV15
import Derived.Test.YtmmbkkfjiaoeiaaGreatGV14
namespace Go.Proofs.YtmmbkkfjiaoeiaaGreat
open Go Go.RowKit
def spT (ok:Bool) (k ag ea:Int) (n6 n11:Nat) (cb:Bool):Int:=if ok=false then 5 else if 400 < n6∨(k=4∧n6=0) then 6 else if ag < 0∨4294967295 < ag∨ea < 0∨(if k=4 then 4294967295 else 1) < ea then 7 else if k=11∧(n11=0∨4 < n11) then 8 else if cb=true then 8 else 0
def spV (kn xt sz:Bool) (nf:Int) (p8 p1:Bool) (k ag ea:Int) (n6 n11:Nat) (cb:Bool):Int:=if kn=false then 1 else if xt=true then 2 else if sz=false then 3 else if k=1∧nf≠0 then 4 else spT (if k=8 then p1 else p8) k ag ea n6 n11 cb
theorem ctA_of {ce:List (List Int)} {j:Nat} (hj:j < ce.length) (h:ctO (ce.getD j []).length=true):ctA ce=true:=by
 unfold ctA
 rw [List.any_eq_true]
 exact ⟨ce.getD j [],by simp [hj],h⟩
theorem ctA_none {ce:List (List Int)} (h:∀ j,j < ce.length→ctO (ce.getD j []).length=false):ctA ce=false:=by
 unfold ctA
 rw [Bool.eq_false_iff]
 intro e
 obtain ⟨b,hb,hc⟩:=List.any_eq_true.1 e
 obtain ⟨i,hi,rfl⟩:=List.getElem_of_mem hb
 have:=h i hi
 rw [List.getD_eq_getElem?_getD,List.getElem?_eq_getElem hi] at this
 rw [Option.getD_some] at this
 rw [this] at hc
 cases hc
set_option linter.unusedSimpArgs false in
set_option maxRecDepth 20000 in
set_option maxHeartbeats 8000000 in
theorem specMF_walk (w : World) (k v ag ea : Int) (a2 a3 a5 a6 a9 a11 a12 : Option Addr) (n2 n3 n5 n6 n9 n12 c2 c3 c5 c6 c9 c11 c12 : Nat) (ho : List UInt8) (rs : Bool) (ce : List (List Int)) (g11 : Nat) (ps : List Plb) (kn xt sz p8 p1 : Bool) (nf : Int)
    (KN:∀ W,Calls Tryz.prog 18 #[.int .i64 k] W fun e W'=>e = .returned (.bool kn)∧Below W.heap.size W W')
    (XT:∀ W,Calls Tryz.prog 19 #[.agg #[.int .i64 k,.int .i64 v,.slice a2 n2 c2,.slice a3 n3 c3,.string ⟨⟨ho⟩⟩,.slice a5 n5 c5,.slice a6 n6 c6,.int .i64 ag,.int .i64 ea,.slice a9 n9 c9,.bool rs,.slice a11 ce.length c11,.slice a12 n12 c12]] W fun e W'=>e = .returned (.bool xt)∧Below W.heap.size W W')
    (SZ:∀ W,Calls Tryz.prog 20 #[.agg #[.int .i64 k,.int .i64 v,.slice a2 n2 c2,.slice a3 n3 c3,.string ⟨⟨ho⟩⟩,.slice a5 n5 c5,.slice a6 n6 c6,.int .i64 ag,.int .i64 ea,.slice a9 n9 c9,.bool rs,.slice a11 ce.length c11,.slice a12 n12 c12]] W fun e W'=>e = .returned (.bool sz)∧Below W.heap.size W W')
    (NF0:∀ W,Calls Tryz.prog 21 #[.string ⟨⟨ho⟩⟩] W fun e W'=>e = .returned (.int .i64 nf)∧Below W.heap.size W W')
    (PR80:∀ W,Below w.heap.size w W→Calls Tryz.prog 22 #[.slice a5 n5 c5,.int .i64 8] W fun e W'=>e = .returned (.bool p8)∧Below W.heap.size W W')
    (PR10:∀ W,Below w.heap.size w W→Calls Tryz.prog 22 #[.slice a5 n5 c5,.int .i64 1] W fun e W'=>e = .returned (.bool p1)∧Below W.heap.size W W')
    (CE0:RdL w g11 a11 ce ps) (CL0:∀ i,i < ce.length→(ce.getD i []).length≤1048576) (L6:n6≤1048576) (L11:ce.length≤1048576) :
    Calls Tryz.prog 6 #[.agg #[.int .i64 k,.int .i64 v,.slice a2 n2 c2,.slice a3 n3 c3,.string ⟨⟨ho⟩⟩,.slice a5 n5 c5,.slice a6 n6 c6,.int .i64 ag,.int .i64 ea,.slice a9 n9 c9,.bool rs,.slice a11 ce.length c11,.slice a12 n12 c12]] w fun e w'=>e = .returned (.int .i64 (spV kn xt sz nf p8 p1 k ag ea n6 ce.length (ctA ce)))∧Below w.heap.size w w':=by
  have B:=RwC.new w [.int .i64 k,.int .i64 v,.slice a2 n2 c2,.slice a3 n3 c3,.string ⟨⟨ho⟩⟩,.slice a5 n5 c5,.slice a6 n6 c6,.int .i64 ag,.int .i64 ea,.slice a9 n9 c9,.bool rs,.slice a11 ce.length c11,.slice a12 n12 c12] 26
  have N:Below w.heap.size w (w.alloc (.cells #[.int .i64 k,.int .i64 v,.slice a2 n2 c2,.slice a3 n3 c3,.string ⟨⟨ho⟩⟩,.slice a5 n5 c5,.slice a6 n6 c6,.int .i64 ag,.int .i64 ea,.slice a9 n9 c9,.bool rs,.slice a11 ce.length c11,.slice a12 n12 c12] 26)):=(Below.refl _ _).alloc (Nat.le_refl _) _
  obtain ⟨d13,hd13,hrow13⟩:=rowM
  have KNh:=hide KN
  have XTh:=hide XT
  have SZh:=hide SZ
  have NF:=hide NF0
  have PR8:=hide PR80
  have PR1:=hide PR10
  have CE:=hide CE0
  have CL:=hide CL0
  clear KN XT SZ NF0 PR80 PR10 CE0 CL0
  go_enter Tryz.func6,Tryz.ntmps6
  go_upto_region 1 with fail
  have B:RwC (w.alloc (.cells #[.int .i64 k,.int .i64 v,.slice a2 n2 c2,.slice a3 n3 c3,.string ⟨⟨ho⟩⟩,.slice a5 n5 c5,.slice a6 n6 c6,.int .i64 ag,.int .i64 ea,.slice a9 n9 c9,.bool rs,.slice a11 ce.length c11,.slice a12 n12 c12] 26)) w.heap.size [.int .i64 k,.int .i64 v,.slice a2 n2 c2,.slice a3 n3 c3,.string ⟨⟨ho⟩⟩,.slice a5 n5 c5,.slice a6 n6 c6,.int .i64 ag,.int .i64 ea,.slice a9 n9 c9,.bool rs,.slice a11 ce.length c11,.slice a12 n12 c12] 26:=B
  generalize (w.alloc (.cells #[.int .i64 k,.int .i64 v,.slice a2 n2 c2,.slice a3 n3 c3,.string ⟨⟨ho⟩⟩,.slice a5 n5 c5,.slice a6 n6 c6,.int .i64 ag,.int .i64 ea,.slice a9 n9 c9,.bool rs,.slice a11 ce.length c11,.slice a12 n12 c12] 26))=wb at *
  have c0_:wb.cell? ⟨w.heap.size,0,none⟩=some (Value.int .i64 k):=B.cell 0
  have CK:=hide (KNh.out wb)
  clear KNh
  go_wp2_with fail
  refine CK.out.mono ?_
  rintro e W1 ⟨rfl,n_⟩
  replace B:=B.up n_
  replace N:=nxt N n_
  clear n_ CK c0_
  cases kn with
  | false =>
    go_wp2
    go_ret
    exact ⟨by simp [spV],N⟩
  | true =>
    have RG:=B.range
    have CX:=hide (XTh.out W1)
    clear XTh
    go_wp2_with (first | (refine wpList_load_mid rfl 26 (.tmp 1) rfl w.heap.size 0 rfl [.int .i64 k,.int .i64 v,.slice a2 n2 c2,.slice a3 n3 c3,.string ⟨⟨ho⟩⟩,.slice a5 n5 c5,.slice a6 n6 c6,.int .i64 ag,.int .i64 ea,.slice a9 n9 c9,.bool rs,.slice a11 ce.length c11,.slice a12 n12 c12] d13 RG hd13 hrow13 iM ?_) | fail)
    refine CX.out.mono ?_
    rintro e W2 ⟨rfl,n_⟩
    replace B:=B.up n_
    replace N:=nxt N n_
    clear n_ CX RG
    cases xt with
    | true =>
      go_wp2
      go_ret
      exact ⟨by simp [spV],N⟩
    | false =>
      have RG:=B.range
      have CZ:=hide (SZh.out W2)
      clear SZh
      go_wp2_with (first | (refine wpList_load_mid rfl 26 (.tmp 1) rfl w.heap.size 0 rfl [.int .i64 k,.int .i64 v,.slice a2 n2 c2,.slice a3 n3 c3,.string ⟨⟨ho⟩⟩,.slice a5 n5 c5,.slice a6 n6 c6,.int .i64 ag,.int .i64 ea,.slice a9 n9 c9,.bool rs,.slice a11 ce.length c11,.slice a12 n12 c12] d13 RG hd13 hrow13 iM ?_) | fail)
      refine CZ.out.mono ?_
      rintro e W3 ⟨rfl,n_⟩
      replace B:=B.up n_
      replace N:=nxt N n_
      clear n_ CZ RG
      cases sz with
      | false =>
        go_wp2
        go_ret
        exact ⟨by simp [spV],N⟩
      | true =>
        by_cases hk1:k=1
        · skip
          have q1:(k == 1)=true:=by rw [hk1];rfl
          have q4:(k == 4)=false:=by rw [hk1];rfl
          have q8:(k == 8)=false:=by rw [hk1];rfl
          have q11:(k == 11)=false:=by rw [hk1];rfl
          have c0_:W3.cell? ⟨w.heap.size,0,none⟩=some (Value.int .i64 k):=B.cell 0
          have c4_:W3.cell? ⟨w.heap.size,4,none⟩=some (Value.string ⟨⟨ho⟩⟩):=B.cell 4
          have c5_:W3.cell? ⟨w.heap.size,5,none⟩=some (Value.slice a5 n5 c5):=B.cell 5
          have c6_:W3.cell? ⟨w.heap.size,6,none⟩=some (Value.slice a6 n6 c6):=B.cell 6
          have c7_:W3.cell? ⟨w.heap.size,7,none⟩=some (Value.int .i64 ag):=B.cell 7
          have c8_:W3.cell? ⟨w.heap.size,8,none⟩=some (Value.int .i64 ea):=B.cell 8
          have c11_:W3.cell? ⟨w.heap.size,11,none⟩=some (Value.slice a11 ce.length c11):=B.cell 11
          have nfH:=NF.out W3
          by_cases hn:nf=0
          rotate_left
          · have tn : (nf != 0) = true := bne_iff_ne.2 hn
            go_wp2_with fail
            refine nfH.mono ?_
            rintro e W7 ⟨rfl,n_⟩
            replace N:=nxt N n_
            go_wp2
            go_ret
            exact ⟨by simp [spV,spT,hk1,hn],N⟩
          have tn:(nf != 0)=false:=by rw [hn];rfl
          go_wp2_with fail
          refine nfH.mono ?_
          rintro e W7 ⟨rfl,n_⟩
          replace B:=B.up n_
          replace N:=nxt N n_
          clear n_ nfH c0_ c4_ c5_ c6_ c7_ c8_ c11_
          have c0_:W7.cell? ⟨w.heap.size,0,none⟩=some (Value.int .i64 k):=B.cell 0
          have c5_:W7.cell? ⟨w.heap.size,5,none⟩=some (Value.slice a5 n5 c5):=B.cell 5
          have c6_:W7.cell? ⟨w.heap.size,6,none⟩=some (Value.slice a6 n6 c6):=B.cell 6
          have c7_:W7.cell? ⟨w.heap.size,7,none⟩=some (Value.int .i64 ag):=B.cell 7
          have c8_:W7.cell? ⟨w.heap.size,8,none⟩=some (Value.int .i64 ea):=B.cell 8
          have c11_:W7.cell? ⟨w.heap.size,11,none⟩=some (Value.slice a11 ce.length c11):=B.cell 11
          have prH:=PR8.out W7 N
          go_wp2_with fail
          refine prH.mono ?_
          rintro e W8 ⟨rfl,n_⟩
          replace B:=B.up n_
          replace N:=nxt N n_
          clear n_ prH c0_ c5_ c6_ c7_ c8_ c11_
          cases hp:p8 with
          | false =>
            go_wp2
            go_ret
            exact ⟨by simp [spV,spT,hk1,hn,hp],N⟩
          | true =>
            have c0_:W8.cell? ⟨w.heap.size,0,none⟩=some (Value.int .i64 k):=B.cell 0
            have c6_:W8.cell? ⟨w.heap.size,6,none⟩=some (Value.slice a6 n6 c6):=B.cell 6
            have c7_:W8.cell? ⟨w.heap.size,7,none⟩=some (Value.int .i64 ag):=B.cell 7
            have c8_:W8.cell? ⟨w.heap.size,8,none⟩=some (Value.int .i64 ea):=B.cell 8
            have c11_:W8.cell? ⟨w.heap.size,11,none⟩=some (Value.slice a11 ce.length c11):=B.cell 11
            by_cases h6:400 < n6
            · have t_h6 : decide ((400 : Int) < (n6 : Int)) = true := by simp; omega
              go_wp2
              go_ret
              exact ⟨by simp [spV,spT,hk1,hn,hp,h6],N⟩
            have t_h6:decide ((400:Int) < (n6:Int))=false:=by simp;omega
            by_cases g0:ag < 0
            · have t_g0 : decide (ag < 0) = true := by simp; omega
              go_wp2
              go_ret
              exact ⟨by simp [spV,spT,hk1,hn,hp,h6,g0],N⟩
            have t_g0:decide (ag < 0)=false:=by simp;omega
            by_cases g1:4294967295 < ag
            · have t_g1 : decide (4294967295 < ag) = true := by simp; omega
              go_wp2
              go_ret
              exact ⟨by simp [spV,spT,hk1,hn,hp,h6,g0,g1],N⟩
            have t_g1:decide (4294967295 < ag)=false:=by simp;omega
            by_cases e0:ea < 0
            · have t_e0 : decide (ea < 0) = true := by simp; omega
              go_wp2
              go_ret
              exact ⟨by simp [spV,spT,hk1,hn,hp,h6,g0,g1,e0],N⟩
            have t_e0:decide (ea < 0)=false:=by simp;omega
            by_cases e1:1 < ea
            · have t_e1 : decide (1 < ea) = true := by simp; omega
              go_wp2
              go_ret
              exact ⟨by simp [spV,spT,hk1,hn,hp,h6,g0,g1,e0,e1],N⟩
            have t_e1:decide (1 < ea)=false:=by simp;omega
            have HB:=hide B
            have HN:=hide N
            clear B N
            go_wp2
            clear c0_ c6_ c7_ c8_ c11_
            go_loopw [5] (fun i wr=>∃ (j:Nat),j≤ce.length∧i = .int .i64 j∧Below w.heap.size w wr∧RwC wr w.heap.size [.int .i64 k,.int .i64 v,.slice a2 n2 c2,.slice a3 n3 c3,.string ⟨⟨ho⟩⟩,.slice a5 n5 c5,.slice a6 n6 c6,.int .i64 ag,.int .i64 ea,.slice a9 n9 c9,.bool rs,.slice a11 ce.length c11,.slice a12 n12 c12] 26∧∀ t,t < j→ctO (ce.getD t []).length=false) (fun i _=>ce.length - (intOf i).toNat)
            case atStart=>exact ⟨0,Nat.zero_le _,rfl,HN.out,HB.out,fun j hj=>absurd hj (by omega)⟩
            case round =>
              obtain ⟨j,hj,rfl,N,B,hall⟩:=hrel
              clear HB HN
              have c11_:wr.cell? ⟨w.heap.size,11,none⟩=some (Value.slice a11 ce.length c11):=B.cell 11
              have HALL:=hide hall
              have Bh:=hide B
              have Nh:=hide N
              clear hall B N
              by_cases hlt:j < ce.length
              · obtain ⟨off, rfl, hcl⟩ := (CE.out.up Nh.out).r (by omega)
                have t0:(j:Int) < (ce.length:Int):=by omega
                have c1:=hcl j hlt
                have CO:=hide (fun h=>ctA_of hlt h)
                have CZ:=CL.out j hlt
                clear hcl
                have CD:=hide (show ctO (ce.getD j []).length=(decide ((ce.getD j []).length=0) || decide (2000 < (ce.getD j []).length)) from rfl)
                generalize hL:(ce.getD j []).length=L at *
                have HL:=hide hL
                clear hL
                by_cases l0:L=0
                · have tl0 : ((L : Int) == 0) = true := by rw [l0]; rfl
                  have cA:=CO.out (by rw [CD.out,l0];rfl)
                  go_wp2
                  go_ret
                  exact ⟨by simp [spV,spT,cA,hk1,hn,hp,h6,g0,g1,e0,e1],Nh.out⟩
                have tl0:((L:Int) == 0)=false:=beq_eq_false_iff_ne.2 (by omega)
                by_cases l2:2000 < L
                · have tl2 : decide ((2000 : Int) < (L : Int)) = true := by simp; omega
                  have cA:=CO.out (by rw [CD.out];simp [l2])
                  go_wp2
                  go_ret
                  exact ⟨by simp [spV,spT,cA,hk1,hn,hp,h6,g0,g1,e0,e1],Nh.out⟩
                have tl2:decide ((2000:Int) < (L:Int))=false:=by simp;omega
                have NXT:Hid (∀ t,t < j+1→ctO (ce.getD t []).length=false):=fun t ht=>by
                  by_cases h:t=j
                  · subst h
                    rw [HL.out,CD.out]
                    simp [l0,l2]
                  · exact HALL.out t (by omega)
                clear CO CD HALL l0 l2 HL
                go_wp2
                go_roundw
                case rel=>exact ⟨j+1,by omega,by go_num,Nh.out,Bh.out,NXT.out⟩
                case measure=>simp [intOf];omega
              · obtain rfl : j = ce.length := by omega
                have cA:=ctA_none HALL.out
                go_wp2
                go_ret
                exact ⟨by simp [spV,spT,cA,hk1,hn,hp,h6,g0,g1,e0,e1],Nh.out⟩
        by_cases hk4:k=4
        · skip
          have q1:(k == 1)=false:=by rw [hk4];rfl
          have q4:(k == 4)=true:=by rw [hk4];rfl
          have q8:(k == 8)=false:=by rw [hk4];rfl
          have q11:(k == 11)=false:=by rw [hk4];rfl
          have c0_:W3.cell? ⟨w.heap.size,0,none⟩=some (Value.int .i64 k):=B.cell 0
          have c4_:W3.cell? ⟨w.heap.size,4,none⟩=some (Value.string ⟨⟨ho⟩⟩):=B.cell 4
          have c5_:W3.cell? ⟨w.heap.size,5,none⟩=some (Value.slice a5 n5 c5):=B.cell 5
          have c6_:W3.cell? ⟨w.heap.size,6,none⟩=some (Value.slice a6 n6 c6):=B.cell 6
          have c7_:W3.cell? ⟨w.heap.size,7,none⟩=some (Value.int .i64 ag):=B.cell 7
          have c8_:W3.cell? ⟨w.heap.size,8,none⟩=some (Value.int .i64 ea):=B.cell 8
          have c11_:W3.cell? ⟨w.heap.size,11,none⟩=some (Value.slice a11 ce.length c11):=B.cell 11
          have prH:=PR8.out W3 N
          go_wp2_with fail
          refine prH.mono ?_
          rintro e W8 ⟨rfl,n_⟩
          replace B:=B.up n_
          replace N:=nxt N n_
          clear n_ prH c0_ c4_ c5_ c6_ c7_ c8_ c11_
          cases hp:p8 with
          | false =>
            go_wp2
            go_ret
            exact ⟨by simp [spV,spT,hk4,hp],N⟩
          | true =>
            have c0_:W8.cell? ⟨w.heap.size,0,none⟩=some (Value.int .i64 k):=B.cell 0
            have c6_:W8.cell? ⟨w.heap.size,6,none⟩=some (Value.slice a6 n6 c6):=B.cell 6
            have c7_:W8.cell? ⟨w.heap.size,7,none⟩=some (Value.int .i64 ag):=B.cell 7
            have c8_:W8.cell? ⟨w.heap.size,8,none⟩=some (Value.int .i64 ea):=B.cell 8
            have c11_:W8.cell? ⟨w.heap.size,11,none⟩=some (Value.slice a11 ce.length c11):=B.cell 11
            by_cases h6:400 < n6
            · have t_h6 : decide ((400 : Int) < (n6 : Int)) = true := by simp; omega
              go_wp2
              go_ret
              exact ⟨by simp [spV,spT,hk4,hp,h6],N⟩
            have t_h6:decide ((400:Int) < (n6:Int))=false:=by simp;omega
            by_cases h60:n6=0
            · have t_h60 : ((n6 : Int) == 0) = true := by rw [h60]; rfl
              go_wp2
              go_ret
              exact ⟨by simp [spV,spT,hk4,hp,h6,h60],N⟩
            have t_h60:((n6:Int) == 0)=false:=beq_eq_false_iff_ne.2 (by omega)
            by_cases g0:ag < 0
            · have t_g0 : decide (ag < 0) = true := by simp; omega
              go_wp2
              go_ret
              exact ⟨by simp [spV,spT,hk4,hp,h6,h60,g0],N⟩
            have t_g0:decide (ag < 0)=false:=by simp;omega
            by_cases g1:4294967295 < ag
            · have t_g1 : decide (4294967295 < ag) = true := by simp; omega
              go_wp2
              go_ret
              exact ⟨by simp [spV,spT,hk4,hp,h6,h60,g0,g1],N⟩
            have t_g1:decide (4294967295 < ag)=false:=by simp;omega
            by_cases e0:ea < 0
            · have t_e0 : decide (ea < 0) = true := by simp; omega
              go_wp2
              go_ret
              exact ⟨by simp [spV,spT,hk4,hp,h6,h60,g0,g1,e0],N⟩
            have t_e0:decide (ea < 0)=false:=by simp;omega
            by_cases e1:4294967295 < ea
            · have t_e1 : decide (4294967295 < ea) = true := by simp; omega
              go_wp2
              go_ret
              exact ⟨by simp [spV,spT,hk4,hp,h6,h60,g0,g1,e0,e1],N⟩
            have t_e1:decide (4294967295 < ea)=false:=by simp;omega
            have HB:=hide B
            have HN:=hide N
            clear B N
            go_wp2
            clear c0_ c6_ c7_ c8_ c11_
            go_loopw [5] (fun i wr=>∃ (j:Nat),j≤ce.length∧i = .int .i64 j∧Below w.heap.size w wr∧RwC wr w.heap.size [.int .i64 k,.int .i64 v,.slice a2 n2 c2,.slice a3 n3 c3,.string ⟨⟨ho⟩⟩,.slice a5 n5 c5,.slice a6 n6 c6,.int .i64 ag,.int .i64 ea,.slice a9 n9 c9,.bool rs,.slice a11 ce.length c11,.slice a12 n12 c12] 26∧∀ t,t < j→ctO (ce.getD t []).length=false) (fun i _=>ce.length - (intOf i).toNat)
            case atStart=>exact ⟨0,Nat.zero_le _,rfl,HN.out,HB.out,fun j hj=>absurd hj (by omega)⟩
            case round =>
              obtain ⟨j,hj,rfl,N,B,hall⟩:=hrel
              clear HB HN
              have c11_:wr.cell? ⟨w.heap.size,11,none⟩=some (Value.slice a11 ce.length c11):=B.cell 11
              have HALL:=hide hall
              have Bh:=hide B
              have Nh:=hide N
              clear hall B N
              by_cases hlt:j < ce.length
              · obtain ⟨off, rfl, hcl⟩ := (CE.out.up Nh.out).r (by omega)
                have t0:(j:Int) < (ce.length:Int):=by omega
                have c1:=hcl j hlt
                have CO:=hide (fun h=>ctA_of hlt h)
                have CZ:=CL.out j hlt
                clear hcl
                have CD:=hide (show ctO (ce.getD j []).length=(decide ((ce.getD j []).length=0) || decide (2000 < (ce.getD j []).length)) from rfl)
                generalize hL:(ce.getD j []).length=L at *
                have HL:=hide hL
                clear hL
                by_cases l0:L=0
                · have tl0 : ((L : Int) == 0) = true := by rw [l0]; rfl
                  have cA:=CO.out (by rw [CD.out,l0];rfl)
                  go_wp2
                  go_ret
                  exact ⟨by simp [spV,spT,cA,hk4,hp,h6,h60,g0,g1,e0,e1],Nh.out⟩
                have tl0:((L:Int) == 0)=false:=beq_eq_false_iff_ne.2 (by omega)
                by_cases l2:2000 < L
                · have tl2 : decide ((2000 : Int) < (L : Int)) = true := by simp; omega
                  have cA:=CO.out (by rw [CD.out];simp [l2])
                  go_wp2
                  go_ret
                  exact ⟨by simp [spV,spT,cA,hk4,hp,h6,h60,g0,g1,e0,e1],Nh.out⟩
                have tl2:decide ((2000:Int) < (L:Int))=false:=by simp;omega
                have NXT:Hid (∀ t,t < j+1→ctO (ce.getD t []).length=false):=fun t ht=>by
                  by_cases h:t=j
                  · subst h
                    rw [HL.out,CD.out]
                    simp [l0,l2]
                  · exact HALL.out t (by omega)
                clear CO CD HALL l0 l2 HL
                go_wp2
                go_roundw
                case rel=>exact ⟨j+1,by omega,by go_num,Nh.out,Bh.out,NXT.out⟩
                case measure=>simp [intOf];omega
              · obtain rfl : j = ce.length := by omega
                have cA:=ctA_none HALL.out
                go_wp2
                go_ret
                exact ⟨by simp [spV,spT,cA,hk4,hp,h6,h60,g0,g1,e0,e1],Nh.out⟩
        by_cases hk8:k=8
        · skip
          have q1:(k == 1)=false:=by rw [hk8];rfl
          have q4:(k == 4)=false:=by rw [hk8];rfl
          have q8:(k == 8)=true:=by rw [hk8];rfl
          have q11:(k == 11)=false:=by rw [hk8];rfl
          have c0_:W3.cell? ⟨w.heap.size,0,none⟩=some (Value.int .i64 k):=B.cell 0
          have c4_:W3.cell? ⟨w.heap.size,4,none⟩=some (Value.string ⟨⟨ho⟩⟩):=B.cell 4
          have c5_:W3.cell? ⟨w.heap.size,5,none⟩=some (Value.slice a5 n5 c5):=B.cell 5
          have c6_:W3.cell? ⟨w.heap.size,6,none⟩=some (Value.slice a6 n6 c6):=B.cell 6
          have c7_:W3.cell? ⟨w.heap.size,7,none⟩=some (Value.int .i64 ag):=B.cell 7
          have c8_:W3.cell? ⟨w.heap.size,8,none⟩=some (Value.int .i64 ea):=B.cell 8
          have c11_:W3.cell? ⟨w.heap.size,11,none⟩=some (Value.slice a11 ce.length c11):=B.cell 11
          have prH:=PR1.out W3 N
          go_wp2_with fail
          refine prH.mono ?_
          rintro e W8 ⟨rfl,n_⟩
          replace B:=B.up n_
          replace N:=nxt N n_
          clear n_ prH c0_ c4_ c5_ c6_ c7_ c8_ c11_
          cases hp:p1 with
          | false =>
            go_wp2
            go_ret
            exact ⟨by simp [spV,spT,hk8,hp],N⟩
          | true =>
            have c0_:W8.cell? ⟨w.heap.size,0,none⟩=some (Value.int .i64 k):=B.cell 0
            have c6_:W8.cell? ⟨w.heap.size,6,none⟩=some (Value.slice a6 n6 c6):=B.cell 6
            have c7_:W8.cell? ⟨w.heap.size,7,none⟩=some (Value.int .i64 ag):=B.cell 7
            have c8_:W8.cell? ⟨w.heap.size,8,none⟩=some (Value.int .i64 ea):=B.cell 8
            have c11_:W8.cell? ⟨w.heap.size,11,none⟩=some (Value.slice a11 ce.length c11):=B.cell 11
            by_cases h6:400 < n6
            · have t_h6 : decide ((400 : Int) < (n6 : Int)) = true := by simp; omega
              go_wp2
              go_ret
              exact ⟨by simp [spV,spT,hk8,hp,h6],N⟩
            have t_h6:decide ((400:Int) < (n6:Int))=false:=by simp;omega
            by_cases g0:ag < 0
            · have t_g0 : decide (ag < 0) = true := by simp; omega
              go_wp2
              go_ret
              exact ⟨by simp [spV,spT,hk8,hp,h6,g0],N⟩
            have t_g0:decide (ag < 0)=false:=by simp;omega
            by_cases g1:4294967295 < ag
            · have t_g1 : decide (4294967295 < ag) = true := by simp; omega
              go_wp2
              go_ret
              exact ⟨by simp [spV,spT,hk8,hp,h6,g0,g1],N⟩
            have t_g1:decide (4294967295 < ag)=false:=by simp;omega
            by_cases e0:ea < 0
            · have t_e0 : decide (ea < 0) = true := by simp; omega
              go_wp2
              go_ret
              exact ⟨by simp [spV,spT,hk8,hp,h6,g0,g1,e0],N⟩
            have t_e0:decide (ea < 0)=false:=by simp;omega
            by_cases e1:1 < ea
            · have t_e1 : decide (1 < ea) = true := by simp; omega
              go_wp2
              go_ret
              exact ⟨by simp [spV,spT,hk8,hp,h6,g0,g1,e0,e1],N⟩
            have t_e1:decide (1 < ea)=false:=by simp;omega
            have HB:=hide B
            have HN:=hide N
            clear B N
            go_wp2
            clear c0_ c6_ c7_ c8_ c11_
            go_loopw [5] (fun i wr=>∃ (j:Nat),j≤ce.length∧i = .int .i64 j∧Below w.heap.size w wr∧RwC wr w.heap.size [.int .i64 k,.int .i64 v,.slice a2 n2 c2,.slice a3 n3 c3,.string ⟨⟨ho⟩⟩,.slice a5 n5 c5,.slice a6 n6 c6,.int .i64 ag,.int .i64 ea,.slice a9 n9 c9,.bool rs,.slice a11 ce.length c11,.slice a12 n12 c12] 26∧∀ t,t < j→ctO (ce.getD t []).length=false) (fun i _=>ce.length - (intOf i).toNat)
            case atStart=>exact ⟨0,Nat.zero_le _,rfl,HN.out,HB.out,fun j hj=>absurd hj (by omega)⟩
            case round =>
              obtain ⟨j,hj,rfl,N,B,hall⟩:=hrel
              clear HB HN
              have c11_:wr.cell? ⟨w.heap.size,11,none⟩=some (Value.slice a11 ce.length c11):=B.cell 11
              have HALL:=hide hall
              have Bh:=hide B
              have Nh:=hide N
              clear hall B N
              by_cases hlt:j < ce.length
              · obtain ⟨off, rfl, hcl⟩ := (CE.out.up Nh.out).r (by omega)
                have t0:(j:Int) < (ce.length:Int):=by omega
                have c1:=hcl j hlt
                have CO:=hide (fun h=>ctA_of hlt h)
                have CZ:=CL.out j hlt
                clear hcl
                have CD:=hide (show ctO (ce.getD j []).length=(decide ((ce.getD j []).length=0) || decide (2000 < (ce.getD j []).length)) from rfl)
                generalize hL:(ce.getD j []).length=L at *
                have HL:=hide hL
                clear hL
                by_cases l0:L=0
                · have tl0 : ((L : Int) == 0) = true := by rw [l0]; rfl
                  have cA:=CO.out (by rw [CD.out,l0];rfl)
                  go_wp2
                  go_ret
                  exact ⟨by simp [spV,spT,cA,hk8,hp,h6,g0,g1,e0,e1],Nh.out⟩
                have tl0:((L:Int) == 0)=false:=beq_eq_false_iff_ne.2 (by omega)
                by_cases l2:2000 < L
                · have tl2 : decide ((2000 : Int) < (L : Int)) = true := by simp; omega
                  have cA:=CO.out (by rw [CD.out];simp [l2])
                  go_wp2
                  go_ret
                  exact ⟨by simp [spV,spT,cA,hk8,hp,h6,g0,g1,e0,e1],Nh.out⟩
                have tl2:decide ((2000:Int) < (L:Int))=false:=by simp;omega
                have NXT:Hid (∀ t,t < j+1→ctO (ce.getD t []).length=false):=fun t ht=>by
                  by_cases h:t=j
                  · subst h
                    rw [HL.out,CD.out]
                    simp [l0,l2]
                  · exact HALL.out t (by omega)
                clear CO CD HALL l0 l2 HL
                go_wp2
                go_roundw
                case rel=>exact ⟨j+1,by omega,by go_num,Nh.out,Bh.out,NXT.out⟩
                case measure=>simp [intOf];omega
              · obtain rfl : j = ce.length := by omega
                have cA:=ctA_none HALL.out
                go_wp2
                go_ret
                exact ⟨by simp [spV,spT,cA,hk8,hp,h6,g0,g1,e0,e1],Nh.out⟩
        by_cases hk11:k=11
        · skip
          have q1:(k == 1)=false:=by rw [hk11];rfl
          have q4:(k == 4)=false:=by rw [hk11];rfl
          have q8:(k == 8)=false:=by rw [hk11];rfl
          have q11:(k == 11)=true:=by rw [hk11];rfl
          have c0_:W3.cell? ⟨w.heap.size,0,none⟩=some (Value.int .i64 k):=B.cell 0
          have c4_:W3.cell? ⟨w.heap.size,4,none⟩=some (Value.string ⟨⟨ho⟩⟩):=B.cell 4
          have c5_:W3.cell? ⟨w.heap.size,5,none⟩=some (Value.slice a5 n5 c5):=B.cell 5
          have c6_:W3.cell? ⟨w.heap.size,6,none⟩=some (Value.slice a6 n6 c6):=B.cell 6
          have c7_:W3.cell? ⟨w.heap.size,7,none⟩=some (Value.int .i64 ag):=B.cell 7
          have c8_:W3.cell? ⟨w.heap.size,8,none⟩=some (Value.int .i64 ea):=B.cell 8
          have c11_:W3.cell? ⟨w.heap.size,11,none⟩=some (Value.slice a11 ce.length c11):=B.cell 11
          have prH:=PR8.out W3 N
          go_wp2_with fail
          refine prH.mono ?_
          rintro e W8 ⟨rfl,n_⟩
          replace B:=B.up n_
          replace N:=nxt N n_
          clear n_ prH c0_ c4_ c5_ c6_ c7_ c8_ c11_
          cases hp:p8 with
          | false =>
            go_wp2
            go_ret
            exact ⟨by simp [spV,spT,hk11,hp],N⟩
          | true =>
            have c0_:W8.cell? ⟨w.heap.size,0,none⟩=some (Value.int .i64 k):=B.cell 0
            have c6_:W8.cell? ⟨w.heap.size,6,none⟩=some (Value.slice a6 n6 c6):=B.cell 6
            have c7_:W8.cell? ⟨w.heap.size,7,none⟩=some (Value.int .i64 ag):=B.cell 7
            have c8_:W8.cell? ⟨w.heap.size,8,none⟩=some (Value.int .i64 ea):=B.cell 8
            have c11_:W8.cell? ⟨w.heap.size,11,none⟩=some (Value.slice a11 ce.length c11):=B.cell 11
            by_cases h6:400 < n6
            · have t_h6 : decide ((400 : Int) < (n6 : Int)) = true := by simp; omega
              go_wp2
              go_ret
              exact ⟨by simp [spV,spT,hk11,hp,h6],N⟩
            have t_h6:decide ((400:Int) < (n6:Int))=false:=by simp;omega
            by_cases g0:ag < 0
            · have t_g0 : decide (ag < 0) = true := by simp; omega
              go_wp2
              go_ret
              exact ⟨by simp [spV,spT,hk11,hp,h6,g0],N⟩
            have t_g0:decide (ag < 0)=false:=by simp;omega
            by_cases g1:4294967295 < ag
            · have t_g1 : decide (4294967295 < ag) = true := by simp; omega
              go_wp2
              go_ret
              exact ⟨by simp [spV,spT,hk11,hp,h6,g0,g1],N⟩
            have t_g1:decide (4294967295 < ag)=false:=by simp;omega
            by_cases e0:ea < 0
            · have t_e0 : decide (ea < 0) = true := by simp; omega
              go_wp2
              go_ret
              exact ⟨by simp [spV,spT,hk11,hp,h6,g0,g1,e0],N⟩
            have t_e0:decide (ea < 0)=false:=by simp;omega
            by_cases e1:1 < ea
            · have t_e1 : decide (1 < ea) = true := by simp; omega
              go_wp2
              go_ret
              exact ⟨by simp [spV,spT,hk11,hp,h6,g0,g1,e0,e1],N⟩
            have t_e1:decide (1 < ea)=false:=by simp;omega
            by_cases hc0:ce.length=0
            · have t_c0 : ((ce.length : Int) == 0) = true := by rw [hc0]; rfl
              go_wp2
              go_ret
              exact ⟨by simp [spV,spT,hk11,hp,h6,g0,g1,e0,e1,hc0],N⟩
            have t_c0:((ce.length:Int) == 0)=false:=beq_eq_false_iff_ne.2 (by omega)
            by_cases hc4:4 < ce.length
            · have t_c4 : decide ((4 : Int) < (ce.length : Int)) = true := by simp; omega
              go_wp2
              go_ret
              exact ⟨by simp [spV,spT,hk11,hp,h6,g0,g1,e0,e1,hc0,hc4],N⟩
            have t_c4:decide ((4:Int) < (ce.length:Int))=false:=by simp;omega
            have HB:=hide B
            have HN:=hide N
            clear B N
            go_wp2
            clear c0_ c6_ c7_ c8_ c11_
            go_loopw [5] (fun i wr=>∃ (j:Nat),j≤ce.length∧i = .int .i64 j∧Below w.heap.size w wr∧RwC wr w.heap.size [.int .i64 k,.int .i64 v,.slice a2 n2 c2,.slice a3 n3 c3,.string ⟨⟨ho⟩⟩,.slice a5 n5 c5,.slice a6 n6 c6,.int .i64 ag,.int .i64 ea,.slice a9 n9 c9,.bool rs,.slice a11 ce.length c11,.slice a12 n12 c12] 26∧∀ t,t < j→ctO (ce.getD t []).length=false) (fun i _=>ce.length - (intOf i).toNat)
            case atStart=>exact ⟨0,Nat.zero_le _,rfl,HN.out,HB.out,fun j hj=>absurd hj (by omega)⟩
            case round =>
              obtain ⟨j,hj,rfl,N,B,hall⟩:=hrel
              clear HB HN
              have c11_:wr.cell? ⟨w.heap.size,11,none⟩=some (Value.slice a11 ce.length c11):=B.cell 11
              have HALL:=hide hall
              have Bh:=hide B
              have Nh:=hide N
              clear hall B N
              by_cases hlt:j < ce.length
              · obtain ⟨off, rfl, hcl⟩ := (CE.out.up Nh.out).r (by omega)
                have t0:(j:Int) < (ce.length:Int):=by omega
                have c1:=hcl j hlt
                have CO:=hide (fun h=>ctA_of hlt h)
                have CZ:=CL.out j hlt
                clear hcl
                have CD:=hide (show ctO (ce.getD j []).length=(decide ((ce.getD j []).length=0) || decide (2000 < (ce.getD j []).length)) from rfl)
                generalize hL:(ce.getD j []).length=L at *
                have HL:=hide hL
                clear hL
                by_cases l0:L=0
                · have tl0 : ((L : Int) == 0) = true := by rw [l0]; rfl
                  have cA:=CO.out (by rw [CD.out,l0];rfl)
                  go_wp2
                  go_ret
                  exact ⟨by simp [spV,spT,cA,hk11,hp,h6,g0,g1,e0,e1,hc0,hc4],Nh.out⟩
                have tl0:((L:Int) == 0)=false:=beq_eq_false_iff_ne.2 (by omega)
                by_cases l2:2000 < L
                · have tl2 : decide ((2000 : Int) < (L : Int)) = true := by simp; omega
                  have cA:=CO.out (by rw [CD.out];simp [l2])
                  go_wp2
                  go_ret
                  exact ⟨by simp [spV,spT,cA,hk11,hp,h6,g0,g1,e0,e1,hc0,hc4],Nh.out⟩
                have tl2:decide ((2000:Int) < (L:Int))=false:=by simp;omega
                have NXT:Hid (∀ t,t < j+1→ctO (ce.getD t []).length=false):=fun t ht=>by
                  by_cases h:t=j
                  · subst h
                    rw [HL.out,CD.out]
                    simp [l0,l2]
                  · exact HALL.out t (by omega)
                clear CO CD HALL l0 l2 HL
                go_wp2
                go_roundw
                case rel=>exact ⟨j+1,by omega,by go_num,Nh.out,Bh.out,NXT.out⟩
                case measure=>simp [intOf];omega
              · obtain rfl : j = ce.length := by omega
                have cA:=ctA_none HALL.out
                go_wp2
                go_ret
                exact ⟨by simp [spV,spT,cA,hk11,hp,h6,g0,g1,e0,e1,hc0,hc4],Nh.out⟩
        have q1:(k == 1)=false:=beq_eq_false_iff_ne.2 hk1
        have q4:(k == 4)=false:=beq_eq_false_iff_ne.2 hk4
        have q8:(k == 8)=false:=beq_eq_false_iff_ne.2 hk8
        have q11:(k == 11)=false:=beq_eq_false_iff_ne.2 hk11
        have c0_:W3.cell? ⟨w.heap.size,0,none⟩=some (Value.int .i64 k):=B.cell 0
        have c4_:W3.cell? ⟨w.heap.size,4,none⟩=some (Value.string ⟨⟨ho⟩⟩):=B.cell 4
        have c5_:W3.cell? ⟨w.heap.size,5,none⟩=some (Value.slice a5 n5 c5):=B.cell 5
        have c6_:W3.cell? ⟨w.heap.size,6,none⟩=some (Value.slice a6 n6 c6):=B.cell 6
        have c7_:W3.cell? ⟨w.heap.size,7,none⟩=some (Value.int .i64 ag):=B.cell 7
        have c8_:W3.cell? ⟨w.heap.size,8,none⟩=some (Value.int .i64 ea):=B.cell 8
        have c11_:W3.cell? ⟨w.heap.size,11,none⟩=some (Value.slice a11 ce.length c11):=B.cell 11
        have prH:=PR8.out W3 N
        go_wp2_with fail
        refine prH.mono ?_
        rintro e W8 ⟨rfl,n_⟩
        replace B:=B.up n_
        replace N:=nxt N n_
        clear n_ prH c0_ c4_ c5_ c6_ c7_ c8_ c11_
        cases hp:p8 with
        | false =>
          go_wp2
          go_ret
          exact ⟨by simp [spV,spT,hk1,hk4,hk8,hk11,hp],N⟩
        | true =>
          have c0_:W8.cell? ⟨w.heap.size,0,none⟩=some (Value.int .i64 k):=B.cell 0
          have c6_:W8.cell? ⟨w.heap.size,6,none⟩=some (Value.slice a6 n6 c6):=B.cell 6
          have c7_:W8.cell? ⟨w.heap.size,7,none⟩=some (Value.int .i64 ag):=B.cell 7
          have c8_:W8.cell? ⟨w.heap.size,8,none⟩=some (Value.int .i64 ea):=B.cell 8
          have c11_:W8.cell? ⟨w.heap.size,11,none⟩=some (Value.slice a11 ce.length c11):=B.cell 11
          by_cases h6:400 < n6
          · have t_h6 : decide ((400 : Int) < (n6 : Int)) = true := by simp; omega
            go_wp2
            go_ret
            exact ⟨by simp [spV,spT,hk1,hk4,hk8,hk11,hp,h6],N⟩
          have t_h6:decide ((400:Int) < (n6:Int))=false:=by simp;omega
          by_cases g0:ag < 0
          · have t_g0 : decide (ag < 0) = true := by simp; omega
            go_wp2
            go_ret
            exact ⟨by simp [spV,spT,hk1,hk4,hk8,hk11,hp,h6,g0],N⟩
          have t_g0:decide (ag < 0)=false:=by simp;omega
          by_cases g1:4294967295 < ag
          · have t_g1 : decide (4294967295 < ag) = true := by simp; omega
            go_wp2
            go_ret
            exact ⟨by simp [spV,spT,hk1,hk4,hk8,hk11,hp,h6,g0,g1],N⟩
          have t_g1:decide (4294967295 < ag)=false:=by simp;omega
          by_cases e0:ea < 0
          · have t_e0 : decide (ea < 0) = true := by simp; omega
            go_wp2
            go_ret
            exact ⟨by simp [spV,spT,hk1,hk4,hk8,hk11,hp,h6,g0,g1,e0],N⟩
          have t_e0:decide (ea < 0)=false:=by simp;omega
          by_cases e1:1 < ea
          · have t_e1 : decide (1 < ea) = true := by simp; omega
            go_wp2
            go_ret
            exact ⟨by simp [spV,spT,hk1,hk4,hk8,hk11,hp,h6,g0,g1,e0,e1],N⟩
          have t_e1:decide (1 < ea)=false:=by simp;omega
          have HB:=hide B
          have HN:=hide N
          clear B N
          go_wp2
          clear c0_ c6_ c7_ c8_ c11_
          go_loopw [5] (fun i wr=>∃ (j:Nat),j≤ce.length∧i = .int .i64 j∧Below w.heap.size w wr∧RwC wr w.heap.size [.int .i64 k,.int .i64 v,.slice a2 n2 c2,.slice a3 n3 c3,.string ⟨⟨ho⟩⟩,.slice a5 n5 c5,.slice a6 n6 c6,.int .i64 ag,.int .i64 ea,.slice a9 n9 c9,.bool rs,.slice a11 ce.length c11,.slice a12 n12 c12] 26∧∀ t,t < j→ctO (ce.getD t []).length=false) (fun i _=>ce.length - (intOf i).toNat)
          case atStart=>exact ⟨0,Nat.zero_le _,rfl,HN.out,HB.out,fun j hj=>absurd hj (by omega)⟩
          case round =>
            obtain ⟨j,hj,rfl,N,B,hall⟩:=hrel
            clear HB HN
            have c11_:wr.cell? ⟨w.heap.size,11,none⟩=some (Value.slice a11 ce.length c11):=B.cell 11
            have HALL:=hide hall
            have Bh:=hide B
            have Nh:=hide N
            clear hall B N
            by_cases hlt:j < ce.length
            · obtain ⟨off, rfl, hcl⟩ := (CE.out.up Nh.out).r (by omega)
              have t0:(j:Int) < (ce.length:Int):=by omega
              have c1:=hcl j hlt
              have CO:=hide (fun h=>ctA_of hlt h)
              have CZ:=CL.out j hlt
              clear hcl
              have CD:=hide (show ctO (ce.getD j []).length=(decide ((ce.getD j []).length=0) || decide (2000 < (ce.getD j []).length)) from rfl)
              generalize hL:(ce.getD j []).length=L at *
              have HL:=hide hL
              clear hL
              by_cases l0:L=0
              · have tl0 : ((L : Int) == 0) = true := by rw [l0]; rfl
                have cA:=CO.out (by rw [CD.out,l0];rfl)
                go_wp2
                go_ret
                exact ⟨by simp [spV,spT,cA,hk1,hk4,hk8,hk11,hp,h6,g0,g1,e0,e1],Nh.out⟩
              have tl0:((L:Int) == 0)=false:=beq_eq_false_iff_ne.2 (by omega)
              by_cases l2:2000 < L
              · have tl2 : decide ((2000 : Int) < (L : Int)) = true := by simp; omega
                have cA:=CO.out (by rw [CD.out];simp [l2])
                go_wp2
                go_ret
                exact ⟨by simp [spV,spT,cA,hk1,hk4,hk8,hk11,hp,h6,g0,g1,e0,e1],Nh.out⟩
              have tl2:decide ((2000:Int) < (L:Int))=false:=by simp;omega
              have NXT:Hid (∀ t,t < j+1→ctO (ce.getD t []).length=false):=fun t ht=>by
                by_cases h:t=j
                · subst h
                  rw [HL.out,CD.out]
                  simp [l0,l2]
                · exact HALL.out t (by omega)
              clear CO CD HALL l0 l2 HL
              go_wp2
              go_roundw
              case rel=>exact ⟨j+1,by omega,by go_num,Nh.out,Bh.out,NXT.out⟩
              case measure=>simp [intOf];omega
            · obtain rfl : j = ce.length := by omega
              have cA:=ctA_none HALL.out
              go_wp2
              go_ret
              exact ⟨by simp [spV,spT,cA,hk1,hk4,hk8,hk11,hp,h6,g0,g1,e0,e1],Nh.out⟩
end Go.Proofs.YtmmbkkfjiaoeiaaGreat
