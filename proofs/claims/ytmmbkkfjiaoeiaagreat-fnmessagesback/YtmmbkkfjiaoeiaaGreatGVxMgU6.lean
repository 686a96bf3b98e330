import Derived.Test.YtmmbkkfjiaoeiaaGreatGV5
namespace Go.Proofs.YtmmbkkfjiaoeiaaGreat
open Go Go.RowKit
section
variable (w : World) (v ag ea : Int) (a2 a3 a5 a6 a9 a11 a12 : Option Addr) (n2 n3 n5 n6 n9 n11 n12 c2 c3 c5 c6 c9 c11 c12 : Nat) (ho : ByteArray) (rs : Bool)
set_option maxRecDepth 20000 in
set_option maxHeartbeats 2000000 in
theorem typedProof_walk (PM : Array Value) (b : Bool) (f : Int)
    (TK:∀ W q,RwC W q [.slice none 0 0] 94→Calls Tryz.prog 139 #[.pointer (some ⟨q,0,none⟩),.agg #[.int .i64 15,.int .i64 v,.slice a2 n2 c2,.slice a3 n3 c3,.string ho,.slice a5 n5 c5,.slice a6 n6 c6,.int .i64 ag,.int .i64 ea,.slice a9 n9 c9,.bool rs,.slice a11 n11 c11,.slice a12 n12 c12]] W fun e W'=>e = .returned (.tuple #[])∧Oth q W W'∧RwC W' q [.slice a12 n12 c12] 94)
    (PL:∀ W q,RwC W q [.slice a12 n12 c12] 94→Calls Tryz.prog 36 #[.iface 92 (.pointer (some ⟨q,0,none⟩))] W fun e W'=>e = .returned (.agg PM)∧Below W.heap.size W W')
    (SM:∀ W,Below w.heap.size w W→Calls Tryz.prog 35 #[.agg PM,.agg #[.int .i64 15,.int .i64 v,.slice a2 n2 c2,.slice a3 n3 c3,.string ho,.slice a5 n5 c5,.slice a6 n6 c6,.int .i64 ag,.int .i64 ea,.slice a9 n9 c9,.bool rs,.slice a11 n11 c11,.slice a12 n12 c12]] W fun e W'=>e = .returned (.bool b)∧Below W.heap.size W W')
    (FT:∀ W q,Below w.heap.size w W→RwC W q [.slice a12 n12 c12] 94→Calls Tryz.prog 137 #[.pointer (some ⟨q,0,none⟩)] W fun e W'=>e = .returned (.int .i64 f)∧Below W.heap.size W W') :
    Calls Tryz.prog 16 #[.agg #[.int .i64 15,.int .i64 v,.slice a2 n2 c2,.slice a3 n3 c3,.string ho,.slice a5 n5 c5,.slice a6 n6 c6,.int .i64 ag,.int .i64 ea,.slice a9 n9 c9,.bool rs,.slice a11 n11 c11,.slice a12 n12 c12]] w fun e w'=>(b=false∧e = .returned (.tuple #[.nilIface,.int .i64 2])∨b=true∧∃ q,e = .returned (.tuple #[.iface 92 (.pointer (some ⟨q,0,none⟩)),.int .i64 f])∧w.heap.size≤q∧RwC w' q [.slice a12 n12 c12] 94)∧Below w.heap.size w w':=by
  have B:=hide (RwC.new w [.int .i64 15,.int .i64 v,.slice a2 n2 c2,.slice a3 n3 c3,.string ho,.slice a5 n5 c5,.slice a6 n6 c6,.int .i64 ag,.int .i64 ea,.slice a9 n9 c9,.bool rs,.slice a11 n11 c11,.slice a12 n12 c12] 26)
  have N:=hide (show Below w.heap.size w (w.alloc (.cells #[.int .i64 15,.int .i64 v,.slice a2 n2 c2,.slice a3 n3 c3,.string ho,.slice a5 n5 c5,.slice a6 n6 c6,.int .i64 ag,.int .i64 ea,.slice a9 n9 c9,.bool rs,.slice a11 n11 c11,.slice a12 n12 c12] 26)) from (Below.refl _ _).alloc (Nat.le_refl _) _)
  have MK:=hide messageKinds_any
  have eq0:∀ W,(binOp .eql 65 (.func (Fn.func 45) #[] #[]) .nilFunc).run Tryz.prog W = .ok (.bool false) W:=fun _=>by kernel_rfl
  have mt : ∀ (x : Value) (W : World), (method 231 92 x "loop.example/g00004/impl.take").run Tryz.prog W = .ok (139, x) W := fun _ _ => by kernel_rfl
  have mf : ∀ (x : Value) (W : World), (method 231 92 x "loop.example/g00004/impl.fault").run Tryz.prog W = .ok (137, x) W := fun _ _ => by kernel_rfl
  have CT:=hide TK
  have CP:=hide PL
  have CS:=hide SM
  have CF:=hide FT
  clear TK PL SM FT
  go_enter Tryz.func16,Tryz.ntmps16
  go_wp2
  go_region_with (go_at_call 23;refine (MK.out _).mono ?_;rintro e w1 ⟨rfl,hb,n⟩;have B1:=hide (B.out.drew1.up n);have l0:w1.cell? ⟨w.heap.size,0,none⟩=some (.int .i64 15):=B1.out.cell 0;have lk:(Instr.lookup 54 (.map (some (w.heap.size+1))) (.int .i64 15) false).run Tryz.prog w1 = .ok (.func (Fn.func 45) #[] #[]) w1:=(regLook w1 (w.heap.size+1) (by simpa using hb) 15).trans rfl;have N1:=hide (nxt N.out.drew n);clear n hb)
  all_goals
    clear lk l0
    go_wp2_with fail
    refine (newProof_any _).mono ?_
    rintro e w2 ⟨rfl,R2,n2'⟩
    have lq:=B1.out.lt
    have B2:=hide (B1.out.up n2')
    have N2:=hide (nxt N1.out n2')
    clear n2' B1 N1
    generalize w1.heap.size=q at *
    have qn:q≠w.heap.size:=by omega
    have LQ:=hide (Nat.le_of_lt lq)
    clear lq
    obtain ⟨l0,l1,l2,l3,l4,l5,l6,l7,l8,l9,l10,l11,l12⟩:=B2.out.c13
    have H2:=hide R2
    clear R2
    go_wp2_with fail
    refine (CT.out w2 q H2.out).mono ?_
    rintro e w3 ⟨rfl,O3,R3⟩
    have B3:=hide (B2.out.oth O3 (fun h=>qn h.symm))
    have N3:=hide (N2.out.trans (O3.below LQ.out N2.out.size))
    have H3:=hide R3
    clear O3 R3 H2 N2 B2 l0 l1 l2 l3 l4 l5 l6 l7 l8 l9 l10 l11 l12
    obtain ⟨l0,l1,l2,l3,l4,l5,l6,l7,l8,l9,l10,l11,l12⟩:=B3.out.c13
    go_wp2
    go_region_with (first | (go_at_call 36;refine (CP.out _ q H3.out.drew1).mono ?_;rintro e w4 ⟨rfl,n4⟩;have B4:=hide (B3.out.drew1.up n4);obtain ⟨m0,m1,m2,m3,m4,m5,m6,m7,m8,m9,m10,m11,m12⟩:=B4.out.c13;have H4:=hide (H3.out.drew1.up n4);have N4:=hide (nxt N3.out.drew n4);clear n4) | (go_at_call 35;refine (CS.out _ N4.out).mono ?_;rintro e w5 ⟨rfl,n5⟩;have H5:=hide (H4.out.up n5);have N5:=hide (nxt N4.out n5);clear n5))
    all_goals
      clear l0 m0 l1 m1 l2 m2 l3 m3 l4 m4 l5 m5 l6 m6 l7 m7 l8 m8 l9 m9 l10 m10 l11 m11 l12 m12
      cases b with
      | true =>
        go_wp2_with fail
        refine (CF.out _ q N5.out H5.out).mono ?_
        rintro e w6 ⟨rfl,n6⟩
        go_wp2
        go_ret2
        exact ⟨⟨q,rfl,LQ.out,H5.out.up n6⟩,nxt N5.out n6⟩
      | false =>
        go_wp2
        go_ret2
        exact ⟨rfl,N5.out⟩
end
end Go.Proofs.YtmmbkkfjiaoeiaaGreat
