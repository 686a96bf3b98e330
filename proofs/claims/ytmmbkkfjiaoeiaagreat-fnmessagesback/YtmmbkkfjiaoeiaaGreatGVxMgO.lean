import Derived.Test.YtmmbkkfjiaoeiaaGreatGV3
namespace Go.Proofs.YtmmbkkfjiaoeiaaGreat
open Go Go.RowKit
section
variable (w : World) (k k' v v' ag ag' ea ea' : Int) (ho ho' : Array UInt8) (rs rs' : Bool) (a2 a2' a3 a3' a5 a5' a6 a6' a9 a9' a11 a11' a12 a12' : Option Addr) (n2 n2' c2 c2' n3 n3' c3 c3' n5 n5' c5 c5' n6 n6' c6 c6' n9 n9' c9 c9' n11 n11' c11 c11' n12 n12' c12 c12' : Nat)
set_option maxRecDepth 20000 in
set_option maxHeartbeats 4000000 in
theorem same_ho (e:ho≠ho') :
  Calls Tryz.prog 35 #[.agg #[.int .i64 k,.int .i64 v,.slice a2 n2 c2,.slice a3 n3 c3,.string ⟨ho⟩,.slice a5 n5 c5,.slice a6 n6 c6,.int .i64 ag,.int .i64 ea,.slice a9 n9 c9,.bool rs,.slice a11 n11 c11,.slice a12 n12 c12],.agg #[.int .i64 k,.int .i64 v,.slice a2' n2' c2',.slice a3' n3' c3',.string ⟨ho'⟩,.slice a5' n5' c5',.slice a6' n6' c6',.int .i64 ag',.int .i64 ea',.slice a9' n9' c9',.bool rs',.slice a11' n11' c11',.slice a12' n12' c12']] w fun e w'=>e = .returned (.bool false)∧Below w.heap.size w w':=by
 have N:=hide (show Below w.heap.size w ((w.alloc (.cells #[.int .i64 k,.int .i64 v,.slice a2 n2 c2,.slice a3 n3 c3,.string ⟨ho⟩,.slice a5 n5 c5,.slice a6 n6 c6,.int .i64 ag,.int .i64 ea,.slice a9 n9 c9,.bool rs,.slice a11 n11 c11,.slice a12 n12 c12] 26)).alloc (.cells #[.int .i64 k,.int .i64 v,.slice a2' n2' c2',.slice a3' n3' c3',.string ⟨ho'⟩,.slice a5' n5' c5',.slice a6' n6' c6',.int .i64 ag',.int .i64 ea',.slice a9' n9' c9',.bool rs',.slice a11' n11' c11',.slice a12' n12' c12'] 26)) from ((Below.refl _ _).alloc (Nat.le_refl _) _).alloc (by simp) _)
 have d:decide (ho=ho')=false:=decide_eq_false e
 have q:(ho == ho')=false:=by simpa using e
 have ne:(ByteArray.mk ho).toList≠(ByteArray.mk ho').toList:=fun h=>e (by injection toList_inj h)
 have p:((ByteArray.mk ho).toList == (ByteArray.mk ho').toList)=false:=by rw [beq_eq_false_iff_ne];exact ne
 have p':decide ((ByteArray.mk ho).toList=(ByteArray.mk ho').toList)=false:=decide_eq_false ne
 go_enter Tryz.func35,Tryz.ntmps35
 go_wp2
 go_ret
 exact ⟨rfl,N.out⟩
set_option maxRecDepth 20000 in
set_option maxHeartbeats 4000000 in
theorem same_ag (e:ag≠ag') :
  Calls Tryz.prog 35 #[.agg #[.int .i64 k,.int .i64 v,.slice a2 n2 c2,.slice a3 n3 c3,.string ⟨ho⟩,.slice a5 n5 c5,.slice a6 n6 c6,.int .i64 ag,.int .i64 ea,.slice a9 n9 c9,.bool rs,.slice a11 n11 c11,.slice a12 n12 c12],.agg #[.int .i64 k,.int .i64 v,.slice a2' n2' c2',.slice a3' n3' c3',.string ⟨ho⟩,.slice a5' n5' c5',.slice a6' n6' c6',.int .i64 ag',.int .i64 ea',.slice a9' n9' c9',.bool rs',.slice a11' n11' c11',.slice a12' n12' c12']] w fun e w'=>e = .returned (.bool false)∧Below w.heap.size w w':=by
 have N:=hide (show Below w.heap.size w ((w.alloc (.cells #[.int .i64 k,.int .i64 v,.slice a2 n2 c2,.slice a3 n3 c3,.string ⟨ho⟩,.slice a5 n5 c5,.slice a6 n6 c6,.int .i64 ag,.int .i64 ea,.slice a9 n9 c9,.bool rs,.slice a11 n11 c11,.slice a12 n12 c12] 26)).alloc (.cells #[.int .i64 k,.int .i64 v,.slice a2' n2' c2',.slice a3' n3' c3',.string ⟨ho⟩,.slice a5' n5' c5',.slice a6' n6' c6',.int .i64 ag',.int .i64 ea',.slice a9' n9' c9',.bool rs',.slice a11' n11' c11',.slice a12' n12' c12'] 26)) from ((Below.refl _ _).alloc (Nat.le_refl _) _).alloc (by simp) _)
 have d:decide (ag=ag')=false:=decide_eq_false e
 have q:(ag == ag')=false:=by simpa using e
 go_enter Tryz.func35,Tryz.ntmps35
 go_wp2
 go_ret
 exact ⟨rfl,N.out⟩
end
end Go.Proofs.YtmmbkkfjiaoeiaaGreat
