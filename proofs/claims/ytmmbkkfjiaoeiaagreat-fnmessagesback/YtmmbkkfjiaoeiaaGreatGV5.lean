import Derived.Test.YtmmbkkfjiaoeiaaGreatGV4
namespace Go.Proofs.YtmmbkkfjiaoeiaaGreat
open Go Go.RowKit
theorem newHello_any (w:World):Calls Tryz.prog 39 #[] w fun e w'=>e = .returned (.iface 72 (.pointer (some ⟨w.heap.size,0,none⟩)))∧RwC w' w.heap.size [.int .i64 0,.slice none 0 0,.slice none 0 0,.string ⟨#[]⟩,.slice none 0 0,.slice none 0 0,.int .i64 0,.int .i64 0,.slice none 0 0] 76∧Below w.heap.size w w':=by
 go_enter Tryz.func39,Tryz.ntmps39
 go_wp2
 go_ret
 exact ⟨rfl,RwC.new w _ _,(Below.refl _ _).alloc (Nat.le_refl _) _⟩
theorem newAnswer_any (w:World):Calls Tryz.prog 40 #[] w fun e w'=>e = .returned (.iface 77 (.pointer (some ⟨w.heap.size,0,none⟩)))∧RwC w' w.heap.size [.int .i64 0,.slice none 0 0,.slice none 0 0,.bool false] 79∧Below w.heap.size w w':=by
 go_enter Tryz.func40,Tryz.ntmps40
 go_wp2
 go_ret
 exact ⟨rfl,RwC.new w _ _,(Below.refl _ _).alloc (Nat.le_refl _) _⟩
theorem newTicket_any (w:World):Calls Tryz.prog 41 #[] w fun e w'=>e = .returned (.iface 80 (.pointer (some ⟨w.heap.size,0,none⟩)))∧RwC w' w.heap.size [.int .i64 0,.int .i64 0,.slice none 0 0,.slice none 0 0] 82∧Below w.heap.size w w':=by
 go_enter Tryz.func41,Tryz.ntmps41
 go_wp2
 go_ret
 exact ⟨rfl,RwC.new w _ _,(Below.refl _ _).alloc (Nat.le_refl _) _⟩
theorem newEnd_any (w:World):Calls Tryz.prog 42 #[] w fun e w'=>e = .returned (.iface 83 (.pointer (some ⟨w.heap.size,0,none⟩)))∧RwC w' w.heap.size [] 85∧Below w.heap.size w w':=by
 go_enter Tryz.func42,Tryz.ntmps42
 go_wp2
 go_ret
 exact ⟨rfl,RwC.new w _ _,(Below.refl _ _).alloc (Nat.le_refl _) _⟩
theorem newExtras_any (w:World):Calls Tryz.prog 43 #[] w fun e w'=>e = .returned (.iface 86 (.pointer (some ⟨w.heap.size,0,none⟩)))∧RwC w' w.heap.size [.slice none 0 0,.int .i64 0] 88∧Below w.heap.size w w':=by
 go_enter Tryz.func43,Tryz.ntmps43
 go_wp2
 go_ret
 exact ⟨rfl,RwC.new w _ _,(Below.refl _ _).alloc (Nat.le_refl _) _⟩
theorem newCerts_any (w:World):Calls Tryz.prog 44 #[] w fun e w'=>e = .returned (.iface 89 (.pointer (some ⟨w.heap.size,0,none⟩)))∧RwC w' w.heap.size [.slice none 0 0] 91∧Below w.heap.size w w':=by
 go_enter Tryz.func44,Tryz.ntmps44
 go_wp2
 go_ret
 exact ⟨rfl,RwC.new w _ _,(Below.refl _ _).alloc (Nat.le_refl _) _⟩
theorem newProof_any (w:World):Calls Tryz.prog 45 #[] w fun e w'=>e = .returned (.iface 92 (.pointer (some ⟨w.heap.size,0,none⟩)))∧RwC w' w.heap.size [.slice none 0 0] 94∧Below w.heap.size w w':=by
 go_enter Tryz.func45,Tryz.ntmps45
 go_wp2
 go_ret
 exact ⟨rfl,RwC.new w _ _,(Below.refl _ _).alloc (Nat.le_refl _) _⟩
theorem newFinished_any (w:World):Calls Tryz.prog 46 #[] w fun e w'=>e = .returned (.iface 95 (.pointer (some ⟨w.heap.size,0,none⟩)))∧RwC w' w.heap.size [.slice none 0 0] 96∧Below w.heap.size w w':=by
 go_enter Tryz.func46,Tryz.ntmps46
 go_wp2
 go_ret
 exact ⟨rfl,RwC.new w _ _,(Below.refl _ _).alloc (Nat.le_refl _) _⟩
theorem newUpdate_any (w:World):Calls Tryz.prog 47 #[] w fun e w'=>e = .returned (.iface 97 (.pointer (some ⟨w.heap.size,0,none⟩)))∧RwC w' w.heap.size [.int .i64 0] 99∧Below w.heap.size w w':=by
 go_enter Tryz.func47,Tryz.ntmps47
 go_wp2
 go_ret
 exact ⟨rfl,RwC.new w _ _,(Below.refl _ _).alloc (Nat.le_refl _) _⟩
end Go.Proofs.YtmmbkkfjiaoeiaaGreat
namespace Go.Proofs.YtmmbkkfjiaoeiaaGreat
open Go Go.RowKit
section
variable (w : World) (k v ag ea : Int) (a2 a3 a5 a6 a9 a11 a12 : Option Addr) (n2 n3 n5 n6 n9 n11 n12 c2 c3 c5 c6 c9 c11 c12 : Nat) (ho : ByteArray) (rs : Bool)
set_option maxRecDepth 20000 in
set_option maxHeartbeats 1000000 in
theorem typedNone_any (hk:regV k = .nilFunc) :
  Calls Tryz.prog 16 #[.agg #[.int .i64 k,.int .i64 v,.slice a2 n2 c2,.slice a3 n3 c3,.string ho,.slice a5 n5 c5,.slice a6 n6 c6,.int .i64 ag,.int .i64 ea,.slice a9 n9 c9,.bool rs,.slice a11 n11 c11,.slice a12 n12 c12]] w fun e w'=>e = .returned (.tuple #[.nilIface,.int .i64 1])∧Below w.heap.size w w':=by
 have B:=hide (RwC.new w [.int .i64 k,.int .i64 v,.slice a2 n2 c2,.slice a3 n3 c3,.string ho,.slice a5 n5 c5,.slice a6 n6 c6,.int .i64 ag,.int .i64 ea,.slice a9 n9 c9,.bool rs,.slice a11 n11 c11,.slice a12 n12 c12] 26)
 have N:=hide (show Below w.heap.size w (w.alloc (.cells #[.int .i64 k,.int .i64 v,.slice a2 n2 c2,.slice a3 n3 c3,.string ho,.slice a5 n5 c5,.slice a6 n6 c6,.int .i64 ag,.int .i64 ea,.slice a9 n9 c9,.bool rs,.slice a11 n11 c11,.slice a12 n12 c12] 26)) from (Below.refl _ _).alloc (Nat.le_refl _) _)
 have MK:=hide messageKinds_any
 have HK:=hide hk
 have eq0:∀ W,(binOp .eql 65 .nilFunc .nilFunc).run Tryz.prog W = .ok (.bool true) W:=fun _=>by kernel_rfl
 clear hk
 go_enter Tryz.func16,Tryz.ntmps16
 go_wp2
 go_region_with (go_at_call 23;refine (MK.out _).mono ?_;rintro e w1 ⟨rfl,hb,n⟩;have l0:w1.cell? ⟨w.heap.size,0,none⟩=some (.int .i64 k):=(B.out.drew1.up n).cell 0;have lk:(Instr.lookup 54 (.map (some (w.heap.size+1))) (.int .i64 k) false).run Tryz.prog w1 = .ok .nilFunc w1:=(regLook w1 (w.heap.size+1) (by simpa using hb) k).trans (by rw [HK.out]);have N1:=hide (nxt N.out.drew n);clear n hb)
 all_goals
  go_wp2
  go_ret2
  exact ⟨rfl,N1.out⟩
end
theorem RwC.c13 {w:World} {q:Nat} {t:TypeId} {v0 v1 v2 v3 v4 v5 v6 v7 v8 v9 v10 v11 v12:Value} (h:RwC w q [v0,v1,v2,v3,v4,v5,v6,v7,v8,v9,v10,v11,v12] t):w.cell? ⟨q,0,none⟩=some v0∧w.cell? ⟨q,1,none⟩=some v1∧w.cell? ⟨q,2,none⟩=some v2∧w.cell? ⟨q,3,none⟩=some v3∧w.cell? ⟨q,4,none⟩=some v4∧w.cell? ⟨q,5,none⟩=some v5∧w.cell? ⟨q,6,none⟩=some v6∧w.cell? ⟨q,7,none⟩=some v7∧w.cell? ⟨q,8,none⟩=some v8∧w.cell? ⟨q,9,none⟩=some v9∧w.cell? ⟨q,10,none⟩=some v10∧w.cell? ⟨q,11,none⟩=some v11∧w.cell? ⟨q,12,none⟩=some v12 :=
 ⟨h.cell 0,h.cell 1,h.cell 2,h.cell 3,h.cell 4,h.cell 5,h.cell 6,h.cell 7,h.cell 8,h.cell 9,h.cell 10,h.cell 11,h.cell 12⟩
end Go.Proofs.YtmmbkkfjiaoeiaaGreat
