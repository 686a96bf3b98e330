import Derived.Test.YtmmbkkfjiaoeiaaGreatGV3
namespace Go.Proofs.YtmmbkkfjiaoeiaaGreat
open Go Go.RowKit
set_option maxRecDepth 20000 in
set_option maxHeartbeats 8000000 in
theorem same_lists (w : World) (k v ag ea : Int) (ho : Array UInt8) (rs b1 b2 b3 b4 b5 b6 b7 : Bool) (a2 a2' a3 a3' a5 a5' a6 a6' a9 a9' a11 a11' a12 a12' : Option Addr) (n2 n2' c2 c2' n3 n3' c3 c3' n5 n5' c5 c5' n6 n6' c6 c6' n9 n9' c9 c9' n11 n11' c11 c11' n12 n12' c12 c12' : Nat)
    (H2:∀ W,Below w.heap.size w W→Calls Tryz.prog 61 #[.slice a2 n2 c2,.slice a2' n2' c2'] W fun e w'=>e = .returned (.bool b1)∧w'=W)
    (H3:∀ W,Below w.heap.size w W→Calls Tryz.prog 61 #[.slice a3 n3 c3,.slice a3' n3' c3'] W fun e w'=>e = .returned (.bool b2)∧w'=W)
    (H6:∀ W,Below w.heap.size w W→Calls Tryz.prog 61 #[.slice a6 n6 c6,.slice a6' n6' c6'] W fun e w'=>e = .returned (.bool b3)∧w'=W)
    (H9:∀ W,Below w.heap.size w W→Calls Tryz.prog 61 #[.slice a9 n9 c9,.slice a9' n9' c9'] W fun e w'=>e = .returned (.bool b4)∧w'=W)
    (H12:∀ W,Below w.heap.size w W→Calls Tryz.prog 61 #[.slice a12 n12 c12,.slice a12' n12' c12'] W fun e w'=>e = .returned (.bool b5)∧w'=W)
    (H5:∀ W,Below w.heap.size w W→Calls Tryz.prog 62 #[.slice a5 n5 c5,.slice a5' n5' c5'] W fun e w'=>e = .returned (.bool b6)∧Below W.heap.size W w')
    (H11:∀ W,Below w.heap.size w W→Calls Tryz.prog 63 #[.slice a11 n11 c11,.slice a11' n11' c11',.func (Fn.func 60) #[] #[]] W fun e w'=>e = .returned (.bool b7)∧Below W.heap.size W w') :
    Calls Tryz.prog 35 #[.agg #[.int .i64 k,.int .i64 v,.slice a2 n2 c2,.slice a3 n3 c3,.string ⟨ho⟩,.slice a5 n5 c5,.slice a6 n6 c6,.int .i64 ag,.int .i64 ea,.slice a9 n9 c9,.bool rs,.slice a11 n11 c11,.slice a12 n12 c12],.agg #[.int .i64 k,.int .i64 v,.slice a2' n2' c2',.slice a3' n3' c3',.string ⟨ho⟩,.slice a5' n5' c5',.slice a6' n6' c6',.int .i64 ag,.int .i64 ea,.slice a9' n9' c9',.bool rs,.slice a11' n11' c11',.slice a12' n12' c12']] w fun e w'=>e = .returned (.bool (b1 && (b2 && (b3 && (b4 && (b5 && (b6 && b7)))))))∧Below w.heap.size w w':=by
  have N:=hide (show Below w.heap.size w ((w.alloc (.cells #[.int .i64 k,.int .i64 v,.slice a2 n2 c2,.slice a3 n3 c3,.string ⟨ho⟩,.slice a5 n5 c5,.slice a6 n6 c6,.int .i64 ag,.int .i64 ea,.slice a9 n9 c9,.bool rs,.slice a11 n11 c11,.slice a12 n12 c12] 26)).alloc (.cells #[.int .i64 k,.int .i64 v,.slice a2' n2' c2',.slice a3' n3' c3',.string ⟨ho⟩,.slice a5' n5' c5',.slice a6' n6' c6',.int .i64 ag,.int .i64 ea,.slice a9' n9' c9',.bool rs,.slice a11' n11' c11',.slice a12' n12' c12'] 26)) from ((Below.refl _ _).alloc (Nat.le_refl _) _).alloc (by simp) _)
  have C2:=hide H2
  have C3:=hide H3
  have C6:=hide H6
  have C9:=hide H9
  have C12:=hide H12
  have C5:=hide H5
  have C11:=hide H11
  clear H2 H3 H6 H9 H12 H5 H11
  generalize hres:(b1 && (b2 && (b3 && (b4 && (b5 && (b6 && b7))))))=res
  have R:=hide hres
  clear hres
  go_enter Tryz.func35,Tryz.ntmps35
  go_wp2_with fail
  refine (C2.out _ N.out).mono ?_
  rintro e w1 ⟨rfl,rfl⟩
  clear C2
  cases b1 with
  | false =>
    obtain rfl:false=res:=by rw [← R.out];simp
    clear R
    go_wp2
    go_ret
    exact ⟨rfl,N.out⟩
  | true =>
    go_wp2_with fail
    refine (C3.out _ N.out).mono ?_
    rintro e w1 ⟨rfl,rfl⟩
    clear C3
    cases b2 with
    | false =>
      obtain rfl:false=res:=by rw [← R.out];simp
      clear R
      go_wp2
      go_ret
      exact ⟨rfl,N.out⟩
    | true =>
      go_wp2_with fail
      refine (C6.out _ N.out).mono ?_
      rintro e w1 ⟨rfl,rfl⟩
      clear C6
      cases b3 with
      | false =>
        obtain rfl:false=res:=by rw [← R.out];simp
        clear R
        go_wp2
        go_ret
        exact ⟨rfl,N.out⟩
      | true =>
        go_wp2_with fail
        refine (C9.out _ N.out).mono ?_
        rintro e w1 ⟨rfl,rfl⟩
        clear C9
        cases b4 with
        | false =>
          obtain rfl:false=res:=by rw [← R.out];simp
          clear R
          go_wp2
          go_ret
          exact ⟨rfl,N.out⟩
        | true =>
          go_wp2_with fail
          refine (C12.out _ N.out).mono ?_
          rintro e w1 ⟨rfl,rfl⟩
          clear C12
          cases b5 with
          | false =>
            obtain rfl:false=res:=by rw [← R.out];simp
            clear R
            go_wp2
            go_ret
            exact ⟨rfl,N.out⟩
          | true =>
            go_wp2_with fail
            refine (C5.out _ N.out).mono ?_
            rintro e w1 ⟨rfl,n1⟩
            have N1:=hide (N.out.trans (n1.mono N.out.size))
            have l11:w1.cell? ⟨w.heap.size,11,none⟩=some (.slice a11 n11 c11):=(((RwC.new w [.int .i64 k,.int .i64 v,.slice a2 n2 c2,.slice a3 n3 c3,.string ⟨ho⟩,.slice a5 n5 c5,.slice a6 n6 c6,.int .i64 ag,.int .i64 ea,.slice a9 n9 c9,.bool rs,.slice a11 n11 c11,.slice a12 n12 c12] 26).up ((Below.refl _ _).alloc (Nat.le_refl _) _)).up n1).cell 11
            have l12:w1.cell? ⟨w.heap.size+1,11,none⟩=some (.slice a11' n11' c11'):=by
              have h:=((RwC.new (w.alloc (.cells #[.int .i64 k,.int .i64 v,.slice a2 n2 c2,.slice a3 n3 c3,.string ⟨ho⟩,.slice a5 n5 c5,.slice a6 n6 c6,.int .i64 ag,.int .i64 ea,.slice a9 n9 c9,.bool rs,.slice a11 n11 c11,.slice a12 n12 c12] 26)) [.int .i64 k,.int .i64 v,.slice a2' n2' c2',.slice a3' n3' c3',.string ⟨ho⟩,.slice a5' n5' c5',.slice a6' n6' c6',.int .i64 ag,.int .i64 ea,.slice a9' n9' c9',.bool rs,.slice a11' n11' c11',.slice a12' n12' c12'] 26).up n1).cell 11
              rw [World.size_alloc] at h
              exact h
            clear n1 C5 N
            cases b6 with
            | false =>
              obtain rfl:false=res:=by rw [← R.out];simp
              clear R
              go_wp2
              go_ret
              exact ⟨rfl,N1.out⟩
            | true =>
              go_wp2_with fail
              refine (C11.out _ N1.out).mono ?_
              rintro e w2 ⟨rfl,n2⟩
              have N2:=hide (N1.out.trans (n2.mono N1.out.size))
              clear n2
              cases b7 with
              | false =>
                obtain rfl:false=res:=by rw [← R.out];simp
                clear R
                go_wp2
                go_ret
                exact ⟨rfl,N2.out⟩
              | true =>
                obtain rfl:true=res:=by rw [← R.out];rfl
                clear R
                go_wp2
                go_ret
                exact ⟨rfl,N2.out⟩
end Go.Proofs.YtmmbkkfjiaoeiaaGreat
