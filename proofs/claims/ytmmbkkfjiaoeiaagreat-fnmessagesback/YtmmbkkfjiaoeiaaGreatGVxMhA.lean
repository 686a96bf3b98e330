import Derived.Test.YtmmbkkfjiaoeiaaGreatGV16
import Derived.Deep.DeepCutAuto
namespace Go.Proofs.YtmmbkkfjiaoeiaaGreat
open Go Go.RowKit
set_option maxRecDepth 20000 in
set_option maxHeartbeats 4000000 in
theorem l13Extra_any (w : World) (k v ag ea : Int) (a2 a3 a5 a6 a9 a11 a12 : Option Addr) (n2 n3 n5 n6 n9 n11 n12 c2 c3 c5 c6 c9 c11 c12 : Nat) (ho : List UInt8) (rs : Bool) :
    Calls Tryz.prog 19 #[.agg #[.int .i64 k,.int .i64 v,.slice a2 n2 c2,.slice a3 n3 c3,.string ⟨⟨ho⟩⟩,.slice a5 n5 c5,.slice a6 n6 c6,.int .i64 ag,.int .i64 ea,.slice a9 n9 c9,.bool rs,.slice a11 n11 c11,.slice a12 n12 c12]] w fun e w'=>e = .returned (.bool (ex6 (v != 0) (decide ((0:Int) < (n2:Int))) (k == 1) (k == 2) (k == 4) || (ex8 (decide ((0:Int) < (n3:Int))) (!(ho == [])) (decide ((0:Int) < (n5:Int))) (k == 1) (k == 2) (k == 8) || (ex10 (decide ((0:Int) < (n6:Int))) (ag != 0) (decide ((0:Int) < (n9:Int))) (k == 1) (k == 4) || (ex12 (ea != 0) (k == 1) (k == 4) (k == 8) (k != 24) || ex14 rs (k == 2) (decide ((0:Int) < (n11:Int))) (k != 11) (decide ((0:Int) < (n12:Int))) (k != 15) (k != 20))))))∧Below w.heap.size w w':=by
  have n0:Hid (Below w.heap.size w (w.alloc (.cells #[.int .i64 k,.int .i64 v,.slice a2 n2 c2,.slice a3 n3 c3,.string ⟨⟨ho⟩⟩,.slice a5 n5 c5,.slice a6 n6 c6,.int .i64 ag,.int .i64 ea,.slice a9 n9 c9,.bool rs,.slice a11 n11 c11,.slice a12 n12 c12] 26))):=(Below.refl _ _).alloc (Nat.le_refl _) _
  obtain ⟨vb,t_vb⟩:∃ b,(v != 0)=b:=⟨_,rfl⟩
  obtain ⟨rb,t_rb⟩:∃ b,decide ((0:Int) < (n2:Int))=b:=⟨_,rfl⟩
  have u_rb:decide (0 < n2)=rb:=by rw [← t_rb];exact decide_eq_decide.2 (by omega)
  obtain ⟨sb,t_sb⟩:∃ b,decide ((0:Int) < (n3:Int))=b:=⟨_,rfl⟩
  have u_sb:decide (0 < n3)=sb:=by rw [← t_sb];exact decide_eq_decide.2 (by omega)
  obtain ⟨hn,t_hn⟩:∃ b,(ho == [])=b:=⟨_,rfl⟩
  obtain ⟨pb,t_pb⟩:∃ b,decide ((0:Int) < (n5:Int))=b:=⟨_,rfl⟩
  have u_pb:decide (0 < n5)=pb:=by rw [← t_pb];exact decide_eq_decide.2 (by omega)
  obtain ⟨tb,t_tb⟩:∃ b,decide ((0:Int) < (n6:Int))=b:=⟨_,rfl⟩
  have u_tb:decide (0 < n6)=tb:=by rw [← t_tb];exact decide_eq_decide.2 (by omega)
  obtain ⟨gb,t_gb⟩:∃ b,(ag != 0)=b:=⟨_,rfl⟩
  obtain ⟨bb,t_bb⟩:∃ b,decide ((0:Int) < (n9:Int))=b:=⟨_,rfl⟩
  have u_bb:decide (0 < n9)=bb:=by rw [← t_bb];exact decide_eq_decide.2 (by omega)
  obtain ⟨eb,t_eb⟩:∃ b,(ea != 0)=b:=⟨_,rfl⟩
  obtain ⟨cb,t_cb⟩:∃ b,decide ((0:Int) < (n11:Int))=b:=⟨_,rfl⟩
  have u_cb:decide (0 < n11)=cb:=by rw [← t_cb];exact decide_eq_decide.2 (by omega)
  obtain ⟨fb,t_fb⟩:∃ b,decide ((0:Int) < (n12:Int))=b:=⟨_,rfl⟩
  have u_fb:decide (0 < n12)=fb:=by rw [← t_fb];exact decide_eq_decide.2 (by omega)
  obtain ⟨he,t_he⟩:∃ b,(k == 1)=b:=⟨_,rfl⟩
  obtain ⟨an,t_an⟩:∃ b,(k == 2)=b:=⟨_,rfl⟩
  obtain ⟨tk,t_tk⟩:∃ b,(k == 4)=b:=⟨_,rfl⟩
  obtain ⟨ex,t_ex⟩:∃ b,(k == 8)=b:=⟨_,rfl⟩
  obtain ⟨nu,t_nu⟩:∃ b,(k != 24)=b:=⟨_,rfl⟩
  obtain ⟨nc,t_nc⟩:∃ b,(k != 11)=b:=⟨_,rfl⟩
  obtain ⟨np,t_np⟩:∃ b,(k != 15)=b:=⟨_,rfl⟩
  obtain ⟨nf,t_nf⟩:∃ b,(k != 20)=b:=⟨_,rfl⟩
  simp only [t_vb,t_rb,t_sb,t_hn,t_pb,t_tb,t_gb,t_bb,t_eb,t_cb,t_fb,t_he,t_an,t_tk,t_ex,t_nu,t_nc,t_np,t_nf]
  go_enter Tryz.func19,Tryz.ntmps19
  go_upto_region 6 with fail
  go_cut [46] (fun x wc=>x = .bool (ex6 vb rb he an tk)∧wc=w.alloc (.cells #[.int .i64 k,.int .i64 v,.slice a2 n2 c2,.slice a3 n3 c3,.string ⟨⟨ho⟩⟩,.slice a5 n5 c5,.slice a6 n6 c6,.int .i64 ag,.int .i64 ea,.slice a9 n9 c9,.bool rs,.slice a11 n11 c11,.slice a12 n12 c12] 26))
  case first =>
    cases vb with
    | true =>
      cases he with
      | true =>
        cases rb with
        | true =>
          as_aux_lemma =>
            go_wp2
            all_goals first
            | (go_meet;refine ⟨?_,rfl⟩;first | rfl | (simp [ex6];done))
        | false =>
          as_aux_lemma =>
            go_wp2
            all_goals first
            | (go_meet;refine ⟨?_,rfl⟩;first | rfl | (simp [ex6];done))
      | false =>
        cases an with
        | true =>
          cases rb with
          | true =>
            as_aux_lemma =>
              go_wp2
              all_goals first
              | (go_meet;refine ⟨?_,rfl⟩;first | rfl | (simp [ex6];done))
          | false =>
            as_aux_lemma =>
              go_wp2
              all_goals first
              | (go_meet;refine ⟨?_,rfl⟩;first | rfl | (simp [ex6];done))
        | false =>
          as_aux_lemma =>
            go_wp2
            all_goals first
            | (go_meet;refine ⟨?_,rfl⟩;first | rfl | (simp [ex6];done))
    | false =>
      cases rb with
      | true =>
        cases he with
        | true =>
          as_aux_lemma =>
            go_wp2
            all_goals first
            | (go_meet;refine ⟨?_,rfl⟩;first | rfl | (simp [ex6];done))
        | false =>
          cases an with
          | true =>
            as_aux_lemma =>
              go_wp2
              all_goals first
              | (go_meet;refine ⟨?_,rfl⟩;first | rfl | (simp [ex6];done))
          | false =>
            cases tk with
            | true =>
              as_aux_lemma =>
                go_wp2
                all_goals first
                | (go_meet;refine ⟨?_,rfl⟩;first | rfl | (simp [ex6];done))
            | false =>
              as_aux_lemma =>
                go_wp2
                all_goals first
                | (go_meet;refine ⟨?_,rfl⟩;first | rfl | (simp [ex6];done))
      | false =>
        as_aux_lemma =>
          go_wp2
          all_goals first
          | (go_meet;refine ⟨?_,rfl⟩;first | rfl | (simp [ex6];done))
  case rest =>
    obtain ⟨rfl,hw⟩:=hcut
    subst hw
    have h6:∃ b,ex6 vb rb he an tk=b:=⟨_,rfl⟩
    obtain ⟨bh6,h6⟩:=h6
    rw [h6]
    cases bh6 with
    | true =>
      go_wp2
      go_ret
      exact ⟨by simp [h6],n0.out⟩
    | false =>
      go_upto_region 8 with fail
      go_cut [81] (fun x wc=>x = .bool (ex8 sb (!hn) pb he an ex)∧wc=w.alloc (.cells #[.int .i64 k,.int .i64 v,.slice a2 n2 c2,.slice a3 n3 c3,.string ⟨⟨ho⟩⟩,.slice a5 n5 c5,.slice a6 n6 c6,.int .i64 ag,.int .i64 ea,.slice a9 n9 c9,.bool rs,.slice a11 n11 c11,.slice a12 n12 c12] 26))
      case first =>
        cases sb with
        | true =>
          cases he with
          | true =>
            cases hn with
            | true =>
              cases pb with
              | true =>
                as_aux_lemma =>
                  go_wp2
                  all_goals first
                  | (go_meet;refine ⟨?_,rfl⟩;first | rfl | (simp [ex8];done))
              | false =>
                as_aux_lemma =>
                  go_wp2
                  all_goals first
                  | (go_meet;refine ⟨?_,rfl⟩;first | rfl | (simp [ex8];done))
            | false =>
              cases pb with
              | true =>
                as_aux_lemma =>
                  go_wp2
                  all_goals first
                  | (go_meet;refine ⟨?_,rfl⟩;first | rfl | (simp [ex8];done))
              | false =>
                as_aux_lemma =>
                  go_wp2
                  all_goals first
                  | (go_meet;refine ⟨?_,rfl⟩;first | rfl | (simp [ex8];done))
          | false =>
            cases an with
            | true =>
              cases hn with
              | true =>
                cases pb with
                | true =>
                  cases ex with
                  | true =>
                    as_aux_lemma =>
                      go_wp2
                      all_goals first
                      | (go_meet;refine ⟨?_,rfl⟩;first | rfl | (simp [ex8];done))
                  | false =>
                    as_aux_lemma =>
                      go_wp2
                      all_goals first
                      | (go_meet;refine ⟨?_,rfl⟩;first | rfl | (simp [ex8];done))
                | false =>
                  as_aux_lemma =>
                    go_wp2
                    all_goals first
                    | (go_meet;refine ⟨?_,rfl⟩;first | rfl | (simp [ex8];done))
              | false =>
                as_aux_lemma =>
                  go_wp2
                  all_goals first
                  | (go_meet;refine ⟨?_,rfl⟩;first | rfl | (simp [ex8];done))
            | false =>
              as_aux_lemma =>
                go_wp2
                all_goals first
                | (go_meet;refine ⟨?_,rfl⟩;first | rfl | (simp [ex8];done))
        | false =>
          cases hn with
          | true =>
            cases pb with
            | true =>
              cases he with
              | true =>
                as_aux_lemma =>
                  go_wp2
                  all_goals first
                  | (go_meet;refine ⟨?_,rfl⟩;first | rfl | (simp [ex8];done))
              | false =>
                cases ex with
                | true =>
                  as_aux_lemma =>
                    go_wp2
                    all_goals first
                    | (go_meet;refine ⟨?_,rfl⟩;first | rfl | (simp [ex8];done))
                | false =>
                  as_aux_lemma =>
                    go_wp2
                    all_goals first
                    | (go_meet;refine ⟨?_,rfl⟩;first | rfl | (simp [ex8];done))
            | false =>
              as_aux_lemma =>
                go_wp2
                all_goals first
                | (go_meet;refine ⟨?_,rfl⟩;first | rfl | (simp [ex8];done))
          | false =>
            cases he with
            | true =>
              cases pb with
              | true =>
                as_aux_lemma =>
                  go_wp2
                  all_goals first
                  | (go_meet;refine ⟨?_,rfl⟩;first | rfl | (simp [ex8];done))
              | false =>
                as_aux_lemma =>
                  go_wp2
                  all_goals first
                  | (go_meet;refine ⟨?_,rfl⟩;first | rfl | (simp [ex8];done))
            | false =>
              as_aux_lemma =>
                go_wp2
                all_goals first
                | (go_meet;refine ⟨?_,rfl⟩;first | rfl | (simp [ex8];done))
      case rest =>
        obtain ⟨rfl,hw⟩:=hcut
        subst hw
        have h8:∃ b,ex8 sb (!hn) pb he an ex=b:=⟨_,rfl⟩
        obtain ⟨bh8,h8⟩:=h8
        rw [h8]
        cases bh8 with
        | true =>
          go_wp2
          go_ret
          exact ⟨by simp [h6,h8],n0.out⟩
        | false =>
          go_upto_region 10 with fail
          go_cut [116] (fun x wc=>x = .bool (ex10 tb gb bb he tk)∧wc=w.alloc (.cells #[.int .i64 k,.int .i64 v,.slice a2 n2 c2,.slice a3 n3 c3,.string ⟨⟨ho⟩⟩,.slice a5 n5 c5,.slice a6 n6 c6,.int .i64 ag,.int .i64 ea,.slice a9 n9 c9,.bool rs,.slice a11 n11 c11,.slice a12 n12 c12] 26))
          case first =>
            cases tb with
            | true =>
              cases he with
              | true =>
                cases gb with
                | true =>
                  cases bb with
                  | true =>
                    as_aux_lemma =>
                      go_wp2
                      all_goals first
                      | (go_meet;refine ⟨?_,rfl⟩;first | rfl | (simp [ex10];done))
                  | false =>
                    as_aux_lemma =>
                      go_wp2
                      all_goals first
                      | (go_meet;refine ⟨?_,rfl⟩;first | rfl | (simp [ex10];done))
                | false =>
                  cases bb with
                  | true =>
                    as_aux_lemma =>
                      go_wp2
                      all_goals first
                      | (go_meet;refine ⟨?_,rfl⟩;first | rfl | (simp [ex10];done))
                  | false =>
                    as_aux_lemma =>
                      go_wp2
                      all_goals first
                      | (go_meet;refine ⟨?_,rfl⟩;first | rfl | (simp [ex10];done))
              | false =>
                cases tk with
                | true =>
                  cases gb with
                  | true =>
                    cases bb with
                    | true =>
                      as_aux_lemma =>
                        go_wp2
                        all_goals first
                        | (go_meet;refine ⟨?_,rfl⟩;first | rfl | (simp [ex10];done))
                    | false =>
                      as_aux_lemma =>
                        go_wp2
                        all_goals first
                        | (go_meet;refine ⟨?_,rfl⟩;first | rfl | (simp [ex10];done))
                  | false =>
                    cases bb with
                    | true =>
                      as_aux_lemma =>
                        go_wp2
                        all_goals first
                        | (go_meet;refine ⟨?_,rfl⟩;first | rfl | (simp [ex10];done))
                    | false =>
                      as_aux_lemma =>
                        go_wp2
                        all_goals first
                        | (go_meet;refine ⟨?_,rfl⟩;first | rfl | (simp [ex10];done))
                | false =>
                  as_aux_lemma =>
                    go_wp2
                    all_goals first
                    | (go_meet;refine ⟨?_,rfl⟩;first | rfl | (simp [ex10];done))
            | false =>
              cases gb with
              | true =>
                cases he with
                | true =>
                  cases bb with
                  | true =>
                    as_aux_lemma =>
                      go_wp2
                      all_goals first
                      | (go_meet;refine ⟨?_,rfl⟩;first | rfl | (simp [ex10];done))
                  | false =>
                    as_aux_lemma =>
                      go_wp2
                      all_goals first
                      | (go_meet;refine ⟨?_,rfl⟩;first | rfl | (simp [ex10];done))
                | false =>
                  cases tk with
                  | true =>
                    cases bb with
                    | true =>
                      as_aux_lemma =>
                        go_wp2
                        all_goals first
                        | (go_meet;refine ⟨?_,rfl⟩;first | rfl | (simp [ex10];done))
                    | false =>
                      as_aux_lemma =>
                        go_wp2
                        all_goals first
                        | (go_meet;refine ⟨?_,rfl⟩;first | rfl | (simp [ex10];done))
                  | false =>
                    as_aux_lemma =>
                      go_wp2
                      all_goals first
                      | (go_meet;refine ⟨?_,rfl⟩;first | rfl | (simp [ex10];done))
              | false =>
                cases bb with
                | true =>
                  cases he with
                  | true =>
                    as_aux_lemma =>
                      go_wp2
                      all_goals first
                      | (go_meet;refine ⟨?_,rfl⟩;first | rfl | (simp [ex10];done))
                  | false =>
                    as_aux_lemma =>
                      go_wp2
                      all_goals first
                      | (go_meet;refine ⟨?_,rfl⟩;first | rfl | (simp [ex10];done))
                | false =>
                  as_aux_lemma =>
                    go_wp2
                    all_goals first
                    | (go_meet;refine ⟨?_,rfl⟩;first | rfl | (simp [ex10];done))
          case rest =>
            obtain ⟨rfl,hw⟩:=hcut
            subst hw
            have h10:∃ b,ex10 tb gb bb he tk=b:=⟨_,rfl⟩
            obtain ⟨bh10,h10⟩:=h10
            rw [h10]
            cases bh10 with
            | true =>
              go_wp2
              go_ret
              exact ⟨by simp [h6,h8,h10],n0.out⟩
            | false =>
              go_upto_region 12 with fail
              go_cut [135] (fun x wc=>x = .bool (ex12 eb he tk ex nu)∧wc=w.alloc (.cells #[.int .i64 k,.int .i64 v,.slice a2 n2 c2,.slice a3 n3 c3,.string ⟨⟨ho⟩⟩,.slice a5 n5 c5,.slice a6 n6 c6,.int .i64 ag,.int .i64 ea,.slice a9 n9 c9,.bool rs,.slice a11 n11 c11,.slice a12 n12 c12] 26))
              case first =>
                cases eb with
                | true =>
                  cases he with
                  | true =>
                    as_aux_lemma =>
                      go_wp2
                      all_goals first
                      | (go_meet;refine ⟨?_,rfl⟩;first | rfl | (simp [ex12];done))
                  | false =>
                    cases tk with
                    | true =>
                      as_aux_lemma =>
                        go_wp2
                        all_goals first
                        | (go_meet;refine ⟨?_,rfl⟩;first | rfl | (simp [ex12];done))
                    | false =>
                      cases ex with
                      | true =>
                        as_aux_lemma =>
                          go_wp2
                          all_goals first
                          | (go_meet;refine ⟨?_,rfl⟩;first | rfl | (simp [ex12];done))
                      | false =>
                        cases nu with
                        | true =>
                          as_aux_lemma =>
                            go_wp2
                            all_goals first
                            | (go_meet;refine ⟨?_,rfl⟩;first | rfl | (simp [ex12];done))
                        | false =>
                          as_aux_lemma =>
                            go_wp2
                            all_goals first
                            | (go_meet;refine ⟨?_,rfl⟩;first | rfl | (simp [ex12];done))
                | false =>
                  as_aux_lemma =>
                    go_wp2
                    all_goals first
                    | (go_meet;refine ⟨?_,rfl⟩;first | rfl | (simp [ex12];done))
              case rest =>
                obtain ⟨rfl,hw⟩:=hcut
                subst hw
                have h12:∃ b,ex12 eb he tk ex nu=b:=⟨_,rfl⟩
                obtain ⟨bh12,h12⟩:=h12
                rw [h12]
                cases bh12 with
                | true =>
                  go_wp2
                  go_ret
                  exact ⟨by simp [h6,h8,h10,h12],n0.out⟩
                | false =>
                  cases rs with
                  | true =>
                    cases an with
                    | true =>
                      cases cb with
                      | true =>
                        cases nc with
                        | true =>
                          as_aux_lemma =>
                            go_wp2
                            all_goals first
                            | (go_ret;refine ⟨?_,n0.out⟩;first | rfl | (simp [h6,h8,h10,h12,ex14];done))
                        | false =>
                          cases fb with
                          | true =>
                            cases np with
                            | true =>
                              cases nf with
                              | true =>
                                as_aux_lemma =>
                                  go_wp2
                                  all_goals first
                                  | (go_ret;refine ⟨?_,n0.out⟩;first | rfl | (simp [h6,h8,h10,h12,ex14];done))
                              | false =>
                                as_aux_lemma =>
                                  go_wp2
                                  all_goals first
                                  | (go_ret;refine ⟨?_,n0.out⟩;first | rfl | (simp [h6,h8,h10,h12,ex14];done))
                            | false =>
                              as_aux_lemma =>
                                go_wp2
                                all_goals first
                                | (go_ret;refine ⟨?_,n0.out⟩;first | rfl | (simp [h6,h8,h10,h12,ex14];done))
                          | false =>
                            as_aux_lemma =>
                              go_wp2
                              all_goals first
                              | (go_ret;refine ⟨?_,n0.out⟩;first | rfl | (simp [h6,h8,h10,h12,ex14];done))
                      | false =>
                        cases fb with
                        | true =>
                          cases np with
                          | true =>
                            cases nf with
                            | true =>
                              as_aux_lemma =>
                                go_wp2
                                all_goals first
                                | (go_ret;refine ⟨?_,n0.out⟩;first | rfl | (simp [h6,h8,h10,h12,ex14];done))
                            | false =>
                              as_aux_lemma =>
                                go_wp2
                                all_goals first
                                | (go_ret;refine ⟨?_,n0.out⟩;first | rfl | (simp [h6,h8,h10,h12,ex14];done))
                          | false =>
                            as_aux_lemma =>
                              go_wp2
                              all_goals first
                              | (go_ret;refine ⟨?_,n0.out⟩;first | rfl | (simp [h6,h8,h10,h12,ex14];done))
                        | false =>
                          as_aux_lemma =>
                            go_wp2
                            all_goals first
                            | (go_ret;refine ⟨?_,n0.out⟩;first | rfl | (simp [h6,h8,h10,h12,ex14];done))
                    | false =>
                      as_aux_lemma =>
                        go_wp2
                        all_goals first
                        | (go_ret;refine ⟨?_,n0.out⟩;first | rfl | (simp [h6,h8,h10,h12,ex14];done))
                  | false =>
                    cases cb with
                    | true =>
                      cases nc with
                      | true =>
                        as_aux_lemma =>
                          go_wp2
                          all_goals first
                          | (go_ret;refine ⟨?_,n0.out⟩;first | rfl | (simp [h6,h8,h10,h12,ex14];done))
                      | false =>
                        cases fb with
                        | true =>
                          cases np with
                          | true =>
                            cases nf with
                            | true =>
                              as_aux_lemma =>
                                go_wp2
                                all_goals first
                                | (go_ret;refine ⟨?_,n0.out⟩;first | rfl | (simp [h6,h8,h10,h12,ex14];done))
                            | false =>
                              as_aux_lemma =>
                                go_wp2
                                all_goals first
                                | (go_ret;refine ⟨?_,n0.out⟩;first | rfl | (simp [h6,h8,h10,h12,ex14];done))
                          | false =>
                            as_aux_lemma =>
                              go_wp2
                              all_goals first
                              | (go_ret;refine ⟨?_,n0.out⟩;first | rfl | (simp [h6,h8,h10,h12,ex14];done))
                        | false =>
                          as_aux_lemma =>
                            go_wp2
                            all_goals first
                            | (go_ret;refine ⟨?_,n0.out⟩;first | rfl | (simp [h6,h8,h10,h12,ex14];done))
                    | false =>
                      cases fb with
                      | true =>
                        cases np with
                        | true =>
                          cases nf with
                          | true =>
                            as_aux_lemma =>
                              go_wp2
                              all_goals first
                              | (go_ret;refine ⟨?_,n0.out⟩;first | rfl | (simp [h6,h8,h10,h12,ex14];done))
                          | false =>
                            as_aux_lemma =>
                              go_wp2
                              all_goals first
                              | (go_ret;refine ⟨?_,n0.out⟩;first | rfl | (simp [h6,h8,h10,h12,ex14];done))
                        | false =>
                          as_aux_lemma =>
                            go_wp2
                            all_goals first
                            | (go_ret;refine ⟨?_,n0.out⟩;first | rfl | (simp [h6,h8,h10,h12,ex14];done))
                      | false =>
                        as_aux_lemma =>
                          go_wp2
                          all_goals first
                          | (go_ret;refine ⟨?_,n0.out⟩;first | rfl | (simp [h6,h8,h10,h12,ex14];done))
end Go.Proofs.YtmmbkkfjiaoeiaaGreat
