import Derived.Test.YtmmbkkfjiaoeiaaGreatGV16
import Derived.Deep.DeepCutAuto
namespace Go.Proofs.YtmmbkkfjiaoeiaaGreat
open Go Go.RowKit
set_option maxRecDepth 20000 in
set_option maxHeartbeats 4000000 in
theorem l13Sizes_any (w : World) (k v ag ea : Int) (a2 a3 a5 a6 a9 a11 a12 : Option Addr) (n2 n3 n5 n6 n9 n11 n12 c2 c3 c5 c6 c9 c11 c12 : Nat) (ho : List UInt8) (rs : Bool) :
    Calls Tryz.prog 20 #[.agg #[.int .i64 k,.int .i64 v,.slice a2 n2 c2,.slice a3 n3 c3,.string ⟨⟨ho⟩⟩,.slice a5 n5 c5,.slice a6 n6 c6,.int .i64 ag,.int .i64 ea,.slice a9 n9 c9,.bool rs,.slice a11 n11 c11,.slice a12 n12 c12]] w fun e w'=>e = .returned (.bool (!si2 (decide (v < 0)) (decide (255 < v)) && (!si4 (k == 1) (k == 2) (k == 4) ((n2:Int) != 32) && (!si6 (k == 1) (k == 2) ((n3:Int) != 32) && (!si8 (k == 15) ((n12:Int) != 64) (k == 20) ((n12:Int) != 32) && siR (k == 1) (decide ((0:Int) < (n6:Int))) ((n9:Int) == 32) ((n9:Int) == 0) (ag == 0) (ea == 0))))))∧Below w.heap.size w w':=by
  have n0:Hid (Below w.heap.size w (w.alloc (.cells #[.int .i64 k,.int .i64 v,.slice a2 n2 c2,.slice a3 n3 c3,.string ⟨⟨ho⟩⟩,.slice a5 n5 c5,.slice a6 n6 c6,.int .i64 ag,.int .i64 ea,.slice a9 n9 c9,.bool rs,.slice a11 n11 c11,.slice a12 n12 c12] 26))):=(Below.refl _ _).alloc (Nat.le_refl _) _
  obtain ⟨v0,t_v0⟩:∃ b,decide (v < 0)=b:=⟨_,rfl⟩
  obtain ⟨v1,t_v1⟩:∃ b,decide (255 < v)=b:=⟨_,rfl⟩
  obtain ⟨he,t_he⟩:∃ b,(k == 1)=b:=⟨_,rfl⟩
  obtain ⟨an,t_an⟩:∃ b,(k == 2)=b:=⟨_,rfl⟩
  obtain ⟨tk,t_tk⟩:∃ b,(k == 4)=b:=⟨_,rfl⟩
  obtain ⟨r2,t_r2⟩:∃ b,((n2:Int) != 32)=b:=⟨_,rfl⟩
  obtain ⟨s2,t_s2⟩:∃ b,((n3:Int) != 32)=b:=⟨_,rfl⟩
  obtain ⟨pf,t_pf⟩:∃ b,(k == 15)=b:=⟨_,rfl⟩
  obtain ⟨ff,t_ff⟩:∃ b,(k == 20)=b:=⟨_,rfl⟩
  obtain ⟨p6,t_p6⟩:∃ b,((n12:Int) != 64)=b:=⟨_,rfl⟩
  obtain ⟨p3,t_p3⟩:∃ b,((n12:Int) != 32)=b:=⟨_,rfl⟩
  obtain ⟨tb,t_tb⟩:∃ b,decide ((0:Int) < (n6:Int))=b:=⟨_,rfl⟩
  have u_tb:decide (0 < n6)=tb:=by rw [← t_tb];exact decide_eq_decide.2 (by omega)
  obtain ⟨b3,t_b3⟩:∃ b,((n9:Int) == 32)=b:=⟨_,rfl⟩
  obtain ⟨b0,t_b0⟩:∃ b,((n9:Int) == 0)=b:=⟨_,rfl⟩
  obtain ⟨g0,t_g0⟩:∃ b,(ag == 0)=b:=⟨_,rfl⟩
  obtain ⟨e0,t_e0⟩:∃ b,(ea == 0)=b:=⟨_,rfl⟩
  simp only [t_v0,t_v1,t_he,t_an,t_tk,t_r2,t_s2,t_pf,t_ff,t_p6,t_p3,t_tb,t_b3,t_b0,t_g0,t_e0]
  go_enter Tryz.func20,Tryz.ntmps20
  go_upto_region 2 with fail
  go_cut [13] (fun x wc=>x = .bool (si2 v0 v1)∧wc=w.alloc (.cells #[.int .i64 k,.int .i64 v,.slice a2 n2 c2,.slice a3 n3 c3,.string ⟨⟨ho⟩⟩,.slice a5 n5 c5,.slice a6 n6 c6,.int .i64 ag,.int .i64 ea,.slice a9 n9 c9,.bool rs,.slice a11 n11 c11,.slice a12 n12 c12] 26))
  case first =>
    cases v0 with
    | true =>
      as_aux_lemma =>
        go_wp2
        all_goals first
        | (go_meet;refine ⟨?_,rfl⟩;first | rfl | (simp [si2];done))
    | false =>
      cases v1 with
      | true =>
        as_aux_lemma =>
          go_wp2
          all_goals first
          | (go_meet;refine ⟨?_,rfl⟩;first | rfl | (simp [si2];done))
      | false =>
        as_aux_lemma =>
          go_wp2
          all_goals first
          | (go_meet;refine ⟨?_,rfl⟩;first | rfl | (simp [si2];done))
  case rest =>
    obtain ⟨rfl,hw⟩:=hcut
    subst hw
    have h2:∃ b,si2 v0 v1=b:=⟨_,rfl⟩
    obtain ⟨bh2,h2⟩:=h2
    rw [h2]
    cases bh2 with
    | true =>
      go_wp2
      go_ret
      exact ⟨by simp [h2],n0.out⟩
    | false =>
      go_upto_region 4 with fail
      go_cut [29] (fun x wc=>x = .bool (si4 he an tk r2)∧wc=w.alloc (.cells #[.int .i64 k,.int .i64 v,.slice a2 n2 c2,.slice a3 n3 c3,.string ⟨⟨ho⟩⟩,.slice a5 n5 c5,.slice a6 n6 c6,.int .i64 ag,.int .i64 ea,.slice a9 n9 c9,.bool rs,.slice a11 n11 c11,.slice a12 n12 c12] 26))
      case first =>
        cases he with
        | true =>
          cases r2 with
          | true =>
            as_aux_lemma =>
              go_wp2
              all_goals first
              | (go_meet;refine ⟨?_,rfl⟩;first | rfl | (simp [si4];done))
          | false =>
            as_aux_lemma =>
              go_wp2
              all_goals first
              | (go_meet;refine ⟨?_,rfl⟩;first | rfl | (simp [si4];done))
        | false =>
          cases an with
          | true =>
            cases r2 with
            | true =>
              as_aux_lemma =>
                go_wp2
                all_goals first
                | (go_meet;refine ⟨?_,rfl⟩;first | rfl | (simp [si4];done))
            | false =>
              as_aux_lemma =>
                go_wp2
                all_goals first
                | (go_meet;refine ⟨?_,rfl⟩;first | rfl | (simp [si4];done))
          | false =>
            cases tk with
            | true =>
              cases r2 with
              | true =>
                as_aux_lemma =>
                  go_wp2
                  all_goals first
                  | (go_meet;refine ⟨?_,rfl⟩;first | rfl | (simp [si4];done))
              | false =>
                as_aux_lemma =>
                  go_wp2
                  all_goals first
                  | (go_meet;refine ⟨?_,rfl⟩;first | rfl | (simp [si4];done))
            | false =>
              as_aux_lemma =>
                go_wp2
                all_goals first
                | (go_meet;refine ⟨?_,rfl⟩;first | rfl | (simp [si4];done))
      case rest =>
        obtain ⟨rfl,hw⟩:=hcut
        subst hw
        have h4:∃ b,si4 he an tk r2=b:=⟨_,rfl⟩
        obtain ⟨bh4,h4⟩:=h4
        rw [h4]
        cases bh4 with
        | true =>
          go_wp2
          go_ret
          exact ⟨by simp [h2,h4],n0.out⟩
        | false =>
          go_upto_region 6 with fail
          go_cut [41] (fun x wc=>x = .bool (si6 he an s2)∧wc=w.alloc (.cells #[.int .i64 k,.int .i64 v,.slice a2 n2 c2,.slice a3 n3 c3,.string ⟨⟨ho⟩⟩,.slice a5 n5 c5,.slice a6 n6 c6,.int .i64 ag,.int .i64 ea,.slice a9 n9 c9,.bool rs,.slice a11 n11 c11,.slice a12 n12 c12] 26))
          case first =>
            cases he with
            | true =>
              cases s2 with
              | true =>
                as_aux_lemma =>
                  go_wp2
                  all_goals first
                  | (go_meet;refine ⟨?_,rfl⟩;first | rfl | (simp [si6];done))
              | false =>
                as_aux_lemma =>
                  go_wp2
                  all_goals first
                  | (go_meet;refine ⟨?_,rfl⟩;first | rfl | (simp [si6];done))
            | false =>
              cases an with
              | true =>
                cases s2 with
                | true =>
                  as_aux_lemma =>
                    go_wp2
                    all_goals first
                    | (go_meet;refine ⟨?_,rfl⟩;first | rfl | (simp [si6];done))
                | false =>
                  as_aux_lemma =>
                    go_wp2
                    all_goals first
                    | (go_meet;refine ⟨?_,rfl⟩;first | rfl | (simp [si6];done))
              | false =>
                as_aux_lemma =>
                  go_wp2
                  all_goals first
                  | (go_meet;refine ⟨?_,rfl⟩;first | rfl | (simp [si6];done))
          case rest =>
            obtain ⟨rfl,hw⟩:=hcut
            subst hw
            have h6:∃ b,si6 he an s2=b:=⟨_,rfl⟩
            obtain ⟨bh6,h6⟩:=h6
            rw [h6]
            cases bh6 with
            | true =>
              go_wp2
              go_ret
              exact ⟨by simp [h2,h4,h6],n0.out⟩
            | false =>
              go_upto_region 8 with fail
              go_cut [59] (fun x wc=>x = .bool (si8 pf p6 ff p3)∧wc=w.alloc (.cells #[.int .i64 k,.int .i64 v,.slice a2 n2 c2,.slice a3 n3 c3,.string ⟨⟨ho⟩⟩,.slice a5 n5 c5,.slice a6 n6 c6,.int .i64 ag,.int .i64 ea,.slice a9 n9 c9,.bool rs,.slice a11 n11 c11,.slice a12 n12 c12] 26))
              case first =>
                cases pf with
                | true =>
                  cases p6 with
                  | true =>
                    as_aux_lemma =>
                      go_wp2
                      all_goals first
                      | (go_meet;refine ⟨?_,rfl⟩;first | rfl | (simp [si8];done))
                  | false =>
                    cases ff with
                    | true =>
                      cases p3 with
                      | true =>
                        as_aux_lemma =>
                          go_wp2
                          all_goals first
                          | (go_meet;refine ⟨?_,rfl⟩;first | rfl | (simp [si8];done))
                      | false =>
                        as_aux_lemma =>
                          go_wp2
                          all_goals first
                          | (go_meet;refine ⟨?_,rfl⟩;first | rfl | (simp [si8];done))
                    | false =>
                      as_aux_lemma =>
                        go_wp2
                        all_goals first
                        | (go_meet;refine ⟨?_,rfl⟩;first | rfl | (simp [si8];done))
                | false =>
                  cases ff with
                  | true =>
                    cases p3 with
                    | true =>
                      as_aux_lemma =>
                        go_wp2
                        all_goals first
                        | (go_meet;refine ⟨?_,rfl⟩;first | rfl | (simp [si8];done))
                    | false =>
                      as_aux_lemma =>
                        go_wp2
                        all_goals first
                        | (go_meet;refine ⟨?_,rfl⟩;first | rfl | (simp [si8];done))
                  | false =>
                    as_aux_lemma =>
                      go_wp2
                      all_goals first
                      | (go_meet;refine ⟨?_,rfl⟩;first | rfl | (simp [si8];done))
              case rest =>
                obtain ⟨rfl,hw⟩:=hcut
                subst hw
                have h8:∃ b,si8 pf p6 ff p3=b:=⟨_,rfl⟩
                obtain ⟨bh8,h8⟩:=h8
                rw [h8]
                cases bh8 with
                | true =>
                  go_wp2
                  go_ret
                  exact ⟨by simp [h2,h4,h6,h8],n0.out⟩
                | false =>
                  cases he with
                  | true =>
                    cases tb with
                    | true =>
                      cases b3 with
                      | true =>
                        as_aux_lemma =>
                          go_wp2
                          all_goals first
                          | (go_ret;refine ⟨?_,n0.out⟩;first | rfl | (simp [h2,h4,h6,h8,siR];done))
                      | false =>
                        as_aux_lemma =>
                          go_wp2
                          all_goals first
                          | (go_ret;refine ⟨?_,n0.out⟩;first | rfl | (simp [h2,h4,h6,h8,siR];done))
                    | false =>
                      cases b0 with
                      | true =>
                        cases g0 with
                        | true =>
                          cases e0 with
                          | true =>
                            as_aux_lemma =>
                              go_wp2
                              all_goals first
                              | (go_ret;refine ⟨?_,n0.out⟩;first | rfl | (simp [h2,h4,h6,h8,siR];done))
                          | false =>
                            as_aux_lemma =>
                              go_wp2
                              all_goals first
                              | (go_ret;refine ⟨?_,n0.out⟩;first | rfl | (simp [h2,h4,h6,h8,siR];done))
                        | false =>
                          as_aux_lemma =>
                            go_wp2
                            all_goals first
                            | (go_ret;refine ⟨?_,n0.out⟩;first | rfl | (simp [h2,h4,h6,h8,siR];done))
                      | false =>
                        as_aux_lemma =>
                          go_wp2
                          all_goals first
                          | (go_ret;refine ⟨?_,n0.out⟩;first | rfl | (simp [h2,h4,h6,h8,siR];done))
                  | false =>
                    as_aux_lemma =>
                      go_wp2
                      all_goals first
                      | (go_ret;refine ⟨?_,n0.out⟩;first | rfl | (simp [h2,h4,h6,h8,siR];done))
end Go.Proofs.YtmmbkkfjiaoeiaaGreat
