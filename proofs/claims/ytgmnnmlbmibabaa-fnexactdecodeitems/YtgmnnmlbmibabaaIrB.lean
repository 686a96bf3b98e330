
/-
  The cursor's items.
-/
import Derived.Test.YtgmnnmlbmibabaaIrA
import Derived.Test.YtgmnnmlbmibabaaCuN
namespace Go.Proofs.Ytgmnnmlbmibabaa
open Go Go.RowKit

/-- The items from a place on, at most so many. -/
def itsF (xs : List Int) : Nat → Nat → Option (List (Int × List Int))
  | 0, i => if i = xs.length then some [] else none
  | f + 1, i => if i = xs.length then some [] else match itA xs i with
    | none => none
    | some (t, s, n) => (itsF xs f (s + n)).map (List.cons (t, (xs.drop s).take n))
theorem itsF_end (xs : List Int) (f : Nat) : itsF xs f xs.length = some [] := by cases f <;> simp [itsF]
theorem itsF_zero {xs : List Int} {i : Nat} (h : i ≠ xs.length) : itsF xs 0 i = none := by simp [itsF, h]
theorem itsF_bad {xs : List Int} {i : Nat} (f : Nat) (h : i ≠ xs.length) (hi : itA xs i = none) : itsF xs f i = none := by cases f <;> simp [itsF, h, hi]
theorem itsF_step {xs : List Int} {i f s n : Nat} {t : Int} (h : i ≠ xs.length) (hi : itA xs i = some (t, s, n)) : itsF xs (f + 1) i = (itsF xs f (s + n)).map (List.cons (t, (xs.drop s).take n)) := by simp [itsF, h, hi]
/-- These are the items ahead of this place. -/
def Ahd (xs : List Int) (its : List (Int × List Int)) (k : Nat) : Prop := itsF xs 1000 0 = (itsF xs (1000 - its.length) k).map (its ++ ·)
theorem Ahd.zero (xs : List Int) : Ahd xs [] 0 := by
  unfold Ahd
  show itsF xs 1000 0 = (itsF xs 1000 0).map _
  cases itsF xs 1000 0 <;> simp
theorem Ahd.end' {xs : List Int} {its : List (Int × List Int)} (h : Ahd xs its xs.length) : itsF xs 1000 0 = some its := by
  unfold Ahd at h
  rw [h, itsF_end]
  simp
theorem Ahd.full {xs : List Int} {its : List (Int × List Int)} {k : Nat} (h : Ahd xs its k) (hl : its.length = 1000) (hk : k ≠ xs.length) : itsF xs 1000 0 = none := by
  unfold Ahd at h
  rw [h, hl, itsF_zero hk]
  rfl
theorem Ahd.bad {xs : List Int} {its : List (Int × List Int)} {k : Nat} (h : Ahd xs its k) (hk : k ≠ xs.length) (hi : itA xs k = none) : itsF xs 1000 0 = none := by
  unfold Ahd at h
  rw [h, itsF_bad _ hk hi]
  rfl
theorem Ahd.step {xs : List Int} {its : List (Int × List Int)} {k s n : Nat} {t : Int} (h : Ahd xs its k) (hl : its.length < 1000) (hk : k ≠ xs.length) (hi : itA xs k = some (t, s, n)) : Ahd xs (its ++ [(t, (xs.drop s).take n)]) (s + n) := by
  unfold Ahd at h ⊢
  rw [h]
  obtain ⟨f, hf⟩ : ∃ f, 1000 - its.length = f + 1 := ⟨999 - its.length, by omega⟩
  rw [hf, itsF_step hk hi, show 1000 - (its ++ [(t, (xs.drop s).take n)]).length = f by simp; omega]
  cases itsF xs f (s + n) <;> simp
def curP (w : World) (p : Nat) : Nat := match w.cell? ⟨p, 1, none⟩ with | some (.int _ i) => i.toNat | _ => 0
theorem Cur.curP {w : World} {p : Nat} {l : Value} {i : Nat} (h : Cur w p l (i : Int)) : curP w p = i := by
  unfold Proofs.Ytgmnnmlbmibabaa.curP
  rw [h.c1]
  simp
theorem Kp.tail {p : Nat} {a b c : World} (h : Kp p a b) (k : Below a.heap.size b c) : Kp p a c :=
  ⟨k.os.trans h.os, k.tape.trans h.tape, k.output.trans h.output, Nat.le_trans h.size k.size, fun i hi hp => (k.block i hi).trans (h.block i hi hp)⟩

set_option maxHeartbeats 4000000 in
theorem items_any (w : World) (p g : Nat) (a : Option Addr) (c : Nat) (xs : List Int) (hC : Cur w p (.slice a xs.length c) ((0 : Nat) : Int)) (hr : Rd w g a .u8 xs) (hb : Byt xs) (hg : 0 < xs.length → g ≠ p) (hc0 : a = none → c = 0) (hc : xs.length ≤ c) (hn : xs.length ≤ 1048576) :
    Calls Try.prog 22 #[.pointer (some ⟨p, 0, none⟩)] w fun e w' => ((∃ its bs v, itsF xs 1000 0 = some its ∧ e = .returned v ∧ IRow w' w.heap.size v its bs) ∨ (itsF xs 1000 0 = none ∧ Pan e)) ∧ Kp p w w' := by
  have pl := hC.lt
  have HC := hide hC
  have HR := hide hr
  have HC0 := hide hc0
  have HN := hide (And.intro hc hn)
  have HG := hide hg
  have PL := hide pl
  clear hC hr hc0 hc hn hg pl
  go_enter Try.func22, Try.ntmps22
  go_wp2_with fail
  go_loopw [3] (fun q wr => ∃ (k : Nat) (its : List (Int × List Int)) (bs : List Plc), k ≤ xs.length ∧ its.length ≤ 1000 ∧ IRow wr w.heap.size q its bs ∧ Hid (Ahd xs its k) ∧ Cur wr p (.slice a xs.length c) (k : Int) ∧ Kp p w wr) (fun _ wr => xs.length - curP wr p)
  case atStart => exact ⟨0, [], [], Nat.zero_le _, by simp, IRow.nil _ _, Ahd.zero xs, HC.out, Kp.refl _ _⟩
  case round =>
    obtain ⟨k, its, bs, hk, hl, R, A, C, K⟩ := hrel
    have AE := atEnd_any wr p a xs.length c k C
    by_cases hlt : k < xs.length
    · rw [decide_eq_false (show ¬ k = xs.length by omega)] at AE
      obtain ⟨ra, rc, rfl, -⟩ := R.slice
      have SZ := hide K.size
      by_cases hf : its.length = 1000
      · have FU := hide (A.out.full hf (by omega))
        have t1 : ((its.length : Int) == 1000) = true := by simp; omega
        have t2 : decide ((its.length : Int) = 1000) = true := by simp; omega
        have KK := fun q => hide (show Kp p w (wr.drewN q) from K.trans (Only.drewN wr p q).kp)
        clear R A C K hl hf hk hlt
        generalize its.length = m at *
        generalize xs.length = n at *
        go_wp2_with fail
        refine AE.mono ?_
        rintro r w2 ⟨rfl, q, rfl⟩
        go_wp2
        exact ⟨rfl, .inr ⟨FU.out, _, _, rfl⟩, (KK q).out⟩
      · have t1 : ((its.length : Int) == 1000) = false := by simp; omega
        have t2 : decide ((its.length : Int) = 1000) = false := by simp; omega
        have IT := fun q => hide (item_any (wr.drewN q) p g a c xs k (C.drew q) ((HR.out.kp K HG.out).of_block rfl) hb HG.out HC0.out HN.out.1 HN.out.2)
        have M1 := hide C.curP
        have RL := hide R
        have KL := hide K
        have HL := hide hl
        have HF := hide hf
        have HLT := hide hlt
        clear R K C hl hf hk hlt
        go_wp2_with fail
        refine AE.mono ?_
        rintro r w2 ⟨rfl, q, rfl⟩
        clear AE
        go_wp2_with fail
        refine (IT q).out.mono ?_
        rintro r w3 ⟨⟨t, s, n, g2, h1, rfl, h3, B2, C3⟩ | ⟨h1, v1, v2, rfl⟩, K3⟩
        · have bd := itA_bd hb h1
          have BL : ((xs.drop s).take n).length = n := by rw [List.length_take, List.length_drop]; omega
          have PW : p < w.heap.size := PL.out
          have R3 : IRow w3 w.heap.size (.slice ra its.length rc) its bs := RL.out.of (fun i hi hB => K3.block i hi (by omega))
          have hs3 := K3.size
          have hsw := SZ.out
          have hsd : (wr.drewN q).heap.size = wr.heap.size := rfl
          have LI : Lie w3 ((xs.drop s).take n) ⟨some ⟨g2, 0, none⟩, n, g2⟩ := ⟨B2.own0, fun e => by (first | cases e | simp at e), by show _ ≤ n; omega⟩
          obtain ⟨v', w4, a1, a2, a3, a4⟩ := R3.app (t, (xs.drop s).take n) ⟨some ⟨g2, 0, none⟩, n, g2⟩ (by omega) LI wr.heap.size (by omega) (fun i hi h0 => RL.out.lt hi h0) (fun i hi => (RL.out.o.lt i hi).2) (by show _ ≤ g2; omega) (by have := HL.out; omega)
          have A4 := hide (A.out.step (by have := HL.out; have := HF.out; omega) (by have := HLT.out; omega) h1)
          have C4 : Cur w4 p (.slice a xs.length c) ((s + n : Nat) : Int) := C3.of_block (a4.block p PW)
          have K4 : Kp p w w4 := (KL.out.trans ((Only.drewN wr p q).kp.trans K3)).tail a4
          have M4 := hide C4.curP
          have MM : Hid (xs.length - curP w4 p < xs.length - curP wr p) := by show _ < _; rw [M1.out, M4.out]; have := HLT.out; omega
          have FIN := hide (And.intro a2 (And.intro A4 (And.intro C4 K4)))
          have BD := hide (show s + n ≤ xs.length by omega)
          have LE := hide (show (its ++ [(t, (xs.drop s).take n)]).length ≤ 1000 by simp; have := HL.out; have := HF.out; omega)
          simp only [BL] at a1
          have hap := a1
          clear a1 a2 a3 a4 C4 K4 A4 M4 LI R3 bd h1 h3 B2 C3 K3 BL hs3 hsw hsd PW IT
          go_wp2_with (at_builtin; refine Lib.wpList_append_run _ rfl _ _ 23 23 rfl _ _ rfl rfl _ _ hap ?_)
          clear hap
          go_wp2
          go_roundw
          case rel => exact ⟨s + n, _, _, BD.out, LE.out, FIN.out.1, FIN.out.2.1, FIN.out.2.2.1, FIN.out.2.2.2⟩
          case measure => exact MM.out
        · have FU := hide (A.out.bad (by have := HLT.out; omega) h1)
          have K4 := hide (KL.out.trans ((Only.drewN wr p q).kp.trans K3))
          clear K3 h1 IT
          go_wp2
          exact ⟨rfl, .inr ⟨FU.out, _, _, rfl⟩, K4.out⟩
    · obtain rfl : k = xs.length := by omega
      rw [decide_eq_true rfl] at AE
      have EN := hide A.out.end'
      have KK := fun q => hide (show Kp p w (wr.drewN q) from K.trans (Only.drewN wr p q).kp)
      have RR := fun q => hide (show IRow (wr.drewN q) w.heap.size _ its bs from R.of (fun _ _ _ => rfl))
      clear R A C K hk hlt hl
      go_wp2_with fail
      refine AE.mono ?_
      rintro r w2 ⟨rfl, q, rfl⟩
      go_wp2
      go_ret
      exact ⟨.inl ⟨its, bs, _, EN.out, rfl, (RR q).out⟩, (KK q).out⟩
end Go.Proofs.Ytgmnnmlbmibabaa
