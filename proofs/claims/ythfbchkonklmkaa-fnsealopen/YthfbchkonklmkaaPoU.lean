
/-
  The program's OneTime (written by gens/pou.py).
-/
import Derived.Test.YthfbchkonklmkaaPoT
namespace Go.Proofs.Ythfbchkonklmkaa
open Go Go.RowKit

set_option maxRecDepth 100000 in
set_option maxHeartbeats 4000000 in
theorem implOneTime_any (w : World) (gk : Nat) (ak : Option Addr) (ck : Nat) (key : List Int) (hk : Rd w gk ak .u8 key) (kb : Byt key)
    (gd : Nat) (ad : Option Addr) (cd : Nat) (data : List Int) (hd : Rd w gd ad .u8 data) (db : Byt data) (dc : data.length ≤ cd) (dn : data.length ≤ 4194304) :
    Calls Try.prog 9 #[.slice ak key.length ck, .slice ad data.length cd] w fun e w' => NewRow w.heap.size w' e .u8 (otA key data) ∧ Below w.heap.size w w' := by
  by_cases kl : key.length = 32
  · have RS : Hid (otA key data = otB key data) := by show _ = _; unfold otA; rw [if_pos kl]
    rw [RS.out]
    have OS := hide (oneTimeSum_any w gk ak ck key hk kb kl gd ad cd data hd db dc dn)
    have OL := hide (otB_len key data)
    have L : Hid (((otB key data).map (Value.int .u8)).length = 16) := by show _ = _; rw [List.length_map]; exact otB_len _ _
    have O := one_ints .u8 (otB key data)
    have V : Hid (ag .u8 (otB key data) = Value.agg ((otB key data).map (Value.int .u8)).toArray) := rfl
    have k32 : (key.length : Int) = 32 := by omega
    clear RS kl
    go_enter Try.func9, Try.ntmps9
    go_wp2_with fail
    refine OS.out.mono ?_
    rintro e w3 ⟨rfl, n3⟩
    rw [V.out]
    have n4 : Below w3.heap.size w3 (w3.alloc (.cells #[.int .u8 0, .int .u8 0, .int .u8 0, .int .u8 0, .int .u8 0, .int .u8 0, .int .u8 0, .int .u8 0, .int .u8 0, .int .u8 0, .int .u8 0, .int .u8 0, .int .u8 0, .int .u8 0, .int .u8 0, .int .u8 0] 40)) := (Below.refl _ _).alloc (Nat.le_refl _) _
    obtain ⟨t4, H4⟩ := blk_y16 w3 40
    have SR := blk_setRow (zs := otB key data) ⟨t4, H4⟩
    have OR := only_setRow (w3.alloc (.cells #[.int .u8 0, .int .u8 0, .int .u8 0, .int .u8 0, .int .u8 0, .int .u8 0, .int .u8 0, .int .u8 0, .int .u8 0, .int .u8 0, .int .u8 0, .int .u8 0, .int .u8 0, .int .u8 0, .int .u8 0, .int .u8 0] 40)) w3.heap.size ((otB key data).map (Value.int .u8)).toArray
    obtain ⟨vr, hvr⟩ : ∃ v, v = (otB key data).map (Value.int .u8) := ⟨_, rfl⟩
    rw [← hvr] at L O SR OR ⊢
    clear hvr OS V
    go_wp2_with (refine wpList_store_row rfl 40 (.tmp 5) (.tmp 11) rfl w3.heap.size vr.toArray rfl rfl t4 _ H4 (by rw [List.size_toArray, L.out]; exact infoP16) (by rw [List.size_toArray, List.size_toArray, L.out]; rfl) O ?_)
    go_ret
    have s3 := n3.size
    exact ⟨⟨some ⟨w3.heap.size, 0, none⟩, 16, w3.heap.size, by rw [OL.out]; rfl, SR.own0, by simp, by rw [OL.out]; exact Nat.le_refl _, s3⟩, n3.trans ((n4.mono s3).trans (OR.below s3))⟩
  · have RS : Hid (otA key data = []) := by show _ = _; unfold otA; rw [if_neg kl]
    rw [RS.out]
    have k32 : ¬ (key.length : Int) = 32 := by omega
    go_enter Try.func9, Try.ntmps9
    go_wp2
    go_ret
    exact ⟨newRow_nil w .u8, Below.refl _ _⟩
end Go.Proofs.Ythfbchkonklmkaa
