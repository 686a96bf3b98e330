
/-
  The model's step words and its block, 64 bits (written by gens/sb.py).
-/
import Derived.Test.YtbjcegabjpeejaaDoorHsS
import Derived.Test.YtbjcegabjpeejaaDoorPdS
import Derived.BigRegion
import Derived.Test.YtbjcegabjpeejaaDoorRgV
import Derived.Deep.DeepCutAuto
namespace Go.Proofs.YtbjcegabjpeejaaDoor
set_option maxRecDepth 100000
open Go Go.RowKit

def kA64 : List Int := [4794697086780616226, 8158064640168781261, 13096744586834688815, 16840607885511220156, 4131703408338449720, 6480981068601479193, 10538285296894168987, 12329834152419229976, 15566598209576043074, 1334009975649890238, 2608012711638119052, 6128411473006802146, 8268148722764581231, 9286055187155687089, 11230858885718282805, 13951009754708518548, 16472876342353939154, 17275323862435702243, 1135362057144423861, 2597628984639134821, 3308224258029322869, 5365058923640841347, 6679025012923562964, 8573033837759648693, 10970295158949994411, 12119686244451234320, 12683024718118986047, 13788192230050041572, 14330467153632333762, 15395433587784984357, 489312712824947311, 1452737877330783856, 2861767655752347644, 3322285676063803686, 5560940570517711597, 5996557281743188959, 7280758554555802590, 8532644243296465576, 9350256976987008742, 10552545826968843579, 11727347734174303076, 12113106623233404929, 14000437183269869457, 14369950271660146224, 15101387698204529176, 15463397548674623760, 17586052441742319658, 1182934255886127544, 1847814050463011016, 2177327727835720531, 2830643537854262169, 3796741975233480872, 4115178125766777443, 5681478168544905931, 6601373596472566643, 7507060721942968483, 8399075790359081724, 8693463985226723168, 9568029438360202098, 10144078919501101548, 10430055236837252648, 11840083180663258601, 13761210420658862357, 14299343276471374635, 14566680578165727644, 15097957966210449927, 16922976911328602910, 17689382322260857208, 500013540394364858, 748580250866718886, 1242879168328830382, 1977374033974150939, 2944078676154940804, 3659926193048069267, 4368137639120453308, 4836135668995329356, 5532061633213252278, 6448918945643986474, 6902733635092675308, 7801388544844847127]
set_option maxRecDepth 4000 in
theorem kA_is64 : ∀ i : Fin 80, kA64.getD i.val 0 = K64 i.val := by decide +kernel
theorem kA_len64 : kA64.length = 80 := rfl
theorem infoN_64 : (Tryd.prog.info? 76).map (·.size) = some 80 := by kernel_rfl
theorem undN_64 : Tryd.prog.underlying 76 = some (.array 80 51) := by kernel_rfl
abbrev zN64 : Obj := .cells (List.toArray (.int .u64 0 :: .int .u64 0 :: .int .u64 0 :: .int .u64 0 :: .int .u64 0 :: .int .u64 0 :: .int .u64 0 :: .int .u64 0 :: .int .u64 0 :: .int .u64 0 :: .int .u64 0 :: .int .u64 0 :: .int .u64 0 :: .int .u64 0 :: .int .u64 0 :: .int .u64 0 :: .int .u64 0 :: .int .u64 0 :: .int .u64 0 :: .int .u64 0 :: .int .u64 0 :: .int .u64 0 :: .int .u64 0 :: .int .u64 0 :: .int .u64 0 :: .int .u64 0 :: .int .u64 0 :: .int .u64 0 :: .int .u64 0 :: .int .u64 0 :: .int .u64 0 :: .int .u64 0 :: .int .u64 0 :: .int .u64 0 :: .int .u64 0 :: .int .u64 0 :: .int .u64 0 :: .int .u64 0 :: .int .u64 0 :: .int .u64 0 :: .int .u64 0 :: .int .u64 0 :: .int .u64 0 :: .int .u64 0 :: .int .u64 0 :: .int .u64 0 :: .int .u64 0 :: .int .u64 0 :: .int .u64 0 :: .int .u64 0 :: .int .u64 0 :: .int .u64 0 :: .int .u64 0 :: .int .u64 0 :: .int .u64 0 :: .int .u64 0 :: .int .u64 0 :: .int .u64 0 :: .int .u64 0 :: .int .u64 0 :: .int .u64 0 :: .int .u64 0 :: .int .u64 0 :: .int .u64 0 :: .int .u64 0 :: .int .u64 0 :: .int .u64 0 :: .int .u64 0 :: .int .u64 0 :: .int .u64 0 :: .int .u64 0 :: .int .u64 0 :: .int .u64 0 :: .int .u64 0 :: .int .u64 0 :: .int .u64 0 :: .int .u64 0 :: .int .u64 0 :: .int .u64 0 :: .int .u64 0 :: [])) 76
set_option maxRecDepth 4000 in
theorem zeroN_64 : (.int .u64 0 :: .int .u64 0 :: .int .u64 0 :: .int .u64 0 :: .int .u64 0 :: .int .u64 0 :: .int .u64 0 :: .int .u64 0 :: .int .u64 0 :: .int .u64 0 :: .int .u64 0 :: .int .u64 0 :: .int .u64 0 :: .int .u64 0 :: .int .u64 0 :: .int .u64 0 :: .int .u64 0 :: .int .u64 0 :: .int .u64 0 :: .int .u64 0 :: .int .u64 0 :: .int .u64 0 :: .int .u64 0 :: .int .u64 0 :: .int .u64 0 :: .int .u64 0 :: .int .u64 0 :: .int .u64 0 :: .int .u64 0 :: .int .u64 0 :: .int .u64 0 :: .int .u64 0 :: .int .u64 0 :: .int .u64 0 :: .int .u64 0 :: .int .u64 0 :: .int .u64 0 :: .int .u64 0 :: .int .u64 0 :: .int .u64 0 :: .int .u64 0 :: .int .u64 0 :: .int .u64 0 :: .int .u64 0 :: .int .u64 0 :: .int .u64 0 :: .int .u64 0 :: .int .u64 0 :: .int .u64 0 :: .int .u64 0 :: .int .u64 0 :: .int .u64 0 :: .int .u64 0 :: .int .u64 0 :: .int .u64 0 :: .int .u64 0 :: .int .u64 0 :: .int .u64 0 :: .int .u64 0 :: .int .u64 0 :: .int .u64 0 :: .int .u64 0 :: .int .u64 0 :: .int .u64 0 :: .int .u64 0 :: .int .u64 0 :: .int .u64 0 :: .int .u64 0 :: .int .u64 0 :: .int .u64 0 :: .int .u64 0 :: .int .u64 0 :: .int .u64 0 :: .int .u64 0 :: .int .u64 0 :: .int .u64 0 :: .int .u64 0 :: .int .u64 0 :: .int .u64 0 :: .int .u64 0 :: []) = (List.replicate 80 0).map (Value.int .u64) := by kernel_rfl
theorem blk_zN64 (w : World) : Blk (w.alloc zN64) w.heap.size .u64 (List.replicate 80 0) := by
  refine ⟨76, ?_⟩
  show (w.heap.push _)[w.heap.size]? = _
  unfold zN64
  rw [zeroN_64]
  simp
theorem Blk.setRow64 {w : World} {q : Nat} {k : IntKind} {ys zs : List Int} (h : Blk w q k ys) : Blk (w.setRow q (zs.map (Value.int k)).toArray) q k zs := by
  obtain ⟨t, h⟩ := h
  exact ⟨t, setRow_heap _ _ _ _ _ _ h⟩
theorem only_setRow64 (w : World) (q : Nat) (cs : Array Value) : Only q w (w.setRow q cs) := ⟨rfl, rfl, rfl, by simp, fun k hk => setRow_other w _ k _ hk⟩
theorem region_putB {P : Program} {ops : Array Oper} {Q : Exit → Act → World → Prop} {a0 : Act} {id : Nat} {draw : Bool} {w : World} (k jV pD pV : Nat) (o : Oper) (F : Nat → Fact) (q off : Nat) (ty : TypeId) (cells : List Value) (hm : P.follows .mixedOrders = true) (hT : textOk .any ops a0.tmps.size k = true) (hk : ops[k]? = some o) (hd : o.dst = none)
    (hop : o.op = .store ty (.tmp pD) (.tmp pV)) (hp : apart ops pD = true) (h0 : a0.tmps.getD pD undef = .pointer (some ⟨q, off, none⟩)) (wV : writes ops jV pV = true) (FV : F jV = Fact.eq (.agg cells.toArray))
    (hth : ∀ W, Below w.heap.size w W → W.there q off cells.length) (hi : (P.info? ty).map (·.size) = some cells.length) (h1 : cells.toArray.all (·.oneCell') = true) (steps : ∀ i, i < k → StepOk P .any ops Q F a0 w i)
    (fin : ∀ (vs : Nat → Value) (W : World), Below w.heap.size w W → Q .normal (puts vs a0 ops.toList) (W.setCells q off cells)) : (Code.region id ops draw).wp P Q a0 w := by
  refine region_store k o F hm hT hk hd steps fun a W hb hw hF => ?_
  have e2 := hF jV pV wV
  rw [FV] at e2
  refine wp_store_mid ty (.tmp pD) (.tmp pV) hop q off cells.toArray ((based_at hb pD hp).trans h0) e2 (by rw [List.size_toArray]; exact hth W hw) (by rw [List.size_toArray]; exact hi) h1 ?_
  obtain ⟨vs, hvs⟩ : ∃ vs : Nat → Value, ∀ d, a.tmps.getD d undef = vs d := ⟨_, fun _ => rfl⟩
  rw [hd]
  show Q .normal a _
  rw [puts_of hT rfl hb vs hvs]
  exact fin vs W hw
theorem results_cell_mB {P : Program} {fn : Func} {p : Tmp} {ty : TypeId} (h : fn.results = #[.cell p ty]) (tmps : Array Value) (w : World) (g : Nat) (cs : List Value) (d : TypeDesc)
    (hp : tmps.getD p undef = .pointer (some ⟨g, 0, none⟩)) (hc : w.rangeAt g 0 cs) (hu : P.underlying ty = some d) (hd : d.isRow = true) (hi : (P.info? ty).map (·.size) = some cs.length) :
    (results fn tmps).run P w = .ok (.agg cs.toArray) w := by
  have hp' : tmps[p]?.getD undef = .pointer (some ⟨g, 0, none⟩) := by simpa using hp
  simp [results, h, hp', asAddr, run_loadVar_mid w g 0 ty cs d hc hu hd hi]
theorem only_setCellsB (w : World) (q : Nat) : ∀ (vs : List Value) (o : Nat), Only q w (w.setCells q o vs)
  | [], _ => Only.refl _ _
  | v :: vs, o => (Only.setCell w q o v).trans (only_setCellsB (w.setCell ⟨q, o, none⟩ v) q vs (o + 1))
set_option maxRecDepth 20000 in
set_option maxHeartbeats 4000000 in
theorem l6Steps_64 (w : World) : Calls Tryd.prog 66 #[] w fun e w' => e = .returned (.agg (kA64.map (Value.int .u64)).toArray) ∧ Below w.heap.size w w' := by
  have B0 := blk_zN64 w
  have n0 : Below w.heap.size w (w.alloc zN64) := (Below.refl _ _).alloc (Nat.le_refl _) _
  go_enter Tryd.func66, Tryd.ntmps66
  go_upto_region 1 with fail
  change Code.wp _ _ _ _ (w.alloc zN64)
  generalize w.alloc zN64 = wa at *
  have th : ∀ W, Below wa.heap.size wa W → W.there w.heap.size 0 (kA64.map (Value.int .u64)).length := fun W n j hj => by
    rw [List.length_map, kA_len64] at hj
    have h := (B0.up n).cell (i := j) (by rw [List.length_replicate]; exact hj)
    rw [Nat.zero_add]
    exact ⟨by rw [h]; rfl, (B0.up n).free j⟩
  refine region_putB 1 0 0 1 _ (fun i => [Fact.eq (.agg (kA64.map (Value.int .u64)).toArray)].getD i Fact.no) w.heap.size 0 76 (kA64.map (Value.int .u64)) (by kernel_rfl) (by kernel_rfl) rfl rfl rfl (by kernel_rfl) rfl (by kernel_rfl) rfl th infoN_64 (one_ints _ _) ?_ ?_
  · intro i hi
    obtain rfl : i = 0 := by omega
    exact step_pure rfl fun a ww hb hw hf => ⟨.agg (kA64.map (Value.int .u64)).toArray, by kernel_rfl, rfl⟩
  intro vs W n6
  have RR := World.rangeAt_setCells_same W w.heap.size 0 (kA64.map (Value.int .u64)) (th W n6)
  have OQ := only_setCellsB W w.heap.size (kA64.map (Value.int .u64)) 0
  have N2 : Below w.heap.size w (W.setCells w.heap.size 0 (kA64.map (Value.int .u64))) := (nxt n0 n6).trans (OQ.below (Nat.le_refl _))
  generalize W.setCells w.heap.size 0 (kA64.map (Value.int .u64)) = W2 at *
  simp only [puts, Act.put, List.setIfInBounds_toArray, List.set_cons_succ, List.set_cons_zero]
  clear th B0 OQ n6
  go_wp2
  exact bodyPost_ret (v := .agg (kA64.map (Value.int .u64)).toArray) (results_cell_mB Tryd.results66 _ _ w.heap.size _ (.array 80 51) rfl RR undN_64 rfl infoN_64) rfl ⟨rfl, N2⟩
end Go.Proofs.YtbjcegabjpeejaaDoor
