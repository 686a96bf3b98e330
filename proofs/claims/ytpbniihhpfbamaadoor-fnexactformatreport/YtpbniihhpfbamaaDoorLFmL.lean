
/-
  FormatReport: what the listed table of powers gives, and the law.
-/
import Derived.Test.YtpbniihhpfbamaaDoorRows
import Derived.Test.YtpbniihhpfbamaaDoorLFmR
import Derived.Lib.LaidTab
import Derived.Lib.LaidU8
import Derived.LaidMore
namespace Go.Proofs.YtpbniihhpfbamaaDoor
set_option maxRecDepth 100000
open Go Go.RowKit

theorem gPw : Tryd.prog.globalNamed "internal/strconv.uint64pow10" = some 0 := by kernel_rfl
theorem tPw : (Tryd.prog.globals[0]?).map (·.type) = some 130 := by kernel_rfl
theorem uPw : Tryd.prog.underlying 130 = some (.array 20 122) := by kernel_rfl
theorem cPw : Tryd.prog.cellsOf 130 = 20 := by kernel_rfl
theorem cQ64 : Tryd.prog.cellsOf 122 = 1 := by kernel_rfl
theorem uQ64 : Tryd.prog.underlying 122 = some (.int .u64) := by kernel_rfl
theorem pow_tab : (Rows.laid_internal_strconv_uint64pow10 : DataW Unit) = .agg (Lib.pow10Tab.map fun x => .lit (.int .u64 x)) := by kernel_rfl
theorem pow_ofF {W : World} (h : Lib.VarReads Tryd.prog W "internal/strconv.uint64pow10" Rows.laid_internal_strconv_uint64pow10) : HasW W := by
  rw [pow_tab] at h
  obtain ⟨g, t, cs, fuel, p, hg, ht, hv, hd⟩ := h
  obtain rfl := Option.some.inj (gPw.symm.trans hg)
  obtain rfl := Option.some.inj (tPw.symm.trans ht)
  have hcs := Lib.cells_of_tab (zs := Lib.pow10Tab) uPw uQ64 cQ64 cPw hd
  show W.var? Tryd.prog "internal/strconv.uint64pow10" = some (Lib.pow10Tab.map fun z => Value.int .u64 z).toArray
  rw [hv]
  obtain ⟨l⟩ := cs
  simp only at hcs
  subst hcs
  rfl
theorem laid_fmt {W : World} (h : laidMetH Tryd.prog Rows.fnExactFormatReportRow.laid W) : HasW W := by
  rw [MakeChecks.laidMetH_plain _ _ _ (by kernel_rfl)] at h
  exact pow_ofF (Lib.laidMet.reads h (.tail _ (.tail _ (.head _))))
theorem fmt_law (w : World) (p : WA) (m : WD) (hC : HasR w p m) (bg : BgR m) (x : XtR m) (hW : HasW w) :
    Calls Tryd.prog 3 #[.agg (wrV p m)] w fun e w' => e = .returned (.bool true) ∧ Below w.heap.size w w' := fmt_core w p m hC bg x hW
end Go.Proofs.YtpbniihhpfbamaaDoor
