/- What the listed variables hold. Conditions: they are laid. -/
import Derived.Test.YtamekflgidfnfaaDoorMiOpen
import Derived.Test.YtamekflgidfnfaaDoorRows
import Derived.Stop.LaidErr
import Derived.MakeChecks
namespace Go.Proofs.YtamekflgidfnfaaDoor
set_option maxRecDepth 100000
open Go.RowKit Go Go.Maps
theorem glt_of {W : World} (h : laidMetH Tryd.prog [("math/bits.deBruijn32tab", Rows.laid_math_bits_deBruijn32tab), ("math/bits.deBruijn64tab", Rows.laid_math_bits_deBruijn64tab), ("internal/strconv.uint64pow10", Rows.laid_internal_strconv_uint64pow10), ("unicode/utf8.acceptRanges", Rows.laid_unicode_utf8_acceptRanges), ("unicode/utf8.first", Rows.laid_unicode_utf8_first)] W) : Mi.GlT W := by
  rw [Go.MakeChecks.laidMetH_plain _ _ _ (by kernel_rfl)] at h
  exact Lib.tabIs_of_head (k := .u64) (zs := Lib.pow10Tab) (g := 1) (t := 135) (e := 115) (n := 20) (by kernel_rfl) (by kernel_rfl) Tryd.underlying135 Tryd.underlying115 (by kernel_rfl) (by kernel_rfl) h.tail.tail
end Go.Proofs.YtamekflgidfnfaaDoor
