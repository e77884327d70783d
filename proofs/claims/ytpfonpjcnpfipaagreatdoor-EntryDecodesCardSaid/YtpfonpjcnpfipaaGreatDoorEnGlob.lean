/- What the listed variables hold, the errors among them. Conditions: they are laid. -/
import Derived.Test.YtpfonpjcnpfipaaGreatDoorEnOpen
import Derived.Test.YtpfonpjcnpfipaaGreatDoorRows
import Derived.Stop.LaidErr
import Derived.MakeChecks
namespace Go.Proofs.YtpfonpjcnpfipaaGreatDoor
set_option maxRecDepth 100000
open Go.RowKit Go Go.Maps
theorem ges : Tryz.prog.globalNamed "strconv.ErrSyntax" = some 1 := by kernel_rfl
theorem ger : Tryz.prog.globalNamed "strconv.ErrRange" = some 2 := by kernel_rfl
theorem gesType : (Tryz.prog.globals[1]?).map (·.type) = some 54 := by kernel_rfl
theorem gerType : (Tryz.prog.globals[2]?).map (·.type) = some 54 := by kernel_rfl
theorem cellsEs : Tryz.prog.cellsOf 118 = 1 := by kernel_rfl
theorem cellsStr : Tryz.prog.cellsOf 9 = 1 := by kernel_rfl
theorem star_e : "*" ++ "errors.errorString" = "*errors.errorString" := by decide
theorem rowEs (u : TypeId) (h : Tryz.prog.typeName? 3 u = some "*errors.errorString") : u = 116 :=
  typeName_ptr_named (nm := "errors.errorString") (by rw [star_e]; kernel_rfl) (by kernel_rfl) (by decide) u (by rw [star_e]; exact h)
theorem gle_of {W : World} (h : laidMetH Tryz.prog [("math/bits.deBruijn32tab", Rows.laid_math_bits_deBruijn32tab), ("math/bits.deBruijn64tab", Rows.laid_math_bits_deBruijn64tab), ("internal/strconv.uint64pow10", Rows.laid_internal_strconv_uint64pow10), ("strconv.ErrRange", Rows.laid_strconv_ErrRange), ("strconv.ErrSyntax", Rows.laid_strconv_ErrSyntax)] W) : En.GlT W ∧ En.GlE W := by
  rw [Go.MakeChecks.laidMetH_plain _ _ _ (by kernel_rfl)] at h
  have ht : En.GlT W := Lib.tabIs_of_head (k := .u64) (zs := Lib.pow10Tab) (g := 3) (t := 120) (e := 82) (n := 20) (by kernel_rfl) (by kernel_rfl) Tryz.underlying120 Tryz.underlying82 (by kernel_rfl) (by kernel_rfl) h.tail.tail
  obtain ⟨a0, s0, hv0, -, -, -⟩ := laid_sentinel h.tail.tail.tail ger gerType Tryz.underlying54 rowEs Tryz.underlying116 Tryz.underlying118 rfl rfl Tryz.underlying9 cellsEs cellsStr
  obtain ⟨a1, s1, hv1, -, -, -⟩ := laid_sentinel h.tail.tail.tail.tail ges gesType Tryz.underlying54 rowEs Tryz.underlying116 Tryz.underlying118 rfl rfl Tryz.underlying9 cellsEs cellsStr
  exact ⟨ht, ⟨_, by have h0 := World.var?_cell ges hv1 0; simpa using h0, .inr ⟨_, _, rfl⟩⟩, _, by have h0 := World.var?_cell ger hv0 0; simpa using h0, .inr ⟨_, _, rfl⟩⟩
theorem glt_of {W : World} (h : laidMetH Tryz.prog [("math/bits.deBruijn32tab", Rows.laid_math_bits_deBruijn32tab), ("math/bits.deBruijn64tab", Rows.laid_math_bits_deBruijn64tab), ("internal/strconv.uint64pow10", Rows.laid_internal_strconv_uint64pow10)] W) : En.GlT W := by
  rw [Go.MakeChecks.laidMetH_plain _ _ _ (by kernel_rfl)] at h
  exact Lib.tabIs_of_head (k := .u64) (zs := Lib.pow10Tab) (g := 3) (t := 120) (e := 82) (n := 20) (by kernel_rfl) (by kernel_rfl) Tryz.underlying120 Tryz.underlying82 (by kernel_rfl) (by kernel_rfl) h.tail.tail
end Go.Proofs.YtpfonpjcnpfipaaGreatDoor
