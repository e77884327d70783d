/- path.Parse, Show, Of; the document's. Conditions: as stated at each. -/
import Derived.Test.YtamjellnmlgbeaaPaEach
import Derived.Test.YtamjellnmlgbeaaPaRDom
namespace Go.Proofs.Ytamjellnmlgbeaa
set_option maxRecDepth 100000
namespace Pa
open Go.RowKit Go
theorem parse_is (l : List UInt8) : parseS l = if has 62 l && Go.Lib.hasPrefix (ahead 62 l) [60] && (((ahead 62 l).drop 1).isEmpty || mailS ((ahead 62 l).drop 1)) then ((ahead 62 l).drop 1, behind 62 l, true) else ([], l, false) := by
  unfold parseS Go.Lib.hasPrefix
  have e : (((ahead 62 l).drop 1) == []) = ((ahead 62 l).drop 1).isEmpty := by cases (ahead 62 l).drop 1 <;> rfl
  rw [e]
theorem trim_yes {a : List UInt8} (h : Go.Lib.hasPrefix a [60] = true) : Go.Lib.trimPrefix a [60] = a.drop 1 := by
  unfold Go.Lib.trimPrefix; rw [if_pos h]; rfl
theorem str_nil : str [] = ⟨#[]⟩ := rfl
theorem str_isEmpty (l : List UInt8) : (str l).toList.isEmpty = l.isEmpty := by rw [Go.Lib.toList_data, str_data]
end Pa
end Go.Proofs.Ytamjellnmlgbeaa
