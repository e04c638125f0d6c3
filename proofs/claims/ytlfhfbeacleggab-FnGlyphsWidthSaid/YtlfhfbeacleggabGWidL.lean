/- The exact law on GlyphsWidth holds at every input: it answers as its model does and writes into no argument. No condition. -/
import Derived.Test.YtlfhfbeacleggabGWidS
import Derived.Test.YtlfhfbeacleggabGlyphL
namespace Go.Proofs.Ytlfhfbeacleggab
open Go.ChangeShapes Go.WideShapes Go.ChangeAt Go.RowKit
set_option linter.unusedSimpArgs false
set_option linter.unusedVariables false
set_option maxRecDepth 4000

theorem small_row0 {k : IntKind} {w : World} {a : Option Addr} {n c : Nat} {zs : List Int} (h : IsRow k w a n c zs) : n ≤ maxLen := by
  rcases h with ⟨_, rfl, _, _⟩ | ⟨_, _, hl, hm, _⟩
  · exact Nat.zero_le _
  · omega
end Go.Proofs.Ytlfhfbeacleggab
