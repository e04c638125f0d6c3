/-
  No cell of these rows narrows 'for every input' (looked for: loops, veiled, ifaces, maps, wideKeys, modest, calm, conditions, laid).
  DERIVED. THE GIVEN ROWS OF THIS SEAT. 4 by the template 'for every input the law returns true; each argument reads behind the call as it read before'; 0 by the template 'total and deterministic' (their statements: YtlfhfbeacleggabTotals.lean).
  GIVEN WITH THE SEED: the statements are not yours to turn. If you find one false, say at which input.
  Laid BY PROGRAM, IN A SANDBOX (cutbox-rows.mjs): the forced cells as the released guide's own fill.sh prints them over the translation 0f73eab412923088… (all of the seat's roots in one cut). By AI agents, Wed Nov 11 2026. No macro, syntax, notation, axiom, sorry.
-/
import Derived.Test.YtlfhfbeacleggabChecked
import GoSem.Claim
import GoSem.ClaimJoined
import GoSem.ClaimMapViews
import Derived.JoinedTies
import Derived.KernelRfl
namespace Go.Proofs.Ytlfhfbeacleggab
/- THE CELL 'sum', in the pinned program and in every row, IS THE sha256 OF THE DUMP (.gsa) THAT YtlfhfbeacleggabProg.lean LOADS. Nothing in Lean hashes anything: it is a label: what it is worth is what the hold of that sum in a sandbox is worth. -/
noncomputable def Try.pinned : Pinned := { name := "ytlfhfbeacleggab", sum := "0f73eab4129230884587fc7c60b442c52a1555663a8322f3d06c33e899e60e1d", checked := Try.checked }
namespace Rows
def none {H : Type} : Left H := { results := [], args := [] }

/-- 'laws.FnGlyphsOf': WHATEVER THE INPUT: true; the input reads as it did. -/
def fnGlyphsOfSpec : ChangeSpec := { name := "fnGlyphsOf", fn := fun _ => fun
  | [d] => { results := [.lit (.bool true)], args := [d] }
  | _ => none }
def fnGlyphsOfRow : OpenClaim := { program := "ytlfhfbeacleggab", sum := "0f73eab4129230884587fc7c60b442c52a1555663a8322f3d06c33e899e60e1d", func := "loop.example/typesetting/laws.FnGlyphsOf", spec := "fnGlyphsOf", unfollowed := true, recurses := true, apart := false }
def FnGlyphsOfSaid : Prop := fnGlyphsOfRow.holds Try.pinned (OpenSpec.ofChange fnGlyphsOfSpec)

/-- ITS FALSE NEIGHBOUR: 'it returns false'. Refute it at one input. -/
def fnGlyphsOfWrong : ChangeSpec := { name := "fnGlyphsOf", fn := fun _ => fun
  | [d] => { results := [.lit (.bool false)], args := [d] }
  | _ => none }
def FnGlyphsOfWrongFalsely : Prop := fnGlyphsOfRow.holds Try.pinned (OpenSpec.ofChange fnGlyphsOfWrong)

/-- 'laws.FnGlyphsNoPairs': WHATEVER THE INPUT: true; the input reads as it did. -/
def fnGlyphsNoPairsSpec : ChangeSpec := { name := "fnGlyphsNoPairs", fn := fun _ => fun
  | [d] => { results := [.lit (.bool true)], args := [d] }
  | _ => none }
def fnGlyphsNoPairsRow : OpenClaim := { program := "ytlfhfbeacleggab", sum := "0f73eab4129230884587fc7c60b442c52a1555663a8322f3d06c33e899e60e1d", func := "loop.example/typesetting/laws.FnGlyphsNoPairs", spec := "fnGlyphsNoPairs", unfollowed := true, recurses := true, apart := false }
def FnGlyphsNoPairsSaid : Prop := fnGlyphsNoPairsRow.holds Try.pinned (OpenSpec.ofChange fnGlyphsNoPairsSpec)

/-- ITS FALSE NEIGHBOUR: 'it returns false'. Refute it at one input. -/
def fnGlyphsNoPairsWrong : ChangeSpec := { name := "fnGlyphsNoPairs", fn := fun _ => fun
  | [d] => { results := [.lit (.bool false)], args := [d] }
  | _ => none }
def FnGlyphsNoPairsWrongFalsely : Prop := fnGlyphsNoPairsRow.holds Try.pinned (OpenSpec.ofChange fnGlyphsNoPairsWrong)

/-- 'laws.FnGlyphsWidth': WHATEVER THE INPUT: true; the input reads as it did. -/
def fnGlyphsWidthSpec : ChangeSpec := { name := "fnGlyphsWidth", fn := fun _ => fun
  | [d] => { results := [.lit (.bool true)], args := [d] }
  | _ => none }
def fnGlyphsWidthRow : OpenClaim := { program := "ytlfhfbeacleggab", sum := "0f73eab4129230884587fc7c60b442c52a1555663a8322f3d06c33e899e60e1d", func := "loop.example/typesetting/laws.FnGlyphsWidth", spec := "fnGlyphsWidth", unfollowed := true, recurses := true, apart := false }
def FnGlyphsWidthSaid : Prop := fnGlyphsWidthRow.holds Try.pinned (OpenSpec.ofChange fnGlyphsWidthSpec)

/-- ITS FALSE NEIGHBOUR: 'it returns false'. Refute it at one input. -/
def fnGlyphsWidthWrong : ChangeSpec := { name := "fnGlyphsWidth", fn := fun _ => fun
  | [d] => { results := [.lit (.bool false)], args := [d] }
  | _ => none }
def FnGlyphsWidthWrongFalsely : Prop := fnGlyphsWidthRow.holds Try.pinned (OpenSpec.ofChange fnGlyphsWidthWrong)

/-- 'laws.FnWordWidth': WHATEVER THE INPUT: true; the input reads as it did. -/
def fnWordWidthSpec : ChangeSpec := { name := "fnWordWidth", fn := fun _ => fun
  | [d] => { results := [.lit (.bool true)], args := [d] }
  | _ => none }
def fnWordWidthRow : OpenClaim := { program := "ytlfhfbeacleggab", sum := "0f73eab4129230884587fc7c60b442c52a1555663a8322f3d06c33e899e60e1d", func := "loop.example/typesetting/laws.FnWordWidth", spec := "fnWordWidth", unfollowed := true, recurses := true, apart := false }
def FnWordWidthSaid : Prop := fnWordWidthRow.holds Try.pinned (OpenSpec.ofChange fnWordWidthSpec)

/-- ITS FALSE NEIGHBOUR: 'it returns false'. Refute it at one input. -/
def fnWordWidthWrong : ChangeSpec := { name := "fnWordWidth", fn := fun _ => fun
  | [d] => { results := [.lit (.bool false)], args := [d] }
  | _ => none }
def FnWordWidthWrongFalsely : Prop := fnWordWidthRow.holds Try.pinned (OpenSpec.ofChange fnWordWidthWrong)

/- THE SECOND FORM. 'bulk': how many values and letters a reading holds, each counted each time it is reached (what is shared counts as often as it is met; a slice's spare places count too). A statement '..UptoSaid' is the law's where the arguments, and the package variables that the reading takes, are together of bulk at most 1048576: NARROWER than '..Said'. Prove '..Said' where nothing that the law and all that it calls make is longer than what came in: it says more and counts as full. Else prove '..UptoSaid'. A law counts once. -/
mutual
def uptoBulk {H : Type} : DataW H → Nat
  | .lit (.string bytes) => bytes.length + 1
  | .lit _ => 1
  | .nil => 1
  | .ptr d => uptoBulk d + 1
  | .slice elems spare => uptoBulkAll elems + uptoBulkAll spare + 1
  | .agg parts => uptoBulkAll parts + 1
  | .iface _ d => uptoBulk d + 1
  | .map entries => uptoBulkEntries entries + 1
  | .held _ => 1
def uptoBulkAll {H : Type} : List (DataW H) → Nat
  | [] => 0
  | d :: r => uptoBulk d + uptoBulkAll r
def uptoBulkEntries {H : Type} : List (Lit × DataW H) → Nat
  | [] => 0
  | x :: r => uptoBulkEntry x + uptoBulkEntries r
def uptoBulkEntry {H : Type} : Lit × DataW H → Nat
  | (.string bytes, d) => bytes.length + uptoBulk d + 1
  | (_, d) => uptoBulk d + 1
 end
def uptoSmall : (H : Type) → List (DataW H) → Bool := fun _ ds => decide (uptoBulkAll ds ≤ 1048576)
def OpenSpec.upto (s : _root_.Go.ChangeSpec) : _root_.Go.OpenSpec := { _root_.Go.OpenSpec.ofChange s with cond := some uptoSmall }

/-- 'laws.FnGlyphsOf', WHERE WHAT IT READS IS OF BULK AT MOST 1048576: true; the input reads as it did. -/
def fnGlyphsOfUptoRow : OpenClaim := { program := "ytlfhfbeacleggab", sum := "0f73eab4129230884587fc7c60b442c52a1555663a8322f3d06c33e899e60e1d", func := "loop.example/typesetting/laws.FnGlyphsOf", spec := "fnGlyphsOf", unfollowed := true, recurses := true, apart := false, narrowed := true }
def FnGlyphsOfUptoSaid : Prop := fnGlyphsOfUptoRow.holds Try.pinned (OpenSpec.upto fnGlyphsOfSpec)

/-- 'laws.FnGlyphsNoPairs', WHERE WHAT IT READS IS OF BULK AT MOST 1048576: true; the input reads as it did. -/
def fnGlyphsNoPairsUptoRow : OpenClaim := { program := "ytlfhfbeacleggab", sum := "0f73eab4129230884587fc7c60b442c52a1555663a8322f3d06c33e899e60e1d", func := "loop.example/typesetting/laws.FnGlyphsNoPairs", spec := "fnGlyphsNoPairs", unfollowed := true, recurses := true, apart := false, narrowed := true }
def FnGlyphsNoPairsUptoSaid : Prop := fnGlyphsNoPairsUptoRow.holds Try.pinned (OpenSpec.upto fnGlyphsNoPairsSpec)

/-- 'laws.FnGlyphsWidth', WHERE WHAT IT READS IS OF BULK AT MOST 1048576: true; the input reads as it did. -/
def fnGlyphsWidthUptoRow : OpenClaim := { program := "ytlfhfbeacleggab", sum := "0f73eab4129230884587fc7c60b442c52a1555663a8322f3d06c33e899e60e1d", func := "loop.example/typesetting/laws.FnGlyphsWidth", spec := "fnGlyphsWidth", unfollowed := true, recurses := true, apart := false, narrowed := true }
def FnGlyphsWidthUptoSaid : Prop := fnGlyphsWidthUptoRow.holds Try.pinned (OpenSpec.upto fnGlyphsWidthSpec)

/-- 'laws.FnWordWidth', WHERE WHAT IT READS IS OF BULK AT MOST 1048576: true; the input reads as it did. -/
def fnWordWidthUptoRow : OpenClaim := { program := "ytlfhfbeacleggab", sum := "0f73eab4129230884587fc7c60b442c52a1555663a8322f3d06c33e899e60e1d", func := "loop.example/typesetting/laws.FnWordWidth", spec := "fnWordWidth", unfollowed := true, recurses := true, apart := false, narrowed := true }
def FnWordWidthUptoSaid : Prop := fnWordWidthUptoRow.holds Try.pinned (OpenSpec.upto fnWordWidthSpec)

end Rows
end Go.Proofs.Ytlfhfbeacleggab
