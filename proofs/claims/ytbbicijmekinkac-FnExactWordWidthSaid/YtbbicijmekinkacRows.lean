/-
  No cell of these rows narrows 'for every input' (looked for: loops, veiled, ifaces, maps, wideKeys, modest, calm, conditions, laid).
  DERIVED. THE GIVEN ROWS OF THIS SEAT. 12 by the template 'for every input the law returns true; each argument reads behind the call as it read before'; 0 by the template 'total and deterministic' (their statements: YtbbicijmekinkacTotals.lean).
  GIVEN WITH THE SEED: the statements are not yours to turn. If you find one false, say at which input.
  Laid BY PROGRAM, IN A SANDBOX (cutbox-rows.mjs): the forced cells as the released guide's own fill.sh prints them over the translation d83a6bbc8e25f7a4… (all of the seat's roots in one cut). By AI agents, Wed Nov 11 2026. No macro, syntax, notation, axiom, sorry.
-/
import Derived.Test.YtbbicijmekinkacChecked
import GoSem.Claim
import GoSem.ClaimJoined
import GoSem.ClaimMapViews
import Derived.JoinedTies
import Derived.KernelRfl
namespace Go.Proofs.Ytbbicijmekinkac
/- THE CELL 'sum', in the pinned program and in every row, IS THE sha256 OF THE DUMP (.gsa) THAT YtbbicijmekinkacProg.lean LOADS. Nothing in Lean hashes anything: it is a label: what it is worth is what the hold of that sum in a sandbox is worth. -/
noncomputable def Try.pinned : Pinned := { name := "ytbbicijmekinkac", sum := "d83a6bbc8e25f7a4bf7698265ef4f40ac9118dada2797051fdaed8f8663af120", checked := Try.checked }
namespace Rows
def none {H : Type} : Left H := { results := [], args := [] }

/-- 'laws.FnExactValidFont': WHATEVER THE INPUT: true; the input reads as it did. -/
def fnExactValidFontSpec : ChangeSpec := { name := "fnExactValidFont", fn := fun _ => fun
  | [d] => { results := [.lit (.bool true)], args := [d] }
  | _ => none }
def fnExactValidFontRow : OpenClaim := { program := "ytbbicijmekinkac", sum := "d83a6bbc8e25f7a4bf7698265ef4f40ac9118dada2797051fdaed8f8663af120", func := "loop.example/typesetting/laws.FnExactValidFont", spec := "fnExactValidFont", apart := false }
def FnExactValidFontSaid : Prop := fnExactValidFontRow.holds Try.pinned (OpenSpec.ofChange fnExactValidFontSpec)

/-- ITS FALSE NEIGHBOUR: 'it returns false'. Refute it at one input. -/
def fnExactValidFontWrong : ChangeSpec := { name := "fnExactValidFont", fn := fun _ => fun
  | [d] => { results := [.lit (.bool false)], args := [d] }
  | _ => none }
def FnExactValidFontWrongFalsely : Prop := fnExactValidFontRow.holds Try.pinned (OpenSpec.ofChange fnExactValidFontWrong)

/-- 'laws.FnExactGlyphsOf': WHATEVER THE INPUT: true; the input reads as it did. -/
def fnExactGlyphsOfSpec : ChangeSpec := { name := "fnExactGlyphsOf", fn := fun _ => fun
  | [d1, d2] => { results := [.lit (.bool true)], args := [d1, d2] }
  | _ => none }
def fnExactGlyphsOfRow : OpenClaim := { program := "ytbbicijmekinkac", sum := "d83a6bbc8e25f7a4bf7698265ef4f40ac9118dada2797051fdaed8f8663af120", func := "loop.example/typesetting/laws.FnExactGlyphsOf", spec := "fnExactGlyphsOf", unfollowed := true, recurses := true, apart := false }
def FnExactGlyphsOfSaid : Prop := fnExactGlyphsOfRow.holds Try.pinned (OpenSpec.ofChange fnExactGlyphsOfSpec)

/-- ITS FALSE NEIGHBOUR: 'it returns false'. Refute it at one input. -/
def fnExactGlyphsOfWrong : ChangeSpec := { name := "fnExactGlyphsOf", fn := fun _ => fun
  | [d1, d2] => { results := [.lit (.bool false)], args := [d1, d2] }
  | _ => none }
def FnExactGlyphsOfWrongFalsely : Prop := fnExactGlyphsOfRow.holds Try.pinned (OpenSpec.ofChange fnExactGlyphsOfWrong)

/-- 'laws.FnExactGlyphsWidth': WHATEVER THE INPUT: true; the input reads as it did. -/
def fnExactGlyphsWidthSpec : ChangeSpec := { name := "fnExactGlyphsWidth", fn := fun _ => fun
  | [d1, d2] => { results := [.lit (.bool true)], args := [d1, d2] }
  | _ => none }
def fnExactGlyphsWidthRow : OpenClaim := { program := "ytbbicijmekinkac", sum := "d83a6bbc8e25f7a4bf7698265ef4f40ac9118dada2797051fdaed8f8663af120", func := "loop.example/typesetting/laws.FnExactGlyphsWidth", spec := "fnExactGlyphsWidth", unfollowed := true, recurses := true, apart := false }
def FnExactGlyphsWidthSaid : Prop := fnExactGlyphsWidthRow.holds Try.pinned (OpenSpec.ofChange fnExactGlyphsWidthSpec)

/-- ITS FALSE NEIGHBOUR: 'it returns false'. Refute it at one input. -/
def fnExactGlyphsWidthWrong : ChangeSpec := { name := "fnExactGlyphsWidth", fn := fun _ => fun
  | [d1, d2] => { results := [.lit (.bool false)], args := [d1, d2] }
  | _ => none }
def FnExactGlyphsWidthWrongFalsely : Prop := fnExactGlyphsWidthRow.holds Try.pinned (OpenSpec.ofChange fnExactGlyphsWidthWrong)

/-- 'laws.FnExactWordWidth': WHATEVER THE INPUT: true; the input reads as it did. -/
def fnExactWordWidthSpec : ChangeSpec := { name := "fnExactWordWidth", fn := fun _ => fun
  | [d1, d2] => { results := [.lit (.bool true)], args := [d1, d2] }
  | _ => none }
def fnExactWordWidthRow : OpenClaim := { program := "ytbbicijmekinkac", sum := "d83a6bbc8e25f7a4bf7698265ef4f40ac9118dada2797051fdaed8f8663af120", func := "loop.example/typesetting/laws.FnExactWordWidth", spec := "fnExactWordWidth", unfollowed := true, recurses := true, apart := false }
def FnExactWordWidthSaid : Prop := fnExactWordWidthRow.holds Try.pinned (OpenSpec.ofChange fnExactWordWidthSpec)

/-- ITS FALSE NEIGHBOUR: 'it returns false'. Refute it at one input. -/
def fnExactWordWidthWrong : ChangeSpec := { name := "fnExactWordWidth", fn := fun _ => fun
  | [d1, d2] => { results := [.lit (.bool false)], args := [d1, d2] }
  | _ => none }
def FnExactWordWidthWrongFalsely : Prop := fnExactWordWidthRow.holds Try.pinned (OpenSpec.ofChange fnExactWordWidthWrong)

/-- 'laws.FnWidthOfLine': WHATEVER THE INPUT: true; the input reads as it did. -/
def fnWidthOfLineSpec : ChangeSpec := { name := "fnWidthOfLine", fn := fun _ => fun
  | [d] => { results := [.lit (.bool true)], args := [d] }
  | _ => none }
def fnWidthOfLineRow : OpenClaim := { program := "ytbbicijmekinkac", sum := "d83a6bbc8e25f7a4bf7698265ef4f40ac9118dada2797051fdaed8f8663af120", func := "loop.example/typesetting/laws.FnWidthOfLine", spec := "fnWidthOfLine", unfollowed := true, recurses := true, apart := false }
def FnWidthOfLineSaid : Prop := fnWidthOfLineRow.holds Try.pinned (OpenSpec.ofChange fnWidthOfLineSpec)

/-- ITS FALSE NEIGHBOUR: 'it returns false'. Refute it at one input. -/
def fnWidthOfLineWrong : ChangeSpec := { name := "fnWidthOfLine", fn := fun _ => fun
  | [d] => { results := [.lit (.bool false)], args := [d] }
  | _ => none }
def FnWidthOfLineWrongFalsely : Prop := fnWidthOfLineRow.holds Try.pinned (OpenSpec.ofChange fnWidthOfLineWrong)

/-- 'laws.FnExactWidthOfLine': WHATEVER THE INPUT: true; the input reads as it did. -/
def fnExactWidthOfLineSpec : ChangeSpec := { name := "fnExactWidthOfLine", fn := fun _ => fun
  | [d1, d2] => { results := [.lit (.bool true)], args := [d1, d2] }
  | _ => none }
def fnExactWidthOfLineRow : OpenClaim := { program := "ytbbicijmekinkac", sum := "d83a6bbc8e25f7a4bf7698265ef4f40ac9118dada2797051fdaed8f8663af120", func := "loop.example/typesetting/laws.FnExactWidthOfLine", spec := "fnExactWidthOfLine", unfollowed := true, recurses := true, apart := false }
def FnExactWidthOfLineSaid : Prop := fnExactWidthOfLineRow.holds Try.pinned (OpenSpec.ofChange fnExactWidthOfLineSpec)

/-- ITS FALSE NEIGHBOUR: 'it returns false'. Refute it at one input. -/
def fnExactWidthOfLineWrong : ChangeSpec := { name := "fnExactWidthOfLine", fn := fun _ => fun
  | [d1, d2] => { results := [.lit (.bool false)], args := [d1, d2] }
  | _ => none }
def FnExactWidthOfLineWrongFalsely : Prop := fnExactWidthOfLineRow.holds Try.pinned (OpenSpec.ofChange fnExactWidthOfLineWrong)

/-- 'laws.FnExactColumnsNeeded': WHATEVER THE INPUT: true; the input reads as it did. -/
def fnExactColumnsNeededSpec : ChangeSpec := { name := "fnExactColumnsNeeded", fn := fun _ => fun
  | [d1, d2] => { results := [.lit (.bool true)], args := [d1, d2] }
  | _ => none }
def fnExactColumnsNeededRow : OpenClaim := { program := "ytbbicijmekinkac", sum := "d83a6bbc8e25f7a4bf7698265ef4f40ac9118dada2797051fdaed8f8663af120", func := "loop.example/typesetting/laws.FnExactColumnsNeeded", spec := "fnExactColumnsNeeded", unfollowed := true, recurses := true, apart := false }
def FnExactColumnsNeededSaid : Prop := fnExactColumnsNeededRow.holds Try.pinned (OpenSpec.ofChange fnExactColumnsNeededSpec)

/-- ITS FALSE NEIGHBOUR: 'it returns false'. Refute it at one input. -/
def fnExactColumnsNeededWrong : ChangeSpec := { name := "fnExactColumnsNeeded", fn := fun _ => fun
  | [d1, d2] => { results := [.lit (.bool false)], args := [d1, d2] }
  | _ => none }
def FnExactColumnsNeededWrongFalsely : Prop := fnExactColumnsNeededRow.holds Try.pinned (OpenSpec.ofChange fnExactColumnsNeededWrong)

/-- 'laws.FnColumnsNeeded': WHATEVER THE INPUT: true; the input reads as it did. -/
def fnColumnsNeededSpec : ChangeSpec := { name := "fnColumnsNeeded", fn := fun _ => fun
  | [d1, d2] => { results := [.lit (.bool true)], args := [d1, d2] }
  | _ => none }
def fnColumnsNeededRow : OpenClaim := { program := "ytbbicijmekinkac", sum := "d83a6bbc8e25f7a4bf7698265ef4f40ac9118dada2797051fdaed8f8663af120", func := "loop.example/typesetting/laws.FnColumnsNeeded", spec := "fnColumnsNeeded", unfollowed := true, recurses := true, apart := false }
def FnColumnsNeededSaid : Prop := fnColumnsNeededRow.holds Try.pinned (OpenSpec.ofChange fnColumnsNeededSpec)

/-- ITS FALSE NEIGHBOUR: 'it returns false'. Refute it at one input. -/
def fnColumnsNeededWrong : ChangeSpec := { name := "fnColumnsNeeded", fn := fun _ => fun
  | [d1, d2] => { results := [.lit (.bool false)], args := [d1, d2] }
  | _ => none }
def FnColumnsNeededWrongFalsely : Prop := fnColumnsNeededRow.holds Try.pinned (OpenSpec.ofChange fnColumnsNeededWrong)

/-- 'laws.FnExactCheckColumns': WHATEVER THE INPUT: true; the input reads as it did. -/
def fnExactCheckColumnsSpec : ChangeSpec := { name := "fnExactCheckColumns", fn := fun _ => fun
  | [d1, d2] => { results := [.lit (.bool true)], args := [d1, d2] }
  | _ => none }
def fnExactCheckColumnsRow : OpenClaim := { program := "ytbbicijmekinkac", sum := "d83a6bbc8e25f7a4bf7698265ef4f40ac9118dada2797051fdaed8f8663af120", func := "loop.example/typesetting/laws.FnExactCheckColumns", spec := "fnExactCheckColumns", unfollowed := true, recurses := true, apart := false }
def FnExactCheckColumnsSaid : Prop := fnExactCheckColumnsRow.holds Try.pinned (OpenSpec.ofChange fnExactCheckColumnsSpec)

/-- ITS FALSE NEIGHBOUR: 'it returns false'. Refute it at one input. -/
def fnExactCheckColumnsWrong : ChangeSpec := { name := "fnExactCheckColumns", fn := fun _ => fun
  | [d1, d2] => { results := [.lit (.bool false)], args := [d1, d2] }
  | _ => none }
def FnExactCheckColumnsWrongFalsely : Prop := fnExactCheckColumnsRow.holds Try.pinned (OpenSpec.ofChange fnExactCheckColumnsWrong)

/-- 'laws.FnCheckColumns': WHATEVER THE INPUT: true; the input reads as it did. -/
def fnCheckColumnsSpec : ChangeSpec := { name := "fnCheckColumns", fn := fun _ => fun
  | [d] => { results := [.lit (.bool true)], args := [d] }
  | _ => none }
def fnCheckColumnsRow : OpenClaim := { program := "ytbbicijmekinkac", sum := "d83a6bbc8e25f7a4bf7698265ef4f40ac9118dada2797051fdaed8f8663af120", func := "loop.example/typesetting/laws.FnCheckColumns", spec := "fnCheckColumns", unfollowed := true, recurses := true, apart := false }
def FnCheckColumnsSaid : Prop := fnCheckColumnsRow.holds Try.pinned (OpenSpec.ofChange fnCheckColumnsSpec)

/-- ITS FALSE NEIGHBOUR: 'it returns false'. Refute it at one input. -/
def fnCheckColumnsWrong : ChangeSpec := { name := "fnCheckColumns", fn := fun _ => fun
  | [d] => { results := [.lit (.bool false)], args := [d] }
  | _ => none }
def FnCheckColumnsWrongFalsely : Prop := fnCheckColumnsRow.holds Try.pinned (OpenSpec.ofChange fnCheckColumnsWrong)

/-- 'laws.FnExactBalancedHeight': WHATEVER THE INPUT: true; the input reads as it did. -/
def fnExactBalancedHeightSpec : ChangeSpec := { name := "fnExactBalancedHeight", fn := fun _ => fun
  | [d1, d2] => { results := [.lit (.bool true)], args := [d1, d2] }
  | _ => none }
def fnExactBalancedHeightRow : OpenClaim := { program := "ytbbicijmekinkac", sum := "d83a6bbc8e25f7a4bf7698265ef4f40ac9118dada2797051fdaed8f8663af120", func := "loop.example/typesetting/laws.FnExactBalancedHeight", spec := "fnExactBalancedHeight", unfollowed := true, recurses := true, apart := false }
def FnExactBalancedHeightSaid : Prop := fnExactBalancedHeightRow.holds Try.pinned (OpenSpec.ofChange fnExactBalancedHeightSpec)

/-- ITS FALSE NEIGHBOUR: 'it returns false'. Refute it at one input. -/
def fnExactBalancedHeightWrong : ChangeSpec := { name := "fnExactBalancedHeight", fn := fun _ => fun
  | [d1, d2] => { results := [.lit (.bool false)], args := [d1, d2] }
  | _ => none }
def FnExactBalancedHeightWrongFalsely : Prop := fnExactBalancedHeightRow.holds Try.pinned (OpenSpec.ofChange fnExactBalancedHeightWrong)

/-- 'laws.FnExactBalanceColumns': WHATEVER THE INPUT: true; the input reads as it did. -/
def fnExactBalanceColumnsSpec : ChangeSpec := { name := "fnExactBalanceColumns", fn := fun _ => fun
  | [d1, d2] => { results := [.lit (.bool true)], args := [d1, d2] }
  | _ => none }
def fnExactBalanceColumnsRow : OpenClaim := { program := "ytbbicijmekinkac", sum := "d83a6bbc8e25f7a4bf7698265ef4f40ac9118dada2797051fdaed8f8663af120", func := "loop.example/typesetting/laws.FnExactBalanceColumns", spec := "fnExactBalanceColumns", unfollowed := true, recurses := true, apart := false }
def FnExactBalanceColumnsSaid : Prop := fnExactBalanceColumnsRow.holds Try.pinned (OpenSpec.ofChange fnExactBalanceColumnsSpec)

/-- ITS FALSE NEIGHBOUR: 'it returns false'. Refute it at one input. -/
def fnExactBalanceColumnsWrong : ChangeSpec := { name := "fnExactBalanceColumns", fn := fun _ => fun
  | [d1, d2] => { results := [.lit (.bool false)], args := [d1, d2] }
  | _ => none }
def FnExactBalanceColumnsWrongFalsely : Prop := fnExactBalanceColumnsRow.holds Try.pinned (OpenSpec.ofChange fnExactBalanceColumnsWrong)

/- THE SECOND FORM. 'bulk': how many values and letters a reading holds, each counted each time it is reached (what is shared counts as often as it is met; a slice's spare places count too). A statement '..UptoSaid' is the law's where the arguments, and the package variables that the reading takes, are together of bulk at most 1048576: NARROWER than '..Said'. Prove '..Said' where nothing that the law and all that it calls make is longer than what came in: it says more and counts as full. Else prove '..UptoSaid'. A law counts once. -/
mutual
def uptoBulk {H : Type} : DataW H → Nat
  | .lit (.string bytes) => bytes.length + 1
  | .lit _ => 1
  | .nil => 1
  | .ptr d => uptoBulk d + 1
  | .slice elems spare => uptoBulkAll elems + uptoBulkAll spare + 1
  | .agg parts => uptoBulkAll parts + 1
  | .iface _ d => uptoBulk d + 1
  | .map entries => uptoBulkEntries entries + 1
  | .held _ => 1
def uptoBulkAll {H : Type} : List (DataW H) → Nat
  | [] => 0
  | d :: r => uptoBulk d + uptoBulkAll r
def uptoBulkEntries {H : Type} : List (Lit × DataW H) → Nat
  | [] => 0
  | x :: r => uptoBulkEntry x + uptoBulkEntries r
def uptoBulkEntry {H : Type} : Lit × DataW H → Nat
  | (.string bytes, d) => bytes.length + uptoBulk d + 1
  | (_, d) => uptoBulk d + 1
 end
def uptoSmall : (H : Type) → List (DataW H) → Bool := fun _ ds => decide (uptoBulkAll ds ≤ 1048576)
def OpenSpec.upto (s : _root_.Go.ChangeSpec) : _root_.Go.OpenSpec := { _root_.Go.OpenSpec.ofChange s with cond := some uptoSmall }

/-- 'laws.FnExactValidFont', WHERE WHAT IT READS IS OF BULK AT MOST 1048576: true; the input reads as it did. -/
def fnExactValidFontUptoRow : OpenClaim := { program := "ytbbicijmekinkac", sum := "d83a6bbc8e25f7a4bf7698265ef4f40ac9118dada2797051fdaed8f8663af120", func := "loop.example/typesetting/laws.FnExactValidFont", spec := "fnExactValidFont", apart := false, narrowed := true }
def FnExactValidFontUptoSaid : Prop := fnExactValidFontUptoRow.holds Try.pinned (OpenSpec.upto fnExactValidFontSpec)

/-- 'laws.FnExactGlyphsOf', WHERE WHAT IT READS IS OF BULK AT MOST 1048576: true; the input reads as it did. -/
def fnExactGlyphsOfUptoRow : OpenClaim := { program := "ytbbicijmekinkac", sum := "d83a6bbc8e25f7a4bf7698265ef4f40ac9118dada2797051fdaed8f8663af120", func := "loop.example/typesetting/laws.FnExactGlyphsOf", spec := "fnExactGlyphsOf", unfollowed := true, recurses := true, apart := false, narrowed := true }
def FnExactGlyphsOfUptoSaid : Prop := fnExactGlyphsOfUptoRow.holds Try.pinned (OpenSpec.upto fnExactGlyphsOfSpec)

/-- 'laws.FnExactGlyphsWidth', WHERE WHAT IT READS IS OF BULK AT MOST 1048576: true; the input reads as it did. -/
def fnExactGlyphsWidthUptoRow : OpenClaim := { program := "ytbbicijmekinkac", sum := "d83a6bbc8e25f7a4bf7698265ef4f40ac9118dada2797051fdaed8f8663af120", func := "loop.example/typesetting/laws.FnExactGlyphsWidth", spec := "fnExactGlyphsWidth", unfollowed := true, recurses := true, apart := false, narrowed := true }
def FnExactGlyphsWidthUptoSaid : Prop := fnExactGlyphsWidthUptoRow.holds Try.pinned (OpenSpec.upto fnExactGlyphsWidthSpec)

/-- 'laws.FnExactWordWidth', WHERE WHAT IT READS IS OF BULK AT MOST 1048576: true; the input reads as it did. -/
def fnExactWordWidthUptoRow : OpenClaim := { program := "ytbbicijmekinkac", sum := "d83a6bbc8e25f7a4bf7698265ef4f40ac9118dada2797051fdaed8f8663af120", func := "loop.example/typesetting/laws.FnExactWordWidth", spec := "fnExactWordWidth", unfollowed := true, recurses := true, apart := false, narrowed := true }
def FnExactWordWidthUptoSaid : Prop := fnExactWordWidthUptoRow.holds Try.pinned (OpenSpec.upto fnExactWordWidthSpec)

/-- 'laws.FnWidthOfLine', WHERE WHAT IT READS IS OF BULK AT MOST 1048576: true; the input reads as it did. -/
def fnWidthOfLineUptoRow : OpenClaim := { program := "ytbbicijmekinkac", sum := "d83a6bbc8e25f7a4bf7698265ef4f40ac9118dada2797051fdaed8f8663af120", func := "loop.example/typesetting/laws.FnWidthOfLine", spec := "fnWidthOfLine", unfollowed := true, recurses := true, apart := false, narrowed := true }
def FnWidthOfLineUptoSaid : Prop := fnWidthOfLineUptoRow.holds Try.pinned (OpenSpec.upto fnWidthOfLineSpec)

/-- 'laws.FnExactWidthOfLine', WHERE WHAT IT READS IS OF BULK AT MOST 1048576: true; the input reads as it did. -/
def fnExactWidthOfLineUptoRow : OpenClaim := { program := "ytbbicijmekinkac", sum := "d83a6bbc8e25f7a4bf7698265ef4f40ac9118dada2797051fdaed8f8663af120", func := "loop.example/typesetting/laws.FnExactWidthOfLine", spec := "fnExactWidthOfLine", unfollowed := true, recurses := true, apart := false, narrowed := true }
def FnExactWidthOfLineUptoSaid : Prop := fnExactWidthOfLineUptoRow.holds Try.pinned (OpenSpec.upto fnExactWidthOfLineSpec)

/-- 'laws.FnExactColumnsNeeded', WHERE WHAT IT READS IS OF BULK AT MOST 1048576: true; the input reads as it did. -/
def fnExactColumnsNeededUptoRow : OpenClaim := { program := "ytbbicijmekinkac", sum := "d83a6bbc8e25f7a4bf7698265ef4f40ac9118dada2797051fdaed8f8663af120", func := "loop.example/typesetting/laws.FnExactColumnsNeeded", spec := "fnExactColumnsNeeded", unfollowed := true, recurses := true, apart := false, narrowed := true }
def FnExactColumnsNeededUptoSaid : Prop := fnExactColumnsNeededUptoRow.holds Try.pinned (OpenSpec.upto fnExactColumnsNeededSpec)

/-- 'laws.FnColumnsNeeded', WHERE WHAT IT READS IS OF BULK AT MOST 1048576: true; the input reads as it did. -/
def fnColumnsNeededUptoRow : OpenClaim := { program := "ytbbicijmekinkac", sum := "d83a6bbc8e25f7a4bf7698265ef4f40ac9118dada2797051fdaed8f8663af120", func := "loop.example/typesetting/laws.FnColumnsNeeded", spec := "fnColumnsNeeded", unfollowed := true, recurses := true, apart := false, narrowed := true }
def FnColumnsNeededUptoSaid : Prop := fnColumnsNeededUptoRow.holds Try.pinned (OpenSpec.upto fnColumnsNeededSpec)

/-- 'laws.FnExactCheckColumns', WHERE WHAT IT READS IS OF BULK AT MOST 1048576: true; the input reads as it did. -/
def fnExactCheckColumnsUptoRow : OpenClaim := { program := "ytbbicijmekinkac", sum := "d83a6bbc8e25f7a4bf7698265ef4f40ac9118dada2797051fdaed8f8663af120", func := "loop.example/typesetting/laws.FnExactCheckColumns", spec := "fnExactCheckColumns", unfollowed := true, recurses := true, apart := false, narrowed := true }
def FnExactCheckColumnsUptoSaid : Prop := fnExactCheckColumnsUptoRow.holds Try.pinned (OpenSpec.upto fnExactCheckColumnsSpec)

/-- 'laws.FnCheckColumns', WHERE WHAT IT READS IS OF BULK AT MOST 1048576: true; the input reads as it did. -/
def fnCheckColumnsUptoRow : OpenClaim := { program := "ytbbicijmekinkac", sum := "d83a6bbc8e25f7a4bf7698265ef4f40ac9118dada2797051fdaed8f8663af120", func := "loop.example/typesetting/laws.FnCheckColumns", spec := "fnCheckColumns", unfollowed := true, recurses := true, apart := false, narrowed := true }
def FnCheckColumnsUptoSaid : Prop := fnCheckColumnsUptoRow.holds Try.pinned (OpenSpec.upto fnCheckColumnsSpec)

/-- 'laws.FnExactBalancedHeight', WHERE WHAT IT READS IS OF BULK AT MOST 1048576: true; the input reads as it did. -/
def fnExactBalancedHeightUptoRow : OpenClaim := { program := "ytbbicijmekinkac", sum := "d83a6bbc8e25f7a4bf7698265ef4f40ac9118dada2797051fdaed8f8663af120", func := "loop.example/typesetting/laws.FnExactBalancedHeight", spec := "fnExactBalancedHeight", unfollowed := true, recurses := true, apart := false, narrowed := true }
def FnExactBalancedHeightUptoSaid : Prop := fnExactBalancedHeightUptoRow.holds Try.pinned (OpenSpec.upto fnExactBalancedHeightSpec)

/-- 'laws.FnExactBalanceColumns', WHERE WHAT IT READS IS OF BULK AT MOST 1048576: true; the input reads as it did. -/
def fnExactBalanceColumnsUptoRow : OpenClaim := { program := "ytbbicijmekinkac", sum := "d83a6bbc8e25f7a4bf7698265ef4f40ac9118dada2797051fdaed8f8663af120", func := "loop.example/typesetting/laws.FnExactBalanceColumns", spec := "fnExactBalanceColumns", unfollowed := true, recurses := true, apart := false, narrowed := true }
def FnExactBalanceColumnsUptoSaid : Prop := fnExactBalanceColumnsUptoRow.holds Try.pinned (OpenSpec.upto fnExactBalanceColumnsSpec)

end Rows
end Go.Proofs.Ytbbicijmekinkac
